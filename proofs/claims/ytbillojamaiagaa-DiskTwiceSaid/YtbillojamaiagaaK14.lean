/-
  Layer 3: what the law does to both.
-/
import Derived.Test.YtbillojamaiagaaK13
namespace Go.Proofs.Ytbillojamaiagaa
open Go.ChangeShapes Go.WideShapes Go.ChangeAt Go.RowKit By Reg
set_option linter.unusedVariables false

structure Op3 where
  k : Nat
  n : Int
  v : Value
abbrev opv (o : Op3) : Value := .agg #[.int .u64 o.k, .int .i64 o.n, o.v]
abbrev opcs (o : Op3) : List Value := [.int .u64 o.k, .int .i64 o.n, o.v]

/-- both disks, apart -/
structure Both (w : World) (m : Mem) (r : Rm) (D E : Dk) : Prop where
  kk : HeldK w m D
  rr : HeldR w r E
  off : ROff m r
  oke : E.Ok

structure Three (w w' : World) (x o y : List Value) : Prop where
  x : Blk w' w.heap.size 27 x
  o : Blk w' (w.heap.size + 1) 34 o
  y : Blk w' (w.heap.size + 1 + 1) 27 y
theorem Three.rb {w w1 w2 : World} {x o y : List Value} (h : Three w w1 x o y) (hb : Rb w1 w2) : Three w w2 x o y := ⟨h.x.rb hb, h.o.rb hb, h.y.rb hb⟩
theorem Three.kp {w w1 w2 : World} {x o y : List Value} {m : Mem} (h : Three w w1 x o y) (hk : Kp m w1 w2) (hm : ∀ k, m.touch k → k < w.heap.size) : Three w w2 x o y :=
  ⟨h.x.same (hk.block _ h.x.lt fun e => by have := hm _ e; omega), h.o.same (hk.block _ h.o.lt fun e => by have := hm _ e; omega), h.y.same (hk.block _ h.y.lt fun e => by have := hm _ e; omega)⟩
theorem Three.storeX {w w1 w2 : World} {x x' o y : List Value} (h : Three w w1 x o y) (hb : Blk w2 w.heap.size 27 x') (hw : Wrote w.heap.size w1 w2) : Three w w2 x' o y :=
  ⟨hb, h.o.same (hw.block _ (by omega)), h.y.same (hw.block _ (by omega))⟩
structure Cells3 (w : World) (b : Nat) (a0 a1 a2 : Value) : Prop where
  e0 : w.cell? ⟨b, 0, none⟩ = some a0
  e1 : w.cell? ⟨b, 1, none⟩ = some a1
  e2 : w.cell? ⟨b, 2, none⟩ = some a2
theorem Blk.cells3 {w : World} {b : Nat} {T : TypeId} {a0 a1 a2 : Value} (h : Blk w b T [a0, a1, a2]) : Cells3 w b a0 a1 a2 := ⟨h.cell 0, h.cell 1, h.cell 2⟩
def threeW (w : World) (x o y : List Value) : World := ((w.alloc (.cells x.toArray 27)).alloc (.cells o.toArray 34)).alloc (.cells y.toArray 27)
theorem Three.start (w : World) (x o y : List Value) : Three w (threeW w x o y) x o y ∧ Rb w (threeW w x o y) ∧ (threeW w x o y).heap.size = w.heap.size + 3 := by
  have b1 := (((Blk.new w 27 x).same (heap_alloc_old _ (.cells o.toArray 34) (by simp))).same (heap_alloc_old _ (.cells y.toArray 27) (by simp; omega)))
  have b2 := Blk.new (w.alloc (.cells x.toArray 27)) 34 o
  rw [show (w.alloc (.cells x.toArray 27)).heap.size = w.heap.size + 1 by simp] at b2
  have b2' := b2.same (heap_alloc_old _ (.cells y.toArray 27) (by simp))
  have b3 := Blk.new ((w.alloc (.cells x.toArray 27)).alloc (.cells o.toArray 34)) 27 y
  rw [show ((w.alloc (.cells x.toArray 27)).alloc (.cells o.toArray 34)).heap.size = w.heap.size + 2 by simp] at b3
  exact ⟨⟨b1, b2', b3⟩, (((Below.refl _ _).alloc (Nat.le_refl _) _).alloc (by simp) _).alloc (by simp; omega) _, by simp [threeW]⟩

/-- what is left behind one step of both -/
def DoPost (w : World) (m : Mem) (r : Rm) (D E : Dk) (t : Bool) (e : Ending) (w' : World) : Prop :=
  ∃ m' r', e = .returned (.tuple #[refv E r', .bool t]) ∧ Both w' m' r' D E ∧ New w m m' ∧ Kp m w w' ∧ ∀ k, m'.has k ∨ r'.has k → (m.has k ∨ r.has k) ∨ w.heap.size ≤ k

theorem do_fin {w wt w1 w2 w4 : World} {m m' : Mem} {r r' : Rm} {D D' E E' : Dk} (h : Both w m r D E) (hb : Rb w wt) (hs : wt.heap.size = w.heap.size + 3)
    (hk : HeldK w1 m' D') (hn : New wt m m') (hp : Kp m wt w1) (hh : ∀ k, m'.has k → m.has k ∨ wt.heap.size ≤ k)
    (t : Bool) (hoe : E'.Ok) (hr : HeldR w2 r' E') (hb2 : Rb w1 w2) (hrr : ∀ k, r'.has k → r.has k ∨ w1.heap.size ≤ k)
    (os : w4.os = w2.os) (tp : w4.tape = w2.tape) (ou : w4.output = w2.output) (sz : w4.heap.size = w2.heap.size) (bl : ∀ k, k < w.heap.size ∨ w.heap.size + 3 ≤ k → w4.heap[k]? = w2.heap[k]?) :
    DoPost w m r D' E' t (.returned (.tuple #[refv E' r', .bool t])) w4 := by
  have hrl : ∀ k, r.has k → k < w.heap.size := fun k hk => hk.elim (h.rr.n.lt k) (h.rr.s.lt k)
  have hp1 := hp.size
  have hp2 := hb2.size
  have hoff : ∀ k, r'.has k → ¬ m'.touch k := fun k hk' ht => by
    rcases hrr k hk' with h1 | h1
    · rcases hn.touch ht with h2 | h2
      · exact h1.elim (fun e => h.off.1 k e h2) (fun e => h.off.2 k e h2)
      · have := hrl k h1; omega
    · have := hk.lt k (.inl ht); omega
  have hfar : ∀ k, m'.has k → k < w.heap.size ∨ w.heap.size + 3 ≤ k := fun k hk => by
    rcases hh k hk with h1 | h1
    · exact .inl (h.kk.lt k h1)
    · exact .inr (by omega)
  have hfar2 : ∀ k, r'.has k → k < w.heap.size ∨ w.heap.size + 3 ≤ k := fun k hk => by
    rcases hrr k hk with h1 | h1
    · exact .inl (hrl k h1)
    · exact .inr (by omega)
  refine ⟨m', r', rfl, ⟨(hk.rb hb2).same (by omega) fun k hk => bl k (hfar k hk), ⟨hr.n.same fun k hk => bl k (hfar2 k (.inl hk)), hr.s.same fun k hk => bl k (hfar2 k (.inr hk))⟩, ⟨fun k e => hoff k (.inl e), fun k e => hoff k (.inr e)⟩, hoe⟩, (New.refl w m).trans hb.size hn, ?_, fun k hk' => ?_⟩
  rotate_left
  · rcases hk' with hk' | hk'
    · rcases hh k hk' with h1 | h1
      · exact .inl (.inl h1)
      · exact .inr (by omega)
    · rcases hrr k hk' with h1 | h1
      · exact .inl (.inr h1)
      · exact .inr (by omega)
  have K := (Kp.of_rb (m := m) hb).trans (New.refl w m) hp
  have K2 := K.rb hb2
  refine ⟨os.trans K2.os, tp.trans K2.tape, ou.trans K2.output, by rw [sz]; exact K2.size, fun k hk ht => by rw [bl k (.inl hk), K2.block k hk ht]⟩

theorem Bs.kp {w w' : World} {v : Value} {xs : List UInt8} {m : Mem} (h : Bs w v xs) (hk : Kp m w w') (ho : 0 < xs.length → VOff m v) : Bs w' v xs := by
  by_cases h0 : 0 < xs.length
  · exact Bs.same h fun k hk' => hk.block k (Bs.lt h h0 k hk') (ho h0 k hk')
  · obtain rfl : xs = [] := List.eq_nil_of_length_eq_zero (by omega)
    obtain ⟨ao, cap, rfl, h2, h3, h4, h5⟩ := h
    exact ⟨ao, cap, rfl, h2, h3, h4, fun ad ha j u hu => by simp at hu⟩

set_option maxRecDepth 100000 in
set_option maxHeartbeats 400000 in
theorem do_sync (m : Mem) (r : Rm) (D E : Dk) (o : Op3) (w : World) (h : Both w m r D E) (hq : (o.k : Int) % 7 = 3) :
    Calls Try.prog 12 #[.pointer (some ⟨m.b, 0, none⟩), refv E r, opv o] w (DoPost w m r (D.sync) (E.sync) true) := by
  have H := Lib.hid h
  have OK := Lib.hid h.oke
  have HM := Lib.hid (fun k (hk : m.touch k) => h.kk.lt k (.inl hk))
  obtain ⟨T, hb, hs⟩ := Three.start w (refcs E r) (opcs o) zero5
  clear h
  go_enter Try.func12, Try.ntmps12
  go_wp2_with fail
  change Calls _ _ _ (threeW w (refcs E r) (opcs o) zero5) _
  generalize threeW w (refcs E r) (opcs o) zero5 = wt at *
  have HT := Lib.hid T
  have HB := Lib.hid hb
  have HS := Lib.hid hs
  clear T hb hs
  refine (sync_any m D wt (H.out.kk.rb HB.out)).mono ?_
  rintro e w1 ⟨rfl, m', hk, hn, hp, hh⟩
  have T1 := HT.out.kp hp HM.out
  have HR1 : HeldR w1 r E := (H.out.rr.rb HB.out).kp hp H.out.off
  have HK := Lib.hid hk
  have HN := Lib.hid hn
  have HP := Lib.hid hp
  have HH := Lib.hid hh
  clear hk hn hp hh
  have HT1 := Lib.hid T1
  have HX := Lib.hid HR1
  obtain ⟨y0, y1, y2, y3, y4⟩ := T1.x.cells5
  obtain ⟨o0, o1, o2⟩ := T1.o.cells3
  clear T1 HR1
  go_wp2_with fail
  refine (rsync_any E r w1 HX.out OK.out).mono ?_
  rintro e w2 ⟨r', rfl, hr2, hb2, hrr⟩
  have HT2 := Lib.hid (HT1.out.rb hb2)
  have H5 := Lib.hid (five_one (n := E.room) (a := str (E.sync).sure) (b := str (E.sync).rest) hr2.n.one.2 hr2.s.one.2)
  have F := Lib.hid (fun w4 => do_fin (w4 := w4) H.out HB.out HS.out HK.out HN.out HP.out HH.out true (Dk.sync_ok OK.out) hr2 hb2 hrr)
  clear y0 y1 y2 y3 y4 o0 o1 o2 hr2 hb2 hrr
  go_wp2_with (refine wpList_store rfl 27 _ _ rfl w.heap.size 0 _ _ [_, _, _, _, _] _ rfl rfl HT2.out.x rfl sizeref (by simp) H5.out ?_)
  intro w3 hb3 hw3
  have HT3 := Lib.hid (HT2.out.storeX hb3 hw3)
  have HW3 := Lib.hid hw3
  obtain ⟨y0, y1, y2, y3, y4⟩ := HT3.out.x.cells5
  clear hb3 hw3
  go_wp2_with (refine wpList_store rfl 27 _ _ rfl (w.heap.size + 1 + 1) 0 _ _ [_, _, _, _, _] _ rfl rfl HT3.out.y rfl sizeref (by simp) H5.out ?_)
  intro w4 hb4 hw4
  have hw3 := HW3.out
  obtain ⟨x0, x1, x2, x3, x4⟩ := Blk.cells5 hb4
  have FF := Lib.hid (F.out w4 (hw4.os.trans hw3.os) (hw4.tape.trans hw3.tape) (hw4.output.trans hw3.output) (hw4.size.trans hw3.size) (fun k hk => (hw4.block k (by omega)).trans (hw3.block k (by omega))))
  clear hb4 hw4 hw3 y0 y1 y2 y3 y4
  go_wp2
  exact bodyPost_ret (v := .tuple #[refv (E.sync) r', .bool true]) (by simp [results, Try.results12, go_sem, x0, x1, x2, x3, x4]) rfl FF.out

set_option maxRecDepth 100000 in
set_option maxHeartbeats 400000 in
theorem do_crash (m : Mem) (r : Rm) (D E : Dk) (o : Op3) (w : World) (h : Both w m r D E) (hq : (o.k : Int) % 7 = 4) :
    Calls Try.prog 12 #[.pointer (some ⟨m.b, 0, none⟩), refv E r, opv o] w (DoPost w m r (D.crash o.n.toNat) (E.crash o.n.toNat) true) := by
  have H := Lib.hid h
  have OK := Lib.hid h.oke
  have HM := Lib.hid (fun k (hk : m.touch k) => h.kk.lt k (.inl hk))
  obtain ⟨T, hb, hs⟩ := Three.start w (refcs E r) (opcs o) zero5
  clear h
  go_enter Try.func12, Try.ntmps12
  go_wp2_with fail
  change Calls _ _ _ (threeW w (refcs E r) (opcs o) zero5) _
  generalize threeW w (refcs E r) (opcs o) zero5 = wt at *
  have HT := Lib.hid T
  have HB := Lib.hid hb
  have HS := Lib.hid hs
  clear T hb hs
  refine (crash_any m D wt o.n (H.out.kk.rb HB.out)).mono ?_
  rintro e w1 ⟨rfl, m', hk, hn, hp, hh⟩
  have T1 := HT.out.kp hp HM.out
  have HR1 : HeldR w1 r E := (H.out.rr.rb HB.out).kp hp H.out.off
  have HK := Lib.hid hk
  have HN := Lib.hid hn
  have HP := Lib.hid hp
  have HH := Lib.hid hh
  clear hk hn hp hh
  have HT1 := Lib.hid T1
  have HX := Lib.hid HR1
  obtain ⟨y0, y1, y2, y3, y4⟩ := T1.x.cells5
  obtain ⟨o0, o1, o2⟩ := T1.o.cells3
  clear T1 HR1
  go_wp2_with fail
  refine (rcrash_any E r o.n w1 HX.out OK.out).mono ?_
  rintro e w2 ⟨r', rfl, hr2, hb2, hrr⟩
  have HT2 := Lib.hid (HT1.out.rb hb2)
  have H5 := Lib.hid (five_one (n := E.room) (a := str (E.crash o.n.toNat).sure) (b := str (E.crash o.n.toNat).rest) hr2.n.one.2 hr2.s.one.2)
  have F := Lib.hid (fun w4 => do_fin (w4 := w4) H.out HB.out HS.out HK.out HN.out HP.out HH.out true (Dk.crash_ok OK.out _) hr2 hb2 hrr)
  clear y0 y1 y2 y3 y4 o0 o1 o2 hr2 hb2 hrr
  go_wp2_with (refine wpList_store rfl 27 _ _ rfl w.heap.size 0 _ _ [_, _, _, _, _] _ rfl rfl HT2.out.x rfl sizeref (by simp) H5.out ?_)
  intro w3 hb3 hw3
  have HT3 := Lib.hid (HT2.out.storeX hb3 hw3)
  have HW3 := Lib.hid hw3
  obtain ⟨y0, y1, y2, y3, y4⟩ := HT3.out.x.cells5
  clear hb3 hw3
  go_wp2_with (refine wpList_store rfl 27 _ _ rfl (w.heap.size + 1 + 1) 0 _ _ [_, _, _, _, _] _ rfl rfl HT3.out.y rfl sizeref (by simp) H5.out ?_)
  intro w4 hb4 hw4
  have hw3 := HW3.out
  obtain ⟨x0, x1, x2, x3, x4⟩ := Blk.cells5 hb4
  have FF := Lib.hid (F.out w4 (hw4.os.trans hw3.os) (hw4.tape.trans hw3.tape) (hw4.output.trans hw3.output) (hw4.size.trans hw3.size) (fun k hk => (hw4.block k (by omega)).trans (hw3.block k (by omega))))
  clear hb4 hw4 hw3 y0 y1 y2 y3 y4
  go_wp2
  exact bodyPost_ret (v := .tuple #[refv (E.crash o.n.toNat) r', .bool true]) (by simp [results, Try.results12, go_sem, x0, x1, x2, x3, x4]) rfl FF.out

set_option maxRecDepth 100000 in
set_option maxHeartbeats 400000 in
theorem do_append00_0 (m : Mem) (r : Rm) (D E : Dk) (o : Op3) (xs : List UInt8) (w : World) (h : Both w m r D E) (hq : (o.k : Int) % 7 = 0) (hv : Bs w o.v xs) (hvo : 0 < xs.length → VOff m o.v) (hl : xs.length ≤ 200) (hf : D.log.length + xs.length ≤ D.room) (hg : E.log.length + xs.length ≤ E.room) :
    Calls Try.prog 12 #[.pointer (some ⟨m.b, 0, none⟩), refv E r, opv o] w (DoPost w m r (D.append xs) (E.append xs) true) := by
  have H := Lib.hid h
  have OK := Lib.hid h.oke
  have HM := Lib.hid (fun k (hk : m.touch k) => h.kk.lt k (.inl hk))
  obtain ⟨T, hb, hs⟩ := Three.start w (refcs E r) (opcs o) zero5
  have HV := Lib.hid hv
  have HVO := Lib.hid hvo
  have HL := Lib.hid hl
  clear hv hvo hl
  have HF := Lib.hid hf
  have HG := Lib.hid hg
  clear hf hg
  clear h
  go_enter Try.func12, Try.ntmps12
  go_wp2_with fail
  change Calls _ _ _ (threeW w (refcs E r) (opcs o) zero5) _
  generalize threeW w (refcs E r) (opcs o) zero5 = wt at *
  have HT := Lib.hid T
  have HB := Lib.hid hb
  have HS := Lib.hid hs
  clear T hb hs
  refine (append_fits m D wt o.v xs (H.out.kk.rb HB.out) (HV.out.below HB.out) HF.out).mono ?_
  rintro e w1 ⟨rfl, m', hk, hn, hp, hh⟩
  have BV1 := Lib.hid (Bs.kp (HV.out.below HB.out) hp HVO.out)
  have T1 := HT.out.kp hp HM.out
  have HR1 : HeldR w1 r E := (H.out.rr.rb HB.out).kp hp H.out.off
  have HK := Lib.hid hk
  have HN := Lib.hid hn
  have HP := Lib.hid hp
  have HH := Lib.hid hh
  clear hk hn hp hh
  have HT1 := Lib.hid T1
  have HX := Lib.hid HR1
  obtain ⟨y0, y1, y2, y3, y4⟩ := T1.x.cells5
  obtain ⟨o0, o1, o2⟩ := T1.o.cells3
  clear T1 HR1
  have hcv : (convert 32 9 o.v).run Try.prog w1 = .ok (.string (str xs)) w1 := run_convert_Bs BV1.out 32 5 9 Try.underlying32 Try.underlying5 Try.underlying9
  go_wp2_with fail
  refine (rappend_0 E r xs w1 HX.out OK.out (by have := HL.out; omega) HG.out).mono ?_
  rintro e w2 ⟨r', rfl, hr2, hb2, hrr⟩
  have HT2 := Lib.hid (HT1.out.rb hb2)
  have H5 := Lib.hid (five_one (n := E.room) (a := str (E.append xs).sure) (b := str (E.append xs).rest) hr2.n.one.2 hr2.s.one.2)
  have F := Lib.hid (fun w4 => do_fin (w4 := w4) H.out HB.out HS.out HK.out HN.out HP.out HH.out true (Dk.append_ok OK.out HG.out) hr2 hb2 hrr)
  clear y0 y1 y2 y3 y4 o0 o1 o2 hr2 hb2 hrr
  clear hcv
  go_wp2_with (refine wpList_store rfl 27 _ _ rfl w.heap.size 0 _ _ [_, _, _, _, _] _ rfl rfl HT2.out.x rfl sizeref (by simp) H5.out ?_)
  intro w3 hb3 hw3
  have HT3 := Lib.hid (HT2.out.storeX hb3 hw3)
  have HW3 := Lib.hid hw3
  obtain ⟨y0, y1, y2, y3, y4⟩ := HT3.out.x.cells5
  clear hb3 hw3
  go_wp2_with (refine wpList_store rfl 27 _ _ rfl (w.heap.size + 1 + 1) 0 _ _ [_, _, _, _, _] _ rfl rfl HT3.out.y rfl sizeref (by simp) H5.out ?_)
  intro w4 hb4 hw4
  have hw3 := HW3.out
  obtain ⟨x0, x1, x2, x3, x4⟩ := Blk.cells5 hb4
  have FF := Lib.hid (F.out w4 (hw4.os.trans hw3.os) (hw4.tape.trans hw3.tape) (hw4.output.trans hw3.output) (hw4.size.trans hw3.size) (fun k hk => (hw4.block k (by omega)).trans (hw3.block k (by omega))))
  clear hb4 hw4 hw3 y0 y1 y2 y3 y4
  go_wp2
  exact bodyPost_ret (v := .tuple #[refv (E.append xs) r', .bool true]) (by simp [results, Try.results12, go_sem, x0, x1, x2, x3, x4]) rfl FF.out

set_option maxRecDepth 100000 in
set_option maxHeartbeats 400000 in
theorem do_append04_0 (m : Mem) (r : Rm) (D E : Dk) (o : Op3) (xs : List UInt8) (w : World) (h : Both w m r D E) (hq : (o.k : Int) % 7 = 0) (hv : Bs w o.v xs) (hvo : 0 < xs.length → VOff m o.v) (hl : xs.length ≤ 200) (hf : D.log.length + xs.length ≤ D.room) (hg : E.room < E.log.length + xs.length) :
    Calls Try.prog 12 #[.pointer (some ⟨m.b, 0, none⟩), refv E r, opv o] w (DoPost w m r (D.append xs) (E) false) := by
  have H := Lib.hid h
  have OK := Lib.hid h.oke
  have HM := Lib.hid (fun k (hk : m.touch k) => h.kk.lt k (.inl hk))
  obtain ⟨T, hb, hs⟩ := Three.start w (refcs E r) (opcs o) zero5
  have HV := Lib.hid hv
  have HVO := Lib.hid hvo
  have HL := Lib.hid hl
  clear hv hvo hl
  have HF := Lib.hid hf
  have HG := Lib.hid hg
  clear hf hg
  clear h
  go_enter Try.func12, Try.ntmps12
  go_wp2_with fail
  change Calls _ _ _ (threeW w (refcs E r) (opcs o) zero5) _
  generalize threeW w (refcs E r) (opcs o) zero5 = wt at *
  have HT := Lib.hid T
  have HB := Lib.hid hb
  have HS := Lib.hid hs
  clear T hb hs
  refine (append_fits m D wt o.v xs (H.out.kk.rb HB.out) (HV.out.below HB.out) HF.out).mono ?_
  rintro e w1 ⟨rfl, m', hk, hn, hp, hh⟩
  have BV1 := Lib.hid (Bs.kp (HV.out.below HB.out) hp HVO.out)
  have T1 := HT.out.kp hp HM.out
  have HR1 : HeldR w1 r E := (H.out.rr.rb HB.out).kp hp H.out.off
  have HK := Lib.hid hk
  have HN := Lib.hid hn
  have HP := Lib.hid hp
  have HH := Lib.hid hh
  clear hk hn hp hh
  have HT1 := Lib.hid T1
  have HX := Lib.hid HR1
  obtain ⟨y0, y1, y2, y3, y4⟩ := T1.x.cells5
  obtain ⟨o0, o1, o2⟩ := T1.o.cells3
  clear T1 HR1
  have hcv : (convert 32 9 o.v).run Try.prog w1 = .ok (.string (str xs)) w1 := run_convert_Bs BV1.out 32 5 9 Try.underlying32 Try.underlying5 Try.underlying9
  go_wp2_with fail
  refine (rappend_4 E r xs w1 HX.out OK.out (by have := HL.out; omega) HG.out).mono ?_
  rintro e w2 ⟨r', rfl, hr2, hb2, hrr⟩
  have HT2 := Lib.hid (HT1.out.rb hb2)
  have H5 := Lib.hid (five_one (n := E.room) (a := str (E).sure) (b := str (E).rest) hr2.n.one.2 hr2.s.one.2)
  have F := Lib.hid (fun w4 => do_fin (w4 := w4) H.out HB.out HS.out HK.out HN.out HP.out HH.out false (OK.out) hr2 hb2 hrr)
  clear y0 y1 y2 y3 y4 o0 o1 o2 hr2 hb2 hrr
  clear hcv
  go_wp2_with (refine wpList_store rfl 27 _ _ rfl w.heap.size 0 _ _ [_, _, _, _, _] _ rfl rfl HT2.out.x rfl sizeref (by simp) H5.out ?_)
  intro w3 hb3 hw3
  have HT3 := Lib.hid (HT2.out.storeX hb3 hw3)
  have HW3 := Lib.hid hw3
  obtain ⟨y0, y1, y2, y3, y4⟩ := HT3.out.x.cells5
  clear hb3 hw3
  go_wp2_with (refine wpList_store rfl 27 _ _ rfl (w.heap.size + 1 + 1) 0 _ _ [_, _, _, _, _] _ rfl rfl HT3.out.y rfl sizeref (by simp) H5.out ?_)
  intro w4 hb4 hw4
  have hw3 := HW3.out
  obtain ⟨x0, x1, x2, x3, x4⟩ := Blk.cells5 hb4
  have FF := Lib.hid (F.out w4 (hw4.os.trans hw3.os) (hw4.tape.trans hw3.tape) (hw4.output.trans hw3.output) (hw4.size.trans hw3.size) (fun k hk => (hw4.block k (by omega)).trans (hw3.block k (by omega))))
  clear hb4 hw4 hw3 y0 y1 y2 y3 y4
  go_wp2
  exact bodyPost_ret (v := .tuple #[refv (E) r', .bool false]) (by simp [results, Try.results12, go_sem, x0, x1, x2, x3, x4]) rfl FF.out

set_option maxRecDepth 100000 in
set_option maxHeartbeats 400000 in
theorem do_append40_0 (m : Mem) (r : Rm) (D E : Dk) (o : Op3) (xs : List UInt8) (w : World) (h : Both w m r D E) (hq : (o.k : Int) % 7 = 0) (hv : Bs w o.v xs) (hvo : 0 < xs.length → VOff m o.v) (hl : xs.length ≤ 200) (hf : D.room < D.log.length + xs.length) (hg : E.log.length + xs.length ≤ E.room) :
    Calls Try.prog 12 #[.pointer (some ⟨m.b, 0, none⟩), refv E r, opv o] w (DoPost w m r (D) (E.append xs) false) := by
  have H := Lib.hid h
  have OK := Lib.hid h.oke
  have HM := Lib.hid (fun k (hk : m.touch k) => h.kk.lt k (.inl hk))
  obtain ⟨T, hb, hs⟩ := Three.start w (refcs E r) (opcs o) zero5
  have HV := Lib.hid hv
  have HVO := Lib.hid hvo
  have HL := Lib.hid hl
  clear hv hvo hl
  have HF := Lib.hid hf
  have HG := Lib.hid hg
  clear hf hg
  clear h
  go_enter Try.func12, Try.ntmps12
  go_wp2_with fail
  change Calls _ _ _ (threeW w (refcs E r) (opcs o) zero5) _
  generalize threeW w (refcs E r) (opcs o) zero5 = wt at *
  have HT := Lib.hid T
  have HB := Lib.hid hb
  have HS := Lib.hid hs
  clear T hb hs
  refine (append_full m D wt o.v xs (H.out.kk.rb HB.out) (HV.out.below HB.out) HF.out).mono ?_
  rintro e w1 ⟨rfl, hr⟩
  have BV1 := Lib.hid ((HV.out.below HB.out).below hr)
  have T1 := HT.out.rb hr
  have HR1 : HeldR w1 r E := (H.out.rr.rb HB.out).rb hr
  have HK := Lib.hid ((H.out.kk.rb HB.out).rb hr)
  have HN := Lib.hid (New.refl wt m)
  have HP := Lib.hid (Kp.of_rb (m := m) hr)
  have HH := Lib.hid (fun k (hk : m.has k) => (.inl hk : m.has k ∨ wt.heap.size ≤ k))
  clear hr
  have HT1 := Lib.hid T1
  have HX := Lib.hid HR1
  obtain ⟨y0, y1, y2, y3, y4⟩ := T1.x.cells5
  obtain ⟨o0, o1, o2⟩ := T1.o.cells3
  clear T1 HR1
  have hcv : (convert 32 9 o.v).run Try.prog w1 = .ok (.string (str xs)) w1 := run_convert_Bs BV1.out 32 5 9 Try.underlying32 Try.underlying5 Try.underlying9
  go_wp2_with fail
  refine (rappend_0 E r xs w1 HX.out OK.out (by have := HL.out; omega) HG.out).mono ?_
  rintro e w2 ⟨r', rfl, hr2, hb2, hrr⟩
  have HT2 := Lib.hid (HT1.out.rb hb2)
  have H5 := Lib.hid (five_one (n := E.room) (a := str (E.append xs).sure) (b := str (E.append xs).rest) hr2.n.one.2 hr2.s.one.2)
  have F := Lib.hid (fun w4 => do_fin (w4 := w4) H.out HB.out HS.out HK.out HN.out HP.out HH.out false (Dk.append_ok OK.out HG.out) hr2 hb2 hrr)
  clear y0 y1 y2 y3 y4 o0 o1 o2 hr2 hb2 hrr
  clear hcv
  go_wp2_with (refine wpList_store rfl 27 _ _ rfl w.heap.size 0 _ _ [_, _, _, _, _] _ rfl rfl HT2.out.x rfl sizeref (by simp) H5.out ?_)
  intro w3 hb3 hw3
  have HT3 := Lib.hid (HT2.out.storeX hb3 hw3)
  have HW3 := Lib.hid hw3
  obtain ⟨y0, y1, y2, y3, y4⟩ := HT3.out.x.cells5
  clear hb3 hw3
  go_wp2_with (refine wpList_store rfl 27 _ _ rfl (w.heap.size + 1 + 1) 0 _ _ [_, _, _, _, _] _ rfl rfl HT3.out.y rfl sizeref (by simp) H5.out ?_)
  intro w4 hb4 hw4
  have hw3 := HW3.out
  obtain ⟨x0, x1, x2, x3, x4⟩ := Blk.cells5 hb4
  have FF := Lib.hid (F.out w4 (hw4.os.trans hw3.os) (hw4.tape.trans hw3.tape) (hw4.output.trans hw3.output) (hw4.size.trans hw3.size) (fun k hk => (hw4.block k (by omega)).trans (hw3.block k (by omega))))
  clear hb4 hw4 hw3 y0 y1 y2 y3 y4
  go_wp2
  exact bodyPost_ret (v := .tuple #[refv (E.append xs) r', .bool false]) (by simp [results, Try.results12, go_sem, x0, x1, x2, x3, x4]) rfl FF.out

set_option maxRecDepth 100000 in
set_option maxHeartbeats 400000 in
theorem do_append44_0 (m : Mem) (r : Rm) (D E : Dk) (o : Op3) (xs : List UInt8) (w : World) (h : Both w m r D E) (hq : (o.k : Int) % 7 = 0) (hv : Bs w o.v xs) (hvo : 0 < xs.length → VOff m o.v) (hl : xs.length ≤ 200) (hf : D.room < D.log.length + xs.length) (hg : E.room < E.log.length + xs.length) :
    Calls Try.prog 12 #[.pointer (some ⟨m.b, 0, none⟩), refv E r, opv o] w (DoPost w m r (D) (E) true) := by
  have H := Lib.hid h
  have OK := Lib.hid h.oke
  have HM := Lib.hid (fun k (hk : m.touch k) => h.kk.lt k (.inl hk))
  obtain ⟨T, hb, hs⟩ := Three.start w (refcs E r) (opcs o) zero5
  have HV := Lib.hid hv
  have HVO := Lib.hid hvo
  have HL := Lib.hid hl
  clear hv hvo hl
  have HF := Lib.hid hf
  have HG := Lib.hid hg
  clear hf hg
  clear h
  go_enter Try.func12, Try.ntmps12
  go_wp2_with fail
  change Calls _ _ _ (threeW w (refcs E r) (opcs o) zero5) _
  generalize threeW w (refcs E r) (opcs o) zero5 = wt at *
  have HT := Lib.hid T
  have HB := Lib.hid hb
  have HS := Lib.hid hs
  clear T hb hs
  refine (append_full m D wt o.v xs (H.out.kk.rb HB.out) (HV.out.below HB.out) HF.out).mono ?_
  rintro e w1 ⟨rfl, hr⟩
  have BV1 := Lib.hid ((HV.out.below HB.out).below hr)
  have T1 := HT.out.rb hr
  have HR1 : HeldR w1 r E := (H.out.rr.rb HB.out).rb hr
  have HK := Lib.hid ((H.out.kk.rb HB.out).rb hr)
  have HN := Lib.hid (New.refl wt m)
  have HP := Lib.hid (Kp.of_rb (m := m) hr)
  have HH := Lib.hid (fun k (hk : m.has k) => (.inl hk : m.has k ∨ wt.heap.size ≤ k))
  clear hr
  have HT1 := Lib.hid T1
  have HX := Lib.hid HR1
  obtain ⟨y0, y1, y2, y3, y4⟩ := T1.x.cells5
  obtain ⟨o0, o1, o2⟩ := T1.o.cells3
  clear T1 HR1
  have hcv : (convert 32 9 o.v).run Try.prog w1 = .ok (.string (str xs)) w1 := run_convert_Bs BV1.out 32 5 9 Try.underlying32 Try.underlying5 Try.underlying9
  go_wp2_with fail
  refine (rappend_4 E r xs w1 HX.out OK.out (by have := HL.out; omega) HG.out).mono ?_
  rintro e w2 ⟨r', rfl, hr2, hb2, hrr⟩
  have HT2 := Lib.hid (HT1.out.rb hb2)
  have H5 := Lib.hid (five_one (n := E.room) (a := str (E).sure) (b := str (E).rest) hr2.n.one.2 hr2.s.one.2)
  have F := Lib.hid (fun w4 => do_fin (w4 := w4) H.out HB.out HS.out HK.out HN.out HP.out HH.out true (OK.out) hr2 hb2 hrr)
  clear y0 y1 y2 y3 y4 o0 o1 o2 hr2 hb2 hrr
  clear hcv
  go_wp2_with (refine wpList_store rfl 27 _ _ rfl w.heap.size 0 _ _ [_, _, _, _, _] _ rfl rfl HT2.out.x rfl sizeref (by simp) H5.out ?_)
  intro w3 hb3 hw3
  have HT3 := Lib.hid (HT2.out.storeX hb3 hw3)
  have HW3 := Lib.hid hw3
  obtain ⟨y0, y1, y2, y3, y4⟩ := HT3.out.x.cells5
  clear hb3 hw3
  go_wp2_with (refine wpList_store rfl 27 _ _ rfl (w.heap.size + 1 + 1) 0 _ _ [_, _, _, _, _] _ rfl rfl HT3.out.y rfl sizeref (by simp) H5.out ?_)
  intro w4 hb4 hw4
  have hw3 := HW3.out
  obtain ⟨x0, x1, x2, x3, x4⟩ := Blk.cells5 hb4
  have FF := Lib.hid (F.out w4 (hw4.os.trans hw3.os) (hw4.tape.trans hw3.tape) (hw4.output.trans hw3.output) (hw4.size.trans hw3.size) (fun k hk => (hw4.block k (by omega)).trans (hw3.block k (by omega))))
  clear hb4 hw4 hw3 y0 y1 y2 y3 y4
  go_wp2
  exact bodyPost_ret (v := .tuple #[refv (E) r', .bool true]) (by simp [results, Try.results12, go_sem, x0, x1, x2, x3, x4]) rfl FF.out

set_option maxRecDepth 100000 in
set_option maxHeartbeats 400000 in
theorem do_append00_1 (m : Mem) (r : Rm) (D E : Dk) (o : Op3) (xs : List UInt8) (w : World) (h : Both w m r D E) (hq : (o.k : Int) % 7 = 1) (hv : Bs w o.v xs) (hvo : 0 < xs.length → VOff m o.v) (hl : xs.length ≤ 200) (hf : D.log.length + xs.length ≤ D.room) (hg : E.log.length + xs.length ≤ E.room) :
    Calls Try.prog 12 #[.pointer (some ⟨m.b, 0, none⟩), refv E r, opv o] w (DoPost w m r (D.append xs) (E.append xs) true) := by
  have H := Lib.hid h
  have OK := Lib.hid h.oke
  have HM := Lib.hid (fun k (hk : m.touch k) => h.kk.lt k (.inl hk))
  obtain ⟨T, hb, hs⟩ := Three.start w (refcs E r) (opcs o) zero5
  have HV := Lib.hid hv
  have HVO := Lib.hid hvo
  have HL := Lib.hid hl
  clear hv hvo hl
  have HF := Lib.hid hf
  have HG := Lib.hid hg
  clear hf hg
  clear h
  go_enter Try.func12, Try.ntmps12
  go_wp2_with fail
  change Calls _ _ _ (threeW w (refcs E r) (opcs o) zero5) _
  generalize threeW w (refcs E r) (opcs o) zero5 = wt at *
  have HT := Lib.hid T
  have HB := Lib.hid hb
  have HS := Lib.hid hs
  clear T hb hs
  refine (append_fits m D wt o.v xs (H.out.kk.rb HB.out) (HV.out.below HB.out) HF.out).mono ?_
  rintro e w1 ⟨rfl, m', hk, hn, hp, hh⟩
  have BV1 := Lib.hid (Bs.kp (HV.out.below HB.out) hp HVO.out)
  have T1 := HT.out.kp hp HM.out
  have HR1 : HeldR w1 r E := (H.out.rr.rb HB.out).kp hp H.out.off
  have HK := Lib.hid hk
  have HN := Lib.hid hn
  have HP := Lib.hid hp
  have HH := Lib.hid hh
  clear hk hn hp hh
  have HT1 := Lib.hid T1
  have HX := Lib.hid HR1
  obtain ⟨y0, y1, y2, y3, y4⟩ := T1.x.cells5
  obtain ⟨o0, o1, o2⟩ := T1.o.cells3
  clear T1 HR1
  have hcv : (convert 32 9 o.v).run Try.prog w1 = .ok (.string (str xs)) w1 := run_convert_Bs BV1.out 32 5 9 Try.underlying32 Try.underlying5 Try.underlying9
  go_wp2_with fail
  refine (rappend_0 E r xs w1 HX.out OK.out (by have := HL.out; omega) HG.out).mono ?_
  rintro e w2 ⟨r', rfl, hr2, hb2, hrr⟩
  have HT2 := Lib.hid (HT1.out.rb hb2)
  have H5 := Lib.hid (five_one (n := E.room) (a := str (E.append xs).sure) (b := str (E.append xs).rest) hr2.n.one.2 hr2.s.one.2)
  have F := Lib.hid (fun w4 => do_fin (w4 := w4) H.out HB.out HS.out HK.out HN.out HP.out HH.out true (Dk.append_ok OK.out HG.out) hr2 hb2 hrr)
  clear y0 y1 y2 y3 y4 o0 o1 o2 hr2 hb2 hrr
  clear hcv
  go_wp2_with (refine wpList_store rfl 27 _ _ rfl w.heap.size 0 _ _ [_, _, _, _, _] _ rfl rfl HT2.out.x rfl sizeref (by simp) H5.out ?_)
  intro w3 hb3 hw3
  have HT3 := Lib.hid (HT2.out.storeX hb3 hw3)
  have HW3 := Lib.hid hw3
  obtain ⟨y0, y1, y2, y3, y4⟩ := HT3.out.x.cells5
  clear hb3 hw3
  go_wp2_with (refine wpList_store rfl 27 _ _ rfl (w.heap.size + 1 + 1) 0 _ _ [_, _, _, _, _] _ rfl rfl HT3.out.y rfl sizeref (by simp) H5.out ?_)
  intro w4 hb4 hw4
  have hw3 := HW3.out
  obtain ⟨x0, x1, x2, x3, x4⟩ := Blk.cells5 hb4
  have FF := Lib.hid (F.out w4 (hw4.os.trans hw3.os) (hw4.tape.trans hw3.tape) (hw4.output.trans hw3.output) (hw4.size.trans hw3.size) (fun k hk => (hw4.block k (by omega)).trans (hw3.block k (by omega))))
  clear hb4 hw4 hw3 y0 y1 y2 y3 y4
  go_wp2
  exact bodyPost_ret (v := .tuple #[refv (E.append xs) r', .bool true]) (by simp [results, Try.results12, go_sem, x0, x1, x2, x3, x4]) rfl FF.out

set_option maxRecDepth 100000 in
set_option maxHeartbeats 400000 in
theorem do_append04_1 (m : Mem) (r : Rm) (D E : Dk) (o : Op3) (xs : List UInt8) (w : World) (h : Both w m r D E) (hq : (o.k : Int) % 7 = 1) (hv : Bs w o.v xs) (hvo : 0 < xs.length → VOff m o.v) (hl : xs.length ≤ 200) (hf : D.log.length + xs.length ≤ D.room) (hg : E.room < E.log.length + xs.length) :
    Calls Try.prog 12 #[.pointer (some ⟨m.b, 0, none⟩), refv E r, opv o] w (DoPost w m r (D.append xs) (E) false) := by
  have H := Lib.hid h
  have OK := Lib.hid h.oke
  have HM := Lib.hid (fun k (hk : m.touch k) => h.kk.lt k (.inl hk))
  obtain ⟨T, hb, hs⟩ := Three.start w (refcs E r) (opcs o) zero5
  have HV := Lib.hid hv
  have HVO := Lib.hid hvo
  have HL := Lib.hid hl
  clear hv hvo hl
  have HF := Lib.hid hf
  have HG := Lib.hid hg
  clear hf hg
  clear h
  go_enter Try.func12, Try.ntmps12
  go_wp2_with fail
  change Calls _ _ _ (threeW w (refcs E r) (opcs o) zero5) _
  generalize threeW w (refcs E r) (opcs o) zero5 = wt at *
  have HT := Lib.hid T
  have HB := Lib.hid hb
  have HS := Lib.hid hs
  clear T hb hs
  refine (append_fits m D wt o.v xs (H.out.kk.rb HB.out) (HV.out.below HB.out) HF.out).mono ?_
  rintro e w1 ⟨rfl, m', hk, hn, hp, hh⟩
  have BV1 := Lib.hid (Bs.kp (HV.out.below HB.out) hp HVO.out)
  have T1 := HT.out.kp hp HM.out
  have HR1 : HeldR w1 r E := (H.out.rr.rb HB.out).kp hp H.out.off
  have HK := Lib.hid hk
  have HN := Lib.hid hn
  have HP := Lib.hid hp
  have HH := Lib.hid hh
  clear hk hn hp hh
  have HT1 := Lib.hid T1
  have HX := Lib.hid HR1
  obtain ⟨y0, y1, y2, y3, y4⟩ := T1.x.cells5
  obtain ⟨o0, o1, o2⟩ := T1.o.cells3
  clear T1 HR1
  have hcv : (convert 32 9 o.v).run Try.prog w1 = .ok (.string (str xs)) w1 := run_convert_Bs BV1.out 32 5 9 Try.underlying32 Try.underlying5 Try.underlying9
  go_wp2_with fail
  refine (rappend_4 E r xs w1 HX.out OK.out (by have := HL.out; omega) HG.out).mono ?_
  rintro e w2 ⟨r', rfl, hr2, hb2, hrr⟩
  have HT2 := Lib.hid (HT1.out.rb hb2)
  have H5 := Lib.hid (five_one (n := E.room) (a := str (E).sure) (b := str (E).rest) hr2.n.one.2 hr2.s.one.2)
  have F := Lib.hid (fun w4 => do_fin (w4 := w4) H.out HB.out HS.out HK.out HN.out HP.out HH.out false (OK.out) hr2 hb2 hrr)
  clear y0 y1 y2 y3 y4 o0 o1 o2 hr2 hb2 hrr
  clear hcv
  go_wp2_with (refine wpList_store rfl 27 _ _ rfl w.heap.size 0 _ _ [_, _, _, _, _] _ rfl rfl HT2.out.x rfl sizeref (by simp) H5.out ?_)
  intro w3 hb3 hw3
  have HT3 := Lib.hid (HT2.out.storeX hb3 hw3)
  have HW3 := Lib.hid hw3
  obtain ⟨y0, y1, y2, y3, y4⟩ := HT3.out.x.cells5
  clear hb3 hw3
  go_wp2_with (refine wpList_store rfl 27 _ _ rfl (w.heap.size + 1 + 1) 0 _ _ [_, _, _, _, _] _ rfl rfl HT3.out.y rfl sizeref (by simp) H5.out ?_)
  intro w4 hb4 hw4
  have hw3 := HW3.out
  obtain ⟨x0, x1, x2, x3, x4⟩ := Blk.cells5 hb4
  have FF := Lib.hid (F.out w4 (hw4.os.trans hw3.os) (hw4.tape.trans hw3.tape) (hw4.output.trans hw3.output) (hw4.size.trans hw3.size) (fun k hk => (hw4.block k (by omega)).trans (hw3.block k (by omega))))
  clear hb4 hw4 hw3 y0 y1 y2 y3 y4
  go_wp2
  exact bodyPost_ret (v := .tuple #[refv (E) r', .bool false]) (by simp [results, Try.results12, go_sem, x0, x1, x2, x3, x4]) rfl FF.out

set_option maxRecDepth 100000 in
set_option maxHeartbeats 400000 in
theorem do_append40_1 (m : Mem) (r : Rm) (D E : Dk) (o : Op3) (xs : List UInt8) (w : World) (h : Both w m r D E) (hq : (o.k : Int) % 7 = 1) (hv : Bs w o.v xs) (hvo : 0 < xs.length → VOff m o.v) (hl : xs.length ≤ 200) (hf : D.room < D.log.length + xs.length) (hg : E.log.length + xs.length ≤ E.room) :
    Calls Try.prog 12 #[.pointer (some ⟨m.b, 0, none⟩), refv E r, opv o] w (DoPost w m r (D) (E.append xs) false) := by
  have H := Lib.hid h
  have OK := Lib.hid h.oke
  have HM := Lib.hid (fun k (hk : m.touch k) => h.kk.lt k (.inl hk))
  obtain ⟨T, hb, hs⟩ := Three.start w (refcs E r) (opcs o) zero5
  have HV := Lib.hid hv
  have HVO := Lib.hid hvo
  have HL := Lib.hid hl
  clear hv hvo hl
  have HF := Lib.hid hf
  have HG := Lib.hid hg
  clear hf hg
  clear h
  go_enter Try.func12, Try.ntmps12
  go_wp2_with fail
  change Calls _ _ _ (threeW w (refcs E r) (opcs o) zero5) _
  generalize threeW w (refcs E r) (opcs o) zero5 = wt at *
  have HT := Lib.hid T
  have HB := Lib.hid hb
  have HS := Lib.hid hs
  clear T hb hs
  refine (append_full m D wt o.v xs (H.out.kk.rb HB.out) (HV.out.below HB.out) HF.out).mono ?_
  rintro e w1 ⟨rfl, hr⟩
  have BV1 := Lib.hid ((HV.out.below HB.out).below hr)
  have T1 := HT.out.rb hr
  have HR1 : HeldR w1 r E := (H.out.rr.rb HB.out).rb hr
  have HK := Lib.hid ((H.out.kk.rb HB.out).rb hr)
  have HN := Lib.hid (New.refl wt m)
  have HP := Lib.hid (Kp.of_rb (m := m) hr)
  have HH := Lib.hid (fun k (hk : m.has k) => (.inl hk : m.has k ∨ wt.heap.size ≤ k))
  clear hr
  have HT1 := Lib.hid T1
  have HX := Lib.hid HR1
  obtain ⟨y0, y1, y2, y3, y4⟩ := T1.x.cells5
  obtain ⟨o0, o1, o2⟩ := T1.o.cells3
  clear T1 HR1
  have hcv : (convert 32 9 o.v).run Try.prog w1 = .ok (.string (str xs)) w1 := run_convert_Bs BV1.out 32 5 9 Try.underlying32 Try.underlying5 Try.underlying9
  go_wp2_with fail
  refine (rappend_0 E r xs w1 HX.out OK.out (by have := HL.out; omega) HG.out).mono ?_
  rintro e w2 ⟨r', rfl, hr2, hb2, hrr⟩
  have HT2 := Lib.hid (HT1.out.rb hb2)
  have H5 := Lib.hid (five_one (n := E.room) (a := str (E.append xs).sure) (b := str (E.append xs).rest) hr2.n.one.2 hr2.s.one.2)
  have F := Lib.hid (fun w4 => do_fin (w4 := w4) H.out HB.out HS.out HK.out HN.out HP.out HH.out false (Dk.append_ok OK.out HG.out) hr2 hb2 hrr)
  clear y0 y1 y2 y3 y4 o0 o1 o2 hr2 hb2 hrr
  clear hcv
  go_wp2_with (refine wpList_store rfl 27 _ _ rfl w.heap.size 0 _ _ [_, _, _, _, _] _ rfl rfl HT2.out.x rfl sizeref (by simp) H5.out ?_)
  intro w3 hb3 hw3
  have HT3 := Lib.hid (HT2.out.storeX hb3 hw3)
  have HW3 := Lib.hid hw3
  obtain ⟨y0, y1, y2, y3, y4⟩ := HT3.out.x.cells5
  clear hb3 hw3
  go_wp2_with (refine wpList_store rfl 27 _ _ rfl (w.heap.size + 1 + 1) 0 _ _ [_, _, _, _, _] _ rfl rfl HT3.out.y rfl sizeref (by simp) H5.out ?_)
  intro w4 hb4 hw4
  have hw3 := HW3.out
  obtain ⟨x0, x1, x2, x3, x4⟩ := Blk.cells5 hb4
  have FF := Lib.hid (F.out w4 (hw4.os.trans hw3.os) (hw4.tape.trans hw3.tape) (hw4.output.trans hw3.output) (hw4.size.trans hw3.size) (fun k hk => (hw4.block k (by omega)).trans (hw3.block k (by omega))))
  clear hb4 hw4 hw3 y0 y1 y2 y3 y4
  go_wp2
  exact bodyPost_ret (v := .tuple #[refv (E.append xs) r', .bool false]) (by simp [results, Try.results12, go_sem, x0, x1, x2, x3, x4]) rfl FF.out

set_option maxRecDepth 100000 in
set_option maxHeartbeats 400000 in
theorem do_append44_1 (m : Mem) (r : Rm) (D E : Dk) (o : Op3) (xs : List UInt8) (w : World) (h : Both w m r D E) (hq : (o.k : Int) % 7 = 1) (hv : Bs w o.v xs) (hvo : 0 < xs.length → VOff m o.v) (hl : xs.length ≤ 200) (hf : D.room < D.log.length + xs.length) (hg : E.room < E.log.length + xs.length) :
    Calls Try.prog 12 #[.pointer (some ⟨m.b, 0, none⟩), refv E r, opv o] w (DoPost w m r (D) (E) true) := by
  have H := Lib.hid h
  have OK := Lib.hid h.oke
  have HM := Lib.hid (fun k (hk : m.touch k) => h.kk.lt k (.inl hk))
  obtain ⟨T, hb, hs⟩ := Three.start w (refcs E r) (opcs o) zero5
  have HV := Lib.hid hv
  have HVO := Lib.hid hvo
  have HL := Lib.hid hl
  clear hv hvo hl
  have HF := Lib.hid hf
  have HG := Lib.hid hg
  clear hf hg
  clear h
  go_enter Try.func12, Try.ntmps12
  go_wp2_with fail
  change Calls _ _ _ (threeW w (refcs E r) (opcs o) zero5) _
  generalize threeW w (refcs E r) (opcs o) zero5 = wt at *
  have HT := Lib.hid T
  have HB := Lib.hid hb
  have HS := Lib.hid hs
  clear T hb hs
  refine (append_full m D wt o.v xs (H.out.kk.rb HB.out) (HV.out.below HB.out) HF.out).mono ?_
  rintro e w1 ⟨rfl, hr⟩
  have BV1 := Lib.hid ((HV.out.below HB.out).below hr)
  have T1 := HT.out.rb hr
  have HR1 : HeldR w1 r E := (H.out.rr.rb HB.out).rb hr
  have HK := Lib.hid ((H.out.kk.rb HB.out).rb hr)
  have HN := Lib.hid (New.refl wt m)
  have HP := Lib.hid (Kp.of_rb (m := m) hr)
  have HH := Lib.hid (fun k (hk : m.has k) => (.inl hk : m.has k ∨ wt.heap.size ≤ k))
  clear hr
  have HT1 := Lib.hid T1
  have HX := Lib.hid HR1
  obtain ⟨y0, y1, y2, y3, y4⟩ := T1.x.cells5
  obtain ⟨o0, o1, o2⟩ := T1.o.cells3
  clear T1 HR1
  have hcv : (convert 32 9 o.v).run Try.prog w1 = .ok (.string (str xs)) w1 := run_convert_Bs BV1.out 32 5 9 Try.underlying32 Try.underlying5 Try.underlying9
  go_wp2_with fail
  refine (rappend_4 E r xs w1 HX.out OK.out (by have := HL.out; omega) HG.out).mono ?_
  rintro e w2 ⟨r', rfl, hr2, hb2, hrr⟩
  have HT2 := Lib.hid (HT1.out.rb hb2)
  have H5 := Lib.hid (five_one (n := E.room) (a := str (E).sure) (b := str (E).rest) hr2.n.one.2 hr2.s.one.2)
  have F := Lib.hid (fun w4 => do_fin (w4 := w4) H.out HB.out HS.out HK.out HN.out HP.out HH.out true (OK.out) hr2 hb2 hrr)
  clear y0 y1 y2 y3 y4 o0 o1 o2 hr2 hb2 hrr
  clear hcv
  go_wp2_with (refine wpList_store rfl 27 _ _ rfl w.heap.size 0 _ _ [_, _, _, _, _] _ rfl rfl HT2.out.x rfl sizeref (by simp) H5.out ?_)
  intro w3 hb3 hw3
  have HT3 := Lib.hid (HT2.out.storeX hb3 hw3)
  have HW3 := Lib.hid hw3
  obtain ⟨y0, y1, y2, y3, y4⟩ := HT3.out.x.cells5
  clear hb3 hw3
  go_wp2_with (refine wpList_store rfl 27 _ _ rfl (w.heap.size + 1 + 1) 0 _ _ [_, _, _, _, _] _ rfl rfl HT3.out.y rfl sizeref (by simp) H5.out ?_)
  intro w4 hb4 hw4
  have hw3 := HW3.out
  obtain ⟨x0, x1, x2, x3, x4⟩ := Blk.cells5 hb4
  have FF := Lib.hid (F.out w4 (hw4.os.trans hw3.os) (hw4.tape.trans hw3.tape) (hw4.output.trans hw3.output) (hw4.size.trans hw3.size) (fun k hk => (hw4.block k (by omega)).trans (hw3.block k (by omega))))
  clear hb4 hw4 hw3 y0 y1 y2 y3 y4
  go_wp2
  exact bodyPost_ret (v := .tuple #[refv (E) r', .bool true]) (by simp [results, Try.results12, go_sem, x0, x1, x2, x3, x4]) rfl FF.out

set_option maxRecDepth 100000 in
set_option maxHeartbeats 400000 in
theorem do_append00_2 (m : Mem) (r : Rm) (D E : Dk) (o : Op3) (xs : List UInt8) (w : World) (h : Both w m r D E) (hq : (o.k : Int) % 7 = 2) (hv : Bs w o.v xs) (hvo : 0 < xs.length → VOff m o.v) (hl : xs.length ≤ 200) (hf : D.log.length + xs.length ≤ D.room) (hg : E.log.length + xs.length ≤ E.room) :
    Calls Try.prog 12 #[.pointer (some ⟨m.b, 0, none⟩), refv E r, opv o] w (DoPost w m r (D.append xs) (E.append xs) true) := by
  have H := Lib.hid h
  have OK := Lib.hid h.oke
  have HM := Lib.hid (fun k (hk : m.touch k) => h.kk.lt k (.inl hk))
  obtain ⟨T, hb, hs⟩ := Three.start w (refcs E r) (opcs o) zero5
  have HV := Lib.hid hv
  have HVO := Lib.hid hvo
  have HL := Lib.hid hl
  clear hv hvo hl
  have HF := Lib.hid hf
  have HG := Lib.hid hg
  clear hf hg
  clear h
  go_enter Try.func12, Try.ntmps12
  go_wp2_with fail
  change Calls _ _ _ (threeW w (refcs E r) (opcs o) zero5) _
  generalize threeW w (refcs E r) (opcs o) zero5 = wt at *
  have HT := Lib.hid T
  have HB := Lib.hid hb
  have HS := Lib.hid hs
  clear T hb hs
  refine (append_fits m D wt o.v xs (H.out.kk.rb HB.out) (HV.out.below HB.out) HF.out).mono ?_
  rintro e w1 ⟨rfl, m', hk, hn, hp, hh⟩
  have BV1 := Lib.hid (Bs.kp (HV.out.below HB.out) hp HVO.out)
  have T1 := HT.out.kp hp HM.out
  have HR1 : HeldR w1 r E := (H.out.rr.rb HB.out).kp hp H.out.off
  have HK := Lib.hid hk
  have HN := Lib.hid hn
  have HP := Lib.hid hp
  have HH := Lib.hid hh
  clear hk hn hp hh
  have HT1 := Lib.hid T1
  have HX := Lib.hid HR1
  obtain ⟨y0, y1, y2, y3, y4⟩ := T1.x.cells5
  obtain ⟨o0, o1, o2⟩ := T1.o.cells3
  clear T1 HR1
  have hcv : (convert 32 9 o.v).run Try.prog w1 = .ok (.string (str xs)) w1 := run_convert_Bs BV1.out 32 5 9 Try.underlying32 Try.underlying5 Try.underlying9
  go_wp2_with fail
  refine (rappend_0 E r xs w1 HX.out OK.out (by have := HL.out; omega) HG.out).mono ?_
  rintro e w2 ⟨r', rfl, hr2, hb2, hrr⟩
  have HT2 := Lib.hid (HT1.out.rb hb2)
  have H5 := Lib.hid (five_one (n := E.room) (a := str (E.append xs).sure) (b := str (E.append xs).rest) hr2.n.one.2 hr2.s.one.2)
  have F := Lib.hid (fun w4 => do_fin (w4 := w4) H.out HB.out HS.out HK.out HN.out HP.out HH.out true (Dk.append_ok OK.out HG.out) hr2 hb2 hrr)
  clear y0 y1 y2 y3 y4 o0 o1 o2 hr2 hb2 hrr
  clear hcv
  go_wp2_with (refine wpList_store rfl 27 _ _ rfl w.heap.size 0 _ _ [_, _, _, _, _] _ rfl rfl HT2.out.x rfl sizeref (by simp) H5.out ?_)
  intro w3 hb3 hw3
  have HT3 := Lib.hid (HT2.out.storeX hb3 hw3)
  have HW3 := Lib.hid hw3
  obtain ⟨y0, y1, y2, y3, y4⟩ := HT3.out.x.cells5
  clear hb3 hw3
  go_wp2_with (refine wpList_store rfl 27 _ _ rfl (w.heap.size + 1 + 1) 0 _ _ [_, _, _, _, _] _ rfl rfl HT3.out.y rfl sizeref (by simp) H5.out ?_)
  intro w4 hb4 hw4
  have hw3 := HW3.out
  obtain ⟨x0, x1, x2, x3, x4⟩ := Blk.cells5 hb4
  have FF := Lib.hid (F.out w4 (hw4.os.trans hw3.os) (hw4.tape.trans hw3.tape) (hw4.output.trans hw3.output) (hw4.size.trans hw3.size) (fun k hk => (hw4.block k (by omega)).trans (hw3.block k (by omega))))
  clear hb4 hw4 hw3 y0 y1 y2 y3 y4
  go_wp2
  exact bodyPost_ret (v := .tuple #[refv (E.append xs) r', .bool true]) (by simp [results, Try.results12, go_sem, x0, x1, x2, x3, x4]) rfl FF.out

set_option maxRecDepth 100000 in
set_option maxHeartbeats 400000 in
theorem do_append04_2 (m : Mem) (r : Rm) (D E : Dk) (o : Op3) (xs : List UInt8) (w : World) (h : Both w m r D E) (hq : (o.k : Int) % 7 = 2) (hv : Bs w o.v xs) (hvo : 0 < xs.length → VOff m o.v) (hl : xs.length ≤ 200) (hf : D.log.length + xs.length ≤ D.room) (hg : E.room < E.log.length + xs.length) :
    Calls Try.prog 12 #[.pointer (some ⟨m.b, 0, none⟩), refv E r, opv o] w (DoPost w m r (D.append xs) (E) false) := by
  have H := Lib.hid h
  have OK := Lib.hid h.oke
  have HM := Lib.hid (fun k (hk : m.touch k) => h.kk.lt k (.inl hk))
  obtain ⟨T, hb, hs⟩ := Three.start w (refcs E r) (opcs o) zero5
  have HV := Lib.hid hv
  have HVO := Lib.hid hvo
  have HL := Lib.hid hl
  clear hv hvo hl
  have HF := Lib.hid hf
  have HG := Lib.hid hg
  clear hf hg
  clear h
  go_enter Try.func12, Try.ntmps12
  go_wp2_with fail
  change Calls _ _ _ (threeW w (refcs E r) (opcs o) zero5) _
  generalize threeW w (refcs E r) (opcs o) zero5 = wt at *
  have HT := Lib.hid T
  have HB := Lib.hid hb
  have HS := Lib.hid hs
  clear T hb hs
  refine (append_fits m D wt o.v xs (H.out.kk.rb HB.out) (HV.out.below HB.out) HF.out).mono ?_
  rintro e w1 ⟨rfl, m', hk, hn, hp, hh⟩
  have BV1 := Lib.hid (Bs.kp (HV.out.below HB.out) hp HVO.out)
  have T1 := HT.out.kp hp HM.out
  have HR1 : HeldR w1 r E := (H.out.rr.rb HB.out).kp hp H.out.off
  have HK := Lib.hid hk
  have HN := Lib.hid hn
  have HP := Lib.hid hp
  have HH := Lib.hid hh
  clear hk hn hp hh
  have HT1 := Lib.hid T1
  have HX := Lib.hid HR1
  obtain ⟨y0, y1, y2, y3, y4⟩ := T1.x.cells5
  obtain ⟨o0, o1, o2⟩ := T1.o.cells3
  clear T1 HR1
  have hcv : (convert 32 9 o.v).run Try.prog w1 = .ok (.string (str xs)) w1 := run_convert_Bs BV1.out 32 5 9 Try.underlying32 Try.underlying5 Try.underlying9
  go_wp2_with fail
  refine (rappend_4 E r xs w1 HX.out OK.out (by have := HL.out; omega) HG.out).mono ?_
  rintro e w2 ⟨r', rfl, hr2, hb2, hrr⟩
  have HT2 := Lib.hid (HT1.out.rb hb2)
  have H5 := Lib.hid (five_one (n := E.room) (a := str (E).sure) (b := str (E).rest) hr2.n.one.2 hr2.s.one.2)
  have F := Lib.hid (fun w4 => do_fin (w4 := w4) H.out HB.out HS.out HK.out HN.out HP.out HH.out false (OK.out) hr2 hb2 hrr)
  clear y0 y1 y2 y3 y4 o0 o1 o2 hr2 hb2 hrr
  clear hcv
  go_wp2_with (refine wpList_store rfl 27 _ _ rfl w.heap.size 0 _ _ [_, _, _, _, _] _ rfl rfl HT2.out.x rfl sizeref (by simp) H5.out ?_)
  intro w3 hb3 hw3
  have HT3 := Lib.hid (HT2.out.storeX hb3 hw3)
  have HW3 := Lib.hid hw3
  obtain ⟨y0, y1, y2, y3, y4⟩ := HT3.out.x.cells5
  clear hb3 hw3
  go_wp2_with (refine wpList_store rfl 27 _ _ rfl (w.heap.size + 1 + 1) 0 _ _ [_, _, _, _, _] _ rfl rfl HT3.out.y rfl sizeref (by simp) H5.out ?_)
  intro w4 hb4 hw4
  have hw3 := HW3.out
  obtain ⟨x0, x1, x2, x3, x4⟩ := Blk.cells5 hb4
  have FF := Lib.hid (F.out w4 (hw4.os.trans hw3.os) (hw4.tape.trans hw3.tape) (hw4.output.trans hw3.output) (hw4.size.trans hw3.size) (fun k hk => (hw4.block k (by omega)).trans (hw3.block k (by omega))))
  clear hb4 hw4 hw3 y0 y1 y2 y3 y4
  go_wp2
  exact bodyPost_ret (v := .tuple #[refv (E) r', .bool false]) (by simp [results, Try.results12, go_sem, x0, x1, x2, x3, x4]) rfl FF.out

set_option maxRecDepth 100000 in
set_option maxHeartbeats 400000 in
theorem do_append40_2 (m : Mem) (r : Rm) (D E : Dk) (o : Op3) (xs : List UInt8) (w : World) (h : Both w m r D E) (hq : (o.k : Int) % 7 = 2) (hv : Bs w o.v xs) (hvo : 0 < xs.length → VOff m o.v) (hl : xs.length ≤ 200) (hf : D.room < D.log.length + xs.length) (hg : E.log.length + xs.length ≤ E.room) :
    Calls Try.prog 12 #[.pointer (some ⟨m.b, 0, none⟩), refv E r, opv o] w (DoPost w m r (D) (E.append xs) false) := by
  have H := Lib.hid h
  have OK := Lib.hid h.oke
  have HM := Lib.hid (fun k (hk : m.touch k) => h.kk.lt k (.inl hk))
  obtain ⟨T, hb, hs⟩ := Three.start w (refcs E r) (opcs o) zero5
  have HV := Lib.hid hv
  have HVO := Lib.hid hvo
  have HL := Lib.hid hl
  clear hv hvo hl
  have HF := Lib.hid hf
  have HG := Lib.hid hg
  clear hf hg
  clear h
  go_enter Try.func12, Try.ntmps12
  go_wp2_with fail
  change Calls _ _ _ (threeW w (refcs E r) (opcs o) zero5) _
  generalize threeW w (refcs E r) (opcs o) zero5 = wt at *
  have HT := Lib.hid T
  have HB := Lib.hid hb
  have HS := Lib.hid hs
  clear T hb hs
  refine (append_full m D wt o.v xs (H.out.kk.rb HB.out) (HV.out.below HB.out) HF.out).mono ?_
  rintro e w1 ⟨rfl, hr⟩
  have BV1 := Lib.hid ((HV.out.below HB.out).below hr)
  have T1 := HT.out.rb hr
  have HR1 : HeldR w1 r E := (H.out.rr.rb HB.out).rb hr
  have HK := Lib.hid ((H.out.kk.rb HB.out).rb hr)
  have HN := Lib.hid (New.refl wt m)
  have HP := Lib.hid (Kp.of_rb (m := m) hr)
  have HH := Lib.hid (fun k (hk : m.has k) => (.inl hk : m.has k ∨ wt.heap.size ≤ k))
  clear hr
  have HT1 := Lib.hid T1
  have HX := Lib.hid HR1
  obtain ⟨y0, y1, y2, y3, y4⟩ := T1.x.cells5
  obtain ⟨o0, o1, o2⟩ := T1.o.cells3
  clear T1 HR1
  have hcv : (convert 32 9 o.v).run Try.prog w1 = .ok (.string (str xs)) w1 := run_convert_Bs BV1.out 32 5 9 Try.underlying32 Try.underlying5 Try.underlying9
  go_wp2_with fail
  refine (rappend_0 E r xs w1 HX.out OK.out (by have := HL.out; omega) HG.out).mono ?_
  rintro e w2 ⟨r', rfl, hr2, hb2, hrr⟩
  have HT2 := Lib.hid (HT1.out.rb hb2)
  have H5 := Lib.hid (five_one (n := E.room) (a := str (E.append xs).sure) (b := str (E.append xs).rest) hr2.n.one.2 hr2.s.one.2)
  have F := Lib.hid (fun w4 => do_fin (w4 := w4) H.out HB.out HS.out HK.out HN.out HP.out HH.out false (Dk.append_ok OK.out HG.out) hr2 hb2 hrr)
  clear y0 y1 y2 y3 y4 o0 o1 o2 hr2 hb2 hrr
  clear hcv
  go_wp2_with (refine wpList_store rfl 27 _ _ rfl w.heap.size 0 _ _ [_, _, _, _, _] _ rfl rfl HT2.out.x rfl sizeref (by simp) H5.out ?_)
  intro w3 hb3 hw3
  have HT3 := Lib.hid (HT2.out.storeX hb3 hw3)
  have HW3 := Lib.hid hw3
  obtain ⟨y0, y1, y2, y3, y4⟩ := HT3.out.x.cells5
  clear hb3 hw3
  go_wp2_with (refine wpList_store rfl 27 _ _ rfl (w.heap.size + 1 + 1) 0 _ _ [_, _, _, _, _] _ rfl rfl HT3.out.y rfl sizeref (by simp) H5.out ?_)
  intro w4 hb4 hw4
  have hw3 := HW3.out
  obtain ⟨x0, x1, x2, x3, x4⟩ := Blk.cells5 hb4
  have FF := Lib.hid (F.out w4 (hw4.os.trans hw3.os) (hw4.tape.trans hw3.tape) (hw4.output.trans hw3.output) (hw4.size.trans hw3.size) (fun k hk => (hw4.block k (by omega)).trans (hw3.block k (by omega))))
  clear hb4 hw4 hw3 y0 y1 y2 y3 y4
  go_wp2
  exact bodyPost_ret (v := .tuple #[refv (E.append xs) r', .bool false]) (by simp [results, Try.results12, go_sem, x0, x1, x2, x3, x4]) rfl FF.out

set_option maxRecDepth 100000 in
set_option maxHeartbeats 400000 in
theorem do_append44_2 (m : Mem) (r : Rm) (D E : Dk) (o : Op3) (xs : List UInt8) (w : World) (h : Both w m r D E) (hq : (o.k : Int) % 7 = 2) (hv : Bs w o.v xs) (hvo : 0 < xs.length → VOff m o.v) (hl : xs.length ≤ 200) (hf : D.room < D.log.length + xs.length) (hg : E.room < E.log.length + xs.length) :
    Calls Try.prog 12 #[.pointer (some ⟨m.b, 0, none⟩), refv E r, opv o] w (DoPost w m r (D) (E) true) := by
  have H := Lib.hid h
  have OK := Lib.hid h.oke
  have HM := Lib.hid (fun k (hk : m.touch k) => h.kk.lt k (.inl hk))
  obtain ⟨T, hb, hs⟩ := Three.start w (refcs E r) (opcs o) zero5
  have HV := Lib.hid hv
  have HVO := Lib.hid hvo
  have HL := Lib.hid hl
  clear hv hvo hl
  have HF := Lib.hid hf
  have HG := Lib.hid hg
  clear hf hg
  clear h
  go_enter Try.func12, Try.ntmps12
  go_wp2_with fail
  change Calls _ _ _ (threeW w (refcs E r) (opcs o) zero5) _
  generalize threeW w (refcs E r) (opcs o) zero5 = wt at *
  have HT := Lib.hid T
  have HB := Lib.hid hb
  have HS := Lib.hid hs
  clear T hb hs
  refine (append_full m D wt o.v xs (H.out.kk.rb HB.out) (HV.out.below HB.out) HF.out).mono ?_
  rintro e w1 ⟨rfl, hr⟩
  have BV1 := Lib.hid ((HV.out.below HB.out).below hr)
  have T1 := HT.out.rb hr
  have HR1 : HeldR w1 r E := (H.out.rr.rb HB.out).rb hr
  have HK := Lib.hid ((H.out.kk.rb HB.out).rb hr)
  have HN := Lib.hid (New.refl wt m)
  have HP := Lib.hid (Kp.of_rb (m := m) hr)
  have HH := Lib.hid (fun k (hk : m.has k) => (.inl hk : m.has k ∨ wt.heap.size ≤ k))
  clear hr
  have HT1 := Lib.hid T1
  have HX := Lib.hid HR1
  obtain ⟨y0, y1, y2, y3, y4⟩ := T1.x.cells5
  obtain ⟨o0, o1, o2⟩ := T1.o.cells3
  clear T1 HR1
  have hcv : (convert 32 9 o.v).run Try.prog w1 = .ok (.string (str xs)) w1 := run_convert_Bs BV1.out 32 5 9 Try.underlying32 Try.underlying5 Try.underlying9
  go_wp2_with fail
  refine (rappend_4 E r xs w1 HX.out OK.out (by have := HL.out; omega) HG.out).mono ?_
  rintro e w2 ⟨r', rfl, hr2, hb2, hrr⟩
  have HT2 := Lib.hid (HT1.out.rb hb2)
  have H5 := Lib.hid (five_one (n := E.room) (a := str (E).sure) (b := str (E).rest) hr2.n.one.2 hr2.s.one.2)
  have F := Lib.hid (fun w4 => do_fin (w4 := w4) H.out HB.out HS.out HK.out HN.out HP.out HH.out true (OK.out) hr2 hb2 hrr)
  clear y0 y1 y2 y3 y4 o0 o1 o2 hr2 hb2 hrr
  clear hcv
  go_wp2_with (refine wpList_store rfl 27 _ _ rfl w.heap.size 0 _ _ [_, _, _, _, _] _ rfl rfl HT2.out.x rfl sizeref (by simp) H5.out ?_)
  intro w3 hb3 hw3
  have HT3 := Lib.hid (HT2.out.storeX hb3 hw3)
  have HW3 := Lib.hid hw3
  obtain ⟨y0, y1, y2, y3, y4⟩ := HT3.out.x.cells5
  clear hb3 hw3
  go_wp2_with (refine wpList_store rfl 27 _ _ rfl (w.heap.size + 1 + 1) 0 _ _ [_, _, _, _, _] _ rfl rfl HT3.out.y rfl sizeref (by simp) H5.out ?_)
  intro w4 hb4 hw4
  have hw3 := HW3.out
  obtain ⟨x0, x1, x2, x3, x4⟩ := Blk.cells5 hb4
  have FF := Lib.hid (F.out w4 (hw4.os.trans hw3.os) (hw4.tape.trans hw3.tape) (hw4.output.trans hw3.output) (hw4.size.trans hw3.size) (fun k hk => (hw4.block k (by omega)).trans (hw3.block k (by omega))))
  clear hb4 hw4 hw3 y0 y1 y2 y3 y4
  go_wp2
  exact bodyPost_ret (v := .tuple #[refv (E) r', .bool true]) (by simp [results, Try.results12, go_sem, x0, x1, x2, x3, x4]) rfl FF.out

set_option maxRecDepth 100000 in
set_option maxHeartbeats 400000 in
theorem do_write0 (m : Mem) (r : Rm) (D E : Dk) (o : Op3) (xs : List UInt8) (w : World) (h : Both w m r D E) (hq : (o.k : Int) % 7 = 5) (hv : Bs w o.v xs) (hvo : 0 < xs.length → VOff m o.v) (hl : xs.length ≤ 200) (hn : o.n = 0) :
    Calls Try.prog 12 #[.pointer (some ⟨m.b, 0, none⟩), refv E r, opv o] w (DoPost w m r (D.write0 xs) (E.write0 xs) true) := by
  have H := Lib.hid h
  have OK := Lib.hid h.oke
  have HM := Lib.hid (fun k (hk : m.touch k) => h.kk.lt k (.inl hk))
  obtain ⟨T, hb, hs⟩ := Three.start w (refcs E r) [.int .u64 o.k, .int .i64 0, o.v] zero5
  have HV := Lib.hid hv
  have HVO := Lib.hid hvo
  have HL := Lib.hid hl
  clear hv hvo hl
  clear h
  go_enter Try.func12, Try.ntmps12
  go_wp2_with fail
  change Calls _ _ _ (threeW w (refcs E r) [.int .u64 o.k, .int .i64 0, o.v] zero5) _
  generalize threeW w (refcs E r) [.int .u64 o.k, .int .i64 0, o.v] zero5 = wt at *
  have HT := Lib.hid T
  have HB := Lib.hid hb
  have HS := Lib.hid hs
  clear T hb hs
  refine (write_0 m D wt o.v xs (H.out.kk.rb HB.out) (HV.out.below HB.out) (by have := HL.out; omega)).mono ?_
  rintro e w1 ⟨rfl, m', hk, hn, hp, hh⟩
  have BV1 := Lib.hid (Bs.kp (HV.out.below HB.out) hp HVO.out)
  have T1 := HT.out.kp hp HM.out
  have HR1 : HeldR w1 r E := (H.out.rr.rb HB.out).kp hp H.out.off
  have HK := Lib.hid hk
  have HN := Lib.hid hn
  have HP := Lib.hid hp
  have HH := Lib.hid hh
  clear hk hn hp hh
  have HT1 := Lib.hid T1
  have HX := Lib.hid HR1
  obtain ⟨y0, y1, y2, y3, y4⟩ := T1.x.cells5
  obtain ⟨o0, o1, o2⟩ := T1.o.cells3
  clear T1 HR1
  have hcv : (convert 32 9 o.v).run Try.prog w1 = .ok (.string (str xs)) w1 := run_convert_Bs BV1.out 32 5 9 Try.underlying32 Try.underlying5 Try.underlying9
  go_wp2_with fail
  refine (rwrite_y0 E r xs w1 HX.out).mono ?_
  rintro e w2 ⟨r', rfl, hr2, hb2, hrr⟩
  have HT2 := Lib.hid (HT1.out.rb hb2)
  have H5 := Lib.hid (five_one (n := E.room) (a := str (E.write0 xs).sure) (b := str (E.write0 xs).rest) hr2.n.one.2 hr2.s.one.2)
  have F := Lib.hid (fun w4 => do_fin (w4 := w4) H.out HB.out HS.out HK.out HN.out HP.out HH.out true (Dk.write0_ok OK.out (by have := HL.out; omega)) hr2 hb2 hrr)
  clear y0 y1 y2 y3 y4 o0 o1 o2 hr2 hb2 hrr
  clear hcv hn
  go_wp2_with (refine wpList_store rfl 27 _ _ rfl w.heap.size 0 _ _ [_, _, _, _, _] _ rfl rfl HT2.out.x rfl sizeref (by simp) H5.out ?_)
  intro w3 hb3 hw3
  have HT3 := Lib.hid (HT2.out.storeX hb3 hw3)
  have HW3 := Lib.hid hw3
  obtain ⟨y0, y1, y2, y3, y4⟩ := HT3.out.x.cells5
  clear hb3 hw3
  go_wp2_with (refine wpList_store rfl 27 _ _ rfl (w.heap.size + 1 + 1) 0 _ _ [_, _, _, _, _] _ rfl rfl HT3.out.y rfl sizeref (by simp) H5.out ?_)
  intro w4 hb4 hw4
  have hw3 := HW3.out
  obtain ⟨x0, x1, x2, x3, x4⟩ := Blk.cells5 hb4
  have FF := Lib.hid (F.out w4 (hw4.os.trans hw3.os) (hw4.tape.trans hw3.tape) (hw4.output.trans hw3.output) (hw4.size.trans hw3.size) (fun k hk => (hw4.block k (by omega)).trans (hw3.block k (by omega))))
  clear hb4 hw4 hw3 y0 y1 y2 y3 y4
  go_wp2
  exact bodyPost_ret (v := .tuple #[refv (E.write0 xs) r', .bool true]) (by simp [results, Try.results12, go_sem, x0, x1, x2, x3, x4]) rfl FF.out

set_option maxRecDepth 100000 in
set_option maxHeartbeats 400000 in
theorem do_write1 (m : Mem) (r : Rm) (D E : Dk) (o : Op3) (xs : List UInt8) (w : World) (h : Both w m r D E) (hq : (o.k : Int) % 7 = 5) (hv : Bs w o.v xs) (hvo : 0 < xs.length → VOff m o.v) (hl : xs.length ≤ 200) (hn : o.n = 1) :
    Calls Try.prog 12 #[.pointer (some ⟨m.b, 0, none⟩), refv E r, opv o] w (DoPost w m r (D.write1 xs) (E.write1 xs) true) := by
  have H := Lib.hid h
  have OK := Lib.hid h.oke
  have HM := Lib.hid (fun k (hk : m.touch k) => h.kk.lt k (.inl hk))
  obtain ⟨T, hb, hs⟩ := Three.start w (refcs E r) [.int .u64 o.k, .int .i64 1, o.v] zero5
  have HV := Lib.hid hv
  have HVO := Lib.hid hvo
  have HL := Lib.hid hl
  clear hv hvo hl
  clear h
  go_enter Try.func12, Try.ntmps12
  go_wp2_with fail
  change Calls _ _ _ (threeW w (refcs E r) [.int .u64 o.k, .int .i64 1, o.v] zero5) _
  generalize threeW w (refcs E r) [.int .u64 o.k, .int .i64 1, o.v] zero5 = wt at *
  have HT := Lib.hid T
  have HB := Lib.hid hb
  have HS := Lib.hid hs
  clear T hb hs
  refine (write_1 m D wt o.v xs (H.out.kk.rb HB.out) (HV.out.below HB.out) (by have := HL.out; omega)).mono ?_
  rintro e w1 ⟨rfl, m', hk, hn, hp, hh⟩
  have BV1 := Lib.hid (Bs.kp (HV.out.below HB.out) hp HVO.out)
  have T1 := HT.out.kp hp HM.out
  have HR1 : HeldR w1 r E := (H.out.rr.rb HB.out).kp hp H.out.off
  have HK := Lib.hid hk
  have HN := Lib.hid hn
  have HP := Lib.hid hp
  have HH := Lib.hid hh
  clear hk hn hp hh
  have HT1 := Lib.hid T1
  have HX := Lib.hid HR1
  obtain ⟨y0, y1, y2, y3, y4⟩ := T1.x.cells5
  obtain ⟨o0, o1, o2⟩ := T1.o.cells3
  clear T1 HR1
  have hcv : (convert 32 9 o.v).run Try.prog w1 = .ok (.string (str xs)) w1 := run_convert_Bs BV1.out 32 5 9 Try.underlying32 Try.underlying5 Try.underlying9
  go_wp2_with fail
  refine (rwrite_y1 E r xs w1 HX.out).mono ?_
  rintro e w2 ⟨r', rfl, hr2, hb2, hrr⟩
  have HT2 := Lib.hid (HT1.out.rb hb2)
  have H5 := Lib.hid (five_one (n := E.room) (a := str (E.write1 xs).sure) (b := str (E.write1 xs).rest) hr2.n.one.2 hr2.s.one.2)
  have F := Lib.hid (fun w4 => do_fin (w4 := w4) H.out HB.out HS.out HK.out HN.out HP.out HH.out true (Dk.write1_ok OK.out (by have := HL.out; omega)) hr2 hb2 hrr)
  clear y0 y1 y2 y3 y4 o0 o1 o2 hr2 hb2 hrr
  clear hcv hn
  go_wp2_with (refine wpList_store rfl 27 _ _ rfl w.heap.size 0 _ _ [_, _, _, _, _] _ rfl rfl HT2.out.x rfl sizeref (by simp) H5.out ?_)
  intro w3 hb3 hw3
  have HT3 := Lib.hid (HT2.out.storeX hb3 hw3)
  have HW3 := Lib.hid hw3
  obtain ⟨y0, y1, y2, y3, y4⟩ := HT3.out.x.cells5
  clear hb3 hw3
  go_wp2_with (refine wpList_store rfl 27 _ _ rfl (w.heap.size + 1 + 1) 0 _ _ [_, _, _, _, _] _ rfl rfl HT3.out.y rfl sizeref (by simp) H5.out ?_)
  intro w4 hb4 hw4
  have hw3 := HW3.out
  obtain ⟨x0, x1, x2, x3, x4⟩ := Blk.cells5 hb4
  have FF := Lib.hid (F.out w4 (hw4.os.trans hw3.os) (hw4.tape.trans hw3.tape) (hw4.output.trans hw3.output) (hw4.size.trans hw3.size) (fun k hk => (hw4.block k (by omega)).trans (hw3.block k (by omega))))
  clear hb4 hw4 hw3 y0 y1 y2 y3 y4
  go_wp2
  exact bodyPost_ret (v := .tuple #[refv (E.write1 xs) r', .bool true]) (by simp [results, Try.results12, go_sem, x0, x1, x2, x3, x4]) rfl FF.out

set_option maxRecDepth 100000 in
set_option maxHeartbeats 400000 in
theorem do_writex (m : Mem) (r : Rm) (D E : Dk) (o : Op3) (xs : List UInt8) (w : World) (h : Both w m r D E) (hq : (o.k : Int) % 7 = 5) (hv : Bs w o.v xs) (hvo : 0 < xs.length → VOff m o.v) (hl : xs.length ≤ 200) (hn : decide (0 ≤ o.n ∧ o.n < 2) = false) :
    Calls Try.prog 12 #[.pointer (some ⟨m.b, 0, none⟩), refv E r, opv o] w (DoPost w m r (D) (E) true) := by
  have H := Lib.hid h
  have OK := Lib.hid h.oke
  have HM := Lib.hid (fun k (hk : m.touch k) => h.kk.lt k (.inl hk))
  obtain ⟨T, hb, hs⟩ := Three.start w (refcs E r) (opcs o) zero5
  have HV := Lib.hid hv
  have HVO := Lib.hid hvo
  have HL := Lib.hid hl
  clear hv hvo hl
  have HN0 := Lib.hid hn
  clear hn
  clear h
  go_enter Try.func12, Try.ntmps12
  go_wp2_with fail
  change Calls _ _ _ (threeW w (refcs E r) (opcs o) zero5) _
  generalize threeW w (refcs E r) (opcs o) zero5 = wt at *
  have HT := Lib.hid T
  have HB := Lib.hid hb
  have HS := Lib.hid hs
  clear T hb hs
  refine (write_no m wt o.n o.v HN0.out).mono ?_
  rintro e w1 ⟨rfl, hr0⟩
  have hr : Rb wt w1 := hr0 ▸ Rb.refl _
  clear hr0
  have BV1 := Lib.hid ((HV.out.below HB.out).below hr)
  have T1 := HT.out.rb hr
  have HR1 : HeldR w1 r E := (H.out.rr.rb HB.out).rb hr
  have HK := Lib.hid ((H.out.kk.rb HB.out).rb hr)
  have HN := Lib.hid (New.refl wt m)
  have HP := Lib.hid (Kp.of_rb (m := m) hr)
  have HH := Lib.hid (fun k (hk : m.has k) => (.inl hk : m.has k ∨ wt.heap.size ≤ k))
  clear hr
  have HT1 := Lib.hid T1
  have HX := Lib.hid HR1
  obtain ⟨y0, y1, y2, y3, y4⟩ := T1.x.cells5
  obtain ⟨o0, o1, o2⟩ := T1.o.cells3
  clear T1 HR1
  have hcv : (convert 32 9 o.v).run Try.prog w1 = .ok (.string (str xs)) w1 := run_convert_Bs BV1.out 32 5 9 Try.underlying32 Try.underlying5 Try.underlying9
  go_wp2_with fail
  refine (rwrite_x E r o.n xs w1 HX.out HN0.out).mono ?_
  rintro e w2 ⟨r', rfl, hr2, hb2, hrr⟩
  have HT2 := Lib.hid (HT1.out.rb hb2)
  have H5 := Lib.hid (five_one (n := E.room) (a := str (E).sure) (b := str (E).rest) hr2.n.one.2 hr2.s.one.2)
  have F := Lib.hid (fun w4 => do_fin (w4 := w4) H.out HB.out HS.out HK.out HN.out HP.out HH.out true (OK.out) hr2 hb2 hrr)
  clear y0 y1 y2 y3 y4 o0 o1 o2 hr2 hb2 hrr
  clear hcv
  go_wp2_with (refine wpList_store rfl 27 _ _ rfl w.heap.size 0 _ _ [_, _, _, _, _] _ rfl rfl HT2.out.x rfl sizeref (by simp) H5.out ?_)
  intro w3 hb3 hw3
  have HT3 := Lib.hid (HT2.out.storeX hb3 hw3)
  have HW3 := Lib.hid hw3
  obtain ⟨y0, y1, y2, y3, y4⟩ := HT3.out.x.cells5
  clear hb3 hw3
  go_wp2_with (refine wpList_store rfl 27 _ _ rfl (w.heap.size + 1 + 1) 0 _ _ [_, _, _, _, _] _ rfl rfl HT3.out.y rfl sizeref (by simp) H5.out ?_)
  intro w4 hb4 hw4
  have hw3 := HW3.out
  obtain ⟨x0, x1, x2, x3, x4⟩ := Blk.cells5 hb4
  have FF := Lib.hid (F.out w4 (hw4.os.trans hw3.os) (hw4.tape.trans hw3.tape) (hw4.output.trans hw3.output) (hw4.size.trans hw3.size) (fun k hk => (hw4.block k (by omega)).trans (hw3.block k (by omega))))
  clear hb4 hw4 hw3 y0 y1 y2 y3 y4
  go_wp2
  exact bodyPost_ret (v := .tuple #[refv (E) r', .bool true]) (by simp [results, Try.results12, go_sem, x0, x1, x2, x3, x4]) rfl FF.out

set_option maxRecDepth 100000 in
set_option maxHeartbeats 400000 in
theorem do_clear (m : Mem) (r : Rm) (D E : Dk) (o : Op3) (w : World) (h : Both w m r D E) (hq : (o.k : Int) % 7 = 6) :
    Calls Try.prog 12 #[.pointer (some ⟨m.b, 0, none⟩), refv E r, opv o] w (DoPost w m r D.clear E.clear true) := by
  have H := Lib.hid h
  have OK := Lib.hid h.oke
  have HM := Lib.hid (fun k (hk : m.touch k) => h.kk.lt k (.inl hk))
  obtain ⟨T, hb, hs⟩ := Three.start w (refcs E r) (opcs o) zero5
  clear h
  go_enter Try.func12, Try.ntmps12
  go_wp2_with fail
  change Calls _ _ _ (threeW w (refcs E r) (opcs o) zero5) _
  generalize threeW w (refcs E r) (opcs o) zero5 = wt at *
  have HT := Lib.hid T
  have HB := Lib.hid hb
  have HS := Lib.hid hs
  clear T hb hs
  refine (clear_any m D wt (H.out.kk.rb HB.out)).mono ?_
  rintro e w1 ⟨rfl, m', hk, hn, hp, hh⟩
  have HT1 := Lib.hid (HT.out.kp hp HM.out)
  have HR1 : HeldR w1 r E := (H.out.rr.rb HB.out).kp hp H.out.off
  have HK := Lib.hid hk
  have HN := Lib.hid hn
  have HP := Lib.hid hp
  have HH := Lib.hid hh
  have hc1 : HeldR w1 r E.clear := ⟨HR1.n, HR1.s⟩
  have F := Lib.hid (fun w4 => do_fin (w4 := w4) H.out HB.out HS.out HK.out HN.out HP.out HH.out true (Dk.clear_ok OK.out) hc1 (Rb.refl w1) (fun k hk => .inl hk))
  have H5 := Lib.hid (five_one (n := E.room) (a := str E.clear.sure) (b := str E.clear.rest) HR1.n.one.2 HR1.s.one.2)
  clear hk hn hp hh hc1 HR1
  go_wp2_with (refine wpList_store rfl 9 _ _ rfl w.heap.size 1 _ _ [_] _ rfl rfl HT1.out.x rfl sizestr (by simp) (str_one _) ?_)
  intro w2 hb2 hw2
  have HT2 := Lib.hid (HT1.out.storeX hb2 hw2)
  have HW2 := Lib.hid hw2
  clear hb2 hw2
  go_wp2_with (refine wpList_store rfl 9 _ _ rfl w.heap.size 2 _ _ [_] _ rfl rfl HT2.out.x rfl sizestr (by simp) (str_one _) ?_)
  intro w3 hb3 hw3
  have HT3 := Lib.hid (HT2.out.storeX hb3 hw3)
  have HW3 := Lib.hid (HW2.out.trans hw3)
  obtain ⟨y0, y1, y2, y3, y4⟩ := HT3.out.x.cells5
  clear hb3 hw3
  go_wp2_with (refine wpList_store rfl 27 _ _ rfl (w.heap.size + 1 + 1) 0 _ _ [_, _, _, _, _] _ rfl rfl HT3.out.y rfl sizeref (by simp) H5.out ?_)
  intro w4 hb4 hw4
  have hw3 := HW3.out
  obtain ⟨x0, x1, x2, x3, x4⟩ := Blk.cells5 hb4
  have FF := Lib.hid (F.out w4 (hw4.os.trans hw3.os) (hw4.tape.trans hw3.tape) (hw4.output.trans hw3.output) (hw4.size.trans hw3.size) (fun k hk => (hw4.block k (by omega)).trans (hw3.block k (by omega))))
  clear hb4 hw4 hw3 y0 y1 y2 y3 y4
  go_wp2
  exact bodyPost_ret (v := .tuple #[refv E.clear r, .bool true]) (by simp [results, Try.results12, go_sem, x0, x1, x2, x3, x4]; exact ⟨rfl, rfl, rfl⟩) rfl FF.out

def stepD (D : Dk) (k : Nat) (n : Int) (xs : List UInt8) : Dk :=
  if k % 7 = 3 then D.sync else if k % 7 = 4 then D.crash n.toNat else if k % 7 = 5 then (if n = 0 then D.write0 xs else if n = 1 then D.write1 xs else D) else if k % 7 = 6 then D.clear
  else if D.log.length + xs.length ≤ D.room then D.append xs else D
def errD (D : Dk) (k : Nat) (n : Int) (xs : List UInt8) : Nat :=
  if k % 7 = 3 then 0 else if k % 7 = 4 then 0 else if k % 7 = 5 then (if n = 0 then 0 else if n = 1 then 0 else 1) else if k % 7 = 6 then 0
  else if D.log.length + xs.length ≤ D.room then 0 else 4
theorem stepD_ok {E : Dk} (h : E.Ok) (k : Nat) (n : Int) {xs : List UInt8} (hl : xs.length ≤ 200) : (stepD E k n xs).Ok := by
  unfold stepD
  split
  · exact Dk.sync_ok h
  split
  · exact Dk.crash_ok h _
  split
  · split
    · exact Dk.write0_ok h (by omega)
    split
    · exact Dk.write1_ok h (by omega)
    · exact h
  split
  · exact Dk.clear_ok h
  split
  · rename_i hf; exact Dk.append_ok h hf
  · exact h
theorem do_any (m : Mem) (r : Rm) (D E : Dk) (o : Op3) (xs : List UInt8) (w : World) (h : Both w m r D E) (hv : Bs w o.v xs) (hvo : 0 < xs.length → VOff m o.v) (hl : xs.length ≤ 200) :
    Calls Try.prog 12 #[.pointer (some ⟨m.b, 0, none⟩), refv E r, opv o] w (DoPost w m r (stepD D o.k o.n xs) (stepD E o.k o.n xs) (errD D o.k o.n xs == errD E o.k o.n xs)) := by
  have hlt : o.k % 7 < 7 := Nat.mod_lt _ (by decide)
  unfold stepD errD
  by_cases h3 : o.k % 7 = 3
  · simp only [if_pos h3]; exact do_sync m r D E o w h (by omega)
  by_cases h4 : o.k % 7 = 4
  · simp only [if_neg h3, if_pos h4]; exact do_crash m r D E o w h (by omega)
  by_cases h5 : o.k % 7 = 5
  · simp only [if_neg h3, if_neg h4, if_pos h5]
    by_cases n0 : o.n = 0
    · simp only [if_pos n0]; exact do_write0 m r D E o xs w h (by omega) hv hvo hl n0
    · by_cases n1 : o.n = 1
      · simp only [if_neg n0, if_pos n1]; exact do_write1 m r D E o xs w h (by omega) hv hvo hl n1
      · simp only [if_neg n0, if_neg n1]; exact do_writex m r D E o xs w h (by omega) hv hvo hl (by simp; omega)
  by_cases h6 : o.k % 7 = 6
  · simp only [if_neg h3, if_neg h4, if_neg h5, if_pos h6]; exact do_clear m r D E o w h (by omega)
  simp only [if_neg h3, if_neg h4, if_neg h5, if_neg h6]
  have hq : o.k % 7 = 0 ∨ o.k % 7 = 1 ∨ o.k % 7 = 2 := by omega
  by_cases hf : D.log.length + xs.length ≤ D.room
  · by_cases hg : E.log.length + xs.length ≤ E.room
    · simp only [if_pos hf, if_pos hg]
      rcases hq with h0 | h0 | h0
      · exact do_append00_0 m r D E o xs w h (by omega) hv hvo hl hf hg
      · exact do_append00_1 m r D E o xs w h (by omega) hv hvo hl hf hg
      · exact do_append00_2 m r D E o xs w h (by omega) hv hvo hl hf hg
    · simp only [if_pos hf, if_neg hg]
      rcases hq with h0 | h0 | h0
      · exact do_append04_0 m r D E o xs w h (by omega) hv hvo hl hf (by omega)
      · exact do_append04_1 m r D E o xs w h (by omega) hv hvo hl hf (by omega)
      · exact do_append04_2 m r D E o xs w h (by omega) hv hvo hl hf (by omega)
  · by_cases hg : E.log.length + xs.length ≤ E.room
    · simp only [if_neg hf, if_pos hg]
      rcases hq with h0 | h0 | h0
      · exact do_append40_0 m r D E o xs w h (by omega) hv hvo hl (by omega) hg
      · exact do_append40_1 m r D E o xs w h (by omega) hv hvo hl (by omega) hg
      · exact do_append40_2 m r D E o xs w h (by omega) hv hvo hl (by omega) hg
    · simp only [if_neg hf, if_neg hg]
      rcases hq with h0 | h0 | h0
      · exact do_append44_0 m r D E o xs w h (by omega) hv hvo hl (by omega) (by omega)
      · exact do_append44_1 m r D E o xs w h (by omega) hv hvo hl (by omega) (by omega)
      · exact do_append44_2 m r D E o xs w h (by omega) hv hvo hl (by omega) (by omega)
end Go.Proofs.Ytbillojamaiagaa
