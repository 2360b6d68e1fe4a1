/-
  Layer 4: the document's Add and Checkpoint.
-/
import Derived.Test.YtbdgdmieggpmhaaW22
import Derived.Deep.RegionHeld
namespace Go.Proofs.Ytbdgdmieggpmhaa.L4
open Go.ChangeShapes Go.WideShapes Go.ChangeAt Go.RowKit Oct By Reg L3
set_option linter.unusedVariables false

/-- what a call that makes a log of the document leaves -/
def RefL (w : World) (old : Nat → Prop) (D : Dk) (g k : Nat) (c : Int) (e : Ending) (w' : World) : Prop := ∃ r', e = .returned (.tuple #[Lv D r' g k, .int .i64 c]) ∧ RefQ w old D r' w'
/-- the box of the receiver and the one of the result -/
structure TwoX (w w' : World) (x y : List Value) : Prop where
  x : Blk w' w.heap.size 52 x
  y : Blk w' (w.heap.size + 1) 52 y
  rb : Rb w w'
theorem TwoX.rbs {w w1 w2 : World} {x y : List Value} (h : TwoX w w1 x y) (hb : Rb w1 w2) : TwoX w w2 x y := ⟨h.x.rb hb, h.y.rb hb, Rb.trans _ _ _ h.rb hb⟩
theorem TwoX.storeX {w w1 w2 : World} {x x' y : List Value} (h : TwoX w w1 x y) (hb : Blk w2 w.heap.size 52 x') (hw : Wrote w.heap.size w1 w2) : TwoX w w2 x' y :=
  ⟨hb, h.y.same (hw.block _ (by omega)), Wrote.below h.rb hw (Nat.le_refl _)⟩
theorem TwoX.storeY {w w1 w2 : World} {x y y' : List Value} (h : TwoX w w1 x y) (hb : Blk w2 (w.heap.size + 1) 52 y') (hw : Wrote (w.heap.size + 1) w1 w2) : TwoX w w2 x y' :=
  ⟨h.x.same (hw.block _ (by omega)), hb, Wrote.below h.rb hw (by omega)⟩
theorem TwoX.start (w : World) (x y : List Value) : TwoX w ((w.alloc (.cells x.toArray 52)).alloc (.cells y.toArray 52)) x y := by
  refine ⟨(Blk.new w _ x).same (heap_alloc_old _ _ (by simp)), ?_, ((Below.refl _ _).alloc (Nat.le_refl _) _).alloc (by simp) _⟩
  have := Blk.new (w.alloc (.cells x.toArray 52)) 52 y
  simpa using this
theorem int_one (n : Int) (i : IntKind) : ∀ v ∈ [Value.int i n], v.oneCell' = true := by simp [Value.oneCell']
theorem sizeint : (Try.prog.info? 3).map (·.size) = some 1 := by kernel_rfl
theorem heldR_wrote {w w' : World} {r : Rm} {D : Dk} {N : Nat} (h : HeldR w r D) (hw : Wrote N w w') (ho : ¬ r.has N) : HeldR w' r D :=
  ⟨h.n.same fun q hq => hw.block q fun e => ho (.inl (e ▸ hq)), h.s.same fun q hq => hw.block q fun e => ho (.inr (e ▸ hq))⟩
theorem heldR_lt {w : World} {r : Rm} {D : Dk} (h : HeldR w r D) : ∀ q, r.has q → q < w.heap.size := fun q hq => hq.elim (h.n.lt q) (h.s.lt q)
theorem size_frame (g : Nat) (s : List UInt8) : ((str (frameB g s)).size : Int) = ((frameB g s).length : Int) := by rw [str_size]

set_option maxRecDepth 100000 in
theorem radd_full (D : Dk) (r : Rm) (g k : Nat) (s : List UInt8) (w0 : World) (h : HeldR w0 r D) (ok : D.Ok) (hk : k ≤ 1048576) (hg : g < 4294967296) (hs : s.length ≤ 900) (hf : freeN D k < (frameB g s).length) :
    Calls Try.prog 57 #[Lv D r g k, .string (str s), .bool false] w0 (RefL w0 r.has D g k 4) := by
  have HS := Lib.hid hs
  have HG := Lib.hid hg
  have HK := Lib.hid hk
  have HH := Lib.hid h
  have HOK := Lib.hid ok
  have HF := Lib.hid hf
  clear hs hg hk h ok hf
  go_enter Try.func57, Try.ntmps57
  go_wp2_with fail
  refine (refframe_any g s _ (by have := HS.out; omega) HG.out).mono ?_
  rintro e w1 ⟨rfl, hr⟩
  have T1 := Lib.hid ((TwoX.start w0 (lcs D r g k) zero7).rbs hr)
  obtain ⟨y0, y1, y2, y3, y4, y5, y6⟩ := T1.out.x.cells7
  clear hr
  go_wp2_with fail
  refine (rfree_any D r g k w1 HOK.out HK.out).mono ?_
  rintro e w2 ⟨rfl, hr⟩
  have T2 := Lib.hid (T1.out.rbs hr)
  have hsz := size_frame g s
  clear y0 y1 y2 y3 y4 y5 y6 hr
  obtain ⟨y0, y1, y2, y3, y4, y5, y6⟩ := T2.out.x.cells7
  have hgt : ((str (frameB g s)).size : Int) > (freeN D k : Int) := by rw [hsz]; have := HF.out; omega
  clear hsz
  go_wp2_with (refine wpList_store rfl 52 _ _ rfl (w0.heap.size + 1) 0 _ _ [_, _, _, _, _, _, _] _ rfl rfl T2.out.y rfl sizeX (by simp) (lcs_one (HH.out.rb T2.out.rb)) ?_)
  intro wz hb hw
  have TZ := Lib.hid (T2.out.storeY hb hw)
  obtain ⟨x0, x1, x2, x3, x4, x5, x6⟩ := TZ.out.y.cells7
  clear hb hw y0 y1 y2 y3 y4 y5 y6
  go_wp2
  exact bodyPost_ret (v := .tuple #[Lv D r g k, .int .i64 4]) (by simp [results, Try.results57, go_sem, x0, x1, x2, x3, x4, x5, x6]) rfl ⟨r, rfl, HH.out.rb TZ.out.rb, TZ.out.rb, fun q hq => .inl hq⟩

set_option maxRecDepth 100000 in
theorem radd_no (D : Dk) (r : Rm) (g k : Nat) (s : List UInt8) (w0 : World) (h : HeldR w0 r D) (ok : D.Ok) (hk : k ≤ 1048576) (hg : g < 4294967296) (hs : s.length ≤ 900) (hf : k < (frameB g s).length) :
    Calls Try.prog 57 #[Lv D r g k, .string (str s), .bool true] w0 (RefL w0 r.has D g k 6) := by
  have HS := Lib.hid hs
  have HG := Lib.hid hg
  have HK := Lib.hid hk
  have HH := Lib.hid h
  have HOK := Lib.hid ok
  have HF := Lib.hid hf
  clear hs hg hk h ok hf
  go_enter Try.func57, Try.ntmps57
  go_wp2_with fail
  refine (refframe_any g s _ (by have := HS.out; omega) HG.out).mono ?_
  rintro e w1 ⟨rfl, hr⟩
  have T1 := Lib.hid ((TwoX.start w0 (lcs D r g k) zero7).rbs hr)
  obtain ⟨y0, y1, y2, y3, y4, y5, y6⟩ := T1.out.x.cells7
  clear hr
  have hgt : ((str (frameB g s)).size : Int) > (k : Int) := by rw [size_frame]; have := HF.out; omega
  go_wp2_with (refine wpList_store rfl 52 _ _ rfl (w0.heap.size + 1) 0 _ _ [_, _, _, _, _, _, _] _ rfl rfl T1.out.y rfl sizeX (by simp) (lcs_one (HH.out.rb T1.out.rb)) ?_)
  intro wz hb hw
  have TZ := Lib.hid (T1.out.storeY hb hw)
  obtain ⟨x0, x1, x2, x3, x4, x5, x6⟩ := TZ.out.y.cells7
  clear hb hw y0 y1 y2 y3 y4 y5 y6
  go_wp2
  exact bodyPost_ret (v := .tuple #[Lv D r g k, .int .i64 6]) (by simp [results, Try.results57, go_sem, x0, x1, x2, x3, x4, x5, x6]) rfl ⟨r, rfl, HH.out.rb TZ.out.rb, TZ.out.rb, fun q hq => .inl hq⟩

set_option maxRecDepth 100000 in
set_option maxHeartbeats 1000000 in
theorem radd_fits (D : Dk) (r : Rm) (g k : Nat) (s : List UInt8) (w0 : World) (h : HeldR w0 r D) (ok : D.Ok) (hk : k ≤ 1048576) (hg : g < 4294967296) (hs : s.length ≤ 900) (hf : (frameB g s).length ≤ freeN D k) :
    Calls Try.prog 57 #[Lv D r g k, .string (str s), .bool false] w0 (RefL w0 r.has (D.append (frameB g s)) g k 0) := by
  have HS := Lib.hid hs
  have HG := Lib.hid hg
  have HK := Lib.hid hk
  have HH := Lib.hid h
  have HOK := Lib.hid ok
  have HF := Lib.hid hf
  clear hs hg hk h ok hf
  go_enter Try.func57, Try.ntmps57
  go_wp2_with fail
  refine (refframe_any g s _ (by have := HS.out; omega) HG.out).mono ?_
  rintro e w1 ⟨rfl, hr⟩
  have T1 := Lib.hid ((TwoX.start w0 (lcs D r g k) zero7).rbs hr)
  obtain ⟨y0, y1, y2, y3, y4, y5, y6⟩ := T1.out.x.cells7
  clear hr
  go_wp2_with fail
  refine (rfree_any D r g k w1 HOK.out HK.out).mono ?_
  rintro e w2 ⟨rfl, hr⟩
  have T2 := Lib.hid (T1.out.rbs hr)
  have hsz := size_frame g s
  clear y0 y1 y2 y3 y4 y5 y6 hr
  obtain ⟨y0, y1, y2, y3, y4, y5, y6⟩ := T2.out.x.cells7
  have hgt : ¬ ((str (frameB g s)).size : Int) > (freeN D k : Int) := by rw [hsz]; have := HF.out; omega
  clear hsz
  have hfl := frameB_le g s (by have := HS.out; omega)
  have CA := Lib.hid (rappend_0 D r (frameB g s) w2 (HH.out.rb T2.out.rb) HOK.out (by have := HS.out; omega) (by have := HF.out; have := HOK.out.1; unfold freeN at *; omega))
  have HFL := Lib.hid hfl
  clear hfl
  go_wp2_with fail
  refine CA.out.mono ?_
  rintro e w3 ⟨r', rfl, hq, hb3, hold⟩
  have T3 := Lib.hid (T2.out.rbs hb3)
  have HQ3 := Lib.hid hq
  have hoff : ∀ N, w0.heap.size ≤ N → N < w2.heap.size → ¬ r'.has N := fun N h1 h2 h3 => by
    rcases hold N h3 with h4 | h4
    · have := heldR_lt HH.out N h4; omega
    · omega
  have HO0 := Lib.hid (hoff w0.heap.size (Nat.le_refl _) T2.out.x.lt)
  have HO1 := Lib.hid (hoff (w0.heap.size + 1) (by omega) T2.out.y.lt)
  have HOLD := Lib.hid (show ∀ q, r'.has q → r.has q ∨ w0.heap.size ≤ q from fun q hq => (hold q hq).imp id fun h => Nat.le_trans T2.out.rb.size h)
  have H5 := Lib.hid (five_one (n := (D.append (frameB g s)).room) (a := str (D.append (frameB g s)).sure) (b := str (D.append (frameB g s)).rest) hq.n.one.2 hq.s.one.2)
  clear hq hb3 hold hoff hgt y0 y1 y2 y3 y4 y5 y6 CA
  generalize D.append (frameB g s) = D' at *
  go_wp2_with (refine wpList_store rfl 50 _ _ rfl w3.heap.size 0 _ _ [_, _, _, _, _] _ rfl rfl (Blk.new w3 50 zero5) rfl sizeref (by simp) H5.out ?_)
  intro w4 hb4 hw4
  have hr4 : Rb w3 w4 := Wrote.below ((Below.refl _ _).alloc (Nat.le_refl _) _) hw4 (Nat.le_refl _)
  obtain ⟨z0, z1, z2, z3, z4⟩ := Blk.cells5 (show Blk w4 w3.heap.size 50 (refcs D' r') from hb4)
  have T4 := Lib.hid (T3.out.rbs hr4)
  have HQ4 := Lib.hid (HQ3.out.rb hr4)
  clear hb4 hw4 hr4
  go_wp2_with (refine wpList_store rfl 50 _ _ rfl w0.heap.size 0 52 _ [_, _, _, _, _] _ rfl rfl T4.out.x rfl sizeref (by simp) H5.out ?_)
  intro w5 hb5 hw5
  have hr5 : Rb w0 w5 := Wrote.below T4.out.rb hw5 (Nat.le_refl _)
  have T5 := Lib.hid (T4.out.storeX (show Blk w5 w0.heap.size 52 (lcs D' r' g k) from hb5) hw5)
  have HQ5 := Lib.hid (heldR_wrote HQ4.out hw5 HO0.out)
  obtain ⟨y0, y1, y2, y3, y4, y5, y6⟩ := T5.out.x.cells7
  clear hb5 hw5 hr5 z0 z1 z2 z3 z4
  go_wp2_with (refine wpList_store rfl 52 _ _ rfl (w0.heap.size + 1) 0 _ _ [_, _, _, _, _, _, _] _ rfl rfl T5.out.y rfl sizeX (by simp) (lcs_one HQ5.out) ?_)
  intro wz hb hw
  have TZ := Lib.hid (T5.out.storeY hb hw)
  obtain ⟨x0, x1, x2, x3, x4, x5, x6⟩ := TZ.out.y.cells7
  have HQZ := Lib.hid (heldR_wrote HQ5.out hw HO1.out)
  clear hb hw y0 y1 y2 y3 y4 y5 y6
  go_wp2
  exact bodyPost_ret (v := .tuple #[Lv D' r' g k, .int .i64 0]) (by simp [results, Try.results57, go_sem, x0, x1, x2, x3, x4, x5, x6]) rfl ⟨r', rfl, HQZ.out, TZ.out.rb, HOLD.out⟩

set_option maxRecDepth 100000 in
set_option maxHeartbeats 1000000 in
theorem radd_kept (D : Dk) (r : Rm) (g k : Nat) (s : List UInt8) (w0 : World) (h : HeldR w0 r D) (ok : D.Ok) (hk : k ≤ 1048576) (hg : g < 4294967296) (hs : s.length ≤ 900) (hf : (frameB g s).length ≤ k ∧ D.log.length + (frameB g s).length ≤ D.room) :
    Calls Try.prog 57 #[Lv D r g k, .string (str s), .bool true] w0 (RefL w0 r.has (D.append (frameB g s)) g (k - (frameB g s).length) 0) := by
  have HS := Lib.hid hs
  have HG := Lib.hid hg
  have HK := Lib.hid hk
  have HH := Lib.hid h
  have HOK := Lib.hid ok
  have HF := Lib.hid hf
  clear hs hg hk h ok hf
  go_enter Try.func57, Try.ntmps57
  go_wp2_with fail
  refine (refframe_any g s _ (by have := HS.out; omega) HG.out).mono ?_
  rintro e w1 ⟨rfl, hr⟩
  have T1 := Lib.hid ((TwoX.start w0 (lcs D r g k) zero7).rbs hr)
  obtain ⟨y0, y1, y2, y3, y4, y5, y6⟩ := T1.out.x.cells7
  clear hr
  have hgt : ¬ ((str (frameB g s)).size : Int) > (k : Int) := by rw [size_frame]; have := HF.out; omega
  have hfl := frameB_le g s (by have := HS.out; omega)
  have CA := Lib.hid (rappend_0 D r (frameB g s) w1 (HH.out.rb T1.out.rb) HOK.out (by have := HS.out; omega) (by exact HF.out.2))
  have HFL := Lib.hid hfl
  clear hfl
  go_wp2_with fail
  refine CA.out.mono ?_
  rintro e w3 ⟨r', rfl, hq, hb3, hold⟩
  have T3 := Lib.hid (T1.out.rbs hb3)
  have HQ3 := Lib.hid hq
  have hoff : ∀ N, w0.heap.size ≤ N → N < w1.heap.size → ¬ r'.has N := fun N h1 h2 h3 => by
    rcases hold N h3 with h4 | h4
    · have := heldR_lt HH.out N h4; omega
    · omega
  have HO0 := Lib.hid (hoff w0.heap.size (Nat.le_refl _) T1.out.x.lt)
  have HO1 := Lib.hid (hoff (w0.heap.size + 1) (by omega) T1.out.y.lt)
  have HOLD := Lib.hid (show ∀ q, r'.has q → r.has q ∨ w0.heap.size ≤ q from fun q hq => (hold q hq).imp id fun h => Nat.le_trans T1.out.rb.size h)
  have H5 := Lib.hid (five_one (n := (D.append (frameB g s)).room) (a := str (D.append (frameB g s)).sure) (b := str (D.append (frameB g s)).rest) hq.n.one.2 hq.s.one.2)
  clear hq hb3 hold hoff hgt y0 y1 y2 y3 y4 y5 y6 CA
  generalize D.append (frameB g s) = D' at *
  go_wp2_with (refine wpList_store rfl 50 _ _ rfl w3.heap.size 0 _ _ [_, _, _, _, _] _ rfl rfl (Blk.new w3 50 zero5) rfl sizeref (by simp) H5.out ?_)
  intro w4 hb4 hw4
  have hr4 : Rb w3 w4 := Wrote.below ((Below.refl _ _).alloc (Nat.le_refl _) _) hw4 (Nat.le_refl _)
  obtain ⟨z0, z1, z2, z3, z4⟩ := Blk.cells5 (show Blk w4 w3.heap.size 50 (refcs D' r') from hb4)
  have T4 := Lib.hid (T3.out.rbs hr4)
  have HQ4 := Lib.hid (HQ3.out.rb hr4)
  clear hb4 hw4 hr4
  go_wp2_with (refine wpList_store rfl 50 _ _ rfl w0.heap.size 0 52 _ [_, _, _, _, _] _ rfl rfl T4.out.x rfl sizeref (by simp) H5.out ?_)
  intro w5 hb5 hw5
  have hr5 : Rb w0 w5 := Wrote.below T4.out.rb hw5 (Nat.le_refl _)
  have T5 := Lib.hid (T4.out.storeX (show Blk w5 w0.heap.size 52 (lcs D' r' g k) from hb5) hw5)
  have HQ5 := Lib.hid (heldR_wrote HQ4.out hw5 HO0.out)
  obtain ⟨y0, y1, y2, y3, y4, y5, y6⟩ := T5.out.x.cells7
  clear hb5 hw5 hr5 z0 z1 z2 z3 z4
  have hkz : IntKind.i64.wrap ((k : Int) - ((str (frameB g s)).size : Int)) = ((k - (frameB g s).length : Nat) : Int) := by rw [size_frame, IntWalk.i64_in _ (by have := HF.out; have := HK.out; omega)]; have := HF.out; omega
  obtain ⟨k', hk'⟩ : ∃ k', k' = k - (frameB g s).length := ⟨_, rfl⟩
  rw [← hk'] at hkz ⊢
  have HKE := Lib.hid hk'
  clear hk'
  go_wp2_with (refine wpList_store rfl 3 _ _ rfl w0.heap.size 6 52 _ [_] _ rfl rfl T5.out.x rfl sizeint (by simp) (int_one _ _) ?_)
  intro w6 hb6 hw6
  have T6 := Lib.hid (T5.out.storeX (show Blk w6 w0.heap.size 52 (lcs D' r' g k') from hb6) hw6)
  have HQ6 := Lib.hid (heldR_wrote HQ5.out hw6 HO0.out)
  clear hb6 hw6 y0 y1 y2 y3 y4 y5 y6 hkz
  obtain ⟨y0, y1, y2, y3, y4, y5, y6⟩ := T6.out.x.cells7
  go_wp2_with (refine wpList_store rfl 52 _ _ rfl (w0.heap.size + 1) 0 _ _ [_, _, _, _, _, _, _] _ rfl rfl T6.out.y rfl sizeX (by simp) (lcs_one HQ6.out) ?_)
  intro wz hb hw
  have TZ := Lib.hid (T6.out.storeY hb hw)
  obtain ⟨x0, x1, x2, x3, x4, x5, x6⟩ := TZ.out.y.cells7
  have HQZ := Lib.hid (heldR_wrote HQ6.out hw HO1.out)
  clear hb hw y0 y1 y2 y3 y4 y5 y6
  go_wp2
  exact bodyPost_ret (v := .tuple #[Lv D' r' g k', .int .i64 0]) (by simp [results, Try.results57, go_sem, x0, x1, x2, x3, x4, x5, x6]) rfl ⟨r', by rw [HKE.out], HQZ.out, TZ.out.rb, HOLD.out⟩

set_option maxRecDepth 100000 in
theorem rcheck_full (D : Dk) (r : Rm) (k : Nat) (s : List UInt8) (w0 : World) (h : HeldR w0 r D) (hs : s.length ≤ 900) :
    Calls Try.prog 59 #[Lv D r 4294967295 k, .string (str s)] w0 (RefL w0 r.has D 4294967295 k 4) := by
  have hsz : ¬ ((str s).size : Int) > 1048576 := by rw [str_size]; omega
  have HH := Lib.hid h
  have T1 := Lib.hid (TwoX.start w0 (lcs D r 4294967295 k) zero7)
  clear h hs
  go_enter Try.func59, Try.ntmps59
  go_wp2_with (refine wpList_store rfl 52 _ _ rfl (w0.heap.size + 1) 0 _ _ [_, _, _, _, _, _, _] _ rfl rfl T1.out.y rfl sizeX (by simp) (lcs_one (HH.out.rb T1.out.rb)) ?_)
  intro wz hb hw
  have TZ := Lib.hid (T1.out.storeY hb hw)
  obtain ⟨x0, x1, x2, x3, x4, x5, x6⟩ := TZ.out.y.cells7
  clear hb hw
  go_wp2
  exact bodyPost_ret (v := .tuple #[Lv D r 4294967295 k, .int .i64 4]) (by simp [results, Try.results59, go_sem, x0, x1, x2, x3, x4, x5, x6]) rfl ⟨r, rfl, HH.out.rb TZ.out.rb, TZ.out.rb, fun q hq => .inl hq⟩

theorem Blk_set {w : World} {N i : Nat} {T : TypeId} {cs : List Value} (h : Blk w N T cs) (hi : i < cs.length) (v : Value) : Blk (w.setCell ⟨N, i, none⟩ v) N T (cs.set i v) := by
  have hN := h.lt
  unfold Blk at *
  simp [World.setCell, Array.getElem?_modify, h]
theorem wrote_set (w : World) (N i : Nat) (v : Value) : Wrote N w (w.setCell ⟨N, i, none⟩ v) := by
  exact ⟨rfl, rfl, rfl, by simp [World.setCell], fun k hk => Below.heap_setCell w _ _ k hk⟩
def put5 (w : World) (N : Nat) (a0 a1 a2 a3 a4 : Value) : World := ((((w.setCell ⟨N, 0, none⟩ a0).setCell ⟨N, 1, none⟩ a1).setCell ⟨N, 2, none⟩ a2).setCell ⟨N, 3, none⟩ a3).setCell ⟨N, 4, none⟩ a4
theorem put5_blk {w : World} {N : Nat} {T : TypeId} {b0 b1 b2 b3 b4 : Value} (h : Blk w N T [b0, b1, b2, b3, b4]) (a0 a1 a2 a3 a4 : Value) : Blk (put5 w N a0 a1 a2 a3 a4) N T [a0, a1, a2, a3, a4] ∧ Wrote N w (put5 w N a0 a1 a2 a3 a4) := by
  refine ⟨?_, (((((wrote_set w N 0 a0).trans (wrote_set _ N 1 a1)).trans (wrote_set _ N 2 a2)).trans (wrote_set _ N 3 a3)).trans (wrote_set _ N 4 a4))⟩
  exact Blk_set (Blk_set (Blk_set (Blk_set (Blk_set h (by simp) a0) (by simp) a1) (by simp) a2) (by simp) a3) (by simp) a4

/-- behind the document's Write -/
structure CkC (w0 : World) (cs : List Value) (r : Rm) (D' : Dk) (wx : World) (N : Nat) (r' : Rm) : Prop where
  two : TwoX w0 wx cs zero7
  n : Blk wx N 50 (refcs D' r')
  held : HeldR wx r' D'
  old : ∀ q, r'.has q → r.has q ∨ w0.heap.size ≤ q
  o0 : ¬ r'.has w0.heap.size
  o1 : ¬ r'.has (w0.heap.size + 1)
  on : ¬ r'.has N
  nn : w0.heap.size + 1 < N
section
variable {w0 w4 W : World} {cs : List Value} {r r' : Rm} {D D' : Dk} {N : Nat}
theorem ck_off (h0 : HeldR w0 r D) (hT : TwoX w0 W cs zero7) (hold : ∀ q, r'.has q → r.has q ∨ W.heap.size ≤ q) : ∀ N, w0.heap.size ≤ N → N < W.heap.size → ¬ r'.has N := fun N h1 h2 h3 => by
  rcases hold N h3 with h4 | h4
  · have := heldR_lt h0 N h4; omega
  · omega
theorem ck_new (h0 : HeldR w0 r D) (hT : TwoX w0 W cs zero7) (hr : Rb W w4) (hq : HeldR w4 r' D') (hold : ∀ q, r'.has q → r.has q ∨ W.heap.size ≤ q) :
    CkC w0 cs r D' (w4.alloc (.cells (refcs D' r').toArray 50)) w4.heap.size r' := by
  have hx := hT.x.lt
  have hy := hT.y.lt
  have hs := hr.size
  have hb : Rb w4 (w4.alloc (.cells (refcs D' r').toArray 50)) := (Below.refl _ _).alloc (Nat.le_refl _) _
  exact ⟨(hT.rbs hr).rbs hb, Blk.new w4 _ _, hq.rb hb, fun q hq => (hold q hq).imp id fun h => by omega, ck_off h0 hT hold _ (Nat.le_refl _) hx, ck_off h0 hT hold _ (by omega) hy, fun h => by have := heldR_lt hq _ h; omega, by omega⟩
theorem ck_put (h0 : HeldR w0 r D) (hT : TwoX w0 W cs zero7) (hr : Rb W w4) (hq : HeldR w4 r' D') (hold : ∀ q, r'.has q → r.has q ∨ W.heap.size ≤ q) (hN : w0.heap.size + 1 < N) (hN2 : N < W.heap.size) (hb : Blk w4 N 50 zero5) :
    CkC w0 cs r D' (put5 w4 N (.int .i64 D'.room) (.string (str D'.sure)) (.string (str D'.rest)) r'.nv r'.sv) N r' := by
  have hx := hT.x.lt
  have hy := hT.y.lt
  obtain ⟨h1, h2⟩ := put5_blk hb (.int .i64 D'.room) (.string (str D'.sure)) (.string (str D'.rest)) r'.nv r'.sv
  have hT4 := hT.rbs hr
  exact ⟨⟨hT4.x.same (h2.block _ (by omega)), hT4.y.same (h2.block _ (by omega)), Wrote.below hT4.rb h2 (by omega)⟩, h1, heldR_wrote hq h2 (ck_off h0 hT hold N (by omega) hN2), fun q hq => (hold q hq).imp id fun h => by omega,
    ck_off h0 hT hold _ (Nat.le_refl _) hx, ck_off h0 hT hold _ (by omega) hy, ck_off h0 hT hold N (by omega) hN2, hN⟩
end

set_option maxRecDepth 100000 in
set_option maxHeartbeats 2000000 in
theorem rcheck_y0 (D : Dk) (r : Rm) (g k : Nat) (s : List UInt8) (w0 : World) (h : HeldR w0 r D) (ok : D.Ok) (hs : s.length ≤ 900) (hg : g + 1 < 4294967296) (hp : (g + 1) % 2 = 0) :
    Calls Try.prog 59 #[Lv D r g k, .string (str s)] w0 (RefL w0 r.has (((D.write0 (frameB (g + 1) s)).sync).clear) (g + 1) k 0) := by
  have hsz : ¬ ((str s).size : Int) > 1048576 := by rw [str_size]; omega
  have hg2 : ((g : Int) == 4294967295) = false := by rw [beq_eq_false_iff_ne]; omega
  have hg3 : ¬ (g : Int) = 4294967295 := by omega
  have hw : IntKind.u32.wrap ((g : Int) + 1) = ((g + 1 : Nat) : Int) := by rw [IntKind.wrap_u32]; omega
  have hm : IntKind.i64.wrap (((g + 1 : Nat) : Int).tmod 2) = 0 := by rw [Int.tmod_eq_emod_of_nonneg (by omega), show ((g + 1 : Nat) : Int) % 2 = 0 by omega]; rfl
  have HH := Lib.hid h
  have HG := Lib.hid hg
  have HS := Lib.hid hs
  have HOK := Lib.hid ok
  have HFL := Lib.hid (show (frameB (g + 1) s).length ≤ 1000 by have := frameB_le (g + 1) s (by omega); omega)
  have T1 := Lib.hid (TwoX.start w0 (lcs D r g k) zero7)
  clear h hs ok hg hp
  generalize g + 1 = g1 at *
  go_enter Try.func59, Try.ntmps59
  go_wp2_with (refine wpList_store rfl 22 _ _ rfl w0.heap.size 5 52 _ [_] _ rfl rfl T1.out.x rfl sizeu32 (by simp) (int_one _ _) ?_)
  intro w2 hb2 hw2
  have T2 := Lib.hid (T1.out.storeX (show Blk w2 w0.heap.size 52 (lcs D r g1 k) from hb2) hw2)
  obtain ⟨y0, y1, y2, y3, y4, y5, y6⟩ := T2.out.x.cells7
  clear hb2 hw2 hg2 hg3 hw
  go_upto_region 6 with (fail)
  go_cut [6, 7] (fun p q wx => ∃ N r', p = .pointer (some ⟨N, 0, none⟩) ∧ q = .int .i64 0 ∧ CkC w0 (lcs D r g1 k) r (D.write0 (frameB g1 s)) wx N r')
  case first =>
    have hne2 : w2.heap.size ≠ w0.heap.size := Nat.ne_of_gt T2.out.x.lt
    have RF : ∀ W w3, Rb w2 W → Rb W w3 → Rb w2 w3 := fun W w3 h1 h2 => Rb.trans _ _ _ h1 h2
    go_region_held (fun w' => w'.cell? ⟨w0.heap.size, 0, none⟩ = some (.int .i64 D.room) ∧ w'.cell? ⟨w0.heap.size, 1, none⟩ = some (.string (str D.sure)) ∧ w'.cell? ⟨w0.heap.size, 2, none⟩ = some (.string (str D.rest)) ∧ w'.cell? ⟨w0.heap.size, 3, none⟩ = some r.nv ∧ w'.cell? ⟨w0.heap.size, 4, none⟩ = some r.sv ∧ w'.cell? ⟨w0.heap.size, 5, none⟩ = some (.int .u32 g1)) (go_keep) (first | (go_at_call 14; refine (refframe_any g1 s _ (by have := HS.out; omega) HG.out).mono ?_; clear y0 y1 y2 y3 y4 y5 y6; rintro e w3 ⟨rfl, hr⟩; have HR3 := Lib.hid (RF _ _ (by first | exact Rb.drew w2 | exact ((Rb.drew w2).alloc (Rb.drew w2).size _)) hr); have T3 := Lib.hid (T2.out.rbs HR3.out); have hne3 : w3.heap.size ≠ w0.heap.size := Nat.ne_of_gt T3.out.x.lt; (first | (have HBN := Lib.hid (show Blk w3 w2.heap.size 50 zero5 from (Blk.new (World.drew w2) 50 zero5).rb hr)) | skip); obtain ⟨x0, x1, x2, x3, x4, x5, x6⟩ := T3.out.x.cells7; clear hr) | (go_at_call 75; (first | (refine (rwrite_y0 D r (frameB g1 s) w3 ((HH.out.rb T2.out.rb).rb HR3.out)).mono ?_; clear x0 x1 x2 x3 x4 x5 x6; rintro e w4 ⟨⟨nv, sv⟩, rfl, hq, hb4, hold⟩; have TW := Lib.hid T3.out; (first | (have HB4N := Lib.hid (HBN.out.rb hb4); obtain ⟨q0, q1, q2, q3, q4⟩ := HB4N.out.cells5; have f0 := HB4N.out.frozen 0; have f1 := HB4N.out.frozen 1; have f2 := HB4N.out.frozen 2; have f3 := HB4N.out.frozen 3; have f4 := HB4N.out.frozen 4) | skip)) | (refine (rwrite_y0 D r (frameB g1 s) (w3.alloc (.cells zero5.toArray 50)) (((HH.out.rb T2.out.rb).rb HR3.out).rb ((Below.refl _ w3).alloc (Nat.le_refl _) _))).mono ?_; clear x0 x1 x2 x3 x4 x5 x6; rintro e w4 ⟨⟨nv, sv⟩, rfl, hq, hb4, hold⟩; have TW := Lib.hid (T3.out.rbs ((Below.refl _ w3).alloc (Nat.le_refl _) (.cells zero5.toArray 50))); have HB4N := Lib.hid ((Blk.new w3 50 zero5).rb hb4); obtain ⟨q0, q1, q2, q3, q4⟩ := HB4N.out.cells5; have f0 := HB4N.out.frozen 0; have f1 := HB4N.out.frozen 1; have f2 := HB4N.out.frozen 2; have f3 := HB4N.out.frozen 3; have f4 := HB4N.out.frozen 4)); have HQ0 := Lib.hid hq; obtain ⟨gn, capn, en, -⟩ := id hq.n; obtain ⟨gs, caps, es, -⟩ := id hq.s; dsimp only at en es; subst en es; have HQ4 := Lib.hid hq; have T4 := Lib.hid (TW.out.rbs hb4); obtain ⟨v0, v1, v2, v3, v4, v5, v6⟩ := T4.out.x.cells7; have hne4 : w4.heap.size ≠ w0.heap.size := Nat.ne_of_gt T4.out.x.lt; have HB4 := Lib.hid hb4; have HO4 := Lib.hid hold; clear hq hb4 hold))
    all_goals
      go_wp2
      go_meet
      generalize D.write0 (frameB g1 s) = D1 at *
      first
        | (have h1 := HB4N; have h2 := HBN; have hp := ck_put (N := w2.heap.size) HH.out TW.out HB4.out HQ0.out HO4.out T2.out.y.lt HBN.out.lt HB4N.out; dsimp only [put5] at hp; exact ⟨w2.heap.size, (⟨.slice (some ⟨gn, 0, none⟩) 2 capn, .slice (some ⟨gs, 0, none⟩) 2 caps⟩ : Rm), rfl, rfl, hp⟩)
        | (have h1 := HB4N; have hp := ck_put (N := w3.heap.size) HH.out TW.out HB4.out HQ0.out HO4.out T3.out.y.lt (by rw [World.size_alloc]; omega) HB4N.out; dsimp only [put5] at hp; exact ⟨w3.heap.size, (⟨.slice (some ⟨gn, 0, none⟩) 2 capn, .slice (some ⟨gs, 0, none⟩) 2 caps⟩ : Rm), rfl, rfl, hp⟩)
        | (have hp := ck_new HH.out TW.out HB4.out HQ0.out HO4.out; exact ⟨w4.heap.size, (⟨.slice (some ⟨gn, 0, none⟩) 2 capn, .slice (some ⟨gs, 0, none⟩) 2 caps⟩ : Rm), rfl, rfl, hp⟩)
  case rest =>
    obtain ⟨N, r1, rfl, rfl, hc⟩ := hcut
    have hok1 : (D.write0 (frameB g1 s)).Ok := Dk.write0_ok HOK.out HFL.out
    have CC := Lib.hid hc
    obtain ⟨z0, z1, z2, z3, z4⟩ := Blk.cells5 hc.n
    have C6 := Lib.hid (rsync_any (D.write0 (frameB g1 s)) r1 wc hc.held hok1)
    clear hc hok1 y0 y1 y2 y3 y4 y5 y6
    generalize D.write0 (frameB g1 s) = D1 at *
    go_wp2_with fail
    refine C6.out.mono ?_
    rintro e w7 ⟨r2, rfl, hq, hb, hold⟩
    have T7 := Lib.hid (CC.out.two.rbs hb)
    have HN7 := Lib.hid (CC.out.n.rb hb)
    have HQ7 := Lib.hid hq
    have hlt := CC.out.n.lt
    have hoff : ∀ M, M = w0.heap.size ∨ M = w0.heap.size + 1 ∨ M = N → ¬ r2.has M := fun M hM h => by
      rcases hold M h with h1 | h1
      · rcases hM with rfl | rfl | rfl
        · exact CC.out.o0 h1
        · exact CC.out.o1 h1
        · exact CC.out.on h1
      · have := CC.out.nn
        rcases hM with rfl | rfl | rfl <;> omega
    have HOFF := Lib.hid hoff
    have HOLD := Lib.hid (show ∀ q, r2.has q → r.has q ∨ w0.heap.size ≤ q from fun q hq => by
      rcases hold q hq with h | h
      · exact CC.out.old q h
      · have := CC.out.nn; exact .inr (by omega))
    have HNN := Lib.hid CC.out.nn
    have H5 := Lib.hid (five_one (n := D1.sync.room) (a := str D1.sync.sure) (b := str D1.sync.rest) hq.n.one.2 hq.s.one.2)
    have H5b := Lib.hid (five_one (n := D1.sync.clear.room) (a := str D1.sync.clear.sure) (b := str D1.sync.clear.rest) hq.n.one.2 hq.s.one.2)
    clear hq hb hold hlt hoff z0 z1 z2 z3 z4
    go_wp2_with (refine wpList_store rfl 50 _ _ rfl N 0 _ _ [_, _, _, _, _] _ rfl rfl HN7.out rfl sizeref (by simp) H5.out ?_)
    intro w8 hb8 hw8
    have HN8 := Lib.hid (show Blk w8 N 50 (refcs D1.sync r2) from hb8)
    have HQ8 := Lib.hid (heldR_wrote HQ7.out hw8 (HOFF.out N (.inr (.inr rfl))))
    have T8 := Lib.hid (show TwoX w0 w8 (lcs D r g1 k) zero7 from ⟨T7.out.x.same (hw8.block _ (by have := HNN.out; omega)), T7.out.y.same (hw8.block _ (by have := HNN.out; omega)), Wrote.below T7.out.rb hw8 (by have := HNN.out; omega)⟩)
    clear hb8 hw8
    go_wp2_with (refine wpList_store rfl 9 _ _ rfl N 1 _ _ [_] _ rfl rfl HN8.out rfl sizestr (by simp) (str_one _) ?_)
    intro w9 hb9 hw9
    have HN9 := Lib.hid (show Blk w9 N 50 (refcs D1.sync.clear r2) from hb9)
    have HQ9 := Lib.hid (show HeldR w9 r2 D1.sync.clear from ⟨(heldR_wrote HQ8.out hw9 (HOFF.out N (.inr (.inr rfl)))).n, (heldR_wrote HQ8.out hw9 (HOFF.out N (.inr (.inr rfl)))).s⟩)
    have T9 := Lib.hid (show TwoX w0 w9 (lcs D r g1 k) zero7 from ⟨T8.out.x.same (hw9.block _ (by have := HNN.out; omega)), T8.out.y.same (hw9.block _ (by have := HNN.out; omega)), Wrote.below T8.out.rb hw9 (by have := HNN.out; omega)⟩)
    obtain ⟨z0, z1, z2, z3, z4⟩ := Blk.cells5 HN9.out
    clear hb9 hw9
    generalize D1.sync.clear = D2 at *
    go_wp2_with (refine wpList_store rfl 50 _ _ rfl w0.heap.size 0 52 _ [_, _, _, _, _] _ rfl rfl T9.out.x rfl sizeref (by simp) H5b.out ?_)
    intro w10 hb10 hw10
    have T10 := Lib.hid (T9.out.storeX (show Blk w10 w0.heap.size 52 (lcs D2 r2 g1 k) from hb10) hw10)
    have HQ10 := Lib.hid (heldR_wrote HQ9.out hw10 (HOFF.out _ (.inl rfl)))
    obtain ⟨y0, y1, y2, y3, y4, y5, y6⟩ := T10.out.x.cells7
    clear hb10 hw10 z0 z1 z2 z3 z4
    go_wp2_with (refine wpList_store rfl 52 _ _ rfl (w0.heap.size + 1) 0 _ _ [_, _, _, _, _, _, _] _ rfl rfl T10.out.y rfl sizeX (by simp) (lcs_one HQ10.out) ?_)
    intro wz hb hw
    have TZ := Lib.hid (T10.out.storeY hb hw)
    have HQZ := Lib.hid (heldR_wrote HQ10.out hw (HOFF.out _ (.inr (.inl rfl))))
    obtain ⟨x0, x1, x2, x3, x4, x5, x6⟩ := TZ.out.y.cells7
    clear hb hw y0 y1 y2 y3 y4 y5 y6
    go_wp2
    exact bodyPost_ret (v := .tuple #[Lv D2 r2 g1 k, .int .i64 0]) (by simp [results, Try.results59, go_sem, x0, x1, x2, x3, x4, x5, x6]) rfl ⟨r2, rfl, HQZ.out, TZ.out.rb, HOLD.out⟩

set_option maxRecDepth 100000 in
set_option maxHeartbeats 2000000 in
theorem rcheck_y1 (D : Dk) (r : Rm) (g k : Nat) (s : List UInt8) (w0 : World) (h : HeldR w0 r D) (ok : D.Ok) (hs : s.length ≤ 900) (hg : g + 1 < 4294967296) (hp : (g + 1) % 2 = 1) :
    Calls Try.prog 59 #[Lv D r g k, .string (str s)] w0 (RefL w0 r.has (((D.write1 (frameB (g + 1) s)).sync).clear) (g + 1) k 0) := by
  have hsz : ¬ ((str s).size : Int) > 1048576 := by rw [str_size]; omega
  have hg2 : ((g : Int) == 4294967295) = false := by rw [beq_eq_false_iff_ne]; omega
  have hg3 : ¬ (g : Int) = 4294967295 := by omega
  have hw : IntKind.u32.wrap ((g : Int) + 1) = ((g + 1 : Nat) : Int) := by rw [IntKind.wrap_u32]; omega
  have hm : IntKind.i64.wrap (((g + 1 : Nat) : Int).tmod 2) = 1 := by rw [Int.tmod_eq_emod_of_nonneg (by omega), show ((g + 1 : Nat) : Int) % 2 = 1 by omega]; rfl
  have HH := Lib.hid h
  have HG := Lib.hid hg
  have HS := Lib.hid hs
  have HOK := Lib.hid ok
  have HFL := Lib.hid (show (frameB (g + 1) s).length ≤ 1000 by have := frameB_le (g + 1) s (by omega); omega)
  have T1 := Lib.hid (TwoX.start w0 (lcs D r g k) zero7)
  clear h hs ok hg hp
  generalize g + 1 = g1 at *
  go_enter Try.func59, Try.ntmps59
  go_wp2_with (refine wpList_store rfl 22 _ _ rfl w0.heap.size 5 52 _ [_] _ rfl rfl T1.out.x rfl sizeu32 (by simp) (int_one _ _) ?_)
  intro w2 hb2 hw2
  have T2 := Lib.hid (T1.out.storeX (show Blk w2 w0.heap.size 52 (lcs D r g1 k) from hb2) hw2)
  obtain ⟨y0, y1, y2, y3, y4, y5, y6⟩ := T2.out.x.cells7
  clear hb2 hw2 hg2 hg3 hw
  go_upto_region 6 with (fail)
  go_cut [6, 7] (fun p q wx => ∃ N r', p = .pointer (some ⟨N, 0, none⟩) ∧ q = .int .i64 0 ∧ CkC w0 (lcs D r g1 k) r (D.write1 (frameB g1 s)) wx N r')
  case first =>
    have hne2 : w2.heap.size ≠ w0.heap.size := Nat.ne_of_gt T2.out.x.lt
    have RF : ∀ W w3, Rb w2 W → Rb W w3 → Rb w2 w3 := fun W w3 h1 h2 => Rb.trans _ _ _ h1 h2
    go_region_held (fun w' => w'.cell? ⟨w0.heap.size, 0, none⟩ = some (.int .i64 D.room) ∧ w'.cell? ⟨w0.heap.size, 1, none⟩ = some (.string (str D.sure)) ∧ w'.cell? ⟨w0.heap.size, 2, none⟩ = some (.string (str D.rest)) ∧ w'.cell? ⟨w0.heap.size, 3, none⟩ = some r.nv ∧ w'.cell? ⟨w0.heap.size, 4, none⟩ = some r.sv ∧ w'.cell? ⟨w0.heap.size, 5, none⟩ = some (.int .u32 g1)) (go_keep) (first | (go_at_call 14; refine (refframe_any g1 s _ (by have := HS.out; omega) HG.out).mono ?_; clear y0 y1 y2 y3 y4 y5 y6; rintro e w3 ⟨rfl, hr⟩; have HR3 := Lib.hid (RF _ _ (by first | exact Rb.drew w2 | exact ((Rb.drew w2).alloc (Rb.drew w2).size _)) hr); have T3 := Lib.hid (T2.out.rbs HR3.out); have hne3 : w3.heap.size ≠ w0.heap.size := Nat.ne_of_gt T3.out.x.lt; (first | (have HBN := Lib.hid (show Blk w3 w2.heap.size 50 zero5 from (Blk.new (World.drew w2) 50 zero5).rb hr)) | skip); obtain ⟨x0, x1, x2, x3, x4, x5, x6⟩ := T3.out.x.cells7; clear hr) | (go_at_call 75; (first | (refine (rwrite_y1 D r (frameB g1 s) w3 ((HH.out.rb T2.out.rb).rb HR3.out)).mono ?_; clear x0 x1 x2 x3 x4 x5 x6; rintro e w4 ⟨⟨nv, sv⟩, rfl, hq, hb4, hold⟩; have TW := Lib.hid T3.out; (first | (have HB4N := Lib.hid (HBN.out.rb hb4); obtain ⟨q0, q1, q2, q3, q4⟩ := HB4N.out.cells5; have f0 := HB4N.out.frozen 0; have f1 := HB4N.out.frozen 1; have f2 := HB4N.out.frozen 2; have f3 := HB4N.out.frozen 3; have f4 := HB4N.out.frozen 4) | skip)) | (refine (rwrite_y1 D r (frameB g1 s) (w3.alloc (.cells zero5.toArray 50)) (((HH.out.rb T2.out.rb).rb HR3.out).rb ((Below.refl _ w3).alloc (Nat.le_refl _) _))).mono ?_; clear x0 x1 x2 x3 x4 x5 x6; rintro e w4 ⟨⟨nv, sv⟩, rfl, hq, hb4, hold⟩; have TW := Lib.hid (T3.out.rbs ((Below.refl _ w3).alloc (Nat.le_refl _) (.cells zero5.toArray 50))); have HB4N := Lib.hid ((Blk.new w3 50 zero5).rb hb4); obtain ⟨q0, q1, q2, q3, q4⟩ := HB4N.out.cells5; have f0 := HB4N.out.frozen 0; have f1 := HB4N.out.frozen 1; have f2 := HB4N.out.frozen 2; have f3 := HB4N.out.frozen 3; have f4 := HB4N.out.frozen 4)); have HQ0 := Lib.hid hq; obtain ⟨gn, capn, en, -⟩ := id hq.n; obtain ⟨gs, caps, es, -⟩ := id hq.s; dsimp only at en es; subst en es; have HQ4 := Lib.hid hq; have T4 := Lib.hid (TW.out.rbs hb4); obtain ⟨v0, v1, v2, v3, v4, v5, v6⟩ := T4.out.x.cells7; have hne4 : w4.heap.size ≠ w0.heap.size := Nat.ne_of_gt T4.out.x.lt; have HB4 := Lib.hid hb4; have HO4 := Lib.hid hold; clear hq hb4 hold))
    all_goals
      go_wp2
      go_meet
      generalize D.write1 (frameB g1 s) = D1 at *
      first
        | (have h1 := HB4N; have h2 := HBN; have hp := ck_put (N := w2.heap.size) HH.out TW.out HB4.out HQ0.out HO4.out T2.out.y.lt HBN.out.lt HB4N.out; dsimp only [put5] at hp; exact ⟨w2.heap.size, (⟨.slice (some ⟨gn, 0, none⟩) 2 capn, .slice (some ⟨gs, 0, none⟩) 2 caps⟩ : Rm), rfl, rfl, hp⟩)
        | (have h1 := HB4N; have hp := ck_put (N := w3.heap.size) HH.out TW.out HB4.out HQ0.out HO4.out T3.out.y.lt (by rw [World.size_alloc]; omega) HB4N.out; dsimp only [put5] at hp; exact ⟨w3.heap.size, (⟨.slice (some ⟨gn, 0, none⟩) 2 capn, .slice (some ⟨gs, 0, none⟩) 2 caps⟩ : Rm), rfl, rfl, hp⟩)
        | (have hp := ck_new HH.out TW.out HB4.out HQ0.out HO4.out; exact ⟨w4.heap.size, (⟨.slice (some ⟨gn, 0, none⟩) 2 capn, .slice (some ⟨gs, 0, none⟩) 2 caps⟩ : Rm), rfl, rfl, hp⟩)
  case rest =>
    obtain ⟨N, r1, rfl, rfl, hc⟩ := hcut
    have hok1 : (D.write1 (frameB g1 s)).Ok := Dk.write1_ok HOK.out HFL.out
    have CC := Lib.hid hc
    obtain ⟨z0, z1, z2, z3, z4⟩ := Blk.cells5 hc.n
    have C6 := Lib.hid (rsync_any (D.write1 (frameB g1 s)) r1 wc hc.held hok1)
    clear hc hok1 y0 y1 y2 y3 y4 y5 y6
    generalize D.write1 (frameB g1 s) = D1 at *
    go_wp2_with fail
    refine C6.out.mono ?_
    rintro e w7 ⟨r2, rfl, hq, hb, hold⟩
    have T7 := Lib.hid (CC.out.two.rbs hb)
    have HN7 := Lib.hid (CC.out.n.rb hb)
    have HQ7 := Lib.hid hq
    have hlt := CC.out.n.lt
    have hoff : ∀ M, M = w0.heap.size ∨ M = w0.heap.size + 1 ∨ M = N → ¬ r2.has M := fun M hM h => by
      rcases hold M h with h1 | h1
      · rcases hM with rfl | rfl | rfl
        · exact CC.out.o0 h1
        · exact CC.out.o1 h1
        · exact CC.out.on h1
      · have := CC.out.nn
        rcases hM with rfl | rfl | rfl <;> omega
    have HOFF := Lib.hid hoff
    have HOLD := Lib.hid (show ∀ q, r2.has q → r.has q ∨ w0.heap.size ≤ q from fun q hq => by
      rcases hold q hq with h | h
      · exact CC.out.old q h
      · have := CC.out.nn; exact .inr (by omega))
    have HNN := Lib.hid CC.out.nn
    have H5 := Lib.hid (five_one (n := D1.sync.room) (a := str D1.sync.sure) (b := str D1.sync.rest) hq.n.one.2 hq.s.one.2)
    have H5b := Lib.hid (five_one (n := D1.sync.clear.room) (a := str D1.sync.clear.sure) (b := str D1.sync.clear.rest) hq.n.one.2 hq.s.one.2)
    clear hq hb hold hlt hoff z0 z1 z2 z3 z4
    go_wp2_with (refine wpList_store rfl 50 _ _ rfl N 0 _ _ [_, _, _, _, _] _ rfl rfl HN7.out rfl sizeref (by simp) H5.out ?_)
    intro w8 hb8 hw8
    have HN8 := Lib.hid (show Blk w8 N 50 (refcs D1.sync r2) from hb8)
    have HQ8 := Lib.hid (heldR_wrote HQ7.out hw8 (HOFF.out N (.inr (.inr rfl))))
    have T8 := Lib.hid (show TwoX w0 w8 (lcs D r g1 k) zero7 from ⟨T7.out.x.same (hw8.block _ (by have := HNN.out; omega)), T7.out.y.same (hw8.block _ (by have := HNN.out; omega)), Wrote.below T7.out.rb hw8 (by have := HNN.out; omega)⟩)
    clear hb8 hw8
    go_wp2_with (refine wpList_store rfl 9 _ _ rfl N 1 _ _ [_] _ rfl rfl HN8.out rfl sizestr (by simp) (str_one _) ?_)
    intro w9 hb9 hw9
    have HN9 := Lib.hid (show Blk w9 N 50 (refcs D1.sync.clear r2) from hb9)
    have HQ9 := Lib.hid (show HeldR w9 r2 D1.sync.clear from ⟨(heldR_wrote HQ8.out hw9 (HOFF.out N (.inr (.inr rfl)))).n, (heldR_wrote HQ8.out hw9 (HOFF.out N (.inr (.inr rfl)))).s⟩)
    have T9 := Lib.hid (show TwoX w0 w9 (lcs D r g1 k) zero7 from ⟨T8.out.x.same (hw9.block _ (by have := HNN.out; omega)), T8.out.y.same (hw9.block _ (by have := HNN.out; omega)), Wrote.below T8.out.rb hw9 (by have := HNN.out; omega)⟩)
    obtain ⟨z0, z1, z2, z3, z4⟩ := Blk.cells5 HN9.out
    clear hb9 hw9
    generalize D1.sync.clear = D2 at *
    go_wp2_with (refine wpList_store rfl 50 _ _ rfl w0.heap.size 0 52 _ [_, _, _, _, _] _ rfl rfl T9.out.x rfl sizeref (by simp) H5b.out ?_)
    intro w10 hb10 hw10
    have T10 := Lib.hid (T9.out.storeX (show Blk w10 w0.heap.size 52 (lcs D2 r2 g1 k) from hb10) hw10)
    have HQ10 := Lib.hid (heldR_wrote HQ9.out hw10 (HOFF.out _ (.inl rfl)))
    obtain ⟨y0, y1, y2, y3, y4, y5, y6⟩ := T10.out.x.cells7
    clear hb10 hw10 z0 z1 z2 z3 z4
    go_wp2_with (refine wpList_store rfl 52 _ _ rfl (w0.heap.size + 1) 0 _ _ [_, _, _, _, _, _, _] _ rfl rfl T10.out.y rfl sizeX (by simp) (lcs_one HQ10.out) ?_)
    intro wz hb hw
    have TZ := Lib.hid (T10.out.storeY hb hw)
    have HQZ := Lib.hid (heldR_wrote HQ10.out hw (HOFF.out _ (.inr (.inl rfl))))
    obtain ⟨x0, x1, x2, x3, x4, x5, x6⟩ := TZ.out.y.cells7
    clear hb hw y0 y1 y2 y3 y4 y5 y6
    go_wp2
    exact bodyPost_ret (v := .tuple #[Lv D2 r2 g1 k, .int .i64 0]) (by simp [results, Try.results59, go_sem, x0, x1, x2, x3, x4, x5, x6]) rfl ⟨r2, rfl, HQZ.out, TZ.out.rb, HOLD.out⟩

theorem rcheck_any (D : Dk) (r : Rm) (g k : Nat) (s : List UInt8) (w0 : World) (h : HeldR w0 r D) (ok : D.Ok) (hs : s.length ≤ 900) (hg : g + 1 < 4294967296) :
    Calls Try.prog 59 #[Lv D r g k, .string (str s)] w0 (RefL w0 r.has (ckD D g (frameB (g + 1) s)) (g + 1) k 0) := by
  unfold ckD
  by_cases hp : (g + 1) % 2 = 0
  · rw [if_pos hp]; exact rcheck_y0 D r g k s w0 h ok hs hg hp
  · rw [if_neg hp]; exact rcheck_y1 D r g k s w0 h ok hs hg (by omega)
end Go.Proofs.Ytbdgdmieggpmhaa.L4
