/-
  Layer 3: the document's disk.
-/
import Derived.Test.YtbdgdmieggpmhaaK7
namespace Go.Proofs.Ytbdgdmieggpmhaa.L3
open Go.ChangeShapes Go.WideShapes Go.ChangeAt Go.RowKit By Reg
set_option linter.unusedVariables false

def Rm.has (r : Rm) (k : Nat) : Prop := r.nv.ownBlock = some k ∨ r.sv.ownBlock = some k
/-- what a call that makes a disk of the document leaves -/
def RefQ (w : World) (old : Nat → Prop) (D : Dk) (r' : Rm) (w' : World) : Prop := HeldR w' r' D ∧ Rb w w' ∧ ∀ k, r'.has k → old k ∨ w.heap.size ≤ k
def RefE (w : World) (old : Nat → Prop) (D : Dk) (e : Ending) (w' : World) : Prop := ∃ r', e = .returned (refv D r') ∧ RefQ w old D r' w'
def RefT (w : World) (old : Nat → Prop) (D : Dk) (c : Int) (e : Ending) (w' : World) : Prop := ∃ r', e = .returned (.tuple #[refv D r', .int .i64 c]) ∧ RefQ w old D r' w'

abbrev rawv (n : Int) (a b : ByteArray) (nv sv : Value) : Value := .agg #[.int .i64 n, .string a, .string b, nv, sv]

set_option maxRecDepth 100000 in
theorem rlog_raw (n : Int) (a b : ByteArray) (nv sv : Value) (w : World) (hs : ¬ 9223372036854775807 < a.size + b.size) : Calls Try.prog 32 #[rawv n a b nv sv] w fun e w' => e = .returned (.string (a ++ b)) ∧ Rb w w' := by
  go_enter Try.func32, Try.ntmps32
  go_wp2
  go_ret
  exact ⟨rfl, (Below.refl _ _).alloc (Nat.le_refl _) _⟩
theorem sum_fits {D : Dk} (h : D.Ok) : ¬ 9223372036854775807 < (str D.sure).size + (str D.rest).size := by
  obtain ⟨h1, h2, -⟩ := h
  rw [D.log_len] at h1
  rw [str_size, str_size]
  omega
theorem str_log (D : Dk) : str D.sure ++ str D.rest = str D.log := str_append _ _
theorem rlog_any (D : Dk) (r : Rm) (w : World) (h : D.Ok) : Calls Try.prog 32 #[refv D r] w fun e w' => e = .returned (.string (str D.log)) ∧ Rb w w' := by
  rw [← str_log]
  exact rlog_raw _ _ _ _ _ w (sum_fits h)

def newW (w : World) (n : Int) : World := ((w.alloc (.cells #[.int .i64 n, .string ⟨#[]⟩, .string ⟨#[]⟩, .slice (some ⟨w.heap.size + 1, 0, none⟩) 2 2, .slice (some ⟨w.heap.size + 1 + 1, 0, none⟩) 2 2] 50)).alloc (.cells #[.string ⟨#[]⟩, .string ⟨#[]⟩] 9)).alloc (.cells #[.string ⟨#[]⟩, .string ⟨#[]⟩] 9)
theorem rnew_end (w : World) (n : Nat) : RefE w (fun _ => False) (Dk.new n) (.returned (rawv n ⟨#[]⟩ ⟨#[]⟩ (.slice (some ⟨w.heap.size + 1, 0, none⟩) 2 2) (.slice (some ⟨w.heap.size + 1 + 1, 0, none⟩) 2 2))) (newW w n) := by
  have b1 : Blk (newW w n) (w.heap.size + 1) 9 [.string ⟨#[]⟩, .string ⟨#[]⟩] := by
    have h := Blk.new (w.alloc (.cells #[.int .i64 n, .string ⟨#[]⟩, .string ⟨#[]⟩, .slice (some ⟨w.heap.size + 1, 0, none⟩) 2 2, .slice (some ⟨w.heap.size + 1 + 1, 0, none⟩) 2 2] 50)) 9 [.string ⟨#[]⟩, .string ⟨#[]⟩]
    rw [show (w.alloc (.cells #[.int .i64 n, .string ⟨#[]⟩, .string ⟨#[]⟩, .slice (some ⟨w.heap.size + 1, 0, none⟩) 2 2, .slice (some ⟨w.heap.size + 1 + 1, 0, none⟩) 2 2] 50)).heap.size = w.heap.size + 1 by simp] at h
    exact h.same (heap_alloc_old _ _ (by simp))
  have b2 : Blk (newW w n) (w.heap.size + 1 + 1) 9 [.string ⟨#[]⟩, .string ⟨#[]⟩] := by
    have h := Blk.new ((w.alloc (.cells #[.int .i64 n, .string ⟨#[]⟩, .string ⟨#[]⟩, .slice (some ⟨w.heap.size + 1, 0, none⟩) 2 2, .slice (some ⟨w.heap.size + 1 + 1, 0, none⟩) 2 2] 50)).alloc (.cells #[.string ⟨#[]⟩, .string ⟨#[]⟩] 9)) 9 [.string ⟨#[]⟩, .string ⟨#[]⟩]
    simpa [newW] using h
  refine ⟨⟨.slice (some ⟨w.heap.size + 1, 0, none⟩) 2 2, .slice (some ⟨w.heap.size + 1 + 1, 0, none⟩) 2 2⟩, rfl, ⟨⟨_, _, rfl, Nat.le_refl _, by decide, ?_, ?_⟩, ⟨_, _, rfl, Nat.le_refl _, by decide, ?_, ?_⟩⟩, ?_, ?_⟩
  · exact b1.cell 0
  · exact b1.cell 1
  · exact b2.cell 0
  · exact b2.cell 1
  · exact (((Below.refl _ _).alloc (Nat.le_refl _) _).alloc (by simp) _).alloc (by simp; omega) _
  · intro k hk
    rcases hk with hk | hk <;> simp [Value.ownBlock] at hk <;> exact .inr (by omega)
set_option maxRecDepth 100000 in
theorem rnew_any (n : Int) (w : World) : Calls Try.prog 24 #[.int .i64 n] w (RefE w (fun _ => False) (Dk.new (clampN n))) := by
  by_cases h0 : n < 0
  · have e : clampN n = 0 := by unfold clampN; omega
    have F := Lib.hid (rnew_end w 0)
    rw [← e] at F
    rw [e] at F ⊢
    go_enter Try.func24, Try.ntmps24
    go_wp2
    exact bodyPost_ret (v := rawv 0 ⟨#[]⟩ ⟨#[]⟩ (.slice (some ⟨w.heap.size + 1, 0, none⟩) 2 2) (.slice (some ⟨w.heap.size + 1 + 1, 0, none⟩) 2 2)) (by simp [results, Try.results24, go_sem]) rfl F.out
  · by_cases h1 : 1048576 < n
    · have e : clampN n = 1048576 := by unfold clampN; omega
      rw [e]
      have F := Lib.hid (rnew_end w 1048576)
      clear e
      go_enter Try.func24, Try.ntmps24
      go_wp2
      exact bodyPost_ret (v := rawv 1048576 ⟨#[]⟩ ⟨#[]⟩ (.slice (some ⟨w.heap.size + 1, 0, none⟩) 2 2) (.slice (some ⟨w.heap.size + 1 + 1, 0, none⟩) 2 2)) (by simp [results, Try.results24, go_sem]) rfl F.out
    · obtain ⟨c, rfl⟩ := Int.eq_ofNat_of_zero_le (by omega : 0 ≤ n)
      have e : clampN c = c := by unfold clampN; omega
      rw [e]
      have F := Lib.hid (rnew_end w c)
      clear e
      go_enter Try.func24, Try.ntmps24
      go_wp2
      exact bodyPost_ret (v := rawv c ⟨#[]⟩ ⟨#[]⟩ (.slice (some ⟨w.heap.size + 1, 0, none⟩) 2 2) (.slice (some ⟨w.heap.size + 1 + 1, 0, none⟩) 2 2)) (by simp [results, Try.results24, go_sem]) rfl F.out

/-! ### the box of the receiver and the one of the result -/
structure Two (w w' : World) (x y : List Value) : Prop where
  x : Blk w' w.heap.size 50 x
  y : Blk w' (w.heap.size + 1) 50 y
  rb : Rb w w'
theorem Two.rbs {w w1 w2 : World} {x y : List Value} (h : Two w w1 x y) (hb : Rb w1 w2) : Two w w2 x y := ⟨h.x.rb hb, h.y.rb hb, Rb.trans _ _ _ h.rb hb⟩
theorem Two.storeX {w w1 w2 : World} {x x' y : List Value} (h : Two w w1 x y) (hb : Blk w2 w.heap.size 50 x') (hw : Wrote w.heap.size w1 w2) : Two w w2 x' y :=
  ⟨hb, h.y.same (hw.block _ (by omega)), Wrote.below h.rb hw (Nat.le_refl _)⟩
theorem Two.storeY {w w1 w2 : World} {x y y' : List Value} (h : Two w w1 x y) (hb : Blk w2 (w.heap.size + 1) 50 y') (hw : Wrote (w.heap.size + 1) w1 w2) : Two w w2 x y' :=
  ⟨h.x.same (hw.block _ (by omega)), hb, Wrote.below h.rb hw (by omega)⟩
abbrev zero5 : List Value := [.int .i64 0, .string ⟨#[]⟩, .string ⟨#[]⟩, .slice none 0 0, .slice none 0 0]
theorem Two.start (w : World) (x y : List Value) : Two w ((w.alloc (.cells x.toArray 50)).alloc (.cells y.toArray 50)) x y := by
  refine ⟨(Blk.new w _ x).same (heap_alloc_old _ _ (by simp)), ?_, ((Below.refl _ _).alloc (Nat.le_refl _) _).alloc (by simp) _⟩
  have := Blk.new (w.alloc (.cells x.toArray 50)) 50 y
  simpa using this
structure Cells5 (w : World) (b : Nat) (a0 a1 a2 a3 a4 : Value) : Prop where
  e0 : w.cell? ⟨b, 0, none⟩ = some a0
  e1 : w.cell? ⟨b, 1, none⟩ = some a1
  e2 : w.cell? ⟨b, 2, none⟩ = some a2
  e3 : w.cell? ⟨b, 3, none⟩ = some a3
  e4 : w.cell? ⟨b, 4, none⟩ = some a4
theorem Blk.cells5 {w : World} {b : Nat} {T : TypeId} {a0 a1 a2 a3 a4 : Value} (h : Blk w b T [a0, a1, a2, a3, a4]) : Cells5 w b a0 a1 a2 a3 a4 :=
  ⟨h.cell 0, h.cell 1, h.cell 2, h.cell 3, h.cell 4⟩
theorem str_one (s : ByteArray) : ∀ v ∈ [Value.string s], v.oneCell' = true := by simp [Value.oneCell']
theorem sizestr : (Try.prog.info? 9).map (·.size) = some 1 := by kernel_rfl
theorem sizestrs : (Try.prog.info? 37).map (·.size) = some 1 := by kernel_rfl
theorem sizeref : (Try.prog.info? 50).map (·.size) = some 5 := by kernel_rfl

theorem one_of {v : Value} (h : v.oneCell' = true) : ∀ u ∈ [v], u.oneCell' = true := by simp [h]
theorem five_one {n : Int} {a b : ByteArray} {nv sv : Value} (h : nv.oneCell' = true) (k : sv.oneCell' = true) : ∀ v ∈ [Value.int .i64 n, .string a, .string b, nv, sv], v.oneCell' = true := by
  intro v hv
  simp at hv
  rcases hv with rfl | rfl | rfl | rfl | rfl
  · rfl
  · rfl
  · rfl
  · exact h
  · exact k

set_option maxRecDepth 100000 in
theorem rsync_raw (n : Int) (a b : ByteArray) (nv sv : Value) (w : World) (hs : ¬ 9223372036854775807 < a.size + b.size) (hn : nv.cells = #[nv] ∧ nv.oneCell' = true) (hv : sv.cells = #[sv] ∧ sv.oneCell' = true) :
    Calls Try.prog 58 #[rawv n a b nv sv] w fun e w' => e = .returned (rawv n (a ++ b) ⟨#[]⟩ nv nv) ∧ Rb w w' := by
  have HC := Lib.hid hn.1
  have HO := Lib.hid hn.2
  clear hn hv
  go_enter Try.func58, Try.ntmps58
  go_wp2_with fail
  refine (rlog_raw n a b nv sv _ hs).mono ?_
  rintro e w1 ⟨rfl, hr⟩
  have T1 := Lib.hid ((Two.start w [.int .i64 n, .string a, .string b, nv, sv] zero5).rbs hr)
  clear hr
  go_wp2_with (refine wpList_store rfl 9 _ _ rfl w.heap.size 1 _ _ [_] _ rfl rfl T1.out.x rfl sizestr (by simp) (str_one _) ?_)
  intro w2 hb hw
  have T2 := Lib.hid (T1.out.storeX hb hw)
  clear T1 hb hw
  go_wp2_with (refine wpList_store rfl 9 _ _ rfl w.heap.size 2 _ _ [_] _ rfl rfl T2.out.x rfl sizestr (by simp) (str_one _) ?_)
  intro w3 hb hw
  have T3 := Lib.hid (T2.out.storeX hb hw)
  have z3 := T3.out.x.cells5.e3
  clear T2 hb hw
  go_wp2_with (refine wpList_store rfl 37 _ _ rfl w.heap.size 4 _ _ [nv] _ rfl rfl T3.out.x HC.out sizestrs (by simp) (one_of HO.out) ?_)
  intro w4 hb hw
  have T4 := Lib.hid (T3.out.storeX hb hw)
  obtain ⟨y0, y1, y2, y3, y4⟩ := T4.out.x.cells5
  clear T3 hb hw z3
  go_wp2_with (refine wpList_store rfl 50 _ _ rfl (w.heap.size + 1) 0 _ _ [_, _, _, _, _] _ rfl rfl T4.out.y rfl sizeref (by simp) (five_one HO.out HO.out) ?_)
  intro w5 hb hw
  have T5 := T4.out.storeY hb hw
  obtain ⟨x0, x1, x2, x3, x4⟩ := T5.y.cells5
  have R5 := Lib.hid T5.rb
  clear T4 hb hw T5 y0 y1 y2 y3 y4
  go_wp2
  exact bodyPost_ret (v := rawv n (a ++ b) ⟨#[]⟩ nv nv) (by simp [results, Try.results58, go_sem, x0, x1, x2, x3, x4]) rfl ⟨rfl, R5.out⟩
end Go.Proofs.Ytbdgdmieggpmhaa.L3
