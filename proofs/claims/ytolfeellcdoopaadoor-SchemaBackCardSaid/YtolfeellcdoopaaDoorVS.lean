/-
  Layer 2: the value that stands in some bytes.
-/
import Derived.Test.YtolfeellcdoopaaDoorVR
import Derived.Test.YtolfeellcdoopaaDoorL1
namespace Go.Proofs.YtolfeellcdoopaaDoor
open Go.ChangeShapes Go.WideShapes Go.ChangeAt Go.RowKit Oct By Reg Val

/-- what stands behind a byte with a kind: the number, the text, how many bytes -/
def candV (xs : List UInt8) (i : Int) (b : Int) : Option (Int × List UInt8 × Nat) :=
  if b = 1 then (match gu xs i with | none => none | some (u, k) => some (unzig u, [], k))
  else if b = 2 then (if i < xs.length then some ((bt xs i.toNat : Int), [], 1) else none)
  else if b = 3 then (match gt xs i 32 with | none => none | some (s, k) => some (0, s, k))
  else none
def tupG (b : Int) (r : Option (Int × List UInt8 × Nat)) (i : Int) : Value := match r with
  | none => .tuple #[vv b 0 ⟨#[]⟩, .int .i64 0, .bool false]
  | some (n, s, c) => .tuple #[vv b n (str s), .int .i64 (i + c), .bool true]

set_option maxRecDepth 100000 in
theorem getof_any (b : Int) (v : Value) (xs : List UInt8) (i : Int) (w : World) (hb : Bs w v xs) (hx : xs.length ≤ 1000) (hi : 0 ≤ i) (hi2 : i ≤ 2000) :
    Calls Tryd.prog 74 #[.int .i64 b, v, .int .i64 i] w fun e w' => e = .returned (tupG b (candV xs i b) i) ∧ Below w.heap.size w w' := by
  have HB := Lib.hid hb
  have g := fun (o : Obj) => (show Below w.heap.size w (w.alloc o) from (Below.refl _ _).alloc (Nat.le_refl _) _)
  by_cases h1 : b = 1
  · subst h1
    have hc := fun w' hw' => getint_any v xs i w' (HB.out.below hw') (by omega)
    unfold candV
    rw [if_pos rfl]
    cases hg : gu xs i with
    | none =>
      rw [hg] at hc
      have HC := Lib.hid hc; clear hc hg hb
      go_enter Tryd.func74, Tryd.ntmps74
      go_wp2_with fail
      refine (HC.out _ (g _)).mono ?_
      rintro e w' ⟨rfl, rfl⟩
      unfold tupI
      go_wp2_with fail
      refine bodyPost_ret (v := tupG 1 none i) (by simp [results, Tryd.results74, go_sem, tupG]) rfl ⟨rfl, ?_⟩
      exact g _
    | some uk =>
      obtain ⟨u, q⟩ := uk
      rw [hg] at hc
      have HC := Lib.hid hc; clear hc hg hb
      go_enter Tryd.func74, Tryd.ntmps74
      go_wp2_with fail
      refine (HC.out _ (g _)).mono ?_
      rintro e w' ⟨rfl, rfl⟩
      unfold tupI
      go_wp2_with fail
      refine bodyPost_ret (v := tupG 1 (some (unzig u, [], q)) i) (by simp [results, Tryd.results74, go_sem, tupG, str]) rfl ⟨rfl, ?_⟩
      exact g _
  by_cases h2 : b = 2
  · subst h2
    unfold candV
    rw [if_neg (by decide), if_pos rfl]
    by_cases hl : i < xs.length
    · rw [if_pos hl]
      obtain ⟨j, rfl⟩ := Int.eq_ofNat_of_zero_le hi
      obtain ⟨bl, o, cap, rfl, e2, e3, hcell⟩ := hb.form (by omega)
      have hc := hcell j (by omega)
      have hbl : bl < w.heap.size := World.block_lt_of_cell? w _ hc
      have hc' := fun o' => cell_rb (show Rb w (w.alloc o') from g o') hc
      have hb1 := bt_lt xs j
      rw [Int.toNat_natCast]
      unfold maxLen at e3
      clear hcell hc h1
      go_enter Tryd.func74, Tryd.ntmps74
      go_wp2_with fail
      refine bodyPost_ret (v := tupG 2 (some ((bt xs j : Int), [], 1)) j) (by simp [results, Tryd.results74, go_sem, tupG, str]) rfl ⟨rfl, ?_⟩
      exact g _
    · rw [if_neg hl]
      obtain ⟨ao, cap, rfl, e2, e3⟩ := hb.len
      unfold maxLen at e3
      clear hb h1
      go_enter Tryd.func74, Tryd.ntmps74
      go_wp2_with fail
      refine bodyPost_ret (v := tupG 2 none i) (by simp [results, Tryd.results74, go_sem, tupG]) rfl ⟨rfl, ?_⟩
      exact g _
  by_cases h3 : b = 3
  · subst h3
    have hc := fun w' hw' => gettext_any v xs i 32 w' (HB.out.below hw') (by omega)
    unfold candV
    rw [if_neg (by decide), if_neg (by decide), if_pos rfl]
    cases hg : gt xs i 32 with
    | none =>
      rw [hg] at hc
      have HC := Lib.hid hc; clear hc hg hb h1 h2
      go_enter Tryd.func74, Tryd.ntmps74
      go_wp2_with fail
      refine (HC.out _ (g _)).mono ?_
      rintro e w' ⟨rfl, rfl⟩
      unfold tupT
      go_wp2_with fail
      refine bodyPost_ret (v := tupG 3 none i) (by simp [results, Tryd.results74, go_sem, tupG, str]) rfl ⟨rfl, ?_⟩
      exact g _
    | some uk =>
      obtain ⟨u, q⟩ := uk
      rw [hg] at hc
      have HC := Lib.hid hc; clear hc hg hb h1 h2
      go_enter Tryd.func74, Tryd.ntmps74
      go_wp2_with fail
      refine (HC.out _ (g _)).mono ?_
      rintro e w' ⟨rfl, rfl⟩
      unfold tupT
      go_wp2_with fail
      refine bodyPost_ret (v := tupG 3 (some (0, u, q)) i) (by simp [results, Tryd.results74, go_sem, tupG]) rfl ⟨rfl, ?_⟩
      exact g _
  · unfold candV
    rw [if_neg h1, if_neg h2, if_neg h3]
    clear hb
    go_enter Tryd.func74, Tryd.ntmps74
    go_wp2_with fail
    refine bodyPost_ret (v := tupG b none i) (by simp [results, Tryd.results74, go_sem, tupG]) rfl ⟨rfl, ?_⟩
    exact g _
end Go.Proofs.YtolfeellcdoopaaDoor
