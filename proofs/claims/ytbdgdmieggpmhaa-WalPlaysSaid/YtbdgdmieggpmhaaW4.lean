/-
  Layer 4: images, costs; the document's Text and Image.
-/
import Derived.Test.YtbdgdmieggpmhaaW3
import Derived.BigQuiet
import Derived.Deep.QuietTactic
namespace Go.Proofs.Ytbdgdmieggpmhaa.L4
open Go.ChangeShapes Go.WideShapes Go.ChangeAt Go.RowKit Oct By Reg L3
set_option linter.unusedVariables false

/-! ### Cost, Image -/
def costN (n : Int) : Nat := 8 + sizeN (clampN n) + clampN n
theorem costN_frame (g : Nat) (b : List UInt8) (h : b.length ≤ 1048576) : costN b.length = (frameB g b).length := by
  rw [frameB_len]
  unfold costN
  rw [show clampN (b.length : Int) = b.length by unfold clampN; omega]

set_option maxRecDepth 100000 in
theorem cost_any (n : Int) (w : World) : Calls Try.prog 16 #[.int .i64 n] w fun e w' => e = .returned (.int .i64 (costN n)) ∧ w = w' := by
  have C := size_any (clampN n) w (by have := clampN_le n; unfold U64; omega)
  have hs := sizeN_le10 (n := clampN n) (by have := clampN_le n; omega)
  have h10 := clampN_le n
  have e : costN n = 8 + sizeN (clampN n) + clampN n := rfl
  rw [e]
  clear e
  obtain ⟨z, hz⟩ : ∃ z, z = sizeN (clampN n) := ⟨_, rfl⟩
  rw [← hz] at C hs ⊢
  obtain ⟨c, hc⟩ : ∃ c, c = clampN n := ⟨_, rfl⟩
  rw [← hc] at C h10 ⊢
  have HC := Lib.hid C
  have hcc : (n < 0 ∧ c = 0) ∨ (0 ≤ n ∧ n ≤ 1048576 ∧ n = c) ∨ (1048576 < n ∧ c = 1048576) := by rw [hc]; unfold clampN; omega
  clear C hc hz
  rcases hcc with ⟨h0, rfl⟩ | ⟨h0, h1, rfl⟩ | ⟨h0, rfl⟩
  · go_enter Try.func16, Try.ntmps16
    go_wp2_with fail
    refine HC.out.mono ?_
    rintro e w' ⟨rfl, rfl⟩
    go_wp2
    go_ret
    exact ⟨by simp, rfl⟩
  · have hw : IntKind.u64.wrap (c : Int) = c := by rw [IntKind.wrap_u64]; omega
    have hw2 : IntKind.i64.wrap (8 + (z : Int) + (c : Int)) = 8 + (z : Int) + (c : Int) := IntWalk.i64_in _ (by omega)
    have hw3 : IntKind.i64.wrap (8 + (z : Int)) = 8 + (z : Int) := IntWalk.i64_in _ (by omega)
    go_enter Try.func16, Try.ntmps16
    go_wp2_with fail
    refine HC.out.mono ?_
    rintro e w' ⟨rfl, rfl⟩
    go_wp2
    go_ret
    exact ⟨by simp, rfl⟩
  · have h1 : ¬ n < 0 := by omega
    have hw3 : IntKind.i64.wrap (8 + (z : Int)) = 8 + (z : Int) := IntWalk.i64_in _ (by omega)
    go_enter Try.func16, Try.ntmps16
    go_wp2_with fail
    refine HC.out.mono ?_
    rintro e w' ⟨rfl, rfl⟩
    go_wp2
    go_ret
    exact ⟨by simp, rfl⟩

set_option maxRecDepth 100000 in
theorem image_any (v : Value) (g : Nat) (b : List UInt8) (w : World) (hb : Bs w v b) (hl : b.length ≤ 10000000) (hg : g < 4294967296) :
    Calls Try.prog 15 #[.int .u32 g, v] w (Put w 5 (frameB g b)) := by
  have C := Lib.hid (frame_any v g b w hb hl hg)
  generalize frameB g b = F at *
  clear hb
  go_enter Try.func15, Try.ntmps15
  go_wp2_with fail
  refine C.out.mono ?_
  rintro e w' ⟨n, c, rfl, h2, h3⟩
  go_wp2
  go_ret
  exact ⟨n, c, rfl, h2, h3⟩

/-! ### ReadImage -/
def imgNo : Value := .tuple #[.int .u32 0, .slice none 0 0, .bool false]
def ImgQ (w : World) (Y : List UInt8) (e : Ending) (w' : World) : Prop :=
  match imageF Y with
  | none => e = .returned imgNo ∧ Rb w w'
  | some (g, s) => ∃ v, e = .returned (.tuple #[.int .u32 g, v, .bool true]) ∧ Fresh w w' v s ∧ Rb w w'

set_option maxRecDepth 100000 in
theorem readimage_any (v : Value) (Y : List UInt8) (w : World) (hb : Bs w v Y) (hx : Y.length ≤ 100000000) : Calls Try.prog 12 #[v] w (ImgQ w Y) := by
  have C := read_any v Y 0 w hb hx (Nat.zero_le _)
  unfold ReadQ at C
  unfold ImgQ imageF
  obtain ⟨ao, cap, rfl, -⟩ := hb.len
  rw [List.drop_zero] at C
  cases hh : headF Y with
  | none =>
    rw [hh] at C
    have HC := Lib.hid C
    clear C hh hb
    simp only []
    go_enter Try.func12, Try.ntmps12
    go_wp2_with fail
    refine HC.out.mono ?_
    rintro e w' ⟨rfl, hr⟩
    have HR := Lib.hid hr
    clear hr
    unfold readNo
    go_wp2
    go_ret3
    exact ⟨rfl, HR.out⟩
  | some p =>
    obtain ⟨g, s⟩ := p
    rw [hh] at C
    simp only [Nat.zero_add] at C ⊢
    generalize (frameB g s).length = n at *
    by_cases hn : n = Y.length
    · subst hn
      simp only [if_true]
      have HC := Lib.hid C
      clear C hh hb
      go_enter Try.func12, Try.ntmps12
      go_wp2_with fail
      refine HC.out.mono ?_
      rintro e w' ⟨u, rfl, hf, hr⟩
      have HR := Lib.hid hr
      have HF := Lib.hid hf
      clear hr hf
      go_wp2
      go_ret3
      exact ⟨u, rfl, HF.out, HR.out⟩
    · simp only [if_neg hn]
      have hn' : ¬ ((n : Int) = (Y.length : Int)) := by omega
      have HC := Lib.hid C
      clear C hh hb hn
      go_enter Try.func12, Try.ntmps12
      go_wp2_with fail
      refine HC.out.mono ?_
      rintro e w' ⟨u, rfl, hf, hr⟩
      have HR := Lib.hid hr
      clear hr hf
      go_wp2
      go_ret3
      exact ⟨rfl, HR.out⟩
end Go.Proofs.Ytbdgdmieggpmhaa.L4
