/-
  What is proved: for every input, of any size that fits a machine, the Go function 'billhook/billhooklaw07.StoreHolds' returns true, without a panic, and leaves its arguments as they were. The conditions: none beyond the row's own.
  The frame is after the kit's own shell; the walk is mine (see the imported texts).
-/
import Derived.Test.YtjfpeklfgnajoaaGreatRows
import Derived.Test.YtjfpeklfgnajoaaGreatQ36
import Derived.Test.YtjfpeklfgnajoaaGreatQ32
import Derived.WalkKit
import Derived.ProofKit
import Derived.OpenShut
import Derived.ShutString
import Derived.ChangeOld
import Derived.Below
namespace Go.Proofs.YtjfpeklfgnajoaaGreat.storeHolds
open Go.ChangeShapes Go.WideShapes Go.ChangeAt Go.RowKit
open Go.ChangeMaps (open_string shut_string)
set_option linter.unusedVariables false

theorem own : ownKnob Tryz.prog.godebug = none := by kernel_rfl
theorem laidOut : laidOutB Tryz.prog = true := by kernel_rfl

theorem walk (v0 : Value) (l0 : List L6.TabD) (n1 : Int) (v2 : Value) (l2 : List L6.OpD) (w : World) (w0 : L6.Tabs w v0 l0) (u0 : ∀ q ∈ l0, L6.TabOk q) (w1 : (Lit.int .u64 n1).wf = true) (w2 : L6.RowN L6.opE 9 w v2 l2) (u2 : ∀ q ∈ l2, L6.OpOk q) :
    Calls Tryz.prog 5 #[v0, .int .u64 n1, v2] w fun e w' => e = .returned (.bool true) ∧ Below w.heap.size w w' := by
  exact L6.holds_walk l0 v0 n1 v2 l2 w w0 u0 (by have := By.wf_u64 w1; omega) w2 u2

set_option maxRecDepth 100000 in
theorem lifted (os : Os) (started : os.Started) (H : Type) (enc : TypeId × Value → H) :
    ReturnsInHanded {} Tryz.checked os 5 .any (Rows.storeHoldsSpec.pre6 enc Tryz.prog Tryz.f5 Rows.storeHoldsRow.domain false) (Rows.storeHoldsSpec.post enc Tryz.prog Tryz.f5 false true false false) := by
  refine returnsInHanded_of_change (C := Tryz.checked) own started (by kernel_rfl) Tryz.func5
    (ChangeSpec.witness6 (enc := enc) (C := Tryz.checked) false ⟨#[], #[.slice none 0 0, .int .u64 0, .slice none 0 0], []⟩ 8 (by kernel_rfl) (by kernel_rfl) (by kernel_rfl) (by kernel_rfl)) ?_
  intro W base args ds gs before hval0 hW hcnd _
  have hval : ∀ (j : Nat) t v, Tryz.f5.params[j]? = some t → args[j]? = some v → Value.okWide Tryz.prog W .any base t v := hval0
  have hW' := hW
  obtain ⟨p, q, hA0, hV, rfl, hfz, hnd⟩ := hW
  have hA : DataW.TrodAll enc Tryz.prog W 0 (fun _ => true) true Tryz.f5.params.toList args.toList ds p := hA0
  rw [Tryz.params5] at hA hval
  obtain ⟨v0, vs0, d0, ds0, p0, q0, hargs, rfl, rfl, h0, r0⟩ := trodAll_cons hA
  obtain ⟨v1, vs1, d1, ds1, p1, q1, rfl, rfl, rfl, h1, r1⟩ := trodAll_cons r0
  obtain ⟨v2, vs2, d2, ds2, p2, q2, rfl, rfl, rfl, h2, r2⟩ := trodAll_cons r1
  obtain ⟨rfl, rfl, rfl⟩ := trodAll_nil r2
  obtain rfl : args = #[v0, v1, v2] := by cases args; simp_all
  obtain ⟨rfl, rfl⟩ := trodVars_none hV
  obtain ⟨a0, len0, cap0, rfl⟩ := okWide_slice Tryz.underlying22 (hval 0 22 v0 rfl rfl)
  have k0 := h0
  have lt0 : ∀ x ∈ p0, x.block < W.heap.size := by obtain ⟨m, hm⟩ := k0; exact DataW.trod_lt m _ _ _ hm
  obtain ⟨l0, w0, u0⟩ : ∃ l, L6.Tabs W (.slice a0 len0 cap0) l ∧ ∀ q ∈ l, L6.TabOk q := by
    obtain ⟨fuel, hf⟩ := h0
    obtain ⟨v, l, e, h1, h2⟩ := L6.tabs_of_trod hf
    simp [Value.cells] at e
    subst e
    exact ⟨l, h1, h2⟩
  obtain ⟨n1, rfl, rfl, rfl, w1⟩ := open_int Tryz.underlying58 (hval 1 58 v1 rfl rfl) h1
  obtain ⟨a2, len2, cap2, rfl⟩ := okWide_slice Tryz.underlying53 (hval 2 53 v2 rfl rfl)
  have k2 := h2
  have lt2 : ∀ x ∈ p2, x.block < W.heap.size := by obtain ⟨m, hm⟩ := k2; exact DataW.trod_lt m _ _ _ hm
  obtain ⟨l2, w2, u2⟩ : ∃ l, L6.RowN L6.opE 9 W (.slice a2 len2 cap2) l ∧ ∀ q ∈ l, L6.OpOk q := by
    obtain ⟨fuel, hf⟩ := h2
    obtain ⟨v, l, e, h1, h2⟩ := L6.ops7_of_trod hf
    simp [Value.cells] at e
    subst e
    exact ⟨l, h1, h2⟩
  clear hA0 hval0
  refine (walk _ _ n1 _ _ W w0 u0 w1 w2 u2).mono fun e W' ⟨he, bel⟩ => ?_
  subst he
  exact ⟨_, rfl, _, _, _, [], _, [], hW', trodAll_mk1 (shut_bool Tryz.underlying4 _), (trodAll_cons_mk (Below.trod laidOut (by kernel_rfl) (of_decide_eq_true (by kernel_rfl)) k0 bel lt0) (trodAll_cons_mk (shut_int Tryz.underlying58 w1) (trodAll_cons_mk (Below.trod laidOut (by kernel_rfl) (of_decide_eq_true (by kernel_rfl)) k2 bel lt2) trodAll_mk0))), rfl, bel.frame _, fun h => by cases h⟩

theorem over : Rows.storeHoldsRow.holds Tryz.pinned (OpenSpec.ofChange Rows.storeHoldsSpec) :=
  OpenClaim.holds_of_wide 5 Tryz.f5 rfl rfl rfl rfl rfl rfl rfl ⟨rfl, rfl, rfl, rfl, rfl⟩ rfl rfl rfl rfl rfl (by kernel_rfl) Tryz.func5 (by kernel_rfl)
    (of_decide_eq_true (by kernel_rfl)) (by unfold Func.isWrapper; first | (rw [if_pos (by decide +kernel)]; kernel_rfl) | (rw [if_neg (by decide +kernel)]; exact ⟨rfl, rfl⟩))
    (fun os started H enc _ => lifted os started H enc)

theorem proved : Rows.StoreHoldsSaid := over
end Go.Proofs.YtjfpeklfgnajoaaGreat.storeHolds
