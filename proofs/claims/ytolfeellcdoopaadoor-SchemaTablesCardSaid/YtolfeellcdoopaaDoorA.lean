import Derived.Test.YtolfeellcdoopaaDoorChecked
import Derived.Test.YtolfeellcdoopaaDoorOctMath
import Derived.WalkKit
import Derived.ProofKit
import Derived.OpenShut
import Derived.ShutString
import Derived.ChangeOld
import Derived.Below
import Derived.Outline
import Derived.Lib.Hide
import Derived.LoopTactic
import Derived.WalkLawsBesides
import Derived.WalkSpells
namespace Go.Proofs.YtolfeellcdoopaaDoor
open Go.ChangeShapes Go.WideShapes Go.ChangeAt Go.RowKit Oct

def U64 : Nat := 18446744073709551616

set_option maxRecDepth 100000 in
theorem size_any (n : Nat) (w : World) (h : n < U64) :
    Calls Tryd.prog 112 #[.int .u64 n] w fun e w' => e = .returned (.int .i64 (sizeN n)) ∧ w = w' := by
  have H := Lib.hid h; clear h
  go_enter Tryd.func112, Tryd.ntmps112
  go_wp2
  go_loop [0, 3] (fun x s => ∃ m k : Nat, m ≤ n ∧ k ≤ 10 ∧ k + sizeN m = sizeN n + 1 ∧ x = .int .u64 m ∧ s = .int .i64 k) (fun x _ => (intOf x).toNat)
  case atStart => exact ⟨n, 1, Nat.le_refl _, by omega, by omega, rfl, rfl⟩
  case round =>
    obtain ⟨m, k, hm, hk, hs0, rfl, rfl⟩ := hrel
    have hs := Lib.hid hs0; clear hs0
    by_cases hlt : m < 128
    · go_wp2
      go_ret
      refine ⟨?_, rfl⟩
      have e : k = sizeN n := by have := hs.out; rw [sizeN_small hlt] at this; omega
      rw [e]; rfl
    · have hge : 128 ≤ m := by omega
      have hsz := Lib.hid (sizeN_big hge)
      have hk10 : sizeN n ≤ 10 := sizeN_le10 H.out
      go_wp2
      go_round
      case rel =>
        have e1 := hs.out
        have e2 := hsz.out
        have := sizeN_pos (m / 128)
        exact ⟨m / 128, k + 1, by omega, by omega, by omega, by go_num, by go_num⟩
      case measure => simp [intOf]; omega
end Go.Proofs.YtolfeellcdoopaaDoor
