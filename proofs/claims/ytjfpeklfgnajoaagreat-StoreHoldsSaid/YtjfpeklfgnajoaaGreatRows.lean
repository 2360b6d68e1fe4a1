/-
  No cell of these rows narrows 'for every input' (looked for: loops, veiled, ifaces, maps, wideKeys, modest, calm, conditions, laid).
  DERIVED. THE GIVEN ROWS OF THIS SEAT. 5 by the template 'for every input the law returns true; each argument reads behind the call as it read before'; 0 by the template 'total and deterministic' (their statements: YtjfpeklfgnajoaaGreatTotals.lean).
  GIVEN WITH THE SEED: the statements are not yours to turn. If you find one false, say at which input.
  Laid BY PROGRAM, IN A SANDBOX (cutbox-rows.mjs): the forced cells as the released guide's own fill.sh prints them over the translation e320392da3d5720e… (all of the seat's roots in one cut). By AI agents, Wed Nov 11 2026. No macro, syntax, notation, axiom, sorry.
-/
import Derived.Test.YtjfpeklfgnajoaaGreatChecked
import GoSem.Claim
import GoSem.ClaimJoined
import GoSem.ClaimMapViews
import Derived.JoinedTies
import Derived.KernelRfl
namespace Go.Proofs.YtjfpeklfgnajoaaGreat
/- THE CELL 'sum', in the pinned program and in every row, IS THE sha256 OF THE DUMP (.gsa) THAT YtjfpeklfgnajoaaGreatProg.lean LOADS. Nothing in Lean hashes anything: it is a label: what it is worth is what the hold of that sum in a sandbox is worth. -/
noncomputable def Tryz.pinned : Pinned := { name := "ytjfpeklfgnajoaagreat", sum := "e320392da3d5720e320c019b3c0fd2b8702d893e5876c721bd32d78f99360543", checked := Tryz.checked }
namespace Rows
def none {H : Type} : Left H := { results := [], args := [] }

/-- 'billhooklaw07.StoreApplies': WHATEVER THE INPUT: true; the input reads as it did. -/
def storeAppliesSpec : ChangeSpec := { name := "storeApplies", fn := fun _ => fun
  | [d1, d2, d3] => { results := [.lit (.bool true)], args := [d1, d2, d3] }
  | _ => none }
def storeAppliesRow : OpenClaim := { program := "ytjfpeklfgnajoaagreat", sum := "e320392da3d5720e320c019b3c0fd2b8702d893e5876c721bd32d78f99360543", func := "billhook/billhooklaw07.StoreApplies", spec := "storeApplies", inPlace := ["slices.overlaps[int64]", "slices.overlaps[*billhook/tree.node[[]billhook/api.Value]]", "slices.overlaps[[]billhook/api.Value]"], unfollowed := true, recurses := true, plainKeys := false, apart := false }
def StoreAppliesSaid : Prop := storeAppliesRow.holds Tryz.pinned (OpenSpec.ofChange storeAppliesSpec)

/-- ITS FALSE NEIGHBOUR: 'it returns false'. Refute it at one input. -/
def storeAppliesWrong : ChangeSpec := { name := "storeApplies", fn := fun _ => fun
  | [d1, d2, d3] => { results := [.lit (.bool false)], args := [d1, d2, d3] }
  | _ => none }
def StoreAppliesWrongFalsely : Prop := storeAppliesRow.holds Tryz.pinned (OpenSpec.ofChange storeAppliesWrong)

/-- 'billhooklaw07.StoreBack': WHATEVER THE INPUT: true; the input reads as it did. -/
def storeBackSpec : ChangeSpec := { name := "storeBack", fn := fun _ => fun
  | [d1, d2, d3] => { results := [.lit (.bool true)], args := [d1, d2, d3] }
  | _ => none }
def storeBackRow : OpenClaim := { program := "ytjfpeklfgnajoaagreat", sum := "e320392da3d5720e320c019b3c0fd2b8702d893e5876c721bd32d78f99360543", func := "billhook/billhooklaw07.StoreBack", spec := "storeBack", inPlace := ["slices.overlaps[int64]", "slices.overlaps[*billhook/tree.node[[]billhook/api.Value]]", "slices.overlaps[[]billhook/api.Value]"], unfollowed := true, recurses := true, plainKeys := false, apart := false }
def StoreBackSaid : Prop := storeBackRow.holds Tryz.pinned (OpenSpec.ofChange storeBackSpec)

/-- ITS FALSE NEIGHBOUR: 'it returns false'. Refute it at one input. -/
def storeBackWrong : ChangeSpec := { name := "storeBack", fn := fun _ => fun
  | [d1, d2, d3] => { results := [.lit (.bool false)], args := [d1, d2, d3] }
  | _ => none }
def StoreBackWrongFalsely : Prop := storeBackRow.holds Tryz.pinned (OpenSpec.ofChange storeBackWrong)

/-- 'billhooklaw07.StoreHolds': WHATEVER THE INPUT: true; the input reads as it did. -/
def storeHoldsSpec : ChangeSpec := { name := "storeHolds", fn := fun _ => fun
  | [d1, d2, d3] => { results := [.lit (.bool true)], args := [d1, d2, d3] }
  | _ => none }
def storeHoldsRow : OpenClaim := { program := "ytjfpeklfgnajoaagreat", sum := "e320392da3d5720e320c019b3c0fd2b8702d893e5876c721bd32d78f99360543", func := "billhook/billhooklaw07.StoreHolds", spec := "storeHolds", inPlace := ["slices.overlaps[int64]", "slices.overlaps[*billhook/tree.node[[]billhook/api.Value]]", "slices.overlaps[[]billhook/api.Value]"], unfollowed := true, recurses := true, plainKeys := false, apart := false }
def StoreHoldsSaid : Prop := storeHoldsRow.holds Tryz.pinned (OpenSpec.ofChange storeHoldsSpec)

/-- ITS FALSE NEIGHBOUR: 'it returns false'. Refute it at one input. -/
def storeHoldsWrong : ChangeSpec := { name := "storeHolds", fn := fun _ => fun
  | [d1, d2, d3] => { results := [.lit (.bool false)], args := [d1, d2, d3] }
  | _ => none }
def StoreHoldsWrongFalsely : Prop := storeHoldsRow.holds Tryz.pinned (OpenSpec.ofChange storeHoldsWrong)

/-- 'billhooklaw07.StoreDone': WHATEVER THE INPUT: true; the input reads as it did. -/
def storeDoneSpec : ChangeSpec := { name := "storeDone", fn := fun _ => fun
  | [d1, d2, d3] => { results := [.lit (.bool true)], args := [d1, d2, d3] }
  | _ => none }
def storeDoneRow : OpenClaim := { program := "ytjfpeklfgnajoaagreat", sum := "e320392da3d5720e320c019b3c0fd2b8702d893e5876c721bd32d78f99360543", func := "billhook/billhooklaw07.StoreDone", spec := "storeDone", inPlace := ["slices.overlaps[int64]", "slices.overlaps[*billhook/tree.node[[]billhook/api.Value]]", "slices.overlaps[[]billhook/api.Value]"], unfollowed := true, recurses := true, plainKeys := false, apart := false }
def StoreDoneSaid : Prop := storeDoneRow.holds Tryz.pinned (OpenSpec.ofChange storeDoneSpec)

/-- ITS FALSE NEIGHBOUR: 'it returns false'. Refute it at one input. -/
def storeDoneWrong : ChangeSpec := { name := "storeDone", fn := fun _ => fun
  | [d1, d2, d3] => { results := [.lit (.bool false)], args := [d1, d2, d3] }
  | _ => none }
def StoreDoneWrongFalsely : Prop := storeDoneRow.holds Tryz.pinned (OpenSpec.ofChange storeDoneWrong)

/-- 'billhooklaw07.StoreApart': WHATEVER THE INPUT: true; the input reads as it did. -/
def storeApartSpec : ChangeSpec := { name := "storeApart", fn := fun _ => fun
  | [d1, d2] => { results := [.lit (.bool true)], args := [d1, d2] }
  | _ => none }
def storeApartRow : OpenClaim := { program := "ytjfpeklfgnajoaagreat", sum := "e320392da3d5720e320c019b3c0fd2b8702d893e5876c721bd32d78f99360543", func := "billhook/billhooklaw07.StoreApart", spec := "storeApart", inPlace := ["slices.overlaps[int64]", "slices.overlaps[*billhook/tree.node[[]billhook/api.Value]]", "slices.overlaps[[]billhook/api.Value]"], unfollowed := true, recurses := true, plainKeys := false, apart := false }
def StoreApartSaid : Prop := storeApartRow.holds Tryz.pinned (OpenSpec.ofChange storeApartSpec)

/-- ITS FALSE NEIGHBOUR: 'it returns false'. Refute it at one input. -/
def storeApartWrong : ChangeSpec := { name := "storeApart", fn := fun _ => fun
  | [d1, d2] => { results := [.lit (.bool false)], args := [d1, d2] }
  | _ => none }
def StoreApartWrongFalsely : Prop := storeApartRow.holds Tryz.pinned (OpenSpec.ofChange storeApartWrong)

/- THE SECOND FORM. 'bulk': how many values and letters a reading holds, each counted each time it is reached (what is shared counts as often as it is met; a slice's spare places count too). A statement '..UptoSaid' is the law's where the arguments, and the package variables that the reading takes, are together of bulk at most 1048576: NARROWER than '..Said'. Prove '..Said' where nothing that the law and all that it calls make is longer than what came in: it says more and counts as full. Else prove '..UptoSaid'. A law counts once. -/
mutual
def uptoBulk {H : Type} : DataW H → Nat
  | .lit (.string bytes) => bytes.length + 1
  | .lit _ => 1
  | .nil => 1
  | .ptr d => uptoBulk d + 1
  | .slice elems spare => uptoBulkAll elems + uptoBulkAll spare + 1
  | .agg parts => uptoBulkAll parts + 1
  | .iface _ d => uptoBulk d + 1
  | .map entries => uptoBulkEntries entries + 1
  | .held _ => 1
def uptoBulkAll {H : Type} : List (DataW H) → Nat
  | [] => 0
  | d :: r => uptoBulk d + uptoBulkAll r
def uptoBulkEntries {H : Type} : List (Lit × DataW H) → Nat
  | [] => 0
  | x :: r => uptoBulkEntry x + uptoBulkEntries r
def uptoBulkEntry {H : Type} : Lit × DataW H → Nat
  | (.string bytes, d) => bytes.length + uptoBulk d + 1
  | (_, d) => uptoBulk d + 1
 end
def uptoSmall : (H : Type) → List (DataW H) → Bool := fun _ ds => decide (uptoBulkAll ds ≤ 1048576)
def OpenSpec.upto (s : _root_.Go.ChangeSpec) : _root_.Go.OpenSpec := { _root_.Go.OpenSpec.ofChange s with cond := some uptoSmall }

/-- 'billhooklaw07.StoreApplies', WHERE WHAT IT READS IS OF BULK AT MOST 1048576: true; the input reads as it did. -/
def storeAppliesUptoRow : OpenClaim := { program := "ytjfpeklfgnajoaagreat", sum := "e320392da3d5720e320c019b3c0fd2b8702d893e5876c721bd32d78f99360543", func := "billhook/billhooklaw07.StoreApplies", spec := "storeApplies", inPlace := ["slices.overlaps[int64]", "slices.overlaps[*billhook/tree.node[[]billhook/api.Value]]", "slices.overlaps[[]billhook/api.Value]"], unfollowed := true, recurses := true, plainKeys := false, apart := false, narrowed := true }
def StoreAppliesUptoSaid : Prop := storeAppliesUptoRow.holds Tryz.pinned (OpenSpec.upto storeAppliesSpec)

/-- 'billhooklaw07.StoreBack', WHERE WHAT IT READS IS OF BULK AT MOST 1048576: true; the input reads as it did. -/
def storeBackUptoRow : OpenClaim := { program := "ytjfpeklfgnajoaagreat", sum := "e320392da3d5720e320c019b3c0fd2b8702d893e5876c721bd32d78f99360543", func := "billhook/billhooklaw07.StoreBack", spec := "storeBack", inPlace := ["slices.overlaps[int64]", "slices.overlaps[*billhook/tree.node[[]billhook/api.Value]]", "slices.overlaps[[]billhook/api.Value]"], unfollowed := true, recurses := true, plainKeys := false, apart := false, narrowed := true }
def StoreBackUptoSaid : Prop := storeBackUptoRow.holds Tryz.pinned (OpenSpec.upto storeBackSpec)

/-- 'billhooklaw07.StoreHolds', WHERE WHAT IT READS IS OF BULK AT MOST 1048576: true; the input reads as it did. -/
def storeHoldsUptoRow : OpenClaim := { program := "ytjfpeklfgnajoaagreat", sum := "e320392da3d5720e320c019b3c0fd2b8702d893e5876c721bd32d78f99360543", func := "billhook/billhooklaw07.StoreHolds", spec := "storeHolds", inPlace := ["slices.overlaps[int64]", "slices.overlaps[*billhook/tree.node[[]billhook/api.Value]]", "slices.overlaps[[]billhook/api.Value]"], unfollowed := true, recurses := true, plainKeys := false, apart := false, narrowed := true }
def StoreHoldsUptoSaid : Prop := storeHoldsUptoRow.holds Tryz.pinned (OpenSpec.upto storeHoldsSpec)

/-- 'billhooklaw07.StoreDone', WHERE WHAT IT READS IS OF BULK AT MOST 1048576: true; the input reads as it did. -/
def storeDoneUptoRow : OpenClaim := { program := "ytjfpeklfgnajoaagreat", sum := "e320392da3d5720e320c019b3c0fd2b8702d893e5876c721bd32d78f99360543", func := "billhook/billhooklaw07.StoreDone", spec := "storeDone", inPlace := ["slices.overlaps[int64]", "slices.overlaps[*billhook/tree.node[[]billhook/api.Value]]", "slices.overlaps[[]billhook/api.Value]"], unfollowed := true, recurses := true, plainKeys := false, apart := false, narrowed := true }
def StoreDoneUptoSaid : Prop := storeDoneUptoRow.holds Tryz.pinned (OpenSpec.upto storeDoneSpec)

/-- 'billhooklaw07.StoreApart', WHERE WHAT IT READS IS OF BULK AT MOST 1048576: true; the input reads as it did. -/
def storeApartUptoRow : OpenClaim := { program := "ytjfpeklfgnajoaagreat", sum := "e320392da3d5720e320c019b3c0fd2b8702d893e5876c721bd32d78f99360543", func := "billhook/billhooklaw07.StoreApart", spec := "storeApart", inPlace := ["slices.overlaps[int64]", "slices.overlaps[*billhook/tree.node[[]billhook/api.Value]]", "slices.overlaps[[]billhook/api.Value]"], unfollowed := true, recurses := true, plainKeys := false, apart := false, narrowed := true }
def StoreApartUptoSaid : Prop := storeApartUptoRow.holds Tryz.pinned (OpenSpec.upto storeApartSpec)

end Rows
end Go.Proofs.YtjfpeklfgnajoaaGreat
