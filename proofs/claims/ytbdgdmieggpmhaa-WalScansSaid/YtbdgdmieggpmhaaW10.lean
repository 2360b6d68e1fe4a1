/-
  Layer 4: WalScans' walk.
-/
import Derived.Test.YtbdgdmieggpmhaaW9
namespace Go.Proofs.Ytbdgdmieggpmhaa.L4
open Go.ChangeShapes Go.WideShapes Go.ChangeAt Go.RowKit Oct By Reg L3
set_option linter.unusedVariables false

set_option maxRecDepth 100000 in
theorem scans_walk (u : Value) (zs : List UInt8) (g : Nat) (w0 : World) (hb : Bs w0 u zs) (hg : g < 4294967296) :
    Calls Try.prog 4 #[u, .int .u32 g] w0 fun e w' => e = .returned (.bool true) ∧ Below w0.heap.size w0 w' := by
  have HCut := Lib.hid (cut_any u zs w0 hb)
  have HG := Lib.hid hg
  obtain ⟨ao, cap, rfl, -⟩ := hb.len
  clear hb hg
  go_enter Try.func4, Try.ntmps4
  go_wp2_with fail
  refine HCut.out.mono ?_
  rintro e w1 ⟨⟨u1, rfl, hb1⟩, rfl⟩
  have hx : (zs.take 300).length ≤ 300 := by rw [List.length_take]; omega
  generalize zs.take 300 = xs at *
  have HX := Lib.hid hx
  have H1 := Lib.hid hb1
  clear hx hb1
  go_wp2_with fail
  refine (scan_any u1 g xs w0 H1.out (by have := HX.out; omega)).mono ?_
  rintro e w1 ⟨v5, rfl, hrow, hr⟩
  have HR1 := Lib.hid hr
  have H5 := Lib.hid hrow.reads
  have k2 := conv_bs (H1.out.below hr)
  clear hrow hr
  go_wp2_with fail
  clear k2
  refine (rscan_any g xs w1 (by have := HX.out; omega) HG.out).mono ?_
  rintro e w2 ⟨v7, rfl, hst, hr⟩
  have HR2 := Lib.hid (Rb.trans _ _ _ HR1.out hr)
  have H5 := Lib.hid (H5.out.rb hr)
  have H7 := Lib.hid hst.reads
  clear hst hr
  generalize lenL g (rowsL g xs) = n at *
  generalize rowsL g xs = ss at *
  go_wp2_with fail
  refine (same_any v5 v7 ss w2 H5.out H7.out).mono ?_
  rintro e w3 ⟨rfl, hr⟩
  have HR3 := Lib.hid (Rb.trans _ _ _ HR2.out hr)
  clear hr
  go_wp2_with fail
  refine (lives_any w3).mono ?_
  rintro e w4 ⟨rfl, hr⟩
  have HR4 := Lib.hid (Rb.trans _ _ _ HR3.out hr)
  clear hr
  go_wp2
  go_ret
  exact ⟨rfl, HR4.out⟩
end Go.Proofs.Ytbdgdmieggpmhaa.L4
