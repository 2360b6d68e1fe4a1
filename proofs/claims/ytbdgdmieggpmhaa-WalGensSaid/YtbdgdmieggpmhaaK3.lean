/-
  Layer 3: what a disk tells: Sure, Room, Log, Slot.
-/
import Derived.Test.YtbdgdmieggpmhaaK2
namespace Go.Proofs.Ytbdgdmieggpmhaa.L3
open Go.ChangeShapes Go.WideShapes Go.ChangeAt Go.RowKit By Reg
set_option linter.unusedVariables false

theorem drewN_rb (w : World) (n : Nat) : Rb w (w.drewN n) := ⟨rfl, rfl, rfl, Nat.le_refl _, fun _ _ => rfl⟩

structure Cells7 (w : World) (b : Nat) (a0 a1 a2 a3 a4 a5 a6 : Value) : Prop where
  e0 : w.cell? ⟨b, 0, none⟩ = some a0
  e1 : w.cell? ⟨b, 1, none⟩ = some a1
  e2 : w.cell? ⟨b, 2, none⟩ = some a2
  e3 : w.cell? ⟨b, 3, none⟩ = some a3
  e4 : w.cell? ⟨b, 4, none⟩ = some a4
  e5 : w.cell? ⟨b, 5, none⟩ = some a5
  e6 : w.cell? ⟨b, 6, none⟩ = some a6
theorem Blk.cells7 {w : World} {b : Nat} {T : TypeId} {a0 a1 a2 a3 a4 a5 a6 : Value} (h : Blk w b T [a0, a1, a2, a3, a4, a5, a6]) : Cells7 w b a0 a1 a2 a3 a4 a5 a6 :=
  ⟨h.cell 0, h.cell 1, h.cell 2, h.cell 3, h.cell 4, h.cell 5, h.cell 6⟩

theorem sure_any (m : Mem) (D : Dk) (w : World) (h : HeldK w m D) : Calls Try.prog 33 #[.pointer (some ⟨m.b, 0, none⟩)] w fun e w' => e = .returned (.int .i64 D.sure.length) ∧ w = w' := by
  have z2 := h.blk.cells7.e2
  clear h
  go_enter Try.func33, Try.ntmps33
  go_wp2
  go_ret
  exact ⟨rfl, rfl⟩
theorem sure_nil (w : World) : Calls Try.prog 33 #[.pointer none] w fun e w' => e = .returned (.int .i64 0) ∧ w = w' := by
  go_enter Try.func33, Try.ntmps33
  go_wp2
  go_ret
  exact ⟨rfl, rfl⟩

theorem room_any (m : Mem) (D : Dk) (w : World) (h : HeldK w m D) : Calls Try.prog 61 #[.pointer (some ⟨m.b, 0, none⟩)] w fun e w' => e = .returned (.int .i64 ((D.room : Int) - (D.log.length : Nat))) ∧ Rb w w' := by
  have z0 := h.blk.cells7.e0
  have z1 := h.blk.cells7.e1
  obtain ⟨ao, cap, e, h2, h3⟩ := (Bs.of_owns h.own).len
  rw [e] at z1
  obtain ⟨h4, h5, -⟩ := h.ok
  generalize D.log.length = n at *
  generalize D.room = r at *
  clear e h
  have hw : IntKind.i64.wrap ((r : Int) - (n : Int)) = (r : Int) - (n : Int) := IntWalk.i64_in _ (by omega)
  go_enter Try.func61, Try.ntmps61
  go_wp2
  go_quiet (fail)
  go_wp2
  go_ret
  exact ⟨rfl, drewN_rb _ _⟩
theorem room_nil (w : World) : Calls Try.prog 61 #[.pointer none] w fun e w' => e = .returned (.int .i64 0) ∧ w = w' := by
  go_enter Try.func61, Try.ntmps61
  go_wp2
  go_ret
  exact ⟨rfl, rfl⟩

theorem log_any (m : Mem) (D : Dk) (w : World) (h : HeldK w m D) : Calls Try.prog 31 #[.pointer (some ⟨m.b, 0, none⟩)] w (Put w 5 D.log) := by
  have z1 := h.blk.cells7.e1
  have C := Lib.hid (copied_any m.lv D.log w (Bs.of_owns h.own) (by obtain ⟨h4, h5, -⟩ := h.ok; omega))
  clear h
  go_enter Try.func31, Try.ntmps31
  go_wp2_with fail
  refine C.out.mono ?_
  rintro e w' ⟨g, cap, rfl, h2, h3⟩
  go_wp2
  go_ret
  exact ⟨g, cap, rfl, h2, h3⟩
theorem log_nil (w : World) : Calls Try.prog 31 #[.pointer none] w fun e w' => e = .returned (.slice none 0 0) ∧ w = w' := by
  go_enter Try.func31, Try.ntmps31
  go_wp2
  go_ret
  exact ⟨rfl, rfl⟩

theorem slot_0 (m : Mem) (D : Dk) (w : World) (h : HeldK w m D) : Calls Try.prog 73 #[.pointer (some ⟨m.b, 0, none⟩), .int .i64 0] w (Put w 5 D.n0) := by
  have z3 := h.blk.cells7.e3
  have C := Lib.hid (copied_any m.v0 D.n0 w h.b0 (by obtain ⟨h4, h5, h6, -⟩ := h.ok; omega))
  clear h
  go_enter Try.func73, Try.ntmps73
  go_wp2_with fail
  refine (isslot_any _ _).mono ?_
  rintro e w' ⟨rfl, rfl⟩
  go_wp2_with fail
  refine C.out.mono ?_
  rintro e w' ⟨g, cap, rfl, h2, h3⟩
  go_wp2
  go_ret
  exact ⟨g, cap, rfl, h2, h3⟩
theorem slot_1 (m : Mem) (D : Dk) (w : World) (h : HeldK w m D) : Calls Try.prog 73 #[.pointer (some ⟨m.b, 0, none⟩), .int .i64 1] w (Put w 5 D.n1) := by
  have z4 := h.blk.cells7.e4
  have C := Lib.hid (copied_any m.v1 D.n1 w h.b1 (by obtain ⟨h4, h5, h6, h7, -⟩ := h.ok; omega))
  clear h
  go_enter Try.func73, Try.ntmps73
  go_wp2_with fail
  refine (isslot_any _ _).mono ?_
  rintro e w' ⟨rfl, rfl⟩
  go_wp2_with fail
  refine C.out.mono ?_
  rintro e w' ⟨g, cap, rfl, h2, h3⟩
  go_wp2
  go_ret
  exact ⟨g, cap, rfl, h2, h3⟩
theorem slot_no (b : Nat) (n : Int) (w : World) (hn : decide (0 ≤ n ∧ n < 2) = false) : Calls Try.prog 73 #[.pointer (some ⟨b, 0, none⟩), .int .i64 n] w fun e w' => e = .returned (.slice none 0 0) ∧ w = w' := by
  have H := Lib.hid hn
  clear hn
  go_enter Try.func73, Try.ntmps73
  go_wp2_with fail
  refine (isslot_any _ _).mono ?_
  rintro e w' ⟨rfl, rfl⟩
  rw [H.out]
  go_wp2
  go_ret
  exact ⟨rfl, rfl⟩
theorem slot_nil (n : Int) (w : World) : Calls Try.prog 73 #[.pointer none, .int .i64 n] w fun e w' => e = .returned (.slice none 0 0) ∧ w = w' := by
  go_enter Try.func73, Try.ntmps73
  go_wp2
  go_ret
  exact ⟨rfl, rfl⟩
end Go.Proofs.Ytbdgdmieggpmhaa.L3
