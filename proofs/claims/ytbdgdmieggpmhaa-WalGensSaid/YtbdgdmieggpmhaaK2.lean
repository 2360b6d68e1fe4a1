/-
  Layer 3: the small contracts: copied, isSlot, New, Sure, Room, Log, Slot.
-/
import Derived.Test.YtbdgdmieggpmhaaK1
import Derived.BigQuiet
import Derived.Deep.QuietTactic
import Derived.IntWalk
namespace Go.Proofs.Ytbdgdmieggpmhaa.L3
open Go.ChangeShapes Go.WideShapes Go.ChangeAt Go.RowKit By Reg
set_option linter.unusedVariables false

theorem info8 : (Try.prog.info? 5).map (fun i => (i.zero, i.size, i.bytes)) = some (some (.int .u8 0), 1, 1) := by kernel_rfl
theorem info9 : (Try.prog.info? 9).map (fun i => (i.zero, i.size, i.bytes)) = some (some (.string ⟨#[]⟩), 1, 16) := by kernel_rfl
theorem size8 : (Try.prog.info? 5).map (·.size) = some 1 := by kernel_rfl
theorem info_parts {P : Program} {e : TypeId} {z : Value} {s b : Nat} (h : (P.info? e).map (fun i => (i.zero, i.size, i.bytes)) = some (some z, s, b)) : ∃ i, P.info? e = some i ∧ i.zero = some z ∧ i.size = s ∧ i.bytes = b := by
  obtain ⟨i, hi, hz⟩ := Option.map_eq_some_iff.1 h
  simp only [Prod.mk.injEq] at hz
  exact ⟨i, hi, hz.1, hz.2.1, hz.2.2⟩
theorem ret_bool {a b : Bool} (h : a = b) : Ending.returned (.bool a) = .returned (.bool b) := by rw [h]
theorem ret_i64 {a b : Int} (h : a = b) : Ending.returned (.int .i64 a) = .returned (.int .i64 b) := by rw [h]

theorem made_blk (w : World) (n : Nat) : Blk (w.alloc (.cells (madeCells #[Value.int .u8 0] n) 5)) w.heap.size 5 (List.replicate n (.int .u8 0)) := by
  have h := Blk.new w 5 (List.replicate n (Value.int .u8 0))
  rw [← toList_madeCells_one, Array.toArray_toList] at h
  rw [← toList_madeCells_one]
  simpa using h

set_option maxRecDepth 100000 in
theorem copied_any (v : Value) (xs : List UInt8) (w : World) (hb : Bs w v xs) (hx : xs.length ≤ 100000000) :
    Calls Try.prog 62 #[v] w (Put w 5 xs) := by
  obtain ⟨ao, cap, rfl, h2, h3, h4, h5⟩ := hb
  obtain ⟨i0, hi0, hz0, hz1, hz2⟩ := info_parts info8
  have Hi := Lib.hid hi0
  have Hz := Lib.hid hz0
  have Hz1 := Lib.hid hz1
  have Hz2 := Lib.hid hz2
  clear hi0 hz0 hz1 hz2
  have hp : 0 < (xs.map c8).length → (some ⟨w.heap.size, 0, none⟩ : Option Addr) = some ⟨w.heap.size, 0, none⟩ ∧ ∃ ad, ao = some ad ∧ ∀ j v, (xs.map c8)[j]? = some v → (w.alloc (.cells (madeCells #[Value.int .u8 0] xs.length) 5)).cell? (ad.add j) = some v := by
    intro hp
    refine ⟨rfl, ?_⟩
    cases ao with
    | none => have := h4 rfl; simp at hp; omega
    | some ad => exact ⟨ad, rfl, fun j u hu => by rw [World.cell?_alloc_lt _ _ _ (World.block_lt_of_cell? w _ (h5 ad rfl j u hu))]; exact h5 ad rfl j u hu⟩
  have HP := Lib.hid hp
  clear h4 h5 hp
  go_enter Try.func62, Try.ntmps62
  go_wp2_with (first | (refine wpList_make_row _ rfl _ _ 23 rfl 5 i0 (.int .u8 0) Try.underlying23 Hi.out Hz.out Hz1.out rfl .i64 .i64 xs.length rfl rfl (by rw [Hz2.out]; omega) (by omega) ?_ ) | (refine wpList_copy_splice rfl _ _ 23 23 rfl 5 Try.underlying23 size8 (some ⟨w.heap.size, 0, none⟩) ao xs.length xs.length xs.length cap rfl rfl w.heap.size 0 (List.replicate xs.length (.int .u8 0)) 5 (made_blk w _) (xs.map c8) (by simp) HP.out (by simp) c8_one w.heap.size w ((Below.refl _ w).alloc (Nat.le_refl _) _) (Nat.le_refl _) ?_))
  intro w' hg hb
  go_wp2
  go_ret
  refine ⟨w.heap.size, xs.length, rfl, ⟨by simp, .inr ⟨_, _, _, rfl, Nat.le_refl _, hg.out, Nat.le_refl _, by omega, ?_, ?_⟩⟩, hb⟩
  · simp [splice]
  · simp [splice]; exact List.take_of_length_le (by simp)

theorem isslot_any (n : Int) (w : World) : Calls Try.prog 76 #[.int .i64 n] w fun e w' => e = .returned (.bool (decide (0 ≤ n ∧ n < 2))) ∧ w = w' := by
  by_cases h0 : 0 ≤ n
  · by_cases h1 : n < 2
    · go_enter Try.func76, Try.ntmps76
      go_wp2
      go_ret
      exact ⟨ret_bool (by simp [h0, h1]), rfl⟩
    · go_enter Try.func76, Try.ntmps76
      go_wp2
      go_ret
      exact ⟨ret_bool (by simp [h1]), rfl⟩
  · go_enter Try.func76, Try.ntmps76
    go_wp2
    go_ret
    exact ⟨ret_bool (by simp; omega), rfl⟩

def clampN (n : Int) : Nat := (min (max n 0) 1048576).toNat
theorem clampN_le (n : Int) : clampN n ≤ 1048576 := by unfold clampN; omega

def mem0 (b : Nat) : Mem := ⟨b, .slice none 0 0, .slice none 0 0, .slice none 0 0, .slice none 0 0, .slice none 0 0⟩
theorem mem0_has {b k : Nat} (h : (mem0 b).has k) : k = b := by
  rcases h with (h | h) | h | h | h | h
  · exact h
  all_goals simp [mem0, Value.ownBlock] at h
theorem heldK_new (w : World) (n : Nat) (hn : n ≤ 1048576) : HeldK (w.alloc (.cells #[.int .i64 n, .slice none 0 0, .int .i64 0, .slice none 0 0, .slice none 0 0, .slice none 0 0, .slice none 0 0] 93)) (mem0 w.heap.size) (Dk.new n) where
  blk := Blk.new w _ [_, _, _, _, _, _, _]
  own := World.ownsRow_nil _ _ _ _
  ne := by simp [mem0, Value.ownBlock]
  b0 := Bs.nil _
  b1 := Bs.nil _
  c0 := Bs.nil _
  c1 := Bs.nil _
  o0 := fun k h => by simp [mem0, Value.ownBlock] at h
  o1 := fun k h => by simp [mem0, Value.ownBlock] at h
  q0 := fun k h => by simp [mem0, Value.ownBlock] at h
  q1 := fun k h => by simp [mem0, Value.ownBlock] at h
  lt := fun k h => by rw [mem0_has h]; simp
  ok := Dk.new_ok hn

def NewK (w : World) (n : Nat) (e : Ending) (w' : World) : Prop := e = .returned (.pointer (some ⟨w.heap.size, 0, none⟩)) ∧ HeldK w' (mem0 w.heap.size) (Dk.new n) ∧ Rb w w'

theorem new_any (n : Int) (w : World) : Calls Try.prog 21 #[.int .i64 n] w (NewK w (clampN n)) := by
  have fin : ∀ c : Nat, c ≤ 1048576 → NewK w c (.returned (.pointer (some ⟨w.heap.size, 0, none⟩))) (w.alloc (.cells #[.int .i64 c, .slice none 0 0, .int .i64 0, .slice none 0 0, .slice none 0 0, .slice none 0 0, .slice none 0 0] 93)) :=
    fun c hc => ⟨rfl, heldK_new w c hc, (Below.refl _ _).alloc (Nat.le_refl _) _⟩
  by_cases h0 : n < 0
  · have e : clampN n = 0 := by unfold clampN; omega
    rw [e]
    have F := Lib.hid (fin 0 (by omega))
    clear fin e
    go_enter Try.func21, Try.ntmps21
    go_wp2
    go_ret
    exact F.out
  · by_cases h1 : 1048576 < n
    · have e : clampN n = 1048576 := by unfold clampN; omega
      rw [e]
      have F := Lib.hid (fin 1048576 (by omega))
      clear fin e
      go_enter Try.func21, Try.ntmps21
      go_wp2
      go_ret
      exact F.out
    · obtain ⟨c, rfl⟩ := Int.eq_ofNat_of_zero_le (by omega : 0 ≤ n)
      have e : clampN c = c := by unfold clampN; omega
      rw [e]
      have F := Lib.hid (fin c (by omega))
      clear fin e
      go_enter Try.func21, Try.ntmps21
      go_wp2
      go_ret
      exact F.out
end Go.Proofs.Ytbdgdmieggpmhaa.L3
