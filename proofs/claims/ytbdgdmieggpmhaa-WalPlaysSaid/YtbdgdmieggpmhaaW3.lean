/-
  Layer 4: one frame read, by the program and by the document.
-/
import Derived.Test.YtbdgdmieggpmhaaW2
namespace Go.Proofs.Ytbdgdmieggpmhaa.L4
open Go.ChangeShapes Go.WideShapes Go.ChangeAt Go.RowKit Oct By Reg L3
set_option linter.unusedVariables false

/-- a slice of new memory that reads as these bytes -/
def Fresh (w0 w : World) (v : Value) (s : List UInt8) : Prop := ∃ n c, v = .slice (some ⟨n, 0, none⟩) s.length c ∧ Bs w v s ∧ w0.heap.size ≤ n ∧ ∃ cs m, w.heap[n]? = some (.cells cs 5 m)
def readNo : Value := .tuple #[.int .u32 0, .slice none 0 0, .int .i64 0, .bool false]
def ReadQ (w : World) (X : List UInt8) (i : Nat) (e : Ending) (w' : World) : Prop :=
  match headF (X.drop i) with
  | none => e = .returned readNo ∧ Rb w w'
  | some (g, s) => ∃ v, e = .returned (.tuple #[.int .u32 g, v, .int .i64 ((i + (frameB g s).length : Nat) : Int), .bool true]) ∧ Fresh w w' v s ∧ Rb w w'

theorem tupW_no {X : List UInt8} {i : Nat} (h : ¬ i + 4 ≤ X.length) : tupW X i = .tuple #[.int .u32 0, .int .i64 0, .bool false] := by
  unfold tupW; rw [if_neg (by omega)]
theorem tupW_yes {X : List UInt8} {i : Nat} (h : i + 4 ≤ X.length) : tupW X i = .tuple #[.int .u32 (wacc (X.drop i) 4), .int .i64 ((i + 4 : Nat) : Int), .bool true] := by
  unfold tupW; rw [if_pos (by omega), Int.toNat_natCast]; rfl

set_option maxRecDepth 100000 in
theorem read_short (v : Value) (X : List UInt8) (i : Nat) (w : World) (hb : Bs w v X) (hx : X.length ≤ 100000000) (h : ¬ i + 4 ≤ X.length) :
    Calls Try.prog 48 #[v, .int .i64 (i : Int)] w fun e w' => e = .returned readNo ∧ w = w' := by
  have C := getword_any v X i w hb hx
  rw [tupW_no h] at C
  obtain ⟨ao, cap, rfl, -⟩ := hb.len
  have HC := Lib.hid C
  clear C hb
  go_enter Try.func48, Try.ntmps48
  go_wp2_with fail
  refine HC.out.mono ?_
  rintro e w' ⟨rfl, rfl⟩
  go_wp2
  exact bodyPost_ret (v := readNo) (by simp [results, Try.results48, go_sem, readNo]) rfl ⟨rfl, rfl⟩

/-- where the two ways of the document's words part -/
theorem gt_at_drop {X : List UInt8} {i : Nat} (h : i + 4 ≤ X.length) : gt X ((i + 4 : Nat) : Int) X.length = gt (X.drop i) (4 : Nat) (X.drop i).length := by
  rw [← gt_drop X i 4 (by omega)]; rfl

set_option maxRecDepth 100000 in
theorem read_notext (v : Value) (X : List UInt8) (i : Nat) (w : World) (hb : Bs w v X) (hx : X.length ≤ 100000000) (h : i + 4 ≤ X.length) (hn : gt X ((i + 4 : Nat) : Int) X.length = none) :
    Calls Try.prog 48 #[v, .int .i64 (i : Int)] w fun e w' => e = .returned readNo ∧ w = w' := by
  have C := getword_any v X i w hb hx
  rw [tupW_yes h] at C
  have C2 := gettext_any v X ((i + 4 : Nat) : Int) X.length w hb hx
  rw [hn] at C2
  have C2 : Calls Try.prog 69 #[v, .int .i64 ((i + 4 : Nat) : Int), .int .i64 X.length] w fun e w' => e = .returned (.tuple #[.string (str []), .int .i64 0, .bool false]) ∧ w = w' := C2
  obtain ⟨ao, cap, rfl, -⟩ := hb.len
  generalize wacc (X.drop i) 4 = g at C
  have HC := Lib.hid C
  have HC2 := Lib.hid C2
  clear C C2 hb hn
  go_enter Try.func48, Try.ntmps48
  go_wp2_with fail
  refine HC.out.mono ?_
  rintro e w' ⟨rfl, rfl⟩
  go_wp2_with fail
  refine HC2.out.mono ?_
  rintro e w' ⟨rfl, rfl⟩
  go_wp2
  exact bodyPost_ret (v := readNo) (by simp [results, Try.results48, go_sem, readNo]) rfl ⟨rfl, rfl⟩
set_option maxRecDepth 100000 in
theorem read_nosum (v : Value) (X s : List UInt8) (i m : Nat) (w : World) (hb : Bs w v X) (hx : X.length ≤ 100000000) (h : i + 4 ≤ X.length) (hn : gt X ((i + 4 : Nat) : Int) X.length = some (s, m)) (h2 : ¬ i + 4 + m + 4 ≤ X.length) :
    Calls Try.prog 48 #[v, .int .i64 (i : Int)] w fun e w' => e = .returned readNo ∧ w = w' := by
  have C := getword_any v X i w hb hx
  rw [tupW_yes h] at C
  have C2 := gettext_any v X ((i + 4 : Nat) : Int) X.length w hb hx
  rw [hn] at C2
  have C2 : Calls Try.prog 69 #[v, .int .i64 ((i + 4 : Nat) : Int), .int .i64 X.length] w fun e w' => e = .returned (.tuple #[.string (str s), .int .i64 ((i + 4 + m : Nat) : Int), .bool true]) ∧ w = w' := C2
  have C3 := getword_any v X ((i + 4 + m : Nat) : Int) w hb hx
  rw [tupW_no h2] at C3
  obtain ⟨ao, cap, rfl, -⟩ := hb.len
  generalize wacc (X.drop i) 4 = g at C
  have HC := Lib.hid C
  have HC2 := Lib.hid C2
  have HC3 := Lib.hid C3
  clear C C2 C3 hb hn
  go_enter Try.func48, Try.ntmps48
  go_wp2_with fail
  refine HC.out.mono ?_
  rintro e w' ⟨rfl, rfl⟩
  go_wp2_with fail
  refine HC2.out.mono ?_
  rintro e w' ⟨rfl, rfl⟩
  go_wp2_with fail
  refine HC3.out.mono ?_
  rintro e w' ⟨rfl, rfl⟩
  go_wp2
  exact bodyPost_ret (v := readNo) (by simp [results, Try.results48, go_sem, readNo]) rfl ⟨rfl, rfl⟩

theorem slice_lh {w : World} {ao : Option Addr} {n cap : Nat} {X : List UInt8} (hb : Bs w (.slice ao n cap) X) (l h : Nat) (h1 : l ≤ h) (h2 : h ≤ X.length) :
    (Instr.slice 23 (.slice ao n cap) (some (.int .i64 (l : Int))) (some (.int .i64 (h : Int))) none).run Try.prog w = .ok (sliced ao l h cap 1) w := by
  obtain ⟨ao', cap', e, e2, e3⟩ := hb.len
  simp only [Value.slice.injEq] at e
  obtain ⟨rfl, rfl, rfl⟩ := e
  have ht' : Try.prog.underlying 23 = some (.slice (Try.prog.elem 23)) := by simp [Program.elem, Try.underlying23]
  have he : Try.prog.elem 23 = 5 := by simp [Program.elem, Try.underlying23]
  rw [run_slice_lh w 23 _ _ _ ht' .i64 .i64 _ _ (by omega) (by omega) (by omega), he, sizeOf8]
  simp [Result.andThen]

theorem bytes_fresh (w : World) (s : List UInt8) (hl : s.length ≤ 100000000) : Fresh w (Lib.bytesWorld w 5 (str s)) (.slice (some ⟨w.heap.size, 0, none⟩) (str s).size (grownCap w (str s).size 0 5)) s := by
  have hz : (str s).size = s.length := str_size s
  refine ⟨w.heap.size, _, by rw [hz], ⟨_, _, by rw [hz], ?_, ?_, (fun h => by cases h), fun ad ha j u hu => ?_⟩, Nat.le_refl _, _, _, Lib.bytesWorld_at_new w 5 (str s)⟩
  · rw [← hz]; exact grownCap_ge _ _ _ _
  · exact grownCap_le_maxLen _ _ _ _ (by unfold maxLen; omega)
  · cases ha
    exact bytesWorld_cells w 5 (str s) j u hu

set_option maxRecDepth 100000 in
theorem read_sum (v : Value) (X s H : List UInt8) (i m g z : Nat) (w : World) (hb : Bs w v X) (hx : X.length ≤ 100000000) (h : i + 4 ≤ X.length) (hg : wacc (X.drop i) 4 = g) (hn : gt X ((i + 4 : Nat) : Int) X.length = some (s, m)) (h2 : i + 4 + m + 4 ≤ X.length)
    (hH : (X.drop i).take (4 + m) = H) (hz : wacc (X.drop (i + 4 + m)) 4 = z) :
    Calls Try.prog 48 #[v, .int .i64 (i : Int)] w fun e w' => if z = sumN H then ∃ v, e = .returned (.tuple #[.int .u32 g, v, .int .i64 ((i + 4 + m + 4 : Nat) : Int), .bool true]) ∧ Fresh w w' v s ∧ Rb w w' else e = .returned readNo ∧ w = w' := by
  have C := getword_any v X i w hb hx
  rw [tupW_yes h, hg] at C
  have C2 := gettext_any v X ((i + 4 : Nat) : Int) X.length w hb hx
  rw [hn] at C2
  have C2 : Calls Try.prog 69 #[v, .int .i64 ((i + 4 : Nat) : Int), .int .i64 X.length] w fun e w' => e = .returned (.tuple #[.string (str s), .int .i64 ((i + 4 + m : Nat) : Int), .bool true]) ∧ w = w' := C2
  have C3 := getword_any v X ((i + 4 + m : Nat) : Int) w hb hx
  rw [tupW_yes h2, hz] at C3
  have hsl : s.length ≤ X.length := by
    have := gt_text hn
    omega
  obtain ⟨ao, cap, rfl, -⟩ := hb.len
  have hb2 := hb.sub i (i + 4 + m) (by omega) (by omega)
  rw [show i + 4 + m - i = 4 + m by omega, hH] at hb2
  have sl := slice_lh hb i (i + 4 + m) (by omega) (by omega)
  obtain ⟨u, hu⟩ : ∃ u, sliced ao i (i + 4 + m) cap 1 = u := ⟨_, rfl⟩
  rw [hu] at sl hb2
  have C4 := sum_any u H w hb2 (by have := congrArg List.length hH; rw [List.length_take, List.length_drop] at this; omega)
  push_cast at C C2 C3 sl ⊢
  have HC := Lib.hid C
  have HC2 := Lib.hid C2
  have HC3 := Lib.hid C3
  have HC4 := Lib.hid C4
  have HL := Lib.hid hsl
  clear C C2 C3 C4 hb hb2 hn hu hH hz hg hsl
  generalize sumN H = q at *
  have kc := fun (w : World) => Lib.run_convert_string_bytes (P := Try.prog) w 9 23 5 (str s) Try.underlying9 Try.underlying23 Try.underlying5
  by_cases hq : z = q
  · simp only [if_pos hq]
    subst hq
    go_enter Try.func48, Try.ntmps48
    go_wp2_with fail
    refine HC.out.mono ?_
    rintro e w' ⟨rfl, rfl⟩
    go_wp2_with fail
    refine HC2.out.mono ?_
    rintro e w' ⟨rfl, rfl⟩
    go_wp2_with fail
    refine HC3.out.mono ?_
    rintro e w' ⟨rfl, rfl⟩
    go_wp2_with fail
    refine HC4.out.mono ?_
    rintro e w' ⟨rfl, rfl⟩
    go_wp2
    have F := bytes_fresh w s (by have := HL.out; omega)
    have hB := bytesWorld_below w 5 (str s)
    generalize Lib.bytesWorld w 5 (str s) = w2 at *
    generalize Value.slice (some ⟨w.heap.size, 0, none⟩) (str s).size (grownCap w (str s).size 0 5) = u2 at *
    refine bodyPost_ret (v := .tuple #[.int .u32 g, u2, _, .bool true]) (by simp [results, Try.results48, go_sem]) rfl ⟨u2, rfl, F, hB⟩
  · simp only [if_neg hq]
    have hq' : ¬ ((z : Int) = (q : Int)) := by omega
    go_enter Try.func48, Try.ntmps48
    go_wp2_with fail
    refine HC.out.mono ?_
    rintro e w' ⟨rfl, rfl⟩
    go_wp2_with fail
    refine HC2.out.mono ?_
    rintro e w' ⟨rfl, rfl⟩
    go_wp2_with fail
    refine HC3.out.mono ?_
    rintro e w' ⟨rfl, rfl⟩
    go_wp2_with fail
    refine HC4.out.mono ?_
    rintro e w' ⟨rfl, rfl⟩
    go_wp2
    exact bodyPost_ret (v := readNo) (by simp [results, Try.results48, go_sem, readNo]) rfl ⟨rfl, rfl⟩

theorem read_any (v : Value) (X : List UInt8) (i : Nat) (w : World) (hb : Bs w v X) (hx : X.length ≤ 100000000) (hi : i ≤ X.length) :
    Calls Try.prog 48 #[v, .int .i64 (i : Int)] w (ReadQ w X i) := by
  have no : headF (X.drop i) = none → (Calls Try.prog 48 #[v, .int .i64 (i : Int)] w fun e w' => e = .returned readNo ∧ w = w') → Calls Try.prog 48 #[v, .int .i64 (i : Int)] w (ReadQ w X i) := fun h0 h =>
    h.mono fun e w' ⟨he, hw⟩ => by unfold ReadQ; rw [h0]; exact ⟨he, hw ▸ Rb.refl _⟩
  have hd : (X.drop i).length = X.length - i := List.length_drop
  by_cases h : i + 4 ≤ X.length
  · cases hg : gt X ((i + 4 : Nat) : Int) X.length with
    | none =>
      refine no ?_ (read_notext v X i w hb hx h hg)
      rw [gt_at_drop h] at hg
      unfold headF
      rw [if_pos (by omega), hg]
    | some p =>
      obtain ⟨s, m⟩ := p
      have hg' := hg
      rw [gt_at_drop h] at hg'
      obtain ⟨p1, p2, p3, p4, p5⟩ := headF_parts (by omega) hg'
      by_cases h2 : i + 4 + m + 4 ≤ X.length
      · have hdd : (X.drop i).drop (4 + m) = X.drop (i + 4 + m) := by rw [List.drop_drop, Nat.add_assoc]
        refine (read_sum v X s _ i m _ _ w hb hx h rfl hg h2 p1 rfl).mono fun e w' hq => ?_
        unfold ReadQ
        rw [p5, hdd]
        by_cases hz : wacc (X.drop (i + 4 + m)) 4 = sumN (headB (wacc (X.drop i) 4) s)
        · rw [if_pos hz] at hq
          rw [if_pos ⟨by omega, hz⟩]
          obtain ⟨u, he, hf, hr⟩ := hq
          refine ⟨u, ?_, hf, hr⟩
          rw [he, p4, show i + (4 + m + 4) = i + 4 + m + 4 by omega]
        · rw [if_neg hz] at hq
          rw [if_neg (fun h' => hz h'.2)]
          exact ⟨hq.1, hq.2 ▸ Rb.refl _⟩
      · refine no ?_ (read_nosum v X s i m w hb hx h hg h2)
        rw [p5, if_neg (fun h' => by omega)]
  · refine no ?_ (read_short v X i w hb hx h)
    unfold headF
    rw [if_neg (by omega)]
end Go.Proofs.Ytbdgdmieggpmhaa.L4
