/-
  Layer 6: the document's example.
-/
import Derived.Test.YtolfeellcdoopaaDoorS10
import Derived.Test.YtolfeellcdoopaaDoorS2
namespace Go.Proofs.YtolfeellcdoopaaDoor.L6
open Go.ChangeShapes Go.WideShapes Go.ChangeAt Go.RowKit Oct By Reg Val
set_option linter.unusedVariables false
set_option linter.unusedSimpArgs false

abbrev accS : ByteArray := ⟨#[97, 99, 99]⟩
def exCols : List ColD := [⟨⟨#[98, 97, 108]⟩, 1, 0⟩, ⟨⟨#[119, 104, 111]⟩, 3, 6⟩]
theorem ex_text : printB accS 8 exCols = [116, 97, 98, 108, 101, 32, 97, 99, 99, 32, 114, 111, 119, 115, 32, 56, 32, 123, 32, 98, 97, 108, 32, 105, 110, 116, 59, 32, 119, 104, 111, 32, 116, 101, 120, 116, 32, 54, 59, 32, 125] := by
  have e8 : Lib.itoa 8 = [56] := by
    rw [show (8 : Int) = ((8 : Nat) : Int) from rfl, itoa_nat, dec_small (by omega)]; rfl
  have e6 : Lib.itoa 6 = [54] := by
    rw [show (6 : Int) = ((6 : Nat) : Int) from rfl, itoa_nat, dec_small (by omega)]; rfl
  have t1 : typeText 1 0 = [105, 110, 116] := rfl
  have t3 : typeText 3 6 = [116, 101, 120, 116, 32, 54] := by
    unfold typeText
    rw [show rightTypeB 3 6 = true from rfl, e6]
    rfl
  unfold printB headB exCols colB
  simp only [List.flatMap_cons, List.flatMap_nil, e8, t1, t3]
  rfl

theorem cell?_same {w w' : World} {p : Addr} (h : w'.heap[p.block]? = w.heap[p.block]?) : w'.cell? p = w.cell? p := by
  unfold World.cell?
  rw [h]
theorem Row3.keep {α : Type} {enc : α → Value × Value × Value} {w w' : World} {ad : Addr} {n c : Nat} {L : List α} (h : Row3 enc w (.slice (some ad) n c) L) (hk : w'.heap[ad.block]? = w.heap[ad.block]?) : Row3 enc w' (.slice (some ad) n c) L := by
  obtain ⟨ao, cap, e, h2, h3, h4⟩ := h
  refine ⟨ao, cap, e, h2, h3, fun h0 => ?_⟩
  obtain ⟨b, o, rfl, hc⟩ := h4 h0
  simp only [Value.slice.injEq, Option.some.injEq] at e
  obtain ⟨rfl, -, -⟩ := e
  refine ⟨b, o, rfl, fun k hk2 => ?_⟩
  have := hc k hk2
  refine ⟨?_, ?_, ?_⟩
  · exact (cell?_same (p := ⟨b, o + k * 3, none⟩) hk).trans this.1
  · exact (cell?_same (p := ⟨b, o + k * 3 + 1, none⟩) hk).trans this.2.1
  · exact (cell?_same (p := ⟨b, o + k * 3 + 2, none⟩) hk).trans this.2.2

set_option maxRecDepth 100000 in
set_option maxHeartbeats 1000000 in
theorem example_any (w : World) : Calls Tryd.prog 34 #[] w fun e w' => ∃ cv, e = .returned (tabV ⟨accS, 8, cv, exCols⟩) ∧ Cols w' cv exCols ∧ Rb w w' := by
  obtain ⟨wa, hwa⟩ : ∃ wa, wa = w.alloc (.cells #[.string ⟨#[]⟩, .int .i64 0, .slice none 0 0] 25) := ⟨_, rfl⟩
  have hba : Blk wa w.heap.size 25 [.string ⟨#[]⟩, .int .i64 0, .slice none 0 0] := by rw [hwa]; exact Blk.new w _ _
  have hra : Rb w wa := by rw [hwa]; exact (Below.refl _ _).alloc (Nat.le_refl _) _
  obtain ⟨wb, hwb⟩ : ∃ wb, wb = wa.alloc (.cells #[.string ⟨#[98, 97, 108]⟩, .int .i64 1, .int .i64 0, .string ⟨#[119, 104, 111]⟩, .int .i64 3, .int .i64 6] 57) := ⟨_, rfl⟩
  have hrb : Rb wa wb := by rw [hwb]; exact (Below.refl _ _).alloc (Nat.le_refl _) _
  have hcols : Cols wb (.slice (some ⟨wa.heap.size, 0, none⟩) 2 2) exCols := by
    refine ⟨_, 2, rfl, Nat.le_refl _, by decide, fun _ => ⟨wa.heap.size, 0, rfl, fun k hk => ?_⟩⟩
    have hk2 : k = 0 ∨ k = 1 := by simp [exCols] at hk; omega
    rw [hwb]
    rcases hk2 with rfl | rfl <;> simp [exCols]
  have hbb := hba.rb hrb
  have HB := Lib.hid hbb
  have HC := Lib.hid hcols
  have HRA := Lib.hid hra
  have HRB := Lib.hid hrb
  clear hba hra hrb hcols hbb
  go_enter Tryd.func34, Tryd.ntmps34
  have HWA := Lib.hid hwa
  have HWB := Lib.hid hwb
  clear hwa hwb
  go_wp2_with (rw [← HWA.out, ← HWB.out]; refine wpList_store rfl 25 _ _ rfl w.heap.size 0 _ _ [_, _, _] _ rfl rfl HB.out rfl sizeT (by simp) (oneT _ _ _ _ _) ?_)
  intro w1 hb1 hw1
  have hz : wa.heap.size = w.heap.size + 1 := by rw [HWA.out]; simp
  rw [← hz]
  have HZ := Lib.hid hz
  obtain ⟨x0, x1, x2⟩ := hb1.c3
  rw [← hz] at x2
  have hcol : Cols w1 (.slice (some ⟨wa.heap.size, 0, none⟩) 2 2) exCols := Row3.keep HC.out (hw1.block _ (by show wa.heap.size ≠ w.heap.size; omega))
  have HCOL := Lib.hid hcol
  have HRR : Hid (Rb w w1) := by
    have h1 := HRA.out
    have h2 := Rb.trans _ _ _ HRA.out HRB.out
    refine ⟨hw1.os.trans h2.os, hw1.tape.trans h2.tape, hw1.output.trans h2.output, by rw [hw1.size]; exact h2.size, fun k hk => ?_⟩
    rw [hw1.block k (by omega)]
    exact h2.block k hk
  clear hz hb1 hw1 hcol
  go_wp2
  exact bodyPost_ret (v := tabV ⟨accS, 8, .slice (some ⟨wa.heap.size, 0, none⟩) 2 2, exCols⟩) (by simp [results, Tryd.results34, go_sem, x0, x1, x2]) rfl ⟨_, rfl, HCOL.out, HRR.out⟩

theorem ex_ok : ∀ c ∈ exCols, c.name.size ≤ 40 := by
  intro c hc
  simp [exCols] at hc
  rcases hc with rfl | rfl <;> decide
theorem wordB_data (s : ByteArray) : wordB s = wordsL.any fun x => s.data.toList == x.data.toList := by
  unfold wordB eqS
  simp only [Lib.toList_data]
theorem acc_name : nameB accS = true := by unfold nameB; rw [wordB_data]; rfl
theorem let_name : nameB ⟨#[108, 101, 116]⟩ = false := by unfold nameB; rw [wordB_data]; rfl
set_option maxRecDepth 100000 in
set_option maxHeartbeats 1000000 in
theorem lives_any (w : World) (htab : Tab w) : Calls Tryd.prog 9 #[] w fun e w' => e = .returned (.bool true) ∧ Rb w w' := by
  have HT := Lib.hid htab
  clear htab
  go_enter Tryd.func9, Tryd.ntmps9
  go_wp2_with fail
  refine (example_any _).mono ?_
  rintro e w1 ⟨cv, rfl, hc, hb1⟩
  have HB1 := Lib.hid hb1
  have hp := print_any accS 8 cv exCols w1 hc (HT.out.rb hb1) (by decide) (by decide) (by decide) (by decide) ex_ok
  obtain ⟨ao, cap, rfl, _, _⟩ := Row3.form hc
  clear hc hb1
  go_wp2_with fail
  refine hp.mono ?_
  rintro e w2 ⟨rfl, hb2⟩
  have HB2 := Lib.hid (Rb.trans _ _ _ HB1.out hb2)
  have he : ((str (printB accS 8 exCols)).toList == [116, 97, 98, 108, 101, 32, 97, 99, 99, 32, 114, 111, 119, 115, 32, 56, 32, 123, 32, 98, 97, 108, 32, 105, 110, 116, 59, 32, 119, 104, 111, 32, 116, 101, 120, 116, 32, 54, 59, 32, 125]) = true := by
    rw [Lib.toList_data, toList_str, ex_text]; rfl
  generalize str (printB accS 8 exCols) = S at *
  have n1 := fun w => isname_any accS w (by decide)
  have n2 := fun w => isname_any ⟨#[108, 101, 116]⟩ w (by decide)
  rw [acc_name] at n1
  rw [let_name] at n2
  clear hb2 hp
  go_wp2_with fail
  refine (n1 _).mono ?_
  rintro e w3 ⟨rfl, rfl⟩
  go_wp2_with fail
  refine (n2 _).mono ?_
  rintro e w3 ⟨rfl, rfl⟩
  go_wp2
  go_ret
  exact ⟨rfl, HB2.out⟩
end Go.Proofs.YtolfeellcdoopaaDoor.L6
