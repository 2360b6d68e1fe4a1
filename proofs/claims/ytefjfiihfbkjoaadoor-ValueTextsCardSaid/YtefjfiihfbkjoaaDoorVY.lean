/-
  Layer 2: what a text could be the text of.
-/
import Derived.Test.YtefjfiihfbkjoaaDoorVX
import Derived.Test.YtefjfiihfbkjoaaDoorVH
import Derived.Test.YtefjfiihfbkjoaaDoorVO
import Derived.Test.YtefjfiihfbkjoaaDoorShelfP
namespace Go.Proofs.YtefjfiihfbkjoaaDoor
open Go.ChangeShapes Go.WideShapes Go.ChangeAt Go.RowKit Oct By Reg Val

def trueL : List UInt8 := [116, 114, 117, 101]
def falseL : List UInt8 := [102, 97, 108, 115, 101]
/-- the number that a text spells, if any -/
def numB (l : List UInt8) : Option Int := match Lib.parseIntB 64 l with
  | .ok v => some v
  | _ => none
theorem numB_ok {l : List UInt8} {v : Int} (h : numB l = some v) : Lib.parseIntB 64 l = .ok v := by
  unfold numB at h
  split at h
  · rename_i hh; rw [hh]; cases h; rfl
  · cases h
theorem numB_no {l : List UInt8} (h : numB l = none) : ∀ v, Lib.parseIntB 64 l ≠ .ok v := by
  intro v hv
  unfold numB at h
  rw [hv] at h
  cases h
def guessV (l : List UInt8) : Int × Int × List UInt8 :=
  if l = trueL then (2, 1, []) else if l = falseL then (2, 0, []) else if l.getD 0 0 = 34 then (3, 0, unqB l)
  else match numB l with
    | some v => (1, v, [])
    | none => (0, 0, [])
def guessT (l : List UInt8) : Value := vv (guessV l).1 (guessV l).2.1 (str (guessV l).2.2)

theorem parseint_some (s : ByteArray) (hs : s.size ≤ 200) (v : Int) (h : numB s.data.toList = some v) (w : World) :
    Calls Tryd.prog 64 #[.string s, .int .i64 10, .int .i64 64] w fun e w' => e = .returned (.tuple #[.int .i64 v, .nilIface]) ∧ Below w.heap.size w w' :=
  (parseint_ok s (by omega) v (numB_ok h) w).mono fun _ _ ⟨he, hw⟩ => ⟨he, by
    rcases hw with rfl | ⟨t, rfl⟩
    · exact Below.refl _ _
    · exact bytesWorld_below w _ t⟩

set_option maxRecDepth 100000 in
theorem guess_any (s : ByteArray) (w : World) (hs : s.size ≤ 200) (herr : Errs w) :
    Calls Tryd.prog 48 #[.string s] w fun e w' => e = .returned (guessT s.data.toList) ∧ Below w.heap.size w w' := by
  have HE := Lib.hid herr; clear herr
  have g := fun (o : Obj) => (show Below w.heap.size w (w.alloc o) from (Below.refl _ _).alloc (Nat.le_refl _) _)
  by_cases ht : s.data.toList = trueL
  · have hs' : s = ⟨#[116, 114, 117, 101]⟩ := by rw [← str_toList s, ht]; rfl
    subst hs'
    have hR := Lib.hid (show guessT (⟨#[116, 114, 117, 101]⟩ : ByteArray).data.toList = vv 2 1 ⟨#[]⟩ from rfl)
    clear ht
    go_enter Tryd.func48, Tryd.ntmps48
    go_wp2_with fail
    refine (vbool_any true _).mono ?_
    rintro e w1 ⟨rfl, hb⟩
    obtain ⟨hc, hf⟩ := bcell hb
    have HB := Lib.hid ((g _).trans (hb.mono (by simp))); clear hb
    go_wp2_with fail
    rw [hR.out]
    refine bodyPost_ret (v := vv 2 1 ⟨#[]⟩) (by simp [results, Tryd.results48, go_sem, hc]) rfl ⟨rfl, ?_⟩
    exact Below.setCell (Below.setCell (Below.setCell HB.out (Nat.le_refl _) _) (Nat.le_refl _) _) (Nat.le_refl _) _
  by_cases hfl : s.data.toList = falseL
  · have hs' : s = ⟨#[102, 97, 108, 115, 101]⟩ := by rw [← str_toList s, hfl]; rfl
    subst hs'
    have hR := Lib.hid (show guessT (⟨#[102, 97, 108, 115, 101]⟩ : ByteArray).data.toList = vv 2 0 ⟨#[]⟩ from rfl)
    clear ht hfl
    go_enter Tryd.func48, Tryd.ntmps48
    go_wp2_with fail
    refine (vbool_any false _).mono ?_
    rintro e w1 ⟨rfl, hb⟩
    obtain ⟨hc, hf⟩ := bcell hb
    have HB := Lib.hid ((g _).trans (hb.mono (by simp))); clear hb
    go_wp2_with fail
    rw [hR.out]
    refine bodyPost_ret (v := vv 2 0 ⟨#[]⟩) (by simp [results, Tryd.results48, go_sem, hc]) rfl ⟨rfl, ?_⟩
    exact Below.setCell (Below.setCell (Below.setCell HB.out (Nat.le_refl _) _) (Nat.le_refl _) _) (Nat.le_refl _) _
  have h1 : (s.toList == [116, 114, 117, 101]) = false := by rw [ByteArray.toList_eq]; exact beq_eq_false_iff_ne.2 ht
  have h2 : (s.toList == [102, 97, 108, 115, 101]) = false := by rw [ByteArray.toList_eq]; exact beq_eq_false_iff_ne.2 hfl
  by_cases hq : 0 < s.size ∧ s.data.toList.getD 0 0 = 34
  · obtain ⟨hq1, hq2⟩ := hq
    have hR := Lib.hid (show guessT s.data.toList = vv 3 0 (str (unqB s.data.toList)) by unfold guessT guessV; rw [if_neg ht, if_neg hfl, if_pos hq2])
    have hne : s.toList.isEmpty = false := by rw [ByteArray.toList_eq]; have : s.data.toList.length = s.size := Array.length_toList; rw [List.isEmpty_eq_false_iff]; intro h; rw [h] at this; simp at this; omega
    have hgd : s.data.toList.getD 0 0 = s[0] := by
      rw [List.getD_eq_getElem?_getD, List.getElem?_eq_getElem (by rw [Array.length_toList]; exact hq1)]; rfl
    have h34 : ((s[0].toNat : Int) == 34) = true := by rw [← hgd, hq2]; rfl
    have CU := Lib.hid (fun w => unquoted_any s w hs)
    clear ht hfl hgd hq2
    go_enter Tryd.func48, Tryd.ntmps48
    go_wp2_with fail
    refine (CU.out _).mono ?_
    rintro e w1 ⟨rfl, hb⟩
    have HB := Lib.hid hb; clear hb
    unfold strV
    go_wp2_with fail
    refine (vtext_any _ _).mono ?_
    rintro e w2 ⟨rfl, hb⟩
    have hb' := Rb.trans _ _ _ HB.out hb
    obtain ⟨hc, hf⟩ := bcell hb'
    have HB2 := Lib.hid ((g _).trans (Below.mono hb' (by simp))); clear hb hb'
    go_wp2_with fail
    rw [hR.out]
    refine bodyPost_ret (v := vv 3 0 (str (unqB s.data.toList))) (by simp [results, Tryd.results48, go_sem, hc]) rfl ⟨rfl, ?_⟩
    exact Below.setCell (Below.setCell (Below.setCell HB2.out (Nat.le_refl _) _) (Nat.le_refl _) _) (Nat.le_refl _) _
  · have hng : ¬ s.data.toList.getD 0 0 = 34 := fun h => by
      by_cases h0 : 0 < s.size
      · exact hq ⟨h0, h⟩
      · have : s.data.toList.length = s.size := Array.length_toList
        rw [List.eq_nil_of_length_eq_zero (show s.data.toList.length = 0 by omega)] at h
        exact absurd h (by decide)
    have hnum : guessT s.data.toList = match numB s.data.toList with
        | some v => vv 1 v ⟨#[]⟩
        | none => vv 0 0 ⟨#[]⟩ := by
      unfold guessT guessV
      rw [if_neg ht, if_neg hfl, if_neg hng]
      cases numB s.data.toList <;> rfl
    cases hn : numB s.data.toList with
    | some v =>
      rw [hn] at hnum
      have hR := Lib.hid hnum
      have CP := Lib.hid (fun w => parseint_some s hs v hn w)
      clear hnum hn
      by_cases h0 : 0 < s.size
      · have hne : (s.toList == []) = false := by
          rw [ByteArray.toList_eq]; refine beq_eq_false_iff_ne.2 (fun h => ?_)
          have : s.data.toList.length = s.size := Array.length_toList
          rw [h] at this; simp at this; omega
        have hgd : s.data.toList.getD 0 0 = s[0] := by
          rw [List.getD_eq_getElem?_getD, List.getElem?_eq_getElem (by rw [Array.length_toList]; exact h0)]; rfl
        have h34 : ((s[0].toNat : Int) == 34) = false := by
          rw [beq_eq_false_iff_ne]; intro h; exact hng (by rw [hgd]; exact UInt8.toNat_inj.1 (by rw [show s[0].toNat = 34 by omega]; rfl))
        clear ht hfl hgd hng hq
        go_enter Tryd.func48, Tryd.ntmps48
        go_wp2_with fail
        refine (CP.out _).mono ?_
        rintro e w1 ⟨rfl, hb⟩
        have HB := Lib.hid hb; clear hb
        go_wp2_with fail
        refine (vint_any _ _).mono ?_
        rintro e w2 ⟨rfl, hb⟩
        have hb' := Rb.trans _ _ _ HB.out hb
        obtain ⟨hc, hf⟩ := bcell hb'
        have HB2 := Lib.hid ((g _).trans (Below.mono hb' (by simp))); clear hb hb'
        go_wp2_with fail
        rw [hR.out]
        refine bodyPost_ret (v := vv 1 v ⟨#[]⟩) (by simp [results, Tryd.results48, go_sem, hc]) rfl ⟨rfl, ?_⟩
        exact Below.setCell (Below.setCell (Below.setCell HB2.out (Nat.le_refl _) _) (Nat.le_refl _) _) (Nat.le_refl _) _
      · exfalso
        have : s.data.toList.length = s.size := Array.length_toList
        have hnil := List.eq_nil_of_length_eq_zero (show s.data.toList.length = 0 by omega)
        have hv := hR.out
        unfold guessT guessV at hv
        rw [hnil] at hv
        simp [trueL, falseL, numB, Lib.parseIntB] at hv
    | none =>
      rw [hn] at hnum
      have hR := Lib.hid hnum
      obtain ⟨⟨t1, p1, e1⟩, t2, p2, e2⟩ := HE.out
      have CP := Lib.hid (fun w' (hw : Rb w w') => parseint_err s (by omega) (numB_no hn) w' t1 p1 (var?_rb hw e1) t2 p2 (var?_rb hw e2))
      clear hnum hn e1 e2
      by_cases h0 : 0 < s.size
      · have hne : (s.toList == []) = false := by
          rw [ByteArray.toList_eq]; refine beq_eq_false_iff_ne.2 (fun h => ?_)
          have : s.data.toList.length = s.size := Array.length_toList
          rw [h] at this; simp at this; omega
        have hgd : s.data.toList.getD 0 0 = s[0] := by
          rw [List.getD_eq_getElem?_getD, List.getElem?_eq_getElem (by rw [Array.length_toList]; exact h0)]; rfl
        have h34 : ((s[0].toNat : Int) == 34) = false := by
          rw [beq_eq_false_iff_ne]; intro h; exact hng (by rw [hgd]; exact UInt8.toNat_inj.1 (by rw [show s[0].toNat = 34 by omega]; rfl))
        clear ht hfl hgd hng hq
        go_enter Tryd.func48, Tryd.ntmps48
        go_wp2_with fail
        refine (CP.out _ (g _)).mono ?_
        rintro e w1 ⟨n, ty, p, rfl, hb⟩
        obtain ⟨hc, hf⟩ := bcell hb
        have HB2 := Lib.hid ((g _).trans (Below.mono hb (by simp))); clear hb
        go_wp2_with fail
        rw [hR.out]
        refine bodyPost_ret (v := vv 0 0 ⟨#[]⟩) (by simp [results, Tryd.results48, go_sem, hc]) rfl ⟨rfl, ?_⟩
        exact Below.setCell (Below.setCell (Below.setCell HB2.out (Nat.le_refl _) _) (Nat.le_refl _) _) (Nat.le_refl _) _
      · have hs0 : s.size = 0 := by omega
        have hne : s.toList.isEmpty = true := by
          rw [ByteArray.toList_eq]
          have : s.data.toList.length = s.size := Array.length_toList
          rw [List.eq_nil_of_length_eq_zero (show s.data.toList.length = 0 by omega)]; rfl
        clear ht hfl hng hq h0
        go_enter Tryd.func48, Tryd.ntmps48
        go_wp2_with fail
        refine (CP.out _ (g _)).mono ?_
        rintro e w1 ⟨n, ty, p, rfl, hb⟩
        obtain ⟨hc, hf⟩ := bcell hb
        have HB2 := Lib.hid ((g _).trans (Below.mono hb (by simp))); clear hb
        go_wp2_with fail
        rw [hR.out]
        refine bodyPost_ret (v := vv 0 0 ⟨#[]⟩) (by simp [results, Tryd.results48, go_sem, hc]) rfl ⟨rfl, ?_⟩
        exact Below.setCell (Below.setCell (Below.setCell HB2.out (Nat.le_refl _) _) (Nat.le_refl _) _) (Nat.le_refl _) _
end Go.Proofs.YtefjfiihfbkjoaaDoor
