/-
  Layer 2: the texts of types.
-/
import Derived.Test.YtolfeellcdoopaaDoorVE
namespace Go.Proofs.YtolfeellcdoopaaDoor
open Go.ChangeShapes Go.WideShapes Go.ChangeAt Go.RowKit Oct By Reg Val

def typeText (k m : Int) : List UInt8 := if rightTypeB k m = true then (if k = 1 then [105, 110, 116] else if k = 2 then [98, 111, 111, 108] else [116, 101, 120, 116, 32] ++ Lib.itoa m) else []
theorem itoa_nat (u : Nat) : Lib.itoa (u : Int) = Lib.decDigits u := by unfold Lib.itoa; rw [if_neg (by omega)]; simp
theorem dec_len {u : Nat} (h : u < 100) : (Lib.decDigits u).length ≤ 2 := by
  by_cases h1 : u < 10
  · rw [dec_small h1]; simp
  · rw [dec_big (by omega), dec_small (by omega)]; simp

set_option maxRecDepth 100000 in
theorem printtype_any (k m : Int) (w : World) :
    Calls Tryd.prog 44 #[tv k m] w fun e w' => e = .returned (strV (typeText k m)) ∧ Below w.heap.size w w' := by
  have c := fun w => righttype_any k m w
  cases hr : rightTypeB k m
  · have hR := Lib.hid (show (⟨#[]⟩ : ByteArray) = str (typeText k m) by unfold typeText; rw [hr]; rfl)
    rw [hr] at c
    have C := Lib.hid c; clear c hr
    go_enter Tryd.func44, Tryd.ntmps44
    go_wp2_with fail
    refine (C.out _).mono ?_
    rintro e w' ⟨rfl, hb⟩
    have HB := Lib.hid hb; clear hb
    go_wp2
    go_ret
    exact ⟨ret_str hR.out, ((Below.refl _ _).alloc (Nat.le_refl _) _).trans (HB.out.mono (by simp))⟩
  · by_cases h1 : k = 1
    · subst h1
      have hR := Lib.hid (show (⟨#[105, 110, 116]⟩ : ByteArray) = str (typeText 1 m) by unfold typeText; rw [hr]; rfl)
      rw [hr] at c
      have C := Lib.hid c; clear c hr
      go_enter Tryd.func44, Tryd.ntmps44
      go_wp2_with fail
      refine (C.out _).mono ?_
      rintro e w' ⟨rfl, hb⟩
      obtain ⟨hc, hf⟩ := bcell hb
      have HB := Lib.hid hb; clear hb
      go_wp2
      go_ret
      exact ⟨ret_str hR.out, ((Below.refl _ _).alloc (Nat.le_refl _) _).trans (HB.out.mono (by simp))⟩
    by_cases h2 : k = 2
    · subst h2
      have hR := Lib.hid (show (⟨#[98, 111, 111, 108]⟩ : ByteArray) = str (typeText 2 m) by unfold typeText; rw [hr]; rfl)
      rw [hr] at c
      have C := Lib.hid c; clear c hr h1
      go_enter Tryd.func44, Tryd.ntmps44
      go_wp2_with fail
      refine (C.out _).mono ?_
      rintro e w' ⟨rfl, hb⟩
      obtain ⟨hc, hf⟩ := bcell hb
      have HB := Lib.hid hb; clear hb
      go_wp2
      go_ret
      exact ⟨ret_str hR.out, ((Below.refl _ _).alloc (Nat.le_refl _) _).trans (HB.out.mono (by simp))⟩
    · have hm : k = 3 ∧ 1 ≤ m ∧ m ≤ 32 := by
        have h := hr
        unfold rightTypeB at h
        rw [if_neg (by omega)] at h
        split at h
        · exact ⟨by assumption, by simpa using h⟩
        · cases h
      obtain ⟨rfl, hm1, hm2⟩ := hm
      obtain ⟨u, rfl⟩ := Int.eq_ofNat_of_zero_le (show 0 ≤ m by omega)
      have hR := Lib.hid (show (⟨#[116, 101, 120, 116, 32]⟩ : ByteArray) ++ ⟨(Lib.decDigits u).toArray⟩ = str (typeText 3 u) by
        unfold typeText; rw [hr, if_pos rfl, if_neg (by decide), if_neg (by decide), itoa_nat]; exact str_append [116, 101, 120, 116, 32] _)
      have hl := dec_len (u := u) (by omega)
      have hsum : 5 + (⟨(Lib.decDigits u).toArray⟩ : ByteArray).size ≤ 9223372036854775807 := by
        have : (⟨(Lib.decDigits u).toArray⟩ : ByteArray).size = (Lib.decDigits u).length := str_size _
        omega
      rw [hr] at c
      have C := Lib.hid c; clear c hr h1 h2
      have CI := Lib.hid (fun w => Tryd.strconv_Itoa_small u (by omega) w)
      obtain ⟨ds, hds⟩ : ∃ ds : ByteArray, ds = ⟨(Lib.decDigits u).toArray⟩ := ⟨_, rfl⟩
      rw [← hds] at hR hsum CI
      clear hds hl
      go_enter Tryd.func44, Tryd.ntmps44
      go_wp2_with fail
      refine (C.out _).mono ?_
      rintro e w' ⟨rfl, hb⟩
      obtain ⟨hc, hf⟩ := bcell hb
      have HB := Lib.hid hb; clear hb
      go_wp2_with fail
      refine (CI.out _).mono ?_
      rintro e w2 ⟨rfl, rfl⟩
      go_wp2
      go_ret
      exact ⟨ret_str hR.out, ((Below.refl _ _).alloc (Nat.le_refl _) _).trans (HB.out.mono (by simp))⟩

set_option maxRecDepth 100000 in
theorem refprinttype_any (k m : Int) (w : World) :
    Calls Tryd.prog 47 #[tv k m] w fun e w' => e = .returned (strV (typeText k m)) ∧ Below w.heap.size w w' := by
  have c := fun w => refrighttype_any k m w
  cases hr : rightTypeB k m
  · have hR := Lib.hid (show (⟨#[]⟩ : ByteArray) = str (typeText k m) by unfold typeText; rw [hr]; rfl)
    rw [hr] at c
    have C := Lib.hid c; clear c hr
    go_enter Tryd.func47, Tryd.ntmps47
    go_wp2_with fail
    refine (C.out _).mono ?_
    rintro e w' ⟨rfl, hb⟩
    have HB := Lib.hid hb; clear hb
    go_wp2
    go_ret
    exact ⟨ret_str hR.out, ((Below.refl _ _).alloc (Nat.le_refl _) _).trans (HB.out.mono (by simp))⟩
  · by_cases h1 : k = 1
    · subst h1
      have hR := Lib.hid (show (⟨#[105, 110, 116]⟩ : ByteArray) = str (typeText 1 m) by unfold typeText; rw [hr]; rfl)
      rw [hr] at c
      have C := Lib.hid c; clear c hr
      go_enter Tryd.func47, Tryd.ntmps47
      go_wp2_with fail
      refine (C.out _).mono ?_
      rintro e w' ⟨rfl, hb⟩
      obtain ⟨hc, hf⟩ := bcell hb
      have HB := Lib.hid hb; clear hb
      go_wp2
      go_ret
      exact ⟨ret_str hR.out, ((Below.refl _ _).alloc (Nat.le_refl _) _).trans (HB.out.mono (by simp))⟩
    by_cases h2 : k = 2
    · subst h2
      have hR := Lib.hid (show (⟨#[98, 111, 111, 108]⟩ : ByteArray) = str (typeText 2 m) by unfold typeText; rw [hr]; rfl)
      rw [hr] at c
      have C := Lib.hid c; clear c hr h1
      go_enter Tryd.func47, Tryd.ntmps47
      go_wp2_with fail
      refine (C.out _).mono ?_
      rintro e w' ⟨rfl, hb⟩
      obtain ⟨hc, hf⟩ := bcell hb
      have HB := Lib.hid hb; clear hb
      go_wp2
      go_ret
      exact ⟨ret_str hR.out, ((Below.refl _ _).alloc (Nat.le_refl _) _).trans (HB.out.mono (by simp))⟩
    · have hm : k = 3 ∧ 1 ≤ m ∧ m ≤ 32 := by
        have h := hr
        unfold rightTypeB at h
        rw [if_neg (by omega)] at h
        split at h
        · exact ⟨by assumption, by simpa using h⟩
        · cases h
      obtain ⟨rfl, hm1, hm2⟩ := hm
      obtain ⟨u, rfl⟩ := Int.eq_ofNat_of_zero_le (show 0 ≤ m by omega)
      have hR := Lib.hid (show (⟨#[116, 101, 120, 116, 32]⟩ : ByteArray) ++ str (Lib.itoa u) = str (typeText 3 u) by
        unfold typeText; rw [hr, if_pos rfl, if_neg (by decide), if_neg (by decide)]; exact str_append [116, 101, 120, 116, 32] _)
      have hl := dec_len (u := u) (by omega)
      have hsum : 5 + (str (Lib.itoa u)).size ≤ 9223372036854775807 := by
        rw [str_size, itoa_nat]; omega
      rw [hr] at c
      have C := Lib.hid c; clear c hr h1 h2
      have CI := Lib.hid (fun w => refdec_any u w (by omega) (by omega))
      unfold strV at CI
      obtain ⟨ds, hds⟩ : ∃ ds : ByteArray, ds = str (Lib.itoa u) := ⟨_, rfl⟩
      rw [← hds] at hR hsum CI
      clear hds hl
      go_enter Tryd.func47, Tryd.ntmps47
      go_wp2_with fail
      refine (C.out _).mono ?_
      rintro e w' ⟨rfl, hb⟩
      obtain ⟨hc, hf⟩ := bcell hb
      have HB := Lib.hid hb; clear hb
      go_wp2_with fail
      refine (CI.out _).mono ?_
      rintro e w2 ⟨rfl, hb2⟩
      have HB2 := Lib.hid hb2; clear hb2 hc hf
      have hz : w.heap.size + 1 ≤ w'.heap.size := by have := HB.out.size; simp at this; omega
      go_wp2
      go_ret
      exact ⟨ret_str hR.out, (((Below.refl _ _).alloc (Nat.le_refl _) _).trans (HB.out.mono (by simp))).trans (HB2.out.mono (by omega))⟩
end Go.Proofs.YtolfeellcdoopaaDoor
