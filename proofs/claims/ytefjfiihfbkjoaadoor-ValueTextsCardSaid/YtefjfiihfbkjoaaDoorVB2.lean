/-
  Layer 2: what is put is got, what is printed is parsed: the mathematics.
-/
import Derived.Test.YtefjfiihfbkjoaaDoorVZ
import Derived.Test.YtefjfiihfbkjoaaDoorVW
namespace Go.Proofs.YtefjfiihfbkjoaaDoor
open Go.ChangeShapes Go.WideShapes Go.ChangeAt Go.RowKit Oct By Reg Val

theorem unzig_zig (n : Int) : unzig (zig n) = n := by
  unfold zig unzig
  split <;> split <;> omega
theorem gu_at (xs ys zs : List UInt8) (n : Nat) (i : Int) (hn : n < 18446744073709551616) (h : ys = xs ++ (uintB n ++ zs)) (hi : i = xs.length) : gu ys i = some (n, sizeN n) := by
  subst h hi
  unfold gu
  rw [if_pos ⟨by omega, by rw [List.length_append]; omega⟩, Int.toNat_natCast, List.drop_left, getU_uintB n hn]
theorem gt_at (xs ys s zs : List UInt8) (i most : Int) (hs : s.length < 18446744073709551616) (hm : (s.length : Int) ≤ most) (h : ys = xs ++ (uintB s.length ++ (s ++ zs))) (hi : i = xs.length) : gt ys i most = some (s, sizeN s.length + s.length) := by
  have hg := gu_at xs ys (s ++ zs) s.length i hs h hi
  unfold gt
  rw [hg]
  simp only []
  have hul : (uintB s.length).length = sizeN s.length := rfl
  rw [if_pos ⟨hm, by subst h hi; simp only [List.length_append, hul]; omega⟩]
  subst h hi
  congr 2
  rw [Int.toNat_natCast, ← List.drop_drop, List.drop_left, ← hul, List.drop_left, List.take_left]

theorem get_put {k n : Int} {l : List UInt8} (h : rightB k n l = true) (h0 : -9223372036854775808 ≤ n) (h1 : n ≤ 9223372036854775807) : getV (bytesV k n l) 0 = some (k, n, l, (bytesV k n l).length) := by
  rcases kinds_of h with rfl | rfl | rfl
  · have hl := right_s h (.inl rfl)
    subst hl
    have hg := gu_at [1] (bytesV 1 n []) [] (zig n) (0 + 1) (zig_lt h0 h1) (by rw [List.append_nil]; rfl) rfl
    have hb : bt (bytesV 1 n []) 0 = 1 := rfl
    have hlen : (bytesV 1 n []).length = sizeN (zig n) + 1 := rfl
    unfold getV
    rw [if_pos ⟨by omega, by rw [hlen]; omega⟩, show (0 : Int).toNat = 0 from rfl, hb, candV_1, hg]
    simp only [unzig_zig]
    rw [if_pos (show rightB ((1 : Nat) : Int) n [] = true from h), hlen]
    rfl
  · have hl := right_s h (.inr rfl)
    subst hl
    have hn := truth_of h
    unfold getV
    rw [if_pos ⟨by omega, by show ((0 : Int) < (2 : Nat)); omega⟩, show (0 : Int).toNat = 0 from rfl, show bt (bytesV 2 n []) 0 = 2 from rfl, candV_2, if_pos (by show ((0 + 1 : Int) < (2 : Nat)); omega)]
    have hb : (bt (bytesV 2 n []) (0 + 1 : Int).toNat : Int) = n := by
      show (((UInt8.ofNat n.toNat).toNat : Nat) : Int) = n
      rw [UInt8.toNat_ofNat']; omega
    simp only [hb]
    rw [if_pos (show rightB ((2 : Nat) : Int) n [] = true from h)]
    rfl
  · have hn := right_n3 h
    have hg := gt_at [3] (bytesV 3 n l) l [] (0 + 1) 32 (by omega) (by omega) (by rw [List.append_nil]; rfl) rfl
    have hb : bt (bytesV 3 n l) 0 = 3 := rfl
    have hlen : (bytesV 3 n l).length = sizeN l.length + l.length + 1 := by
      show (3 :: textB l).length = _
      unfold textB
      rw [List.length_cons, List.length_append, uintB_length]
    unfold getV
    rw [if_pos ⟨by omega, by rw [hlen]; omega⟩, show (0 : Int).toNat = 0 from rfl, hb, candV_3, hg]
    simp only []
    obtain ⟨rfl, _⟩ := hn
    rw [if_pos (show rightB ((3 : Nat) : Int) 0 l = true from h), hlen]
    rfl

theorem unq_esc (L : List UInt8) : ∀ (m p : List UInt8) (f i : Nat), L = p ++ (esc m ++ [34]) → i = p.length → m.length ≤ f → unq L f i = m
  | [], p, f, i, hL, hi, _ => unq_end _ _ _ (by subst hL hi; simp [esc])
  | c :: m, p, 0, i, _, _, hf => by simp at hf
  | c :: m, p, f + 1, i, hL, hi, hf => by
    have hf' : m.length ≤ f := by simp at hf; exact hf
    by_cases hq : c = 34 ∨ c = 92
    · have hL' : L = (p ++ [92, c]) ++ (esc m ++ [34]) := by
        rw [hL]; simp only [esc]; rw [if_pos hq]; simp
      have ih := unq_esc L m (p ++ [92, c]) f (i + 2) hL' (by rw [hi]; simp) hf'
      have g0 : L.getD i 0 = 92 := by
        rw [hL', hi, List.getD_eq_getElem?_getD]; simp
      have g1 : L.getD (i + 1) 0 = c := by
        rw [hL', hi, List.getD_eq_getElem?_getD]
        rw [show (p ++ [92, c]) ++ (esc m ++ [34]) = (p ++ [92]) ++ (c :: (esc m ++ [34])) by simp, show p.length + 1 = (p ++ [92]).length by simp, List.getElem?_append_right (Nat.le_refl _)]
        simp
      unfold unq
      rw [if_pos (by rw [hL', hi]; simp), g0, if_pos rfl, g1, ih]
    · have hL' : L = (p ++ [c]) ++ (esc m ++ [34]) := by
        rw [hL]; simp only [esc]; rw [if_neg hq]; simp
      have ih := unq_esc L m (p ++ [c]) f (i + 1) hL' (by rw [hi]; simp) hf'
      have g0 : L.getD i 0 = c := by
        rw [hL', hi, List.getD_eq_getElem?_getD]; simp
      unfold unq
      rw [if_pos (by rw [hL', hi]; simp), g0, if_neg (fun h => hq (.inr h)), ih]
theorem esc_ge (m : List UInt8) : m.length ≤ (esc m).length := by
  induction m with
  | nil => simp
  | cons c m ih =>
    simp only [esc]
    split <;> simp <;> omega
theorem unq_quote (m : List UInt8) : unqB (quoteB m) = m := by
  unfold unqB
  refine unq_esc (quoteB m) m [34] _ 1 rfl rfl ?_
  have := esc_ge m
  unfold quoteB
  rw [List.length_cons, List.length_append]; omega

theorem dec_head (u : Nat) : ∃ c r, Lib.decDigits u = c :: r ∧ 48 ≤ c.toNat ∧ c.toNat ≤ 57 := by
  induction u using Nat.strongRecOn with
  | ind u ih =>
    by_cases h : u < 10
    · exact ⟨_, [], dec_small h, by rw [UInt8.toNat_ofNat']; omega, by rw [UInt8.toNat_ofNat']; omega⟩
    · obtain ⟨c, r, h1, h2, h3⟩ := ih (u / 10) (by omega)
      rw [dec_big (by omega), h1]
      exact ⟨c, r ++ _, rfl, h2, h3⟩
theorem parse_dec (M : Nat) (hM : M ≤ 18446744073709551615) : ∀ (u : Nat) (r : List UInt8), u ≤ M → Lib.parseUintM M 0 (Lib.decDigits u ++ r) = Lib.parseUintM M u r := by
  intro u
  induction u using Nat.strongRecOn with
  | ind u ih =>
    intro r hu
    by_cases h : u < 10
    · have hc : (UInt8.ofNat (48 + u)).toNat = 48 + u := by rw [UInt8.toNat_ofNat']; omega
      rw [dec_small h]
      show Lib.parseUintM M 0 (UInt8.ofNat (48 + u) :: r) = _
      rw [Lib.parseUintM, hc, if_pos (by omega), if_neg (by omega), if_neg (by omega)]
      congr 1; omega
    · have hc : (UInt8.ofNat (48 + u % 10)).toNat = 48 + u % 10 := by rw [UInt8.toNat_ofNat']; omega
      rw [dec_big (by omega), List.append_assoc, ih (u / 10) (by omega) _ (by omega)]
      show Lib.parseUintM M (u / 10) (UInt8.ofNat (48 + u % 10) :: r) = _
      rw [Lib.parseUintM, hc, if_pos (by omega), if_neg (by omega), if_neg (by omega)]
      congr 1; omega
theorem parse_uint (u : Nat) (hu : u ≤ 18446744073709551615) : Lib.parseUintB 64 (Lib.decDigits u) = .ok u := by
  obtain ⟨c, r, h, _, _⟩ := dec_head u
  unfold Lib.parseUintB
  rw [if_neg (by rw [h]; simp)]
  have := parse_dec (2 ^ 64 - 1) (by decide) u [] (by rw [show (2 ^ 64 - 1 : Nat) = 18446744073709551615 by decide]; exact hu)
  rw [List.append_nil] at this
  rw [this]; rfl
theorem num_itoa (n : Int) (h0 : -9223372036854775808 ≤ n) (h1 : n ≤ 9223372036854775807) : numB (Lib.itoa n) = some n := by
  have e63 : (2 ^ (64 - 1) : Nat) = 9223372036854775808 := by decide
  have : Lib.parseIntB 64 (Lib.itoa n) = .ok n := by
    unfold Lib.itoa
    by_cases hn : n < 0
    · rw [if_pos hn]
      unfold Lib.parseIntB
      simp only [show (45 : UInt8).toNat = 45 from rfl, or_true, if_true, parse_uint n.natAbs (by omega)]
      rw [if_neg (by simp), if_neg (by rw [e63]; omega)]
      congr 1; omega
    · rw [if_neg hn]
      obtain ⟨c, r, h, hc1, hc2⟩ := dec_head n.toNat
      have hp := parse_uint n.toNat (by omega)
      rw [h] at hp ⊢
      unfold Lib.parseIntB
      simp only []
      rw [if_neg (by omega), hp]
      simp only []
      rw [if_neg (by rw [e63]; omega), if_neg (by omega), if_neg (by omega)]
      congr 1; omega
  unfold numB
  rw [this]
theorem itoa_head (n : Int) : ∃ c r, Lib.itoa n = c :: r ∧ c ≠ 34 ∧ c ≠ 116 ∧ c ≠ 102 := by
  unfold Lib.itoa
  split
  · exact ⟨45, _, rfl, by decide, by decide, by decide⟩
  · obtain ⟨c, r, h, h1, h2⟩ := dec_head n.toNat
    refine ⟨c, r, h, ?_, ?_, ?_⟩ <;> (intro e; subst e; revert h1 h2; decide)
theorem guess_itoa (n : Int) (h0 : -9223372036854775808 ≤ n) (h1 : n ≤ 9223372036854775807) : guessV (Lib.itoa n) = (1, n, []) := by
  have hn := num_itoa n h0 h1
  obtain ⟨c, r, h, h2, h3, h4⟩ := itoa_head n
  unfold guessV
  rw [hn]
  rw [if_neg (by rw [h]; intro e; exact h3 (List.cons.inj e).1), if_neg (by rw [h]; intro e; exact h4 (List.cons.inj e).1), if_neg (by rw [h]; exact h2)]
theorem guess_quote (l : List UInt8) : guessV (quoteB l) = (3, 0, l) := by
  unfold guessV
  rw [if_neg (by intro e; exact absurd (List.cons.inj e).1 (by decide)), if_neg (by intro e; exact absurd (List.cons.inj e).1 (by decide)), if_pos (show (quoteB l).getD 0 0 = 34 from rfl), unq_quote]
theorem parse_print {k n : Int} {l : List UInt8} (h : rightB k n l = true) (h0 : -9223372036854775808 ≤ n) (h1 : n ≤ 9223372036854775807) : parseV (printV k n l) = some (k, n, l) := by
  have hp : printV k n l = textV k n l := by unfold printV; rw [if_pos h]
  have key : guessV (printV k n l) = (k, n, l) := by
    rw [hp]
    rcases kinds_of h with rfl | rfl | rfl
    · rw [show textV 1 n l = Lib.itoa n from rfl, guess_itoa n h0 h1, right_s h (.inl rfl)]
    · have hl := right_s h (.inr rfl)
      subst hl
      rcases truth_of h with rfl | rfl <;> rfl
    · rw [show textV 3 n l = quoteB l from rfl, guess_quote, (right_n3 h).1]
  unfold parseV
  rw [key]
  exact if_pos ⟨h, rfl⟩
end Go.Proofs.YtefjfiihfbkjoaaDoor
