/-
  Plain mathematics for layer 1: the number that stands in bytes.
-/
import Derived.Test.YtolfeellcdoopaaDoorOctMath
namespace Go.Proofs.YtolfeellcdoopaaDoor.Oct

def val : List UInt8 → Nat
  | [] => 0
  | c :: l => c.toNat % 128 + 128 * val l

theorem val_append : ∀ (l m : List UInt8), val (l ++ m) = val l + 128 ^ l.length * val m
  | [], m => by simp [val]
  | c :: l, m => by
    simp only [List.cons_append, val, val_append l m, List.length_cons, Nat.pow_succ]
    rw [Nat.mul_add, ← Nat.mul_assoc, Nat.mul_comm 128 (128 ^ l.length)]
    omega

theorem val_lt : ∀ (l : List UInt8), val l < 128 ^ l.length
  | [] => by simp [val]
  | c :: l => by
    have := val_lt l
    simp only [val, List.length_cons, Nat.pow_succ]
    omega

theorem ofNat_toNat_lt {n : Nat} (h : n < 256) : (UInt8.ofNat n).toNat = n := by rw [UInt8.toNat_ofNat']; omega

/-- what is put is got -/
theorem val_uintB : ∀ (n : Nat), val (uintB n) = n := by
  intro n
  induction n using Nat.strongRecOn with
  | ind n ih =>
    by_cases h : n < 128
    · rw [uintB_small h]; simp only [val]; rw [ofNat_toNat_lt (by omega)]; omega
    · rw [uintB_big (by omega)]
      simp only [val]
      rw [ih (n / 128) (by omega), ofNat_toNat_lt (by omega)]
      omega

/-- bytes as a Put writes them: all but the last one from 128 on, the last one below, and not 0 but alone -/
def shaped : List UInt8 → Bool
  | [] => false
  | [c] => c.toNat < 128
  | c :: d :: l => 128 ≤ c.toNat && shapedMore (d :: l)
where shapedMore : List UInt8 → Bool
  | [] => false
  | [c] => c.toNat < 128 && c.toNat != 0
  | c :: d :: l => 128 ≤ c.toNat && shapedMore (d :: l)

theorem more_val : ∀ (l : List UInt8), shaped.shapedMore l = true → 0 < val l
  | [], h => by simp [shaped.shapedMore] at h
  | [c], h => by simp [shaped.shapedMore] at h; simp [val]; omega
  | c :: d :: l, h => by
    simp only [shaped.shapedMore, Bool.and_eq_true] at h
    have := more_val (d :: l) h.2
    simp only [val] at this ⊢
    omega
theorem more_shaped : ∀ (l : List UInt8), shaped.shapedMore l = true → shaped l = true
  | [], h => by simp [shaped.shapedMore] at h
  | [c], h => by simp [shaped.shapedMore] at h; simp [shaped, h.1]
  | c :: d :: l, h => h

/-- what is got is put -/
theorem uintB_val : ∀ (l : List UInt8), shaped l = true → uintB (val l) = l
  | [], h => by simp [shaped] at h
  | [c], h => by
    simp [shaped] at h
    simp only [val]
    rw [uintB_small (by omega)]
    congr 1
    apply UInt8.toNat_inj.1
    rw [ofNat_toNat_lt (by omega)]
    omega
  | c :: d :: l, h => by
    simp only [shaped, Bool.and_eq_true, decide_eq_true_eq] at h
    have h1 := more_val _ h.2
    have h2 := uintB_val (d :: l) (more_shaped _ h.2)
    have hc := UInt8.toNat_lt c
    rw [show val (c :: d :: l) = c.toNat % 128 + 128 * val (d :: l) from rfl]
    rw [uintB_big (by omega)]
    rw [show (c.toNat % 128 + 128 * val (d :: l)) / 128 = val (d :: l) by omega, h2]
    congr 1
    apply UInt8.toNat_inj.1
    rw [ofNat_toNat_lt (by omega)]
    omega

theorem uintB_shaped : ∀ (n : Nat), shaped (uintB n) = true ∧ (0 < n → shaped.shapedMore (uintB n) = true) := by
  intro n
  induction n using Nat.strongRecOn with
  | ind n ih =>
    by_cases h : n < 128
    · rw [uintB_small h]
      simp only [shaped, shaped.shapedMore]
      rw [ofNat_toNat_lt (by omega)]
      constructor
      · simpa using h
      · intro h0; simp; omega
    · obtain ⟨_, h2⟩ := ih (n / 128) (by omega)
      have h3 := h2 (by omega)
      rw [uintB_big (by omega)]
      cases hu : uintB (n / 128) with
      | nil => rw [hu] at h3; simp [shaped.shapedMore] at h3
      | cons d l =>
        rw [hu] at h3
        simp only [shaped, shaped.shapedMore]
        rw [ofNat_toNat_lt (by omega)]
        simp [h3]

/-- how many bytes till one below 128, of at most so many -/
def scan : List UInt8 → Nat → Option Nat
  | _, 0 => none
  | [], _ + 1 => none
  | c :: l, f + 1 => if c.toNat < 128 then some 1 else (scan l f).map (· + 1)

def mayEndB (c i : Nat) : Bool := !(i == 9 && decide (1 < c)) && (c != 0 || i == 0)

/-- the number that stands in front of bytes, and how many it has -/
def getU (ys : List UInt8) : Option (Nat × Nat) :=
  match scan ys 10 with
  | none => none
  | some k => if mayEndB (ys.getD (k - 1) 0).toNat (k - 1) then some (val (ys.take k), k) else none

/-- the same as places: the first k bytes from 128 on -/
def big (ys : List UInt8) (k : Nat) : Prop := ∀ i, i < k → 128 ≤ (ys.getD i 0).toNat
theorem big_succ {ys : List UInt8} {k : Nat} (h : big ys k) (hc : 128 ≤ (ys.getD k 0).toNat) : big ys (k + 1) := fun i hi => by
  by_cases hik : i = k
  · subst hik; exact hc
  · exact h i (by omega)

theorem scan_some : ∀ (ys : List UInt8) (f k : Nat), k < ys.length → k < f → big ys k → (ys.getD k 0).toNat < 128 → scan ys f = some (k + 1)
  | [], _, _, h, _, _, _ => by simp at h
  | c :: l, 0, _, _, h, _, _ => by omega
  | c :: l, f + 1, 0, _, _, _, hc => by simp at hc; simp [scan, hc]
  | c :: l, f + 1, k + 1, h, hf, hb, hc => by
    have h0 := hb 0 (by omega)
    simp at h0
    have := scan_some l f k (by simpa using h) (by omega) (fun i hi => by have := hb (i + 1) (by omega); simpa using this) (by simpa using hc)
    simp [scan, this]
    omega
theorem scan_none : ∀ (ys : List UInt8) (f : Nat), big ys (min ys.length f) → scan ys f = none
  | [], 0, _ => rfl
  | [], _ + 1, _ => rfl
  | _ :: _, 0, _ => rfl
  | c :: l, f + 1, hb => by
    have h0 := hb 0 (by simp)
    simp at h0
    have := scan_none l f (fun i hi => by have := hb (i + 1) (by simp; omega); simpa using this)
    simp [scan, this]
    omega

theorem shaped_iff : ∀ (ys : List UInt8) (k : Nat), k < ys.length → big ys k → (ys.getD k 0).toNat < 128 → shaped (ys.take (k + 1)) = ((ys.getD k 0).toNat != 0 || k == 0) ∧ shaped.shapedMore (ys.take (k + 1)) = ((ys.getD k 0).toNat != 0)
  | [], _, h, _, _ => by simp at h
  | c :: l, 0, _, _, hc => by simp at hc; simp [shaped, shaped.shapedMore, hc]
  | c :: l, k + 1, h, hb, hc => by
    have h0 := hb 0 (by omega)
    simp at h0
    have hl : k < l.length := by simpa using h
    have hk := shaped_iff l k hl (fun i hi => by have := hb (i + 1) (by omega); simpa using this) (by simpa using hc)
    cases hm : l.take (k + 1) with
    | nil => exfalso; have := congrArg List.length hm; rw [List.length_take, Nat.min_eq_left (by omega)] at this; simp at this
    | cons d m =>
      rw [List.take_succ_cons, hm]
      simp only [shaped, shaped.shapedMore]
      rw [hm] at hk
      simp [h0, hk.2]

/-- the document's own test: is the number's form these very bytes? -/
theorem form_iff (ys : List UInt8) (k : Nat) (hk : k < ys.length) (hk10 : k < 10) (hb : big ys k) (hc : (ys.getD k 0).toNat < 128) :
    (uintB (val (ys.take (k + 1)) % 18446744073709551616) = ys.take (k + 1)) ↔ mayEndB (ys.getD k 0).toNat k = true := by
  obtain ⟨h1, _⟩ := shaped_iff ys k hk hb hc
  have hlen : (ys.take (k + 1)).length = k + 1 := by simp; omega
  have hsplit : ys.take (k + 1) = ys.take k ++ [ys.getD k 0] := by
    rw [List.take_succ_eq_append_getElem hk, List.getD_eq_getElem?_getD, List.getElem?_eq_getElem hk]; rfl
  have hval : val (ys.take (k + 1)) = val (ys.take k) + 128 ^ k * (ys.getD k 0).toNat := by
    rw [hsplit, val_append, List.length_take, Nat.min_eq_left (by omega)]
    simp only [val, Nat.mul_zero, Nat.add_zero]
    rw [Nat.mod_eq_of_lt hc]
  have hlow : val (ys.take k) < 128 ^ k := by
    have := val_lt (ys.take k)
    rwa [List.length_take, Nat.min_eq_left (by omega)] at this
  -- when is it below 2^64?
  have hsmall : val (ys.take (k + 1)) < 18446744073709551616 ↔ ¬ (k = 9 ∧ 1 < (ys.getD k 0).toNat) := by
    rw [hval]
    by_cases h9 : k = 9
    · subst h9
      constructor
      · intro h ⟨_, h2⟩
        have : 128 ^ 9 * 2 ≤ 128 ^ 9 * (ys.getD 9 0).toNat := Nat.mul_le_mul_left _ h2
        have e : 128 ^ 9 * 2 = 18446744073709551616 := by decide
        omega
      · intro h
        have h3 : (ys.getD 9 0).toNat ≤ 1 := by omega
        have : 128 ^ 9 * (ys.getD 9 0).toNat ≤ 128 ^ 9 * 1 := Nat.mul_le_mul_left _ h3
        have e : 128 ^ 9 * 1 + 128 ^ 9 = 18446744073709551616 := by decide
        omega
    · have hk8 : k ≤ 8 := by omega
      have e1 : val (ys.take (k + 1)) < 128 ^ (k + 1) := by
        have := val_lt (ys.take (k + 1)); rwa [hlen] at this
      have e2 : 128 ^ (k + 1) ≤ 128 ^ 9 := Nat.pow_le_pow_right (by decide) (by omega)
      have e3 : 128 ^ 9 ≤ 18446744073709551616 := by decide
      rw [hval] at e1
      exact ⟨fun _ h => h9 h.1, fun _ => by omega⟩
  constructor
  · intro h
    have hv := congrArg val h
    rw [val_uintB] at hv
    have hlt : val (ys.take (k + 1)) < 18446744073709551616 := by
      rw [← hv]; exact Nat.mod_lt _ (by decide)
    have hs := (uintB_shaped (val (ys.take (k + 1)) % 18446744073709551616)).1
    rw [h, h1] at hs
    have := hsmall.1 hlt
    unfold mayEndB
    simp only [Bool.and_eq_true, Bool.not_eq_true', Bool.and_eq_false_iff, beq_eq_false_iff_ne, decide_eq_false_iff_not]
    exact ⟨by by_cases h9 : k = 9
              · exact .inr (fun h => this ⟨h9, h⟩)
              · exact .inl h9, hs⟩
  · intro h
    unfold mayEndB at h
    simp only [Bool.and_eq_true, Bool.not_eq_true', Bool.and_eq_false_iff, beq_eq_false_iff_ne, decide_eq_false_iff_not] at h
    have hlt : val (ys.take (k + 1)) < 18446744073709551616 := hsmall.2 (fun ⟨h9, h2⟩ => h.1.elim (fun h1 => h1 h9) (fun h1 => h1 h2))
    rw [Nat.mod_eq_of_lt hlt]
    exact uintB_val _ (by rw [h1]; exact h.2)

theorem scan_spec : ∀ (ys : List UInt8) (f k : Nat), scan ys f = some k → 1 ≤ k ∧ k ≤ f ∧ k ≤ ys.length ∧ big ys (k - 1) ∧ (ys.getD (k - 1) 0).toNat < 128
  | [], 0, k, h => by simp [scan] at h
  | [], f + 1, k, h => by simp [scan] at h
  | c :: l, 0, k, h => by simp [scan] at h
  | c :: l, f + 1, k, h => by
    simp only [scan] at h
    split at h
    · rename_i hc
      cases h
      exact ⟨by omega, by omega, by simp, fun i hi => by omega, by simpa using hc⟩
    · rename_i hc
      obtain ⟨m, hm, rfl⟩ := Option.map_eq_some_iff.1 h
      obtain ⟨h1, h2, h3, h4, h5⟩ := scan_spec l f m hm
      refine ⟨by omega, by omega, by simp; omega, fun i hi => ?_, ?_⟩
      · cases i with
        | zero => simp; omega
        | succ i => have := h4 i (by omega); simpa using this
      · rw [show m + 1 - 1 = (m - 1) + 1 by omega]
        simpa using h5

/-- what is found is a number of 64 bits, of 1 to 10 bytes, which are just its form -/
theorem getU_spec {ys : List UInt8} {n k : Nat} (h : getU ys = some (n, k)) : n < 18446744073709551616 ∧ 1 ≤ k ∧ k ≤ 10 ∧ k ≤ ys.length ∧ ys.take k = uintB n := by
  unfold getU at h
  cases hs : scan ys 10 with
  | none => rw [hs] at h; cases h
  | some j =>
    rw [hs] at h
    simp only [] at h
    obtain ⟨h1, h2, h3, h4, h5⟩ := scan_spec ys 10 j hs
    split at h
    · rename_i hm
      cases h
      have hf := (form_iff ys (k - 1) (by omega) (by omega) h4 h5).2 hm
      rw [show k - 1 + 1 = k by omega] at hf
      have hv := congrArg val hf
      rw [val_uintB] at hv
      refine ⟨by rw [← hv]; exact Nat.mod_lt _ (by decide), h1, h2, h3, ?_⟩
      rw [hv] at hf
      exact hf.symm
    · cases h

theorem uintB_parts : ∀ (n : Nat), big (uintB n) (sizeN n - 1) ∧ ((uintB n).getD (sizeN n - 1) 0).toNat < 128 := by
  intro n
  induction n using Nat.strongRecOn with
  | ind n ih =>
    by_cases h : n < 128
    · rw [sizeN_small h, uintB_small h]
      exact ⟨fun i hi => by omega, by simp; omega⟩
    · obtain ⟨h1, h2⟩ := ih (n / 128) (by omega)
      have hp := sizeN_pos (n / 128)
      rw [sizeN_big (by omega), uintB_big (by omega)]
      rw [show sizeN (n / 128) + 1 - 1 = (sizeN (n / 128) - 1) + 1 by omega]
      refine ⟨fun i hi => ?_, by simpa using h2⟩
      cases i with
      | zero => show 128 ≤ (UInt8.ofNat (n % 128 + 128)).toNat; rw [ofNat_toNat_lt (by omega)]; omega
      | succ i => have := h1 i (by omega); simpa using this

theorem getD_append_left (xs ys : List UInt8) (i : Nat) (h : i < xs.length) : (xs ++ ys).getD i 0 = xs.getD i 0 := by
  simp [List.getD_eq_getElem?_getD, List.getElem?_append_left h]

/-- what was put in front is got, whatever stands behind it -/
theorem getU_uintB (n : Nat) (hn : n < 18446744073709551616) (rest : List UInt8) : getU (uintB n ++ rest) = some (n, sizeN n) := by
  obtain ⟨h1, h2⟩ := uintB_parts n
  have hp := sizeN_pos n
  have h10 := sizeN_le10 hn
  have hl : (uintB n).length = sizeN n := rfl
  have hlen : sizeN n - 1 < (uintB n ++ rest).length := by rw [List.length_append]; omega
  have hb : big (uintB n ++ rest) (sizeN n - 1) := fun i hi => by rw [getD_append_left _ _ _ (by omega)]; exact h1 i hi
  have hc : ((uintB n ++ rest).getD (sizeN n - 1) 0).toNat < 128 := by rw [getD_append_left _ _ _ (by omega)]; exact h2
  have htake : (uintB n ++ rest).take (sizeN n - 1 + 1) = uintB n := by
    rw [show sizeN n - 1 + 1 = (uintB n).length by omega, List.take_left]
  have hm : mayEndB ((uintB n ++ rest).getD (sizeN n - 1) 0).toNat (sizeN n - 1) = true := by
    refine (form_iff _ _ hlen (by omega) hb hc).1 ?_
    rw [htake, val_uintB, Nat.mod_eq_of_lt hn]
  unfold getU
  rw [scan_some _ 10 _ hlen (by omega) hb hc]
  simp only [show sizeN n - 1 + 1 - 1 = sizeN n - 1 by omega]
  rw [if_pos hm, htake, val_uintB, show sizeN n - 1 + 1 = sizeN n by omega]

/-- and a longer text has the same in front -/
theorem getU_front {ys : List UInt8} {n k : Nat} (h : getU ys = some (n, k)) (more : List UInt8) : getU (ys ++ more) = some (n, k) := by
  obtain ⟨h1, h2, h3, h4, h5⟩ := getU_spec h
  have hk : k = sizeN n := by
    have := congrArg List.length h5
    rw [List.length_take, Nat.min_eq_left h4] at this
    exact this
  have e : ys ++ more = uintB n ++ (ys.drop k ++ more) := by
    rw [← h5, ← List.append_assoc, List.take_append_drop]
  rw [e, getU_uintB n h1, hk]
end Go.Proofs.YtolfeellcdoopaaDoor.Oct
