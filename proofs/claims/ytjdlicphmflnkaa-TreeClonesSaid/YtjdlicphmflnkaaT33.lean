/-
  Layer 5: TreeDeep, plain data and walk.
-/
import Derived.Test.YtjdlicphmflnkaaT32
namespace Go.Proofs.Ytjdlicphmflnkaa.L5
open Go.ChangeShapes Go.WideShapes Go.ChangeAt Go.RowKit By Reg
set_option linter.unusedVariables false

def keyAt (L : List Th) (i : Nat) : Int := (L.getD ((i * 7) % L.length) (0, 0)).1
def delN (L : List Th) : Nat → List Th
  | 0 => L
  | i + 1 => delL (keyAt L i) (delN L i)
theorem delL_sub (x : Int) (L : List Th) : (delL x L).Sublist L := List.filter_sublist
theorem delN_sub (L : List Th) : ∀ i, (delN L i).Sublist L
  | 0 => List.Sublist.refl _
  | i + 1 => (delL_sub _ _).trans (delN_sub L i)
theorem delN_rise {L : List Th} (h : Rise L) (i : Nat) : Rise (delN L i) := List.Pairwise.sublist (delN_sub L i) h
theorem delN_le (L : List Th) (i : Nat) : (delN L i).length ≤ L.length := (delN_sub L i).length_le
theorem delN_mem (L : List Th) : ∀ i t, t ∈ L → (∀ j, j < i → t.1 ≠ keyAt L j) → t ∈ delN L i
  | 0, t, h, _ => h
  | i + 1, t, h, hj => by
    rw [delN]
    exact List.mem_filter.2 ⟨delN_mem L i t h (fun j hji => hj j (by omega)), by simpa using hj i (by omega)⟩
theorem getL_mem {t : Th} : ∀ {L : List Th}, t ∈ L → (getL t.1 L).isSome = true
  | [], h => by cases h
  | u :: L, h => by
    rw [getL]
    by_cases e : u.1 = t.1
    · rw [if_pos e]; rfl
    · rw [if_neg e]
      rcases List.mem_cons.1 h with rfl | h
      · exact absurd rfl e
      · exact getL_mem h
theorem coprime7 {n : Nat} (h : n % 7 ≠ 0) : Nat.Coprime n 7 := by
  unfold Nat.Coprime
  rw [Nat.gcd_comm, Nat.gcd_rec]
  have : n % 7 = 1 ∨ n % 7 = 2 ∨ n % 7 = 3 ∨ n % 7 = 4 ∨ n % 7 = 5 ∨ n % 7 = 6 := by omega
  rcases this with e | e | e | e | e | e <;> rw [e] <;> decide
theorem seven_inj {n i j : Nat} (h : n % 7 ≠ 0) (hj : j < i) (hi : i < n) : (i * 7) % n ≠ (j * 7) % n := fun e => by
  have h1 : (i * 7 - j * 7) % n = 0 := Nat.sub_mod_eq_zero_of_mod_eq e
  have h2 : n ∣ (i - j) * 7 := by rw [Nat.sub_mul]; exact Nat.dvd_of_mod_eq_zero h1
  have h3 := Nat.Coprime.dvd_of_dvd_mul_right (coprime7 h) h2
  have := Nat.le_of_dvd (by omega) h3
  omega
theorem rise_inj {L : List Th} (h : Rise L) {a b : Nat} (ha : a < L.length) (hb : b < L.length) (hne : a ≠ b) : (L.getD a (0, 0)).1 ≠ (L.getD b (0, 0)).1 := by
  rw [List.getD_eq_getElem?_getD, List.getD_eq_getElem?_getD, List.getElem?_eq_getElem ha, List.getElem?_eq_getElem hb]
  rcases Nat.lt_or_gt_of_ne hne with hl | hl
  · have := List.pairwise_iff_getElem.1 h a b ha hb hl
    show L[a].1 ≠ L[b].1
    omega
  · have := List.pairwise_iff_getElem.1 h b a hb ha hl
    show L[a].1 ≠ L[b].1
    omega
theorem delN_found {L : List Th} (h : Rise L) (h7 : L.length % 7 ≠ 0) (i : Nat) (hi : i < L.length) : (getL (keyAt L i) (delN L i)).isSome = true := by
  have hm : (i * 7) % L.length < L.length := Nat.mod_lt _ (by omega)
  have e : keyAt L i = (L[(i * 7) % L.length]).1 := by
    unfold keyAt
    rw [List.getD_eq_getElem?_getD, List.getElem?_eq_getElem hm]
    rfl
  rw [e]
  refine getL_mem (delN_mem L i _ (List.getElem_mem hm) fun j hj => ?_)
  rw [← e]
  exact rise_inj h hm (Nat.mod_lt _ (by omega)) (seven_inj h7 hj hi)
theorem delN_length {L : List Th} (h : Rise L) (h7 : L.length % 7 ≠ 0) : ∀ i, i ≤ L.length → (delN L i).length = L.length - i
  | 0, _ => rfl
  | i + 1, hi => by
    have h1 := delL_length (keyAt L i) (delN L i) (delN_rise h i)
    rw [delN_found h h7 i (by omega)] at h1
    have h2 := delN_length h h7 i (by omega)
    rw [delN]
    simp only [if_true] at h1
    omega

/-- a tree and a list of the call's own, that part -/
structure Two2 (w : World) (T L : List Th) (p : Nat) (v : Value) (F : Nat → Prop) (w' : World) : Prop where
  tree : TreeAt w' p T F
  row : PRow w' v L
  new : ∀ k, F k → w.heap.size ≤ k
  rb : Rb w w'
theorem Two2.of_made {w w' : World} {L : List Th} {p : Nat} {v : Value} {F : Nat → Prop} (h : Made w L p v F w') : Two2 w L L p v F w' := ⟨h.tree, h.row, h.new, h.rb⟩
theorem Two2.step {w w1 w2 : World} {T T' L : List Th} {p : Nat} {v : Value} {F F' : Nat → Prop} (h : Two2 w T L p v F w1) (t : TreeAt w2 p T' F') (f : Fr F w1 w2) (n : ∀ k, F' k → F k ∨ w1.heap.size ≤ k) : Two2 w T' L p v F' w2 := by
  have := h.rb.size
  refine ⟨t, h.row.fr h.tree f, fun k hk => ?_, ((Fr.of_rb (F := fun _ => False) h.rb).trans f (fun k hk => .inr (h.new k hk))).rb (fun k hk => hk.elim)⟩
  rcases n k hk with h' | h'
  · exact h.new k h'
  · omega
theorem Two2.then_rb {w w1 w2 : World} {T L : List Th} {p : Nat} {v : Value} {F : Nat → Prop} (h : Two2 w T L p v F w1) (r : Rb w1 w2) : Two2 w T L p v F w2 := ⟨h.tree.rb r, h.row.rb r, h.new, Rb.trans _ _ _ h.rb r⟩

theorem madeL_le (ks : List Int) : (madeL ks).length ≤ 300 := by
  have := madeN_le ks (min ks.length 300)
  unfold madeL
  omega

set_option maxHeartbeats 8000000 in
set_option maxRecDepth 100000 in
theorem deep_walk (w : World) (v : Value) (ks : List Int) (h : Sl w v (ks.map i64)) :
    Calls Try.prog 5 #[v] w fun e w' => e = .returned (.bool true) ∧ Below w.heap.size w w' := by
  have CM := Lib.hid (made_any w v ks h)
  obtain ⟨ao, cap, rfl, _⟩ := h.form
  obtain ⟨L, hL⟩ : ∃ L, L = madeL ks := ⟨_, rfl⟩
  have hL3 : L.length ≤ 300 := by rw [hL]; exact madeL_le ks
  rw [← hL] at CM
  clear h hL
  generalize ks.length = m0 at CM ⊢
  go_enter Try.func5, Try.ntmps5
  go_wp2_with (go_at_call 12; refine CM.out.mono ?_)
  first | (rintro e w1 p vl F rfl hm) | (rintro e w1 ⟨p, vl, F, rfl, hm⟩)
  have hr : Rise L := hm.tree.rise
  have T1 : Hid (Two2 w L L p vl F w1) := Two2.of_made hm
  obtain ⟨n, hn⟩ : ∃ n, n = L.length := ⟨_, rfl⟩
  have HN := Lib.hid hn
  have HR := Lib.hid hr
  obtain ⟨aol, capl, hvl, hvn, hvcell⟩ : ∃ aol capl, vl = .slice aol n capl ∧ n ≤ capl ∧ Hid (∀ j, j < n → ∃ g, aol = some ⟨g, 0, none⟩ ∧ ∀ w', PRow w' vl L → w'.cell? ⟨g, j * 2, none⟩ = some (i64 (L.getD j (0, 0)).1)) := by
    rcases hm.row.cases' with ⟨rfl, h0⟩ | ⟨g, cap, rfl, h1, h2, h3⟩
    · have : n = 0 := by rw [hn, h0]; rfl
      exact ⟨none, 0, by rw [this], by omega, fun j hj => by omega⟩
    · refine ⟨_, cap, by rw [hn], by omega, fun j hj => ⟨g, rfl, fun w' hp => ?_⟩⟩
      rcases hp.cases' with ⟨e, _⟩ | ⟨g', cap', e, _, _, h4⟩
      · cases e
      · simp only [Value.slice.injEq, Option.some.injEq, Addr.mk.injEq, and_true] at e
        obtain ⟨rfl, -, rfl⟩ := e
        exact h4 _ _ (cells2_key L j (by omega)).1
  subst hvl
  rw [← hn] at hL3
  clear hm hr hn CM
  go_wp2_with fail
  go_loopg [17] n (fun g s17 wr => ∃ (i : Nat) (F : Nat → Prop), s17 = .int .i64 i ∧ i ≤ n ∧ n - i ≤ g ∧ Hid (Two2 w (delN L i) L p (.slice aol n capl) F wr))
  case atStart => exact ⟨0, F, rfl, Nat.zero_le _, by omega, T1.out⟩
  case round =>
    obtain ⟨i, F', rfl, h1, h2, hM⟩ := hrel
    by_cases hin : i < n
    · obtain ⟨m, hm⟩ : ∃ m, m = (delN L i).length := ⟨_, rfl⟩
      have hm3 : m ≤ 300 := by have := delN_le L i; have := HN.out; omega
      have CN : ∀ w', Hid (wr = w' → Calls Try.prog 18 #[ptrv p] w' fun e w'' => e = .returned (i64 m) ∧ w' = w'') := fun w' e => by subst e; rw [hm]; exact tlen wr p _ F' hM.out.tree
      have CD := Lib.hid (tdepth wr p _ F' hM.out.tree (by omega))
      have CR : ∀ w', Rb wr w' → Hid (Calls Try.prog 17 #[ptrv p] w' fun e w'' => e = .returned (.bool true) ∧ Dn w' w'') := fun w' hr => tright w' p _ F' (hM.out.tree.rb hr) (by omega)
      have CX : ∀ w', Rb wr w' → Hid (Calls Try.prog 15 #[ptrv p, i64 (keyAt L i)] w' (TDel (keyAt L i) w' p (delN L i) F')) := fun w' hr => tdel (keyAt L i) w' p _ F' (hM.out.tree.rb hr) (by omega)
      have HM := Lib.hid hm
      have HI := Lib.hid hin
      have CN0 := (CN wr).out rfl
      have CNH := Lib.hid CN0
      have HGG := Lib.hid h2
      clear hm CN CN0 h1 h2
      go_wp2_with fail
      go_loopg [6, 7] 10 (fun g s6 s7 wx => ∃ j : Nat, s6 = .int .i64 (1 + (j : Int)) ∧ s7 = .int .i64 ((4 ^ (j + 1) : Nat) : Int) ∧ j ≤ 4 ∧ 10 - j ≤ g ∧ wx = wr)
      case atStart => exact ⟨0, rfl, rfl, by omega, by omega, rfl⟩
      case round =>
        obtain ⟨j, rfl, rfl, j4, jg, rfl⟩ := hrel
        have hpow : 4 ^ (j + 1) ≤ 1024 := by
          have : 4 ^ (j + 1) ≤ 4 ^ 5 := Nat.pow_le_pow_right (by decide) (by omega)
          omega
        by_cases hc : 4 ^ (j + 1) ≤ m
        · have hj3 : j ≤ 3 := by
            rcases Nat.lt_or_ge j 4 with h | h
            · omega
            · have : 4 ^ 5 ≤ 4 ^ (j + 1) := Nat.pow_le_pow_right (by decide) (by omega)
              omega
          have hcc : ((4 ^ (j + 1) : Nat) : Int) ≤ (m : Int) := by omega
          have hpp : ((4 ^ (j + 1) : Nat) : Int) * 4 = ((4 ^ (j + 1 + 1) : Nat) : Int) := by rw [Nat.pow_succ 4 (j + 1)]; omega
          have HPP := Lib.hid hpp
          have HJ := Lib.hid hj3
          generalize 4 ^ (j + 1) = q at *
          have hw1 : IntKind.i64.wrap ((q : Int) * 4) = (q : Int) * 4 := by rw [IntKind.wrap_i64]; omega
          have hw2 : IntKind.i64.wrap (1 + (j : Int) + 1) = 1 + (j : Int) + 1 := by rw [IntKind.wrap_i64]; omega
          clear hpp hc
          go_wp2_with (go_at_call 18; refine CNH.out.mono ?_; rintro e w' ⟨rfl, rfl⟩)
          go_roundg (10 - (j + 1))
          case measure => have := HJ.out; omega
          case rel => exact ⟨j + 1, by rw [show (1 : Int) + (j : Int) + 1 = 1 + ((j + 1 : Nat) : Int) by omega], by rw [HPP.out], by have := HJ.out; omega, Nat.le_refl _, rfl⟩
        · have hcc : ¬ ((4 ^ (j + 1) : Nat) : Int) ≤ (m : Int) := by omega
          have HC : Hid (m < 4 ^ (j + 1) ∧ j ≤ 10) := ⟨by omega, by omega⟩
          generalize 4 ^ (j + 1) = q at hcc
          clear hc hpow
          go_wp2_with (go_at_call 18; refine CNH.out.mono ?_; rintro e w' ⟨rfl, rfl⟩)
          refine CD.out.mono ?_
          first | (rintro e w2 dn rfl hd rfl) | (rintro e w2 ⟨dn, rfl, hd, rfl⟩)
          have hdn : ¬ dn > 1 + (j : Int) := by
            rcases hd with ⟨_, h⟩ | ⟨d, h, h', _⟩
            · omega
            · rw [← HM.out] at h'
              have hdj : d < j + 1 := by
                rcases Nat.lt_or_ge d (j + 1) with h | h
                · exact h
                · have := Nat.pow_le_pow_right (n := 4) (by decide) h
                  have := HC.out.1
                  omega
              omega
          have J := CR wr (Rb.refl _)
          clear hd CR hcc
          go_wp2_with (go_at_call 17; refine J.out.mono ?_)
          first | (rintro e w3 rfl hd) | (rintro e w3 ⟨rfl, hd⟩)
          have hrb := hd.rb
          have hmod : (i * 7) % n < n := Nat.mod_lt _ (by omega)
          obtain ⟨gl, rfl, hcell⟩ := hvcell.out _ hmod
          have hkc := hcell w3 (hM.out.row.rb hrb)
          have hke : (L.getD ((i * 7) % n) (0, 0)).1 = keyAt L i := by unfold keyAt; rw [← HN.out]
          rw [hke] at hkc
          have J2 := CX w3 hrb
          unfold TDel at J2
          have M3 := Lib.hid (hM.out.then_rb hrb)
          have e1 : IntKind.i64.wrap ((i : Int) * 7) = (i : Int) * 7 := by rw [IntKind.wrap_i64]; omega
          have e2 : ((i : Int) * 7).tmod (n : Int) = (((i * 7) % n : Nat) : Int) := by
            rw [show (i : Int) * 7 = ((i * 7 : Nat) : Int) by omega]
            exact Int.ofNat_tmod .. |>.symm
          have hfound : n % 7 ≠ 0 → (getL (keyAt L i) (delN L i)).isSome = true := fun h7 => delN_found HR.out (by rw [← HN.out]; exact h7) i (by rw [← HN.out]; exact HI.out)
          obtain ⟨kk, hkk⟩ : ∃ kk, kk = keyAt L i := ⟨_, rfl⟩
          have HKK := Lib.hid hkk
          rw [← hkk] at hkc J2 hfound
          clear hkk
          generalize (i * 7) % n = q at *
          clear hd hrb CX hcell hke J
          go_wp2_with (go_at_call 15; refine J2.out.mono ?_)
          first | (rintro e w4 F4 rfl t4 f4 n4) | (rintro e w4 ⟨F4, rfl, t4, f4, n4⟩)
          have M4 : Hid (Two2 w (delL kk (delN L i)) L p (.slice (some ⟨gl, 0, none⟩) n capl) F4 w4) := M3.out.step t4 f4 n4
          have HF := Lib.hid hfound
          clear t4 f4 n4 hfound hkc e1 e2 J2
          cases hs : (getL kk (delN L i)).isSome
          · have h70 : n % 7 = 0 := by
              rcases Nat.eq_zero_or_pos (n % 7) with h | h
              · exact h
              · have := HF.out (by omega)
                rw [hs] at this
                cases this
            have e7 : (n : Int).tmod 7 = 0 := by
              have : (n : Int).tmod 7 = ((n % 7 : Nat) : Int) := (Int.ofNat_tmod n 7).symm
              rw [this, h70]; rfl
            clear h70 hs
            go_wp2
            go_roundg (n - (i + 1))
            case measure => have := HI.out; have := HGG.out; omega
            case rel => exact ⟨i + 1, F4, by rw [show ((i : Int) + 1) = ((i + 1 : Nat) : Int) by omega], HI.out, Nat.le_refl _, by rw [delN, ← HKK.out]; exact M4.out⟩
          · clear hs
            go_wp2
            go_roundg (n - (i + 1))
            case measure => have := HI.out; have := HGG.out; omega
            case rel => exact ⟨i + 1, F4, by rw [show ((i : Int) + 1) = ((i + 1 : Nat) : Int) by omega], HI.out, Nat.le_refl _, by rw [delN, ← HKK.out]; exact M4.out⟩
    · have hni : i = n := by omega
      subst hni
      have CN := Lib.hid (tlen wr p _ F' hM.out.tree)
      have hlen : i % 7 ≠ 0 → (delN L i).length = 0 := fun h7 => by
        have := delN_length HR.out (by rw [← HN.out]; exact h7) i (by rw [← HN.out]; exact Nat.le_refl _)
        rw [this, ← HN.out]; omega
      have CV := Lib.hid (lives_any wr)
      have e7 : (i : Int).tmod 7 = ((i % 7 : Nat) : Int) := (Int.ofNat_tmod i 7).symm
      generalize (delN L i).length = m at CN hlen
      have RB := Lib.hid hM.out.rb
      clear h1 h2 hin hL3
      by_cases hm0 : m = 0
      · subst hm0
        clear hlen e7
        go_wp2_with (first | (go_at_call 18; refine CN.out.mono ?_; rintro e w' ⟨rfl, rfl⟩) | (go_at_call 11; refine CV.out.mono ?_))
        first | (rintro e w2 rfl hr2) | (rintro e w2 ⟨rfl, hr2⟩)
        have HR2 := Lib.hid hr2
        clear hr2
        go_wp2
        go_ret
        exact ⟨rfl, Rb.trans _ _ _ RB.out HR2.out⟩
      · have h70 : i % 7 = 0 := by
          rcases Nat.eq_zero_or_pos (i % 7) with h | h
          · exact h
          · exact absurd (hlen (by omega)) hm0
        rw [h70] at e7
        have hmb : ((m : Int) == 0) = false := by rw [beq_eq_false_iff_ne]; omega
        clear hlen hm0 h70
        go_wp2_with (first | (go_at_call 18; refine CN.out.mono ?_; rintro e w' ⟨rfl, rfl⟩) | (go_at_call 11; refine CV.out.mono ?_))
        first | (rintro e w2 rfl hr2) | (rintro e w2 ⟨rfl, hr2⟩)
        have HR2 := Lib.hid hr2
        clear hr2
        go_wp2
        go_ret
        exact ⟨rfl, Rb.trans _ _ _ RB.out HR2.out⟩
end Go.Proofs.Ytjdlicphmflnkaa.L5
