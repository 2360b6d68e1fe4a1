/-
  Layer 7: Set and Del as one step of plain data.
-/
import Derived.Test.YtjfpeklfgnajoaaGreatQ30
import Derived.Test.YtjfpeklfgnajoaaGreatM4
namespace Go.Proofs.YtjfpeklfgnajoaaGreat.L6
open Go.ChangeShapes Go.WideShapes Go.ChangeAt Go.RowKit By Reg Val
set_option linter.unusedVariables false
set_option linter.unusedSimpArgs false

/-- numbers and rows that nothing outgrows -/
structure SaneS (M : Nat) (s : Sh) : Prop where
  r : 1 ≤ s.t.rows ∧ s.t.rows ≤ 64
  c : 1 ≤ s.t.cols.length ∧ s.t.cols.length ≤ 8
  rows : ∀ t ∈ s.L, t.2.row.length = s.t.cols.length
  len : s.L.length ≤ M
  held : -(1000 + M : Int) ≤ s.held ∧ s.held ≤ 1000 + M
structure Sane (M : Nat) (sh : List Sh) (c : ClD) : Prop where
  n : sh.length ≤ 10
  shs : ∀ s ∈ sh, SaneS M s
  held : ∀ x ∈ c.held, 0 ≤ x ∧ x ≤ 1000 + M
  first : ∀ x ∈ c.first, 0 ≤ x ∧ x ≤ 1000 + M
  flen : c.first.length = c.held.length
  spin : SpIn c sh.length
  tlen : c.tch.length ≤ M
theorem SaneS.pinv {M : Nat} {s : Sh} (h : SaneS M s) (hM : M ≤ 200) : PInv s :=
  ⟨⟨h.r.1, h.r.2, by have := h.len; omega, by have := h.held; omega, by have := h.held; omega⟩, h.c.1, h.c.2, h.rows⟩
theorem SaneS.mono {M N : Nat} {s : Sh} (h : SaneS M s) (hM : M ≤ N) : SaneS N s := ⟨h.r, h.c, h.rows, by have := h.len; omega, by have := h.held; omega⟩
theorem Sane.mono {M N : Nat} {sh : List Sh} {c : ClD} (h : Sane M sh c) (hM : M ≤ N) : Sane N sh c :=
  ⟨h.n, fun s hs => (h.shs s hs).mono hM, fun x hx => by have := h.held x hx; omega, fun x hx => by have := h.first x hx; omega, h.flen, h.spin, by have := h.tlen; omega⟩
theorem Sane.heldD {M : Nat} {sh : List Sh} {c : ClD} (h : Sane M sh c) (i : Nat) : 0 ≤ c.held.getD i 0 ∧ c.held.getD i 0 ≤ 1000 + M := by
  rw [List.getD_eq_getElem?_getD]
  cases hi : c.held[i]? with
  | none => simp; omega
  | some x => simpa using h.held x (List.mem_of_getElem? hi)

/-- one row turned by a claim -/
structure StepD (sh : List Sh) (c : ClD) (i : Nat) (k : Int) (y : SV) (dl : Int) (sh' : List Sh) (c' : ClD) : Prop where
  hi : i < sh.length
  k64 : I64 k
  shl : ∃ s', sh' = sh.set i s' ∧ s'.b = sh[i].b ∧ s'.t = sh[i].t ∧ s'.L = layL k y sh[i].L ∧ s'.held = sh[i].held - dl ∧ (s'.L.length : Int) = sh[i].L.length + dl
  cc : c' = { c with held := c.held.set i (c.held.getD i 0 - dl), tch := tchM ((i : Int), k) ((getL k sh[i].L).getD sv0) c.tch }
  y : y.ao.isNone = false → y.row.length = sh[i].t.cols.length
  d : dl = 0 ∨ dl = -1 ∨ dl = 1 ∧ c.held.getD i 0 ≠ 0

theorem set_same (l : List Int) (i : Nat) : l.set i (l.getD i 0) = l := by
  apply List.ext_getElem (by simp)
  intro j h1 h2
  by_cases e : i = j
  · subst e
    rw [List.getElem_set_self, List.getD_eq_getElem?_getD, List.getElem?_eq_getElem h2]
    rfl
  · rw [List.getElem_set_ne e]

theorem tchM_len (p : Spot) (y : SV) (l : List (Spot × SV)) : (tchM p y l).length ≤ l.length + 1 := by
  unfold tchM
  split
  · omega
  · induction l with
    | nil => simp [putM]
    | cons x l ih =>
      rw [putM]
      split
      · simp
      · rename_i h1 h2
        have : ¬ (getM p l).isSome = true := by
          rw [getM, if_neg h2] at h1
          exact h1
        have := ih this
        simp
        omega

theorem StepD.sane {M : Nat} {sh sh' : List Sh} {c c' : ClD} {i : Nat} {k : Int} {y : SV} {dl : Int} (h : StepD sh c i k y dl sh' c') (s : Sane M sh c) (hd : c.held.length = sh.length) : Sane (M + 1) sh' c' := by
  obtain ⟨s', rfl, a1, a2, a3, a4, a5⟩ := h.shl
  obtain ⟨hi, _, _, hc, hy, hdl⟩ := h
  have hs0 := s.shs sh[i] (List.getElem_mem _)
  have hg := s.heldD i
  subst hc
  refine ⟨by rw [List.length_set]; exact s.n, fun x hx => ?_, fun x hx => ?_, fun x hx => ?_, ?_, ?_, ?_⟩
  · rcases List.mem_or_eq_of_mem_set hx with hx | rfl
    · exact (s.shs x hx).mono (by omega)
    · refine ⟨by rw [a2]; exact hs0.r, by rw [a2]; exact hs0.c, fun t ht => ?_, ?_, ?_⟩
      · rw [a2]
        rw [a3] at ht
        rcases layL_mem ht with h1 | ⟨rfl, h1⟩
        · exact hs0.rows t h1
        · exact hy h1
      · have := hs0.len
        rcases hdl with h1 | h1 | ⟨h1, _⟩ <;> omega
      · have := hs0.held
        rw [a4]
        rcases hdl with h1 | h1 | ⟨h1, _⟩ <;> omega
  · have hx' : x ∈ c.held.set i (c.held.getD i 0 - dl) := hx
    rcases List.mem_or_eq_of_mem_set hx' with hx' | rfl
    · have := s.held x hx'; omega
    · rcases hdl with h1 | h1 | ⟨h1, h2⟩ <;> omega
  · have := s.first x hx; omega
  · show c.first.length = (c.held.set i _).length
    rw [List.length_set]
    exact s.flen
  · intro x hx
    rw [List.length_set]
    have hx' : x ∈ tchM ((i : Int), k) ((getL k sh[i].L).getD sv0) c.tch := hx
    unfold tchM at hx'
    split at hx'
    · exact s.spin x hx'
    · rcases putM_mem hx' with hx' | rfl
      · exact s.spin x hx'
      · show (0 : Int) ≤ (i : Int) ∧ (i : Int) < _
        omega
  · have := tchM_len ((i : Int), k) ((getL k sh[i].L).getD sv0) c.tch
    have := s.tlen
    show (tchM _ _ c.tch).length ≤ _
    omega

theorem layL_put {k : Int} {y : SV} {L : List Th} (hy : y.ao.isNone = false) : layL k y L = putL k y L := by
  unfold layL
  rw [hy]
  rfl

/-- Set, on a store of which this claim has some rows -/
theorem set_law (w : World) (v : Value) (sh : List Sh) (c : ClD) (M : Nat) (t k col : Int) (x : ValD) (h : Duo w v sh c) (hs : Sane M sh c) (hM : M ≤ 200) (hx : ValOk x) (hk : I64 k) :
    Calls Tryz.prog 25 #[ptrv c.b, i64 t, i64 k, i64 col, valV3 x] w fun e w' => ∃ r, e = .returned (i64 r) ∧
      ((r ≠ 0 ∧ Rb w w' ∧ ¬ ∃ (i j : Nat) (hi : i < sh.length) (hj : j < sh[i].t.cols.length), t = i ∧ col = j ∧ fitsV sh[i].t.cols[j] x = true ∧ ((getL k sh[i].L).isSome = true ∨ c.held.getD i 0 ≠ 0)) ∨
       (r = 0 ∧ ∃ (i j : Nat) (y : SV) (sh' : List Sh) (c' : ClD) (hi : i < sh.length), t = i ∧ col = j ∧ j < sh[i].t.cols.length ∧ StepD sh c i k y (if (getL k sh[i].L).isSome then 0 else 1) sh' c' ∧ y.ao.isNone = false ∧
          y.row = (match getL k sh[i].L with | some z => z.row | none => sh[i].t.cols.map zeroV).set j x ∧ OpP w v sh c w' sh' c')) := by
  by_cases hc : hasC (shOf sh t) col = false
  · refine (set_nocol w v sh c t k col x h hc).mono ?_
    rintro e w' ⟨rfl, hb⟩
    refine ⟨1, rfl, .inl ⟨by decide, hb, ?_⟩⟩
    rintro ⟨i, j, hi, hj, rfl, rfl, _⟩
    have : shOf sh (i : Int) = some sh[i] := by unfold shOf; simp [hi]
    rw [this] at hc
    unfold hasC at hc
    simp at hc
    omega
  · have hc1 : hasC (shOf sh t) col = true := by simpa using hc
    obtain ⟨s, hsh⟩ : ∃ s, shOf sh t = some s := by
      cases hq : shOf sh t with
      | none => rw [hq] at hc1; cases hc1
      | some s => exact ⟨s, rfl⟩
    obtain ⟨i, rfl, hi, rfl⟩ := shOf_some hsh
    rw [hsh] at hc1
    unfold hasC at hc1
    simp at hc1
    obtain ⟨j, rfl⟩ : ∃ j : Nat, col = j := ⟨col.toNat, by omega⟩
    have hj : j < sh[i].t.cols.length := by omega
    obtain ⟨e1, e2, e3⟩ := set_split sh i hi
    have hD := h
    rw [e1] at hD
    have hS := hs.shs sh[i] (List.getElem_mem _)
    have hp := hS.pinv hM
    have hl9 : sh[i].L.length ≤ 999 := by have := hS.len; omega
    have hA : (sh.take i).length ≤ 1000 := by have := hs.n; omega
    have hg := hs.heldD i
    have hrise := (h.st.at_ sh[i] (List.getElem_mem _)).tree.rise
    cases hf : fitsV sh[i].t.cols[j] x with
    | false =>
      have C := set_nofit w v (sh.take i) (sh.drop (i + 1)) sh[i] c k j x hD hj hx hf
      rw [e2] at C
      refine C.mono ?_
      rintro e w' ⟨rfl, hb⟩
      refine ⟨1, rfl, .inl ⟨by decide, hb, ?_⟩⟩
      rintro ⟨i', j', hi', hj', h1, h2, h3, _⟩
      have e4 : i' = i := by omega
      subst e4
      have e5 : j' = j := by omega
      subst e5
      rw [hf] at h3
      cases h3
    | true =>
      have OKS : ∀ w', SetOk w v (sh.take i) (sh.drop (i + 1)) sh[i] c k j x w' → (∃ (y : SV) (sh' : List Sh) (c' : ClD), StepD sh c i k y (if (getL k sh[i].L).isSome then 0 else 1) sh' c' ∧ y.ao.isNone = false ∧
          y.row = (match getL k sh[i].L with | some z => z.row | none => sh[i].t.cols.map zeroV).set j x ∧ OpP w v sh c w' sh' c') ∨ (getL k sh[i].L = none ∧ c.held.getD i 0 = 0) := fun w' hok => by
        obtain ⟨s', y, h1, h2, h3, h4, h5, h6, h7⟩ := hok
        rw [← e1, ← e3, e2] at h7
        by_cases hz : getL k sh[i].L = none ∧ c.held.getD i 0 = 0
        · exact .inr hz
        · refine .inl ⟨y, sh.set i s', _, ⟨hi, hk, ⟨s', rfl, h3, h4, by rw [h5, layL_put h1], ?_, ?_⟩, ?_, fun _ => ?_, ?_⟩, h1, h2, h7⟩
          · rw [h6]
            cases getL k sh[i].L with
            | none => rfl
            | some z => simp
          · rw [h5, putL_length _ _ _ hrise]
          · cases getL k sh[i].L with
            | none => rfl
            | some z => simp only [Option.isSome_some, if_true, Int.sub_zero]; rw [set_same]
          · rw [h2]
            cases hz2 : getL k sh[i].L with
            | none => simp
            | some z => simp [hS.rows _ (getL_mem hz2)]
          · cases hz2 : getL k sh[i].L with
            | none => exact .inr (.inr ⟨by simp, fun e => hz ⟨hz2, e⟩⟩)
            | some z => exact .inl (by simp)
      cases hz : getL k sh[i].L with
      | some z =>
        have C := set_old w v (sh.take i) (sh.drop (i + 1)) sh[i] c k j x hD hj hx hf hp hA hl9 hk z hz
        rw [e2] at C
        refine C.mono ?_
        rintro e w' ⟨rfl, hok⟩
        rcases OKS w' hok with ⟨y, sh', c', q⟩ | ⟨q, _⟩
        · rw [hz] at q
          refine ⟨0, rfl, .inr ⟨rfl, i, j, y, sh', c', hi, rfl, rfl, hj, ?_⟩⟩
          rw [hz]
          exact q
        · rw [hz] at q; cases q
      | none =>
        by_cases h0 : c.held.getD i 0 = 0
        · have C := set_full w v (sh.take i) (sh.drop (i + 1)) sh[i] c k j x hD hj hx hf hp hA hl9 hk hz (by rw [e2]; exact h0)
          rw [e2] at C
          refine C.mono ?_
          rintro e w' ⟨rfl, hb⟩
          refine ⟨4, rfl, .inl ⟨by decide, hb, ?_⟩⟩
          rintro ⟨i', j', hi', hj', h1, h2, h3, h4⟩
          have e4 : i' = i := by omega
          subst e4
          rcases h4 with h4 | h4
          · rw [hz] at h4; cases h4
          · exact h4 h0
        · have C := set_new w v (sh.take i) (sh.drop (i + 1)) sh[i] c k j x hD hj hx hf hp hA hl9 hk hz (by rw [e2]; exact h0) (by rw [e2]; omega)
          rw [e2] at C
          refine C.mono ?_
          rintro e w' ⟨rfl, hok⟩
          rcases OKS w' hok with ⟨y, sh', c', q⟩ | ⟨_, q⟩
          · rw [hz] at q
            refine ⟨0, rfl, .inr ⟨rfl, i, j, y, sh', c', hi, rfl, rfl, hj, ?_⟩⟩
            rw [hz]
            exact q
          · exact absurd q h0
end Go.Proofs.YtjfpeklfgnajoaaGreat.L6
