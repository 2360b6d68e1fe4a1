/-
  Layer 7: Back.
-/
import Derived.Test.YtjfpeklfgnajoaaGreatQ21
namespace Go.Proofs.YtjfpeklfgnajoaaGreat.L6
open Go.ChangeShapes Go.WideShapes Go.ChangeAt Go.RowKit By Reg Val
set_option linter.unusedVariables false
set_option linter.unusedSimpArgs false
/-- numbers that nothing outgrows -/
def Sml (x : Int) : Prop := -1000000 ≤ x ∧ x ≤ 1000000
theorem sml_getD {l : List Int} (h : ∀ x ∈ l, Sml x) (i : Nat) : Sml (l.getD i 0) := by
  rw [List.getD_eq_getElem?_getD]
  cases hi : l[i]? with
  | none => simp [Sml]
  | some x => simpa using h x (List.mem_of_getElem? hi)
/-- what a call of Back, Done leaves of the tables: L of each table by g, held by f -/
structure TurnS (g : Nat → List Th → List Th) (f : Nat → Int) (c : ClD) (sh sh' : List Sh) : Prop where
  len : sh'.length = sh.length
  at_ : ∀ (i : Nat) (h : i < sh.length) (h1 : i < sh'.length), sh'[i].b = sh[i].b ∧ sh'[i].t = sh[i].t ∧ sh'[i].L = g i sh[i].L ∧ sh'[i].held = sh[i].held + (f i - c.held.getD i 0)
structure BackP (w : World) (v : Value) (sh : List Sh) (c : ClD) (w' : World) (sh' : List Sh) (c' : ClD) : Prop where
  op : OpP w v sh c w' sh' c'
  sh : TurnS (fun i L => undoL c i (spotsOf c) L) (fun i => c.first.getD i 0) c sh sh'
  held : c'.held = c.first
  first : c'.first = c.first
  tch : c'.tch = []

theorem int_at {w : World} {v : Value} {l : List Int} (h : Row w 3 v (l.map i64)) (i : Nat) (hi : i < l.length) : ∃ g cap, v = .slice (some ⟨g, 0, none⟩) l.length cap ∧ w.cell? ⟨g, i, none⟩ = some (i64 (l.getD i 0)) := by
  obtain ⟨g, cap, h1, h2, h3, h4⟩ := h.at_ (j := i) (by rw [List.length_map]; exact hi)
  refine ⟨g, cap, by simpa using h1, ?_⟩
  rw [h4]
  simp [List.getD_eq_getElem?_getD, hi]

set_option maxRecDepth 100000 in
set_option maxHeartbeats 1000000 in
theorem back_any (w : World) (v : Value) (sh : List Sh) (c : ClD) (h : Duo w v sh c) (hsp : SpIn c sh.length) (hn : sh.length ≤ 1000) (hl : c.tch.length ≤ 500) (hL : ∀ s ∈ sh, s.L.length ≤ 500) (hf : c.first.length = c.held.length)
    (b1 : ∀ x ∈ c.first, Sml x) (b2 : ∀ s ∈ sh, Sml s.held) (b3 : ∀ x ∈ c.held, Sml x) :
    Calls Tryz.prog 28 #[ptrv c.b] w fun e w' => (∃ u, e = .returned u) ∧ ∃ sh' c', BackP w v sh c w' sh' c' := by
  have CO := Lib.hid (open_yes w c h.cl)
  have CU := Lib.hid (undone w v sh c c.st h.st h.cl h.ap hsp hn hl hL)
  have c0 := h.cl.c0
  have HD := Lib.hid h
  obtain ⟨ao, cap, hfv, hc1, hc2⟩ := h.cl.fform
  have HF := Lib.hid hfv
  have hnf : c.first.length = sh.length := by rw [hf, h.len]
  have HNF := Lib.hid hnf
  clear h hfv
  obtain ⟨n, hnn⟩ : ∃ n, n = sh.length := ⟨_, rfl⟩
  have HN := Lib.hid hnn
  go_enter Tryz.func28, Tryz.ntmps28
  go_wp2_with (refine CO.out.mono ?_; rintro e w2 ⟨rfl, rfl⟩)
  refine CU.out.mono ?_
  first | (rintro e w1 u rfl sh1 hu1 hst hcl hfr hnew) | (rintro e w1 ⟨⟨u, rfl⟩, sh1, hu1, hst, hcl, hfr, hnew⟩)
  have O1 : OpP w v sh c w1 sh1 c := by
    refine ⟨⟨hst, hcl, fun k hk hk' => ?_, by rw [HD.out.len, hu1.len]⟩, rfl, rfl, hfr.mono fun k hk _ => .inl hk, fun k hk => ?_⟩
    · rcases hnew k hk' with h1 | h1
      · exact HD.out.ap k hk h1
      · have := HD.out.cl.lt k hk; omega
    · rcases hk with hk | hk
      · rcases hnew k hk with h1 | h1
        · exact .inl (.inl h1)
        · exact .inr h1
      · exact .inl (.inr hk)
  have c2 := hcl.c2
  rw [HF.out] at c2
  have HO := Lib.hid O1
  have HU := Lib.hid hu1
  have hlen : sh1.length = n := by rw [hu1.len, ← hnn]
  have hfl : c.first.length = n := by rw [hnf, hnn]
  rw [hfl] at c2 HF hc1
  have b2' : ∀ s ∈ sh1, Sml s.held := fun s hs => by
    obtain ⟨i, hi, rfl⟩ := List.getElem_of_mem hs
    rw [(hu1.at_ i (by rw [← hu1.len]; exact hi) hi).2.2.1]
    exact b2 _ (List.getElem_mem _)
  have BB := Lib.hid (And.intro b1 (And.intro b2' b3))
  have hn1 : n ≤ 1000 := by rw [hnn]; exact hn
  have HLE := Lib.hid hlen
  have HFL := Lib.hid hfl
  have HHF := Lib.hid hf
  clear b1 b2 b2' b3 O1 hu1 hst hcl hfr hnew hsp hL CO CU c0 hnn hlen hfl hf hnf
  go_wp2_with fail
  go_loopw [19] (fun p wr => ∃ (i : Nat), p = .int .i64 i ∧ i ≤ n ∧ Hid (∃ sh2 d2, OpP w1 v sh1 c wr sh2 d2 ∧ HeldTo (fun i => c.first.getD i 0) i sh1 c sh2 d2)) (fun p _ => n - (intOf p).toNat)
  case atStart => exact ⟨0, rfl, Nat.zero_le _, ⟨_, _, OpP.of_rb HO.out.duo ((Below.refl _ _)), HeldTo.start _ _ _⟩⟩
  case round =>
    obtain ⟨i, rfl, hin, hr⟩ := hrel
    by_cases hlt : i < n
    · obtain ⟨sh2, d2, hO, hH⟩ := hr.out
      have hrf : Row wr 3 c.fv (c.first.map i64) := by
        have := hO.duo.cl.rf
        rw [hH.c] at this
        exact this
      obtain ⟨g, cap', q1, q2⟩ := int_at hrf i (by rw [HFL.out]; exact hlt)
      rw [HF.out] at q1
      simp only [Value.slice.injEq] at q1
      obtain ⟨rfl, -, -⟩ := q1
      have hi1 : i < sh1.length := by rw [HLE.out]; exact hlt
      have C := hold_step w1 wr v sh1 sh2 c d2 (fun i => c.first.getD i 0) i hO hH hi1 (by rw [HLE.out, HN.out]; exact hn) (by rw [HD.out.len, HLE.out, HN.out]) (sml_getD BB.out.1 i) BB.out.2.1 (sml_getD BB.out.2.2 i)
      obtain ⟨z, hz⟩ : ∃ z, z = c.first.getD i 0 := ⟨_, rfl⟩
      rw [← hz] at q2 C
      have HC := Lib.hid C
      clear C hr hO hH hrf hz hi1 c2
      go_wp2_with fail
      refine HC.out.mono ?_
      first | (rintro e w' u' rfl sh3 d3 hO3 hH3) | (rintro e w' ⟨⟨u', rfl⟩, sh3, d3, hO3, hH3⟩)
      have H3 : Hid (∃ sh2 d2, OpP w1 v sh1 c w' sh2 d2 ∧ HeldTo (fun i => c.first.getD i 0) (i + 1) sh1 c sh2 d2) := ⟨_, _, hO3, hH3⟩
      clear hO3 hH3
      go_wp2
      go_roundw
      case rel => exact ⟨i + 1, by go_num, by omega, H3⟩
      case measure => simp [intOf]; omega
    · have hni : i = n := by omega
      subst hni
      obtain ⟨sh2, d2, hO, hH⟩ := hr.out
      have C := begin_any wr d2 hO.duo.cl (by rw [hO.duo.len, hH.len, HLE.out, HN.out]; exact hn)
      rw [hO.b] at C
      have HC := Lib.hid C
      have HR := Lib.hid (And.intro hO hH)
      clear C hr hO hH c2
      go_wp2_with fail
      refine HC.out.mono ?_
      first | (rintro e w' u' rfl c' hB) | (rintro e w' ⟨⟨u', rfl⟩, c', hB⟩)
      have HBB := Lib.hid hB
      clear hB
      go_wp2
      go_end0
      refine ⟨⟨_, rfl⟩, sh2, c', (HO.out.trans HR.out.1).trans (BegP.op HR.out.1.duo HBB.out), ⟨by rw [HR.out.2.len]; exact HU.out.len, fun j hj hj1 => ?_⟩, ?_, ?_, HBB.out.tch⟩
      · have hj2 : j < sh1.length := by rw [HU.out.len]; exact hj
        obtain ⟨a1, a2, a3, a4⟩ := HR.out.2.at_ j hj2 hj1
        obtain ⟨b1, b2, b3, b4⟩ := HU.out.at_ j hj hj2
        refine ⟨a1.trans b1, a2.trans b2, a3.trans b4, ?_⟩
        rw [a4, if_pos (by rw [HN.out]; exact hj), b3]
      · rw [HBB.out.held, HR.out.2.c]
        dsimp only
        have e1 : i = c.held.length := by rw [← HHF.out, HFL.out]
        rw [e1, heldTo_all, ← HHF.out, range_getD]
      · rw [HBB.out.first, HR.out.2.c]
        dsimp only
        have e1 : i = c.held.length := by rw [← HHF.out, HFL.out]
        rw [e1, heldTo_all, ← HHF.out, range_getD]
end Go.Proofs.YtjfpeklfgnajoaaGreat.L6
