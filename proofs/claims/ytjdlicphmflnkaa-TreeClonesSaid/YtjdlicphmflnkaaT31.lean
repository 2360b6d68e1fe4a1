/-
  Layer 5: what kinds of blocks a tree has; made.
-/
import Derived.Test.YtjdlicphmflnkaaT30
import Derived.Test.YtjdlicphmflnkaaT28
namespace Go.Proofs.Ytjdlicphmflnkaa.L5
open Go.ChangeShapes Go.WideShapes Go.ChangeAt Go.RowKit By Reg
set_option linter.unusedVariables false

def kind (T : TypeId) : Prop := T = 26 ∨ T = 70 ∨ T = 2 ∨ T = 3 ∨ T = 24
theorem NodeAt.typ {w : World} {N : Nd} (h : NodeAt w N) : ∀ k, N.has k → ∃ T cs, Blk w k T cs ∧ kind T := fun k hk => by
  rcases hk with rfl | hk | hk | hk
  · exact ⟨_, _, h.blk, .inr (.inl rfl)⟩
  · obtain ⟨cs, hb⟩ := h.rk.typ k hk
    exact ⟨_, _, hb, .inr (.inr (.inl rfl))⟩
  · obtain ⟨cs, hb⟩ := h.rv.typ k hk
    exact ⟨_, _, hb, .inr (.inr (.inr (.inl rfl)))⟩
  · obtain ⟨cs, hb⟩ := h.rp.typ k hk
    exact ⟨_, _, hb, .inr (.inr (.inr (.inr rfl)))⟩
theorem Held.typ : ∀ (d : Nat) {w : World} {s : Sub}, Held d w s → ∀ k, s.F k → ∃ T cs, Blk w k T cs ∧ kind T
  | 0, w, s, ⟨N, h⟩, k, hk => h.na.typ k ((h.F k).1 hk)
  | d + 1, w, s, ⟨N, cs, h, _⟩, k, hk => by
    rcases (h.F k).1 hk with hk | ⟨c, hc, hk⟩
    · exact h.na.typ k hk
    · exact Held.typ d (h.held c hc) k hk
theorem TreeAt.typ {w : World} {p : Nat} {L : List Th} {F : Nat → Prop} (h : TreeAt w p L F) : ∀ k, F k → ∃ T cs, Blk w k T cs ∧ kind T := fun k hk => by
  rcases h with ⟨hb, _, hF⟩ | ⟨d, s, h, hF⟩
  · rw [(hF k).1 hk]
    exact ⟨_, _, hb, .inl rfl⟩
  · rcases (hF k).1 hk with rfl | hk
    · exact ⟨_, _, h.blk, .inl rfl⟩
    · exact h.held.typ d k hk
theorem TreeAt.lt {w : World} {p : Nat} {L : List Th} {F : Nat → Prop} (h : TreeAt w p L F) : ∀ k, F k → k < w.heap.size := fun k hk => by
  obtain ⟨T, cs, hb, _⟩ := h.typ k hk
  exact hb.lt
theorem TreeAt.same {w w' : World} {p : Nat} {L : List Th} {F : Nat → Prop} (h : TreeAt w p L F) (e : ∀ k, F k → w'.heap[k]? = w.heap[k]?) : TreeAt w' p L F := by
  rcases h with ⟨hb, h2, hF⟩ | ⟨d, s, h, hF⟩
  · exact .inl ⟨hb.same (e p ((hF p).2 rfl)), h2, hF⟩
  · exact .inr ⟨d, s, ⟨h.blk.same (e p ((hF p).2 (.inl rfl))), h.held.same d (fun k hk => e k ((hF k).2 (.inr hk))), h.one, h.eight, h.two, h.srt, h.items, h.off⟩, hF⟩
theorem TreeAt.rb {w w' : World} {p : Nat} {L : List Th} {F : Nat → Prop} (h : TreeAt w p L F) (hr : Rb w w') : TreeAt w' p L F := h.same fun k hk => hr.block k (h.lt k hk)
theorem TreeAt.rise {w : World} {p : Nat} {L : List Th} {F : Nat → Prop} (h : TreeAt w p L F) : Rise L := by
  rcases h with ⟨hb, rfl, hF⟩ | ⟨d, s, h, hF⟩
  · exact List.Pairwise.nil
  · rw [← h.items]; exact rise_items h.srt
theorem PRow.off {w : World} {v : Value} {M : List Th} (h : PRow w v M) {k : Nat} {T : TypeId} {cs : List Value} (hb : Blk w k T cs) (hT : kind T) : v.ownBlock ≠ some k := fun e => by
  obtain ⟨_, h⟩ := h
  rcases h with ⟨rfl, _⟩ | ⟨g, cap, cur, rfl, _, h3, _⟩
  · cases e
  · simp only [Value.ownBlock, Option.some.injEq] at e
    subst e
    unfold Blk at hb
    rw [hb] at h3
    have e2 : T = 47 := by simpa using congrArg (fun o => match o with | some (Obj.cells _ t _) => t | _ => 0) h3
    subst e2
    rcases hT with h | h | h | h | h <;> exact absurd h (by decide)
/-- what a tree turns leaves the lists alone -/
theorem PRow.fr {w w' : World} {v : Value} {M L : List Th} {p : Nat} {F : Nat → Prop} (h : PRow w v M) (ht : TreeAt w p L F) (hf : Fr F w w') : PRow w' v M := h.same fun k hk => hf.block k (h.lt k hk) fun hF => by
  obtain ⟨T, cs, hb, hT⟩ := ht.typ k hF
  exact h.off hb hT hk

def madeN (ks : List Int) : Nat → List Th
  | 0 => []
  | i + 1 => putL (ks.getD i 0) i (madeN ks i)
theorem putL_le (x y : Int) : ∀ L : List Th, (putL x y L).length ≤ L.length + 1
  | [] => by simp [putL]
  | t :: L => by
    rw [putL]
    have := putL_le x y L
    split
    · simp; omega
    · split
      · simp
      · simp
theorem madeN_le (ks : List Int) : ∀ i, (madeN ks i).length ≤ i
  | 0 => Nat.le_refl _
  | i + 1 => by
    have := putL_le (ks.getD i 0) i (madeN ks i)
    have := madeN_le ks i
    rw [madeN]
    omega
def madeL (ks : List Int) : List Th := madeN ks (min ks.length 300)

theorem Sl.form {w : World} {v : Value} {ks : List Int} (h : Sl w v (ks.map i64)) : ∃ ao cap, v = .slice ao ks.length cap ∧ ks.length ≤ cap ∧ (∀ j, j < ks.length → ∃ b off, ao = some ⟨b, off, none⟩ ∧ w.cell? ⟨b, off + j, none⟩ = some (i64 (ks.getD j 0))) := by
  obtain ⟨ao, cap, rfl, h2, h3, h4, h5⟩ := h
  rw [List.length_map] at h2
  refine ⟨ao, cap, by rw [List.length_map], h2, fun j hj => ?_⟩
  cases ao with
  | none => have := h4 rfl; omega
  | some ad =>
    obtain ⟨b, o, spot⟩ := ad
    have h0 := h5 _ rfl 0 (i64 ks[0]) (by rw [List.getElem?_map, List.getElem?_eq_getElem (by omega)]; rfl)
    have hs : spot = none := by simpa [Addr.add] using World.cell?_spot h0
    subst hs
    have hc := h5 _ rfl j (i64 ks[j]) (by rw [List.getElem?_map, List.getElem?_eq_getElem hj]; rfl)
    refine ⟨b, o, rfl, ?_⟩
    rw [Addr.add_lit] at hc
    rw [hc, List.getD_eq_getElem?_getD, List.getElem?_eq_getElem hj]
    rfl

/-- a tree and a list of the call's own -/
structure Made (w : World) (L : List Th) (p : Nat) (v : Value) (F : Nat → Prop) (w' : World) : Prop where
  tree : TreeAt w' p L F
  row : PRow w' v L
  new : ∀ k, F k → w.heap.size ≤ k
  own : ∀ k, v.ownBlock = some k → w.heap.size ≤ k
  rb : Rb w w'

set_option maxHeartbeats 4000000 in
set_option maxRecDepth 100000 in
theorem made_any (w : World) (v : Value) (ks : List Int) (h : Sl w v (ks.map i64)) :
    Calls Try.prog 12 #[v] w fun e w' => ∃ p vl F, e = .returned (.tuple #[ptrv p, vl]) ∧ Made w (madeL ks) p vl F w' := by
  have HS := Lib.hid h
  obtain ⟨ao, cap, rfl, hc, hcell⟩ := h.form
  have HC := Lib.hid hcell
  obtain ⟨n, hn⟩ : ∃ n, n = ks.length := ⟨_, rfl⟩
  have HN := Lib.hid hn
  rw [← hn] at hc ⊢
  clear h hcell hn HS
  obtain ⟨w0, e0⟩ : ∃ w0, w0 = w.alloc (.cells #[.pointer none, i64 0] 26) := ⟨_, rfl⟩
  have r0 : Rb w w0 := by rw [e0]; exact (Below.refl _ w).alloc (Nat.le_refl _) _
  have M0 : Hid (Made w [] w.heap.size (.slice none 0 0) (fun k => k = w.heap.size) w0) := ⟨.inl ⟨by rw [e0]; exact Blk.new w _ [.pointer none, i64 0], rfl, fun _ => Iff.rfl⟩, PRow.nil _, fun k hk => by have : k = w.heap.size := hk; omega, (fun k hk => by cases hk), r0⟩
  clear r0
  go_enter Try.func12, Try.ntmps12
  go_wp2_with fail
  go_loopg [5, 12] n (fun g s5 s12 wr => ∃ (vl : Value) (i : Nat) (F : Nat → Prop), s5 = vl ∧ s12 = .int .i64 i ∧ i ≤ n ∧ i ≤ 300 ∧ n - i ≤ g ∧ Hid (Made w (madeN ks i) w.heap.size vl F wr))
  case atStart => exact ⟨_, 0, _, rfl, rfl, Nat.zero_le _, Nat.zero_le _, by omega, by have := M0.out; rw [e0] at this; exact this⟩
  case round =>
    obtain ⟨vl, i, F, rfl, rfl, h1, h2, h3, hM⟩ := hrel
    have hm : madeL ks = madeN ks (min n 300) := by rw [madeL, HN.out]
    have HM := Lib.hid hm
    clear hm
    by_cases hin : i < n
    · obtain ⟨b, off, rfl, hcc⟩ := HC.out i (by rw [← HN.out]; exact hin)
      have hcr := hcc
      by_cases h300 : i = 300
      · have hc' : wr.cell? ⟨b, off + i, none⟩ = some (i64 (ks.getD i 0)) := by rw [Below.cell hM.out.rb (World.block_lt_of_cell? w _ hcc)]; exact hcc
        generalize ks.getD i 0 = kk at hc' hcc
        have h3e : ((i : Int) == 300) = true := by rw [beq_iff_eq]; omega
        have H300 := Lib.hid h300
        have HIN := Lib.hid hin
        clear hcc hcr h300 h1 h2 h3
        go_wp2
        go_ret2
        refine ⟨_, _, F, rfl, ?_⟩
        rw [HM.out, Nat.min_eq_right (by have := H300.out; have := HIN.out; omega), ← H300.out]
        exact hM.out
      · have hc' : wr.cell? ⟨b, off + i, none⟩ = some (i64 (ks.getD i 0)) := by rw [Below.cell hM.out.rb (World.block_lt_of_cell? w _ hcc)]; exact hcc
        obtain ⟨kk, hkk⟩ : ∃ kk, kk = ks.getD i 0 := ⟨_, rfl⟩
        rw [← hkk] at hc'
        have HKK := Lib.hid hkk
        have h3e : ((i : Int) == 300) = false := by rw [beq_eq_false_iff_ne]; omega
        have hle := madeN_le ks i
        have CP := Lib.hid (tput kk i wr w.heap.size (madeN ks i) F hM.out.tree (by omega))
        have CR : ∀ w2, PRow w2 u5 (madeN ks i) → Hid (Calls Try.prog 25 #[u5, i64 kk, i64 i] w2 (Fresh w2 (putL kk i (madeN ks i)))) := fun w2 hr => refput w2 u5 (madeN ks i) kk i hr (by omega)
        have HI : Hid (i < n ∧ i < 300) := ⟨hin, by omega⟩
        have hib : i < 300 := by omega
        clear hcc hcr hkk hle h1 h2 h300
        unfold TPut at CP
        go_wp2_with (go_at_call 16; refine CP.out.mono ?_)
        first | (rintro e w2 F2 rfl t2 f2 n2) | (rintro e w2 ⟨F2, rfl, t2, f2, n2⟩)
        have r2 := hM.out.row.fr hM.out.tree f2
        have J := CR w2 r2
        have H2 : Hid (TreeAt w2 w.heap.size (putL kk i (madeN ks i)) F2 ∧ Fr F wr w2 ∧ (∀ k, F2 k → F k ∨ wr.heap.size ≤ k)) := ⟨t2, f2, n2⟩
        clear t2 f2 n2 r2 CR CP
        unfold Fresh at J
        go_wp2_with (go_at_call 25; refine J.out.mono ?_)
        first | (rintro e w3 v3 rfl p3 o3 b3) | (rintro e w3 ⟨v3, rfl, p3, o3, b3⟩)
        have H3 : Hid (PRow w3 v3 (putL kk i (madeN ks i)) ∧ (∀ k, v3.ownBlock = some k → w2.heap.size ≤ k) ∧ Rb w2 w3) := ⟨p3, o3, b3⟩
        clear p3 o3 b3 J
        go_wp2
        go_roundg (n - (i + 1))
        case measure => have := HI.out; omega
        case rel =>
          obtain ⟨t2, f2, n2⟩ := H2.out
          obtain ⟨p3, o3, b3⟩ := H3.out
          have m := hM.out
          have hsz := m.rb.size
          have hsz2 := f2.size
          refine ⟨v3, i + 1, F2, rfl, by rw [show ((i : Int) + 1) = ((i + 1 : Nat) : Int) by omega], HI.out.1, HI.out.2, Nat.le_refl _, ?_⟩
          show Made w (madeN ks (i + 1)) _ _ _ _
          rw [madeN, ← HKK.out]
          refine ⟨t2.rb b3, p3, fun k hk => ?_, fun k hk => by have := o3 k hk; omega, ?_⟩
          · rcases n2 k hk with h | h
            · exact m.new k h
            · omega
          · exact Rb.trans _ _ _ ((Fr.of_rb (F := fun _ => False) m.rb).trans f2 (fun k hk => .inr (m.new k hk)) |>.rb (fun k hk => hk.elim)) b3
    · have hni : i = n := by omega
      subst hni
      go_wp2
      go_ret2
      refine ⟨_, _, F, rfl, ?_⟩
      rw [HM.out, Nat.min_eq_left h2]
      exact hM.out
end Go.Proofs.Ytjdlicphmflnkaa.L5
