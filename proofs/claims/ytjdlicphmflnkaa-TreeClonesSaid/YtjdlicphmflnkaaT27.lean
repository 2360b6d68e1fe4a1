/-
  Layer 5: a Tree: empty, Len, Depth, Right.
-/
import Derived.Test.YtjdlicphmflnkaaT26
import Derived.Test.YtjdlicphmflnkaaT25
namespace Go.Proofs.Ytjdlicphmflnkaa.L5
open Go.ChangeShapes Go.WideShapes Go.ChangeAt Go.RowKit By Reg
set_option linter.unusedVariables false

/-- each node holds what it must: so a deep tree has many things -/
theorem Held.count : ∀ (d : Nat) {w : World} {s : Sub}, Held d w s → 4 ^ d * s.n ≤ (items s.M).length
  | 0, w, s, ⟨N, h⟩ => by
    rw [h.M, items_map, List.length_zip, h.len, h.n]
    simp
  | d + 1, w, s, ⟨N, cs, h, hc⟩ => by
    rw [h.M, items_weave (by rw [List.length_map]; exact h.len), h.n]
    have key : ∀ cs : List Sub, (∀ c ∈ cs, Held d w c ∧ 4 ≤ c.n) → 4 ^ (d + 1) * cs.length ≤ ((cs.map (·.M)).flatMap items).length := fun cs => by
      induction cs with
      | nil => intro _; simp
      | cons c cs ih =>
        intro hcs
        have h1 := Held.count d (hcs c (by simp)).1
        have h2 := (hcs c (by simp)).2
        have h3 := ih fun x hx => hcs x (by simp [hx])
        have h4 : 4 ^ d * 4 ≤ 4 ^ d * c.n := Nat.mul_le_mul_left _ h2
        rw [List.map_cons, List.flatMap_cons, List.length_append, List.length_cons, Nat.mul_add, Nat.mul_one, Nat.pow_succ]
        rw [Nat.pow_succ] at h3
        omega
    exact key cs fun c hc' => ⟨h.held c hc', (hc c hc').1⟩

theorem Full.deep {w : World} {p : Nat} {L : List Th} {d : Nat} {s : Sub} (h : Full w p L d s) : 4 ^ d ≤ L.length := by
  have := h.held.count d
  rw [h.items] at this
  have h1 := h.one
  have : 4 ^ d * 1 ≤ 4 ^ d * s.n := Nat.mul_le_mul_left _ h1
  omega
theorem pow_lt (d : Nat) : d < 4 ^ d := by
  induction d with
  | zero => decide
  | succ d ih => rw [Nat.pow_succ]; omega

theorem tempty_nil (w : World) : Calls Try.prog 28 #[.pointer none] w fun e w' => e = .returned (.bool true) ∧ w = w' := by
  go_enter Try.func28, Try.ntmps28
  go_wp2
  go_ret
  exact ⟨rfl, rfl⟩
theorem tempty_no (w : World) (p : Nat) (c : Int) (hb : Blk w p 26 [.pointer none, i64 c]) : Calls Try.prog 28 #[ptrv p] w fun e w' => e = .returned (.bool true) ∧ w = w' := by
  have b0 := hb.cell 0
  clear hb
  go_enter Try.func28, Try.ntmps28
  go_wp2
  go_ret
  exact ⟨rfl, rfl⟩
theorem tempty_yes (w : World) (p q : Nat) (c : Int) (hb : Blk w p 26 [ptrv q, i64 c]) : Calls Try.prog 28 #[ptrv p] w fun e w' => e = .returned (.bool false) ∧ w = w' := by
  have b0 := hb.cell 0
  clear hb
  go_enter Try.func28, Try.ntmps28
  go_wp2
  go_ret
  exact ⟨rfl, rfl⟩

theorem tlen (w : World) (p : Nat) (L : List Th) (F : Nat → Prop) (h : TreeAt w p L F) : Calls Try.prog 18 #[ptrv p] w fun e w' => e = .returned (i64 L.length) ∧ w = w' := by
  obtain ⟨rt, hb⟩ : ∃ rt, Blk w p 26 [rt, i64 L.length] := by
    rcases h with ⟨hb, rfl, _⟩ | ⟨d, s, h, _⟩
    · exact ⟨_, hb⟩
    · exact ⟨_, h.blk⟩
  have b1 := hb.cell 1
  clear hb h
  go_enter Try.func18, Try.ntmps18
  go_wp2
  go_ret
  exact ⟨rfl, rfl⟩

/-- how deep a tree of these things is: the answer, and its bound -/
def DeepOk (L : List Th) (n : Int) : Prop := (L = [] ∧ n = 0) ∨ ∃ d : Nat, n = (d : Int) + 1 ∧ 4 ^ d ≤ L.length ∧ (d = 0 → L.length ≤ 8)

theorem tdepth (w : World) (p : Nat) (L : List Th) (F : Nat → Prop) (h : TreeAt w p L F) (hL : L.length ≤ 100000) : Calls Try.prog 19 #[ptrv p] w fun e w' => ∃ n, e = .returned (i64 n) ∧ DeepOk L n ∧ w = w' := by
  rcases h with ⟨hb, rfl, _⟩ | ⟨d, s, h, _⟩
  · have CE := Lib.hid (tempty_no w p 0 hb)
    clear hb
    go_enter Try.func19, Try.ntmps19
    go_wp2_with (go_at_call 28; refine CE.out.mono ?_; rintro e w' ⟨rfl, rfl⟩)
    go_ret
    exact ⟨0, rfl, .inl ⟨rfl, rfl⟩, rfl⟩
  · have CE := Lib.hid (tempty_yes w p s.b _ h.blk)
    have hdp := h.deep
    have hlt := pow_lt d
    have CD := Lib.hid (depth_any d w s h.held (by omega) h.one)
    have b0 := h.blk.cell 0
    have HD : Hid (4 ^ d ≤ L.length ∧ (d = 0 → L.length ≤ 8)) := ⟨hdp, fun e => by
      subst e
      obtain ⟨N, hN⟩ := h.held
      have := h.items
      rw [hN.M, items_map] at this
      rw [← this, List.length_zip, hN.len]
      have := hN.n
      have := h.eight
      omega⟩
    clear hdp hlt h
    go_enter Try.func19, Try.ntmps19
    go_wp2_with (first | (go_at_call 28; refine CE.out.mono ?_; rintro e w' ⟨rfl, rfl⟩) | (go_at_call 36; refine CD.out.mono ?_; rintro e w' ⟨rfl, rfl⟩))
    go_ret
    exact ⟨_, rfl, .inr ⟨d, rfl, HD.out⟩, rfl⟩

set_option maxHeartbeats 2000000 in
set_option maxRecDepth 100000 in
theorem tright (w : World) (p : Nat) (L : List Th) (F : Nat → Prop) (h : TreeAt w p L F) (hL : L.length ≤ 100000) : Calls Try.prog 17 #[ptrv p] w fun e w' => e = .returned (.bool true) ∧ Dn w w' := by
  rcases h with ⟨hb, rfl, _⟩ | ⟨d, s, h, _⟩
  · have CE := Lib.hid (tempty_no w p 0 hb)
    clear hb
    go_enter Try.func17, Try.ntmps17
    go_wp2_with (go_at_call 28; refine CE.out.mono ?_; rintro e w' ⟨rfl, rfl⟩)
    go_ret
    exact ⟨rfl, Dn.refl _⟩
  · have CE := Lib.hid (tempty_yes w p s.b _ h.blk)
    have hdp := h.deep
    have hlt := pow_lt d
    obtain ⟨N, hn, hb, hsz, hlf⟩ := h.held.node
    have CL := leaf_any w N hn
    rw [hb, hlf] at CL
    have CD : ∀ n, Hid (Calls Try.prog 36 #[ptrv s.b] (w.drewN n) fun e w' => e = .returned (i64 ((d : Int) + 1)) ∧ ∃ m, w' = w.drewN m) := fun n =>
      (depth_any d (w.drewN n) s (h.held.rb (Dn.rb ⟨n, rfl⟩)) (by omega) h.one).mono fun e w' ⟨h1, h2⟩ => ⟨h1, n, h2.symm⟩
    have CR : ∀ (few n : Nat), few ≤ s.n → Hid (Calls Try.prog 35 #[ptrv s.b, i64 few, i64 ((d : Int) + 1)] (w.drewN n) fun e w' => e = .returned (.bool true) ∧ ∃ m, w' = w.drewN m) := fun few n hf =>
      (right_any d few (w.drewN n) s (h.held.rb (Dn.rb ⟨n, rfl⟩)) hf h.eight h.one (by omega) h.srt).mono fun e w' ⟨h1, m, h2⟩ => ⟨h1, n + m, by rw [h2, World.drewN_drewN]⟩
    have CL' := Lib.hid CL
    have b0 := h.blk.cell 0
    have h1 := h.one
    have h2 := h.two
    cases d with
    | zero =>
      have CR1 := fun n => CR 1 n h1
      clear CL h hn hb hsz hlf hdp hlt CR h2
      simp only [decide_true] at CL'
      go_enter Try.func17, Try.ntmps17
      go_wp2_with (first | (go_at_call 28; refine CE.out.mono ?_; rintro e w' ⟨rfl, rfl⟩) | (go_at_call 34; refine CL'.out.mono ?_; rintro e w' ⟨rfl, rfl⟩))
      go_quiet (first | exact (CD _).out | exact (CR1 _).out)
      go_wp2
      go_ret
      exact ⟨rfl, _, rfl⟩
    | succ d =>
      have CR2 := fun n => CR 2 n (h2 (by omega))
      have e0 : decide (d + 1 = 0) = false := by simp
      rw [e0] at CL'
      clear CL h hn hb hsz hlf hdp hlt CR h2 e0
      go_enter Try.func17, Try.ntmps17
      go_wp2_with (first | (go_at_call 28; refine CE.out.mono ?_; rintro e w' ⟨rfl, rfl⟩) | (go_at_call 34; refine CL'.out.mono ?_; rintro e w' ⟨rfl, rfl⟩))
      go_quiet (first | exact (CD _).out | exact (CR2 _).out)
      go_wp2
      go_ret
      exact ⟨rfl, _, rfl⟩
end Go.Proofs.Ytjdlicphmflnkaa.L5
