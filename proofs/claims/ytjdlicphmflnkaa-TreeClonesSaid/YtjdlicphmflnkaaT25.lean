/-
  Layer 5: right.
-/
import Derived.Test.YtjdlicphmflnkaaT24
namespace Go.Proofs.Ytjdlicphmflnkaa.L5
open Go.ChangeShapes Go.WideShapes Go.ChangeAt Go.RowKit By Reg
set_option linter.unusedVariables false

theorem wrapk (n : Nat) (h : n ≤ 1000000) : IntKind.i64.wrap (n : Int) = (n : Int) := by rw [IntKind.wrap_i64]; omega

theorem OpenP.srt {H : World → Sub → Prop} {w : World} {s : Sub} {N : Nd} {cs : List Sub} (o : OpenP H w s N cs) (hs : Srt s.M) : ∀ c ∈ cs, Srt c.M := fun c hc => by
  obtain ⟨l, r, rfl⟩ := List.append_of_mem hc
  have hlen := o.len
  simp only [List.length_append, List.length_cons] at hlen
  have hw := weave_split (N.ks.take l.length) (l.map (·.M)) (N.ks.drop l.length) c.M (r.map (·.M)) (by simp; omega)
  rw [List.take_append_drop] at hw
  rw [o.M, List.map_append, List.map_cons, hw] at hs
  exact srt_mid hs

set_option maxHeartbeats 2000000 in
set_option maxRecDepth 100000 in
theorem right_leaf (few : Nat) (w : World) (s : Sub) (h : Held 0 w s) (hf : few ≤ s.n) (h8 : s.n ≤ 8) (hs : Srt s.M) :
    Calls Try.prog 35 #[ptrv s.b, i64 few, i64 1] w fun e w' => e = .returned (.bool true) ∧ Dn w w' := by
  have CS := Lib.hid (size_sub h)
  obtain ⟨N, h⟩ := h
  have CL := leaf_any w N h.na
  have hle : isLeaf N = true := by unfold isLeaf; rw [h.ps]; rfl
  rw [hle, h.b] at CL
  have hr := leaf_rise (A := []) (B := []) h (by simpa using hs)
  have CR : ∀ n, Hid (Calls Try.prog 48 #[N.kv] (w.drewN n) fun e w' => e = .returned (.bool true) ∧ ∃ m, w' = (w.drewN n).drewN m) := fun n =>
    rising_any (w.drewN n) N.kv N.ks (h.na.rk.rb (Dn.rb ⟨n, rfl⟩)) (by have := h.n; omega) hr
  have CL2 : ∀ n, Hid (Calls Try.prog 34 #[ptrv s.b] (w.drewN n) fun e w' => e = .returned (.bool true) ∧ w.drewN n = w') := fun n => by
    have := leaf_any (w.drewN n) N (h.na.rb (Dn.rb ⟨n, rfl⟩))
    rw [hle, h.b] at this
    exact this
  have CL' := Lib.hid CL
  obtain ⟨ao, cap, hk, _, _⟩ := h.na.kform
  obtain ⟨ao2, cap2, hv, _, _⟩ := h.na.vform
  have c0 := h.na.c0
  have c1 := h.na.c1
  rw [hk] at c0 CR
  rw [hv] at c1
  rw [h.len] at c1
  rw [h.b] at c0 c1
  have g1 : ¬ (s.n : Int) < (few : Int) := by omega
  have g2 : ¬ (s.n : Int) > 8 := by omega
  generalize N.ks.length = n at *
  clear CL h hle hr hk hv hs
  go_enter Try.func35, Try.ntmps35
  go_wp2_with (first | (go_at_call 32; refine CS.out.mono ?_; rintro e w' ⟨rfl, rfl⟩) | (go_at_call 34; refine CL'.out.mono ?_; rintro e w' ⟨rfl, rfl⟩))
  go_quiet (exact Calls.quiet_of (CR _).out)
  go_wp2
  go_ret
  exact ⟨rfl, _, rfl⟩
set_option maxHeartbeats 4000000 in
set_option maxRecDepth 100000 in
theorem right_any : ∀ (d : Nat) (few : Nat) (w : World) (s : Sub), Held d w s → few ≤ s.n → s.n ≤ 8 → 1 ≤ s.n → d < 1000000 → Srt s.M →
    Calls Try.prog 35 #[ptrv s.b, i64 few, i64 ((d : Int) + 1)] w fun e w' => e = .returned (.bool true) ∧ Dn w w'
  | 0, few, w, s, h, hf, h8, h1, hd, hs => right_leaf few w s h hf h8 hs
  | d + 1, few, w, s, h, hf, h8, h1, hd, hs => by
    have CS := Lib.hid (size_sub h)
    obtain ⟨N, cs, o, hc⟩ := h
    have hlen := o.len
    have hsn := o.n
    have CL := leaf_any w N o.na
    have hle : isLeaf N = false := by
      unfold isLeaf
      rw [decide_eq_false_iff_not, o.ps, List.length_map]; omega
    rw [hle, o.b] at CL
    have CL' := Lib.hid CL
    obtain ⟨n, hn⟩ : ∃ n, n = N.ks.length := ⟨_, rfl⟩
    have hpn : N.ps.length = n + 1 := by rw [o.ps, List.length_map]; omega
    have CB : ∀ q x, Hid (Calls Try.prog 49 #[ptrv s.b] (w.drewN (q + x)) fun e w'' => e = .returned (.bool true) ∧ ∃ m, w'' = w.drewN (q + m)) := fun q x =>
      (between_any d (w.drewN (q + x)) s N cs (o.rb (Dn.rb ⟨_, rfl⟩)) hc hs (by omega)).mono fun e w'' ⟨h1, m, h2⟩ => ⟨h1, x + m, by rw [h2, World.drewN_drewN, Nat.add_assoc]⟩
    have PARTS : Hid (∀ j, j < n + 1 → ∃ g cap b, N.pv = .slice (some ⟨g, 0, none⟩) (n + 1) cap ∧ n + 1 ≤ cap ∧ w.cell? ⟨g, j, none⟩ = some (ptrv b) ∧
        (∀ w', Dn w w' → Hid (Calls Try.prog 35 #[ptrv b, i64 4, i64 ((d : Int) + 1)] w' fun e w'' => e = .returned (.bool true) ∧ Dn w' w''))) := fun j hj => by
      have hjl : j < cs.length := by omega
      have hcs : cs = cs.take j ++ cs[j] :: cs.drop (j + 1) := by rw [← drop_cons hjl, List.take_append_drop]
      obtain ⟨g, cap, q1, q2, q3, q4⟩ := o.na.rp.ptr_at (j := j) (b := cs[j].b) (by rw [o.ps, List.getElem?_map, List.getElem?_eq_getElem hjl]; rfl)
      rw [hpn] at q1 q2
      have hm := List.getElem_mem hjl
      have hcj := hc _ hm
      exact ⟨g, cap, cs[j].b, q1, q2, q4, fun w' hdw => right_any d 4 w' cs[j] ((o.held _ hm).rb hdw.rb) hcj.1 hcj.2 (by omega) (by omega) (o.srt hs _ hm)⟩
    obtain ⟨g0, cap0, b0, hp, _, _, _⟩ := PARTS.out 0 (by omega)
    obtain ⟨ao, cap, hk, _, _⟩ := o.na.kform
    rw [← hn] at hk
    have c0 := o.na.c0
    have c2 := o.na.c2
    rw [o.b, hk] at c0
    rw [o.b, hp] at c2
    have HP := Lib.hid hp
    have g1 : ¬ (s.n : Int) < (few : Int) := by omega
    have g2 : ¬ (s.n : Int) > 8 := by omega
    have g3 : ((d : Int) + 1 + 1 == 1) = false := by rw [beq_eq_false_iff_ne]; omega
    have g4 : IntKind.i64.wrap ((d : Int) + 1 + 1 - 1) = (d : Int) + 1 := by rw [IntKind.wrap_i64]; omega
    have g5 : (d : Int) + 1 + 1 - 1 = (d : Int) + 1 := by omega
    have hnb : n ≤ 7 := by omega
    clear CL o hc hlen hsn hle hn hpn hs hk hp
    rw [show ((d + 1 : Nat) : Int) + 1 = (d : Int) + 1 + 1 by omega]
    go_enter Try.func35, Try.ntmps35
    go_wp2_with (first | (go_at_call 32; refine CS.out.mono ?_; rintro e w' ⟨rfl, rfl⟩) | (go_at_call 34; refine CL'.out.mono ?_; rintro e w' ⟨rfl, rfl⟩))
    go_loopg [50] (n + 1) (fun g s50 wr => ∃ i q : Nat, s50 = .int .i64 i ∧ i ≤ n + 1 ∧ n + 1 - i ≤ g ∧ wr = w.drewN q)
    case atStart => exact ⟨0, 0, rfl, Nat.zero_le _, by omega, rfl⟩
    case round =>
      obtain ⟨i, q, rfl, h2, h3, rfl⟩ := hrel
      by_cases hi : i < n + 1
      · obtain ⟨g2', cap2, b, f1, f2, f3, f4⟩ := PARTS.out i hi
        rw [HP.out] at f1
        simp only [Value.slice.injEq, Option.some.injEq, Addr.mk.injEq, and_true, true_and] at f1
        obtain ⟨rfl, rfl⟩ := f1
        have F4 := (f4 _ ⟨q, rfl⟩)
        have hii : (i : Int) < (n : Int) + 1 := by omega
        have HI := Lib.hid hi
        clear f4 h2
        go_wp2_with (go_at_call 35; refine F4.out.mono ?_)
        first | (rintro e w1 rfl hd1) | (rintro e w1 ⟨rfl, hd1⟩)
        obtain ⟨q1, rfl⟩ := hd1
        go_wp2
        go_roundg (n + 1 - (i + 1))
        case measure => have := HI.out; omega
        case rel => exact ⟨i + 1, _, by rw [show ((i : Int) + 1) = ((i + 1 : Nat) : Int) by omega], HI.out, Nat.le_refl _, rfl⟩
      · have hii : ¬ (i : Int) < (n : Int) + 1 := by omega
        have g9 : IntKind.i64.wrap (n : Int) = (n : Int) := wrapk n (Nat.le_trans hnb (by decide))
        go_wp2
        go_quiet (exact (CB _ _).out)
        go_wp2
        go_ret
        exact ⟨rfl, q + nq, by first | rfl | rw [World.drewN_drewN]⟩
end Go.Proofs.Ytjdlicphmflnkaa.L5
