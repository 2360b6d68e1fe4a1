/-
  Layer 5: things, of a tree.
-/
import Derived.Test.YtjdlicphmflnkaaT35
import Derived.Test.YtjdlicphmflnkaaT25
namespace Go.Proofs.Ytjdlicphmflnkaa.L5
open Go.ChangeShapes Go.WideShapes Go.ChangeAt Go.RowKit By Reg
set_option linter.unusedVariables false

theorem place_keys {x : Int} {ks : List Int} {p : Nat} (hr : ks.Pairwise (· < ·)) (hp : Pos x ks p) : placeAt x ks p ≤ ks.length ∧ (∀ j, j < placeAt x ks p → ks.getD j 0 ≤ x) ∧ (∀ j, placeAt x ks p ≤ j → j < ks.length → x < ks.getD j 0) := by
  have hpl := hp.le
  have gd : ∀ j (h : j < ks.length), ks.getD j 0 = ks[j] := fun j h => by rw [List.getD_eq_getElem?_getD, List.getElem?_eq_getElem h]; rfl
  unfold placeAt
  cases hf : found x ks p
  · simp only [Bool.false_eq_true, if_false]
    refine ⟨hpl, fun j hj => by have := hp.lo j hj; omega, fun j h1 h2 => ?_⟩
    have := gt_of_none hp hr hf (ks.getD j 0) (by
      rw [gd j h2]
      exact List.mem_iff_getElem.2 ⟨j - p, by rw [List.length_drop]; omega, by rw [List.getElem_drop]; congr 1; omega⟩)
    exact this
  · simp only [if_true]
    obtain ⟨hpl', hpe⟩ := found_at hf
    refine ⟨hpl', fun j hj => ?_, fun j h1 h2 => ?_⟩
    · by_cases hjp : j < p
      · have := hp.lo j hjp; omega
      · have : j = p := by omega
        subst this
        rw [gd j hpl']; omega
    · have := gt_of_some hr hpl' hpe (ks.getD j 0) (by
        rw [gd j h2]
        exact List.mem_iff_getElem.2 ⟨j - (p + 1), by rw [List.length_drop]; omega, by rw [List.getElem_drop]; congr 1; omega⟩)
      exact this

theorem OpenP.sides {H : World → Sub → Prop} {w : World} {s : Sub} {N : Nd} {cs : List Sub} (o : OpenP H w s N cs) (hs : Srt s.M) {x : Int} {p : Nat} (hr : N.ks.Pairwise (· < ·)) (hp : Pos x N.ks p) :
    (∀ j (h : j < cs.length), j < placeAt x N.ks p → Lt x (items cs[j].M)) ∧ (∀ j (h : j < cs.length), placeAt x N.ks p < j → Gt x (items cs[j].M)) := by
  obtain ⟨h1, h2, h3⟩ := place_keys hr hp
  have hlen := o.len
  refine ⟨fun j h hj t ht => ?_, fun j h hj t ht => ?_⟩
  · obtain ⟨l, a, b, r, hcs, hl, ha, hb⟩ := o.sep hs j (by omega)
    have e : cs[j] = a := by subst hl; subst hcs; simp
    rw [e] at ht
    have := ha t ht
    have := h2 j hj
    omega
  · obtain ⟨l, a, b, r, hcs, hl, ha, hb⟩ := o.sep hs (j - 1) (by omega)
    have e : cs[j] = b := by
      have : j = l.length + 1 := by omega
      subst this; subst hcs; simp [List.getElem_append_right]
    rw [e] at ht
    have := hb t ht
    have := h3 (j - 1) (by omega) (by omega)
    omega

theorem filt_le (lo hi : Int) (L : List Th) : (filt lo hi L).length ≤ L.length := List.length_filter_le ..

set_option maxHeartbeats 4000000 in
set_option maxRecDepth 100000 in
theorem things_any (lo hi : Int) (B : Nat) : ∀ (d : Nat) (w : World) (s : Sub) (v : Value) (xs : List Th), Held d w s → s.n ≤ 8 → Srt s.M → (∀ k, s.F k → k < B) → B ≤ w.heap.size → TRow B w v xs → xs.length + (items s.M).length ≤ 50000 →
    Calls Try.prog 29 #[ptrv s.b, v, i64 lo, i64 hi] w (ThPost B w (xs ++ filt lo hi (items s.M)))
  | 0, w, s, v, xs, h, hn, hs, hF, hB, hr, hx => things_leaf lo hi B w s v xs h (by omega) hs hF hB hr (by omega)
  | d + 1, w, s, v, xs, h, hn, hs, hF, hB, hr, hx => by
    obtain ⟨N, cs, o, hc⟩ := h
    have hlen := o.len
    have hsn := o.n
    have hrk := seps_rise (ms := cs.map (·.M)) (by rw [List.length_map]; exact o.len) (by rw [← o.M]; exact hs)
    obtain ⟨p1, hp1⟩ := Pos.exists lo N.ks hrk
    obtain ⟨p2, hp2⟩ := Pos.exists hi N.ks hrk
    have sd1 := (o.sides hs hrk hp1).1
    have sd2 := (o.sides hs hrk hp2).2
    have k1 := (place_keys hrk hp1).1
    have k2 := (place_keys hrk hp2).1
    have oAt : ∀ w', Below B w w' → OpenP (Held d) w' s N cs := fun w' hb => o.same_of (fun k hk => hb.block k (hF k hk)) (fun c hcm => (o.held c hcm).same d fun k hk => hb.block k (hF k ((o.F k).2 (.inr ⟨c, hcm, hk⟩))))
    have CL := leaf_any w N o.na
    have hle : isLeaf N = false := by
      unfold isLeaf
      rw [decide_eq_false_iff_not, o.ps, List.length_map]; omega
    rw [hle, o.b] at CL
    have CL' := Lib.hid CL
    obtain ⟨a1, ha1⟩ : ∃ a1, a1 = placeAt lo N.ks p1 := ⟨_, rfl⟩
    obtain ⟨a2, ha2⟩ : ∃ a2, a2 = placeAt hi N.ks p2 := ⟨_, rfl⟩
    rw [← ha1] at sd1 k1
    rw [← ha2] at sd2 k2
    have CP1 : ∀ w', Below B w w' → Hid (Calls Try.prog 40 #[ptrv s.b, i64 lo] w' fun e w'' => e = .returned (i64 (a1 : Nat)) ∧ Rb w' w'') := fun w' hb => by
      have := place_any w' N lo p1 (oAt w' hb).na (by omega) hrk hp1
      rw [o.b, ← ha1] at this
      exact this
    have CP2 : ∀ w', Below B w w' → Hid (Calls Try.prog 40 #[ptrv s.b, i64 hi] w' fun e w'' => e = .returned (i64 (a2 : Nat)) ∧ Rb w' w'') := fun w' hb => by
      have := place_any w' N hi p2 (oAt w' hb).na (by omega) hrk hp2
      rw [o.b, ← ha2] at this
      exact this
    obtain ⟨n, hnn⟩ : ∃ n, n = cs.length := ⟨_, rfl⟩
    have hi_eq : items s.M = (cs.map (·.M)).flatMap items := by rw [o.M, items_weave (by rw [List.length_map]; exact o.len)]
    have tot : ∀ i, i ≤ n → (((cs.take i).map (·.M)).flatMap items).length ≤ (items s.M).length := fun i hi' => by
      rw [hi_eq]
      conv => rhs; rw [← List.take_append_drop i cs]
      rw [List.map_append, List.flatMap_append, List.length_append]
      omega
    -- what is told of the first i parts
    have acc0 : filt lo hi (((cs.take a1).map (·.M)).flatMap items) = [] := filt_lt fun t ht => by
      obtain ⟨m, hm, htm⟩ := List.mem_flatMap.1 ht
      obtain ⟨c, hcm, rfl⟩ := List.mem_map.1 hm
      obtain ⟨j, hj, e⟩ := List.mem_iff_getElem.1 hcm
      rw [List.length_take] at hj
      rw [List.getElem_take] at e
      subst e
      exact sd1 j (by omega) (by omega) t htm
    have accS : ∀ i (h : i < n), filt lo hi (((cs.take (i + 1)).map (·.M)).flatMap items) = filt lo hi (((cs.take i).map (·.M)).flatMap items) ++ filt lo hi (items (cs[i]'(by omega)).M) := fun i h => by
      rw [List.take_succ_eq_append_getElem (by omega : i < cs.length), List.map_append, List.flatMap_append, filt_append]
      simp
    have accE : ∀ i, a2 + 1 ≤ i → i ≤ n → filt lo hi (items s.M) = filt lo hi (((cs.take i).map (·.M)).flatMap items) := fun i h1 h2 => by
      rw [hi_eq]
      conv => lhs; rw [← List.take_append_drop i cs]
      rw [List.map_append, List.flatMap_append, filt_append]
      rw [show filt lo hi (((cs.drop i).map (·.M)).flatMap items) = [] from filt_gt fun t ht => by
        obtain ⟨m, hm, htm⟩ := List.mem_flatMap.1 ht
        obtain ⟨c, hcm, rfl⟩ := List.mem_map.1 hm
        obtain ⟨j, hj, e⟩ := List.mem_iff_getElem.1 hcm
        rw [List.length_drop] at hj
        rw [List.getElem_drop] at e
        subst e
        exact sd2 (i + j) (by omega) (by omega) t htm, List.append_nil]
    have PART : Hid (∀ w', Below B w w' → ∀ i, i < n → ∃ g cap b, w'.cell? ⟨s.b, 2, none⟩ = some (.slice (some ⟨g, 0, none⟩) n cap) ∧ n ≤ cap ∧ w'.cell? ⟨g, i, none⟩ = some (ptrv b) ∧
        ∀ (vl : Value), TRow B w' vl (xs ++ filt lo hi (((cs.take i).map (·.M)).flatMap items)) → Hid (Calls Try.prog 29 #[ptrv b, vl, i64 lo, i64 hi] w' (ThPost B w' (xs ++ filt lo hi (((cs.take (i + 1)).map (·.M)).flatMap items))))) := fun w' hb i hin => by
      have o' := oAt w' hb
      have hil : i < cs.length := by omega
      have hcs : cs = cs.take i ++ cs[i] :: cs.drop (i + 1) := by rw [← drop_cons hil, List.take_append_drop]
      have htl : (cs.take i).length = i := by rw [List.length_take]; omega
      have hm := List.getElem_mem hil
      obtain ⟨g, cap, q1, q2, q3⟩ := part_at (l := cs.take i) (r := cs.drop (i + 1)) (c1 := cs[i]) (by rw [← hcs]; exact o')
      have e : (cs.take i).length + ((cs.drop (i + 1)).length + 1) = n := by rw [htl, List.length_drop]; omega
      rw [e] at q1 q2
      rw [htl] at q3
      refine ⟨g, cap, cs[i].b, q1, q2, q3, fun vl hrow => ?_⟩
      have hlen2 := tot (i + 1) (by omega)
      rw [List.take_succ_eq_append_getElem hil, List.map_append, List.flatMap_append, List.length_append] at hlen2
      simp only [List.map_cons, List.map_nil, List.flatMap_cons, List.flatMap_nil, List.append_nil] at hlen2
      have hfl := filt_le lo hi (((cs.take i).map (·.M)).flatMap items)
      have := things_any lo hi B d w' cs[i] vl _ (o'.held _ hm) (hc _ hm).2 (o.srt hs _ hm) (fun k hk => hF k ((o.F k).2 (.inr ⟨_, hm, hk⟩))) (Nat.le_trans hB hb.size) hrow (by rw [List.length_append]; omega)
      rw [List.append_assoc, ← accS i hin] at this
      exact this
    have ACC0 := Lib.hid acc0
    have ACCE := Lib.hid accE
    have HR := Lib.hid hr
    have HB := Lib.hid hB
    have J1 := CP1 w (Below.refl _ _)
    have ha1n : a1 < n := by omega
    have ha2n : a2 < n := by omega
    have hnb : n ≤ 8 := by omega
    clear o hc hlen hsn hrk hp1 hp2 sd1 sd2 k1 k2 oAt CL hle ha1 ha2 CP1 hnn hi_eq tot acc0 accS accE hs hF hr hx hn
    unfold ThPost
    go_enter Try.func29, Try.ntmps29
    go_wp2_with (first | (go_at_call 34; refine CL'.out.mono ?_; rintro e w' ⟨rfl, rfl⟩) | (go_at_call 40; refine J1.out.mono ?_))
    first | (rintro e w1 rfl hd) | (rintro e w1 ⟨rfl, hd⟩)
    have RB1 := Lib.hid hd
    clear hd J1
    go_wp2_with fail
    go_loopg [1, 9] n (fun g s1 s9 wr => ∃ (vl : Value) (i : Nat), s1 = vl ∧ s9 = .int .i64 i ∧ i ≤ n ∧ (i ≤ a2 + 1 ∨ i = a1) ∧ a1 ≤ i ∧ n - i ≤ g ∧ Hid (TRow B wr vl (xs ++ filt lo hi (((cs.take i).map (·.M)).flatMap items)) ∧ Below B w wr))
    case atStart =>
      refine ⟨_, a1, rfl, rfl, by omega, .inr rfl, Nat.le_refl _, by omega, ?_, RB1.out.mono HB.out⟩
      rw [ACC0.out, List.append_nil]
      exact HR.out.rb RB1.out
    case round =>
      obtain ⟨vl, i, hvl, rfl, h1, h2, h3, h4, hM⟩ := hrel
      obtain rfl : vl = u1 := hvl.symm
      have J2 := CP2 wr hM.out.2
      by_cases hia : i ≤ a2
      · have hia' : (i : Int) ≤ (a2 : Int) := by omega
        have hin : i < n := by omega
        have HIN : Hid (i < n ∧ i ≤ a2 ∧ a1 ≤ i ∧ n - i ≤ gk) := ⟨hin, hia, h3, h4⟩
        clear hia h1 h2 h3 h4
        go_wp2_with (go_at_call 40; refine J2.out.mono ?_)
        first | (rintro e w2 rfl hd) | (rintro e w2 ⟨rfl, hd⟩)
        have hb2 : Below B w w2 := hM.out.2.trans (hd.mono (Nat.le_trans HB.out hM.out.2.size))
        obtain ⟨g, cap, b, q1, q2, q3, q4⟩ := PART.out w2 hb2 i hin
        have J3 := q4 vl (hM.out.1.rb hd)
        have HB2 := Lib.hid hb2
        unfold ThPost at J3
        clear hd hb2 q4 J2
        go_wp2_with (go_at_call 29; refine J3.out.mono ?_)
        first | (rintro e w3 v3 rfl hr3 hb3) | (rintro e w3 ⟨v3, rfl, hr3, hb3⟩)
        have HR3 := Lib.hid hr3
        have HB3 := Lib.hid hb3
        clear hr3 hb3 J3 q1 q3
        go_wp2
        go_roundg (n - (i + 1))
        case measure => have := HIN.out; omega
        case rel =>
          have q := HIN.out
          exact ⟨v3, i + 1, rfl, by rw [show ((i : Int) + 1) = ((i + 1 : Nat) : Int) by omega], by omega, .inl (by omega), by omega, Nat.le_refl _, HR3.out, HB2.out.trans HB3.out⟩
      · have hia' : ¬ (i : Int) ≤ (a2 : Int) := by omega
        have HE := Lib.hid (ACCE.out i (by omega) h1)
        clear hia h1 h2 h3 h4
        go_wp2_with (go_at_call 40; refine J2.out.mono ?_)
        first | (rintro e w2 rfl hd) | (rintro e w2 ⟨rfl, hd⟩)
        have HD := Lib.hid hd
        clear hd J2
        go_wp2
        go_ret
        refine ⟨_, rfl, ?_, hM.out.2.trans (HD.out.mono (Nat.le_trans HB.out hM.out.2.size))⟩
        rw [HE.out]
        exact hM.out.1.rb HD.out
end Go.Proofs.Ytjdlicphmflnkaa.L5
