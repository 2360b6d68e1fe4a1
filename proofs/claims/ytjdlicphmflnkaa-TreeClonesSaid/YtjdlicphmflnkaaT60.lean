/-
  Layer 5: get.
-/
import Derived.Test.YtjdlicphmflnkaaT36
import Derived.OwnWalk
namespace Go.Proofs.Ytjdlicphmflnkaa.L5
open Go.ChangeShapes Go.WideShapes Go.ChangeAt Go.RowKit By Reg
set_option linter.unusedVariables false

/-- what get answers and leaves -/
def GetPost (x : Int) (L : List Th) (w : World) (e : Ending) (w' : World) : Prop := e = .returned (.tuple #[i64 ((getL x L).getD 0), .bool (getL x L).isSome]) ∧ Rb w w'

set_option maxHeartbeats 2000000 in
set_option maxRecDepth 100000 in
theorem get_leaf (x : Int) (w : World) (s : Sub) (h : Held 0 w s) (hn : s.n ≤ 100) (hs : Srt s.M) : Calls Try.prog 38 #[ptrv s.b, i64 x] w (GetPost x (items s.M) w) := by
  obtain ⟨N, h⟩ := h
  have hsk := leaf_rise (A := []) (B := []) h (by simpa using hs)
  obtain ⟨p, hp⟩ := Pos.exists x N.ks hsk
  have CL := leaf_any w N h.na
  have hle : isLeaf N = true := by unfold isLeaf; rw [h.ps]; rfl
  rw [hle, h.b] at CL
  have CL' := Lib.hid CL
  have hnn := h.n
  have CS := search_at w N.kv N.ks x p h.na.rk (by omega) hsk hp
  have hM : items s.M = N.ks.zip N.vs := by rw [h.M, items_map]
  rw [hM]
  unfold GetPost
  have c0 := h.na.c0
  have c1 := h.na.c1
  rw [h.b] at c0 c1
  obtain ⟨ao, cap, hk, _, _⟩ := h.na.kform
  rw [hk] at c0 CS
  cases hf : found x N.ks p
  · rw [leaf_get_none h.len hp hsk hf]
    rw [hf] at CS
    have CS' := Lib.hid CS
    clear h CL CS hk hf hp hsk c1 hM hs
    generalize N.ks.length = m at *
    go_enter Try.func38, Try.ntmps38
    go_wp2_with (first | (go_at_call 34; refine CL'.out.mono ?_; rintro e w' ⟨rfl, rfl⟩) | (go_at_call 41; refine CS'.out.mono ?_))
    first | (rintro e w1 rfl hd) | (rintro e w1 ⟨rfl, hd⟩)
    have HD := Lib.hid hd
    clear hd
    go_wp2
    go_ret2
    exact ⟨rfl, HD.out⟩
  · obtain ⟨hpl, hpe⟩ := found_at hf
    rw [leaf_get_some h.len hp hpl hpe]
    rw [hf] at CS
    have CS' := Lib.hid CS
    obtain ⟨g, cp, f1, f2, f3, f4⟩ := h.na.rv.int_at (j := p) (by rw [h.len]; exact hpl)
    have hlen := h.len
    obtain ⟨y, hy⟩ : ∃ y, y = N.vs.getD p 0 := ⟨_, rfl⟩
    rw [← hy] at f4 ⊢
    rw [f1, hlen] at c1
    rw [hlen] at f2
    have SEE : Hid (∀ w', Rb w w' → w'.cell? ⟨s.b, 1, none⟩ = some (.slice (some ⟨g, 0, none⟩) N.ks.length cp) ∧ w'.cell? ⟨g, p, none⟩ = some (i64 y)) := fun w' hr =>
      ⟨by rw [Below.cell hr (World.block_lt_of_cell? w _ c1)]; exact c1, by rw [Below.cell hr (World.block_lt_of_cell? w _ f4)]; exact f4⟩
    clear h CL CS hk hf hp hsk hM hs hpe hy f1 c1 f4 hlen
    generalize N.ks.length = m at *
    go_enter Try.func38, Try.ntmps38
    go_wp2_with (first | (go_at_call 34; refine CL'.out.mono ?_; rintro e w' ⟨rfl, rfl⟩) | (go_at_call 41; refine CS'.out.mono ?_))
    first | (rintro e w1 rfl hd) | (rintro e w1 ⟨rfl, hd⟩)
    obtain ⟨d1, d2⟩ := SEE.out w1 hd
    have HD := Lib.hid hd
    clear hd c0
    go_wp2
    go_ret2
    exact ⟨rfl, HD.out⟩

set_option maxHeartbeats 4000000 in
set_option maxRecDepth 100000 in
theorem get_any (x : Int) : ∀ (d : Nat) (w : World) (s : Sub), Held d w s → s.n ≤ 8 → Srt s.M → Calls Try.prog 38 #[ptrv s.b, i64 x] w (GetPost x (items s.M) w)
  | 0, w, s, h, hn, hs => get_leaf x w s h (by omega) hs
  | d + 1, w, s, h, hn, hs => by
    obtain ⟨N, cs, o, hc⟩ := h
    have hlen := o.len
    have hsn := o.n
    have hrk := seps_rise (ms := cs.map (·.M)) (by rw [List.length_map]; exact o.len) (by rw [← o.M]; exact hs)
    obtain ⟨p, hp⟩ := Pos.exists x N.ks hrk
    obtain ⟨sd1, sd2⟩ := o.sides hs hrk hp
    have k1 := (place_keys hrk hp).1
    have CL := leaf_any w N o.na
    have hle : isLeaf N = false := by
      unfold isLeaf
      rw [decide_eq_false_iff_not, o.ps, List.length_map]; omega
    rw [hle, o.b] at CL
    have CL' := Lib.hid CL
    have CP : ∀ w', Rb w w' → Hid (Calls Try.prog 40 #[ptrv s.b, i64 x] w' fun e w'' => e = .returned (i64 (placeAt x N.ks p : Nat)) ∧ Rb w' w'') := fun w' hb => by
      have := place_any w' N x p (o.rb hb).na (by omega) hrk hp
      rw [o.b] at this
      exact this
    obtain ⟨a, ha⟩ : ∃ a, a = placeAt x N.ks p := ⟨_, rfl⟩
    rw [← ha] at sd1 sd2 k1 CP
    have hac : a < cs.length := by omega
    have hcs : cs = cs.take a ++ cs[a] :: cs.drop (a + 1) := by rw [← drop_cons hac, List.take_append_drop]
    have hm := List.getElem_mem hac
    have hget : getL x (items s.M) = getL x (items cs[a].M) := by
      have e : items s.M = ((cs.take a).map (·.M)).flatMap items ++ (items cs[a].M ++ ((cs.drop (a + 1)).map (·.M)).flatMap items) := by
        rw [o.M, items_weave (by rw [List.length_map]; exact o.len)]
        conv => lhs; rw [hcs, List.map_append, List.map_cons, List.flatMap_append, List.flatMap_cons]
      rw [e]
      refine getL_mid (fun t ht => ?_) (fun t ht => ?_)
      · obtain ⟨m, hm, htm⟩ := List.mem_flatMap.1 ht
        obtain ⟨c, hcm, rfl⟩ := List.mem_map.1 hm
        obtain ⟨j, hj, e⟩ := List.mem_iff_getElem.1 hcm
        rw [List.length_take] at hj
        rw [List.getElem_take] at e
        subst e
        exact sd1 j (by omega) (by omega) t htm
      · obtain ⟨m, hm, htm⟩ := List.mem_flatMap.1 ht
        obtain ⟨c, hcm, rfl⟩ := List.mem_map.1 hm
        obtain ⟨j, hj, e⟩ := List.mem_iff_getElem.1 hcm
        rw [List.length_drop] at hj
        rw [List.getElem_drop] at e
        subst e
        exact sd2 (a + 1 + j) (by omega) (by omega) t htm
    have CG : ∀ w', Rb w w' → Hid (Calls Try.prog 38 #[ptrv cs[a].b, i64 x] w' (GetPost x (items s.M) w')) := fun w' hb => by
      have := get_any x d w' cs[a] ((o.rb hb).held _ hm) (hc _ hm).2 (o.srt hs _ hm)
      unfold GetPost at this ⊢
      rw [← hget] at this
      exact this
    have htl : (cs.take a).length = a := by rw [List.length_take]; omega
    obtain ⟨g, cap, q1, q2, q3⟩ := part_at (l := cs.take a) (r := cs.drop (a + 1)) (c1 := cs[a]) (by rw [← hcs]; exact o)
    have e : (cs.take a).length + ((cs.drop (a + 1)).length + 1) = cs.length := by rw [htl, List.length_drop]; omega
    rw [e] at q1 q2
    rw [htl] at q3
    obtain ⟨n, hnn⟩ : ∃ n, n = cs.length := ⟨_, rfl⟩
    obtain ⟨b, hb⟩ : ∃ b, b = cs[a].b := ⟨_, rfl⟩
    rw [← hnn] at hac q1 q2
    rw [← hb] at q3 CG
    have SEE : Hid (∀ w', Rb w w' → w'.cell? ⟨s.b, 2, none⟩ = some (.slice (some ⟨g, 0, none⟩) n cap) ∧ w'.cell? ⟨g, a, none⟩ = some (ptrv b)) := fun w' hr =>
      ⟨by rw [Below.cell hr (World.block_lt_of_cell? w _ q1)]; exact q1, by rw [Below.cell hr (World.block_lt_of_cell? w _ q3)]; exact q3⟩
    clear o hc hlen hsn hrk hp sd1 sd2 k1 CL hle ha hcs hm hget htl e hnn hb hs hn
    unfold GetPost at CG ⊢
    generalize (getL x (items s.M)).getD 0 = y at CG ⊢
    generalize (getL x (items s.M)).isSome = ok at CG ⊢
    go_enter Try.func38, Try.ntmps38
    go_wp2_with (go_at_call 34; refine CL'.out.mono ?_; rintro e w' ⟨rfl, rfl⟩)
    have mixed : Try.prog.follows Departure.mixedOrders = true := by kernel_rfl
    have RDREW := Rb.drew w
    go_region_with (first | (go_at_call 40; refine ((CP _ (by first | exact Rb.drew w | exact Rb.refl w)).out).mono ?_; rintro e w1 ⟨rfl, hr1⟩; have hrw := Rb.trans _ _ _ (Rb.drew w) hr1; have y1 := (SEE.out w1 hrw).1; have y2 := (SEE.out w1 hrw).2) | (go_at_call 38; refine ((CG _ (by assumption)).out).mono ?_; rintro e w2 ⟨rfl, hr2⟩))
    all_goals
      have HRW := Lib.hid (Rb.trans _ _ _ hrw hr2)
      clear CP CG SEE hr1 hrw hr2 y1 y2 q1 q3
      go_wp2
      go_ret2
      exact ⟨rfl, HRW.out⟩

theorem tget (x : Int) (w : World) (p : Nat) (L : List Th) (F : Nat → Prop) (h : TreeAt w p L F) : Calls Try.prog 21 #[ptrv p, i64 x] w (GetPost x L w) := by
  rcases h with ⟨hb, rfl, _⟩ | ⟨d, s, h, _⟩
  · have CE := Lib.hid (tempty_no w p 0 hb)
    clear hb
    unfold GetPost
    go_enter Try.func21, Try.ntmps21
    go_wp2_with (go_at_call 28; refine CE.out.mono ?_; rintro e w' ⟨rfl, rfl⟩)
    go_ret2
    exact ⟨rfl, Rb.refl _⟩
  · have CE := Lib.hid (tempty_yes w p s.b _ h.blk)
    have CG := get_any x d w s h.held h.eight h.srt
    rw [h.items] at CG
    have CG' := Lib.hid CG
    have b0 := h.blk.cell 0
    clear CG h
    unfold GetPost at CG' ⊢
    go_enter Try.func21, Try.ntmps21
    go_wp2_with (first | (go_at_call 28; refine CE.out.mono ?_; rintro e w' ⟨rfl, rfl⟩) | (go_at_call 38; refine CG'.out.mono ?_))
    first | (rintro e w1 rfl hr) | (rintro e w1 ⟨rfl, hr⟩)
    have HR := Lib.hid hr
    clear hr
    go_wp2
    go_ret2
    exact ⟨rfl, HR.out⟩

/-- what Edge answers of a list -/
def edgeR (last : Bool) (L : List Th) : Value := match edgeOf last L with | some t => .tuple #[i64 t.1, i64 t.2, .bool true] | none => .tuple #[i64 0, i64 0, .bool false]
theorem tedge (last : Bool) (w : World) (p : Nat) (L : List Th) (F : Nat → Prop) (h : TreeAt w p L F) : Calls Try.prog 26 #[ptrv p, .bool last] w fun e w' => e = .returned (edgeR last L) ∧ Rb w w' := by
  rcases h with ⟨hb, rfl, _⟩ | ⟨d, s, h, _⟩
  · have CE := Lib.hid (tempty_no w p 0 hb)
    clear hb
    rw [show edgeR last [] = .tuple #[i64 0, i64 0, .bool false] by cases last <;> rfl]
    go_enter Try.func26, Try.ntmps26
    go_wp2_with (go_at_call 28; refine CE.out.mono ?_; rintro e w' ⟨rfl, rfl⟩)
    refine bodyPost_ret (results_tmp3 rfl _ _ _) rfl ?_
    exact ⟨rfl, Rb.refl _⟩
  · have CE := Lib.hid (tempty_yes w p s.b _ h.blk)
    obtain ⟨t, ht⟩ : ∃ t, edgeOf last (items s.M) = some t := by
      have hne := Held.items_ne d h.held h.one
      cases last with
      | true => exact Option.isSome_iff_exists.1 (by simp [edgeOf]; exact hne)
      | false => exact Option.isSome_iff_exists.1 (by simp [edgeOf]; exact hne)
    have CG := edge_any last t d w s h.held h.one (by have := h.eight; omega) ht
    rw [h.items] at ht
    have er : edgeR last L = .tuple #[i64 t.1, i64 t.2, .bool true] := by unfold edgeR; rw [ht]
    rw [er]
    have CG' := Lib.hid CG
    have b0 := h.blk.cell 0
    clear CG h ht er
    go_enter Try.func26, Try.ntmps26
    go_wp2_with (first | (go_at_call 28; refine CE.out.mono ?_; rintro e w' ⟨rfl, rfl⟩) | (go_at_call 39; refine CG'.out.mono ?_))
    first | (rintro e w1 rfl hr) | (rintro e w1 ⟨rfl, hr⟩)
    have HR := Lib.hid (Dn.rb hr)
    clear hr
    go_wp2
    refine bodyPost_ret (results_tmp3 rfl _ _ _) rfl ?_
    exact ⟨rfl, HR.out⟩
end Go.Proofs.Ytjdlicphmflnkaa.L5
