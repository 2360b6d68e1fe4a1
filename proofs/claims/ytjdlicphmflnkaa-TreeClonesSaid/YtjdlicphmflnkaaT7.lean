/-
  Layer 5: a leaf: putHere, takeHere.
-/
import Derived.Test.YtjdlicphmflnkaaT6
namespace Go.Proofs.Ytjdlicphmflnkaa.L5
open Go.ChangeShapes Go.WideShapes Go.ChangeAt Go.RowKit By Reg
set_option linter.unusedVariables false

theorem size36 : (Try.prog.info? 36).map (·.size) = some 1 := by kernel_rfl
theorem size67 : (Try.prog.info? 67).map (·.size) = some 1 := by kernel_rfl
theorem size68 : (Try.prog.info? 68).map (·.size) = some 1 := by kernel_rfl
theorem size3 : (Try.prog.info? 3).map (·.size) = some 1 := by kernel_rfl

theorem found_at {x : Int} {ks : List Int} {p : Nat} (h : found x ks p = true) : ∃ h : p < ks.length, ks[p] = x := by
  unfold found at h
  rw [decide_eq_true_eq] at h
  obtain ⟨hp, he⟩ := List.getElem?_eq_some_iff.1 h
  exact ⟨hp, he⟩

theorem one1 {v : Value} (h : v.oneCell' = true) : ∀ u ∈ [v], u.oneCell' = true := fun u hu => by
  simp at hu; subst hu; exact h

set_option maxHeartbeats 2000000 in
set_option maxRecDepth 100000 in
/-- the key is there -/
theorem puthere_old (w : World) (N : Nd) (x y : Int) (p : Nat) (h : NodeAt w N) (hl : N.vs.length = N.ks.length) (hbig : N.ks.length ≤ 100000) (hs : N.ks.Pairwise (· < ·)) (hp : Pos x N.ks p) (hf : found x N.ks p = true) :
    Calls Try.prog 44 #[ptrv N.b, i64 x, i64 y] w fun e w' =>
      e = .returned (.tuple #[i64 (N.vs.getD p 0), .bool true]) ∧ Nx w N w' { N with vs := N.vs.set p y } := by
  obtain ⟨hpl, hpx⟩ := found_at hf
  obtain ⟨g, rest, hv, hb, hm⟩ : ∃ g rest, N.vv = .slice (some ⟨g, 0, none⟩) N.vs.length (N.vs.length + rest.length) ∧ Blk w g 3 (N.vs.map i64 ++ rest) ∧ N.vs.length + rest.length ≤ maxLen := by
    rcases h.rv.cases' with ⟨h1, h2⟩ | ⟨g, rest, h1, h2, h3⟩
    · have : N.vs = [] := by simpa using h2
      rw [this] at hl
      simp at hl
      omega
    · rw [List.length_map] at h1 h3
      exact ⟨g, rest, h1, h2, h3⟩
  have c0 := h.c0
  have c1 := h.c1
  have C := Lib.hid (search_at w N.kv N.ks x p h.rk (by omega) hs hp)
  rw [hf] at C
  obtain ⟨ao2, cap2, hk, _, _⟩ := h.kform
  rw [hk] at c0 C
  rw [hv] at c1
  have H := Lib.hid h
  have HV := Lib.hid hv
  have HM := Lib.hid hm
  have HB := Lib.hid hb
  have hcell : w.cell? ⟨g, p, none⟩ = some (i64 (N.vs.getD p 0)) := by
    rw [hb.cell, List.getElem?_append_left (by rw [List.length_map]; omega), List.getElem?_map, List.getD_eq_getElem?_getD, List.getElem?_eq_getElem (by omega)]; rfl
  have hpv : p < N.vs.length := by omega
  obtain ⟨n, hn⟩ : ∃ n, n = N.vs.length := ⟨_, rfl⟩
  rw [← hn] at c1 hpv
  have HN := Lib.hid hn
  have hcap : n ≤ n + rest.length := by omega
  generalize hu : N.vs.getD p 0 = u at *
  clear h hv hm hl hf hb hs hbig hp hn hpl hpx hu
  go_enter Try.func44, Try.ntmps44
  go_wp2_with (go_at_call 41; refine C.out.mono ?_)
  rintro e w1 ⟨rfl, h2⟩
  have cell1 : w1.cell? ⟨g, p, none⟩ = some (i64 u) := by rw [Below.cell h2 (World.block_lt_of_cell? w _ hcell)]; exact hcell
  have d1 : w1.cell? ⟨N.b, 1, none⟩ = some (.slice (some ⟨g, 0, none⟩) n (n + rest.length)) := by rw [Below.cell h2 (World.block_lt_of_cell? w _ c1)]; exact c1
  have HB1 := Lib.hid (HB.out.rb h2)
  have H1 := Lib.hid (H.out.rb h2)
  have H2 := Lib.hid h2
  clear h2 C c0 c1 hcell
  go_wp2_with (refine wpList_store rfl 3 _ _ rfl g p 3 _ [i64 y] _ rfl rfl HB1.out rfl size3 ?_ (one1 rfl) ?_)
  · rw [List.length_append, List.length_map, ← HN.out, List.length_singleton]; omega
  intro w2 hb2 hw2
  go_wp2
  go_ret2
  refine ⟨rfl, Nx.rb H2.out ⟨?_, rfl, ?_, fun k hk => .inl hk⟩⟩
  · have hn := H1.out
    have hvo : N.vv.ownBlock = some g := by rw [HV.out]; rfl
    refine ⟨hn.blk.same (hw2.block _ fun e => hn.vb (by rw [hvo, e])), hn.rk.same fun k hk => hw2.block k (fun e => hn.kV hk (by rw [hvo, e])), ?_, hn.rp.same fun k hk => hw2.block k (fun e => hn.vP hvo (by rw [hk, e]))⟩
    show Row w2 _ N.vv _
    rw [HV.out]
    have e : (N.vs.map i64 ++ rest).take p ++ i64 y :: (N.vs.map i64 ++ rest).drop (p + 1) = (N.vs.set p y).map i64 ++ rest := by
      have hq : p < N.vs.length := by rw [← HN.out]; exact hpv
      obtain ⟨A, c, B, e, hA⟩ : ∃ A c B, N.vs = A ++ c :: B ∧ A.length = p := ⟨N.vs.take p, N.vs[p], N.vs.drop (p + 1), by simp, by simp; omega⟩
      rw [e]
      subst hA
      simp [List.drop_append, List.set_append_right]
    rw [e] at hb2
    have := Row.mk' hb2 (by rw [List.length_map, List.length_set]; exact HM.out)
    rw [List.length_map, List.length_set] at this
    exact this
  · refine (Fr.refl _ _).wrote hw2 (.inl (.inr (.inr (.inl ?_))))
    rw [HV.out]; rfl

set_option maxHeartbeats 2000000 in
set_option maxRecDepth 100000 in
/-- the key is not there -/
theorem puthere_new (w : World) (N : Nd) (x y : Int) (p : Nat) (h : NodeAt w N) (hl : N.vs.length = N.ks.length) (hbig : N.ks.length ≤ 100000) (hs : N.ks.Pairwise (· < ·)) (hp : Pos x N.ks p) (hf : found x N.ks p = false) :
    Calls Try.prog 44 #[ptrv N.b, i64 x, i64 y] w fun e w' =>
      e = .returned (.tuple #[i64 0, .bool false]) ∧ ∃ kv' vv', Nx w N w' { N with kv := kv', vv := vv', ks := N.ks.take p ++ x :: N.ks.drop p, vs := N.vs.take p ++ y :: N.vs.drop p } := by
  have c0 := h.c0
  have C := Lib.hid (search_at w N.kv N.ks x p h.rk (by omega) hs hp)
  rw [hf] at C
  have H := Lib.hid h
  have I1 : ∀ w1, Rb w w1 → Hid (Calls Try.prog 46 #[N.kv, i64 p, .slice (some ⟨w1.heap.size, 0, none⟩) 1 1] (w1.alloc (.cells #[i64 x] 2)) fun e w' => ∃ kv', e = .returned kv' ∧ Re (w1.alloc (.cells #[i64 x] 2)) 2 N.kv ((N.ks.take p ++ x :: N.ks.drop p).map i64) kv' w') := fun w1 hr => by
    have hn := (h.rb hr).rb (w' := w1.alloc (.cells #[i64 x] 2)) ((Below.refl _ w1).alloc (Nat.le_refl _) _)
    have hb : Blk (w1.alloc (.cells #[i64 x] 2)) w1.heap.size 2 [i64 x] := Blk.new w1 _ [i64 x]
    have := insert_any_K _ N.kv p w1.heap.size (N.ks.map i64) (i64 x) hn.rk hb (fun e => by have := (h.rb hr).rk.lt _ e; omega) (by rw [List.length_map]; exact hp.le) (by rw [List.length_map]; omega) i64_one rfl
    simpa [List.map_append, List.map_take, List.map_drop] using Lib.hid this
  have hpv : p ≤ N.vs.length := by rw [hl]; exact hp.le
  have I2 : ∀ w1, Row w1 3 N.vv (N.vs.map i64) → Hid (Calls Try.prog 57 #[N.vv, i64 p, .slice (some ⟨w1.heap.size, 0, none⟩) 1 1] (w1.alloc (.cells #[i64 y] 3)) fun e w' => ∃ vv', e = .returned vv' ∧ Re (w1.alloc (.cells #[i64 y] 3)) 3 N.vv ((N.vs.take p ++ y :: N.vs.drop p).map i64) vv' w') := fun w1 hr => by
    have hn := hr.rb (w' := w1.alloc (.cells #[i64 y] 3)) ((Below.refl _ w1).alloc (Nat.le_refl _) _)
    have hb : Blk (w1.alloc (.cells #[i64 y] 3)) w1.heap.size 3 [i64 y] := Blk.new w1 _ [i64 y]
    have := insert_any_V _ N.vv p w1.heap.size (N.vs.map i64) (i64 y) hn hb (fun e => by have := hr.lt _ e; omega) (by rw [List.length_map]; exact hpv) (by rw [List.length_map]; omega) i64_one rfl
    simpa [List.map_append, List.map_take, List.map_drop] using Lib.hid this
  obtain ⟨ao2, cap2, hk, _, _⟩ := h.kform
  obtain ⟨ao3, cap3, hv, _, _⟩ := h.vform
  have hc0 : w.cell? ⟨N.b, 0, none⟩ = some N.kv := c0
  rw [hk] at c0 C
  have hpk := hp.le
  have HK := Lib.hid hk
  have HV := Lib.hid hv
  obtain ⟨n, hn⟩ : ∃ n, n = N.ks.length := ⟨_, rfl⟩
  rw [← hn] at hpk c0 C HK
  rw [hl, ← hn] at HV
  clear h hl hs hbig hp hn hk hv hf hpv hc0
  go_enter Try.func44, Try.ntmps44
  go_wp2_with (go_at_call 41; refine C.out.mono ?_)
  rintro e w1 ⟨rfl, h2⟩
  have d1 : w1.cell? ⟨N.b, 0, none⟩ = some (.slice ao2 n cap2) := by rw [Below.cell h2 (World.block_lt_of_cell? w _ c0)]; exact c0
  have H1 := Lib.hid (H.out.rb h2)
  have H2 := Lib.hid h2
  have J1 := I1 w1 h2
  rw [HK.out] at J1
  clear h2 C c0
  go_wp2_with (go_at_call 46; refine J1.out.mono ?_)
  rintro e w2 ⟨kv', rfl, hr1⟩
  have HW := Lib.hid (H1.out.rb (w' := w1.alloc (.cells #[i64 x] 2)) ((Below.refl _ w1).alloc (Nat.le_refl _) _))
  have hb2 : Blk w2 N.b 70 [N.kv, N.vv, N.pv] := HW.out.blk.same (hr1.fr.block _ HW.out.blk.lt (fun e => HW.out.kb (by rw [HK.out]; exact e)))
  have HB2 := Lib.hid hb2
  have ho := Lib.hid hr1.row.one
  have hkf := Lib.hid (hr1.row.form)
  have R1 := Lib.hid hr1
  clear hr1 hb2 J1 I1
  go_wp2_with (refine wpList_store rfl 36 _ _ rfl N.b 0 70 _ [kv'] _ rfl rfl HB2.out ho.out.2 size36 (by simp) (one1 ho.out.1) ?_)
  intro w3 hb3 hw3
  have X1 : Nx (w1.alloc (.cells #[i64 x] 2)) N w3 { N with kv := kv', ks := N.ks.take p ++ x :: N.ks.drop p } := Nx.keys HW.out (by rw [HK.out]; exact R1.out) hb3 hw3
  have HX1 := Lib.hid X1
  have J2 := I2 w3 X1.at_.rv
  have d3 := X1.at_.c1
  simp only at d3
  rw [HV.out] at d3 J2
  clear hb3 hw3 X1 I2
  go_wp2_with (go_at_call 57; refine J2.out.mono ?_)
  rintro e w4 ⟨vv', rfl, hr2⟩
  have HW2 := Lib.hid (HX1.out.at_.rb (w' := w3.alloc (.cells #[i64 y] 3)) ((Below.refl _ w3).alloc (Nat.le_refl _) _))
  have hb4 : Blk w4 N.b 70 [kv', N.vv, N.pv] := HW2.out.blk.same (hr2.fr.block _ HW2.out.blk.lt (fun e => HW2.out.vb (by rw [HV.out]; exact e)))
  have HB4 := Lib.hid hb4
  have ho2 := Lib.hid hr2.row.one
  have R2 := Lib.hid hr2
  clear hr2 hb4 J2
  go_wp2_with (refine wpList_store rfl 67 _ _ rfl N.b 1 70 _ [vv'] _ rfl rfl HB4.out ho2.out.2 size67 (by simp) (one1 ho2.out.1) ?_)
  intro w5 hb5 hw5
  have X2 := Nx.vals HW2.out (vs' := N.vs.take p ++ y :: N.vs.drop p) (by simp only; rw [HV.out]; exact R2.out) hb5 hw5
  have HX2 := Lib.hid X2
  clear hb5 hw5 X2
  go_wp2
  go_ret2
  have A1 : Rb w1 (w1.alloc (.cells #[i64 x] 2)) := (Below.refl _ w1).alloc (Nat.le_refl _) _
  have A3 : Rb w3 (w3.alloc (.cells #[i64 y] 3)) := (Below.refl _ w3).alloc (Nat.le_refl _) _
  exact ⟨rfl, _, _, Nx.rb H2.out (Nx.rb A1 (HX1.out.trans (Nx.rb A3 HX2.out)))⟩
end Go.Proofs.Ytjdlicphmflnkaa.L5
