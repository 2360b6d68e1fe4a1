/-
  Layer 5: a leaf: takeHere.
-/
import Derived.Test.YtjdlicphmflnkaaT7
namespace Go.Proofs.Ytjdlicphmflnkaa.L5
open Go.ChangeShapes Go.WideShapes Go.ChangeAt Go.RowKit By Reg
set_option linter.unusedVariables false

theorem takehere_none (w : World) (N : Nd) (x : Int) (p : Nat) (h : NodeAt w N) (hbig : N.ks.length ≤ 100000) (hs : N.ks.Pairwise (· < ·)) (hp : Pos x N.ks p) (hf : found x N.ks p = false) :
    Calls Try.prog 42 #[ptrv N.b, i64 x] w fun e w' => e = .returned (.tuple #[i64 0, .bool false]) ∧ Rb w w' := by
  have c0 := h.c0
  have C := Lib.hid (search_at w N.kv N.ks x p h.rk (by omega) hs hp)
  rw [hf] at C
  obtain ⟨ao2, cap2, hk, _, _⟩ := h.kform
  rw [hk] at c0 C
  generalize N.ks.length = n at *
  clear h hs hbig hp hk hf
  go_enter Try.func42, Try.ntmps42
  go_wp2_with (go_at_call 41; refine C.out.mono ?_)
  rintro e w1 ⟨rfl, h2⟩
  have H2 := Lib.hid h2
  clear h2
  go_wp2
  go_ret2
  exact ⟨rfl, H2.out⟩

set_option maxHeartbeats 2000000 in
set_option maxRecDepth 100000 in
theorem takehere_some (w : World) (N : Nd) (x : Int) (p : Nat) (h : NodeAt w N) (hl : N.vs.length = N.ks.length) (hbig : N.ks.length ≤ 100000) (hs : N.ks.Pairwise (· < ·)) (hp : Pos x N.ks p) (hf : found x N.ks p = true) :
    Calls Try.prog 42 #[ptrv N.b, i64 x] w fun e w' =>
      e = .returned (.tuple #[i64 (N.vs.getD p 0), .bool true]) ∧ ∃ kv' vv', Nx w N w' { N with kv := kv', vv := vv', ks := N.ks.take p ++ N.ks.drop (p + 1), vs := N.vs.take p ++ N.vs.drop (p + 1) } := by
  obtain ⟨hpl, hpx⟩ := found_at hf
  have c0 := h.c0
  have c1 := h.c1
  have C := Lib.hid (search_at w N.kv N.ks x p h.rk (by omega) hs hp)
  rw [hf] at C
  have H := Lib.hid h
  have I1 : ∀ w1, Row w1 2 N.kv (N.ks.map i64) → Hid (Calls Try.prog 54 #[N.kv, i64 p, i64 ((p : Int) + 1)] w1 fun e w' => ∃ kv', e = .returned kv' ∧ Re w1 2 N.kv ((N.ks.take p ++ N.ks.drop (p + 1)).map i64) kv' w' ∧ kv'.ownBlock = N.kv.ownBlock) := fun w1 hr => by
    have := delete_any_K w1 N.kv p (p + 1) (N.ks.map i64) hr (by omega) (by rw [List.length_map]; omega) i64_one
    simpa [List.map_append, List.map_take, List.map_drop] using Lib.hid this
  have hpv : p < N.vs.length := by rw [hl]; exact hpl
  have I2 : ∀ w1, Row w1 3 N.vv (N.vs.map i64) → Hid (Calls Try.prog 55 #[N.vv, i64 p, i64 ((p : Int) + 1)] w1 fun e w' => ∃ vv', e = .returned vv' ∧ Re w1 3 N.vv ((N.vs.take p ++ N.vs.drop (p + 1)).map i64) vv' w' ∧ vv'.ownBlock = N.vv.ownBlock) := fun w1 hr => by
    have := delete_any_V w1 N.vv p (p + 1) (N.vs.map i64) hr (by omega) (by rw [List.length_map]; omega) i64_one
    simpa [List.map_append, List.map_take, List.map_drop] using Lib.hid this
  obtain ⟨g, cap3, hv, _, _, hcell⟩ := h.rv.at_ (j := p) (by rw [List.length_map]; exact hpv)
  rw [List.getElem_map] at hcell
  obtain ⟨ao2, cap2, hk, _, _⟩ := h.kform
  have hu : N.vs[p] = N.vs.getD p 0 := by rw [List.getD_eq_getElem?_getD, List.getElem?_eq_getElem hpv]; rfl
  rw [hu] at hcell
  rw [List.length_map, hl] at hv
  have hc1 : w.cell? ⟨N.b, 1, none⟩ = some N.vv := c1
  have hc0 : w.cell? ⟨N.b, 0, none⟩ = some N.kv := c0
  rw [hk] at c0 C
  rw [hv] at c1
  have HK := Lib.hid hk
  have HV := Lib.hid hv
  obtain ⟨n, hn⟩ : ∃ n, n = N.ks.length := ⟨_, rfl⟩
  rw [← hn] at hpl c0 c1 C HK HV
  have hw1 : IntKind.i64.wrap ((p : Int) + 1) = (p : Int) + 1 := by rw [IntKind.wrap_i64]; omega
  have hpb : p ≤ 100000 := by omega
  generalize N.vs.getD p 0 = u at *
  clear h hl hs hbig hp hn hk hv hf hpv hc0 hc1 hu
  go_enter Try.func42, Try.ntmps42
  go_wp2_with (go_at_call 41; refine C.out.mono ?_)
  rintro e w1 ⟨rfl, h2⟩
  have d0 : w1.cell? ⟨N.b, 0, none⟩ = some (.slice ao2 n cap2) := by rw [Below.cell h2 (World.block_lt_of_cell? w _ c0)]; exact c0
  have d1 : w1.cell? ⟨N.b, 1, none⟩ = some (.slice (some ⟨g, 0, none⟩) n cap3) := by rw [Below.cell h2 (World.block_lt_of_cell? w _ c1)]; exact c1
  have dc : w1.cell? ⟨g, p, none⟩ = some (i64 u) := by rw [Below.cell h2 (World.block_lt_of_cell? w _ hcell)]; exact hcell
  have H1 := Lib.hid (H.out.rb h2)
  have H2 := Lib.hid h2
  have J1 := I1 w1 H1.out.rk
  rw [HK.out] at J1
  clear h2 C c0 c1 hcell
  go_wp2_with (go_at_call 54; refine J1.out.mono ?_)
  rintro e w2 ⟨kv', rfl, hr1, -⟩
  have hb2 : Blk w2 N.b 70 [N.kv, N.vv, N.pv] := H1.out.blk.same (hr1.fr.block _ H1.out.blk.lt (fun e => H1.out.kb (by rw [HK.out]; exact e)))
  have HB2 := Lib.hid hb2
  have ho := Lib.hid hr1.row.one
  have R1 := Lib.hid hr1
  clear hr1 hb2 J1 I1
  go_wp2_with (refine wpList_store rfl 36 _ _ rfl N.b 0 70 _ [kv'] _ rfl rfl HB2.out ho.out.2 size36 (by simp) (one1 ho.out.1) ?_)
  intro w3 hb3 hw3
  have X1 : Nx w1 N w3 { N with kv := kv', ks := N.ks.take p ++ N.ks.drop (p + 1) } := Nx.keys H1.out (by rw [HK.out]; exact R1.out) hb3 hw3
  have HX1 := Lib.hid X1
  have J2 := I2 w3 X1.at_.rv
  have d3 := X1.at_.c1
  simp only at d3
  rw [HV.out] at d3 J2
  clear hb3 hw3 X1 I2
  go_wp2_with (go_at_call 55; refine J2.out.mono ?_)
  rintro e w4 ⟨vv', rfl, hr2, -⟩
  have hb4 : Blk w4 N.b 70 [kv', N.vv, N.pv] := HX1.out.at_.blk.same (hr2.fr.block _ HX1.out.at_.blk.lt (fun e => HX1.out.at_.vb (by simp only; rw [HV.out]; exact e)))
  have HB4 := Lib.hid hb4
  have ho2 := Lib.hid hr2.row.one
  have R2 := Lib.hid hr2
  clear hr2 hb4 J2
  go_wp2_with (refine wpList_store rfl 67 _ _ rfl N.b 1 70 _ [vv'] _ rfl rfl HB4.out ho2.out.2 size67 (by simp) (one1 ho2.out.1) ?_)
  intro w5 hb5 hw5
  have X2 := Nx.vals HX1.out.at_ (vs' := N.vs.take p ++ N.vs.drop (p + 1)) (by simp only; rw [HV.out]; exact R2.out) hb5 hw5
  have HX2 := Lib.hid X2
  clear hb5 hw5 X2
  go_wp2
  go_ret2
  exact ⟨rfl, _, _, Nx.rb H2.out (HX1.out.trans HX2.out)⟩
end Go.Proofs.Ytjdlicphmflnkaa.L5
