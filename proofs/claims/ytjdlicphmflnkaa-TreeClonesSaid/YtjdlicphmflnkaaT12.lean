/-
  Layer 5: join of two leaves.
-/
import Derived.Test.YtjdlicphmflnkaaT11
import Derived.BigQuiet
import Derived.Deep.CutRange
namespace Go.Proofs.Ytjdlicphmflnkaa.L5
open Go.ChangeShapes Go.WideShapes Go.ChangeAt Go.RowKit By Reg
set_option linter.unusedVariables false

set_option maxHeartbeats 2000000 in
set_option maxRecDepth 100000 in
theorem join_leaf (w : World) (N A B : Nd) (at_ : Nat) (h : Tri w N A w N A B) (hA : A.ps = [])
    (ha : N.ps[at_]? = some A.b) (hb : N.ps[at_ + 1]? = some B.b) (hl : N.ps.length = N.ks.length + 1) (hn : N.ps.length ≤ 100) (lA : A.ks.length ≤ 100) (lB : B.ks.length ≤ 100) (lv : A.vs.length ≤ 100) (lw : B.vs.length ≤ 100) (lp : A.ps.length ≤ 100) (lq : B.ps.length ≤ 100) :
    Calls Try.prog 56 #[ptrv N.b, i64 at_] w fun e w' => (∃ v, e = .returned v) ∧
      ∃ kv pv kA vA pA, Tri w N A w' { N with kv := kv, pv := pv, ks := N.ks.take at_ ++ N.ks.drop (at_ + 1), ps := N.ps.take (at_ + 1) ++ N.ps.drop (at_ + 2) } { A with kv := kA, vv := vA, pv := pA, ks := A.ks ++ B.ks, vs := A.vs ++ B.vs, ps := A.ps ++ B.ps } B := by
  have hle : isLeaf A = true := by unfold isLeaf; rw [hA]; rfl
  have hal : at_ + 1 < N.ps.length := (List.getElem?_eq_some_iff.1 hb).1
  have part : ∀ j (q : Nat), N.ps[j]? = some q → ∃ g cap, N.pv = .slice (some ⟨g, 0, none⟩) N.ps.length cap ∧ N.ps.length ≤ cap ∧ w.cell? ⟨g, j, none⟩ = some (ptrv q) := fun j q hj => by
    have hjl := (List.getElem?_eq_some_iff.1 hj)
    obtain ⟨g, cap, h1, h2, h3, h4⟩ := h.na.rp.at_ (j := j) (by rw [List.length_map]; exact hjl.1)
    rw [List.length_map] at h1 h2
    refine ⟨g, cap, h1, h2, ?_⟩
    rw [h4, List.getElem_map, hjl.2]
  obtain ⟨g, cap, hp, hc, ha'⟩ := part _ _ ha
  obtain ⟨g', cap', hp', _, hb'⟩ := part _ _ hb
  rw [hp] at hp'
  simp only [Value.slice.injEq, Option.some.injEq, Addr.mk.injEq, and_true, true_and] at hp'
  obtain ⟨rfl, rfl⟩ := hp'
  have c2 := h.na.c2
  rw [hp] at c2
  have H := Lib.hid h
  have HP := Lib.hid hp
  have HLE := Lib.hid hle
  obtain ⟨gk, capk, hk, hkc, hkm, hkce⟩ := h.na.rk.int_at (j := at_) (by omega)
  have HK := Lib.hid hk
  have HKE := Lib.hid hkce
  obtain ⟨kk, hkk⟩ : ∃ kk, kk = N.ks.getD at_ 0 := ⟨_, rfl⟩
  rw [← hkk] at HKE
  clear hkk
  obtain ⟨a0, q0, h0, _, _⟩ := h.aa.kform
  obtain ⟨a1, q1, h1, _, _⟩ := h.aa.vform
  obtain ⟨a2, q2, h2, _, _⟩ := h.aa.pform
  obtain ⟨b0, r0, g0, _, _⟩ := h.ba.kform
  obtain ⟨b1, r1, g1, _, _⟩ := h.ba.vform
  obtain ⟨b2, r2, g2, _, _⟩ := h.ba.pform
  have H0 := Lib.hid h0
  have H1 := Lib.hid h1
  have H2 := Lib.hid h2
  have G0 := Lib.hid g0
  have G1 := Lib.hid g1
  have G2 := Lib.hid g2
  obtain ⟨n, hnn⟩ : ∃ n, n = N.ps.length := ⟨_, rfl⟩
  rw [← hnn] at c2 hal hc HP
  have hw1 : IntKind.i64.wrap ((at_ : Int) + 1) = (at_ : Int) + 1 := by rw [IntKind.wrap_i64]; omega
  have hw2 : IntKind.i64.wrap ((at_ : Int) + 2) = (at_ : Int) + 2 := by rw [IntKind.wrap_i64]; omega
  have htn : ((at_ : Int) + 1).toNat = at_ + 1 := by omega
  have hb1 : (0 : Int) ≤ (at_ : Int) + 1 := by omega
  have hat : at_ < n := by omega
  have hak : at_ < N.ks.length := by omega
  have hab : at_ ≤ 100 := by omega
  have HS : Hid (A.ks.length ≤ 100 ∧ B.ks.length ≤ 100 ∧ A.vs.length ≤ 100 ∧ B.vs.length ≤ 100 ∧ A.ps.length ≤ 100 ∧ B.ps.length ≤ 100 ∧ n ≤ 100 ∧ n = N.ks.length + 1 ∧ n = N.ps.length) := ⟨lA, lB, lv, lw, lp, lq, by omega, by omega, hnn⟩
  have mixed : Try.prog.follows Departure.mixedOrders = true := by kernel_rfl
  clear h hp lA lB lv lw lp lq hnn hl hn part ha hb hle h0 h1 h2 g0 g1 g2 hk hkce hA
  go_enter Try.func56, Try.ntmps56
  go_wp2_with fail
  go_quiet (fail)
  go_wp2_with fail
  have T1 := H.out.rb (w' := w.drewN nq) ⟨rfl, rfl, rfl, Nat.le_refl _, fun _ _ => rfl⟩
  generalize w.drewN nq = w1 at T1 ⊢
  have CL := leaf_any w1 A T1.aa
  rw [HLE.out] at CL
  refine CL.mono ?_
  clear CL
  rintro e w' ⟨rfl, rfl⟩
  have U1 := Lib.hid T1
  clear T1 c2 ha' hb'

  -- keys
  have e0 := U1.out.aa.c0
  have f0 := U1.out.ba.c0
  try dsimp only at e0 f0
  rw [H0.out] at e0
  rw [G0.out] at f0
  have T := U1.out.rb (Rb.drew w1)
  obtain ⟨v1, y1, ra, re⟩ := append_keys T.aa T.ba.rk.sl (by have := HS.out; simp; omega)
  try dsimp only at ra re
  rw [H0.out, G0.out] at ra
  have hb2 := T.aa.blk.same (re.fr.block _ T.aa.blk.lt T.aa.kb)
  try dsimp only at hb2
  have z0 : y1.cell? ⟨A.b, 0, none⟩ = some (A.kv) := hb2.cell 0
  have zf : y1.frozen? ⟨A.b, 0, none⟩ = false := hb2.frozen 0
  rw [H0.out] at z0
  have HB2 := Lib.hid hb2
  have HRE := Lib.hid re
  have HT := Lib.hid T
  obtain ⟨ao1, cap1, hk3, _, _⟩ := re.row.form
  generalize (List.map _ _).length = m1 at hk3
  subst hk3
  clear hb2 re T
  go_wp2_with fail
  go_cut [4] from 40 to 51 (fun c wx => c = ptrv A.b ∧ Blk wx A.b 70 [.slice ao1 m1 cap1, A.vv, A.pv] ∧ Wrote A.b y1 wx)
  case first =>
    go_region_law_o (refine step_run_append rfl rfl (by simp [Act.eval]) (by simp [Act.eval]) (ra _) ?_)
    all_goals
      go_wp2_with fail
      go_meet
      exact ⟨rfl, blk_setCell HB2.out (by simp) _⟩
  case rest =>
  obtain ⟨rfl, hb3, hw3⟩ := hcut
  have U2 := Lib.hid (HT.out.stepA (Nx.keys HT.out.aa HRE.out hb3 hw3))
  clear hb3 hw3 HT HRE HB2 ra U1 z0 zf e0 f0
  generalize wc = w2 at *

  -- vals
  have e0 := U2.out.aa.c1
  have f0 := U2.out.ba.c1
  try dsimp only at e0 f0
  rw [H1.out] at e0
  rw [G1.out] at f0
  have T := U2.out.rb (Rb.drew w2)
  obtain ⟨v2, y2, ra, re⟩ := append_vals T.aa T.ba.rv.sl (by have := HS.out; simp; omega)
  try dsimp only at ra re
  rw [H1.out, G1.out] at ra
  have hb2 := T.aa.blk.same (re.fr.block _ T.aa.blk.lt T.aa.vb)
  try dsimp only at hb2
  have z0 : y2.cell? ⟨A.b, 1, none⟩ = some (A.vv) := hb2.cell 1
  have zf : y2.frozen? ⟨A.b, 1, none⟩ = false := hb2.frozen 1
  rw [H1.out] at z0
  have HB2 := Lib.hid hb2
  have HRE := Lib.hid re
  have HT := Lib.hid T
  obtain ⟨ao2, cap2, hk3, _, _⟩ := re.row.form
  generalize (List.map _ _).length = m2 at hk3
  subst hk3
  clear hb2 re T
  go_wp2_with fail
  go_cut [4] from 52 to 63 (fun c wx => c = ptrv A.b ∧ Blk wx A.b 70 [.slice ao1 m1 cap1, .slice ao2 m2 cap2, A.pv] ∧ Wrote A.b y2 wx)
  case first =>
    go_region_law_o (refine step_run_append rfl rfl (by simp [Act.eval]) (by simp [Act.eval]) (ra _) ?_)
    all_goals
      go_wp2_with fail
      go_meet
      exact ⟨rfl, blk_setCell HB2.out (by simp) _⟩
  case rest =>
  obtain ⟨rfl, hb3, hw3⟩ := hcut
  have U3 := Lib.hid (HT.out.stepA (Nx.vals HT.out.aa HRE.out hb3 hw3))
  clear hb3 hw3 HT HRE HB2 ra U2 z0 zf e0 f0
  generalize wc = w3 at *

  -- parts
  have e0 := U3.out.aa.c2
  have f0 := U3.out.ba.c2
  try dsimp only at e0 f0
  rw [H2.out] at e0
  rw [G2.out] at f0
  have T := U3.out.rb (Rb.drew w3)
  obtain ⟨v3, y3, ra, re⟩ := append_parts T.aa T.ba.rp.sl (by have := HS.out; simp; omega)
  try dsimp only at ra re
  rw [H2.out, G2.out] at ra
  have hb2 := T.aa.blk.same (re.fr.block _ T.aa.blk.lt T.aa.pb)
  try dsimp only at hb2
  have z0 : y3.cell? ⟨A.b, 2, none⟩ = some (A.pv) := hb2.cell 2
  have zf : y3.frozen? ⟨A.b, 2, none⟩ = false := hb2.frozen 2
  rw [H2.out] at z0
  have HB2 := Lib.hid hb2
  have HRE := Lib.hid re
  have HT := Lib.hid T
  obtain ⟨ao3, cap3, hk3, _, _⟩ := re.row.form
  generalize (List.map _ _).length = m3 at hk3
  subst hk3
  clear hb2 re T
  go_wp2_with fail
  go_cut [4] from 64 to 75 (fun c wx => c = ptrv A.b ∧ Blk wx A.b 70 [.slice ao1 m1 cap1, .slice ao2 m2 cap2, .slice ao3 m3 cap3] ∧ Wrote A.b y3 wx)
  case first =>
    go_region_law_o (refine step_run_append rfl rfl (by simp [Act.eval]) (by simp [Act.eval]) (ra _) ?_)
    all_goals
      go_wp2_with fail
      go_meet
      exact ⟨rfl, blk_setCell HB2.out (by simp) _⟩
  case rest =>
  obtain ⟨rfl, hb3, hw3⟩ := hcut
  have U4 := Lib.hid (HT.out.stepA (Nx.parts HT.out.aa HRE.out hb3 hw3))
  clear hb3 hw3 HT HRE HB2 ra U3 z0 zf e0 f0
  generalize wc = w4 at *

  -- keys of the parent
  have e0 := U4.out.na.c0
  try dsimp only at e0
  rw [HK.out] at e0
  have J := delete_any_K w4 N.kv at_ (at_ + 1) (N.ks.map i64) U4.out.na.rk (by omega) (by have := HS.out; rw [List.length_map]; omega) i64_one
  rw [← List.map_take, ← List.map_drop, ← List.map_append, HK.out] at J
  rw [show ((at_ + 1 : Nat) : Int) = (at_ : Int) + 1 by omega] at J
  have HJ := Lib.hid J
  clear J
  go_wp2_with (go_at_call 54; refine HJ.out.mono ?_)
  first | (rintro e x4 v4 rfl re -) | (rintro e x4 ⟨v4, rfl, re, -⟩)
  have hb2 := U4.out.na.blk.same (re.fr.block _ U4.out.na.blk.lt (fun e => U4.out.na.kb (by (try dsimp only); rw [HK.out]; exact e)))
  try dsimp only at hb2
  have HB2 := Lib.hid hb2
  have HRE := Lib.hid re
  have o1 := Lib.hid re.row.one
  clear hb2 re e0 HJ
  go_wp2_with (refine wpList_store rfl 36 _ _ rfl N.b 0 70 _ [v4] _ rfl rfl HB2.out o1.out.2 size36 (by simp) (one1 o1.out.1) ?_)
  intro w5 hb3 hw3
  have U5 := Lib.hid (U4.out.stepN (Nx.keys (ks' := N.ks.take at_ ++ N.ks.drop (at_ + 1)) U4.out.na (by have q := HRE.out; (try dsimp only); rw [HK.out]; simpa only [List.map_append, List.map_take, List.map_drop] using q) hb3 hw3))
  clear hb3 hw3 HRE HB2 o1 U4

  -- parts of the parent
  have e0 := U5.out.na.c2
  try dsimp only at e0
  rw [HP.out] at e0
  have J := delete_any_Q w5 N.pv (at_ + 1) (at_ + 2) (N.ps.map ptrv) U5.out.na.rp (by omega) (by have := HS.out; rw [List.length_map]; omega) ptr_one
  rw [← List.map_take, ← List.map_drop, ← List.map_append, HP.out] at J
  rw [show ((at_ + 1 : Nat) : Int) = (at_ : Int) + 1 by omega, show ((at_ + 2 : Nat) : Int) = (at_ : Int) + 2 by omega] at J
  have HJ := Lib.hid J
  clear J
  go_wp2_with (go_at_call 66; refine HJ.out.mono ?_)
  first | (rintro e x5 v5 rfl re -) | (rintro e x5 ⟨v5, rfl, re, -⟩)
  have hb2 := U5.out.na.blk.same (re.fr.block _ U5.out.na.blk.lt (fun e => U5.out.na.pb (by (try dsimp only); rw [HP.out]; exact e)))
  try dsimp only at hb2
  have HB2 := Lib.hid hb2
  have HRE := Lib.hid re
  have o1 := Lib.hid re.row.one
  clear hb2 re e0 HJ
  go_wp2_with (refine wpList_store rfl 68 _ _ rfl N.b 2 70 _ [v5] _ rfl rfl HB2.out o1.out.2 size68 (by simp) (one1 o1.out.1) ?_)
  intro w6 hb3 hw3
  have U6 := Lib.hid (U5.out.stepN (Nx.parts (ps' := N.ps.take (at_ + 1) ++ N.ps.drop (at_ + 2)) U5.out.na (by have q := HRE.out; (try dsimp only); rw [HP.out]; simpa only [List.map_append, List.map_take, List.map_drop] using q) hb3 hw3))
  clear hb3 hw3 HRE HB2 o1 U5

  go_wp2
  go_end0
  exact ⟨⟨_, rfl⟩, _, _, _, _, _, U6.out⟩
end Go.Proofs.Ytjdlicphmflnkaa.L5
