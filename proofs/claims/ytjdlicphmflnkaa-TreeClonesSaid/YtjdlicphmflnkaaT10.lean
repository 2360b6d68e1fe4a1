/-
  Layer 5: halve of an inner node.
-/
import Derived.Test.YtjdlicphmflnkaaT9
namespace Go.Proofs.Ytjdlicphmflnkaa.L5
open Go.ChangeShapes Go.WideShapes Go.ChangeAt Go.RowKit By Reg
set_option linter.unusedVariables false

theorem Row.take {w : World} {e : TypeId} {g n cap : Nat} {xs : List Value} (h : Row w e (.slice (some ⟨g, 0, none⟩) n cap) xs) (m : Nat) (hm : m ≤ xs.length) : Row w e (.slice (some ⟨g, 0, none⟩) m cap) (xs.take m) := by
  rcases h.cases' with ⟨e, _⟩ | ⟨g', rest, e, h2, h3⟩
  · cases e
  · simp only [Value.slice.injEq, Option.some.injEq, Addr.mk.injEq, and_true] at e
    obtain ⟨rfl, rfl, rfl⟩ := e
    have hl : (xs.take m).length = m := by rw [List.length_take]; omega
    have hb : Blk w g e ((xs.take m) ++ (xs.drop m ++ rest)) := by rw [← List.append_assoc, List.take_append_drop]; exact h2
    have := Row.mk' hb (by rw [hl, List.length_append, List.length_drop]; omega)
    rw [hl, List.length_append, List.length_drop, show m + (xs.length - m + rest.length) = xs.length + rest.length by omega] at this
    exact this

theorem Row.int_at {w : World} {e : TypeId} {v : Value} {ks : List Int} (h : Row w e v (ks.map i64)) {j : Nat} (hj : j < ks.length) :
    ∃ g cap, v = .slice (some ⟨g, 0, none⟩) ks.length cap ∧ ks.length ≤ cap ∧ cap ≤ maxLen ∧ w.cell? ⟨g, j, none⟩ = some (i64 (ks.getD j 0)) := by
  obtain ⟨g, cap, h1, h2, h3, h4⟩ := h.at_ (j := j) (by rw [List.length_map]; exact hj)
  rw [List.length_map] at h1 h2
  refine ⟨g, cap, h1, h2, h3, ?_⟩
  rw [h4, List.getElem_map, List.getD_eq_getElem?_getD, List.getElem?_eq_getElem hj]
  rfl

theorem Two.nx {w0 w w' : World} {N0 N M N' : Nd} (h : Two w0 N0 w N M) (k : Nx w N w' N') (hh : ∀ k, N'.has k → N.has k) : Two w0 N0 w' N' M :=
  ⟨k.at_, h.ma.fr k.fr (fun i hi hi' => h.off hi hi'), k.b.trans h.nb, fun i hi => h.nh i (hh i hi), h.mh, h.n0, h.fr.trans k.fr (fun i hi => .inl (h.nh i hi))⟩

set_option maxHeartbeats 2000000 in
set_option maxRecDepth 100000 in
theorem halve_inner (w : World) (N : Nd) (h : NodeAt w N) (hv : N.vs = []) (hl : N.ps.length = N.ks.length + 1) (hlo : 9 ≤ N.ps.length) (hhi : N.ps.length ≤ 100) :
    Calls Try.prog 45 #[ptrv N.b] w fun e w' =>
      ∃ kv vv pv M, e = .returned (.tuple #[i64 (N.ks.getD (N.ps.length / 2 - 1) 0), ptrv M.b]) ∧ Two w N w' { N with kv := kv, vv := vv, pv := pv, ks := N.ks.take (N.ps.length / 2 - 1), ps := N.ps.take (N.ps.length / 2) } M ∧ M.ks = N.ks.drop (N.ps.length / 2) ∧ M.vs = [] ∧ M.ps = N.ps.drop (N.ps.length / 2) := by
  have hle : isLeaf N = false := by unfold isLeaf; rw [decide_eq_false_iff_not]; omega
  have hsz : sizeN N = N.ps.length := by unfold sizeN; rw [hle]; rfl
  have CS := Lib.hid (size_any w N h)
  rw [hsz] at CS
  obtain ⟨q, hq⟩ : ∃ q, q = N.ps.length / 2 := ⟨_, rfl⟩
  obtain ⟨n, hn⟩ : ∃ n, n = N.ps.length := ⟨_, rfl⟩
  have CK : ∀ w2, Row w2 2 N.kv (N.ks.map i64) → Hid (Calls Try.prog 58 #[N.kv, i64 q] w2 fun e w' => ∃ v1 v2, e = .returned (.tuple #[v1, v2]) ∧ Re w2 2 N.kv ((N.ks.map i64).take q) v1 w' ∧ v1.ownBlock = N.kv.ownBlock ∧ Row w' 2 v2 ((N.ks.map i64).drop q) ∧ (∀ k, v2.ownBlock = some k → w2.heap.size ≤ k)) :=
    fun w2 hr => Lib.hid (cut_any_K w2 N.kv q (N.ks.map i64) hr (by rw [List.length_map]; omega) (by rw [List.length_map]; omega) i64_one)
  have CP : ∀ w2, Row w2 24 N.pv (N.ps.map ptrv) → Hid (Calls Try.prog 60 #[N.pv, i64 q] w2 fun e w' => ∃ v1 v2, e = .returned (.tuple #[v1, v2]) ∧ Re w2 24 N.pv ((N.ps.map ptrv).take q) v1 w' ∧ v1.ownBlock = N.pv.ownBlock ∧ Row w' 24 v2 ((N.ps.map ptrv).drop q) ∧ (∀ k, v2.ownBlock = some k → w2.heap.size ≤ k)) :=
    fun w2 hr => Lib.hid (cut_any_Q w2 N.pv q (N.ps.map ptrv) hr (by rw [List.length_map]; omega) (by rw [List.length_map]; omega) ptr_one)
  obtain ⟨ao, cap, hk, _, _⟩ := h.kform
  obtain ⟨ao2, cap2, hp, _, _⟩ := h.pform
  have HK := Lib.hid hk
  have HP := Lib.hid hp
  have HH := Lib.hid h
  have HLE := Lib.hid hle
  have hqn : (n : Int) / 2 = (q : Int) := by omega
  have HQ := Lib.hid hq
  have HN := Lib.hid hn
  obtain ⟨kk, hkk⟩ : ∃ kk, kk = N.ks.getD (q - 1) 0 := ⟨_, rfl⟩
  have HTK : Hid ((N.ks.take q).length = q) := by
    show (N.ks.take q).length = q
    rw [List.length_take]; omega
  have HTT : Hid ((N.ks.take q).take (q - 1) = N.ks.take (q - 1)) := by
    show (N.ks.take q).take (q - 1) = N.ks.take (q - 1)
    rw [List.take_take, Nat.min_eq_left (by omega)]
  have HGD : Hid ((N.ks.take q).getD (q - 1) 0 = kk) := by
    show (N.ks.take q).getD (q - 1) 0 = kk
    rw [hkk, List.getD_eq_getElem?_getD, List.getD_eq_getElem?_getD, List.getElem?_take, if_pos (by omega)]
  have HVS := Lib.hid hv
  rw [← hq, ← hkk]
  clear hkk
  rw [← hn] at CS HP
  have hq1 : 1 ≤ q := by omega
  have hqb : q ≤ 100 := by omega
  have hq64 : wrap64 (q : Int) = (q : Int) := by unfold wrap64; omega
  clear h hp hl hlo hhi hk hv hle hsz hq hn
  go_enter Try.func45, Try.ntmps45
  go_wp2_with (go_at_call 32; refine CS.out.mono ?_; rintro e w' ⟨rfl, rfl⟩)
  have T1 := Two.start w N HH.out
  generalize w.alloc (.cells #[.slice none 0 0, .slice none 0 0, .slice none 0 0] 70) = w1 at T1 ⊢
  have CL := leaf_any w1 N T1.na
  rw [HLE.out] at CL
  have J0 := CP w1 T1.na.rp
  have d0 := T1.na.c2
  rw [HP.out] at d0 J0
  have HT1 := Lib.hid T1
  clear T1 CP
  refine CL.mono ?_
  clear CL
  rintro e w' ⟨rfl, rfl⟩
  go_wp2_with (go_at_call 60; refine J0.out.mono ?_)
  first | (rintro e w2 v1 v2 rfl r1 r2 r3 r4) | (rintro e w2 ⟨v1, v2, rfl, r1, r2, r3, r4⟩)
  rw [← List.map_take] at r1
  rw [← List.map_drop] at r3
  have hb2 := HT1.out.p1 (by rw [HP.out]; exact r1)
  have HB2 := Lib.hid hb2
  have o1 := Lib.hid r1.row.one
  have o2 := Lib.hid r3.one
  have R1 := Lib.hid r1
  have R2 := Lib.hid r2
  have R3 := Lib.hid r3
  have R4 := Lib.hid r4
  clear r1 r2 r3 r4 hb2 J0
  go_wp2_with (refine wpList_store rfl 68 _ _ rfl N.b 2 70 _ [v1] _ rfl rfl HB2.out o1.out.2 size68 (by simp) (one1 o1.out.1) ?_)
  intro w3 hb3 hw3
  have hb3' := HT1.out.p2 (by rw [HP.out]; exact R1.out) hw3
  have HB3 := Lib.hid hb3
  have HB3' := Lib.hid hb3'
  have HW3 := Lib.hid hw3
  clear hb3 hb3' hw3
  go_wp2_with (refine wpList_store rfl 68 _ _ rfl _ 2 70 _ [v2] _ rfl rfl HB3'.out o2.out.2 size68 (by simp) (one1 o2.out.1) ?_)
  intro w4 hb4 hw4
  have T2 := HT1.out.p3 (a := N.ps.take q) (b := N.ps.drop q) (by rw [HP.out]; exact R1.out) (by rw [HP.out]; exact R2.out) R3.out R4.out HB3.out HW3.out hb4 hw4
  have HT2 := Lib.hid T2
  have J := CK w4 T2.na.rk
  have d1 := T2.na.c0
  simp only at d1
  rw [HK.out] at d1 J
  clear hb4 hw4 T2 CK
  go_wp2_with (go_at_call 58; refine J.out.mono ?_)
  first | (rintro e w5 u1 u2 rfl r1 r2 r3 r4) | (rintro e w5 ⟨u1, u2, rfl, r1, r2, r3, r4⟩)
  have RW := Lib.hid r1.row
  rw [← List.map_take] at r1
  rw [← List.map_drop] at r3
  have hb2 := HT2.out.k1 (a := N.ks.take q) (by simp only; rw [HK.out]; exact r1)
  have HC2 := Lib.hid hb2
  have p1 := Lib.hid r1.row.one
  have p2 := Lib.hid r3.one
  have S1 := Lib.hid r1
  have S2 := Lib.hid r2
  have S3 := Lib.hid r3
  have S4 := Lib.hid r4
  clear r1 r2 r3 r4 hb2 J
  go_wp2_with (refine wpList_store rfl 36 _ _ rfl N.b 0 70 _ [u1] _ rfl rfl HC2.out p1.out.2 size36 (by simp) (one1 p1.out.1) ?_)
  intro w6 hb3 hw3
  have hb3' := HT2.out.k2 (a := N.ks.take q) (by simp only; rw [HK.out]; exact S1.out) hw3
  have HC3 := Lib.hid hb3
  have HC3' := Lib.hid hb3'
  have HW6 := Lib.hid hw3
  clear hb3 hb3' hw3
  go_wp2_with (refine wpList_store rfl 36 _ _ rfl _ 0 70 _ [u2] _ rfl rfl HC3'.out p2.out.2 size36 (by simp) (one1 p2.out.1) ?_)
  intro w7 hb4 hw4
  have T3 := HT2.out.k3 (a := N.ks.take q) (b := N.ks.drop q) (by simp only; rw [HK.out]; exact S1.out) (by simp only; rw [HK.out]; exact S2.out) S3.out S4.out HC3.out HW6.out hb4 hw4
  have HT3 := Lib.hid T3
  have hrow : Row w7 2 u1 ((N.ks.take q).map i64) := T3.na.rk
  obtain ⟨g, cp, hfm, hlc, hmc, hce⟩ := hrow.int_at (j := q - 1) (by rw [HTK.out]; omega)
  rw [HGD.out] at hce
  rw [HTK.out] at hfm hlc
  have hrt := Row.take (by rw [← hfm]; exact hrow) (q - 1) (by rw [List.length_map, HTK.out]; omega) (cap := cp)
  rw [← List.map_take, HTT.out] at hrt
  have e0 := T3.na.c0
  simp only at e0
  rw [hfm] at e0
  have HFM := Lib.hid hfm
  have HRT := Lib.hid hrt
  have HBL := Lib.hid T3.na.blk
  unfold maxLen at hmc
  clear hb4 hw4 T3 hfm hrow hrt
  clear hq64
  have hw1 : IntKind.i64.wrap ((q : Int) - 1) = ((q - 1 : Nat) : Int) := by rw [IntKind.wrap_i64]; omega
  have hw1' : (q : Int) - 1 = ((q - 1 : Nat) : Int) := by omega
  have hq1l : q - 1 < q := by omega
  have hq1c : q - 1 ≤ cp := by omega
  have HQ1 := Lib.hid hq1
  clear hq1 HQ HN
  go_wp2_with (refine wpList_store rfl 36 _ _ rfl N.b 0 70 _ [.slice (some ⟨g, 0, none⟩) (q - 1) cp] _ rfl rfl HBL.out rfl size36 (by simp) (one1 rfl) ?_)
  intro w8 hb8 hw8
  have X : Nx w7 _ w8 _ := Nx.keys (ks' := N.ks.take (q - 1)) HT3.out.na ⟨HRT.out, Fr.refl _ _, fun k hk => .inl (by simp only; rw [HFM.out]; exact hk)⟩ hb8 hw8
  have T4 := HT3.out.nx X (fun k hk => by
    rcases hk with hk | hk | hk | hk
    · exact .inl hk
    · exact .inr (.inl (by simp only; rw [HFM.out]; exact hk))
    · exact .inr (.inr (.inl hk))
    · exact .inr (.inr (.inr hk)))
  have HT4 := Lib.hid T4
  clear hb8 hw8 X T4
  go_wp2
  go_ret2
  refine ⟨_, _, _, _, ?_, HT4.out, rfl, rfl, rfl⟩
  rfl
end Go.Proofs.Ytjdlicphmflnkaa.L5
