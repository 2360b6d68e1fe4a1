/-
  Layer 5: halve: a node and a new one beside it.
-/
import Derived.Test.YtjdlicphmflnkaaT8
namespace Go.Proofs.Ytjdlicphmflnkaa.L5
open Go.ChangeShapes Go.WideShapes Go.ChangeAt Go.RowKit By Reg
set_option linter.unusedVariables false

/-- a node on its way, and a new one beside it -/
structure Two (w0 : World) (N0 : Nd) (w : World) (N M : Nd) : Prop where
  na : NodeAt w N
  ma : NodeAt w M
  nb : N.b = N0.b
  nh : ∀ k, N.has k → N0.has k
  mh : ∀ k, M.has k → w0.heap.size ≤ k
  n0 : ∀ k, N0.has k → k < w0.heap.size
  fr : Fr N0.has w0 w

namespace Two
variable {w0 w w1 w2 w3 : World} {N0 N M : Nd}
theorem ne (h : Two w0 N0 w N M) : M.b ≠ N.b := fun e => by
  have a := h.mh M.b (.inl rfl)
  have b := h.n0 N.b (h.nh _ (.inl rfl))
  omega
theorem off (h : Two w0 N0 w N M) {k : Nat} (hm : M.has k) (hn : N.has k) : False := by
  have a := h.mh k hm
  have b := h.n0 k (h.nh _ hn)
  omega
theorem start (w : World) (N : Nd) (h : NodeAt w N) : Two w N (w.alloc (.cells #[.slice none 0 0, .slice none 0 0, .slice none 0 0] 70)) N ⟨w.heap.size, .slice none 0 0, .slice none 0 0, .slice none 0 0, [], [], []⟩ := by
  have hrb : Rb w (w.alloc (.cells #[.slice none 0 0, .slice none 0 0, .slice none 0 0] 70)) := (Below.refl _ w).alloc (Nat.le_refl _) _
  refine ⟨h.rb hrb, ⟨Blk.new w _ [.slice none 0 0, .slice none 0 0, .slice none 0 0], Row.nil _ _, Row.nil _ _, Row.nil _ _⟩, rfl, fun _ h => h, fun k hk => ?_, h.lt, Fr.of_rb hrb⟩
  rcases hk with rfl | hk | hk | hk
  · exact Nat.le_refl _
  · cases hk
  · cases hk
  · cases hk

theorem k1 (h : Two w0 N0 w N M) {a : List Int} {v1 : Value} (hr : Re w 2 N.kv (a.map i64) v1 w1) : Blk w1 N.b 70 [N.kv, N.vv, N.pv] :=
  h.na.blk.same (hr.fr.block _ h.na.blk.lt h.na.kb)
theorem k2 (h : Two w0 N0 w N M) {a : List Int} {v1 : Value} (hr : Re w 2 N.kv (a.map i64) v1 w1) (hw : Wrote N.b w1 w2) : Blk w2 M.b 70 [M.kv, M.vv, M.pv] :=
  h.ma.blk.same ((hw.block _ h.ne).trans (hr.fr.block _ h.ma.blk.lt fun e => h.off (.inl rfl) (.inr (.inl e))))
theorem k3 (h : Two w0 N0 w N M) {a b : List Int} {v1 v2 : Value} (hr : Re w 2 N.kv (a.map i64) v1 w1) (ho : v1.ownBlock = N.kv.ownBlock) (h2 : Row w1 2 v2 (b.map i64)) (hn : ∀ k, v2.ownBlock = some k → w.heap.size ≤ k)
    (hb2 : Blk w2 N.b 70 [v1, N.vv, N.pv]) (hw2 : Wrote N.b w1 w2) (hb3 : Blk w3 M.b 70 [v2, M.vv, M.pv]) (hw3 : Wrote M.b w2 w3) :
    Two w0 N0 w3 { N with kv := v1, ks := a } { M with kv := v2, ks := b } := by
  have x1 := Nx.keys h.na hr hb2 hw2
  have hNh : ∀ k, Nd.has { N with kv := v1, ks := a } k → N.has k := fun k hk => by
    rcases hk with hk | hk | hk | hk
    · exact .inl hk
    all_goals first | exact .inr (.inl hk) | exact .inr (.inr (.inl hk)) | exact .inr (.inr (.inr hk)) | exact .inr (.inl (by rw [← ho]; exact hk)) | exact .inr (.inr (.inl (by rw [← ho]; exact hk))) | exact .inr (.inr (.inr (by rw [← ho]; exact hk)))
  have hm2 : NodeAt w2 M := h.ma.fr x1.fr (fun k hk hk' => h.off hk hk')
  have hv2 : Row w2 2 v2 (b.map i64) := h2.same fun k hk => hw2.block k (fun e => by
    have a := hn k hk
    have b := h.na.blk.lt
    omega)
  have hvM : v2.ownBlock ≠ some M.b := hv2.not_blk hm2.blk (by decide)
  have hnb : ∀ k, Nd.has { N with kv := v1, ks := a } k → k ≠ M.b := fun k hk e => h.off (.inl e) (hNh k hk)
  refine ⟨x1.at_.same (fun k hk => hw3.block k (hnb k hk)), ⟨hb3, ?_, ?_, ?_⟩, h.nb, fun k hk => h.nh k (hNh k hk), ?_, h.n0, ?_⟩
  · exact hv2.same fun k hk => hw3.block k (fun e => hvM (by rw [← e]; exact hk))
  · exact hm2.rv.same fun k hk => hw3.block k (fun e => hm2.vb (by rw [← e]; exact hk))
  · exact hm2.rp.same fun k hk => hw3.block k (fun e => hm2.pb (by rw [← e]; exact hk))
  · intro k hk
    have hsz := h.fr.size
    rcases hk with hk | hk | hk | hk
    · exact h.mh k (.inl hk)
    · have := hn k hk; omega
    · exact h.mh k (.inr (.inr (.inl hk)))
    · exact h.mh k (.inr (.inr (.inr hk)))
  · refine ((h.fr.trans x1.fr (fun k hk => .inl (h.nh k hk)))).wrote hw3 (.inr (h.mh _ (.inl rfl)))

theorem v1 (h : Two w0 N0 w N M) {a : List Int} {v1 : Value} (hr : Re w 3 N.vv (a.map i64) v1 w1) : Blk w1 N.b 70 [N.kv, N.vv, N.pv] :=
  h.na.blk.same (hr.fr.block _ h.na.blk.lt h.na.vb)
theorem v2 (h : Two w0 N0 w N M) {a : List Int} {v1 : Value} (hr : Re w 3 N.vv (a.map i64) v1 w1) (hw : Wrote N.b w1 w2) : Blk w2 M.b 70 [M.kv, M.vv, M.pv] :=
  h.ma.blk.same ((hw.block _ h.ne).trans (hr.fr.block _ h.ma.blk.lt fun e => h.off (.inl rfl) (.inr (.inr (.inl e)))))
theorem v3 (h : Two w0 N0 w N M) {a b : List Int} {v1 v2 : Value} (hr : Re w 3 N.vv (a.map i64) v1 w1) (ho : v1.ownBlock = N.vv.ownBlock) (h2 : Row w1 3 v2 (b.map i64)) (hn : ∀ k, v2.ownBlock = some k → w.heap.size ≤ k)
    (hb2 : Blk w2 N.b 70 [N.kv, v1, N.pv]) (hw2 : Wrote N.b w1 w2) (hb3 : Blk w3 M.b 70 [M.kv, v2, M.pv]) (hw3 : Wrote M.b w2 w3) :
    Two w0 N0 w3 { N with vv := v1, vs := a } { M with vv := v2, vs := b } := by
  have x1 := Nx.vals h.na hr hb2 hw2
  have hNh : ∀ k, Nd.has { N with vv := v1, vs := a } k → N.has k := fun k hk => by
    rcases hk with hk | hk | hk | hk
    · exact .inl hk
    all_goals first | exact .inr (.inl hk) | exact .inr (.inr (.inl hk)) | exact .inr (.inr (.inr hk)) | exact .inr (.inl (by rw [← ho]; exact hk)) | exact .inr (.inr (.inl (by rw [← ho]; exact hk))) | exact .inr (.inr (.inr (by rw [← ho]; exact hk)))
  have hm2 : NodeAt w2 M := h.ma.fr x1.fr (fun k hk hk' => h.off hk hk')
  have hv2 : Row w2 3 v2 (b.map i64) := h2.same fun k hk => hw2.block k (fun e => by
    have a := hn k hk
    have b := h.na.blk.lt
    omega)
  have hvM : v2.ownBlock ≠ some M.b := hv2.not_blk hm2.blk (by decide)
  have hnb : ∀ k, Nd.has { N with vv := v1, vs := a } k → k ≠ M.b := fun k hk e => h.off (.inl e) (hNh k hk)
  refine ⟨x1.at_.same (fun k hk => hw3.block k (hnb k hk)), ⟨hb3, ?_, ?_, ?_⟩, h.nb, fun k hk => h.nh k (hNh k hk), ?_, h.n0, ?_⟩
  · exact hm2.rk.same fun k hk => hw3.block k (fun e => hm2.kb (by rw [← e]; exact hk))
  · exact hv2.same fun k hk => hw3.block k (fun e => hvM (by rw [← e]; exact hk))
  · exact hm2.rp.same fun k hk => hw3.block k (fun e => hm2.pb (by rw [← e]; exact hk))
  · intro k hk
    have hsz := h.fr.size
    rcases hk with hk | hk | hk | hk
    · exact h.mh k (.inl hk)
    · exact h.mh k (.inr (.inl hk))
    · have := hn k hk; omega
    · exact h.mh k (.inr (.inr (.inr hk)))
  · refine ((h.fr.trans x1.fr (fun k hk => .inl (h.nh k hk)))).wrote hw3 (.inr (h.mh _ (.inl rfl)))

theorem p1 (h : Two w0 N0 w N M) {a : List Nat} {v1 : Value} (hr : Re w 24 N.pv (a.map ptrv) v1 w1) : Blk w1 N.b 70 [N.kv, N.vv, N.pv] :=
  h.na.blk.same (hr.fr.block _ h.na.blk.lt h.na.pb)
theorem p2 (h : Two w0 N0 w N M) {a : List Nat} {v1 : Value} (hr : Re w 24 N.pv (a.map ptrv) v1 w1) (hw : Wrote N.b w1 w2) : Blk w2 M.b 70 [M.kv, M.vv, M.pv] :=
  h.ma.blk.same ((hw.block _ h.ne).trans (hr.fr.block _ h.ma.blk.lt fun e => h.off (.inl rfl) (.inr (.inr (.inr e)))))
theorem p3 (h : Two w0 N0 w N M) {a b : List Nat} {v1 v2 : Value} (hr : Re w 24 N.pv (a.map ptrv) v1 w1) (ho : v1.ownBlock = N.pv.ownBlock) (h2 : Row w1 24 v2 (b.map ptrv)) (hn : ∀ k, v2.ownBlock = some k → w.heap.size ≤ k)
    (hb2 : Blk w2 N.b 70 [N.kv, N.vv, v1]) (hw2 : Wrote N.b w1 w2) (hb3 : Blk w3 M.b 70 [M.kv, M.vv, v2]) (hw3 : Wrote M.b w2 w3) :
    Two w0 N0 w3 { N with pv := v1, ps := a } { M with pv := v2, ps := b } := by
  have x1 := Nx.parts h.na hr hb2 hw2
  have hNh : ∀ k, Nd.has { N with pv := v1, ps := a } k → N.has k := fun k hk => by
    rcases hk with hk | hk | hk | hk
    · exact .inl hk
    all_goals first | exact .inr (.inl hk) | exact .inr (.inr (.inl hk)) | exact .inr (.inr (.inr hk)) | exact .inr (.inl (by rw [← ho]; exact hk)) | exact .inr (.inr (.inl (by rw [← ho]; exact hk))) | exact .inr (.inr (.inr (by rw [← ho]; exact hk)))
  have hm2 : NodeAt w2 M := h.ma.fr x1.fr (fun k hk hk' => h.off hk hk')
  have hv2 : Row w2 24 v2 (b.map ptrv) := h2.same fun k hk => hw2.block k (fun e => by
    have a := hn k hk
    have b := h.na.blk.lt
    omega)
  have hvM : v2.ownBlock ≠ some M.b := hv2.not_blk hm2.blk (by decide)
  have hnb : ∀ k, Nd.has { N with pv := v1, ps := a } k → k ≠ M.b := fun k hk e => h.off (.inl e) (hNh k hk)
  refine ⟨x1.at_.same (fun k hk => hw3.block k (hnb k hk)), ⟨hb3, ?_, ?_, ?_⟩, h.nb, fun k hk => h.nh k (hNh k hk), ?_, h.n0, ?_⟩
  · exact hm2.rk.same fun k hk => hw3.block k (fun e => hm2.kb (by rw [← e]; exact hk))
  · exact hm2.rv.same fun k hk => hw3.block k (fun e => hm2.vb (by rw [← e]; exact hk))
  · exact hv2.same fun k hk => hw3.block k (fun e => hvM (by rw [← e]; exact hk))
  · intro k hk
    have hsz := h.fr.size
    rcases hk with hk | hk | hk | hk
    · exact h.mh k (.inl hk)
    · exact h.mh k (.inr (.inl hk))
    · exact h.mh k (.inr (.inr (.inl hk)))
    · have := hn k hk; omega
  · refine ((h.fr.trans x1.fr (fun k hk => .inl (h.nh k hk)))).wrote hw3 (.inr (h.mh _ (.inl rfl)))

end Two

set_option maxHeartbeats 2000000 in
set_option maxRecDepth 100000 in
theorem halve_leaf (w : World) (N : Nd) (h : NodeAt w N) (hp : N.ps = []) (hl : N.vs.length = N.ks.length) (hlo : 9 ≤ N.ks.length) (hhi : N.ks.length ≤ 100) :
    Calls Try.prog 45 #[ptrv N.b] w fun e w' =>
      ∃ kv vv pv M, e = .returned (.tuple #[i64 (N.ks.getD (N.ks.length / 2) 0), ptrv M.b]) ∧ Two w N w' { N with kv := kv, vv := vv, pv := pv, ks := N.ks.take (N.ks.length / 2), vs := N.vs.take (N.ks.length / 2) } M ∧ M.ks = N.ks.drop (N.ks.length / 2) ∧ M.vs = N.vs.drop (N.ks.length / 2) ∧ M.ps = [] := by
  have hle : isLeaf N = true := by unfold isLeaf; rw [hp]; rfl
  have hsz : sizeN N = N.ks.length := by unfold sizeN; rw [hle]; rfl
  have CS := Lib.hid (size_any w N h)
  rw [hsz] at CS
  obtain ⟨q, hq⟩ : ∃ q, q = N.ks.length / 2 := ⟨_, rfl⟩
  obtain ⟨n, hn⟩ : ∃ n, n = N.ks.length := ⟨_, rfl⟩
  have CK : ∀ w2, Row w2 2 N.kv (N.ks.map i64) → Hid (Calls Try.prog 58 #[N.kv, i64 q] w2 fun e w' => ∃ v1 v2, e = .returned (.tuple #[v1, v2]) ∧ Re w2 2 N.kv ((N.ks.map i64).take q) v1 w' ∧ v1.ownBlock = N.kv.ownBlock ∧ Row w' 2 v2 ((N.ks.map i64).drop q) ∧ (∀ k, v2.ownBlock = some k → w2.heap.size ≤ k)) :=
    fun w2 hr => Lib.hid (cut_any_K w2 N.kv q (N.ks.map i64) hr (by rw [List.length_map]; omega) (by rw [List.length_map]; omega) i64_one)
  have CV : ∀ w2, Row w2 3 N.vv (N.vs.map i64) → Hid (Calls Try.prog 59 #[N.vv, i64 q] w2 fun e w' => ∃ v1 v2, e = .returned (.tuple #[v1, v2]) ∧ Re w2 3 N.vv ((N.vs.map i64).take q) v1 w' ∧ v1.ownBlock = N.vv.ownBlock ∧ Row w' 3 v2 ((N.vs.map i64).drop q) ∧ (∀ k, v2.ownBlock = some k → w2.heap.size ≤ k)) :=
    fun w2 hr => Lib.hid (cut_any_V w2 N.vv q (N.vs.map i64) hr (by rw [List.length_map]; omega) (by rw [List.length_map]; omega) i64_one)
  obtain ⟨ao, cap, hk, _, _⟩ := h.kform
  obtain ⟨ao2, cap2, hv, _, _⟩ := h.vform
  have HK := Lib.hid hk
  have HV := Lib.hid hv
  have HH := Lib.hid h
  have HLE := Lib.hid hle
  have hqn : (n : Int) / 2 = (q : Int) := by omega
  have HQ := Lib.hid hq
  have HN := Lib.hid hn
  have hdl : 0 < (N.ks.drop q).length := by rw [List.length_drop]; omega
  have hgd : (N.ks.drop q)[0] = N.ks.getD q 0 := by
    rw [List.getElem_drop, List.getD_eq_getElem?_getD, List.getElem?_eq_getElem (by omega)]
    rfl
  obtain ⟨kk, hkk⟩ : ∃ kk, kk = N.ks.getD q 0 := ⟨_, rfl⟩
  rw [← hkk] at hgd
  have HDL := Lib.hid hdl
  have HGD := Lib.hid hgd
  rw [← hq, ← hkk]
  clear hkk
  rw [← hn] at CS HK
  have hq64 : wrap64 (q : Int) = (q : Int) := by unfold wrap64; omega
  clear h hp hl hlo hhi hk hv hle hsz hq hn
  go_enter Try.func45, Try.ntmps45
  go_wp2_with (go_at_call 32; refine CS.out.mono ?_; rintro e w' ⟨rfl, rfl⟩)
  have T1 := Two.start w N HH.out
  generalize w.alloc (.cells #[.slice none 0 0, .slice none 0 0, .slice none 0 0] 70) = w1 at T1 ⊢
  have CL := leaf_any w1 N T1.na
  rw [HLE.out] at CL
  have J0 := CK w1 T1.na.rk
  have d0 := T1.na.c0
  rw [HK.out] at d0 J0
  have HT1 := Lib.hid T1
  clear T1 CK
  refine CL.mono ?_
  clear CL
  rintro e w' ⟨rfl, rfl⟩
  go_wp2_with (go_at_call 58; refine J0.out.mono ?_)
  first | (rintro e w2 v1 v2 rfl r1 r2 r3 r4) | (rintro e w2 ⟨v1, v2, rfl, r1, r2, r3, r4⟩)
  rw [← List.map_take] at r1
  rw [← List.map_drop] at r3
  have hb2 := HT1.out.k1 (by rw [HK.out]; exact r1)
  have HB2 := Lib.hid hb2
  have o1 := Lib.hid r1.row.one
  have o2 := Lib.hid r3.one
  have R1 := Lib.hid r1
  have R2 := Lib.hid r2
  have R3 := Lib.hid r3
  have R4 := Lib.hid r4
  clear r1 r2 r3 r4 hb2 J0
  go_wp2_with (refine wpList_store rfl 36 _ _ rfl N.b 0 70 _ [v1] _ rfl rfl HB2.out o1.out.2 size36 (by simp) (one1 o1.out.1) ?_)
  intro w3 hb3 hw3
  have hb3' := HT1.out.k2 (by rw [HK.out]; exact R1.out) hw3
  have HB3 := Lib.hid hb3
  have HB3' := Lib.hid hb3'
  have HW3 := Lib.hid hw3
  clear hb3 hb3' hw3
  go_wp2_with (refine wpList_store rfl 36 _ _ rfl _ 0 70 _ [v2] _ rfl rfl HB3'.out o2.out.2 size36 (by simp) (one1 o2.out.1) ?_)
  intro w4 hb4 hw4
  have T2 := HT1.out.k3 (a := N.ks.take q) (b := N.ks.drop q) (by rw [HK.out]; exact R1.out) (by rw [HK.out]; exact R2.out) R3.out R4.out HB3.out HW3.out hb4 hw4
  have HT2 := Lib.hid T2
  have J := CV w4 T2.na.rv
  have d1 := T2.na.c1
  simp only at d1
  rw [HV.out] at d1 J
  clear hb4 hw4 T2 CV
  go_wp2_with (go_at_call 59; refine J.out.mono ?_)
  first | (rintro e w5 u1 u2 rfl r1 r2 r3 r4) | (rintro e w5 ⟨u1, u2, rfl, r1, r2, r3, r4⟩)
  rw [← List.map_take] at r1
  rw [← List.map_drop] at r3
  have hb2 := HT2.out.v1 (a := N.vs.take q) (by simp only; rw [HV.out]; exact r1)
  have HC2 := Lib.hid hb2
  have p1 := Lib.hid r1.row.one
  have p2 := Lib.hid r3.one
  have S1 := Lib.hid r1
  have S2 := Lib.hid r2
  have S3 := Lib.hid r3
  have S4 := Lib.hid r4
  clear r1 r2 r3 r4 hb2 J
  go_wp2_with (refine wpList_store rfl 67 _ _ rfl N.b 1 70 _ [u1] _ rfl rfl HC2.out p1.out.2 size67 (by simp) (one1 p1.out.1) ?_)
  intro w6 hb3 hw3
  have hb3' := HT2.out.v2 (a := N.vs.take q) (by simp only; rw [HV.out]; exact S1.out) hw3
  have HC3 := Lib.hid hb3
  have HC3' := Lib.hid hb3'
  have HW6 := Lib.hid hw3
  clear hb3 hb3' hw3
  go_wp2_with (refine wpList_store rfl 67 _ _ rfl _ 1 70 _ [u2] _ rfl rfl HC3'.out p2.out.2 size67 (by simp) (one1 p2.out.1) ?_)
  intro w7 hb4 hw4
  have T3 := HT2.out.v3 (a := N.vs.take q) (b := N.vs.drop q) (by simp only; rw [HV.out]; exact S1.out) (by simp only; rw [HV.out]; exact S2.out) S3.out S4.out HC3.out HW6.out hb4 hw4
  have HT3 := Lib.hid T3
  obtain ⟨g, cp, hfm, _, _, hce⟩ := T3.ma.rk.at_ (j := 0) (by simpa using HDL.out)
  have e0 : w7.cell? ⟨w.heap.size, 0, none⟩ = some v2 := T3.ma.c0
  simp only at hfm hce
  obtain ⟨m, hm⟩ : ∃ m, m = (List.map i64 (List.drop q N.ks)).length := ⟨_, rfl⟩
  have hmp : 0 < m := by rw [hm, List.length_map]; exact HDL.out
  rw [← hm] at hfm
  clear hm
  rw [hfm] at e0
  simp only [List.getElem_map, HGD.out] at hce
  clear hb4 hw4 T3 hfm
  go_wp2
  go_ret2
  refine ⟨_, _, _, _, ?_, HT3.out, rfl, rfl, rfl⟩
  rfl
end Go.Proofs.Ytjdlicphmflnkaa.L5
