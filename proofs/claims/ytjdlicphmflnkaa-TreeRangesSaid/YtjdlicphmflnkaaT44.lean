/-
  Layer 5: TreeRanges.
-/
import Derived.Test.YtjdlicphmflnkaaT43
import Derived.Test.YtjdlicphmflnkaaT33
namespace Go.Proofs.Ytjdlicphmflnkaa.L5
open Go.ChangeShapes Go.WideShapes Go.ChangeAt Go.RowKit Go.Shelf By Reg
set_option linter.unusedVariables false
attribute [local go_sem] Oper.semAt_some

theorem delL_le (x : Int) (L : List Th) : (delL x L).length ≤ L.length := (delL_sub x L).length_le
theorem not_kind_ptr : ¬ kind 23 := fun h => by rcases h with h | h | h | h | h <;> exact absurd h (by decide)
theorem Blk.fr_kind {w w' : World} {N : Nat} {T : TypeId} {cs : List Value} {p : Nat} {L : List Th} {F : Nat → Prop} (h : Blk w N T cs) (hT : ¬ kind T) (ht : TreeAt w p L F) (hf : Fr F w w') : Blk w' N T cs := h.same (hf.block N h.lt fun hF => by
  obtain ⟨T', cs', hb, hk⟩ := ht.typ N hF
  obtain ⟨rfl, _⟩ := h.inj hb
  exact hT hk)

/-- what a round of the range keeps -/
structure RG (w : World) (vl : Value) (L : List Th) (p tb Bn : Nat) (c bd : Nat) (W : World) (L' : List Th) (F' : Nat → Prop) : Prop where
  tree : TreeAt W p L' F'
  new : ∀ k, F' k → w.heap.size ≤ k
  off : ¬ F' Bn
  row : PRow W vl L
  box : Blk W tb 23 [ptrv p]
  cnt : Blk W Bn 3 [i64 c]
  rb : Rb w W
  len : L'.length ≤ bd
theorem RG.ck {w : World} {vl : Value} {L L' : List Th} {p tb Bn c bd B : Nat} {W W' : World} {F' : Nat → Prop} (h : RG w vl L p tb Bn c bd W L' F') (k : CK B W W') (hB : w.heap.size ≤ B) : RG w vl L p tb Bn c bd W' L' F' :=
  ⟨h.tree.ck k, h.new, h.off, h.row.ck k, h.box.ck k, h.cnt.ck k, rb_ck h.rb k hB, h.len⟩
theorem RG.step {w : World} {vl : Value} {L L' L2 : List Th} {p tb Bn c bd : Nat} {W W' : World} {F' F2 : Nat → Prop} (h : RG w vl L p tb Bn c bd W L' F') (t : TreeAt W' p L2 F2) (f : Fr F' W W') (n : ∀ k, F2 k → F' k ∨ W.heap.size ≤ k) {bd2 : Nat} (hl : L2.length ≤ bd2) : RG w vl L p tb Bn c bd2 W' L2 F2 := by
  have hs := h.rb.size
  refine ⟨t, fun k hk => ?_, fun hk => ?_, h.row.fr h.tree f, h.box.fr_kind not_kind_ptr h.tree f, h.cnt.same (f.block _ h.cnt.lt h.off), ((Fr.of_rb (F := fun _ => False) h.rb).trans f (fun k hk => .inr (h.new k hk))).rb (fun k hk => hk.elim), hl⟩
  · rcases n k hk with h' | h'
    · exact h.new k h'
    · omega
  · rcases n Bn hk with h' | h'
    · exact h.off h'
    · have := h.cnt.lt; omega
theorem RG.rb' {w : World} {vl : Value} {L L' : List Th} {p tb Bn c bd : Nat} {W W' : World} {F' : Nat → Prop} (h : RG w vl L p tb Bn c bd W L' F') (r : Rb W W') : RG w vl L p tb Bn c bd W' L' F' :=
  ⟨h.tree.rb r, h.new, h.off, h.row.rb r, h.box.rb r, h.cnt.rb r, Rb.trans _ _ _ h.rb r, h.len⟩
theorem RG.count {w : World} {vl : Value} {L L' : List Th} {p tb Bn c bd : Nat} {W : World} {F' : Nat → Prop} (h : RG w vl L p tb Bn c bd W L' F') (hB : w.heap.size ≤ Bn) (c' : Nat) : RG w vl L p tb Bn c' bd (W.setCell ⟨Bn, 0, none⟩ (i64 c')) L' F' := by
  obtain ⟨hb, hw⟩ := blk_set1 h.cnt (i64 c')
  refine ⟨h.tree.same fun k hk => hw.block k (fun e => h.off (by rw [← e]; exact hk)), h.new, h.off, h.row.same fun k hk => hw.block k (fun e => ?_), h.box.same (hw.block _ (fun e => ?_)), hb, ((Fr.of_rb (F := fun _ => False) h.rb).wrote hw (.inr hB)).rb (fun k hk => hk.elim), h.len⟩
  · subst e
    exact h.row.off h.cnt (.inr (.inr (.inr (.inl rfl)))) hk
  · have h1 := h.box
    rw [e] at h1
    exact absurd (h1.inj h.cnt).1 (by decide)

theorem filt_take_succ (lo hi : Int) (L : List Th) (i : Nat) (h : i < L.length) : (filt lo hi (L.take (i + 1))).length = (filt lo hi (L.take i)).length + (if inR lo hi (L.getD i (0, 0)) then 1 else 0) := by
  rw [List.take_succ_eq_append_getElem h, filt_append, List.length_append, List.getD_eq_getElem?_getD, List.getElem?_eq_getElem h]
  show _ = _ + (if inR lo hi L[i] = true then 1 else 0)
  congr 1
  unfold filt
  by_cases hx : inR lo hi L[i] = true
  · rw [List.filter_cons_of_pos hx, if_pos hx]; rfl
  · rw [List.filter_cons_of_neg hx, if_neg hx]; rfl

set_option maxHeartbeats 4000000 in
set_option maxRecDepth 100000 in
theorem ranges_walk (w : World) (v : Value) (ks : List Int) (h : Sl w v (ks.map i64)) (lo hi : Int) :
    Calls Try.prog 4 #[v, i64 lo, i64 hi] w fun e w' => e = .returned (.bool true) ∧ Below w.heap.size w w' := by
  have CM := Lib.hid (made_any w v ks h)
  obtain ⟨ao, cap, rfl, _⟩ := h.form
  obtain ⟨L, hL⟩ : ∃ L, L = madeL ks := ⟨_, rfl⟩
  have hL3 : L.length ≤ 300 := by rw [hL]; exact madeL_le ks
  rw [← hL] at CM
  clear h hL
  generalize ks.length = m0 at CM ⊢
  refine (callsIn_wide (n := 7)).1 (callsIn_of_wp_marks Try.func4 rfl trivial (wpIn_wide.2 ?_) rfl)
  simp only [Try.ntmps4, List.size_toArray, List.length_cons, List.length_nil, Nat.reduceAdd, Nat.reduceSub, Array.replicate_succ, Array.replicate_zero, List.push_toArray, List.append_toArray, List.nil_append, List.cons_append]
  go_wp2_with (go_at_call 12; refine CM.out.mono ?_)
  first | (rintro e w1 p vl F rfl hm) | (rintro e w1 ⟨p, vl, F, rfl, hm⟩)
  obtain ⟨w2, e2⟩ : ∃ w2, w2 = w1.alloc (.cells #[ptrv p] 23) := ⟨_, rfl⟩
  have r2 : Rb w1 w2 := by rw [e2]; exact (Below.refl _ w1).alloc (Nat.le_refl _) _
  have b2 : Blk w2 w1.heap.size 23 [ptrv p] := by rw [e2]; exact Blk.new w1 _ [ptrv p]
  have CRg := Lib.hid (ranged_any p vl lo hi L F w2 (hm.tree.rb r2) (hm.row.rb r2) (by omega))
  have E2 := Lib.hid e2
  have R2 := Lib.hid r2
  have HM := Lib.hid hm
  have HB2 := Lib.hid b2
  have c2 : w2.cell? ⟨w1.heap.size, 0, none⟩ = some (ptrv p) := b2.cell 0
  clear hm r2 e2 b2 CM
  go_wp2_with (rw [← E2.out]; go_at_call 13; refine CRg.out.mono ?_)
  rintro e w3 ⟨rfl, hr3⟩
  obtain ⟨tb, htb⟩ : ∃ tb, tb = w1.heap.size := ⟨_, rfl⟩
  rw [← htb]
  obtain ⟨w4, e4⟩ : ∃ w4, w4 = w3.alloc (.cells #[i64 0] 3) := ⟨_, rfl⟩
  have r4 : Rb w3 w4 := by rw [e4]; exact (Below.refl _ w3).alloc (Nat.le_refl _) _
  have b4 : Blk w4 w3.heap.size 3 [i64 0] := by rw [e4]; exact Blk.new w3 _ [i64 0]
  have r14 : Rb w1 w4 := Rb.trans _ _ _ R2.out (Rb.trans _ _ _ hr3 r4)
  have hb4 : Blk w4 tb 23 [ptrv p] := by rw [htb]; exact HB2.out.rb (Rb.trans _ _ _ hr3 r4)
  have hlt : tb < w3.heap.size := by rw [htb]; exact (HB2.out.rb hr3).lt
  have c3 : w3.cell? ⟨tb, 0, none⟩ = some (ptrv p) := by rw [htb]; exact (HB2.out.rb hr3).cell 0
  have c4 : w4.cell? ⟨tb, 0, none⟩ = some (ptrv p) := hb4.cell 0
  have E4 := Lib.hid e4
  have H4 : Hid (Rb w1 w4 ∧ Blk w4 w3.heap.size 3 [i64 0] ∧ Blk w4 tb 23 [ptrv p] ∧ w1.heap.size ≤ w3.heap.size ∧ tb = w1.heap.size ∧ w4.heap.size = w3.heap.size + 1) := ⟨r14, b4, hb4, Nat.le_trans R2.out.size hr3.size, htb, by rw [e4]; simp⟩
  clear e4 r4 b4 r14 hb4 hr3 CRg htb c2
  go_wp2_with (rw [← E4.out]; refine (makes_rangeC _ _ _ _).mono ?_; rintro e w' ⟨rfl, rfl⟩)
  obtain ⟨Bn, hBn⟩ : ∃ Bn, Bn = w3.heap.size := ⟨_, rfl⟩
  rw [← hBn] at H4 ⊢
  obtain ⟨W0, hW0⟩ : ∃ W0, W0 = rangeW w4 p lo hi := ⟨_, rfl⟩
  rw [← hW0]
  have r0 : Rb w4 W0 := by rw [hW0]; exact rangeW_rb _ _ _ _
  have its : Its w4.heap.size p lo hi W0 := by rw [hW0]; exact rangeW_its _ _ _ _
  obtain ⟨q1, q2, q3, q4, q5, q6⟩ := H4.out
  have hm := HM.out
  have hwb : w.heap.size ≤ Bn := Nat.le_trans hm.rb.size q4
  have g0 : RG w vl L p tb Bn 0 (300 + 0) W0 L F := ⟨hm.tree.rb (Rb.trans _ _ _ q1 r0), hm.new, fun hF => by have := hm.tree.lt _ hF; omega, hm.row.rb (Rb.trans _ _ _ q1 r0), q3.rb r0, q2.rb r0, Rb.trans _ _ _ hm.rb (Rb.trans _ _ _ q1 r0), by omega⟩
  have hW0s := r0.size
  have HWB := Lib.hid hwb
  have hB0 : w.heap.size ≤ W0.heap.size := by omega
  have HFL := Lib.hid (filt_le lo hi L)
  clear hBn hW0 r0 q1 q2 q3 q4 q5 q6 hlt c3 c4 H4 HB2 R2 E2 E4 hm HM
  refine wp_range_tree (Bt := w4.heap.size) (p := p) (lo := lo) (hi := hi) (L := L) (F := F) (by rfl) its g0.tree (by omega) (fun pre W => ∃ L' F', RG w vl L p tb Bn pre.length (300 + pre.length) W L' F') ?own ⟨L, F, g0⟩ ?round ?done
  case own => exact own_ck fun s W W' hk ⟨L', F', h⟩ => ⟨L', F', h.ck hk hB0⟩
  case round =>
    intro x
    apply Exists.intro
    refine ⟨?asg, ?bod⟩
    case asg =>
      intro l W K hK
      simp only [List.setIfInBounds_toArray, List.set_cons_succ, List.set_cons_zero]
      gi_wp2
      exact hK
    case bod =>
      intro l pre r W hI hf hN
      obtain ⟨L', F', g⟩ := hI
      have hpl : pre.length < 300 := by
        have := HFL.out
        rw [hf, List.length_append, List.length_cons] at this
        omega
      have ct : W.cell? ⟨tb, 0, none⟩ = some (ptrv p) := g.box.cell 0
      have CD := Lib.hid (tdel x.1 W p L' F' g.tree (by have := g.len; omega))
      have G := Lib.hid g
      obtain ⟨m, hm⟩ : ∃ m, m = pre.length := ⟨_, rfl⟩
      rw [← hm] at G hpl
      have HM := Lib.hid hm
      unfold TDel at CD
      clear g hf hN hm
      gi_wp2_with (refine ⟨trivial, ?_⟩; gi_at_call 15; refine (callsIn_round CD.out).mono ?_)
      first | (rintro e W2 F2 rfl t2 f2 n2) | (rintro e W2 ⟨F2, rfl, t2, f2, n2⟩)
      have k2 := KeepT.fr G.out.tree f2
      have kf2 := keepsFrom_fr (B := W0.heap.size) G.out.tree f2
      have g2 := G.out.step t2 f2 n2 (Nat.le_trans (delL_le _ _) G.out.len)
      have ct2 : W2.cell? ⟨tb, 0, none⟩ = some (ptrv p) := g2.box.cell 0
      have CP : ∀ y : Int, Hid (Calls Try.prog 16 #[ptrv p, i64 y, i64 0] W2 (TPut y 0 W2 p (delL x.1 L') F2)) := fun y => tput y 0 W2 p _ F2 g2.tree (by have := g2.len; omega)
      have G2 : Hid (RG w vl L p tb Bn m (300 + m) W2 (delL x.1 L') F2 ∧ KeepT W W2 ∧ KeepsFrom W0.heap.size W W2) := ⟨g2, k2, kf2⟩
      unfold TPut at CP
      clear k2 kf2 g2 t2 f2 n2 CD ct
      gi_wp2_with (refine ⟨trivial, ?_⟩; gi_at_call 16; refine (callsIn_round (CP _).out).mono ?_)
      first | (rintro e W3 F3 rfl t3 f3 n3) | (rintro e W3 ⟨F3, rfl, t3, f3, n3⟩)
      have k3 := KeepT.fr G2.out.1.tree f3
      have kf3 := keepsFrom_fr (B := W0.heap.size) G2.out.1.tree f3
      have g3 := G2.out.1.step t3 f3 n3 (bd2 := 300 + (m + 1)) (Nat.le_trans (putL_le _ _ _) (by have := G2.out.1.len; omega))
      have cn3 : W3.cell? ⟨Bn, 0, none⟩ = some (i64 m) := g3.cnt.cell 0
      have fn3 : W3.frozen? ⟨Bn, 0, none⟩ = false := g3.cnt.frozen 0
      obtain ⟨b1, b2, b3, b4⟩ := box_round (B := W0.heap.size) (n := Bn) (show Boxed W3 Bn 3 (i64 m) from g3.cnt) (by decide) (Nat.le_refl _) (i64 ((m : Int) + 1))
      have G3 : Hid (KeepsFrom W0.heap.size W _ ∧ KeepT W _ ∧ RG w vl L p tb Bn (m + 1) (300 + (m + 1)) _ _ F3) := ⟨(G2.out.2.2.trans kf3).trans b1, (G2.out.2.1.trans k3).trans b2, (show i64 ((m + 1 : Nat) : Int) = i64 ((m : Int) + 1) from rfl) ▸ g3.count HWB.out (m + 1)⟩
      clear k3 kf3 g3 t3 f3 n3 b1 b2 b3 b4 CP ct2
      gi_wp2
      have hl : (pre ++ [x]).length = m + 1 := by rw [List.length_append, HM.out]; rfl
      have g3 := G3.out
      rw [← hl] at g3
      exact ⟨g3.1, g3.2.1, _, F3, g3.2.2⟩
  case done =>
    intro D W hD hI hK
    obtain ⟨L', F', g⟩ := hI
    obtain ⟨n, hn⟩ : ∃ n, n = L.length := ⟨_, rfl⟩
    obtain ⟨aol, capl, hvl, hcell⟩ : ∃ aol capl, vl = .slice aol n capl ∧ Hid (∀ j, j < n → ∃ g, aol = some ⟨g, 0, none⟩ ∧ n ≤ capl ∧ ∀ W', Rb W W' → W'.cell? ⟨g, j * 2, none⟩ = some (i64 (L.getD j (0, 0)).1) ∧ W'.cell? ⟨g, j * 2 + 1, none⟩ = some (i64 (L.getD j (0, 0)).2)) := by
      rcases g.row.cases' with ⟨h1, h2⟩ | ⟨g', cap', h1, h2, h3, h4⟩
      · exact ⟨none, 0, by rw [h1, hn, h2]; rfl, fun j hj => by rw [hn, h2] at hj; exact absurd hj (Nat.not_lt_zero _)⟩
      · refine ⟨_, cap', by rw [h1, hn], fun j hj => ⟨g', rfl, by omega, fun W' hr => ?_⟩⟩
        have hk := cells2_key L j (by omega)
        have a := h4 _ _ hk.1
        have b := h4 _ _ hk.2
        rw [Below.cell hr (World.block_lt_of_cell? W _ a), Below.cell hr (World.block_lt_of_cell? W _ b)]
        exact ⟨a, b⟩
    have cn : W.cell? ⟨Bn, 0, none⟩ = some (i64 ((filt lo hi L).length : Nat)) := g.cnt.cell 0
    have ct : W.cell? ⟨tb, 0, none⟩ = some (ptrv p) := g.box.cell 0
    have G := Lib.hid g
    have HN := Lib.hid hn
    have HK := Lib.hid hK
    have HD := Lib.hid hD
    have hn3 : n ≤ 300 := by omega
    subst hvl
    clear g hn hK hD
    go_wp2
    go_loopg [11, 42] n (fun gk s11 s42 wr => ∃ i : Nat, s11 = .int .i64 ((filt lo hi (L.take i)).length : Nat) ∧ s42 = .int .i64 i ∧ i ≤ n ∧ n - i ≤ gk ∧ Hid (Rb W wr))
    case atStart => exact ⟨0, rfl, rfl, Nat.zero_le _, by omega, Rb.refl _⟩
    case round =>
      obtain ⟨i, rfl, rfl, h1, h2, hR⟩ := hrel
      by_cases hin : i < n
      · obtain ⟨g', rfl, hcc, hcW⟩ := hcell.out i hin
        obtain ⟨hc1, hc2⟩ := hcW wr hR.out
        have hlt := World.block_lt_of_cell? wr _ hc1
        have hfs := filt_take_succ lo hi L i (by rw [← HN.out]; exact hin)
        have hfb := filt_le lo hi (L.take i)
        rw [List.length_take] at hfb
        obtain ⟨x, hx⟩ : ∃ x, x = L.getD i (0, 0) := ⟨_, rfl⟩
        rw [← hx] at hc1 hc2 hfs
        have HI : Hid (i < n ∧ n - i ≤ gk) := ⟨hin, h2⟩
        obtain ⟨fi, hfi⟩ : ∃ fi, fi = (filt lo hi (L.take i)).length := ⟨_, rfl⟩
        have hfib : fi ≤ 300 := by omega
        rw [← hfi] at hfs ⊢
        have FS := Lib.hid hfs
        clear hcW h1 h2 hx hfi hfb hfs
        have hWa : Rb W (wr.alloc (.cells #[i64 x.1, i64 x.2] 47)) := Rb.trans _ _ _ hR.out ((Below.refl _ wr).alloc (Nat.le_refl _) _)
        have HWa := Lib.hid hWa
        clear hWa
        by_cases ha : lo ≤ x.1
        · by_cases hb : x.1 ≤ hi
          · have e : inR lo hi x = true := by unfold inR; rw [decide_eq_true_eq]; exact ⟨ha, hb⟩
            have HE := Lib.hid e
            clear e
            go_wp2
            go_roundg (n - (i + 1))
            case measure => have := HI.out; omega
            case rel => exact ⟨i + 1, by rw [FS.out, HE.out]; rfl, by rw [show ((i : Int) + 1) = ((i + 1 : Nat) : Int) by omega], HI.out.1, Nat.le_refl _, HWa.out⟩
          · have e : inR lo hi x = false := by unfold inR; rw [decide_eq_false_iff_not]; exact fun h => hb h.2
            have HE := Lib.hid e
            clear e
            go_wp2
            go_roundg (n - (i + 1))
            case measure => have := HI.out; omega
            case rel => exact ⟨i + 1, by rw [FS.out, HE.out]; rfl, by rw [show ((i : Int) + 1) = ((i + 1 : Nat) : Int) by omega], HI.out.1, Nat.le_refl _, HWa.out⟩
        · have e : inR lo hi x = false := by unfold inR; rw [decide_eq_false_iff_not]; exact fun h => ha h.1
          have HE := Lib.hid e
          clear e
          go_wp2
          go_roundg (n - (i + 1))
          case measure => have := HI.out; omega
          case rel => exact ⟨i + 1, by rw [FS.out, HE.out]; rfl, by rw [show ((i : Int) + 1) = ((i + 1 : Nat) : Int) by omega], HI.out.1, Nat.le_refl _, HWa.out⟩
      · have hni : i = n := by omega
        subst hni
        have htk : L.take i = L := by rw [HN.out]; exact List.take_length
        have gr := G.out.rb' hR.out
        have cn2 : wr.cell? ⟨Bn, 0, none⟩ = some (i64 ((filt lo hi L).length : Nat)) := gr.cnt.cell 0
        have ct2 : wr.cell? ⟨tb, 0, none⟩ = some (ptrv p) := gr.box.cell 0
        have hfb := filt_le lo hi L
        have CT := Lib.hid (tright wr p L' F' gr.tree (by have := gr.len; omega))
        have HG := Lib.hid gr
        rw [htk]
        generalize (filt lo hi L).length = fi at cn2 ⊢
        clear gr htk hfb h1 h2 hin cn ct
        go_wp2_with (go_at_call 17; refine CT.out.mono ?_)
        first | (rintro e W2 rfl hd) | (rintro e W2 ⟨rfl, hd⟩)
        have HD2 := Lib.hid hd
        clear hd CT
        go_wp2_with (go_at_call 11; refine (lives_any _).mono ?_; rintro e W3 ⟨rfl, hr3⟩)
        have hr := Rb.trans _ _ _ HD2.out.rb hr3
        refine ⟨by simp, .inl ⟨_, _, rfl, run_takeDeferred (show W3.heap[D]? = some (.deferred (some [])) from ?_), ?_⟩⟩
        · have h1 := HK.out
          have hl : D < W.heap.size := (Array.getElem?_eq_some_iff.1 h1).1
          rw [hr.block D (Nat.lt_of_lt_of_le hl hR.out.size), hR.out.block D hl]
          exact h1
        · refine ⟨_, results_tmp rfl _ _ _, rfl, ?_⟩
          have hD3 : W3.heap[D]? = some (.deferred (some [])) := by
            have h1 := HK.out
            have hl : D < W.heap.size := (Array.getElem?_eq_some_iff.1 h1).1
            rw [hr.block D (Nat.lt_of_lt_of_le hl hR.out.size), hR.out.block D hl]
            exact h1
          exact Below.trans (Rb.trans _ _ _ HG.out.rb hr) (belowK_b (w := w) (Nat.le_refl _) W3 D _ _ (Nat.le_trans hB0 HD.out) hD3 rfl rfl)
end Go.Proofs.Ytjdlicphmflnkaa.L5
