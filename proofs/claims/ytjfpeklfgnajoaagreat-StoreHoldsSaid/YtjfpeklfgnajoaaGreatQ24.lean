/-
  Layer 7: a claim is made.
-/
import Derived.Test.YtjfpeklfgnajoaaGreatQ23
import Derived.Laws.OwnMore
namespace Go.Proofs.YtjfpeklfgnajoaaGreat.L6
open Go.ChangeShapes Go.WideShapes Go.ChangeAt Go.RowKit By Reg Val
set_option linter.unusedVariables false
set_option linter.unusedSimpArgs false

structure ClaimP (w : World) (st : Nat) (v : Value) (sh : List Sh) (need : List Int) (w' : World) (sh' : List Sh) (c' : ClD) : Prop where
  duo : Duo w' v sh' c'
  st : c'.st = st
  held : c'.held = (List.range sh.length).map fun i => need.getD i 0
  first : c'.first = c'.held
  tch : c'.tch = []
  new : ∀ k, c'.all k → w.heap.size ≤ k
  fr : Fr (SF sh) w w'
  newS : ∀ k, SF sh' k → SF sh k ∨ w.heap.size ≤ k
  len : sh'.length = sh.length
  at_ : ∀ (i : Nat) (h : i < sh.length) (h1 : i < sh'.length), sh'[i].b = sh[i].b ∧ sh'[i].t = sh[i].t ∧ sh'[i].L = sh[i].L ∧ sh'[i].held = sh[i].held + need.getD i 0

theorem made_zeros (n : Nat) : (madeCells (Value.int .i64 0).cells (n * 1)).toList = List.replicate n (i64 0) := by
  rw [Nat.mul_one]
  apply List.ext_getElem (by simp [madeCells])
  intro i h1 h2
  have e : i % 1 = 0 := Nat.mod_one i
  simp [madeCells, Value.cells, e]
theorem owns_le {w : World} {B : Nat} {e : TypeId} {s : Nat} {v : Value} {n : Nat} {xs : List Value} (h : w.ownsRow B e s v n xs) : w.ownsRow 0 e s v n xs := by
  refine ⟨h.1, ?_⟩
  rcases h.2 with h0 | ⟨g, cap, cur, h1, h2, h3⟩
  · exact .inl h0
  · exact .inr ⟨g, cap, cur, h1, Nat.zero_le _, h3⟩
/-- a row of zeros -/
theorem run_zeros (W : World) (n : Nat) (hn : n ≤ 1000) : ∃ W', (Instr.makeSlice 43 (i64 n) (i64 n)).run Tryz.prog W = .ok (.slice (some ⟨W.heap.size, 0, none⟩) n n) W' ∧ Row W' 3 (.slice (some ⟨W.heap.size, 0, none⟩) n n) (List.replicate n (i64 0)) ∧ Rb W W' ∧ W.heap.size < W'.heap.size := by
  obtain ⟨i0, hi, hz0, hz1, hz2⟩ := info_parts info_I
  obtain ⟨w', h1, h2, h3⟩ := run_makeSlice_full (P := Tryz.prog) W W.heap.size 43 3 i0 (.int .i64 0) 1 Tryz.underlying43 hi hz0 hz1 .i64 .i64 n (by omega) (by rw [hz2]; omega) (by unfold maxLen; omega) (Nat.le_refl _)
  rw [made_zeros] at h2
  refine ⟨w', h1, ?_, Below.grown (Below.refl _ W) h3 (Nat.le_refl _) (fun k e => by cases e), ?_⟩
  · unfold Row
    rw [List.length_replicate]
    exact owns_le h2
  · have := h2.2
    rcases this with ⟨h, _⟩ | ⟨g, cap, cur, h, _, hb, _⟩
    · cases h
    · simp only [Value.slice.injEq, Option.some.injEq, Addr.mk.injEq] at h
      obtain ⟨⟨rfl, -, -⟩, -, -⟩ := h
      exact (Array.getElem?_eq_some_iff.1 hb).1

/-- a claim that holds nothing -/
def noClaim (b st : Nat) (g n m : Nat) : ClD := ⟨b, st, .slice (some ⟨g, 0, none⟩) n n, .slice none 0 0, m, List.replicate n 0, [], []⟩
theorem noClaim_duo {w wr W1 : World} {st : Nat} {v : Value} {sh : List Sh} {n : Nat} (h : StAt w st v sh) (hr : Rb w wr) (hn : n = sh.length) (hz : Row W1 3 (.slice (some ⟨wr.heap.size, 0, none⟩) n n) (List.replicate n (i64 0))) (hb : Rb wr W1) (hl : wr.heap.size < W1.heap.size) :
    Duo ((W1.alloc (.map #[] 0)).alloc (.cells #[ptrv st, .slice (some ⟨wr.heap.size, 0, none⟩) n n, .slice none 0 0, .map (some W1.heap.size)] 122)) v sh (noClaim (W1.heap.size + 1) st wr.heap.size n W1.heap.size) ∧
      (∀ k, (noClaim (W1.heap.size + 1) st wr.heap.size n W1.heap.size).all k → w.heap.size ≤ k) ∧ Rb w ((W1.alloc (.map #[] 0)).alloc (.cells #[ptrv st, .slice (some ⟨wr.heap.size, 0, none⟩) n n, .slice none 0 0, .map (some W1.heap.size)] 122)) := by
  have r2 : Rb W1 (W1.alloc (.map #[] 0)) := (Below.refl _ W1).alloc (Nat.le_refl _) _
  have r3 : Rb (W1.alloc (.map #[] 0)) ((W1.alloc (.map #[] 0)).alloc (.cells #[ptrv st, .slice (some ⟨wr.heap.size, 0, none⟩) n n, .slice none 0 0, .map (some W1.heap.size)] 122)) := (Below.refl _ _).alloc (Nat.le_refl _) _
  have rw1 : Rb w W1 := Rb.trans _ _ _ hr hb
  have rw3 := Rb.trans _ _ _ (Rb.trans _ _ _ rw1 r2) r3
  have hbk := Blk.new (W1.alloc (.map #[] 0)) 122 [ptrv st, .slice (some ⟨wr.heap.size, 0, none⟩) n n, .slice none 0 0, .map (some W1.heap.size)]
  rw [World.size_alloc] at hbk
  have hsz := hr.size
  have hnew : ∀ k, (noClaim (W1.heap.size + 1) st wr.heap.size n W1.heap.size).all k → w.heap.size ≤ k := fun k hk => by
    rcases hk with hk | hk | hk | hk
    · have : k = W1.heap.size + 1 := hk
      omega
    · have : some wr.heap.size = some k := hk
      cases this
      exact hsz
    · have : none = some k := hk
      cases this
    · have : k = W1.heap.size := hk
      omega
  refine ⟨⟨h.rb rw3, ⟨hbk, ?_, ⟨rfl, .inl ⟨rfl, rfl⟩⟩, (mapAt_made W1).rb r3, (fun x hx => by cases hx), (fun x hx => by cases hx), fun k hk hk' => by have : none = some k := hk'; cases this⟩, fun k hk hk' => ?_, ?_⟩, hnew, rw3⟩
  · have := (hz.rb r2).rb r3
    simpa [noClaim] using this
  · have := hnew k hk
    have := h.lt k hk'
    omega
  · show (List.replicate n (0 : Int)).length = _
    rw [List.length_replicate, hn]

theorem sf_not_int {w : World} {st : Nat} {v nv : Value} {sh : List Sh} {xs : List Value} (h : StAt w st v sh) (hr : Row w 3 nv xs) : ∀ k, nv.ownBlock = some k → ¬ SF sh k := by
  intro k hk ⟨s, hs, hk'⟩
  obtain ⟨cs, hb⟩ := hr.typ k hk
  rcases hk' with rfl | hF
  · exact absurd (hb.inj (h.at_ s hs).blk).1 (by decide)
  · obtain ⟨T, cs', hb', hT⟩ := (h.at_ s hs).tree.typ k hF
    have e := (hb.inj hb').1
    subst e
    rcases hT with h | h | h | h | h <;> exact absurd h (by decide)

def badNeed (need : List Int) (n : Nat) : Prop := n < need.length ∨ (need.any fun x => decide (x < 0)) = true

set_option maxRecDepth 100000 in
set_option maxHeartbeats 1000000 in
theorem claim_bad (w : World) (st : Nat) (v nv : Value) (sh : List Sh) (need : List Int) (h : StAt w st v sh) (hr : Row w 3 nv (need.map i64)) (hb : badNeed need sh.length) :
    Calls Tryz.prog 24 #[ptrv st, nv] w fun e w' => e = .returned (.tuple #[.pointer none, i64 1]) ∧ Rb w w' := by
  have b0 : w.cell? ⟨st, 0, none⟩ = some v := h.blk.cell 0
  obtain ⟨ao, cap, rfl, q1, q2⟩ := h.form
  obtain ⟨ao2, cap2, hv, p1, p2⟩ : ∃ ao cap, nv = .slice ao need.length cap ∧ need.length ≤ cap ∧ cap ≤ maxLen := by simpa using hr.form
  have CN := Lib.hid (anyNeg_any w nv need hr)
  subst hv
  unfold badNeed at hb
  obtain ⟨b, hbb⟩ : ∃ b, b = need.any fun x => decide (x < 0) := ⟨_, rfl⟩
  rw [← hbb] at hb CN
  clear hr h hbb
  generalize need.length = m at *
  generalize sh.length = n at *
  have hbr : (decide ((m : Int) > n)) = decide (n < m) := by rw [decide_eq_decide]; omega
  by_cases hlt : n < m
  · go_enter Tryz.func24, Tryz.ntmps24
    go_wp2
    go_ret2
    exact ⟨rfl, Rb.refl _⟩
  · have hbt : b = true := hb.resolve_left hlt
    subst hbt
    go_enter Tryz.func24, Tryz.ntmps24
    go_wp2_with (refine CN.out.mono ?_; rintro e w2 ⟨rfl, rfl⟩)
    go_ret2
    exact ⟨rfl, Rb.refl _⟩

def canNeed (sh : List Sh) (need : List Int) (k : Nat) : Prop := ∀ i, i < k → need.getD i 0 ≤ freeSh sh i

set_option maxRecDepth 100000 in
set_option maxHeartbeats 2000000 in
theorem claim_any (w : World) (st : Nat) (v nv : Value) (sh : List Sh) (need : List Int) (h : StAt w st v sh) (hr : Row w 3 nv (need.map i64)) (hb : ¬ badNeed need sh.length) (hs : ∀ s ∈ sh, SmallS s) (hn : sh.length ≤ 1000) (hnb : ∀ x ∈ need, x ≤ 1000000) :
    Calls Tryz.prog 24 #[ptrv st, nv] w fun e w' => (¬ canNeed sh need need.length ∧ e = .returned (.tuple #[.pointer none, i64 5]) ∧ Rb w w') ∨
      (canNeed sh need need.length ∧ ∃ sh' c', e = .returned (.tuple #[ptrv c'.b, i64 0]) ∧ ClaimP w st v sh need w' sh' c') := by
  have b0 : w.cell? ⟨st, 0, none⟩ = some v := h.blk.cell 0
  obtain ⟨ao, cap, hv0, q1, q2⟩ := h.form
  obtain ⟨ao2, cap2, hv, p1, p2⟩ : ∃ ao cap, nv = .slice ao need.length cap ∧ need.length ≤ cap ∧ cap ≤ maxLen := by simpa using hr.form
  have CN := Lib.hid (anyNeg_any w nv need hr)
  have HH := Lib.hid (And.intro h (And.intro hr (And.intro hs hn)))
  have HV := Lib.hid hv0
  have HV2 := Lib.hid hv
  unfold badNeed at hb
  obtain ⟨b, hbb⟩ : ∃ b, b = need.any fun x => decide (x < 0) := ⟨_, rfl⟩
  rw [← hbb] at hb CN
  have hb1 : b = false := by
    cases b with
    | false => rfl
    | true => exact absurd (.inr rfl) hb
  have hlt : ¬ sh.length < need.length := fun e => hb (.inl e)
  subst hb1
  have HNB : Hid (∀ x ∈ need, Sml x) := fun x hx => by
    refine ⟨?_, hnb x hx⟩
    have h9 : ¬ x < 0 := fun h0 => by
      have : (need.any fun x => decide (x < 0)) = true := List.any_eq_true.2 ⟨x, hx, by simpa using h0⟩
      rw [← hbb] at this
      cases this
    omega
  rw [hv] at CN ⊢
  rw [hv0] at b0
  clear hbb hb h hr hs hv hv0 hnb
  generalize hm : need.length = m at *
  generalize hnn : sh.length = n at *
  have HM := Lib.hid (And.intro hm hnn)
  clear hm hnn
  go_enter Tryz.func24, Tryz.ntmps24
  go_wp2_with (refine CN.out.mono ?_; rintro e w2 ⟨rfl, rfl⟩)
  have hm1 : m ≤ 1000 := by omega
  go_loopw [27] (fun p wr => ∃ (i : Nat), p = .int .i64 i ∧ i ≤ m ∧ Hid (Rb w wr ∧ canNeed sh need i)) (fun p _ => m - (intOf p).toNat)
  case atStart => exact ⟨0, rfl, Nat.zero_le _, Rb.refl _, fun i hi => absurd hi (Nat.not_lt_zero _)⟩
  case round =>
    obtain ⟨i, rfl, hin, hr⟩ := hrel
    by_cases hlti : i < m
    · obtain ⟨g, cap', q1, q2⟩ := int_at (HH.out.2.1.rb hr.out.1) i (by rw [HM.out.1]; exact hlti)
      rw [HV2.out] at q1
      simp only [Value.slice.injEq] at q1
      obtain ⟨rfl, -, -⟩ := q1
      obtain ⟨z, hz⟩ : ∃ z, z = need.getD i 0 := ⟨_, rfl⟩
      have C := free_any wr st v sh i (HH.out.1.rb hr.out.1) HH.out.2.2.1
      obtain ⟨y, hy⟩ : ∃ y, y = freeSh sh i := ⟨_, rfl⟩
      rw [← hz] at q2
      rw [← hy] at C
      have HC := Lib.hid C
      have HY := Lib.hid (And.intro hz hy)
      clear hz hy C b0
      go_wp2_with fail
      refine HC.out.mono ?_
      rintro e w1 ⟨rfl, hb1⟩
      have HB1 := Lib.hid hb1
      clear hb1
      by_cases hzy : y < z
      · go_wp2_with fail
        go_ret2
        refine .inl ⟨fun hc => ?_, rfl, Rb.trans _ _ _ hr.out.1 HB1.out⟩
        have := hc i hlti
        rw [← HY.out.1, ← HY.out.2] at this
        omega
      · have H3 : Hid (Rb w w1 ∧ canNeed sh need (i + 1)) := ⟨Rb.trans _ _ _ hr.out.1 HB1.out, fun j hj => by
          by_cases e : j = i
          · rw [e, ← HY.out.1, ← HY.out.2]; omega
          · exact hr.out.2 j (by omega)⟩
        go_wp2
        go_roundw
        case rel => exact ⟨i + 1, by go_num, by omega, H3⟩
        case measure => simp [intOf]; omega
    · have hni : i = m := by omega
      subst hni
      have HCAN := Lib.hid hr.out.2
      have HR0 := Lib.hid hr.out.1
      have S0 := HH.out.1.rb hr.out.1
      have b0' : wr.cell? ⟨st, 0, none⟩ = some v := S0.blk.cell 0
      rw [HV.out] at b0'
      obtain ⟨W1, z1, z2, z3, z4⟩ := run_zeros wr n (by omega)
      have HZ := Lib.hid (And.intro z2 (And.intro z3 z4))
      clear z2 z3 z4 S0 hr b0
      have z5 : (Instr.makeMap 120 none).run Tryz.prog W1 = .ok (.map (some W1.heap.size)) (W1.alloc (.map #[] 0)) := rfl
      obtain ⟨D0, N0, R0⟩ := noClaim_duo HH.out.1 HR0.out HM.out.2.symm HZ.out.1 HZ.out.2.1 HZ.out.2.2
      obtain ⟨W3, hW3⟩ : ∃ W3, W3 = (W1.alloc (.map #[] 0)).alloc (.cells #[ptrv st, .slice (some ⟨wr.heap.size, 0, none⟩) n n, .slice none 0 0, .map (some W1.heap.size)] 122) := ⟨_, rfl⟩
      rw [← hW3] at D0 R0
      obtain ⟨cb, hcb⟩ : ∃ cb, cb = W1.heap.size + 1 := ⟨_, rfl⟩
      obtain ⟨c0, hc0⟩ : ∃ c0, c0 = noClaim (W1.heap.size + 1) st wr.heap.size n W1.heap.size := ⟨_, rfl⟩
      have hb0 : c0.b = cb := by rw [hc0, hcb]; rfl
      have hf0 : c0.st = st ∧ c0.held = List.replicate n 0 ∧ c0.fv = .slice none 0 0 := by rw [hc0]; exact ⟨rfl, rfl, rfl⟩
      rw [← hc0] at D0 N0
      have H0 := Lib.hid (And.intro D0 (And.intro N0 (And.intro R0 (And.intro hb0 hf0))))
      have HW3 := Lib.hid hW3
      have HCB := Lib.hid hcb
      clear D0 N0 R0 hb0 hf0 hW3 hcb hc0
      go_wp2_with (rw [← HW3.out])
      rw [← HCB.out]
      have hi1 : i ≤ 1000 := hm1
      clear z1 b0' HW3
      go_loopw [50] (fun p wq => ∃ (j : Nat), p = .int .i64 j ∧ j ≤ i ∧ Hid (∃ sh1 c1, OpP W3 v sh c0 wq sh1 c1 ∧ HeldTo (fun i => need.getD i 0) j sh c0 sh1 c1)) (fun p _ => i - (intOf p).toNat)
      case atStart => exact ⟨0, rfl, Nat.zero_le _, _, _, OpP.of_rb H0.out.1 (Below.refl _ _), HeldTo.start _ _ _⟩
      case round =>
        obtain ⟨j, rfl, hjn, hr⟩ := hrel
        by_cases hltj : j < i
        · obtain ⟨sh2, d2, hO, hH⟩ := hr.out
          have hrow0 := HH.out.2.1.rb H0.out.2.2.1
          have hrow : Row wr 3 nv (need.map i64) := hrow0.same fun k hk => hO.fr.block k (hrow0.lt k hk) fun hD => by
            rcases hD with hD | hD
            · exact sf_not_int H0.out.1.st hrow0 k hk hD
            · have h1 := H0.out.2.1 k hD
              have h2 := HH.out.2.1.lt k hk
              omega
          obtain ⟨g, cap', q1, q2⟩ := int_at hrow j (by rw [HM.out.1]; exact hltj)
          rw [HV2.out] at q1
          simp only [Value.slice.injEq] at q1
          obtain ⟨rfl, -, -⟩ := q1
          have hd : c0.held.length = sh.length := H0.out.1.len
          have hz0 : c0.held.getD j 0 = 0 := by
            rw [H0.out.2.2.2.2.2.1, List.getD_eq_getElem?_getD, List.getElem?_replicate]
            split <;> rfl
          have C := hold_step W3 wr v sh sh2 c0 d2 (fun i => need.getD i 0) j hO hH (by rw [HM.out.2]; omega) (by rw [HM.out.2]; omega) hd (sml_getD HNB.out j) (fun s hs => ⟨(HH.out.2.2.1 s hs).h0, (HH.out.2.2.1 s hs).h1⟩) (by rw [hz0]; omega)
          rw [H0.out.2.2.2.1] at C
          obtain ⟨z, hz⟩ : ∃ z, z = need.getD j 0 := ⟨_, rfl⟩
          rw [← hz] at q2 C
          have HC := Lib.hid C
          clear C hr hO hH hrow hrow0 hz hd hz0
          go_wp2_with fail
          refine HC.out.mono ?_
          first | (rintro e w' u' rfl sh3 d3 hO3 hH3) | (rintro e w' ⟨⟨u', rfl⟩, sh3, d3, hO3, hH3⟩)
          have H3 : Hid (∃ sh1 c1, OpP W3 v sh c0 w' sh1 c1 ∧ HeldTo (fun i => need.getD i 0) (j + 1) sh c0 sh1 c1) := ⟨_, _, hO3, hH3⟩
          clear hO3 hH3
          go_wp2
          go_roundw
          case rel => exact ⟨j + 1, by go_num, by omega, H3⟩
          case measure => simp [intOf]; omega
        · have hnj : j = i := by omega
          subst hnj
          obtain ⟨sh2, d2, hO, hH⟩ := hr.out
          have C := begin_any wr d2 hO.duo.cl (by rw [hO.duo.len, hH.len, HM.out.2]; omega)
          rw [hO.b, H0.out.2.2.2.1] at C
          have HC := Lib.hid C
          have HR := Lib.hid (And.intro hO hH)
          clear C hr hO hH
          go_wp2_with fail
          refine HC.out.mono ?_
          first | (rintro e w' u' rfl c' hB) | (rintro e w' ⟨⟨u', rfl⟩, c', hB⟩)
          have HBB := Lib.hid hB
          clear hB
          go_wp2
          go_ret2
          have hO := HR.out.1
          have hH := HR.out.2
          have hB := HBB.out
          have hOP := hO.trans (BegP.op hO.duo hB)
          have hall : ∀ k, d2.all k → c0.all k := fun k hk => by
            rw [hH.c] at hk
            exact hk
          have hc0len : c0.held = List.replicate n 0 := H0.out.2.2.2.2.2.1
          have hDF : ∀ k, DF sh c0 k → SF sh k ∨ w.heap.size ≤ k := fun k hk => hk.imp id (H0.out.2.1 k)
          refine .inr ⟨HCAN.out, sh2, c', ?_, ⟨hOP.duo, ?_, ?_, ?_, hB.tch, fun k hk => ?_, (Fr.of_rb (F := SF sh) H0.out.2.2.1).trans hOP.fr hDF, fun k hk => ?_, hH.len, fun q h1 h2 => ?_⟩⟩
          · rw [show c'.b = cb from hB.b.trans (hO.b.trans H0.out.2.2.2.1)]
            rfl
          · exact hB.st.trans (hO.st.trans H0.out.2.2.2.2.1)
          · rw [hB.held, hH.c]
            show heldTo _ j c0.held = _
            unfold heldTo
            rw [hc0len, List.length_replicate, HM.out.2]
            refine List.map_congr_left fun q hq => ?_
            split
            · rfl
            · rw [List.getD_eq_getElem?_getD, List.getD_eq_getElem?_getD, List.getElem?_replicate, List.getElem?_eq_none (l := need) (by rw [HM.out.1]; omega)]
              split <;> rfl
          · rw [hB.first, hB.held]
          · rcases hB.new k hk with h1 | h1
            · exact H0.out.2.1 k (hall k h1)
            · have h2 := hO.fr.size
              have h3 := H0.out.2.2.1.size
              omega
          · rcases hOP.new k (.inl hk) with h1 | h1
            · exact hDF k h1
            · have h3 := H0.out.2.2.1.size
              exact .inr (by omega)
          · obtain ⟨a1, a2, a3, a4⟩ := hH.at_ q h1 h2
            refine ⟨a1, a2, a3, ?_⟩
            rw [a4, hc0len]
            have e0 : (List.replicate n (0 : Int)).getD q 0 = 0 := by
              rw [List.getD_eq_getElem?_getD, List.getElem?_replicate]
              split <;> rfl
            rw [e0]
            split
            · omega
            · rw [List.getD_eq_getElem?_getD, List.getElem?_eq_none (l := need) (by rw [HM.out.1]; omega)]
              simp
end Go.Proofs.YtjfpeklfgnajoaaGreat.L6
