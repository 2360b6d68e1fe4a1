/-
  Layer 4: steps in memory, the first forty of them, cut; a row of steps from the form's reading (after layer 3's).
-/
import Derived.Test.YtbdgdmieggpmhaaL3
import Derived.Test.YtbdgdmieggpmhaaShell
import Derived.Laws.AppendOwn
import Derived.Deep.Slices
import Derived.ChangeArms
import Derived.ChangeSlices
namespace Go.Proofs.Ytbdgdmieggpmhaa.L3
open Go.ChangeShapes Go.WideShapes Go.ChangeAt Go.RowKit By Reg
set_option linter.unusedVariables false

structure Op3 where
  k : Nat
  n : Int
  v : Value
abbrev opv (o : Op3) : Value := .agg #[.int .u64 o.k, .int .i64 o.n, o.v]
abbrev opcs (o : Op3) : List Value := [.int .u64 o.k, .int .i64 o.n, o.v]
structure Cells3 (w : World) (b : Nat) (a0 a1 a2 : Value) : Prop where
  e0 : w.cell? ⟨b, 0, none⟩ = some a0
  e1 : w.cell? ⟨b, 1, none⟩ = some a1
  e2 : w.cell? ⟨b, 2, none⟩ = some a2
theorem Blk.cells3 {w : World} {b : Nat} {T : TypeId} {a0 a1 a2 : Value} (h : Blk w b T [a0, a1, a2]) : Cells3 w b a0 a1 a2 := ⟨h.cell 0, h.cell 1, h.cell 2⟩
abbrev OX := Op3 × List UInt8
def Cell3 (w : World) (g o : Nat) (p : Op3) : Prop := w.cell? ⟨g, o, none⟩ = some (.int .u64 p.k) ∧ w.cell? ⟨g, o + 1, none⟩ = some (.int .i64 p.n) ∧ w.cell? ⟨g, o + 2, none⟩ = some p.v
structure OpsIn (w : World) (ao : Option Addr) (n : Nat) (l : List OX) : Prop where
  len : n = l.length
  bs : ∀ p ∈ l, Bs w p.1.v p.2
  cells : ∀ i p, l[i]? = some p → ∃ g off, ao = some ⟨g, off, none⟩ ∧ Cell3 w g (off + i * 3) p.1

def cutv : Value → Value
  | .slice a n c => .slice a (min n 200) c
  | v => v
def cutx (p : OX) : OX := (⟨p.1.k, p.1.n, cutv p.1.v⟩, p.2.take 200)
def cutL (l : List OX) : List OX := (l.take 40).map cutx
def flat (l : List OX) : List Value := l.flatMap fun p => opcs p.1

theorem flat_len : ∀ l : List OX, (flat l).length = l.length * 3
  | [] => rfl
  | p :: l => by
    have := flat_len l
    simp only [flat, List.flatMap_cons, List.length_append, List.length_cons] at this ⊢
    rw [this]; simp; omega
theorem cutL_succ {l : List OX} {k : Nat} (h : k < l.length) (h40 : k < 40) : cutL (l.take (k + 1)) = cutL (l.take k) ++ [cutx l[k]] := by
  unfold cutL
  rw [List.take_take, List.take_take, Nat.min_eq_right (by omega), Nat.min_eq_right (by omega), List.take_succ_eq_append_getElem h, List.map_append]
  rfl
theorem cutL_len (l : List OX) : (cutL l).length = min 40 l.length := by simp [cutL]
theorem cutL_take {l : List OX} {k : Nat} (h : k = l.length ∨ k = 40) : cutL (l.take k) = cutL l := by
  unfold cutL
  rw [List.take_take]
  rcases h with rfl | rfl
  · by_cases h : 40 ≤ l.length
    · rw [Nat.min_eq_left h]
    · rw [Nat.min_eq_right (by omega), List.take_of_length_le (Nat.le_refl _), List.take_of_length_le (by omega)]
  · rfl
theorem Bs.cutv {w : World} {v : Value} {xs : List UInt8} (h : Bs w v xs) : Bs w (cutv v) (xs.take 200) := by
  obtain ⟨ao, cap, rfl, h2, h3, h4, h5⟩ := h
  show Bs w (.slice ao (min xs.length 200) cap) _
  have e : (xs.take 200).length = min xs.length 200 := by rw [List.length_take]; omega
  rw [← e]
  refine ⟨ao, cap, rfl, by omega, h3, h4, fun ad ha j u hu => h5 ad ha j u ?_⟩
  rw [List.getElem?_map, List.getElem?_take] at hu
  split at hu
  · rw [List.getElem?_map]; exact hu
  · simp at hu

theorem info34 : (Try.prog.info? 59).map (fun i => (i.zero, i.size, i.bytes)) = some (some (.agg #[.int .u64 0, .int .i64 0, .slice none 0 0]), 3, 40) := by kernel_rfl
theorem sizeop : (Try.prog.info? 59).map (·.size) = some 3 := by kernel_rfl
theorem op_one {p : Op3} (h : p.v.oneCell' = true) : ∀ v ∈ opcs p, v.oneCell' = true := by
  intro v hv
  simp at hv
  rcases hv with rfl | rfl | rfl
  · rfl
  · rfl
  · exact h
def CutP (w : World) (l : List OX) (e : Ending) (w' : World) : Prop := ∃ v, e = .returned v ∧ w'.ownsRow w.heap.size 59 3 v (cutL l).length (flat (cutL l)) ∧ Rb w w'

set_option maxRecDepth 100000 in
set_option maxHeartbeats 1000000 in
theorem row_any (ao : Option Addr) (n cap : Nat) (l : List OX) (w : World) (h : OpsIn w ao n l) (hn : n ≤ 9223372036854775807) : Calls Try.prog 25 #[.slice ao n cap] w (CutP w l) := by
  obtain ⟨hlen, hbs, hcells⟩ := h
  have HL := Lib.hid hlen
  have HBS := Lib.hid hbs
  have HC := Lib.hid hcells
  obtain ⟨i0, hi0, hz0, hz1, hz2⟩ := info_parts info34
  have Hi := Lib.hid hi0
  have Hz := Lib.hid hz0
  have Hz1 := Lib.hid hz1
  have Hz2 := Lib.hid hz2
  clear hi0 hz0 hz1 hz2 hlen hbs hcells
  go_enter Try.func25, Try.ntmps25
  go_wp2
  go_loopw [3, 8] (fun v i wr => ∃ k : Nat, k ≤ l.length ∧ k < 40 ∧ i = .int .i64 k ∧ wr.ownsRow w.heap.size 59 3 v k (flat (cutL (l.take k))) ∧ Below w.heap.size w wr) (fun _ i _ => l.length - (intOf i).toNat)
  case atStart => exact ⟨0, Nat.zero_le _, by decide, rfl, World.ownsRow_nil _ _ _ _, Below.refl _ _⟩
  case round =>
    obtain ⟨k, hk, h40, rfl, ho, hb⟩ := hrel
    have HO := Lib.hid ho
    have HB := Lib.hid hb
    have hsz := hb.size
    clear ho hb
    by_cases hlt : k < n
    · have hlt' : k < l.length := by have := HL.out; omega
      obtain ⟨p, hp⟩ : ∃ p, p = l[k] := ⟨_, rfl⟩
      have hpk : l[k]? = some p := by rw [List.getElem?_eq_getElem hlt', hp]
      obtain ⟨g, off, hao, z0, z1, z2⟩ := HC.out k p hpk
      have hbp := HBS.out p (by rw [hp]; exact List.getElem_mem hlt')
      have HS := Lib.hid (show cutL (l.take (k + 1)) = cutL (l.take k) ++ [cutx p] by rw [hp]; exact cutL_succ hlt' h40)
      have HBp := Lib.hid hbp
      obtain ⟨⟨pk, pn, pv⟩, px⟩ := p
      obtain ⟨bo, bcap, e, h2, h3, -⟩ := hbp
      dsimp only at e z0 z1 z2 h2
      subst e
      subst hao
      have y0 := z0
      have y1 := z1
      have y2 := z2
      rw [← HB.out.cell (World.block_lt_of_cell? w _ z0)] at y0
      rw [← HB.out.cell (World.block_lt_of_cell? w _ z1)] at y1
      rw [← HB.out.cell (World.block_lt_of_cell? w _ z2)] at y2
      clear z0 z1 z2 hp hpk
      unfold maxLen at h3
      go_wp2_with (refine wpList_store rfl 59 _ _ rfl wr.heap.size 0 _ _ [_, _, _] _ rfl rfl (Blk.new wr 59 [_, _, _]) rfl sizeop (by simp) (op_one (p := ⟨pk, pn, .slice bo px.length bcap⟩) rfl) ?_)
      intro w1 hb1 hw1
      have HB1 := Lib.hid (show Blk w1 wr.heap.size 59 [.int .u64 pk, .int .i64 pn, .slice bo px.length bcap] from hb1)
      have HR1 := Lib.hid (show Rb wr w1 from Wrote.below ((Below.refl _ _).alloc (Nat.le_refl _) _) hw1 (Nat.le_refl _))
      have x2 := HB1.out.cells3.e2
      clear hb1 hw1 y0 y1 y2
      by_cases h200 : px.length ≤ 200
      · have f1 : ¬ ((200 : Int) < (px.length : Int)) := by omega
        have p1 : (px.length : Int) ≤ (bcap : Int) := by omega
        have p2 : (0 : Int) ≤ (px.length : Int) := by omega
        have eN : min px.length 200 = px.length := by omega
        have EN := Lib.hid eN
        clear eN
        go_wp2_with (refine wpList_store rfl 23 _ _ rfl wr.heap.size 2 _ _ [_] _ rfl rfl HB1.out rfl sizebytes (by simp) (sl_one _ _ _) ?_)
        intro w2 hb2 hw2
        have HB2 := Lib.hid (show Blk w2 wr.heap.size 59 (opcs ⟨pk, pn, .slice bo px.length bcap⟩) from hb2)
        have HR2 := Lib.hid (Wrote.below HR1.out hw2 (Nat.le_refl _))
        obtain ⟨o0, o1, o2⟩ := HB2.out.cells3
        have HO2 := Lib.hid (owns_below HO.out (HR2.out.alloc HR2.out.size (.cells (opcs ⟨pk, pn, .slice bo px.length bcap⟩).toArray 59)))
        have HB3 := Lib.hid (HB.out.trans (Below.mono (HR2.out.alloc HR2.out.size (.cells (opcs ⟨pk, pn, .slice bo px.length bcap⟩).toArray 59)) hsz))
        clear hb2 hw2 f1 p1 p2 x2
        go_wp2_with (at_builtin; (refine wpList_append_own _ rfl _ _ 42 rfl w.heap.size 59 i0 (.agg #[.int .u64 0, .int .i64 0, .slice none 0 0]) 3 40 Try.underlying42 Hi.out Hz.out Hz1.out Hz2.out rfl (by decide) _ k _ rfl HO2.out ⟨w2.heap.size, 0, none⟩ 1 1 (opcs ⟨pk, pn, .slice bo px.length bcap⟩) rfl rfl (cells_new _ _ _ (by simp [maxLen])) (op_one rfl) (by unfold maxLen; omega) (by omega) HB3.out.size ?_))
        intro v' w3 ho hg hnil
        obtain ⟨j, hj⟩ : ∃ j, j = k + 1 := ⟨_, rfl⟩
        rw [← hj] at ho HS
        have hfl : flat (cutL (l.take k)) ++ opcs ⟨pk, pn, .slice bo px.length bcap⟩ = flat (cutL (l.take j)) := by
          rw [HS.out]
          unfold flat
          rw [List.flatMap_append]
          simp [cutx, cutv, EN.out]
        rw [hfl] at ho
        obtain ⟨g', cap', rfl⟩ := owns_form ho (by omega)
        have HO3 := Lib.hid ho
        have HB4 := Lib.hid (HB3.out.grown hg HB3.out.size (fun b hb => (HO2.out.lt b hb).1))
        have Hj := Lib.hid hj
        clear ho hg hnil hfl o0 o1 o2
        by_cases h39 : j = 40
        · have hb40 : ((j : Int) == 40) = true := by rw [h39]; rfl
          have E40 := Lib.hid h39
          clear h39 hj
          go_wp2
          go_ret
          exact ⟨_, rfl, by rw [cutL_take (.inr E40.out)] at HO3; rw [cutL_len, show min 40 l.length = j by have := E40.out; have := Hj.out; omega]; exact HO3.out, HB4.out⟩
        · have hb40 : ((j : Int) == 40) = false := by simp; omega
          have hj40 : j < 40 := by omega
          clear h39 hj
          go_wp2
          go_roundw
          case rel => exact ⟨j, by have := Hj.out; omega, hj40, by rw [Hj.out]; go_num, HO3.out, HB4.out⟩
          case measure => simp [intOf]; omega
      · have f1 : (200 : Int) < (px.length : Int) := by omega
        have p1 : (200 : Int) ≤ (bcap : Int) := by omega
        have p2 : (0 : Int) ≤ (200 : Int) := by omega
        have eN : min px.length 200 = 200 := by omega
        have EN := Lib.hid eN
        clear eN
        go_wp2_with (refine wpList_store rfl 23 _ _ rfl wr.heap.size 2 _ _ [_] _ rfl rfl HB1.out rfl sizebytes (by simp) (sl_one _ _ _) ?_)
        intro w2 hb2 hw2
        have HB2 := Lib.hid (show Blk w2 wr.heap.size 59 (opcs ⟨pk, pn, .slice bo 200 bcap⟩) from hb2)
        have HR2 := Lib.hid (Wrote.below HR1.out hw2 (Nat.le_refl _))
        obtain ⟨o0, o1, o2⟩ := HB2.out.cells3
        have HO2 := Lib.hid (owns_below HO.out (HR2.out.alloc HR2.out.size (.cells (opcs ⟨pk, pn, .slice bo 200 bcap⟩).toArray 59)))
        have HB3 := Lib.hid (HB.out.trans (Below.mono (HR2.out.alloc HR2.out.size (.cells (opcs ⟨pk, pn, .slice bo 200 bcap⟩).toArray 59)) hsz))
        clear hb2 hw2 f1 p1 p2 x2
        go_wp2_with (at_builtin; (refine wpList_append_own _ rfl _ _ 42 rfl w.heap.size 59 i0 (.agg #[.int .u64 0, .int .i64 0, .slice none 0 0]) 3 40 Try.underlying42 Hi.out Hz.out Hz1.out Hz2.out rfl (by decide) _ k _ rfl HO2.out ⟨w2.heap.size, 0, none⟩ 1 1 (opcs ⟨pk, pn, .slice bo 200 bcap⟩) rfl rfl (cells_new _ _ _ (by simp [maxLen])) (op_one rfl) (by unfold maxLen; omega) (by omega) HB3.out.size ?_))
        intro v' w3 ho hg hnil
        obtain ⟨j, hj⟩ : ∃ j, j = k + 1 := ⟨_, rfl⟩
        rw [← hj] at ho HS
        have hfl : flat (cutL (l.take k)) ++ opcs ⟨pk, pn, .slice bo 200 bcap⟩ = flat (cutL (l.take j)) := by
          rw [HS.out]
          unfold flat
          rw [List.flatMap_append]
          simp [cutx, cutv, EN.out]
        rw [hfl] at ho
        obtain ⟨g', cap', rfl⟩ := owns_form ho (by omega)
        have HO3 := Lib.hid ho
        have HB4 := Lib.hid (HB3.out.grown hg HB3.out.size (fun b hb => (HO2.out.lt b hb).1))
        have Hj := Lib.hid hj
        clear ho hg hnil hfl o0 o1 o2
        by_cases h39 : j = 40
        · have hb40 : ((j : Int) == 40) = true := by rw [h39]; rfl
          have E40 := Lib.hid h39
          clear h39 hj
          go_wp2
          go_ret
          exact ⟨_, rfl, by rw [cutL_take (.inr E40.out)] at HO3; rw [cutL_len, show min 40 l.length = j by have := E40.out; have := Hj.out; omega]; exact HO3.out, HB4.out⟩
        · have hb40 : ((j : Int) == 40) = false := by simp; omega
          have hj40 : j < 40 := by omega
          clear h39 hj
          go_wp2
          go_roundw
          case rel => exact ⟨j, by have := Hj.out; omega, hj40, by rw [Hj.out]; go_num, HO3.out, HB4.out⟩
          case measure => simp [intOf]; omega
    · have HE := Lib.hid (show k = l.length by have := HL.out; omega)
      go_wp2
      go_ret
      exact ⟨_, rfl, by rw [cutL_take (.inl HE.out)] at HO; rw [cutL_len, show min 40 l.length = k by have := HE.out; omega]; exact HO.out, HB.out⟩
end Go.Proofs.Ytbdgdmieggpmhaa.L3

namespace Go.Proofs.Ytbdgdmieggpmhaa.L3
open Go.ChangeShapes Go.WideShapes Go.ChangeAt Go.RowKit By Reg Go.Deep
set_option linter.unusedVariables false

theorem cellsOp : Try.prog.cellsOf 59 = 3 := by kernel_rfl
theorem structOp : ∃ f0 f1 f2 : Field, Try.prog.underlying 59 = some (.struct #[f0, f1, f2]) ∧ f0.offset = 0 ∧ f1.offset = 1 ∧ f2.offset = 2 ∧ f0.type = 57 ∧ f1.type = 3 ∧ f2.type = 23 :=
  ⟨_, _, _, Try.underlying59, rfl, rfl, rfl, rfl, rfl, rfl⟩

theorem choose_list {α : Type} (n : Nat) (R : Nat → α → Prop) (h : ∀ i, i < n → ∃ x, R i x) : ∃ l : List α, l.length = n ∧ ∀ i x, l[i]? = some x → R i x := by
  induction n with
  | zero => exact ⟨[], rfl, fun i x hx => by simp at hx⟩
  | succ n ih =>
    obtain ⟨l, hl, hr⟩ := ih fun i hi => h i (by omega)
    obtain ⟨y, hy⟩ := h n (by omega)
    refine ⟨l ++ [y], by simp [hl], fun i x hx => ?_⟩
    rcases Nat.lt_or_ge i l.length with hi | hi
    · rw [List.getElem?_append_left hi] at hx; exact hr i x hx
    · rw [List.getElem?_append_right hi] at hx
      have : i - l.length = 0 := by
        rcases Nat.eq_zero_or_pos (i - l.length) with h | h
        · exact h
        · rw [List.getElem?_eq_none (by simp; omega)] at hx; cases hx
      rw [this] at hx
      simp at hx
      subst hx
      have : i = n := by omega
      rw [this]; exact hy

section
variable {H : Type} {enc : TypeId × Value → H} {W : World}
set_option maxRecDepth 100000 in
theorem op_of_trod {fuel : Nat} {cs : List Value} {x : DataW H × List MemPlace} (h : DataW.trod enc Try.prog W 0 (fun _ => true) true fuel 59 cs = some x) (hl : cs.length = 3) :
    ∃ q : OX, cs = opcs q.1 ∧ Bs W q.1.v q.2 := by
  obtain ⟨f0, f1, f2, hu, o0, o1, o2, t0, t1, t2⟩ := structOp
  obtain ⟨xs, k, hk, hxy, _, hxl, hf⟩ := DataW.trod_struct hu h
  match xs, hxl, cs, hl with
  | [y0, y1, y2], _, [v0, v1, v2], _ =>
    have g0 := hf 0 f0 rfl
    have g1 := hf 1 f1 rfl
    have g2 := hf 2 f2 rfl
    rw [o0, t0] at g0
    rw [o1, t1] at g1
    rw [o2, t2] at g2
    rw [show Try.prog.cellsOf 57 = 1 by kernel_rfl] at g0
    rw [show Try.prog.cellsOf 3 = 1 by kernel_rfl] at g1
    rw [show Try.prog.cellsOf 23 = 1 by kernel_rfl] at g2
    simp at g0 g1 g2
    obtain ⟨n0, e0, _, w0⟩ := DataW.trod_int Try.underlying57 g0
    obtain ⟨n1, e1, _, w1⟩ := DataW.trod_int Try.underlying3 g1
    simp at e0 e1
    subst e0 e1
    have b0 := wf_u64 w0
    obtain ⟨m0, rfl⟩ := Int.eq_ofNat_of_zero_le b0.1
    rcases open_ints Try.underlying23 Try.underlying5 (by kernel_rfl) g2 with ⟨hcs, _⟩ | ⟨ad, len, cap, zs, hcs, _, hl, hm, hz, _, hcell, hw⟩
    · simp at hcs
      subst hcs
      exact ⟨(⟨m0, n1, .slice none 0 0⟩, []), rfl, Bs.nil W⟩
    · simp at hcs
      subst hcs
      exact ⟨(⟨m0, n1, .slice (some ad) len cap⟩, ofNums (zs.take len)), rfl, Bs.of_row (.inr ⟨ad, rfl, hl, hm, by simpa using hz, hcell, hw⟩)⟩

set_option maxRecDepth 100000 in
theorem ops_of_trod {fuel : Nat} {ao : Option Addr} {n cap : Nat} {x : DataW H × List MemPlace} (h : DataW.trod enc Try.prog W 0 (fun _ => true) true fuel 42 [.slice ao n cap] = some x) :
    ∃ l, OpsIn W ao n l ∧ n ≤ 9223372036854775807 := by
  rcases open_slice Try.underlying42 h with ⟨h0, _⟩ | ⟨ad, len, cp, m, k, D, Pl, hcs, hb, hl, hm, hmm, hx, each⟩
  · simp at h0
    obtain ⟨rfl, rfl, rfl⟩ := h0
    exact ⟨[], ⟨rfl, fun p hp => by simp at hp, fun i p hp => by simp at hp⟩, by omega⟩
  · simp at hcs
    obtain ⟨rfl, rfl, rfl⟩ := hcs
    have hmn : n ≤ m := by rw [hmm]; simp; exact hl
    by_cases hn0 : n = 0
    · subst hn0
      exact ⟨[], ⟨rfl, fun p hp => by simp at hp, fun i p hp => by simp at hp⟩, by omega⟩
    obtain ⟨g0, off0, spot⟩ := ad
    have hs : spot = none := by
      obtain ⟨cs, h1, h2⟩ := each 0 (by omega)
      rw [cellsOp] at h1
      obtain ⟨_, hlen, hcell⟩ := World.cells?_some h1
      have c0 := hcell 0 (by decide)
      rw [List.getElem?_eq_getElem (by omega)] at c0
      exact World.cell?_spot (a := ⟨g0, off0, spot⟩) c0
    subst hs
    obtain ⟨l, hll, hr⟩ := choose_list (α := OX) n (fun i q => Bs W q.1.v q.2 ∧ ∃ g off, some (⟨g0, off0, none⟩ : Addr) = some ⟨g, off, none⟩ ∧ Cell3 W g (off + i * 3) q.1) fun i hi => by
      obtain ⟨cs, h1, h2⟩ := each i (by omega)
      rw [cellsOp] at h1
      obtain ⟨_, hlen, hcell⟩ := World.cells?_some h1
      obtain ⟨q, hq, hbs⟩ := op_of_trod h2 hlen
      subst hq
      have c0 := hcell 0 (by decide)
      have c1 := hcell 1 (by decide)
      have c2 := hcell 2 (by decide)
      rw [By.add_add] at c0 c1 c2
      simp only [Addr.add_lit] at c0 c1 c2
      exact ⟨q, hbs, g0, off0, rfl, by simpa using c0, by rw [Nat.add_assoc]; simpa using c1, by rw [Nat.add_assoc]; simpa using c2⟩
    refine ⟨l, ⟨hll.symm, fun p hp => ?_, fun i p hp => (hr i p hp).2⟩, by unfold maxLen at hm; omega⟩
    obtain ⟨i, hi⟩ := List.getElem?_of_mem hp
    exact (hr i p hi).1
end
end Go.Proofs.Ytbdgdmieggpmhaa.L3

namespace Go.Proofs.Ytbdgdmieggpmhaa.L3
open Go.ChangeShapes Go.WideShapes Go.ChangeAt Go.RowKit By Reg
set_option linter.unusedVariables false
/-- the step that stands at a place of the row of steps -/
structure At (w : World) (ao : Option Addr) (n : Nat) (l : List OX) (k : Nat) (q : OX) (g : Nat) : Prop where
  ad : ao = some ⟨g, 0, none⟩
  c : Cell3 w g (k * 3) q.1
theorem cell3_of {w : World} {g o : Nat} {p : Op3} (h : ∀ j u, (opcs p)[j]? = some u → w.cell? ((⟨g, o, none⟩ : Addr).add j) = some u) : Cell3 w g o p := by
  have h0 := h 0 _ rfl
  have h1 := h 1 _ rfl
  have h2 := h 2 _ rfl
  rw [Addr.add_lit] at h0 h1 h2
  exact ⟨h0, h1, h2⟩
theorem flat_at : ∀ (l : List OX) (k j : Nat) (q : OX) (u : Value), l[k]? = some q → (opcs q.1)[j]? = some u → (flat l)[k * 3 + j]? = some u
  | [], k, j, q, u, h, _ => by simp at h
  | p :: l, 0, j, q, u, h, hu => by
    simp at h; subst h
    have hj : j < (opcs p.1).length := (List.getElem?_eq_some_iff.1 hu).1
    show (opcs p.1 ++ flat l)[0 * 3 + j]? = _
    rw [Nat.zero_mul, Nat.zero_add, List.getElem?_append_left hj]
    exact hu
  | p :: l, k + 1, j, q, u, h, hu => by
    have := flat_at l k j q u (by simpa using h) hu
    show (opcs p.1 ++ flat l)[(k + 1) * 3 + j]? = _
    rw [List.getElem?_append_right (by simp; omega)]
    simpa [show (k + 1) * 3 + j - 3 = k * 3 + j by omega] using this
theorem row_at {w : World} {B n : Nat} {v : Value} {l : List OX} (h : w.ownsRow B 59 3 v n (flat l)) (k : Nat) (q : OX) (hq : l[k]? = some q) :
    ∃ g cap, v = .slice (some ⟨g, 0, none⟩) n cap ∧ Cell3 w g (k * 3) q.1 := by
  have hk : k < l.length := (List.getElem?_eq_some_iff.1 hq).1
  have hl := h.1
  rw [flat_len] at hl
  obtain ⟨g, cap, rfl⟩ := owns_form h (by omega)
  refine ⟨g, cap, rfl, cell3_of fun j u hu => ?_⟩
  have := h.cells (g := g) rfl (k * 3 + j) u (flat_at l k j q u hq hu)
  rw [Addr.add_lit, Nat.zero_add] at this
  rw [Addr.add_lit]
  exact this
theorem Cell3.block {w w' : World} {g o : Nat} {p : Op3} (h : Cell3 w g o p) (e : w'.heap[g]? = w.heap[g]?) : Cell3 w' g o p := by
  obtain ⟨h0, h1, h2⟩ := h
  exact ⟨by rw [World.cell?_of_block (w := w) (w' := w') (a := ⟨g, o, none⟩) e]; exact h0, by rw [World.cell?_of_block (w := w) (w' := w') (a := ⟨g, o + 1, none⟩) e]; exact h1, by rw [World.cell?_of_block (w := w) (w' := w') (a := ⟨g, o + 2, none⟩) e]; exact h2⟩
theorem cutL_bs {W : World} {l : List OX} (h : ∀ p ∈ l, Bs W p.1.v p.2) : ∀ p ∈ cutL l, Bs W p.1.v p.2 ∧ p.2.length ≤ 200 := by
  intro p hp
  unfold cutL at hp
  obtain ⟨q, hq, rfl⟩ := List.mem_map.1 hp
  have := h q (List.mem_of_mem_take hq)
  exact ⟨Bs.cutv this, by show (q.2.take 200).length ≤ 200; rw [List.length_take]; omega⟩
theorem OpsIn.below {w w' : World} {ao : Option Addr} {n : Nat} {l : List OX} (h : OpsIn w ao n l) (hb : Rb w w') : OpsIn w' ao n l where
  len := h.len
  bs := fun p hp => (h.bs p hp).below hb
  cells := fun i p hp => by
    obtain ⟨g, off, e, c⟩ := h.cells i p hp
    exact ⟨g, off, e, cell_rb hb c.1, cell_rb hb c.2.1, cell_rb hb c.2.2⟩

theorem row_form {w : World} {B n : Nat} {v : Value} {xs : List Value} {e : TypeId} {s : Nat} (h : w.ownsRow B e s v n xs) : ∃ co cap, v = .slice co n cap := by
  rcases h.2 with ⟨rfl, rfl⟩ | ⟨g, cap, cur, rfl, _⟩
  · exact ⟨none, 0, rfl⟩
  · exact ⟨_, cap, rfl⟩
/-- what a round reads of the row of steps -/
structure Rd (w : World) (co : Option Addr) (k : Nat) (q : OX) : Prop where
  ex : ∃ g, co = some ⟨g, 0, none⟩ ∧ Cell3 w g (k * 3) q.1
  bs : Bs w q.1.v q.2
  l : q.2.length ≤ 200
end Go.Proofs.Ytbdgdmieggpmhaa.L3
