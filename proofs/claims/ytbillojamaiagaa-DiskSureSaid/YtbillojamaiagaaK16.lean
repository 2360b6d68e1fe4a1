/-
  Layer 3: steps in memory; the first forty of them, cut.
-/
import Derived.Test.YtbillojamaiagaaK15
import Derived.Laws.AppendOwn
namespace Go.Proofs.Ytbillojamaiagaa
open Go.ChangeShapes Go.WideShapes Go.ChangeAt Go.RowKit By Reg
set_option linter.unusedVariables false

abbrev OX := Op3 × List UInt8
def Cell3 (w : World) (g o : Nat) (p : Op3) : Prop := w.cell? ⟨g, o, none⟩ = some (.int .u64 p.k) ∧ w.cell? ⟨g, o + 1, none⟩ = some (.int .i64 p.n) ∧ w.cell? ⟨g, o + 2, none⟩ = some p.v
structure OpsIn (w : World) (ao : Option Addr) (n : Nat) (l : List OX) : Prop where
  len : n = l.length
  bs : ∀ p ∈ l, Bs w p.1.v p.2
  cells : ∀ i p, l[i]? = some p → ∃ g off, ao = some ⟨g, off, none⟩ ∧ Cell3 w g (off + i * 3) p.1

def cutv : Value → Value
  | .slice a n c => .slice a (min n 200) c
  | v => v
def cutx (p : OX) : OX := (⟨p.1.k, p.1.n, cutv p.1.v⟩, p.2.take 200)
def cutL (l : List OX) : List OX := (l.take 40).map cutx
def flat (l : List OX) : List Value := l.flatMap fun p => opcs p.1

theorem flat_len : ∀ l : List OX, (flat l).length = l.length * 3
  | [] => rfl
  | p :: l => by
    have := flat_len l
    simp only [flat, List.flatMap_cons, List.length_append, List.length_cons] at this ⊢
    rw [this]; simp; omega
theorem cutL_succ {l : List OX} {k : Nat} (h : k < l.length) (h40 : k < 40) : cutL (l.take (k + 1)) = cutL (l.take k) ++ [cutx l[k]] := by
  unfold cutL
  rw [List.take_take, List.take_take, Nat.min_eq_right (by omega), Nat.min_eq_right (by omega), List.take_succ_eq_append_getElem h, List.map_append]
  rfl
theorem cutL_len (l : List OX) : (cutL l).length = min 40 l.length := by simp [cutL]
theorem cutL_take {l : List OX} {k : Nat} (h : k = l.length ∨ k = 40) : cutL (l.take k) = cutL l := by
  unfold cutL
  rw [List.take_take]
  rcases h with rfl | rfl
  · by_cases h : 40 ≤ l.length
    · rw [Nat.min_eq_left h]
    · rw [Nat.min_eq_right (by omega), List.take_of_length_le (Nat.le_refl _), List.take_of_length_le (by omega)]
  · rfl
theorem Bs.cutv {w : World} {v : Value} {xs : List UInt8} (h : Bs w v xs) : Bs w (cutv v) (xs.take 200) := by
  obtain ⟨ao, cap, rfl, h2, h3, h4, h5⟩ := h
  show Bs w (.slice ao (min xs.length 200) cap) _
  have e : (xs.take 200).length = min xs.length 200 := by rw [List.length_take]; omega
  rw [← e]
  refine ⟨ao, cap, rfl, by omega, h3, h4, fun ad ha j u hu => h5 ad ha j u ?_⟩
  rw [List.getElem?_map, List.getElem?_take] at hu
  split at hu
  · rw [List.getElem?_map]; exact hu
  · simp at hu

theorem info34 : (Try.prog.info? 34).map (fun i => (i.zero, i.size, i.bytes)) = some (some (.agg #[.int .u64 0, .int .i64 0, .slice none 0 0]), 3, 40) := by kernel_rfl
theorem sizeop : (Try.prog.info? 34).map (·.size) = some 3 := by kernel_rfl
theorem op_one {p : Op3} (h : p.v.oneCell' = true) : ∀ v ∈ opcs p, v.oneCell' = true := by
  intro v hv
  simp at hv
  rcases hv with rfl | rfl | rfl
  · rfl
  · rfl
  · exact h
def CutP (w : World) (l : List OX) (e : Ending) (w' : World) : Prop := ∃ v, e = .returned v ∧ w'.ownsRow w.heap.size 34 3 v (cutL l).length (flat (cutL l)) ∧ Rb w w'

set_option maxRecDepth 100000 in
set_option maxHeartbeats 1000000 in
theorem cut_any (ao : Option Addr) (n cap : Nat) (l : List OX) (w : World) (h : OpsIn w ao n l) (hn : n ≤ 9223372036854775807) : Calls Try.prog 11 #[.slice ao n cap] w (CutP w l) := by
  obtain ⟨hlen, hbs, hcells⟩ := h
  have HL := Lib.hid hlen
  have HBS := Lib.hid hbs
  have HC := Lib.hid hcells
  obtain ⟨i0, hi0, hz0, hz1, hz2⟩ := info_parts info34
  have Hi := Lib.hid hi0
  have Hz := Lib.hid hz0
  have Hz1 := Lib.hid hz1
  have Hz2 := Lib.hid hz2
  clear hi0 hz0 hz1 hz2 hlen hbs hcells
  go_enter Try.func11, Try.ntmps11
  go_wp2
  go_loopw [3, 8] (fun v i wr => ∃ k : Nat, k ≤ l.length ∧ k < 40 ∧ i = .int .i64 k ∧ wr.ownsRow w.heap.size 34 3 v k (flat (cutL (l.take k))) ∧ Below w.heap.size w wr) (fun _ i _ => l.length - (intOf i).toNat)
  case atStart => exact ⟨0, Nat.zero_le _, by decide, rfl, World.ownsRow_nil _ _ _ _, Below.refl _ _⟩
  case round =>
    obtain ⟨k, hk, h40, rfl, ho, hb⟩ := hrel
    have HO := Lib.hid ho
    have HB := Lib.hid hb
    have hsz := hb.size
    clear ho hb
    by_cases hlt : k < n
    · have hlt' : k < l.length := by have := HL.out; omega
      obtain ⟨p, hp⟩ : ∃ p, p = l[k] := ⟨_, rfl⟩
      have hpk : l[k]? = some p := by rw [List.getElem?_eq_getElem hlt', hp]
      obtain ⟨g, off, hao, z0, z1, z2⟩ := HC.out k p hpk
      have hbp := HBS.out p (by rw [hp]; exact List.getElem_mem hlt')
      have HS := Lib.hid (show cutL (l.take (k + 1)) = cutL (l.take k) ++ [cutx p] by rw [hp]; exact cutL_succ hlt' h40)
      have HBp := Lib.hid hbp
      obtain ⟨⟨pk, pn, pv⟩, px⟩ := p
      obtain ⟨bo, bcap, e, h2, h3, -⟩ := hbp
      dsimp only at e z0 z1 z2 h2
      subst e
      subst hao
      have y0 := z0
      have y1 := z1
      have y2 := z2
      rw [← HB.out.cell (World.block_lt_of_cell? w _ z0)] at y0
      rw [← HB.out.cell (World.block_lt_of_cell? w _ z1)] at y1
      rw [← HB.out.cell (World.block_lt_of_cell? w _ z2)] at y2
      clear z0 z1 z2 hp hpk
      unfold maxLen at h3
      go_wp2_with (refine wpList_store rfl 34 _ _ rfl wr.heap.size 0 _ _ [_, _, _] _ rfl rfl (Blk.new wr 34 [_, _, _]) rfl sizeop (by simp) (op_one (p := ⟨pk, pn, .slice bo px.length bcap⟩) rfl) ?_)
      intro w1 hb1 hw1
      have HB1 := Lib.hid (show Blk w1 wr.heap.size 34 [.int .u64 pk, .int .i64 pn, .slice bo px.length bcap] from hb1)
      have HR1 := Lib.hid (show Rb wr w1 from Wrote.below ((Below.refl _ _).alloc (Nat.le_refl _) _) hw1 (Nat.le_refl _))
      have x2 := HB1.out.cells3.e2
      clear hb1 hw1 y0 y1 y2
      by_cases h200 : px.length ≤ 200
      · have f1 : ¬ ((200 : Int) < (px.length : Int)) := by omega
        have p1 : (px.length : Int) ≤ (bcap : Int) := by omega
        have p2 : (0 : Int) ≤ (px.length : Int) := by omega
        have eN : min px.length 200 = px.length := by omega
        have EN := Lib.hid eN
        clear eN
        go_wp2_with (refine wpList_store rfl 32 _ _ rfl wr.heap.size 2 _ _ [_] _ rfl rfl HB1.out rfl sizebytes (by simp) (sl_one _ _ _) ?_)
        intro w2 hb2 hw2
        have HB2 := Lib.hid (show Blk w2 wr.heap.size 34 (opcs ⟨pk, pn, .slice bo px.length bcap⟩) from hb2)
        have HR2 := Lib.hid (Wrote.below HR1.out hw2 (Nat.le_refl _))
        obtain ⟨o0, o1, o2⟩ := HB2.out.cells3
        have HO2 := Lib.hid (owns_below HO.out (HR2.out.alloc HR2.out.size (.cells (opcs ⟨pk, pn, .slice bo px.length bcap⟩).toArray 34)))
        have HB3 := Lib.hid (HB.out.trans (Below.mono (HR2.out.alloc HR2.out.size (.cells (opcs ⟨pk, pn, .slice bo px.length bcap⟩).toArray 34)) hsz))
        clear hb2 hw2 f1 p1 p2 x2
        go_wp2_with (at_builtin; (refine wpList_append_own _ rfl _ _ 22 rfl w.heap.size 34 i0 (.agg #[.int .u64 0, .int .i64 0, .slice none 0 0]) 3 40 Try.underlying22 Hi.out Hz.out Hz1.out Hz2.out rfl (by decide) _ k _ rfl HO2.out ⟨w2.heap.size, 0, none⟩ 1 1 (opcs ⟨pk, pn, .slice bo px.length bcap⟩) rfl rfl (cells_new _ _ _ (by simp [maxLen])) (op_one rfl) (by unfold maxLen; omega) (by omega) HB3.out.size ?_))
        intro v' w3 ho hg hnil
        obtain ⟨j, hj⟩ : ∃ j, j = k + 1 := ⟨_, rfl⟩
        rw [← hj] at ho HS
        have hfl : flat (cutL (l.take k)) ++ opcs ⟨pk, pn, .slice bo px.length bcap⟩ = flat (cutL (l.take j)) := by
          rw [HS.out]
          unfold flat
          rw [List.flatMap_append]
          simp [cutx, cutv, EN.out]
        rw [hfl] at ho
        obtain ⟨g', cap', rfl⟩ := owns_form ho (by omega)
        have HO3 := Lib.hid ho
        have HB4 := Lib.hid (HB3.out.grown hg HB3.out.size (fun b hb => (HO2.out.lt b hb).1))
        have Hj := Lib.hid hj
        clear ho hg hnil hfl o0 o1 o2
        by_cases h39 : j = 40
        · have hb40 : ((j : Int) == 40) = true := by rw [h39]; rfl
          have E40 := Lib.hid h39
          clear h39 hj
          go_wp2
          go_ret
          exact ⟨_, rfl, by rw [cutL_take (.inr E40.out)] at HO3; rw [cutL_len, show min 40 l.length = j by have := E40.out; have := Hj.out; omega]; exact HO3.out, HB4.out⟩
        · have hb40 : ((j : Int) == 40) = false := by simp; omega
          have hj40 : j < 40 := by omega
          clear h39 hj
          go_wp2
          go_roundw
          case rel => exact ⟨j, by have := Hj.out; omega, hj40, by rw [Hj.out]; go_num, HO3.out, HB4.out⟩
          case measure => simp [intOf]; omega
      · have f1 : (200 : Int) < (px.length : Int) := by omega
        have p1 : (200 : Int) ≤ (bcap : Int) := by omega
        have p2 : (0 : Int) ≤ (200 : Int) := by omega
        have eN : min px.length 200 = 200 := by omega
        have EN := Lib.hid eN
        clear eN
        go_wp2_with (refine wpList_store rfl 32 _ _ rfl wr.heap.size 2 _ _ [_] _ rfl rfl HB1.out rfl sizebytes (by simp) (sl_one _ _ _) ?_)
        intro w2 hb2 hw2
        have HB2 := Lib.hid (show Blk w2 wr.heap.size 34 (opcs ⟨pk, pn, .slice bo 200 bcap⟩) from hb2)
        have HR2 := Lib.hid (Wrote.below HR1.out hw2 (Nat.le_refl _))
        obtain ⟨o0, o1, o2⟩ := HB2.out.cells3
        have HO2 := Lib.hid (owns_below HO.out (HR2.out.alloc HR2.out.size (.cells (opcs ⟨pk, pn, .slice bo 200 bcap⟩).toArray 34)))
        have HB3 := Lib.hid (HB.out.trans (Below.mono (HR2.out.alloc HR2.out.size (.cells (opcs ⟨pk, pn, .slice bo 200 bcap⟩).toArray 34)) hsz))
        clear hb2 hw2 f1 p1 p2 x2
        go_wp2_with (at_builtin; (refine wpList_append_own _ rfl _ _ 22 rfl w.heap.size 34 i0 (.agg #[.int .u64 0, .int .i64 0, .slice none 0 0]) 3 40 Try.underlying22 Hi.out Hz.out Hz1.out Hz2.out rfl (by decide) _ k _ rfl HO2.out ⟨w2.heap.size, 0, none⟩ 1 1 (opcs ⟨pk, pn, .slice bo 200 bcap⟩) rfl rfl (cells_new _ _ _ (by simp [maxLen])) (op_one rfl) (by unfold maxLen; omega) (by omega) HB3.out.size ?_))
        intro v' w3 ho hg hnil
        obtain ⟨j, hj⟩ : ∃ j, j = k + 1 := ⟨_, rfl⟩
        rw [← hj] at ho HS
        have hfl : flat (cutL (l.take k)) ++ opcs ⟨pk, pn, .slice bo 200 bcap⟩ = flat (cutL (l.take j)) := by
          rw [HS.out]
          unfold flat
          rw [List.flatMap_append]
          simp [cutx, cutv, EN.out]
        rw [hfl] at ho
        obtain ⟨g', cap', rfl⟩ := owns_form ho (by omega)
        have HO3 := Lib.hid ho
        have HB4 := Lib.hid (HB3.out.grown hg HB3.out.size (fun b hb => (HO2.out.lt b hb).1))
        have Hj := Lib.hid hj
        clear ho hg hnil hfl o0 o1 o2
        by_cases h39 : j = 40
        · have hb40 : ((j : Int) == 40) = true := by rw [h39]; rfl
          have E40 := Lib.hid h39
          clear h39 hj
          go_wp2
          go_ret
          exact ⟨_, rfl, by rw [cutL_take (.inr E40.out)] at HO3; rw [cutL_len, show min 40 l.length = j by have := E40.out; have := Hj.out; omega]; exact HO3.out, HB4.out⟩
        · have hb40 : ((j : Int) == 40) = false := by simp; omega
          have hj40 : j < 40 := by omega
          clear h39 hj
          go_wp2
          go_roundw
          case rel => exact ⟨j, by have := Hj.out; omega, hj40, by rw [Hj.out]; go_num, HO3.out, HB4.out⟩
          case measure => simp [intOf]; omega
    · have HE := Lib.hid (show k = l.length by have := HL.out; omega)
      go_wp2
      go_ret
      exact ⟨_, rfl, by rw [cutL_take (.inl HE.out)] at HO; rw [cutL_len, show min 40 l.length = k by have := HE.out; omega]; exact HO.out, HB.out⟩
end Go.Proofs.Ytbillojamaiagaa
