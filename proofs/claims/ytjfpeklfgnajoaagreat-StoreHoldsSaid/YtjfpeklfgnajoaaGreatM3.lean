/-
  Layer 7: U35, U36, U37, U38, U39, U42, U60, U71, U72, put together.
-/
import Derived.Test.YtjfpeklfgnajoaaGreatM2
import Derived.Deep.CutRange
import Derived.RangeFuncBox
import Derived.RangeFuncLeaves
import Derived.RangeFuncNested
import Derived.Shelf.Abstract
import Derived.WalkKit
import Derived.OwnWalkIn
import Derived.TacticsInMore
import Derived.LoopNIn
import Derived.LoopIn
import Derived.Maps.AppendAt
import Derived.BigQuiet
import Derived.Deep.QuietTactic
import Derived.Shelf.RegionOpen
import Derived.Sort.CutIn
import Derived.OwnWalk
import Derived.Deep.RegionLaw
import Derived.Deep.RegionWith
import Derived.Deep.Cut
namespace Go.Proofs.YtjfpeklfgnajoaaGreat.L6
open Go.ChangeShapes Go.WideShapes Go.ChangeAt Go.RowKit By Reg
set_option linter.unusedVariables false

def inR (lo hi : Int) (t : Th) : Bool := decide (lo ≤ t.1 ∧ t.1 ≤ hi)
def filt (lo hi : Int) (L : List Th) : List Th := L.filter (inR lo hi)
theorem filt_append (lo hi : Int) (a b : List Th) : filt lo hi (a ++ b) = filt lo hi a ++ filt lo hi b := List.filter_append ..
theorem filt_lt {lo hi : Int} {L : List Th} (h : Lt lo L) : filt lo hi L = [] := List.filter_eq_nil_iff.2 fun t ht => by
  have := h t ht
  unfold inR
  simp
  omega
theorem filt_gt {lo hi : Int} {L : List Th} (h : Gt hi L) : filt lo hi L = [] := List.filter_eq_nil_iff.2 fun t ht => by
  have := h t ht
  unfold inR
  simp
  omega
theorem filt_flat (lo hi : Int) (ms : List (List Tok)) : filt lo hi (ms.flatMap items) = ms.flatMap fun m => filt lo hi (items m) := by
  induction ms with
  | nil => rfl
  | cons m ms ih => rw [List.flatMap_cons, filt_append, ih]; rfl

/-- a row of things of the call's own -/
def TRow (B : Nat) (w : World) (v : Value) (L : List Th) : Prop := w.ownsRow B 139 2 v L.length (cells2 L)
theorem TRow.rb {B : Nat} {w w' : World} {v : Value} {L : List Th} (h : TRow B w v L) (hr : Rb w w') : TRow B w' v L := owns_same h fun k hk => hr.block k (World.ownsRow.lt h k hk).2
theorem info_T : (Tryz.prog.info? 139).map (fun i => (i.zero, i.size, i.bytes)) = some (some (.agg #[.int .i64 0, .slice none 0 0]), 2, 32) := by kernel_rfl

/-- one thing appended -/
theorem append_thing {w : World} {B : Nat} {v : Value} {xs : List Th} (k : Int) (y : SV) (hr : TRow B w v xs) (hb : xs.length ≤ 100000) (hB : B ≤ w.heap.size) :
    ∃ v' w', (∀ ty, (Builtin.append_ #[136, 136] ty #[v, .slice (some ⟨w.heap.size, 0, none⟩) 1 1]).run Tryz.prog (w.alloc (.cells #[i64 k, sv y] 139)) = .ok v' w') ∧ TRow B w' v' (xs ++ [(k, y)]) ∧ Below B w w' := by
  have ht := Tryz.underlying136
  obtain ⟨i0, hi, hz, hsz, hby⟩ := info_parts info_T
  have hbk : Blk (w.alloc (.cells #[i64 k, sv y] 139)) w.heap.size 139 [i64 k, sv y] := Blk.new w _ [i64 k, sv y]
  have hB1 : Below B w (w.alloc (.cells #[i64 k, sv y] 139)) := (Below.refl _ w).alloc hB _
  have hr1 : (w.alloc (.cells #[i64 k, sv y] 139)).ownsRow B 139 2 v xs.length (cells2 xs) := World.ownsRow.alloc hr _
  obtain ⟨v', w', hrun, h2, h3, h4⟩ := run_append_own (P := Tryz.prog) (w.alloc (.cells #[i64 k, sv y] 139)) B 136 136 139 i0 _ 2 32 ht hi hz hsz hby rfl (by decide) v xs.length (cells2 xs) hr1 ⟨w.heap.size, 0, none⟩ 1 1 (cells2 [(k, y)]) rfl (fun j u hu => by rw [Addr.add_lit, hbk.cell, Nat.zero_add]; exact hu) (cells2_one _) (by unfold maxLen; omega) (by omega) (Nat.le_trans hB hB1.size)
  refine ⟨v', w', fun ty => hrun, ?_, hB1.grown h3 (Nat.le_trans hB hB1.size) (fun k hk => (hr1.lt k hk).1)⟩
  unfold TRow
  rw [cells2_append, List.length_append]
  exact h2

/-- what things answers and leaves -/
def ThPost (B : Nat) (w : World) (L : List Th) (e : Ending) (w' : World) : Prop := ∃ v', e = .returned v' ∧ TRow B w' v' L ∧ Below B w w'

theorem leaf_filt {ks : List Int} {vs : List SV} {lo hi : Int} {p q : Nat} (hl : vs.length = ks.length) (hs : ks.Pairwise (· < ·)) (hp : Pos lo ks p) (hpq : p ≤ q) (hq : q ≤ ks.length) (hin : ∀ j, p ≤ j → j < q → ks.getD j 0 ≤ hi) (hend : q < ks.length → hi < ks.getD q 0) :
    filt lo hi (ks.zip vs) = ((ks.zip vs).take q).drop p := by
  have e1 : ks.zip vs = (ks.zip vs).take p ++ (((ks.zip vs).take q).drop p ++ (ks.zip vs).drop q) := by
    have h1 : (ks.zip vs).take q = (ks.zip vs).take p ++ ((ks.zip vs).take q).drop p := by
      have := List.take_append_drop p ((ks.zip vs).take q)
      rw [List.take_take, Nat.min_eq_left hpq] at this
      exact this.symm
    rw [← List.append_assoc, ← h1, List.take_append_drop]
  have zl : (ks.zip vs).length = ks.length := by rw [List.length_zip, hl, Nat.min_self]
  have key : ∀ j (h : j < (ks.zip vs).length), ((ks.zip vs)[j]).1 = ks.getD j 0 := fun j h => by
    rw [List.getElem_zip, List.getD_eq_getElem?_getD, List.getElem?_eq_getElem (by omega)]
    rfl
  conv => lhs; rw [e1]
  rw [filt_append, filt_append]
  have f1 : filt lo hi ((ks.zip vs).take p) = [] := filt_lt fun t ht => by
    obtain ⟨j, hj, e⟩ := List.mem_iff_getElem.1 ht
    rw [List.length_take] at hj
    rw [List.getElem_take] at e
    rw [← e, key]
    exact hp.lo j (by omega)
  have f3 : filt lo hi ((ks.zip vs).drop q) = [] := filt_gt fun t ht => by
    obtain ⟨j, hj, e⟩ := List.mem_iff_getElem.1 ht
    rw [List.length_drop] at hj
    rw [List.getElem_drop] at e
    rw [← e, key]
    have h0 := hend (by omega)
    by_cases hj0 : j = 0
    · subst hj0; simpa using h0
    · have := List.pairwise_iff_getElem.1 hs q (q + j) (by omega) (by omega) (by omega)
      rw [List.getD_eq_getElem?_getD, List.getElem?_eq_getElem (by omega)] at h0 ⊢
      simp only [Option.getD_some] at h0 ⊢
      omega
  have f2 : filt lo hi (((ks.zip vs).take q).drop p) = ((ks.zip vs).take q).drop p := List.filter_eq_self.2 fun t ht => by
    obtain ⟨j, hj, e⟩ := List.mem_iff_getElem.1 ht
    rw [List.length_drop, List.length_take] at hj
    rw [List.getElem_drop, List.getElem_take] at e
    have h1 := hin (p + j) (by omega) (by omega)
    have h2 := hp.hi (p + j) (by omega) (by omega)
    unfold inR
    rw [decide_eq_true_eq, ← e, key]
    exact ⟨h2, h1⟩
  rw [f1, f2, f3, List.nil_append, List.append_nil]

set_option maxHeartbeats 4000000 in
set_option maxRecDepth 100000 in
theorem things_leaf (lo hi : Int) (B : Nat) (w : World) (s : Sub) (v : Value) (xs : List Th) (h : Held 0 w s) (hn : s.n ≤ 100) (hs : Srt s.M) (hF : ∀ k, s.F k → k < B) (hB : B ≤ w.heap.size) (hr : TRow B w v xs) (hx : xs.length ≤ 50000) :
    Calls Tryz.prog 90 #[ptrv s.b, v, i64 lo, i64 hi] w (ThPost B w (xs ++ filt lo hi (items s.M))) := by
  obtain ⟨N, h⟩ := h
  have hsk := leaf_rise (A := []) (B := []) h (by simpa using hs)
  obtain ⟨p, hp⟩ := Pos.exists lo N.ks hsk
  have CL := leaf_any w N h.na
  have hle : isLeaf N = true := by unfold isLeaf; rw [h.ps]; rfl
  rw [hle, h.b] at CL
  have CL' := Lib.hid CL
  obtain ⟨n, hnn⟩ : ∃ n, n = N.ks.length := ⟨_, rfl⟩
  have hnb : n ≤ 100 := by have := h.n; omega
  have CS := Lib.hid (search_at w N.kv N.ks lo p h.na.rk (by omega) hsk hp)
  obtain ⟨ao, cap, hk, _, _⟩ := h.na.kform
  rw [← hnn] at hk
  obtain ⟨ao2, cap2, hv, _, _⟩ := h.na.vform
  rw [h.len, ← hnn] at hv
  have CELL : Hid (∀ wr, Below B w wr → wr.cell? ⟨s.b, 0, none⟩ = some (.slice ao n cap) ∧ wr.cell? ⟨s.b, 1, none⟩ = some (.slice ao2 n cap2) ∧ ∀ j, j < n → ∃ g g2, ao = some ⟨g, 0, none⟩ ∧ ao2 = some ⟨g2, 0, none⟩ ∧ n ≤ cap ∧ n ≤ cap2 ∧ wr.cell? ⟨g, j, none⟩ = some (i64 (N.ks.getD j 0)) ∧ wr.cell? ⟨g2, j, none⟩ = some (sv (N.vs.getD j sv0))) := fun wr hb => by
    have na := h.na.same (w' := wr) fun k hk => hb.block k (hF k ((h.F k).2 hk))
    have c0 := na.c0
    have c1 := na.c1
    rw [h.b, hk] at c0
    rw [h.b, hv] at c1
    refine ⟨c0, c1, fun j hj => ?_⟩
    obtain ⟨g, cp, e1, e2, e3, e4⟩ := na.rk.int_at (j := j) (by omega)
    obtain ⟨g2, cp2, f1, f2, f3, f4⟩ := na.rv.sv_at (j := j) (by rw [h.len]; omega)
    rw [hk] at e1
    rw [hv] at f1
    simp only [Value.slice.injEq] at e1 f1
    obtain ⟨rfl, -, rfl⟩ := e1
    obtain ⟨rfl, -, rfl⟩ := f1
    exact ⟨g, g2, rfl, rfl, by omega, by rw [h.len] at f2; omega, e4, f4⟩
  have HL : Hid (∀ q, p ≤ q → q ≤ n → (∀ j, p ≤ j → j < q → N.ks.getD j 0 ≤ hi) → (q < n → hi < N.ks.getD q 0) → filt lo hi (items s.M) = ((N.ks.zip N.vs).take q).drop p) := fun q h1 h2 h3 h4 => by
    rw [h.M, items_map]
    exact leaf_filt h.len hsk hp h1 (by omega) h3 (by rw [← hnn]; exact h4)
  have HZ : Hid (∀ i, p ≤ i → i < n → ((N.ks.zip N.vs).take (i + 1)).drop p = ((N.ks.zip N.vs).take i).drop p ++ [(N.ks.getD i 0, N.vs.getD i sv0)]) := fun i h1 h2 => by
    have hz : i < (N.ks.zip N.vs).length := by rw [List.length_zip, h.len]; omega
    rw [List.take_succ_eq_append_getElem hz, List.drop_append_of_le_length (by rw [List.length_take]; omega), List.getElem_zip]
    congr 2
    rw [List.getD_eq_getElem?_getD, List.getD_eq_getElem?_getD, List.getElem?_eq_getElem (show i < N.ks.length by omega), List.getElem?_eq_getElem (show i < N.vs.length by rw [h.len]; omega)]
    rfl
  have hpn : p ≤ n := by rw [hnn]; exact hp.le
  have HR := Lib.hid hr
  obtain ⟨c0, c1, -⟩ := CELL.out w (Below.refl _ _)
  rw [hk] at CS
  have HB := Lib.hid hB
  have hlz : ∀ i, (((N.ks.zip N.vs).take i).drop p).length ≤ 100 := fun i => by
    rw [List.length_drop, List.length_take, List.length_zip, h.len]; omega
  have HLZ := Lib.hid hlz
  clear h hn hs hF hr hsk hp CL hle hnn hk hv hlz
  go_enter Tryz.func90, Tryz.ntmps90
  go_wp2_with (first | (go_at_call 113; refine CL'.out.mono ?_; rintro e w' ⟨rfl, rfl⟩) | (go_at_call 115; refine CS.out.mono ?_))
  first | (rintro e w1 rfl hd) | (rintro e w1 ⟨rfl, hd⟩)
  have RB1 := Lib.hid hd
  clear hd CS c0 c1
  go_wp2_with fail
  go_loopg [1, 10] n (fun g s1 s10 wr => ∃ (vl : Value) (i : Nat), s1 = vl ∧ s10 = .int .i64 i ∧ p ≤ i ∧ i ≤ n ∧ n - i ≤ g ∧ Hid ((∀ j, p ≤ j → j < i → N.ks.getD j 0 ≤ hi) ∧ TRow B wr vl (xs ++ ((N.ks.zip N.vs).take i).drop p) ∧ Below B w wr))
  case atStart =>
    refine ⟨_, p, rfl, rfl, Nat.le_refl _, hpn, by omega, fun j h1 h2 => by omega, ?_, RB1.out.mono HB.out⟩
    rw [show ((N.ks.zip N.vs).take p).drop p = [] from List.drop_eq_nil_of_le (by rw [List.length_take]; omega), List.append_nil]
    exact HR.out.rb RB1.out
  case round =>
    obtain ⟨vl, i, hvl, rfl, h1, h2, h3, hM⟩ := hrel
    obtain rfl : vl = u1 := hvl.symm
    obtain ⟨c0, c1, hcell⟩ := CELL.out wr hM.out.2.2
    by_cases hin : i < n
    · obtain ⟨g, g2, rfl, rfl, hc1, hc2, hc3, hc4⟩ := hcell i hin
      have hz := HZ.out i h1 hin
      have hll := HLZ.out i
      have HKI : Hid (∀ y, y = N.ks.getD i 0 → (y ≤ hi → ∀ j, p ≤ j → j < i + 1 → N.ks.getD j 0 ≤ hi) ∧ (hi < y → filt lo hi (items s.M) = ((N.ks.zip N.vs).take i).drop p)) := fun y hy => ⟨fun hle j q1 q2 => by
        rcases Nat.lt_or_ge j i with h | h
        · exact hM.out.1 j q1 h
        · have : j = i := by omega
          subst this; rw [← hy]; exact hle, fun hlt => HL.out i h1 h2 hM.out.1 (fun _ => by rw [← hy]; exact hlt)⟩
      obtain ⟨y1, hy1⟩ : ∃ y1, y1 = N.ks.getD i 0 := ⟨_, rfl⟩
      obtain ⟨y2, hy2⟩ : ∃ y2, y2 = N.vs.getD i sv0 := ⟨_, rfl⟩
      rw [← hy1] at hc3
      rw [← hy2] at hc4
      rw [← hy1, ← hy2] at hz
      have HY := HKI.out y1 hy1
      have HYH := Lib.hid HY
      have HZZ := Lib.hid hz
      clear hy1 hy2 hz HKI HY hcell
      by_cases hle : y1 ≤ hi
      · have hBr : B ≤ wr.heap.size := Nat.le_trans HB.out hM.out.2.2.size
        obtain ⟨v2, w2, ra, rt, rb⟩ := append_thing (w := wr.drew) y1 y2 (hM.out.2.1.rb (Rb.drew wr)) (by rw [List.length_append]; omega) hBr
        have RT := Lib.hid rt
        have RBB := Lib.hid rb
        have HIN : Hid (i < n ∧ p ≤ i ∧ n - i ≤ gk ∧ y1 ≤ hi) := ⟨hin, h1, h3, hle⟩
        have e0 : wr.drew.heap.size = wr.heap.size := rfl
        rw [e0] at ra
        clear rt rb e0 hll h1 h2 h3 hBr
        go_wp2_with fail
        have mixed : Tryz.prog.follows Departure.mixedOrders = true := by kernel_rfl
        go_region_law_o (refine step_run_append rfl rfl (by simp [Act.eval]) (by simp [Act.eval]) (ra _) ?_)
        all_goals
          go_wp2
          go_roundg (n - (i + 1))
          case measure => have := HIN.out; omega
          case rel =>
            have q := HIN.out
            refine ⟨_, i + 1, rfl, by rw [show ((i : Int) + 1) = ((i + 1 : Nat) : Int) by omega], by omega, by omega, Nat.le_refl _, HYH.out.1 q.2.2.2, ?_, ?_⟩
            · rw [HZZ.out, ← List.append_assoc]
              exact RT.out
            · exact (hM.out.2.2.drew).trans RBB.out
      · have HF := Lib.hid (HYH.out.2 (by omega))
        unfold ThPost
        go_wp2
        go_ret
        refine ⟨_, rfl, ?_, hM.out.2.2⟩
        rw [HF.out]
        exact hM.out.2.1
    · have hni : i = n := by omega
      subst hni
      have HF := Lib.hid (HL.out i h1 (Nat.le_refl _) hM.out.1 (fun h => absurd h (Nat.lt_irrefl _)))
      clear hcell
      unfold ThPost
      go_wp2
      go_ret
      refine ⟨_, rfl, ?_, hM.out.2.2⟩
      rw [HF.out]
      exact hM.out.2.1
end Go.Proofs.YtjfpeklfgnajoaaGreat.L6

namespace Go.Proofs.YtjfpeklfgnajoaaGreat.L6
open Go.ChangeShapes Go.WideShapes Go.ChangeAt Go.RowKit By Reg
set_option linter.unusedVariables false

theorem place_keys {x : Int} {ks : List Int} {p : Nat} (hr : ks.Pairwise (· < ·)) (hp : Pos x ks p) : placeAt x ks p ≤ ks.length ∧ (∀ j, j < placeAt x ks p → ks.getD j 0 ≤ x) ∧ (∀ j, placeAt x ks p ≤ j → j < ks.length → x < ks.getD j 0) := by
  have hpl := hp.le
  have gd : ∀ j (h : j < ks.length), ks.getD j 0 = ks[j] := fun j h => by rw [List.getD_eq_getElem?_getD, List.getElem?_eq_getElem h]; rfl
  unfold placeAt
  cases hf : found x ks p
  · simp only [Bool.false_eq_true, if_false]
    refine ⟨hpl, fun j hj => by have := hp.lo j hj; omega, fun j h1 h2 => ?_⟩
    have := gt_of_none hp hr hf (ks.getD j 0) (by
      rw [gd j h2]
      exact List.mem_iff_getElem.2 ⟨j - p, by rw [List.length_drop]; omega, by rw [List.getElem_drop]; congr 1; omega⟩)
    exact this
  · simp only [if_true]
    obtain ⟨hpl', hpe⟩ := found_at hf
    refine ⟨hpl', fun j hj => ?_, fun j h1 h2 => ?_⟩
    · by_cases hjp : j < p
      · have := hp.lo j hjp; omega
      · have : j = p := by omega
        subst this
        rw [gd j hpl']; omega
    · have := gt_of_some hr hpl' hpe (ks.getD j 0) (by
        rw [gd j h2]
        exact List.mem_iff_getElem.2 ⟨j - (p + 1), by rw [List.length_drop]; omega, by rw [List.getElem_drop]; congr 1; omega⟩)
      exact this

theorem OpenP.sides {H : World → Sub → Prop} {w : World} {s : Sub} {N : Nd} {cs : List Sub} (o : OpenP H w s N cs) (hs : Srt s.M) {x : Int} {p : Nat} (hr : N.ks.Pairwise (· < ·)) (hp : Pos x N.ks p) :
    (∀ j (h : j < cs.length), j < placeAt x N.ks p → Lt x (items cs[j].M)) ∧ (∀ j (h : j < cs.length), placeAt x N.ks p < j → Gt x (items cs[j].M)) := by
  obtain ⟨h1, h2, h3⟩ := place_keys hr hp
  have hlen := o.len
  refine ⟨fun j h hj t ht => ?_, fun j h hj t ht => ?_⟩
  · obtain ⟨l, a, b, r, hcs, hl, ha, hb⟩ := o.sep hs j (by omega)
    have e : cs[j] = a := by subst hl; subst hcs; simp
    rw [e] at ht
    have := ha t ht
    have := h2 j hj
    omega
  · obtain ⟨l, a, b, r, hcs, hl, ha, hb⟩ := o.sep hs (j - 1) (by omega)
    have e : cs[j] = b := by
      have : j = l.length + 1 := by omega
      subst this; subst hcs; simp [List.getElem_append_right]
    rw [e] at ht
    have := hb t ht
    have := h3 (j - 1) (by omega) (by omega)
    omega

theorem filt_le (lo hi : Int) (L : List Th) : (filt lo hi L).length ≤ L.length := List.length_filter_le ..

set_option maxHeartbeats 4000000 in
set_option maxRecDepth 100000 in
theorem things_any (lo hi : Int) (B : Nat) : ∀ (d : Nat) (w : World) (s : Sub) (v : Value) (xs : List Th), Held d w s → s.n ≤ 8 → Srt s.M → (∀ k, s.F k → k < B) → B ≤ w.heap.size → TRow B w v xs → xs.length + (items s.M).length ≤ 50000 →
    Calls Tryz.prog 90 #[ptrv s.b, v, i64 lo, i64 hi] w (ThPost B w (xs ++ filt lo hi (items s.M)))
  | 0, w, s, v, xs, h, hn, hs, hF, hB, hr, hx => things_leaf lo hi B w s v xs h (by omega) hs hF hB hr (by omega)
  | d + 1, w, s, v, xs, h, hn, hs, hF, hB, hr, hx => by
    obtain ⟨N, cs, o, hc⟩ := h
    have hlen := o.len
    have hsn := o.n
    have hrk := seps_rise (ms := cs.map (·.M)) (by rw [List.length_map]; exact o.len) (by rw [← o.M]; exact hs)
    obtain ⟨p1, hp1⟩ := Pos.exists lo N.ks hrk
    obtain ⟨p2, hp2⟩ := Pos.exists hi N.ks hrk
    have sd1 := (o.sides hs hrk hp1).1
    have sd2 := (o.sides hs hrk hp2).2
    have k1 := (place_keys hrk hp1).1
    have k2 := (place_keys hrk hp2).1
    have oAt : ∀ w', Below B w w' → OpenP (Held d) w' s N cs := fun w' hb => o.same_of (fun k hk => hb.block k (hF k hk)) (fun c hcm => (o.held c hcm).same d fun k hk => hb.block k (hF k ((o.F k).2 (.inr ⟨c, hcm, hk⟩))))
    have CL := leaf_any w N o.na
    have hle : isLeaf N = false := by
      unfold isLeaf
      rw [decide_eq_false_iff_not, o.ps, List.length_map]; omega
    rw [hle, o.b] at CL
    have CL' := Lib.hid CL
    obtain ⟨a1, ha1⟩ : ∃ a1, a1 = placeAt lo N.ks p1 := ⟨_, rfl⟩
    obtain ⟨a2, ha2⟩ : ∃ a2, a2 = placeAt hi N.ks p2 := ⟨_, rfl⟩
    rw [← ha1] at sd1 k1
    rw [← ha2] at sd2 k2
    have CP1 : ∀ w', Below B w w' → Hid (Calls Tryz.prog 114 #[ptrv s.b, i64 lo] w' fun e w'' => e = .returned (i64 (a1 : Nat)) ∧ Rb w' w'') := fun w' hb => by
      have := place_any w' N lo p1 (oAt w' hb).na (by omega) hrk hp1
      rw [o.b, ← ha1] at this
      exact this
    have CP2 : ∀ w', Below B w w' → Hid (Calls Tryz.prog 114 #[ptrv s.b, i64 hi] w' fun e w'' => e = .returned (i64 (a2 : Nat)) ∧ Rb w' w'') := fun w' hb => by
      have := place_any w' N hi p2 (oAt w' hb).na (by omega) hrk hp2
      rw [o.b, ← ha2] at this
      exact this
    obtain ⟨n, hnn⟩ : ∃ n, n = cs.length := ⟨_, rfl⟩
    have hi_eq : items s.M = (cs.map (·.M)).flatMap items := by rw [o.M, items_weave (by rw [List.length_map]; exact o.len)]
    have tot : ∀ i, i ≤ n → (((cs.take i).map (·.M)).flatMap items).length ≤ (items s.M).length := fun i hi' => by
      rw [hi_eq]
      conv => rhs; rw [← List.take_append_drop i cs]
      rw [List.map_append, List.flatMap_append, List.length_append]
      omega
    -- what is told of the first i parts
    have acc0 : filt lo hi (((cs.take a1).map (·.M)).flatMap items) = [] := filt_lt fun t ht => by
      obtain ⟨m, hm, htm⟩ := List.mem_flatMap.1 ht
      obtain ⟨c, hcm, rfl⟩ := List.mem_map.1 hm
      obtain ⟨j, hj, e⟩ := List.mem_iff_getElem.1 hcm
      rw [List.length_take] at hj
      rw [List.getElem_take] at e
      subst e
      exact sd1 j (by omega) (by omega) t htm
    have accS : ∀ i (h : i < n), filt lo hi (((cs.take (i + 1)).map (·.M)).flatMap items) = filt lo hi (((cs.take i).map (·.M)).flatMap items) ++ filt lo hi (items (cs[i]'(by omega)).M) := fun i h => by
      rw [List.take_succ_eq_append_getElem (by omega : i < cs.length), List.map_append, List.flatMap_append, filt_append]
      simp
    have accE : ∀ i, a2 + 1 ≤ i → i ≤ n → filt lo hi (items s.M) = filt lo hi (((cs.take i).map (·.M)).flatMap items) := fun i h1 h2 => by
      rw [hi_eq]
      conv => lhs; rw [← List.take_append_drop i cs]
      rw [List.map_append, List.flatMap_append, filt_append]
      rw [show filt lo hi (((cs.drop i).map (·.M)).flatMap items) = [] from filt_gt fun t ht => by
        obtain ⟨m, hm, htm⟩ := List.mem_flatMap.1 ht
        obtain ⟨c, hcm, rfl⟩ := List.mem_map.1 hm
        obtain ⟨j, hj, e⟩ := List.mem_iff_getElem.1 hcm
        rw [List.length_drop] at hj
        rw [List.getElem_drop] at e
        subst e
        exact sd2 (i + j) (by omega) (by omega) t htm, List.append_nil]
    have PART : Hid (∀ w', Below B w w' → ∀ i, i < n → ∃ g cap b, w'.cell? ⟨s.b, 2, none⟩ = some (.slice (some ⟨g, 0, none⟩) n cap) ∧ n ≤ cap ∧ w'.cell? ⟨g, i, none⟩ = some (ptrv b) ∧
        ∀ (vl : Value), TRow B w' vl (xs ++ filt lo hi (((cs.take i).map (·.M)).flatMap items)) → Hid (Calls Tryz.prog 90 #[ptrv b, vl, i64 lo, i64 hi] w' (ThPost B w' (xs ++ filt lo hi (((cs.take (i + 1)).map (·.M)).flatMap items))))) := fun w' hb i hin => by
      have o' := oAt w' hb
      have hil : i < cs.length := by omega
      have hcs : cs = cs.take i ++ cs[i] :: cs.drop (i + 1) := by rw [← drop_cons hil, List.take_append_drop]
      have htl : (cs.take i).length = i := by rw [List.length_take]; omega
      have hm := List.getElem_mem hil
      obtain ⟨g, cap, q1, q2, q3⟩ := part_at (l := cs.take i) (r := cs.drop (i + 1)) (c1 := cs[i]) (by rw [← hcs]; exact o')
      have e : (cs.take i).length + ((cs.drop (i + 1)).length + 1) = n := by rw [htl, List.length_drop]; omega
      rw [e] at q1 q2
      rw [htl] at q3
      refine ⟨g, cap, cs[i].b, q1, q2, q3, fun vl hrow => ?_⟩
      have hlen2 := tot (i + 1) (by omega)
      rw [List.take_succ_eq_append_getElem hil, List.map_append, List.flatMap_append, List.length_append] at hlen2
      simp only [List.map_cons, List.map_nil, List.flatMap_cons, List.flatMap_nil, List.append_nil] at hlen2
      have hfl := filt_le lo hi (((cs.take i).map (·.M)).flatMap items)
      have := things_any lo hi B d w' cs[i] vl _ (o'.held _ hm) (hc _ hm).2 (o.srt hs _ hm) (fun k hk => hF k ((o.F k).2 (.inr ⟨_, hm, hk⟩))) (Nat.le_trans hB hb.size) hrow (by rw [List.length_append]; omega)
      rw [List.append_assoc, ← accS i hin] at this
      exact this
    have ACC0 := Lib.hid acc0
    have ACCE := Lib.hid accE
    have HR := Lib.hid hr
    have HB := Lib.hid hB
    have J1 := CP1 w (Below.refl _ _)
    have ha1n : a1 < n := by omega
    have ha2n : a2 < n := by omega
    have hnb : n ≤ 8 := by omega
    clear o hc hlen hsn hrk hp1 hp2 sd1 sd2 k1 k2 oAt CL hle ha1 ha2 CP1 hnn hi_eq tot acc0 accS accE hs hF hr hx hn
    unfold ThPost
    go_enter Tryz.func90, Tryz.ntmps90
    go_wp2_with (first | (go_at_call 113; refine CL'.out.mono ?_; rintro e w' ⟨rfl, rfl⟩) | (go_at_call 114; refine J1.out.mono ?_))
    first | (rintro e w1 rfl hd) | (rintro e w1 ⟨rfl, hd⟩)
    have RB1 := Lib.hid hd
    clear hd J1
    go_wp2_with fail
    go_loopg [1, 9] n (fun g s1 s9 wr => ∃ (vl : Value) (i : Nat), s1 = vl ∧ s9 = .int .i64 i ∧ i ≤ n ∧ (i ≤ a2 + 1 ∨ i = a1) ∧ a1 ≤ i ∧ n - i ≤ g ∧ Hid (TRow B wr vl (xs ++ filt lo hi (((cs.take i).map (·.M)).flatMap items)) ∧ Below B w wr))
    case atStart =>
      refine ⟨_, a1, rfl, rfl, by omega, .inr rfl, Nat.le_refl _, by omega, ?_, RB1.out.mono HB.out⟩
      rw [ACC0.out, List.append_nil]
      exact HR.out.rb RB1.out
    case round =>
      obtain ⟨vl, i, hvl, rfl, h1, h2, h3, h4, hM⟩ := hrel
      obtain rfl : vl = u1 := hvl.symm
      have J2 := CP2 wr hM.out.2
      by_cases hia : i ≤ a2
      · have hia' : (i : Int) ≤ (a2 : Int) := by omega
        have hin : i < n := by omega
        have HIN : Hid (i < n ∧ i ≤ a2 ∧ a1 ≤ i ∧ n - i ≤ gk) := ⟨hin, hia, h3, h4⟩
        clear hia h1 h2 h3 h4
        go_wp2_with (go_at_call 114; refine J2.out.mono ?_)
        first | (rintro e w2 rfl hd) | (rintro e w2 ⟨rfl, hd⟩)
        have hb2 : Below B w w2 := hM.out.2.trans (hd.mono (Nat.le_trans HB.out hM.out.2.size))
        obtain ⟨g, cap, b, q1, q2, q3, q4⟩ := PART.out w2 hb2 i hin
        have J3 := q4 vl (hM.out.1.rb hd)
        have HB2 := Lib.hid hb2
        unfold ThPost at J3
        clear hd hb2 q4 J2
        go_wp2_with (go_at_call 90; refine J3.out.mono ?_)
        first | (rintro e w3 v3 rfl hr3 hb3) | (rintro e w3 ⟨v3, rfl, hr3, hb3⟩)
        have HR3 := Lib.hid hr3
        have HB3 := Lib.hid hb3
        clear hr3 hb3 J3 q1 q3
        go_wp2
        go_roundg (n - (i + 1))
        case measure => have := HIN.out; omega
        case rel =>
          have q := HIN.out
          exact ⟨v3, i + 1, rfl, by rw [show ((i : Int) + 1) = ((i + 1 : Nat) : Int) by omega], by omega, .inl (by omega), by omega, Nat.le_refl _, HR3.out, HB2.out.trans HB3.out⟩
      · have hia' : ¬ (i : Int) ≤ (a2 : Int) := by omega
        have HE := Lib.hid (ACCE.out i (by omega) h1)
        clear hia h1 h2 h3 h4
        go_wp2_with (go_at_call 114; refine J2.out.mono ?_)
        first | (rintro e w2 rfl hd) | (rintro e w2 ⟨rfl, hd⟩)
        have HD := Lib.hid hd
        clear hd J2
        go_wp2
        go_ret
        refine ⟨_, rfl, ?_, hM.out.2.trans (HD.out.mono (Nat.le_trans HB.out hM.out.2.size))⟩
        rw [HE.out]
        exact hM.out.1.rb HD.out
end Go.Proofs.YtjfpeklfgnajoaaGreat.L6

namespace Go.Proofs.YtjfpeklfgnajoaaGreat.L6
open Go.ChangeShapes Go.WideShapes Go.ChangeAt Go.RowKit By Reg
set_option linter.unusedVariables false

section
variable {F : Fence} {n : Nat} {P : Program} {α : Type}

/-- the iterator's promise: some xs come, one by one; of each the round is told Tl -/
def Gives (F : Fence) (m : Nat) (P : Program) (gf : Nat) (lb : Array Value) (encs : α → Array Value) (Kp : World → World → Prop) (Tl : List α → α → Prop) (S : List α → Prop) (N : Nat) (w : World) : Prop :=
  ∀ (l : Nat) (J : List α → World → Prop) (W : World), Below w.heap.size w W → AbidesFrom W.heap.size J →
    (∀ (pre : List α) (x : α) (W1 : World), J pre W1 → Tl pre x → pre.length < N → YieldAt F (m - 1) P l (encs x) W1 fun e W2 => e = .returned (.bool true) ∧ J (pre ++ [x]) W2 ∧ Kp W1 W2) →
    J [] W → CallsIn F m P gf (#[.func (.yield l) #[] #[]] ++ lb) W fun e W2 => (∃ v, e = .returned v) ∧ ∃ xs, S xs ∧ J xs W2

/-- how a round's body ends: off its end, and nothing that is no cells has turned from B on -/
def goesOn (B : Nat) (Kp : World → World → Prop) (I : World → Prop) (W : World) : Exit → Act → World → Prop
  | .normal, _, W2 => KeepsFrom B W W2 ∧ Kp W W2 ∧ I W2
  | _, _, _ => False

/-- the two blocks that the statement lays: the rounds' deferred calls, and its record -/
structure Laid (d : Nat) (r : Go.Loop) (W : World) : Prop where
  dfr : W.heap[d]? = some (.deferred (some []))
  lp : W.heap[d + 1]? = some (.loop r)

theorem Laid.put {d : Nat} {r : Go.Loop} {W : World} (h : Laid d r W) (r2 : Go.Loop) : Laid d r2 (W.putObj (d + 1) (.loop r2)) :=
  ⟨(World.putObj_heap_other (by omega)).trans h.dfr, World.putObj_heap_same (Array.getElem?_eq_some_iff.1 h.lp).1⟩
theorem Laid.kept {d : Nat} {r : Go.Loop} {W W2 : World} (h : Laid d r W) (k : KeepsFrom d W W2) : Laid d r W2 :=
  ⟨k.same _ _ (Nat.le_refl _) h.dfr rfl, k.same _ _ (by omega) h.lp rfl⟩
theorem Laid.step {d : Nat} {r : Go.Loop} {W W2 : World} {row : Option Nat} (h : Laid d r W) (hg : W.grownBy W2 row) (hr : ∀ q, row = some q → ∃ o : Obj, W.heap[q]? = some o ∧ o.isWalk = true) : Laid d r W2 :=
  ⟨(grownBy_keeps hg hr h.dfr rfl).trans h.dfr, (grownBy_keeps hg hr h.lp rfl).trans h.lp⟩

theorem wpIn_range_told {g : Operand} {ps : Array Tmp} {assign body : Code} {Q : Exit → Act → World → Prop} {a : Act} {w : World}
    (hro : F.round = none) (h1 : 1 ≤ n) {gf : Nat} {lb : Array Value} (hg : a.eval g = .func (.func gf) #[] lb) (hFg : F.fn gf) (eg : ∀ args w, (callFunc gf args).run P w = .ok (.enter gf args) w)
    {encs : α → Array Value} {Kp : World → World → Prop} {Tl : List α → α → Prop} {S : List α → Prop} {N : Nat} (hseq : Gives F (n - 1) P gf lb encs Kp Tl S N w)
    (hKt : ∀ A B C : World, Kp A B → Kp B C → Kp A C) (hKb : ∀ (W : World) (l : Nat) (o o' : Obj), w.heap.size ≤ l → W.heap[l]? = some o → o.isCells = false → Kp W (W.putObj l o'))
    (hps : ∀ x, (encs x).size = ps.size) (I : List α → World → Prop) (hI : OwnFrom w.heap.size I) (h0 : I [] w) (a₁ : α → Act)
    (hassign : ∀ (l : Nat) (x : α) (W : World) (K : Act → World → Prop), K (a₁ x) W →
      assign.wpIn (F.inRound l) (n - 1 - 1) P (Exit.then K (fun _ _ _ => False)) { tmps := (ps.zip (encs x)).foldl (fun t (p, v) => t.setIfInBounds p v) a.tmps, defers := [] } W)
    (hbody : ∀ (l : Nat) (pre : List α) (x : α) (W : World), I pre W → Tl pre x → pre.length < N → body.wpIn (F.inRound l) (n - 1 - 1) P (goesOn w.heap.size Kp (I (pre ++ [x])) W) (a₁ x) W)
    (hdone : ∀ (D : Nat) (xs : List α) (W : World), w.heap.size ≤ D → S xs → I xs W → W.heap[D]? = some (.deferred (some [])) → Q .normal { a with defers := { target := .collected D, args := #[] } :: a.defers } W) :
    (Code.rangeFunc g ps assign body).wpIn F n P Q a w := by
  refine wpIn_rangeFunc fun fn hfn => ?_
  rw [hro]
  obtain ⟨R, hR⟩ : ∃ R : LoopState → Go.Loop, R = fun st => { state := st, pending := none, fn, tmps := a.tmps, params := ps, assign, body, defers := w.heap.size } := ⟨_, rfl⟩
  obtain ⟨V, hV⟩ : ∃ V, V = (w.alloc (.deferred (some []))).alloc (.loop (R .ready)) := ⟨_, rfl⟩
  have lay : Laid w.heap.size (R .ready) V := by
    have e := World.alloc_heap_new (w.alloc (.deferred (some []))) (.loop (R .ready))
    rw [World.size_alloc, ← hV] at e
    refine ⟨?_, e⟩
    rw [hV]
    exact (Below.heap_alloc _ _ _ (by simp)).trans (World.alloc_heap_new w _)
  have old : Below w.heap.size w V := by
    rw [hV]; exact ((Below.refl _ w).alloc (Nat.le_refl _) _).alloc (by simp) _
  have inv : I [] V := by rw [hV]; exact hI.alloc _ (hI.alloc _ h0)
  refine ⟨w.heap.size + 1, [{ target := .collected w.heap.size, args := #[] }], V, { target := .fn (.func gf) lb, args := #[.func (.yield (w.heap.size + 1)) #[] #[]] }, V, gf,
    #[.func (.yield (w.heap.size + 1)) #[] #[]] ++ lb, V, ?_, ?_, ?_, ?_, fun _ => h1, ?_⟩
  · rw [hV, hR]; exact run_enterLoop_outer _ _ _ _ _
  · simp only [resolve, hg]; simp [go_sem]
  · intro q hq; simp [Target.leads] at hq; subst hq; exact hFg
  · simp [invoke, go_sem, eg]
  have low : ∀ {A : World} {row : Option Nat}, (∀ q, row = some q → V.heap.size ≤ q ∧ ∃ o : Obj, A.heap[q]? = some o ∧ o.isWalk = true) → ∀ q, row = some q → w.heap.size ≤ q ∧ ∃ o : Obj, A.heap[q]? = some o ∧ o.isCells = false := fun hr q e => by
    obtain ⟨hb, o, ho, hw⟩ := hr q e
    have := old.size
    exact ⟨by omega, o, ho, Obj.not_cells_of_walk hw⟩
  refine (hseq (w.heap.size + 1) (fun pre W => I pre W ∧ Laid w.heap.size (R .ready) W) V old (fun s A B row hs hg2 hr => ⟨hI s A B row hs.1 hg2 (low hr), hs.2.step hg2 fun q e => (hr q e).2⟩) ?round ⟨inv, lay⟩).mono ?after
  case round =>
    rintro pre x W ⟨hi, hl⟩ ht hN
    have hy := run_yield (P := P) (args := encs x) hl.lp (by rw [hR]; exact hps x)
    rw [hR] at hy
    refine ⟨fn, _, assign, body, hy, roundIn_of_wpIn hfn (hassign _ x W _ ⟨_, run_beginRound hl.lp (by rw [hR]), ?_⟩)⟩
    have hb : ({ R .ready with state := .busy } : Go.Loop) = R .busy := by rw [hR]
    rw [hb]
    have hl2 := hl.put (R .busy)
    refine wpIn_mono (hbody _ pre x _ (hI.putObj _ hi (by omega) hl.lp rfl) ht hN) ?_
    intro e a3 W3 hp
    cases e with
    | normal =>
      obtain ⟨k3, p3, i3⟩ := hp
      have hl3 := hl2.kept k3
      have he := run_endRound (P := P) none hl3.lp
      have hb2 : ({ R .busy with state := if (none : Option Code).isNone then .ready else .done, pending := none } : Go.Loop) = R .ready := by rw [hR]; rfl
      rw [hb2] at he
      exact ⟨_, _, he, rfl, ⟨hI.putObj _ i3 (by omega) hl3.lp rfl, hl3.put _⟩, hKt _ _ _ (hKt _ _ _ (hKb _ _ _ _ (by omega) hl.lp rfl) p3) (hKb _ _ _ _ (by omega) hl3.lp rfl)⟩
    | ret => exact hp.elim
    | exit id => exact hp.elim
    | goto t => exact hp.elim
    | panic ch => exact hp.elim
    | outgrown => exact hp.elim
  case after =>
    rintro e W2 ⟨⟨v, rfl⟩, xs, hS, hi, hl⟩
    have he := run_endLoop (P := P) hl.lp (by rw [hR]; simp)
    exact ⟨none, _, by rw [he, hR], hdone _ xs _ (Nat.le_refl _) hS (hI.putObj _ hi (by omega) hl.lp rfl) ((World.putObj_heap_other (by omega)).trans hl.dfr)⟩
end
end Go.Proofs.YtjfpeklfgnajoaaGreat.L6

namespace Go.Proofs.YtjfpeklfgnajoaaGreat.L6
open Go.ChangeShapes Go.WideShapes Go.ChangeAt Go.RowKit Go.Shelf By Reg
set_option linter.unusedVariables false
attribute [local go_sem] Oper.semAt_some

abbrev encT (x : Th) : Array Value := #[i64 x.1, sv x.2]

/-- what a round keeps: rows of things -/
structure KeepT (W W2 : World) : Prop where
  size : W.heap.size ≤ W2.heap.size
  things : ∀ (n : Nat) (cs : Array Value) (m : Nat × Nat), W.heap[n]? = some (Obj.cells cs 139 m) → W2.heap[n]? = W.heap[n]?
theorem KeepT.trans {A B C : World} (h : KeepT A B) (k : KeepT B C) : KeepT A C :=
  ⟨Nat.le_trans h.size k.size, fun n cs m hc => by
    have h1 := h.things n cs m hc
    rw [k.things n cs m (h1.trans hc), h1]⟩
theorem KeepT.put (W : World) (l : Nat) (o o' : Obj) (hl : W.heap[l]? = some o) (ho : o.isCells = false) : KeepT W (W.putObj l o') := by
  refine ⟨by simp, fun n cs m hc => World.putObj_heap_other fun e => ?_⟩
  subst e
  rw [hl] at hc
  cases hc
  cases ho
theorem KeepT.rb {A B : World} (h : Rb A B) : KeepT A B := ⟨h.size, fun n cs m hc => h.block n (Array.getElem?_eq_some_iff.1 hc).1⟩
theorem TRow.keep {B : Nat} {W W2 : World} {v : Value} {L : List Th} (h : TRow B W v L) (k : KeepT W W2) : TRow B W2 v L := by
  refine ⟨h.1, ?_⟩
  rcases h.2 with h0 | ⟨g, cap, cur, rfl, h2, h3, h4⟩
  · exact .inl h0
  · exact .inr ⟨g, cap, cur, rfl, h2, by rw [k.things g _ _ h3]; exact h3, h4⟩

theorem TRow.form {B : Nat} {w : World} {v : Value} {L : List Th} (h : TRow B w v L) : ∃ ao cap, v = .slice ao L.length cap ∧ L.length ≤ cap ∧ ∀ i, i < L.length → ∃ g, ao = some ⟨g, 0, none⟩ ∧ w.cell? ⟨g, i * 2, none⟩ = some (i64 (L.getD i (0, sv0)).1) ∧ w.cell? ⟨g, i * 2 + 1, none⟩ = some (sv (L.getD i (0, sv0)).2) := by
  obtain ⟨_, h⟩ := h
  rcases h with ⟨h1, h2⟩ | ⟨g, cap, cur, h1, h2, h3, h4, h5, h6, h7⟩
  · exact ⟨none, 0, by rw [h1, h2], by omega, fun i hi => by omega⟩
  · refine ⟨_, cap, h1, h4, fun i hi => ⟨g, rfl, ?_, ?_⟩⟩
    · rw [cell_of_row w g _ cur _ (0, 0) h3]
      have := (cells2_key L i hi).1
      rw [← h7, List.getElem?_take_of_lt (by omega)] at this
      simpa using this
    · rw [cell_of_row w g _ cur _ (0, 0) h3]
      have := (cells2_key L i hi).2
      rw [← h7, List.getElem?_take_of_lt (by omega)] at this
      simpa using this

set_option maxRecDepth 100000 in
theorem makes_range (d : Nat) (p : Nat) (lo hi : Int) (w : World) :
    CallsIn Fence.wide d Tryz.prog 54 #[ptrv p, i64 lo, i64 hi] w fun e w' => e = .returned (.func (.func 89) #[] #[.pointer (some ⟨w.heap.size, 0, none⟩), .pointer (some ⟨w.heap.size + 1, 0, none⟩), .pointer (some ⟨w.heap.size + 2, 0, none⟩)]) ∧
      w' = ((w.alloc (.cells #[ptrv p] 90)).alloc (.cells #[i64 lo] 2)).alloc (.cells #[i64 hi] 2) := by
  refine callsIn_wide.2 ?_
  go_enter Tryz.func54, Tryz.ntmps54
  go_wp2
  go_ret
  exact ⟨rfl, rfl⟩

/-- the three boxes that the iterator reads -/
structure Its (Bt : Nat) (p : Nat) (lo hi : Int) (W : World) : Prop where
  t : Boxed W Bt 90 (ptrv p)
  lo : Boxed W (Bt + 1) 2 (i64 lo)
  hi : Boxed W (Bt + 2) 2 (i64 hi)
theorem Its.rb {Bt p : Nat} {lo hi : Int} {W W2 : World} (h : Its Bt p lo hi W) (k : Rb W W2) : Its Bt p lo hi W2 := ⟨(k.block _ h.t.lt).trans h.t, (k.block _ h.lo.lt).trans h.lo, (k.block _ h.hi.lt).trans h.hi⟩
theorem grown_rb {W W2 : World} (h : Rb W W2) : W.grownBy W2 none := ⟨h.os, h.tape, h.output, h.size, fun k hk _ => h.block k hk⟩

set_option maxRecDepth 100000 in
set_option maxHeartbeats 2000000 in
theorem walks_range (Bt l p : Nat) (lo hi : Int) (L : List Th) (F : Nat → Prop) (hL : L.length ≤ 50000) (J : List Th → World → Prop) (W : World) (hJ : AbidesFrom W.heap.size J) (hi3 : Its Bt p lo hi W) (ht : TreeAt W p L F) (h0 : J [] W)
    (hY : ∀ (pre : List Th) (x : Th) (W1 : World), J pre W1 → (∃ r, filt lo hi L = pre ++ x :: r) → pre.length < 50000 → YieldAt Fence.wide 5 Tryz.prog l (encT x) W1 fun e W2 => e = .returned (.bool true) ∧ J (pre ++ [x]) W2 ∧ KeepT W1 W2) :
    CallsIn Fence.wide 6 Tryz.prog 89 #[.func (.yield l) #[] #[], .pointer (some ⟨Bt, 0, none⟩), .pointer (some ⟨Bt + 1, 0, none⟩), .pointer (some ⟨Bt + 2, 0, none⟩)] W fun e W2 => (∃ v, e = .returned v) ∧ ∃ xs : List Th, xs = filt lo hi L ∧ J xs W2 := by
  have c1 := hi3.t.cell
  have c2 := hi3.lo.cell
  have c3 := hi3.hi.cell
  rcases ht with ⟨hb, rfl, _⟩ | ⟨d, s, h, _⟩
  · have CE := Lib.hid (tempty_no W p 0 hb)
    clear hb
    refine callsIn_of_wp Tryz.func89 rfl trivial ?_ rfl
    simp only [Tryz.ntmps89, List.size_toArray, List.length_cons, List.length_nil, Nat.reduceAdd, Nat.reduceSub, Array.replicate_succ, Array.replicate_zero, List.push_toArray, List.append_toArray, List.nil_append, List.cons_append]
    gi_wp2_with (refine ⟨trivial, ?_⟩; gi_at_call 85; refine (callsIn_wide.2 CE.out).mono ?_; rintro e w2 ⟨rfl, rfl⟩)
    refine bodyPost_ret (results_none rfl _ _ _) rfl ?_
    exact ⟨⟨_, rfl⟩, [], rfl, h0⟩
  · have CE := Lib.hid (tempty_yes W p s.b _ h.blk)
    have b0 := h.blk.cell 0
    have CT0 := things_any lo hi W.heap.size d W.drew s (.slice none 0 0) [] (h.held.rb (Rb.drew W)) h.eight h.srt (h.held.lt d) (Nat.le_refl _) (World.ownsRow_nil _ _ _ _) (by rw [h.items]; simpa using hL)
    rw [List.nil_append, h.items] at CT0
    have CT := Lib.hid CT0
    clear CT0
    obtain ⟨M, hM⟩ : ∃ M, M = filt lo hi L := ⟨_, rfl⟩
    have hMl : M.length ≤ 50000 := by rw [hM]; exact Nat.le_trans (filt_le _ _ _) hL
    rw [← hM] at CT
    simp only [← hM] at hY
    rw [← hM]
    clear hM h hi3
    refine callsIn_of_wp Tryz.func89 rfl trivial ?_ rfl
    simp only [Tryz.ntmps89, List.size_toArray, List.length_cons, List.length_nil, Nat.reduceAdd, Nat.reduceSub, Array.replicate_succ, Array.replicate_zero, List.push_toArray, List.append_toArray, List.nil_append, List.cons_append]
    gi_wp2_with (refine ⟨trivial, ?_⟩; gi_at_call 85; refine (callsIn_wide.2 CE.out).mono ?_; rintro e w2 ⟨rfl, rfl⟩)
    have mixed : Tryz.prog.follows Departure.mixedOrders = true := by kernel_rfl
    have RT := Lib.hid (grown_rb (Rb.drew W))
    have HJ := Lib.hid hJ
    have HJ0 := Lib.hid h0
    gi_cut [15, 16, 17] from 9 (fun s15 s16 s17 wr => ∃ (ao : Option Addr) (cap : Nat), s15 = .slice ao M.length cap ∧ s16 = .int .i64 M.length ∧ s17 = .int .i64 0 ∧ Hid (TRow W.heap.size wr (.slice ao M.length cap) M ∧ J [] wr ∧ W.heap.size ≤ wr.heap.size))
    · gi_region_with_o (refine ⟨trivial, ?_⟩; gi_at_call 90; refine (callsIn_wide.2 CT.out).mono ?_; rintro e w2 ⟨v, rfl, hrow, hb2⟩; obtain ⟨ao, cap, rfl, hcap, hcell⟩ := hrow.form)
      all_goals
        gi_wp2_with fail
        gi_meet
        exact ⟨_, _, rfl, rfl, rfl, hrow, HJ.out _ _ _ none (HJ.out _ _ _ none HJ0.out RT.out (fun _ h => by cases h)) (grown_rb hb2) (fun _ h => by cases h), hb2.size⟩
    · obtain ⟨ao, cap, rfl, rfl, rfl, hc⟩ := hcut
      have HY := Lib.hid hY
      have HC := Lib.hid hc
      obtain ⟨n, hn⟩ : ∃ n, n = M.length := ⟨_, rfl⟩
      rw [← hn] at HC hMl ⊢
      have HN := Lib.hid hn
      clear hn hY hc hJ h0 c1 c2 c3 CT CE RT b0
      gi_wp2_with fail
      gi_loopw [17] (fun p wr => ∃ (i : Nat), p = .int .i64 i ∧ i ≤ n ∧ Hid (TRow W.heap.size wr (.slice ao n cap) M ∧ J (M.take i) wr ∧ W.heap.size ≤ wr.heap.size)) (fun p _ => n - (intOf p).toNat)
      case atStart => exact ⟨0, rfl, Nat.zero_le _, HC.out⟩
      case round =>
        obtain ⟨i, rfl, hin, hr⟩ := hrel
        by_cases h : i < n
        · obtain ⟨ao2, cap2, he, hcap, hcell⟩ := hr.out.1.form
          rw [← HN.out] at he hcell
          simp only [Value.slice.injEq, true_and] at he
          obtain ⟨rfl, rfl⟩ := he
          obtain ⟨g, rfl, hc1, hc2⟩ := hcell i h
          obtain ⟨x, hx⟩ : ∃ x, x = (M.getD i (0, sv0)).1 := ⟨_, rfl⟩
          obtain ⟨y, hy⟩ : ∃ y, y = (M.getD i (0, sv0)).2 := ⟨_, rfl⟩
          rw [← hx] at hc1
          rw [← hy] at hc2
          have HX := Lib.hid (And.intro hx hy)
          clear hcell hx hy
          have hcap' : n ≤ cap := by rw [HN.out]; exact hcap
          clear hcap
          have hM2 : M = M.take i ++ (x, y) :: M.drop (i + 1) := by
            have hil : i < M.length := by rw [← HN.out]; exact h
            rw [HX.out.1, HX.out.2, show ((M.getD i (0, sv0)).1, (M.getD i (0, sv0)).2) = M[i] by rw [List.getD_eq_getElem?_getD, List.getElem?_eq_getElem hil]; rfl]
            rw [← List.drop_eq_getElem_cons hil, List.take_append_drop]
          have htk : M.take (i + 1) = M.take i ++ [(x, y)] := by
            conv => lhs; rw [hM2]
            have : (M.take i).length = i := by rw [List.length_take, ← HN.out]; omega
            rw [List.take_append, this, List.take_of_length_le (by omega)]
            simp
          have HT := Lib.hid htk
          have hq := HY.out (M.take i) (x, y) (wr.alloc (.cells #[.int .i64 x, sv y] 139)) (HJ.out _ _ _ none hr.out.2.1 (World.grownBy_alloc wr _ none) (fun _ h => by cases h)) ⟨_, hM2⟩ (by rw [List.length_take]; omega)
          have hkt : Hid (TRow W.heap.size (wr.alloc (.cells #[.int .i64 x, sv y] 139)) (.slice (some ⟨g, 0, none⟩) n cap) M ∧ W.heap.size ≤ (wr.alloc (.cells #[.int .i64 x, sv y] 139)).heap.size) := ⟨hr.out.1.rb ((Below.refl _ wr).alloc (Nat.le_refl _) _), Nat.le_trans hr.out.2.2 (by simp)⟩
          clear hM2 htk
          obtain ⟨fn, tmps, assign, body, hyl, hR⟩ := hq
          dsimp only [encT] at hyl
          gi_wp2
          refine hR.mono ?_
          rintro e W3 ⟨rfl, hJ3, hk3⟩
          have H3 : Hid (TRow W.heap.size W3 (.slice (some ⟨g, 0, none⟩) n cap) M ∧ J (M.take (i + 1)) W3 ∧ W.heap.size ≤ W3.heap.size) := ⟨hkt.out.1.keep hk3, by rw [HT.out]; exact hJ3, Nat.le_trans hkt.out.2 hk3.size⟩
          clear hJ3 hk3 hyl hc1 hc2
          gi_wp2
          go_roundw
          case rel => exact ⟨i + 1, by go_num, by omega, H3.out⟩
          case measure => simp [intOf]; omega
        · have hni : i = n := by omega
          subst hni
          gi_wp2
          refine bodyPost_end (results_none rfl _ _ _) rfl ?_
          refine ⟨⟨_, rfl⟩, M, rfl, ?_⟩
          have := hr.out.2.1
          rw [HN.out, List.take_length] at this
          exact this
end Go.Proofs.YtjfpeklfgnajoaaGreat.L6

namespace Go.Proofs.YtjfpeklfgnajoaaGreat.L6
open Go.ChangeShapes Go.WideShapes Go.ChangeAt Go.RowKit Go.Shelf By Reg
set_option linter.unusedVariables false
attribute [local go_sem] Oper.semAt_some

/-- the world in which the iterator's boxes are made -/
def rangeW (w : World) (p : Nat) (lo hi : Int) : World := ((w.alloc (.cells #[ptrv p] 90)).alloc (.cells #[i64 lo] 2)).alloc (.cells #[i64 hi] 2)
theorem rangeW_rb (w : World) (p : Nat) (lo hi : Int) : Rb w (rangeW w p lo hi) :=
  (((Below.refl _ w).alloc (Nat.le_refl _) _).alloc (by simp) _).alloc (by simp; omega) _
theorem rangeW_its (w : World) (p : Nat) (lo hi : Int) : Its w.heap.size p lo hi (rangeW w p lo hi) := by
  unfold rangeW
  have b1 := Boxed.new w 90 (ptrv p)
  have b2 := Boxed.new (w.alloc (.cells #[ptrv p] 90)) 2 (i64 lo)
  have b3 := Boxed.new ((w.alloc (.cells #[ptrv p] 90)).alloc (.cells #[i64 lo] 2)) 2 (i64 hi)
  refine ⟨(b1.alloc _).alloc _, ?_, ?_⟩
  · have := b2.alloc (.cells #[i64 hi] 2)
    simpa using this
  · simpa using b3
theorem rangeW_size (w : World) (p : Nat) (lo hi : Int) : (rangeW w p lo hi).heap.size = w.heap.size + 3 := by unfold rangeW; simp

theorem makes_range' (d : Nat) (p : Nat) (lo hi : Int) (w : World) :
    CallsIn Fence.wide d Tryz.prog 54 #[ptrv p, i64 lo, i64 hi] w fun e w' => e = .returned (.func (.func 89) #[] #[.pointer (some ⟨w.heap.size, 0, none⟩), .pointer (some ⟨w.heap.size + 1, 0, none⟩), .pointer (some ⟨w.heap.size + 2, 0, none⟩)]) ∧
      w' = rangeW w p lo hi := makes_range d p lo hi w

theorem not_nil (fn : Fn) (f c : Array Value) (W : World) : Sem.run Tryz.prog (binOp BinOp.eql 107 (Value.func fn f c) Value.nilFunc) W = .ok (.bool false) W := by kernel_rfl
theorem gives_range {w : World} {Bt p : Nat} {lo hi : Int} {L : List Th} {F : Nat → Prop} (hi3 : Its Bt p lo hi w) (ht : TreeAt w p L F) (hL : L.length ≤ 50000) :
    Gives Fence.wide 6 Tryz.prog 89 #[.pointer (some ⟨Bt, 0, none⟩), .pointer (some ⟨Bt + 1, 0, none⟩), .pointer (some ⟨Bt + 2, 0, none⟩)] encT KeepT (fun pre x => ∃ r, filt lo hi L = pre ++ x :: r) (fun xs => xs = filt lo hi L) 50000 w :=
  fun l J W hW hJ hY h0 => walks_range Bt l p lo hi L F hL J W hJ (hi3.rb hW) (ht.rb hW) h0 hY

/-- a store into a box, in a round -/
theorem box_round {W : World} {Bn n B : Nat} {t : TypeId} {v : Value} (hb : Boxed W Bn t v) (ht : t ≠ 139) (hn : n ≤ Bn) (v' : Value) :
    KeepsFrom B W (W.setCell ⟨Bn, 0, none⟩ v') ∧ KeepT W (W.setCell ⟨Bn, 0, none⟩ v') ∧ Boxed (W.setCell ⟨Bn, 0, none⟩ v') Bn t v' ∧ Below n W (W.setCell ⟨Bn, 0, none⟩ v') := by
  have hg := grownBy_setCell' W Bn v'
  have ho : ∀ k, k ≠ Bn → (W.setCell ⟨Bn, 0, none⟩ v').heap[k]? = W.heap[k]? := fun k h => Below.heap_setCell _ _ _ k h
  refine ⟨⟨hg.size, fun k o _ hk hc => ?_⟩, ⟨hg.size, fun k cs m hk => ho k fun e => ?_⟩, hb.set v', ⟨hg.os, hg.tape, hg.output, hg.size, fun k hk => ho k (by omega)⟩⟩
  · rw [ho k fun e => ?_]
    · exact hk
    · subst e
      rw [show W.heap[k]? = _ from hb] at hk
      cases hk; cases hc
  · subst e
    rw [show W.heap[k]? = _ from hb] at hk
    cases hk
    exact ht rfl

end Go.Proofs.YtjfpeklfgnajoaaGreat.L6

namespace Go.Proofs.YtjfpeklfgnajoaaGreat.L6
open Go.ChangeShapes Go.WideShapes Go.ChangeAt Go.RowKit Go.Shelf By Reg
set_option linter.unusedVariables false
attribute [local go_sem] Oper.semAt_some

/-- all cells are as they were, and all below B -/
structure CK (B : Nat) (w w' : World) : Prop where
  os : w'.os = w.os
  tape : w'.tape = w.tape
  output : w'.output = w.output
  size : w.heap.size ≤ w'.heap.size
  cells : ∀ (k : Nat) (cs : Array Value) (T : TypeId) (m : Nat × Nat), w.heap[k]? = some (Obj.cells cs T m) → w'.heap[k]? = w.heap[k]?
  old : ∀ k, k < B → k < w.heap.size → w'.heap[k]? = w.heap[k]?
theorem own_ck {β : Type} {B : Nat} {I : β → World → Prop} (h : ∀ s W W', CK B W W' → I s W → I s W') : OwnFrom B I := fun s W W' row hs hg hr => by
  refine h s W W' ⟨hg.os, hg.tape, hg.output, hg.size, fun k cs T m hk => ?_, fun k hk hl => ?_⟩ hs
  · refine hg.block k (Array.getElem?_eq_some_iff.1 hk).1 fun e => ?_
    obtain ⟨_, o, ho, hc⟩ := hr k e.symm
    rw [hk] at ho
    cases ho
    cases hc
  · refine hg.block k hl fun e => ?_
    have := (hr k e.symm).1
    omega
theorem Blk.ck {B : Nat} {w w' : World} {N : Nat} {T : TypeId} {cs : List Value} (h : Blk w N T cs) (k : CK B w w') : Blk w' N T cs := h.same (k.cells N _ _ _ h)
theorem TreeAt.ck {B : Nat} {w w' : World} {p : Nat} {L : List Th} {F : Nat → Prop} (h : TreeAt w p L F) (k : CK B w w') : TreeAt w' p L F := h.same fun q hq => by
  obtain ⟨T, cs, hb, _⟩ := h.typ q hq
  exact k.cells _ _ _ _ hb
theorem Row.ck {B : Nat} {w w' : World} {e : TypeId} {v : Value} {xs : List Value} (h : Row w e v xs) (k : CK B w w') : Row w' e v xs := h.same fun q hq => by
  obtain ⟨cs, hb⟩ := h.typ q hq
  exact k.cells _ _ _ _ hb
theorem rb_ck {B : Nat} {w0 w w' : World} (h : Rb w0 w) (k : CK B w w') (hB : w0.heap.size ≤ B) : Rb w0 w' :=
  ⟨k.os.trans h.os, k.tape.trans h.tape, k.output.trans h.output, Nat.le_trans h.size k.size, fun q hq => (k.old q (by omega) (Nat.lt_of_lt_of_le hq h.size)).trans (h.block q hq)⟩

/-- what the tree's own operations turn are no things, and cells -/
theorem KeepT.fr {w w' : World} {p : Nat} {L : List Th} {F : Nat → Prop} (ht : TreeAt w p L F) (hf : Fr F w w') : KeepT w w' := ⟨hf.size, fun n cs m hc => hf.block n (Array.getElem?_eq_some_iff.1 hc).1 fun hF => by
  obtain ⟨T, cs', hb, hT⟩ := ht.typ n hF
  unfold Blk at hb
  rw [hb] at hc
  simp only [Option.some.injEq, Obj.cells.injEq] at hc
  rw [hc.2.1] at hT
  rcases hT with h | h | h | h | h <;> exact absurd h (by decide)⟩
theorem keepsFrom_fr {B : Nat} {w w' : World} {p : Nat} {L : List Th} {F : Nat → Prop} (ht : TreeAt w p L F) (hf : Fr F w w') : KeepsFrom B w w' := ⟨hf.size, fun k o _ hk ho => (hf.block k (Array.getElem?_eq_some_iff.1 hk).1 fun hF => by
  obtain ⟨T, cs', hb, hT⟩ := ht.typ k hF
  unfold Blk at hb
  rw [hb] at hk
  cases hk
  cases ho).trans hk⟩

/-- a call in a round -/
theorem callsIn_round {l n : Nat} {P : Program} {f : FuncId} {args : Array Value} {w : World} {R : Ending → World → Prop} (h : Calls P f args w R) : CallsIn (Fence.wide.inRound l) n P f args w R := by
  have : CallsIn Fence.wide n P f args w R := callsIn_wide.2 h
  exact this

/-- a range over a tree, as a statement -/
theorem wp_range_tree {g : Operand} {s1 s2 : Tmp} {assign body : Code} {Q : Exit → Act → World → Prop} {a : Act} {w : World} {Bt p : Nat} {lo hi : Int} {L : List Th} {F : Nat → Prop}
    (hg : a.eval g = .func (.func 89) #[] #[.pointer (some ⟨Bt, 0, none⟩), .pointer (some ⟨Bt + 1, 0, none⟩), .pointer (some ⟨Bt + 2, 0, none⟩)])
    (hi3 : Its Bt p lo hi w) (ht : TreeAt w p L F) (hL : L.length ≤ 50000) (I : List Th → World → Prop) (hI : OwnFrom w.heap.size I) (h0 : I [] w)
    (hround : ∀ x : Th, ∃ a1 : Act, (∀ (l : Nat) (W : World) (K : Act → World → Prop), K a1 W → assign.wpIn (Fence.wide.inRound l) 5 Tryz.prog (Exit.then K (fun _ _ _ => False)) { tmps := (a.tmps.setIfInBounds s1 (i64 x.1)).setIfInBounds s2 (sv x.2), defers := [] } W) ∧
      ∀ (l : Nat) (pre : List Th) (r : List Th) (W : World), I pre W → filt lo hi L = pre ++ x :: r → pre.length < 50000 → body.wpIn (Fence.wide.inRound l) 5 Tryz.prog (goesOn w.heap.size KeepT (I (pre ++ [x])) W) a1 W)
    (hdone : ∀ (D : Nat) (W : World), w.heap.size ≤ D → I (filt lo hi L) W → W.heap[D]? = some (.deferred (some [])) → Q .normal { a with defers := { target := .collected D, args := #[] } :: a.defers } W) :
    (Code.rangeFunc g #[s1, s2] assign body).wp Tryz.prog Q a w := by
  refine (wpIn_wide (n := 7)).1 ?_
  exact wpIn_range_told (α := Th) (encs := encT) (Kp := KeepT) (Tl := fun pre x => ∃ r, filt lo hi L = pre ++ x :: r) (S := fun xs => xs = filt lo hi L) (N := 50000)
    rfl (by omega) (gf := 89) hg trivial (enters_of Tryz.func89 (by kernel_rfl) rfl)
    (gives_range hi3 ht hL) (fun A B C h k => h.trans k) (fun W l o o' hl h1 h2 => KeepT.put W l o o' h1 h2) (fun _ => rfl) I hI h0 (fun x => (hround x).choose)
    (fun l x W K hK => by
      have e : ((#[s1, s2].zip (encT x)).foldl (fun t (p, v) => t.setIfInBounds p v) a.tmps) = (a.tmps.setIfInBounds s1 (i64 x.1)).setIfInBounds s2 (sv x.2) := by simp [encT]
      rw [e]
      exact (hround x).choose_spec.1 l W K hK)
    (fun l pre x W hi ⟨r, hr⟩ hN => (hround x).choose_spec.2 l pre r W hi hr hN)
    (fun D xs W hD hS hi hK => hdone D W hD (by rw [← hS]; exact hi) hK)

theorem makes_rangeC (p : Nat) (lo hi : Int) (w : World) :
    Calls Tryz.prog 54 #[ptrv p, i64 lo, i64 hi] w fun e w' => e = .returned (.func (.func 89) #[] #[.pointer (some ⟨w.heap.size, 0, none⟩), .pointer (some ⟨w.heap.size + 1, 0, none⟩), .pointer (some ⟨w.heap.size + 2, 0, none⟩)]) ∧
      w' = rangeW w p lo hi := callsIn_wide.1 (makes_range' 0 p lo hi w)

end Go.Proofs.YtjfpeklfgnajoaaGreat.L6

namespace Go.Proofs.YtjfpeklfgnajoaaGreat.L6
open Go.ChangeShapes Go.WideShapes Go.ChangeAt Go.RowKit By Reg
set_option linter.unusedVariables false

/-- what get answers and leaves -/
def GetPost (x : Int) (L : List Th) (w : World) (e : Ending) (w' : World) : Prop := e = .returned (.tuple #[sv ((getL x L).getD sv0), .bool (getL x L).isSome]) ∧ Rb w w'

set_option maxHeartbeats 2000000 in
set_option maxRecDepth 100000 in
theorem get_leaf (x : Int) (w : World) (s : Sub) (h : Held 0 w s) (hn : s.n ≤ 100) (hs : Srt s.M) : Calls Tryz.prog 86 #[ptrv s.b, i64 x] w (GetPost x (items s.M) w) := by
  obtain ⟨N, h⟩ := h
  have hsk := leaf_rise (A := []) (B := []) h (by simpa using hs)
  obtain ⟨p, hp⟩ := Pos.exists x N.ks hsk
  have CL := leaf_any w N h.na
  have hle : isLeaf N = true := by unfold isLeaf; rw [h.ps]; rfl
  rw [hle, h.b] at CL
  have CL' := Lib.hid CL
  have hnn := h.n
  have CS := search_at w N.kv N.ks x p h.na.rk (by omega) hsk hp
  have hM : items s.M = N.ks.zip N.vs := by rw [h.M, items_map]
  rw [hM]
  unfold GetPost
  have c0 := h.na.c0
  have c1 := h.na.c1
  rw [h.b] at c0 c1
  obtain ⟨ao, cap, hk, _, _⟩ := h.na.kform
  rw [hk] at c0 CS
  cases hf : found x N.ks p
  · rw [leaf_get_none h.len hp hsk hf]
    rw [hf] at CS
    have CS' := Lib.hid CS
    clear h CL CS hk hf hp hsk c1 hM hs
    generalize N.ks.length = m at *
    go_enter Tryz.func86, Tryz.ntmps86
    go_wp2_with (first | (go_at_call 113; refine CL'.out.mono ?_; rintro e w' ⟨rfl, rfl⟩) | (go_at_call 115; refine CS'.out.mono ?_))
    first | (rintro e w1 rfl hd) | (rintro e w1 ⟨rfl, hd⟩)
    have HD := Lib.hid hd
    clear hd
    go_wp2
    go_ret2
    exact ⟨rfl, HD.out⟩
  · obtain ⟨hpl, hpe⟩ := found_at hf
    rw [leaf_get_some h.len hp hpl hpe]
    rw [hf] at CS
    have CS' := Lib.hid CS
    obtain ⟨g, cp, f1, f2, f3, f4⟩ := h.na.rv.sv_at (j := p) (by rw [h.len]; exact hpl)
    have hlen := h.len
    obtain ⟨y, hy⟩ : ∃ y, y = N.vs.getD p sv0 := ⟨_, rfl⟩
    rw [← hy] at f4 ⊢
    rw [f1, hlen] at c1
    rw [hlen] at f2
    have SEE : Hid (∀ w', Rb w w' → w'.cell? ⟨s.b, 1, none⟩ = some (.slice (some ⟨g, 0, none⟩) N.ks.length cp) ∧ w'.cell? ⟨g, p, none⟩ = some (sv y)) := fun w' hr =>
      ⟨by rw [Below.cell hr (World.block_lt_of_cell? w _ c1)]; exact c1, by rw [Below.cell hr (World.block_lt_of_cell? w _ f4)]; exact f4⟩
    clear h CL CS hk hf hp hsk hM hs hpe hy f1 c1 f4 hlen
    generalize N.ks.length = m at *
    go_enter Tryz.func86, Tryz.ntmps86
    go_wp2_with (first | (go_at_call 113; refine CL'.out.mono ?_; rintro e w' ⟨rfl, rfl⟩) | (go_at_call 115; refine CS'.out.mono ?_))
    first | (rintro e w1 rfl hd) | (rintro e w1 ⟨rfl, hd⟩)
    obtain ⟨d1, d2⟩ := SEE.out w1 hd
    have HD := Lib.hid hd
    clear hd c0
    go_wp2
    go_ret2
    exact ⟨rfl, HD.out⟩

set_option maxHeartbeats 4000000 in
set_option maxRecDepth 100000 in
theorem get_any (x : Int) : ∀ (d : Nat) (w : World) (s : Sub), Held d w s → s.n ≤ 8 → Srt s.M → Calls Tryz.prog 86 #[ptrv s.b, i64 x] w (GetPost x (items s.M) w)
  | 0, w, s, h, hn, hs => get_leaf x w s h (by omega) hs
  | d + 1, w, s, h, hn, hs => by
    obtain ⟨N, cs, o, hc⟩ := h
    have hlen := o.len
    have hsn := o.n
    have hrk := seps_rise (ms := cs.map (·.M)) (by rw [List.length_map]; exact o.len) (by rw [← o.M]; exact hs)
    obtain ⟨p, hp⟩ := Pos.exists x N.ks hrk
    obtain ⟨sd1, sd2⟩ := o.sides hs hrk hp
    have k1 := (place_keys hrk hp).1
    have CL := leaf_any w N o.na
    have hle : isLeaf N = false := by
      unfold isLeaf
      rw [decide_eq_false_iff_not, o.ps, List.length_map]; omega
    rw [hle, o.b] at CL
    have CL' := Lib.hid CL
    have CP : ∀ w', Rb w w' → Hid (Calls Tryz.prog 114 #[ptrv s.b, i64 x] w' fun e w'' => e = .returned (i64 (placeAt x N.ks p : Nat)) ∧ Rb w' w'') := fun w' hb => by
      have := place_any w' N x p (o.rb hb).na (by omega) hrk hp
      rw [o.b] at this
      exact this
    obtain ⟨a, ha⟩ : ∃ a, a = placeAt x N.ks p := ⟨_, rfl⟩
    rw [← ha] at sd1 sd2 k1 CP
    have hac : a < cs.length := by omega
    have hcs : cs = cs.take a ++ cs[a] :: cs.drop (a + 1) := by rw [← drop_cons hac, List.take_append_drop]
    have hm := List.getElem_mem hac
    have hget : getL x (items s.M) = getL x (items cs[a].M) := by
      have e : items s.M = ((cs.take a).map (·.M)).flatMap items ++ (items cs[a].M ++ ((cs.drop (a + 1)).map (·.M)).flatMap items) := by
        rw [o.M, items_weave (by rw [List.length_map]; exact o.len)]
        conv => lhs; rw [hcs, List.map_append, List.map_cons, List.flatMap_append, List.flatMap_cons]
      rw [e]
      refine getL_mid (fun t ht => ?_) (fun t ht => ?_)
      · obtain ⟨m, hm, htm⟩ := List.mem_flatMap.1 ht
        obtain ⟨c, hcm, rfl⟩ := List.mem_map.1 hm
        obtain ⟨j, hj, e⟩ := List.mem_iff_getElem.1 hcm
        rw [List.length_take] at hj
        rw [List.getElem_take] at e
        subst e
        exact sd1 j (by omega) (by omega) t htm
      · obtain ⟨m, hm, htm⟩ := List.mem_flatMap.1 ht
        obtain ⟨c, hcm, rfl⟩ := List.mem_map.1 hm
        obtain ⟨j, hj, e⟩ := List.mem_iff_getElem.1 hcm
        rw [List.length_drop] at hj
        rw [List.getElem_drop] at e
        subst e
        exact sd2 (a + 1 + j) (by omega) (by omega) t htm
    have CG : ∀ w', Rb w w' → Hid (Calls Tryz.prog 86 #[ptrv cs[a].b, i64 x] w' (GetPost x (items s.M) w')) := fun w' hb => by
      have := get_any x d w' cs[a] ((o.rb hb).held _ hm) (hc _ hm).2 (o.srt hs _ hm)
      unfold GetPost at this ⊢
      rw [← hget] at this
      exact this
    have htl : (cs.take a).length = a := by rw [List.length_take]; omega
    obtain ⟨g, cap, q1, q2, q3⟩ := part_at (l := cs.take a) (r := cs.drop (a + 1)) (c1 := cs[a]) (by rw [← hcs]; exact o)
    have e : (cs.take a).length + ((cs.drop (a + 1)).length + 1) = cs.length := by rw [htl, List.length_drop]; omega
    rw [e] at q1 q2
    rw [htl] at q3
    obtain ⟨n, hnn⟩ : ∃ n, n = cs.length := ⟨_, rfl⟩
    obtain ⟨b, hb⟩ : ∃ b, b = cs[a].b := ⟨_, rfl⟩
    rw [← hnn] at hac q1 q2
    rw [← hb] at q3 CG
    have SEE : Hid (∀ w', Rb w w' → w'.cell? ⟨s.b, 2, none⟩ = some (.slice (some ⟨g, 0, none⟩) n cap) ∧ w'.cell? ⟨g, a, none⟩ = some (ptrv b)) := fun w' hr =>
      ⟨by rw [Below.cell hr (World.block_lt_of_cell? w _ q1)]; exact q1, by rw [Below.cell hr (World.block_lt_of_cell? w _ q3)]; exact q3⟩
    clear o hc hlen hsn hrk hp sd1 sd2 k1 CL hle ha hcs hm hget htl e hnn hb hs hn
    unfold GetPost at CG ⊢
    generalize (getL x (items s.M)).getD sv0 = y at CG ⊢
    generalize (getL x (items s.M)).isSome = ok at CG ⊢
    go_enter Tryz.func86, Tryz.ntmps86
    go_wp2_with (go_at_call 113; refine CL'.out.mono ?_; rintro e w' ⟨rfl, rfl⟩)
    have mixed : Tryz.prog.follows Departure.mixedOrders = true := by kernel_rfl
    have RDREW := Rb.drew w
    go_region_with (first | (go_at_call 114; refine ((CP _ (by first | exact Rb.drew w | exact Rb.refl w)).out).mono ?_; rintro e w1 ⟨rfl, hr1⟩; have hrw := Rb.trans _ _ _ (Rb.drew w) hr1; have y1 := (SEE.out w1 hrw).1; have y2 := (SEE.out w1 hrw).2) | (go_at_call 86; refine ((CG _ (by assumption)).out).mono ?_; rintro e w2 ⟨rfl, hr2⟩))
    all_goals
      have HRW := Lib.hid (Rb.trans _ _ _ hrw hr2)
      clear CP CG SEE hr1 hrw hr2 y1 y2 q1 q3
      go_wp2
      go_ret2
      exact ⟨rfl, HRW.out⟩

theorem tget (x : Int) (w : World) (p : Nat) (L : List Th) (F : Nat → Prop) (h : TreeAt w p L F) : Calls Tryz.prog 45 #[ptrv p, i64 x] w (GetPost x L w) := by
  rcases h with ⟨hb, rfl, _⟩ | ⟨d, s, h, _⟩
  · have CE := Lib.hid (tempty_no w p 0 hb)
    clear hb
    unfold GetPost
    go_enter Tryz.func45, Tryz.ntmps45
    go_wp2_with (go_at_call 85; refine CE.out.mono ?_; rintro e w' ⟨rfl, rfl⟩)
    go_ret2
    exact ⟨rfl, Rb.refl _⟩
  · have CE := Lib.hid (tempty_yes w p s.b _ h.blk)
    have CG := get_any x d w s h.held h.eight h.srt
    rw [h.items] at CG
    have CG' := Lib.hid CG
    have b0 := h.blk.cell 0
    clear CG h
    unfold GetPost at CG' ⊢
    go_enter Tryz.func45, Tryz.ntmps45
    go_wp2_with (first | (go_at_call 85; refine CE.out.mono ?_; rintro e w' ⟨rfl, rfl⟩) | (go_at_call 86; refine CG'.out.mono ?_))
    first | (rintro e w1 rfl hr) | (rintro e w1 ⟨rfl, hr⟩)
    have HR := Lib.hid hr
    clear hr
    go_wp2
    go_ret2
    exact ⟨rfl, HR.out⟩

/-- what Edge answers of a list -/
def edgeR (last : Bool) (L : List Th) : Value := match edgeOf last L with | some t => .tuple #[i64 t.1, sv t.2, .bool true] | none => .tuple #[i64 0, i64 0, .bool false]
end Go.Proofs.YtjfpeklfgnajoaaGreat.L6

namespace Go.Proofs.YtjfpeklfgnajoaaGreat.L6
open Go.ChangeShapes Go.WideShapes Go.ChangeAt Go.RowKit By Reg
set_option linter.unusedVariables false
set_option linter.unusedSimpArgs false

/-- a call, as one step of a region that draws -/
theorem step_run_call {P : Program} {ops : Array Oper} {o : Oper} {a : Act} {w : World} {Q : Exit → Act → World → Prop} {K : Act → World → Prop} {E : Prop} (f : FuncId) {args : Array Operand} {tys : Array TypeId} {vs : Array Value}
    (hg : o.guard = none) (ho : o.op = .call { callee := .value (.func f), args := args, argTypes := tys }) (ha : args.map a.eval = vs) (hcf : (callFunc f vs).run P w = .ok (.enter f vs) w) (hc : Calls P f vs w fun e w'' => ∃ v, e = .returned v ∧ K (a.put o.dst v) w'') :
    if Region.wanted o (yielded ops a.tmps) = true then Oper.wp P o a w K Q else E := by
  rw [if_pos (by simp [Region.wanted, hg])]
  unfold Oper.wp
  have : (execOp a.eval o).run P w = .ok (.enter f vs) w := by
    have e : execOp a.eval o = callFunc f (#[] ++ args.map a.eval ++ #[]) := by
      simp only [execOp, ho]; rfl
    rw [e, ha]
    simpa using hcf
  rw [this]
  refine hc.mono ?_
  rintro e w' ⟨v, rfl, h⟩
  exact h

/-- what a clone of a node has, the first i parts being cloned -/
structure Cl (w : World) (d : Nat) (N : Nd) (cs : List Sub) (i : Nat) (wr : World) (C : Nd) (cs' : List Sub) : Prop where
  na : NodeAt wr C
  ks : C.ks = N.ks
  vs : C.vs = N.vs
  ps : C.ps = cs'.map (·.b)
  Ms : cs'.map (·.M) = (cs.take i).map (·.M)
  ns : cs'.map (·.n) = (cs.take i).map (·.n)
  held : ∀ c ∈ cs', Held d wr c
  dj : cs'.Pairwise Dj
  off : ∀ c ∈ cs', ∀ k, C.has k → ¬ c.F k
  new : ∀ k, C.has k → w.heap.size ≤ k
  newc : ∀ c ∈ cs', ∀ k, c.F k → w.heap.size ≤ k
  rb : Rb w wr
theorem Cl.rb' {w wr w2 : World} {d i : Nat} {N C : Nd} {cs cs' : List Sub} (h : Cl w d N cs i wr C cs') (r : Rb wr w2) : Cl w d N cs i w2 C cs' :=
  ⟨h.na.rb r, h.ks, h.vs, h.ps, h.Ms, h.ns, fun c hc => (h.held c hc).rb r, h.dj, h.off, h.new, h.newc, Rb.trans _ _ _ h.rb r⟩

theorem info_Qp : (Tryz.prog.info? 91).map (fun i => (i.zero, i.size, i.bytes)) = some (some (.pointer none), 1, 8) := by kernel_rfl

/-- one part cloned, and laid behind the others -/
theorem Cl.step {w wr w2 : World} {d i : Nat} {N C : Nd} {cs cs' : List Sub} {c c' : Sub} (h : Cl w d N cs i wr C cs') (hi : cs[i]? = some c) (hr : Rb wr w2) (hh : Held d w2 c') (hn : c'.n = c.n) (hM : c'.M = c.M) (hF : ∀ k, c'.F k → wr.heap.size ≤ k) (hbig : cs'.length ≤ 1000) :
    ∃ pv' w3, (∀ ty, (Builtin.append_ #[158, 158] ty #[C.pv, .slice (some ⟨w2.heap.size, 0, none⟩) 1 1]).run Tryz.prog (w2.alloc (.cells #[ptrv c'.b] 91)) = .ok pv' w3) ∧
      Blk w3 C.b 160 [C.kv, C.vv, C.pv] ∧ (∃ ao cap, pv' = .slice ao (cs'.length + 1) cap) ∧
      Cl w d N cs (i + 1) (w3.setCell ⟨C.b, 2, none⟩ pv') { C with pv := pv', ps := C.ps ++ [c'.b] } (cs' ++ [c']) := by
  have ht := Tryz.underlying158
  obtain ⟨i0, hi0, hz0, hzs, hzb⟩ := info_parts info_Qp
  obtain ⟨w2a, e2⟩ : ∃ w2a, w2a = w2.alloc (.cells #[ptrv c'.b] 91) := ⟨_, rfl⟩
  have r2 : Rb w2 w2a := by rw [e2]; exact (Below.refl _ w2).alloc (Nat.le_refl _) _
  have b2 : Blk w2a w2.heap.size 91 [ptrv c'.b] := by rw [e2]; exact Blk.new w2 _ [ptrv c'.b]
  have h2 := (h.rb' hr).rb' r2
  have sl : Sl w2a (.slice (some ⟨w2.heap.size, 0, none⟩) 1 1) [ptrv c'.b] := ⟨_, 1, rfl, Nat.le_refl _, by unfold maxLen; omega, (fun h => by cases h), fun ad e j u hu => by
    cases e
    rw [Addr.add_lit, Nat.zero_add, b2.cell]; exact hu⟩
  have hpl : (C.ps.map ptrv).length = cs'.length := by rw [List.length_map, h.ps, List.length_map]
  obtain ⟨pv', w3, hrun, hrow, hg, hnew⟩ := run_append_row (P := Tryz.prog) ht hi0 hz0 hzs hzb (by decide) rfl h2.na.rp sl (ptr_one (xs := [c'.b])) (by rw [hpl]; simp; omega)
  have hre : Re w2a 91 C.pv ((C.ps ++ [c'.b]).map ptrv) pv' w3 := ⟨by rw [List.map_append]; exact hrow, (Fr.refl _ _).grown hg (fun k hk => .inl hk), hnew⟩
  have b3 : Blk w3 C.b 160 [C.kv, C.vv, C.pv] := h2.na.blk.same (hre.fr.block _ h2.na.blk.lt h2.na.pb)
  obtain ⟨b4, hw⟩ := blk_setCells C.b 160 [pv'] 2 w3 _ b3 (by simp)
  have b4' : Blk (w3.setCell ⟨C.b, 2, none⟩ pv') C.b 160 [C.kv, C.vv, pv'] := by simpa [World.setCells, splice_eq] using b4
  have hw' : Wrote C.b w3 (w3.setCell ⟨C.b, 2, none⟩ pv') := by simpa [World.setCells] using hw
  have x := Nx.parts h2.na hre b4' hw'
  rw [← e2] at *
  have hs2 := hr.size
  have hs2a := r2.size
  have hsw := h.rb.size
  have ltC : ∀ k, C.has k → k < wr.heap.size := h.na.lt
  have ltc : ∀ c ∈ cs', ∀ k, c.F k → k < wr.heap.size := fun c hc => (h.held c hc).lt d
  have ltc' := hh.lt d
  refine ⟨pv', w3, hrun, b3, ?_, ⟨x.at_, h.ks, h.vs, by show C.ps ++ [c'.b] = _; rw [h.ps, List.map_append]; rfl, ?_, ?_, fun z hz => ?_, ?_, fun z hz k hk hk' => ?_, fun k hk => ?_, fun z hz k hk => ?_, ?_⟩⟩
  · obtain ⟨ao, cap, e, _⟩ := hrow.form
    refine ⟨ao, cap, ?_⟩
    rw [e, List.length_append, hpl]
    rfl
  · have hil : i < cs.length := (List.getElem?_eq_some_iff.1 hi).1
    rw [List.map_append, h.Ms, List.take_succ_eq_append_getElem hil, List.map_append, (List.getElem?_eq_some_iff.1 hi).2]
    simp [hM]
  · have hil : i < cs.length := (List.getElem?_eq_some_iff.1 hi).1
    rw [List.map_append, h.ns, List.take_succ_eq_append_getElem hil, List.map_append, (List.getElem?_eq_some_iff.1 hi).2]
    simp [hn]
  · rcases List.mem_append.1 hz with hz | hz
    · exact (h2.held z hz).fr x.fr (fun k hk hk' => h.off z hz k hk' hk)
    · simp at hz; subst hz
      exact (hh.rb r2).fr x.fr (fun k hk hk' => by have := hF k hk; have := ltC k hk'; omega)
  · refine List.pairwise_append.2 ⟨h.dj, by simp, fun a ha b hb k hk hk' => ?_⟩
    simp at hb; subst hb
    have := ltc a ha k hk
    have := hF k hk'
    omega
  · rcases x.has k hk with h' | h'
    · rcases List.mem_append.1 hz with hz | hz
      · exact h.off z hz k h' hk'
      · simp at hz; subst hz
        have := hF k hk'; have := ltC k h'; omega
    · rcases List.mem_append.1 hz with hz | hz
      · have := ltc z hz k hk'; omega
      · simp at hz; subst hz
        have := ltc' k hk'; omega
  · rcases x.has k hk with h' | h'
    · exact h.new k h'
    · omega
  · rcases List.mem_append.1 hz with hz | hz
    · exact h.newc z hz k hk
    · simp at hz; subst hz
      have := hF k hk; omega
  · exact ((Fr.of_rb (F := fun _ => False) h2.rb).trans x.fr (fun k hk => .inr (h.new k hk))).rb (fun k hk => hk.elim)

theorem Cl.start {w wk wv : World} {d : Nat} {N : Nd} {cs : List Sub} {kv vv : Value} (hw : Rb w wk) (hk : Row wk 2 kv (N.ks.map i64)) (hkn : ∀ k, kv.ownBlock = some k → w.heap.size ≤ k) (hr : Rb wk wv) (hv : Row wv 32 vv (N.vs.map sv)) (hvn : ∀ k, vv.ownBlock = some k → w.heap.size ≤ k) :
    Cl w d N cs 0 (wv.alloc (.cells #[kv, vv, .slice none 0 0] 160)) ⟨wv.heap.size, kv, vv, .slice none 0 0, N.ks, N.vs, []⟩ [] := by
  have ra : Rb wv (wv.alloc (.cells #[kv, vv, .slice none 0 0] 160)) := (Below.refl _ wv).alloc (Nat.le_refl _) _
  have h1 := hw.size
  have h2 := hr.size
  refine ⟨⟨Blk.new wv _ [kv, vv, .slice none 0 0], (hk.rb hr).rb ra, hv.rb ra, Row.nil _ _⟩, rfl, rfl, rfl, by simp, by simp, (fun c hc => by cases hc), List.Pairwise.nil, (fun c hc => by cases hc), fun k hk' => ?_, (fun c hc => by cases hc), Rb.trans _ _ _ hw (Rb.trans _ _ _ hr ra)⟩
  rcases hk' with h | h | h | h
  · have : k = wv.heap.size := h
    omega
  · exact hkn k h
  · exact hvn k h
  · cases h

/-- what clone answers of a part -/
def ClPost (d : Nat) (w : World) (s : Sub) (e : Ending) (w' : World) : Prop := ∃ s', e = .returned (ptrv s'.b) ∧ Held d w' s' ∧ s'.n = s.n ∧ s'.M = s.M ∧ (∀ k, s'.F k → w.heap.size ≤ k) ∧ Rb w w'

set_option maxHeartbeats 4000000 in
set_option maxRecDepth 100000 in
theorem clone_node (w : World) (d : Nat) (N : Nd) (cs : List Sub) (hN : NodeAt w N) (hps : N.ps = cs.map (·.b)) (hk : N.ks.length ≤ 1000) (hv : N.vs.length ≤ 1000) (hc8 : cs.length ≤ 8)
    (CC : ∀ c ∈ cs, ∀ w1, Rb w w1 → Calls Tryz.prog 88 #[ptrv c.b] w1 (ClPost d w1 c)) :
    Calls Tryz.prog 88 #[ptrv N.b] w fun e w' => ∃ C cs', e = .returned (ptrv C.b) ∧ Cl w d N cs cs.length w' C cs' := by
  have CK : ∀ w', Rb w w' → Hid (Calls Tryz.prog 117 #[N.kv] w' fun e w'' => ∃ v', e = .returned v' ∧ Row w'' 2 v' (N.ks.map i64) ∧ (∀ k, v'.ownBlock = some k → w'.heap.size ≤ k) ∧ Rb w' w'') := fun w' hr => clone_any_K w' _ _ (hN.rk.sl.rb hr) (by rw [List.length_map]; omega) i64_one
  have CV : ∀ w', Rb w w' → Hid (Calls Tryz.prog 118 #[N.vv] w' fun e w'' => ∃ v', e = .returned v' ∧ Row w'' 32 v' (N.vs.map sv) ∧ (∀ k, v'.ownBlock = some k → w'.heap.size ≤ k) ∧ Rb w' w'') := fun w' hr => clone_any_V w' _ _ (hN.rv.sl.rb hr) (by rw [List.length_map]; omega) sv_one
  obtain ⟨aok, capk, ek, _, _⟩ := hN.kform
  obtain ⟨aov, capv, ev, _, _⟩ := hN.vform
  obtain ⟨aop, capp, ep, hpc, _⟩ := hN.pform
  obtain ⟨n, hn⟩ : ∃ n, n = cs.length := ⟨_, rfl⟩
  have hpl : N.ps.length = n := by rw [hps, List.length_map, hn]
  rw [hpl] at ep hpc
  have SEE : Hid (∀ w', Rb w w' → w'.cell? ⟨N.b, 0, none⟩ = some (.slice aok N.ks.length capk) ∧ w'.cell? ⟨N.b, 1, none⟩ = some (.slice aov N.vs.length capv) ∧ w'.cell? ⟨N.b, 2, none⟩ = some (.slice aop n capp)) := fun w' hr => by
    have h := hN.rb hr
    have c0 := h.c0
    have c1 := h.c1
    have c2 := h.c2
    rw [ek] at c0
    rw [ev] at c1
    rw [ep] at c2
    exact ⟨c0, c1, c2⟩
  have PART : Hid (∀ w', Rb w w' → ∀ i, i < n → ∃ g c, aop = some ⟨g, 0, none⟩ ∧ n ≤ capp ∧ cs[i]? = some c ∧ w'.cell? ⟨g, i, none⟩ = some (ptrv c.b)) := fun w' hr i hi => by
    have h := hN.rb hr
    obtain ⟨g, cp, e1, e2, e3, e4⟩ := h.rp.at_ (j := i) (by rw [List.length_map]; omega)
    rw [ep] at e1
    simp only [Value.slice.injEq] at e1
    obtain ⟨rfl, -, rfl⟩ := e1
    refine ⟨g, cs[i], rfl, hpc, List.getElem?_eq_getElem (by omega), ?_⟩
    rw [e4]
    simp [hps]
  have CP : Hid (∀ w', Rb w w' → ∀ i c, cs[i]? = some c → Calls Tryz.prog 88 #[ptrv c.b] w' (ClPost d w' c)) := fun w' hr i c hc => CC c (List.mem_of_getElem? hc) w' hr
  have HN := Lib.hid hn
  rw [ek] at CK
  rw [ev] at CV
  have hn8 : n ≤ 8 := by omega
  obtain ⟨a0, a1, a2⟩ := SEE.out w (Rb.refl _)
  have RDR := Rb.drew w
  have mixed : Tryz.prog.follows Departure.mixedOrders = true := by kernel_rfl
  clear hN hps hk hv hc8 CC ek ev ep hpl hn
  rw [← HN.out]
  go_enter Tryz.func88, Tryz.ntmps88
  go_upto_region 1 with fail
  go_cut [3] from 6 (fun s3 wr => ∃ C : Nd, s3 = ptrv C.b ∧ Hid (Cl w d N cs 0 wr C []))
  · rename_i J K' hJ hK
    go_region_with (first | (go_at_call 117; refine ((CK _ (by assumption)).out).mono ?_; rintro e wk ⟨kv2, rfl, hkrow, hknew, hkr⟩; obtain ⟨ao5, cap5, e5, _, _⟩ := hkrow.form; rw [List.length_map] at e5; subst e5; have hkw := Rb.trans _ _ _ (by assumption) hkr; have y0 := (SEE.out wk hkw).1; have y1 := (SEE.out wk hkw).2.1) | (go_at_call 118; refine ((CV _ (by assumption)).out).mono ?_; rintro e wv ⟨vv2, rfl, hvrow, hvnew, hvr⟩; obtain ⟨ao6, cap6, e6, _, _⟩ := hvrow.form; rw [List.length_map] at e6; subst e6; have hvw := Rb.trans _ _ _ (by assumption) hvr; have z0 := (SEE.out wv hvw).1; have z1 := (SEE.out wv hvw).2.1))
    all_goals
      have HCL : Hid (Cl w d N cs 0 _ _ []) := Cl.start (N := N) (cs := cs) (d := d) hkw hkrow (fun k hk => hknew k hk) hvr hvrow (fun k hk => Nat.le_trans hkw.size (hvnew k hk))
      clear CK CV hkrow hvrow hknew hvnew hkr hvr hkw hvw y0 y1 z0 z1
      go_wp2_with fail
      go_meet
      exact ⟨⟨wv.heap.size, _, _, _, _, _, _⟩, rfl, HCL⟩
  · obtain ⟨C0, rfl, hC0⟩ := hcut
    clear CK CV a0 a1 a2
    obtain ⟨a0, a1, a2⟩ := SEE.out wc hC0.out.rb
    go_wp2_with fail
    go_loopg [23] n (fun gk s23 wr => ∃ (i : Nat) (C : Nd) (cs' : List Sub), s23 = .int .i64 i ∧ i ≤ n ∧ n - i ≤ gk ∧ C.b = C0.b ∧ Hid (Cl w d N cs i wr C cs'))
    case atStart => exact ⟨0, C0, [], rfl, Nat.zero_le _, by omega, rfl, hC0.out⟩
    case round =>
      obtain ⟨i, C, cs', rfl, h1, h2, hCb, hC⟩ := hrel
      by_cases hin : i < n
      · obtain ⟨g, c, rfl, hpc, hci, cell⟩ := PART.out wr hC.out.rb i hin
        have HI : Hid (i < n ∧ n - i ≤ gk ∧ C.b = C0.b) := ⟨hin, h2, hCb⟩
        have hcl : cs'.length ≤ 8 := by
          have := congrArg List.length hC.out.Ms
          rw [List.length_map, List.length_map, List.length_take] at this
          omega
        obtain ⟨aoq, capq, eq_, _, _⟩ := hC.out.na.pform
        have hql : C.ps.length = cs'.length := by rw [hC.out.ps, List.length_map]
        rw [hql] at eq_
        have CELLS : Hid (∀ w', Rb wr w' → w'.cell? ⟨C0.b, 2, none⟩ = some (.slice aoq cs'.length capq)) := fun w' hr => by
          rw [← hCb]
          have := (hC.out.na.rb hr).c2
          rw [eq_] at this
          exact this
        have x2 := CELLS.out wr (Rb.refl _)
        have RDW := Rb.drew wr
        have STEP : Hid (∀ w2 c', Rb wr w2 → Held d w2 c' → c'.n = c.n → c'.M = c.M → (∀ k, c'.F k → wr.heap.size ≤ k) → ∃ ao3 cap3 w3, (∀ ty, (Builtin.append_ #[158, 158] ty #[.slice aoq cs'.length capq, .slice (some ⟨w2.heap.size, 0, none⟩) 1 1]).run Tryz.prog (w2.alloc (.cells #[ptrv c'.b] 91)) = .ok (.slice ao3 (cs'.length + 1) cap3) w3) ∧
            w3.cell? ⟨C0.b, 2, none⟩ = some (.slice aoq cs'.length capq) ∧ w3.frozen? ⟨C0.b, 2, none⟩ = false ∧ Hid (∃ C' cs2, C'.b = C0.b ∧ Cl w d N cs (i + 1) (w3.setCell ⟨C0.b, 2, none⟩ (.slice ao3 (cs'.length + 1) cap3)) C' cs2)) := fun w2 c' hr hh e1 e2 hF => by
          rw [← hCb]
          obtain ⟨pv', w3, hrun, hb3, ⟨ao3, cap3, rfl⟩, hcl'⟩ := hC.out.step hci hr hh e1 e2 hF (by omega)
          rw [eq_] at hrun hb3
          have hb' : Nd.b { C with pv := Value.slice ao3 (cs'.length + 1) cap3, ps := C.ps ++ [c'.b] } = C.b := rfl
          exact ⟨ao3, cap3, w3, hrun, hb3.cell 2, hb3.frozen 2, Lib.hid ⟨_, _, hb', hcl'⟩⟩
        have JC := CP.out
        have EN := enters_of (P := Tryz.prog) Tryz.func88 (by kernel_rfl) rfl
        have HCI := Lib.hid hci
        have HHD := Lib.hid hC.out.rb
        clear hC h1 h2 hCb hql eq_ hci
        go_wp2_with fail
        go_region_law (first | (refine step_run_call (vs := #[ptrv c.b]) 88 rfl rfl (by simp [Act.eval, Act.put]) (EN _ _) ?_; refine (JC _ (Rb.trans _ _ _ HHD.out (by assumption)) i c HCI.out).mono ?_; rintro e w2 ⟨s2, rfl, k1, k2, k3, k4, k5⟩; obtain ⟨ao3, cap3, w3, ra, x3, f3, hfin⟩ := STEP.out w2 s2 (Rb.trans _ _ _ (by assumption) k5) k1 k2 k3 (fun k hk => k4 k hk); have x4 := CELLS.out w2 (Rb.trans _ _ _ (by assumption) k5); have l4 := World.block_lt_of_cell? w2 _ x4; refine ⟨_, rfl, ?_⟩) | (refine step_run_append rfl rfl (by simp [Act.eval, Act.put]) (by simp [Act.eval, Act.put]) (ra _) ?_))
        all_goals
          have HF := hfin
          clear STEP CELLS JC x3 f3 x4 l4 ra k1 k2 k3 k4 k5 hfin x2 cell
          go_wp2_with fail
          go_roundg (n - (i + 1))
          case measure => have := HI.out; omega
          case rel =>
            obtain ⟨C', cs2, e1, e2⟩ := HF.out
            exact ⟨i + 1, C', cs2, by rw [show ((i : Int) + 1) = ((i + 1 : Nat) : Int) by omega], HI.out.1, Nat.le_refl _, e1, e2⟩
      · have hni : n = i := by omega
        subst hni
        have HC := hC
        clear hC h1 h2 hin
        go_wp2
        go_ret
        refine ⟨C, cs', ?_, HC.out⟩
        rw [hCb]
        rfl
end Go.Proofs.YtjfpeklfgnajoaaGreat.L6

namespace Go.Proofs.YtjfpeklfgnajoaaGreat.L6
open Go.ChangeShapes Go.WideShapes Go.ChangeAt Go.RowKit By Reg
set_option linter.unusedVariables false
set_option linter.unusedSimpArgs false

theorem Held.vs_le : ∀ {d : Nat} {w : World} {s : Sub}, Held d w s → s.n ≤ 100 → ∃ N, NodeAt w N ∧ N.b = s.b := fun h _ => by
  obtain ⟨N, h1, h2, _⟩ := h.node
  exact ⟨N, h1, h2⟩

set_option maxHeartbeats 1000000 in
theorem clone_sub : ∀ (d : Nat) (w : World) (s : Sub), Held d w s → s.n ≤ 100 → (0 < d → s.n ≤ 8) → Calls Tryz.prog 88 #[ptrv s.b] w (ClPost d w s)
  | 0, w, s, ⟨N, h⟩, hn, _ => by
    have hks := h.n
    have hlen := h.len
    have := clone_node w 0 N [] h.na (by rw [h.ps]; rfl) (by omega) (by omega) (by simp) (fun c hc => by cases hc)
    rw [h.b] at this
    refine this.mono ?_
    rintro e w' ⟨C, cs', rfl, hc⟩
    have e0 : cs' = [] := by
      have := congrArg List.length hc.Ms
      simpa using this
    subst e0
    refine ⟨⟨C.b, N.ks.length, (N.ks.zip N.vs).map tk, C.has⟩, rfl, ⟨C, hc.na, rfl, hc.ps, by rw [hc.ks, hc.vs]; exact h.len, by rw [hc.ks], by rw [hc.ks, hc.vs], fun _ => Iff.rfl⟩, by rw [h.n], by rw [h.M], hc.new, hc.rb⟩
  | d + 1, w, s, ⟨N, cs, o, hcn⟩, hn, h8 => by
    have hlen := o.len
    have hsn := o.n
    have hs8 := h8 (Nat.succ_pos d)
    have := clone_node w d N cs o.na o.ps (by omega) (by rw [o.vs]; simp) (by omega) (fun c hc w1 hr => clone_sub d w1 c ((o.rb hr).held c hc) (by have := hcn c hc; omega) (fun _ => (hcn c hc).2))
    rw [o.b] at this
    refine this.mono ?_
    rintro e w' ⟨C, cs', rfl, hc⟩
    have hMs : cs'.map (·.M) = cs.map (·.M) := by rw [hc.Ms, List.take_length]
    have hns : cs'.map (·.n) = cs.map (·.n) := by rw [hc.ns, List.take_length]
    have hl : cs'.length = cs.length := by
      have := congrArg List.length hMs
      simpa using this
    refine ⟨⟨C.b, cs'.length, weave C.ks (cs'.map (·.M)), fun k => C.has k ∨ ∃ c ∈ cs', c.F k⟩, rfl, ⟨C, cs', ⟨hc.na, rfl, by rw [hc.vs, o.vs], hc.ps, rfl, by rw [hc.ks]; omega, rfl, hc.held, hc.dj, hc.off, fun _ => Iff.rfl⟩, fun c hcm => ?_⟩, ?_, ?_, ?_, hc.rb⟩
    · have hm : c.n ∈ cs'.map (·.n) := List.mem_map_of_mem hcm
      rw [hns] at hm
      obtain ⟨c2, h2, h3⟩ := List.mem_map.1 hm
      rw [← h3]
      exact hcn c2 h2
    · show cs'.length = s.n
      rw [hl, hsn]
    · show weave C.ks (cs'.map (·.M)) = s.M
      rw [hMs, hc.ks, o.M]
    · rintro k (hk | ⟨c, hcm, hk⟩)
      · exact hc.new k hk
      · exact hc.newc c hcm k hk

/-- what Clone answers and leaves -/
def TCl (w : World) (L : List Th) (e : Ending) (w' : World) : Prop := ∃ p F, e = .returned (ptrv p) ∧ TreeAt w' p L F ∧ (∀ k, F k → w.heap.size ≤ k) ∧ Rb w w'

set_option maxHeartbeats 2000000 in
set_option maxRecDepth 100000 in
theorem tclone (w : World) (p : Nat) (L : List Th) (F : Nat → Prop) (h : TreeAt w p L F) : Calls Tryz.prog 53 #[ptrv p] w (TCl w L) := by
  rcases h with ⟨hb, rfl, _⟩ | ⟨d, s, h, _⟩
  · have c0 : w.cell? ⟨p, 0, none⟩ = some (.pointer none) := hb.cell 0
    have c1 : w.cell? ⟨p, 1, none⟩ = some (i64 0) := hb.cell 1
    have hlt := hb.lt
    obtain ⟨w1, e1⟩ : ∃ w1, w1 = w.alloc (.cells #[.pointer none, i64 0] 93) := ⟨_, rfl⟩
    have r1 : Rb w w1 := by rw [e1]; exact (Below.refl _ w).alloc (Nat.le_refl _) _
    have b1 : Blk w1 w.heap.size 93 [.pointer none, i64 0] := by rw [e1]; exact Blk.new w _ [.pointer none, i64 0]
    have HF : Hid (TCl w [] (.returned (ptrv w.heap.size)) (w.alloc (.cells #[.pointer none, i64 0] 93))) := by
      rw [← e1]
      exact Lib.hid ⟨_, fun k => k = w.heap.size, rfl, .inl ⟨b1, rfl, fun _ => Iff.rfl⟩, fun k hk => Nat.le_of_eq hk.symm, r1⟩
    clear e1 r1 b1 hb
    go_enter Tryz.func53, Tryz.ntmps53
    go_wp2_with fail
    go_ret
    exact HF.out
  · have c0 : w.cell? ⟨p, 0, none⟩ = some (ptrv s.b) := h.blk.cell 0
    have c1 : w.cell? ⟨p, 1, none⟩ = some (i64 L.length) := h.blk.cell 1
    have hlt := h.blk.lt
    obtain ⟨w1, e1⟩ : ∃ w1, w1 = w.alloc (.cells #[.pointer none, i64 L.length] 93) := ⟨_, rfl⟩
    have r1 : Rb w w1 := by rw [e1]; exact (Below.refl _ w).alloc (Nat.le_refl _) _
    have b1 : Blk w1 w.heap.size 93 [.pointer none, i64 L.length] := by rw [e1]; exact Blk.new w _ [.pointer none, i64 L.length]
    have hs1 : w1.heap.size = w.heap.size + 1 := by rw [e1]; simp
    have d0 : w1.cell? ⟨p, 0, none⟩ = some (ptrv s.b) := (h.blk.rb r1).cell 0
    have CS := Lib.hid (clone_sub d w1 s (h.held.rb r1) (by have := h.eight; omega) (fun _ => h.eight))
    have HF := Lib.hid h
    have H1 : Hid (Rb w w1 ∧ Blk w1 w.heap.size 93 [.pointer none, i64 L.length] ∧ w1.heap.size = w.heap.size + 1) := ⟨r1, b1, hs1⟩
    have E1 := Lib.hid e1
    unfold ClPost at CS
    clear e1 r1 b1 hs1 h
    unfold TCl
    go_enter Tryz.func53, Tryz.ntmps53
    go_wp2_with (rw [← E1.out]; go_at_call 88; refine CS.out.mono ?_)
    first | (rintro e w2 s2 rfl k1 k2 k3 k4 k5) | (rintro e w2 ⟨s2, rfl, k1, k2, k3, k4, k5⟩)
    have b2 := H1.out.2.1.rb k5
    have f0 : w2.cell? ⟨w.heap.size, 0, none⟩ = some (.pointer none) := b2.cell 0
    have g0 := b2.frozen 0
    have H2 : Hid (Held d w2 s2 ∧ s2.n = s.n ∧ s2.M = s.M ∧ (∀ k, s2.F k → w1.heap.size ≤ k) ∧ Rb w1 w2 ∧ Blk w2 w.heap.size 93 [.pointer none, i64 L.length]) := ⟨k1, k2, k3, k4, k5, b2⟩
    clear k1 k2 k3 k4 k5 b2 d0 c0 c1 CS
    go_wp2
    go_ret
    obtain ⟨k1, k2, k3, k4, k5, b2⟩ := H2.out
    obtain ⟨b3, hw⟩ := blk_setCells w.heap.size 93 [ptrv s2.b] 0 w2 _ b2 (by simp)
    have b3' : Blk (w2.setCell ⟨w.heap.size, 0, none⟩ (ptrv s2.b)) w.heap.size 93 [ptrv s2.b, i64 L.length] := by simpa [World.setCells, splice_eq] using b3
    have hw' : Wrote w.heap.size w2 (w2.setCell ⟨w.heap.size, 0, none⟩ (ptrv s2.b)) := by simpa [World.setCells] using hw
    have hs1 := H1.out.2.2
    have off : ¬ s2.F w.heap.size := fun hF => by have := k4 _ hF; omega
    have hf := HF.out
    refine ⟨w.heap.size, _, rfl, Full.tree (d := d) (s := s2) ⟨b3', k1.same d fun k hk => hw'.block k (fun e => off (by rw [← e]; exact hk)), by rw [k2]; exact hf.one, by rw [k2]; exact hf.eight, fun hd => by rw [k2]; exact hf.two hd, by rw [k3]; exact hf.srt, by rw [k3]; exact hf.items, off⟩, fun k hk => ?_, ?_⟩
    · rcases hk with rfl | hk
      · exact Nat.le_refl _
      · have := k4 k hk; omega
    · exact ((Fr.of_rb (F := fun _ => False) (Rb.trans _ _ _ H1.out.1 k5)).wrote hw' (.inr (Nat.le_refl _))).rb (fun k hk => hk.elim)

/-! ### a Tree that there isn't -/
theorem none_empty (w : World) : Calls Tryz.prog 85 #[.pointer none] w fun e w' => e = .returned (.bool true) ∧ w = w' := by
  go_enter Tryz.func85, Tryz.ntmps85
  go_wp2
  go_ret
  exact ⟨rfl, rfl⟩
theorem none_get (w : World) (x : Int) : Calls Tryz.prog 45 #[.pointer none, i64 x] w fun e w' => e = .returned (.tuple #[sv sv0, .bool false]) ∧ w = w' := by
  go_enter Tryz.func45, Tryz.ntmps45
  go_wp2_with (go_at_call 85; refine (none_empty _).mono ?_; rintro e w' ⟨rfl, rfl⟩)
  go_ret2
  exact ⟨rfl, rfl⟩
theorem none_put (w : World) (x : Int) (y : SV) : Calls Tryz.prog 82 #[.pointer none, i64 x, sv y] w fun e w' => e = .returned (.tuple #[sv sv0, .bool false]) ∧ w = w' := by
  go_enter Tryz.func82, Tryz.ntmps82
  go_wp2
  go_ret2
  exact ⟨rfl, rfl⟩
theorem none_del (w : World) (x : Int) : Calls Tryz.prog 81 #[.pointer none, i64 x] w fun e w' => e = .returned (.tuple #[sv sv0, .bool false]) ∧ w = w' := by
  go_enter Tryz.func81, Tryz.ntmps81
  go_wp2_with (go_at_call 85; refine (none_empty _).mono ?_; rintro e w' ⟨rfl, rfl⟩)
  go_ret2
  exact ⟨rfl, rfl⟩
theorem none_len (w : World) : Calls Tryz.prog 46 #[.pointer none] w fun e w' => e = .returned (i64 0) ∧ w = w' := by
  go_enter Tryz.func46, Tryz.ntmps46
  go_wp2
  go_ret
  exact ⟨rfl, rfl⟩
theorem none_clone (w : World) : Calls Tryz.prog 53 #[.pointer none] w fun e w' => e = .returned (.pointer none) ∧ w = w' := by
  go_enter Tryz.func53, Tryz.ntmps53
  go_wp2
  go_ret
  exact ⟨rfl, rfl⟩
end Go.Proofs.YtjfpeklfgnajoaaGreat.L6
