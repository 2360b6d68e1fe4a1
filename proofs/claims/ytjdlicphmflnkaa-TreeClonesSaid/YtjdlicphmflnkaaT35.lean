/-
  Layer 5: things.
-/
import Derived.Test.YtjdlicphmflnkaaT31
import Derived.Deep.CutRange
namespace Go.Proofs.Ytjdlicphmflnkaa.L5
open Go.ChangeShapes Go.WideShapes Go.ChangeAt Go.RowKit By Reg
set_option linter.unusedVariables false

def inR (lo hi : Int) (t : Th) : Bool := decide (lo ≤ t.1 ∧ t.1 ≤ hi)
def filt (lo hi : Int) (L : List Th) : List Th := L.filter (inR lo hi)
theorem filt_append (lo hi : Int) (a b : List Th) : filt lo hi (a ++ b) = filt lo hi a ++ filt lo hi b := List.filter_append ..
theorem filt_lt {lo hi : Int} {L : List Th} (h : Lt lo L) : filt lo hi L = [] := List.filter_eq_nil_iff.2 fun t ht => by
  have := h t ht
  unfold inR
  simp
  omega
theorem filt_gt {lo hi : Int} {L : List Th} (h : Gt hi L) : filt lo hi L = [] := List.filter_eq_nil_iff.2 fun t ht => by
  have := h t ht
  unfold inR
  simp
  omega
theorem filt_flat (lo hi : Int) (ms : List (List Tok)) : filt lo hi (ms.flatMap items) = ms.flatMap fun m => filt lo hi (items m) := by
  induction ms with
  | nil => rfl
  | cons m ms ih => rw [List.flatMap_cons, filt_append, ih]; rfl

/-- a row of things of the call's own -/
def TRow (B : Nat) (w : World) (v : Value) (L : List Th) : Prop := w.ownsRow B 66 2 v L.length (cells2 L)
theorem TRow.rb {B : Nat} {w w' : World} {v : Value} {L : List Th} (h : TRow B w v L) (hr : Rb w w') : TRow B w' v L := owns_same h fun k hk => hr.block k (World.ownsRow.lt h k hk).2
theorem info_T : (Try.prog.info? 66).map (fun i => (i.zero, i.size, i.bytes)) = some (some (.agg #[.int .i64 0, .int .i64 0]), 2, 16) := by kernel_rfl

/-- one thing appended -/
theorem append_thing {w : World} {B : Nat} {v : Value} {xs : List Th} (k y : Int) (hr : TRow B w v xs) (hb : xs.length ≤ 100000) (hB : B ≤ w.heap.size) :
    ∃ v' w', (∀ ty, (Builtin.append_ #[63, 63] ty #[v, .slice (some ⟨w.heap.size, 0, none⟩) 1 1]).run Try.prog (w.alloc (.cells #[i64 k, i64 y] 66)) = .ok v' w') ∧ TRow B w' v' (xs ++ [(k, y)]) ∧ Below B w w' := by
  have ht := Try.underlying63
  obtain ⟨i0, hi, hz, hsz, hby⟩ := info_parts info_T
  have hbk : Blk (w.alloc (.cells #[i64 k, i64 y] 66)) w.heap.size 66 [i64 k, i64 y] := Blk.new w _ [i64 k, i64 y]
  have hB1 : Below B w (w.alloc (.cells #[i64 k, i64 y] 66)) := (Below.refl _ w).alloc hB _
  have hr1 : (w.alloc (.cells #[i64 k, i64 y] 66)).ownsRow B 66 2 v xs.length (cells2 xs) := World.ownsRow.alloc hr _
  obtain ⟨v', w', hrun, h2, h3, h4⟩ := run_append_own (P := Try.prog) (w.alloc (.cells #[i64 k, i64 y] 66)) B 63 63 66 i0 _ 2 16 ht hi hz hsz hby rfl (by decide) v xs.length (cells2 xs) hr1 ⟨w.heap.size, 0, none⟩ 1 1 (cells2 [(k, y)]) rfl (fun j u hu => by rw [Addr.add_lit, hbk.cell, Nat.zero_add]; exact hu) (cells2_one _) (by unfold maxLen; omega) (by omega) (Nat.le_trans hB hB1.size)
  refine ⟨v', w', fun ty => hrun, ?_, hB1.grown h3 (Nat.le_trans hB hB1.size) (fun k hk => (hr1.lt k hk).1)⟩
  unfold TRow
  rw [cells2_append, List.length_append]
  exact h2

/-- what things answers and leaves -/
def ThPost (B : Nat) (w : World) (L : List Th) (e : Ending) (w' : World) : Prop := ∃ v', e = .returned v' ∧ TRow B w' v' L ∧ Below B w w'

theorem leaf_filt {ks vs : List Int} {lo hi : Int} {p q : Nat} (hl : vs.length = ks.length) (hs : ks.Pairwise (· < ·)) (hp : Pos lo ks p) (hpq : p ≤ q) (hq : q ≤ ks.length) (hin : ∀ j, p ≤ j → j < q → ks.getD j 0 ≤ hi) (hend : q < ks.length → hi < ks.getD q 0) :
    filt lo hi (ks.zip vs) = ((ks.zip vs).take q).drop p := by
  have e1 : ks.zip vs = (ks.zip vs).take p ++ (((ks.zip vs).take q).drop p ++ (ks.zip vs).drop q) := by
    have h1 : (ks.zip vs).take q = (ks.zip vs).take p ++ ((ks.zip vs).take q).drop p := by
      have := List.take_append_drop p ((ks.zip vs).take q)
      rw [List.take_take, Nat.min_eq_left hpq] at this
      exact this.symm
    rw [← List.append_assoc, ← h1, List.take_append_drop]
  have zl : (ks.zip vs).length = ks.length := by rw [List.length_zip, hl, Nat.min_self]
  have key : ∀ j (h : j < (ks.zip vs).length), ((ks.zip vs)[j]).1 = ks.getD j 0 := fun j h => by
    rw [List.getElem_zip, List.getD_eq_getElem?_getD, List.getElem?_eq_getElem (by omega)]
    rfl
  conv => lhs; rw [e1]
  rw [filt_append, filt_append]
  have f1 : filt lo hi ((ks.zip vs).take p) = [] := filt_lt fun t ht => by
    obtain ⟨j, hj, e⟩ := List.mem_iff_getElem.1 ht
    rw [List.length_take] at hj
    rw [List.getElem_take] at e
    rw [← e, key]
    exact hp.lo j (by omega)
  have f3 : filt lo hi ((ks.zip vs).drop q) = [] := filt_gt fun t ht => by
    obtain ⟨j, hj, e⟩ := List.mem_iff_getElem.1 ht
    rw [List.length_drop] at hj
    rw [List.getElem_drop] at e
    rw [← e, key]
    have h0 := hend (by omega)
    by_cases hj0 : j = 0
    · subst hj0; simpa using h0
    · have := List.pairwise_iff_getElem.1 hs q (q + j) (by omega) (by omega) (by omega)
      rw [List.getD_eq_getElem?_getD, List.getElem?_eq_getElem (by omega)] at h0 ⊢
      simp only [Option.getD_some] at h0 ⊢
      omega
  have f2 : filt lo hi (((ks.zip vs).take q).drop p) = ((ks.zip vs).take q).drop p := List.filter_eq_self.2 fun t ht => by
    obtain ⟨j, hj, e⟩ := List.mem_iff_getElem.1 ht
    rw [List.length_drop, List.length_take] at hj
    rw [List.getElem_drop, List.getElem_take] at e
    have h1 := hin (p + j) (by omega) (by omega)
    have h2 := hp.hi (p + j) (by omega) (by omega)
    unfold inR
    rw [decide_eq_true_eq, ← e, key]
    exact ⟨h2, h1⟩
  rw [f1, f2, f3, List.nil_append, List.append_nil]

set_option maxHeartbeats 4000000 in
set_option maxRecDepth 100000 in
theorem things_leaf (lo hi : Int) (B : Nat) (w : World) (s : Sub) (v : Value) (xs : List Th) (h : Held 0 w s) (hn : s.n ≤ 100) (hs : Srt s.M) (hF : ∀ k, s.F k → k < B) (hB : B ≤ w.heap.size) (hr : TRow B w v xs) (hx : xs.length ≤ 50000) :
    Calls Try.prog 29 #[ptrv s.b, v, i64 lo, i64 hi] w (ThPost B w (xs ++ filt lo hi (items s.M))) := by
  obtain ⟨N, h⟩ := h
  have hsk := leaf_rise (A := []) (B := []) h (by simpa using hs)
  obtain ⟨p, hp⟩ := Pos.exists lo N.ks hsk
  have CL := leaf_any w N h.na
  have hle : isLeaf N = true := by unfold isLeaf; rw [h.ps]; rfl
  rw [hle, h.b] at CL
  have CL' := Lib.hid CL
  obtain ⟨n, hnn⟩ : ∃ n, n = N.ks.length := ⟨_, rfl⟩
  have hnb : n ≤ 100 := by have := h.n; omega
  have CS := Lib.hid (search_at w N.kv N.ks lo p h.na.rk (by omega) hsk hp)
  obtain ⟨ao, cap, hk, _, _⟩ := h.na.kform
  rw [← hnn] at hk
  obtain ⟨ao2, cap2, hv, _, _⟩ := h.na.vform
  rw [h.len, ← hnn] at hv
  have CELL : Hid (∀ wr, Below B w wr → wr.cell? ⟨s.b, 0, none⟩ = some (.slice ao n cap) ∧ wr.cell? ⟨s.b, 1, none⟩ = some (.slice ao2 n cap2) ∧ ∀ j, j < n → ∃ g g2, ao = some ⟨g, 0, none⟩ ∧ ao2 = some ⟨g2, 0, none⟩ ∧ n ≤ cap ∧ n ≤ cap2 ∧ wr.cell? ⟨g, j, none⟩ = some (i64 (N.ks.getD j 0)) ∧ wr.cell? ⟨g2, j, none⟩ = some (i64 (N.vs.getD j 0))) := fun wr hb => by
    have na := h.na.same (w' := wr) fun k hk => hb.block k (hF k ((h.F k).2 hk))
    have c0 := na.c0
    have c1 := na.c1
    rw [h.b, hk] at c0
    rw [h.b, hv] at c1
    refine ⟨c0, c1, fun j hj => ?_⟩
    obtain ⟨g, cp, e1, e2, e3, e4⟩ := na.rk.int_at (j := j) (by omega)
    obtain ⟨g2, cp2, f1, f2, f3, f4⟩ := na.rv.int_at (j := j) (by rw [h.len]; omega)
    rw [hk] at e1
    rw [hv] at f1
    simp only [Value.slice.injEq] at e1 f1
    obtain ⟨rfl, -, rfl⟩ := e1
    obtain ⟨rfl, -, rfl⟩ := f1
    exact ⟨g, g2, rfl, rfl, by omega, by rw [h.len] at f2; omega, e4, f4⟩
  have HL : Hid (∀ q, p ≤ q → q ≤ n → (∀ j, p ≤ j → j < q → N.ks.getD j 0 ≤ hi) → (q < n → hi < N.ks.getD q 0) → filt lo hi (items s.M) = ((N.ks.zip N.vs).take q).drop p) := fun q h1 h2 h3 h4 => by
    rw [h.M, items_map]
    exact leaf_filt h.len hsk hp h1 (by omega) h3 (by rw [← hnn]; exact h4)
  have HZ : Hid (∀ i, p ≤ i → i < n → ((N.ks.zip N.vs).take (i + 1)).drop p = ((N.ks.zip N.vs).take i).drop p ++ [(N.ks.getD i 0, N.vs.getD i 0)]) := fun i h1 h2 => by
    have hz : i < (N.ks.zip N.vs).length := by rw [List.length_zip, h.len]; omega
    rw [List.take_succ_eq_append_getElem hz, List.drop_append_of_le_length (by rw [List.length_take]; omega), List.getElem_zip]
    congr 2
    rw [List.getD_eq_getElem?_getD, List.getD_eq_getElem?_getD, List.getElem?_eq_getElem (show i < N.ks.length by omega), List.getElem?_eq_getElem (show i < N.vs.length by rw [h.len]; omega)]
    rfl
  have hpn : p ≤ n := by rw [hnn]; exact hp.le
  have HR := Lib.hid hr
  obtain ⟨c0, c1, -⟩ := CELL.out w (Below.refl _ _)
  rw [hk] at CS
  have HB := Lib.hid hB
  have hlz : ∀ i, (((N.ks.zip N.vs).take i).drop p).length ≤ 100 := fun i => by
    rw [List.length_drop, List.length_take, List.length_zip, h.len]; omega
  have HLZ := Lib.hid hlz
  clear h hn hs hF hr hsk hp CL hle hnn hk hv hlz
  go_enter Try.func29, Try.ntmps29
  go_wp2_with (first | (go_at_call 34; refine CL'.out.mono ?_; rintro e w' ⟨rfl, rfl⟩) | (go_at_call 41; refine CS.out.mono ?_))
  first | (rintro e w1 rfl hd) | (rintro e w1 ⟨rfl, hd⟩)
  have RB1 := Lib.hid hd
  clear hd CS c0 c1
  go_wp2_with fail
  go_loopg [1, 10] n (fun g s1 s10 wr => ∃ (vl : Value) (i : Nat), s1 = vl ∧ s10 = .int .i64 i ∧ p ≤ i ∧ i ≤ n ∧ n - i ≤ g ∧ Hid ((∀ j, p ≤ j → j < i → N.ks.getD j 0 ≤ hi) ∧ TRow B wr vl (xs ++ ((N.ks.zip N.vs).take i).drop p) ∧ Below B w wr))
  case atStart =>
    refine ⟨_, p, rfl, rfl, Nat.le_refl _, hpn, by omega, fun j h1 h2 => by omega, ?_, RB1.out.mono HB.out⟩
    rw [show ((N.ks.zip N.vs).take p).drop p = [] from List.drop_eq_nil_of_le (by rw [List.length_take]; omega), List.append_nil]
    exact HR.out.rb RB1.out
  case round =>
    obtain ⟨vl, i, hvl, rfl, h1, h2, h3, hM⟩ := hrel
    obtain rfl : vl = u1 := hvl.symm
    obtain ⟨c0, c1, hcell⟩ := CELL.out wr hM.out.2.2
    by_cases hin : i < n
    · obtain ⟨g, g2, rfl, rfl, hc1, hc2, hc3, hc4⟩ := hcell i hin
      have hz := HZ.out i h1 hin
      have hll := HLZ.out i
      have HKI : Hid (∀ y, y = N.ks.getD i 0 → (y ≤ hi → ∀ j, p ≤ j → j < i + 1 → N.ks.getD j 0 ≤ hi) ∧ (hi < y → filt lo hi (items s.M) = ((N.ks.zip N.vs).take i).drop p)) := fun y hy => ⟨fun hle j q1 q2 => by
        rcases Nat.lt_or_ge j i with h | h
        · exact hM.out.1 j q1 h
        · have : j = i := by omega
          subst this; rw [← hy]; exact hle, fun hlt => HL.out i h1 h2 hM.out.1 (fun _ => by rw [← hy]; exact hlt)⟩
      obtain ⟨y1, hy1⟩ : ∃ y1, y1 = N.ks.getD i 0 := ⟨_, rfl⟩
      obtain ⟨y2, hy2⟩ : ∃ y2, y2 = N.vs.getD i 0 := ⟨_, rfl⟩
      rw [← hy1] at hc3
      rw [← hy2] at hc4
      rw [← hy1, ← hy2] at hz
      have HY := HKI.out y1 hy1
      have HYH := Lib.hid HY
      have HZZ := Lib.hid hz
      clear hy1 hy2 hz HKI HY hcell
      by_cases hle : y1 ≤ hi
      · have hBr : B ≤ wr.heap.size := Nat.le_trans HB.out hM.out.2.2.size
        obtain ⟨v2, w2, ra, rt, rb⟩ := append_thing (w := wr.drew) y1 y2 (hM.out.2.1.rb (Rb.drew wr)) (by rw [List.length_append]; omega) hBr
        have RT := Lib.hid rt
        have RBB := Lib.hid rb
        have HIN : Hid (i < n ∧ p ≤ i ∧ n - i ≤ gk ∧ y1 ≤ hi) := ⟨hin, h1, h3, hle⟩
        have e0 : wr.drew.heap.size = wr.heap.size := rfl
        rw [e0] at ra
        clear rt rb e0 hll h1 h2 h3 hBr
        go_wp2_with fail
        have mixed : Try.prog.follows Departure.mixedOrders = true := by kernel_rfl
        go_region_law_o (refine step_run_append rfl rfl (by simp [Act.eval]) (by simp [Act.eval]) (ra _) ?_)
        all_goals
          go_wp2
          go_roundg (n - (i + 1))
          case measure => have := HIN.out; omega
          case rel =>
            have q := HIN.out
            refine ⟨_, i + 1, rfl, by rw [show ((i : Int) + 1) = ((i + 1 : Nat) : Int) by omega], by omega, by omega, Nat.le_refl _, HYH.out.1 q.2.2.2, ?_, ?_⟩
            · rw [HZZ.out, ← List.append_assoc]
              exact RT.out
            · exact (hM.out.2.2.drew).trans RBB.out
      · have HF := Lib.hid (HYH.out.2 (by omega))
        unfold ThPost
        go_wp2
        go_ret
        refine ⟨_, rfl, ?_, hM.out.2.2⟩
        rw [HF.out]
        exact hM.out.2.1
    · have hni : i = n := by omega
      subst hni
      have HF := Lib.hid (HL.out i h1 (Nat.le_refl _) hM.out.1 (fun h => absurd h (Nat.lt_irrefl _)))
      clear hcell
      unfold ThPost
      go_wp2
      go_ret
      refine ⟨_, rfl, ?_, hM.out.2.2⟩
      rw [HF.out]
      exact hM.out.2.1
end Go.Proofs.Ytjdlicphmflnkaa.L5
