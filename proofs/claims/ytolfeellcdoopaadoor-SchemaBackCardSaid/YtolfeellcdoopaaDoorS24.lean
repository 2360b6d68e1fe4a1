/-
  Layer 6: GetRow, by the program.
-/
import Derived.Test.YtolfeellcdoopaaDoorS23
import Derived.Test.YtolfeellcdoopaaDoorS22
import Derived.Test.YtolfeellcdoopaaDoorS18
import Derived.RegionTactic
namespace Go.Proofs.YtolfeellcdoopaaDoor.L6
open Go.ChangeShapes Go.WideShapes Go.ChangeAt Go.RowKit Oct By Reg Val
set_option linter.unusedVariables false
set_option linter.unusedSimpArgs false

/-- where the k-th value stands -/
def posK (xs : List UInt8) (at_ : Int) : Nat → Int
  | 0 => at_
  | k + 1 => nextG (getV xs (posK xs at_ k)) (posK xs at_ k)
def valK (xs : List UInt8) (at_ : Int) (k : Nat) : ValD := valG (getV xs (posK xs at_ k))
abbrev c00 : ColD := ⟨⟨#[]⟩, 0, 0⟩
def okK (xs : List UInt8) (at_ : Int) (L : List ColD) (k : Nat) : Bool := okG (getV xs (posK xs at_ k)) (L.getD k c00).kind (L.getD k c00).max
def inB (xs : List UInt8) (at_ : Int) : Bool := decide (0 ≤ at_ ∧ at_ ≤ (xs.length : Int))
def getOk (xs : List UInt8) (at_ : Int) (L : List ColD) : Bool := inB xs at_ && (List.range L.length).all (okK xs at_ L)
def getRowV (xs : List UInt8) (at_ : Int) (n : Nat) : List ValD := (List.range n).map (valK xs at_)
/-- what is answered -/
def GetP (xs : List UInt8) (at_ : Int) (L : List ColD) (w : World) (e : Ending) (w' : World) : Prop :=
  ∃ v p, e = .returned (.tuple #[v, .int .i64 p, .bool (getOk xs at_ L)]) ∧ Vals w' v (if getOk xs at_ L then getRowV xs at_ L.length else []) ∧ p = (if getOk xs at_ L then posK xs at_ L.length else 0) ∧ Rb w w'
theorem vals_nil (w : World) : Vals w (.slice none 0 0) [] := ⟨none, 0, rfl, Nat.le_refl _, Nat.zero_le _, fun h => absurd h (Nat.lt_irrefl _)⟩
theorem GetP.no {xs : List UInt8} {at_ : Int} {L : List ColD} {w w' : World} (h : getOk xs at_ L = false) (hr : Rb w w') : GetP xs at_ L w (.returned (.tuple #[.slice none 0 0, .int .i64 0, .bool false])) w' := by
  refine ⟨.slice none 0 0, 0, by rw [h], ?_, ?_, hr⟩
  · rw [h]; exact vals_nil w'
  · rw [h]; rfl
theorem GetP.yes {xs : List UInt8} {at_ : Int} {L : List ColD} {w w' : World} {v : Value} {p : Int} (h : getOk xs at_ L = true) (hv : Vals w' v (getRowV xs at_ L.length)) (hp : p = posK xs at_ L.length) (hr : Rb w w') : GetP xs at_ L w (.returned (.tuple #[v, .int .i64 p, .bool true])) w' := by
  refine ⟨v, p, by rw [h], ?_, ?_, hr⟩
  · rw [h]; exact hv
  · rw [h]; exact hp

set_option maxRecDepth 100000 in
set_option maxHeartbeats 4000000 in
theorem getrow_any (b : Value) (xs : List UInt8) (at_ : Int) (nm : ByteArray) (rws : Int) (cv : Value) (L : List ColD) (w : World) (hb : Bs w b xs) (hx : xs.length ≤ 1000) (h : Cols w cv L) (hL : L.length ≤ 1000) :
    Calls Tryd.prog 26 #[b, .int .i64 at_, tabV ⟨nm, rws, cv, L⟩] w (GetP xs at_ L w) := by
  obtain ⟨ao, cap, rfl, _, _⟩ := hb.len
  obtain ⟨co, ccap, rfl, _, _⟩ := Row3.form h
  have hmf : ∀ (fn : Fn) (first cap : Array Value) (w : World), (Instr.makeFunc fn first cap).run Tryd.prog w = .ok (.func fn first cap) w := fun _ _ _ _ => rfl
  obtain ⟨TB, hTB⟩ : ∃ TB, TB = w.heap.size := ⟨_, rfl⟩
  obtain ⟨wa, hwa⟩ : ∃ wa, wa = (w.alloc (.cells #[.slice ao xs.length cap] 44)).alloc (.cells #[.string nm, .int .i64 rws, .slice co L.length ccap] 25) := ⟨_, rfl⟩
  have hza : wa.heap.size = TB + 2 := by rw [hwa, hTB]; simp
  have hra : Rb w wa := by rw [hwa]; exact ((Below.refl _ w).alloc (Nat.le_refl _) _).alloc (by simp) _
  have xa : wa.cell? ⟨TB, 0, none⟩ = some (.slice ao xs.length cap) := by rw [hwa, hTB]; simp
  have ta : HeldTab wa (TB + 1) nm rws co L.length ccap := by rw [hwa, hTB]; refine ⟨?_, ?_, ?_⟩ <;> simp
  obtain ⟨NB, hNB⟩ : ∃ NB, NB = TB + 1 + 1 := ⟨_, rfl⟩
  obtain ⟨w1, hw1⟩ : ∃ w1, w1 = wa.alloc (.cells #[.int .i64 0] 3) := ⟨_, rfl⟩
  have hr1 : Rb wa w1 := by rw [hw1]; exact (Below.refl _ wa).alloc (Nat.le_refl _) _
  have hn1 : Blk w1 NB 3 [.int .i64 0] := by rw [hw1, show NB = wa.heap.size by omega]; exact Blk.new wa _ [_]
  have hw1' : w1 = (((w.alloc (.cells #[.slice ao xs.length cap] 44)).alloc (.cells #[.string nm, .int .i64 rws, .slice co L.length ccap] 25)).alloc (.cells #[.int .i64 0] 3)) := by rw [hw1, hwa]
  have x0 := cell_rb hr1 xa
  have t0 := ta.rb hr1
  have HR1 := Lib.hid (Rb.trans _ _ _ hra hr1)
  have HW1 := Lib.hid hw1'
  have HN1 := Lib.hid hn1
  have HT1 := Lib.hid t0
  have HX1 := Lib.hid x0
  have HTB := Lib.hid hTB
  have HNB := Lib.hid hNB
  have hnt : NB ≠ TB ∧ NB ≠ TB + 1 ∧ w.heap.size ≤ NB := by omega
  have HNT := Lib.hid hnt
  have HB := Lib.hid hb
  have HC := Lib.hid h
  clear hwa hza hra xa ta hw1 hr1 hn1 hw1' hb h t0 hTB hNB hnt
  go_enter Tryd.func26, Tryd.ntmps26
  go_upto_region 1 with (fail)
  rw [← HW1.out, ← HTB.out, ← HNB.out]
  by_cases hin : 0 ≤ at_ ∧ at_ ≤ (xs.length : Int)
  · obtain ⟨i1, i2⟩ := hin
    have n1 : ¬ at_ < 0 := by omega
    have n2 : ¬ (xs.length : Int) < at_ := by omega
    have hinb : inB xs at_ = true := by unfold inB; rw [decide_eq_true ⟨i1, i2⟩]
    have HIN := Lib.hid hinb
    have x0 := HX1.out
    clear hinb
    go_wp2_with (refine wpList_store rfl 3 _ _ rfl NB 0 _ _ [_] _ rfl rfl HN1.out rfl sizeI (by simp) (by intro v hv; simp at hv; subst hv; rfl) ?_)
    intro w2 hb2 hw2
    have hf2 : Fr (fun k => k = NB) w w2 := (Fr.of_rb HR1.out).wrote hw2 (.inl rfl)
    have same2 : ∀ k, k ≠ NB → ∀ i, w2.cell? ⟨k, i, none⟩ = w1.cell? ⟨k, i, none⟩ := fun k hk i => by
      unfold World.cell?
      rw [hw2.block k hk]
    have hx2 : w2.cell? ⟨TB, 0, none⟩ = some (.slice ao xs.length cap) := by rw [same2 TB (Ne.symm HNT.out.1)]; exact HX1.out
    have ht2 : HeldTab w2 (TB + 1) nm rws co L.length ccap := by
      obtain ⟨a, b, c⟩ := HT1.out
      exact ⟨by rw [same2 (TB + 1) (Ne.symm HNT.out.2.1)]; exact a, by rw [same2 (TB + 1) (Ne.symm HNT.out.2.1)]; exact b, by rw [same2 (TB + 1) (Ne.symm HNT.out.2.1)]; exact c⟩
    have hlt2 : NB < w2.heap.size := Blk.lt hb2
    have tow : ∀ w', Fr (fun k => k = NB) w2 w' → Rb w w' := fun w' hf => (hf2.trans hf (fun k hk => .inl hk)).rb fun k hk => by have := HNT.out.2.2; omega
    have hcl := rowofG_any nm rws (.slice co L.length ccap) L w2 TB NB (fun k => k = NB) (fun k wr => Blk wr NB 3 [.int .i64 (posK xs at_ k)]) (fun wr => ∃ u, Blk wr NB 3 [u]) (valK xs at_) (okK xs at_ L) hL
      (fun w' hf => Row3.rb HC.out (tow w' hf)) (fun k hk => by omega) hb2
      (fun k wx wy hI hf hsz => hI.same (hf.block NB hI.lt (by omega)))
      (fun wx wy ⟨u, hu⟩ hr => ⟨u, hu.rb hr⟩)
      (fun k hk wr hf hI => by
        have hxr : wr.cell? ⟨TB, 0, none⟩ = some (.slice ao xs.length cap) := by
          have hbk := hf.block TB (by have := HNB.out; omega) (Ne.symm HNT.out.1)
          unfold World.cell? at hx2 ⊢
          rw [hbk]; exact hx2
        have := getrow1_any L[k].kind L[k].max TB NB (.slice ao xs.length cap) xs (posK xs at_ k) wr hxr (HB.out.below (tow wr hf)) hI hx
        refine this.mono fun e w3 ⟨he, hf3, hn3⟩ => ⟨?_, hf3, fun _ => hn3, _, hn3⟩
        rw [he]
        unfold valK okK
        rw [List.getD_eq_getElem?_getD, List.getElem?_eq_getElem hk, Option.getD_some])
    obtain ⟨y0, y1, y2⟩ := ht2
    have HCL := Lib.hid hcl
    have HW := Lib.hid tow
    have HF2 := Lib.hid hf2
    clear hb2 hw2 same2 hcl tow hf2 x0 n1 n2 hx2
    go_wp2_with fail
    refine HCL.out.mono ?_
    rintro e w3 ⟨hf3, ⟨v, hall, rfl, hv, hI⟩ | ⟨hex, rfl, u, hu⟩⟩
    · have hok : getOk xs at_ L = true := by
        unfold getOk
        rw [HIN.out, Bool.true_and, List.all_eq_true]
        intro k hk
        exact hall k (List.mem_range.1 hk)
      have HOK := Lib.hid hok
      have hvs := hv.vals
      have hml : (List.map (valK xs at_) (List.range L.length)).length = L.length := by simp
      obtain ⟨vo, vcap, ev, _, _⟩ := Row3.form hvs
      rw [hml] at ev
      subst ev
      have HV := Lib.hid hv
      have HI := Lib.hid hI
      have HF3 := Lib.hid hf3
      have c3 : w3.cell? ⟨NB, 0, none⟩ = some (.int .i64 (posK xs at_ L.length)) := hI.cell 0
      have f3 : w3.frozen? ⟨NB, 0, none⟩ = false := hI.frozen 0
      have hp : ∃ p, p = posK xs at_ L.length := ⟨_, rfl⟩
      obtain ⟨p, hp⟩ := hp
      rw [← hp] at c3 HI
      have HP := Lib.hid hp
      clear hall hok hvs hml hv hI hf3 HCL hp y0 y1 y2
      go_upto_region 7 with (fail)
      go_region
      all_goals
        obtain ⟨s1, s2⟩ := blk1_setCell HI.out (.int .i64 p)
        have hrd := Rb.drew (w3.setCell ⟨NB, 0, none⟩ (.int .i64 p))
        have hf4 : Fr (fun k => k = NB) w2 (w3.setCell ⟨NB, 0, none⟩ (.int .i64 p)).drew := (HF3.out.wrote s2 (.inl rfl)).then_rb hrd
        have hv4 : Vals (w3.setCell ⟨NB, 0, none⟩ (.int .i64 p)).drew _ (getRowV xs at_ L.length) :=
          VRow.vals (VRow.of (owns_below (owns_same HV.out fun k hk => s2.block k (by have := (World.ownsRow.lt HV.out k hk).1; omega)) hrd) rfl)
        have x4 : (w3.setCell ⟨NB, 0, none⟩ (.int .i64 p)).cell? ⟨NB, 0, none⟩ = some (.int .i64 p) := s1.cell 0
        have HR4 := Lib.hid (HW.out _ hf4)
        have HV4 := Lib.hid hv4
        clear s1 s2 hf4 hv4 c3 f3 hrd
        go_wp2
        exact bodyPost_ret (v := .tuple #[.slice vo L.length vcap, .int .i64 p, .bool true]) (by simp [results, Tryd.results26, go_sem, x4]) rfl (GetP.yes HOK.out HV4.out HP.out HR4.out)
    · have hok : getOk xs at_ L = false := by
        unfold getOk
        rw [HIN.out, Bool.true_and, Bool.eq_false_iff]
        intro ht
        obtain ⟨k, hk, hf⟩ := hex
        have := List.all_eq_true.1 ht k (List.mem_range.2 hk)
        rw [hf] at this
        cases this
      have HOK := Lib.hid hok
      have HU := Lib.hid hu
      have HF3 := Lib.hid hf3
      clear hex hok hu hf3 HCL y0 y1 y2
      go_wp2_with (refine wpList_store rfl 3 _ _ rfl NB 0 _ _ [_] _ rfl rfl HU.out rfl sizeI (by simp) (by intro v hv; simp at hv; subst hv; rfl) ?_)
      intro w4 hb4 hw4
      have x4 : w4.cell? ⟨NB, 0, none⟩ = some (.int .i64 0) := hb4.cell 0
      have HR4 := Lib.hid (HW.out _ (HF3.out.wrote hw4 (.inl rfl)))
      clear hb4 hw4
      go_wp2
      exact bodyPost_ret (v := .tuple #[.slice none 0 0, .int .i64 0, .bool false]) (by simp [results, Tryd.results26, go_sem, x4]) rfl (GetP.no HOK.out HR4.out)
  · have hinb : inB xs at_ = false := by unfold inB; rw [decide_eq_false hin]
    have HOK := Lib.hid (show getOk xs at_ L = false by unfold getOk; rw [hinb]; rfl)
    have x0 := HX1.out
    clear hinb
    by_cases n1 : at_ < 0
    · clear hin
      go_wp2_with (refine wpList_store rfl 3 _ _ rfl NB 0 _ _ [_] _ rfl rfl HN1.out rfl sizeI (by simp) (by intro v hv; simp at hv; subst hv; rfl) ?_)
      intro w4 hb4 hw4
      have x4 : w4.cell? ⟨NB, 0, none⟩ = some (.int .i64 0) := hb4.cell 0
      have HR4 : Hid (Rb w w4) := (((Fr.of_rb (F := fun k => k = NB) HR1.out).wrote hw4 (.inl rfl)).rb fun k hk => by have := HNT.out.2.2; omega)
      clear hb4 hw4 x0
      go_wp2
      exact bodyPost_ret (v := .tuple #[.slice none 0 0, .int .i64 0, .bool false]) (by simp [results, Tryd.results26, go_sem, x4]) rfl (GetP.no HOK.out HR4.out)
    · have n2 : (xs.length : Int) < at_ := by omega
      clear hin
      go_wp2_with (refine wpList_store rfl 3 _ _ rfl NB 0 _ _ [_] _ rfl rfl HN1.out rfl sizeI (by simp) (by intro v hv; simp at hv; subst hv; rfl) ?_)
      intro w4 hb4 hw4
      have x4 : w4.cell? ⟨NB, 0, none⟩ = some (.int .i64 0) := hb4.cell 0
      have HR4 : Hid (Rb w w4) := (((Fr.of_rb (F := fun k => k = NB) HR1.out).wrote hw4 (.inl rfl)).rb fun k hk => by have := HNT.out.2.2; omega)
      clear hb4 hw4 x0
      go_wp2
      exact bodyPost_ret (v := .tuple #[.slice none 0 0, .int .i64 0, .bool false]) (by simp [results, Tryd.results26, go_sem, x4]) rfl (GetP.no HOK.out HR4.out)
end Go.Proofs.YtolfeellcdoopaaDoor.L6
