/-
  Layer 6: the bytes of a row, by the program and by the document.
-/
import Derived.Test.YtolfeellcdoopaaDoorS21
import Derived.Test.YtolfeellcdoopaaDoorS9
import Derived.Test.YtolfeellcdoopaaDoorVK
import Derived.Test.YtolfeellcdoopaaDoorVR
namespace Go.Proofs.YtolfeellcdoopaaDoor.L6
open Go.ChangeShapes Go.WideShapes Go.ChangeAt Go.RowKit Oct By Reg Val
set_option linter.unusedVariables false
set_option linter.unusedSimpArgs false

def bytesOf (v : ValD) : List UInt8 := bytesR v.k v.n v.s.data.toList
def bytesRow (R : List ValD) : List UInt8 := R.flatMap bytesOf
theorem bytesOf_len {v : ValD} (h : ValOk v) : (bytesOf v).length ≤ 45 := by
  unfold bytesOf
  have h0 := h.n0
  have h1 := h.n1
  cases hr : rightB v.k v.n v.s.data.toList
  · rw [bytesR_no hr]; simp
  · rw [bytesR_of hr]
    have hi := intB_len h0 h1
    have hk := kinds_of hr
    rcases hk with hk | hk | hk
    · rw [hk]
      show (1 :: intB v.n).length ≤ 45
      simp; omega
    · rw [hk]
      show ([2, UInt8.ofNat v.n.toNat] : List UInt8).length ≤ 45
      simp
    · rw [hk] at hr ⊢
      show (3 :: textB v.s.data.toList).length ≤ 45
      have h32 : v.s.data.toList.length ≤ 32 := by
        unfold rightB rightTextB at hr
        simp at hr
        have := hr.2.1
        have hlen : v.s.data.toList.length = v.s.size := Array.length_toList
        simp; omega
      unfold textB
      rw [List.length_cons, List.length_append, uintB_length]
      have := sizeN_le10 (n := v.s.data.toList.length) (by omega)
      omega
theorem bytesRow_len : ∀ {R : List ValD}, (∀ q ∈ R, ValOk q) → (bytesRow R).length ≤ 45 * R.length
  | [], _ => by simp [bytesRow]
  | q :: r, h => by
    have h1 := bytesOf_len (h q (by simp))
    have h2 := bytesRow_len (R := r) (fun x hx => h x (by simp [hx]))
    unfold bytesRow at h2 ⊢
    rw [List.flatMap_cons, List.length_append, List.length_cons]
    omega
theorem bytesRow_take {R : List ValD} {k : Nat} {q : ValD} (hk : k < R.length) (hq : q = R[k]) : bytesRow (R.take (k + 1)) = bytesRow (R.take k) ++ bytesOf q := by
  unfold bytesRow
  rw [List.take_succ_eq_append_getElem hk, List.flatMap_append, ← hq]
  simp

theorem setCell_heap (w : World) (N : Nat) (v : Value) : (∀ k, k ≠ N → (w.setCell ⟨N, 0, none⟩ v).heap[k]? = w.heap[k]?) ∧ (w.setCell ⟨N, 0, none⟩ v).heap.size = w.heap.size :=
  ⟨fun k hk => Below.heap_setCell _ _ _ _ (by simpa using hk), by simp [World.setCell]⟩
theorem blk1_setCell {w : World} {N : Nat} {T : TypeId} {u : Value} (h : Blk w N T [u]) (v : Value) : Blk (w.setCell ⟨N, 0, none⟩ v) N T [v] ∧ Wrote N w (w.setCell ⟨N, 0, none⟩ v) := by
  refine ⟨?_, ⟨rfl, rfl, rfl, by simp [World.setCell], (setCell_heap w N v).1⟩⟩
  unfold Blk at h ⊢
  have hlt : N < w.heap.size := (Array.getElem?_eq_some_iff.1 h).1
  have hv := (Array.getElem?_eq_some_iff.1 h).2
  simp only [World.setCell]
  rw [Array.getElem?_eq_getElem (by simpa using hlt), Array.getElem_modify]
  simp [hv]

/-- bytes put behind a row of the call's own -/
theorem step_bytes {B : Nat} {w : World} {v v2 : Value} {X ys : List UInt8} (ho : Own B w v X) (hb : Bs w v2 ys) (hB : B ≤ w.heap.size) (hl : X.length + ys.length ≤ 100000) :
    ∃ ao cap w', (∀ ty, (Builtin.append_ #[44, 44] ty #[v, v2]).run Tryd.prog w = .ok (.slice ao (X ++ ys).length cap) w') ∧ Own B w' (.slice ao (X ++ ys).length cap) (X ++ ys) ∧ Fr (fun k => B ≤ k) w w' := by
  obtain ⟨i0, hi, hz, hsz, hby⟩ := info_parts info8
  obtain ⟨ao, cap, rfl, e2, e3, e4, e5⟩ := hb
  cases ao with
  | none =>
    have hc := e4 rfl
    have h0 : ys = [] := List.eq_nil_of_length_eq_zero (by omega)
    subst h0
    subst hc
    obtain ⟨ao2, cap2, e, _, _⟩ := (Bs.of_owns ho).len
    subst e
    rw [List.append_nil]
    exact ⟨ao2, cap2, w, fun ty => run_append_owned_none (P := Tryd.prog) (w := w) B _ ty _ i0 1 Tryd.underlying44 hi _ _ _ ho, ho, Fr.refl _ _⟩
  | some ad =>
    obtain ⟨v', w', hrun, h2, h3, h4⟩ := run_append_own (P := Tryd.prog) w B 44 44 5 i0 _ 1 1 Tryd.underlying44 hi hz hsz hby rfl (by decide) v X.length (X.map c8) ho ad ys.length cap (ys.map c8) (by simp) (e5 ad rfl) c8_one (by unfold maxLen; omega) (by omega) hB
    rw [← List.map_append, show X.length + ys.length = (X ++ ys).length by simp] at h2
    obtain ⟨ao2, cap2, e, _, _⟩ := (Bs.of_owns h2).len
    subst e
    exact ⟨ao2, cap2, w', fun ty => hrun, h2, (Fr.refl _ w).grown h3 (fun k hk => .inl (ho.lt k hk).1)⟩

set_option maxRecDepth 100000 in
set_option maxHeartbeats 4000000 in
theorem put1_any (i : Int) (q : ValD) (Bt B : Nat) (v : Value) (X : List UInt8) (w : World) (hb : Blk w Bt 44 [v]) (ho : Own B w v X) (hB : B ≤ w.heap.size) (hBt : Bt < B) (hX : X.length ≤ 10000) (hok : ValOk q) :
    Calls Tryd.prog 59 #[.int .i64 i, .agg #[.int .i64 q.k, .int .i64 q.n, .string q.s], .pointer (some ⟨Bt, 0, none⟩)] w fun e w' => e = .returned (.bool true) ∧ Fr (fun k => k = Bt ∨ B ≤ k) w w' ∧ ∃ v', Blk w' Bt 44 [v'] ∧ Own B w' v' (X ++ bytesOf q) := by
  obtain ⟨qk, qn, qs⟩ := q
  have hyl := bytesOf_len hok
  obtain ⟨ys, hys⟩ : ∃ ys, ys = bytesOf ⟨qk, qn, qs⟩ := ⟨_, rfl⟩
  have hput := fun w' => put_any (.slice none 0 0) [] qk qn qs w' (Bs.nil w') (by simp) hok.s hok.n0 hok.n1
  simp only [List.nil_append] at hput
  rw [show bytesR qk qn qs.data.toList = ys from hys.symm] at hput
  rw [← hys] at hyl ⊢
  dsimp only
  obtain ⟨ao, cap, rfl, _, _⟩ := (Bs.of_owns ho).len
  obtain ⟨w1, hw1⟩ : ∃ w1, w1 = w.alloc (.cells #[.int .i64 qk, .int .i64 qn, .string qs] 70) := ⟨_, rfl⟩
  have hr1 : Rb w w1 := by rw [hw1]; exact (Below.refl _ w).alloc (Nat.le_refl _) _
  have x0 : w1.cell? ⟨w.heap.size, 0, none⟩ = some (.int .i64 qk) := by rw [hw1]; simp
  have x1 : w1.cell? ⟨w.heap.size, 1, none⟩ = some (.int .i64 qn) := by rw [hw1]; simp
  have x2 : w1.cell? ⟨w.heap.size, 2, none⟩ = some (.string qs) := by rw [hw1]; simp
  have hb1 := hb.rb hr1
  have y0 := hb1.cell 0
  have HW1 := Lib.hid hw1
  have HPUT := Lib.hid hput
  have STEP : Hid (∀ w4 v2, Rb w1 w4 → Bs w4 v2 ys → ∃ ao2 cap2 w5, (∀ ty, (Builtin.append_ #[44, 44] ty #[.slice ao X.length cap, v2]).run Tryd.prog w4 = .ok (.slice ao2 (X ++ ys).length cap2) w5) ∧
      w5.cell? ⟨Bt, 0, none⟩ = some (.slice ao X.length cap) ∧ w5.frozen? ⟨Bt, 0, none⟩ = false ∧ Hid (Blk w5 Bt 44 [.slice ao X.length cap] ∧ Own B w5 (.slice ao2 (X ++ ys).length cap2) (X ++ ys) ∧ Fr (fun k => k = Bt ∨ B ≤ k) w w5)) := fun w4 v2 hw4 hv2 => by
    have h14 := Rb.trans _ _ _ hr1 hw4
    have ho4 : Own B w4 (.slice ao X.length cap) X := owns_below ho h14
    obtain ⟨ao2, cap2, w5, hrun, ho5, hf5⟩ := step_bytes ho4 hv2 (Nat.le_trans hB h14.size) (by omega)
    have hb5 : Blk w5 Bt 44 [.slice ao X.length cap] := (hb.rb h14).same (hf5.block Bt (hb.rb h14).lt (by omega))
    exact ⟨ao2, cap2, w5, hrun, hb5.cell 0, hb5.frozen 0, hb5, ho5, (Fr.of_rb h14).trans hf5 (fun k hk => .inl (.inr hk))⟩
  have mixed : Tryd.prog.follows Departure.mixedOrders = true := by kernel_rfl
  have EN := enters_of (P := Tryd.prog) Tryd.func60 (by kernel_rfl) rfl
  have RDW := Rb.drew w1
  have H0 := Lib.hid hb1
  have Hlt := Lib.hid hBt
  clear hb ho hr1 hw1 hput hys hyl hb1
  go_enter Tryd.func59, Tryd.ntmps59
  go_upto_region 1 with (fail)
  rw [← HW1.out]
  go_region_law (first | (refine step_run_call (vs := #[.slice none 0 0, .agg #[.int .i64 qk, .int .i64 qn, .string qs]]) 60 rfl rfl (by simp [Act.eval, Act.put]) (EN _ _) ?_; refine (HPUT.out _).mono ?_; rintro e w4 ⟨v2, rfl, hv2, hb4⟩; obtain ⟨ao2, cap2, w5, ra, c5, f5, hfin⟩ := STEP.out w4 v2 (Rb.trans _ _ _ (by assumption) hb4) (Bs.of_owns hv2); have z0 := (H0.out.rb (Rb.trans _ _ _ (by assumption) hb4)).cell 0; refine ⟨_, rfl, ?_⟩) | (refine step_run_append rfl rfl (by simp [Act.eval, Act.put]) (by simp [Act.eval, Act.put]) (ra _) ?_))
  all_goals
    obtain ⟨k1, k2, k3⟩ := hfin.out
    obtain ⟨s1, s2⟩ := blk1_setCell k1 (.slice ao2 (X ++ ys).length cap2)
    have hfr := k3.wrote s2 (.inl (.inl rfl))
    have hown : Own B (w5.setCell ⟨Bt, 0, none⟩ (.slice ao2 (X ++ ys).length cap2)) (.slice ao2 (X ++ ys).length cap2) (X ++ ys) := owns_same k2 fun k hk => s2.block k (by have := (World.ownsRow.lt k2 k hk).1; have := Hlt.out; omega)
    have HS1 := Lib.hid s1
    have HFR := Lib.hid hfr
    have HOW := Lib.hid hown
    clear STEP hfin k1 k2 k3 s1 s2 hfr hown c5 f5 ra hb4 hv2 z0 x0 x1 x2 y0
    rw [List.length_append] at HS1 HFR HOW
    generalize w5.setCell ⟨Bt, 0, none⟩ (.slice ao2 (X.length + ys.length) cap2) = w6 at *
    go_wp2
    go_ret
    exact ⟨rfl, HFR.out, _, HS1.out, HOW.out⟩

set_option maxRecDepth 100000 in
set_option maxHeartbeats 2000000 in
theorem putrow_any (b v : Value) (xs : List UInt8) (R : List ValD) (w : World) (hb : Bs w b xs) (hx : xs.length ≤ 1000) (hv : Vals w v R) (hR : R.length ≤ 20) (hok : ∀ q ∈ R, ValOk q) :
    Calls Tryd.prog 28 #[b, v] w fun e w' => ∃ u, e = .returned u ∧ Own w.heap.size w' u (xs ++ bytesRow R) ∧ Rb w w' := by
  obtain ⟨ao, cap, rfl, _, _⟩ := hb.len
  obtain ⟨bo, cap2, rfl, _, _⟩ := Row3.form hv
  obtain ⟨w1, hw1⟩ : ∃ w1, w1 = w.alloc (.cells #[.slice none 0 0] 44) := ⟨_, rfl⟩
  have hr1 : Rb w w1 := by rw [hw1]; exact (Below.refl _ w).alloc (Nat.le_refl _) _
  have hbk : Blk w1 w.heap.size 44 [.slice none 0 0] := by rw [hw1]; exact Blk.new w _ [_]
  have hz1 : w1.heap.size = w.heap.size + 1 := by rw [hw1]; simp
  have hnil : Own w1.heap.size w1 (.slice none 0 0) [] := World.ownsRow_nil _ _ _ _
  have hmf : ∀ (fn : Fn) (first cap : Array Value) (w : World), (Instr.makeFunc fn first cap).run Tryd.prog w = .ok (.func fn first cap) w := fun _ _ _ _ => rfl
  have hcl := everyP_any R (.slice bo R.length cap2) w1 w.heap.size (fun k => k = w.heap.size ∨ w1.heap.size ≤ k) (fun k wr => w1.heap.size ≤ wr.heap.size ∧ ∃ u, Blk wr w.heap.size 44 [u] ∧ Own w1.heap.size wr u (bytesRow (R.take k))) (fun _ => true)
    (fun w' hf => by
      refine Row3.rb hv ?_
      exact ⟨hf.os.trans hr1.os, hf.tape.trans hr1.tape, hf.output.trans hr1.output, Nat.le_trans hr1.size hf.size, fun k hk => (hf.block k (by omega) (by omega)).trans (hr1.block k hk)⟩)
    ⟨Nat.le_refl _, _, hbk, by simpa [bytesRow] using hnil⟩
    (fun k wa wb ⟨h0, u, h1, h2⟩ hr => ⟨Nat.le_trans h0 hr.size, u, h1.rb hr, owns_below h2 hr⟩)
    (fun k hk wr hf ⟨h0, u, h1, h2⟩ => by
      have hlen := bytesRow_len (R := R.take k) fun q hq => hok q (List.mem_of_mem_take hq)
      have hkl : (R.take k).length = k := by rw [List.length_take]; omega
      refine (put1_any (k : Int) R[k] w.heap.size w1.heap.size u (bytesRow (R.take k)) wr h1 h2 h0 (by omega) (by omega) (hok _ (List.getElem_mem hk))).mono fun e w2 ⟨he, hf2, u2, h3, h4⟩ => ⟨he, hf2, fun _ => ⟨Nat.le_trans h0 hf2.size, u2, h3, ?_⟩⟩
      rw [bytesRow_take hk rfl]
      exact h4)
  have HCL := Lib.hid hcl
  have HW1 := Lib.hid hw1
  have HB := Lib.hid hb
  have HR1 := Lib.hid hr1
  have HZ := Lib.hid hz1
  have hlen := bytesRow_len hok
  have hl1 : (bytesRow R).length ≤ 1000 := by omega
  clear hcl hw1 hb hr1 hz1 hbk hnil hv hok hlen
  go_enter Tryd.func28, Tryd.ntmps28
  go_wp2_with fail
  rw [← HW1.out]
  refine HCL.out.mono ?_
  rintro e w2 ⟨hf, ⟨-, rfl, h0, u, h1, h2⟩ | ⟨⟨k, _, hk⟩, _⟩⟩
  · rw [List.take_length] at h2
    generalize hY : bytesRow R = ys at *
    have HY := Lib.hid hY
    clear hY
    obtain ⟨uo, ucap, rfl, _, _⟩ := (Bs.of_owns h2).len
    have hrw : Rb w w2 := ⟨hf.os.trans HR1.out.os, hf.tape.trans HR1.out.tape, hf.output.trans HR1.out.output, Nat.le_trans HR1.out.size hf.size, fun k hk => (hf.block k (by have := HZ.out; omega) (by have := HZ.out; omega)).trans (HR1.out.block k hk)⟩
    have x0 := h1.cell 0
    have HRW := Lib.hid hrw
    have HU := Lib.hid (Bs.of_owns h2)
    clear hf h1 h2 HCL
    go_wp2_with fail
    refine (concat_any w2.heap.size (.slice ao xs.length cap) (.slice uo ys.length ucap) xs ys (w2.alloc (.cells #[.slice ao xs.length cap, .slice uo ys.length ucap] 44)) (by simp) (by simp) (Bs.below ((Below.refl _ w2).alloc (Nat.le_refl _) _) (HB.out.below HRW.out)) (Bs.below ((Below.refl _ w2).alloc (Nat.le_refl _) _) HU.out) hx hl1).mono ?_
    rintro e w3 ⟨u3, rfl, ho, hb3⟩
    have HB3 := Lib.hid (Rb.trans _ _ _ (Below.alloc HRW.out HRW.out.size _) hb3)
    have hsz : w.heap.size ≤ (w2.alloc (.cells #[.slice ao xs.length cap, .slice uo ys.length ucap] 44)).heap.size := (Below.alloc HRW.out HRW.out.size _).size
    have HO := Lib.hid (World.ownsRow.mono ho hsz)
    clear ho hb3 hsz x0
    go_wp2
    go_ret
    exact ⟨_, rfl, by rw [HY.out]; exact HO.out, HB3.out⟩
  · cases hk

set_option maxRecDepth 100000 in
set_option maxHeartbeats 2000000 in
theorem refbytesrow_any (v : Value) (R : List ValD) (w : World) (hv : Vals w v R) (hR : R.length ≤ 20) (hok : ∀ q ∈ R, ValOk q) :
    Calls Tryd.prog 29 #[v] w fun e w' => ∃ u, e = .returned u ∧ Own w.heap.size w' u (bytesRow R) ∧ Rb w w' := by
  obtain ⟨ao, cap, rfl, h1, h2, hr⟩ := hv
  have HR := Lib.hid hr
  have HOK := Lib.hid hok
  unfold maxLen at h2
  clear hr hok h1
  go_enter Tryd.func29, Tryd.ntmps29
  go_wp2
  go_loopw [3, 8] (fun p i wr => ∃ k : Nat, k ≤ R.length ∧ i = .int .i64 k ∧ Own w.heap.size wr p (bytesRow (R.take k)) ∧ Rb w wr) (fun _ i _ => R.length - (intOf i).toNat)
  case atStart => exact ⟨0, Nat.zero_le _, rfl, World.ownsRow_nil _ _ _ _, Rb.refl _⟩
  case round =>
    obtain ⟨k, hk, rfl, ho, hb⟩ := hrel
    have HO := Lib.hid ho
    have HB := Lib.hid hb
    clear ho
    by_cases hlt : k < R.length
    · obtain ⟨b, o, rfl, hc⟩ := HR.out (by omega)
      obtain ⟨z0, z1, z2⟩ := hc k hlt
      have y0 := cell_rb hb z0
      have y1 := cell_rb hb z1
      have y2 := cell_rb hb z2
      obtain ⟨q, hq⟩ : ∃ q, q = R[k] := ⟨_, rfl⟩
      rw [← hq] at y0 y1 y2
      have hqo := HOK.out q (by rw [hq]; exact List.getElem_mem hlt)
      have hcl := fun w => refbytes_any q.k q.n q.s w hqo.s hqo.n0 hqo.n1
      have hfl := bytesRow_take hlt hq
      have hln := bytesRow_len (R := R.take k) fun x hx => HOK.out x (List.mem_of_mem_take hx)
      have hql := bytesOf_len hqo
      have hkl : (R.take k).length = k := by rw [List.length_take]; omega
      rw [hkl] at hln
      change ∀ w, Calls _ _ _ w fun e w' => ∃ v, e = .returned v ∧ Bs w' v (bytesOf q) ∧ _ at hcl
      generalize bytesOf q = ys at *
      obtain ⟨X, hX⟩ : ∃ X, X = bytesRow (R.take k) := ⟨_, rfl⟩
      rw [← hX] at HO hfl hln
      have HFL := Lib.hid hfl
      clear z0 z1 z2 hc hq hb hfl hkl hX hqo
      obtain ⟨qk, qn, qs⟩ := q
      dsimp only at y0 y1 y2 hcl
      go_wp2_with (refine wpList_store rfl 70 _ _ rfl wr.heap.size 0 _ _ [_, _, _] _ rfl rfl (Blk.new wr 70 [_, _, _]) rfl sizeV (by simp) (oneV _ _ _) ?_)
      intro w1 hb1 hw1
      have hr1 := hw1.rb_new
      have HB1 := Lib.hid (Rb.trans _ _ _ HB.out hr1)
      have HO1 := Lib.hid (show Own w.heap.size w1 _ X from owns_below HO.out hr1)
      obtain ⟨x0, x1, x2⟩ := hb1.c3
      clear hb1 hw1 hr1 y0 y1 y2
      go_wp2_with fail
      refine (hcl _).mono ?_
      rintro e w2 ⟨v2, rfl, hv2, hb2⟩
      have HB2 := Lib.hid (Rb.trans _ _ _ HB1.out hb2)
      have HO2 := Lib.hid (show Own w.heap.size w2 _ X from owns_below HO1.out hb2)
      have HV2 := Lib.hid hv2
      clear hv2 hb2 hcl x0 x1 x2
      go_wp2_with (at_builtin; (refine _root_.Go.Proofs.YtolfeellcdoopaaDoor.wpList_append_bs rfl _ _ rfl w.heap.size _ _ X ys rfl HO2.out rfl HV2.out HB2.out.size (by omega) ?_))
      intro v' w3 ho3 hb3
      rw [← HFL.out] at ho3
      have HO3 := Lib.hid ho3
      have HB3 := Lib.hid (Below.trans HB2.out hb3)
      clear ho3 hb3
      go_wp2
      go_roundw
      case rel => exact ⟨k + 1, by omega, by go_num, HO3.out, HB3.out⟩
      case measure => simp [intOf]; omega
    · have htk : R.take k = R := List.take_of_length_le (by omega)
      rw [htk] at HO
      clear htk hb
      go_wp2
      go_ret
      exact ⟨_, rfl, HO.out, HB.out⟩
end Go.Proofs.YtolfeellcdoopaaDoor.L6
