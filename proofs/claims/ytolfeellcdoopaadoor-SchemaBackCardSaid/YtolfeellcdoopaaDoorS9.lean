/-
  Layer 6: a table's text, by the program.
-/
import Derived.Test.YtolfeellcdoopaaDoorS5
import Derived.Test.YtolfeellcdoopaaDoorVF
import Derived.Deep.RegionLaw
import Derived.Lib.ItoaLen
namespace Go.Proofs.YtolfeellcdoopaaDoor.L6
open Go.ChangeShapes Go.WideShapes Go.ChangeAt Go.RowKit Oct By Reg Val
set_option linter.unusedVariables false
set_option linter.unusedSimpArgs false

/-- a call, as one step of a region that draws -/
theorem step_run_call {P : Program} {ops : Array Oper} {o : Oper} {a : Act} {w : World} {Q : Exit → Act → World → Prop} {K : Act → World → Prop} {E : Prop} (f : FuncId) {args : Array Operand} {tys : Array TypeId} {vs : Array Value}
    (hg : o.guard = none) (ho : o.op = .call { callee := .value (.func f), args := args, argTypes := tys }) (ha : args.map a.eval = vs) (hcf : (callFunc f vs).run P w = .ok (.enter f vs) w) (hc : Calls P f vs w fun e w'' => ∃ v, e = .returned v ∧ K (a.put o.dst v) w'') :
    if Region.wanted o (yielded ops a.tmps) = true then Oper.wp P o a w K Q else E := by
  rw [if_pos (by simp [Region.wanted, hg])]
  unfold Oper.wp
  have : (execOp a.eval o).run P w = .ok (.enter f vs) w := by
    have e : execOp a.eval o = callFunc f (#[] ++ args.map a.eval ++ #[]) := by
      simp only [execOp, ho]; rfl
    rw [e, ha]
    simpa using hcf
  rw [this]
  refine hc.mono ?_
  rintro e w' ⟨v, rfl, h⟩
  exact h

theorem step_run_append {P : Program} {ops : Array Oper} {o : Oper} {a : Act} {w : World} {Q : Exit → Act → World → Prop} {K : Act → World → Prop} {E : Prop} {s x : Operand} {t t2 : TypeId} (hg : o.guard = none) (hop : o.op = Op.call { callee := Callee.builtin Builtin.append, args := #[s, x], argTypes := #[t, t2] })
    {v1 v2 v' : Value} {w' : World} (hs : a.eval s = v1) (hx : a.eval x = v2) (hr : (Builtin.append_ #[t, t2] o.type #[v1, v2]).run P w = .ok v' w') (h : K (a.put o.dst v') w') : if Region.wanted o (yielded ops a.tmps) = true then Oper.wp P o a w K Q else E := by
  rw [if_pos (by simp [Region.wanted, hg])]
  unfold Oper.wp
  simp [execOp, hop, resolve, invoke, builtin, hs, hx, hr, Result.andThen]
  exact h

abbrev semi : ByteArray := ⟨#[59]⟩
def colParts (c : ColD) : List ByteArray := [c.name, str (typeText c.kind c.max) ++ semi]
def headParts (nm : ByteArray) (rows : Int) : List ByteArray := [⟨#[116, 97, 98, 108, 101]⟩, nm, ⟨#[114, 111, 119, 115]⟩, str (Lib.itoa rows), ⟨#[123]⟩]
def parts (nm : ByteArray) (rows : Int) (L : List ColD) : List ByteArray := headParts nm rows ++ L.flatMap colParts
def colB (c : ColD) : List UInt8 := 32 :: (c.name.data.toList ++ 32 :: (typeText c.kind c.max ++ [59]))
def headB (nm : ByteArray) (rows : Int) : List UInt8 := [116, 97, 98, 108, 101, 32] ++ (nm.data.toList ++ ([32, 114, 111, 119, 115, 32] ++ (Lib.itoa rows ++ [32, 123])))
def printB (nm : ByteArray) (rows : Int) (L : List ColD) : List UInt8 := headB nm rows ++ (L.flatMap colB ++ [32, 125])

theorem typeText_len (k m : Int) : (typeText k m).length ≤ 7 := by
  unfold typeText
  split
  · split
    · simp
    · split
      · simp
      · rename_i h h1 h2
        unfold rightTypeB at h
        rw [if_neg (by omega)] at h
        split at h
        · have h3 : 1 ≤ m ∧ m ≤ 32 := by simpa using h
          obtain ⟨u, rfl⟩ := Int.eq_ofNat_of_zero_le (show 0 ≤ m by omega)
          have := dec_len (u := u) (by omega)
          rw [itoa_nat, List.length_append]
          simp; omega
        · cases h
  · simp
theorem joinTail_append (sep : List UInt8) (a b : List (List UInt8)) : Lib.joinTail sep (a ++ b) = Lib.joinTail sep a ++ Lib.joinTail sep b := by
  unfold Lib.joinTail
  simp
theorem joinTail_cols : ∀ L : List ColD, Lib.joinTail [32] ((L.flatMap colParts).map (fun x : ByteArray => x.data.toList)) = L.flatMap colB
  | [] => rfl
  | c :: r => by
    rw [List.flatMap_cons, List.map_append, joinTail_append, joinTail_cols r, List.flatMap_cons]
    congr 1
    unfold colParts colB Lib.joinTail
    simp [ByteArray.data_append, str]
theorem join_parts (nm : ByteArray) (rows : Int) (L : List ColD) : Lib.join ((parts nm rows L ++ [(⟨#[125]⟩ : ByteArray)]).map (fun x : ByteArray => x.data.toList)) [32] = printB nm rows L := by
  unfold parts headParts printB headB
  rw [List.map_append, List.map_append, List.map_cons, List.cons_append, List.cons_append, Lib.join_cons, joinTail_append, joinTail_append, joinTail_cols]
  unfold Lib.joinTail
  simp [str]
theorem cols_len : ∀ L : List ColD, (∀ c ∈ L, c.name.size ≤ 40) → (L.flatMap colB).length ≤ 50 * L.length
  | [], _ => by simp
  | c :: r, h => by
    have h1 := cols_len r (fun d hd => h d (by simp [hd]))
    have h2 := h c (by simp)
    have h3 := typeText_len c.kind c.max
    have h4 : c.name.data.toList.length = c.name.size := Array.length_toList
    rw [List.flatMap_cons, List.length_append]
    have h5 : (colB c).length ≤ 50 := by
      unfold colB
      simp only [List.length_cons, List.length_append, List.length_nil]
      omega
    simp only [List.length_cons]
    omega
theorem itoa_len {n : Int} (h0 : -9223372036854775808 ≤ n) (h1 : n ≤ 9223372036854775807) : (Lib.itoa n).length ≤ 100 :=
  Nat.le_trans (Lib.itoa_length_le n h0 h1) (by decide)
theorem print_len {nm : ByteArray} {rows : Int} {L : List ColD} (h0 : -9223372036854775808 ≤ rows) (h1 : rows ≤ 9223372036854775807) (hn : nm.size ≤ 40) (hl : L.length ≤ 20) (hc : ∀ c ∈ L, c.name.size ≤ 40) : (printB nm rows L).length ≤ 10000 := by
  have a := cols_len L hc
  have b := itoa_len h0 h1
  have h4 : nm.data.toList.length = nm.size := Array.length_toList
  unfold printB headB
  simp only [List.length_append, List.length_cons, List.length_nil]
  omega
theorem parts_len (nm : ByteArray) (rows : Int) (L : List ColD) : (parts nm rows L).length = 5 + 2 * L.length := by
  unfold parts
  rw [List.length_append]
  have : ∀ L : List ColD, (L.flatMap colParts).length = 2 * L.length := by
    intro L
    induction L with
    | nil => rfl
    | cons c r ih => rw [List.flatMap_cons, List.length_append, ih]; simp [colParts]; omega
  rw [this]
  rfl

theorem infoS1 : (Tryd.prog.info? 9).map (fun i => (i.zero, i.size, i.bytes)) = some (some (.string ⟨#[]⟩), 1, 16) := by kernel_rfl
theorem strings_one (xs : List ByteArray) : ∀ u ∈ xs.map Value.string, u.oneCell' = true := by
  intro u hu
  obtain ⟨x, _, rfl⟩ := List.mem_map.1 hu
  rfl
/-- strings put behind a row of strings of the call's own -/
theorem step_strs {B : Nat} {w0 wr w2 : World} {v : Value} {olds : List ByteArray} (ho : wr.ownsRow B 9 1 v olds.length (olds.map Value.string)) (hb : Below B w0 wr) (hB : B ≤ wr.heap.size) (hr : Rb wr w2) (xs : List ByteArray) (hn : 0 < xs.length) (hl : olds.length + xs.length ≤ 1000) :
    ∃ g cap w3, (∀ ty, (Builtin.append_ #[65, 65] ty #[v, .slice (some ⟨w2.heap.size, 0, none⟩) xs.length xs.length]).run Tryd.prog (w2.alloc (.cells (xs.map Value.string).toArray 9)) = .ok (.slice (some ⟨g, 0, none⟩) (olds ++ xs).length cap) w3) ∧
      w3.ownsRow B 9 1 (.slice (some ⟨g, 0, none⟩) (olds ++ xs).length cap) (olds ++ xs).length ((olds ++ xs).map Value.string) ∧ Below B w0 w3 := by
  obtain ⟨i0, hi, hz, hsz, hby⟩ := info_parts infoS1
  have ha : Rb wr (w2.alloc (.cells (xs.map Value.string).toArray 9)) := Below.alloc hr hr.size _
  have ho2 := owns_below ho ha
  have hc := cells_new w2 9 (xs.map Value.string) (by rw [List.length_map]; unfold maxLen; omega)
  obtain ⟨v', w', hrun, h2, h3, h4⟩ := run_append_own (P := Tryd.prog) _ B 65 65 9 i0 _ 1 16 Tryd.underlying65 hi hz hsz hby rfl (by decide) v olds.length (olds.map Value.string) ho2 ⟨w2.heap.size, 0, none⟩ xs.length xs.length (xs.map Value.string) (by simp) hc (strings_one xs) (by unfold maxLen; omega) (by omega) (Nat.le_trans hB ha.size)
  have hbb : Below B w0 w' := Below.trans hb (Below.trans (Below.mono ha hB) ((Below.refl B _).grown h3 (Nat.le_trans hB ha.size) (fun k hk => (ho2.lt k hk).1)))
  rw [← List.map_append] at h2
  have hlen : olds.length + xs.length = (olds ++ xs).length := by simp
  rw [hlen] at h2
  obtain ⟨g, cap, rfl⟩ := owns_form h2 (by simp; omega)
  exact ⟨g, cap, w', fun ty => hrun, h2, hbb⟩

set_option maxRecDepth 100000 in
set_option maxHeartbeats 4000000 in
theorem print_any (nm : ByteArray) (rws : Int) (cv : Value) (L : List ColD) (w : World) (h : Cols w cv L) (htab : Tab w) (h0 : -9223372036854775808 ≤ rws) (h1 : rws ≤ 9223372036854775807) (hn : nm.size ≤ 40) (hl : L.length ≤ 20) (hc : ∀ c ∈ L, c.name.size ≤ 40) :
    Calls Tryd.prog 17 #[tabV ⟨nm, rws, cv, L⟩] w fun e w' => e = .returned (.string (str (printB nm rws L))) ∧ Rb w w' := by
  have hq := h
  obtain ⟨ao, cap, rfl, hl1, hl2, hcr⟩ := hq
  have hr : Rb w (w.alloc (.cells #[.string nm, .int .i64 rws, .slice ao L.length cap] 25)) := (Below.refl _ w).alloc (Nat.le_refl _) _
  have HI : Hid (∀ w', Rb w w' → Calls Tryd.prog 43 #[.int .i64 rws] w' fun e w'' => e = .returned (.string ⟨(Lib.itoa rws).toArray⟩) ∧ Rb w' w'') := fun w' hw =>
    (Tryd.strconv_Itoa rws h0 h1 w' (htab.rb hw)).mono fun _ _ ⟨he, k, os, hh⟩ => ⟨he, by rw [hh]; exact Lib.below_grow _ w' (Nat.le_refl _) k os⟩
  have HPL := Lib.hid (print_len h0 h1 hn hl hc)
  have HR := Lib.hid hr
  have HCR := Lib.hid hcr
  have HCN := Lib.hid hc
  obtain ⟨ii, hii⟩ : ∃ ii, ii = str (Lib.itoa rws) := ⟨_, rfl⟩
  have HII := Lib.hid hii
  have HI2 := HI.out
  rw [show (⟨(Lib.itoa rws).toArray⟩ : ByteArray) = ii from hii.symm] at HI2
  have HI3 := Lib.hid HI2
  unfold maxLen at hl2
  have mixed : Tryd.prog.follows Departure.mixedOrders = true := by kernel_rfl
  clear hr htab h hcr hc HI HI2 hii
  go_enter Tryd.func17, Tryd.ntmps17
  go_upto_region 1 with (fail)
  obtain ⟨w1, hw1⟩ : ∃ w1, w1 = w.alloc (.cells #[.string nm, .int .i64 rws, .slice ao L.length cap] 25) := ⟨_, rfl⟩
  have HR1 := HR.out
  rw [← hw1] at HR1 ⊢
  have x0 : w1.cell? ⟨w.heap.size, 0, none⟩ = some (.string nm) := by rw [hw1]; simp
  have x1 : w1.cell? ⟨w.heap.size, 1, none⟩ = some (.int .i64 rws) := by rw [hw1]; simp
  have x2 : w1.cell? ⟨w.heap.size, 2, none⟩ = some (.slice ao L.length cap) := by rw [hw1]; simp
  have HR2 := Lib.hid HR1
  have X2 := Lib.hid x2
  clear hw1 HR HR1
  go_cut [3] from 6 (fun s3 wr => ∃ g, s3 = .slice (some ⟨g, 0, none⟩) 5 5 ∧ wr.ownsRow w.heap.size 9 1 s3 5 ((headParts nm rws).map Value.string) ∧ Rb w1 wr)
  · rename_i J K' hJ hK
    go_region_with (go_at_call 43; refine (HI3.out _ (by first | exact HR2.out | exact Rb.trans _ _ _ HR2.out (Rb.drew _))).mono ?_; rintro e w2 ⟨rfl, hb2⟩; have y0 := cell_rb (Rb.trans _ _ _ (Rb.drew w1) hb2) x0)
    all_goals
      have hb3 := Rb.trans _ _ _ (Rb.drew w1) hb2
      have hsz : w.heap.size ≤ w2.heap.size := (Rb.trans _ _ _ HR2.out hb3).size
      have ho := (owns_new w2 9 ((headParts nm rws).map Value.string) (by simp [headParts, maxLen])).mono hsz
      have HO := Lib.hid ho
      clear ho hb2
      go_wp2_with fail
      go_meet
      refine ⟨w2.heap.size, rfl, ?_, Below.alloc hb3 hb3.size _⟩
      have := HO.out
      unfold headParts at this ⊢
      rw [← HII.out] at this ⊢
      exact this
  obtain ⟨g0, rfl, ho0, hr0⟩ := hcut
  generalize wc = w2 at *
  have u2 := cell_rb hr0 X2.out
  have HB2 := Lib.hid (Rb.trans _ _ _ HR2.out hr0)
  have HO0 := Lib.hid ho0
  clear x0 x1 x2 X2 hr0 HR2 ho0
  go_wp2_with fail
  go_loopw [3, 15] (fun p i wr => ∃ (k : Nat) (g c : Nat), k ≤ L.length ∧ i = .int .i64 k ∧ p = .slice (some ⟨g, 0, none⟩) (parts nm rws (L.take k)).length c ∧ wr.ownsRow w.heap.size 9 1 p (parts nm rws (L.take k)).length ((parts nm rws (L.take k)).map Value.string) ∧ Rb w wr) (fun _ i _ => L.length - (intOf i).toNat)
  case atStart => exact ⟨0, g0, 5, Nat.zero_le _, rfl, rfl, by have := HO0.out; simpa [parts, headParts] using this, HB2.out⟩
  case round =>
    obtain ⟨k, g, c, hk, rfl, rfl, ho, hb⟩ := hrel
    have HB := Lib.hid hb
    have HO := Lib.hid ho
    have hkl : (L.take k).length = k := by rw [List.length_take]; omega
    have HPN := Lib.hid (show (parts nm rws (L.take k)).length = 5 + 2 * k by rw [parts_len, hkl])
    clear hkl
    by_cases hlt : k < L.length
    · obtain ⟨b, o, rfl, hc⟩ := HCR.out (by omega)
      obtain ⟨z0, z1, z2⟩ := hc k hlt
      have y0 := cell_rb hb z0
      have y1 := cell_rb hb z1
      have y2 := cell_rb hb z2
      obtain ⟨t, ht⟩ : ∃ t, t = L[k] := ⟨_, rfl⟩
      rw [← ht] at y0 y1 y2
      have hpar : parts nm rws (L.take (k + 1)) = parts nm rws (L.take k) ++ colParts t := by
        unfold parts
        rw [List.take_succ_eq_append_getElem hlt, List.flatMap_append, ← ht, List.append_assoc]
        simp
      have hpt := fun w' => printtype_any t.kind t.max w'
      have htl := typeText_len t.kind t.max
      have HPAR := Lib.hid hpar
      clear z0 z1 z2 hc hb ho ht hpar
      obtain ⟨cn, ck, cm⟩ := t
      dsimp only at y0 y1 y2 hpt HPAR htl
      unfold colParts at HPAR
      dsimp only at HPAR
      obtain ⟨tt, htt⟩ : ∃ tt, tt = str (typeText ck cm) := ⟨_, rfl⟩
      unfold strV at hpt
      have hts : tt.size ≤ 7 := by rw [htt, str_size]; exact htl
      rw [← htt] at hpt HPAR
      generalize parts nm rws (L.take k) = P0 at *
      have HPT := Lib.hid hpt
      go_wp2_with (refine wpList_store rfl 57 _ _ rfl wr.heap.size 0 _ _ [_, _, _] _ rfl rfl (Blk.new wr 57 [_, _, _]) rfl sizeC (by simp) (oneC _ _ _) ?_)
      intro w3 hb3 hw3
      have hr3 := hw3.rb_new
      have HR3 := Lib.hid hr3
      obtain ⟨q0, q1, q2⟩ := hb3.c3
      have STEP : Hid (∀ w4, Rb w3 w4 → ∃ g' cap w5, (∀ ty, (Builtin.append_ #[65, 65] ty #[.slice (some ⟨g, 0, none⟩) P0.length c, .slice (some ⟨w4.heap.size, 0, none⟩) 2 2]).run Tryd.prog (w4.alloc (.cells #[.string cn, .string (tt ++ semi)] 9)) = .ok (.slice (some ⟨g', 0, none⟩) (P0 ++ [cn, tt ++ semi]).length cap) w5) ∧
          w5.ownsRow w.heap.size 9 1 (.slice (some ⟨g', 0, none⟩) (P0 ++ [cn, tt ++ semi]).length cap) (P0 ++ [cn, tt ++ semi]).length ((P0 ++ [cn, tt ++ semi]).map Value.string) ∧ Rb w w5) := fun w4 hw4 =>
        step_strs HO.out HB.out HB.out.size (Rb.trans _ _ _ HR3.out hw4) [cn, tt ++ semi] (by simp) (by rw [HPN.out]; simp; omega)
      have EN := enters_of (P := Tryd.prog) Tryd.func44 (by kernel_rfl) rfl
      have RDW := Rb.drew w3
      have hs1 : tt.size + 1 ≤ 9223372036854775807 := by omega
      have hs2 : ¬ 9223372036854775807 < tt.size + 1 := by omega
      clear hb3 hw3 y0 y1 y2 hpt htl htt hr3
      go_upto_region 5 with (fail)
      go_region_law (first | (refine step_run_call (vs := #[.agg #[.int .i64 ck, .int .i64 cm]]) 44 rfl rfl (by simp [Act.eval, Act.put]) (EN _ _) ?_; refine (HPT.out _).mono ?_; rintro e w4 ⟨rfl, hb4⟩; obtain ⟨g', cap', w5, ra, ho5, hb5⟩ := STEP.out w4 (Rb.trans _ _ _ (by assumption) hb4); have z0 := cell_rb (Rb.trans _ _ _ (by assumption) hb4) q0; refine ⟨_, rfl, ?_⟩) | (refine step_run_append rfl rfl (by simp [Act.eval, Act.put]) (by simp [Act.eval, Act.put]) (ra _) ?_))
      all_goals
        have HO5 := Lib.hid ho5
        have HB5 := Lib.hid hb5
        clear STEP ho5 hb5 ra hb4 z0 q0 q1 q2
        obtain ⟨P1, hP1⟩ : ∃ P1, P1 = P0 ++ [cn, tt ++ semi] := ⟨_, rfl⟩
        have HL := Lib.hid (show P1.length = P0.length + 2 by rw [hP1]; simp)
        have HP1 := Lib.hid hP1
        rw [← hP1] at HO5
        clear hP1
        go_wp2
        go_roundw
        case rel => exact ⟨k + 1, g', cap', by omega, by go_num, by rw [HPAR.out, ← HP1.out, HL.out], by rw [HPAR.out, ← HP1.out]; have := HO5.out; rw [HL.out] at this ⊢; exact this, HB5.out⟩
        case measure => simp [intOf]; omega
    · have hk2 : k = L.length := by omega
      have htk : L.take k = L := by rw [hk2]; exact List.take_length
      rw [htk] at HO HPN ⊢
      have hpn : 5 + 2 * k ≤ 45 := by omega
      have HPN2 := Lib.hid (show (parts nm rws L).length ≤ 45 by rw [HPN.out]; exact hpn)
      have hjn := join_parts nm rws L
      have HJN := Lib.hid hjn
      obtain ⟨P0, hP0⟩ : ∃ P0, P0 = parts nm rws L := ⟨_, rfl⟩
      rw [← hP0] at HO HPN HJN HPN2 ⊢
      have HK2 := Lib.hid hk2
      have HPI := Lib.hid hP0
      obtain ⟨i0, hi0, hz0, hz1, hz2⟩ := info_parts infoS1
      have Hi := Lib.hid hi0
      have Hz := Lib.hid hz0
      have Hz1 := Lib.hid hz1
      have Hz2 := Lib.hid hz2
      have hp45 : P0.length ≤ 45 := HPN2.out
      have HOA := Lib.hid (World.ownsRow.alloc HO.out (.cells #[.string ⟨#[125]⟩] 9))
      clear ho hb hk2 htk hjn hP0 hi0 hz0 hz1 hz2
      go_wp2_with (at_builtin; (refine wpList_append_own _ rfl _ _ 65 rfl w.heap.size 9 i0 (.string ⟨#[]⟩) 1 16 Tryd.underlying65 Hi.out Hz.out Hz1.out Hz2.out rfl (by decide) _ P0.length _ rfl HOA.out ⟨wr.heap.size, 0, none⟩ 1 1 [.string ⟨#[125]⟩] rfl rfl (cells_new _ _ _ (by simp [maxLen])) (strings_one [⟨#[125]⟩]) (by unfold maxLen; omega) (by omega) (Nat.le_trans HB.out.size (by simp)) ?_))
      intro v' w3 ho3 hg3 hnil3
      rw [← List.map_singleton (f := Value.string), ← List.map_append] at ho3
      have hlen : P0.length + 1 = (P0 ++ [(⟨#[125]⟩ : ByteArray)]).length := by simp
      rw [hlen] at ho3
      have hb3 : Rb w w3 := ((HB.out.alloc HB.out.size (.cells #[.string ⟨#[125]⟩] 9)).grown hg3 (Nat.le_trans HB.out.size (by simp)) (fun b hb => (HOA.out.lt b hb).1))
      obtain ⟨g3, c3, rfl⟩ := owns_form ho3 (by simp)
      obtain ⟨P1, hP1⟩ : ∃ P1, P1 = P0 ++ [(⟨#[125]⟩ : ByteArray)] := ⟨_, rfl⟩
      rw [← hP1] at ho3 HJN ⊢
      have hcell : ∀ (j : Nat) x, P1[j]? = some x → w3.cell? ⟨g3, 0 + j, none⟩ = some (.string x) := fun j x hx => by
        have := ho3.cells (g := g3) rfl j (.string x) (by rw [List.getElem?_map, hx]; rfl)
        rw [show (⟨g3, 0, none⟩ : Addr).add j = ⟨g3, 0 + j, none⟩ by unfold Addr.add; split <;> simp_all] at this
        exact this
      have hp1 : P1.length ≤ 46 := by rw [hP1]; simp; omega
      have hgl := (ho3.lt g3 rfl).2
      have hcap : P1.length ≤ c3 := by
        rcases ho3.2 with ⟨h, _⟩ | ⟨g', cap', cur, h, _, _, h4, _⟩
        · cases h
        · simp only [Value.slice.injEq] at h
          rw [h.2.2]; exact h4
      have hjoin := Tryd.strings_Join g3 0 c3 P1 ⟨#[32]⟩ w3 hcell hgl (by omega) hcap (by rw [show (⟨#[32]⟩ : ByteArray).data.toList = [32] from rfl, HJN.out]; have := HPL.out; omega)
      rw [show (⟨#[32]⟩ : ByteArray).data.toList = [32] from rfl, HJN.out] at hjoin
      have HB3 := Lib.hid hb3
      have HJ := Lib.hid hjoin
      clear ho3 hg3 hnil3 hb3 hlen hcell hp1 hgl hcap hjoin hP1
      go_wp2_with fail
      refine HJ.out.mono ?_
      rintro e w6 ⟨rfl, hb6⟩
      have HB6 := Lib.hid (Rb.trans _ _ _ HB3.out hb6)
      clear hb6 HJ
      go_wp2
      go_ret
      exact ⟨rfl, HB6.out⟩
end Go.Proofs.YtolfeellcdoopaaDoor.L6
