/-
  Layer 4: the document's Open.
-/
import Derived.Test.YtbdgdmieggpmhaaW23
import Derived.Test.YtbdgdmieggpmhaaW14
import Derived.Test.YtbdgdmieggpmhaaW9
namespace Go.Proofs.Ytbdgdmieggpmhaa.L4
open Go.ChangeShapes Go.WideShapes Go.ChangeAt Go.RowKit Oct By Reg L3
set_option linter.unusedVariables false

structure Three (w w' : World) (x y z : List Value) : Prop where
  x : Blk w' w.heap.size 50 x
  y : Blk w' (w.heap.size + 1) 52 y
  z : Blk w' (w.heap.size + 1 + 1) 52 z
  rb : Rb w w'
theorem Three.start (w : World) (x y z : List Value) : Three w (((w.alloc (.cells x.toArray 50)).alloc (.cells y.toArray 52)).alloc (.cells z.toArray 52)) x y z := by
  have h1 : Blk ((w.alloc (.cells x.toArray 50)).alloc (.cells y.toArray 52)) w.heap.size 50 x := (Blk.new w _ x).same (heap_alloc_old _ _ (by simp))
  have h2 : Blk ((w.alloc (.cells x.toArray 50)).alloc (.cells y.toArray 52)) (w.heap.size + 1) 52 y := by
    have := Blk.new (w.alloc (.cells x.toArray 50)) 52 y
    simpa using this
  refine ⟨h1.same (heap_alloc_old _ _ (by simp; omega)), h2.same (heap_alloc_old _ _ (by simp)), ?_, (((Below.refl _ _).alloc (Nat.le_refl _) _).alloc (by simp) _).alloc (by simp; omega) _⟩
  have := Blk.new ((w.alloc (.cells x.toArray 50)).alloc (.cells y.toArray 52)) 52 z
  simpa using this
section
variable {w w1 w2 : World} {x y z y' z' : List Value}
theorem Three.rbs (h : Three w w1 x y z) (hb : Rb w1 w2) : Three w w2 x y z := ⟨h.x.rb hb, h.y.rb hb, h.z.rb hb, Rb.trans _ _ _ h.rb hb⟩
theorem Three.storeZ (h : Three w w1 x y z) (hb : Blk w2 (w.heap.size + 1 + 1) 52 z') (hw : Wrote (w.heap.size + 1 + 1) w1 w2) : Three w w2 x y z' :=
  ⟨h.x.same (hw.block _ (by omega)), h.y.same (hw.block _ (by omega)), hb, Wrote.below h.rb hw (by omega)⟩
theorem Three.storeY (h : Three w w1 x y z) (hb : Blk w2 (w.heap.size + 1) 52 y') (hw : Wrote (w.heap.size + 1) w1 w2) : Three w w2 x y' z :=
  ⟨h.x.same (hw.block _ (by omega)), hb, h.z.same (hw.block _ (by omega)), Wrote.below h.rb hw (by omega)⟩
end

/-- the newest of the two slots, as the document goes over them -/
def stepR (a : Nat × List UInt8 × Bool) (Y : List UInt8) : Nat × List UInt8 × Bool := if imgK Y = true ∧ (a.2.2 = false ∨ a.1 < imgG Y) then (imgG Y, imgS Y, true) else a
def accR (D : Dk) : Nat → Nat × List UInt8 × Bool
  | 0 => (0, [], false)
  | 1 => stepR (0, [], false) D.n0
  | _ => stepR (stepR (0, [], false) D.n0) D.n1
theorem accR_new (D : Dk) : (accR D 2).1 = (newN D).1 ∧ (accR D 2).2.1 = (newN D).2 := by
  show (stepR (stepR (0, [], false) D.n0) D.n1).1 = (stepN (stepN (0, []) D.n1) D.n0).1 ∧ (stepR (stepR (0, [], false) D.n0) D.n1).2.1 = (stepN (stepN (0, []) D.n1) D.n0).2
  unfold stepR stepN
  cases h0 : imgK D.n0 <;> cases h1 : imgK D.n1
  · simp
  · simp
  · simp
  · simp
    by_cases h : imgG D.n0 < imgG D.n1
    · have : ¬ imgG D.n1 ≤ imgG D.n0 := by omega
      simp [h, this]
    · have : imgG D.n1 ≤ imgG D.n0 := by omega
      simp [h, this]
theorem accR_lt (D : Dk) (j : Nat) : (accR D j).1 < 4294967296 := by
  have h : ∀ a Y, a.1 < 4294967296 → (stepR a Y).1 < 4294967296 := fun a Y ha => by
    unfold stepR; split
    · exact imgG_lt Y
    · exact ha
  match j with
  | 0 => simp [accR]
  | 1 => exact h _ _ (by simp)
  | j + 2 => exact h _ _ (h _ _ (by simp))
theorem openD_sure (D : Dk) : D.log.take (lenL (openG D) (openR D)) = (openD D).sure := by
  unfold openR
  rw [take_lenL]
  rfl

/-- what the document's Open leaves -/
def ROpenQ (w : World) (r : Rm) (D : Dk) (e : Ending) (w' : World) : Prop := ∃ r' v, e = .returned (.tuple #[Lv (openD D) r' (openG D) 0, .string (str (newN D).2), v]) ∧ RefQ w r.has (openD D) r' w' ∧ Strs w.heap.size w' v (openR D)

set_option maxRecDepth 100000 in
set_option maxHeartbeats 1000000 in
theorem ropen_any (D : Dk) (r : Rm) (w0 : World) (h : HeldR w0 r D) (ok : D.Ok) : Calls Try.prog 23 #[refv D r] w0 (ROpenQ w0 r D) := by
  obtain ⟨gn, capn, en, hn1, hn2, hn3, hn4⟩ := id h.n
  unfold maxLen at hn2
  have HH := Lib.hid h
  have HOK := Lib.hid ok
  have HN3 := Lib.hid hn3
  have HN4 := Lib.hid hn4
  have H7 := Lib.hid (lcs_one (g := 0) (k := 0) h)
  have HX0 := Lib.hid (Three.start w0 (refcs D r) zero7 zero7)
  obtain ⟨nv, sv⟩ := r
  dsimp only at en
  subst en
  obtain ⟨gs, caps, es, -⟩ := id h.s
  dsimp only at es
  subst es
  clear h ok hn3 hn4
  go_enter Try.func23, Try.ntmps23
  go_wp2_with (refine wpList_store rfl 52 _ _ rfl (w0.heap.size + 1 + 1) 0 _ _ [_, _, _, _, _, _, _] _ rfl rfl HX0.out.z rfl sizeX (by simp) H7.out ?_)
  intro w1 hb1 hw1
  have T1 := Lib.hid (HX0.out.storeZ hb1 hw1)
  obtain ⟨x0, x1, x2, x3, x4⟩ := Blk.cells5 T1.out.x
  clear hb1 hw1
  go_wp2_with fail
  go_loopw [6, 7, 20] (fun im so i wr => ∃ j : Nat, j ≤ 2 ∧ i = .int .i64 j ∧ im = .string (str (accR D j).2.1) ∧ so = .bool (accR D j).2.2 ∧ Three w0 wr (refcs D ⟨.slice (some ⟨gn, 0, none⟩) 2 capn, .slice (some ⟨gs, 0, none⟩) 2 caps⟩) zero7 (lcs D ⟨.slice (some ⟨gn, 0, none⟩) 2 capn, .slice (some ⟨gs, 0, none⟩) 2 caps⟩ (accR D j).1 0)) (fun _ _ i _ => 2 - (intOf i).toNat)
  case atStart => exact ⟨0, by omega, rfl, rfl, rfl, T1.out⟩
  case round =>
    obtain ⟨j, hj, rfl, rfl, rfl, ht⟩ := hrel
    have T := Lib.hid ht
    clear ht
    rcases (by omega : j = 0 ∨ j = 1 ∨ j = 2) with hj0 | hj0 | hj0
    · obtain rfl : j = 0 := by omega
      have HST := Lib.hid (show stepR (accR D 0) D.n0 = accR D (0 + 1) from rfl)
      have zc := cell_rb T.out.rb HN3.out
      have hyl : D.n0.length ≤ 1000 := HOK.out.2.2.1
      have HYL := Lib.hid hyl
      clear hyl
      generalize D.n0 = Y at *
      generalize accR D 0 = A at *
      obtain ⟨ag, im, ab⟩ := A
      dsimp only at *
      obtain ⟨x0, x1, x2, x3, x4⟩ := Blk.cells5 T.out.x
      obtain ⟨z0, z1, z2, z3, z4, z5, z6⟩ := T.out.z.cells7
      go_wp2_with fail
      refine (rimage_flat Y wr (by have := HYL.out; omega)).mono ?_
      rintro e w3 ⟨rfl, hr⟩
      have T3 := Lib.hid (T.out.rbs hr)
      clear z0 z1 z2 z3 z4 z5 z6 hr zc x0 x1 x2 x3 x4
      obtain ⟨z0, z1, z2, z3, z4, z5, z6⟩ := T3.out.z.cells7
      have hst := HST.out
      unfold stepR at hst
      dsimp only at hst
      generalize imgS Y = S at *
      generalize imgG Y = G at *
      generalize imgK Y = K at *
      cases K with
      | false =>
        rw [if_neg (fun h => by cases h.1)] at hst
        have HS2 := Lib.hid hst
        clear hst HST
        go_wp2
        go_roundw
        case rel => exact ⟨0 + 1, by omega, by go_num, by rw [← HS2.out], by rw [← HS2.out], by rw [← HS2.out]; exact T3.out⟩
        case measure => simp [intOf]
      | true =>
        cases ab with
        | false =>
          rw [if_pos ⟨rfl, .inl rfl⟩] at hst
          have HS2 := Lib.hid hst
          clear hst HST
          go_wp2_with (refine wpList_store rfl 22 _ _ rfl (w0.heap.size + 1 + 1) 5 52 _ [_] _ rfl rfl T3.out.z rfl sizeu32 (by simp) (int_one _ _) ?_)
          intro w4 hb4 hw4
          have T4 := Lib.hid (show Three w0 w4 (refcs D ⟨.slice (some ⟨gn, 0, none⟩) 2 capn, .slice (some ⟨gs, 0, none⟩) 2 caps⟩) zero7 (lcs D ⟨.slice (some ⟨gn, 0, none⟩) 2 capn, .slice (some ⟨gs, 0, none⟩) 2 caps⟩ G 0) from T3.out.storeZ hb4 hw4)
          clear hb4 hw4 z0 z1 z2 z3 z4 z5 z6
          go_wp2
          go_roundw
          case rel => exact ⟨0 + 1, by omega, by go_num, by rw [← HS2.out], by rw [← HS2.out], by rw [← HS2.out]; exact T4.out⟩
          case measure => simp [intOf]
        | true =>
          by_cases hgt : ag < G
          · rw [if_pos ⟨rfl, .inr hgt⟩] at hst
            have hgt2 : (G : Int) > (ag : Int) := by omega
            have HS2 := Lib.hid hst
            clear hst HST
            go_wp2_with (refine wpList_store rfl 22 _ _ rfl (w0.heap.size + 1 + 1) 5 52 _ [_] _ rfl rfl T3.out.z rfl sizeu32 (by simp) (int_one _ _) ?_)
            intro w4 hb4 hw4
            have T4 := Lib.hid (show Three w0 w4 (refcs D ⟨.slice (some ⟨gn, 0, none⟩) 2 capn, .slice (some ⟨gs, 0, none⟩) 2 caps⟩) zero7 (lcs D ⟨.slice (some ⟨gn, 0, none⟩) 2 capn, .slice (some ⟨gs, 0, none⟩) 2 caps⟩ G 0) from T3.out.storeZ hb4 hw4)
            clear hb4 hw4 z0 z1 z2 z3 z4 z5 z6
            go_wp2
            go_roundw
            case rel => exact ⟨0 + 1, by omega, by go_num, by rw [← HS2.out], by rw [← HS2.out], by rw [← HS2.out]; exact T4.out⟩
            case measure => simp [intOf]
          · rw [if_neg (fun h => by rcases h.2 with h | h; cases h; exact hgt h)] at hst
            have hgt2 : ¬ (G : Int) > (ag : Int) := by omega
            have HS2 := Lib.hid hst
            clear hst HST
            go_wp2
            go_roundw
            case rel => exact ⟨0 + 1, by omega, by go_num, by rw [← HS2.out], by rw [← HS2.out], by rw [← HS2.out]; exact T3.out⟩
            case measure => simp [intOf]
    · obtain rfl : j = 1 := by omega
      have HST := Lib.hid (show stepR (accR D 1) D.n1 = accR D (1 + 1) from rfl)
      have zc := cell_rb T.out.rb HN4.out
      have hyl : D.n1.length ≤ 1000 := HOK.out.2.2.2.1
      have HYL := Lib.hid hyl
      clear hyl
      generalize D.n1 = Y at *
      generalize accR D 1 = A at *
      obtain ⟨ag, im, ab⟩ := A
      dsimp only at *
      obtain ⟨x0, x1, x2, x3, x4⟩ := Blk.cells5 T.out.x
      obtain ⟨z0, z1, z2, z3, z4, z5, z6⟩ := T.out.z.cells7
      go_wp2_with fail
      refine (rimage_flat Y wr (by have := HYL.out; omega)).mono ?_
      rintro e w3 ⟨rfl, hr⟩
      have T3 := Lib.hid (T.out.rbs hr)
      clear z0 z1 z2 z3 z4 z5 z6 hr zc x0 x1 x2 x3 x4
      obtain ⟨z0, z1, z2, z3, z4, z5, z6⟩ := T3.out.z.cells7
      have hst := HST.out
      unfold stepR at hst
      dsimp only at hst
      generalize imgS Y = S at *
      generalize imgG Y = G at *
      generalize imgK Y = K at *
      cases K with
      | false =>
        rw [if_neg (fun h => by cases h.1)] at hst
        have HS2 := Lib.hid hst
        clear hst HST
        go_wp2
        go_roundw
        case rel => exact ⟨1 + 1, by omega, by go_num, by rw [← HS2.out], by rw [← HS2.out], by rw [← HS2.out]; exact T3.out⟩
        case measure => simp [intOf]
      | true =>
        cases ab with
        | false =>
          rw [if_pos ⟨rfl, .inl rfl⟩] at hst
          have HS2 := Lib.hid hst
          clear hst HST
          go_wp2_with (refine wpList_store rfl 22 _ _ rfl (w0.heap.size + 1 + 1) 5 52 _ [_] _ rfl rfl T3.out.z rfl sizeu32 (by simp) (int_one _ _) ?_)
          intro w4 hb4 hw4
          have T4 := Lib.hid (show Three w0 w4 (refcs D ⟨.slice (some ⟨gn, 0, none⟩) 2 capn, .slice (some ⟨gs, 0, none⟩) 2 caps⟩) zero7 (lcs D ⟨.slice (some ⟨gn, 0, none⟩) 2 capn, .slice (some ⟨gs, 0, none⟩) 2 caps⟩ G 0) from T3.out.storeZ hb4 hw4)
          clear hb4 hw4 z0 z1 z2 z3 z4 z5 z6
          go_wp2
          go_roundw
          case rel => exact ⟨1 + 1, by omega, by go_num, by rw [← HS2.out], by rw [← HS2.out], by rw [← HS2.out]; exact T4.out⟩
          case measure => simp [intOf]
        | true =>
          by_cases hgt : ag < G
          · rw [if_pos ⟨rfl, .inr hgt⟩] at hst
            have hgt2 : (G : Int) > (ag : Int) := by omega
            have HS2 := Lib.hid hst
            clear hst HST
            go_wp2_with (refine wpList_store rfl 22 _ _ rfl (w0.heap.size + 1 + 1) 5 52 _ [_] _ rfl rfl T3.out.z rfl sizeu32 (by simp) (int_one _ _) ?_)
            intro w4 hb4 hw4
            have T4 := Lib.hid (show Three w0 w4 (refcs D ⟨.slice (some ⟨gn, 0, none⟩) 2 capn, .slice (some ⟨gs, 0, none⟩) 2 caps⟩) zero7 (lcs D ⟨.slice (some ⟨gn, 0, none⟩) 2 capn, .slice (some ⟨gs, 0, none⟩) 2 caps⟩ G 0) from T3.out.storeZ hb4 hw4)
            clear hb4 hw4 z0 z1 z2 z3 z4 z5 z6
            go_wp2
            go_roundw
            case rel => exact ⟨1 + 1, by omega, by go_num, by rw [← HS2.out], by rw [← HS2.out], by rw [← HS2.out]; exact T4.out⟩
            case measure => simp [intOf]
          · rw [if_neg (fun h => by rcases h.2 with h | h; cases h; exact hgt h)] at hst
            have hgt2 : ¬ (G : Int) > (ag : Int) := by omega
            have HS2 := Lib.hid hst
            clear hst HST
            go_wp2
            go_roundw
            case rel => exact ⟨1 + 1, by omega, by go_num, by rw [← HS2.out], by rw [← HS2.out], by rw [← HS2.out]; exact T3.out⟩
            case measure => simp [intOf]
    · obtain rfl : j = 2 := by omega
      have ht := T.out
      obtain ⟨e1, e2⟩ := accR_new D
      rw [e1] at ht
      rw [e2]
      have T := Lib.hid (show Three w0 wr (refcs D ⟨.slice (some ⟨gn, 0, none⟩) 2 capn, .slice (some ⟨gs, 0, none⟩) 2 caps⟩) zero7 (lcs D ⟨.slice (some ⟨gn, 0, none⟩) 2 capn, .slice (some ⟨gs, 0, none⟩) 2 caps⟩ (openG D) 0) from ht)
      have HG := Lib.hid (openG_lt D)
      have hll : D.log.length ≤ 1048576 := by have := HOK.out.1; have := HOK.out.2.1; omega
      have HLL := Lib.hid hll
      have hle : lenL (openG D) (openR D) ≤ D.log.length := lenL_le _ _
      have HE := Lib.hid (show (str D.log).extract 0 (lenL (openG D) (openR D)) = str (openD D).sure by rw [extract_str, openD_sure])
      have hs1 : ((lenL (openG D) (openR D) : Nat) : Int) ≤ ((str D.log).size : Int) := by rw [str_size]; omega
      have HS1 := Lib.hid hs1
      clear ht e1 e2 hll hle hs1
      obtain ⟨x0, x1, x2, x3, x4⟩ := Blk.cells5 T.out.x
      obtain ⟨z0, z1, z2, z3, z4, z5, z6⟩ := T.out.z.cells7
      go_upto_region 13 with (fail)
      go_region_held (fun w' => w'.cell? ⟨w0.heap.size, 0, none⟩ = some (.int .i64 D.room) ∧ w'.cell? ⟨w0.heap.size, 1, none⟩ = some (.string (str D.sure)) ∧ w'.cell? ⟨w0.heap.size, 2, none⟩ = some (.string (str D.rest)) ∧ w'.cell? ⟨w0.heap.size, 3, none⟩ = some (.slice (some ⟨gn, 0, none⟩) 2 capn) ∧ w'.cell? ⟨w0.heap.size, 4, none⟩ = some (.slice (some ⟨gs, 0, none⟩) 2 caps) ∧ w'.cell? ⟨w0.heap.size + 1 + 1, 5, none⟩ = some (.int .u32 (openG D))) (go_keep) (first | (go_at_call 32; refine (rlog_any D ⟨.slice (some ⟨gn, 0, none⟩) 2 capn, .slice (some ⟨gs, 0, none⟩) 2 caps⟩ _ HOK.out).mono ?_; clear x0 x1 x2 x3 x4 z0 z1 z2 z3 z4 z5 z6; rintro e w3 ⟨rfl, hr⟩; have T3 := Lib.hid (T.out.rbs (Rb.trans _ _ _ (Rb.drew wr) hr)); obtain ⟨x0, x1, x2, x3, x4⟩ := Blk.cells5 T3.out.x; obtain ⟨z0, z1, z2, z3, z4, z5, z6⟩ := T3.out.z.cells7; clear hr) | (go_at_call 19; refine (rscan_any (openG D) D.log w3 (by have := HLL.out; omega) HG.out).mono ?_; clear x0 x1 x2 x3 x4 z0 z1 z2 z3 z4 z5 z6; rintro e w4 ⟨vs, rfl, hst, hr⟩; have T4 := Lib.hid (T3.out.rbs hr); have HST := Lib.hid (show Strs w0.heap.size w4 vs (openR D) from World.ownsRow.mono hst T3.out.rb.size); have HNEQ := Lib.hid (show ∀ q, vs.ownBlock = some q → w0.heap.size + 1 + 1 < q from fun q hq => Nat.lt_of_lt_of_le T3.out.z.lt (hst.lt q hq).1); obtain ⟨x0, x1, x2, x3, x4⟩ := Blk.cells5 T4.out.x; obtain ⟨z0, z1, z2, z3, z4, z5, z6⟩ := T4.out.z.cells7; clear hr hst))
      rw [show rowsL (openG D) D.log = openR D from rfl]
      clear T T3
      go_wp2_with fail
      refine (rlog_any D ⟨.slice (some ⟨gn, 0, none⟩) 2 capn, .slice (some ⟨gs, 0, none⟩) 2 caps⟩ w4 HOK.out).mono ?_
      clear x0 x1 x2 x3 x4 z0 z1 z2 z3 z4 z5 z6
      rintro e w5 ⟨rfl, hr⟩
      have T5 := Lib.hid (T4.out.rbs hr)
      have HST5 := Lib.hid (HST.out.rb hr)
      have hs1 := HS1.out
      have hs0 : (0 : Int) ≤ ((lenL (openG D) (openR D) : Nat) : Int) := by omega
      clear hr T4 HST
      obtain ⟨x0, x1, x2, x3, x4⟩ := Blk.cells5 T5.out.x
      have he := HE.out
      generalize lenL (openG D) (openR D) = nn at *
      go_wp2_with (refine wpList_store rfl 9 _ _ rfl (w0.heap.size + 1 + 1) 1 52 _ [_] _ rfl rfl T5.out.z rfl sizestr (by simp) (str_one _) ?_)
      intro w6 hb6 hw6
      have T6 := Lib.hid (T5.out.storeZ (show Blk w6 (w0.heap.size + 1 + 1) 52 [.int .i64 D.room, .string (str (openD D).sure), .string (str D.rest), .slice (some ⟨gn, 0, none⟩) 2 capn, .slice (some ⟨gs, 0, none⟩) 2 caps, .int .u32 (openG D), .int .i64 0] from hb6) hw6)
      have hlt5 : ∀ q, q < w0.heap.size → w6.heap[q]? = w0.heap[q]? := fun q hq => T6.out.rb.block q hq
      have HST6 := Lib.hid (show Strs w0.heap.size w6 vs (openR D) from owns_same HST5.out fun q hq => hw6.block q fun e => by
        have := HNEQ.out q hq; omega)
      clear hb6 hw6 hs1 hs0 he x0 x1 x2 x3 x4 hlt5
      go_wp2_with (refine wpList_store rfl 9 _ _ rfl (w0.heap.size + 1 + 1) 2 52 _ [_] _ rfl rfl T6.out.z rfl sizestr (by simp) (str_one _) ?_)
      intro w7 hb7 hw7
      have T7 := Lib.hid (T6.out.storeZ (show Blk w7 (w0.heap.size + 1 + 1) 52 [.int .i64 D.room, .string (str (openD D).sure), .string ⟨#[]⟩, .slice (some ⟨gn, 0, none⟩) 2 capn, .slice (some ⟨gs, 0, none⟩) 2 caps, .int .u32 (openG D), .int .i64 0] from hb7) hw7)
      have HST7 := Lib.hid (show Strs w0.heap.size w7 vs (openR D) from owns_same HST6.out fun q hq => hw7.block q fun e => by
        have := HNEQ.out q hq; omega)
      obtain ⟨x0, x1, x2, x3, x4⟩ := Blk.cells5 T7.out.x
      clear hb7 hw7
      go_wp2_with (refine wpList_store rfl 37 _ _ rfl (w0.heap.size + 1 + 1) 4 52 _ [_] _ rfl rfl T7.out.z rfl sizestrs (by simp) (one_of rfl) ?_)
      intro w8 hb8 hw8
      have T8 := Lib.hid (T7.out.storeZ (show Blk w8 (w0.heap.size + 1 + 1) 52 (lcs (openD D) ⟨.slice (some ⟨gn, 0, none⟩) 2 capn, .slice (some ⟨gn, 0, none⟩) 2 capn⟩ (openG D) 0) from hb8) hw8)
      have HST8 := Lib.hid (show Strs w0.heap.size w8 vs (openR D) from owns_same HST7.out fun q hq => hw8.block q fun e => by
        have := HNEQ.out q hq; omega)
      have hq8 : HeldR w8 ⟨.slice (some ⟨gn, 0, none⟩) 2 capn, .slice (some ⟨gn, 0, none⟩) 2 capn⟩ (openD D) := ⟨HH.out.n.rb T8.out.rb, HH.out.n.rb T8.out.rb⟩
      have HQ8 := Lib.hid hq8
      obtain ⟨z0, z1, z2, z3, z4, z5, z6⟩ := T8.out.z.cells7
      clear hb8 hw8 hq8 x0 x1 x2 x3 x4
      go_wp2_with (refine wpList_store rfl 52 _ _ rfl (w0.heap.size + 1) 0 _ _ [_, _, _, _, _, _, _] _ rfl rfl T8.out.y rfl sizeX (by simp) (lcs_one HQ8.out) ?_)
      intro wz hb hw
      have TZ := Lib.hid (T8.out.storeY hb hw)
      have HSTZ := Lib.hid (show Strs w0.heap.size wz vs (openR D) from owns_same HST8.out fun q hq => hw.block q fun e => by
        have := HNEQ.out q hq; omega)
      have HQZ := Lib.hid (show HeldR wz ⟨.slice (some ⟨gn, 0, none⟩) 2 capn, .slice (some ⟨gn, 0, none⟩) 2 capn⟩ (openD D) from heldR_wrote HQ8.out hw fun h => by
        have h9 : (⟨.slice (some ⟨gn, 0, none⟩) 2 capn, .slice (some ⟨gs, 0, none⟩) 2 caps⟩ : Rm).has (w0.heap.size + 1) := by
          rcases h with h | h
          · exact .inl h
          · exact .inl h
        have := heldR_lt HH.out _ h9
        omega)
      obtain ⟨x0, x1, x2, x3, x4, x5, x6⟩ := TZ.out.y.cells7
      clear hb hw z0 z1 z2 z3 z4 z5 z6
      go_wp2
      exact bodyPost_ret (v := .tuple #[Lv (openD D) ⟨.slice (some ⟨gn, 0, none⟩) 2 capn, .slice (some ⟨gn, 0, none⟩) 2 capn⟩ (openG D) 0, .string (str (newN D).2), vs]) (by simp [results, Try.results23, go_sem, x0, x1, x2, x3, x4, x5, x6]) rfl ⟨⟨.slice (some ⟨gn, 0, none⟩) 2 capn, .slice (some ⟨gn, 0, none⟩) 2 capn⟩, vs, rfl, ⟨HQZ.out, TZ.out.rb, fun q hq => by
        rcases hq with hq | hq
        · exact .inl (.inl hq)
        · exact .inl (.inl hq)⟩, HSTZ.out⟩
end Go.Proofs.Ytbdgdmieggpmhaa.L4
