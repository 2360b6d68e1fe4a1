/-
  Layer 4: newest, Open.
-/
import Derived.Test.YtbdgdmieggpmhaaW13
import Derived.Test.YtbdgdmieggpmhaaW6
import Derived.Test.YtbdgdmieggpmhaaW8
namespace Go.Proofs.Ytbdgdmieggpmhaa.L4
open Go.ChangeShapes Go.WideShapes Go.ChangeAt Go.RowKit Oct By Reg L3
set_option linter.unusedVariables false

/-- a slice of bytes in new memory, or nil -/
def Bn (B : Nat) (w : World) (v : Value) (s : List UInt8) : Prop := Bs w v s ∧ ∀ k, v.ownBlock = some k → B ≤ k ∧ k < w.heap.size
theorem Bn.rb {B : Nat} {w w' : World} {v : Value} {s : List UInt8} (h : Bn B w v s) (hb : Rb w w') : Bn B w' v s := ⟨h.1.below hb, fun k hk => ⟨(h.2 k hk).1, Nat.lt_of_lt_of_le (h.2 k hk).2 hb.size⟩⟩
theorem Bn.nil (B : Nat) (w : World) : Bn B w (.slice none 0 0) [] := ⟨Bs.nil w, fun k hk => by cases hk⟩
theorem Bn.of_fresh {B : Nat} {w0 w : World} {v : Value} {s : List UInt8} (h : Fresh w0 w v s) (hB : B ≤ w0.heap.size) : Bn B w v s := by
  obtain ⟨n, c, rfl, hb, hn, cs, m, hc⟩ := h
  refine ⟨hb, fun k hk => ?_⟩
  simp [Value.ownBlock] at hk
  subst hk
  exact ⟨by omega, (Array.getElem?_eq_some_iff.1 hc).1⟩

theorem readimage_new (v : Value) (Y : List UInt8) (w : World) (hb : Bs w v Y) (hx : Y.length ≤ 100000000) : Calls Try.prog 12 #[v] w fun e w' => ∃ u, e = .returned (.tuple #[.int .u32 (imgG Y), u, .bool (imgK Y)]) ∧ Bn w.heap.size w' u (imgS Y) ∧ Rb w w' :=
  (readimage_any v Y w hb hx).mono fun e w' h => by
    unfold ImgQ at h
    unfold imgG imgS imgK
    cases hi : imageF Y with
    | none => rw [hi] at h; exact ⟨_, h.1, Bn.nil _ _, h.2⟩
    | some p =>
      obtain ⟨g, s⟩ := p
      rw [hi] at h
      obtain ⟨u, he, hf, hr⟩ := h
      exact ⟨u, he, Bn.of_fresh hf (Nat.le_refl _), hr⟩

def stepN (a : Nat × List UInt8) (Y : List UInt8) : Nat × List UInt8 := if imgK Y = true ∧ a.1 ≤ imgG Y then (imgG Y, imgS Y) else a
def accN (D : Dk) : Nat → Nat × List UInt8
  | 0 => (0, [])
  | 1 => stepN (0, []) D.n1
  | _ => stepN (stepN (0, []) D.n1) D.n0
def newN (D : Dk) : Nat × List UInt8 := accN D 2
theorem imgG_lt (Y : List UInt8) : imgG Y < 4294967296 := by
  unfold imgG
  cases h : imageF Y with
  | none => simp
  | some p => obtain ⟨g, s⟩ := p; exact (imageF_some h).2.1
theorem accN_lt (D : Dk) (j : Nat) : (accN D j).1 < 4294967296 := by
  have h : ∀ a Y, a.1 < 4294967296 → (stepN a Y).1 < 4294967296 := fun a Y ha => by
    unfold stepN; split
    · exact imgG_lt Y
    · exact ha
  match j with
  | 0 => simp [accN]
  | 1 => exact h _ _ (by simp)
  | j + 2 => exact h _ _ (h _ _ (by simp))

set_option maxRecDepth 100000 in
theorem newest_any (m : Mem) (D : Dk) (w : World) (h : HeldK w m D) : Calls Try.prog 55 #[.pointer (some ⟨m.b, 0, none⟩)] w fun e w' => ∃ v, e = .returned (.tuple #[.int .u32 (newN D).1, v]) ∧ Bn w.heap.size w' v (newN D).2 ∧ Rb w w' := by
  rw [show newN D = accN D 2 from rfl]
  have H := Lib.hid h
  have hl0 : D.n0.length ≤ 1000 ∧ D.n1.length ≤ 1000 := ⟨h.ok.2.2.1, h.ok.2.2.2.1⟩
  have HL := Lib.hid hl0
  clear h hl0
  go_enter Try.func55, Try.ntmps55
  go_wp2
  go_loopw [2, 3, 4] (fun p q r wr => ∃ (j : Nat) (i : Int), j ≤ 2 ∧ i = 1 - (j : Int) ∧ r = .int .i64 i ∧ p = .int .u32 (accN D j).1 ∧ Bn w.heap.size wr q (accN D j).2 ∧ Rb w wr) (fun _ _ r _ => (intOf r + 1).toNat)
  case atStart => exact ⟨0, 1, by omega, by simp, rfl, rfl, Bn.nil _ _, Rb.refl _⟩
  case round =>
    obtain ⟨j, i, hj, hi, rfl, rfl, hq, hr⟩ := hrel
    have C : j < 2 → ∃ Y, Hid (stepN (accN D j) Y = accN D (j + 1)) ∧ Y.length ≤ 1000 ∧ Calls Try.prog 73 #[.pointer (some ⟨m.b, 0, none⟩), .int .i64 i] wr (Put wr 5 Y) := fun hj2 => by
      rcases (by omega : j = 0 ∨ j = 1) with rfl | rfl
      · rw [show i = 1 by omega]
        exact ⟨D.n1, rfl, HL.out.2, slot_1 m D wr (H.out.rb hr)⟩
      · rw [show i = 0 by omega]
        exact ⟨D.n0, rfl, HL.out.1, slot_0 m D wr (H.out.rb hr)⟩
    have HQ := Lib.hid hq
    have HR := Lib.hid hr
    clear hq hr
    by_cases hj2 : j < 2
    · obtain ⟨Y, hst, hyl, hc⟩ := C hj2
      have HC := Lib.hid hc
      have HYL := Lib.hid hyl
      have hi0 : i ≥ 0 := by omega
      have hw : IntKind.i64.wrap (i - 1) = i - 1 := IntWalk.i64_in _ (by omega)
      have HI := Lib.hid hi
      clear hc C hyl hi
      go_wp2_with fail
      refine HC.out.mono ?_
      rintro e w1 ⟨n1, c1, rfl, ho, hr⟩
      have HR1 := Lib.hid (Rb.trans _ _ _ HR.out (show Rb wr w1 from hr))
      have HQ1 := Lib.hid (HQ.out.rb hr)
      have C2 := Lib.hid (readimage_new _ Y w1 (Bs.of_owns ho) (by have := HYL.out; omega))
      clear ho hr HR HQ
      go_wp2_with fail
      refine C2.out.mono ?_
      rintro e w2 ⟨u, rfl, hn, hr⟩
      have HR2 := Lib.hid (Rb.trans _ _ _ HR1.out hr)
      have HQ2 := Lib.hid (HQ1.out.rb hr)
      have HN2 := Lib.hid (show Bn w.heap.size w2 u (imgS Y) from ⟨hn.1, fun k hk => ⟨Nat.le_trans HR1.out.size (hn.2 k hk).1, (hn.2 k hk).2⟩⟩)
      clear hn hr HR1 HQ1
      have hst2 := hst.out
      unfold stepN at hst2
      generalize accN D j = A at *
      obtain ⟨ag, sg⟩ := A
      dsimp only at hst2 HQ2 ⊢
      cases hK : imgK Y with
      | true =>
        by_cases hg : ag ≤ imgG Y
        · rw [if_pos ⟨hK, hg⟩] at hst2
          have hg' : (imgG Y : Int) ≥ (ag : Int) := by omega
          have HST := Lib.hid hst2
          clear hst hst2
          generalize imgG Y = G at *
          go_wp2
          go_roundw
          case rel => exact ⟨j + 1, i - 1, by omega, by have := HI.out; omega, rfl, by rw [← HST.out], by rw [← HST.out]; exact HN2.out, HR2.out⟩
          case measure => simp [intOf]; omega
        · rw [if_neg (fun h => hg h.2)] at hst2
          have hg' : ¬ (imgG Y : Int) ≥ (ag : Int) := by omega
          have HST := Lib.hid hst2
          clear hst hst2
          generalize imgG Y = G at *
          go_wp2
          go_roundw
          case rel => exact ⟨j + 1, i - 1, by omega, by have := HI.out; omega, rfl, by rw [← HST.out], by rw [← HST.out]; exact HQ2.out, HR2.out⟩
          case measure => simp [intOf]; omega
      | false =>
        rw [if_neg (fun h => by rw [hK] at h; cases h.1)] at hst2
        have HST := Lib.hid hst2
        clear hst hst2
        generalize imgG Y = G at *
        go_wp2
        go_roundw
        case rel => exact ⟨j + 1, i - 1, by omega, by have := HI.out; omega, rfl, by rw [← HST.out], by rw [← HST.out]; exact HQ2.out, HR2.out⟩
        case measure => simp [intOf]; omega
    · obtain rfl : j = 2 := by omega
      have hi0 : ¬ i ≥ 0 := by omega
      clear C hi
      go_wp2
      go_ret2
      exact ⟨_, rfl, HQ.out, HR.out⟩

/-! ### Open -/
def openG (D : Dk) : Nat := (newN D).1
def openR (D : Dk) : List (List UInt8) := rowsL (openG D) D.log
def openD (D : Dk) : Dk := ⟨D.room, frames (openG D) (openR D), [], D.n0, D.n1, D.n0, D.n1⟩
theorem openG_lt (D : Dk) : openG D < 4294967296 := accN_lt D 2
theorem openD_sync {D : Dk} (h : lenL (openG D) (openR D) = D.log.length) : D.sync = openD D := by
  have e : frames (openG D) (openR D) = D.log := by
    have := take_lenL (openG D) D.log
    unfold openR at h
    rw [h, List.take_of_length_le (Nat.le_refl _)] at this
    exact this.symm
  unfold openD Dk.sync
  rw [e]
  rfl
theorem openD_cut (D : Dk) : ((D.clear).append (D.log.take (lenL (openG D) (openR D)))).sync = openD D := by
  unfold openD openR
  rw [take_lenL]
  simp [Dk.clear, Dk.append, Dk.sync]

theorem RowsV.kp {B : Nat} {m : Mem} {w w' : World} {v : Value} {ss : List (List UInt8)} (h : RowsV B w v ss) (hk : Kp m w w') (ht : ∀ k, m.touch k → k < B) : RowsV B w' v ss := by
  obtain ⟨xs, ho, hs, hr⟩ := h
  refine ⟨xs, owns_same ho fun k hk' => hk.block k (ho.lt k hk').2 fun h' => by have := ht k h'; have := (ho.lt k hk').1; omega, hs, fun x hx => ?_⟩
  obtain ⟨n, c, e, hb, hn, cs, mm, hc⟩ := hr x hx
  have hlt := (Array.getElem?_eq_some_iff.1 hc).1
  have hkb := hk.block n hlt fun h' => by have := ht n h'; omega
  refine ⟨n, c, e, Bs.same hb fun q hq => ?_, hn, cs, mm, hkb.trans hc⟩
  rw [e] at hq
  simp [Value.ownBlock] at hq
  subst hq
  exact hkb
theorem Bn.kp {B : Nat} {m : Mem} {w w' : World} {v : Value} {s : List UInt8} (h : Bn B w v s) (hk : Kp m w w') (ht : ∀ k, m.touch k → k < B) : Bn B w' v s :=
  ⟨Bs.same h.1 fun k hk' => hk.block k (h.2 k hk').2 fun h' => by have := ht k h'; have := (h.2 k hk').1; omega, fun k hk' => ⟨(h.2 k hk').1, Nat.lt_of_lt_of_le (h.2 k hk').2 hk.size⟩⟩
theorem RowsV.rb {B : Nat} {w w' : World} {v : Value} {ss : List (List UInt8)} (h : RowsV B w v ss) (hb : Rb w w') : RowsV B w' v ss := by
  obtain ⟨xs, ho, hs, hr⟩ := h
  refine ⟨xs, owns_same ho fun k hk' => hb.block k (ho.lt k hk').2, hs, fun x hx => (hr x hx).of_blocks fun n cs m hc => hb.block n (Array.getElem?_eq_some_iff.1 hc).1⟩
theorem RowsV.mono {B B' : Nat} {w : World} {v : Value} {ss : List (List UInt8)} (h : RowsV B w v ss) (hB : B' ≤ B) : RowsV B' w v ss := by
  obtain ⟨xs, ho, hs, hr⟩ := h
  refine ⟨xs, ho.mono hB, hs, fun x hx => ?_⟩
  obtain ⟨n, c, e, hb, hn, hc⟩ := hr x hx
  exact ⟨n, c, e, hb, by omega, hc⟩

/-- what Open leaves -/
def OpenQ (w : World) (m : Mem) (D : Dk) (e : Ending) (w' : World) : Prop := ∃ lb m' vi vr, e = .returned (.tuple #[.pointer (some ⟨lb, 0, none⟩), vi, vr, .int .i64 0]) ∧
  HeldL w' lb m' (openD D) (openG D) 0 ∧ w.heap.size ≤ lb ∧ New w m m' ∧ Kp m w w' ∧ (∀ j, m'.has j → m.has j ∨ w.heap.size ≤ j) ∧ Bn w.heap.size w' vi (newN D).2 ∧ RowsV w.heap.size w' vr (openR D)

theorem open_nil (w : World) : Calls Try.prog 22 #[.pointer none] w fun e w' => e = .returned (.tuple #[.pointer none, .slice none 0 0, .slice none 0 0, .int .i64 1]) ∧ w = w' := by
  go_enter Try.func22, Try.ntmps22
  go_wp2
  exact bodyPost_ret (v := .tuple #[.pointer none, .slice none 0 0, .slice none 0 0, .int .i64 1]) (by simp [results, Try.results22, go_sem]) rfl ⟨rfl, rfl⟩

set_option maxRecDepth 100000 in
set_option maxHeartbeats 1000000 in
theorem open_any (m : Mem) (D : Dk) (w : World) (h : HeldK w m D) : Calls Try.prog 22 #[.pointer (some ⟨m.b, 0, none⟩)] w (OpenQ w m D) := by
  have H := Lib.hid h
  have HT := Lib.hid (show ∀ k, m.touch k → k < w.heap.size from fun k hk => h.lt k (.inl hk))
  have hOk := Lib.hid h.ok
  clear h
  go_enter Try.func22, Try.ntmps22
  go_wp2_with fail
  refine (newest_any m D w H.out).mono ?_
  rintro e w1 ⟨vi, rfl, hn, hr⟩
  rw [show (newN D).1 = openG D from rfl]
  have HN := Lib.hid hn
  have HR1 := Lib.hid hr
  clear hn hr
  go_wp2_with fail
  refine (log_any m D w1 (H.out.rb HR1.out)).mono ?_
  rintro e w2 ⟨n1, c1, rfl, ho, hr⟩
  have HR2 := Lib.hid (Rb.trans _ _ _ HR1.out (show Rb w1 w2 from hr))
  have HN2 := Lib.hid (HN.out.rb hr)
  have HLG := Lib.hid (show Bn w.heap.size w2 (.slice (some ⟨n1, 0, none⟩) D.log.length c1) D.log from ⟨Bs.of_owns ho, fun k hk => ⟨Nat.le_trans HR1.out.size (ho.lt k hk).1, (ho.lt k hk).2⟩⟩)
  clear ho hr
  have hll : D.log.length ≤ 1048576 := by have := hOk.out.1; have := hOk.out.2.1; omega
  go_wp2_with fail
  refine (scan_any _ (openG D) D.log w2 HLG.out.1 (by omega)).mono ?_
  rintro e w3 ⟨vr, rfl, hrow, hr⟩
  rw [show rowsL (openG D) D.log = openR D from rfl] at hrow ⊢
  have HR3 := Lib.hid (Rb.trans _ _ _ HR2.out hr)
  have HN3 := Lib.hid (HN2.out.rb hr)
  have HLG3 := Lib.hid (HLG.out.rb hr)
  have HROW := Lib.hid (hrow.mono HR2.out.size)
  have H3 := Lib.hid (H.out.rb HR3.out)
  have hle : lenL (openG D) (openR D) ≤ D.log.length := lenL_le _ _
  have HE1 := Lib.hid (fun e => openD_sync (D := D) e)
  have HE2 := Lib.hid (openD_cut D)
  have HE3 := Lib.hid (openG_lt D)
  clear hrow hr HR1 HR2 HN HN2 HLG
  have fin : ∀ w4 m4, HeldK w4 m4 (openD D) → New w3 m m4 → Kp m w3 w4 → (∀ j, m4.has j → m.has j ∨ w3.heap.size ≤ j) → OpenQ w m D (.returned (.tuple #[.pointer (some ⟨w4.heap.size, 0, none⟩), vi, vr, .int .i64 0])) (w4.alloc (.cells #[.pointer (some ⟨m.b, 0, none⟩), .int .u32 (openG D), .int .i64 0] 97)) := by
    intro w4 m4 h4 hn4 hk4 hh4
    have hb : Rb w4 (w4.alloc (.cells #[.pointer (some ⟨m.b, 0, none⟩), .int .u32 (openG D), .int .i64 0] 97)) := (Below.refl _ _).alloc (Nat.le_refl _) _
    have hs := HR3.out.size
    have hs4 := hk4.size
    refine ⟨w4.heap.size, m4, vi, vr, rfl, ⟨h4.rb hb, ?_, fun e => by have := h4.lt _ e; omega, HE3.out, by omega⟩, by omega, (New.refl w m).trans hs hn4, (Kp.of_rb HR3.out).trans (New.refl w m) (hk4.rb hb), fun j hj => (hh4 j hj).imp id fun h => by omega, (HN3.out.kp hk4 HT.out).rb hb, (HROW.out.kp hk4 HT.out).rb hb⟩
    rw [hn4.1]
    exact Blk.new w4 _ [_, _, _]
  have FIN := Lib.hid fin
  clear fin
  generalize lenL (openG D) (openR D) = n at *
  by_cases hn : n = D.log.length
  · have HE := Lib.hid (HE1.out hn)
    subst hn
    clear HE1 HE2 hle
    go_wp2_with fail
    refine (sync_any m D w3 H3.out).mono ?_
    rintro e w4 ⟨rfl, m4, h4, hn4, hk4, hh4⟩
    rw [HE.out] at h4
    have F := Lib.hid (FIN.out w4 m4 h4 hn4 hk4 hh4)
    clear h4 hn4 hk4 hh4
    generalize openG D = g at *
    go_wp2
    refine bodyPost_ret (v := .tuple #[.pointer (some ⟨w4.heap.size, 0, none⟩), vi, vr, .int .i64 0]) (by simp [results, Try.results22, go_sem]) rfl F.out
  · have hn' : ¬ (n : Int) = (D.log.length : Int) := by omega
    have hcap : n ≤ c1 := by
      obtain ⟨_, _, e, hh, _⟩ := HLG3.out.1.len
      simp only [Value.slice.injEq] at e
      omega
    have p1 : (n : Int) ≤ (c1 : Int) := by omega
    have p2 : (0 : Int) ≤ (n : Int) := by omega
    have HBU := Lib.hid (show Bn w.heap.size w3 (.slice (some ⟨n1, 0, none⟩) n c1) (D.log.take n) from ⟨Bs.upto HLG3.out.1 n hle, HLG3.out.2⟩)
    have HLE := Lib.hid hle
    clear HE1 hn hle
    go_wp2_with fail
    refine (clear_any m D w3 H3.out).mono ?_
    rintro e w4 ⟨rfl, m4, h4, hn4, hk4, hh4⟩
    have H4 := Lib.hid h4
    have N4 := Lib.hid hn4
    have K4 := Lib.hid hk4
    have HH4 := Lib.hid hh4
    have HB4 := Lib.hid (HBU.out.kp hk4 HT.out)
    have hmb := hn4.1
    have C4 := append_fits m4 _ w4 _ (D.log.take n) H4.out HB4.out.1 (by
      have := hOk.out.1
      have := HLE.out
      have e1 : D.clear.log = [] := rfl
      have e2 : D.clear.room = D.room := rfl
      rw [e1, e2, List.length_take]
      simp
      omega)
    rw [hmb] at C4
    have C4 := Lib.hid C4
    have HMB := Lib.hid hmb
    clear h4 hn4 hk4 hh4 hmb
    go_wp2_with fail
    refine C4.out.mono ?_
    rintro e w5 ⟨rfl, m5, h5, hn5, hk5, hh5⟩
    have H5 := Lib.hid h5
    have N5 := Lib.hid (N4.out.trans K4.out.size hn5)
    have K5 := Lib.hid (K4.out.trans N4.out hk5)
    have HH5 := Lib.hid (show ∀ j, m5.has j → m.has j ∨ w3.heap.size ≤ j from fun j hj => by
      rcases hh5 j hj with h | h
      · exact HH4.out j h
      · exact .inr (Nat.le_trans K4.out.size h))
    have C5 := sync_any m5 _ w5 H5.out
    rw [show m5.b = m.b from hn5.1.trans HMB.out] at C5
    have C5 := Lib.hid C5
    clear h5 hn5 hk5 hh5
    go_wp2_with fail
    refine C5.out.mono ?_
    rintro e w6 ⟨rfl, m6, h6, hn6, hk6, hh6⟩
    rw [HE2.out] at h6
    have F := Lib.hid (FIN.out w6 m6 h6 (N5.out.trans K5.out.size hn6) (K5.out.trans N5.out hk6) (fun j hj => by
      rcases hh6 j hj with h | h
      · exact HH5.out j h
      · exact .inr (Nat.le_trans K5.out.size h)))
    clear h6 hn6 hk6 hh6
    generalize openG D = g at *
    go_wp2
    refine bodyPost_ret (v := .tuple #[.pointer (some ⟨w6.heap.size, 0, none⟩), vi, vr, .int .i64 0]) (by simp [results, Try.results22, go_sem]) rfl F.out
end Go.Proofs.Ytbdgdmieggpmhaa.L4
