/-
  Layer 6: where a name stands: Find, Col, by the program and by the document.
-/
import Derived.Test.YtolfeellcdoopaaDoorS1
namespace Go.Proofs.YtolfeellcdoopaaDoor.L6
open Go.ChangeShapes Go.WideShapes Go.ChangeAt Go.RowKit Oct By Reg Val
set_option linter.unusedVariables false
set_option linter.unusedSimpArgs false

theorem posN_drop {s x : ByteArray} {l : List ByteArray} {k : Nat} (hk : k < l.length) (hx : x = l[k]) (h : posN s l = k + posN s (l.drop k)) :
    (eqS x s = true → posN s l = k) ∧ (eqS x s = false → posN s l = k + 1 + posN s (l.drop (k + 1))) := by
  rw [List.drop_eq_getElem_cons hk, ← hx, posN] at h
  refine ⟨fun he => ?_, fun he => ?_⟩
  · rw [if_pos he] at h; omega
  · rw [if_neg (by rw [he]; decide)] at h; omega
theorem posN_end {s : ByteArray} {l : List ByteArray} {k : Nat} (hk : l.length ≤ k) (h : posN s l = k + posN s (l.drop k)) : posN s l = k := by
  rw [List.drop_eq_nil_of_le hk] at h
  exact h

def idxI (s : ByteArray) (l : List ByteArray) : Int := if dup s l then (posN s l : Int) else -1
def idxN (s : ByteArray) (l : List ByteArray) : Int := if dup s l then (posN s l : Int) else 0
theorem idxI_bd {s : ByteArray} {l : List ByteArray} (h : l.length ≤ 9223372036854775807) : -1 ≤ idxI s l ∧ idxI s l ≤ 9223372036854775807 := by
  have := posN_le s l
  unfold idxI
  split <;> omega
theorem idx_yes {s : ByteArray} {l : List ByteArray} {k : Nat} (hk : k < l.length) (h : posN s l = k) : dup s l = true ∧ idxI s l = k ∧ idxN s l = k := by
  have hd : dup s l = true := by unfold dup; rw [h, decide_eq_true hk]
  exact ⟨hd, by unfold idxI; rw [if_pos hd, h], by unfold idxN; rw [if_pos hd, h]⟩
theorem idx_no {s : ByteArray} {l : List ByteArray} {k : Nat} (hk : l.length ≤ k) (h : posN s l = k) : dup s l = false ∧ idxI s l = -1 ∧ idxN s l = 0 := by
  have hd : dup s l = false := by unfold dup; rw [h, decide_eq_false (by omega)]
  exact ⟨hd, by unfold idxI; rw [if_neg (by rw [hd]; decide)], by unfold idxN; rw [if_neg (by rw [hd]; decide)]⟩
abbrev tupIB (n : Int) (b : Bool) : Value := .tuple #[.int .i64 n, .bool b]
theorem TabIn.form {w : World} {nm : ByteArray} {r : Int} {cv : Value} {cs : List ColD} (h : TabIn w ⟨nm, r, cv, cs⟩) : ∃ ao cap, cv = .slice ao cs.length cap ∧ cs.length ≤ cap ∧ cap ≤ maxLen := Row3.form h
abbrev namesT (L : List TabD) : List ByteArray := L.map (·.name)
abbrev namesC (L : List ColD) : List ByteArray := L.map (·.name)

/-! ### TabD -/
set_option maxRecDepth 100000 in
theorem findT1_any (t : TabD) (B : Nat) (s : ByteArray) (w : World) (hB : w.cell? ⟨B, 0, none⟩ = some (.string s)) (h : TabIn w t) :
    Calls Tryd.prog 38 #[tabV t, .pointer (some ⟨B, 0, none⟩)] w fun e w' => e = .returned (.bool (eqS t.name s)) ∧ Rb w w' := by
  obtain ⟨nm, rw0, cv, cols⟩ := t
  obtain ⟨co, ccap, rfl, hcc⟩ := h.form
  have hr := (Below.refl w.heap.size w).alloc (Nat.le_refl _) (.cells #[.string nm, .int .i64 rw0, .slice co cols.length ccap] 25)
  have HR := Lib.hid hr
  have hb := World.block_lt_of_cell? w _ hB
  have hB' : (w.alloc (.cells #[.string nm, .int .i64 rw0, .slice co cols.length ccap] 25)).cell? ⟨B, 0, none⟩ = some (.string s) := by rw [World.cell?_alloc_lt _ _ _ hb]; exact hB
  unfold eqS
  clear hr
  go_enter Tryd.func38, Tryd.ntmps38
  go_wp2
  go_ret
  exact ⟨rfl, HR.out⟩

set_option maxRecDepth 100000 in
set_option maxHeartbeats 1000000 in
theorem indexT_any (L : List TabD) (v : Value) (B : Nat) (s : ByteArray) (w : World) (hB : w.cell? ⟨B, 0, none⟩ = some (.string s)) (h : Tabs w v L) :
    Calls Tryd.prog 66 #[v, .func (.func 38) #[] #[.pointer (some ⟨B, 0, none⟩)]] w fun e w' => e = .returned (.int .i64 (idxI s (namesT L))) ∧ Rb w w' := by
  have h0 := h
  obtain ⟨ao, cap, rfl, h1, h2, hr⟩ := h.1
  have HH := Lib.hid h0
  have HR := Lib.hid hr
  have HB0 := Lib.hid hB
  have hln : (namesT L).length = L.length := by simp
  have Hln := Lib.hid hln
  unfold maxLen at h2
  clear hr h0 hB hln h
  go_enter Tryd.func66, Tryd.ntmps66
  go_wp2
  go_loopw [8] (fun i wr => ∃ k : Nat, k ≤ L.length ∧ i = .int .i64 k ∧ Hid (posN s (namesT L) = k + posN s ((namesT L).drop k)) ∧ Rb w wr) (fun i _ => L.length - (intOf i).toNat)
  case atStart => exact ⟨0, Nat.zero_le _, rfl, by show posN s (namesT L) = _; simp, Rb.refl _⟩
  case round =>
    obtain ⟨k, hk, rfl, ha, hb⟩ := hrel
    have HB := Lib.hid hb
    by_cases hlt : k < L.length
    · obtain ⟨b, o, rfl, hc⟩ := HR.out (by omega)
      obtain ⟨z0, z1, z2⟩ := hc k hlt
      have y0 := cell_rb hb z0
      have y1 := cell_rb hb z1
      have y2 := cell_rb hb z2
      have cB := cell_rb hb HB0.out
      obtain ⟨t, ht⟩ : ∃ t, t = L[k] := ⟨_, rfl⟩
      rw [← ht] at y0 y1 y2
      have hnx : t.name = (namesT L)[k]'(by rw [Hln.out]; exact hlt) := by rw [List.getElem_map, ht]
      obtain ⟨p1, p2⟩ := posN_drop (s := s) (by rw [Hln.out]; exact hlt) hnx ha.out
      have P1 := Lib.hid p1
      have P2 := Lib.hid p2
      have htin : TabIn w t := by rw [ht]; exact HH.out.2 _ (List.getElem_mem hlt)
      have hcl := fun w' (hw : Rb wr w') => findT1_any t B s w' (cell_rb hw cB) ((htin.rb HB.out).rb hw)
      clear z0 z1 z2 hc hnx p1 p2 hb ha ht
      have HIN := Lib.hid htin
      obtain ⟨nm, rw0, cv, cols⟩ := t
      obtain ⟨co, ccap, rfl, hcc⟩ := htin.form
      clear hcc htin
      go_wp2_with fail
      refine (hcl _ (by first | exact Rb.refl _ | exact Rb.drew _)).mono ?_
      rintro e w2 ⟨rfl, hb2⟩
      have HB2 := Lib.hid (Rb.trans _ _ _ HB.out hb2)
      clear hb2 hcl y0 y1 y2 cB
      cases he : eqS nm s with
      | true =>
        have hp := idx_yes (by rw [Hln.out]; exact hlt) (P1.out he)
        have Hp := Lib.hid hp.2.1
        clear hp he
        go_wp2
        go_ret
        exact ⟨ret_i64 Hp.out.symm, HB2.out⟩
      | false =>
        have hp := Lib.hid (P2.out he)
        clear he
        go_wp2
        go_roundw
        case rel => exact ⟨k + 1, by omega, by go_num, by show posN s (namesT L) = _; rw [hp.out], HB2.out⟩
        case measure => simp [intOf]; omega
    · have hp := idx_no (by rw [Hln.out]; omega) (posN_end (by rw [Hln.out]; omega) ha.out)
      have Hp := Lib.hid hp.2.1
      clear hp ha hb
      go_wp2
      go_ret
      exact ⟨ret_i64 Hp.out.symm, HB.out⟩

set_option maxRecDepth 100000 in
theorem firstT_any (L : List TabD) (v : Value) (B : Nat) (s : ByteArray) (w : World) (hB : w.cell? ⟨B, 0, none⟩ = some (.string s)) (h : Tabs w v L) :
    Calls Tryd.prog 37 #[v, .func (.func 38) #[] #[.pointer (some ⟨B, 0, none⟩)]] w fun e w' => e = .returned (tupIB (idxN s (namesT L)) (dup s (namesT L))) ∧ Rb w w' := by
  have hcl := indexT_any L v B s w hB h
  clear h hB
  go_enter Tryd.func37, Tryd.ntmps37
  go_wp2_with fail
  refine hcl.mono ?_
  rintro e w2 ⟨rfl, hb2⟩
  have HB2 := Lib.hid hb2
  clear hb2 hcl
  cases hd : dup s (namesT L) with
  | true =>
    have Hn : Hid (idxN s (namesT L) = idxI s (namesT L)) := by
      show _ = _
      unfold idxI idxN; rw [if_pos hd, if_pos hd]
    have hge : ¬ idxI s (namesT L) < 0 := by unfold idxI; rw [if_pos hd]; omega
    have Hd := Lib.hid hd
    clear hd
    generalize idxI s (namesT L) = q at *
    go_wp2
    go_ret2
    exact ⟨by rw [Hn.out, Hd.out]; rfl, HB2.out⟩
  | false =>
    have Hn : Hid (idxN s (namesT L) = 0) := by
      show _ = _
      unfold idxN; rw [if_neg (by rw [hd]; decide)]
    have hge : idxI s (namesT L) < 0 := by unfold idxI; rw [if_neg (by rw [hd]; decide)]; decide
    have Hd := Lib.hid hd
    clear hd
    generalize idxI s (namesT L) = q at *
    go_wp2
    go_ret2
    exact ⟨by rw [Hn.out, Hd.out]; rfl, HB2.out⟩

set_option maxRecDepth 100000 in
theorem findT_any (L : List TabD) (v : Value) (s : ByteArray) (w : World) (h : Tabs w v L) :
    Calls Tryd.prog 12 #[v, .string s] w fun e w' => e = .returned (tupIB (idxN s (namesT L)) (dup s (namesT L))) ∧ Rb w w' := by
  have hr : Rb w (w.alloc (.cells #[.string s] 9)) := (Below.refl _ w).alloc (Nat.le_refl _) _
  have hcl := firstT_any L v w.heap.size s (w.alloc (.cells #[.string s] 9)) (by simp) (h.rb hr)
  have hmf : ∀ (fn : Fn) (first cap : Array Value) (w : World), (Instr.makeFunc fn first cap).run Tryd.prog w = .ok (.func fn first cap) w := fun _ _ _ _ => rfl
  have HR := Lib.hid hr
  clear h hr
  go_enter Tryd.func12, Tryd.ntmps12
  go_wp2_with fail
  refine hcl.mono ?_
  rintro e w2 ⟨rfl, hb2⟩
  have HB2 := Lib.hid (Rb.trans _ _ _ HR.out hb2)
  clear hb2 hcl HR
  go_wp2
  go_ret2
  exact ⟨rfl, HB2.out⟩

/-! ### ColD -/
set_option maxRecDepth 100000 in
theorem findC1_any (t : ColD) (B : Nat) (s : ByteArray) (w : World) (hB : w.cell? ⟨B, 0, none⟩ = some (.string s)) :
    Calls Tryd.prog 68 #[colV t, .pointer (some ⟨B, 0, none⟩)] w fun e w' => e = .returned (.bool (eqS t.name s)) ∧ Rb w w' := by
  obtain ⟨nm, kd, mx⟩ := t
  have hr := (Below.refl w.heap.size w).alloc (Nat.le_refl _) (.cells #[.string nm, .int .i64 kd, .int .i64 mx] 57)
  have HR := Lib.hid hr
  have hb := World.block_lt_of_cell? w _ hB
  have hB' : (w.alloc (.cells #[.string nm, .int .i64 kd, .int .i64 mx] 57)).cell? ⟨B, 0, none⟩ = some (.string s) := by rw [World.cell?_alloc_lt _ _ _ hb]; exact hB
  unfold eqS
  clear hr
  go_enter Tryd.func68, Tryd.ntmps68
  go_wp2
  go_ret
  exact ⟨rfl, HR.out⟩

set_option maxRecDepth 100000 in
set_option maxHeartbeats 1000000 in
theorem indexC_any (L : List ColD) (v : Value) (B : Nat) (s : ByteArray) (w : World) (hB : w.cell? ⟨B, 0, none⟩ = some (.string s)) (h : Cols w v L) :
    Calls Tryd.prog 83 #[v, .func (.func 68) #[] #[.pointer (some ⟨B, 0, none⟩)]] w fun e w' => e = .returned (.int .i64 (idxI s (namesC L))) ∧ Rb w w' := by
  have h0 := h
  obtain ⟨ao, cap, rfl, h1, h2, hr⟩ := h
  have HH := Lib.hid h0
  have HR := Lib.hid hr
  have HB0 := Lib.hid hB
  have hln : (namesC L).length = L.length := by simp
  have Hln := Lib.hid hln
  unfold maxLen at h2
  clear hr h0 hB hln 
  go_enter Tryd.func83, Tryd.ntmps83
  go_wp2
  go_loopw [8] (fun i wr => ∃ k : Nat, k ≤ L.length ∧ i = .int .i64 k ∧ Hid (posN s (namesC L) = k + posN s ((namesC L).drop k)) ∧ Rb w wr) (fun i _ => L.length - (intOf i).toNat)
  case atStart => exact ⟨0, Nat.zero_le _, rfl, by show posN s (namesC L) = _; simp, Rb.refl _⟩
  case round =>
    obtain ⟨k, hk, rfl, ha, hb⟩ := hrel
    have HB := Lib.hid hb
    by_cases hlt : k < L.length
    · obtain ⟨b, o, rfl, hc⟩ := HR.out (by omega)
      obtain ⟨z0, z1, z2⟩ := hc k hlt
      have y0 := cell_rb hb z0
      have y1 := cell_rb hb z1
      have y2 := cell_rb hb z2
      have cB := cell_rb hb HB0.out
      obtain ⟨t, ht⟩ : ∃ t, t = L[k] := ⟨_, rfl⟩
      rw [← ht] at y0 y1 y2
      have hnx : t.name = (namesC L)[k]'(by rw [Hln.out]; exact hlt) := by rw [List.getElem_map, ht]
      obtain ⟨p1, p2⟩ := posN_drop (s := s) (by rw [Hln.out]; exact hlt) hnx ha.out
      have P1 := Lib.hid p1
      have P2 := Lib.hid p2
      
      have hcl := fun w' (hw : Rb wr w') => findC1_any t B s w' (cell_rb hw cB) 
      clear z0 z1 z2 hc hnx p1 p2 hb ha ht
      obtain ⟨nm, kd, mx⟩ := t
      go_wp2_with fail
      refine (hcl _ (by first | exact Rb.refl _ | exact Rb.drew _)).mono ?_
      rintro e w2 ⟨rfl, hb2⟩
      have HB2 := Lib.hid (Rb.trans _ _ _ HB.out hb2)
      clear hb2 hcl y0 y1 y2 cB
      cases he : eqS nm s with
      | true =>
        have hp := idx_yes (by rw [Hln.out]; exact hlt) (P1.out he)
        have Hp := Lib.hid hp.2.1
        clear hp he
        go_wp2
        go_ret
        exact ⟨ret_i64 Hp.out.symm, HB2.out⟩
      | false =>
        have hp := Lib.hid (P2.out he)
        clear he
        go_wp2
        go_roundw
        case rel => exact ⟨k + 1, by omega, by go_num, by show posN s (namesC L) = _; rw [hp.out], HB2.out⟩
        case measure => simp [intOf]; omega
    · have hp := idx_no (by rw [Hln.out]; omega) (posN_end (by rw [Hln.out]; omega) ha.out)
      have Hp := Lib.hid hp.2.1
      clear hp ha hb
      go_wp2
      go_ret
      exact ⟨ret_i64 Hp.out.symm, HB.out⟩

set_option maxRecDepth 100000 in
theorem firstC_any (L : List ColD) (v : Value) (B : Nat) (s : ByteArray) (w : World) (hB : w.cell? ⟨B, 0, none⟩ = some (.string s)) (h : Cols w v L) :
    Calls Tryd.prog 67 #[v, .func (.func 68) #[] #[.pointer (some ⟨B, 0, none⟩)]] w fun e w' => e = .returned (tupIB (idxN s (namesC L)) (dup s (namesC L))) ∧ Rb w w' := by
  have hcl := indexC_any L v B s w hB h
  clear h hB
  go_enter Tryd.func67, Tryd.ntmps67
  go_wp2_with fail
  refine hcl.mono ?_
  rintro e w2 ⟨rfl, hb2⟩
  have HB2 := Lib.hid hb2
  clear hb2 hcl
  cases hd : dup s (namesC L) with
  | true =>
    have Hn : Hid (idxN s (namesC L) = idxI s (namesC L)) := by
      show _ = _
      unfold idxI idxN; rw [if_pos hd, if_pos hd]
    have hge : ¬ idxI s (namesC L) < 0 := by unfold idxI; rw [if_pos hd]; omega
    have Hd := Lib.hid hd
    clear hd
    generalize idxI s (namesC L) = q at *
    go_wp2
    go_ret2
    exact ⟨by rw [Hn.out, Hd.out]; rfl, HB2.out⟩
  | false =>
    have Hn : Hid (idxN s (namesC L) = 0) := by
      show _ = _
      unfold idxN; rw [if_neg (by rw [hd]; decide)]
    have hge : idxI s (namesC L) < 0 := by unfold idxI; rw [if_neg (by rw [hd]; decide)]; decide
    have Hd := Lib.hid hd
    clear hd
    generalize idxI s (namesC L) = q at *
    go_wp2
    go_ret2
    exact ⟨by rw [Hn.out, Hd.out]; rfl, HB2.out⟩

set_option maxRecDepth 100000 in
theorem findC_any (L : List ColD) (v : Value) (s : ByteArray) (w : World) (h : Cols w v L) :
    Calls Tryd.prog 42 #[v, .string s] w fun e w' => e = .returned (tupIB (idxN s (namesC L)) (dup s (namesC L))) ∧ Rb w w' := by
  have hr : Rb w (w.alloc (.cells #[.string s] 9)) := (Below.refl _ w).alloc (Nat.le_refl _) _
  have hcl := firstC_any L v w.heap.size s (w.alloc (.cells #[.string s] 9)) (by simp) (h.rb hr)
  have hmf : ∀ (fn : Fn) (first cap : Array Value) (w : World), (Instr.makeFunc fn first cap).run Tryd.prog w = .ok (.func fn first cap) w := fun _ _ _ _ => rfl
  have HR := Lib.hid hr
  clear h hr
  go_enter Tryd.func42, Tryd.ntmps42
  go_wp2_with fail
  refine hcl.mono ?_
  rintro e w2 ⟨rfl, hb2⟩
  have HB2 := Lib.hid (Rb.trans _ _ _ HR.out hb2)
  clear hb2 hcl HR
  go_wp2
  go_ret2
  exact ⟨rfl, HB2.out⟩
end Go.Proofs.YtolfeellcdoopaaDoor.L6
