/-
  Layer 6: names: IsName, by the program and by the document.
-/
import Derived.Test.YtolfeellcdoopaaDoorS1
namespace Go.Proofs.YtolfeellcdoopaaDoor.L6
set_option linter.unusedSimpArgs false
open Go.ChangeShapes Go.WideShapes Go.ChangeAt Go.RowKit Oct By Reg Val
set_option linter.unusedVariables false

set_option maxRecDepth 100000 in
theorem taken_any (s : ByteArray) (w : World) :
    Calls Tryd.prog 40 #[.string s] w fun e w' => e = .returned (.bool (wordB s)) ∧ w = w' := by
  by_cases hw : wordB s = true
  · have Hw := Lib.hid hw
    unfold wordB at hw
    rw [List.any_eq_true] at hw
    obtain ⟨x, hx, he⟩ := hw
    have hxs := eqS_iff.1 he
    subst hxs
    rw [show wordB s = true from Hw.out]
    clear Hw he
    unfold wordsL at hx
    simp only [List.mem_cons, List.not_mem_nil, or_false] at hx
    rcases hx with rfl | rfl | rfl | rfl | rfl | rfl | rfl | rfl | rfl | rfl | rfl | rfl | rfl | rfl | rfl | rfl | rfl | rfl | rfl | rfl | rfl | rfl | rfl
    all_goals
      go_enter Tryd.func40, Tryd.ntmps40
      go_wp2
      go_ret
      exact ⟨rfl, rfl⟩
  · have hf : wordB s = false := Bool.eq_false_iff.2 hw
    rw [hf]
    unfold wordB wordsL eqS at hf
    simp only [List.any_cons, List.any_nil, Bool.or_eq_false_iff, Bool.or_false, Lib.toList_data ⟨#[_, _]⟩, Lib.toList_data ⟨#[_, _, _]⟩, Lib.toList_data ⟨#[_, _, _, _]⟩, Lib.toList_data ⟨#[_, _, _, _, _]⟩, Lib.toList_data ⟨#[_, _, _, _, _, _, _, _]⟩] at hf
    obtain ⟨h1, h2, h3, h4, h5, h6, h7, h8, h9, h10, h11, h12, h13, h14, h15, h16, h17, h18, h19, h20, h21, h22, h23⟩ := hf
    clear hw
    go_enter Tryd.func40, Tryd.ntmps40
    go_wp2
    go_ret
    exact ⟨rfl, rfl⟩

theorem bool_iff {a : Bool} {p : Prop} [Decidable p] (h : a = true ↔ p) : a = decide p := by rw [Bool.eq_iff_iff, h, decide_eq_true_iff]
set_option maxRecDepth 100000 in
theorem small_any (c : UInt8) (w : World) : Calls Tryd.prog 39 #[.int .u8 (c.toNat : Int)] w fun e w' => e = .returned (.bool (smallB c)) ∧ w = w' := by
  unfold smallB
  by_cases h1 : 97 ≤ c.toNat
  all_goals
    go_enter Tryd.func39, Tryd.ntmps39
    go_wp2
    go_ret
    refine ⟨ret_bool ?_, rfl⟩
    first | (rw [Bool.eq_iff_iff]; simp [h1]; done) | (rw [Bool.eq_iff_iff]; simp [*]; omega) | (simp [h1]; done)
set_option maxRecDepth 100000 in
theorem dig_any (c : UInt8) (w : World) : Calls Tryd.prog 41 #[.int .u8 (c.toNat : Int)] w fun e w' => e = .returned (.bool (digB c)) ∧ w = w' := by
  unfold digB
  by_cases h1 : 48 ≤ c.toNat
  all_goals
    go_enter Tryd.func41, Tryd.ntmps41
    go_wp2
    go_ret
    refine ⟨ret_bool ?_, rfl⟩
    first | (rw [Bool.eq_iff_iff]; simp [h1]; done) | (rw [Bool.eq_iff_iff]; simp [*]; omega) | (simp [h1]; done)

theorem all_take1 {p : UInt8 → Bool} {l : List UInt8} {k : Nat} (h : k < l.length) : (l.take (k + 1)).all p = ((l.take k).all p && p (l.getD k 0)) := by
  rw [List.take_succ_eq_append_getElem h, List.all_append, List.getD_eq_getElem?_getD, List.getElem?_eq_getElem h]
  simp
theorem all_not {p : UInt8 → Bool} {l : List UInt8} {k : Nat} (h : k < l.length) (hb : p (l.getD k 0) = false) : l.all p = false := by
  rw [Bool.eq_false_iff]
  intro ha
  have := List.all_eq_true.1 ha (l.getD k 0) (by rw [List.getD_eq_getElem?_getD, List.getElem?_eq_getElem h]; exact List.getElem_mem h)
  rw [hb] at this; cases this

/-- the loop over the signs -/
def NmAt (s : ByteArray) (k : Nat) : Prop := (s.data.toList.take k).all signB = true
set_option maxRecDepth 100000 in
set_option maxHeartbeats 2000000 in
theorem isname_any (s : ByteArray) (w : World) (hs : s.size ≤ maxLen) :
    Calls Tryd.prog 13 #[.string s] w fun e w' => e = .returned (.bool (nameB s)) ∧ w = w' := by
  have hlen : s.data.toList.length = s.size := Array.length_toList
  have tk := fun w => taken_any s w
  unfold maxLen at hs
  by_cases h0 : s.size = 0
  · have hd : s = ⟨#[]⟩ := by
      apply ByteArray.ext
      exact Array.eq_empty_of_size_eq_zero h0
    subst hd
    rw [show nameB ⟨#[]⟩ = false by rfl]
    clear h0 hlen hs tk
    go_enter Tryd.func13, Tryd.ntmps13
    go_wp2
    go_ret
    exact ⟨rfl, rfl⟩
  have hne : (s.toList == []) = false := by
    rw [Lib.toList_data]
    cases hh : s.data.toList with
    | nil => rw [hh] at hlen; simp at hlen; omega
    | cons a l => rfl
  have hne2 : s.toList.isEmpty = false := by
    rw [Lib.toList_data]
    cases hh : s.data.toList with
    | nil => rw [hh] at hlen; simp at hlen; omega
    | cons a l => rfl
  have hp : 0 < s.size := by omega
  have hne3 : s.data.toList.isEmpty = false := by rw [← Lib.toList_data]; exact hne2
  have hg0 : s.data.toList.getD 0 0 = s[0] := by
    rw [List.getD_eq_getElem?_getD, List.getElem?_eq_getElem (by omega)]; rfl
  by_cases h16 : 16 < s.size
  · have Hr : Hid (false = nameB s) := by
      show false = nameB s
      unfold nameB nameL
      rw [hlen, decide_eq_false (by omega : ¬ s.size ≤ 16)]; simp
    clear hlen tk hne3 hg0
    go_enter Tryd.func13, Tryd.ntmps13
    go_wp2
    go_ret
    exact ⟨ret_bool Hr.out, rfl⟩
  have Hlen := Lib.hid hlen
  have sm := fun w => small_any s[0] w
  cases hsm : smallB s[0] with
  | false =>
    have Hr : Hid (false = nameB s) := by
      show false = nameB s
      unfold nameB nameL
      rw [hg0, hsm]; simp
    rw [hsm] at sm
    clear hlen tk hne3 hg0 hsm
    go_enter Tryd.func13, Tryd.ntmps13
    go_wp2_with (go_at_call 39; refine (sm _).mono ?_; rintro e w ⟨rfl, rfl⟩)
    go_ret
    exact ⟨ret_bool Hr.out, rfl⟩
  | true =>
    rw [hsm] at sm
    cases hwd : wordB s with
    | true =>
      have Hr : Hid (false = nameB s) := by
        show false = nameB s
        unfold nameB
        rw [hwd]; simp
      rw [hwd] at tk
      clear hlen hne3 hg0 hsm hwd
      go_enter Tryd.func13, Tryd.ntmps13
      go_wp2_with (first | (go_at_call 39; refine (sm _).mono ?_; rintro e w ⟨rfl, rfl⟩) | (go_at_call 40; refine (tk _).mono ?_; rintro e w ⟨rfl, rfl⟩))
      go_ret
      exact ⟨ret_bool Hr.out, rfl⟩
    | false =>
      rw [hwd] at tk
      have Hn : Hid (nameB s = s.data.toList.all signB) := by
        show nameB s = _
        unfold nameB nameL
        rw [hwd, hne3, hg0, hsm, Hlen.out, decide_eq_true (by omega : s.size ≤ 16)]; simp
      clear hlen hne3 hg0 hsm hwd
      go_enter Tryd.func13, Tryd.ntmps13
      go_wp2_with (first | (go_at_call 39; refine (sm _).mono ?_; rintro e w ⟨rfl, rfl⟩) | (go_at_call 40; refine (tk _).mono ?_; rintro e w ⟨rfl, rfl⟩))
      clear sm tk
      go_loop [23] (fun i => ∃ k : Nat, k ≤ s.size ∧ i = .int .i64 k ∧ NmAt s k) (fun i => s.size - (intOf i).toNat)
      case atStart => exact ⟨0, Nat.zero_le _, rfl, rfl⟩
      case round =>
        obtain ⟨k, hk, rfl, ha⟩ := hrel
        by_cases hlt : k < s.size
        · have hl : k < s.data.toList.length := by rw [Hlen.out]; exact hlt
          have hgd : s.data.toList.getD k 0 = s[k] := by
            rw [List.getD_eq_getElem?_getD, List.getElem?_eq_getElem hl]; rfl
          have smk := fun w => small_any s[k] w
          have dgk := fun w => dig_any s[k] w
          have hu := UInt8.toNat_lt s[k]
          cases hok : signB s[k] with
          | true =>
            have ha' : NmAt s (k + 1) := by
              show (s.data.toList.take (k + 1)).all signB = true
              rw [all_take1 hl, show (s.data.toList.take k).all signB = true from ha, hgd, hok]; rfl
            unfold signB at hok
            clear ha hgd
            by_cases c1 : smallB s[k] = true
            · rw [c1] at smk
              clear hok c1
              go_wp2_with (go_at_call 39; refine (smk _).mono ?_; rintro e w ⟨rfl, rfl⟩)
              go_round
              case rel => exact ⟨k + 1, by omega, by go_num, ha'⟩
              case measure => simp [intOf]; omega
            · rw [Bool.eq_false_iff.2 c1] at smk
              by_cases c2 : digB s[k] = true
              · rw [c2] at dgk
                clear hok c1 c2
                go_wp2_with (first | (go_at_call 39; refine (smk _).mono ?_; rintro e w ⟨rfl, rfl⟩) | (go_at_call 41; refine (dgk _).mono ?_; rintro e w ⟨rfl, rfl⟩))
                go_round
                case rel => exact ⟨k + 1, by omega, by go_num, ha'⟩
                case measure => simp [intOf]; omega
              · rw [Bool.eq_false_iff.2 c2] at dgk
                have h95 : ((s[k].toNat : Int) == 95) = true := by
                  rw [Bool.eq_false_iff.2 c1, Bool.eq_false_iff.2 c2] at hok
                  simp at hok
                  simp; omega
                have h95' : (s[k].toNat : Int) = 95 := by simpa using h95
                rw [h95'] at smk dgk
                clear hok c1 c2
                go_wp2_with (first | (go_at_call 39; refine (smk _).mono ?_; rintro e w ⟨rfl, rfl⟩) | (go_at_call 41; refine (dgk _).mono ?_; rintro e w ⟨rfl, rfl⟩))
                go_round
                case rel => exact ⟨k + 1, by omega, by go_num, ha'⟩
                case measure => simp [intOf]; omega
          | false =>
            have Hr : Hid (false = nameB s) := by
              show false = nameB s
              rw [Hn.out, all_not hl (by rw [hgd]; exact hok)]
            unfold signB at hok
            simp only [Bool.or_eq_false_iff, decide_eq_false_iff_not] at hok
            obtain ⟨⟨c1, c2⟩, c3⟩ := hok
            rw [c1] at smk
            rw [c2] at dgk
            have h95 : ((s[k].toNat : Int) == 95) = false := by simp; omega
            have h95' : ¬ (s[k].toNat : Int) = 95 := by omega
            clear ha hgd c1 c2 c3
            go_wp2_with (first | (go_at_call 39; refine (smk _).mono ?_; rintro e w ⟨rfl, rfl⟩) | (go_at_call 41; refine (dgk _).mono ?_; rintro e w ⟨rfl, rfl⟩))
            go_ret
            exact ⟨ret_bool Hr.out, rfl⟩
        · have Hr : Hid (true = nameB s) := by
            show true = nameB s
            have h : (s.data.toList.take k).all signB = true := ha
            rw [List.take_of_length_le (by rw [Hlen.out]; omega)] at h
            rw [Hn.out, h]
          clear ha
          go_wp2
          go_ret
          exact ⟨ret_bool Hr.out, rfl⟩

/-! ### the document's -/
theorem word_mem {s : ByteArray} : wordB s = true ↔ s ∈ wordsL := by
  unfold wordB
  rw [List.any_eq_true]
  exact ⟨fun ⟨x, hx, h⟩ => by rw [eqS_iff.1 h]; exact hx, fun h => ⟨s, h, eqS_iff.2 rfl⟩⟩
theorem wordsL_cell (w : World) (T : TypeId) (k : Nat) (hk : k < 23) : (w.alloc (.cells (wordsL.map Value.string).toArray T)).cell? ⟨w.heap.size, k, none⟩ = some (.string (wordsL.getD k ByteArray.empty)) := by
  rw [World.cell?_alloc_mark]
  have hl : wordsL.length = 23 := rfl
  simp [List.getD_eq_getElem?_getD, hl, hk]
set_option maxRecDepth 100000 in
set_option maxHeartbeats 2000000 in
theorem isword_any (s : ByteArray) (w : World) (hs : s.size ≤ maxLen) :
    Calls Tryd.prog 33 #[.string s] w fun e w' => e = .returned (.bool (wordB s)) ∧ Rb w w' := by
  have hc := wordsL_cell w 9
  have HB := Lib.hid (show Rb w (w.alloc (.cells (wordsL.map Value.string).toArray 9)) from (Below.refl _ _).alloc (Nat.le_refl _) _)
  have hl : wordsL.length = 23 := rfl
  have Hl := Lib.hid hl
  have HC := Lib.hid hc
  clear hc hl
  go_enter Tryd.func33, Tryd.ntmps33
  go_wp2
  rw [show #[Value.string { data := #[116, 97, 98, 108, 101] }, Value.string { data := #[114, 111, 119, 115] }, Value.string { data := #[112, 114, 111, 99] }, Value.string { data := #[108, 101, 116] }, Value.string { data := #[105, 102] }, Value.string { data := #[101, 108, 115, 101] }, Value.string { data := #[108, 111, 111, 112] }, Value.string { data := #[101, 97, 99, 104] }, Value.string { data := #[105, 110] }, Value.string { data := #[102, 114, 111, 109] }, Value.string { data := #[116, 111] }, Value.string { data := #[109, 97, 120] }, Value.string { data := #[114, 111, 108, 108, 98, 97, 99, 107] }, Value.string { data := #[101, 109, 105, 116] }, Value.string { data := #[100, 101, 108] }, Value.string { data := #[104, 97, 115] }, Value.string { data := #[115, 117, 109] }, Value.string { data := #[99, 111, 117, 110, 116] }, Value.string { data := #[105, 110, 116] }, Value.string { data := #[98, 111, 111, 108] }, Value.string { data := #[116, 101, 120, 116] }, Value.string { data := #[116, 114, 117, 101] }, Value.string { data := #[102, 97, 108, 115, 101] }] = (wordsL.map Value.string).toArray from rfl]
  obtain ⟨w1, hw1⟩ : ∃ w1, w1 = w.alloc (.cells (wordsL.map Value.string).toArray 9) := ⟨_, rfl⟩
  have HC' := Lib.hid HC.out
  have HB' := Lib.hid HB.out
  rw [← hw1] at HC' HB' ⊢
  clear hw1 HC HB
  go_loop [7] (fun i => ∃ k : Nat, k ≤ 23 ∧ i = .int .i64 k ∧ wordB s = (wordsL.drop k).any (fun x => eqS s x)) (fun i => 23 - (intOf i).toNat)
  case atStart => exact ⟨0, Nat.zero_le _, rfl, rfl⟩
  case round =>
    obtain ⟨k, hk, rfl, ha⟩ := hrel
    by_cases hlt : k < 23
    · have z := HC'.out k hlt
      obtain ⟨x, hx⟩ : ∃ x, x = wordsL.getD k ByteArray.empty := ⟨_, rfl⟩
      rw [← hx] at z
      have hd : wordsL.drop k = x :: wordsL.drop (k + 1) := by
        rw [List.drop_eq_getElem_cons (by rw [Hl.out]; exact hlt), hx, List.getD_eq_getElem?_getD, List.getElem?_eq_getElem (by rw [Hl.out]; exact hlt)]
        rfl
      rw [hd, List.any_cons] at ha
      have Ha := Lib.hid ha
      by_cases heq : eqS s x = true
      · have he : (x.toList == s.toList) = true := by rw [eqS_comm] at heq; exact heq
        have Hr : Hid (true = wordB s) := by
          show true = wordB s
          rw [ha, heq]; rfl
        clear ha hd hx heq Ha
        go_wp2
        go_ret
        exact ⟨ret_bool Hr.out, HB'.out⟩
      · have he : (x.toList == s.toList) = false := by rw [eqS_comm] at heq; exact Bool.eq_false_iff.2 heq
        have Hr : Hid (wordB s = (wordsL.drop (k + 1)).any (fun x => eqS s x)) := by
          show wordB s = _
          rw [ha, Bool.eq_false_iff.2 heq]; rfl
        clear ha hd hx heq Ha
        go_wp2
        go_round
        case rel => exact ⟨k + 1, by omega, by go_num, Hr.out⟩
        case measure => simp [intOf]; omega
    · have Hr : Hid (false = wordB s) := by
        show false = wordB s
        rw [ha, List.drop_eq_nil_of_le (by rw [Hl.out]; omega)]; rfl
      clear ha
      go_wp2
      go_ret
      exact ⟨ret_bool Hr.out, HB'.out⟩

/-- the document's signs: the first a letter, the others a letter, a digit or '_' -/
theorem nameL_iff (l : List UInt8) (h : ∀ k, k < l.length → (smallB (l.getD k 0) = true ∨ ((l.getD k 0).toNat = 95 ∨ digB (l.getD k 0) = true) ∧ k ≠ 0)) : smallB (l.getD 0 0) = true ∨ l = [] := by
  cases l with
  | nil => exact .inr rfl
  | cons c r =>
    rcases h 0 (by simp) with h' | ⟨_, h'⟩
    · exact .inl h'
    · exact absurd rfl h'
def RnAt (s : ByteArray) (k : Nat) : Prop := (s.data.toList.take k).all signB = true ∧ (0 < k → smallB (s.data.toList.getD 0 0) = true)
set_option maxRecDepth 100000 in
set_option maxHeartbeats 4000000 in
theorem refname_any (s : ByteArray) (w : World) (hs : s.size ≤ maxLen) :
    Calls Tryd.prog 14 #[.string s] w fun e w' => e = .returned (.bool (nameB s)) ∧ Rb w w' := by
  have hlen : s.data.toList.length = s.size := Array.length_toList
  have tk := fun w => isword_any s w hs
  unfold maxLen at hs
  by_cases h0 : s.size = 0
  · have hd : s = ⟨#[]⟩ := by
      apply ByteArray.ext
      exact Array.eq_empty_of_size_eq_zero h0
    subst hd
    rw [show nameB ⟨#[]⟩ = false by rfl]
    clear h0 hlen hs tk
    go_enter Tryd.func14, Tryd.ntmps14
    go_wp2
    go_ret
    exact ⟨rfl, Rb.refl _⟩
  have hp : 0 < s.size := by omega
  have hne : (s.size : Int) ≠ 0 := by omega
  have hnb : ((s.size : Int) == 0) = false := by rw [beq_eq_false_iff_ne]; omega
  have hne3 : s.data.toList.isEmpty = false := by
    cases hh : s.data.toList with
    | nil => rw [hh] at hlen; simp at hlen; omega
    | cons a l => rfl
  by_cases h16 : 16 < s.size
  · have Hr : Hid (false = nameB s) := by
      show false = nameB s
      unfold nameB nameL
      rw [hlen, decide_eq_false (by omega : ¬ s.size ≤ 16)]; simp
    clear hlen tk hne3
    go_enter Tryd.func14, Tryd.ntmps14
    go_wp2
    go_ret
    exact ⟨ret_bool Hr.out, Rb.refl _⟩
  have Hlen := Lib.hid hlen
  cases hwd : wordB s with
  | true =>
    have Hr : Hid (false = nameB s) := by
      show false = nameB s
      unfold nameB
      rw [hwd]; simp
    rw [hwd] at tk
    clear hlen hne3 hwd
    go_enter Tryd.func14, Tryd.ntmps14
    go_wp2_with (go_at_call 33; refine (tk _).mono ?_; rintro e w' ⟨rfl, hb⟩)
    go_ret
    exact ⟨ret_bool Hr.out, by assumption⟩
  | false =>
    rw [hwd] at tk
    have Hn : Hid (nameB s = (smallB (s.data.toList.getD 0 0) && s.data.toList.all signB)) := by
      show nameB s = _
      unfold nameB nameL
      rw [hwd, hne3, Hlen.out, decide_eq_true (by omega : s.size ≤ 16)]; simp
    clear hlen hne3 hwd
    go_enter Tryd.func14, Tryd.ntmps14
    go_wp2_with fail
    refine (tk _).mono ?_
    rintro e w1 ⟨rfl, hb⟩
    have HB := Lib.hid hb
    clear hb tk
    go_wp2
    go_loop [3, 4, 5] (fun i _ _ => ∃ k : Nat, k ≤ s.size ∧ i = .int .i64 k ∧ RnAt s k) (fun i _ _ => s.size - (intOf i).toNat)
    case atStart => exact ⟨0, Nat.zero_le _, rfl, rfl, fun h => absurd h (Nat.lt_irrefl _)⟩
    case round =>
      obtain ⟨k, hk, rfl, ha⟩ := hrel
      by_cases hlt : k < s.size
      · have hl : k < s.data.toList.length := by rw [Hlen.out]; exact hlt
        have hgd : s.data.toList.getD k 0 = s[k] := by
          rw [List.getD_eq_getElem?_getD, List.getElem?_eq_getElem hl]; rfl
        have hu := UInt8.toNat_lt s[k]
        by_cases hok : smallB s[k] = true ∨ ((s[k].toNat = 95 ∨ digB s[k] = true) ∧ k ≠ 0)
        · have ha' : RnAt s (k + 1) := by
            refine ⟨?_, fun _ => ?_⟩
            · rw [all_take1 hl, show (s.data.toList.take k).all signB = true from ha.1, hgd]
              unfold signB
              rcases hok with h | ⟨h | h, _⟩ <;> simp [h]
            · by_cases hk0 : k = 0
              · subst hk0
                rcases hok with h | ⟨_, h⟩
                · rw [hgd]; exact h
                · exact absurd rfl h
              · exact ha.2 (by omega)
          clear ha hgd
          unfold smallB digB at hok
          simp only [Bool.and_eq_true, decide_eq_true_eq] at hok
          by_cases c1 : 97 ≤ s[k].toNat <;> by_cases c2 : s[k].toNat ≤ 122
          · clear hok
            by_cases c3 : ((s[k].toNat : Int) == 95) = true
            · simp at c3; omega
            · have c3' := Bool.eq_false_iff.2 c3
              clear c3
              go_wp2
              go_round
              case rel => exact ⟨k + 1, by omega, by go_num, ha'⟩
              case measure => simp [intOf]; omega
          · exfalso; rcases hok with h | ⟨h | h, _⟩ <;> omega
          · have hk0 : k ≠ 0 := by rcases hok with h | ⟨h, hh⟩ <;> omega
            have hkb : ((k : Int) == 0) = false := by simp; omega
            by_cases c3 : s[k].toNat = 95
            · have c3' : ((s[k].toNat : Int) == 95) = true := by simp; omega
              clear hok c3 hk0
              go_wp2
              go_round
              case rel => exact ⟨k + 1, by omega, by go_num, ha'⟩
              case measure => simp [intOf]; omega
            · have c3' : ((s[k].toNat : Int) == 95) = false := by simp; omega
              have c4 : 48 ≤ s[k].toNat := by rcases hok with h | ⟨h | h, _⟩ <;> omega
              have c5 : s[k].toNat ≤ 57 := by rcases hok with h | ⟨h | h, _⟩ <;> omega
              clear hok c3 hk0
              go_wp2
              go_round
              case rel => exact ⟨k + 1, by omega, by go_num, ha'⟩
              case measure => simp [intOf]; omega
          · exfalso; rcases hok with h | ⟨h | h, _⟩ <;> omega
        · have Hr : Hid (false = nameB s) := by
            show false = nameB s
            rw [Hn.out, eq_comm, Bool.eq_false_iff]
            intro hh
            simp only [Bool.and_eq_true] at hh
            apply hok
            have := List.all_eq_true.1 hh.2 s[k] (by rw [← hgd, List.getD_eq_getElem?_getD, List.getElem?_eq_getElem hl]; exact List.getElem_mem hl)
            unfold signB at this
            by_cases hk0 : k = 0
            · subst hk0
              rw [← hgd]; exact .inl hh.1
            · simp only [Bool.or_eq_true, decide_eq_true_eq] at this
              rcases this with (h | h) | h
              · exact .inl h
              · exact .inr ⟨.inr h, hk0⟩
              · exact .inr ⟨.inl h, hk0⟩
          clear ha hgd
          have hok1 : ¬ (97 ≤ s[k].toNat ∧ s[k].toNat ≤ 122) := fun h => hok (.inl (by unfold smallB; simp [h]))
          by_cases hk0 : k = 0
          · subst hk0
            clear hok
            by_cases c1 : 97 ≤ s[0].toNat
            · have c2 : 122 < s[0].toNat := by omega
              have d2 : decide ((s[0].toNat : Int) ≤ 122) = false := by simp; omega
              have c3' : ((s[0].toNat : Int) == 95) = false := by simp; omega
              clear hok1
              go_wp2
              all_goals
                go_ret
                exact ⟨ret_bool Hr.out, HB.out⟩
            · clear hok1
              have c1' : s[0].toNat < 97 := by omega
              by_cases c3 : s[0].toNat = 95
              · have c3' : ((s[0].toNat : Int) == 95) = true := by simp; omega
                clear c3 c1
                go_wp2
                all_goals
                  go_ret
                  exact ⟨ret_bool Hr.out, HB.out⟩
              · have c3' : ((s[0].toNat : Int) == 95) = false := by simp; omega
                clear c3 c1
                go_wp2
                all_goals
                  go_ret
                  exact ⟨ret_bool Hr.out, HB.out⟩
          · have c3 : ¬ s[k].toNat = 95 := fun h => hok (.inr ⟨.inl h, hk0⟩)
            have c4 : ¬ (48 ≤ s[k].toNat ∧ s[k].toNat ≤ 57) := fun h => hok (.inr ⟨.inr (by unfold digB; simp [h]), hk0⟩)
            have c3' : ((s[k].toNat : Int) == 95) = false := by simp; omega
            clear hok c3 hk0
            by_cases c1 : 97 ≤ s[k].toNat
            · have c2 : 122 < s[k].toNat := by omega
              have d2 : decide ((s[k].toNat : Int) ≤ 122) = false := by simp; omega
              clear hok1 c4
              go_wp2
              all_goals
                go_ret
                exact ⟨ret_bool Hr.out, HB.out⟩
            · have c1' : s[k].toNat < 97 := by omega
              clear hok1 c1
              by_cases c5 : 48 ≤ s[k].toNat
              · have c6 : 57 < s[k].toNat := by omega
                clear c4
                go_wp2
                all_goals
                  go_ret
                  exact ⟨ret_bool Hr.out, HB.out⟩
              · have c6 : s[k].toNat < 48 := by omega
                clear c4 c5
                go_wp2
                all_goals
                  go_ret
                  exact ⟨ret_bool Hr.out, HB.out⟩
      · have Hr : Hid (true = nameB s) := by
          show true = nameB s
          have h : (s.data.toList.take k).all signB = true := ha.1
          rw [List.take_of_length_le (by rw [Hlen.out]; omega)] at h
          rw [Hn.out, h, ha.2 (by omega)]; rfl
        clear ha
        go_wp2
        go_ret
        exact ⟨ret_bool Hr.out, HB.out⟩
end Go.Proofs.YtolfeellcdoopaaDoor.L6
