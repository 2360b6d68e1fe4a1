/-
  Layer 2: the value of a text, by the document's own answer.
-/
import Derived.Test.YtefjfiihfbkjoaaDoorVQ2
import Derived.Test.YtefjfiihfbkjoaaDoorVR2
namespace Go.Proofs.YtefjfiihfbkjoaaDoor
open Go.ChangeShapes Go.WideShapes Go.ChangeAt Go.RowKit Oct By Reg Val

theorem unr_esc (L : List UInt8) : ∀ (m p : List UInt8) (f i : Nat), L = p ++ (esc m ++ [34]) → i = p.length → m.length ≤ f → unr L f i = m
  | [], p, f, i, hL, hi, _ => unr_end _ _ _ (by subst hL hi; simp [esc])
  | c :: m, p, 0, i, _, _, hf => by simp at hf
  | c :: m, p, f + 1, i, hL, hi, hf => by
    have hf' : m.length ≤ f := by simp at hf; exact hf
    by_cases hq : c = 34 ∨ c = 92
    · have hL' : L = (p ++ [92, c]) ++ (esc m ++ [34]) := by
        rw [hL]; simp only [esc]; rw [if_pos hq]; simp
      have ih := unr_esc L m (p ++ [92, c]) f (i + 2) hL' (by rw [hi]; simp) hf'
      have g0 : L.getD i 0 = 92 := by
        rw [hL', hi, List.getD_eq_getElem?_getD]; simp
      have g1 : L.getD (i + 1) 0 = c := by
        rw [hL', hi, List.getD_eq_getElem?_getD]
        rw [show (p ++ [92, c]) ++ (esc m ++ [34]) = (p ++ [92]) ++ (c :: (esc m ++ [34])) by simp, show p.length + 1 = (p ++ [92]).length by simp, List.getElem?_append_right (Nat.le_refl _)]
        simp
      unfold unr
      rw [if_pos (by rw [hL', hi]; simp), g0, if_pos ⟨rfl, by rw [hL', hi]; simp⟩, g1, ih]
    · have hL' : L = (p ++ [c]) ++ (esc m ++ [34]) := by
        rw [hL]; simp only [esc]; rw [if_neg hq]; simp
      have ih := unr_esc L m (p ++ [c]) f (i + 1) hL' (by rw [hi]; simp) hf'
      have g0 : L.getD i 0 = c := by
        rw [hL', hi, List.getD_eq_getElem?_getD]; simp
      unfold unr
      rw [if_pos (by rw [hL', hi]; simp), g0, if_neg (fun h => hq (.inr h.1)), ih]
theorem unr_quote (m : List UInt8) : unrB (quoteB m) = m := by
  unfold unrB
  refine unr_esc (quoteB m) m [34] _ 1 rfl rfl ?_
  have := esc_ge m
  unfold quoteB
  rw [List.length_cons, List.length_append]; omega
theorem parse_inv {l t : List UInt8} {k n : Int} (h : parseV l = some (k, n, t)) : rightB k n t = true ∧ printV k n t = l ∧ -9223372036854775808 ≤ n ∧ n ≤ 9223372036854775807 := by
  have hb := guess_bd l
  unfold parseV at h
  split at h
  · rename_i hc
    simp only [Option.some.injEq] at h
    rw [h] at hc hb
    exact ⟨hc.1, hc.2, hb⟩
  · cases h
/-- a text that is a value's: which -/
theorem parse_form {l t : List UInt8} {k n : Int} (h : parseV l = some (k, n, t)) : (k = 1 ∧ t = [] ∧ l = Lib.itoa n) ∨ (k = 2 ∧ (l = trueL ∨ l = falseL)) ∨ (k = 3 ∧ n = 0 ∧ l = quoteB t) := by
  obtain ⟨hr, hp, -⟩ := parse_inv h
  rw [show printV k n t = textV k n t by unfold printV; rw [if_pos hr]] at hp
  rcases kinds_of hr with rfl | rfl | rfl
  · exact .inl ⟨rfl, right_s hr (.inl rfl), hp.symm⟩
  · refine .inr (.inl ⟨rfl, ?_⟩)
    rw [← hp]
    rcases truth_of hr with rfl | rfl
    · exact .inr rfl
    · exact .inl rfl
  · exact .inr (.inr ⟨rfl, (right_n3 hr).1, hp.symm⟩)

def RefT (l : List UInt8) (v : Value) : Prop := (∃ k n t, v = .tuple #[vv k n t, .bool (parseV l).isSome]) ∧ ∀ x, parseV l = some x → v = tupP (some x)
theorem RefT.none {l : List UInt8} {k n : Int} {t : ByteArray} (h : parseV l = none) : RefT l (.tuple #[vv k n t, .bool false]) :=
  ⟨⟨k, n, t, by rw [h]; rfl⟩, fun x hx => by rw [h] at hx; cases hx⟩
theorem RefT.some {l t : List UInt8} {k n : Int} (h : parseV l = some (k, n, t)) : RefT l (.tuple #[vv k n (str t), .bool true]) :=
  ⟨⟨k, n, str t, by rw [h]; rfl⟩, fun x hx => by rw [h] at hx; cases hx; rfl⟩
theorem none_of {l : List UInt8} (h : ∀ k n t, parseV l = some (k, n, t) → False) : parseV l = none := by
  cases hp : parseV l with
  | none => rfl
  | some x => exact (h x.1 x.2.1 x.2.2 hp).elim
theorem ba_eq {p s : ByteArray} : (p.toList == s.toList) = true ↔ p = s := by
  constructor
  · intro h
    by_cases hp : p = s
    · exact hp
    · rw [ba_ne hp] at h; cases h
  · rintro rfl; simp
theorem refT_text (s : ByteArray) (hq : s.data.toList.getD 0 0 = 34) (ht : s.data.toList ≠ trueL) (hf : s.data.toList ≠ falseL) :
    RefT s.data.toList (.tuple #[vv 3 0 (str (unrB s.data.toList)), .bool (rightB 3 0 (unrB s.data.toList) && ((str (printV 3 0 (unrB s.data.toList))).toList == s.toList))]) := by
  cases hb : (rightB 3 0 (unrB s.data.toList) && ((str (printV 3 0 (unrB s.data.toList))).toList == s.toList))
  · refine RefT.none (none_of fun k n t h => ?_)
    rcases parse_form h with ⟨_, _, hl⟩ | ⟨_, hl | hl⟩ | ⟨rfl, rfl, hl⟩
    · obtain ⟨c, r, hc, h1, _⟩ := itoa_head n
      rw [hl, hc] at hq; exact h1 hq
    · exact ht hl
    · exact hf hl
    · obtain ⟨hr, hp, -⟩ := parse_inv h
      have hu : unrB s.data.toList = t := by rw [hl, unr_quote]
      rw [hu, hr, hp, str_toList] at hb
      simp at hb
  · rw [Bool.and_eq_true, ba_eq] at hb
    have hp := parse_print hb.1 (by omega) (by omega)
    have hl : printV 3 0 (unrB s.data.toList) = s.data.toList := str_inj (by rw [hb.2, str_toList])
    rw [hl] at hp
    exact RefT.some hp
theorem refT_num (s : ByteArray) (hq : ¬ (2 ≤ s.size ∧ s.data.toList.getD 0 0 = 34)) (ht : s.data.toList ≠ trueL) (hf : s.data.toList ≠ falseL) : RefT s.data.toList (numT s) := by
  have hlen : s.data.toList.length = s.size := Array.length_toList
  unfold numT
  by_cases h : str (Lib.itoa (decR s.data.toList)) = s
  · rw [if_pos h]
    have hl : Lib.itoa (decR s.data.toList) = s.data.toList := str_inj (by rw [h, str_toList])
    have hb := decR_bd s.data.toList
    have hr : rightB 1 (decR s.data.toList) [] = true := rfl
    have hp := parse_print hr hb.1 hb.2
    rw [show printV 1 (decR s.data.toList) [] = Lib.itoa (decR s.data.toList) by unfold printV; rw [if_pos hr]; rfl, hl] at hp
    exact RefT.some hp
  · rw [if_neg h]
    refine RefT.none (none_of fun k n t hp => ?_)
    obtain ⟨-, -, h0, h1⟩ := parse_inv hp
    rcases parse_form hp with ⟨_, _, hl⟩ | ⟨_, hl | hl⟩ | ⟨_, _, hl⟩
    · exact h (by rw [hl, decR_itoa n h0 h1, ← hl, str_toList])
    · exact ht hl
    · exact hf hl
    · refine hq ⟨?_, by rw [hl]; rfl⟩
      rw [← hlen, hl]; simp [quoteB]

set_option maxRecDepth 100000 in
theorem refparse_lit (s : ByteArray) (w0 : World) (b : Bool) (hb : s.data.toList = if b then trueL else falseL) :
    Calls Tryd.prog 31 #[.string s] w0 fun e w' => e = .returned (.tuple #[vv 2 (if b then 1 else 0) ⟨#[]⟩, .bool true]) ∧ Below w0.heap.size w0 w' := by
  cases b
  · have h1 : (s.toList == [116, 114, 117, 101]) = false := by rw [ByteArray.toList_eq, hb]; rfl
    have h2 : (s.toList == [102, 97, 108, 115, 101]) = true := by rw [ByteArray.toList_eq, hb]; rfl
    clear hb
    go_enter Tryd.func31, Tryd.ntmps31
    go_wp2
    refine bodyPost_ret (v := .tuple #[vv 2 0 ⟨#[]⟩, .bool true]) (by simp [results, Tryd.results31, go_sem, vv]) rfl ⟨rfl, ?_⟩
    exact ((Below.refl _ _).alloc (Nat.le_refl _) _).alloc (by simp) _
  · have h1 : (s.toList == [116, 114, 117, 101]) = true := by rw [ByteArray.toList_eq, hb]; rfl
    clear hb
    go_enter Tryd.func31, Tryd.ntmps31
    go_wp2
    refine bodyPost_ret (v := .tuple #[vv 2 1 ⟨#[]⟩, .bool true]) (by simp [results, Tryd.results31, go_sem, vv]) rfl ⟨rfl, ?_⟩
    exact ((Below.refl _ _).alloc (Nat.le_refl _) _).alloc (by simp) _
theorem refT_lit (b : Bool) (l : List UInt8) (h : l = if b then trueL else falseL) : RefT l (.tuple #[vv 2 (if b then 1 else 0) ⟨#[]⟩, .bool true]) := by
  subst h
  cases b
  · have := parse_print (k := 2) (n := 0) (l := []) rfl (by omega) (by omega)
    exact RefT.some (t := []) this
  · have := parse_print (k := 2) (n := 1) (l := []) rfl (by omega) (by omega)
    exact RefT.some (t := []) this
theorem refparse_any (s : ByteArray) (w0 : World) (hs : s.size ≤ 200) :
    Calls Tryd.prog 31 #[.string s] w0 fun e w' => (∃ v, e = .returned v ∧ RefT s.data.toList v) ∧ Below w0.heap.size w0 w' := by
  by_cases ht : s.data.toList = trueL
  · exact (refparse_lit s w0 true ht).mono fun e w' ⟨he, hb⟩ => ⟨⟨_, he, refT_lit true _ ht⟩, hb⟩
  by_cases hf : s.data.toList = falseL
  · exact (refparse_lit s w0 false hf).mono fun e w' ⟨he, hb⟩ => ⟨⟨_, he, refT_lit false _ hf⟩, hb⟩
  by_cases hq : 2 ≤ s.size ∧ s.data.toList.getD 0 0 = 34
  · exact (refparse_text s w0 hs hq.1 hq.2 ht hf).mono fun e w' ⟨he, hb⟩ => ⟨⟨_, he, refT_text s hq.2 ht hf⟩, hb⟩
  · exact (refparse_num s w0 hs hq ht hf).mono fun e w' ⟨he, hb⟩ => ⟨⟨_, he, refT_num s hq ht hf⟩, hb⟩
theorem refparse_none (s : ByteArray) (w0 : World) (hs : s.size ≤ 200) (h : parseV s.data.toList = none) :
    Calls Tryd.prog 31 #[.string s] w0 fun e w' => (∃ k n t, e = .returned (.tuple #[vv k n t, .bool false])) ∧ Below w0.heap.size w0 w' :=
  (refparse_any s w0 hs).mono fun e w' ⟨⟨v, he, ⟨k, n, t, hv⟩, _⟩, hb⟩ => ⟨⟨k, n, t, by rw [he, hv, h]; rfl⟩, hb⟩
theorem refparse_some (s : ByteArray) (w0 : World) (hs : s.size ≤ 200) {k n : Int} {t : List UInt8} (h : parseV s.data.toList = some (k, n, t)) :
    Calls Tryd.prog 31 #[.string s] w0 fun e w' => e = .returned (.tuple #[vv k n (str t), .bool true]) ∧ Below w0.heap.size w0 w' :=
  (refparse_any s w0 hs).mono fun e w' ⟨⟨v, he, _, hx⟩, hb⟩ => ⟨by rw [he, hx _ h]; rfl, hb⟩
end Go.Proofs.YtefjfiihfbkjoaaDoor
