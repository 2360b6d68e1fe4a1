/-
  Layer 5, plain data: a tree's tokens (things and keys between, in order), what is put in and taken away.
-/
import Derived.Test.YtjdlicphmflnkaaT2
namespace Go.Proofs.Ytjdlicphmflnkaa.L5
set_option linter.unusedVariables false

abbrev Tok := Int × Int
abbrev Th := Int × Int
def tk (t : Th) : Tok := (2 * t.1 + 1, t.2)
def sp (k : Int) : Tok := (2 * k, 0)
def thing1 (t : Tok) : Option Th := if t.1 % 2 = 1 then some ((t.1 - 1) / 2, t.2) else none
def items (M : List Tok) : List Th := M.filterMap thing1
def Srt (M : List Tok) : Prop := M.Pairwise (fun a b => a.1 < b.1)

theorem thing1_tk (t : Th) : thing1 (tk t) = some t := by
  unfold thing1 tk
  rw [if_pos (by dsimp only; omega)]
  congr 1
  ext
  · show (2 * t.1 + 1 - 1) / 2 = t.1
    omega
  · rfl
theorem thing1_sp (k : Int) : thing1 (sp k) = none := by
  unfold thing1 sp
  rw [if_neg (by dsimp only; omega)]
theorem items_append (a b : List Tok) : items (a ++ b) = items a ++ items b := List.filterMap_append ..
theorem items_map (L : List Th) : items (L.map tk) = L := by
  induction L with
  | nil => rfl
  | cons t L ih =>
    show (t :: L |>.map tk).filterMap thing1 = _
    rw [List.map_cons, List.filterMap_cons_some (thing1_tk t)]
    exact congrArg _ ih
theorem items_sp (k : Int) (M : List Tok) : items (sp k :: M) = items M := List.filterMap_cons_none (thing1_sp k)
theorem items_mem {M : List Tok} {t : Th} (h : t ∈ items M) : ∃ c ∈ M, c.1 = 2 * t.1 + 1 := by
  obtain ⟨c, hc, he⟩ := List.mem_filterMap.1 h
  refine ⟨c, hc, ?_⟩
  unfold thing1 at he
  split at he
  · rename_i hm
    cases he
    show c.1 = 2 * ((c.1 - 1) / 2) + 1
    omega
  · cases he

/-! ### lists of things -/
def Lt (x : Int) (L : List Th) : Prop := ∀ t ∈ L, t.1 < x
def Gt (x : Int) (L : List Th) : Prop := ∀ t ∈ L, x < t.1
def Rise (L : List Th) : Prop := L.Pairwise (fun a b => a.1 < b.1)

def getL (x : Int) : List Th → Option Int
  | [] => none
  | t :: L => if t.1 = x then some t.2 else getL x L
def putL (x y : Int) : List Th → List Th
  | [] => [(x, y)]
  | t :: L => if t.1 < x then t :: putL x y L else if t.1 = x then (x, y) :: L else (x, y) :: t :: L
def delL (x : Int) (L : List Th) : List Th := L.filter (fun t => t.1 ≠ x)

theorem getL_lt {x : Int} : ∀ {P : List Th} (Q : List Th), Lt x P → getL x (P ++ Q) = getL x Q
  | [], _, _ => rfl
  | t :: P, Q, h => by
    have := h t (by simp)
    rw [List.cons_append, getL, if_neg (by omega)]
    exact getL_lt Q fun u hu => h u (by simp [hu])
theorem getL_gt {x : Int} : ∀ {Q : List Th}, Gt x Q → getL x Q = none
  | [], _ => rfl
  | t :: Q, h => by
    have := h t (by simp)
    rw [getL, if_neg (by omega)]
    exact getL_gt fun u hu => h u (by simp [hu])
theorem getL_append {x : Int} : ∀ (P : List Th) {Q : List Th}, Gt x Q → getL x (P ++ Q) = getL x P
  | [], Q, h => getL_gt h
  | t :: P, Q, h => by
    rw [List.cons_append, getL, getL]
    split
    · rfl
    · exact getL_append P h
theorem getL_mid {x : Int} {P m Q : List Th} (h1 : Lt x P) (h2 : Gt x Q) : getL x (P ++ (m ++ Q)) = getL x m := by rw [getL_lt _ h1, getL_append _ h2]
theorem putL_lt {x y : Int} : ∀ {P : List Th} (Q : List Th), Lt x P → putL x y (P ++ Q) = P ++ putL x y Q
  | [], _, _ => rfl
  | t :: P, Q, h => by
    have := h t (by simp)
    rw [List.cons_append, putL, if_pos this, putL_lt Q fun u hu => h u (by simp [hu])]
    rfl
theorem putL_gt {x y : Int} : ∀ {Q : List Th}, Gt x Q → putL x y Q = (x, y) :: Q
  | [], _ => rfl
  | t :: Q, h => by
    have := h t (by simp)
    rw [putL, if_neg (by omega), if_neg (by omega)]
theorem putL_append {x y : Int} : ∀ (P : List Th) {Q : List Th}, Gt x Q → putL x y (P ++ Q) = putL x y P ++ Q
  | [], Q, h => by rw [List.nil_append, putL_gt h]; rfl
  | t :: P, Q, h => by
    rw [List.cons_append, putL, putL]
    split
    · rw [putL_append P h]; rfl
    · split <;> rfl
theorem putL_mid {x y : Int} {P m Q : List Th} (h1 : Lt x P) (h2 : Gt x Q) : putL x y (P ++ (m ++ Q)) = P ++ (putL x y m ++ Q) := by rw [putL_lt _ h1, putL_append _ h2]
theorem delL_append (x : Int) (P Q : List Th) : delL x (P ++ Q) = delL x P ++ delL x Q := List.filter_append ..
theorem delL_lt {x : Int} {P : List Th} (h : Lt x P) : delL x P = P := List.filter_eq_self.2 fun t ht => by have := h t ht; simp; omega
theorem delL_gt {x : Int} {P : List Th} (h : Gt x P) : delL x P = P := List.filter_eq_self.2 fun t ht => by have := h t ht; simp; omega
theorem delL_mid {x : Int} {P m Q : List Th} (h1 : Lt x P) (h2 : Gt x Q) : delL x (P ++ (m ++ Q)) = P ++ (delL x m ++ Q) := by rw [delL_append, delL_append, delL_lt h1, delL_gt h2]

/-! ### a leaf's things, by the place of a key -/
theorem lt_of_pos {x : Int} {ks vs : List Int} {p : Nat} (h : Pos x ks p) : Lt x ((ks.take p).zip vs) := fun t ht => by
  have hm := (List.of_mem_zip ht).1
  obtain ⟨j, hj, e⟩ := List.mem_iff_getElem.1 hm
  rw [List.length_take] at hj
  have hjp : j < p := by omega
  have hjl : j < ks.length := by omega
  rw [List.getElem_take] at e
  have := h.lo j hjp
  rw [List.getD_eq_getElem?_getD, List.getElem?_eq_getElem hjl, Option.getD_some, e] at this
  exact this
theorem ge_of_pos {x : Int} {ks : List Int} {p : Nat} (h : Pos x ks p) : ∀ k ∈ ks.drop p, x ≤ k := fun k hk => by
  obtain ⟨j, hj, e⟩ := List.mem_iff_getElem.1 hk
  rw [List.length_drop] at hj
  rw [List.getElem_drop] at e
  have := h.hi (p + j) (by omega) (by omega)
  rw [List.getD_eq_getElem?_getD, List.getElem?_eq_getElem (by omega), Option.getD_some, e] at this
  exact this
/-- the key is not there: all behind is above it -/
theorem gt_of_none {x : Int} {ks : List Int} {p : Nat} (h : Pos x ks p) (hs : ks.Pairwise (· < ·)) (hf : found x ks p = false) : ∀ k ∈ ks.drop p, x < k := fun k hk => by
  have hge := ge_of_pos h k hk
  rcases Int.lt_or_eq_of_le hge with h' | rfl
  · exact h'
  · exfalso
    obtain ⟨j, hj, e⟩ := List.mem_iff_getElem.1 hk
    rw [List.length_drop] at hj
    rw [List.getElem_drop] at e
    have h0 : j ≠ 0 := fun e0 => by
      subst e0
      unfold found at hf
      rw [decide_eq_false_iff_not] at hf
      exact hf (by rw [List.getElem?_eq_getElem (by omega)]; simpa using e)
    have hp := h.hi p (Nat.le_refl _) (by omega)
    rw [List.getD_eq_getElem?_getD, List.getElem?_eq_getElem (by omega), Option.getD_some] at hp
    have := List.pairwise_iff_getElem.1 hs p (p + j) (by omega) (by omega) (by omega)
    omega
/-- the key is there: all behind it is above -/
theorem gt_of_some {x : Int} {ks : List Int} {p : Nat} (hs : ks.Pairwise (· < ·)) (hp : p < ks.length) (he : ks[p] = x) : ∀ k ∈ ks.drop (p + 1), x < k := fun k hk => by
  obtain ⟨j, hj, e⟩ := List.mem_iff_getElem.1 hk
  rw [List.length_drop] at hj
  rw [List.getElem_drop] at e
  have := List.pairwise_iff_getElem.1 hs p (p + 1 + j) hp (by omega) (by omega)
  omega
theorem gt_zip {x : Int} {ks vs : List Int} (h : ∀ k ∈ ks, x < k) : Gt x (ks.zip vs) := fun t ht => h _ (List.of_mem_zip ht).1

theorem zip_split {ks vs : List Int} (p : Nat) (hl : vs.length = ks.length) : ks.zip vs = (ks.take p).zip (vs.take p) ++ (ks.drop p).zip (vs.drop p) := by
  rw [← List.zip_append (by simp [hl]), List.take_append_drop, List.take_append_drop]
theorem drop_cons {α : Type} {l : List α} {p : Nat} (h : p < l.length) : l.drop p = l[p] :: l.drop (p + 1) := List.drop_eq_getElem_cons h

section
variable {x : Int} {ks vs : List Int} {p : Nat}
theorem leaf_get_none (hl : vs.length = ks.length) (h : Pos x ks p) (hs : ks.Pairwise (· < ·)) (hf : found x ks p = false) : getL x (ks.zip vs) = none := by
  rw [zip_split p hl, getL_lt _ (lt_of_pos h), getL_gt (gt_zip (gt_of_none h hs hf))]
theorem leaf_get_some (hl : vs.length = ks.length) (h : Pos x ks p) (hp : p < ks.length) (he : ks[p] = x) : getL x (ks.zip vs) = some (vs.getD p 0) := by
  have hv : p < vs.length := by omega
  rw [zip_split p hl, getL_lt _ (lt_of_pos h), drop_cons hp, drop_cons hv, List.zip_cons_cons, getL, if_pos he, List.getD_eq_getElem?_getD, List.getElem?_eq_getElem hv]
  rfl
theorem leaf_put_none (y : Int) (hl : vs.length = ks.length) (h : Pos x ks p) (hs : ks.Pairwise (· < ·)) (hf : found x ks p = false) :
    (ks.take p ++ x :: ks.drop p).zip (vs.take p ++ y :: vs.drop p) = putL x y (ks.zip vs) := by
  rw [zip_split p hl, putL_lt _ (lt_of_pos h), putL_gt (gt_zip (gt_of_none h hs hf)), List.zip_append (by simp [hl])]
  rfl
theorem leaf_put_some (y : Int) (hl : vs.length = ks.length) (h : Pos x ks p) (hp : p < ks.length) (he : ks[p] = x) : ks.zip (vs.set p y) = putL x y (ks.zip vs) := by
  have hv : p < vs.length := by omega
  rw [zip_split p hl, putL_lt _ (lt_of_pos h), drop_cons hp, drop_cons hv, List.zip_cons_cons, putL, if_neg (by dsimp only; omega), if_pos he]
  rw [zip_split p (vs := vs.set p y) (by simpa using hl), drop_cons hp, drop_cons (l := vs.set p y) (by simpa using hv), List.zip_cons_cons]
  rw [List.take_set_of_le (Nat.le_refl p), List.getElem_set_self, he, List.drop_set_of_lt (by omega)]
theorem leaf_del_some (hl : vs.length = ks.length) (h : Pos x ks p) (hs : ks.Pairwise (· < ·)) (hp : p < ks.length) (he : ks[p] = x) :
    (ks.take p ++ ks.drop (p + 1)).zip (vs.take p ++ vs.drop (p + 1)) = delL x (ks.zip vs) := by
  have hv : p < vs.length := by omega
  rw [zip_split p hl, delL_append, delL_lt (lt_of_pos h), drop_cons hp, drop_cons hv, List.zip_cons_cons, List.zip_append (by simp [hl])]
  congr 1
  show _ = List.filter _ _
  rw [List.filter_cons_of_neg (by simp [he])]
  exact (delL_gt (gt_zip (gt_of_some hs hp he))).symm
theorem leaf_del_none (hl : vs.length = ks.length) (h : Pos x ks p) (hs : ks.Pairwise (· < ·)) (hf : found x ks p = false) : delL x (ks.zip vs) = ks.zip vs := by
  rw [zip_split p hl, delL_append, delL_lt (lt_of_pos h), delL_gt (gt_zip (gt_of_none h hs hf))]
end

/-! ### sorted tokens -/
theorem srt_append {A B : List Tok} : Srt (A ++ B) ↔ Srt A ∧ Srt B ∧ ∀ a ∈ A, ∀ b ∈ B, a.1 < b.1 := List.pairwise_append
theorem srt_mid {A M B : List Tok} (h : Srt (A ++ (M ++ B))) : Srt M := (srt_append.1 (srt_append.1 h).2.1).1
theorem srt_cons {t : Tok} {B : List Tok} : Srt (t :: B) ↔ (∀ b ∈ B, t.1 < b.1) ∧ Srt B := List.pairwise_cons
theorem srt_sub {A B : List Tok} (h : Srt B) (s : A.Sublist B) : Srt A := List.Pairwise.sublist s h
theorem srt_map_tk {L : List Th} : Srt (L.map tk) ↔ Rise L := by
  unfold Srt Rise
  rw [List.pairwise_map]
  constructor
  · intro h
    exact h.imp fun {a b} hab => by unfold tk at hab; dsimp only at hab; omega
  · intro h
    exact h.imp fun {a b} hab => by unfold tk; dsimp only; omega
theorem rise_items {M : List Tok} (h : Srt M) : Rise (items M) := by
  unfold Rise items
  rw [List.pairwise_filterMap]
  refine h.imp fun {a b} hab t ht u hu => ?_
  unfold thing1 at ht hu
  split at ht
  · split at hu
    · cases ht; cases hu
      show (a.1 - 1) / 2 < (b.1 - 1) / 2
      omega
    · cases hu
  · cases ht
theorem lt_items {x : Int} {A : List Tok} (h : ∀ a ∈ A, a.1 < 2 * x + 1) : Lt x (items A) := fun t ht => by
  obtain ⟨c, hc, e⟩ := items_mem ht
  have := h c hc
  omega
theorem gt_items {x : Int} {A : List Tok} (h : ∀ a ∈ A, 2 * x + 1 < a.1) : Gt x (items A) := fun t ht => by
  obtain ⟨c, hc, e⟩ := items_mem ht
  have := h c hc
  omega

/-- a leaf put into: still sorted within its neighbours -/
theorem srt_put {A B : List Tok} {L : List Th} {x y : Int} (h : Srt (A ++ (L.map tk ++ B))) (hA : ∀ a ∈ A, a.1 < 2 * x + 1) (hB : ∀ b ∈ B, 2 * x + 1 < b.1) : Srt (A ++ ((putL x y L).map tk ++ B)) := by
  have mem : ∀ (L : List Th) (t : Th), t ∈ putL x y L → t ∈ L ∨ t = (x, y) := fun L => by
    induction L with
    | nil => intro t ht; right; simpa [putL] using ht
    | cons u L ih =>
      intro t ht
      rw [putL] at ht
      split at ht
      · rcases List.mem_cons.1 ht with rfl | ht
        · left; simp
        · rcases ih t ht with h | h
          · left; simp [h]
          · right; exact h
      · split at ht
        · rcases List.mem_cons.1 ht with rfl | ht
          · right; rfl
          · left; simp [ht]
        · rcases List.mem_cons.1 ht with rfl | ht
          · right; rfl
          · left; exact ht
  have rise : ∀ L : List Th, Rise L → Rise (putL x y L) := fun L => by
    induction L with
    | nil => intro _; simp [putL, Rise]
    | cons u L ih =>
      intro hr
      have hr' := List.pairwise_cons.1 hr
      rw [putL]
      split
      · rename_i hlt
        refine List.pairwise_cons.2 ⟨fun t ht => ?_, ih hr'.2⟩
        rcases mem L t ht with h | rfl
        · exact hr'.1 t h
        · exact hlt
      · split
        · rename_i he
          exact List.pairwise_cons.2 ⟨fun t ht => by have := hr'.1 t ht; rw [he] at this; exact this, hr'.2⟩
        · refine List.pairwise_cons.2 ⟨fun t ht => ?_, hr⟩
          rcases List.mem_cons.1 ht with rfl | ht
          · dsimp only; omega
          · have := hr'.1 t ht; dsimp only; omega
  obtain ⟨h1, h2, h3⟩ := srt_append.1 h
  obtain ⟨h4, h5, h6⟩ := srt_append.1 h2
  have hm : ∀ c ∈ (putL x y L).map tk, c ∈ L.map tk ∨ c.1 = 2 * x + 1 := fun c hc => by
    obtain ⟨t, ht, rfl⟩ := List.mem_map.1 hc
    rcases mem L t ht with h | rfl
    · left; exact List.mem_map_of_mem h
    · right; rfl
  refine srt_append.2 ⟨h1, srt_append.2 ⟨srt_map_tk.2 (rise L (srt_map_tk.1 h4)), h5, fun c hc b hb => ?_⟩, fun a ha c hc => ?_⟩
  · rcases hm c hc with h | h
    · exact h6 c h b hb
    · have := hB b hb; omega
  · rcases List.mem_append.1 hc with hc | hc
    · rcases hm c hc with h | h
      · exact h3 a ha c (by simp [h])
      · have := hA a ha; omega
    · exact h3 a ha c (by simp [hc])
/-- a leaf halved: the key between -/
theorem srt_halve {A B : List Tok} {L1 L2 : List Th} {k : Int} (h : Srt (A ++ ((L1 ++ L2).map tk ++ B))) (h0 : L1 ≠ []) (hk : ∃ v L, L2 = (k, v) :: L) : Srt (A ++ ((L1.map tk ++ sp k :: L2.map tk) ++ B)) := by
  obtain ⟨v, L, rfl⟩ := hk
  rw [List.map_append, List.append_assoc] at h
  obtain ⟨h1, h2, h3⟩ := srt_append.1 h
  obtain ⟨h4, h5, h6⟩ := srt_append.1 h2
  obtain ⟨l0, L1', rfl⟩ : ∃ l0 L', L1 = l0 :: L' := by cases L1 with | nil => exact absurd rfl h0 | cons a b => exact ⟨a, b, rfl⟩
  have hk1 : ∀ t ∈ (l0 :: L1').map tk, t.1 < 2 * k := fun c hc => by
    obtain ⟨t, ht, rfl⟩ := List.mem_map.1 hc
    have := h6 _ hc (tk (k, v)) (by simp)
    unfold tk at this ⊢
    dsimp only at this ⊢
    omega
  rw [List.append_assoc]
  refine srt_append.2 ⟨h1, srt_append.2 ⟨h4, ?_, fun c hc b hb => ?_⟩, fun a ha c hc => ?_⟩
  · refine srt_cons.2 ⟨fun b hb => ?_, h5⟩
    have hb' : b ∈ tk (k, v) :: (L.map tk ++ B) := hb
    have h5' : Srt (tk (k, v) :: (L.map tk ++ B)) := h5
    rcases List.mem_cons.1 hb' with rfl | hb
    · unfold sp tk; dsimp only; omega
    · have := (srt_cons.1 h5').1 b hb
      unfold sp; unfold tk at this; dsimp only at this ⊢; omega
  · rcases List.mem_cons.1 hb with rfl | hb
    · exact hk1 c hc
    · exact h6 c hc b hb
  · rcases List.mem_append.1 hc with hc | hc
    · exact h3 a ha c (by simp only [List.mem_append]; left; exact hc)
    · rcases List.mem_cons.1 hc with rfl | hc
      · have := h3 a ha (tk l0) (by simp)
        have := hk1 (tk l0) (by simp)
        show a.1 < 2 * k
        omega
      · exact h3 a ha c (by simp only [List.mem_append]; right; exact List.mem_append.1 hc)
end Go.Proofs.Ytjdlicphmflnkaa.L5
