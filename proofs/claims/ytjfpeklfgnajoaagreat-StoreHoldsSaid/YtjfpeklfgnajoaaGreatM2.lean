/-
  Layer 7: U15, U16, U17, U18, U19, U20, U21, U22, U23, U24, U25, U26, U27, U28, U29, U31, put together.
-/
import Derived.Test.YtjfpeklfgnajoaaGreatM1
import Derived.BigQuiet
namespace Go.Proofs.YtjfpeklfgnajoaaGreat.L6
set_option linter.unusedVariables false

abbrev Tok := Int × SV
abbrev Th := Int × SV
def tk (t : Th) : Tok := (2 * t.1 + 1, t.2)
def sp (k : Int) : Tok := (2 * k, sv0)
def thing1 (t : Tok) : Option Th := if t.1 % 2 = 1 then some ((t.1 - 1) / 2, t.2) else none
def items (M : List Tok) : List Th := M.filterMap thing1
def Srt (M : List Tok) : Prop := M.Pairwise (fun a b => a.1 < b.1)

theorem thing1_tk (t : Th) : thing1 (tk t) = some t := by
  unfold thing1 tk
  rw [if_pos (by dsimp only; omega)]
  congr 1
  ext
  · show (2 * t.1 + 1 - 1) / 2 = t.1
    omega
  · rfl
theorem thing1_sp (k : Int) : thing1 (sp k) = none := by
  unfold thing1 sp
  rw [if_neg (by dsimp only; omega)]
theorem items_append (a b : List Tok) : items (a ++ b) = items a ++ items b := List.filterMap_append ..
theorem items_map (L : List Th) : items (L.map tk) = L := by
  induction L with
  | nil => rfl
  | cons t L ih =>
    show (t :: L |>.map tk).filterMap thing1 = _
    rw [List.map_cons, List.filterMap_cons_some (thing1_tk t)]
    exact congrArg _ ih
theorem items_sp (k : Int) (M : List Tok) : items (sp k :: M) = items M := List.filterMap_cons_none (thing1_sp k)
theorem items_mem {M : List Tok} {t : Th} (h : t ∈ items M) : ∃ c ∈ M, c.1 = 2 * t.1 + 1 := by
  obtain ⟨c, hc, he⟩ := List.mem_filterMap.1 h
  refine ⟨c, hc, ?_⟩
  unfold thing1 at he
  split at he
  · rename_i hm
    cases he
    show c.1 = 2 * ((c.1 - 1) / 2) + 1
    omega
  · cases he

/-! ### lists of things -/
def Lt (x : Int) (L : List Th) : Prop := ∀ t ∈ L, t.1 < x
def Gt (x : Int) (L : List Th) : Prop := ∀ t ∈ L, x < t.1
def Rise (L : List Th) : Prop := L.Pairwise (fun a b => a.1 < b.1)

def getL (x : Int) : List Th → Option SV
  | [] => none
  | t :: L => if t.1 = x then some t.2 else getL x L
def putL (x : Int) (y : SV) : List Th → List Th
  | [] => [(x, y)]
  | t :: L => if t.1 < x then t :: putL x y L else if t.1 = x then (x, y) :: L else (x, y) :: t :: L
def delL (x : Int) (L : List Th) : List Th := L.filter (fun t => t.1 ≠ x)

theorem getL_lt {x : Int} : ∀ {P : List Th} (Q : List Th), Lt x P → getL x (P ++ Q) = getL x Q
  | [], _, _ => rfl
  | t :: P, Q, h => by
    have := h t (by simp)
    rw [List.cons_append, getL, if_neg (by omega)]
    exact getL_lt Q fun u hu => h u (by simp [hu])
theorem getL_gt {x : Int} : ∀ {Q : List Th}, Gt x Q → getL x Q = none
  | [], _ => rfl
  | t :: Q, h => by
    have := h t (by simp)
    rw [getL, if_neg (by omega)]
    exact getL_gt fun u hu => h u (by simp [hu])
theorem getL_append {x : Int} : ∀ (P : List Th) {Q : List Th}, Gt x Q → getL x (P ++ Q) = getL x P
  | [], Q, h => getL_gt h
  | t :: P, Q, h => by
    rw [List.cons_append, getL, getL]
    split
    · rfl
    · exact getL_append P h
theorem getL_mid {x : Int} {P m Q : List Th} (h1 : Lt x P) (h2 : Gt x Q) : getL x (P ++ (m ++ Q)) = getL x m := by rw [getL_lt _ h1, getL_append _ h2]
theorem putL_lt {x : Int} {y : SV} : ∀ {P : List Th} (Q : List Th), Lt x P → putL x y (P ++ Q) = P ++ putL x y Q
  | [], _, _ => rfl
  | t :: P, Q, h => by
    have := h t (by simp)
    rw [List.cons_append, putL, if_pos this, putL_lt Q fun u hu => h u (by simp [hu])]
    rfl
theorem putL_gt {x : Int} {y : SV} : ∀ {Q : List Th}, Gt x Q → putL x y Q = (x, y) :: Q
  | [], _ => rfl
  | t :: Q, h => by
    have := h t (by simp)
    rw [putL, if_neg (by omega), if_neg (by omega)]
theorem putL_append {x : Int} {y : SV} : ∀ (P : List Th) {Q : List Th}, Gt x Q → putL x y (P ++ Q) = putL x y P ++ Q
  | [], Q, h => by rw [List.nil_append, putL_gt h]; rfl
  | t :: P, Q, h => by
    rw [List.cons_append, putL, putL]
    split
    · rw [putL_append P h]; rfl
    · split <;> rfl
theorem putL_mid {x : Int} {y : SV} {P m Q : List Th} (h1 : Lt x P) (h2 : Gt x Q) : putL x y (P ++ (m ++ Q)) = P ++ (putL x y m ++ Q) := by rw [putL_lt _ h1, putL_append _ h2]
theorem delL_append (x : Int) (P Q : List Th) : delL x (P ++ Q) = delL x P ++ delL x Q := List.filter_append ..
theorem delL_lt {x : Int} {P : List Th} (h : Lt x P) : delL x P = P := List.filter_eq_self.2 fun t ht => by have := h t ht; simp; omega
theorem delL_gt {x : Int} {P : List Th} (h : Gt x P) : delL x P = P := List.filter_eq_self.2 fun t ht => by have := h t ht; simp; omega
theorem delL_mid {x : Int} {P m Q : List Th} (h1 : Lt x P) (h2 : Gt x Q) : delL x (P ++ (m ++ Q)) = P ++ (delL x m ++ Q) := by rw [delL_append, delL_append, delL_lt h1, delL_gt h2]

/-! ### a leaf's things, by the place of a key -/
theorem lt_of_pos {x : Int} {ks : List Int} {vs : List SV} {p : Nat} (h : Pos x ks p) : Lt x ((ks.take p).zip vs) := fun t ht => by
  have hm := (List.of_mem_zip ht).1
  obtain ⟨j, hj, e⟩ := List.mem_iff_getElem.1 hm
  rw [List.length_take] at hj
  have hjp : j < p := by omega
  have hjl : j < ks.length := by omega
  rw [List.getElem_take] at e
  have := h.lo j hjp
  rw [List.getD_eq_getElem?_getD, List.getElem?_eq_getElem hjl, Option.getD_some, e] at this
  exact this
theorem ge_of_pos {x : Int} {ks : List Int} {p : Nat} (h : Pos x ks p) : ∀ k ∈ ks.drop p, x ≤ k := fun k hk => by
  obtain ⟨j, hj, e⟩ := List.mem_iff_getElem.1 hk
  rw [List.length_drop] at hj
  rw [List.getElem_drop] at e
  have := h.hi (p + j) (by omega) (by omega)
  rw [List.getD_eq_getElem?_getD, List.getElem?_eq_getElem (by omega), Option.getD_some, e] at this
  exact this
/-- the key is not there: all behind is above it -/
theorem gt_of_none {x : Int} {ks : List Int} {p : Nat} (h : Pos x ks p) (hs : ks.Pairwise (· < ·)) (hf : found x ks p = false) : ∀ k ∈ ks.drop p, x < k := fun k hk => by
  have hge := ge_of_pos h k hk
  rcases Int.lt_or_eq_of_le hge with h' | rfl
  · exact h'
  · exfalso
    obtain ⟨j, hj, e⟩ := List.mem_iff_getElem.1 hk
    rw [List.length_drop] at hj
    rw [List.getElem_drop] at e
    have h0 : j ≠ 0 := fun e0 => by
      subst e0
      unfold found at hf
      rw [decide_eq_false_iff_not] at hf
      exact hf (by rw [List.getElem?_eq_getElem (by omega)]; simpa using e)
    have hp := h.hi p (Nat.le_refl _) (by omega)
    rw [List.getD_eq_getElem?_getD, List.getElem?_eq_getElem (by omega), Option.getD_some] at hp
    have := List.pairwise_iff_getElem.1 hs p (p + j) (by omega) (by omega) (by omega)
    omega
/-- the key is there: all behind it is above -/
theorem gt_of_some {x : Int} {ks : List Int} {p : Nat} (hs : ks.Pairwise (· < ·)) (hp : p < ks.length) (he : ks[p] = x) : ∀ k ∈ ks.drop (p + 1), x < k := fun k hk => by
  obtain ⟨j, hj, e⟩ := List.mem_iff_getElem.1 hk
  rw [List.length_drop] at hj
  rw [List.getElem_drop] at e
  have := List.pairwise_iff_getElem.1 hs p (p + 1 + j) hp (by omega) (by omega)
  omega
theorem gt_zip {x : Int} {ks : List Int} {vs : List SV} (h : ∀ k ∈ ks, x < k) : Gt x (ks.zip vs) := fun t ht => h _ (List.of_mem_zip ht).1

theorem zip_split {ks : List Int} {vs : List SV} (p : Nat) (hl : vs.length = ks.length) : ks.zip vs = (ks.take p).zip (vs.take p) ++ (ks.drop p).zip (vs.drop p) := by
  rw [← List.zip_append (by simp [hl]), List.take_append_drop, List.take_append_drop]
theorem drop_cons {α : Type} {l : List α} {p : Nat} (h : p < l.length) : l.drop p = l[p] :: l.drop (p + 1) := List.drop_eq_getElem_cons h

section
variable {x : Int} {ks : List Int} {vs : List SV} {p : Nat}
theorem leaf_get_none (hl : vs.length = ks.length) (h : Pos x ks p) (hs : ks.Pairwise (· < ·)) (hf : found x ks p = false) : getL x (ks.zip vs) = none := by
  rw [zip_split p hl, getL_lt _ (lt_of_pos h), getL_gt (gt_zip (gt_of_none h hs hf))]
theorem leaf_get_some (hl : vs.length = ks.length) (h : Pos x ks p) (hp : p < ks.length) (he : ks[p] = x) : getL x (ks.zip vs) = some (vs.getD p sv0) := by
  have hv : p < vs.length := by omega
  rw [zip_split p hl, getL_lt _ (lt_of_pos h), drop_cons hp, drop_cons hv, List.zip_cons_cons, getL, if_pos he, List.getD_eq_getElem?_getD, List.getElem?_eq_getElem hv]
  rfl
theorem leaf_put_none (y : SV) (hl : vs.length = ks.length) (h : Pos x ks p) (hs : ks.Pairwise (· < ·)) (hf : found x ks p = false) :
    (ks.take p ++ x :: ks.drop p).zip (vs.take p ++ y :: vs.drop p) = putL x y (ks.zip vs) := by
  rw [zip_split p hl, putL_lt _ (lt_of_pos h), putL_gt (gt_zip (gt_of_none h hs hf)), List.zip_append (by simp [hl])]
  rfl
theorem leaf_put_some (y : SV) (hl : vs.length = ks.length) (h : Pos x ks p) (hp : p < ks.length) (he : ks[p] = x) : ks.zip (vs.set p y) = putL x y (ks.zip vs) := by
  have hv : p < vs.length := by omega
  rw [zip_split p hl, putL_lt _ (lt_of_pos h), drop_cons hp, drop_cons hv, List.zip_cons_cons, putL, if_neg (by dsimp only; omega), if_pos he]
  rw [zip_split p (vs := vs.set p y) (by simpa using hl), drop_cons hp, drop_cons (l := vs.set p y) (by simpa using hv), List.zip_cons_cons]
  rw [List.take_set_of_le (Nat.le_refl p), List.getElem_set_self, he, List.drop_set_of_lt (by omega)]
theorem leaf_del_some (hl : vs.length = ks.length) (h : Pos x ks p) (hs : ks.Pairwise (· < ·)) (hp : p < ks.length) (he : ks[p] = x) :
    (ks.take p ++ ks.drop (p + 1)).zip (vs.take p ++ vs.drop (p + 1)) = delL x (ks.zip vs) := by
  have hv : p < vs.length := by omega
  rw [zip_split p hl, delL_append, delL_lt (lt_of_pos h), drop_cons hp, drop_cons hv, List.zip_cons_cons, List.zip_append (by simp [hl])]
  congr 1
  show _ = List.filter _ _
  rw [List.filter_cons_of_neg (by simp [he])]
  exact (delL_gt (gt_zip (gt_of_some hs hp he))).symm
theorem leaf_del_none (hl : vs.length = ks.length) (h : Pos x ks p) (hs : ks.Pairwise (· < ·)) (hf : found x ks p = false) : delL x (ks.zip vs) = ks.zip vs := by
  rw [zip_split p hl, delL_append, delL_lt (lt_of_pos h), delL_gt (gt_zip (gt_of_none h hs hf))]
end

/-! ### sorted tokens -/
theorem srt_append {A B : List Tok} : Srt (A ++ B) ↔ Srt A ∧ Srt B ∧ ∀ a ∈ A, ∀ b ∈ B, a.1 < b.1 := List.pairwise_append
theorem srt_mid {A M B : List Tok} (h : Srt (A ++ (M ++ B))) : Srt M := (srt_append.1 (srt_append.1 h).2.1).1
theorem srt_cons {t : Tok} {B : List Tok} : Srt (t :: B) ↔ (∀ b ∈ B, t.1 < b.1) ∧ Srt B := List.pairwise_cons
theorem srt_sub {A B : List Tok} (h : Srt B) (s : A.Sublist B) : Srt A := List.Pairwise.sublist s h
theorem srt_map_tk {L : List Th} : Srt (L.map tk) ↔ Rise L := by
  unfold Srt Rise
  rw [List.pairwise_map]
  constructor
  · intro h
    exact h.imp fun {a b} hab => by unfold tk at hab; dsimp only at hab; omega
  · intro h
    exact h.imp fun {a b} hab => by unfold tk; dsimp only; omega
theorem rise_items {M : List Tok} (h : Srt M) : Rise (items M) := by
  unfold Rise items
  rw [List.pairwise_filterMap]
  refine h.imp fun {a b} hab t ht u hu => ?_
  unfold thing1 at ht hu
  split at ht
  · split at hu
    · cases ht; cases hu
      show (a.1 - 1) / 2 < (b.1 - 1) / 2
      omega
    · cases hu
  · cases ht
theorem lt_items {x : Int} {A : List Tok} (h : ∀ a ∈ A, a.1 < 2 * x + 1) : Lt x (items A) := fun t ht => by
  obtain ⟨c, hc, e⟩ := items_mem ht
  have := h c hc
  omega
theorem gt_items {x : Int} {A : List Tok} (h : ∀ a ∈ A, 2 * x + 1 < a.1) : Gt x (items A) := fun t ht => by
  obtain ⟨c, hc, e⟩ := items_mem ht
  have := h c hc
  omega

/-- a leaf put into: still sorted within its neighbours -/
theorem srt_put {A B : List Tok} {L : List Th} {x : Int} {y : SV} (h : Srt (A ++ (L.map tk ++ B))) (hA : ∀ a ∈ A, a.1 < 2 * x + 1) (hB : ∀ b ∈ B, 2 * x + 1 < b.1) : Srt (A ++ ((putL x y L).map tk ++ B)) := by
  have mem : ∀ (L : List Th) (t : Th), t ∈ putL x y L → t ∈ L ∨ t = (x, y) := fun L => by
    induction L with
    | nil => intro t ht; right; simpa [putL] using ht
    | cons u L ih =>
      intro t ht
      rw [putL] at ht
      split at ht
      · rcases List.mem_cons.1 ht with rfl | ht
        · left; simp
        · rcases ih t ht with h | h
          · left; simp [h]
          · right; exact h
      · split at ht
        · rcases List.mem_cons.1 ht with rfl | ht
          · right; rfl
          · left; simp [ht]
        · rcases List.mem_cons.1 ht with rfl | ht
          · right; rfl
          · left; exact ht
  have rise : ∀ L : List Th, Rise L → Rise (putL x y L) := fun L => by
    induction L with
    | nil => intro _; simp [putL, Rise]
    | cons u L ih =>
      intro hr
      have hr' := List.pairwise_cons.1 hr
      rw [putL]
      split
      · rename_i hlt
        refine List.pairwise_cons.2 ⟨fun t ht => ?_, ih hr'.2⟩
        rcases mem L t ht with h | rfl
        · exact hr'.1 t h
        · exact hlt
      · split
        · rename_i he
          exact List.pairwise_cons.2 ⟨fun t ht => by have := hr'.1 t ht; rw [he] at this; exact this, hr'.2⟩
        · refine List.pairwise_cons.2 ⟨fun t ht => ?_, hr⟩
          rcases List.mem_cons.1 ht with rfl | ht
          · dsimp only; omega
          · have := hr'.1 t ht; dsimp only; omega
  obtain ⟨h1, h2, h3⟩ := srt_append.1 h
  obtain ⟨h4, h5, h6⟩ := srt_append.1 h2
  have hm : ∀ c ∈ (putL x y L).map tk, c ∈ L.map tk ∨ c.1 = 2 * x + 1 := fun c hc => by
    obtain ⟨t, ht, rfl⟩ := List.mem_map.1 hc
    rcases mem L t ht with h | rfl
    · left; exact List.mem_map_of_mem h
    · right; rfl
  refine srt_append.2 ⟨h1, srt_append.2 ⟨srt_map_tk.2 (rise L (srt_map_tk.1 h4)), h5, fun c hc b hb => ?_⟩, fun a ha c hc => ?_⟩
  · rcases hm c hc with h | h
    · exact h6 c h b hb
    · have := hB b hb; omega
  · rcases List.mem_append.1 hc with hc | hc
    · rcases hm c hc with h | h
      · exact h3 a ha c (by simp [h])
      · have := hA a ha; omega
    · exact h3 a ha c (by simp [hc])
/-- a leaf halved: the key between -/
theorem srt_halve {A B : List Tok} {L1 L2 : List Th} {k : Int} (h : Srt (A ++ ((L1 ++ L2).map tk ++ B))) (h0 : L1 ≠ []) (hk : ∃ v L, L2 = (k, v) :: L) : Srt (A ++ ((L1.map tk ++ sp k :: L2.map tk) ++ B)) := by
  obtain ⟨v, L, rfl⟩ := hk
  rw [List.map_append, List.append_assoc] at h
  obtain ⟨h1, h2, h3⟩ := srt_append.1 h
  obtain ⟨h4, h5, h6⟩ := srt_append.1 h2
  obtain ⟨l0, L1', rfl⟩ : ∃ l0 L', L1 = l0 :: L' := by cases L1 with | nil => exact absurd rfl h0 | cons a b => exact ⟨a, b, rfl⟩
  have hk1 : ∀ t ∈ (l0 :: L1').map tk, t.1 < 2 * k := fun c hc => by
    obtain ⟨t, ht, rfl⟩ := List.mem_map.1 hc
    have := h6 _ hc (tk (k, v)) (by simp)
    unfold tk at this ⊢
    dsimp only at this ⊢
    omega
  rw [List.append_assoc]
  refine srt_append.2 ⟨h1, srt_append.2 ⟨h4, ?_, fun c hc b hb => ?_⟩, fun a ha c hc => ?_⟩
  · refine srt_cons.2 ⟨fun b hb => ?_, h5⟩
    have hb' : b ∈ tk (k, v) :: (L.map tk ++ B) := hb
    have h5' : Srt (tk (k, v) :: (L.map tk ++ B)) := h5
    rcases List.mem_cons.1 hb' with rfl | hb
    · unfold sp tk; dsimp only; omega
    · have := (srt_cons.1 h5').1 b hb
      unfold sp; unfold tk at this; dsimp only at this ⊢; omega
  · rcases List.mem_cons.1 hb with rfl | hb
    · exact hk1 c hc
    · exact h6 c hc b hb
  · rcases List.mem_append.1 hc with hc | hc
    · exact h3 a ha c (by simp only [List.mem_append]; left; exact hc)
    · rcases List.mem_cons.1 hc with rfl | hc
      · have := h3 a ha (tk l0) (by simp)
        have := hk1 (tk l0) (by simp)
        show a.1 < 2 * k
        omega
      · exact h3 a ha c (by simp only [List.mem_append]; right; exact List.mem_append.1 hc)
end Go.Proofs.YtjfpeklfgnajoaaGreat.L6

namespace Go.Proofs.YtjfpeklfgnajoaaGreat.L6
open Go.RowKit Reg
set_option linter.unusedVariables false

/-! ### the tokens of an inner node -/
def preW : List Int → List (List Tok) → List Tok
  | k :: ks, m :: ms => m ++ sp k :: preW ks ms
  | _, _ => []
def postW : List Int → List (List Tok) → List Tok
  | k :: ks, m :: ms => sp k :: (m ++ postW ks ms)
  | _, _ => []
def weave : List Int → List (List Tok) → List Tok
  | ks, m :: ms => m ++ postW ks ms
  | _, [] => []

theorem postW_ne (k : Int) (ks : List Int) (m : List Tok) (ms : List (List Tok)) : postW (k :: ks) (m :: ms) = sp k :: weave ks (m :: ms) := rfl
theorem weave_split : ∀ (k1 : List Int) (l : List (List Tok)) (k2 : List Int) (m : List Tok) (r : List (List Tok)), l.length = k1.length → weave (k1 ++ k2) (l ++ m :: r) = preW k1 l ++ (m ++ postW k2 r)
  | [], [], k2, m, r, _ => rfl
  | k :: k1, a :: l, k2, m, r, h => by
    have ih := weave_split k1 l k2 m r (by simpa using h)
    have e : postW (k :: (k1 ++ k2)) (l ++ m :: r) = sp k :: weave (k1 ++ k2) (l ++ m :: r) := by
      cases l with
      | nil => exact postW_ne _ _ _ _
      | cons b l => exact postW_ne _ _ _ _
    show a ++ postW (k :: (k1 ++ k2)) (l ++ m :: r) = (a ++ sp k :: preW k1 l) ++ _
    rw [e, ih, List.append_assoc]
    rfl
  | [], a :: l, _, _, _, h => by simp at h
  | k :: k1, [], _, _, _, h => by simp at h
theorem preW_append : ∀ (k1 : List Int) (l : List (List Tok)) (k : Int) (m : List Tok), l.length = k1.length → preW (k1 ++ [k]) (l ++ [m]) = preW k1 l ++ (m ++ [sp k])
  | [], [], k, m, _ => by simp [preW]
  | a :: k1, b :: l, k, m, h => by
    have ih := preW_append k1 l k m (by simpa using h)
    show b ++ sp a :: preW (k1 ++ [k]) (l ++ [m]) = (b ++ sp a :: preW k1 l) ++ _
    rw [ih, List.append_assoc]
    rfl
  | [], a :: l, _, _, h => by simp at h
  | k :: k1, [], _, _, h => by simp at h
theorem pre_lt {x : Int} : ∀ (k1 : List Int) (l : List (List Tok)), Srt (preW k1 l) → (∀ k ∈ k1, k ≤ x) → ∀ t ∈ preW k1 l, t.1 < 2 * x + 1
  | [], l, _, _, t, ht => by cases l <;> cases ht
  | k :: k1, [], _, _, t, ht => by cases ht
  | k :: k1, m :: l, hs, hk, t, ht => by
    have hkx := hk k (by simp)
    obtain ⟨h1, h2, h3⟩ := srt_append.1 (show Srt (m ++ sp k :: preW k1 l) from hs)
    rcases List.mem_append.1 (show t ∈ m ++ sp k :: preW k1 l from ht) with ht | ht
    · have := h3 t ht (sp k) (by simp)
      unfold sp at this; dsimp only at this; omega
    · rcases List.mem_cons.1 ht with rfl | ht
      · unfold sp; dsimp only; omega
      · exact pre_lt k1 l (srt_cons.1 h2).2 (fun k hk' => hk k (by simp [hk'])) t ht
theorem post_gt {x : Int} : ∀ (k2 : List Int) (r : List (List Tok)), Srt (postW k2 r) → (∀ k ∈ k2, x < k) → ∀ t ∈ postW k2 r, 2 * x + 1 < t.1
  | [], r, _, _, t, ht => by cases r <;> cases ht
  | k :: k2, [], _, _, t, ht => by cases ht
  | k :: k2, m :: r, hs, hk, t, ht => by
    have hkx := hk k (by simp)
    have hs' := srt_cons.1 (show Srt (sp k :: (m ++ postW k2 r)) from hs)
    rcases List.mem_cons.1 (show t ∈ sp k :: (m ++ postW k2 r) from ht) with rfl | ht
    · unfold sp; dsimp only; omega
    · have := hs'.1 t ht
      unfold sp at this; dsimp only at this; omega
theorem seps_sub : ∀ (ks : List Int) (ms : List (List Tok)), ms.length = ks.length → (ks.map sp).Sublist (postW ks ms)
  | [], [], _ => List.nil_sublist _
  | k :: ks, m :: ms, h => by
    have ih := seps_sub ks ms (by simpa using h)
    exact List.Sublist.cons_cons _ (List.Sublist.trans ih (List.sublist_append_right _ _))
  | [], a :: l, h => by simp at h
  | k :: k1, [], h => by simp at h
theorem seps_rise {ks : List Int} {ms : List (List Tok)} (hl : ms.length = ks.length + 1) (h : Srt (weave ks ms)) : ks.Pairwise (· < ·) := by
  cases ms with
  | nil => simp at hl
  | cons m ms =>
    have hs : (ks.map sp).Sublist (weave ks (m :: ms)) := (seps_sub ks ms (by simpa using hl)).trans (List.sublist_append_right _ _)
    have := srt_sub h hs
    unfold Srt at this
    rw [List.pairwise_map] at this
    exact this.imp fun {a b} hab => by unfold sp at hab; dsimp only at hab; omega
theorem items_postW : ∀ (ks : List Int) (ms : List (List Tok)), ms.length = ks.length → items (postW ks ms) = ms.flatMap items
  | [], [], _ => rfl
  | k :: ks, m :: ms, h => by
    show items (sp k :: (m ++ postW ks ms)) = _
    rw [items_sp, items_append, items_postW ks ms (by simpa using h)]
    rfl
  | [], a :: l, h => by simp at h
  | k :: k1, [], h => by simp at h
theorem items_weave {ks : List Int} {ms : List (List Tok)} (h : ms.length = ks.length + 1) : items (weave ks ms) = ms.flatMap items := by
  cases ms with
  | nil => simp at h
  | cons m ms =>
    show items (m ++ postW ks ms) = _
    rw [items_append, items_postW ks ms (by simpa using h)]
    rfl

/-! ### a subtree -/
structure Sub where
  b : Nat
  n : Nat
  M : List Tok
  F : Nat → Prop

def Dj (a b : Sub) : Prop := ∀ k, a.F k → ¬ b.F k

structure OpenP (H : World → Sub → Prop) (w : World) (s : Sub) (N : Nd) (cs : List Sub) : Prop where
  na : NodeAt w N
  b : N.b = s.b
  vs : N.vs = []
  ps : N.ps = cs.map (·.b)
  n : s.n = cs.length
  len : cs.length = N.ks.length + 1
  M : s.M = weave N.ks (cs.map (·.M))
  held : ∀ c ∈ cs, H w c
  dj : cs.Pairwise Dj
  off : ∀ c ∈ cs, ∀ k, N.has k → ¬ c.F k
  F : ∀ k, s.F k ↔ (N.has k ∨ ∃ c ∈ cs, c.F k)

structure LeafP (w : World) (s : Sub) (N : Nd) : Prop where
  na : NodeAt w N
  b : N.b = s.b
  ps : N.ps = []
  len : N.vs.length = N.ks.length
  n : s.n = N.ks.length
  M : s.M = (N.ks.zip N.vs).map tk
  F : ∀ k, s.F k ↔ N.has k

def Held : Nat → World → Sub → Prop
  | 0, w, s => ∃ N, LeafP w s N
  | d + 1, w, s => ∃ N cs, OpenP (Held d) w s N cs ∧ ∀ c ∈ cs, 4 ≤ c.n ∧ c.n ≤ 8

theorem OpenP.lt_of {H : World → Sub → Prop} {w : World} {s : Sub} {N : Nd} {cs : List Sub} (h : OpenP H w s N cs) (hl : ∀ c ∈ cs, ∀ k, c.F k → k < w.heap.size) : ∀ k, s.F k → k < w.heap.size := fun k hk => by
  rcases (h.F k).1 hk with hk | ⟨c, hc, hk⟩
  · exact h.na.lt k hk
  · exact hl c hc k hk
theorem Held.lt : ∀ (d : Nat) {w : World} {s : Sub}, Held d w s → ∀ k, s.F k → k < w.heap.size
  | 0, w, s, ⟨N, h⟩, k, hk => h.na.lt k ((h.F k).1 hk)
  | d + 1, w, s, ⟨N, cs, h, _⟩, k, hk => h.lt_of (fun c hc k hk => Held.lt d (h.held c hc) k hk) k hk
theorem OpenP.lt {d : Nat} {w : World} {s : Sub} {N : Nd} {cs : List Sub} (h : OpenP (Held d) w s N cs) : ∀ k, s.F k → k < w.heap.size := h.lt_of fun c hc => Held.lt d (h.held c hc)
theorem LeafP.same {w w' : World} {s : Sub} {N : Nd} (h : LeafP w s N) (e : ∀ k, s.F k → w'.heap[k]? = w.heap[k]?) : LeafP w' s N := ⟨h.na.same fun k hk => e k ((h.F k).2 hk), h.b, h.ps, h.len, h.n, h.M, h.F⟩
theorem OpenP.same_of {H : World → Sub → Prop} {w w' : World} {s : Sub} {N : Nd} {cs : List Sub} (h : OpenP H w s N cs) (e : ∀ k, s.F k → w'.heap[k]? = w.heap[k]?) (hs : ∀ c ∈ cs, H w' c) : OpenP H w' s N cs :=
  ⟨h.na.same fun k hk => e k ((h.F k).2 (.inl hk)), h.b, h.vs, h.ps, h.n, h.len, h.M, hs, h.dj, h.off, h.F⟩
theorem Held.same : ∀ (d : Nat) {w w' : World} {s : Sub}, Held d w s → (∀ k, s.F k → w'.heap[k]? = w.heap[k]?) → Held d w' s
  | 0, w, w', s, ⟨N, h⟩, e => ⟨N, h.same e⟩
  | d + 1, w, w', s, ⟨N, cs, h, hn⟩, e => ⟨N, cs, h.same_of e fun c hc => Held.same d (h.held c hc) fun k hk => e k ((h.F k).2 (.inr ⟨c, hc, hk⟩)), hn⟩
theorem Held.fr {d : Nat} {w w' : World} {s : Sub} {F : Nat → Prop} (h : Held d w s) (hf : Fr F w w') (ho : ∀ k, s.F k → ¬ F k) : Held d w' s := h.same d fun k hk => hf.block k (h.lt d k hk) (ho k hk)
theorem Held.rb {d : Nat} {w w' : World} {s : Sub} (h : Held d w s) (hr : Rb w w') : Held d w' s := h.same d fun k hk => hr.block k (h.lt d k hk)
theorem OpenP.rb {d : Nat} {w w' : World} {s : Sub} {N : Nd} {cs : List Sub} (h : OpenP (Held d) w s N cs) (hr : Rb w w') : OpenP (Held d) w' s N cs :=
  h.same_of (fun k hk => hr.block k (h.lt k hk)) fun c hc => (h.held c hc).rb hr

/-- the node at the root of a subtree -/
theorem Held.node : ∀ {d : Nat} {w : World} {s : Sub}, Held d w s → ∃ N, NodeAt w N ∧ N.b = s.b ∧ sizeN N = s.n ∧ isLeaf N = decide (d = 0)
  | 0, w, s, ⟨N, h⟩ => ⟨N, h.na, h.b, by unfold sizeN isLeaf; rw [h.ps]; exact h.n.symm, by unfold isLeaf; rw [h.ps]; rfl⟩
  | d + 1, w, s, ⟨N, cs, h, _⟩ => by
    have hl : N.ps.length = cs.length := by rw [h.ps, List.length_map]
    have h0 : isLeaf N = false := by unfold isLeaf; rw [decide_eq_false_iff_not, hl, h.len]; omega
    exact ⟨N, h.na, h.b, by unfold sizeN; rw [h0, h.n, ← hl]; rfl, by rw [h0]; rfl⟩

/-- what an operation makes of a subtree -/
structure Tn (w : World) (s : Sub) (w' : World) (s' : Sub) : Prop where
  b : s'.b = s.b
  fr : Fr s.F w w'
  F : ∀ k, s'.F k → s.F k ∨ w.heap.size ≤ k
theorem Tn.refl (w : World) (s : Sub) : Tn w s w s := ⟨rfl, Fr.refl _ _, fun _ h => .inl h⟩
theorem Tn.trans {w w1 w2 : World} {s s1 s2 : Sub} (h : Tn w s w1 s1) (k : Tn w1 s1 w2 s2) : Tn w s w2 s2 :=
  ⟨k.b.trans h.b, h.fr.trans k.fr h.F, fun i hi => by
    rcases k.F i hi with h' | h'
    · exact h.F i h'
    · have := h.fr.size; exact .inr (by omega)⟩
theorem Tn.of_rb {w w' : World} (s : Sub) (h : Rb w w') : Tn w s w' s := ⟨rfl, Fr.of_rb h, fun _ h => .inl h⟩

/-- the subtree's other numbers -/
def Sub.mk' (N : Nd) (n : Nat) (M : List Tok) (cs : List Sub) : Sub := ⟨N.b, n, M, fun k => N.has k ∨ ∃ c ∈ cs, c.F k⟩

/-- one part turned: the node with it -/
theorem OpenP.part {d : Nat} {w w' : World} {s : Sub} {N : Nd} {l r : List Sub} {c c' : Sub} (h : OpenP (Held d) w s N (l ++ c :: r)) (hc : Held d w' c') (t : Tn w c w' c') :
    ∃ s', OpenP (Held d) w' s' N (l ++ c' :: r) ∧ Tn w s w' s' ∧ s'.n = s.n := by
  have hd := List.pairwise_append.1 h.dj
  have hd2 := List.pairwise_cons.1 hd.2.1
  have cF : ∀ k, c.F k → s.F k := fun k hk => (h.F k).2 (.inr ⟨c, by simp, hk⟩)
  have keep : ∀ x ∈ l ++ r, (∀ k, x.F k → ¬ c.F k) ∧ Held d w x := fun x hx => by
    rcases List.mem_append.1 hx with hx | hx
    · exact ⟨fun k hk hk' => hd.2.2 x hx c (by simp) k hk hk', h.held x (by simp [hx])⟩
    · exact ⟨fun k hk hk' => hd2.1 x hx k hk' hk, h.held x (by simp [hx])⟩
  have new : ∀ x ∈ l ++ r, ∀ k, x.F k → ¬ c'.F k := fun x hx k hk hk' => by
    rcases t.F k hk' with h' | h'
    · exact (keep x hx).1 k hk h'
    · have := (keep x hx).2.lt d k hk; omega
  refine ⟨⟨s.b, s.n, weave N.ks ((l ++ c' :: r).map (·.M)), fun k => N.has k ∨ ∃ x ∈ l ++ c' :: r, x.F k⟩, ⟨?_, h.b, h.vs, ?_, ?_, ?_, rfl, fun x hx => ?_, ?_, fun x hx k hk => ?_, fun k => Iff.rfl⟩, ⟨rfl, ?_, fun k hk => ?_⟩, rfl⟩
  · exact h.na.fr t.fr fun k hk => h.off c (by simp) k hk
  · rw [h.ps]; simp [t.b]
  · rw [h.n]; simp
  · have := h.len; simp at this ⊢; omega
  · simp only [List.mem_append, List.mem_cons] at hx
    rcases hx with hx | rfl | hx
    · exact (keep x (by simp [hx])).2.fr t.fr (keep x (by simp [hx])).1
    · exact hc
    · exact (keep x (by simp [hx])).2.fr t.fr (keep x (by simp [hx])).1
  · refine List.pairwise_append.2 ⟨hd.1, List.pairwise_cons.2 ⟨fun x hx k hk hk' => new x (by simp [hx]) k hk' hk, hd2.2⟩, fun x hx y hy => ?_⟩
    rcases List.mem_cons.1 hy with rfl | hy
    · exact new x (by simp [hx])
    · exact hd.2.2 x hx y (by simp [hy])
  · simp only [List.mem_append, List.mem_cons] at hx
    rcases hx with hx | rfl | hx
    · exact h.off x (by simp [hx]) k hk
    · intro hk'
      rcases t.F k hk' with h' | h'
      · exact h.off c (by simp) k hk h'
      · have := h.na.lt k hk; omega
    · exact h.off x (by simp [hx]) k hk
  · exact t.fr.mono fun k hk _ => cF k hk
  · rcases hk with hk | ⟨x, hx, hk⟩
    · exact .inl ((h.F k).2 (.inl hk))
    · simp only [List.mem_append, List.mem_cons] at hx
      rcases hx with hx | rfl | hx
      · exact .inl ((h.F k).2 (.inr ⟨x, by simp [hx], hk⟩))
      · rcases t.F k hk with h' | h'
        · exact .inl (cF k h')
        · exact .inr h'
      · exact .inl ((h.F k).2 (.inr ⟨x, by simp [hx], hk⟩))
end Go.Proofs.YtjfpeklfgnajoaaGreat.L6

namespace Go.Proofs.YtjfpeklfgnajoaaGreat.L6
open Go.RowKit Reg
set_option linter.unusedVariables false

/-- other tokens for the same things -/
def Ext (M M' : List Tok) : Prop := (∀ A B, Srt (A ++ (M ++ B)) → Srt (A ++ (M' ++ B))) ∧ items M' = items M
theorem Ext.refl (M : List Tok) : Ext M M := ⟨fun _ _ h => h, rfl⟩
theorem Ext.trans {a b c : List Tok} (h : Ext a b) (k : Ext b c) : Ext a c := ⟨fun A B x => k.1 A B (h.1 A B x), k.2.trans h.2⟩
theorem Ext.mid {m m' : List Tok} (P Q : List Tok) (h : Ext m m') : Ext (P ++ (m ++ Q)) (P ++ (m' ++ Q)) := by
  refine ⟨fun A B x => ?_, by rw [items_append, items_append, items_append, items_append, h.2]⟩
  have e : ∀ z : List Tok, A ++ ((P ++ (z ++ Q)) ++ B) = (A ++ P) ++ (z ++ (Q ++ B)) := fun z => by simp
  rw [e] at x ⊢
  exact h.1 _ _ x
theorem Ext.sub {m m' : List Tok} (h : m'.Sublist m) (hi : items m' = items m) : Ext m m' :=
  ⟨fun A B x => srt_sub x (List.Sublist.append_left (List.Sublist.append_right h B) A), hi⟩

theorem OpenP.split {d : Nat} {w w' : World} {s : Sub} {N C N' C' M : Nd} {l r : List Sub} {c c1 c2 : Sub} {key : Int} (h : OpenP (Held d) w s N (l ++ c :: r)) (S : Spl w N C w' N' C' M) (hC : ∀ k, C.has k → c.F k)
    (h1 : Held d w' c1) (h2 : Held d w' c2) (f1 : ∀ k, c1.F k → c.F k) (f2 : ∀ k, c2.F k → c.F k ∨ M.has k) (dj : Dj c1 c2) (b1 : c1.b = c.b) (b2 : c2.b = M.b)
    (eks : N'.ks = N.ks.take l.length ++ key :: N.ks.drop l.length) (eps : N'.ps = N.ps.take (l.length + 1) ++ M.b :: N.ps.drop (l.length + 1)) (evs : N'.vs = [])
    (hM : Ext c.M (c1.M ++ sp key :: c2.M)) :
    ∃ s', OpenP (Held d) w' s' N' (l ++ c1 :: c2 :: r) ∧ Tn w s w' s' ∧ s'.n = s.n + 1 ∧ Ext s.M s'.M := by
  have hd := List.pairwise_append.1 h.dj
  have hd2 := List.pairwise_cons.1 hd.2.1
  have cF : ∀ k, c.F k → s.F k := fun k hk => (h.F k).2 (.inr ⟨c, by simp, hk⟩)
  have keep : ∀ x ∈ l ++ r, (∀ k, x.F k → ¬ c.F k) ∧ Held d w x ∧ (∀ k, N.has k → ¬ x.F k) := fun x hx => by
    rcases List.mem_append.1 hx with hx | hx
    · exact ⟨fun k hk hk' => hd.2.2 x hx c (by simp) k hk hk', h.held x (by simp [hx]), h.off x (by simp [hx])⟩
    · exact ⟨fun k hk hk' => hd2.1 x hx k hk' hk, h.held x (by simp [hx]), h.off x (by simp [hx])⟩
  have kept : ∀ x ∈ l ++ r, Held d w' x := fun x hx => by
    obtain ⟨a, b, e⟩ := keep x hx
    exact b.fr S.fr fun k hk hk' => by
      rcases hk' with hk' | hk'
      · exact e k hk' hk
      · exact a k hk (hC k hk')
  have n1 : ∀ x ∈ l ++ r, ∀ k, x.F k → ¬ c1.F k := fun x hx k hk hk' => (keep x hx).1 k hk (f1 k hk')
  have n2 : ∀ x ∈ l ++ r, ∀ k, x.F k → ¬ c2.F k := fun x hx k hk hk' => by
    rcases f2 k hk' with h' | h'
    · exact (keep x hx).1 k hk h'
    · have a := S.mh k h'; have b := (keep x hx).2.1.lt d k hk; omega
  have kl : l.length ≤ N.ks.length := by have := h.len; simp at this; omega
  have htk : (N.ks.take l.length).length = l.length := by rw [List.length_take]; omega
  have e0 : s.M = preW (N.ks.take l.length) (l.map (·.M)) ++ (c.M ++ postW (N.ks.drop l.length) (r.map (·.M))) := by
    have hw := weave_split (N.ks.take l.length) (l.map (·.M)) (N.ks.drop l.length) c.M (r.map (·.M)) (by rw [List.length_map, htk])
    rw [List.take_append_drop] at hw
    rw [h.M, ← hw]
    simp
  have e1 : weave N'.ks ((l ++ c1 :: c2 :: r).map (·.M)) = preW (N.ks.take l.length) (l.map (·.M)) ++ ((c1.M ++ sp key :: c2.M) ++ postW (N.ks.drop l.length) (r.map (·.M))) := by
    have hw := weave_split (N.ks.take l.length) (l.map (·.M)) (key :: N.ks.drop l.length) c1.M (c2.M :: r.map (·.M)) (by rw [List.length_map, htk])
    rw [eks]
    rw [show (l ++ c1 :: c2 :: r).map (·.M) = l.map (·.M) ++ c1.M :: c2.M :: r.map (·.M) by simp, hw]
    show _ ++ (_ ++ (sp key :: (c2.M ++ _))) = _
    simp
  refine ⟨⟨s.b, s.n + 1, weave N'.ks ((l ++ c1 :: c2 :: r).map (·.M)), fun k => N'.has k ∨ ∃ x ∈ l ++ c1 :: c2 :: r, x.F k⟩, ⟨S.na, S.nb.trans h.b, evs, ?_, ?_, ?_, rfl, fun x hx => ?_, ?_, fun x hx k hk => ?_, fun k => Iff.rfl⟩, ⟨rfl, ?_, fun k hk => ?_⟩, rfl, ?_⟩
  · rw [eps, h.ps]
    simp [b1, b2, List.take_append, List.drop_append, List.take_of_length_le, List.drop_eq_nil_of_le]
  · show s.n + 1 = _
    rw [h.n]; simp; omega
  · rw [eks]; have := h.len; simp at this ⊢; omega
  · simp only [List.mem_append, List.mem_cons] at hx
    rcases hx with hx | rfl | rfl | hx
    · exact kept x (by simp [hx])
    · exact h1
    · exact h2
    · exact kept x (by simp [hx])
  · refine List.pairwise_append.2 ⟨hd.1, List.pairwise_cons.2 ⟨fun x hx => ?_, List.pairwise_cons.2 ⟨fun x hx k hk hk' => n2 x (by simp [hx]) k hk' hk, hd2.2⟩⟩, fun x hx y hy => ?_⟩
    · rcases List.mem_cons.1 hx with rfl | hx
      · exact dj
      · exact fun k hk hk' => n1 x (by simp [hx]) k hk' hk
    · simp only [List.mem_cons] at hy
      rcases hy with rfl | rfl | hy
      · exact n1 x (by simp [hx])
      · exact n2 x (by simp [hx])
      · exact hd.2.2 x hx y (by simp [hy])
  · have old : ∀ x ∈ l ++ r, ¬ x.F k := fun x hx hk' => by
      rcases S.nh k hk with h' | h'
      · exact (keep x hx).2.2 k h' hk'
      · have := (keep x hx).2.1.lt d k hk'; omega
    have oc : ¬ c.F k := fun hk' => by
      rcases S.nh k hk with h' | h'
      · exact h.off c (by simp) k h' hk'
      · have := (h.held c (by simp)).lt d k hk'; omega
    simp only [List.mem_append, List.mem_cons] at hx
    rcases hx with hx | rfl | rfl | hx
    · exact old x (by simp [hx])
    · exact fun hk' => oc (f1 k hk')
    · intro hk'
      rcases f2 k hk' with h' | h'
      · exact oc h'
      · exact S.oM k hk h'
    · exact old x (by simp [hx])
  · exact S.fr.mono fun k hk _ => by
      rcases hk with hk | hk
      · exact (h.F k).2 (.inl hk)
      · exact cF k (hC k hk)
  · rcases hk with hk | ⟨x, hx, hk⟩
    · rcases S.nh k hk with h' | h'
      · exact .inl ((h.F k).2 (.inl h'))
      · exact .inr h'
    · simp only [List.mem_append, List.mem_cons] at hx
      rcases hx with hx | rfl | rfl | hx
      · exact .inl ((h.F k).2 (.inr ⟨x, by simp [hx], hk⟩))
      · exact .inl (cF k (f1 k hk))
      · rcases f2 k hk with h' | h'
        · exact .inl (cF k h')
        · exact .inr (S.mh k h')
      · exact .inl ((h.F k).2 (.inr ⟨x, by simp [hx], hk⟩))
  · show Ext s.M (weave _ _)
    rw [e0, e1]
    exact Ext.mid _ _ hM

theorem split_leaf (w : World) (s : Sub) (N : Nd) (l r : List Sub) (c : Sub) (h : OpenP (Held 0) w s N (l ++ c :: r)) (hn : (l ++ c :: r).length ≤ 20) (h9 : 9 ≤ c.n) (h16 : c.n ≤ 20) :
    Calls Tryz.prog 112 #[ptrv s.b, i64 l.length] w fun e w' => (∃ v, e = .returned v) ∧ ∃ s' N' c1 c2, OpenP (Held 0) w' s' N' (l ++ c1 :: c2 :: r) ∧ Tn w s w' s' ∧ s'.n = s.n + 1 ∧ Ext s.M s'.M ∧ c1.n = c.n / 2 ∧ c2.n = c.n - c.n / 2 := by
  obtain ⟨C, hc⟩ := h.held c (by simp)
  have hoff : ∀ k, N.has k → ¬ C.has k := fun k hk hk' => h.off c (by simp) k hk ((hc.F k).2 hk')
  have hps : N.ps[l.length]? = some C.b := by rw [h.ps, hc.b]; simp
  have hlen : N.ps.length = N.ks.length + 1 := by rw [h.ps, List.length_map]; exact h.len
  have h100 : N.ps.length ≤ 100 := by rw [h.ps, List.length_map]; omega
  rw [hc.n] at h9 h16
  have hh := (halve_leaf w C hc.na hc.ps hc.len h9 (by omega)).mono (R' := fun e w' => ∃ C' M key, e = .returned (.tuple #[i64 key, ptrv M.b]) ∧ Two w C w' C' M ∧ (C'.ks = C.ks.take (C.ks.length / 2) ∧ C'.vs = C.vs.take (C.ks.length / 2) ∧ C'.ps = C.ps ∧ M.ks = C.ks.drop (C.ks.length / 2) ∧ M.vs = C.vs.drop (C.ks.length / 2) ∧ M.ps = [] ∧ key = C.ks.getD (C.ks.length / 2) 0)) (by
    rintro e w' ⟨kv, vv, pv, M, rfl, t, h1, h2, h3⟩
    exact ⟨_, M, _, rfl, t, rfl, rfl, rfl, h1, h2, h3, rfl⟩)
  rw [← h.b]
  refine (split_node w N C l.length (fun C' M key => C'.ks = C.ks.take (C.ks.length / 2) ∧ C'.vs = C.vs.take (C.ks.length / 2) ∧ C'.ps = C.ps ∧ M.ks = C.ks.drop (C.ks.length / 2) ∧ M.vs = C.vs.drop (C.ks.length / 2) ∧ M.ps = [] ∧ key = C.ks.getD (C.ks.length / 2) 0) h.na hc.na hoff hps hlen h100 hh).mono ?_
  rintro e w' ⟨hv, kv, pv, C', M, key, S, g1, g2, g3, g4, g5, g6, g7⟩
  refine ⟨hv, ?_⟩
  have hq : C.ks.length / 2 < C.ks.length := by omega
  have hlv := hc.len
  have hz := zip_split (C.ks.length / 2) hlv
  have hM : Ext c.M ((C'.ks.zip C'.vs).map tk ++ sp key :: (M.ks.zip M.vs).map tk) := by
    refine ⟨fun A B x => ?_, ?_⟩
    · rw [hc.M, hz] at x
      rw [g1, g2, g4, g5]
      refine srt_halve x ?_ ?_
      · intro e
        have := congrArg List.length e
        rw [List.length_zip, List.length_take, List.length_take, List.length_nil] at this
        omega
      · rw [drop_cons hq, drop_cons (l := C.vs) (by omega), List.zip_cons_cons, g7, List.getD_eq_getElem?_getD, List.getElem?_eq_getElem hq]
        exact ⟨_, _, rfl⟩
    · rw [items_append, items_sp, items_map, items_map, hc.M, items_map, g1, g2, g4, g5, ← hz]
  obtain ⟨s', o, t, e1, e2⟩ := h.split (c1 := ⟨C'.b, C'.ks.length, (C'.ks.zip C'.vs).map tk, C'.has⟩) (c2 := ⟨M.b, M.ks.length, (M.ks.zip M.vs).map tk, M.has⟩) (key := key) S (fun k hk => (hc.F k).2 hk)
    ⟨C', S.ca, rfl, by rw [g3]; exact hc.ps, by rw [g1, g2]; simp [hlv], rfl, rfl, fun k => Iff.rfl⟩ ⟨M, S.ma, rfl, g6, by rw [g4, g5]; simp [hlv], rfl, rfl, fun k => Iff.rfl⟩
    (fun k hk => (hc.F k).2 (S.ch k hk)) (fun k hk => .inr hk) (fun k hk hk' => by have a := S.mh k hk'; have b := hc.na.lt k (S.ch k hk); omega) (S.cb.trans hc.b) rfl rfl rfl h.vs hM
  exact ⟨s', _, _, _, o, t, e1, e2, by show C'.ks.length = _; rw [g1, hc.n, List.length_take]; omega, by show M.ks.length = _; rw [g4, hc.n, List.length_drop]⟩

theorem split_inner (d : Nat) (w : World) (s : Sub) (N : Nd) (l r : List Sub) (c : Sub) (h : OpenP (Held (d + 1)) w s N (l ++ c :: r)) (hn : (l ++ c :: r).length ≤ 20) (h9 : 9 ≤ c.n) (h16 : c.n ≤ 20) :
    Calls Tryz.prog 112 #[ptrv s.b, i64 l.length] w fun e w' => (∃ v, e = .returned v) ∧ ∃ s' N' c1 c2, OpenP (Held (d + 1)) w' s' N' (l ++ c1 :: c2 :: r) ∧ Tn w s w' s' ∧ s'.n = s.n + 1 ∧ Ext s.M s'.M ∧ c1.n = c.n / 2 ∧ c2.n = c.n - c.n / 2 := by
  obtain ⟨C, gs, hc, hg⟩ := h.held c (by simp)
  have hoff : ∀ k, N.has k → ¬ C.has k := fun k hk hk' => h.off c (by simp) k hk ((hc.F k).2 (.inl hk'))
  have hps : N.ps[l.length]? = some C.b := by rw [h.ps, hc.b]; simp
  have hlen : N.ps.length = N.ks.length + 1 := by rw [h.ps, List.length_map]; exact h.len
  have h100 : N.ps.length ≤ 100 := by rw [h.ps, List.length_map]; omega
  have cps : C.ps.length = gs.length := by rw [hc.ps, List.length_map]
  have cn := hc.n
  have cl := hc.len
  have hh := (halve_inner w C hc.na hc.vs (by omega) (by omega) (by omega)).mono (R' := fun e w' => ∃ C' M key, e = .returned (.tuple #[i64 key, ptrv M.b]) ∧ Two w C w' C' M ∧ (C'.ks = C.ks.take (C.ps.length / 2 - 1) ∧ C'.vs = C.vs ∧ C'.ps = C.ps.take (C.ps.length / 2) ∧ M.ks = C.ks.drop (C.ps.length / 2) ∧ M.vs = [] ∧ M.ps = C.ps.drop (C.ps.length / 2) ∧ key = C.ks.getD (C.ps.length / 2 - 1) 0)) (by
    rintro e w' ⟨kv, vv, pv, M, rfl, t, h1, h2, h3⟩
    exact ⟨_, M, _, rfl, t, rfl, rfl, rfl, h1, h2, h3, rfl⟩)
  rw [← h.b]
  refine (split_node w N C l.length (fun C' M key => C'.ks = C.ks.take (C.ps.length / 2 - 1) ∧ C'.vs = C.vs ∧ C'.ps = C.ps.take (C.ps.length / 2) ∧ M.ks = C.ks.drop (C.ps.length / 2) ∧ M.vs = [] ∧ M.ps = C.ps.drop (C.ps.length / 2) ∧ key = C.ks.getD (C.ps.length / 2 - 1) 0) h.na hc.na hoff hps hlen h100 hh).mono ?_
  rintro e w' ⟨hv, kv, pv, C', M, key, S, g1, g2, g3, g4, g5, g6, g7⟩
  refine ⟨hv, ?_⟩
  rw [cps] at g1 g3 g4 g6 g7
  obtain ⟨q, hq⟩ : ∃ q, q = gs.length / 2 := ⟨_, rfl⟩
  rw [← hq] at g1 g3 g4 g6 g7
  have kept : ∀ x ∈ gs, Held d w' x := fun x hx => (hc.held x hx).fr S.fr fun k hk hk' => by
    rcases hk' with hk' | hk'
    · exact h.off c (by simp) k hk' ((hc.F k).2 (.inr ⟨x, hx, hk⟩))
    · exact hc.off x hx k hk' hk
  have hdj : (gs.take q ++ gs.drop q).Pairwise Dj := by rw [List.take_append_drop]; exact hc.dj
  have hd := List.pairwise_append.1 hdj
  have mt : ∀ x ∈ gs.take q, x ∈ gs := fun x hx => List.mem_of_mem_take hx
  have md : ∀ x ∈ gs.drop q, x ∈ gs := fun x hx => List.mem_of_mem_drop hx
  have o1 : OpenP (Held d) w' (Sub.mk' C' (gs.take q).length (weave C'.ks ((gs.take q).map (·.M))) (gs.take q)) C' (gs.take q) :=
    ⟨S.ca, rfl, by rw [g2]; exact hc.vs, by rw [g3, hc.ps, List.map_take], rfl, by rw [g1]; simp; omega, rfl, fun x hx => kept x (mt x hx), hd.1, fun x hx k hk => hc.off x (mt x hx) k (S.ch k hk), fun k => Iff.rfl⟩
  have o2 : OpenP (Held d) w' (Sub.mk' M (gs.drop q).length (weave M.ks ((gs.drop q).map (·.M))) (gs.drop q)) M (gs.drop q) :=
    ⟨S.ma, rfl, g5, by rw [g6, hc.ps, List.map_drop], rfl, by rw [g4]; simp; omega, rfl, fun x hx => kept x (md x hx), hd.2.1, fun x hx k hk hk' => by
      have a := S.mh k hk; have b := (hc.held x (md x hx)).lt d k hk'; omega, fun k => Iff.rfl⟩
  have eM : c.M = weave C'.ks ((gs.take q).map (·.M)) ++ sp key :: weave M.ks ((gs.drop q).map (·.M)) := by
    have hk1 : q - 1 < C.ks.length := by omega
    have e1 : C.ks = C.ks.take (q - 1) ++ C.ks.drop (q - 1) := (List.take_append_drop _ _).symm
    have hg1 : q - 1 < gs.length := by omega
    have e2 : gs = gs.take (q - 1) ++ gs[q - 1] :: gs.drop q := by
      have := drop_cons hg1
      rw [show q - 1 + 1 = q by omega] at this
      rw [← this, List.take_append_drop]
    have hkd : C.ks.drop (q - 1) = key :: M.ks := by
      rw [drop_cons hk1, g4, g7, List.getD_eq_getElem?_getD, List.getElem?_eq_getElem hk1, show q - 1 + 1 = q by omega]
      rfl
    have hgt : gs.take q = gs.take (q - 1) ++ [gs[q - 1]] := by
      have := List.take_succ_eq_append_getElem hg1
      rw [show q - 1 + 1 = q by omega] at this
      exact this
    have hl : ((gs.take (q - 1)).map (·.M)).length = (C.ks.take (q - 1)).length := by simp; omega
    have w1 := weave_split (C.ks.take (q - 1)) ((gs.take (q - 1)).map (·.M)) (key :: M.ks) gs[q - 1].M ((gs.drop q).map (·.M)) hl
    have w2 := weave_split (C.ks.take (q - 1)) ((gs.take (q - 1)).map (·.M)) [] gs[q - 1].M [] hl
    rw [List.append_nil] at w2
    have c1 : weave C.ks (gs.map (·.M)) = weave (C.ks.take (q - 1) ++ key :: M.ks) ((gs.take (q - 1)).map (·.M) ++ gs[q - 1].M :: (gs.drop q).map (·.M)) := by
      rw [← hkd, ← e1]
      congr 1
      conv => lhs; rw [e2]
      simp
    have c2 : weave C'.ks ((gs.take q).map (·.M)) = weave (C.ks.take (q - 1)) ((gs.take (q - 1)).map (·.M) ++ [gs[q - 1].M]) := by
      rw [g1, hgt, List.map_append]
      rfl
    have hne : (gs.drop q).map (·.M) ≠ [] := by
      intro e
      have := congrArg List.length e
      simp at this
      omega
    obtain ⟨m, ms, hm⟩ : ∃ m ms, (gs.drop q).map (·.M) = m :: ms := by
      cases hx : (gs.drop q).map (·.M) with
      | nil => exact absurd hx hne
      | cons a b => exact ⟨a, b, rfl⟩
    rw [hc.M, c1, w1, c2, w2, hm, postW_ne]
    simp [postW]
  obtain ⟨s', o, t, e1, e2⟩ := h.split (c1 := Sub.mk' C' (gs.take q).length (weave C'.ks ((gs.take q).map (·.M))) (gs.take q)) (c2 := Sub.mk' M (gs.drop q).length (weave M.ks ((gs.drop q).map (·.M))) (gs.drop q)) (key := key) S (fun k hk => (hc.F k).2 (.inl hk))
    ⟨C', gs.take q, o1, fun x hx => hg x (mt x hx)⟩ ⟨M, gs.drop q, o2, fun x hx => hg x (md x hx)⟩
    (fun k hk => by
      rcases hk with hk | ⟨x, hx, hk⟩
      · exact (hc.F k).2 (.inl (S.ch k hk))
      · exact (hc.F k).2 (.inr ⟨x, mt x hx, hk⟩))
    (fun k hk => by
      rcases hk with hk | ⟨x, hx, hk⟩
      · exact .inr hk
      · exact .inl ((hc.F k).2 (.inr ⟨x, md x hx, hk⟩)))
    (fun k hk hk' => by
      rcases hk with hk | ⟨x, hx, hk⟩
      · rcases hk' with hk' | ⟨y, hy, hk'⟩
        · have a := S.mh k hk'; have b := hc.na.lt k (S.ch k hk); omega
        · exact hc.off y (md y hy) k (S.ch k hk) hk'
      · rcases hk' with hk' | ⟨y, hy, hk'⟩
        · have a := S.mh k hk'; have b := (hc.held x (mt x hx)).lt d k hk; omega
        · exact hd.2.2 x hx y hy k hk hk')
    (S.cb.trans hc.b) rfl rfl rfl h.vs (show Ext c.M (weave C'.ks ((gs.take q).map (·.M)) ++ sp key :: weave M.ks ((gs.drop q).map (·.M))) from eM ▸ Ext.refl _)
  exact ⟨s', _, _, _, o, t, e1, e2, by show (gs.take q).length = _; rw [cn, List.length_take, ← hq]; omega, by show (gs.drop q).length = _; rw [cn, List.length_drop, ← hq]⟩

theorem split_any (d : Nat) (w : World) (s : Sub) (N : Nd) (l r : List Sub) (c : Sub) (h : OpenP (Held d) w s N (l ++ c :: r)) (hn : (l ++ c :: r).length ≤ 20) (h9 : 9 ≤ c.n) (h16 : c.n ≤ 20) :
    Calls Tryz.prog 112 #[ptrv s.b, i64 l.length] w fun e w' => (∃ v, e = .returned v) ∧ ∃ s' N' c1 c2, OpenP (Held d) w' s' N' (l ++ c1 :: c2 :: r) ∧ Tn w s w' s' ∧ s'.n = s.n + 1 ∧ Ext s.M s'.M ∧ c1.n = c.n / 2 ∧ c2.n = c.n - c.n / 2 := by
  cases d with
  | zero => exact split_leaf w s N l r c h hn h9 h16
  | succ d => exact split_inner d w s N l r c h hn h9 h16
end Go.Proofs.YtjfpeklfgnajoaaGreat.L6

namespace Go.Proofs.YtjfpeklfgnajoaaGreat.L6
open Go.ChangeShapes Go.WideShapes Go.ChangeAt Go.RowKit By Reg
set_option linter.unusedVariables false

theorem Row.ptr_at {w : World} {e : TypeId} {v : Value} {ps : List Nat} (h : Row w e v (ps.map ptrv)) {j b : Nat} (hj : ps[j]? = some b) :
    ∃ g cap, v = .slice (some ⟨g, 0, none⟩) ps.length cap ∧ ps.length ≤ cap ∧ cap ≤ maxLen ∧ w.cell? ⟨g, j, none⟩ = some (ptrv b) := by
  have hjl := (List.getElem?_eq_some_iff.1 hj)
  obtain ⟨g, cap, h1, h2, h3, h4⟩ := h.at_ (j := j) (by rw [List.length_map]; exact hjl.1)
  rw [List.length_map] at h1 h2
  refine ⟨g, cap, h1, h2, h3, ?_⟩
  rw [h4, List.getElem_map, hjl.2]

theorem leaf_rise {w : World} {s : Sub} {N : Nd} {A B : List Tok} (h : LeafP w s N) (hs : Srt (A ++ (s.M ++ B))) : N.ks.Pairwise (· < ·) := by
  have h1 := srt_mid hs
  rw [h.M, srt_map_tk] at h1
  have h2 : ((N.ks.zip N.vs).map (·.1)).Pairwise (· < ·) := List.pairwise_map.2 h1
  have e : (N.ks.zip N.vs).map (·.1) = N.ks := List.map_fst_zip (by rw [h.len]; exact Nat.le_refl _)
  rwa [e] at h2

theorem Nx.leaf {w w' : World} {s : Sub} {N N' : Nd} (h : LeafP w s N) (x : Nx w N w' N') (hp : N'.ps = []) (hl : N'.vs.length = N'.ks.length) :
    Held 0 w' ⟨N'.b, N'.ks.length, (N'.ks.zip N'.vs).map tk, N'.has⟩ ∧ Tn w s w' ⟨N'.b, N'.ks.length, (N'.ks.zip N'.vs).map tk, N'.has⟩ :=
  ⟨⟨N', x.at_, rfl, hp, hl, rfl, rfl, fun k => Iff.rfl⟩, ⟨x.b.trans h.b, x.fr.mono (fun k hk _ => (h.F k).2 hk), fun k hk => by
    rcases x.has k hk with h' | h'
    · exact .inl ((h.F k).2 h')
    · exact .inr h'⟩⟩

/-- what put answers and leaves -/
def PutPost (x : Int) (y : SV) (d : Nat) (w : World) (s : Sub) (A B : List Tok) (e : Ending) (w' : World) : Prop :=
  ∃ s', e = .returned (.tuple #[sv ((getL x (items s.M)).getD sv0), .bool (getL x (items s.M)).isSome]) ∧ Held d w' s' ∧ Tn w s w' s' ∧ s.n ≤ s'.n ∧ s'.n ≤ s.n + 1 ∧ 1 ≤ s'.n ∧ Srt (A ++ (s'.M ++ B)) ∧ items s'.M = putL x y (items s.M)

theorem puthere_any (x : Int) (y : SV) (w : World) (s : Sub) (N : Nd) (A B : List Tok) (h : LeafP w s N) (hn : s.n ≤ 100) (hs : Srt (A ++ (s.M ++ B))) (hA : ∀ a ∈ A, a.1 < 2 * x + 1) (hB : ∀ b ∈ B, 2 * x + 1 < b.1) :
    Calls Tryz.prog 136 #[ptrv s.b, i64 x, sv y] w (PutPost x y 0 w s A B) := by
  have hr := leaf_rise h hs
  obtain ⟨p, hp⟩ := Pos.exists x N.ks hr
  have hnn := h.n
  have hi : items s.M = N.ks.zip N.vs := by rw [h.M, items_map]
  rw [← h.b]
  cases hf : found x N.ks p
  · refine (puthere_new w N x y p h.na h.len (by omega) hr hp hf).mono ?_
    rintro e w' ⟨rfl, kv', vv', X⟩
    have hpl := hp.le
    obtain ⟨a, t⟩ := Nx.leaf h X h.ps (by have := h.len; simp; omega)
    have hg := leaf_get_none h.len hp hr hf
    have hput := leaf_put_none y h.len hp hr hf
    refine ⟨_, by rw [hi, hg]; rfl, a, t, ?_, ?_, ?_, ?_, ?_⟩
    · show s.n ≤ (N.ks.take p ++ x :: N.ks.drop p).length
      simp; omega
    · show (N.ks.take p ++ x :: N.ks.drop p).length ≤ s.n + 1
      simp; omega
    · show 1 ≤ (N.ks.take p ++ x :: N.ks.drop p).length
      simp; omega
    · show Srt (A ++ (((N.ks.take p ++ x :: N.ks.drop p).zip (N.vs.take p ++ y :: N.vs.drop p)).map tk ++ B))
      rw [hput]
      rw [h.M] at hs
      exact srt_put hs hA hB
    · show items (((N.ks.take p ++ x :: N.ks.drop p).zip (N.vs.take p ++ y :: N.vs.drop p)).map tk) = _
      rw [items_map, hi, hput]
  · obtain ⟨hpl, hpe⟩ := found_at hf
    refine (puthere_old w N x y p h.na h.len (by omega) hr hp hf).mono ?_
    rintro e w' ⟨rfl, X⟩
    obtain ⟨a, t⟩ := Nx.leaf h X h.ps (by have := h.len; simp; omega)
    have hg := leaf_get_some h.len hp hpl hpe
    have hput := leaf_put_some y h.len hp hpl hpe
    refine ⟨_, by rw [hi, hg]; rfl, a, t, ?_, ?_, ?_, ?_, ?_⟩
    · show s.n ≤ N.ks.length
      omega
    · show N.ks.length ≤ s.n + 1
      omega
    · show 1 ≤ N.ks.length
      omega
    · show Srt (A ++ ((N.ks.zip (N.vs.set p y)).map tk ++ B))
      rw [hput]
      rw [h.M] at hs
      exact srt_put hs hA hB
    · show items ((N.ks.zip (N.vs.set p y)).map tk) = _
      rw [items_map, hi, hput]

/-- the part in which a key lies -/
structure At (x : Int) (s : Sub) (N : Nd) (l : List Sub) (c : Sub) (r : List Sub) (P Q : List Tok) : Prop where
  M : s.M = P ++ (c.M ++ Q)
  any : ∀ c' : Sub, weave N.ks ((l ++ c' :: r).map (·.M)) = P ++ (c'.M ++ Q)
  lo : ∀ t ∈ P, t.1 < 2 * x + 1
  hi : ∀ t ∈ Q, 2 * x + 1 < t.1

theorem OpenP.at_ {H : World → Sub → Prop} {w : World} {s : Sub} {N : Nd} {cs : List Sub} (h : OpenP H w s N cs) {A B : List Tok} (hs : Srt (A ++ (s.M ++ B))) (x : Int) :
    ∃ p, N.ks.Pairwise (· < ·) ∧ Pos x N.ks p ∧ ∃ l c r P Q, cs = l ++ c :: r ∧ placeAt x N.ks p = l.length ∧ At x s N l c r P Q := by
  have hsm := srt_mid hs
  have hsM := hsm
  rw [h.M] at hsM
  have hr := seps_rise (by rw [List.length_map]; exact h.len) hsM
  obtain ⟨p, hp⟩ := Pos.exists x N.ks hr
  refine ⟨p, hr, hp, ?_⟩
  obtain ⟨i, hi⟩ : ∃ i, i = placeAt x N.ks p := ⟨_, rfl⟩
  rw [← hi]
  have hpl := hp.le
  have hil : i ≤ N.ks.length ∧ (∀ k ∈ N.ks.take i, k ≤ x) ∧ (∀ k ∈ N.ks.drop i, x < k) := by
    unfold placeAt at hi
    cases hf : found x N.ks p
    · rw [hf] at hi
      simp only [Bool.false_eq_true, if_false] at hi
      subst hi
      refine ⟨hpl, fun k hk => ?_, gt_of_none hp hr hf⟩
      obtain ⟨j, hj, e⟩ := List.mem_iff_getElem.1 hk
      rw [List.length_take] at hj
      rw [List.getElem_take] at e
      have := hp.lo j (by omega)
      rw [List.getD_eq_getElem?_getD, List.getElem?_eq_getElem (by omega), Option.getD_some, e] at this
      omega
    · rw [hf] at hi
      simp only [if_true] at hi
      subst hi
      obtain ⟨hpl', hpe⟩ := found_at hf
      refine ⟨hpl', fun k hk => ?_, gt_of_some hr hpl' hpe⟩
      obtain ⟨j, hj, e⟩ := List.mem_iff_getElem.1 hk
      rw [List.length_take] at hj
      rw [List.getElem_take] at e
      by_cases hjp : j < p
      · have := hp.lo j hjp
        rw [List.getD_eq_getElem?_getD, List.getElem?_eq_getElem (by omega), Option.getD_some, e] at this
        omega
      · have : j = p := by omega
        subst this
        omega
  obtain ⟨h1, h2, h3⟩ := hil
  have hlen := h.len
  have hic : i < cs.length := by omega
  have hcs : cs = cs.take i ++ cs[i] :: cs.drop (i + 1) := by rw [← drop_cons hic, List.take_append_drop]
  have htl : (cs.take i).length = i := by rw [List.length_take]; omega
  have hkt : (N.ks.take i).length = i := by rw [List.length_take]; omega
  have any : ∀ c' : Sub, weave N.ks ((cs.take i ++ c' :: cs.drop (i + 1)).map (·.M)) = preW (N.ks.take i) ((cs.take i).map (·.M)) ++ (c'.M ++ postW (N.ks.drop i) ((cs.drop (i + 1)).map (·.M))) := fun c' => by
    have := weave_split (N.ks.take i) ((cs.take i).map (·.M)) (N.ks.drop i) c'.M ((cs.drop (i + 1)).map (·.M)) (by rw [List.length_map, htl, hkt])
    rw [List.take_append_drop] at this
    rw [← this]
    simp only [List.map_append, List.map_cons]
  have hM : s.M = preW (N.ks.take i) ((cs.take i).map (·.M)) ++ (cs[i].M ++ postW (N.ks.drop i) ((cs.drop (i + 1)).map (·.M))) := by
    rw [← any, ← hcs, h.M]
  have hs2 := hsm
  rw [hM] at hs2
  refine ⟨cs.take i, cs[i], cs.drop (i + 1), _, _, hcs, htl.symm, hM, any, ?_, ?_⟩
  · exact pre_lt _ _ (srt_append.1 hs2).1 h2
  · exact post_gt _ _ (srt_append.1 (srt_append.1 hs2).2.1).2.1 h3

theorem ctx {x : Int} {A B P Q m : List Tok} (h : Srt (A ++ ((P ++ (m ++ Q)) ++ B))) (hA : ∀ a ∈ A, a.1 < 2 * x + 1) (hB : ∀ b ∈ B, 2 * x + 1 < b.1) (hP : ∀ t ∈ P, t.1 < 2 * x + 1) (hQ : ∀ t ∈ Q, 2 * x + 1 < t.1) :
    Srt ((A ++ P) ++ (m ++ (Q ++ B))) ∧ (∀ a ∈ A ++ P, a.1 < 2 * x + 1) ∧ (∀ b ∈ Q ++ B, 2 * x + 1 < b.1) := by
  refine ⟨by simpa using h, fun a ha => ?_, fun b hb => ?_⟩
  · rcases List.mem_append.1 ha with h | h
    · exact hA a h
    · exact hP a h
  · rcases List.mem_append.1 hb with h | h
    · exact hQ b h
    · exact hB b h
theorem unctx {A B P Q m : List Tok} (h : Srt ((A ++ P) ++ (m ++ (Q ++ B)))) : Srt (A ++ ((P ++ (m ++ Q)) ++ B)) := by simpa using h
end Go.Proofs.YtjfpeklfgnajoaaGreat.L6

namespace Go.Proofs.YtjfpeklfgnajoaaGreat.L6
open Go.ChangeShapes Go.WideShapes Go.ChangeAt Go.RowKit By Reg
set_option linter.unusedVariables false

theorem PutPost.rb {x : Int} {y : SV} {d : Nat} {w w1 : World} {s : Sub} {A B : List Tok} {e : Ending} {w' : World} (hr : Rb w w1) (h : PutPost x y d w1 s A B e w') : PutPost x y d w s A B e w' := by
  obtain ⟨s', h1, h2, h3, h4⟩ := h
  exact ⟨s', h1, h2, (Tn.of_rb s hr).trans h3, h4⟩

set_option maxHeartbeats 2000000 in
set_option maxRecDepth 100000 in
theorem put_leaf (x : Int) (y : SV) (w : World) (s : Sub) (A B : List Tok) (h : Held 0 w s) (hn : s.n ≤ 100) (hs : Srt (A ++ (s.M ++ B))) (hA : ∀ a ∈ A, a.1 < 2 * x + 1) (hB : ∀ b ∈ B, 2 * x + 1 < b.1) :
    Calls Tryz.prog 110 #[ptrv s.b, i64 x, sv y] w (PutPost x y 0 w s A B) := by
  obtain ⟨N, hN⟩ := h
  have CL := leaf_any w N hN.na
  have hle : isLeaf N = true := by unfold isLeaf; rw [hN.ps]; rfl
  rw [hle, hN.b] at CL
  have CL' := Lib.hid CL
  have CP := Lib.hid (puthere_any x y w s N A B hN hn hs hA hB)
  clear CL hN hle hs hA hB hn
  go_enter Tryz.func110, Tryz.ntmps110
  go_wp2_with (go_at_call 113; refine CL'.out.mono ?_; rintro e w' ⟨rfl, rfl⟩)
  refine CP.out.mono ?_
  rintro e w' hp
  obtain ⟨s', rfl, h2⟩ := hp
  have H2 := Lib.hid h2
  clear h2
  obtain ⟨g1, hg1⟩ : ∃ g1, g1 = (getL x (items s.M)).getD sv0 := ⟨_, rfl⟩
  obtain ⟨g2, hg2⟩ : ∃ g2, g2 = (getL x (items s.M)).isSome := ⟨_, rfl⟩
  rw [← hg1, ← hg2]
  have G1 := Lib.hid hg1
  have G2 := Lib.hid hg2
  clear hg1 hg2
  go_wp2
  go_ret2
  refine ⟨s', ?_, H2.out⟩
  show Ending.returned (.tuple #[sv g1, .bool g2]) = _
  rw [G1.out, G2.out]

set_option maxHeartbeats 4000000 in
set_option maxRecDepth 100000 in
theorem put_any (x : Int) (y : SV) : ∀ (d : Nat) (w : World) (s : Sub) (A B : List Tok), Held d w s → s.n ≤ 8 → Srt (A ++ (s.M ++ B)) → (∀ a ∈ A, a.1 < 2 * x + 1) → (∀ b ∈ B, 2 * x + 1 < b.1) →
    Calls Tryz.prog 110 #[ptrv s.b, i64 x, sv y] w (PutPost x y d w s A B)
  | 0, w, s, A, B, h, hn, hs, hA, hB => put_leaf x y w s A B h (by omega) hs hA hB
  | d + 1, w, s, A, B, h, hn, hs, hA, hB => by
    obtain ⟨N, cs, o, hcs⟩ := h
    obtain ⟨p, hr, hp, l, c, r, P, Q, rfl, hpl, at_⟩ := o.at_ hs x
    have hcl := o.len
    have hlen : N.ps.length = N.ks.length + 1 := by rw [o.ps, List.length_map]; exact o.len
    have hsn := o.n
    have cn := hcs c (by simp)
    have hle : isLeaf N = false := by unfold isLeaf; rw [decide_eq_false_iff_not]; omega
    have hs' := hs
    rw [at_.M] at hs'
    obtain ⟨k1, k2, k3⟩ := ctx hs' hA hB at_.lo at_.hi
    -- what is called
    have CL := leaf_any w N o.na
    rw [hle, o.b] at CL
    have CP := place_any w N x p o.na (by omega) hr hp
    rw [hpl, o.b] at CP
    have IH : ∀ w1, Rb w w1 → Hid (Calls Tryz.prog 110 #[ptrv c.b, i64 x, sv y] w1 (PutPost x y d w1 c (A ++ P) (Q ++ B))) := fun w1 hr => put_any x y d w1 c (A ++ P) (Q ++ B) ((o.held c (by simp)).rb hr) cn.2 k1 k2 k3
    have PT : ∀ (w1 : World) (s1 : Sub) (c1 : Sub), OpenP (Held d) w1 s1 N (l ++ c1 :: r) → s1.b = s.b → ∃ g cap, Hid (w1.cell? ⟨s.b, 2, none⟩ = some (.slice (some ⟨g, 0, none⟩) (l.length + (r.length + 1)) cap) ∧ l.length + (r.length + 1) ≤ cap ∧ w1.cell? ⟨g, l.length, none⟩ = some (ptrv c1.b)) := fun w1 s1 c1 o1 e1 => by
      obtain ⟨g, cap, q1, q2, q3, q4⟩ := o1.na.rp.ptr_at (j := l.length) (b := c1.b) (by rw [o1.ps]; simp)
      have e : N.ps.length = l.length + (r.length + 1) := by rw [o1.ps]; simp
      rw [e] at q1 q2
      refine ⟨g, cap, ?_, q2, q4⟩
      rw [← e1, ← o1.b, ← q1]
      exact o1.na.c2
    have SZ : ∀ (w1 : World) (c1 : Sub), Held d w1 c1 → Hid (Calls Tryz.prog 111 #[ptrv c1.b] w1 fun e w' => e = .returned (i64 c1.n) ∧ w1 = w') := fun w1 c1 hc1 => by
      obtain ⟨N1, a1, a2, a3, a4⟩ := hc1.node
      have := size_any w1 N1 a1
      rw [a2, a3] at this
      exact this
    have CL' := Lib.hid CL
    have CP' := Lib.hid CP
    have HO := Lib.hid o
    have HAT := Lib.hid at_
    have HCS := Lib.hid hcs
    have HI : Hid (items s.M = items P ++ (items c.M ++ items Q) ∧ Lt x (items P) ∧ Gt x (items Q)) := ⟨by rw [at_.M, items_append, items_append], lt_items at_.lo, gt_items at_.hi⟩
    have HSN : Hid (s.n = (l ++ c :: r).length ∧ s.n ≤ 8 ∧ 4 ≤ c.n ∧ c.n ≤ 8) := ⟨o.n, hn, cn.1, cn.2⟩
    have hll : l.length ≤ 8 := by have := o.n; simp at this; omega
    have hlr : l.length < l.length + (r.length + 1) := by omega
    have eget : getL x (items s.M) = getL x (items c.M) := by rw [HI.out.1, getL_mid HI.out.2.1 HI.out.2.2]
    have eput : ∀ L, L = putL x y (items c.M) → items P ++ (L ++ items Q) = putL x y (items s.M) := fun L hL => by rw [HI.out.1, putL_mid HI.out.2.1 HI.out.2.2, hL]
    have EG := Lib.hid eget
    have EP := Lib.hid eput
    generalize hN2 : (l.length + (r.length + 1)) = m at PT hlr
    clear o at_ hcs cn CL CP hle hs hA hB hs' k1 k2 k3 hcl hlen hsn hn hr hp hpl eget eput hN2
    go_enter Tryz.func110, Tryz.ntmps110
    go_wp2_with (first | (go_at_call 113; refine CL'.out.mono ?_; rintro e w' ⟨rfl, rfl⟩) | (go_at_call 114; refine CP'.out.mono ?_))
    rintro e w1 ⟨rfl, hr1⟩
    obtain ⟨g, cap, hq⟩ := PT w1 s c (HO.out.rb hr1) rfl
    obtain ⟨q1, q2, q3⟩ := hq.out
    have J := IH w1 hr1
    have HR1 := Lib.hid hr1
    clear hr1 hq IH
    go_wp2_with (go_at_call 110; refine J.out.mono ?_)
    first | (rintro e w2 c' rfl hc' t e1 e2 e3 e4 e5) | (rintro e w2 ⟨c', rfl, hc', t, e1, e2, e3, e4, e5⟩)
    obtain ⟨s1, o1, t1, n1⟩ := (HO.out.rb HR1.out).part hc' t
    have o1M : s1.M = P ++ (c'.M ++ Q) := by rw [o1.M]; exact HAT.out.any c'
    obtain ⟨g2, cap2, hq2⟩ := PT w2 s1 c' o1 t1.b
    obtain ⟨p1, p2, p3⟩ := hq2.out
    have SC := SZ w2 c' hc'
    have H1 : Hid (OpenP (Held d) w2 s1 N (l ++ c' :: r) ∧ Tn w1 s w2 s1 ∧ s1.n = s.n ∧ s1.M = P ++ (c'.M ++ Q)) := ⟨o1, t1, n1, o1M⟩
    have H2 : Hid (c.n ≤ c'.n ∧ c'.n ≤ c.n + 1 ∧ Srt ((A ++ P) ++ (c'.M ++ (Q ++ B))) ∧ items c'.M = putL x y (items c.M)) := ⟨e1, e2, e4, e5⟩
    have hb1 : s1.b = s.b := t1.b
    have hG : Hid (getL x (items s.M) = getL x (items c.M)) := EG.out
    clear hc' t e1 e2 e3 e4 e5 o1 t1 n1 o1M hq2 PT SZ J q1 q2 q3
    generalize hg1 : (getL x (items c.M)).getD sv0 = g1 at *
    generalize hg2 : (getL x (items c.M)).isSome = g2' at *
    have HG1 := Lib.hid hg1
    have HG2 := Lib.hid hg2
    clear hg1 hg2
    by_cases h8 : (c'.n : Int) > 8
    · have SP := Lib.hid (split_any d w2 s1 N l r c' H1.out.1 (by have a := HSN.out; simp at a ⊢; omega) (by omega) (by have a := HSN.out; have b := H2.out; omega))
      rw [hb1] at SP
      go_wp2_with (first | (go_at_call 111; refine SC.out.mono ?_; rintro e w' ⟨rfl, rfl⟩) | (go_at_call 112; refine SP.out.mono ?_))
      first | (rintro e w3 v rfl s2 N2 c1 c2 o2 t2 n2 x2 n3 n4) | (rintro e w3 ⟨⟨v, rfl⟩, s2, N2, c1, c2, o2, t2, n2, x2, n3, n4⟩)
      have H3 : Hid (OpenP (Held d) w3 s2 N2 (l ++ c1 :: c2 :: r) ∧ Tn w2 s1 w3 s2 ∧ s2.n = s1.n + 1 ∧ Ext s1.M s2.M ∧ c1.n = c'.n / 2 ∧ c2.n = c'.n - c'.n / 2) := ⟨o2, t2, n2, x2, n3, n4⟩
      clear o2 t2 n2 x2 n3 n4
      go_wp2
      go_ret2
      obtain ⟨o2, t2, n2, x2, n3, n4⟩ := H3.out
      obtain ⟨o1, t1, n1, o1M⟩ := H1.out
      obtain ⟨f1, f2, f3, f4⟩ := H2.out
      obtain ⟨z1, z2, z3, z4⟩ := HSN.out
      refine ⟨s2, show Ending.returned (.tuple #[sv g1, .bool g2']) = _ by rw [hG.out, HG1.out, HG2.out], ⟨N2, _, o2, fun z hz => ?_⟩, (Tn.of_rb s HR1.out).trans (t1.trans t2), by omega, by omega, by omega, ?_, ?_⟩
      · simp only [List.mem_append, List.mem_cons] at hz
        rcases hz with hz | rfl | rfl | hz
        · exact HCS.out z (by simp [hz])
        · omega
        · omega
        · exact HCS.out z (by simp [hz])
      · refine x2.1 A B ?_
        rw [o1M]
        exact unctx f3
      · rw [x2.2, o1M, items_append, items_append]
        exact EP.out _ f4
    · go_wp2_with (go_at_call 111; refine SC.out.mono ?_; rintro e w' ⟨rfl, rfl⟩)
      go_ret2
      obtain ⟨o1, t1, n1, o1M⟩ := H1.out
      obtain ⟨f1, f2, f3, f4⟩ := H2.out
      obtain ⟨z1, z2, z3, z4⟩ := HSN.out
      refine ⟨s1, show Ending.returned (.tuple #[sv g1, .bool g2']) = _ by rw [hG.out, HG1.out, HG2.out], ⟨N, _, o1, fun z hz => ?_⟩, (Tn.of_rb s HR1.out).trans t1, by omega, by omega, ?_, ?_, ?_⟩
      · simp only [List.mem_append, List.mem_cons] at hz
        rcases hz with hz | rfl | hz
        · exact HCS.out z (by simp [hz])
        · omega
        · exact HCS.out z (by simp [hz])
      · rw [n1, z1]; simp; omega
      · rw [o1M]
        exact unctx f3
      · rw [o1M, items_append, items_append]
        exact EP.out _ f4
end Go.Proofs.YtjfpeklfgnajoaaGreat.L6

namespace Go.Proofs.YtjfpeklfgnajoaaGreat.L6
open Go.RowKit Reg
set_option linter.unusedVariables false

theorem OpenP.join {d : Nat} {w w' : World} {s : Sub} {N A B N' A' : Nd} {l r : List Sub} {a b a' : Sub} {key : Int} (h : OpenP (Held d) w s N (l ++ a :: b :: r)) (S : Tri w N A w' N' A' B) (hA : ∀ k, A.has k → a.F k)
    (h1 : Held d w' a') (f1 : ∀ k, a'.F k → A'.has k ∨ a.F k ∨ b.F k) (b1 : a'.b = a.b)
    (hk : N.ks[l.length]? = some key) (eks : N'.ks = N.ks.take l.length ++ N.ks.drop (l.length + 1)) (eps : N'.ps = N.ps.take (l.length + 1) ++ N.ps.drop (l.length + 2)) (evs : N'.vs = [])
    (hM : Ext (a.M ++ sp key :: b.M) a'.M) :
    ∃ s', OpenP (Held d) w' s' N' (l ++ a' :: r) ∧ Tn w s w' s' ∧ s'.n + 1 = s.n ∧ Ext s.M s'.M := by
  have hd := List.pairwise_append.1 h.dj
  have hd2 := List.pairwise_cons.1 hd.2.1
  have hd3 := List.pairwise_cons.1 hd2.2
  have aF : ∀ k, a.F k → s.F k := fun k hk => (h.F k).2 (.inr ⟨a, by simp, hk⟩)
  have bF : ∀ k, b.F k → s.F k := fun k hk => (h.F k).2 (.inr ⟨b, by simp, hk⟩)
  have keep : ∀ x ∈ l ++ r, (∀ k, x.F k → ¬ a.F k) ∧ (∀ k, x.F k → ¬ b.F k) ∧ Held d w x ∧ (∀ k, N.has k → ¬ x.F k) := fun x hx => by
    rcases List.mem_append.1 hx with hx | hx
    · exact ⟨fun k hk hk' => hd.2.2 x hx a (by simp) k hk hk', fun k hk hk' => hd.2.2 x hx b (by simp) k hk hk', h.held x (by simp [hx]), h.off x (by simp [hx])⟩
    · exact ⟨fun k hk hk' => hd2.1 x (by simp [hx]) k hk' hk, fun k hk hk' => hd3.1 x hx k hk' hk, h.held x (by simp [hx]), h.off x (by simp [hx])⟩
  have kept : ∀ x ∈ l ++ r, Held d w' x := fun x hx => by
    obtain ⟨q1, q2, q3, q4⟩ := keep x hx
    exact q3.fr S.fr fun k hk hk' => by
      rcases hk' with hk' | hk'
      · exact q4 k hk' hk
      · exact q1 k hk (hA k hk')
  have n1 : ∀ x ∈ l ++ r, ∀ k, x.F k → ¬ a'.F k := fun x hx k hk hk' => by
    obtain ⟨q1, q2, q3, q4⟩ := keep x hx
    rcases f1 k hk' with h' | h' | h'
    · rcases S.ah k h' with h'' | h''
      · exact q1 k hk (hA k h'')
      · have := q3.lt d k hk; omega
    · exact q1 k hk h'
    · exact q2 k hk h'
  have hlen := h.len
  simp only [List.length_append, List.length_cons] at hlen
  have hkl := (List.getElem?_eq_some_iff.1 hk)
  have htk : (N.ks.take l.length).length = l.length := by rw [List.length_take]; omega
  have hdr : N.ks.drop l.length = key :: N.ks.drop (l.length + 1) := by
    rw [drop_cons hkl.1, hkl.2]
  have e0 : s.M = preW (N.ks.take l.length) (l.map (·.M)) ++ ((a.M ++ sp key :: b.M) ++ postW (N.ks.drop (l.length + 1)) (r.map (·.M))) := by
    have hw := weave_split (N.ks.take l.length) (l.map (·.M)) (N.ks.drop l.length) a.M (b.M :: r.map (·.M)) (by rw [List.length_map, htk])
    rw [List.take_append_drop, hdr] at hw
    rw [h.M, show (l ++ a :: b :: r).map (·.M) = l.map (·.M) ++ a.M :: b.M :: r.map (·.M) by simp, hw]
    show _ ++ (_ ++ (sp key :: (b.M ++ _))) = _
    simp
  have e1 : weave N'.ks ((l ++ a' :: r).map (·.M)) = preW (N.ks.take l.length) (l.map (·.M)) ++ (a'.M ++ postW (N.ks.drop (l.length + 1)) (r.map (·.M))) := by
    have hw := weave_split (N.ks.take l.length) (l.map (·.M)) (N.ks.drop (l.length + 1)) a'.M (r.map (·.M)) (by rw [List.length_map, htk])
    rw [eks, ← hw]
    simp
  refine ⟨⟨s.b, s.n - 1, weave N'.ks ((l ++ a' :: r).map (·.M)), fun k => N'.has k ∨ ∃ x ∈ l ++ a' :: r, x.F k⟩, ⟨S.na, S.nb.trans h.b, evs, ?_, ?_, ?_, rfl, fun x hx => ?_, ?_, fun x hx k hk => ?_, fun k => Iff.rfl⟩, ⟨rfl, ?_, fun k hk => ?_⟩, ?_, ?_⟩
  · rw [eps, h.ps]
    simp [b1, List.take_append, List.drop_append, List.take_of_length_le, List.drop_eq_nil_of_le]
  · show s.n - 1 = _
    rw [h.n]; simp
  · rw [eks]; simp; omega
  · simp only [List.mem_append, List.mem_cons] at hx
    rcases hx with hx | rfl | hx
    · exact kept x (by simp [hx])
    · exact h1
    · exact kept x (by simp [hx])
  · refine List.pairwise_append.2 ⟨hd.1, List.pairwise_cons.2 ⟨fun x hx k hk hk' => n1 x (by simp [hx]) k hk' hk, hd3.2⟩, fun x hx y hy => ?_⟩
    rcases List.mem_cons.1 hy with rfl | hy
    · exact n1 x (by simp [hx])
    · exact hd.2.2 x hx y (by simp [hy])
  · have old : ∀ x ∈ l ++ a :: b :: r, ¬ x.F k := fun x hx hk' => by
      rcases S.nh k hk with h' | h'
      · exact h.off x hx k h' hk'
      · have := (h.held x hx).lt d k hk'; omega
    simp only [List.mem_append, List.mem_cons] at hx
    rcases hx with hx | rfl | hx
    · exact old x (by simp [hx])
    · intro hk'
      rcases f1 k hk' with h' | h' | h'
      · exact S.oA k hk h'
      · exact old a (by simp) h'
      · exact old b (by simp) h'
    · exact old x (by simp [hx])
  · exact S.fr.mono fun k hk _ => by
      rcases hk with hk | hk
      · exact (h.F k).2 (.inl hk)
      · exact aF k (hA k hk)
  · rcases hk with hk | ⟨x, hx, hk⟩
    · rcases S.nh k hk with h' | h'
      · exact .inl ((h.F k).2 (.inl h'))
      · exact .inr h'
    · simp only [List.mem_append, List.mem_cons] at hx
      rcases hx with hx | rfl | hx
      · exact .inl ((h.F k).2 (.inr ⟨x, by simp [hx], hk⟩))
      · rcases f1 k hk with h' | h' | h'
        · rcases S.ah k h' with h'' | h''
          · exact .inl (aF k (hA k h''))
          · exact .inr h''
        · exact .inl (aF k h')
        · exact .inl (bF k h')
      · exact .inl ((h.F k).2 (.inr ⟨x, by simp [hx], hk⟩))
  · show s.n - 1 + 1 = s.n
    have := h.n
    simp at this
    omega
  · show Ext s.M (weave _ _)
    rw [e0, e1]
    exact Ext.mid _ _ hM

theorem join_tree (d : Nat) (w : World) (s : Sub) (N : Nd) (l r : List Sub) (a b : Sub) (h : OpenP (Held d) w s N (l ++ a :: b :: r)) (hn : (l ++ a :: b :: r).length ≤ 20) (ha : a.n ≤ 9) (hb : b.n ≤ 9) (a1 : 1 ≤ a.n) :
    Calls Tryz.prog 150 #[ptrv s.b, i64 l.length] w fun e w' => (∃ v, e = .returned v) ∧ ∃ s' N' a', OpenP (Held d) w' s' N' (l ++ a' :: r) ∧ Tn w s w' s' ∧ s'.n + 1 = s.n ∧ Ext s.M s'.M ∧ a'.n = a.n + b.n := by
  have hd := List.pairwise_append.1 h.dj
  have hab : Dj a b := (List.pairwise_cons.1 hd.2.1).1 b (by simp)
  have hlen := h.len
  simp only [List.length_append, List.length_cons] at hlen hn
  have hps : N.ps.length = N.ks.length + 1 := by rw [h.ps, List.length_map]; exact h.len
  have hpa : N.ps[l.length]? = some a.b := by rw [h.ps]; simp
  have hpb : N.ps[l.length + 1]? = some b.b := by rw [h.ps]; simp
  have hkl : l.length < N.ks.length := by omega
  have hkey : N.ks[l.length]? = some (N.ks.getD l.length 0) := by rw [List.getD_eq_getElem?_getD, List.getElem?_eq_getElem hkl]; rfl
  have tri : ∀ A B : Nd, NodeAt w A → NodeAt w B → (∀ k, A.has k → a.F k) → (∀ k, B.has k → b.F k) → Tri w N A w N A B := fun A B hA hB fA fB =>
    Tri.start h.na hA hB (fun k hk hk' => h.off a (by simp) k hk (fA k hk')) (fun k hk hk' => h.off b (by simp) k hk (fB k hk')) (fun k hk hk' => hab k (fA k hk) (fB k hk'))
  rw [← h.b]
  cases d with
  | zero =>
    obtain ⟨A, hA⟩ := h.held a (by simp)
    obtain ⟨B, hB⟩ := h.held b (by simp)
    have T := tri A B hA.na hB.na (fun k hk => (hA.F k).2 hk) (fun k hk => (hB.F k).2 hk)
    have n1 := hA.n; have n2 := hB.n; have n3 := hA.len; have n4 := hB.len
    refine (join_leaf w N A B l.length T hA.ps (by rw [hpa, hA.b]) (by rw [hpb, hB.b]) hps (by omega) (by omega) (by omega) (by omega) (by omega) (by rw [hA.ps]; simp) (by rw [hB.ps]; simp)).mono ?_
    rintro e w' ⟨hv, kv, pv, kA, vA, pA, S⟩
    refine ⟨hv, ?_⟩
    have hz : (A.ks ++ B.ks).zip (A.vs ++ B.vs) = A.ks.zip A.vs ++ B.ks.zip B.vs := List.zip_append (by omega)
    obtain ⟨s', o, t, e1, e2⟩ := h.join (a' := ⟨A.b, (A.ks ++ B.ks).length, ((A.ks ++ B.ks).zip (A.vs ++ B.vs)).map tk, Nd.has { A with kv := kA, vv := vA, pv := pA, ks := A.ks ++ B.ks, vs := A.vs ++ B.vs, ps := A.ps ++ B.ps }⟩) S (fun k hk => (hA.F k).2 hk)
      ⟨_, S.aa, rfl, by show A.ps ++ B.ps = []; rw [hA.ps, hB.ps]; rfl, by show (A.vs ++ B.vs).length = (A.ks ++ B.ks).length; simp; omega, rfl, rfl, fun k => Iff.rfl⟩ (fun k hk => .inl hk) hA.b hkey rfl rfl h.vs (by
        show Ext (a.M ++ sp _ :: b.M) (((A.ks ++ B.ks).zip (A.vs ++ B.vs)).map tk)
        rw [hz, List.map_append, ← hA.M, ← hB.M]
        exact Ext.sub (List.Sublist.append_left (List.sublist_cons_self _ _) _) (by rw [items_append, items_append, items_sp]))
    exact ⟨s', _, _, o, t, e1, e2, by show (A.ks ++ B.ks).length = _; simp; omega⟩
  | succ d =>
    obtain ⟨A, ga, hA, gA⟩ := h.held a (by simp)
    obtain ⟨B, gb, hB, gB⟩ := h.held b (by simp)
    have T := tri A B hA.na hB.na (fun k hk => (hA.F k).2 (.inl hk)) (fun k hk => (hB.F k).2 (.inl hk))
    have n1 := hA.n; have n2 := hB.n; have n3 := hA.len; have n4 := hB.len
    have p1 : A.ps.length = ga.length := by rw [hA.ps, List.length_map]
    have p2 : B.ps.length = gb.length := by rw [hB.ps, List.length_map]
    refine (join_inner w N A B l.length T (by omega) (by rw [hpa, hA.b]) (by rw [hpb, hB.b]) hps (by omega) (by omega) (by omega) (by rw [hA.vs]; simp) (by rw [hB.vs]; simp) (by omega) (by omega)).mono ?_
    rintro e w' ⟨hv, kv, pv, kA, vA, pA, S⟩
    refine ⟨hv, ?_⟩
    have keepA : ∀ x ∈ ga, Held d w' x := fun x hx => (hA.held x hx).fr S.fr fun k hk hk' => by
      rcases hk' with hk' | hk'
      · exact h.off a (by simp) k hk' ((hA.F k).2 (.inr ⟨x, hx, hk⟩))
      · exact hA.off x hx k hk' hk
    have keepB : ∀ x ∈ gb, Held d w' x := fun x hx => (hB.held x hx).fr S.fr fun k hk hk' => by
      rcases hk' with hk' | hk'
      · exact h.off b (by simp) k hk' ((hB.F k).2 (.inr ⟨x, hx, hk⟩))
      · exact hab k ((hA.F k).2 (.inl hk')) ((hB.F k).2 (.inr ⟨x, hx, hk⟩))
    have offA : ∀ x ∈ ga ++ gb, ∀ k, Nd.has { A with kv := kA, vv := vA, pv := pA, ks := A.ks ++ N.ks.getD l.length 0 :: B.ks, vs := A.vs ++ B.vs, ps := A.ps ++ B.ps } k → ¬ x.F k := fun x hx k hk hk' => by
      rcases S.ah k hk with h' | h'
      · rcases List.mem_append.1 hx with hx | hx
        · exact hA.off x hx k h' hk'
        · exact hab k ((hA.F k).2 (.inl h')) ((hB.F k).2 (.inr ⟨x, hx, hk'⟩))
      · rcases List.mem_append.1 hx with hx | hx
        · have := (hA.held x hx).lt d k hk'; omega
        · have := (hB.held x hx).lt d k hk'; omega
    have eM : weave (A.ks ++ N.ks.getD l.length 0 :: B.ks) ((ga ++ gb).map (·.M)) = a.M ++ sp (N.ks.getD l.length 0) :: b.M := by
      rcases List.eq_nil_or_concat ga with rfl | ⟨ga', z, rfl⟩
      · simp at n3
      obtain ⟨m, gb', rfl⟩ : ∃ m gb', gb = m :: gb' := by cases gb with | nil => simp at n4 | cons m gb' => exact ⟨m, gb', rfl⟩
      simp only [List.concat_eq_append] at *
      have hl : (ga'.map (·.M)).length = A.ks.length := by simp at n3 ⊢; omega
      have w1 := weave_split A.ks (ga'.map (·.M)) (N.ks.getD l.length 0 :: B.ks) z.M ((m :: gb').map (·.M)) hl
      have w2 := weave_split A.ks (ga'.map (·.M)) [] z.M [] hl
      rw [List.append_nil] at w2
      rw [hA.M, hB.M]
      rw [show (ga' ++ [z] ++ m :: gb').map (·.M) = ga'.map (·.M) ++ z.M :: (m :: gb').map (·.M) by simp, w1]
      rw [show (ga' ++ [z]).map (·.M) = ga'.map (·.M) ++ [z.M] by simp, w2]
      rw [List.map_cons, postW_ne]
      simp [postW]
    obtain ⟨s', o, t, e1, e2⟩ := h.join (a' := Sub.mk' { A with kv := kA, vv := vA, pv := pA, ks := A.ks ++ N.ks.getD l.length 0 :: B.ks, vs := A.vs ++ B.vs, ps := A.ps ++ B.ps } (ga ++ gb).length (weave (A.ks ++ N.ks.getD l.length 0 :: B.ks) ((ga ++ gb).map (·.M))) (ga ++ gb)) S (fun k hk => (hA.F k).2 (.inl hk))
      ⟨_, ga ++ gb, ⟨S.aa, rfl, by show A.vs ++ B.vs = []; rw [hA.vs, hB.vs]; rfl, by show A.ps ++ B.ps = _; rw [hA.ps, hB.ps, List.map_append], rfl, by simp; omega, rfl, fun x hx => by
          rcases List.mem_append.1 hx with hx | hx
          · exact keepA x hx
          · exact keepB x hx, List.pairwise_append.2 ⟨hA.dj, hB.dj, fun x hx y hy k hk hk' => hab k ((hA.F k).2 (.inr ⟨x, hx, hk⟩)) ((hB.F k).2 (.inr ⟨y, hy, hk'⟩))⟩, offA, fun k => Iff.rfl⟩, fun x hx => by
          rcases List.mem_append.1 hx with hx | hx
          · exact gA x hx
          · exact gB x hx⟩ (fun k hk => by
          rcases hk with hk | ⟨x, hx, hk⟩
          · exact .inl hk
          · rcases List.mem_append.1 hx with hx | hx
            · exact .inr (.inl ((hA.F k).2 (.inr ⟨x, hx, hk⟩)))
            · exact .inr (.inr ((hB.F k).2 (.inr ⟨x, hx, hk⟩)))) hA.b hkey rfl rfl h.vs (by
        show Ext (a.M ++ sp _ :: b.M) (weave (A.ks ++ N.ks.getD l.length 0 :: B.ks) ((ga ++ gb).map (·.M)))
        rw [eM]
        exact Ext.refl _)
    exact ⟨s', _, _, o, t, e1, e2, by show (ga ++ gb).length = _; simp; omega⟩
end Go.Proofs.YtjfpeklfgnajoaaGreat.L6

namespace Go.Proofs.YtjfpeklfgnajoaaGreat.L6
open Go.ChangeShapes Go.WideShapes Go.ChangeAt Go.RowKit By Reg
set_option linter.unusedVariables false

theorem part_at {d : Nat} {w1 : World} {s1 : Sub} {N : Nd} {l r : List Sub} {c1 : Sub} (o1 : OpenP (Held d) w1 s1 N (l ++ c1 :: r)) : ∃ g cap, w1.cell? ⟨s1.b, 2, none⟩ = some (.slice (some ⟨g, 0, none⟩) (l.length + (r.length + 1)) cap) ∧ l.length + (r.length + 1) ≤ cap ∧ w1.cell? ⟨g, l.length, none⟩ = some (ptrv c1.b) := by
  obtain ⟨g, cap, q1, q2, q3, q4⟩ := o1.na.rp.ptr_at (j := l.length) (b := c1.b) (by rw [o1.ps]; simp)
  have e : N.ps.length = l.length + (r.length + 1) := by rw [o1.ps]; simp
  rw [e] at q1 q2
  refine ⟨g, cap, ?_, q2, q4⟩
  rw [← o1.b, ← q1]
  exact o1.na.c2
theorem size_sub {d : Nat} {w1 : World} {c1 : Sub} (hc1 : Held d w1 c1) : Calls Tryz.prog 111 #[ptrv c1.b] w1 fun e w' => e = .returned (i64 c1.n) ∧ w1 = w' := by
  obtain ⟨N1, a1, a2, a3, a4⟩ := hc1.node
  have := size_any w1 N1 a1
  rw [a2, a3] at this
  exact this

/-- what fill leaves -/
def FillPost (d : Nat) (w : World) (s : Sub) (e : Ending) (w' : World) : Prop :=
  (∃ v, e = .returned v) ∧ ∃ s' N' cs', OpenP (Held d) w' s' N' cs' ∧ (∀ c ∈ cs', 4 ≤ c.n ∧ c.n ≤ 8) ∧ Tn w s w' s' ∧ s'.n ≤ s.n ∧ s.n ≤ s'.n + 1 ∧ Ext s.M s'.M

set_option maxHeartbeats 2000000 in
set_option maxRecDepth 100000 in
theorem fill_pair (d : Nat) (w : World) (s : Sub) (N : Nd) (l r : List Sub) (a b : Sub) (j : Nat) (h : OpenP (Held d) w s N (l ++ a :: b :: r)) (hn : (l ++ a :: b :: r).length ≤ 8) (hj : max ((j : Int) - 1) 0 = (l.length : Int)) (hj9 : j ≤ 9)
    (ha : a.n ≤ 8) (hb : b.n ≤ 8) (h4 : 7 ≤ a.n + b.n) (h11 : a.n + b.n ≤ 11) (a1 : 1 ≤ a.n) (hr : ∀ c ∈ l ++ r, 4 ≤ c.n ∧ c.n ≤ 8) :
    Calls Tryz.prog 135 #[ptrv s.b, i64 j] w (FillPost d w s) := by
  have CJ := Lib.hid (join_tree d w s N l r a b h (by omega) (by omega) (by omega) a1)
  have hll : l.length ≤ 8 := by simp at hn; omega
  have HN : Hid (s.n ≤ 8 ∧ (l ++ r).length ≤ 6) := ⟨by rw [h.n]; exact hn, by simp at hn ⊢; omega⟩
  have HR := Lib.hid hr
  have HAB : Hid (7 ≤ a.n + b.n ∧ a.n + b.n ≤ 11) := ⟨h4, h11⟩
  have hw1 : IntKind.i64.wrap ((j : Int) - 1) = (j : Int) - 1 := by rw [IntKind.wrap_i64]; omega
  clear h hn ha hb h4 h11 a1 hr
  go_enter Tryz.func135, Tryz.ntmps135
  go_wp2_with (go_at_call 150; refine CJ.out.mono ?_)
  first | (rintro e w1 v rfl s1 N1 a' o1 t1 n1 x1 m1) | (rintro e w1 ⟨⟨v, rfl⟩, s1, N1, a', o1, t1, n1, x1, m1⟩)
  have hs1 : s1.b = s.b := t1.b
  obtain ⟨g, cap, q1, q2, q3⟩ := part_at o1
  rw [hs1] at q1
  have SC := Lib.hid (size_sub (o1.held a' (by simp)))
  have H1 : Hid (OpenP (Held d) w1 s1 N1 (l ++ a' :: r) ∧ Tn w s w1 s1 ∧ s1.n + 1 = s.n ∧ Ext s.M s1.M ∧ a'.n = a.n + b.n) := ⟨o1, t1, n1, x1, m1⟩
  have hlm : l.length < l.length + (r.length + 1) := by omega
  generalize l.length + (r.length + 1) = m at q1 q2 hlm
  clear o1 t1 n1 x1 m1 CJ hj hw1
  by_cases h8 : (a'.n : Int) > 8
  · have SP := Lib.hid (split_any d w1 s1 N1 l r a' H1.out.1 (by have q := HN.out; simp at q ⊢; omega) (by omega) (by have q := HAB.out; have p := H1.out.2.2.2.2; omega))
    rw [hs1] at SP
    go_wp2_with (first | (go_at_call 111; refine SC.out.mono ?_; rintro e w' ⟨rfl, rfl⟩) | (go_at_call 112; refine SP.out.mono ?_))
    first | (rintro e w3 v2 rfl s2 N2 c1 c2 o2 t2 n2 x2 n3 n4) | (rintro e w3 ⟨⟨v2, rfl⟩, s2, N2, c1, c2, o2, t2, n2, x2, n3, n4⟩)
    have H3 : Hid (OpenP (Held d) w3 s2 N2 (l ++ c1 :: c2 :: r) ∧ Tn w1 s1 w3 s2 ∧ s2.n = s1.n + 1 ∧ Ext s1.M s2.M ∧ c1.n = a'.n / 2 ∧ c2.n = a'.n - a'.n / 2) := ⟨o2, t2, n2, x2, n3, n4⟩
    clear o2 t2 n2 x2 n3 n4
    go_wp2
    go_end0
    obtain ⟨o2, t2, n2, x2, n3, n4⟩ := H3.out
    obtain ⟨o1, t1, n1, x1, m1⟩ := H1.out
    have hab := HAB.out
    refine ⟨⟨_, rfl⟩, s2, N2, _, o2, fun z hz => ?_, t1.trans t2, by omega, by omega, x1.trans x2⟩
    simp only [List.mem_append, List.mem_cons] at hz
    rcases hz with hz | rfl | rfl | hz
    · exact HR.out z (by simp [hz])
    · omega
    · omega
    · exact HR.out z (by simp [hz])
  · go_wp2_with (go_at_call 111; refine SC.out.mono ?_; rintro e w' ⟨rfl, rfl⟩)
    go_end0
    obtain ⟨o1, t1, n1, x1, m1⟩ := H1.out
    have hab := HAB.out
    refine ⟨⟨_, rfl⟩, s1, N1, _, o1, fun z hz => ?_, t1, by omega, by omega, x1⟩
    simp only [List.mem_append, List.mem_cons] at hz
    rcases hz with hz | rfl | hz
    · exact HR.out z (by simp [hz])
    · omega
    · exact HR.out z (by simp [hz])

theorem fill_any (d : Nat) (w : World) (s : Sub) (N : Nd) (l r : List Sub) (c : Sub) (h : OpenP (Held d) w s N (l ++ c :: r)) (hn : (l ++ c :: r).length ≤ 8) (h2 : 2 ≤ (l ++ c :: r).length) (hc : c.n = 3) (hr : ∀ x ∈ l ++ r, 4 ≤ x.n ∧ x.n ≤ 8) :
    Calls Tryz.prog 135 #[ptrv s.b, i64 l.length] w (FillPost d w s) := by
  rcases List.eq_nil_or_concat l with rfl | ⟨l', z, rfl⟩
  · obtain ⟨b, r', rfl⟩ : ∃ b r', r = b :: r' := by cases r with | nil => simp at h2 | cons b r' => exact ⟨b, r', rfl⟩
    have hb := hr b (by simp)
    exact fill_pair d w s N [] r' c b 0 h hn (by decide) (by omega) (by omega) hb.2 (by omega) (by omega) (by omega) (fun x hx => hr x (by simp at hx ⊢; exact .inr hx))
  · simp only [List.concat_eq_append] at *
    have hz := hr z (by simp)
    have e : l' ++ [z] ++ c :: r = l' ++ z :: c :: r := by simp
    rw [e] at h hn
    have hll : l'.length ≤ 8 := by simp at hn; omega
    exact fill_pair d w s N l' r z c (l' ++ [z]).length h hn (by simp only [List.length_append, List.length_singleton]; omega) (by simp; omega) hz.2 (by omega) (by omega) (by omega) (by omega) (fun x hx => hr x (by
      rcases List.mem_append.1 hx with hx | hx
      · simp [hx]
      · simp [hx]))
end Go.Proofs.YtjfpeklfgnajoaaGreat.L6

namespace Go.Proofs.YtjfpeklfgnajoaaGreat.L6
open Go.ChangeShapes Go.WideShapes Go.ChangeAt Go.RowKit By Reg
set_option linter.unusedVariables false

def TakePost (x : Int) (d : Nat) (w : World) (s : Sub) (A B : List Tok) (e : Ending) (w' : World) : Prop :=
  ∃ s', e = .returned (.tuple #[sv ((getL x (items s.M)).getD sv0), .bool (getL x (items s.M)).isSome]) ∧ Held d w' s' ∧ Tn w s w' s' ∧ s'.n ≤ s.n ∧ s.n ≤ s'.n + 1 ∧ Srt (A ++ (s'.M ++ B)) ∧ items s'.M = delL x (items s.M)

theorem takehere_any (x : Int) (w : World) (s : Sub) (N : Nd) (A B : List Tok) (h : LeafP w s N) (hn : s.n ≤ 100) (hs : Srt (A ++ (s.M ++ B))) :
    Calls Tryz.prog 134 #[ptrv s.b, i64 x] w (TakePost x 0 w s A B) := by
  have hr := leaf_rise h hs
  obtain ⟨p, hp⟩ := Pos.exists x N.ks hr
  have hnn := h.n
  have hi : items s.M = N.ks.zip N.vs := by rw [h.M, items_map]
  rw [← h.b]
  cases hf : found x N.ks p
  · refine (takehere_none w N x p h.na (by omega) hr hp hf).mono ?_
    rintro e w' ⟨rfl, hrb⟩
    have hg := leaf_get_none h.len hp hr hf
    have hdel := leaf_del_none h.len hp hr hf
    exact ⟨s, by rw [hi, hg]; rfl, Held.rb (d := 0) ⟨N, h⟩ hrb, Tn.of_rb s hrb, Nat.le_refl _, by omega, hs, by rw [hi, hdel]⟩
  · obtain ⟨hpl, hpe⟩ := found_at hf
    refine (takehere_some w N x p h.na h.len (by omega) hr hp hf).mono ?_
    rintro e w' ⟨rfl, kv', vv', X⟩
    obtain ⟨a, t⟩ := Nx.leaf h X h.ps (by have := h.len; simp; omega)
    have hg := leaf_get_some h.len hp hpl hpe
    have hdel := leaf_del_some h.len hp hr hpl hpe
    refine ⟨_, by rw [hi, hg]; rfl, a, t, ?_, ?_, ?_, ?_⟩
    · show (N.ks.take p ++ N.ks.drop (p + 1)).length ≤ s.n
      simp; omega
    · show s.n ≤ (N.ks.take p ++ N.ks.drop (p + 1)).length + 1
      simp; omega
    · show Srt (A ++ (((N.ks.take p ++ N.ks.drop (p + 1)).zip (N.vs.take p ++ N.vs.drop (p + 1))).map tk ++ B))
      rw [hdel]
      rw [h.M] at hs
      refine srt_sub hs (List.Sublist.append_left (List.Sublist.append_right (List.Sublist.map _ ?_) B) A)
      exact List.filter_sublist
    · show items (((N.ks.take p ++ N.ks.drop (p + 1)).zip (N.vs.take p ++ N.vs.drop (p + 1))).map tk) = _
      rw [items_map, hi, hdel]

set_option maxHeartbeats 2000000 in
set_option maxRecDepth 100000 in
theorem take_leaf (x : Int) (w : World) (s : Sub) (A B : List Tok) (h : Held 0 w s) (hn : s.n ≤ 100) (hs : Srt (A ++ (s.M ++ B))) :
    Calls Tryz.prog 109 #[ptrv s.b, i64 x] w (TakePost x 0 w s A B) := by
  obtain ⟨N, hN⟩ := h
  have CL := leaf_any w N hN.na
  have hle : isLeaf N = true := by unfold isLeaf; rw [hN.ps]; rfl
  rw [hle, hN.b] at CL
  have CL' := Lib.hid CL
  have CP := Lib.hid (takehere_any x w s N A B hN hn hs)
  clear CL hN hle hs hn
  go_enter Tryz.func109, Tryz.ntmps109
  go_wp2_with (go_at_call 113; refine CL'.out.mono ?_; rintro e w' ⟨rfl, rfl⟩)
  refine CP.out.mono ?_
  rintro e w' hp
  obtain ⟨s', rfl, h2⟩ := hp
  have H2 := Lib.hid h2
  clear h2
  obtain ⟨g1, hg1⟩ : ∃ g1, g1 = (getL x (items s.M)).getD sv0 := ⟨_, rfl⟩
  obtain ⟨g2, hg2⟩ : ∃ g2, g2 = (getL x (items s.M)).isSome := ⟨_, rfl⟩
  rw [← hg1, ← hg2]
  have G1 := Lib.hid hg1
  have G2 := Lib.hid hg2
  clear hg1 hg2
  go_wp2
  go_ret2
  refine ⟨s', ?_, H2.out⟩
  show Ending.returned (.tuple #[sv g1, .bool g2]) = _
  rw [G1.out, G2.out]

set_option maxHeartbeats 4000000 in
set_option maxRecDepth 100000 in
theorem take_any (x : Int) : ∀ (d : Nat) (w : World) (s : Sub) (A B : List Tok), Held d w s → s.n ≤ 8 → (0 < d → 2 ≤ s.n) → Srt (A ++ (s.M ++ B)) → (∀ a ∈ A, a.1 < 2 * x + 1) → (∀ b ∈ B, 2 * x + 1 < b.1) →
    Calls Tryz.prog 109 #[ptrv s.b, i64 x] w (TakePost x d w s A B)
  | 0, w, s, A, B, h, hn, h2, hs, hA, hB => take_leaf x w s A B h (by omega) hs
  | d + 1, w, s, A, B, h, hn, h2, hs, hA, hB => by
    obtain ⟨N, cs, o, hcs⟩ := h
    obtain ⟨p, hr, hp, l, c, r, P, Q, rfl, hpl, at_⟩ := o.at_ hs x
    have hcl := o.len
    have hlen : N.ps.length = N.ks.length + 1 := by rw [o.ps, List.length_map]; exact o.len
    have hsn := o.n
    have cn := hcs c (by simp)
    have hle : isLeaf N = false := by unfold isLeaf; rw [decide_eq_false_iff_not]; omega
    have hs' := hs
    rw [at_.M] at hs'
    obtain ⟨k1, k2, k3⟩ := ctx hs' hA hB at_.lo at_.hi
    have CL := leaf_any w N o.na
    rw [hle, o.b] at CL
    have CP := place_any w N x p o.na (by omega) hr hp
    rw [hpl, o.b] at CP
    have IH : ∀ w1, Rb w w1 → Hid (Calls Tryz.prog 109 #[ptrv c.b, i64 x] w1 (TakePost x d w1 c (A ++ P) (Q ++ B))) := fun w1 hr => take_any x d w1 c (A ++ P) (Q ++ B) ((o.held c (by simp)).rb hr) cn.2 (fun _ => by omega) k1 k2 k3
    have CL' := Lib.hid CL
    have CP' := Lib.hid CP
    have HO := Lib.hid o
    have HAT := Lib.hid at_
    have HCS := Lib.hid hcs
    have HI : Hid (items s.M = items P ++ (items c.M ++ items Q) ∧ Lt x (items P) ∧ Gt x (items Q)) := ⟨by rw [at_.M, items_append, items_append], lt_items at_.lo, gt_items at_.hi⟩
    have HSN : Hid (s.n = (l ++ c :: r).length ∧ s.n ≤ 8 ∧ 2 ≤ s.n ∧ 4 ≤ c.n ∧ c.n ≤ 8) := ⟨o.n, hn, h2 (by omega), cn.1, cn.2⟩
    have hll : l.length ≤ 8 := by have := o.n; simp at this; omega
    have hlr : l.length < l.length + (r.length + 1) := by omega
    have HG : Hid (getL x (items s.M) = getL x (items c.M)) := by
      show getL x (items s.M) = getL x (items c.M)
      rw [HI.out.1, getL_mid HI.out.2.1 HI.out.2.2]
    have EP : Hid (∀ L, L = delL x (items c.M) → items P ++ (L ++ items Q) = delL x (items s.M)) := fun L hL => by rw [HI.out.1, delL_mid HI.out.2.1 HI.out.2.2, hL]
    clear o at_ hcs cn CL CP hle hs hA hB hs' k1 k2 k3 hcl hlen hsn hn h2 hr hp hpl
    go_enter Tryz.func109, Tryz.ntmps109
    go_wp2_with (first | (go_at_call 113; refine CL'.out.mono ?_; rintro e w' ⟨rfl, rfl⟩) | (go_at_call 114; refine CP'.out.mono ?_))
    rintro e w1 ⟨rfl, hr1⟩
    obtain ⟨g, cap, q1, q2, q3⟩ := part_at (HO.out.rb hr1)
    have J := IH w1 hr1
    have HR1 := Lib.hid hr1
    generalize hm : l.length + (r.length + 1) = m at q1 q2 hlr
    have HM := Lib.hid hm
    clear hr1 IH hm
    go_wp2_with (go_at_call 109; refine J.out.mono ?_)
    first | (rintro e w2 c' rfl hc' t e1 e2 e4 e5) | (rintro e w2 ⟨c', rfl, hc', t, e1, e2, e4, e5⟩)
    obtain ⟨s1, o1, t1, n1⟩ := (HO.out.rb HR1.out).part hc' t
    have o1M : s1.M = P ++ (c'.M ++ Q) := by rw [o1.M]; exact HAT.out.any c'
    have hb1 : s1.b = s.b := t1.b
    clear q1 q2 q3
    obtain ⟨g2, cap2, p1, p2, p3⟩ := part_at o1
    rw [hb1] at p1
    rw [HM.out] at p1 p2
    have SC := Lib.hid (size_sub hc')
    have H1 : Hid (OpenP (Held d) w2 s1 N (l ++ c' :: r) ∧ Tn w1 s w2 s1 ∧ s1.n = s.n ∧ s1.M = P ++ (c'.M ++ Q)) := ⟨o1, t1, n1, o1M⟩
    have H2 : Hid (c'.n ≤ c.n ∧ c.n ≤ c'.n + 1 ∧ Srt ((A ++ P) ++ (c'.M ++ (Q ++ B))) ∧ items c'.M = delL x (items c.M)) := ⟨e1, e2, e4, e5⟩
    clear hc' t e1 e2 e4 e5 o1 t1 n1 o1M J
    generalize hg1 : (getL x (items c.M)).getD sv0 = g1 at *
    generalize hg2 : (getL x (items c.M)).isSome = g2' at *
    have HG1 := Lib.hid hg1
    have HG2 := Lib.hid hg2
    clear hg1 hg2
    by_cases h8 : (c'.n : Int) < 4
    · have SP := Lib.hid (fill_any d w2 s1 N l r c' H1.out.1 (by have a := HSN.out; simp at a ⊢; omega) (by have a := HSN.out; simp at a ⊢; omega) (by have a := HSN.out; have b := H2.out; omega) (fun z hz => HCS.out z (by
        rcases List.mem_append.1 hz with hz | hz
        · simp [hz]
        · simp [hz])))
      rw [hb1] at SP
      go_wp2_with (first | (go_at_call 111; refine SC.out.mono ?_; rintro e w' ⟨rfl, rfl⟩) | (go_at_call 135; refine SP.out.mono ?_))
      rintro e w3 hf
      obtain ⟨⟨v, rfl⟩, hf2⟩ := hf
      have H3 := Lib.hid hf2
      clear hf2
      go_wp2
      go_ret2
      obtain ⟨s2, N2, cs2, o2, hn2, t2, m1, m2, x2⟩ := H3.out
      obtain ⟨o1, t1, n1, o1M⟩ := H1.out
      obtain ⟨f1, f2, f3, f4⟩ := H2.out
      obtain ⟨z1, z2, z3, z4⟩ := HSN.out
      refine ⟨s2, show Ending.returned (.tuple #[sv g1, .bool g2']) = _ by rw [HG.out, HG1.out, HG2.out], ⟨N2, _, o2, hn2⟩, (Tn.of_rb s HR1.out).trans (t1.trans t2), by omega, by omega, ?_, ?_⟩
      · refine x2.1 A B ?_
        rw [o1M]
        exact unctx f3
      · rw [x2.2, o1M, items_append, items_append]
        exact EP.out _ f4
    · go_wp2_with (go_at_call 111; refine SC.out.mono ?_; rintro e w' ⟨rfl, rfl⟩)
      go_ret2
      obtain ⟨o1, t1, n1, o1M⟩ := H1.out
      obtain ⟨f1, f2, f3, f4⟩ := H2.out
      obtain ⟨z1, z2, z3, z4⟩ := HSN.out
      refine ⟨s1, show Ending.returned (.tuple #[sv g1, .bool g2']) = _ by rw [HG.out, HG1.out, HG2.out], ⟨N, _, o1, fun z hz => ?_⟩, (Tn.of_rb s HR1.out).trans t1, by omega, by omega, ?_, ?_⟩
      · simp only [List.mem_append, List.mem_cons] at hz
        rcases hz with hz | rfl | hz
        · exact HCS.out z (by simp [hz])
        · omega
        · exact HCS.out z (by simp [hz])
      · rw [o1M]
        exact unctx f3
      · rw [o1M, items_append, items_append]
        exact EP.out _ f4
end Go.Proofs.YtjfpeklfgnajoaaGreat.L6

namespace Go.Proofs.YtjfpeklfgnajoaaGreat.L6
open Go.ChangeShapes Go.WideShapes Go.ChangeAt Go.RowKit By Reg
set_option linter.unusedVariables false

/-- nothing but draws -/
def Dn (w w' : World) : Prop := ∃ q, w' = w.drewN q
theorem Dn.refl (w : World) : Dn w w := ⟨0, rfl⟩
theorem Dn.trans {a b c : World} (h : Dn a b) (k : Dn b c) : Dn a c := by
  obtain ⟨m, rfl⟩ := h
  obtain ⟨n, rfl⟩ := k
  exact ⟨m + n, by rw [World.drewN_drewN]⟩
theorem Dn.rb {w w' : World} (h : Dn w w') : Rb w w' := by
  obtain ⟨m, rfl⟩ := h
  exact ⟨rfl, rfl, rfl, Nat.le_refl _, fun _ _ => rfl⟩

/-- a subtree with something in every node -/
theorem Held.items_ne : ∀ (d : Nat) {w : World} {s : Sub}, Held d w s → 1 ≤ s.n → items s.M ≠ []
  | 0, w, s, ⟨N, h⟩, hn => by
    rw [h.M, items_map]
    intro e
    have := congrArg List.length e
    rw [List.length_zip, h.len, List.length_nil] at this
    have := h.n
    omega
  | d + 1, w, s, ⟨N, cs, h, hc⟩, hn => by
    rw [h.M, items_weave (by rw [List.length_map]; exact h.len)]
    obtain ⟨c, cs', rfl⟩ : ∃ c cs', cs = c :: cs' := by cases cs with | nil => have := h.n; simp at this; omega | cons c cs' => exact ⟨c, cs', rfl⟩
    have := Held.items_ne d (h.held c (by simp)) (by have := hc c (by simp); omega)
    simp [this]

def edgeOf (last : Bool) (L : List Th) : Option Th := if last then L.getLast? else L.head?

theorem edge_split {w : World} {d : Nat} {s : Sub} {N : Nd} {cs : List Sub} (o : OpenP (Held d) w s N cs) (hc : ∀ c ∈ cs, 4 ≤ c.n ∧ c.n ≤ 8) (hn : 1 ≤ s.n) (last : Bool) (t : Th) (ht : edgeOf last (items s.M) = some t) :
    ∃ l c r, cs = l ++ c :: r ∧ l.length = (if last then s.n - 1 else 0) ∧ edgeOf last (items c.M) = some t := by
  have hne : cs ≠ [] := fun e => by have := o.n; rw [e] at this; simp at this; omega
  have hi : items s.M = (cs.map (·.M)).flatMap items := by rw [o.M, items_weave (by rw [List.length_map]; exact o.len)]
  cases last with
  | true =>
    rcases List.eq_nil_or_concat cs with e | ⟨l, c, rfl⟩
    · exact absurd e hne
    · simp only [List.concat_eq_append] at *
      refine ⟨l, c, [], rfl, ?_, ?_⟩
      · have := o.n; simp at this ⊢; omega
      · have hcn := Held.items_ne d (o.held c (by simp)) (by have := hc c (by simp); omega)
        have e : items s.M = (l.map (·.M)).flatMap items ++ items c.M := by rw [hi]; simp
        rw [e] at ht
        simp only [edgeOf, if_true] at ht ⊢
        rw [List.getLast?_append] at ht
        cases hx : (items c.M).getLast? with
        | none => exact absurd (List.getLast?_eq_none_iff.1 hx) hcn
        | some u => rw [hx] at ht; simpa using ht
  | false =>
    obtain ⟨c, r, rfl⟩ : ∃ c r, cs = c :: r := by cases cs with | nil => exact absurd rfl hne | cons c r => exact ⟨c, r, rfl⟩
    refine ⟨[], c, r, rfl, rfl, ?_⟩
    have hcn := Held.items_ne d (o.held c (by simp)) (by have := hc c (by simp); omega)
    have e : items s.M = items c.M ++ (r.map (·.M)).flatMap items := by rw [hi]; simp
    rw [e] at ht
    simp only [edgeOf, Bool.false_eq_true, if_false] at ht ⊢
    rw [List.head?_append] at ht
    cases hx : (items c.M).head? with
    | none => exact absurd (List.head?_eq_none_iff.1 hx) hcn
    | some u => rw [hx] at ht; simpa using ht

end Go.Proofs.YtjfpeklfgnajoaaGreat.L6

namespace Go.Proofs.YtjfpeklfgnajoaaGreat.L6
open Go.ChangeShapes Go.WideShapes Go.ChangeAt Go.RowKit By Reg
set_option linter.unusedVariables false

/-- a key between two parts -/
theorem OpenP.sep {H : World → Sub → Prop} {w : World} {s : Sub} {N : Nd} {cs : List Sub} (o : OpenP H w s N cs) (hs : Srt s.M) (i : Nat) (hi : i < N.ks.length) :
    ∃ l a b r, cs = l ++ a :: b :: r ∧ l.length = i ∧ (∀ t ∈ items a.M, t.1 < N.ks.getD i 0) ∧ (∀ t ∈ items b.M, N.ks.getD i 0 ≤ t.1) := by
  have hlen := o.len
  have hic : i < cs.length := by omega
  have hic2 : i + 1 < cs.length := by omega
  have hcs : cs = cs.take i ++ cs[i] :: cs[i + 1] :: cs.drop (i + 1 + 1) := by rw [← drop_cons hic2, ← drop_cons hic, List.take_append_drop]
  have hkd : N.ks.drop i = N.ks.getD i 0 :: N.ks.drop (i + 1) := by
    rw [drop_cons hi, List.getD_eq_getElem?_getD, List.getElem?_eq_getElem hi]; rfl
  have hw := weave_split (N.ks.take i) ((cs.take i).map (·.M)) (N.ks.drop i) cs[i].M (cs[i + 1].M :: (cs.drop (i + 1 + 1)).map (·.M)) (by simp; omega)
  rw [List.take_append_drop, hkd] at hw
  have e : s.M = preW (N.ks.take i) ((cs.take i).map (·.M)) ++ (cs[i].M ++ sp (N.ks.getD i 0) :: (cs[i + 1].M ++ postW (N.ks.drop (i + 1)) ((cs.drop (i + 1 + 1)).map (·.M)))) := by
    rw [o.M]
    conv => lhs; rw [hcs]
    rw [List.map_append, List.map_cons, List.map_cons, hw]
    rfl
  rw [e] at hs
  obtain ⟨h1, h2, h3⟩ := srt_append.1 (srt_append.1 hs).2.1
  refine ⟨cs.take i, cs[i], cs[i + 1], cs.drop (i + 1 + 1), hcs, by rw [List.length_take]; omega, fun t ht => ?_, fun t ht => ?_⟩
  · obtain ⟨c, hc, e⟩ := items_mem ht
    have := h3 c hc _ (List.mem_cons_self ..)
    unfold sp at this; dsimp only at this
    omega
  · obtain ⟨c, hc, e⟩ := items_mem ht
    have := (srt_cons.1 h2).1 c (by simp [hc])
    unfold sp at this; dsimp only at this
    omega

end Go.Proofs.YtjfpeklfgnajoaaGreat.L6

namespace Go.Proofs.YtjfpeklfgnajoaaGreat.L6
open Go.ChangeShapes Go.WideShapes Go.ChangeAt Go.RowKit By Reg
set_option linter.unusedVariables false

theorem wrapk (n : Nat) (h : n ≤ 1000000) : IntKind.i64.wrap (n : Int) = (n : Int) := by rw [IntKind.wrap_i64]; omega

theorem OpenP.srt {H : World → Sub → Prop} {w : World} {s : Sub} {N : Nd} {cs : List Sub} (o : OpenP H w s N cs) (hs : Srt s.M) : ∀ c ∈ cs, Srt c.M := fun c hc => by
  obtain ⟨l, r, rfl⟩ := List.append_of_mem hc
  have hlen := o.len
  simp only [List.length_append, List.length_cons] at hlen
  have hw := weave_split (N.ks.take l.length) (l.map (·.M)) (N.ks.drop l.length) c.M (r.map (·.M)) (by simp; omega)
  rw [List.take_append_drop] at hw
  rw [o.M, List.map_append, List.map_cons, hw] at hs
  exact srt_mid hs

end Go.Proofs.YtjfpeklfgnajoaaGreat.L6

namespace Go.Proofs.YtjfpeklfgnajoaaGreat.L6
open Go.ChangeShapes Go.WideShapes Go.ChangeAt Go.RowKit By Reg
set_option linter.unusedVariables false

/-- a Tree with something in it -/
structure Full (w : World) (p : Nat) (L : List Th) (d : Nat) (s : Sub) : Prop where
  blk : Blk w p 93 [ptrv s.b, i64 L.length]
  held : Held d w s
  one : 1 ≤ s.n
  eight : s.n ≤ 8
  two : 0 < d → 2 ≤ s.n
  srt : Srt s.M
  items : items s.M = L
  off : ¬ s.F p

def TreeAt (w : World) (p : Nat) (L : List Th) (F : Nat → Prop) : Prop :=
  (Blk w p 93 [.pointer none, i64 0] ∧ L = [] ∧ ∀ k, F k ↔ k = p) ∨ ∃ d s, Full w p L d s ∧ ∀ k, F k ↔ (k = p ∨ s.F k)

theorem Full.tree {w : World} {p : Nat} {L : List Th} {d : Nat} {s : Sub} (h : Full w p L d s) : TreeAt w p L (fun k => k = p ∨ s.F k) := .inr ⟨d, s, h, fun _ => Iff.rfl⟩

theorem putL_length (x : Int) (y : SV) : ∀ L : List Th, Rise L → ((putL x y L).length : Int) = L.length + (if (getL x L).isSome then 0 else 1)
  | [], _ => by simp [putL, getL]
  | t :: L, h => by
    have h' := List.pairwise_cons.1 h
    rw [putL, getL]
    by_cases h1 : t.1 < x
    · rw [if_pos h1, if_neg (show ¬ t.1 = x by omega)]
      have := putL_length x y L h'.2
      simp only [List.length_cons, Int.natCast_add]
      omega
    · rw [if_neg h1]
      by_cases h2 : t.1 = x
      · rw [if_pos h2, if_pos h2]
        simp
      · rw [if_neg h2, if_neg h2, getL_gt (x := x) (fun u hu => by have := h'.1 u hu; omega)]
        simp

theorem sizeptr : (Tryz.prog.info? 91).map (·.size) = some 1 := by kernel_rfl
theorem sizeint : (Tryz.prog.info? 3).map (·.size) = some 1 := by kernel_rfl

/-- the post of Put -/
def TPut (x : Int) (y : SV) (w : World) (p : Nat) (L : List Th) (F : Nat → Prop) (e : Ending) (w' : World) : Prop :=
  ∃ F', e = .returned (.tuple #[sv ((getL x L).getD sv0), .bool (getL x L).isSome]) ∧ TreeAt w' p (putL x y L) F' ∧ Fr F w w' ∧ (∀ k, F' k → F k ∨ w.heap.size ≤ k)

/-- the parts behind put, put together -/
theorem put_fin {x : Int} {y : SV} {w w1 w' : World} {p : Nat} {L : List Th} {d : Nat} {s s1 : Sub} (h : Full w p L d s) (hh : Held d w1 s1) (t : Tn w s w1 s1) (hn : 1 ≤ s1.n) (h8 : s1.n ≤ 8) (h2 : s.n ≤ s1.n) (hs : Srt s1.M) (hi : items s1.M = putL x y L)
    (hb : Blk w' p 93 [ptrv s.b, i64 (putL x y L).length]) (hw : Wrote p w1 w') :
    ∃ F', TreeAt w' p (putL x y L) F' ∧ Fr (fun k => k = p ∨ s.F k) w w' ∧ (∀ k, F' k → (k = p ∨ s.F k) ∨ w.heap.size ≤ k) := by
  have hp : ¬ s1.F p := fun hp => by
    rcases t.F p hp with h' | h'
    · exact h.off h'
    · have := h.blk.lt; omega
  refine ⟨_, Full.tree (d := d) (s := s1) ⟨by rw [t.b]; exact hb, hh.same d fun k hk => hw.block k (fun e => hp (by rw [← e]; exact hk)), hn, h8, fun hd => by have := h.two hd; omega, hs, hi, hp⟩, ?_, fun k hk => ?_⟩
  · exact (t.fr.mono (fun k hk _ => .inr hk)).wrote hw (.inl (.inl rfl))
  · rcases hk with hk | hk
    · exact .inl (.inl hk)
    · rcases t.F k hk with h' | h'
      · exact .inl (.inr h')
      · exact .inr h'

/-- a new root over the old one -/
theorem open_root {w2 w3 w4 : World} {d : Nat} {s1 : Sub} {p : Nat} (hh : Held d w2 s1) (hp : ¬ s1.F p) (hpl : p < w2.heap.size)
    (e3 : w3 = (w2.alloc (.cells #[ptrv s1.b] 91)).alloc (.cells #[.slice none 0 0, .slice none 0 0, .slice (some ⟨w2.heap.size, 0, none⟩) 1 1] 160)) (hw : Wrote p w3 w4) :
    OpenP (Held d) w4 ⟨w2.heap.size + 1, 1, s1.M, fun k => (k = w2.heap.size + 1 ∨ k = w2.heap.size) ∨ s1.F k⟩ ⟨w2.heap.size + 1, .slice none 0 0, .slice none 0 0, .slice (some ⟨w2.heap.size, 0, none⟩) 1 1, [], [], [s1.b]⟩ [s1] := by
  have hs1 : (w2.alloc (.cells #[ptrv s1.b] 91)).heap.size = w2.heap.size + 1 := by simp
  have r1 : Rb w2 (w2.alloc (.cells #[ptrv s1.b] 91)) := (Below.refl _ w2).alloc (Nat.le_refl _) _
  have r2 : Rb (w2.alloc (.cells #[ptrv s1.b] 91)) w3 := by rw [e3]; exact (Below.refl _ _).alloc (Nat.le_refl _) _
  have b1 : Blk w3 w2.heap.size 91 [ptrv s1.b] := (Blk.new w2 _ [ptrv s1.b]).rb r2
  have b2 : Blk w3 (w2.heap.size + 1) 160 [.slice none 0 0, .slice none 0 0, .slice (some ⟨w2.heap.size, 0, none⟩) 1 1] := by
    rw [e3, ← hs1]
    exact Blk.new _ _ [.slice none 0 0, .slice none 0 0, .slice (some ⟨w2.heap.size, 0, none⟩) 1 1]
  have b1' := b1.same (hw.block _ (by omega))
  have b2' := b2.same (hw.block _ (by omega))
  have lt := hh.lt d
  have h4 : Held d w4 s1 := ((hh.rb r1).rb r2).same d fun k hk => hw.block k (fun e => hp (by rw [← e]; exact hk))
  refine ⟨⟨b2', Row.nil _ _, Row.nil _ _, ?_⟩, rfl, rfl, rfl, rfl, rfl, ?_, fun c hc => ?_, ?_, fun c hc k hk hk' => ?_, fun k => ?_⟩
  · exact Row.mk' (xs := [ptrv s1.b]) (rest := []) b1' (by unfold maxLen; simp)
  · show s1.M = s1.M ++ postW [] []
    simp [postW]
  · simp at hc; subst hc; exact h4
  · simp
  · simp at hc; subst hc
    have := lt k hk'
    rcases hk with hk | hk | hk | hk
    · dsimp only at hk; omega
    · cases hk
    · cases hk
    · cases hk; simp at this
  · constructor
    · rintro ((h | h) | h)
      · exact .inl (.inl h)
      · exact .inl (.inr (.inr (.inr (by rw [h]; rfl))))
      · exact .inr ⟨s1, by simp, h⟩
    · rintro (h | ⟨c, hc, h⟩)
      · rcases h with h | h | h | h
        · exact .inl (.inl h)
        · cases h
        · cases h
        · cases h; exact .inl (.inr rfl)
      · simp at hc; subst hc; exact .inr h
set_option maxHeartbeats 4000000 in
set_option maxRecDepth 100000 in
theorem tput_full (x : Int) (y : SV) (w : World) (p : Nat) (L : List Th) (d : Nat) (s : Sub) (h : Full w p L d s) (hL : L.length ≤ 100000) :
    Calls Tryz.prog 82 #[ptrv p, i64 x, sv y] w (TPut x y w p L (fun k => k = p ∨ s.F k)) := by
  have CP := Lib.hid (put_any x y d w s [] [] h.held h.eight (by simpa using h.srt) (fun a ha => by cases ha) (fun b hb => by cases hb))
  have b0 := h.blk.cell 0
  have HF := Lib.hid h
  have hr : Rise L := by rw [← h.items]; exact rise_items h.srt
  have HPL := Lib.hid (putL_length x y L hr)
  have hi := h.items
  have hLb : L.length ≤ 100000 := hL
  unfold PutPost at CP
  rw [hi] at CP
  obtain ⟨g1, hg1⟩ : ∃ g1, g1 = (getL x L).getD sv0 := ⟨_, rfl⟩
  rw [← hg1] at CP
  unfold TPut
  rw [← hg1]
  have HG1 := Lib.hid hg1
  clear hr hi hg1 h
  cases hg : (getL x L).isSome
  · -- a new key
    rw [hg] at CP HPL
    simp only [Bool.false_eq_true, if_false] at HPL
    clear hg
    go_enter Tryz.func82, Tryz.ntmps82
    go_wp2_with (go_at_call 110; refine CP.out.mono ?_)
    first | (rintro e w1 s1 rfl hh t e1 e2 e3 e4 e5) | (rintro e w1 ⟨s1, rfl, hh, t, e1, e2, e3, e4, e5⟩)
    have hb1 : Blk w1 p 93 [ptrv s.b, i64 L.length] := HF.out.blk.same (t.fr.block _ HF.out.blk.lt HF.out.off)
    have hoff : ¬ s1.F p := fun hp => by
      rcases t.F p hp with h' | h'
      · exact HF.out.off h'
      · have := HF.out.blk.lt; omega
    have c0 := hb1.cell 0
    have c1 := hb1.cell 1
    have HB1 := Lib.hid hb1
    have H1 : Hid (Held d w1 s1 ∧ Tn w s w1 s1 ∧ s.n ≤ s1.n ∧ s1.n ≤ s.n + 1 ∧ 1 ≤ s1.n ∧ Srt s1.M ∧ items s1.M = putL x y L ∧ ¬ s1.F p) := ⟨hh, t, e1, e2, e3, by simpa using e4, e5, hoff⟩
    have hw1 : IntKind.i64.wrap ((L.length : Int) + 1) = (L.length : Int) + 1 := by rw [IntKind.wrap_i64]; omega
    clear hh t e1 e2 e3 e4 e5 hb1 hoff CP
    go_wp2_with (refine wpList_store rfl 3 _ _ rfl p 1 93 _ [_] _ rfl rfl HB1.out rfl sizeint (by simp) (one1 rfl) ?_)
    intro w2 hb2 hw2
    have hh2 : Held d w2 s1 := H1.out.1.same d fun k hk => hw2.block k (fun e => H1.out.2.2.2.2.2.2.2 (by rw [← e]; exact hk))
    have hlen : ((L.length : Int) + 1) = ((putL x y L).length : Int) := HPL.out.symm
    have hb2' : Blk w2 p 93 [ptrv s.b, i64 (putL x y L).length] := by
      rw [← hlen]; exact hb2
    have d0 := hb2'.cell 0
    have SC := Lib.hid (size_sub hh2)
    rw [H1.out.2.1.b] at SC
    have HB2 := Lib.hid hb2'
    have HW2 := Lib.hid hw2
    have HH2 := Lib.hid hh2
    clear hb2 hb2' hw2 hh2 hw1 c0 c1 hlen
    by_cases h8 : (s1.n : Int) > 8
    · obtain ⟨w3, e3⟩ : ∃ w3, w3 = (w2.alloc (.cells #[ptrv s1.b] 91)).alloc (.cells #[.slice none 0 0, .slice none 0 0, .slice (some ⟨w2.heap.size, 0, none⟩) 1 1] 160) := ⟨_, rfl⟩
      have hpl : p < w2.heap.size := HB2.out.lt
      have r3 : Rb w2 w3 := by
        rw [e3]
        exact Below.trans ((Below.refl _ w2).alloc (Nat.le_refl _) _) (((Below.refl _ _).alloc (Nat.le_refl _) _).mono (by simp))
      have HB3 := Lib.hid (HB2.out.rb r3)
      have HR3 := Lib.hid r3
      have E3 := Lib.hid e3
      rw [H1.out.2.1.b] at e3
      have hsz : (w2.alloc (.cells #[ptrv s.b] 91)).heap.size = w2.heap.size + 1 := by simp
      clear r3
      go_wp2_with (first | (go_at_call 111; refine SC.out.mono ?_; rintro e w' ⟨rfl, rfl⟩) | (rw [← e3]; refine wpList_store rfl 91 _ _ rfl p 0 93 _ [ptrv (w2.heap.size + 1)] _ rfl rfl HB3.out rfl sizeptr (by simp) (one1 rfl) ?_))
      intro w4 hb4 hw4
      rw [← e3] at hw4
      have OR := open_root HH2.out H1.out.2.2.2.2.2.2.2 hpl E3.out hw4
      have SP := split_any d w4 _ _ [] [] s1 OR (by simp) (by omega) (by have a := H1.out.2.2.2.1; have b := HF.out.eight; omega)
      have SP' : Hid (Calls Tryz.prog 112 #[ptrv (w2.heap.size + 1), i64 0] w4 _) := SP
      have q0 := hb4.cell 0
      have HB4 : Hid (Blk w4 p 93 [ptrv (w2.heap.size + 1), i64 (putL x y L).length]) := hb4
      have HW4 := Lib.hid hw4
      clear OR SP hb4 hw4 e3 hsz
      go_wp2_with (go_at_call 112; refine SP'.out.mono ?_)
      first | (rintro e w5 v rfl s4 N4 c1 c2 o4 t4 n4 x4 m1 m2) | (rintro e w5 ⟨⟨v, rfl⟩, s4, N4, c1, c2, o4, t4, n4, x4, m1, m2⟩)
      have H4 : Hid (OpenP (Held d) w5 s4 N4 ([] ++ c1 :: c2 :: []) ∧ Tn w4 _ w5 s4 ∧ s4.n = 1 + 1 ∧ Ext s1.M s4.M ∧ c1.n = s1.n / 2 ∧ c2.n = s1.n - s1.n / 2) := ⟨o4, t4, n4, x4, m1, m2⟩
      clear o4 t4 n4 x4 m1 m2
      go_wp2
      go_ret2
      obtain ⟨o4, t4, n4, x4, m1, m2⟩ := H4.out
      obtain ⟨h1, t, f1, f2, f3, f4, f5, f6⟩ := H1.out
      have h8s := HF.out.eight
      have hsz2 := HW2.out.size
      have hsz1 := t.fr.size
      have hsz3 := HR3.out.size
      have hpw := HF.out.blk.lt
      have off4 : ¬ s4.F p := fun hp => by
        rcases t4.F p hp with h' | h'
        · rcases h' with (h' | h') | h'
          · omega
          · omega
          · exact f6 h'
        · have := HB4.out.lt; omega
      refine ⟨_, rfl, Full.tree (d := d + 1) (s := s4) ⟨?_, ⟨N4, _, o4, fun z hz => ?_⟩, by omega, by omega, fun _ => by omega, ?_, ?_, off4⟩, ?_, fun k hk => ?_⟩
      · have hb5 := HB4.out.same (t4.fr.block _ HB4.out.lt (fun h' => by
          rcases h' with (h' | h') | h'
          · omega
          · omega
          · exact f6 h'))
        rw [t4.b]
        exact hb5
      · simp only [List.nil_append, List.mem_cons, List.not_mem_nil, or_false] at hz
        rcases hz with rfl | rfl
        · omega
        · omega
      · have := x4.1 [] [] (by simpa using f4)
        simpa using this
      · rw [x4.2, f5]
      · refine ((((t.fr.mono (G := fun k => k = p ∨ s.F k) (fun k hk _ => .inr hk)).wrote HW2.out (.inl (.inl rfl))).then_rb HR3.out).wrote HW4.out (.inl (.inl rfl))).trans t4.fr (fun k hk => ?_)
        rcases hk with (h' | h') | h'
        · exact .inr (by omega)
        · exact .inr (by omega)
        · rcases t.F k h' with h'' | h''
          · exact .inl (.inr h'')
          · exact .inr h''
      · have hsz4 := HW4.out.size
        rcases hk with hk | hk
        · exact .inl (.inl hk)
        · rcases t4.F k hk with (h' | h') | h'
          · rcases h' with h' | h'
            · exact .inr (by omega)
            · exact .inr (by omega)
          · rcases t.F k h' with h'' | h''
            · exact .inl (.inr h'')
            · exact .inr h''
          · exact .inr (by omega)
    · go_wp2_with (go_at_call 111; refine SC.out.mono ?_; rintro e w' ⟨rfl, rfl⟩)
      go_ret2
      obtain ⟨h1, t, f1, f2, f3, f4, f5, f6⟩ := H1.out
      obtain ⟨F', q1, q2, q3⟩ := put_fin HF.out h1 t f3 (by omega) f1 f4 f5 HB2.out HW2.out
      exact ⟨F', rfl, q1, q2, q3⟩
  · -- the key was there
    rw [hg] at CP HPL
    simp only [if_true, Int.add_zero] at HPL
    clear hg
    go_enter Tryz.func82, Tryz.ntmps82
    go_wp2_with (go_at_call 110; refine CP.out.mono ?_)
    first | (rintro e w1 s1 rfl hh t e1 e2 e3 e4 e5) | (rintro e w1 ⟨s1, rfl, hh, t, e1, e2, e3, e4, e5⟩)
    have hb1 : Blk w1 p 93 [ptrv s.b, i64 L.length] := HF.out.blk.same (t.fr.block _ HF.out.blk.lt HF.out.off)
    have hoff : ¬ s1.F p := fun hp => by
      rcases t.F p hp with h' | h'
      · exact HF.out.off h'
      · have := HF.out.blk.lt; omega
    have c0 := hb1.cell 0
    have c1 := hb1.cell 1
    have HB1 := Lib.hid hb1
    have H1 : Hid (Held d w1 s1 ∧ Tn w s w1 s1 ∧ s.n ≤ s1.n ∧ s1.n ≤ s.n + 1 ∧ 1 ≤ s1.n ∧ Srt s1.M ∧ items s1.M = putL x y L ∧ ¬ s1.F p) := ⟨hh, t, e1, e2, e3, by simpa using e4, e5, hoff⟩
    clear hh t e1 e2 e3 e4 e5 hb1 hoff CP
    obtain ⟨w2, hww⟩ : ∃ w2, w2 = w1 := ⟨_, rfl⟩
    rw [← hww]
    have hh2 : Held d w2 s1 := by rw [hww]; exact H1.out.1
    have hw2 : Wrote p w1 w2 := by rw [hww]; exact ⟨rfl, rfl, rfl, rfl, fun _ _ => rfl⟩
    have hlen : (L.length : Int) = ((putL x y L).length : Int) := HPL.out.symm
    have hb2' : Blk w2 p 93 [ptrv s.b, i64 (putL x y L).length] := by
      rw [← hlen, hww]; exact HB1.out
    have d0 := hb2'.cell 0
    have SC := Lib.hid (size_sub hh2)
    rw [H1.out.2.1.b] at SC
    have HB2 := Lib.hid hb2'
    have HW2 := Lib.hid hw2
    have HH2 := Lib.hid hh2
    clear hb2' hw2 hh2 c0 c1 hlen hww
    by_cases h8 : (s1.n : Int) > 8
    · obtain ⟨w3, e3⟩ : ∃ w3, w3 = (w2.alloc (.cells #[ptrv s1.b] 91)).alloc (.cells #[.slice none 0 0, .slice none 0 0, .slice (some ⟨w2.heap.size, 0, none⟩) 1 1] 160) := ⟨_, rfl⟩
      have hpl : p < w2.heap.size := HB2.out.lt
      have r3 : Rb w2 w3 := by
        rw [e3]
        exact Below.trans ((Below.refl _ w2).alloc (Nat.le_refl _) _) (((Below.refl _ _).alloc (Nat.le_refl _) _).mono (by simp))
      have HB3 := Lib.hid (HB2.out.rb r3)
      have HR3 := Lib.hid r3
      have E3 := Lib.hid e3
      rw [H1.out.2.1.b] at e3
      have hsz : (w2.alloc (.cells #[ptrv s.b] 91)).heap.size = w2.heap.size + 1 := by simp
      clear r3
      go_wp2_with (first | (go_at_call 111; refine SC.out.mono ?_; rintro e w' ⟨rfl, rfl⟩) | (rw [← e3]; refine wpList_store rfl 91 _ _ rfl p 0 93 _ [ptrv (w2.heap.size + 1)] _ rfl rfl HB3.out rfl sizeptr (by simp) (one1 rfl) ?_))
      intro w4 hb4 hw4
      rw [← e3] at hw4
      have OR := open_root HH2.out H1.out.2.2.2.2.2.2.2 hpl E3.out hw4
      have SP := split_any d w4 _ _ [] [] s1 OR (by simp) (by omega) (by have a := H1.out.2.2.2.1; have b := HF.out.eight; omega)
      have SP' : Hid (Calls Tryz.prog 112 #[ptrv (w2.heap.size + 1), i64 0] w4 _) := SP
      have q0 := hb4.cell 0
      have HB4 : Hid (Blk w4 p 93 [ptrv (w2.heap.size + 1), i64 (putL x y L).length]) := hb4
      have HW4 := Lib.hid hw4
      clear OR SP hb4 hw4 e3 hsz
      go_wp2_with (go_at_call 112; refine SP'.out.mono ?_)
      first | (rintro e w5 v rfl s4 N4 c1 c2 o4 t4 n4 x4 m1 m2) | (rintro e w5 ⟨⟨v, rfl⟩, s4, N4, c1, c2, o4, t4, n4, x4, m1, m2⟩)
      have H4 : Hid (OpenP (Held d) w5 s4 N4 ([] ++ c1 :: c2 :: []) ∧ Tn w4 _ w5 s4 ∧ s4.n = 1 + 1 ∧ Ext s1.M s4.M ∧ c1.n = s1.n / 2 ∧ c2.n = s1.n - s1.n / 2) := ⟨o4, t4, n4, x4, m1, m2⟩
      clear o4 t4 n4 x4 m1 m2
      go_wp2
      go_ret2
      obtain ⟨o4, t4, n4, x4, m1, m2⟩ := H4.out
      obtain ⟨h1, t, f1, f2, f3, f4, f5, f6⟩ := H1.out
      have h8s := HF.out.eight
      have hsz2 := HW2.out.size
      have hsz1 := t.fr.size
      have hsz3 := HR3.out.size
      have hpw := HF.out.blk.lt
      have off4 : ¬ s4.F p := fun hp => by
        rcases t4.F p hp with h' | h'
        · rcases h' with (h' | h') | h'
          · omega
          · omega
          · exact f6 h'
        · have := HB4.out.lt; omega
      refine ⟨_, rfl, Full.tree (d := d + 1) (s := s4) ⟨?_, ⟨N4, _, o4, fun z hz => ?_⟩, by omega, by omega, fun _ => by omega, ?_, ?_, off4⟩, ?_, fun k hk => ?_⟩
      · have hb5 := HB4.out.same (t4.fr.block _ HB4.out.lt (fun h' => by
          rcases h' with (h' | h') | h'
          · omega
          · omega
          · exact f6 h'))
        rw [t4.b]
        exact hb5
      · simp only [List.nil_append, List.mem_cons, List.not_mem_nil, or_false] at hz
        rcases hz with rfl | rfl
        · omega
        · omega
      · have := x4.1 [] [] (by simpa using f4)
        simpa using this
      · rw [x4.2, f5]
      · refine ((((t.fr.mono (G := fun k => k = p ∨ s.F k) (fun k hk _ => .inr hk)).wrote HW2.out (.inl (.inl rfl))).then_rb HR3.out).wrote HW4.out (.inl (.inl rfl))).trans t4.fr (fun k hk => ?_)
        rcases hk with (h' | h') | h'
        · exact .inr (by omega)
        · exact .inr (by omega)
        · rcases t.F k h' with h'' | h''
          · exact .inl (.inr h'')
          · exact .inr h''
      · have hsz4 := HW4.out.size
        rcases hk with hk | hk
        · exact .inl (.inl hk)
        · rcases t4.F k hk with (h' | h') | h'
          · rcases h' with h' | h'
            · exact .inr (by omega)
            · exact .inr (by omega)
          · rcases t.F k h' with h'' | h''
            · exact .inl (.inr h'')
            · exact .inr h''
          · exact .inr (by omega)
    · go_wp2_with (go_at_call 111; refine SC.out.mono ?_; rintro e w' ⟨rfl, rfl⟩)
      go_ret2
      obtain ⟨h1, t, f1, f2, f3, f4, f5, f6⟩ := H1.out
      obtain ⟨F', q1, q2, q3⟩ := put_fin HF.out h1 t f3 (by omega) f1 f4 f5 HB2.out HW2.out
      exact ⟨F', rfl, q1, q2, q3⟩
set_option maxHeartbeats 4000000 in
set_option maxRecDepth 100000 in
theorem tput_empty (x : Int) (y : SV) (w : World) (p : Nat) (hb : Blk w p 93 [.pointer none, i64 0]) :
    Calls Tryz.prog 82 #[ptrv p, i64 x, sv y] w (TPut x y w p [] (fun k => k = p)) := by
  have b0 := hb.cell 0
  have HB0 := Lib.hid hb
  obtain ⟨w1, e1⟩ : ∃ w1, w1 = w.alloc (.cells #[.slice none 0 0, .slice none 0 0, .slice none 0 0] 160) := ⟨_, rfl⟩
  have r1 : Rb w w1 := by rw [e1]; exact (Below.refl _ w).alloc (Nat.le_refl _) _
  have HB1 := Lib.hid (hb.rb r1)
  have NB : Hid (Blk w1 w.heap.size 160 [.slice none 0 0, .slice none 0 0, .slice none 0 0]) := by rw [e1]; exact Blk.new w _ [.slice none 0 0, .slice none 0 0, .slice none 0 0]
  have R1 := Lib.hid r1
  clear r1 hb
  unfold TPut
  go_enter Tryz.func82, Tryz.ntmps82
  go_wp2_with (rw [← e1]; refine wpList_store rfl 91 _ _ rfl p 0 93 _ [ptrv w.heap.size] _ rfl rfl HB1.out rfl sizeptr (by simp) (one1 rfl) ?_)
  intro w2 hb2 hw2
  rw [← e1] at hw2
  have hp : p ≠ w.heap.size := by have := HB0.out.lt; omega
  have hn : NodeAt w2 ⟨w.heap.size, .slice none 0 0, .slice none 0 0, .slice none 0 0, [], [], []⟩ := ⟨NB.out.same (hw2.block _ (fun e => hp e.symm)), Row.nil _ _, Row.nil _ _, Row.nil _ _⟩
  have hh : Held 0 w2 ⟨w.heap.size, 0, [], fun k => k = w.heap.size⟩ := ⟨_, hn, rfl, rfl, rfl, rfl, rfl, fun k => by
    constructor
    · intro h; exact .inl h
    · rintro (h | h | h | h)
      · exact h
      · cases h
      · cases h
      · cases h⟩
  have CP0 := put_any x y 0 w2 ⟨w.heap.size, 0, [], fun k => k = w.heap.size⟩ [] [] hh (Nat.zero_le _) (by simp [Srt]) (fun a ha => by cases ha) (fun b hb => by cases hb)
  have CP : Hid (Calls Tryz.prog 110 #[ptrv w.heap.size, i64 x, sv y] w2 (PutPost x y 0 w2 ⟨w.heap.size, 0, [], fun k => k = w.heap.size⟩ [] [])) := CP0
  have c0 := hb2.cell 0
  have HB2 : Hid (Blk w2 p 93 [ptrv w.heap.size, i64 0]) := hb2
  have HW2 := Lib.hid hw2
  clear hb2 hw2 hn hh CP0 b0
  go_wp2_with (go_at_call 110; refine CP.out.mono ?_)
  rintro e w3 hp3
  obtain ⟨s1, rfl, hh, t, f1, f2, f3, f4, f5⟩ := hp3
  have hitem : items ([] : List Tok) = [] := rfl
  have ef : items s1.M = putL x y [] := f5
  have hoff : ¬ s1.F p := fun h' => by
    rcases t.F p h' with h | h
    · exact hp h
    · have := HB2.out.lt; omega
  have hb3 := HB2.out.same (t.fr.block _ HB2.out.lt (fun h => hp h))
  have c1 := hb3.cell 0
  have c2 := hb3.cell 1
  have HB3 : Hid (Blk w3 p 93 [ptrv w.heap.size, i64 0]) := hb3
  have f2' : s1.n ≤ 0 + 1 := f2
  have H1 : Hid (Held 0 w3 s1 ∧ Tn w2 ⟨w.heap.size, 0, [], fun k => k = w.heap.size⟩ w3 s1 ∧ s1.n = 1 ∧ Srt s1.M ∧ items s1.M = putL x y [] ∧ ¬ s1.F p ∧ s1.b = w.heap.size) := ⟨hh, t, by omega, by simpa using f4, ef, hoff, t.b⟩
  clear hh t f1 f2 f2' f3 f4 f5 ef hoff hb3 CP hitem c0
  have eg : (getL x (items ([] : List Tok))).getD sv0 = sv0 := rfl
  have eg2 : (getL x (items ([] : List Tok))).isSome = false := rfl
  dsimp only [eg, eg2]
  rw [show (getL x (items [])) = none from rfl]
  dsimp only [Option.getD, Option.isSome]
  have hw1 : IntKind.i64.wrap ((0 : Int) + 1) = 1 := by decide
  clear eg eg2
  go_wp2_with (refine wpList_store rfl 3 _ _ rfl p 1 93 _ [_] _ rfl rfl HB3.out rfl sizeint (by simp) (one1 rfl) ?_)
  intro w4 hb4 hw4
  have hh4 : Held 0 w4 s1 := H1.out.1.same 0 fun k hk => hw4.block k (fun e => H1.out.2.2.2.2.2.1 (by rw [← e]; exact hk))
  have SC := Lib.hid (size_sub hh4)
  rw [H1.out.2.2.2.2.2.2, H1.out.2.2.1] at SC
  have HB4 : Hid (Blk w4 p 93 [ptrv w.heap.size, i64 1]) := hb4
  have d0 := HB4.out.cell 0
  have HH4 := Lib.hid hh4
  have HW4 := Lib.hid hw4
  clear hb4 hw4 hh4 c1 c2 hw1
  go_wp2_with (go_at_call 111; refine SC.out.mono ?_; rintro e w' ⟨rfl, rfl⟩)
  go_ret2
  obtain ⟨hh, t, f1, f2, f3, f4, f5⟩ := H1.out
  have hsz2 := HW2.out.size
  have hszr := R1.out.size
  refine ⟨_, rfl, Full.tree (d := 0) (s := s1) ⟨by rw [f5]; exact HB4.out, HH4.out, by omega, by omega, fun h => absurd h (by decide), f2, f3, f4⟩, ?_, fun k hk => ?_⟩
  · refine ((((Fr.of_rb (F := fun k => k = p) R1.out).wrote HW2.out (.inl rfl)).trans t.fr (fun k hk => ?_))).wrote HW4.out (.inl rfl)
    exact .inr (by have : k = w.heap.size := hk; omega)
  · rcases hk with hk | hk
    · exact .inl hk
    · rcases t.F k hk with h | h
      · have : k = w.heap.size := h
        exact .inr (by omega)
      · exact .inr (by omega)

theorem tput (x : Int) (y : SV) (w : World) (p : Nat) (L : List Th) (F : Nat → Prop) (h : TreeAt w p L F) (hL : L.length ≤ 100000) :
    Calls Tryz.prog 82 #[ptrv p, i64 x, sv y] w (TPut x y w p L F) := by
  rcases h with ⟨hb, rfl, hF⟩ | ⟨d, s, h, hF⟩
  · refine (tput_empty x y w p hb).mono ?_
    rintro e w' ⟨F', h1, h2, h3, h4⟩
    refine ⟨F', h1, h2, h3.mono (fun k hk _ => (hF k).2 hk), fun k hk => ?_⟩
    rcases h4 k hk with h | h
    · exact .inl ((hF k).2 h)
    · exact .inr h
  · refine (tput_full x y w p L d s h hL).mono ?_
    rintro e w' ⟨F', h1, h2, h3, h4⟩
    refine ⟨F', h1, h2, h3.mono (fun k hk _ => (hF k).2 hk), fun k hk => ?_⟩
    rcases h4 k hk with h | h
    · exact .inl ((hF k).2 h)
    · exact .inr h
end Go.Proofs.YtjfpeklfgnajoaaGreat.L6

namespace Go.Proofs.YtjfpeklfgnajoaaGreat.L6
open Go.ChangeShapes Go.WideShapes Go.ChangeAt Go.RowKit By Reg
set_option linter.unusedVariables false

/-- each node holds what it must: so a deep tree has many things -/
theorem Held.count : ∀ (d : Nat) {w : World} {s : Sub}, Held d w s → 4 ^ d * s.n ≤ (items s.M).length
  | 0, w, s, ⟨N, h⟩ => by
    rw [h.M, items_map, List.length_zip, h.len, h.n]
    simp
  | d + 1, w, s, ⟨N, cs, h, hc⟩ => by
    rw [h.M, items_weave (by rw [List.length_map]; exact h.len), h.n]
    have key : ∀ cs : List Sub, (∀ c ∈ cs, Held d w c ∧ 4 ≤ c.n) → 4 ^ (d + 1) * cs.length ≤ ((cs.map (·.M)).flatMap items).length := fun cs => by
      induction cs with
      | nil => intro _; simp
      | cons c cs ih =>
        intro hcs
        have h1 := Held.count d (hcs c (by simp)).1
        have h2 := (hcs c (by simp)).2
        have h3 := ih fun x hx => hcs x (by simp [hx])
        have h4 : 4 ^ d * 4 ≤ 4 ^ d * c.n := Nat.mul_le_mul_left _ h2
        rw [List.map_cons, List.flatMap_cons, List.length_append, List.length_cons, Nat.mul_add, Nat.mul_one, Nat.pow_succ]
        rw [Nat.pow_succ] at h3
        omega
    exact key cs fun c hc' => ⟨h.held c hc', (hc c hc').1⟩

theorem Full.deep {w : World} {p : Nat} {L : List Th} {d : Nat} {s : Sub} (h : Full w p L d s) : 4 ^ d ≤ L.length := by
  have := h.held.count d
  rw [h.items] at this
  have h1 := h.one
  have : 4 ^ d * 1 ≤ 4 ^ d * s.n := Nat.mul_le_mul_left _ h1
  omega
theorem pow_lt (d : Nat) : d < 4 ^ d := by
  induction d with
  | zero => decide
  | succ d ih => rw [Nat.pow_succ]; omega

theorem tempty_nil (w : World) : Calls Tryz.prog 85 #[.pointer none] w fun e w' => e = .returned (.bool true) ∧ w = w' := by
  go_enter Tryz.func85, Tryz.ntmps85
  go_wp2
  go_ret
  exact ⟨rfl, rfl⟩
theorem tempty_no (w : World) (p : Nat) (c : Int) (hb : Blk w p 93 [.pointer none, i64 c]) : Calls Tryz.prog 85 #[ptrv p] w fun e w' => e = .returned (.bool true) ∧ w = w' := by
  have b0 := hb.cell 0
  clear hb
  go_enter Tryz.func85, Tryz.ntmps85
  go_wp2
  go_ret
  exact ⟨rfl, rfl⟩
theorem tempty_yes (w : World) (p q : Nat) (c : Int) (hb : Blk w p 93 [ptrv q, i64 c]) : Calls Tryz.prog 85 #[ptrv p] w fun e w' => e = .returned (.bool false) ∧ w = w' := by
  have b0 := hb.cell 0
  clear hb
  go_enter Tryz.func85, Tryz.ntmps85
  go_wp2
  go_ret
  exact ⟨rfl, rfl⟩

theorem tlen (w : World) (p : Nat) (L : List Th) (F : Nat → Prop) (h : TreeAt w p L F) : Calls Tryz.prog 46 #[ptrv p] w fun e w' => e = .returned (i64 L.length) ∧ w = w' := by
  obtain ⟨rt, hb⟩ : ∃ rt, Blk w p 93 [rt, i64 L.length] := by
    rcases h with ⟨hb, rfl, _⟩ | ⟨d, s, h, _⟩
    · exact ⟨_, hb⟩
    · exact ⟨_, h.blk⟩
  have b1 := hb.cell 1
  clear hb h
  go_enter Tryz.func46, Tryz.ntmps46
  go_wp2
  go_ret
  exact ⟨rfl, rfl⟩

/-- how deep a tree of these things is: the answer, and its bound -/
def DeepOk (L : List Th) (n : Int) : Prop := (L = [] ∧ n = 0) ∨ ∃ d : Nat, n = (d : Int) + 1 ∧ 4 ^ d ≤ L.length ∧ (d = 0 → L.length ≤ 8)

end Go.Proofs.YtjfpeklfgnajoaaGreat.L6

namespace Go.Proofs.YtjfpeklfgnajoaaGreat.L6
open Go.ChangeShapes Go.WideShapes Go.ChangeAt Go.RowKit By Reg
set_option linter.unusedVariables false

theorem delL_length (x : Int) : ∀ L : List Th, Rise L → ((delL x L).length : Int) = L.length - (if (getL x L).isSome then 1 else 0)
  | [], _ => by simp [delL, getL]
  | t :: L, h => by
    have h' := List.pairwise_cons.1 h
    have e : delL x (t :: L) = if t.1 = x then delL x L else t :: delL x L := by
      unfold delL
      rw [List.filter_cons]
      by_cases h2 : t.1 = x
      · simp [h2]
      · simp [h2]
    rw [e, getL]
    by_cases h2 : t.1 = x
    · rw [if_pos h2, if_pos h2, delL_gt (x := x) (fun u hu => by have := h'.1 u hu; omega)]
      simp
    · rw [if_neg h2, if_neg h2]
      have := delL_length x L h'.2
      simp only [List.length_cons, Int.natCast_add]
      omega

def TDel (x : Int) (w : World) (p : Nat) (L : List Th) (F : Nat → Prop) (e : Ending) (w' : World) : Prop :=
  ∃ F', e = .returned (.tuple #[sv ((getL x L).getD sv0), .bool (getL x L).isSome]) ∧ TreeAt w' p (delL x L) F' ∧ Fr F w w' ∧ (∀ k, F' k → F k ∨ w.heap.size ≤ k)

/-- the parts of a root -/
theorem Held.parts : ∀ {d : Nat} {w : World} {s : Sub}, Held d w s → ∃ ao cap, w.cell? ⟨s.b, 2, none⟩ = some (.slice ao (if d = 0 then 0 else s.n) cap)
  | 0, w, s, ⟨N, h⟩ => by
    obtain ⟨ao, cap, h1, _, _⟩ := h.na.pform
    have c2 := h.na.c2
    rw [h.b, h1, h.ps] at c2
    exact ⟨ao, cap, c2⟩
  | d + 1, w, s, ⟨N, cs, h, _⟩ => by
    obtain ⟨ao, cap, h1, _, _⟩ := h.na.pform
    have c2 := h.na.c2
    rw [h.b, h1, h.ps, List.length_map, ← h.n] at c2
    exact ⟨ao, cap, by rw [if_neg (by omega)]; exact c2⟩

theorem tn_off {w w1 : World} {p : Nat} {s s1 : Sub} (t : Tn w s w1 s1) (ho : ¬ s.F p) (hp : p < w.heap.size) : ¬ s1.F p := fun h => by
  rcases t.F p h with h' | h'
  · exact ho h'
  · omega

set_option maxHeartbeats 4000000 in
set_option maxRecDepth 100000 in
theorem tdel_full (x : Int) (w : World) (p : Nat) (L : List Th) (d : Nat) (s : Sub) (h : Full w p L d s) (hL : L.length ≤ 100000) :
    Calls Tryz.prog 81 #[ptrv p, i64 x] w (TDel x w p L (fun k => k = p ∨ s.F k)) := by
  have CE := Lib.hid (tempty_yes w p s.b _ h.blk)
  have CP := Lib.hid (take_any x d w s [] [] h.held h.eight h.two (by simpa using h.srt) (fun a ha => by cases ha) (fun b hb => by cases hb))
  have b0 := h.blk.cell 0
  have HF := Lib.hid h
  have hr : Rise L := by rw [← h.items]; exact rise_items h.srt
  have HPL := Lib.hid (delL_length x L hr)
  have hi := h.items
  have hLb : L.length ≤ 100000 := hL
  unfold TakePost at CP
  rw [hi] at CP
  obtain ⟨g1, hg1⟩ : ∃ g1, g1 = (getL x L).getD sv0 := ⟨_, rfl⟩
  rw [← hg1] at CP
  unfold TDel
  rw [← hg1]
  clear hr hi hg1 h
  cases hg : (getL x L).isSome
  · rw [hg] at CP HPL
    simp only [Bool.false_eq_true, if_false, Int.sub_zero] at HPL
    clear hg
    go_enter Tryz.func81, Tryz.ntmps81
    go_wp2_with (first | (go_at_call 85; refine CE.out.mono ?_; rintro e w' ⟨rfl, rfl⟩) | (go_at_call 109; refine CP.out.mono ?_))
    first | (rintro e w1 s1 rfl hh t e1 e2 e4 e5) | (rintro e w1 ⟨s1, rfl, hh, t, e1, e2, e4, e5⟩)
    have hb1 : Blk w1 p 93 [ptrv s.b, i64 L.length] := HF.out.blk.same (t.fr.block _ HF.out.blk.lt HF.out.off)
    have hoff : ¬ s1.F p := tn_off t HF.out.off HF.out.blk.lt
    have HB1 := Lib.hid hb1
    have H1 : Hid (Held d w1 s1 ∧ Tn w s w1 s1 ∧ s1.n ≤ s.n ∧ s.n ≤ s1.n + 1 ∧ Srt s1.M ∧ items s1.M = delL x L ∧ ¬ s1.F p) := ⟨hh, t, e1, e2, by simpa using e4, e5, hoff⟩
    clear hh t e1 e2 e4 e5 hoff CP
    obtain ⟨w2, hww⟩ : ∃ w2, w2 = w1 := ⟨_, rfl⟩
    rw [← hww]
    have hw2 : Wrote p w1 w2 := by rw [hww]; exact ⟨rfl, rfl, rfl, rfl, fun _ _ => rfl⟩
    have hlen : (L.length : Int) = ((delL x L).length : Int) := HPL.out.symm
    have hb2' : Blk w2 p 93 [ptrv s.b, i64 (delL x L).length] := by
      rw [← hlen, hww]; exact hb1
    clear hww hb1 hlen
    have hh2 : Held d w2 s1 := H1.out.1.same d fun k hk => hw2.block k (fun e => H1.out.2.2.2.2.2.2 (by rw [← e]; exact hk))
    have HB2 := Lib.hid hb2'
    have HW2 := Lib.hid hw2
    have HH2 := Lib.hid hh2
    have d1 := hb2'.cell 1
    have d0 := hb2'.cell 0
    clear hw2 hh2
    by_cases h0 : delL x L = []
    · have hl0 : (((delL x L).length : Int) == 0) = true := by rw [h0]; rfl
      have HB3 : Hid (Blk w2 p 93 [ptrv s.b, i64 0]) := by
        have := HB2.out
        rw [h0] at this
        exact this
      have H0 := Lib.hid h0
      clear h0 hb2'
      go_wp2_with (refine wpList_store rfl 91 _ _ rfl p 0 93 _ [.pointer none] _ rfl rfl HB3.out rfl sizeptr (by simp) (one1 rfl) ?_)
      intro w3 hb3 hw3
      have HB4 : Hid (Blk w3 p 93 [.pointer none, i64 0]) := hb3
      have HW3 := Lib.hid hw3
      clear hb3 hw3
      go_wp2
      go_ret2
      obtain ⟨h1, t, f1, f2, f3, f4, f5⟩ := H1.out
      refine ⟨fun k => k = p, rfl, .inl ⟨HB4.out, H0.out, fun _ => Iff.rfl⟩, ?_, fun k hk => .inl (.inl hk)⟩
      exact ((t.fr.mono (G := fun k => k = p ∨ s.F k) (fun k hk _ => .inr hk)).wrote HW2.out (.inl (.inl rfl))).wrote HW3.out (.inl (.inl rfl))
    · have hl0 : (((delL x L).length : Int) == 0) = false := by
        rw [beq_eq_false_iff_ne]
        intro e
        exact h0 (List.eq_nil_of_length_eq_zero (by omega))
      have hlp : 0 < (delL x L).length := by
        rcases Nat.eq_zero_or_pos (delL x L).length with e | e
        · exact absurd (List.eq_nil_of_length_eq_zero e) h0
        · exact e
      have H0 := Lib.hid hlp
      obtain ⟨ao, cap, hpc⟩ := HH2.out.parts
      rw [H1.out.2.1.b] at hpc
      clear h0 hlp hb2'
      by_cases hone : d ≠ 0 ∧ s1.n = 1
      · rw [if_neg hone.1, hone.2] at hpc
        obtain ⟨d', rfl⟩ : ∃ d', d = d' + 1 := ⟨d - 1, by omega⟩
        obtain ⟨N, cs, o, hcs⟩ := HH2.out
        obtain ⟨c, rfl⟩ : ∃ c, cs = [c] := by
          have := o.n
          rw [hone.2] at this
          cases cs with
          | nil => simp at this
          | cons c cs =>
            cases cs with
            | nil => exact ⟨c, rfl⟩
            | cons _ _ => simp at this
        obtain ⟨g, cap', q1, q2, q3⟩ := part_at (l := []) (r := []) o
        simp only [List.length_nil, Nat.zero_add] at q1 q2 q3
        rw [H1.out.2.1.b] at q1
        have HO : Hid (OpenP (Held d') w2 s1 N [c] ∧ 4 ≤ c.n ∧ c.n ≤ 8) := ⟨o, hcs c (by simp)⟩
        clear o hcs hpc
        go_wp2_with (refine wpList_store rfl 91 _ _ rfl p 0 93 _ [ptrv c.b] _ rfl rfl HB2.out rfl sizeptr (by simp) (one1 rfl) ?_)
        intro w3 hb3 hw3
        have HB4 : Hid (Blk w3 p 93 [ptrv c.b, i64 (delL x L).length]) := hb3
        have HW3 := Lib.hid hw3
        clear hb3 hw3
        go_wp2
        go_ret2
        obtain ⟨h1, t, f1, f2, f3, f4, f5⟩ := H1.out
        obtain ⟨o, o1, o2⟩ := HO.out
        have cF : ∀ k, c.F k → s1.F k := fun k hk => (o.F k).2 (.inr ⟨c, by simp, hk⟩)
        have eM : s1.M = c.M := by
          rw [o.M]
          have : N.ks = [] := List.eq_nil_of_length_eq_zero (by have := o.len; simp only [List.length_singleton] at this; omega)
          rw [this]
          show c.M ++ postW [] [] = c.M
          simp [postW]
        refine ⟨_, rfl, Full.tree (d := d') (s := c) ⟨HB4.out, (o.held c (by simp)).same d' fun k hk => HW3.out.block k (fun e => f5 (by rw [← e]; exact cF k hk)), by omega, o2, fun _ => by omega, by rw [← eM]; exact f3, by rw [← eM]; exact f4, fun hp => f5 (cF p hp)⟩, ?_, fun k hk => ?_⟩
        · exact ((t.fr.mono (G := fun k => k = p ∨ s.F k) (fun k hk _ => .inr hk)).wrote HW2.out (.inl (.inl rfl))).wrote HW3.out (.inl (.inl rfl))
        · rcases hk with hk | hk
          · exact .inl (.inl hk)
          · rcases t.F k (cF k hk) with h' | h'
            · exact .inl (.inr h')
            · exact .inr h'
      · have hne : (((if d = 0 then 0 else s1.n : Nat) : Int) == 1) = false := by
          rw [beq_eq_false_iff_ne]
          intro e
          by_cases hd : d = 0
          · rw [if_pos hd] at e; omega
          · rw [if_neg hd] at e
            exact hone ⟨hd, by omega⟩
        have HON := Lib.hid hone
        generalize (if d = 0 then 0 else s1.n) = m at hpc hne
        clear hone
        go_wp2
        go_ret2
        obtain ⟨h1, t, f1, f2, f3, f4, f5⟩ := H1.out
        have h1n : 1 ≤ s1.n := by
          have h2 := HF.out.two
          by_cases hd : d = 0
          · subst hd
            obtain ⟨N, hN⟩ := HH2.out
            have hl := H0.out
            rw [← f4, hN.M, items_map, List.length_zip, hN.len, Nat.min_self, ← hN.n] at hl
            exact hl
          · have := h2 (by omega); omega
        have h8 := HF.out.eight
        refine ⟨_, rfl, Full.tree (d := d) (s := s1) ⟨by rw [t.b]; exact HB2.out, HH2.out, h1n, by omega, fun hd => ?_, f3, f4, f5⟩, ?_, fun k hk => ?_⟩
        · have hq : ¬ (d ≠ 0 ∧ s1.n = 1) := HON.out
          by_cases h1 : s1.n = 1
          · exact absurd ⟨by omega, h1⟩ hq
          · omega
        · exact ((t.fr.mono (G := fun k => k = p ∨ s.F k) (fun k hk _ => .inr hk)).wrote HW2.out (.inl (.inl rfl)))
        · rcases hk with hk | hk
          · exact .inl (.inl hk)
          · rcases t.F k hk with h' | h'
            · exact .inl (.inr h')
            · exact .inr h'
  · rw [hg] at CP HPL
    simp only [if_true] at HPL
    clear hg
    go_enter Tryz.func81, Tryz.ntmps81
    go_wp2_with (first | (go_at_call 85; refine CE.out.mono ?_; rintro e w' ⟨rfl, rfl⟩) | (go_at_call 109; refine CP.out.mono ?_))
    first | (rintro e w1 s1 rfl hh t e1 e2 e4 e5) | (rintro e w1 ⟨s1, rfl, hh, t, e1, e2, e4, e5⟩)
    have hb1 : Blk w1 p 93 [ptrv s.b, i64 L.length] := HF.out.blk.same (t.fr.block _ HF.out.blk.lt HF.out.off)
    have hoff : ¬ s1.F p := tn_off t HF.out.off HF.out.blk.lt
    have HB1 := Lib.hid hb1
    have H1 : Hid (Held d w1 s1 ∧ Tn w s w1 s1 ∧ s1.n ≤ s.n ∧ s.n ≤ s1.n + 1 ∧ Srt s1.M ∧ items s1.M = delL x L ∧ ¬ s1.F p) := ⟨hh, t, e1, e2, by simpa using e4, e5, hoff⟩
    have c1 := hb1.cell 1
    have hw1 : IntKind.i64.wrap ((L.length : Int) - 1) = (L.length : Int) - 1 := by rw [IntKind.wrap_i64]; omega
    clear hh t e1 e2 e4 e5 hb1 hoff CP
    go_wp2_with (refine wpList_store rfl 3 _ _ rfl p 1 93 _ [_] _ rfl rfl HB1.out rfl sizeint (by simp) (one1 rfl) ?_)
    intro w2 hb2 hw2
    have hlen : ((L.length : Int) - 1) = ((delL x L).length : Int) := HPL.out.symm
    have hb2' : Blk w2 p 93 [ptrv s.b, i64 (delL x L).length] := by
      rw [← hlen]; exact hb2
    clear hb2 hw1 c1 hlen
    have hh2 : Held d w2 s1 := H1.out.1.same d fun k hk => hw2.block k (fun e => H1.out.2.2.2.2.2.2 (by rw [← e]; exact hk))
    have HB2 := Lib.hid hb2'
    have HW2 := Lib.hid hw2
    have HH2 := Lib.hid hh2
    have d1 := hb2'.cell 1
    have d0 := hb2'.cell 0
    clear hw2 hh2
    by_cases h0 : delL x L = []
    · have hl0 : (((delL x L).length : Int) == 0) = true := by rw [h0]; rfl
      have HB3 : Hid (Blk w2 p 93 [ptrv s.b, i64 0]) := by
        have := HB2.out
        rw [h0] at this
        exact this
      have H0 := Lib.hid h0
      clear h0 hb2'
      go_wp2_with (refine wpList_store rfl 91 _ _ rfl p 0 93 _ [.pointer none] _ rfl rfl HB3.out rfl sizeptr (by simp) (one1 rfl) ?_)
      intro w3 hb3 hw3
      have HB4 : Hid (Blk w3 p 93 [.pointer none, i64 0]) := hb3
      have HW3 := Lib.hid hw3
      clear hb3 hw3
      go_wp2
      go_ret2
      obtain ⟨h1, t, f1, f2, f3, f4, f5⟩ := H1.out
      refine ⟨fun k => k = p, rfl, .inl ⟨HB4.out, H0.out, fun _ => Iff.rfl⟩, ?_, fun k hk => .inl (.inl hk)⟩
      exact ((t.fr.mono (G := fun k => k = p ∨ s.F k) (fun k hk _ => .inr hk)).wrote HW2.out (.inl (.inl rfl))).wrote HW3.out (.inl (.inl rfl))
    · have hl0 : (((delL x L).length : Int) == 0) = false := by
        rw [beq_eq_false_iff_ne]
        intro e
        exact h0 (List.eq_nil_of_length_eq_zero (by omega))
      have hlp : 0 < (delL x L).length := by
        rcases Nat.eq_zero_or_pos (delL x L).length with e | e
        · exact absurd (List.eq_nil_of_length_eq_zero e) h0
        · exact e
      have H0 := Lib.hid hlp
      obtain ⟨ao, cap, hpc⟩ := HH2.out.parts
      rw [H1.out.2.1.b] at hpc
      clear h0 hlp hb2'
      by_cases hone : d ≠ 0 ∧ s1.n = 1
      · rw [if_neg hone.1, hone.2] at hpc
        obtain ⟨d', rfl⟩ : ∃ d', d = d' + 1 := ⟨d - 1, by omega⟩
        obtain ⟨N, cs, o, hcs⟩ := HH2.out
        obtain ⟨c, rfl⟩ : ∃ c, cs = [c] := by
          have := o.n
          rw [hone.2] at this
          cases cs with
          | nil => simp at this
          | cons c cs =>
            cases cs with
            | nil => exact ⟨c, rfl⟩
            | cons _ _ => simp at this
        obtain ⟨g, cap', q1, q2, q3⟩ := part_at (l := []) (r := []) o
        simp only [List.length_nil, Nat.zero_add] at q1 q2 q3
        rw [H1.out.2.1.b] at q1
        have HO : Hid (OpenP (Held d') w2 s1 N [c] ∧ 4 ≤ c.n ∧ c.n ≤ 8) := ⟨o, hcs c (by simp)⟩
        clear o hcs hpc
        go_wp2_with (refine wpList_store rfl 91 _ _ rfl p 0 93 _ [ptrv c.b] _ rfl rfl HB2.out rfl sizeptr (by simp) (one1 rfl) ?_)
        intro w3 hb3 hw3
        have HB4 : Hid (Blk w3 p 93 [ptrv c.b, i64 (delL x L).length]) := hb3
        have HW3 := Lib.hid hw3
        clear hb3 hw3
        go_wp2
        go_ret2
        obtain ⟨h1, t, f1, f2, f3, f4, f5⟩ := H1.out
        obtain ⟨o, o1, o2⟩ := HO.out
        have cF : ∀ k, c.F k → s1.F k := fun k hk => (o.F k).2 (.inr ⟨c, by simp, hk⟩)
        have eM : s1.M = c.M := by
          rw [o.M]
          have : N.ks = [] := List.eq_nil_of_length_eq_zero (by have := o.len; simp only [List.length_singleton] at this; omega)
          rw [this]
          show c.M ++ postW [] [] = c.M
          simp [postW]
        refine ⟨_, rfl, Full.tree (d := d') (s := c) ⟨HB4.out, (o.held c (by simp)).same d' fun k hk => HW3.out.block k (fun e => f5 (by rw [← e]; exact cF k hk)), by omega, o2, fun _ => by omega, by rw [← eM]; exact f3, by rw [← eM]; exact f4, fun hp => f5 (cF p hp)⟩, ?_, fun k hk => ?_⟩
        · exact ((t.fr.mono (G := fun k => k = p ∨ s.F k) (fun k hk _ => .inr hk)).wrote HW2.out (.inl (.inl rfl))).wrote HW3.out (.inl (.inl rfl))
        · rcases hk with hk | hk
          · exact .inl (.inl hk)
          · rcases t.F k (cF k hk) with h' | h'
            · exact .inl (.inr h')
            · exact .inr h'
      · have hne : (((if d = 0 then 0 else s1.n : Nat) : Int) == 1) = false := by
          rw [beq_eq_false_iff_ne]
          intro e
          by_cases hd : d = 0
          · rw [if_pos hd] at e; omega
          · rw [if_neg hd] at e
            exact hone ⟨hd, by omega⟩
        have HON := Lib.hid hone
        generalize (if d = 0 then 0 else s1.n) = m at hpc hne
        clear hone
        go_wp2
        go_ret2
        obtain ⟨h1, t, f1, f2, f3, f4, f5⟩ := H1.out
        have h1n : 1 ≤ s1.n := by
          have h2 := HF.out.two
          by_cases hd : d = 0
          · subst hd
            obtain ⟨N, hN⟩ := HH2.out
            have hl := H0.out
            rw [← f4, hN.M, items_map, List.length_zip, hN.len, Nat.min_self, ← hN.n] at hl
            exact hl
          · have := h2 (by omega); omega
        have h8 := HF.out.eight
        refine ⟨_, rfl, Full.tree (d := d) (s := s1) ⟨by rw [t.b]; exact HB2.out, HH2.out, h1n, by omega, fun hd => ?_, f3, f4, f5⟩, ?_, fun k hk => ?_⟩
        · have hq : ¬ (d ≠ 0 ∧ s1.n = 1) := HON.out
          by_cases h1 : s1.n = 1
          · exact absurd ⟨by omega, h1⟩ hq
          · omega
        · exact ((t.fr.mono (G := fun k => k = p ∨ s.F k) (fun k hk _ => .inr hk)).wrote HW2.out (.inl (.inl rfl)))
        · rcases hk with hk | hk
          · exact .inl (.inl hk)
          · rcases t.F k hk with h' | h'
            · exact .inl (.inr h')
            · exact .inr h'

theorem tdel (x : Int) (w : World) (p : Nat) (L : List Th) (F : Nat → Prop) (h : TreeAt w p L F) (hL : L.length ≤ 100000) :
    Calls Tryz.prog 81 #[ptrv p, i64 x] w (TDel x w p L F) := by
  rcases h with ⟨hb, rfl, hF⟩ | ⟨d, s, h, hF⟩
  · have CE := Lib.hid (tempty_no w p 0 hb)
    have HB := Lib.hid hb
    have HF := Lib.hid hF
    clear hb hF
    unfold TDel
    dsimp only [getL, Option.getD, Option.isSome]
    go_enter Tryz.func81, Tryz.ntmps81
    go_wp2_with (go_at_call 85; refine CE.out.mono ?_; rintro e w' ⟨rfl, rfl⟩)
    go_ret2
    exact ⟨F, rfl, .inl ⟨HB.out, rfl, HF.out⟩, Fr.refl _ _, fun _ h => .inl h⟩
  · refine (tdel_full x w p L d s h hL).mono ?_
    rintro e w' ⟨F', h1, h2, h3, h4⟩
    refine ⟨F', h1, h2, h3.mono (fun k hk _ => (hF k).2 hk), fun k hk => ?_⟩
    rcases h4 k hk with h | h
    · exact .inl ((hF k).2 h)
    · exact .inr h
end Go.Proofs.YtjfpeklfgnajoaaGreat.L6

namespace Go.Proofs.YtjfpeklfgnajoaaGreat.L6
open Go.ChangeShapes Go.WideShapes Go.ChangeAt Go.RowKit By Reg
set_option linter.unusedVariables false

def cells2 : List Th → List Value
  | [] => []
  | t :: L => i64 t.1 :: sv t.2 :: cells2 L
theorem cells2_len : ∀ L : List Th, (cells2 L).length = L.length * 2
  | [] => rfl
  | t :: L => by rw [cells2, List.length_cons, List.length_cons, cells2_len L, List.length_cons]; omega
theorem cells2_append : ∀ (L M : List Th), cells2 (L ++ M) = cells2 L ++ cells2 M
  | [], M => rfl
  | t :: L, M => by rw [List.cons_append, cells2, cells2, cells2_append L M]; rfl
theorem cells2_take : ∀ (L : List Th) (i : Nat), cells2 (L.take i) = (cells2 L).take (i * 2)
  | [], i => by simp [cells2]
  | t :: L, 0 => by simp [cells2]
  | t :: L, i + 1 => by rw [List.take_succ_cons, cells2, cells2, cells2_take L i, show (i + 1) * 2 = i * 2 + 1 + 1 by omega]; rfl
theorem cells2_drop : ∀ (L : List Th) (i : Nat), cells2 (L.drop i) = (cells2 L).drop (i * 2)
  | [], i => by simp [cells2]
  | t :: L, 0 => by simp [cells2]
  | t :: L, i + 1 => by rw [List.drop_succ_cons, cells2, cells2_drop L i, show (i + 1) * 2 = i * 2 + 1 + 1 by omega]; rfl
theorem cells2_key : ∀ (L : List Th) (j : Nat), j < L.length → (cells2 L)[j * 2]? = some (i64 (L.getD j (0, sv0)).1) ∧ (cells2 L)[j * 2 + 1]? = some (sv (L.getD j (0, sv0)).2)
  | [], j, h => by simp at h
  | t :: L, 0, h => ⟨rfl, rfl⟩
  | t :: L, j + 1, h => by
    have := cells2_key L j (by simpa using h)
    rw [cells2, show (j + 1) * 2 = j * 2 + 1 + 1 by omega]
    exact this
theorem cells2_one : ∀ (L : List Th), ∀ u ∈ cells2 L, u.oneCell' = true
  | [], u, h => by cases h
  | t :: L, u, h => by
    rw [cells2] at h
    rcases List.mem_cons.1 h with rfl | h
    · rfl
    · rcases List.mem_cons.1 h with rfl | h
      · rfl
      · exact cells2_one L u h

end Go.Proofs.YtjfpeklfgnajoaaGreat.L6

namespace Go.Proofs.YtjfpeklfgnajoaaGreat.L6
open Go.ChangeShapes Go.WideShapes Go.ChangeAt Go.RowKit By Reg
set_option linter.unusedVariables false

def kind (T : TypeId) : Prop := T = 93 ∨ T = 160 ∨ T = 2 ∨ T = 32 ∨ T = 91
theorem NodeAt.typ {w : World} {N : Nd} (h : NodeAt w N) : ∀ k, N.has k → ∃ T cs, Blk w k T cs ∧ kind T := fun k hk => by
  rcases hk with rfl | hk | hk | hk
  · exact ⟨_, _, h.blk, .inr (.inl rfl)⟩
  · obtain ⟨cs, hb⟩ := h.rk.typ k hk
    exact ⟨_, _, hb, .inr (.inr (.inl rfl))⟩
  · obtain ⟨cs, hb⟩ := h.rv.typ k hk
    exact ⟨_, _, hb, .inr (.inr (.inr (.inl rfl)))⟩
  · obtain ⟨cs, hb⟩ := h.rp.typ k hk
    exact ⟨_, _, hb, .inr (.inr (.inr (.inr rfl)))⟩
theorem Held.typ : ∀ (d : Nat) {w : World} {s : Sub}, Held d w s → ∀ k, s.F k → ∃ T cs, Blk w k T cs ∧ kind T
  | 0, w, s, ⟨N, h⟩, k, hk => h.na.typ k ((h.F k).1 hk)
  | d + 1, w, s, ⟨N, cs, h, _⟩, k, hk => by
    rcases (h.F k).1 hk with hk | ⟨c, hc, hk⟩
    · exact h.na.typ k hk
    · exact Held.typ d (h.held c hc) k hk
theorem TreeAt.typ {w : World} {p : Nat} {L : List Th} {F : Nat → Prop} (h : TreeAt w p L F) : ∀ k, F k → ∃ T cs, Blk w k T cs ∧ kind T := fun k hk => by
  rcases h with ⟨hb, _, hF⟩ | ⟨d, s, h, hF⟩
  · rw [(hF k).1 hk]
    exact ⟨_, _, hb, .inl rfl⟩
  · rcases (hF k).1 hk with rfl | hk
    · exact ⟨_, _, h.blk, .inl rfl⟩
    · exact h.held.typ d k hk
theorem TreeAt.lt {w : World} {p : Nat} {L : List Th} {F : Nat → Prop} (h : TreeAt w p L F) : ∀ k, F k → k < w.heap.size := fun k hk => by
  obtain ⟨T, cs, hb, _⟩ := h.typ k hk
  exact hb.lt
theorem TreeAt.same {w w' : World} {p : Nat} {L : List Th} {F : Nat → Prop} (h : TreeAt w p L F) (e : ∀ k, F k → w'.heap[k]? = w.heap[k]?) : TreeAt w' p L F := by
  rcases h with ⟨hb, h2, hF⟩ | ⟨d, s, h, hF⟩
  · exact .inl ⟨hb.same (e p ((hF p).2 rfl)), h2, hF⟩
  · exact .inr ⟨d, s, ⟨h.blk.same (e p ((hF p).2 (.inl rfl))), h.held.same d (fun k hk => e k ((hF k).2 (.inr hk))), h.one, h.eight, h.two, h.srt, h.items, h.off⟩, hF⟩
theorem TreeAt.rb {w w' : World} {p : Nat} {L : List Th} {F : Nat → Prop} (h : TreeAt w p L F) (hr : Rb w w') : TreeAt w' p L F := h.same fun k hk => hr.block k (h.lt k hk)
theorem TreeAt.rise {w : World} {p : Nat} {L : List Th} {F : Nat → Prop} (h : TreeAt w p L F) : Rise L := by
  rcases h with ⟨hb, rfl, hF⟩ | ⟨d, s, h, hF⟩
  · exact List.Pairwise.nil
  · rw [← h.items]; exact rise_items h.srt
theorem putL_le (x : Int) (y : SV) : ∀ L : List Th, (putL x y L).length ≤ L.length + 1
  | [] => by simp [putL]
  | t :: L => by
    rw [putL]
    have := putL_le x y L
    split
    · simp; omega
    · split
      · simp
      · simp
end Go.Proofs.YtjfpeklfgnajoaaGreat.L6
