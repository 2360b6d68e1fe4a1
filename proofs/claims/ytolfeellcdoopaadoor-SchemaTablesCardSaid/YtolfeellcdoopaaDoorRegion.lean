/-
  A law of my own on regions that draw their order: each operation has a 'spec' of the value that it leaves in its slot, said of a world and kept by every later world; each operation is shown alone, from the specs of the operations that it waits for. Whatever order is drawn, at the end every slot meets its spec.
-/
import Derived.Orders
import Derived.Tactics
import Derived.Below
import Derived.KernelRfl
namespace Go.Proofs.YtolfeellcdoopaaDoor.Reg
open Go Go.RowKit

/-- What a slot holds, said of a world, and kept along R. -/
structure Spec (R : World → World → Prop) where
  V : World → Value → Prop
  keep : ∀ w w' v, R w w' → V w v → V w' v

def Spec.eq {R : World → World → Prop} (c : Value) : Spec R := ⟨fun _ v => v = c, fun _ _ _ _ h => h⟩
def Spec.any {R : World → World → Prop} : Spec R := ⟨fun _ _ => True, fun _ _ _ _ h => h⟩

section
variable {P : Program} {R : World → World → Prop} {ops : Array Oper} {S : List (Spec R)}

def spec (S : List (Spec R)) (i : Nat) : Spec R := S.getD i Spec.any

/-- Operation 'i' waits for operation 'j', by an edge. -/
def waitsFor (ops : Array Oper) (i j : Nat) : Bool := ((ops[i]?).map fun o => o.after.any fun e => Region.binds .any e && e.on == j).getD false
/-- .. by a chain of edges. -/
def behind (ops : Array Oper) : Nat → Nat → Nat → Bool
  | 0, _, _ => false
  | n + 1, i, j => waitsFor ops i j || ((ops[i]?).map fun o => o.after.any fun e => Region.binds .any e && behind ops n e.on j).getD false

def dstOf (ops : Array Oper) (j : Nat) : Option Tmp := (ops[j]?).bind (·.dst)

/-- At operation k: slot d holds what operation j left in it. -/
def newOk (ops : Array Oper) (n k j d : Nat) : Bool := behind ops n k j && dstOf ops j == some d
/-- At operation k: slot t has not been written yet. -/
def oldOk (ops : Array Oper) (n k t : Nat) : Bool := (List.range ops.size).all fun j => dstOf ops j != some t || j == k || behind ops n j k

structure Facts (ops : Array Oper) (S : List (Spec R)) (n : Nat) (a0 : Act) (k : Nat) (a : Act) (w : World) : Prop where
  new : ∀ j d, newOk ops n k j d = true → (spec S j).V w (a.eval (.tmp d))
  old : ∀ t, oldOk ops n k t = true → a.eval (.tmp t) = a0.eval (.tmp t)

def yieldsTo (P : Program) (o : Oper) (a : Act) (w : World) (T : World → Value → Prop) : Prop :=
  match (execOp a.eval o).run P w with
  | .ok (.value v) w' => T w' v
  | .ok .skip w' => T w' undef
  | .ok (.enter f args) w' => Calls P f args w' fun e w'' => ∃ v, e = .returned v ∧ T w'' v
  | _ => False

def okAt (P : Program) (ops : Array Oper) (o : Oper) (a : Act) (w : World) (T : World → Value → Prop) : Prop :=
  if Region.wanted o (yielded ops a.tmps) = true then yieldsTo P o a w T else T w undef

/-- All that is owed of the operations. -/
def Owed (P : Program) (ops : Array Oper) (S : List (Spec R)) (n : Nat) (a0 : Act) (w0 : World) : Nat → List Oper → Prop
  | _, [] => True
  | k, o :: l => (∀ a w, R w0 w → Facts ops S n a0 k a w → okAt P ops o a w (fun w' v => R w w' ∧ (spec S k).V w' v)) ∧ Owed P ops S n a0 w0 (k + 1) l

theorem Owed.nil {n : Nat} {a0 : Act} {w0 : World} {k : Nat} : Owed P ops S n a0 w0 k [] := trivial
theorem Owed.cons {n : Nat} {a0 : Act} {w0 : World} {k : Nat} {o : Oper} {l : List Oper} (h : ∀ a w, R w0 w → Facts ops S n a0 k a w → okAt P ops o a w (fun w' v => R w w' ∧ (spec S k).V w' v))
    (ht : Owed P ops S n a0 w0 (k + 1) l) : Owed P ops S n a0 w0 k (o :: l) := ⟨h, ht⟩

theorem Owed.get {n : Nat} {a0 : Act} {w0 : World} : ∀ (l : List Oper) (k i : Nat) (o : Oper), Owed P ops S n a0 w0 k l → l[i]? = some o →
    ∀ a w, R w0 w → Facts ops S n a0 (k + i) a w → okAt P ops o a w (fun w' v => R w w' ∧ (spec S (k + i)).V w' v)
  | [], _, _, _, _, h => by simp at h
  | x :: l, k, 0, o, H, h => by simp at h; subst h; exact H.1
  | x :: l, k, i + 1, o, H, h => by
    have := Owed.get l (k + 1) i o H.2 (by simpa using h)
    rwa [show k + 1 + i = k + (i + 1) by omega] at this

/-- What stands behind the region, the slots filled. -/
def putAll (y : Nat → Value) : Nat → List Oper → Act → Act
  | _, [], a => a
  | k, o :: l, a => putAll y (k + 1) l (a.put o.dst (y k))

/-- The shape of a region that the law serves: every operation has a slot of its own, within the frame; edges go back. -/
def shapeB (size : Nat) (ops : Array Oper) : Bool :=
  (ops.toList.all fun o => (o.dst.map fun d => decide (d < size)).getD false) && decide ((ops.toList.map (·.dst)).Nodup) &&
  (List.range ops.size).all fun i => ((ops[i]?).map fun o => o.after.all fun e => !Region.binds .any e || decide (e.on < i)).getD true

structure Inv (ops : Array Oper) (S : List (Spec R)) (a0 : Act) (listed : Array Bool) (a : Act) (w : World) : Prop where
  size : a.tmps.size = a0.tmps.size
  defers : a.defers = a0.defers
  new : ∀ j o d, ops[j]? = some o → listed.getD j false = true → o.dst = some d → (spec S j).V w (a.eval (.tmp d))
  old : ∀ t, (∀ j o, ops[j]? = some o → listed.getD j false = true → o.dst ≠ some t) → a.eval (.tmp t) = a0.eval (.tmp t)
  down : ∀ i j, listed.getD i false = true → waitsFor ops i j = true → listed.getD j false = true
  len : listed.size = ops.size

theorem waitsFor_iff {i j : Nat} {o : Oper} (h : ops[i]? = some o) : waitsFor ops i j = true ↔ ∃ e ∈ o.after, Region.binds .any e = true ∧ e.on = j := by
  simp only [waitsFor, h, Option.map_some, Option.getD_some, Array.any_eq_true', Bool.and_eq_true, beq_iff_eq]

theorem behind_listed {listed : Array Bool} (hd : ∀ i j, listed.getD i false = true → waitsFor ops i j = true → listed.getD j false = true) :
    ∀ (n i j : Nat), (∀ j, waitsFor ops i j = true → listed.getD j false = true) → behind ops n i j = true → listed.getD j false = true := by
  intro n
  induction n with
  | zero => intro i j _ h; simp [behind] at h
  | succ n ih =>
    intro i j hi h
    simp only [behind, Bool.or_eq_true] at h
    rcases h with h | h
    · exact hi j h
    · cases ho : ops[i]? with
      | none => simp [ho] at h
      | some o =>
        simp only [ho, Option.map_some, Option.getD_some, Array.any_eq_true', Bool.and_eq_true] at h
        obtain ⟨e, he, hb, hn⟩ := h
        have hl := hi e.on ((waitsFor_iff ho).2 ⟨e, he, hb, rfl⟩)
        exact ih e.on j (fun j' hj' => hd _ _ hl hj') hn

theorem eval_put_same {a : Act} {d : Tmp} {v : Value} (h : d < a.tmps.size) : (a.put (some d) v).eval (.tmp d) = v := by
  simp [Act.put, Act.eval, Array.getD, h]

theorem eval_put_other {a : Act} {d t : Tmp} {v : Value} (h : d ≠ t) : (a.put (some d) v).eval (.tmp t) = a.eval (.tmp t) :=
  Act.eval_put fun d' hd' => by cases hd'; exact fun e => h (by cases e; rfl)

def unl (listed : Array Bool) : Nat := (listed.toList.filter fun b => !b).length

theorem unl_set : ∀ (l : List Bool) (i : Nat), l[i]? = some false → ((l.set i true).filter fun b => !b).length + 1 = (l.filter fun b => !b).length
  | [], i, h => by simp at h
  | b :: l, 0, h => by simp at h; subst h; simp
  | b :: l, i + 1, h => by
    have := unl_set l i (by simpa using h)
    cases b <;> simp <;> omega

theorem unl_step {listed : Array Bool} {i : Nat} (h : listed.getD i true = false) : unl (listed.setIfInBounds i true) + 1 = unl listed := by
  unfold unl
  rw [Array.toList_setIfInBounds]
  refine unl_set _ _ ?_
  rcases Nat.lt_or_ge i listed.size with h' | h'
  · simp [h'] at h; simp [h', h]
  · simp [Array.getElem?_eq_none h'] at h

theorem unl_zero {listed : Array Bool} (h : unl listed = 0) (i : Nat) : listed.getD i true = true := by
  unfold unl at h
  rcases Nat.lt_or_ge i listed.size with h' | h'
  · have h0 : listed.toList.filter (fun b => !b) = [] := List.eq_nil_of_length_eq_zero h
    rw [List.filter_eq_nil_iff] at h0
    have := h0 listed[i] (by simp)
    simpa [h'] using this
  · simp [Array.getElem?_eq_none h']

theorem getD_false_of_true {listed : Array Bool} {i : Nat} (h : listed.getD i true = false) : listed.getD i false = false := by
  rcases Nat.lt_or_ge i listed.size with h' | h'
  · simp [h'] at h ⊢; exact h
  · simp [Array.getElem?_eq_none h'] at h

theorem putAll_size (y : Nat → Value) : ∀ (l : List Oper) (k : Nat) (a : Act), (putAll y k l a).tmps.size = a.tmps.size ∧ (putAll y k l a).defers = a.defers
  | [], _, _ => ⟨rfl, rfl⟩
  | o :: l, k, a => by
    obtain ⟨h1, h2⟩ := putAll_size y l (k + 1) (a.put o.dst (y k))
    refine ⟨h1.trans ?_, h2.trans ?_⟩ <;> cases o.dst <;> simp [Act.put]

theorem putAll_other (y : Nat → Value) (t : Tmp) : ∀ (l : List Oper) (k : Nat) (a : Act), (∀ o ∈ l, o.dst ≠ some t) → (putAll y k l a).eval (.tmp t) = a.eval (.tmp t)
  | [], _, _, _ => rfl
  | o :: l, k, a, h => by
    rw [putAll, putAll_other y t l (k + 1) _ (fun o ho => h o (List.mem_cons_of_mem _ ho))]
    exact Act.eval_put fun d hd e => h o List.mem_cons_self (by cases e; exact hd)

theorem putAll_at (y : Nat → Value) : ∀ (l : List Oper) (k : Nat) (a : Act) (i : Nat) (o : Oper) (d : Tmp), (l.map (·.dst)).Nodup → l[i]? = some o → o.dst = some d → d < a.tmps.size → (putAll y k l a).eval (.tmp d) = y (k + i)
  | [], _, _, _, _, _, _, h, _, _ => by simp at h
  | x :: l, k, a, 0, o, d, hn, h, hd, hs => by
    simp at h; subst h
    rw [List.map_cons, List.nodup_cons] at hn
    rw [putAll, putAll_other y d l (k + 1) _ (fun o ho e => hn.1 (List.mem_map.2 ⟨o, ho, by rw [e, hd]⟩)), hd]
    exact eval_put_same hs
  | x :: l, k, a, i + 1, o, d, hn, h, hd, hs => by
    rw [List.map_cons, List.nodup_cons] at hn
    rw [putAll, putAll_at y l (k + 1) _ i o d hn.2 (by simpa using h) hd (by cases x.dst <;> simpa [Act.put] using hs)]
    congr 1; omega

theorem act_ext {a b : Act} (hs : a.tmps.size = b.tmps.size) (hd : a.defers = b.defers) (h : ∀ t, a.eval (.tmp t) = b.eval (.tmp t)) : a = b := by
  obtain ⟨x, p⟩ := a
  obtain ⟨y, q⟩ := b
  dsimp only at hs hd
  subst hd
  congr 1
  refine Array.ext hs fun i h1 h2 => ?_
  have := h i
  simpa [Act.eval, h1, h2] using this

/-- **THE LAW.** -/
theorem wp_region_specs {id n size : Nat} {Q : Exit → Act → World → Prop} {a0 : Act} {w0 : World} {l : List Oper} (hm : P.follows .mixedOrders = true)
    (hT : ∀ a b c, R a b → R b c → R a c) (hdr : R w0 w0.drew) (hsz : a0.tmps.size = size)
    (hB : shapeB size l.toArray = true) (H : Owed P l.toArray S n a0 w0 0 l)
    (hend : ∀ (y : Nat → Value) w', R w0 w' → (∀ j o, l[j]? = some o → (spec S j).V w' (y j)) → Q .normal (putAll y 0 l a0) w') :
    (Code.region id l.toArray true).wp P Q a0 w0 := by
  simp only [shapeB, Bool.and_eq_true, List.all_eq_true, decide_eq_true_eq, List.mem_range] at hB
  obtain ⟨⟨hdst, hnd⟩, hback⟩ := hB
  have hdst' : ∀ (j : Nat) (o : Oper), l.toArray[j]? = some o → ∃ d, o.dst = some d ∧ d < size := fun j o ho => by
    have h1 := hdst o (by simpa using Array.mem_of_getElem? ho)
    cases hd : o.dst with
    | none => simp [hd] at h1
    | some d => simp [hd] at h1; exact ⟨d, rfl, h1⟩
  have hinj : ∀ (i j : Nat) (oi oj : Oper), l.toArray[i]? = some oi → l.toArray[j]? = some oj → oi.dst = oj.dst → i = j := fun i j oi oj hi hj he => by
    have hi' : l[i]? = some oi := by simpa using hi
    have hj' : l[j]? = some oj := by simpa using hj
    have h1 : (l.map (·.dst))[i]? = some oi.dst := by simp [hi']
    have h2 : (l.map (·.dst))[j]? = some oi.dst := by simp [hj', he]
    have hli : i < (l.map (·.dst)).length := by rw [List.getElem?_eq_some_iff] at h1; exact h1.1
    exact (List.getElem?_inj hli hnd).1 (h1.trans h2.symm)
  have hback' : ∀ j o, l.toArray[j]? = some o → ∀ e ∈ o.after, Region.binds .any e = true → e.on < j := fun j o ho e he hb => by
    have := hback j (Array.getElem?_eq_some_iff.1 ho).1
    simp only [ho, Option.map_some, Option.getD_some, Array.all_eq_true_iff_forall_mem, Bool.or_eq_true, Bool.not_eq_true', decide_eq_true_eq] at this
    exact (this e he).resolve_left (by simp [hb])
  -- the walk of whatever order
  have main : ∀ (fuel : Nat) (listed : Array Bool) (a : Act) (w : World), unl listed = fuel → R w0 w → Inv l.toArray S a0 listed a w → wpAny P .any l.toArray Q fuel listed a w := by
    have fin : ∀ (listed : Array Bool) (a : Act) (w : World), R w0 w → Inv l.toArray S a0 listed a w → (∀ j, listed.getD j true = true) → Q .normal a w := fun listed a w hw I hall => by
      have hall' : ∀ j o, l.toArray[j]? = some o → listed.getD j false = true := fun j o ho => by
        have hlt : j < listed.size := by rw [I.len]; exact (Array.getElem?_eq_some_iff.1 ho).1
        have := hall j
        simp [hlt] at this ⊢; exact this
      have he : a = putAll (fun j => a.eval (.tmp ((dstOf l.toArray j).getD 0))) 0 l a0 := by
        obtain ⟨p1, p2⟩ := putAll_size (fun j => a.eval (.tmp ((dstOf l.toArray j).getD 0))) l 0 a0
        refine act_ext (by rw [p1, I.size]) (by rw [p2, I.defers]) fun t => ?_
        by_cases ht : ∃ o ∈ l, o.dst = some t
        · obtain ⟨o, ho, hd⟩ := ht
          obtain ⟨i, hi⟩ := List.getElem?_of_mem ho
          have hsd := hdst o ho
          rw [hd] at hsd
          rw [putAll_at _ l 0 a0 i o t hnd hi hd (by rw [hsz]; simpa using hsd)]
          simp [dstOf, hi, hd]
        · rw [putAll_other _ t l 0 a0 (fun o ho hd => ht ⟨o, ho, hd⟩)]
          exact I.old t (fun j o ho _ hd => ht ⟨o, by simpa using Array.mem_of_getElem? ho, hd⟩)
      rw [he]
      refine hend _ w hw fun j o ho => ?_
      have ho' : l.toArray[j]? = some o := by simpa using ho
      obtain ⟨d, hd, _⟩ := hdst' j o ho'
      have := I.new j o d ho' (hall' j o ho') hd
      simpa [dstOf, ho, hd] using this
    intro fuel
    induction fuel with
    | zero =>
      intro listed a w hf hw I
      have hall := unl_zero hf
      refine ⟨?_, fin listed a w hw I hall⟩
      unfold Region.ready
      rw [List.filter_eq_nil_iff]
      intro j _
      simp [hall j]
    | succ fuel ih =>
      intro listed a w hf hw I
      refine ⟨fun h0 => fin listed a w hw I ?_, fun i hi => ?_⟩
      · -- nothing is ready: all is listed
        intro j
        induction j using Nat.strongRecOn with
        | ind j ihj =>
          by_cases hj : listed.getD j true = true
          · exact hj
          · exfalso
            have hj' : listed.getD j true = false := by simpa using hj
            have hlt : j < listed.size := by
              rcases Nat.lt_or_ge j listed.size with h' | h'
              · exact h'
              · simp [Array.getElem?_eq_none h'] at hj'
            have hlt' : j < l.toArray.size := by rw [← I.len]; exact hlt
            have hmem : j ∈ Region.ready .any l.toArray listed := by
              rw [mem_ready]
              refine ⟨hj', l.toArray[j], by simp, fun e he hb => ?_⟩
              have h1 := hback' j _ (Array.getElem?_eq_getElem hlt') e he hb
              have h2 := ihj e.on h1
              have hlt2 : e.on < listed.size := Nat.lt_trans h1 hlt
              simp [hlt2] at h2 ⊢; exact h2
            rw [h0] at hmem
            cases hmem
      · obtain ⟨hun, o, ho, hall⟩ := mem_ready.1 hi
        obtain ⟨d, hd, hds⟩ := hdst' i o ho
        have hunf := getD_false_of_true hun
        have hilt : i < listed.size := by rw [I.len]; exact (Array.getElem?_eq_some_iff.1 ho).1
        have hpre : ∀ j, waitsFor l.toArray i j = true → listed.getD j false = true := fun j hj => by
          obtain ⟨e, he, hb, rfl⟩ := (waitsFor_iff ho).1 hj
          exact hall e he hb
        have F : Facts l.toArray S n a0 i a w := by
          refine ⟨fun j d' h => ?_, fun t h => ?_⟩
          · simp only [newOk, Bool.and_eq_true, beq_iff_eq] at h
            have hl := behind_listed I.down n i j hpre h.1
            obtain ⟨oj, hoj, hdj⟩ := Option.bind_eq_some_iff.1 h.2
            exact I.new j oj d' hoj hl hdj
          · refine I.old t fun j oj hoj hl hdj => ?_
            simp only [oldOk, List.all_eq_true, List.mem_range, Bool.or_eq_true, bne_iff_ne, ne_eq, beq_iff_eq] at h
            rcases h j (Array.getElem?_eq_some_iff.1 hoj).1 with (h | h) | h
            · exact h (by simp [dstOf, hoj, hdj])
            · subst h; rw [hunf] at hl; cases hl
            · have := behind_listed I.down n j i (fun j' hj' => I.down _ _ hl hj') h
              rw [hunf] at this; cases this
        have hob := Owed.get l 0 i o H (by simpa using ho) a w hw (by simpa using F)
        rw [Nat.zero_add] at hob
        -- what holds behind it
        have next : ∀ (v : Value) (w' : World), R w w' → (spec S i).V w' v → wpAny P .any l.toArray Q fuel (listed.setIfInBounds i true) (a.put o.dst v) w' := fun v w' hww hv => by
          refine ih _ _ _ (by have := unl_step hun; omega) (hT _ _ _ hw hww) ?_
          rw [hd]
          refine ⟨by simp [Act.put, I.size], by simp [Act.put, I.defers], fun j oj dj hoj hl hdj => ?_, fun t ht => ?_, fun i' j' hl hwt => ?_, by simp [I.len]⟩
          · by_cases hij : j = i
            · subst hij
              rw [ho] at hoj; cases hoj
              rw [hd] at hdj; cases hdj
              rw [eval_put_same (by rw [I.size, hsz]; exact hds)]
              exact hv
            · rw [getD_set_ne false (Ne.symm hij)] at hl
              have hne : d ≠ dj := fun e => hij (hinj j i oj o hoj ho (by rw [hdj, hd, e]))
              rw [eval_put_other hne]
              exact (spec S j).keep _ _ _ hww (I.new j oj dj hoj hl hdj)
          · have hne : d ≠ t := fun e => ht i o ho (by simp [hilt]) (by rw [hd, e])
            rw [eval_put_other hne]
            exact I.old t fun j oj hoj hl => ht j oj hoj (getD_set_true hl)
          · by_cases hii : i' = i
            · subst hii; exact getD_set_true (hpre j' hwt)
            · rw [getD_set_ne false (Ne.symm hii)] at hl
              exact getD_set_true (I.down _ _ hl hwt)
        unfold wpOp
        simp only [ho]
        unfold okAt at hob
        split
        · rename_i hwt
          rw [if_pos hwt] at hob
          refine .inl ?_
          unfold yieldsTo at hob
          unfold Oper.wp
          generalize (execOp a.eval o).run P w = r at *
          cases r with
          | ok nx w' =>
            cases nx <;> simp only [] at hob <;> simp only [Oper.upon]
            case value v => exact next _ _ hob.1 hob.2
            case skip => exact next _ _ hob.1 hob.2
            case enter f args => exact hob.mono fun e w'' ⟨v, he, h1, h2⟩ => by subst he; exact next _ _ h1 h2
          | halt x w' => simp only [] at hob
        · rename_i hwt
          rw [if_neg hwt] at hob
          exact next _ _ hob.1 hob.2
  refine wp_region_any hm (main _ _ _ _ (by simp [unl]) hdr ⟨rfl, rfl, fun j o d _ h _ => ?_, fun _ _ => rfl, fun i j h _ => ?_, by simp⟩)
  · exfalso
    rcases Nat.lt_or_ge j l.length with h' | h' <;> simp [h'] at h
  · exfalso
    rcases Nat.lt_or_ge i l.length with h' | h' <;> simp [h'] at h
end
end Go.Proofs.YtolfeellcdoopaaDoor.Reg
