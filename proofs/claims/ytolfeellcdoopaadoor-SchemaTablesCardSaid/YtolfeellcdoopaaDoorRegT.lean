/-
  The law on regions that draw their order, where an operation may have no slot (a store): what it leaves is said of the world.
-/
import Derived.Test.YtolfeellcdoopaaDoorRegTools
namespace Go.Proofs.YtolfeellcdoopaaDoor.Reg
open Go Go.RowKit

section
variable {P : Program} {R : World → World → Prop} {ops : Array Oper} {S : List (Spec R)}

def shapeS (size : Nat) (ops : Array Oper) : Bool :=
  (ops.toList.all fun o => (o.dst.map fun d => decide (d < size)).getD true) && decide ((ops.toList.map (·.dst)).Nodup) &&
  (List.range ops.size).all fun i => ((ops[i]?).map fun o => o.after.all fun e => !Region.binds .any e || decide (e.on < i)).getD true

structure InvS (ops : Array Oper) (S : List (Spec R)) (a0 : Act) (listed : Array Bool) (a : Act) (w : World) : Prop where
  size : a.tmps.size = a0.tmps.size
  defers : a.defers = a0.defers
  new : ∀ j o, ops[j]? = some o → listed.getD j false = true → ∃ v, (spec S j).V w v ∧ ∀ d, o.dst = some d → a.eval (.tmp d) = v
  old : ∀ t, (∀ j o, ops[j]? = some o → listed.getD j false = true → o.dst ≠ some t) → a.eval (.tmp t) = a0.eval (.tmp t)
  down : ∀ i j, listed.getD i false = true → waitsFor ops i j = true → listed.getD j false = true
  len : listed.size = ops.size

theorem wp_region_store_specs {id n size : Nat} {Q : Exit → Act → World → Prop} {a0 : Act} {w0 : World} {l : List Oper} (hm : P.follows .mixedOrders = true)
    (hT : ∀ a b c, R a b → R b c → R a c) (hdr : R w0 w0.drew) (hsz : a0.tmps.size = size)
    (hB : shapeS size l.toArray = true) (H : Owed P l.toArray S n a0 w0 0 l)
    (hend : ∀ (y : Nat → Value) w', R w0 w' → (∀ j o, l[j]? = some o → (spec S j).V w' (y j)) → Q .normal (putAll y 0 l a0) w') :
    (Code.region id l.toArray true).wp P Q a0 w0 := by
  simp only [shapeS, Bool.and_eq_true, List.all_eq_true, decide_eq_true_eq, List.mem_range] at hB
  obtain ⟨⟨hdst, hnd⟩, hback⟩ := hB
  have hdst' : ∀ (j : Nat) (o : Oper) (d : Tmp), l.toArray[j]? = some o → o.dst = some d → d < size := fun j o d ho hd => by
    have h1 := hdst o (by simpa using Array.mem_of_getElem? ho)
    rw [hd] at h1
    simpa using h1
  have hinj : ∀ (i j : Nat) (oi oj : Oper), l.toArray[i]? = some oi → l.toArray[j]? = some oj → oi.dst = oj.dst → i = j := fun i j oi oj hi hj he => by
    have hi' : l[i]? = some oi := by simpa using hi
    have hj' : l[j]? = some oj := by simpa using hj
    have h1 : (l.map (·.dst))[i]? = some oi.dst := by simp [hi']
    have h2 : (l.map (·.dst))[j]? = some oi.dst := by simp [hj', he]
    have hli : i < (l.map (·.dst)).length := by rw [List.getElem?_eq_some_iff] at h1; exact h1.1
    exact (List.getElem?_inj hli hnd).1 (h1.trans h2.symm)
  have hback' : ∀ j o, l.toArray[j]? = some o → ∀ e ∈ o.after, Region.binds .any e = true → e.on < j := fun j o ho e he hb => by
    have := hback j (Array.getElem?_eq_some_iff.1 ho).1
    simp only [ho, Option.map_some, Option.getD_some, Array.all_eq_true_iff_forall_mem, Bool.or_eq_true, Bool.not_eq_true', decide_eq_true_eq] at this
    exact (this e he).resolve_left (by simp [hb])
  have main : ∀ (fuel : Nat) (listed : Array Bool) (a : Act) (w : World), unl listed = fuel → R w0 w → InvS l.toArray S a0 listed a w → wpAny P .any l.toArray Q fuel listed a w := by
    have fin : ∀ (listed : Array Bool) (a : Act) (w : World), R w0 w → InvS l.toArray S a0 listed a w → (∀ j, listed.getD j true = true) → Q .normal a w := fun listed a w hw I hall => by
      have hall' : ∀ j o, l.toArray[j]? = some o → listed.getD j false = true := fun j o ho => by
        have hlt : j < listed.size := by rw [I.len]; exact (Array.getElem?_eq_some_iff.1 ho).1
        have := hall j
        simp [hlt] at this ⊢; exact this
      have hch : ∀ j, ∃ v, ∀ o, l.toArray[j]? = some o → (spec S j).V w v ∧ ∀ d, o.dst = some d → a.eval (.tmp d) = v := fun j => by
        cases ho : l.toArray[j]? with
        | none => exact ⟨undef, fun o h => by cases h⟩
        | some o =>
          obtain ⟨v, h1, h2⟩ := I.new j o ho (hall' j o ho)
          exact ⟨v, fun o' h => by cases h; exact ⟨h1, h2⟩⟩
      obtain ⟨y, hy⟩ := Classical.axiomOfChoice hch
      have he : a = putAll y 0 l a0 := by
        obtain ⟨p1, p2⟩ := putAll_size y l 0 a0
        refine act_ext (by rw [p1, I.size]) (by rw [p2, I.defers]) fun t => ?_
        by_cases ht : ∃ o ∈ l, o.dst = some t
        · obtain ⟨o, ho, hd⟩ := ht
          obtain ⟨i, hi⟩ := List.getElem?_of_mem ho
          have hi' : l.toArray[i]? = some o := by simpa using hi
          rw [putAll_at _ l 0 a0 i o t hnd hi hd (by rw [hsz]; exact hdst' i o t hi' hd), Nat.zero_add]
          exact (hy i o hi').2 t hd
        · rw [putAll_other _ t l 0 a0 (fun o ho hd => ht ⟨o, ho, hd⟩)]
          exact I.old t (fun j o ho _ hd => ht ⟨o, by simpa using Array.mem_of_getElem? ho, hd⟩)
      rw [he]
      exact hend y w hw fun j o ho => (hy j o (by simpa using ho)).1
    intro fuel
    induction fuel with
    | zero =>
      intro listed a w hf hw I
      have hall := unl_zero hf
      refine ⟨?_, fin listed a w hw I hall⟩
      unfold Region.ready
      rw [List.filter_eq_nil_iff]
      intro j _
      simp [hall j]
    | succ fuel ih =>
      intro listed a w hf hw I
      refine ⟨fun h0 => fin listed a w hw I ?_, fun i hi => ?_⟩
      · intro j
        induction j using Nat.strongRecOn with
        | ind j ihj =>
          by_cases hj : listed.getD j true = true
          · exact hj
          · exfalso
            have hj' : listed.getD j true = false := by simpa using hj
            have hlt : j < listed.size := by
              rcases Nat.lt_or_ge j listed.size with h' | h'
              · exact h'
              · simp [Array.getElem?_eq_none h'] at hj'
            have hlt' : j < l.toArray.size := by rw [← I.len]; exact hlt
            have hmem : j ∈ Region.ready .any l.toArray listed := by
              rw [mem_ready]
              refine ⟨hj', l.toArray[j], by simp, fun e he hb => ?_⟩
              have h1 := hback' j _ (Array.getElem?_eq_getElem hlt') e he hb
              have h2 := ihj e.on h1
              have hlt2 : e.on < listed.size := Nat.lt_trans h1 hlt
              simp [hlt2] at h2 ⊢; exact h2
            rw [h0] at hmem
            cases hmem
      · obtain ⟨hun, o, ho, hall⟩ := mem_ready.1 hi
        have hunf := getD_false_of_true hun
        have hilt : i < listed.size := by rw [I.len]; exact (Array.getElem?_eq_some_iff.1 ho).1
        have hpre : ∀ j, waitsFor l.toArray i j = true → listed.getD j false = true := fun j hj => by
          obtain ⟨e, he, hb, rfl⟩ := (waitsFor_iff ho).1 hj
          exact hall e he hb
        have F : Facts l.toArray S n a0 i a w := by
          refine ⟨fun j d' h => ?_, fun t h => ?_⟩
          · simp only [newOk, Bool.and_eq_true, beq_iff_eq] at h
            have hl := behind_listed I.down n i j hpre h.1
            obtain ⟨oj, hoj, hdj⟩ := Option.bind_eq_some_iff.1 h.2
            obtain ⟨v, h1, h2⟩ := I.new j oj hoj hl
            rw [h2 d' hdj]; exact h1
          · refine I.old t fun j oj hoj hl hdj => ?_
            simp only [oldOk, List.all_eq_true, List.mem_range, Bool.or_eq_true, bne_iff_ne, ne_eq, beq_iff_eq] at h
            rcases h j (Array.getElem?_eq_some_iff.1 hoj).1 with (h | h) | h
            · exact h (by simp [dstOf, hoj, hdj])
            · subst h; rw [hunf] at hl; cases hl
            · have := behind_listed I.down n j i (fun j' hj' => I.down _ _ hl hj') h
              rw [hunf] at this; cases this
        have hob := Owed.get l 0 i o H (by simpa using ho) a w hw (by simpa using F)
        rw [Nat.zero_add] at hob
        have next : ∀ (v : Value) (w' : World), R w w' → (spec S i).V w' v → wpAny P .any l.toArray Q fuel (listed.setIfInBounds i true) (a.put o.dst v) w' := fun v w' hww hv => by
          refine ih _ _ _ (by have := unl_step hun; omega) (hT _ _ _ hw hww) ?_
          refine ⟨by cases o.dst <;> simp [Act.put, I.size], by cases o.dst <;> simp [Act.put, I.defers], fun j oj hoj hl => ?_, fun t ht => ?_, fun i' j' hl hwt => ?_, by simp [I.len]⟩
          · by_cases hij : j = i
            · subst hij
              rw [ho] at hoj; cases hoj
              refine ⟨v, hv, fun d hd => ?_⟩
              rw [hd, eval_put_same (by rw [I.size, hsz]; exact hdst' j o d ho hd)]
            · rw [getD_set_ne false (Ne.symm hij)] at hl
              obtain ⟨vj, h1, h2⟩ := I.new j oj hoj hl
              refine ⟨vj, (spec S j).keep _ _ _ hww h1, fun dj hdj => ?_⟩
              cases hd : o.dst with
              | none => exact h2 dj hdj
              | some d =>
                have hne : d ≠ dj := fun e => hij (hinj j i oj o hoj ho (by rw [hdj, hd, e]))
                rw [eval_put_other hne]
                exact h2 dj hdj
          · cases hd : o.dst with
            | none => exact I.old t fun j oj hoj hl => ht j oj hoj (getD_set_true hl)
            | some d =>
              have hne : d ≠ t := fun e => ht i o ho (by simp [hilt]) (by rw [hd, e])
              rw [eval_put_other hne]
              exact I.old t fun j oj hoj hl => ht j oj hoj (getD_set_true hl)
          · by_cases hii : i' = i
            · subst hii; exact getD_set_true (hpre j' hwt)
            · rw [getD_set_ne false (Ne.symm hii)] at hl
              exact getD_set_true (I.down _ _ hl hwt)
        unfold wpOp
        simp only [ho]
        unfold okAt at hob
        split
        · rename_i hwt
          rw [if_pos hwt] at hob
          refine .inl ?_
          unfold yieldsTo at hob
          unfold Oper.wp
          generalize (execOp a.eval o).run P w = r at *
          cases r with
          | ok nx w' =>
            cases nx <;> simp only [] at hob <;> simp only [Oper.upon]
            case value v => exact next _ _ hob.1 hob.2
            case skip => exact next _ _ hob.1 hob.2
            case enter f args => exact hob.mono fun e w'' ⟨v, he, h1, h2⟩ => by subst he; exact next _ _ h1 h2
          | halt x w' => simp only [] at hob
        · rename_i hwt
          rw [if_neg hwt] at hob
          exact next _ _ hob.1 hob.2
  refine wp_region_any hm (main _ _ _ _ (by simp [unl]) hdr ⟨rfl, rfl, fun j o _ h => ?_, fun _ _ => rfl, fun i j h _ => ?_, by simp⟩)
  · exfalso
    rcases Nat.lt_or_ge j l.length with h' | h' <;> simp [h'] at h
  · exfalso
    rcases Nat.lt_or_ge i l.length with h' | h' <;> simp [h'] at h
end
end Go.Proofs.YtolfeellcdoopaaDoor.Reg
