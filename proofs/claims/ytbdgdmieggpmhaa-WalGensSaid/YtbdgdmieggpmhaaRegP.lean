/-
  The law on regions by specs, for a region in the text's own order.
-/
import Derived.Test.YtbdgdmieggpmhaaRegTools
namespace Go.Proofs.Ytbdgdmieggpmhaa.Reg
open Go Go.RowKit

section
variable {P : Program} {R : World → World → Prop} {ops : Array Oper} {S : List (Spec R)}

theorem behind_lt {l : List Oper} (hback : ∀ j o, l.toArray[j]? = some o → ∀ e ∈ o.after, Region.binds .any e = true → e.on < j) :
    ∀ (n i j : Nat), behind l.toArray n i j = true → j < i := by
  intro n
  induction n with
  | zero => intro i j h; simp [behind] at h
  | succ n ih =>
    intro i j h
    simp only [behind, Bool.or_eq_true] at h
    rcases h with h | h
    · cases ho : l.toArray[i]? with
      | none => simp [waitsFor, ho] at h
      | some o =>
        obtain ⟨e, he, hb, rfl⟩ := (waitsFor_iff ho).1 h
        exact hback i o ho e he hb
    · cases ho : l.toArray[i]? with
      | none => simp [ho] at h
      | some o =>
        simp only [ho, Option.map_some, Option.getD_some, Array.any_eq_true', Bool.and_eq_true] at h
        obtain ⟨e, he, hb, hn⟩ := h
        have := ih e.on j hn
        have := hback i o ho e he hb
        omega

structure InvP (l : List Oper) (S : List (Spec R)) (a0 : Act) (k : Nat) (a : Act) (w : World) : Prop where
  size : a.tmps.size = a0.tmps.size
  defers : a.defers = a0.defers
  new : ∀ j o d, j < k → l[j]? = some o → o.dst = some d → (spec S j).V w (a.eval (.tmp d))
  old : ∀ t, (∀ j o, j < k → l[j]? = some o → o.dst ≠ some t) → a.eval (.tmp t) = a0.eval (.tmp t)

theorem wp_region_plain_specs {id n size : Nat} {Q : Exit → Act → World → Prop} {a0 : Act} {w0 : World} {l : List Oper}
    (hT : ∀ a b c, R a b → R b c → R a c) (hr0 : R w0 w0) (hsz : a0.tmps.size = size)
    (hB : shapeB size l.toArray = true) (H : Owed P l.toArray S n a0 w0 0 l)
    (hend : ∀ (y : Nat → Value) w', R w0 w' → (∀ j o, l[j]? = some o → (spec S j).V w' (y j)) → Q .normal (putAll y 0 l a0) w') :
    (Code.region id l.toArray false).wp P Q a0 w0 := by
  simp only [shapeB, Bool.and_eq_true, List.all_eq_true, decide_eq_true_eq, List.mem_range] at hB
  obtain ⟨⟨hdst, hnd⟩, hback⟩ := hB
  have hdst' : ∀ (j : Nat) (o : Oper), l[j]? = some o → ∃ d, o.dst = some d ∧ d < size := fun j o ho => by
    have h1 := hdst o (by simpa using List.mem_of_getElem? ho)
    cases hd : o.dst with
    | none => simp [hd] at h1
    | some d => simp [hd] at h1; exact ⟨d, rfl, h1⟩
  have hinj : ∀ (i j : Nat) (oi oj : Oper), l[i]? = some oi → l[j]? = some oj → oi.dst = oj.dst → i = j := fun i j oi oj hi' hj' he => by
    have h1 : (l.map (·.dst))[i]? = some oi.dst := by simp [hi']
    have h2 : (l.map (·.dst))[j]? = some oi.dst := by simp [hj', he]
    have hli : i < (l.map (·.dst)).length := by rw [List.getElem?_eq_some_iff] at h1; exact h1.1
    exact (List.getElem?_inj hli hnd).1 (h1.trans h2.symm)
  have hback' : ∀ j o, l.toArray[j]? = some o → ∀ e ∈ o.after, Region.binds .any e = true → e.on < j := fun j o ho e he hb => by
    have := hback j (Array.getElem?_eq_some_iff.1 ho).1
    simp only [ho, Option.map_some, Option.getD_some, Array.all_eq_true_iff_forall_mem, Bool.or_eq_true, Bool.not_eq_true', decide_eq_true_eq] at this
    exact (this e he).resolve_left (by simp [hb])
  have main : ∀ (rest : List Oper) (k : Nat) (a : Act) (w : World), rest = l.drop k → k ≤ l.length → R w0 w → InvP l S a0 k a w → wpList P l.toArray Q rest a w := by
    intro rest
    induction rest with
    | nil =>
      intro k a w hr hk hw I
      have hkl : k = l.length := by
        have := congrArg List.length hr
        simp at this; omega
      subst hkl
      have he : a = putAll (fun j => a.eval (.tmp ((dstOf l.toArray j).getD 0))) 0 l a0 := by
        obtain ⟨p1, p2⟩ := putAll_size (fun j => a.eval (.tmp ((dstOf l.toArray j).getD 0))) l 0 a0
        refine act_ext (by rw [p1, I.size]) (by rw [p2, I.defers]) fun t => ?_
        by_cases ht : ∃ o ∈ l, o.dst = some t
        · obtain ⟨o, ho, hd⟩ := ht
          obtain ⟨i, hi⟩ := List.getElem?_of_mem ho
          have hsd := hdst o ho
          rw [hd] at hsd
          rw [putAll_at _ l 0 a0 i o t hnd hi hd (by rw [hsz]; simpa using hsd)]
          simp [dstOf, hi, hd]
        · rw [putAll_other _ t l 0 a0 (fun o ho hd => ht ⟨o, ho, hd⟩)]
          exact I.old t (fun j o _ ho hd => ht ⟨o, List.mem_of_getElem? ho, hd⟩)
      show Q .normal a w
      rw [he]
      refine hend _ w hw fun j o ho => ?_
      obtain ⟨d, hd, _⟩ := hdst' j o ho
      have := I.new j o d (List.getElem?_eq_some_iff.1 ho).1 ho hd
      simpa [dstOf, ho, hd] using this
    | cons o rest ih =>
      intro k a w hr hk hw I
      have hkl : k < l.length := by
        have := congrArg List.length hr
        simp at this; omega
      have ho : l[k]? = some o := by
        have h1 : (l.drop k)[0]? = some o := by rw [← hr]; rfl
        simpa using h1
      have hr' : rest = l.drop (k + 1) := by
        rw [List.drop_eq_getElem_cons hkl] at hr
        exact (List.cons.inj hr).2
      obtain ⟨d, hd, hds⟩ := hdst' k o ho
      have F : Facts l.toArray S n a0 k a w := by
        refine ⟨fun j d' h => ?_, fun t h => ?_⟩
        · simp only [newOk, Bool.and_eq_true, beq_iff_eq] at h
          have hl := behind_lt hback' n k j h.1
          obtain ⟨oj, hoj, hdj⟩ := Option.bind_eq_some_iff.1 h.2
          exact I.new j oj d' hl (by simpa using hoj) hdj
        · refine I.old t fun j oj hl hoj hdj => ?_
          simp only [oldOk, List.all_eq_true, List.mem_range, Bool.or_eq_true, bne_iff_ne, ne_eq, beq_iff_eq] at h
          rcases h j (by have := (List.getElem?_eq_some_iff.1 hoj).1; simpa using this) with (h | h) | h
          · exact h (by simp [dstOf, hoj, hdj])
          · omega
          · have := behind_lt hback' n j k h; omega
      have hob := Owed.get l 0 k o H ho a w hw (by simpa using F)
      rw [Nat.zero_add] at hob
      have next : ∀ (v : Value) (w' : World), R w w' → (spec S k).V w' v → wpList P l.toArray Q rest (a.put o.dst v) w' := fun v w' hww hv => by
        refine ih (k + 1) _ _ hr' hkl (hT _ _ _ hw hww) ?_
        rw [hd]
        refine ⟨by simp [Act.put, I.size], by simp [Act.put, I.defers], fun j oj dj hl hoj hdj => ?_, fun t ht => ?_⟩
        · by_cases hij : j = k
          · subst hij
            rw [ho] at hoj; cases hoj
            rw [hd] at hdj; cases hdj
            rw [eval_put_same (by rw [I.size, hsz]; exact hds)]
            exact hv
          · have hne : d ≠ dj := fun e => hij (hinj j k oj o hoj ho (by rw [hdj, hd, e]))
            rw [eval_put_other hne]
            exact (spec S j).keep _ _ _ hww (I.new j oj dj (by omega) hoj hdj)
        · have hne : d ≠ t := fun e => ht k o (by omega) ho (by rw [hd, e])
          rw [eval_put_other hne]
          exact I.old t fun j oj hl hoj => ht j oj (by omega) hoj
      show (if Region.wanted o (yielded l.toArray a.tmps) then o.wp P a w (wpList P l.toArray Q rest) Q ∨ (o.asks P a w ∧ LetsOut Q) else wpList P l.toArray Q rest (a.put o.dst undef) w)
      unfold okAt at hob
      split
      · rename_i hwt
        rw [if_pos hwt] at hob
        refine .inl ?_
        unfold yieldsTo at hob
        unfold Oper.wp
        generalize (execOp a.eval o).run P w = r at *
        cases r with
        | ok nx w' =>
          cases nx <;> simp only [] at hob <;> simp only [Oper.upon]
          case value v => exact next _ _ hob.1 hob.2
          case skip => exact next _ _ hob.1 hob.2
          case enter f args => exact hob.mono fun e w'' ⟨v, he, h1, h2⟩ => by subst he; exact next _ _ h1 h2
        | halt x w' => simp only [] at hob
      · rename_i hwt
        rw [if_neg hwt] at hob
        exact next _ _ hob.1 hob.2
  refine wp_region_lit (main l 0 a0 w0 rfl (Nat.zero_le _) hr0 ⟨rfl, rfl, fun j o d h => by omega, fun _ _ => rfl⟩)
end
end Go.Proofs.Ytbdgdmieggpmhaa.Reg
