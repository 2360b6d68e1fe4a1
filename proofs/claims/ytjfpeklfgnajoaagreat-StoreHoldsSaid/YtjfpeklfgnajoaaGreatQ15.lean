/-
  Layer 7: maps.Keys of a map from spots: the iterator.
-/
import Derived.Test.YtjfpeklfgnajoaaGreatQ14
import Derived.Sort.MapsRangeIn
import Derived.Sort.KeysCollected
import Derived.Maps.RangeRun
import Derived.RangeFuncNested
import Derived.RangeFuncBox
import Derived.RangeFuncLeaves
import Derived.Shelf.RegionOpen
import Derived.OwnWalkIn
import Derived.TacticsInMore
import Derived.LoopNIn
import Derived.LoopIn
import Derived.Maps.AppendAt
namespace Go.Proofs.YtjfpeklfgnajoaaGreat.L6
open Go.ChangeShapes Go.WideShapes Go.ChangeAt Go.RowKit By Reg Val Go.Shelf Go.MapKept
open Go.ChangeMaps (setBlock)
set_option linter.unusedVariables false
set_option linter.unusedSimpArgs false
attribute [local go_sem] Oper.semAt_some

/-- how many entries an iterator has still to hand out -/
def iterLeft (w : World) (r n : Nat) : Nat := match w.heap[r]? with | some (.mapIter _ _ seen _) => n - seen.size | _ => 0
theorem iterLeft_at {w : World} {r n : Nat} {a : Option Nat} {b d : Nat} {seen : Array Nat} (h : w.heap[r]? = some (.mapIter a b seen d)) : iterLeft w r n = n - seen.size := by unfold iterLeft; rw [h]

/-- the iterator has handed out the entries ps -/
structure IterAt (w : World) (r m : Nat) (es : Array MapEntry) (clock : Nat) (pre : List Spot) : Prop where
  ex : ∃ (seen : Array Nat) (c0 : Nat) (ps : List MapEntry), w.heap[r]? = some (.mapIter (some m) clock seen c0) ∧ clock ≤ c0 ∧ ps.map (·.born) = seen.toList ∧ (∀ e ∈ ps, e ∈ es.toList) ∧ (ps.map (·.born)).Nodup ∧ pre.map spV = ps.map (·.key)
  mp : w.heap[m]? = some (.map es clock)

theorem grownBy_setBlock {w w1 : World} {r : Nat} {o o' : Obj} (hw : w1 = w ∨ w1 = w.drew) (hr : w.heap[r]? = some o) : w.grownBy (setBlock w1 r o') (some r) := by
  rcases hw with rfl | rfl
  · exact ⟨rfl, rfl, rfl, by simp [setBlock], fun k hk hne => by simp only [setBlock]; rw [Array.getElem?_setIfInBounds_ne (fun e => hne (by rw [e]))]⟩
  · exact ⟨rfl, rfl, rfl, by show _ ≤ (Array.setIfInBounds w.heap r o').size; simp, fun k hk hne => by show (Array.setIfInBounds w.heap r o')[k]? = _; rw [Array.getElem?_setIfInBounds_ne (fun e => hne (by rw [e]))]⟩

theorem nodup_len {α : Type} : ∀ {ps es : List α}, ps.Nodup → (∀ e ∈ ps, e ∈ es) → ps.length ≤ es.length
  | [], es, _, _ => Nat.zero_le _
  | p :: ps, es, h, hm => by
    obtain ⟨A, B, rfl⟩ := List.append_of_mem (hm p (by simp))
    have h' := List.nodup_cons.1 h
    have := nodup_len (ps := ps) (es := A ++ B) h'.2 fun e he => by
      have := hm e (by simp [he])
      simp only [List.mem_append, List.mem_cons] at this
      rcases this with h | rfl | h
      · simp [h]
      · exact absurd he h'.1
      · simp [h]
    simp at this ⊢
    omega
def unV : Value → Spot
  | .agg ⟨[.int _ x, .int _ y]⟩ => (x, y)
  | _ => (0, 0)
theorem unV_spV (l : List Spot) : (l.map spV).map unV = l := by
  rw [List.map_map]
  conv => rhs; rw [← List.map_id l]
  exact List.map_congr_left fun x _ => rfl
theorem perm_spV {a b : List Spot} (h : (a.map spV).Perm (b.map spV)) : a.Perm b := by
  have := h.map unV
  rwa [unV_spV, unV_spV] at this

theorem left_size {es : Array MapEntry} {ps : List MapEntry} {seen : Array Nat} (hs : (es.toList.map (·.born)).Nodup) (hb : ps.map (·.born) = seen.toList) (hm : ∀ e ∈ ps, e ∈ es.toList) (hn : (ps.map (·.born)).Nodup) :
    ((leftOf es seen).size = 0 → ps.Perm es.toList) ∧ seen.size ≤ es.size := by
  have hnp : ps.Nodup := (List.pairwise_map.1 hn).imp fun {a b} h e => h (by rw [e])
  have hne : es.toList.Nodup := (List.pairwise_map.1 hs).imp fun {a b} h e => h (by rw [e])
  refine ⟨fun h0 => ?_, ?_⟩
  · refine (List.perm_ext_iff_of_nodup hnp hne).2 fun e => ⟨hm e, fun he => ?_⟩
    have hl : leftOf es seen = #[] := Array.eq_empty_of_size_eq_zero h0
    have hnl : e ∉ leftOf es seen := by rw [hl]; simp
    unfold leftOf at hnl
    rw [Array.mem_filter] at hnl
    have hc : seen.contains e.born = true := by
      cases hq : seen.contains e.born with
      | true => rfl
      | false => exact absurd ⟨by simpa using he, by simpa using hq⟩ hnl
    have hc' : e.born ∈ seen.toList := by simpa using hc
    rw [← hb] at hc'
    obtain ⟨e', he', hbe⟩ := List.mem_map.1 hc'
    have : e' = e := by
      have h1 := find_born e es.toList hs he
      have h2 := find_born e' es.toList hs (hm e' he')
      rw [hbe, h1] at h2
      exact (Option.some.inj h2).symm
    rw [← this]; exact he'
  · have := nodup_len hnp hm
    have h1 : ps.length = seen.size := by have := congrArg List.length hb; simpa using this
    have h2 : es.toList.length = es.size := by simp
    omega

theorem IterAt.kept {w w' : World} {r m : Nat} {es : Array MapEntry} {clock : Nat} {pre : List Spot} (h : IterAt w r m es clock pre) (hr : w'.heap[r]? = w.heap[r]?) (hm : w'.heap[m]? = w.heap[m]?) : IterAt w' r m es clock pre := by
  obtain ⟨seen, c0, ps, h1, h2⟩ := h.ex
  exact ⟨⟨seen, c0, ps, hr.trans h1, h2⟩, hm.trans h.mp⟩
theorem IterAt.walks {w w' : World} {r m : Nat} {es : Array MapEntry} {clock : Nat} {pre : List Spot} (h : IterAt w r m es clock pre) (k : KeepsWalks w w') : IterAt w' r m es clock pre := by
  obtain ⟨seen, c0, ps, h1, h2⟩ := h.ex
  exact ⟨⟨seen, c0, ps, k.same r _ h1 rfl, h2⟩, k.same m _ h.mp rfl⟩

/-- a step of the iterator -/
theorem iter_step {w : World} {r m : Nat} {es : Array MapEntry} {clock : Nat} {pre : List Spot} {l : List (Spot × SV)} (h : IterAt w r m es clock pre) (hs : Stamped es clock) (hl : es.toList.map (fun e => (e.key, e.val)) = l.map (fun p => (spV p.1, sv p.2))) (hrm : r ≠ m) (ty : TypeId) :
    ((Instr.next (.pointer (some ⟨r, 0, none⟩)) false ty).run Tryz.prog w = .ok (.tuple #[.bool false]) w ∧ pre.Perm (l.map (·.1))) ∨
    ∃ (x : Spot) (y : SV) (w2 : World), (Instr.next (.pointer (some ⟨r, 0, none⟩)) false ty).run Tryz.prog w = .ok (.tuple #[.bool true, spV x, sv y]) w2 ∧ (Instr.entry (.pointer (some ⟨r, 0, none⟩))).run Tryz.prog w2 = .ok (.tuple #[spV x, sv y]) w2 ∧
      IterAt w2 r m es clock (pre ++ [x]) ∧ w.grownBy w2 (some r) ∧ iterLeft w2 r es.size < iterLeft w r es.size ∧ pre.length < l.length := by
  obtain ⟨seen, c0, ps, h1, h2, h3, h4, h5, h6⟩ := h.ex
  obtain ⟨s1, s2, s3⟩ := (stamped_iff es clock).1 hs
  have hsz := left_size s2 h3 h4 h5
  have hlen : es.size = l.length := by have := pairs_len hl; simpa using this
  have hpl : pre.length = seen.size := by
    have e1 := congrArg List.length h6
    have e2 := congrArg List.length h3
    simp at e1 e2
    omega
  rcases run_next_at (P := Tryz.prog) w ty r m clock c0 seen es clock h1 h.mp s1 h2 with ⟨k1, k2⟩ | ⟨e, he, w1, hw1, k2⟩
  · left
    refine ⟨k2, ?_⟩
    have hp := (hsz.1 k1).map (·.key)
    rw [← h6] at hp
    have hk : es.toList.map (·.key) = (l.map (·.1)).map spV := by
      have := congrArg (List.map Prod.fst) hl
      simpa [List.map_map, Function.comp_def] using this
    rw [hk] at hp
    exact perm_spV hp
  · right
    have hel : e ∈ es.toList ∧ e.born ∉ seen.toList := by
      unfold leftOf at he
      simp at he
      exact ⟨by simpa using he.1, by simpa using he.2⟩
    obtain ⟨p, hp, q1, q2⟩ := pairs_mem hl hel.1
    have hps : ps ++ [e] ≠ [] := by simp
    have hn2 : ((ps ++ [e]).map (·.born)).Nodup := by
      rw [List.map_append, List.nodup_append]
      refine ⟨h5, by simp, fun a ha b hb hab => ?_⟩
      simp at hb
      subst hb
      rw [hab] at ha
      rw [h3] at ha
      exact hel.2 ha
    have hm2 : ∀ e' ∈ ps ++ [e], e' ∈ es.toList := fun e' he' => by
      rcases List.mem_append.1 he' with h | h
      · exact h4 e' h
      · simp at h; subst h; exact hel.1
    have h1' : w1.heap[r]? = some (.mapIter (some m) clock seen c0) := by rcases hw1 with rfl | rfl <;> exact h1
    have hm' : w1.heap[m]? = some (.map es clock) := by rcases hw1 with rfl | rfl <;> exact h.mp
    have hit : (setBlock w1 r (.mapIter (some m) clock (seen.push e.born) clock)).heap[r]? = some (.mapIter (some m) clock (seen.push e.born) clock) := setBlock_at h1' _
    have hmp : (setBlock w1 r (.mapIter (some m) clock (seen.push e.born) clock)).heap[m]? = some (.map es clock) := ((wrote_setBlock _).block m (fun e => hrm e.symm)).trans hm'
    have hsz2 := left_size (seen := seen.push e.born) s2 (by rw [List.map_append, h3]; simp) hm2 hn2
    have hps2 : (seen.push e.born).size = seen.size + 1 := by simp
    refine ⟨p.1, p.2, setBlock w1 r (.mapIter (some m) clock (seen.push e.born) clock), ?_, ?_, ⟨⟨seen.push e.born, clock, ps ++ [e], hit, Nat.le_refl _, by rw [List.map_append, h3]; simp, hm2, hn2, ?_⟩, hmp⟩, grownBy_setBlock hw1 h1, ?_, ?_⟩
    · rw [← q1, ← q2]; exact k2
    · rw [← q1, ← q2]
      exact run_entry_at _ r m clock seen es clock e hit hmp hel.1 s2
    · rw [List.map_append, List.map_append, h6]
      simp [q1]
    · rw [iterLeft_at hit, iterLeft_at h1, hps2]
      have := hsz2.2
      omega
    · have := hsz2.2
      omega

set_option maxRecDepth 100000 in
set_option maxHeartbeats 1000000 in
/-- the iterator: each spot once, in some order -/
theorem keys_stops (w : World) (Bm m : Nat) (l : List (Spot × SV)) (hm : MapAt w m l) (hbx : w.cell? ⟨Bm, 0, none⟩ = some (.map (some m))) :
    SeqStopsK Fence.wide 6 Tryz.prog 125 #[.pointer (some ⟨Bm, 0, none⟩)] (fun p : Spot => #[spV p]) KeepsWalks (fun xs => xs.Perm (l.map (·.1))) (fun _ => True) l.length w := by
  intro lp J Jx W hW hJ hJx hY h0
  obtain ⟨es, clock, hb, hs, hl⟩ := hm
  have hbl : m < w.heap.size := (Array.getElem?_eq_some_iff.1 hb).1
  have hb1 : W.heap[m]? = some (.map es clock) := (hW.block m hbl).trans hb
  have hc1 : W.cell? ⟨Bm, 0, none⟩ = some (.map (some m)) := by rw [Below.cell hW (World.block_lt_of_cell? w _ hbx)]; exact hbx
  have hrg := run_range_map (P := Tryz.prog) W 120 _ _ m es clock Tryz.underlying120 hb1
  have hrm : W.heap.size ≠ m := by have := hW.size; omega
  have HS : Hid (Stamped es clock ∧ es.toList.map (fun e => (e.key, e.val)) = l.map (fun p => (spV p.1, sv p.2))) := ⟨hs, hl⟩
  have HJ := Lib.hid hJ
  have HJX := Lib.hid hJx
  have HY := Lib.hid hY
  have HL : Hid (es.size = l.length) := by have := pairs_len hl; show _ = _; simpa using this
  have A0 : Hid (IterAt (W.alloc (.mapIter (some m) clock #[] clock)) W.heap.size m es clock [] ∧ J [] (W.alloc (.mapIter (some m) clock #[] clock)) ∧ W.heap.size ≤ (W.alloc (.mapIter (some m) clock #[] clock)).heap.size) := by
    refine ⟨⟨⟨#[], clock, [], heap_alloc_new W _, Nat.le_refl _, rfl, (fun e he => by cases he), List.Pairwise.nil, rfl⟩, ?_⟩, ?_, by simp⟩
    · rw [heap_alloc_old W _ (by have := hW.size; omega)]; exact hb1
    · exact hJ _ _ _ none h0 (World.grownBy_alloc W _ none) (fun _ h => by cases h)
  clear hs hl hJ hJx hY hb hb1 hbx hW h0
  refine callsIn_of_wp Tryz.func125 rfl trivial ?_ rfl
  simp only [Tryz.ntmps125, List.size_toArray, List.length_cons, List.length_nil, Nat.reduceAdd, Nat.reduceSub, Array.replicate_succ, Array.replicate_zero, List.push_toArray, List.append_toArray, List.nil_append, List.cons_append]
  gi_wp2_with fail
  obtain ⟨r, hr⟩ : ∃ r, r = W.heap.size := ⟨_, rfl⟩
  rw [← hr] at A0 hrm ⊢
  generalize W.alloc (.mapIter (some m) clock #[] clock) = W0 at *
  have HR := Lib.hid hr
  clear hr hrg hc1
  gi_loopw [3] (fun _ wr => ∃ pre : List Spot, Hid (IterAt wr r m es clock pre ∧ J pre wr ∧ r ≤ wr.heap.size)) (fun _ wr => iterLeft wr r es.size)
  case atStart => exact ⟨[], A0⟩
  case round =>
    obtain ⟨pre, hI⟩ := hrel
    rcases iter_step hI.out.1 HS.out.1 HS.out.2 hrm 0 with ⟨k1, k2⟩ | ⟨x, y, w2, k1, k2, k3, k4, k5, k6⟩
    · have K2 := Lib.hid k2
      gi_wp2_with fail
      refine bodyPost_end (results_none rfl _ _ _) rfl ?_
      exact ⟨⟨_, rfl⟩, .inl ⟨pre, K2.out, hI.out.2.1⟩⟩
    · have hr1 : w2.heap.size ≥ wr.heap.size := k4.size
      have hit : ∃ o : Obj, wr.heap[r]? = some o ∧ o.isWalk = true := by
        obtain ⟨seen, c0, ps, h1, _⟩ := hI.out.1.ex
        exact ⟨_, h1, rfl⟩
      have hj2 := HJ.out _ _ _ _ (HJ.out _ _ _ (some r) hI.out.2.1 k4 (fun r' h => by cases h; exact ⟨by rw [HR.out]; exact Nat.le_refl _, hit⟩)) (World.grownBy_alloc w2 (.cells #[i64 x.1, i64 x.2] 111) none) (fun _ h => by cases h)
      have hq := HY.out pre x _ hj2 k6
      have HI3 := Lib.hid (And.intro k3 (And.intro k5 (And.intro hI.out.2.2 hr1)))
      clear k3 k4 k5 k6 hit hj2 hr1
      gi_wp2_with fail
      obtain ⟨fn, tmps, assign, body, hyl, hR⟩ := hq
      simp only [spV] at hyl
      gi_wp2
      rw [hyl]
      gi_wp2
      refine hR.mono ?_
      rintro e W3 (⟨rfl, hJ3, hk3⟩ | ⟨rfl, hx3⟩)
      · have H3 : Hid (IterAt W3 r m es clock (pre ++ [x]) ∧ J (pre ++ [x]) W3 ∧ r ≤ W3.heap.size ∧ iterLeft W3 r es.size < iterLeft wr r es.size) := by
          obtain ⟨h3, h5, h6, h7⟩ := HI3.out
          have h4 := (h3.kept (heap_alloc_old w2 _ (by obtain ⟨_, _, _, h1, _⟩ := h3.ex; exact (Array.getElem?_eq_some_iff.1 h1).1)) (heap_alloc_old w2 (.cells #[i64 x.1, i64 x.2] 111) (Array.getElem?_eq_some_iff.1 h3.mp).1)).walks hk3
          refine ⟨h4, hJ3, ?_, ?_⟩
          · obtain ⟨_, _, _, h1, _⟩ := h4.ex
            exact Nat.le_of_lt (Array.getElem?_eq_some_iff.1 h1).1
          · obtain ⟨s1, _, _, q1, _⟩ := h4.ex
            obtain ⟨s2, _, _, q2, _⟩ := h3.ex
            have hs : s1 = s2 := by
              have := hk3.same r _ ((heap_alloc_old w2 (.cells #[i64 x.1, i64 x.2] 111) (Array.getElem?_eq_some_iff.1 q2).1).trans q2) rfl
              rw [this] at q1
              simp at q1
              exact q1.1.symm
            rw [iterLeft_at q1, hs, ← iterLeft_at q2]
            exact h5
        clear hJ3 hk3 hyl
        gi_wp2
        go_roundw
        case rel => exact ⟨pre ++ [x], H3.out.1, H3.out.2.1, H3.out.2.2.1⟩
        case measure => exact H3.out.2.2.2
      · clear hyl
        gi_wp2
        refine bodyPost_ret (results_none rfl _ _ _) rfl ?_
        exact ⟨⟨_, rfl⟩, .inr ⟨_, trivial, hx3⟩⟩
end Go.Proofs.YtjfpeklfgnajoaaGreat.L6
