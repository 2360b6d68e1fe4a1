/-
  Layer 7: slices.Collect, slices.SortedFunc of a map's spots.
-/
import Derived.Test.YtjfpeklfgnajoaaGreatQ16
namespace Go.Proofs.YtjfpeklfgnajoaaGreat.L6
open Go.ChangeShapes Go.WideShapes Go.ChangeAt Go.RowKit By Reg Val Go.Shelf Go.MapKept
set_option linter.unusedVariables false
set_option linter.unusedSimpArgs false
attribute [local go_sem] Oper.semAt_some

abbrev keysV (Bm : Nat) : Value := .func (.func 125) #[] #[.pointer (some ⟨Bm, 0, none⟩)]

theorem SRow.form {w : World} {B : Nat} {v : Value} {l : List Spot} (h : SRow w B v l) : (v = .slice none 0 0 ∧ l = []) ∨ ∃ g cap, v = .slice (some ⟨g, 0, none⟩) l.length cap ∧ l.length ≤ cap ∧ cap ≤ maxLen ∧ B ≤ g ∧ g < w.heap.size ∧ ∀ k (hk : k < l.length), w.cell? ⟨g, k * 2, none⟩ = some (i64 l[k].1) ∧ w.cell? ⟨g, k * 2 + 1, none⟩ = some (i64 l[k].2) := by
  rcases h.2 with ⟨h1, h2⟩ | ⟨g, cap, cur, h1, h2, h3, h4, h5, h6, h7⟩
  · exact .inl ⟨h1, List.length_eq_zero_iff.1 h2⟩
  · refine .inr ⟨g, cap, h1, h4, h5, h2, (Array.getElem?_eq_some_iff.1 h3).1, fun k hk => ?_⟩
    have hc := World.ownsRow.cells h (g := g) (by rw [h1]; rfl)
    obtain ⟨g0, g1⟩ := flatS_get l k hk
    have c0 := hc _ _ g0
    have c1 := hc _ _ g1
    rw [Addr.add_lit] at c0 c1
    rw [Nat.zero_add] at c0 c1
    exact ⟨c0, c1⟩
theorem SRow.rb {w w' : World} {B : Nat} {v : Value} {l : List Spot} (h : SRow w B v l) (k : Rb w w') : SRow w' B v l := by
  refine ⟨h.1, ?_⟩
  rcases h.2 with h0 | ⟨g, cap, cur, h1, h2, h3, h4⟩
  · exact .inl h0
  · exact .inr ⟨g, cap, cur, h1, h2, (k.block g (Array.getElem?_eq_some_iff.1 h3).1).trans h3, h4⟩

theorem sortS_of_perm {a b : List Spot} (h : a.Perm b) (hn : a.Nodup) : sortS a = sortS b :=
  List.Perm.eq_of_pairwise (le := ltS) (fun a b _ _ h1 h2 => by unfold ltS at *; omega) (sortS_rise hn) (sortS_rise (h.nodup_iff.1 hn)) (((sortS_perm a).trans h).trans (sortS_perm b).symm)

set_option maxHeartbeats 1000000 in
theorem collect_any (w : World) (Bm m : Nat) (l : List (Spot × SV)) (hm : MapAt w m l) (hbx : w.cell? ⟨Bm, 0, none⟩ = some (.map (some m))) (hl : l.length ≤ 100000) :
    Calls Tryz.prog 123 #[keysV Bm] w fun e w' => ∃ v ss, e = .returned v ∧ ss.Perm (l.map (·.1)) ∧ SRow w' w.heap.size v ss ∧ (v = .slice none 0 0 ↔ ss = []) ∧ Below w.heap.size w w' := by
  have C := Lib.hid (appendSeq_any w Bm m l hm hbx hl)
  clear hm hbx
  go_enter Tryz.func123, Tryz.ntmps123
  go_wp2_with fail
  refine C.out.mono ?_
  rintro e w' ⟨v, ss, rfl, h⟩
  go_wp2_with fail
  go_ret
  exact ⟨_, _, rfl, h⟩

set_option maxHeartbeats 1000000 in
theorem sortedFunc_any (w : World) (Bm m : Nat) (l : List (Spot × SV)) (hm : MapAt w m l) (hbx : w.cell? ⟨Bm, 0, none⟩ = some (.map (some m))) (hl : l.length ≤ 100000) :
    Calls Tryz.prog 99 #[keysV Bm, .func (.func 101) #[] #[]] w fun e w' => ∃ v, e = .returned v ∧ SRow w' w.heap.size v (sortS (l.map (·.1))) ∧ Rb w w' := by
  have C := Lib.hid (collect_any w Bm m l hm hbx hl)
  have ND := Lib.hid hm.nodup
  clear hm hbx
  go_enter Tryz.func99, Tryz.ntmps99
  go_wp2_with fail
  refine C.out.mono ?_
  rintro e w1 ⟨v, ss, rfl, hp, hr, hn, hb⟩
  have hss : sortS ss = sortS (l.map (·.1)) := sortS_of_perm hp (hp.nodup_iff.2 ND.out)
  have HSS := Lib.hid hss
  have hlen : ss.length ≤ 100000 := by
    have := hp.length_eq
    rw [List.length_map] at this
    omega
  rcases hr.form with ⟨rfl, rfl⟩ | ⟨g, cap, rfl, q1, q2, q3, q4, _⟩
  · have CN := Lib.hid (Go.Proofs.AnyF.slices_SortFunc_none Tryz.sortSp none 0 (.func (.func 101) #[] #[]))
    have HR := Lib.hid (And.intro hr hb)
    clear hr hb hn hp hss
    go_wp2_with fail
    refine (CN.out _).mono ?_
    rintro e w2 ⟨rfl, rfl⟩
    go_wp2_with fail
    go_ret
    exact ⟨_, rfl, by rw [← HSS.out, show sortS [] = [] by simp [sortS]]; exact HR.out.1, HR.out.2⟩
  · have CS := Lib.hid (sortFunc_any g cap ss w1 (holds_of_srow hr) q4 (by omega))
    have HR := Lib.hid (And.intro hr hb)
    clear hr hb hn hp hss
    go_wp2_with fail
    refine CS.out.mono ?_
    rintro e w2 ⟨rfl, n, os, h2⟩
    have hsw := sorted_world HR.out.1 (sortS_perm ss).length_eq h2
    have HW := Lib.hid hsw
    clear hsw h2
    go_wp2_with fail
    go_ret
    refine ⟨_, rfl, by rw [← HSS.out]; exact HW.out.1, ?_⟩
    have hb := HR.out.2
    have hf := HW.out.2
    exact ⟨hf.os.trans hb.os, hf.tape.trans hb.tape, hf.output.trans hb.output, Nat.le_trans hb.size hf.size, fun k hk => (hf.block k (Nat.lt_of_lt_of_le hk hb.size) (fun e => by omega)).trans (hb.block k hk)⟩
end Go.Proofs.YtjfpeklfgnajoaaGreat.L6
