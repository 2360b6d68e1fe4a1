/-
  Layer 7: Cell of a row that is there.
-/
import Derived.Test.YtjfpeklfgnajoaaGreatQ26
namespace Go.Proofs.YtjfpeklfgnajoaaGreat.L6
open Go.ChangeShapes Go.WideShapes Go.ChangeAt Go.RowKit By Reg Val
set_option linter.unusedVariables false
set_option linter.unusedSimpArgs false

/-- a value that lies in memory, as a result -/
theorem res_val {fn : Func} {q : Tmp} {tmps : Array Value} {w : World} {N : Nat} {x : ValD} (h : fn.results = #[.cell q 60]) (hp : tmps.getD q undef = .pointer (some ⟨N, 0, none⟩)) (hb : Blk w N 60 [i64 x.k, i64 x.n, .string x.s]) :
    (results fn tmps).run Tryz.prog w = .ok (valV3 x) w := by
  have c0 := hb.cell 0
  have c1 := hb.cell 1
  have c2 := hb.cell 2
  simp only [List.getElem?_cons_zero, List.getElem?_cons_succ] at c0 c1 c2
  have hp' : tmps[q]?.getD undef = .pointer (some ⟨N, 0, none⟩) := by simpa using hp
  simp [results, h, hp', go_sem, c0, c1, c2]

set_option maxRecDepth 100000 in
set_option maxHeartbeats 1000000 in
theorem cell_row (w : World) (st : Nat) (v : Value) (sh : List Sh) (t : Int) (s : Sh) (k : Int) (y : SV) (j : Nat) (h : StAt w st v sh) (hs : shOf sh t = some s) (hj : j < s.t.cols.length) (hg : getL k s.L = some y) (hl : y.row.length = s.t.cols.length) (h9 : y.row.length ≤ 1000) :
    Calls Tryz.prog 38 #[ptrv st, i64 t, i64 k, i64 j] w fun e w' => e = .returned (valV3 (y.row[j]'(by omega))) ∧ Rb w w' := by
  obtain ⟨W, hW⟩ : ∃ W, W = w.alloc (.cells #[.int .i64 0, .int .i64 0, .string ⟨#[]⟩] 60) := ⟨_, rfl⟩
  have rW : Rb w W := by rw [hW]; exact (Below.refl _ w).alloc (Nat.le_refl _) _
  have bW : Blk W w.heap.size 60 [.int .i64 0, .int .i64 0, .string ⟨#[]⟩] := by rw [hW]; exact Blk.new w _ [_, _, _]
  have D := h.rb rW
  have hm : s ∈ sh := by
    obtain ⟨i, _, hi, rfl⟩ := shOf_some hs
    exact List.getElem_mem _
  have S := D.at_ s hm
  have CS := shelf_any W st v sh t D
  rw [hs] at CS
  dsimp only [shPtr] at CS
  have CH := hascol_any W s j S
  have hc : hasC (some s) j = true := by unfold hasC; simp; omega
  rw [hc] at CH
  have CG := tget k W s.p s.L s.F S.tree
  unfold GetPost at CG
  rw [hg] at CG
  have c3 := S.c3
  have hv : VIn W y := S.rows (k, y) (getL_mem hg)
  have HV := Lib.hid hv
  obtain ⟨x, hx⟩ : ∃ x, x = y.row[j]'(by omega) := ⟨_, rfl⟩
  have READ : Hid (∀ w2, Rb W w2 → ∃ b o cap, sv y = .slice (some ⟨b, o, none⟩) y.row.length cap ∧ w2.cell? ⟨b, o + j * 3, none⟩ = some (.int .i64 x.k) ∧ w2.cell? ⟨b, o + j * 3 + 1, none⟩ = some (.int .i64 x.n) ∧ w2.cell? ⟨b, o + j * 3 + 2, none⟩ = some (.string x.s)) := fun w2 hb => by
    have h3 : Row3 vE w2 (sv y) y.row := Row3.rb (VRow.vals hv.own) hb
    have := row3_at h3 j (by omega)
    rw [hx]
    exact this
  rw [← hx]
  have CSH := Lib.hid CS
  have CHH := Lib.hid CH
  have CGH := Lib.hid CG
  have HBW := Lib.hid bW
  have HRW := Lib.hid rW
  have HWW := Lib.hid hW
  have hjr : j < y.row.length := by omega
  clear hx hl
  generalize y.row.length = n at *
  obtain ⟨bx, hbx⟩ : ∃ bx, bx = w.heap.size := ⟨_, rfl⟩
  have HBX := Lib.hid hbx
  clear h hs hg D hm S CS CH hc CG hv hW rW bW hbx
  generalize s.b = sb at *
  generalize s.p = sp at *
  obtain ⟨xk, xn, xs⟩ := x
  dsimp only at *
  go_enter Tryz.func38, Tryz.ntmps38
  go_wp2_with (first | (rw [← HWW.out, ← HBX.out]; refine CSH.out.mono ?_; rintro e w' ⟨rfl, rfl⟩) | (go_at_call 69; refine CHH.out.mono ?_; rintro e w' ⟨rfl, rfl⟩))
  refine CGH.out.mono ?_
  rintro e w2 ⟨rfl, hb2⟩
  obtain ⟨b, o, cap, hsv, d0, d1, d2⟩ := READ.out w2 hb2
  have B2 := HBW.out.rb hb2
  rw [← HBX.out] at B2
  have HB2 := Lib.hid hb2
  have HB3 := Lib.hid B2
  have hsome : (some y).isSome = true := rfl
  dsimp only [Option.getD, Option.isSome]
  rw [hsv]
  clear hb2 B2 READ CGH CHH CSH hsv hsome
  go_wp2_with (refine wpList_store rfl 60 _ _ rfl bx 0 _ _ [.int .i64 xk, .int .i64 xn, .string xs] _ rfl rfl HB3.out rfl sizeV (by simp) (oneV _ _ _) ?_)
  intro w3 hb3 hw3
  have H3 := Lib.hid (And.intro hb3 hw3)
  clear hb3 hw3 d0 d1 d2 c3
  go_wp2
  refine bodyPost_ret (res_val (x := ⟨xk, xn, xs⟩) rfl rfl H3.out.1) rfl ?_
  refine ⟨rfl, ?_⟩
  have r2 : Rb w w2 := Rb.trans _ _ _ HRW.out HB2.out
  have := (Fr.of_rb (F := fun _ => False) r2).wrote H3.out.2 (.inr (by rw [HBX.out]; exact Nat.le_refl _))
  exact this.rb fun k hk => hk.elim
end Go.Proofs.YtjfpeklfgnajoaaGreat.L6
