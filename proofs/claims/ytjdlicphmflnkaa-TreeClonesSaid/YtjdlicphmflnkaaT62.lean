/-
  Layer 5: the law's do.
-/
import Derived.Test.YtjdlicphmflnkaaT61
import Derived.Test.YtjdlicphmflnkaaT41
namespace Go.Proofs.Ytjdlicphmflnkaa.L5
open Go.ChangeShapes Go.WideShapes Go.ChangeAt Go.RowKit By Reg
set_option linter.unusedVariables false
set_option linter.unusedSimpArgs false

def opL (q : OpV) (L : List Th) : List Th := if 4 ≤ q.k % 6 then delL q.x L else putL q.x q.y L
/-- what do leaves -/
def DoPost (q : OpV) (w : World) (p : Nat) (v : Value) (L : List Th) (F : Nat → Prop) (e : Ending) (w' : World) : Prop :=
  ∃ v' F', e = .returned (.tuple #[v', .bool true]) ∧ TreeAt w' p (opL q L) F' ∧ PRow w' v' (opL q L) ∧ (∀ k, v'.ownBlock = some k → v.ownBlock = some k ∨ w.heap.size ≤ k) ∧ Fr F w w' ∧ (∀ k, F' k → F k ∨ w.heap.size ≤ k)

set_option maxHeartbeats 4000000 in
set_option maxRecDepth 100000 in
theorem do_any (q : OpV) (hq : q.k < 18446744073709551616) (w : World) (p : Nat) (v : Value) (L : List Th) (F : Nat → Prop) (ht : TreeAt w p L F) (h : PRow w v L) (hL : L.length ≤ 30000) :
    Calls Try.prog 9 #[ptrv p, v, .agg #[.int .u64 q.k, i64 q.x, i64 q.y]] w (DoPost q w p v L F) := by
  obtain ⟨qk, x, y⟩ := q
  have hri := ht.rise
  obtain ⟨pos, hp⟩ := PosL.exists x L
  have hget := getL_rise hri hp
  obtain ⟨n, hn⟩ : ∃ n, n = L.length := ⟨_, rfl⟩
  obtain ⟨ao, cap, hv, hnc⟩ : ∃ ao cap, v = .slice ao n cap ∧ n ≤ cap := by
    rcases h.cases' with ⟨h1, h2⟩ | ⟨g, cap, h1, h2, h3, h4⟩
    · exact ⟨none, 0, by rw [h1, hn, h2]; rfl, by rw [hn, h2]; simp⟩
    · exact ⟨_, cap, by rw [h1, hn], by omega⟩
  have CELL : Hid (∀ w', Rb w w' → pos < n → ∃ g, ao = some ⟨g, 0, none⟩ ∧ w'.cell? ⟨g, pos * 2 + 1, none⟩ = some (i64 (L.getD pos (0, 0)).2)) := fun w' hb hj => by
    rcases (h.rb hb).cases' with ⟨_, hx⟩ | ⟨g, cap', h1, h2, h3, h4⟩
    · subst hx; simp at hn; omega
    · rw [hv] at h1
      simp only [Value.slice.injEq] at h1
      obtain ⟨rfl, -, rfl⟩ := h1
      exact ⟨g, rfl, h4 _ _ (cells2_key L pos (by omega)).2⟩
  subst hv
  obtain ⟨w0, e0⟩ : ∃ w0, w0 = w.alloc (.cells #[.int .u64 qk, i64 x, i64 y] 30) := ⟨_, rfl⟩
  have r0 : Rb w w0 := by rw [e0]; exact (Below.refl _ w).alloc (Nat.le_refl _) _
  have b0 : Blk w0 w.heap.size 30 [.int .u64 qk, i64 x, i64 y] := by rw [e0]; exact Blk.new w _ [.int .u64 qk, i64 x, i64 y]
  have CA := Lib.hid (refat w0 _ L x pos (h.rb r0) (by omega) hp)
  -- what is seen behind draws
  have BOX : Hid (∀ w', Rb w0 w' → w'.cell? ⟨w.heap.size, 0, none⟩ = some (.int .u64 qk) ∧ w'.cell? ⟨w.heap.size, 1, none⟩ = some (i64 x) ∧ w'.cell? ⟨w.heap.size, 2, none⟩ = some (i64 y)) := fun w' hr => ⟨(b0.rb hr).cell 0, (b0.rb hr).cell 1, (b0.rb hr).cell 2⟩
  have TREE : Hid (∀ w', Rb w0 w' → TreeAt w' p L F ∧ PRow w' (.slice ao n cap) L ∧ Rb w w') := fun w' hr => ⟨ht.rb (Rb.trans _ _ _ r0 hr), h.rb (Rb.trans _ _ _ r0 hr), Rb.trans _ _ _ r0 hr⟩
  have FLT : Hid (∀ k, F k → k < w.heap.size) := ht.lt
  have B0 := Lib.hid b0
  have HRI := Lib.hid hri
  have E0 := Lib.hid e0
  have hL3 : n ≤ 30000 := by omega
  have HN := Lib.hid hn
  have hpn : pos ≤ n := by rw [hn]; exact hp.le
  have hfp : foundL x L pos = true → pos < n := fun hf => by
    unfold foundL at hf
    rw [hn]
    exact (of_decide_eq_true hf).1
  unfold DoPost
  have hmod : ((qk : Int) % 6) = ((qk % 6 : Nat) : Int) := by omega
  have hmod2 : ((qk : Int).tmod 6) = ((qk % 6 : Nat) : Int) := (Int.ofNat_tmod qk 6).symm
  obtain ⟨md, hmd⟩ : ∃ md, md = qk % 6 := ⟨_, rfl⟩
  rw [← hmd] at hmod hmod2
  have HMD := Lib.hid hmd
  clear e0 r0 b0 ht h hn hri hp hmd
  by_cases hm : 4 ≤ md
  · cases hf : foundL x L pos
    · skip
      rw [hf] at CA hget
      simp only [Bool.false_eq_true, if_false] at hget
      have HG := Lib.hid hget
      have h4 : ¬ (md : Int) < 4 := by omega
      have h5 : (4 : Int) ≤ (md : Int) := by omega
      have EO : Hid (opL ⟨qk, x, y⟩ L = delL x L) := Lib.hid (by unfold opL; rw [← HMD.out, if_pos hm])
      clear hget hf hfp hm
      go_enter Try.func9, Try.ntmps9
      obtain ⟨d0, d1, d2⟩ := BOX.out w0 (Rb.refl _)
      go_wp2_with (rw [← E0.out]; go_at_call 23; refine CA.out.mono ?_)
      first | (rintro e w1 rfl hd) | (rintro e w1 ⟨rfl, hd⟩)
      have hr1 := hd.rb
      obtain ⟨t1, row1, rw1⟩ := TREE.out w1 hr1
      obtain ⟨c0, c1, c2⟩ := BOX.out w1 hr1
      have CX := Lib.hid (tdel x w1 p L F t1 (by rw [← HN.out]; omega))
      unfold TDel at CX
      rw [HG.out] at CX
      have H1 : Hid (TreeAt w1 p L F ∧ PRow w1 _ L ∧ Rb w w1 ∧ Rb w0 w1) := ⟨t1, row1, rw1, hr1⟩
      simp only [Option.getD_some, Option.isSome_some, Option.getD_none, Option.isSome_none] at CX
      clear t1 row1 rw1 hr1 hd d0 d1 d2 CA
      go_wp2_with (go_at_call 15; refine CX.out.mono ?_)
      first | (rintro e w2 F2 rfl t2 f2 n2) | (rintro e w2 ⟨F2, rfl, t2, f2, n2⟩)
      have bx2 : Blk w2 w.heap.size 30 [.int .u64 qk, i64 x, i64 y] := (B0.out.rb H1.out.2.2.2).same (f2.block _ (B0.out.rb H1.out.2.2.2).lt (fun hF => absurd (FLT.out _ hF) (Nat.lt_irrefl _)))
      have e1 : w2.cell? ⟨w.heap.size, 1, none⟩ = some (i64 x) := bx2.cell 1
      have e2 : w2.cell? ⟨w.heap.size, 2, none⟩ = some (i64 y) := bx2.cell 2
      have row2 := H1.out.2.1.fr H1.out.1 f2
      have CD := Lib.hid (refdel w2 _ L x row2 (by rw [← HN.out]; omega) HRI.out)
      unfold Fresh2 at CD
      have H2 : Hid (TreeAt w2 p _ F2 ∧ Fr F w1 w2 ∧ (∀ k, F2 k → F k ∨ w1.heap.size ≤ k)) := ⟨t2, f2, n2⟩
      clear t2 f2 n2 bx2 row2 CX c0 c1 c2
      go_wp2_with (go_at_call 24; refine CD.out.mono ?_)
      first | (rintro e w3 v3 rfl p3 o3 b3) | (rintro e w3 ⟨v3, rfl, p3, o3, b3⟩)
      have H3 : Hid (PRow w3 v3 _ ∧ (∀ k, v3.ownBlock = some k → _) ∧ Rb w2 w3) := ⟨p3, o3, b3⟩
      clear p3 o3 b3 CD e1 e2
      go_wp2
      go_ret2
      obtain ⟨t2, f2, n2⟩ := H2.out
      obtain ⟨p3, o3, b3⟩ := H3.out
      have hs1 := H1.out.2.2.1.size
      have hs2 := f2.size
      rw [EO.out]
      refine ⟨v3, F2, rfl, t2.rb b3, p3, fun k hk => ?_, ((Fr.of_rb H1.out.2.2.1).trans f2 (fun k hk => .inl hk)).then_rb b3, fun k hk => ?_⟩
      · rcases o3 k hk with h | h
        · exact .inl h
        · exact .inr (by omega)
      · rcases n2 k hk with h | h
        · exact .inl h
        · exact .inr (by omega)
    · skip
      rw [hf] at CA hget
      simp only [if_true] at hget
      have hpl := hfp hf
      have HG := Lib.hid hget
      have h4 : ¬ (md : Int) < 4 := by omega
      have h5 : (4 : Int) ≤ (md : Int) := by omega
      have EO : Hid (opL ⟨qk, x, y⟩ L = delL x L) := Lib.hid (by unfold opL; rw [← HMD.out, if_pos hm])
      clear hget hf hfp hm
      go_enter Try.func9, Try.ntmps9
      obtain ⟨d0, d1, d2⟩ := BOX.out w0 (Rb.refl _)
      go_wp2_with (rw [← E0.out]; go_at_call 23; refine CA.out.mono ?_)
      first | (rintro e w1 rfl hd) | (rintro e w1 ⟨rfl, hd⟩)
      have hr1 := hd.rb
      obtain ⟨t1, row1, rw1⟩ := TREE.out w1 hr1
      obtain ⟨c0, c1, c2⟩ := BOX.out w1 hr1
      obtain ⟨g, rfl, cv⟩ := CELL.out w1 rw1 hpl
      obtain ⟨z, hz⟩ : ∃ z, z = (L.getD pos (0, 0)).2 := ⟨_, rfl⟩
      rw [← hz] at cv HG
      have HZ := Lib.hid hz
      clear hz
      have CX := Lib.hid (tdel x w1 p L F t1 (by rw [← HN.out]; omega))
      unfold TDel at CX
      rw [HG.out] at CX
      have H1 : Hid (TreeAt w1 p L F ∧ PRow w1 _ L ∧ Rb w w1 ∧ Rb w0 w1) := ⟨t1, row1, rw1, hr1⟩
      simp only [Option.getD_some, Option.isSome_some, Option.getD_none, Option.isSome_none] at CX
      clear t1 row1 rw1 hr1 hd d0 d1 d2 CA
      go_wp2_with (go_at_call 15; refine CX.out.mono ?_)
      first | (rintro e w2 F2 rfl t2 f2 n2) | (rintro e w2 ⟨F2, rfl, t2, f2, n2⟩)
      have bx2 : Blk w2 w.heap.size 30 [.int .u64 qk, i64 x, i64 y] := (B0.out.rb H1.out.2.2.2).same (f2.block _ (B0.out.rb H1.out.2.2.2).lt (fun hF => absurd (FLT.out _ hF) (Nat.lt_irrefl _)))
      have e1 : w2.cell? ⟨w.heap.size, 1, none⟩ = some (i64 x) := bx2.cell 1
      have e2 : w2.cell? ⟨w.heap.size, 2, none⟩ = some (i64 y) := bx2.cell 2
      have row2 := H1.out.2.1.fr H1.out.1 f2
      have CD := Lib.hid (refdel w2 _ L x row2 (by rw [← HN.out]; omega) HRI.out)
      unfold Fresh2 at CD
      have H2 : Hid (TreeAt w2 p _ F2 ∧ Fr F w1 w2 ∧ (∀ k, F2 k → F k ∨ w1.heap.size ≤ k)) := ⟨t2, f2, n2⟩
      clear t2 f2 n2 bx2 row2 CX c0 c1 c2
      go_wp2_with (go_at_call 24; refine CD.out.mono ?_)
      first | (rintro e w3 v3 rfl p3 o3 b3) | (rintro e w3 ⟨v3, rfl, p3, o3, b3⟩)
      have H3 : Hid (PRow w3 v3 _ ∧ (∀ k, v3.ownBlock = some k → _) ∧ Rb w2 w3) := ⟨p3, o3, b3⟩
      clear p3 o3 b3 CD e1 e2
      go_wp2
      go_ret2
      obtain ⟨t2, f2, n2⟩ := H2.out
      obtain ⟨p3, o3, b3⟩ := H3.out
      have hs1 := H1.out.2.2.1.size
      have hs2 := f2.size
      rw [EO.out]
      refine ⟨v3, F2, rfl, t2.rb b3, p3, fun k hk => ?_, ((Fr.of_rb H1.out.2.2.1).trans f2 (fun k hk => .inl hk)).then_rb b3, fun k hk => ?_⟩
      · rcases o3 k hk with h | h
        · exact .inl h
        · exact .inr (by omega)
      · rcases n2 k hk with h | h
        · exact .inl h
        · exact .inr (by omega)
  · cases hf : foundL x L pos
    · skip
      rw [hf] at CA hget
      simp only [Bool.false_eq_true, if_false] at hget
      have HG := Lib.hid hget
      have h5 : ¬ (4 : Int) ≤ (md : Int) := by omega
      have EO : Hid (opL ⟨qk, x, y⟩ L = putL x y L) := Lib.hid (by unfold opL; rw [← HMD.out, if_neg hm])
      clear hget hf hfp hm
      go_enter Try.func9, Try.ntmps9
      obtain ⟨d0, d1, d2⟩ := BOX.out w0 (Rb.refl _)
      go_wp2_with (rw [← E0.out]; go_at_call 23; refine CA.out.mono ?_)
      first | (rintro e w1 rfl hd) | (rintro e w1 ⟨rfl, hd⟩)
      have hr1 := hd.rb
      obtain ⟨t1, row1, rw1⟩ := TREE.out w1 hr1
      obtain ⟨c0, c1, c2⟩ := BOX.out w1 hr1
      have CX := Lib.hid (tput x y w1 p L F t1 (by rw [← HN.out]; omega))
      unfold TPut at CX
      rw [HG.out] at CX
      have H1 : Hid (TreeAt w1 p L F ∧ PRow w1 _ L ∧ Rb w w1 ∧ Rb w0 w1) := ⟨t1, row1, rw1, hr1⟩
      simp only [Option.getD_some, Option.isSome_some, Option.getD_none, Option.isSome_none] at CX
      clear t1 row1 rw1 hr1 hd d0 d1 d2 CA
      go_wp2_with (go_at_call 16; refine CX.out.mono ?_)
      first | (rintro e w2 F2 rfl t2 f2 n2) | (rintro e w2 ⟨F2, rfl, t2, f2, n2⟩)
      have bx2 : Blk w2 w.heap.size 30 [.int .u64 qk, i64 x, i64 y] := (B0.out.rb H1.out.2.2.2).same (f2.block _ (B0.out.rb H1.out.2.2.2).lt (fun hF => absurd (FLT.out _ hF) (Nat.lt_irrefl _)))
      have e1 : w2.cell? ⟨w.heap.size, 1, none⟩ = some (i64 x) := bx2.cell 1
      have e2 : w2.cell? ⟨w.heap.size, 2, none⟩ = some (i64 y) := bx2.cell 2
      have row2 := H1.out.2.1.fr H1.out.1 f2
      have CD := Lib.hid (refput w2 _ L x y row2 (by rw [← HN.out]; omega))
      unfold Fresh at CD
      have H2 : Hid (TreeAt w2 p _ F2 ∧ Fr F w1 w2 ∧ (∀ k, F2 k → F k ∨ w1.heap.size ≤ k)) := ⟨t2, f2, n2⟩
      clear t2 f2 n2 bx2 row2 CX c0 c1 c2
      go_wp2_with (go_at_call 25; refine CD.out.mono ?_)
      first | (rintro e w3 v3 rfl p3 o3 b3) | (rintro e w3 ⟨v3, rfl, p3, o3, b3⟩)
      have H3 : Hid (PRow w3 v3 _ ∧ (∀ k, v3.ownBlock = some k → _) ∧ Rb w2 w3) := ⟨p3, o3, b3⟩
      clear p3 o3 b3 CD e1 e2
      go_wp2
      go_ret2
      obtain ⟨t2, f2, n2⟩ := H2.out
      obtain ⟨p3, o3, b3⟩ := H3.out
      have hs1 := H1.out.2.2.1.size
      have hs2 := f2.size
      rw [EO.out]
      refine ⟨v3, F2, rfl, t2.rb b3, p3, fun k hk => ?_, ((Fr.of_rb H1.out.2.2.1).trans f2 (fun k hk => .inl hk)).then_rb b3, fun k hk => ?_⟩
      · exact .inr (by have := o3 k hk; omega)
      · rcases n2 k hk with h | h
        · exact .inl h
        · exact .inr (by omega)
    · skip
      rw [hf] at CA hget
      simp only [if_true] at hget
      have hpl := hfp hf
      have HG := Lib.hid hget
      have h5 : ¬ (4 : Int) ≤ (md : Int) := by omega
      have EO : Hid (opL ⟨qk, x, y⟩ L = putL x y L) := Lib.hid (by unfold opL; rw [← HMD.out, if_neg hm])
      clear hget hf hfp hm
      go_enter Try.func9, Try.ntmps9
      obtain ⟨d0, d1, d2⟩ := BOX.out w0 (Rb.refl _)
      go_wp2_with (rw [← E0.out]; go_at_call 23; refine CA.out.mono ?_)
      first | (rintro e w1 rfl hd) | (rintro e w1 ⟨rfl, hd⟩)
      have hr1 := hd.rb
      obtain ⟨t1, row1, rw1⟩ := TREE.out w1 hr1
      obtain ⟨c0, c1, c2⟩ := BOX.out w1 hr1
      obtain ⟨g, rfl, cv⟩ := CELL.out w1 rw1 hpl
      obtain ⟨z, hz⟩ : ∃ z, z = (L.getD pos (0, 0)).2 := ⟨_, rfl⟩
      rw [← hz] at cv HG
      have HZ := Lib.hid hz
      clear hz
      have CX := Lib.hid (tput x y w1 p L F t1 (by rw [← HN.out]; omega))
      unfold TPut at CX
      rw [HG.out] at CX
      have H1 : Hid (TreeAt w1 p L F ∧ PRow w1 _ L ∧ Rb w w1 ∧ Rb w0 w1) := ⟨t1, row1, rw1, hr1⟩
      simp only [Option.getD_some, Option.isSome_some, Option.getD_none, Option.isSome_none] at CX
      clear t1 row1 rw1 hr1 hd d0 d1 d2 CA
      go_wp2_with (go_at_call 16; refine CX.out.mono ?_)
      first | (rintro e w2 F2 rfl t2 f2 n2) | (rintro e w2 ⟨F2, rfl, t2, f2, n2⟩)
      have bx2 : Blk w2 w.heap.size 30 [.int .u64 qk, i64 x, i64 y] := (B0.out.rb H1.out.2.2.2).same (f2.block _ (B0.out.rb H1.out.2.2.2).lt (fun hF => absurd (FLT.out _ hF) (Nat.lt_irrefl _)))
      have e1 : w2.cell? ⟨w.heap.size, 1, none⟩ = some (i64 x) := bx2.cell 1
      have e2 : w2.cell? ⟨w.heap.size, 2, none⟩ = some (i64 y) := bx2.cell 2
      have row2 := H1.out.2.1.fr H1.out.1 f2
      have CD := Lib.hid (refput w2 _ L x y row2 (by rw [← HN.out]; omega))
      unfold Fresh at CD
      have H2 : Hid (TreeAt w2 p _ F2 ∧ Fr F w1 w2 ∧ (∀ k, F2 k → F k ∨ w1.heap.size ≤ k)) := ⟨t2, f2, n2⟩
      clear t2 f2 n2 bx2 row2 CX c0 c1 c2
      go_wp2_with (go_at_call 25; refine CD.out.mono ?_)
      first | (rintro e w3 v3 rfl p3 o3 b3) | (rintro e w3 ⟨v3, rfl, p3, o3, b3⟩)
      have H3 : Hid (PRow w3 v3 _ ∧ (∀ k, v3.ownBlock = some k → _) ∧ Rb w2 w3) := ⟨p3, o3, b3⟩
      clear p3 o3 b3 CD e1 e2
      go_wp2
      go_ret2
      obtain ⟨t2, f2, n2⟩ := H2.out
      obtain ⟨p3, o3, b3⟩ := H3.out
      have hs1 := H1.out.2.2.1.size
      have hs2 := f2.size
      rw [EO.out]
      refine ⟨v3, F2, rfl, t2.rb b3, p3, fun k hk => ?_, ((Fr.of_rb H1.out.2.2.1).trans f2 (fun k hk => .inl hk)).then_rb b3, fun k hk => ?_⟩
      · exact .inr (by have := o3 k hk; omega)
      · rcases n2 k hk with h | h
        · exact .inl h
        · exact .inr (by omega)
end Go.Proofs.Ytjdlicphmflnkaa.L5
