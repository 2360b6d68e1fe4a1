/-
  Layer 5: split: a part and a new one behind it, in their parent.
-/
import Derived.Test.YtjdlicphmflnkaaT11
namespace Go.Proofs.Ytjdlicphmflnkaa.L5
open Go.ChangeShapes Go.WideShapes Go.ChangeAt Go.RowKit By Reg
set_option linter.unusedVariables false

theorem Nx.off {w w' : World} {N N' X : Nd} (x : Nx w N w' N') (hX : NodeAt w X) (o : ∀ k, N.has k → ¬ X.has k) : NodeAt w' X ∧ ∀ k, N'.has k → ¬ X.has k := by
  refine ⟨hX.fr x.fr (fun k hk hk' => o k hk' hk), fun k hk hk' => ?_⟩
  rcases x.has k hk with h | h
  · exact o k h hk'
  · have := hX.lt k hk'; omega

structure Spl (w : World) (N C : Nd) (w' : World) (N' C' M : Nd) : Prop where
  na : NodeAt w' N'
  ca : NodeAt w' C'
  ma : NodeAt w' M
  nb : N'.b = N.b
  cb : C'.b = C.b
  nh : ∀ k, N'.has k → N.has k ∨ w.heap.size ≤ k
  ch : ∀ k, C'.has k → C.has k
  mh : ∀ k, M.has k → w.heap.size ≤ k
  oC : ∀ k, N'.has k → ¬ C'.has k
  oM : ∀ k, N'.has k → ¬ M.has k
  fr : Fr (fun k => N.has k ∨ C.has k) w w'

set_option maxHeartbeats 2000000 in
set_option maxRecDepth 100000 in
theorem split_node (w : World) (N C : Nd) (at_ : Nat) (R : Nd → Nd → Int → Prop) (hn : NodeAt w N) (hc : NodeAt w C) (o : ∀ k, N.has k → ¬ C.has k)
    (hat : N.ps[at_]? = some C.b) (hl : N.ps.length = N.ks.length + 1) (hb : N.ps.length ≤ 100)
    (hh : Calls Try.prog 45 #[ptrv C.b] w fun e w' => ∃ C' M key, e = .returned (.tuple #[i64 key, ptrv M.b]) ∧ Two w C w' C' M ∧ R C' M key) :
    Calls Try.prog 33 #[ptrv N.b, i64 at_] w fun e w' => (∃ v, e = .returned v) ∧ ∃ kv pv C' M key, Spl w N C w' { N with kv := kv, pv := pv, ks := N.ks.take at_ ++ key :: N.ks.drop at_, ps := N.ps.take (at_ + 1) ++ M.b :: N.ps.drop (at_ + 1) } C' M ∧ R C' M key := by
  have hjl := (List.getElem?_eq_some_iff.1 hat)
  obtain ⟨g, cap, h1, h2, h3, h4⟩ := hn.rp.at_ (j := at_) (by rw [List.length_map]; exact hjl.1)
  rw [List.length_map] at h1 h2
  rw [List.getElem_map, hjl.2] at h4
  have c2 := hn.c2
  rw [h1] at c2
  have HP := Lib.hid h1
  have HN := Lib.hid hn
  have HC := Lib.hid hc
  have HO := Lib.hid o
  have HH := Lib.hid hh
  obtain ⟨ao2, cap2, hk, _, _⟩ := hn.kform
  have HK := Lib.hid hk
  obtain ⟨n, hnn⟩ : ∃ n, n = N.ps.length := ⟨_, rfl⟩
  have hlt := hjl.1
  rw [← hnn] at c2 h2 hlt HP
  have hw1 : IntKind.i64.wrap ((at_ : Int) + 1) = (at_ : Int) + 1 := by rw [IntKind.wrap_i64]; omega
  have I1 : ∀ w1 (y : Int), Row w1 2 N.kv (N.ks.map i64) → Hid (Calls Try.prog 46 #[N.kv, i64 at_, .slice (some ⟨w1.heap.size, 0, none⟩) 1 1] (w1.alloc (.cells #[i64 y] 2)) fun e w' => ∃ kv', e = .returned kv' ∧ Re (w1.alloc (.cells #[i64 y] 2)) 2 N.kv ((N.ks.take at_ ++ y :: N.ks.drop at_).map i64) kv' w') := fun w1 y hr => by
    have hn := hr.rb (w' := w1.alloc (.cells #[i64 y] 2)) ((Below.refl _ w1).alloc (Nat.le_refl _) _)
    have hb : Blk (w1.alloc (.cells #[i64 y] 2)) w1.heap.size 2 [i64 y] := Blk.new w1 _ [i64 y]
    have := insert_any_K _ N.kv at_ w1.heap.size (N.ks.map i64) (i64 y) hn hb (fun e => by have := hr.lt _ e; omega) (by rw [List.length_map]; omega) (by rw [List.length_map]; omega) i64_one rfl
    simpa [List.map_append, List.map_take, List.map_drop] using Lib.hid this
  have I2 : ∀ w1 (y : Nat), Row w1 24 N.pv (N.ps.map ptrv) → Hid (Calls Try.prog 47 #[N.pv, i64 ((at_ : Int) + 1), .slice (some ⟨w1.heap.size, 0, none⟩) 1 1] (w1.alloc (.cells #[ptrv y] 24)) fun e w' => ∃ pv', e = .returned pv' ∧ Re (w1.alloc (.cells #[ptrv y] 24)) 24 N.pv ((N.ps.take (at_ + 1) ++ y :: N.ps.drop (at_ + 1)).map ptrv) pv' w') := fun w1 y hr => by
    have hn := hr.rb (w' := w1.alloc (.cells #[ptrv y] 24)) ((Below.refl _ w1).alloc (Nat.le_refl _) _)
    have hb : Blk (w1.alloc (.cells #[ptrv y] 24)) w1.heap.size 24 [ptrv y] := Blk.new w1 _ [ptrv y]
    have := insert_any_Q _ N.pv (at_ + 1) w1.heap.size (N.ps.map ptrv) (ptrv y) hn hb (fun e => by have := hr.lt _ e; omega) (by rw [List.length_map]; omega) (by rw [List.length_map]; omega) ptr_one rfl
    simpa [List.map_append, List.map_take, List.map_drop] using Lib.hid this
  have hab : at_ ≤ 100 := by omega
  clear h1 h3 hn hc o hh hk hnn hjl hat hl hb
  go_enter Try.func33, Try.ntmps33
  go_wp2_with (go_at_call 45; refine HH.out.mono ?_)
  first | (rintro e w1 C' M key rfl t r) | (rintro e w1 ⟨C', M, key, rfl, t, r⟩)
  have n1 : NodeAt w1 N := HN.out.fr t.fr (fun k hk hk' => HO.out k hk hk')
  have oC : ∀ k, N.has k → ¬ C'.has k := fun k hk hk' => HO.out k hk (t.nh k hk')
  have oM : ∀ k, N.has k → ¬ M.has k := fun k hk hk' => by have a := t.mh k hk'; have b := HN.out.lt k hk; omega
  have d0 := n1.c0
  have d2 := n1.c2
  have J1 := I1 w1 key n1.rk
  rw [HK.out] at d0 J1
  have T := Lib.hid t
  have RR := Lib.hid r
  have N1 := Lib.hid n1
  have OC := Lib.hid oC
  have OM := Lib.hid oM
  clear t r n1 oC oM I1 c2 h4 d2
  go_wp2_with (go_at_call 46; refine J1.out.mono ?_)
  first | (rintro e w2 kv' rfl hr1) | (rintro e w2 ⟨kv', rfl, hr1⟩)
  have A1 : Rb w1 (w1.alloc (.cells #[i64 key] 2)) := (Below.refl _ w1).alloc (Nat.le_refl _) _
  have hn1 := N1.out.rb A1
  have hb2 : Blk w2 N.b 70 [N.kv, N.vv, N.pv] := hn1.blk.same (hr1.fr.block _ hn1.blk.lt (fun e => hn1.kb (by rw [HK.out]; exact e)))
  have HB2 := Lib.hid hb2
  have ho := Lib.hid hr1.row.one
  have R1 := Lib.hid hr1
  have HN1 := Lib.hid hn1
  clear hr1 hb2 hn1 J1 d0 A1
  go_wp2_with (refine wpList_store rfl 36 _ _ rfl N.b 0 70 _ [kv'] _ rfl rfl HB2.out ho.out.2 size36 (by simp) (one1 ho.out.1) ?_)
  intro w3 hb3 hw3
  have A1 : Rb w1 (w1.alloc (.cells #[i64 key] 2)) := (Below.refl _ w1).alloc (Nat.le_refl _) _
  have X1 : Nx w1 N w3 { N with kv := kv', ks := N.ks.take at_ ++ key :: N.ks.drop at_ } := Nx.rb A1 (Nx.keys HN1.out (by rw [HK.out]; exact R1.out) hb3 hw3)
  have J2 := I2 w3 M.b X1.at_.rp
  have d3 := X1.at_.c2
  dsimp only at d3
  rw [HP.out] at d3 J2
  have HX1 := Lib.hid X1
  clear hb3 hw3 X1 A1 I2
  go_wp2_with (go_at_call 47; refine J2.out.mono ?_)
  first | (rintro e w4 pv' rfl hr2) | (rintro e w4 ⟨pv', rfl, hr2⟩)
  have A3 : Rb w3 (w3.alloc (.cells #[ptrv M.b] 24)) := (Below.refl _ w3).alloc (Nat.le_refl _) _
  have hn3 := HX1.out.at_.rb A3
  have hb4 : Blk w4 N.b 70 [kv', N.vv, N.pv] := hn3.blk.same (hr2.fr.block _ hn3.blk.lt (fun e => hn3.pb (by dsimp only; rw [HP.out]; exact e)))
  have HB4 := Lib.hid hb4
  have ho2 := Lib.hid hr2.row.one
  have R2 := Lib.hid hr2
  have HN3 := Lib.hid hn3
  clear hr2 hb4 hn3 J2 d3 A3
  go_wp2_with (refine wpList_store rfl 68 _ _ rfl N.b 2 70 _ [pv'] _ rfl rfl HB4.out ho2.out.2 size68 (by simp) (one1 ho2.out.1) ?_)
  intro w5 hb5 hw5
  have A3 : Rb w3 (w3.alloc (.cells #[ptrv M.b] 24)) := (Below.refl _ w3).alloc (Nat.le_refl _) _
  have X2 := Nx.rb A3 (Nx.parts HN3.out (ps' := N.ps.take (at_ + 1) ++ M.b :: N.ps.drop (at_ + 1)) (by dsimp only; rw [HP.out]; exact R2.out) hb5 hw5)
  have X := HX1.out.trans X2
  have HX := Lib.hid X
  clear hb5 hw5 X2 X A3
  go_wp2
  go_end0
  have x := HX.out
  have t := T.out
  obtain ⟨cN, cO⟩ := x.off t.na OC.out
  obtain ⟨mN, mO⟩ := x.off t.ma OM.out
  refine ⟨⟨_, rfl⟩, _, _, C', M, key, ⟨x.at_, cN, mN, x.b, t.nb, fun k hk => ?_, t.nh, t.mh, cO, mO, ?_⟩, RR.out⟩
  · rcases x.has k hk with h | h
    · exact .inl h
    · have := t.fr.size; exact .inr (by omega)
  · exact (t.fr.mono (fun k hk _ => .inr hk)).trans x.fr (fun k hk => .inl (.inl hk))
end Go.Proofs.Ytjdlicphmflnkaa.L5
