/-
  Layer 3: Append, Write, Clone.
-/
import Derived.Test.YtbdgdmieggpmhaaK5
import Derived.ArgAppend
import Derived.Laws.AppendOwnNone
namespace Go.Proofs.Ytbdgdmieggpmhaa.L3
open Go.ChangeShapes Go.WideShapes Go.ChangeAt Go.RowKit By Reg
set_option linter.unusedVariables false

section
variable {P : Program} {w : World} {ops : Array Oper} {rest : List Oper} {o : Oper} {a : Act} {Q : Exit → Act → World → Prop}
/-- append to a row of the call's own, and where the row lies then -/
theorem run_append_where (t ty e : TypeId) (i : TypeInfo) (ht : P.underlying t = some (.slice e)) (hi : P.info? e = some i) (hz : i.zero = some (.int .u8 0)) (hsize : i.size = 1) (hby : i.bytes = 1)
    (v : Value) (n : Nat) (xs : List Value) (hown : w.ownsRow 0 e 1 v n xs) (ad : Addr) (m c : Nat) (news : List Value) (hl : news.length = m) (hnews : ∀ j u, news[j]? = some u → w.cell? (ad.add j) = some u) (h1 : ∀ u ∈ news, u.oneCell' = true)
    (h63 : n + m ≤ 100000000) :
    ∃ v' w', (Builtin.append_ #[t, t] ty #[v, .slice (some ad) m c]).run P w = .ok v' w' ∧ w'.ownsRow 0 e 1 v' (n + m) (xs ++ news) ∧ w.grownBy w' v.ownBlock ∧ (∀ k, v'.ownBlock = some k → v.ownBlock = some k ∨ w.heap.size ≤ k) := by
  have hm : n + m ≤ maxLen := by unfold maxLen; omega
  obtain ⟨v', w', hr, h2, h3, h4⟩ := run_append_own (P := P) w 0 t ty e i (.int .u8 0) 1 1 ht hi hz hsize hby rfl (by decide) v n xs hown ad m c news (by omega) hnews h1 hm (by omega) (Nat.zero_le _)
  refine ⟨v', w', hr, h2, h3, ?_⟩
  rcases hown.2 with ⟨rfl, rfl⟩ | ⟨g, cap, cur, rfl, hbg, hg, hnc, hcm, hcs, htake⟩
  · have hx : xs = [] := List.eq_nil_of_length_eq_zero (by simpa using hown.1)
    subst hx
    obtain ⟨v2, w2, hr2, k2, _, _⟩ := run_append_own (P := P) w w.heap.size t ty e i (.int .u8 0) 1 1 ht hi hz hsize hby rfl (by decide) _ _ _ (World.ownsRow_nil w _ e 1) ad m c news (by omega) hnews h1 hm (by omega) (Nat.le_refl _)
    rw [hr] at hr2
    cases hr2
    intro k hk
    exact .inr (k2.lt k hk).1
  · by_cases hroom : n + m ≤ cap
    · have hr2 := run_append_room (P := P) w t ty e i ht hi g n cap cur hg ad m c news (by rw [hsize]; omega) hnews h1 hroom (by rw [hsize, hcs, hl]; omega)
      rw [hr] at hr2
      cases hr2
      intro k hk
      exact .inl hk
    · have holds : ∀ j u, xs[j]? = some u → w.cell? ((⟨g, 0, none⟩ : Addr).add j) = some u := hown.cells (g := g) rfl
      obtain ⟨v2, w2, hr2, k2, _⟩ := run_append_arg_grows (P := P) w t ty e i (.int .u8 0) 1 1 ht hi hz hsize hby rfl (by decide) ⟨g, 0, none⟩ n cap xs hown.1 holds ad m c news (by omega) hnews (by omega) hm (by omega)
      rw [hr] at hr2
      cases hr2
      intro k hk
      exact .inr (k2.lt k hk).1

theorem wpList_append_log (hg : o.guard = none) (s x : Operand) (t : TypeId) (hop : o.op = Op.call { callee := Callee.builtin Builtin.append, args := #[s, x], argTypes := #[t, t] })
    (e : TypeId) (i : TypeInfo) (ht : P.underlying t = some (.slice e)) (hi : P.info? e = some i) (hz : i.zero = some (.int .u8 0)) (hsize : i.size = 1) (hby : i.bytes = 1)
    (v : Value) (n : Nat) (xs : List Value) (hs : a.eval s = v) (hown : w.ownsRow 0 e 1 v n xs) (v2 : Value) (ys : List UInt8) (hx : a.eval x = v2) (hb : Bs w v2 ys) (hl : n + ys.length ≤ 100000000)
    (hK : ∀ v' w', w'.ownsRow 0 e 1 v' (n + ys.length) (xs ++ ys.map c8) → w.grownBy w' v.ownBlock → (∀ k, v'.ownBlock = some k → v.ownBlock = some k ∨ w.heap.size ≤ k) → wpList P ops Q rest (a.put o.dst v') w') :
    wpList P ops Q (o :: rest) a w := by
  obtain ⟨ao, cap, rfl, e2, e3, e4, e5⟩ := hb
  cases ao with
  | some ad =>
    obtain ⟨v', w', hr, h2, h3, h4⟩ := run_append_where (P := P) t o.type e i ht hi hz hsize hby v n xs hown ad ys.length cap (ys.map c8) (by simp) (e5 ad rfl) c8_one hl
    refine wpList_plain hg fun _ hK' => ?_
    unfold Oper.wp execOp
    simp only [hop, resolve, invoke, builtin, Sem.run_bind, Sem.run_pure, Result.andThen_ok, List.map_toArray, List.map_cons, List.map_nil, hs, hx, hr]
    exact hK' _ _ (hK v' w' h2 h3 h4)
  | none =>
    have hc := e4 rfl
    have h0 : ys.length = 0 := by omega
    have hy : ys = [] := List.eq_nil_of_length_eq_zero h0
    subst hy
    subst hc
    exact wpList_append_own_none hg s x t hop 0 e i 1 ht hi v n xs hs hown hx (hK v w (by simpa using hown) ⟨rfl, rfl, rfl, Nat.le_refl _, fun _ _ _ => rfl⟩ (fun k hk => .inl hk))
end

theorem append_log (D : Dk) (b : List UInt8) : (D.append b).log = D.log ++ b := by simp [Dk.append, Dk.log]

theorem append_full (m : Mem) (D : Dk) (w : World) (vb : Value) (b : List UInt8) (h : HeldK w m D) (hb : Bs w vb b) (hf : D.room < D.log.length + b.length) :
    Calls Try.prog 43 #[.pointer (some ⟨m.b, 0, none⟩), vb] w fun e w' => e = .returned (.int .i64 4) ∧ Rb w w' := by
  obtain ⟨ao, cap, rfl, h2, h3⟩ := hb.len
  have C := Lib.hid (room_any m D w h)
  obtain ⟨q1, q2, -⟩ := h.ok
  generalize D.log.length = n at *
  generalize D.room = r at *
  have f1 : (b.length : Int) > (r : Int) - (n : Int) := by omega
  clear h hb
  go_enter Try.func43, Try.ntmps43
  go_wp2_with fail
  refine C.out.mono ?_
  rintro e w' ⟨rfl, hr⟩
  have HR := Lib.hid hr
  clear hr
  go_wp2
  go_ret
  exact ⟨rfl, HR.out⟩

set_option maxRecDepth 100000 in
theorem append_fits (m : Mem) (D : Dk) (w : World) (vb : Value) (b : List UInt8) (h : HeldK w m D) (hb : Bs w vb b) (hf : D.log.length + b.length ≤ D.room) :
    Calls Try.prog 43 #[.pointer (some ⟨m.b, 0, none⟩), vb] w fun e w' => e = .returned (.int .i64 0) ∧ Turned w m (D.append b) w' := by
  have C := Lib.hid (room_any m D w h)
  obtain ⟨q1, q2, -⟩ := h.ok
  have H := Lib.hid h
  have HB := Lib.hid hb
  obtain ⟨ao, cap, rfl, h2, h3⟩ := hb.len
  obtain ⟨i0, hi0, hz0, hz1, hz2⟩ := info_parts info8
  have Hi := Lib.hid hi0
  have Hz := Lib.hid hz0
  have Hz1 := Lib.hid hz1
  have Hz2 := Lib.hid hz2
  clear hi0 hz0 hz1 hz2
  obtain ⟨n, hn⟩ : ∃ n, n = D.log.length := ⟨_, rfl⟩
  rw [← hn] at C q1 hf
  have f1 : ¬ (b.length : Int) > (D.room : Int) - (n : Int) := by omega
  have Hn := Lib.hid hn
  clear h hb hn
  go_enter Try.func43, Try.ntmps43
  go_wp2_with fail
  refine C.out.mono ?_
  rintro e w1 ⟨rfl, hr⟩
  have h1 := H.out.rb hr
  have z1 := h1.blk.cells7.e1
  have Ho := Lib.hid h1.own
  have HB1 := Lib.hid (HB.out.below hr)
  have H1 := Lib.hid h1
  have HR := Lib.hid hr
  clear hr h1 f1
  go_wp2_with (refine wpList_append_log rfl _ _ 23 rfl 5 i0 Try.underlying23 Hi.out Hz.out Hz1.out Hz2.out _ _ _ rfl Ho.out _ b rfl HB1.out ?_ ?_)
  · rw [← Hn.out]; omega
  intro lv w2 ho hg hwh
  have hk2 : Blk w2 m.b 93 [.int .i64 D.room, m.lv, .int .i64 D.sure.length, m.v0, m.v1, m.u0, m.u1] := H1.out.blk.same (hg.block _ H1.out.blk.lt fun e => H1.out.ne e.symm)
  have HK2 := Lib.hid hk2
  have HO := Lib.hid ho
  have HG := Lib.hid hg
  have HW := Lib.hid hwh
  have h1c : ∀ v ∈ [lv], v.oneCell' = true := by
    intro v hv
    simp at hv; subst hv
    rcases ho.2 with ⟨rfl, _⟩ | ⟨_, _, _, rfl, _⟩ <;> rfl
  have hlc : lv.cells = #[lv] := by rcases ho.2 with ⟨rfl, _⟩ | ⟨_, _, _, rfl, _⟩ <;> rfl
  have H1C := Lib.hid h1c
  have HLC := Lib.hid hlc
  clear hk2 ho hg hwh h1c hlc z1
  go_wp2_with (refine wpList_store rfl 23 _ _ rfl m.b 1 93 _ [lv] _ rfl rfl HK2.out HLC.out sizebytes (by simp) H1C.out ?_)
  intro w3 hb3 hw3
  go_wp2
  go_ret
  refine ⟨rfl, ⟨m.b, lv, m.v0, m.v1, m.u0, m.u1⟩, ?_, ⟨rfl, fun k hk => ?_⟩, ?_, fun k hk => ?_⟩
  · have h1 := H1.out
    have hne : ∀ k, lv.ownBlock = some k → k ≠ m.b := fun k hk e => by
      subst e
      rcases HW.out _ hk with h | h
      · exact h1.ne h
      · have := h1.blk.lt; omega
    have hmv : ∀ v, VOff m v → (∀ k, v.ownBlock = some k → k < w1.heap.size) → VOff ⟨m.b, lv, m.v0, m.v1, m.u0, m.u1⟩ v := fun v hv hl k hk ht => by
      rcases ht with rfl | ht
      · exact hv _ hk (.inl rfl)
      · rcases HW.out _ ht with h | h
        · exact hv k hk (.inr h)
        · have := hl k hk; omega
    have hsm : ∀ v, VOff m v → (∀ k, v.ownBlock = some k → k < w1.heap.size) → ∀ k, v.ownBlock = some k → w3.heap[k]? = w1.heap[k]? := fun v hv hl k hk => by
      rw [hw3.block k (fun e => hv k hk (.inl e)), HG.out.block k (hl k hk) (fun e => hv k hk (.inr e.symm))]
    obtain ⟨l0, l1, l2, l3⟩ := h1.lts
    refine ⟨hb3, ?_, fun e => hne _ e rfl, Bs.same h1.b0 (hsm _ h1.o0 l0), Bs.same h1.b1 (hsm _ h1.o1 l1), Bs.same h1.c0 (hsm _ h1.q0 l2), Bs.same h1.c1 (hsm _ h1.q1 l3), hmv _ h1.o0 l0, hmv _ h1.o1 l1, hmv _ h1.q0 l2, hmv _ h1.q1 l3, ?_, Dk.append_ok h1.ok (by rw [← Hn.out]; exact hf)⟩
    · rw [append_log, List.map_append, List.length_append]
      exact owns_same HO.out fun k hk => hw3.block k (hne k hk)
    · intro k hk
      have hs3 := hw3.size
      have hs2 := HG.out.size
      rcases hk with (rfl | hk) | hk
      · have := h1.blk.lt; show m.b < _; omega
      · have := (HO.out.lt k hk).2; omega
      · have := four l0 l1 l2 l3 k hk; omega
  · rcases HW.out k hk with h | h
    · exact .inl h
    · have := HR.out.size; exact .inr (by omega)
  · refine ⟨hw3.os.trans (HG.out.os.trans HR.out.os), hw3.tape.trans (HG.out.tape.trans HR.out.tape), hw3.output.trans (HG.out.output.trans HR.out.output), ?_, fun k hk ht => ?_⟩
    · have := HR.out.size; have := HG.out.size; have := hw3.size; omega
    · have hs := HR.out.size
      rw [hw3.block k (fun e => ht (.inl e)), HG.out.block k (by omega) (fun e => ht (.inr e.symm)), HR.out.block k hk]
  · rcases hk with (hk | hk) | hk
    · exact .inl (.inl (.inl hk))
    · rcases HW.out k hk with h | h
      · exact .inl (.inl (.inr h))
      · have := HR.out.size; exact .inr (by omega)
    · exact .inl (.inr hk)
end Go.Proofs.Ytbdgdmieggpmhaa.L3
