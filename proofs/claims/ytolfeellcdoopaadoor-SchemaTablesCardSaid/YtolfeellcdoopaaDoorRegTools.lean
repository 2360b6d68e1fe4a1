/-
  Small laws for showing one operation of a region alone (see Region): moves, conversions, binary operators, calls; the relation 'Below' between worlds.
-/
import Derived.Test.YtolfeellcdoopaaDoorRegion
import Derived.Test.YtolfeellcdoopaaDoorBytes
import Derived.WalkLawsBesides
import Derived.Lib.Strings
import Derived.IntWalk
import Derived.Laws.Slices
namespace Go.Proofs.YtolfeellcdoopaaDoor.Reg
open Go Go.RowKit By

/-- worlds that keep all that was there -/
def Rb (w w' : World) : Prop := Below w.heap.size w w'
theorem Rb.refl (w : World) : Rb w w := Below.refl _ _
theorem Rb.trans (a b c : World) (h : Rb a b) (k : Rb b c) : Rb a c := Below.trans h (Below.mono k h.size)
theorem Rb.drew (w : World) : Rb w w.drew := (Below.refl _ w).drew

def bsSpec (xs : List UInt8) : Spec Rb := ⟨fun w v => Bs w v xs, fun _ _ _ h k => Bs.below h k⟩
def strV (xs : List UInt8) : Value := .string (str xs)

section
variable {P : Program} {ops : Array Oper} {o : Oper} {a : Act} {w : World} {T : World → Value → Prop}

theorem wanted_none (hg : o.guard = none) : Region.wanted o (yielded ops a.tmps) = true := by simp [Region.wanted, hg]

theorem yielded_of {j d : Nat} {b : Bool} (hd : dstOf ops j = some d) (he : a.eval (.tmp d) = .bool b) : yielded ops a.tmps j = some b := by
  unfold yielded
  have hd' : (ops[j]?).bind (·.dst) = some d := hd
  rw [hd']
  simp only [Option.bind_some]
  simp only [Act.eval, Array.getD_eq_getD_getElem?] at he
  cases h : a.tmps[d]? with
  | none => rw [h] at he; cases he
  | some v => rw [h] at he; simp only [Option.getD_some] at he; subst he; rfl

theorem wanted_true {j d : Nat} {b : Bool} (hg : o.guard = some (j, b)) (hd : dstOf ops j = some d) (he : a.eval (.tmp d) = .bool b) : Region.wanted o (yielded ops a.tmps) = true := by
  simp [Region.wanted, hg, yielded_of hd he]
theorem wanted_false {j d : Nat} {b : Bool} (hg : o.guard = some (j, b)) (hd : dstOf ops j = some d) (he : a.eval (.tmp d) = .bool (!b)) : Region.wanted o (yielded ops a.tmps) = false := by
  simp [Region.wanted, hg, yielded_of hd he]

theorem wanted_undef {j d : Nat} {b : Bool} (hg : o.guard = some (j, b)) (hd : dstOf ops j = some d) (he : a.eval (.tmp d) = undef) : Region.wanted o (yielded ops a.tmps) = false := by
  have hy : yielded ops a.tmps j = none := by
    unfold yielded
    have hd' : (ops[j]?).bind (·.dst) = some d := hd
    rw [hd']
    simp only [Option.bind_some]
    simp only [Act.eval, Array.getD_eq_getD_getElem?] at he
    cases h : a.tmps[d]? with
    | none => rfl
    | some v => rw [h] at he; simp only [Option.getD_some] at he; subst he; rfl
  simp [Region.wanted, hg, hy]
theorem ok_skip (hw : Region.wanted o (yielded ops a.tmps) = false) (h : T w undef) : okAt P ops o a w T := by
  unfold okAt; rw [if_neg (by rw [hw]; exact Bool.false_ne_true)]; exact h
theorem ok_value {v : Value} {w' : World} (hw : Region.wanted o (yielded ops a.tmps) = true) (hr : (execOp a.eval o).run P w = .ok (.value v) w') (h : T w' v) : okAt P ops o a w T := by
  unfold okAt yieldsTo; rw [if_pos hw, hr]; exact h
theorem ok_move (x : Operand) (ho : o.op = .move x) (hw : Region.wanted o (yielded ops a.tmps) = true) (h : T w (a.eval x)) : okAt P ops o a w T :=
  ok_value hw (by simp [execOp, ho]) h
theorem ok_assign (x : Operand) (ho : o.op = .assign x) (hw : Region.wanted o (yielded ops a.tmps) = true) (h : T w (a.eval x)) : okAt P ops o a w T :=
  ok_value hw (by simp [execOp, ho]) h
theorem ok_pick (c x y : Operand) (b : Bool) (ho : o.op = .pick c x y) (hw : Region.wanted o (yielded ops a.tmps) = true) (hc : a.eval c = .bool b) (h : T w (if b then a.eval x else a.eval y)) : okAt P ops o a w T :=
  ok_value (w' := w) hw (by simp [execOp, ho, hc, asBool]) h
theorem ok_conv (src dst : TypeId) (x : Operand) {v : Value} (ho : o.op = .convert src dst x) (hw : Region.wanted o (yielded ops a.tmps) = true) (hr : (convert src dst (a.eval x)).run P w = .ok v w) (h : T w v) : okAt P ops o a w T :=
  ok_value hw (by simp [execOp, ho, hr, Result.andThen]) h
theorem ok_call (f : FuncId) (args : Array Operand) (tys : Array TypeId) (vs : Array Value) (ho : o.op = .call { callee := .value (.func f), args := args, argTypes := tys }) (hw : Region.wanted o (yielded ops a.tmps) = true)
    (ha : args.map a.eval = vs) (hcf : (callFunc f vs).run P w = .ok (.enter f vs) w) (hc : Calls P f vs w fun e w'' => ∃ v, e = .returned v ∧ T w'' v) : okAt P ops o a w T := by
  unfold okAt yieldsTo
  rw [if_pos hw]
  have : (execOp a.eval o).run P w = .ok (.enter f vs) w := by
    have e : execOp a.eval o = callFunc f (#[] ++ args.map a.eval ++ #[]) := by
      simp only [execOp, ho]; rfl
    rw [e, ha]
    simpa using hcf
  rw [this]
  exact hc

def binSem (op : BinOp) (xT : TypeId) (x y : Operand) (u v : Value) : Sem Value := do
  eqGuard op xT x y u v
  binOp op xT u v
theorem ok_bin (op : BinOp) (xT yT : TypeId) (x y : Operand) {u1 u2 v : Value} (ho : o.op = .binOp op xT x y yT) (hw : Region.wanted o (yielded ops a.tmps) = true) (hx : a.eval x = u1) (hy : a.eval y = u2)
    (hr : (binSem op xT x y u1 u2).run P w = .ok v w) (h : T w v) : okAt P ops o a w T := by
  refine ok_value (w' := w) (v := v) hw ?_ h
  have e : execOp a.eval o = (do let r ← binSem op xT x y u1 u2; pure (.value r)) := by
    simp only [execOp, ho, hx, hy, binSem]
  rw [e]
  simp [hr, Result.andThen]
theorem run_eql_strV (t : TypeId) (x y : Operand) (X Y : List UInt8) : (binSem .eql t x y (strV X) (strV Y)).run P w = .ok (.bool (X == Y)) w := by
  have h : ∀ xs, (str xs).toList = xs := fun xs => Lib.toList_data _
  simp [binSem, strV, go_sem, h]
theorem run_neq_strV (t : TypeId) (x y : Operand) (X Y : List UInt8) : (binSem .neq t x y (strV X) (strV Y)).run P w = .ok (.bool (X != Y)) w := by
  have h : ∀ xs, (str xs).toList = xs := fun xs => Lib.toList_data _
  simp [binSem, strV, go_sem, h, bne]
theorem run_add_strV (t : TypeId) (x y : Operand) (X Y : List UInt8) (hl : X.length + Y.length ≤ 9223372036854775807) : (binSem .add t x y (strV X) (strV Y)).run P w = .ok (strV (X ++ Y)) w := by
  simp [binSem, strV, go_sem, str_append, str_size, hl]
theorem run_eql_int (t : TypeId) (x y : Operand) (k : IntKind) (n m : Int) : (binSem .eql t x y (.int k n) (.int k m)).run P w = .ok (.bool (n == m)) w := by
  simp [binSem, go_sem]
theorem run_neq_int (t : TypeId) (x y : Operand) (k : IntKind) (n m : Int) : (binSem .neq t x y (.int k n) (.int k m)).run P w = .ok (.bool (n != m)) w := by
  simp [binSem, go_sem]
theorem run_eql_boolB (t : TypeId) (x y : Operand) (n m : Bool) (ht : P.underlying t = some .bool) : (binSem .eql t x y (.bool n) (.bool m)).run P w = .ok (.bool (n == m)) w := by
  simp [binSem, go_sem, binOp, run_equal_bool w t n m ht]
theorem run_neq_boolB (t : TypeId) (x y : Operand) (n m : Bool) (ht : P.underlying t = some .bool) : (binSem .neq t x y (.bool n) (.bool m)).run P w = .ok (.bool (n != m)) w := by
  simp [binSem, go_sem, binOp, run_equal_bool w t n m ht, bne]
theorem ok_len_bs (x : Operand) (t e : TypeId) (ht : P.underlying t = some (.slice e)) (X : List UInt8) (ho : o.op = .call { callee := .builtin .len, args := #[x], argTypes := #[t] }) (hw : Region.wanted o (yielded ops a.tmps) = true) (hx : Bs w (a.eval x) X) (h : T w (.int .i64 X.length)) : okAt P ops o a w T := by
  obtain ⟨ao, cap, e, h2, h3⟩ := hx.len
  unfold maxLen at h3
  refine ok_value (w' := w) (v := .int .i64 X.length) hw ?_ h
  have hg : goInt (X.length : Int) = .int .i64 X.length := rfl
  simp only [execOp, ho, resolve, invoke, Sem.run_bind, Sem.run_pure, Result.andThen_ok, List.map_toArray, List.map_cons, List.map_nil, e]
  simp [builtin, Builtin.len_, run_underlying ht, Result.andThen, hg]

theorem run_add_i64 (t : TypeId) (x y : Operand) (n m : Int) (h0 : -9223372036854775808 ≤ n + m) (h1 : n + m ≤ 9223372036854775807) : (binSem .add t x y (.int .i64 n) (.int .i64 m)).run P w = .ok (.int .i64 (n + m)) w := by
  simp [binSem, go_sem]
  exact IntWalk.i64_in _ ⟨h0, h1⟩
theorem ok_slice_bs (t e : TypeId) (x lo hi : Operand) (X : List UInt8) (l h : Nat) (ho : o.op = .slice t x (some lo) (some hi) none) (hw : Region.wanted o (yielded ops a.tmps) = true)
    (ht : P.underlying t = some (.slice e)) (hz : ∀ w, (sizeOf e).run P w = .ok 1 w) (hx : Bs w (a.eval x) X) (hl : a.eval lo = .int .i64 (l : Int)) (hh : a.eval hi = .int .i64 (h : Int)) (h1 : l ≤ h) (h2 : h ≤ X.length)
    (hT : ∀ v, Bs w v ((X.drop l).take (h - l)) → T w v) : okAt P ops o a w T := by
  obtain ⟨ao, cap, e0, e2, e3⟩ := hx.len
  have ht' : P.underlying t = some (.slice (P.elem t)) := by simp [Program.elem, ht]
  have he : P.elem t = e := by simp [Program.elem, ht]
  refine ok_value (w' := w) (v := sliced ao l h cap 1) hw ?_ (hT _ ?_)
  · simp only [execOp, ho, Option.map_some, Option.map_none, e0, hl, hh, Sem.run_bind, run_sliceAt_slice w t _ _ _ _ ht']
    rw [run_slice_lh w t _ _ _ ht' .i64 .i64 _ _ (by omega) (by omega) (by omega), he, hz]
    simp [Result.andThen]
  · rw [e0] at hx
    exact hx.sub l h h1 h2

theorem ok_not (xT : TypeId) (x : Operand) (b : Bool) (ho : o.op = .unOp .not xT x) (hw : Region.wanted o (yielded ops a.tmps) = true) (hx : a.eval x = .bool b) (h : T w (.bool (!b))) : okAt P ops o a w T :=
  ok_value (w' := w) hw (by simp [execOp, ho, hx, Op.unary]) h

theorem ok_index (t e : TypeId) (x i : Operand) {b o' n cap k : Nat} (ho : o.op = .indexAddr t x i) (hw : Region.wanted o (yielded ops a.tmps) = true)
    (ht : P.underlying t = some (.slice e)) (hz : ∀ w, (sizeOf e).run P w = .ok 1 w) (hx : a.eval x = .slice (some ⟨b, o', none⟩) n cap) (hi : a.eval i = .int .i64 (k : Int)) (hk : k < n) (h : T w (.pointer (some ⟨b, o' + k, none⟩))) : okAt P ops o a w T := by
  have ht' : P.underlying t = some (.slice (P.elem t)) := by simp [Program.elem, ht]
  have he : P.elem t = e := by simp [Program.elem, ht]
  refine ok_value (w' := w) hw ?_ h
  have hadd : (⟨b, o', none⟩ : Addr).add k = ⟨b, o' + k, none⟩ := by unfold Addr.add; split <;> simp_all
  simp only [execOp, ho, hx, hi, Sem.run_bind]
  rw [run_indexAt_slice w t _ _ _ _ _ ht', if_pos ⟨by omega, by omega⟩, he, hz]
  simp [Result.andThen, hadd]
theorem ok_load (t : TypeId) (x : Operand) {ad : Addr} {v : Value} (ho : o.op = .load t x) (hw : Region.wanted o (yielded ops a.tmps) = true)
    (hx : a.eval x = .pointer (some ad)) (hr : (Instr.loadAt t (.pointer (some ad))).run P w = .ok v w) (h : T w v) : okAt P ops o a w T := by
  refine ok_value (w' := w) hw ?_ h
  simp only [execOp, ho, hx, Sem.run_bind, hr]
  simp [Result.andThen]

/-- from a contract that leaves the world as it was, or only more of it -/
theorem call_below {f : FuncId} {vs : Array Value} {V : World → Value → Prop} (h : Calls P f vs w fun e w' => ∃ v, e = .returned v ∧ Below w.heap.size w w' ∧ V w' v) : Calls P f vs w fun e w'' => ∃ v, e = .returned v ∧ Rb w w'' ∧ V w'' v := h
end
end Go.Proofs.YtolfeellcdoopaaDoor.Reg
