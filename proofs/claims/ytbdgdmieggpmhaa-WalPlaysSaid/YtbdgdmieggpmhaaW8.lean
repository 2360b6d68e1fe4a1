/-
  Layer 4: frames (the iterator) and Scan.
-/
import Derived.Test.YtbdgdmieggpmhaaW7
import Derived.Test.YtbdgdmieggpmhaaW4
import Derived.BigQuiet
import Derived.Deep.QuietTactic
namespace Go.Proofs.Ytbdgdmieggpmhaa.L4
open Go.ChangeShapes Go.WideShapes Go.ChangeAt Go.RowKit Go.Shelf Oct By Reg L3
set_option linter.unusedVariables false
attribute [local go_sem] Oper.semAt_some

/-- what is yielded: a slice, the bytes that it reads as, the place behind the frame -/
structure Fr where
  u : Value
  s : List UInt8
  next : Nat
abbrev Fr.enc (x : Fr) : Array Value := #[x.u, .int .i64 (x.next : Int)]
/-- a slice in new memory (from B on), made of a string -/
def Row (B : Nat) (x : Fr) (W : World) : Prop := ∃ n c, x.u = .slice (some ⟨n, 0, none⟩) x.s.length c ∧ Bs W x.u x.s ∧ B ≤ n ∧ ∃ cs m, W.heap[n]? = some (.cells cs 5 m)
def endOf (l : List Fr) : Nat := (l.getLast?.map Fr.next).getD 0
theorem endOf_snoc (l : List Fr) (x : Fr) : endOf (l ++ [x]) = x.next := by simp [endOf]

theorem Row.of_blocks {B : Nat} {x : Fr} {W W2 : World} (h : Row B x W) (k : ∀ (n : Nat) (cs : Array Value) (m : Nat × Nat), W.heap[n]? = some (Obj.cells cs 5 m) → W2.heap[n]? = W.heap[n]?) : Row B x W2 := by
  obtain ⟨n, c, e, hb, hn, cs, m, hc⟩ := h
  have hk := k n cs m hc
  refine ⟨n, c, e, Bs.same hb fun q hq => ?_, hn, cs, m, hk.trans hc⟩
  rw [e] at hq
  simp [Value.ownBlock] at hq
  subst hq
  exact hk
theorem Row.own (B B2 : Nat) : OwnFrom B2 (Row B) := fun x W W2 row h hg hr => h.of_blocks fun n cs m hc =>
  grownBy_keeps_cells hg (fun r e => (hr r e).2) hc rfl

/-- what a round keeps: all that lay ahead of the call; the iterator's two boxes; bytes -/
structure Keeps (n₀ Bl Bg : Nat) (W W2 : World) : Prop where
  below : Below n₀ W W2
  l : W2.heap[Bl]? = W.heap[Bl]?
  g : W2.heap[Bg]? = W.heap[Bg]?
  bytes : ∀ (n : Nat) (cs : Array Value) (m : Nat × Nat), W.heap[n]? = some (Obj.cells cs 5 m) → W2.heap[n]? = W.heap[n]?
theorem Keeps.trans {n₀ Bl Bg : Nat} {A B C : World} (h : Keeps n₀ Bl Bg A B) (k : Keeps n₀ Bl Bg B C) : Keeps n₀ Bl Bg A C :=
  ⟨h.below.trans k.below, k.l.trans h.l, k.g.trans h.g, fun n cs m hc => by
    have h1 := h.bytes n cs m hc
    rw [k.bytes n cs m (h1.trans hc), h1]⟩
theorem Keeps.put {n₀ Bl Bg : Nat} (W : World) (l : Nat) (o o' : Obj) (h0 : n₀ ≤ l) (h1 : Bl < l) (h2 : Bg < l) (hl : W.heap[l]? = some o) (ho : o.isCells = false) : Keeps n₀ Bl Bg W (W.putObj l o') := by
  have hk : ∀ k, k ≠ l → (W.putObj l o').heap[k]? = W.heap[k]? := fun k e => World.putObj_heap_other e
  refine ⟨⟨rfl, rfl, rfl, by simp, fun k e => hk k (by omega)⟩, hk _ (by omega), hk _ (by omega), fun n cs m hc => hk n fun e => ?_⟩
  subst e
  rw [hl] at hc
  cases hc
  cases ho

set_option maxRecDepth 100000 in
theorem makes_frames (d : Nat) (ao : Option Addr) (n c : Nat) (g : Int) (w : World) :
    CallsIn Fence.wide d Try.prog 54 #[.slice ao n c, .int .u32 g] w fun e w' => e = .returned (.func (.func 72) #[] #[.pointer (some ⟨w.heap.size, 0, none⟩), .pointer (some ⟨w.heap.size + 1, 0, none⟩)]) ∧
      w' = (w.alloc (.cells #[.slice ao n c] 23)).alloc (.cells #[.int .u32 g] 22) := by
  refine callsIn_wide.2 ?_
  go_enter Try.func54, Try.ntmps54
  go_wp2
  go_ret
  exact ⟨rfl, rfl⟩

/-- what the iterator leans on, in a world of its rounds -/
structure Its (n₁ Bl Bg : Nat) (v : Value) (g : Nat) (X : List UInt8) (W : World) : Prop where
  l : Boxed W Bl 23 v
  g : Boxed W Bg 22 (.int .u32 (g : Int))
  v : Bs W v X
  size : n₁ ≤ W.heap.size
theorem Bs.same0 {w w' : World} {v : Value} {xs : List UInt8} (h : Bs w v xs) (e : 0 < xs.length → ∀ k, v.ownBlock = some k → w'.heap[k]? = w.heap[k]?) : Bs w' v xs := by
  by_cases h0 : 0 < xs.length
  · exact Bs.same h (e h0)
  · obtain ⟨ao, cap, rfl, h2, h3, h4, h5⟩ := h
    have hx : xs = [] := List.eq_nil_of_length_eq_zero (by omega)
    subst hx
    exact ⟨ao, cap, rfl, h2, h3, h4, fun ad ha j u hu => by simp at hu⟩
theorem Its.rb {n₁ Bl Bg : Nat} {v : Value} {g : Nat} {X : List UInt8} {W W2 : World} (h : Its n₁ Bl Bg v g X W) (k : Rb W W2) : Its n₁ Bl Bg v g X W2 :=
  ⟨(k.block _ h.l.lt).trans h.l, (k.block _ h.g.lt).trans h.g, h.v.below k, Nat.le_trans h.size k.size⟩
theorem Its.keeps {n₀ n₁ Bl Bg : Nat} {v : Value} {g : Nat} {X : List UInt8} {W W2 : World} (h : Its n₁ Bl Bg v g X W) (k : Keeps n₀ Bl Bg W W2) (hv : 0 < X.length → ∀ q, v.ownBlock = some q → q < n₀) : Its n₁ Bl Bg v g X W2 :=
  ⟨k.l.trans h.l, k.g.trans h.g, Bs.same0 h.v fun h0 q hq => k.below.block q (hv h0 q hq), Nat.le_trans h.size k.below.size⟩

def upto (g : Nat) (X : List UInt8) (pre : List Fr) (k : Nat) : Prop := k ≤ X.length ∧ rowsL g X = pre.map Fr.s ++ rowsL g (X.drop k) ∧ k = lenL g (pre.map Fr.s) ∧ endOf pre = k
theorem lenL_few (g : Nat) : ∀ (l : List (List UInt8)), l.length ≤ lenL g l
  | [] => Nat.le_refl _
  | s :: l => by have := lenL_few g l; have := frameB_pos g s; simp [lenL]; omega
theorem upto.few {g : Nat} {X : List UInt8} {pre : List Fr} {k : Nat} (h : upto g X pre k) : pre.length < X.length + 1 := by
  obtain ⟨h1, h2, h3, h4⟩ := h
  have := lenL_few g (pre.map Fr.s)
  rw [List.length_map] at this
  omega
theorem upto.all {g : Nat} {X : List UInt8} {pre : List Fr} {k : Nat} (h : upto g X pre k) (hn : rowsL g (X.drop k) = []) : pre.map Fr.s = rowsL g X ∧ endOf pre = lenL g (rowsL g X) := by
  obtain ⟨h1, h2, h3, h4⟩ := h
  rw [hn, List.append_nil] at h2
  exact ⟨h2.symm, by rw [h4, h3, h2]⟩
theorem upto.next {g : Nat} {X s : List UInt8} {pre : List Fr} {k : Nat} (h : upto g X pre k) (hh : headF (X.drop k) = some (g, s)) (u : Value) : upto g X (pre ++ [⟨u, s, k + (frameB g s).length⟩]) (k + (frameB g s).length) ∧ k < k + (frameB g s).length ∧ k + (frameB g s).length ≤ X.length := by
  obtain ⟨h1, h2, h3, h4⟩ := h
  obtain ⟨_, _, r, hr⟩ := headF_some hh
  have hp := frameB_pos g s
  have hl := congrArg List.length hr
  rw [List.length_append, List.length_drop] at hl
  refine ⟨⟨by omega, ?_, ?_, endOf_snoc _ _⟩, by omega, by omega⟩
  · rw [h2, rowsL_step hh, List.drop_drop, List.map_append]
    simp
  · rw [List.map_append, lenL_append, ← h3]
    simp [lenL]

set_option maxRecDepth 100000 in
set_option maxHeartbeats 1000000 in
theorem walks_frames (n₀ n₁ Bl Bg l : Nat) (v : Value) (g : Nat) (X : List UInt8) (hx : X.length ≤ 10000000) (hv : 0 < X.length → ∀ q, v.ownBlock = some q → q < n₀) (J : List Fr → World → Prop) (W : World) (hJ : AbidesFrom W.heap.size J) (hi : Its n₁ Bl Bg v g X W) (h0 : J [] W)
    (hY : ∀ (pre : List Fr) (x : Fr) (W1 : World), J pre W1 → Row n₁ x W1 → pre.length < X.length + 1 → YieldAt Fence.wide 5 Try.prog l x.enc W1 fun e W2 => e = .returned (.bool true) ∧ J (pre ++ [x]) W2 ∧ Keeps n₀ Bl Bg W1 W2) :
    CallsIn Fence.wide 6 Try.prog 72 #[.func (.yield l) #[] #[], .pointer (some ⟨Bl, 0, none⟩), .pointer (some ⟨Bg, 0, none⟩)] W fun e W2 => (∃ v, e = .returned v) ∧ ∃ xs : List Fr, (xs.map Fr.s = rowsL g X ∧ endOf xs = lenL g (rowsL g X)) ∧ J xs W2 := by
  obtain ⟨ao, cap, rfl, -⟩ := hi.v.len
  refine callsIn_of_wp Try.func72 rfl trivial ?_ rfl
  simp only [Try.ntmps72, List.size_toArray, List.length_cons, List.length_nil, Nat.reduceAdd, Nat.reduceSub, Array.replicate_succ, Array.replicate_zero, List.push_toArray, List.append_toArray, List.nil_append, List.cons_append]
  gi_wp2
  gi_loopw [4] (fun p wr => ∃ (pre : List Fr) (k : Nat), p = .int .i64 k ∧ J pre wr ∧ Its n₁ Bl Bg (.slice ao X.length cap) g X wr ∧ upto g X pre k) (fun p _ => X.length - (intOf p).toNat)
  case atStart => exact ⟨[], 0, rfl, h0, hi, Nat.zero_le _, rfl, rfl, rfl⟩
  case round =>
    obtain ⟨pre, k, rfl, hj, hit, hu⟩ := hrel
    have hl0 := hit.l.cell
    have hg0 := hit.g.cell
    have C := read_any _ X k wr hit.v (by omega) hu.1
    unfold ReadQ at C
    cases hh : headF (X.drop k) with
    | none =>
      rw [hh] at C
      have HC : Hid (Calls Try.prog 48 #[.slice ao X.length cap, .int .i64 (k : Int)] wr fun e w' => e = .returned (.tuple #[.int .u32 0, .slice none 0 0, .int .i64 0, .bool false]) ∧ Rb wr w') := C
      have HU := Lib.hid (hu.all (rowsL_none hh))
      have HJ := Lib.hid hj
      clear C hh hu hj hit hi h0 hY
      gi_wp2_with (refine ⟨trivial, ?_⟩; gi_at_call 48; refine (callsIn_wide.2 HC.out).mono ?_; rintro e w2 ⟨rfl, hr⟩; have HR := Lib.hid hr; clear hr hl0 hg0)
      refine ⟨fun _ h => (by cases h), ?_⟩
      gi_wp2
      refine bodyPost_ret (results_none rfl _ _ _) rfl ?_
      refine ⟨⟨_, rfl⟩, pre, HU.out, ?_⟩
      exact hJ pre wr w2 none HJ.out ⟨HR.out.os, HR.out.tape, HR.out.output, HR.out.size, fun k hk _ => HR.out.block k hk⟩ (fun _ h => by cases h)
    | some p =>
      obtain ⟨g', s⟩ := p
      rw [hh] at C
      have HC : Hid (Calls Try.prog 48 #[.slice ao X.length cap, .int .i64 (k : Int)] wr fun e w' => ∃ v, e = .returned (.tuple #[.int .u32 g', v, .int .i64 ((k + (frameB g' s).length : Nat) : Int), .bool true]) ∧ Fresh wr w' v s ∧ Rb wr w') := Lib.hid C
      by_cases hg : g' = g
      · subst hg
        have HP := Lib.hid hu.few
        obtain ⟨hn1, hn2, hn3⟩ := hu.next hh (.slice none 0 0)
        have HU := Lib.hid (fun u => (hu.next hh u).1)
        have HN := Lib.hid (And.intro hn2 hn3)
        have HI := Lib.hid hit
        have HJ := Lib.hid hj
        have HY := Lib.hid hY
        clear C hh hu hj hit hi h0 hY hn1 hn2 hn3
        generalize k + (frameB g' s).length = nx at *
        gi_wp2_with fail
        refine ⟨trivial, ?_⟩
        refine (callsIn_wide.2 HC.out).mono ?_
        rintro e w2 ⟨u, rfl, hf, hr⟩
        have hg2 := (HI.out.rb hr).g.cell
        have HR := Lib.hid hr
        have hq := HY.out pre ⟨u, s, nx⟩ w2 (hJ pre wr w2 none HJ.out ⟨hr.os, hr.tape, hr.output, hr.size, fun k hk _ => hr.block k hk⟩ (fun _ h => by cases h)) (by obtain ⟨n, c, e1, hb, hn, hc⟩ := hf; exact ⟨n, c, e1, hb, by have := HI.out.size; omega, hc⟩) HP.out
        clear hr hl0 hg0
        obtain ⟨fn, tmps, assign, body, hy, hR⟩ := hq
        dsimp only [Fr.enc] at hy
        gi_wp2
        refine hR.mono ?_
        rintro e W3 ⟨rfl, hJ3, hk3⟩
        have HI3 := Lib.hid ((HI.out.rb HR.out).keeps hk3 hv)
        have HJ3 := Lib.hid hJ3
        clear hJ3 hk3 hy hg2
        gi_wp2
        go_roundw
        case rel => exact ⟨_, nx, rfl, HJ3.out, HI3.out, HU.out u⟩
        case measure => have := HN.out; simp [intOf]; omega
      · have HU := Lib.hid (hu.all (rowsL_other hh hg))
        have HJ := Lib.hid hj
        have HI := Lib.hid hit
        have hg' : ((g' : Int) != (g : Int)) = true := by simp; omega
        clear C hh hu hj hit hi h0 hY hg
        generalize k + (frameB g' s).length = nx at *
        gi_wp2_with (refine ⟨trivial, ?_⟩; gi_at_call 48; refine (callsIn_wide.2 HC.out).mono ?_; rintro e w2 ⟨u, rfl, hf, hr⟩; have hg2 := (HI.out.rb hr).g.cell; have HR := Lib.hid hr; clear hr hf hl0 hg0)
        refine ⟨fun _ h => (by cases h), ?_⟩
        gi_wp2
        refine bodyPost_ret (results_none rfl _ _ _) rfl ?_
        refine ⟨⟨_, rfl⟩, pre, HU.out, ?_⟩
        exact hJ pre wr w2 none HJ.out ⟨HR.out.os, HR.out.tape, HR.out.output, HR.out.size, fun k hk _ => HR.out.block k hk⟩ (fun _ h => by cases h)

theorem info23 : (Try.prog.info? 23).map (fun i => (i.zero, i.size, i.bytes)) = some (some (.slice none 0 0), 1, 24) := by kernel_rfl

/-- rows in new memory -/
def RowsV (B : Nat) (w : World) (v : Value) (ss : List (List UInt8)) : Prop := ∃ xs : List Fr, w.ownsRow B 23 1 v xs.length (xs.map Fr.u) ∧ xs.map Fr.s = ss ∧ ∀ x ∈ xs, Row B x w
def ScanQ (w : World) (g : Nat) (X : List UInt8) (e : Ending) (w' : World) : Prop :=
  ∃ v, e = .returned (.tuple #[v, .int .i64 (lenL g (rowsL g X) : Nat)]) ∧ RowsV w.heap.size w' v (rowsL g X) ∧ Rb w w'

set_option maxRecDepth 100000 in
set_option maxHeartbeats 2000000 in
theorem scan_any (v : Value) (g : Nat) (X : List UInt8) (w : World) (hb : Bs w v X) (hx : X.length ≤ 10000000) :
    Calls Try.prog 18 #[v, .int .u32 g] w (ScanQ w g X) := by
  have hv : 0 < X.length → ∀ q, v.ownBlock = some q → q < w.heap.size := fun h => Bs.lt hb h
  obtain ⟨ao, cap, rfl, -⟩ := hb.len
  obtain ⟨i0, hi, hz0, hz1, hz2⟩ := info_parts info23
  refine (callsIn_wide (n := 7)).1 ?_
  refine callsIn_of_wp_marks Try.func18 rfl trivial ?_ rfl
  simp only [Try.ntmps18, List.size_toArray, List.length_cons, List.length_nil, Nat.reduceAdd, Nat.reduceSub, Array.replicate_succ, Array.replicate_zero, List.push_toArray, List.append_toArray, List.nil_append, List.cons_append]
  gi_wp2_with (refine ⟨trivial, ?_⟩; gi_at_call 54; refine (makes_frames _ _ _ _ _ _).mono ?_; rintro e w' ⟨rfl, rfl⟩)
  have b1 := Boxed.new w 34 (.slice none 0 0)
  have b2 := Boxed.new (w.alloc (.cells #[.slice none 0 0] 34)) 3 (.int .i64 0)
  have b3 := Boxed.new ((w.alloc (.cells #[.slice none 0 0] 34)).alloc (.cells #[.int .i64 0] 3)) 23 (.slice ao X.length cap)
  have b4 := Boxed.new (((w.alloc (.cells #[.slice none 0 0] 34)).alloc (.cells #[.int .i64 0] 3)).alloc (.cells #[.slice ao X.length cap] 23)) 22 (.int .u32 g)
  have B1 := Lib.hid (((b1.alloc (.cells #[.int .i64 0] 3)).alloc (.cells #[.slice ao X.length cap] 23)).alloc (.cells #[.int .u32 g] 22))
  have B2 := Lib.hid ((b2.alloc (.cells #[.slice ao X.length cap] 23)).alloc (.cells #[.int .u32 g] 22))
  have B3 := Lib.hid (b3.alloc (.cells #[.int .u32 g] 22))
  have B4 := Lib.hid b4
  simp only [World.size_alloc] at B2 B3 B4
  have hB : Below w.heap.size w ((((w.alloc (.cells #[.slice none 0 0] 34)).alloc (.cells #[.int .i64 0] 3)).alloc (.cells #[.slice ao X.length cap] 23)).alloc (.cells #[.int .u32 g] 22)) :=
    ((((Below.refl _ w).alloc (Nat.le_refl _) _).alloc (by simp) _).alloc (by simp; omega) _).alloc (by simp; omega) _
  have hsz : ((((w.alloc (.cells #[.slice none 0 0] 34)).alloc (.cells #[.int .i64 0] 3)).alloc (.cells #[.slice ao X.length cap] 23)).alloc (.cells #[.int .u32 g] 22)).heap.size = w.heap.size + 4 := by simp
  clear b1 b2 b3 b4
  generalize (((w.alloc (.cells #[.slice none 0 0] 34)).alloc (.cells #[.int .i64 0] 3)).alloc (.cells #[.slice ao X.length cap] 23)).alloc (.cells #[.int .u32 g] 22) = W0 at *
  have HB := Lib.hid hB
  have HSZ := Lib.hid hsz
  have hits : Its (w.heap.size + 4) (w.heap.size + 1 + 1) (w.heap.size + 1 + 1 + 1) (.slice ao X.length cap) g X W0 := ⟨B3.out, B4.out, hb.below hB, by omega⟩
  refine wpIn_range_told (α := Fr) (encs := Fr.enc) (Kp := Keeps w.heap.size (w.heap.size + 1 + 1) (w.heap.size + 1 + 1 + 1)) (Tl := Row (w.heap.size + 4)) (S := fun xs => xs.map Fr.s = rowsL g X ∧ endOf xs = lenL g (rowsL g X)) (N := X.length + 1)
    rfl (by omega) (gf := 72) (lb := #[.pointer (some ⟨w.heap.size + 1 + 1, 0, none⟩), .pointer (some ⟨w.heap.size + 1 + 1 + 1, 0, none⟩)]) rfl trivial (enters_of Try.func72 (by kernel_rfl) rfl)
    (fun l J W hW hJ hY h0 => walks_frames w.heap.size (w.heap.size + 4) _ _ l _ g X hx hv J W hJ (hits.rb hW) h0 hY)
    (fun A B C h k => h.trans k) (fun W l o o' hl h1 h2 => Keeps.put W l o o' (by omega) (by omega) (by omega) h1 h2) (fun _ => rfl)
    (fun pre W => (∃ v, Boxed W w.heap.size 34 v ∧ W.ownsRow (w.heap.size + 4) 23 1 v pre.length (pre.map Fr.u) ∧ True) ∧ Boxed W (w.heap.size + 1) 3 (.int .i64 (endOf pre : Nat)) ∧ (∀ x ∈ pre, Row (w.heap.size + 4) x W) ∧ Below w.heap.size w W)
    ?own (Row.own _ _) ?start
    (fun x => { tmps := #[.slice ao X.length cap, .int .u32 g, undef, undef, .slice none 0 0, .int .i64 0, .pointer (some ⟨w.heap.size, 0, none⟩), .pointer (some ⟨w.heap.size + 1, 0, none⟩), x.u, .int .i64 x.next, .slice ao X.length cap, .int .u32 g, .func (.func 72) #[] #[.pointer (some ⟨w.heap.size + 1 + 1, 0, none⟩), .pointer (some ⟨w.heap.size + 1 + 1 + 1, 0, none⟩)], x.u, .int .i64 x.next, undef, undef, undef, undef, undef, undef, undef], defers := [] }) ?assign ?body ?done
  case own =>
    refine OwnFrom.and (Own.from (holdsRow_own (w.heap.size + 4) w.heap.size 34 23 1 List.length (fun pre => pre.map Fr.u) (fun _ _ => True)) _) (OwnFrom.and (Own.from (boxed_own (w.heap.size + 1) 3 (fun pre => .int .i64 (endOf pre : Nat))) _) (OwnFrom.and (fun s A B row hs hg hr x hx => Row.own _ _ x A B row (hs x hx) hg hr) (ownFrom_below (Nat.le_refl _) (by omega))))
  case start => exact ⟨⟨_, B1.out, World.ownsRow_nil _ _ _ _, trivial⟩, B2.out, (fun x h => by cases h), hB⟩
  case assign =>
    intro l x W K hK
    gi_wp2
    exact hK
  case body =>
    rintro l pre ⟨u, s, nx⟩ W ⟨⟨v, hv1, hrow, -⟩, hb2, hrs, hbl⟩ ht hN
    have ht2 := ht
    obtain ⟨n, c, e1, -, hn4, cs, m, hcs⟩ := ht2
    have hsz4 : w.heap.size + 4 ≤ W.heap.size := Nat.le_trans hn4 (Nat.le_of_lt (Array.getElem?_eq_some_iff.1 hcs).1)
    clear hcs
    dsimp only at e1
    subst e1
    have hc := hv1.cell
    have hlt := hv1.lt
    have HT := Lib.hid ht
    have HRS := Lib.hid hrs
    have HBL := Lib.hid hbl
    have HV := Lib.hid hv1
    have HW := Lib.hid hrow
    have HB2 := Lib.hid hb2
    have hws := hb2.lt
    clear ht hrs hbl hv1 hb2
    have hWA := Lib.hid (hrow.alloc (.cells #[.slice (some ⟨n, 0, none⟩) s.length c] 23))
    gi_wp2_with (gi_at_builtin; go_must (refine wpListIn_append_own _ rfl _ _ 34 rfl (w.heap.size + 4) 23 i0 (.slice none 0 0) 1 24 Try.underlying34 hi hz0 hz1 hz2 rfl (by decide) _ _ _ rfl hWA.out ⟨W.heap.size, 0, none⟩ 1 1 [.slice (some ⟨n, 0, none⟩) s.length c] rfl rfl (cell_one_new _ _ _) (by simp [Value.oneCell']) ?c1 ?c2 ?c3 ?_))
    case c1 => unfold maxLen; omega
    case c2 => omega
    case c3 => rw [World.size_alloc]; omega
    intro v' w1 hown' hgrow _
    obtain ⟨g', cap', rfl⟩ := ownsRow_succ hown'
    have k1 : Boxed w1 w.heap.size 34 v := (HV.out.alloc _).kept hgrow (HV.out.not_row (by decide) HW.out)
    have k2 := ((HB2.out.alloc (.cells #[.slice (some ⟨n, 0, none⟩) s.length c] 23)).kept hgrow (HB2.out.not_row (by decide) HW.out)).other (show w.heap.size + 1 ≠ w.heap.size by omega) (.slice (some ⟨g', 0, none⟩) (pre.length + 1) cap')
    have hc1 := k1.cell
    have hf1 := k1.frozen
    have hc2 := k2.cell
    have hf2 := k2.frozen
    have K1 := Lib.hid k1
    have K2 := Lib.hid k2
    have HG := Lib.hid hgrow
    have HO := Lib.hid hown'
    clear k1 k2 hgrow hown' hc hWA hrow
    gi_wp2
    have hvo : ∀ k, v.ownBlock = some k → w.heap.size + 4 ≤ k ∧ ∃ cur m2, W.heap[k]? = some (Obj.cells cur 23 m2) := by
      intro k hk
      rcases HW.out.2 with ⟨rfl, _⟩ | ⟨q, _, cur, rfl, hq, hcur, _⟩
      · cases hk
      · simp [Value.ownBlock] at hk
        subst hk
        exact ⟨hq, cur, _, hcur⟩
    obtain ⟨v', hv'⟩ : ∃ v', v' = Value.slice (some ⟨g', 0, none⟩) (pre.length + 1) cap' := ⟨_, rfl⟩
    rw [← hv'] at HO K2 ⊢
    have blk : ∀ k, k < W.heap.size → k ≠ w.heap.size → k ≠ w.heap.size + 1 → v.ownBlock ≠ some k → ((w1.setCell ⟨w.heap.size, 0, none⟩ v').setCell ⟨w.heap.size + 1, 0, none⟩ (.int .i64 nx)).heap[k]? = W.heap[k]? := by
      intro k hk h1 h2 h3
      rw [Below.heap_setCell _ _ _ k h2, Below.heap_setCell _ _ _ k h1, HG.out.block k (by rw [World.size_alloc]; omega) (fun e => h3 e.symm)]
      exact Below.heap_alloc W _ k hk
    have hsize : W.heap.size ≤ ((w1.setCell ⟨w.heap.size, 0, none⟩ v').setCell ⟨w.heap.size + 1, 0, none⟩ (.int .i64 nx)).heap.size := by
      have := HG.out.size
      rw [World.size_alloc] at this
      simp [World.setCell]
      omega
    have kB1 : Boxed ((w1.setCell ⟨w.heap.size, 0, none⟩ v').setCell ⟨w.heap.size + 1, 0, none⟩ (.int .i64 nx)) w.heap.size 34 v' := (K1.out.set v').other (by omega) _
    have kB2 := K2.out.set (.int .i64 nx)
    have kR : ((w1.setCell ⟨w.heap.size, 0, none⟩ v').setCell ⟨w.heap.size + 1, 0, none⟩ (.int .i64 nx)).ownsRow (w.heap.size + 4) 23 1 v' (pre.length + 1) (pre.map Fr.u ++ [.slice (some ⟨n, 0, none⟩) s.length c]) := by
      have r1 := HO.out.kept (grownBy_setCell' w1 w.heap.size v') (.inr (K1.out.not_row (by decide) HO.out).symm)
      exact r1.kept (grownBy_setCell' _ (w.heap.size + 1) _) (.inr (K2.out.not_row (by decide) r1).symm)
    have hos : ((w1.setCell ⟨w.heap.size, 0, none⟩ v').setCell ⟨w.heap.size + 1, 0, none⟩ (.int .i64 nx)).os = W.os ∧ ((w1.setCell ⟨w.heap.size, 0, none⟩ v').setCell ⟨w.heap.size + 1, 0, none⟩ (.int .i64 nx)).tape = W.tape ∧ ((w1.setCell ⟨w.heap.size, 0, none⟩ v').setCell ⟨w.heap.size + 1, 0, none⟩ (.int .i64 nx)).output = W.output := ⟨HG.out.os, HG.out.tape, HG.out.output⟩
    generalize (w1.setCell ⟨w.heap.size, 0, none⟩ v').setCell ⟨w.heap.size + 1, 0, none⟩ (.int .i64 nx) = W4 at *
    have hbelow : Below w.heap.size W W4 := ⟨hos.1, hos.2.1, hos.2.2, hsize, fun k hk => blk k (by omega) (by omega) (by omega) (fun e => by have := (hvo k e).1; omega)⟩
    have hbytes : ∀ (n : Nat) (cs : Array Value) (m : Nat × Nat), W.heap[n]? = some (Obj.cells cs 5 m) → W4.heap[n]? = W.heap[n]? := fun k cs m hk => by
      refine blk k (Array.getElem?_eq_some_iff.1 hk).1 (fun e => ?_) (fun e => ?_) (fun e => ?_)
      · subst e; have h2 := HV.out; unfold Boxed at h2; rw [hk] at h2; simp at h2
      · subst e; have h2 := HB2.out; unfold Boxed at h2; rw [hk] at h2; simp at h2
      · obtain ⟨_, cur, m2, h2⟩ := hvo k e; rw [hk] at h2; simp at h2
    refine ⟨⟨hsize, fun k o hB2 hk ho => ?_⟩, ⟨hbelow, ?_, ?_, hbytes⟩, ⟨v', kB1, by simpa using kR, trivial⟩, by rw [endOf_snoc]; exact kB2, fun x hx => ?_, HBL.out.trans hbelow⟩
    · rw [blk k (Array.getElem?_eq_some_iff.1 hk).1 (by omega) (by omega) (fun e => ?_)]
      · exact hk
      · obtain ⟨_, cur, m2, h2⟩ := hvo k e; rw [hk] at h2; cases h2; cases ho
    · exact blk _ (by omega) (by omega) (by omega) (fun e => by have := (hvo _ e).1; omega)
    · exact blk _ (by omega) (by omega) (by omega) (fun e => by have := (hvo _ e).1; omega)
    · rcases List.mem_append.1 hx with hx | hx
      · exact (HRS.out x hx).of_blocks hbytes
      · simp at hx; subst hx; exact HT.out.of_blocks hbytes
  case done =>
    rintro D ys W hD ⟨hS1, hS2⟩ ⟨⟨v, hv1, hrow, -⟩, hb2, hrs, hbl⟩ hK
    have hc := hv1.cell
    have hc2 := hb2.cell
    rw [hS2] at hc2
    gi_wp2
    refine wpIn_wide.2 ?_
    go_quiet (fail)
    gi_wp2
    have hK2 : (W.drewN nq).heap[D]? = some (Obj.deferred (some [])) := hK
    have hR : Rb W (W.drewN nq) := drewN_rb _ _
    have hrow2 : (W.drewN nq).ownsRow (w.heap.size + 4) 23 1 v ys.length (ys.map Fr.u) := hrow
    have hrs2 : ∀ x ∈ ys, Row (w.heap.size + 4) x (W.drewN nq) := fun x hx => hrs x hx
    generalize W.drewN nq = W5 at *
    refine ⟨by simp, .inl ⟨_, _, rfl, run_takeDeferred hK2, ?_⟩⟩
    refine ⟨_, results_tmp2 rfl _ _ _, v, rfl, ⟨ys, ?_, hS1, fun x hx => ?_⟩, ?_⟩
    · have := ownsRow_putObj hrow2 (.deferred none) hK2 rfl
      exact this.mono (by omega)
    · have h := Row.own (w.heap.size + 4) 0 x W5 _ (some D) (hrs2 x hx) (grownBy_putObj' W5 D (.deferred none)) (fun r e => by cases e; exact ⟨Nat.zero_le _, _, hK2, rfl⟩)
      obtain ⟨n, c, e1, h2, h3, h4⟩ := h
      exact ⟨n, c, e1, h2, by omega, h4⟩
    · exact (hbl.trans (hR.mono hbl.size)).trans (belowK_b (w := w) (Nat.le_refl _) W5 D _ _ (by omega) hK2 rfl rfl)
end Go.Proofs.Ytbdgdmieggpmhaa.L4
