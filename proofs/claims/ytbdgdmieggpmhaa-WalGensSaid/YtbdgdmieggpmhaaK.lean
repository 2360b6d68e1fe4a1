import Derived.Test.YtbdgdmieggpmhaaJ
namespace Go.Proofs.Ytbdgdmieggpmhaa
open Go.ChangeShapes Go.WideShapes Go.ChangeAt Go.RowKit Oct By Reg

/-- the text that stands at a place, and how many bytes it has in all -/
def gt (xs : List UInt8) (i most : Int) : Option (List UInt8 × Nat) := match gu xs i with
  | none => none
  | some (n, k) => if (n : Int) ≤ most ∧ i + k + n ≤ xs.length then some ((xs.drop (i.toNat + k)).take n, k + n) else none
def tupT (r : Option (List UInt8 × Nat)) (i : Int) : Value := match r with
  | none => .tuple #[.string (str []), .int .i64 0, .bool false]
  | some (s, k) => .tuple #[.string (str s), .int .i64 (i + k), .bool true]
def tupRT (r : Option (List UInt8 × Nat)) : Value := match r with
  | none => .tuple #[.string (str []), .int .i64 0]
  | some (s, k) => .tuple #[.string (str s), .int .i64 k]

/-- a part, by the walk's own operation -/
theorem slice_bs {w : World} {ao : Option Addr} {n cap : Nat} {X : List UInt8} (hb : Bs w (.slice ao n cap) X) (l h : Nat) (h1 : l ≤ h) (h2 : h ≤ X.length) :
    ∃ r, (∀ a b : Int, a = l → b = h → (Instr.slice 23 (.slice ao n cap) (some (.int .i64 a)) (some (.int .i64 b)) none).run Try.prog w = .ok r w) ∧ (convert 23 9 r).run Try.prog w = .ok (.string (str ((X.drop l).take (h - l)))) w := by
  obtain ⟨ao', cap', e, e2, e3⟩ := hb.len
  simp only [Value.slice.injEq] at e
  obtain ⟨rfl, rfl, rfl⟩ := e
  have ht' : Try.prog.underlying 23 = some (.slice (Try.prog.elem 23)) := by simp [Program.elem, Try.underlying23]
  have he : Try.prog.elem 23 = 5 := by simp [Program.elem, Try.underlying23]
  refine ⟨sliced ao l h cap 1, fun a b ha hb' => ?_, run_convert_Bs (hb.sub l h h1 h2) _ 5 _ Try.underlying23 Try.underlying5 Try.underlying9⟩
  subst ha hb'
  rw [run_slice_lh w 23 _ _ _ ht' .i64 .i64 _ _ (by omega) (by omega) (by omega), he, sizeOf8]
  simp [Result.andThen]

set_option maxRecDepth 100000 in
theorem gettext_any (v : Value) (xs : List UInt8) (i most : Int) (w : World) (hb : Bs w v xs) (hx : xs.length ≤ 100000000) :
    Calls Try.prog 69 #[v, .int .i64 i, .int .i64 most] w fun e w' => e = .returned (tupT (gt xs i most) i) ∧ w = w' := by
  have hc := getuint_any v xs i w hb hx
  unfold gt
  obtain ⟨ao, cap, rfl, h2, h3⟩ := hb.len
  cases hg : gu xs i with
  | none =>
    rw [hg] at hc
    have Hc := Lib.hid hc
    clear hc hg hb
    go_enter Try.func69, Try.ntmps69
    go_wp2_with fail
    refine Hc.out.mono ?_
    rintro e w' ⟨rfl, rfl⟩
    unfold tupU
    go_wp2_with fail
    go_ret3
    exact ⟨rfl, rfl⟩
  | some p =>
    obtain ⟨n, k⟩ := p
    obtain ⟨g1, g2, g3, g4, g5, _⟩ := gu_lt hg
    rw [hg] at hc
    have Hc := Lib.hid hc
    clear hc hg
    obtain ⟨j, rfl⟩ := Int.eq_ofNat_of_zero_le g4
    simp only [Int.toNat_natCast]
    by_cases hn : (j : Int) + k + n ≤ xs.length
    · by_cases hm : (n : Int) ≤ most
      · rw [if_pos ⟨hm, hn⟩]
        obtain ⟨r, hr1, hr2⟩ := slice_bs hb (j + k) (j + k + n) (by omega) (by omega)
        rw [show j + k + n - (j + k) = n by omega] at hr2
        have hr3 := hr1 ((j : Int) + k) ((j : Int) + k + n) (by omega) (by omega)
        clear hr1 hb
        have hw : IntKind.u64.wrap ((xs.length : Int) - ((j : Int) + k)) = (xs.length : Int) - ((j : Int) + k) := by rw [IntKind.wrap_u64]; omega
        have hq : ¬ ((xs.length : Int) - ((j : Int) + k) < n) := by omega
        have hq2 : ¬ (most < n) := by omega
        go_enter Try.func69, Try.ntmps69
        go_wp2_with fail
        refine Hc.out.mono ?_
        rintro e w' ⟨rfl, rfl⟩
        unfold tupU
        go_wp2_with fail
        go_ret3
        exact ⟨congrArg (fun x => Ending.returned (.tuple #[.string (str ((xs.drop (j + k)).take n)), .int .i64 x, .bool true])) (by omega), rfl⟩
      · rw [if_neg (fun h => hm h.1)]
        have hw : IntKind.u64.wrap ((xs.length : Int) - ((j : Int) + k)) = (xs.length : Int) - ((j : Int) + k) := by rw [IntKind.wrap_u64]; omega
        have hq : ¬ ((xs.length : Int) - ((j : Int) + k) < n) := by omega
        have hq2 : most < n := by omega
        clear hb
        go_enter Try.func69, Try.ntmps69
        go_wp2_with fail
        refine Hc.out.mono ?_
        rintro e w' ⟨rfl, rfl⟩
        unfold tupU
        go_wp2_with fail
        go_ret3
        exact ⟨rfl, rfl⟩
    · rw [if_neg (fun h => hn h.2)]
      have hw : IntKind.u64.wrap ((xs.length : Int) - ((j : Int) + k)) = (xs.length : Int) - ((j : Int) + k) := by rw [IntKind.wrap_u64]; omega
      have hq : (xs.length : Int) - ((j : Int) + k) < n := by omega
      clear hb
      go_enter Try.func69, Try.ntmps69
      go_wp2_with fail
      refine Hc.out.mono ?_
      rintro e w' ⟨rfl, rfl⟩
      unfold tupU
      go_wp2_with fail
      go_ret3
      exact ⟨rfl, rfl⟩

set_option maxRecDepth 100000 in
theorem reftext_get (v : Value) (xs : List UInt8) (i most : Int) (w : World) (hb : Bs w v xs) (hx : xs.length ≤ 100000000) (hmo : most ≤ 9223372036854775807) :
    Calls Try.prog 70 #[v, .int .i64 i, .int .i64 most] w fun e w' => e = .returned (tupRT (gt xs i most)) ∧ Below w.heap.size w w' := by
  have hc := refget_any v xs i w hb hx
  unfold gt
  obtain ⟨ao, cap, rfl, h2, h3⟩ := hb.len
  cases hg : gu xs i with
  | none =>
    rw [hg] at hc
    have Hc := Lib.hid hc
    clear hc hg hb
    go_enter Try.func70, Try.ntmps70
    go_wp2_with fail
    refine Hc.out.mono ?_
    rintro e w' ⟨rfl, hbe⟩
    unfold tupR
    go_wp2_with fail
    go_ret2
    exact ⟨rfl, hbe⟩
  | some p =>
    obtain ⟨n, k⟩ := p
    obtain ⟨g1, g2, g3, g4, g5, _⟩ := gu_lt hg
    rw [hg] at hc
    have Hc := Lib.hid hc
    clear hc hg
    obtain ⟨j, rfl⟩ := Int.eq_ofNat_of_zero_le g4
    simp only [Int.toNat_natCast]
    have hk0 : ((k : Int) == 0) = false := by simp; omega
    by_cases hneg : most < 0
    · rw [if_neg (fun h => by omega)]
      clear hb
      go_enter Try.func70, Try.ntmps70
      go_wp2_with fail
      refine Hc.out.mono ?_
      rintro e w' ⟨rfl, hbe⟩
      unfold tupR
      go_wp2_with fail
      go_ret2
      exact ⟨rfl, hbe⟩
    · have hm0 : ¬ (most < 0) := hneg
      have hwm : IntKind.u64.wrap most = most := by rw [IntKind.wrap_u64]; omega
      by_cases hm : (n : Int) ≤ most
      · have hq2 : ¬ (most < n) := by omega
        have hw : IntKind.u64.wrap ((xs.length : Int) - j - k) = (xs.length : Int) - j - k := by rw [IntKind.wrap_u64]; omega
        by_cases hn : (j : Int) + k + n ≤ xs.length
        · rw [if_pos ⟨hm, hn⟩]
          have hq : ¬ ((xs.length : Int) - j - k < n) := by omega
          have Hb := Lib.hid hb
          clear hb
          go_enter Try.func70, Try.ntmps70
          go_wp2_with fail
          refine Hc.out.mono ?_
          rintro e w' ⟨rfl, hbe⟩
          unfold tupR
          obtain ⟨r, hr1, hr2⟩ := slice_bs (Hb.out.below hbe) (j + k) (j + k + n) (by omega) (by omega)
          rw [show j + k + n - (j + k) = n by omega] at hr2
          have hr3 := hr1 ((j : Int) + k) ((j : Int) + k + n) (by omega) (by omega)
          clear hr1
          have HBE := Lib.hid hbe
          clear hbe
          go_wp2_with fail
          go_ret2
          exact ⟨congrArg (fun x => Ending.returned (.tuple #[.string (str ((xs.drop (j + k)).take n)), .int .i64 x])) (by omega), HBE.out⟩
        · rw [if_neg (fun h => hn h.2)]
          have hq : (xs.length : Int) - j - k < n := by omega
          clear hb
          go_enter Try.func70, Try.ntmps70
          go_wp2_with fail
          refine Hc.out.mono ?_
          rintro e w' ⟨rfl, hbe⟩
          unfold tupR
          go_wp2_with fail
          go_ret2
          exact ⟨rfl, hbe⟩
      · rw [if_neg (fun h => hm h.1)]
        have hq2 : most < n := by omega
        clear hb
        go_enter Try.func70, Try.ntmps70
        go_wp2_with fail
        refine Hc.out.mono ?_
        rintro e w' ⟨rfl, hbe⟩
        unfold tupR
        go_wp2_with fail
        go_ret2
        exact ⟨rfl, hbe⟩
end Go.Proofs.Ytbdgdmieggpmhaa
