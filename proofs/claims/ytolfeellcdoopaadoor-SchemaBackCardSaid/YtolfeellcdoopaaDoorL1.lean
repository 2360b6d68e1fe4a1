/-
  Layer 1 (octets): all its texts as one.
-/
import Derived.Lib.Strings
import Derived.WalkKit
import Derived.Below
import Derived.ArgAppend
import Derived.Deep.Onto
import Derived.Lib.AppendStr
import Derived.Laws.BytesArg
import Derived.Lib.ConvBytes
import Derived.Laws.AppendOwnNone
import Derived.Laws.Slices
import Derived.Orders
import Derived.Tactics
import Derived.KernelRfl
import Derived.WalkLawsBesides
import Derived.IntWalk
import Derived.Test.YtolfeellcdoopaaDoorChecked
import Derived.ProofKit
import Derived.OpenShut
import Derived.ShutString
import Derived.ChangeOld
import Derived.Outline
import Derived.Lib.Hide
import Derived.LoopTactic
import Derived.WalkSpells
import Derived.Deep.DeepMust
import Derived.Lib.Zigzag
import Derived.BigQuiet
namespace Go.Proofs.YtolfeellcdoopaaDoor.Oct

/-- seven bits a byte, the lowest first -/
def uintB (n : Nat) : List UInt8 := if h : n < 128 then [UInt8.ofNat n] else UInt8.ofNat (n % 128 + 128) :: uintB (n / 128)
termination_by n
decreasing_by omega

theorem uintB_small {n : Nat} (h : n < 128) : uintB n = [UInt8.ofNat n] := by rw [uintB, dif_pos h]
theorem uintB_big {n : Nat} (h : 128 ≤ n) : uintB n = UInt8.ofNat (n % 128 + 128) :: uintB (n / 128) := by rw [uintB, dif_neg (by omega)]

def sizeN (n : Nat) : Nat := (uintB n).length
theorem sizeN_small {n : Nat} (h : n < 128) : sizeN n = 1 := by simp [sizeN, uintB_small h]
theorem sizeN_big {n : Nat} (h : 128 ≤ n) : sizeN n = sizeN (n / 128) + 1 := by simp [sizeN, uintB_big h]
theorem sizeN_pos (n : Nat) : 1 ≤ sizeN n := by
  by_cases h : n < 128
  · rw [sizeN_small h]; exact Nat.le_refl 1
  · rw [sizeN_big (by omega)]; omega

/-- less than 2^(7k) takes at most k bytes -/
theorem sizeN_le : ∀ (k n : Nat), 1 ≤ k → n < 2 ^ (7 * k) → sizeN n ≤ k
  | 0, _, h, _ => by omega
  | 1, n, _, h => by rw [sizeN_small (by simpa using h)]; exact Nat.le_refl 1
  | k + 2, n, _, h => by
    by_cases hn : n < 128
    · rw [sizeN_small hn]; omega
    · rw [sizeN_big (by omega)]
      have h2 : n / 128 < 2 ^ (7 * (k + 1)) := by
        rw [Nat.div_lt_iff_lt_mul (by decide)]
        rw [show 7 * (k + 2) = 7 * (k + 1) + 7 by omega, Nat.pow_add] at h
        exact h
      have := sizeN_le (k + 1) (n / 128) (by omega) h2
      omega
theorem sizeN_le10 {n : Nat} (h : n < 18446744073709551616) : sizeN n ≤ 10 :=
  sizeN_le 10 n (by omega) (Nat.lt_of_lt_of_le h (by decide))

/-- the bytes by places -/
theorem uintB_last : ∀ (n : Nat), n / 128 ^ (sizeN n - 1) < 128 := by
  intro n
  induction n using Nat.strongRecOn with
  | ind n ih =>
    by_cases h : n < 128
    · rw [sizeN_small h]; simpa using h
    · have h1 := ih (n / 128) (by omega)
      have hp := sizeN_pos (n / 128)
      rw [sizeN_big (by omega), show sizeN (n / 128) + 1 - 1 = (sizeN (n / 128) - 1) + 1 by omega, Nat.pow_succ, Nat.mul_comm, ← Nat.div_div_eq_div_mul]
      exact h1

def low (n i : Nat) : UInt8 := UInt8.ofNat (n / 128 ^ i % 128 + 128)
def heads (n : Nat) : Nat → List UInt8
  | 0 => []
  | k + 1 => heads n k ++ [low n k]
theorem heads_cons (n : Nat) : ∀ k, heads n (k + 1) = UInt8.ofNat (n % 128 + 128) :: heads (n / 128) k
  | 0 => by simp [heads, low]
  | k + 1 => by
    rw [heads, heads_cons n k, heads]
    simp only [List.cons_append, low]
    rw [Nat.pow_succ, Nat.mul_comm, ← Nat.div_div_eq_div_mul]
theorem uintB_heads : ∀ (n : Nat), uintB n = heads n (sizeN n - 1) ++ [UInt8.ofNat (n / 128 ^ (sizeN n - 1))] := by
  intro n
  induction n using Nat.strongRecOn with
  | ind n ih =>
    by_cases h : n < 128
    · rw [sizeN_small h, uintB_small h]; simp [heads]
    · have hp := sizeN_pos (n / 128)
      rw [sizeN_big (by omega), uintB_big (by omega), ih (n / 128) (by omega)]
      rw [show sizeN (n / 128) + 1 - 1 = (sizeN (n / 128) - 1) + 1 by omega, heads_cons, Nat.pow_succ, Nat.mul_comm, ← Nat.div_div_eq_div_mul]
      rfl

/-- a number's zigzag form -/
def zig (n : Int) : Nat := if 0 ≤ n then (2 * n).toNat else (-2 * n - 1).toNat
def intB (n : Int) : List UInt8 := uintB (zig n)
def textB (s : List UInt8) : List UInt8 := uintB s.length ++ s
def wordB (n : Nat) : List UInt8 := [UInt8.ofNat (n / 16777216), UInt8.ofNat (n / 65536 % 256), UInt8.ofNat (n / 256 % 256), UInt8.ofNat (n % 256)]

/-- Adler's two numbers -/
def adl : List UInt8 → Nat × Nat → Nat × Nat
  | [], p => p
  | c :: l, (x, y) => adl l ((x + c.toNat) % 65521, (y + (x + c.toNat) % 65521) % 65521)
def sumN (l : List UInt8) : Nat := (adl l (1, 0)).2 * 65536 + (adl l (1, 0)).1

theorem adl_append : ∀ (l m : List UInt8) (p : Nat × Nat), adl (l ++ m) p = adl m (adl l p)
  | [], _, _ => rfl
  | c :: l, m, (x, y) => by simp [adl, adl_append l m]
theorem adl_take (l : List UInt8) (k : Nat) (h : k < l.length) (p : Nat × Nat) : adl (l.take (k + 1)) p = (((adl (l.take k) p).1 + (l.getD k 0).toNat) % 65521, ((adl (l.take k) p).2 + ((adl (l.take k) p).1 + (l.getD k 0).toNat) % 65521) % 65521) := by
  have e : l.take (k + 1) = l.take k ++ [l.getD k 0] := by
    rw [List.take_succ_eq_append_getElem h, List.getD_eq_getElem?_getD, List.getElem?_eq_getElem h]; rfl
  rw [e, adl_append]
  rfl
theorem adl_lt : ∀ (l : List UInt8) (p : Nat × Nat), p.1 < 65521 → p.2 < 65521 → (adl l p).1 < 65521 ∧ (adl l p).2 < 65521
  | [], _, h1, h2 => ⟨h1, h2⟩
  | c :: l, (x, y), _, _ => adl_lt l _ (Nat.mod_lt _ (by decide)) (Nat.mod_lt _ (by decide))
end Go.Proofs.YtolfeellcdoopaaDoor.Oct

namespace Go.Proofs.YtolfeellcdoopaaDoor.By
open Go Go.RowKit

def c8 (x : UInt8) : Value := .int .u8 (x.toNat : Int)
theorem c8_one {xs : List UInt8} : ∀ u ∈ xs.map c8, u.oneCell' = true := fun u h => by
  obtain ⟨x, _, rfl⟩ := List.mem_map.1 h; rfl

/-- In the world w the value is a slice of the bytes xs. -/
def Bs (w : World) (v : Value) (xs : List UInt8) : Prop :=
  ∃ (ao : Option Addr) (cap : Nat), v = .slice ao xs.length cap ∧ xs.length ≤ cap ∧ cap ≤ maxLen ∧ (ao = none → cap = 0) ∧ ∀ ad, ao = some ad → ∀ j u, (xs.map c8)[j]? = some u → w.cell? (ad.add j) = some u

theorem Bs.below {w w' : World} {v : Value} {xs : List UInt8} (hb : Below w.heap.size w w') (h : Bs w v xs) : Bs w' v xs := by
  obtain ⟨ao, cap, h1, h2, h3, h4, h5⟩ := h
  refine ⟨ao, cap, h1, h2, h3, h4, fun ad ha j u hu => ?_⟩
  have h := h5 ad ha j u hu
  rw [hb.cell (World.block_lt_of_cell? w _ h)]
  exact h

theorem Bs.nil (w : World) : Bs w (.slice none 0 0) [] := ⟨none, 0, rfl, Nat.le_refl _, Nat.zero_le _, fun _ => rfl, fun _ h => by cases h⟩

theorem Bs.drew {w : World} {v : Value} {xs : List UInt8} (h : Bs w v xs) : Bs w.drew v xs := h.below ((Below.refl _ w).drew)

/-- A slice to which an append makes a row of the call's own: no room is left, or it is such a row already. -/
def Full (w : World) (B : Nat) (e : TypeId) (size : Nat) (v : Value) (n : Nat) (olds : List Value) : Prop :=
  (∃ ao, v = .slice ao n n ∧ (ao = none → n = 0) ∧ olds.length = n * size ∧ ∀ ad, ao = some ad → ∀ j u, olds[j]? = some u → w.cell? (ad.add j) = some u) ∨ w.ownsRow B e size v n olds

theorem Full.own {w : World} {B : Nat} {e : TypeId} {size : Nat} {v : Value} {n : Nat} {olds : List Value} (h : w.ownsRow B e size v n olds) : Full w B e size v n olds := .inr h
theorem Full.bs {w : World} {B : Nat} {e : TypeId} {ao : Option Addr} {xs : List UInt8} (h : Bs w (.slice ao xs.length xs.length) xs) : Full w B e 1 (.slice ao xs.length xs.length) xs.length (xs.map c8) := by
  obtain ⟨ao', cap, h1, h2, h3, h4, h5⟩ := h
  simp only [Value.slice.injEq] at h1
  obtain ⟨rfl, _, rfl⟩ := h1
  exact .inl ⟨ao, rfl, h4, by simp, h5⟩

theorem Full.alloc {w : World} {B : Nat} {e : TypeId} {size : Nat} {v : Value} {n : Nat} {olds : List Value} (h : Full w B e size v n olds) (o : Obj) : Full (w.alloc o) B e size v n olds := by
  rcases h with ⟨ao, h1, h2, h3, h4⟩ | h
  · refine .inl ⟨ao, h1, h2, h3, fun ad ha j u hu => ?_⟩
    have hc := h4 ad ha j u hu
    rw [World.cell?_alloc_lt _ _ _ (World.block_lt_of_cell? w _ hc)]
    exact hc
  · exact .inr (h.alloc o)

section
variable {P : Program} (w : World) {ops : Array Oper} {rest : List Oper} {o : Oper} {a : Act} {Q : Exit → Act → World → Prop}

/-- ONE LAW FOR BOTH: append to a full slice, or to a row of the call's own. -/
theorem wpList_append_fo (hg : o.guard = none) (s x : Operand) (t : TypeId) (hop : o.op = Op.call { callee := Callee.builtin Builtin.append, args := #[s, x], argTypes := #[t, t] })
    (e : TypeId) (i : TypeInfo) (z : Value) (size bytes : Nat) (h1 : P.underlying t = some (.slice e)) (h2 : P.info? e = some i) (h3 : i.zero = some z) (h4 : i.size = size) (h5 : i.bytes = bytes) (h6 : z.cells.size = size) (h7 : 0 < size)
    (B : Nat) (v : Value) (n : Nat) (olds : List Value) (hs : a.eval s = v) (hf : Full w B e size v n olds)
    (ad : Addr) (m c : Nat) (news : List Value) (hx : a.eval x = .slice (some ad) m c) (hn : news.length = m * size) (hc : ∀ j u, news[j]? = some u → w.cell? (ad.add j) = some u) (h1c : ∀ u ∈ news, u.oneCell' = true)
    (hm : 0 < m) (b1 : n + m ≤ maxLen) (b2 : (n + m) * bytes ≤ 140737488355328) (hB : B ≤ w.heap.size)
    (hK : ∀ v' w', w'.ownsRow B e size v' (n + m) (olds ++ news) → Below B w w' → wpList P ops Q rest (a.put o.dst v') w') :
    wpList P ops Q (o :: rest) a w := by
  rcases hf with ⟨ao, rfl, e2, e3, e4⟩ | hown
  · refine wpList_append_grows w hg s x t hop e i z size bytes h1 h2 h3 h4 h5 h6 h7 ao n n olds hs (fun h => ⟨e2 h, e2 h⟩) e3 e4 ad m c news hx hn hc h1c (by omega) b1 b2 (fun v' w' r1 r2 => ?_)
    exact hK v' w' (r1.mono hB) ((Below.refl B w).grown r2 hB (fun k hk => by cases hk))
  · refine wpList_append_own w hg s x t hop B e i z size bytes h1 h2 h3 h4 h5 h6 h7 v n olds hs hown ad m c news hx hn hc h1c b1 b2 hB (fun v' w' r1 r2 _ => ?_)
    exact hK v' w' r1 ((Below.refl B w).grown r2 hB (fun k hk => (hown.lt k hk).1))
end

theorem Bs.of_owns {w : World} {B : Nat} {e : TypeId} {v : Value} {n : Nat} {xs : List UInt8} (h : w.ownsRow B e 1 v n (xs.map c8)) : Bs w v xs := by
  have h0 := h
  obtain ⟨hl, hv⟩ := h
  simp at hl
  subst hl
  rcases hv with ⟨rfl, h2⟩ | ⟨g, cap, cur, rfl, h2, h3, h4, h5, h6, h7⟩
  · rw [List.eq_nil_of_length_eq_zero h2]; exact Bs.nil w
  · exact ⟨_, cap, rfl, h4, h5, (fun h => by cases h), fun ad ha j u hu => (by cases ha; exact h0.cells rfl j u hu)⟩

/-- a byte of a list, as a number -/
def bt (xs : List UInt8) (k : Nat) : Nat := (xs.getD k 0).toNat
theorem bt_lt (xs : List UInt8) (k : Nat) : bt xs k < 256 := UInt8.toNat_lt _

theorem Bs.form {w : World} {v : Value} {xs : List UInt8} (h : Bs w v xs) (hn : 0 < xs.length) :
    ∃ b o cap, v = .slice (some ⟨b, o, none⟩) xs.length cap ∧ xs.length ≤ cap ∧ cap ≤ maxLen ∧ ∀ k, k < xs.length → w.cell? ⟨b, o + k, none⟩ = some (.int .u8 (bt xs k : Int)) := by
  obtain ⟨ao, cap, rfl, h2, h3, h4, h5⟩ := h
  cases ao with
  | none => have := h4 rfl; omega
  | some ad =>
    obtain ⟨b, o, spot⟩ := ad
    have h0 := h5 _ rfl 0 (c8 xs[0]) (by simp [hn])
    have hs : spot = none := by simpa [Addr.add] using World.cell?_spot h0
    subst hs
    refine ⟨b, o, cap, rfl, h2, h3, fun k hk => ?_⟩
    have hc := h5 _ rfl k (c8 xs[k]) (by simp [hk])
    have hadd : (⟨b, o, none⟩ : Addr).add k = ⟨b, o + k, none⟩ := by unfold Addr.add; split <;> simp_all
    rw [hadd] at hc
    rw [hc, bt, List.getD_eq_getElem?_getD, List.getElem?_eq_getElem hk]
    rfl
theorem Bs.len {w : World} {v : Value} {xs : List UInt8} (h : Bs w v xs) : ∃ ao cap, v = .slice ao xs.length cap ∧ xs.length ≤ cap ∧ cap ≤ maxLen := by
  obtain ⟨ao, cap, rfl, h2, h3, _⟩ := h
  exact ⟨ao, cap, rfl, h2, h3⟩
theorem Bs.mk {w : World} {b o cap : Nat} {xs : List UInt8} (h2 : xs.length ≤ cap) (h3 : cap ≤ maxLen) (h : ∀ k, k < xs.length → w.cell? ⟨b, o + k, none⟩ = some (.int .u8 (bt xs k : Int))) : Bs w (.slice (some ⟨b, o, none⟩) xs.length cap) xs := by
  refine ⟨_, cap, rfl, h2, h3, (fun h => by cases h), fun ad ha k u hu => ?_⟩
  cases ha
  rw [List.getElem?_map] at hu
  obtain ⟨x, hx, rfl⟩ := Option.map_eq_some_iff.1 hu
  have hk : k < xs.length := (List.getElem?_eq_some_iff.1 hx).1
  have hadd : (⟨b, o, none⟩ : Addr).add k = ⟨b, o + k, none⟩ := by unfold Addr.add; split <;> simp_all
  rw [hadd, h k hk, bt, List.getD_eq_getElem?_getD, hx]
  rfl

theorem Bs.marked (w : World) (e : TypeId) (m : Nat × Nat) (xs : List UInt8) (hl : xs.length ≤ maxLen) : Bs (w.alloc (.cells (xs.map c8).toArray e m)) (.slice (some ⟨w.heap.size, 0, none⟩) xs.length xs.length) xs :=
  Bs.mk (Nat.le_refl _) hl fun k hk => by
    rw [Nat.zero_add, World.cell?_alloc_mark, bt, List.getD_eq_getElem?_getD]
    simp [hk, c8]

theorem add_add (ad : Addr) (l j : Nat) : (ad.add l).add j = ad.add (l + j) := by
  unfold Addr.add
  by_cases hl : l = 0
  · subst hl; simp
  · by_cases hj : j = 0
    · subst hj; simp
    · rw [if_neg hj, if_neg hl, if_neg (by omega)]
      simp [Nat.add_assoc]

/-- a part of it -/
theorem Bs.sub {w : World} {ao : Option Addr} {n cap : Nat} {X : List UInt8} (hb : Bs w (.slice ao n cap) X) (l h : Nat) (h1 : l ≤ h) (h2 : h ≤ X.length) : Bs w (sliced ao l h cap 1) ((X.drop l).take (h - l)) := by
  obtain ⟨ao', cap', e, e2, e3, e4, e5⟩ := hb
  simp only [Value.slice.injEq] at e
  obtain ⟨rfl, rfl, rfl⟩ := e
  have hlen : ((X.drop l).take (h - l)).length = h - l := by rw [List.length_take, List.length_drop]; omega
  unfold sliced
  rw [Nat.mul_one]
  refine ⟨_, cap - l, by rw [hlen], by omega, by omega, fun hn => ?_, fun ad ha j u hu => ?_⟩
  · by_cases hc : cap = l
    · omega
    · rw [if_neg hc] at hn
      cases ao with
      | none => have := e4 rfl; omega
      | some a => simp at hn
  · have hj : j < h - l := by
      rw [← hlen]
      simpa using (List.getElem?_eq_some_iff.1 hu).1
    by_cases hc : cap = l
    · omega
    · rw [if_neg hc] at ha
      cases ao with
      | none => simp at ha
      | some a =>
        simp at ha
        subst ha
        rw [add_add]
        refine e5 a rfl (l + j) u ?_
        rw [List.getElem?_map, List.getElem?_take, if_pos hj, List.getElem?_drop] at hu
        rw [List.getElem?_map]
        exact hu

theorem owns_form {w : World} {B : Nat} {e : TypeId} {s : Nat} {v : Value} {n : Nat} {xs : List Value} (h : w.ownsRow B e s v n xs) (hn : 0 < n) : ∃ g cap, v = .slice (some ⟨g, 0, none⟩) n cap := by
  rcases h.2 with ⟨_, h0⟩ | ⟨g, cap, _, rfl, _⟩
  · omega
  · exact ⟨g, cap, rfl⟩

theorem owns_below {w w' : World} {B : Nat} {e : TypeId} {s : Nat} {v : Value} {n : Nat} {xs : List Value} (h : w.ownsRow B e s v n xs) (hb : Below w.heap.size w w') : w'.ownsRow B e s v n xs := by
  have hlt := h.lt
  refine ⟨h.1, ?_⟩
  rcases h.2 with h0 | ⟨g, cap, cur, rfl, h2, h3, h4⟩
  · exact .inl h0
  · refine .inr ⟨g, cap, cur, rfl, h2, ?_, h4⟩
    rw [hb.block g (hlt g rfl).2]
    exact h3

/-- a literal: '[]byte{..}' -/
theorem owns_lit (w : World) (B : Nat) (e : TypeId) (xs : List UInt8) (hB : B ≤ w.heap.size) (hl : xs.length ≤ maxLen) : (w.alloc (.cells (xs.map c8).toArray e)).ownsRow B e 1 (.slice (some ⟨w.heap.size, 0, none⟩) xs.length xs.length) xs.length (xs.map c8) :=
  ⟨by simp, .inr ⟨w.heap.size, xs.length, _, rfl, hB, heap_alloc_new w _, Nat.le_refl _, hl, by simp, List.take_of_length_le (by simp)⟩⟩

theorem owns_new (w : World) (e : TypeId) (cs : List Value) (hl : cs.length ≤ maxLen) : (w.alloc (.cells cs.toArray e)).ownsRow w.heap.size e 1 (.slice (some ⟨w.heap.size, 0, none⟩) cs.length cs.length) cs.length cs :=
  ⟨by simp, .inr ⟨w.heap.size, cs.length, _, rfl, Nat.le_refl _, heap_alloc_new w _, Nat.le_refl _, hl, by simp, List.take_of_length_le (by simp)⟩⟩
theorem cells_new (w : World) (e : TypeId) (cs : List Value) (hl : cs.length ≤ maxLen) : ∀ j u, cs[j]? = some u → (w.alloc (.cells cs.toArray e)).cell? ((⟨w.heap.size, 0, none⟩ : Addr).add j) = some u :=
  (owns_new w e cs hl).cells rfl

theorem strCells_c8 (s : ByteArray) : Lib.strCells s = s.data.toList.map c8 := rfl

theorem bytesWorld_below (w : World) (e : TypeId) (s : ByteArray) : Below w.heap.size w (Lib.bytesWorld w e s) :=
  ⟨rfl, rfl, rfl, by rw [Lib.bytesWorld_size]; omega, fun k hk => Lib.bytesWorld_at_old w e s k hk⟩

theorem bytesWorld_cells (w : World) (e : TypeId) (s : ByteArray) : ∀ j u, (s.data.toList.map c8)[j]? = some u → (Lib.bytesWorld w e s).cell? ((⟨w.heap.size, 0, none⟩ : Addr).add j) = some u := by
  intro j u hu
  rw [List.getElem?_map] at hu
  obtain ⟨x, hx, rfl⟩ := Option.map_eq_some_iff.1 hu
  have hj : j < s.data.toList.length := (List.getElem?_eq_some_iff.1 hx).1
  have hadd : (⟨w.heap.size, 0, none⟩ : Addr).add j = ⟨w.heap.size, j, none⟩ := by unfold Addr.add; split <;> simp_all
  rw [hadd, Lib.bytesWorld_cell w e s j (show j < s.data.size from (Array.length_toList (xs := s.data)) ▸ hj), List.getD_eq_getElem?_getD, hx]
  rfl

/-- what a maker of bytes leaves: a row of its own with the bytes, and all that was there as it was -/
def Put (w : World) (E : TypeId) (xs : List UInt8) (e : Ending) (w' : World) : Prop :=
  ∃ g cap, e = .returned (.slice (some ⟨g, 0, none⟩) xs.length cap) ∧ w'.ownsRow w.heap.size E 1 (.slice (some ⟨g, 0, none⟩) xs.length cap) xs.length (xs.map c8) ∧ Below w.heap.size w w'

theorem Put.mk {w w' : World} {E : TypeId} {xs : List UInt8} {v : Value} (h : w'.ownsRow w.heap.size E 1 v xs.length (xs.map c8)) (hn : 0 < xs.length) (hb : Below w.heap.size w w') : Put w E xs (.returned v) w' := by
  obtain ⟨g, cap, rfl⟩ := owns_form h hn
  exact ⟨g, cap, rfl, h, hb⟩

section
variable {P : Program} (w : World) {ops : Array Oper} {rest : List Oper} {o : Oper} {a : Act} {Q : Exit → Act → World → Prop}
/-- append to a row of the call's own: any slice of bytes (nil, empty) as the source. -/
theorem wpList_append_bs (hg : o.guard = none) (s x : Operand) (t : TypeId) (hop : o.op = Op.call { callee := Callee.builtin Builtin.append, args := #[s, x], argTypes := #[t, t] })
    (B : Nat) (e : TypeId) (i : TypeInfo) (h1 : P.underlying t = some (.slice e)) (h2 : P.info? e = some i) (h3 : i.zero = some (.int .u8 0)) (h4 : i.size = 1) (h5 : i.bytes = 1)
    (v : Value) (xs : List UInt8) (hs : a.eval s = v) (hown : w.ownsRow B e 1 v xs.length (xs.map c8)) (v2 : Value) (ys : List UInt8) (hx : a.eval x = v2) (hb : Bs w v2 ys)
    (hl : xs.length + ys.length ≤ 100000000) (hB : B ≤ w.heap.size)
    (hK : ∀ v' w', w'.ownsRow B e 1 v' (xs ++ ys).length ((xs ++ ys).map c8) → Below B w w' → wpList P ops Q rest (a.put o.dst v') w') :
    wpList P ops Q (o :: rest) a w := by
  obtain ⟨ao, cap, rfl, e2, e3, e4, e5⟩ := hb
  cases ao with
  | some ad =>
    refine wpList_append_own w hg s x t hop B e i (.int .u8 0) 1 1 h1 h2 h3 h4 h5 rfl (by decide) v xs.length (xs.map c8) hs hown ad ys.length cap (ys.map c8) hx (by simp) (e5 ad rfl) c8_one (by unfold maxLen; omega) (by omega) hB (fun v' w' r1 r2 _ => ?_)
    exact hK v' w' (by rw [List.length_append, List.map_append]; exact r1) ((Below.refl B w).grown r2 hB (fun k hk => (hown.lt k hk).1))
  | none =>
    have hc := e4 rfl
    have h0 : ys.length = 0 := by omega
    have hy : ys = [] := List.eq_nil_of_length_eq_zero h0
    subst hy
    subst hc
    exact wpList_append_own_none hg s x t hop B e i 1 h1 h2 v xs.length (xs.map c8) hs hown hx (hK v w (by simpa using hown) (Below.refl _ _))
end

/-- A slice of bytes, as a string. -/
def str (xs : List UInt8) : ByteArray := ⟨xs.toArray⟩

theorem toList_str (xs : List UInt8) : (str xs).data.toList = xs := rfl
theorem str_size (xs : List UInt8) : (str xs).size = xs.length := by simp [str, ByteArray.size]
theorem str_append (xs ys : List UInt8) : str xs ++ str ys = str (xs ++ ys) := by
  apply ByteArray.ext
  simp [str, ByteArray.data_append]
theorem str_inj {xs ys : List UInt8} (h : str xs = str ys) : xs = ys := by
  have := congrArg (fun s : ByteArray => s.data.toList) h
  simpa [str] using this
theorem str_toList (s : ByteArray) : str s.data.toList = s := by
  apply ByteArray.ext
  simp [str]

theorem strOf_c8 (xs : List UInt8) : (xs.map fun x => (x.toNat : Int)).map (Value.int .u8) = xs.map c8 := by
  rw [List.map_map]; rfl

theorem run_convert_Bs {P : Program} {w : World} {v : Value} {xs : List UInt8} (h : Bs w v xs) (src e dst : TypeId) (hs : P.underlying src = some (.slice e)) (he : P.underlying e = some (.int .u8)) (hd : P.underlying dst = some .string) :
    (convert src dst v).run P w = .ok (.string (str xs)) w := by
  obtain ⟨ao, cap, rfl, h2, h3, h4, h5⟩ := h
  cases ao with
  | none =>
    have := h4 rfl
    rw [run_convert_bytes_nil w src e hs he _ _ dst hd, List.eq_nil_of_length_eq_zero (by omega : xs.length = 0)]
    rfl
  | some ad =>
    have hl : (loadCells ad xs.length).run P w = .ok ((xs.map fun x => (x.toNat : Int)).map (Value.int .u8)).toArray w := by
      rw [strOf_c8]
      have := run_loadCells_list (P := P) w ad (xs.map c8) (h5 ad rfl)
      simpa using this
    rw [run_convert_bytes_string w src dst e _ xs.length cap hs he hd, run_bytesToString w _ _ cap _ hl, foldl_push_bytes]
    congr 2
    apply ByteArray.ext
    simp only [str, ByteArray.empty, ByteArray.emptyWithCapacity, List.map_map]
    simp [Function.comp_def]
    rfl
end Go.Proofs.YtolfeellcdoopaaDoor.By

namespace Go.Proofs.YtolfeellcdoopaaDoor.Reg
open Go Go.RowKit

/-- What a slot holds, said of a world, and kept along R. -/
structure Spec (R : World → World → Prop) where
  V : World → Value → Prop
  keep : ∀ w w' v, R w w' → V w v → V w' v

def Spec.eq {R : World → World → Prop} (c : Value) : Spec R := ⟨fun _ v => v = c, fun _ _ _ _ h => h⟩
def Spec.any {R : World → World → Prop} : Spec R := ⟨fun _ _ => True, fun _ _ _ _ h => h⟩

section
variable {P : Program} {R : World → World → Prop} {ops : Array Oper} {S : List (Spec R)}

def spec (S : List (Spec R)) (i : Nat) : Spec R := S.getD i Spec.any

/-- Operation 'i' waits for operation 'j', by an edge. -/
def waitsFor (ops : Array Oper) (i j : Nat) : Bool := ((ops[i]?).map fun o => o.after.any fun e => Region.binds .any e && e.on == j).getD false
/-- .. by a chain of edges. -/
def behind (ops : Array Oper) : Nat → Nat → Nat → Bool
  | 0, _, _ => false
  | n + 1, i, j => waitsFor ops i j || ((ops[i]?).map fun o => o.after.any fun e => Region.binds .any e && behind ops n e.on j).getD false

def dstOf (ops : Array Oper) (j : Nat) : Option Tmp := (ops[j]?).bind (·.dst)

/-- At operation k: slot d holds what operation j left in it. -/
def newOk (ops : Array Oper) (n k j d : Nat) : Bool := behind ops n k j && dstOf ops j == some d
/-- At operation k: slot t has not been written yet. -/
def oldOk (ops : Array Oper) (n k t : Nat) : Bool := (List.range ops.size).all fun j => dstOf ops j != some t || j == k || behind ops n j k

structure Facts (ops : Array Oper) (S : List (Spec R)) (n : Nat) (a0 : Act) (k : Nat) (a : Act) (w : World) : Prop where
  new : ∀ j d, newOk ops n k j d = true → (spec S j).V w (a.eval (.tmp d))
  old : ∀ t, oldOk ops n k t = true → a.eval (.tmp t) = a0.eval (.tmp t)

def yieldsTo (P : Program) (o : Oper) (a : Act) (w : World) (T : World → Value → Prop) : Prop :=
  match (execOp a.eval o).run P w with
  | .ok (.value v) w' => T w' v
  | .ok .skip w' => T w' undef
  | .ok (.enter f args) w' => Calls P f args w' fun e w'' => ∃ v, e = .returned v ∧ T w'' v
  | _ => False

def okAt (P : Program) (ops : Array Oper) (o : Oper) (a : Act) (w : World) (T : World → Value → Prop) : Prop :=
  if Region.wanted o (yielded ops a.tmps) = true then yieldsTo P o a w T else T w undef

/-- All that is owed of the operations. -/
def Owed (P : Program) (ops : Array Oper) (S : List (Spec R)) (n : Nat) (a0 : Act) (w0 : World) : Nat → List Oper → Prop
  | _, [] => True
  | k, o :: l => (∀ a w, R w0 w → Facts ops S n a0 k a w → okAt P ops o a w (fun w' v => R w w' ∧ (spec S k).V w' v)) ∧ Owed P ops S n a0 w0 (k + 1) l

theorem Owed.nil {n : Nat} {a0 : Act} {w0 : World} {k : Nat} : Owed P ops S n a0 w0 k [] := trivial
theorem Owed.cons {n : Nat} {a0 : Act} {w0 : World} {k : Nat} {o : Oper} {l : List Oper} (h : ∀ a w, R w0 w → Facts ops S n a0 k a w → okAt P ops o a w (fun w' v => R w w' ∧ (spec S k).V w' v))
    (ht : Owed P ops S n a0 w0 (k + 1) l) : Owed P ops S n a0 w0 k (o :: l) := ⟨h, ht⟩

theorem Owed.get {n : Nat} {a0 : Act} {w0 : World} : ∀ (l : List Oper) (k i : Nat) (o : Oper), Owed P ops S n a0 w0 k l → l[i]? = some o →
    ∀ a w, R w0 w → Facts ops S n a0 (k + i) a w → okAt P ops o a w (fun w' v => R w w' ∧ (spec S (k + i)).V w' v)
  | [], _, _, _, _, h => by simp at h
  | x :: l, k, 0, o, H, h => by simp at h; subst h; exact H.1
  | x :: l, k, i + 1, o, H, h => by
    have := Owed.get l (k + 1) i o H.2 (by simpa using h)
    rwa [show k + 1 + i = k + (i + 1) by omega] at this

/-- What stands behind the region, the slots filled. -/
def putAll (y : Nat → Value) : Nat → List Oper → Act → Act
  | _, [], a => a
  | k, o :: l, a => putAll y (k + 1) l (a.put o.dst (y k))

/-- The shape of a region that the law serves: every operation has a slot of its own, within the frame; edges go back. -/
def shapeB (size : Nat) (ops : Array Oper) : Bool :=
  (ops.toList.all fun o => (o.dst.map fun d => decide (d < size)).getD false) && decide ((ops.toList.map (·.dst)).Nodup) &&
  (List.range ops.size).all fun i => ((ops[i]?).map fun o => o.after.all fun e => !Region.binds .any e || decide (e.on < i)).getD true

structure Inv (ops : Array Oper) (S : List (Spec R)) (a0 : Act) (listed : Array Bool) (a : Act) (w : World) : Prop where
  size : a.tmps.size = a0.tmps.size
  defers : a.defers = a0.defers
  new : ∀ j o d, ops[j]? = some o → listed.getD j false = true → o.dst = some d → (spec S j).V w (a.eval (.tmp d))
  old : ∀ t, (∀ j o, ops[j]? = some o → listed.getD j false = true → o.dst ≠ some t) → a.eval (.tmp t) = a0.eval (.tmp t)
  down : ∀ i j, listed.getD i false = true → waitsFor ops i j = true → listed.getD j false = true
  len : listed.size = ops.size

theorem waitsFor_iff {i j : Nat} {o : Oper} (h : ops[i]? = some o) : waitsFor ops i j = true ↔ ∃ e ∈ o.after, Region.binds .any e = true ∧ e.on = j := by
  simp only [waitsFor, h, Option.map_some, Option.getD_some, Array.any_eq_true', Bool.and_eq_true, beq_iff_eq]

theorem behind_listed {listed : Array Bool} (hd : ∀ i j, listed.getD i false = true → waitsFor ops i j = true → listed.getD j false = true) :
    ∀ (n i j : Nat), (∀ j, waitsFor ops i j = true → listed.getD j false = true) → behind ops n i j = true → listed.getD j false = true := by
  intro n
  induction n with
  | zero => intro i j _ h; simp [behind] at h
  | succ n ih =>
    intro i j hi h
    simp only [behind, Bool.or_eq_true] at h
    rcases h with h | h
    · exact hi j h
    · cases ho : ops[i]? with
      | none => simp [ho] at h
      | some o =>
        simp only [ho, Option.map_some, Option.getD_some, Array.any_eq_true', Bool.and_eq_true] at h
        obtain ⟨e, he, hb, hn⟩ := h
        have hl := hi e.on ((waitsFor_iff ho).2 ⟨e, he, hb, rfl⟩)
        exact ih e.on j (fun j' hj' => hd _ _ hl hj') hn

theorem eval_put_same {a : Act} {d : Tmp} {v : Value} (h : d < a.tmps.size) : (a.put (some d) v).eval (.tmp d) = v := by
  simp [Act.put, Act.eval, Array.getD, h]

theorem eval_put_other {a : Act} {d t : Tmp} {v : Value} (h : d ≠ t) : (a.put (some d) v).eval (.tmp t) = a.eval (.tmp t) :=
  Act.eval_put fun d' hd' => by cases hd'; exact fun e => h (by cases e; rfl)

def unl (listed : Array Bool) : Nat := (listed.toList.filter fun b => !b).length

theorem unl_set : ∀ (l : List Bool) (i : Nat), l[i]? = some false → ((l.set i true).filter fun b => !b).length + 1 = (l.filter fun b => !b).length
  | [], i, h => by simp at h
  | b :: l, 0, h => by simp at h; subst h; simp
  | b :: l, i + 1, h => by
    have := unl_set l i (by simpa using h)
    cases b <;> simp <;> omega

theorem unl_step {listed : Array Bool} {i : Nat} (h : listed.getD i true = false) : unl (listed.setIfInBounds i true) + 1 = unl listed := by
  unfold unl
  rw [Array.toList_setIfInBounds]
  refine unl_set _ _ ?_
  rcases Nat.lt_or_ge i listed.size with h' | h'
  · simp [h'] at h; simp [h', h]
  · simp [Array.getElem?_eq_none h'] at h

theorem unl_zero {listed : Array Bool} (h : unl listed = 0) (i : Nat) : listed.getD i true = true := by
  unfold unl at h
  rcases Nat.lt_or_ge i listed.size with h' | h'
  · have h0 : listed.toList.filter (fun b => !b) = [] := List.eq_nil_of_length_eq_zero h
    rw [List.filter_eq_nil_iff] at h0
    have := h0 listed[i] (by simp)
    simpa [h'] using this
  · simp [Array.getElem?_eq_none h']

theorem getD_false_of_true {listed : Array Bool} {i : Nat} (h : listed.getD i true = false) : listed.getD i false = false := by
  rcases Nat.lt_or_ge i listed.size with h' | h'
  · simp [h'] at h ⊢; exact h
  · simp [Array.getElem?_eq_none h'] at h

theorem putAll_size (y : Nat → Value) : ∀ (l : List Oper) (k : Nat) (a : Act), (putAll y k l a).tmps.size = a.tmps.size ∧ (putAll y k l a).defers = a.defers
  | [], _, _ => ⟨rfl, rfl⟩
  | o :: l, k, a => by
    obtain ⟨h1, h2⟩ := putAll_size y l (k + 1) (a.put o.dst (y k))
    refine ⟨h1.trans ?_, h2.trans ?_⟩ <;> cases o.dst <;> simp [Act.put]

theorem putAll_other (y : Nat → Value) (t : Tmp) : ∀ (l : List Oper) (k : Nat) (a : Act), (∀ o ∈ l, o.dst ≠ some t) → (putAll y k l a).eval (.tmp t) = a.eval (.tmp t)
  | [], _, _, _ => rfl
  | o :: l, k, a, h => by
    rw [putAll, putAll_other y t l (k + 1) _ (fun o ho => h o (List.mem_cons_of_mem _ ho))]
    exact Act.eval_put fun d hd e => h o List.mem_cons_self (by cases e; exact hd)

theorem putAll_at (y : Nat → Value) : ∀ (l : List Oper) (k : Nat) (a : Act) (i : Nat) (o : Oper) (d : Tmp), (l.map (·.dst)).Nodup → l[i]? = some o → o.dst = some d → d < a.tmps.size → (putAll y k l a).eval (.tmp d) = y (k + i)
  | [], _, _, _, _, _, _, h, _, _ => by simp at h
  | x :: l, k, a, 0, o, d, hn, h, hd, hs => by
    simp at h; subst h
    rw [List.map_cons, List.nodup_cons] at hn
    rw [putAll, putAll_other y d l (k + 1) _ (fun o ho e => hn.1 (List.mem_map.2 ⟨o, ho, by rw [e, hd]⟩)), hd]
    exact eval_put_same hs
  | x :: l, k, a, i + 1, o, d, hn, h, hd, hs => by
    rw [List.map_cons, List.nodup_cons] at hn
    rw [putAll, putAll_at y l (k + 1) _ i o d hn.2 (by simpa using h) hd (by cases x.dst <;> simpa [Act.put] using hs)]
    congr 1; omega

theorem act_ext {a b : Act} (hs : a.tmps.size = b.tmps.size) (hd : a.defers = b.defers) (h : ∀ t, a.eval (.tmp t) = b.eval (.tmp t)) : a = b := by
  obtain ⟨x, p⟩ := a
  obtain ⟨y, q⟩ := b
  dsimp only at hs hd
  subst hd
  congr 1
  refine Array.ext hs fun i h1 h2 => ?_
  have := h i
  simpa [Act.eval, h1, h2] using this

/-- **THE LAW.** -/
theorem wp_region_specs {id n size : Nat} {Q : Exit → Act → World → Prop} {a0 : Act} {w0 : World} {l : List Oper} (hm : P.follows .mixedOrders = true)
    (hT : ∀ a b c, R a b → R b c → R a c) (hdr : R w0 w0.drew) (hsz : a0.tmps.size = size)
    (hB : shapeB size l.toArray = true) (H : Owed P l.toArray S n a0 w0 0 l)
    (hend : ∀ (y : Nat → Value) w', R w0 w' → (∀ j o, l[j]? = some o → (spec S j).V w' (y j)) → Q .normal (putAll y 0 l a0) w') :
    (Code.region id l.toArray true).wp P Q a0 w0 := by
  simp only [shapeB, Bool.and_eq_true, List.all_eq_true, decide_eq_true_eq, List.mem_range] at hB
  obtain ⟨⟨hdst, hnd⟩, hback⟩ := hB
  have hdst' : ∀ (j : Nat) (o : Oper), l.toArray[j]? = some o → ∃ d, o.dst = some d ∧ d < size := fun j o ho => by
    have h1 := hdst o (by simpa using Array.mem_of_getElem? ho)
    cases hd : o.dst with
    | none => simp [hd] at h1
    | some d => simp [hd] at h1; exact ⟨d, rfl, h1⟩
  have hinj : ∀ (i j : Nat) (oi oj : Oper), l.toArray[i]? = some oi → l.toArray[j]? = some oj → oi.dst = oj.dst → i = j := fun i j oi oj hi hj he => by
    have hi' : l[i]? = some oi := by simpa using hi
    have hj' : l[j]? = some oj := by simpa using hj
    have h1 : (l.map (·.dst))[i]? = some oi.dst := by simp [hi']
    have h2 : (l.map (·.dst))[j]? = some oi.dst := by simp [hj', he]
    have hli : i < (l.map (·.dst)).length := by rw [List.getElem?_eq_some_iff] at h1; exact h1.1
    exact (List.getElem?_inj hli hnd).1 (h1.trans h2.symm)
  have hback' : ∀ j o, l.toArray[j]? = some o → ∀ e ∈ o.after, Region.binds .any e = true → e.on < j := fun j o ho e he hb => by
    have := hback j (Array.getElem?_eq_some_iff.1 ho).1
    simp only [ho, Option.map_some, Option.getD_some, Array.all_eq_true_iff_forall_mem, Bool.or_eq_true, Bool.not_eq_true', decide_eq_true_eq] at this
    exact (this e he).resolve_left (by simp [hb])
  -- the walk of whatever order
  have main : ∀ (fuel : Nat) (listed : Array Bool) (a : Act) (w : World), unl listed = fuel → R w0 w → Inv l.toArray S a0 listed a w → wpAny P .any l.toArray Q fuel listed a w := by
    have fin : ∀ (listed : Array Bool) (a : Act) (w : World), R w0 w → Inv l.toArray S a0 listed a w → (∀ j, listed.getD j true = true) → Q .normal a w := fun listed a w hw I hall => by
      have hall' : ∀ j o, l.toArray[j]? = some o → listed.getD j false = true := fun j o ho => by
        have hlt : j < listed.size := by rw [I.len]; exact (Array.getElem?_eq_some_iff.1 ho).1
        have := hall j
        simp [hlt] at this ⊢; exact this
      have he : a = putAll (fun j => a.eval (.tmp ((dstOf l.toArray j).getD 0))) 0 l a0 := by
        obtain ⟨p1, p2⟩ := putAll_size (fun j => a.eval (.tmp ((dstOf l.toArray j).getD 0))) l 0 a0
        refine act_ext (by rw [p1, I.size]) (by rw [p2, I.defers]) fun t => ?_
        by_cases ht : ∃ o ∈ l, o.dst = some t
        · obtain ⟨o, ho, hd⟩ := ht
          obtain ⟨i, hi⟩ := List.getElem?_of_mem ho
          have hsd := hdst o ho
          rw [hd] at hsd
          rw [putAll_at _ l 0 a0 i o t hnd hi hd (by rw [hsz]; simpa using hsd)]
          simp [dstOf, hi, hd]
        · rw [putAll_other _ t l 0 a0 (fun o ho hd => ht ⟨o, ho, hd⟩)]
          exact I.old t (fun j o ho _ hd => ht ⟨o, by simpa using Array.mem_of_getElem? ho, hd⟩)
      rw [he]
      refine hend _ w hw fun j o ho => ?_
      have ho' : l.toArray[j]? = some o := by simpa using ho
      obtain ⟨d, hd, _⟩ := hdst' j o ho'
      have := I.new j o d ho' (hall' j o ho') hd
      simpa [dstOf, ho, hd] using this
    intro fuel
    induction fuel with
    | zero =>
      intro listed a w hf hw I
      have hall := unl_zero hf
      refine ⟨?_, fin listed a w hw I hall⟩
      unfold Region.ready
      rw [List.filter_eq_nil_iff]
      intro j _
      simp [hall j]
    | succ fuel ih =>
      intro listed a w hf hw I
      refine ⟨fun h0 => fin listed a w hw I ?_, fun i hi => ?_⟩
      · -- nothing is ready: all is listed
        intro j
        induction j using Nat.strongRecOn with
        | ind j ihj =>
          by_cases hj : listed.getD j true = true
          · exact hj
          · exfalso
            have hj' : listed.getD j true = false := by simpa using hj
            have hlt : j < listed.size := by
              rcases Nat.lt_or_ge j listed.size with h' | h'
              · exact h'
              · simp [Array.getElem?_eq_none h'] at hj'
            have hlt' : j < l.toArray.size := by rw [← I.len]; exact hlt
            have hmem : j ∈ Region.ready .any l.toArray listed := by
              rw [mem_ready]
              refine ⟨hj', l.toArray[j], by simp, fun e he hb => ?_⟩
              have h1 := hback' j _ (Array.getElem?_eq_getElem hlt') e he hb
              have h2 := ihj e.on h1
              have hlt2 : e.on < listed.size := Nat.lt_trans h1 hlt
              simp [hlt2] at h2 ⊢; exact h2
            rw [h0] at hmem
            cases hmem
      · obtain ⟨hun, o, ho, hall⟩ := mem_ready.1 hi
        obtain ⟨d, hd, hds⟩ := hdst' i o ho
        have hunf := getD_false_of_true hun
        have hilt : i < listed.size := by rw [I.len]; exact (Array.getElem?_eq_some_iff.1 ho).1
        have hpre : ∀ j, waitsFor l.toArray i j = true → listed.getD j false = true := fun j hj => by
          obtain ⟨e, he, hb, rfl⟩ := (waitsFor_iff ho).1 hj
          exact hall e he hb
        have F : Facts l.toArray S n a0 i a w := by
          refine ⟨fun j d' h => ?_, fun t h => ?_⟩
          · simp only [newOk, Bool.and_eq_true, beq_iff_eq] at h
            have hl := behind_listed I.down n i j hpre h.1
            obtain ⟨oj, hoj, hdj⟩ := Option.bind_eq_some_iff.1 h.2
            exact I.new j oj d' hoj hl hdj
          · refine I.old t fun j oj hoj hl hdj => ?_
            simp only [oldOk, List.all_eq_true, List.mem_range, Bool.or_eq_true, bne_iff_ne, ne_eq, beq_iff_eq] at h
            rcases h j (Array.getElem?_eq_some_iff.1 hoj).1 with (h | h) | h
            · exact h (by simp [dstOf, hoj, hdj])
            · subst h; rw [hunf] at hl; cases hl
            · have := behind_listed I.down n j i (fun j' hj' => I.down _ _ hl hj') h
              rw [hunf] at this; cases this
        have hob := Owed.get l 0 i o H (by simpa using ho) a w hw (by simpa using F)
        rw [Nat.zero_add] at hob
        -- what holds behind it
        have next : ∀ (v : Value) (w' : World), R w w' → (spec S i).V w' v → wpAny P .any l.toArray Q fuel (listed.setIfInBounds i true) (a.put o.dst v) w' := fun v w' hww hv => by
          refine ih _ _ _ (by have := unl_step hun; omega) (hT _ _ _ hw hww) ?_
          rw [hd]
          refine ⟨by simp [Act.put, I.size], by simp [Act.put, I.defers], fun j oj dj hoj hl hdj => ?_, fun t ht => ?_, fun i' j' hl hwt => ?_, by simp [I.len]⟩
          · by_cases hij : j = i
            · subst hij
              rw [ho] at hoj; cases hoj
              rw [hd] at hdj; cases hdj
              rw [eval_put_same (by rw [I.size, hsz]; exact hds)]
              exact hv
            · rw [getD_set_ne false (Ne.symm hij)] at hl
              have hne : d ≠ dj := fun e => hij (hinj j i oj o hoj ho (by rw [hdj, hd, e]))
              rw [eval_put_other hne]
              exact (spec S j).keep _ _ _ hww (I.new j oj dj hoj hl hdj)
          · have hne : d ≠ t := fun e => ht i o ho (by simp [hilt]) (by rw [hd, e])
            rw [eval_put_other hne]
            exact I.old t fun j oj hoj hl => ht j oj hoj (getD_set_true hl)
          · by_cases hii : i' = i
            · subst hii; exact getD_set_true (hpre j' hwt)
            · rw [getD_set_ne false (Ne.symm hii)] at hl
              exact getD_set_true (I.down _ _ hl hwt)
        unfold wpOp
        simp only [ho]
        unfold okAt at hob
        split
        · rename_i hwt
          rw [if_pos hwt] at hob
          refine .inl ?_
          unfold yieldsTo at hob
          unfold Oper.wp
          generalize (execOp a.eval o).run P w = r at *
          cases r with
          | ok nx w' =>
            cases nx <;> simp only [] at hob <;> simp only [Oper.upon]
            case value v => exact next _ _ hob.1 hob.2
            case skip => exact next _ _ hob.1 hob.2
            case enter f args => exact hob.mono fun e w'' ⟨v, he, h1, h2⟩ => by subst he; exact next _ _ h1 h2
          | halt x w' => simp only [] at hob
        · rename_i hwt
          rw [if_neg hwt] at hob
          exact next _ _ hob.1 hob.2
  refine wp_region_any hm (main _ _ _ _ (by simp [unl]) hdr ⟨rfl, rfl, fun j o d _ h _ => ?_, fun _ _ => rfl, fun i j h _ => ?_, by simp⟩)
  · exfalso
    rcases Nat.lt_or_ge j l.length with h' | h' <;> simp [h'] at h
  · exfalso
    rcases Nat.lt_or_ge i l.length with h' | h' <;> simp [h'] at h
end
end Go.Proofs.YtolfeellcdoopaaDoor.Reg

namespace Go.Proofs.YtolfeellcdoopaaDoor.Reg
open Go Go.RowKit By

/-- worlds that keep all that was there -/
def Rb (w w' : World) : Prop := Below w.heap.size w w'
theorem Rb.refl (w : World) : Rb w w := Below.refl _ _
theorem Rb.trans (a b c : World) (h : Rb a b) (k : Rb b c) : Rb a c := Below.trans h (Below.mono k h.size)
theorem Rb.drew (w : World) : Rb w w.drew := (Below.refl _ w).drew

def bsSpec (xs : List UInt8) : Spec Rb := ⟨fun w v => Bs w v xs, fun _ _ _ h k => Bs.below h k⟩
def strV (xs : List UInt8) : Value := .string (str xs)

section
variable {P : Program} {ops : Array Oper} {o : Oper} {a : Act} {w : World} {T : World → Value → Prop}

theorem wanted_none (hg : o.guard = none) : Region.wanted o (yielded ops a.tmps) = true := by simp [Region.wanted, hg]

theorem yielded_of {j d : Nat} {b : Bool} (hd : dstOf ops j = some d) (he : a.eval (.tmp d) = .bool b) : yielded ops a.tmps j = some b := by
  unfold yielded
  have hd' : (ops[j]?).bind (·.dst) = some d := hd
  rw [hd']
  simp only [Option.bind_some]
  simp only [Act.eval, Array.getD_eq_getD_getElem?] at he
  cases h : a.tmps[d]? with
  | none => rw [h] at he; cases he
  | some v => rw [h] at he; simp only [Option.getD_some] at he; subst he; rfl

theorem wanted_true {j d : Nat} {b : Bool} (hg : o.guard = some (j, b)) (hd : dstOf ops j = some d) (he : a.eval (.tmp d) = .bool b) : Region.wanted o (yielded ops a.tmps) = true := by
  simp [Region.wanted, hg, yielded_of hd he]
theorem wanted_false {j d : Nat} {b : Bool} (hg : o.guard = some (j, b)) (hd : dstOf ops j = some d) (he : a.eval (.tmp d) = .bool (!b)) : Region.wanted o (yielded ops a.tmps) = false := by
  simp [Region.wanted, hg, yielded_of hd he]

theorem wanted_undef {j d : Nat} {b : Bool} (hg : o.guard = some (j, b)) (hd : dstOf ops j = some d) (he : a.eval (.tmp d) = undef) : Region.wanted o (yielded ops a.tmps) = false := by
  have hy : yielded ops a.tmps j = none := by
    unfold yielded
    have hd' : (ops[j]?).bind (·.dst) = some d := hd
    rw [hd']
    simp only [Option.bind_some]
    simp only [Act.eval, Array.getD_eq_getD_getElem?] at he
    cases h : a.tmps[d]? with
    | none => rfl
    | some v => rw [h] at he; simp only [Option.getD_some] at he; subst he; rfl
  simp [Region.wanted, hg, hy]
theorem ok_skip (hw : Region.wanted o (yielded ops a.tmps) = false) (h : T w undef) : okAt P ops o a w T := by
  unfold okAt; rw [if_neg (by rw [hw]; exact Bool.false_ne_true)]; exact h
theorem ok_value {v : Value} {w' : World} (hw : Region.wanted o (yielded ops a.tmps) = true) (hr : (execOp a.eval o).run P w = .ok (.value v) w') (h : T w' v) : okAt P ops o a w T := by
  unfold okAt yieldsTo; rw [if_pos hw, hr]; exact h
theorem ok_move (x : Operand) (ho : o.op = .move x) (hw : Region.wanted o (yielded ops a.tmps) = true) (h : T w (a.eval x)) : okAt P ops o a w T :=
  ok_value hw (by simp [execOp, ho]) h
theorem ok_assign (x : Operand) (ho : o.op = .assign x) (hw : Region.wanted o (yielded ops a.tmps) = true) (h : T w (a.eval x)) : okAt P ops o a w T :=
  ok_value hw (by simp [execOp, ho]) h
theorem ok_pick (c x y : Operand) (b : Bool) (ho : o.op = .pick c x y) (hw : Region.wanted o (yielded ops a.tmps) = true) (hc : a.eval c = .bool b) (h : T w (if b then a.eval x else a.eval y)) : okAt P ops o a w T :=
  ok_value (w' := w) hw (by simp [execOp, ho, hc, asBool]) h
theorem ok_conv (src dst : TypeId) (x : Operand) {v : Value} (ho : o.op = .convert src dst x) (hw : Region.wanted o (yielded ops a.tmps) = true) (hr : (convert src dst (a.eval x)).run P w = .ok v w) (h : T w v) : okAt P ops o a w T :=
  ok_value hw (by simp [execOp, ho, hr, Result.andThen]) h
theorem ok_call (f : FuncId) (args : Array Operand) (tys : Array TypeId) (vs : Array Value) (ho : o.op = .call { callee := .value (.func f), args := args, argTypes := tys }) (hw : Region.wanted o (yielded ops a.tmps) = true)
    (ha : args.map a.eval = vs) (hcf : (callFunc f vs).run P w = .ok (.enter f vs) w) (hc : Calls P f vs w fun e w'' => ∃ v, e = .returned v ∧ T w'' v) : okAt P ops o a w T := by
  unfold okAt yieldsTo
  rw [if_pos hw]
  have : (execOp a.eval o).run P w = .ok (.enter f vs) w := by
    have e : execOp a.eval o = callFunc f (#[] ++ args.map a.eval ++ #[]) := by
      simp only [execOp, ho]; rfl
    rw [e, ha]
    simpa using hcf
  rw [this]
  exact hc

def binSem (op : BinOp) (xT : TypeId) (x y : Operand) (u v : Value) : Sem Value := do
  eqGuard op xT x y u v
  binOp op xT u v
theorem ok_bin (op : BinOp) (xT yT : TypeId) (x y : Operand) {u1 u2 v : Value} (ho : o.op = .binOp op xT x y yT) (hw : Region.wanted o (yielded ops a.tmps) = true) (hx : a.eval x = u1) (hy : a.eval y = u2)
    (hr : (binSem op xT x y u1 u2).run P w = .ok v w) (h : T w v) : okAt P ops o a w T := by
  refine ok_value (w' := w) (v := v) hw ?_ h
  have e : execOp a.eval o = (do let r ← binSem op xT x y u1 u2; pure (.value r)) := by
    simp only [execOp, ho, hx, hy, binSem]
  rw [e]
  simp [hr, Result.andThen]
theorem run_eql_strV (t : TypeId) (x y : Operand) (X Y : List UInt8) : (binSem .eql t x y (strV X) (strV Y)).run P w = .ok (.bool (X == Y)) w := by
  have h : ∀ xs, (str xs).toList = xs := fun xs => Lib.toList_data _
  simp [binSem, strV, go_sem, h]
theorem run_neq_strV (t : TypeId) (x y : Operand) (X Y : List UInt8) : (binSem .neq t x y (strV X) (strV Y)).run P w = .ok (.bool (X != Y)) w := by
  have h : ∀ xs, (str xs).toList = xs := fun xs => Lib.toList_data _
  simp [binSem, strV, go_sem, h, bne]
theorem run_add_strV (t : TypeId) (x y : Operand) (X Y : List UInt8) (hl : X.length + Y.length ≤ 9223372036854775807) : (binSem .add t x y (strV X) (strV Y)).run P w = .ok (strV (X ++ Y)) w := by
  simp [binSem, strV, go_sem, str_append, str_size, hl]
theorem run_eql_int (t : TypeId) (x y : Operand) (k : IntKind) (n m : Int) : (binSem .eql t x y (.int k n) (.int k m)).run P w = .ok (.bool (n == m)) w := by
  simp [binSem, go_sem]
theorem run_neq_int (t : TypeId) (x y : Operand) (k : IntKind) (n m : Int) : (binSem .neq t x y (.int k n) (.int k m)).run P w = .ok (.bool (n != m)) w := by
  simp [binSem, go_sem]
theorem run_eql_boolB (t : TypeId) (x y : Operand) (n m : Bool) (ht : P.underlying t = some .bool) : (binSem .eql t x y (.bool n) (.bool m)).run P w = .ok (.bool (n == m)) w := by
  simp [binSem, go_sem, binOp, run_equal_bool w t n m ht]
theorem run_neq_boolB (t : TypeId) (x y : Operand) (n m : Bool) (ht : P.underlying t = some .bool) : (binSem .neq t x y (.bool n) (.bool m)).run P w = .ok (.bool (n != m)) w := by
  simp [binSem, go_sem, binOp, run_equal_bool w t n m ht, bne]
theorem ok_len_bs (x : Operand) (t e : TypeId) (ht : P.underlying t = some (.slice e)) (X : List UInt8) (ho : o.op = .call { callee := .builtin .len, args := #[x], argTypes := #[t] }) (hw : Region.wanted o (yielded ops a.tmps) = true) (hx : Bs w (a.eval x) X) (h : T w (.int .i64 X.length)) : okAt P ops o a w T := by
  obtain ⟨ao, cap, e, h2, h3⟩ := hx.len
  unfold maxLen at h3
  refine ok_value (w' := w) (v := .int .i64 X.length) hw ?_ h
  have hg : goInt (X.length : Int) = .int .i64 X.length := rfl
  simp only [execOp, ho, resolve, invoke, Sem.run_bind, Sem.run_pure, Result.andThen_ok, List.map_toArray, List.map_cons, List.map_nil, e]
  simp [builtin, Builtin.len_, run_underlying ht, Result.andThen, hg]

theorem run_add_i64 (t : TypeId) (x y : Operand) (n m : Int) (h0 : -9223372036854775808 ≤ n + m) (h1 : n + m ≤ 9223372036854775807) : (binSem .add t x y (.int .i64 n) (.int .i64 m)).run P w = .ok (.int .i64 (n + m)) w := by
  simp [binSem, go_sem]
  exact IntWalk.i64_in _ ⟨h0, h1⟩
theorem ok_slice_bs (t e : TypeId) (x lo hi : Operand) (X : List UInt8) (l h : Nat) (ho : o.op = .slice t x (some lo) (some hi) none) (hw : Region.wanted o (yielded ops a.tmps) = true)
    (ht : P.underlying t = some (.slice e)) (hz : ∀ w, (sizeOf e).run P w = .ok 1 w) (hx : Bs w (a.eval x) X) (hl : a.eval lo = .int .i64 (l : Int)) (hh : a.eval hi = .int .i64 (h : Int)) (h1 : l ≤ h) (h2 : h ≤ X.length)
    (hT : ∀ v, Bs w v ((X.drop l).take (h - l)) → T w v) : okAt P ops o a w T := by
  obtain ⟨ao, cap, e0, e2, e3⟩ := hx.len
  have ht' : P.underlying t = some (.slice (P.elem t)) := by simp [Program.elem, ht]
  have he : P.elem t = e := by simp [Program.elem, ht]
  refine ok_value (w' := w) (v := sliced ao l h cap 1) hw ?_ (hT _ ?_)
  · simp only [execOp, ho, Option.map_some, Option.map_none, e0, hl, hh, Sem.run_bind, run_sliceAt_slice w t _ _ _ _ ht']
    rw [run_slice_lh w t _ _ _ ht' .i64 .i64 _ _ (by omega) (by omega) (by omega), he, hz]
    simp [Result.andThen]
  · rw [e0] at hx
    exact hx.sub l h h1 h2

theorem ok_not (xT : TypeId) (x : Operand) (b : Bool) (ho : o.op = .unOp .not xT x) (hw : Region.wanted o (yielded ops a.tmps) = true) (hx : a.eval x = .bool b) (h : T w (.bool (!b))) : okAt P ops o a w T :=
  ok_value (w' := w) hw (by simp [execOp, ho, hx, Op.unary]) h

theorem ok_index (t e : TypeId) (x i : Operand) {b o' n cap k : Nat} (ho : o.op = .indexAddr t x i) (hw : Region.wanted o (yielded ops a.tmps) = true)
    (ht : P.underlying t = some (.slice e)) (hz : ∀ w, (sizeOf e).run P w = .ok 1 w) (hx : a.eval x = .slice (some ⟨b, o', none⟩) n cap) (hi : a.eval i = .int .i64 (k : Int)) (hk : k < n) (h : T w (.pointer (some ⟨b, o' + k, none⟩))) : okAt P ops o a w T := by
  have ht' : P.underlying t = some (.slice (P.elem t)) := by simp [Program.elem, ht]
  have he : P.elem t = e := by simp [Program.elem, ht]
  refine ok_value (w' := w) hw ?_ h
  have hadd : (⟨b, o', none⟩ : Addr).add k = ⟨b, o' + k, none⟩ := by unfold Addr.add; split <;> simp_all
  simp only [execOp, ho, hx, hi, Sem.run_bind]
  rw [run_indexAt_slice w t _ _ _ _ _ ht', if_pos ⟨by omega, by omega⟩, he, hz]
  simp [Result.andThen, hadd]
theorem ok_load (t : TypeId) (x : Operand) {ad : Addr} {v : Value} (ho : o.op = .load t x) (hw : Region.wanted o (yielded ops a.tmps) = true)
    (hx : a.eval x = .pointer (some ad)) (hr : (Instr.loadAt t (.pointer (some ad))).run P w = .ok v w) (h : T w v) : okAt P ops o a w T := by
  refine ok_value (w' := w) hw ?_ h
  simp only [execOp, ho, hx, Sem.run_bind, hr]
  simp [Result.andThen]

/-- from a contract that leaves the world as it was, or only more of it -/
theorem call_below {f : FuncId} {vs : Array Value} {V : World → Value → Prop} (h : Calls P f vs w fun e w' => ∃ v, e = .returned v ∧ Below w.heap.size w w' ∧ V w' v) : Calls P f vs w fun e w'' => ∃ v, e = .returned v ∧ Rb w w'' ∧ V w'' v := h
end
end Go.Proofs.YtolfeellcdoopaaDoor.Reg

namespace Go.Proofs.YtolfeellcdoopaaDoor.Reg
open Go Go.RowKit

section
variable {P : Program} {R : World → World → Prop} {ops : Array Oper} {S : List (Spec R)}

theorem behind_lt {l : List Oper} (hback : ∀ j o, l.toArray[j]? = some o → ∀ e ∈ o.after, Region.binds .any e = true → e.on < j) :
    ∀ (n i j : Nat), behind l.toArray n i j = true → j < i := by
  intro n
  induction n with
  | zero => intro i j h; simp [behind] at h
  | succ n ih =>
    intro i j h
    simp only [behind, Bool.or_eq_true] at h
    rcases h with h | h
    · cases ho : l.toArray[i]? with
      | none => simp [waitsFor, ho] at h
      | some o =>
        obtain ⟨e, he, hb, rfl⟩ := (waitsFor_iff ho).1 h
        exact hback i o ho e he hb
    · cases ho : l.toArray[i]? with
      | none => simp [ho] at h
      | some o =>
        simp only [ho, Option.map_some, Option.getD_some, Array.any_eq_true', Bool.and_eq_true] at h
        obtain ⟨e, he, hb, hn⟩ := h
        have := ih e.on j hn
        have := hback i o ho e he hb
        omega

structure InvP (l : List Oper) (S : List (Spec R)) (a0 : Act) (k : Nat) (a : Act) (w : World) : Prop where
  size : a.tmps.size = a0.tmps.size
  defers : a.defers = a0.defers
  new : ∀ j o d, j < k → l[j]? = some o → o.dst = some d → (spec S j).V w (a.eval (.tmp d))
  old : ∀ t, (∀ j o, j < k → l[j]? = some o → o.dst ≠ some t) → a.eval (.tmp t) = a0.eval (.tmp t)

theorem wp_region_plain_specs {id n size : Nat} {Q : Exit → Act → World → Prop} {a0 : Act} {w0 : World} {l : List Oper}
    (hT : ∀ a b c, R a b → R b c → R a c) (hr0 : R w0 w0) (hsz : a0.tmps.size = size)
    (hB : shapeB size l.toArray = true) (H : Owed P l.toArray S n a0 w0 0 l)
    (hend : ∀ (y : Nat → Value) w', R w0 w' → (∀ j o, l[j]? = some o → (spec S j).V w' (y j)) → Q .normal (putAll y 0 l a0) w') :
    (Code.region id l.toArray false).wp P Q a0 w0 := by
  simp only [shapeB, Bool.and_eq_true, List.all_eq_true, decide_eq_true_eq, List.mem_range] at hB
  obtain ⟨⟨hdst, hnd⟩, hback⟩ := hB
  have hdst' : ∀ (j : Nat) (o : Oper), l[j]? = some o → ∃ d, o.dst = some d ∧ d < size := fun j o ho => by
    have h1 := hdst o (by simpa using List.mem_of_getElem? ho)
    cases hd : o.dst with
    | none => simp [hd] at h1
    | some d => simp [hd] at h1; exact ⟨d, rfl, h1⟩
  have hinj : ∀ (i j : Nat) (oi oj : Oper), l[i]? = some oi → l[j]? = some oj → oi.dst = oj.dst → i = j := fun i j oi oj hi' hj' he => by
    have h1 : (l.map (·.dst))[i]? = some oi.dst := by simp [hi']
    have h2 : (l.map (·.dst))[j]? = some oi.dst := by simp [hj', he]
    have hli : i < (l.map (·.dst)).length := by rw [List.getElem?_eq_some_iff] at h1; exact h1.1
    exact (List.getElem?_inj hli hnd).1 (h1.trans h2.symm)
  have hback' : ∀ j o, l.toArray[j]? = some o → ∀ e ∈ o.after, Region.binds .any e = true → e.on < j := fun j o ho e he hb => by
    have := hback j (Array.getElem?_eq_some_iff.1 ho).1
    simp only [ho, Option.map_some, Option.getD_some, Array.all_eq_true_iff_forall_mem, Bool.or_eq_true, Bool.not_eq_true', decide_eq_true_eq] at this
    exact (this e he).resolve_left (by simp [hb])
  have main : ∀ (rest : List Oper) (k : Nat) (a : Act) (w : World), rest = l.drop k → k ≤ l.length → R w0 w → InvP l S a0 k a w → wpList P l.toArray Q rest a w := by
    intro rest
    induction rest with
    | nil =>
      intro k a w hr hk hw I
      have hkl : k = l.length := by
        have := congrArg List.length hr
        simp at this; omega
      subst hkl
      have he : a = putAll (fun j => a.eval (.tmp ((dstOf l.toArray j).getD 0))) 0 l a0 := by
        obtain ⟨p1, p2⟩ := putAll_size (fun j => a.eval (.tmp ((dstOf l.toArray j).getD 0))) l 0 a0
        refine act_ext (by rw [p1, I.size]) (by rw [p2, I.defers]) fun t => ?_
        by_cases ht : ∃ o ∈ l, o.dst = some t
        · obtain ⟨o, ho, hd⟩ := ht
          obtain ⟨i, hi⟩ := List.getElem?_of_mem ho
          have hsd := hdst o ho
          rw [hd] at hsd
          rw [putAll_at _ l 0 a0 i o t hnd hi hd (by rw [hsz]; simpa using hsd)]
          simp [dstOf, hi, hd]
        · rw [putAll_other _ t l 0 a0 (fun o ho hd => ht ⟨o, ho, hd⟩)]
          exact I.old t (fun j o _ ho hd => ht ⟨o, List.mem_of_getElem? ho, hd⟩)
      show Q .normal a w
      rw [he]
      refine hend _ w hw fun j o ho => ?_
      obtain ⟨d, hd, _⟩ := hdst' j o ho
      have := I.new j o d (List.getElem?_eq_some_iff.1 ho).1 ho hd
      simpa [dstOf, ho, hd] using this
    | cons o rest ih =>
      intro k a w hr hk hw I
      have hkl : k < l.length := by
        have := congrArg List.length hr
        simp at this; omega
      have ho : l[k]? = some o := by
        have h1 : (l.drop k)[0]? = some o := by rw [← hr]; rfl
        simpa using h1
      have hr' : rest = l.drop (k + 1) := by
        rw [List.drop_eq_getElem_cons hkl] at hr
        exact (List.cons.inj hr).2
      obtain ⟨d, hd, hds⟩ := hdst' k o ho
      have F : Facts l.toArray S n a0 k a w := by
        refine ⟨fun j d' h => ?_, fun t h => ?_⟩
        · simp only [newOk, Bool.and_eq_true, beq_iff_eq] at h
          have hl := behind_lt hback' n k j h.1
          obtain ⟨oj, hoj, hdj⟩ := Option.bind_eq_some_iff.1 h.2
          exact I.new j oj d' hl (by simpa using hoj) hdj
        · refine I.old t fun j oj hl hoj hdj => ?_
          simp only [oldOk, List.all_eq_true, List.mem_range, Bool.or_eq_true, bne_iff_ne, ne_eq, beq_iff_eq] at h
          rcases h j (by have := (List.getElem?_eq_some_iff.1 hoj).1; simpa using this) with (h | h) | h
          · exact h (by simp [dstOf, hoj, hdj])
          · omega
          · have := behind_lt hback' n j k h; omega
      have hob := Owed.get l 0 k o H ho a w hw (by simpa using F)
      rw [Nat.zero_add] at hob
      have next : ∀ (v : Value) (w' : World), R w w' → (spec S k).V w' v → wpList P l.toArray Q rest (a.put o.dst v) w' := fun v w' hww hv => by
        refine ih (k + 1) _ _ hr' hkl (hT _ _ _ hw hww) ?_
        rw [hd]
        refine ⟨by simp [Act.put, I.size], by simp [Act.put, I.defers], fun j oj dj hl hoj hdj => ?_, fun t ht => ?_⟩
        · by_cases hij : j = k
          · subst hij
            rw [ho] at hoj; cases hoj
            rw [hd] at hdj; cases hdj
            rw [eval_put_same (by rw [I.size, hsz]; exact hds)]
            exact hv
          · have hne : d ≠ dj := fun e => hij (hinj j k oj o hoj ho (by rw [hdj, hd, e]))
            rw [eval_put_other hne]
            exact (spec S j).keep _ _ _ hww (I.new j oj dj (by omega) hoj hdj)
        · have hne : d ≠ t := fun e => ht k o (by omega) ho (by rw [hd, e])
          rw [eval_put_other hne]
          exact I.old t fun j oj hl hoj => ht j oj (by omega) hoj
      show (if Region.wanted o (yielded l.toArray a.tmps) then o.wp P a w (wpList P l.toArray Q rest) Q ∨ (o.asks P a w ∧ LetsOut Q) else wpList P l.toArray Q rest (a.put o.dst undef) w)
      unfold okAt at hob
      split
      · rename_i hwt
        rw [if_pos hwt] at hob
        refine .inl ?_
        unfold yieldsTo at hob
        unfold Oper.wp
        generalize (execOp a.eval o).run P w = r at *
        cases r with
        | ok nx w' =>
          cases nx <;> simp only [] at hob <;> simp only [Oper.upon]
          case value v => exact next _ _ hob.1 hob.2
          case skip => exact next _ _ hob.1 hob.2
          case enter f args => exact hob.mono fun e w'' ⟨v, he, h1, h2⟩ => by subst he; exact next _ _ h1 h2
        | halt x w' => simp only [] at hob
      · rename_i hwt
        rw [if_neg hwt] at hob
        exact next _ _ hob.1 hob.2
  refine wp_region_lit (main l 0 a0 w0 rfl (Nat.zero_le _) hr0 ⟨rfl, rfl, fun j o d h => by omega, fun _ _ => rfl⟩)
end
end Go.Proofs.YtolfeellcdoopaaDoor.Reg

namespace Go.Proofs.YtolfeellcdoopaaDoor.Reg
open Go Go.RowKit

section
variable {P : Program} {R : World → World → Prop} {ops : Array Oper} {S : List (Spec R)}

def shapeS (size : Nat) (ops : Array Oper) : Bool :=
  (ops.toList.all fun o => (o.dst.map fun d => decide (d < size)).getD true) && decide ((ops.toList.map (·.dst)).Nodup) &&
  (List.range ops.size).all fun i => ((ops[i]?).map fun o => o.after.all fun e => !Region.binds .any e || decide (e.on < i)).getD true

structure InvS (ops : Array Oper) (S : List (Spec R)) (a0 : Act) (listed : Array Bool) (a : Act) (w : World) : Prop where
  size : a.tmps.size = a0.tmps.size
  defers : a.defers = a0.defers
  new : ∀ j o, ops[j]? = some o → listed.getD j false = true → ∃ v, (spec S j).V w v ∧ ∀ d, o.dst = some d → a.eval (.tmp d) = v
  old : ∀ t, (∀ j o, ops[j]? = some o → listed.getD j false = true → o.dst ≠ some t) → a.eval (.tmp t) = a0.eval (.tmp t)
  down : ∀ i j, listed.getD i false = true → waitsFor ops i j = true → listed.getD j false = true
  len : listed.size = ops.size

theorem wp_region_store_specs {id n size : Nat} {Q : Exit → Act → World → Prop} {a0 : Act} {w0 : World} {l : List Oper} (hm : P.follows .mixedOrders = true)
    (hT : ∀ a b c, R a b → R b c → R a c) (hdr : R w0 w0.drew) (hsz : a0.tmps.size = size)
    (hB : shapeS size l.toArray = true) (H : Owed P l.toArray S n a0 w0 0 l)
    (hend : ∀ (y : Nat → Value) w', R w0 w' → (∀ j o, l[j]? = some o → (spec S j).V w' (y j)) → Q .normal (putAll y 0 l a0) w') :
    (Code.region id l.toArray true).wp P Q a0 w0 := by
  simp only [shapeS, Bool.and_eq_true, List.all_eq_true, decide_eq_true_eq, List.mem_range] at hB
  obtain ⟨⟨hdst, hnd⟩, hback⟩ := hB
  have hdst' : ∀ (j : Nat) (o : Oper) (d : Tmp), l.toArray[j]? = some o → o.dst = some d → d < size := fun j o d ho hd => by
    have h1 := hdst o (by simpa using Array.mem_of_getElem? ho)
    rw [hd] at h1
    simpa using h1
  have hinj : ∀ (i j : Nat) (oi oj : Oper), l.toArray[i]? = some oi → l.toArray[j]? = some oj → oi.dst = oj.dst → i = j := fun i j oi oj hi hj he => by
    have hi' : l[i]? = some oi := by simpa using hi
    have hj' : l[j]? = some oj := by simpa using hj
    have h1 : (l.map (·.dst))[i]? = some oi.dst := by simp [hi']
    have h2 : (l.map (·.dst))[j]? = some oi.dst := by simp [hj', he]
    have hli : i < (l.map (·.dst)).length := by rw [List.getElem?_eq_some_iff] at h1; exact h1.1
    exact (List.getElem?_inj hli hnd).1 (h1.trans h2.symm)
  have hback' : ∀ j o, l.toArray[j]? = some o → ∀ e ∈ o.after, Region.binds .any e = true → e.on < j := fun j o ho e he hb => by
    have := hback j (Array.getElem?_eq_some_iff.1 ho).1
    simp only [ho, Option.map_some, Option.getD_some, Array.all_eq_true_iff_forall_mem, Bool.or_eq_true, Bool.not_eq_true', decide_eq_true_eq] at this
    exact (this e he).resolve_left (by simp [hb])
  have main : ∀ (fuel : Nat) (listed : Array Bool) (a : Act) (w : World), unl listed = fuel → R w0 w → InvS l.toArray S a0 listed a w → wpAny P .any l.toArray Q fuel listed a w := by
    have fin : ∀ (listed : Array Bool) (a : Act) (w : World), R w0 w → InvS l.toArray S a0 listed a w → (∀ j, listed.getD j true = true) → Q .normal a w := fun listed a w hw I hall => by
      have hall' : ∀ j o, l.toArray[j]? = some o → listed.getD j false = true := fun j o ho => by
        have hlt : j < listed.size := by rw [I.len]; exact (Array.getElem?_eq_some_iff.1 ho).1
        have := hall j
        simp [hlt] at this ⊢; exact this
      have hch : ∀ j, ∃ v, ∀ o, l.toArray[j]? = some o → (spec S j).V w v ∧ ∀ d, o.dst = some d → a.eval (.tmp d) = v := fun j => by
        cases ho : l.toArray[j]? with
        | none => exact ⟨undef, fun o h => by cases h⟩
        | some o =>
          obtain ⟨v, h1, h2⟩ := I.new j o ho (hall' j o ho)
          exact ⟨v, fun o' h => by cases h; exact ⟨h1, h2⟩⟩
      obtain ⟨y, hy⟩ := Classical.axiomOfChoice hch
      have he : a = putAll y 0 l a0 := by
        obtain ⟨p1, p2⟩ := putAll_size y l 0 a0
        refine act_ext (by rw [p1, I.size]) (by rw [p2, I.defers]) fun t => ?_
        by_cases ht : ∃ o ∈ l, o.dst = some t
        · obtain ⟨o, ho, hd⟩ := ht
          obtain ⟨i, hi⟩ := List.getElem?_of_mem ho
          have hi' : l.toArray[i]? = some o := by simpa using hi
          rw [putAll_at _ l 0 a0 i o t hnd hi hd (by rw [hsz]; exact hdst' i o t hi' hd), Nat.zero_add]
          exact (hy i o hi').2 t hd
        · rw [putAll_other _ t l 0 a0 (fun o ho hd => ht ⟨o, ho, hd⟩)]
          exact I.old t (fun j o ho _ hd => ht ⟨o, by simpa using Array.mem_of_getElem? ho, hd⟩)
      rw [he]
      exact hend y w hw fun j o ho => (hy j o (by simpa using ho)).1
    intro fuel
    induction fuel with
    | zero =>
      intro listed a w hf hw I
      have hall := unl_zero hf
      refine ⟨?_, fin listed a w hw I hall⟩
      unfold Region.ready
      rw [List.filter_eq_nil_iff]
      intro j _
      simp [hall j]
    | succ fuel ih =>
      intro listed a w hf hw I
      refine ⟨fun h0 => fin listed a w hw I ?_, fun i hi => ?_⟩
      · intro j
        induction j using Nat.strongRecOn with
        | ind j ihj =>
          by_cases hj : listed.getD j true = true
          · exact hj
          · exfalso
            have hj' : listed.getD j true = false := by simpa using hj
            have hlt : j < listed.size := by
              rcases Nat.lt_or_ge j listed.size with h' | h'
              · exact h'
              · simp [Array.getElem?_eq_none h'] at hj'
            have hlt' : j < l.toArray.size := by rw [← I.len]; exact hlt
            have hmem : j ∈ Region.ready .any l.toArray listed := by
              rw [mem_ready]
              refine ⟨hj', l.toArray[j], by simp, fun e he hb => ?_⟩
              have h1 := hback' j _ (Array.getElem?_eq_getElem hlt') e he hb
              have h2 := ihj e.on h1
              have hlt2 : e.on < listed.size := Nat.lt_trans h1 hlt
              simp [hlt2] at h2 ⊢; exact h2
            rw [h0] at hmem
            cases hmem
      · obtain ⟨hun, o, ho, hall⟩ := mem_ready.1 hi
        have hunf := getD_false_of_true hun
        have hilt : i < listed.size := by rw [I.len]; exact (Array.getElem?_eq_some_iff.1 ho).1
        have hpre : ∀ j, waitsFor l.toArray i j = true → listed.getD j false = true := fun j hj => by
          obtain ⟨e, he, hb, rfl⟩ := (waitsFor_iff ho).1 hj
          exact hall e he hb
        have F : Facts l.toArray S n a0 i a w := by
          refine ⟨fun j d' h => ?_, fun t h => ?_⟩
          · simp only [newOk, Bool.and_eq_true, beq_iff_eq] at h
            have hl := behind_listed I.down n i j hpre h.1
            obtain ⟨oj, hoj, hdj⟩ := Option.bind_eq_some_iff.1 h.2
            obtain ⟨v, h1, h2⟩ := I.new j oj hoj hl
            rw [h2 d' hdj]; exact h1
          · refine I.old t fun j oj hoj hl hdj => ?_
            simp only [oldOk, List.all_eq_true, List.mem_range, Bool.or_eq_true, bne_iff_ne, ne_eq, beq_iff_eq] at h
            rcases h j (Array.getElem?_eq_some_iff.1 hoj).1 with (h | h) | h
            · exact h (by simp [dstOf, hoj, hdj])
            · subst h; rw [hunf] at hl; cases hl
            · have := behind_listed I.down n j i (fun j' hj' => I.down _ _ hl hj') h
              rw [hunf] at this; cases this
        have hob := Owed.get l 0 i o H (by simpa using ho) a w hw (by simpa using F)
        rw [Nat.zero_add] at hob
        have next : ∀ (v : Value) (w' : World), R w w' → (spec S i).V w' v → wpAny P .any l.toArray Q fuel (listed.setIfInBounds i true) (a.put o.dst v) w' := fun v w' hww hv => by
          refine ih _ _ _ (by have := unl_step hun; omega) (hT _ _ _ hw hww) ?_
          refine ⟨by cases o.dst <;> simp [Act.put, I.size], by cases o.dst <;> simp [Act.put, I.defers], fun j oj hoj hl => ?_, fun t ht => ?_, fun i' j' hl hwt => ?_, by simp [I.len]⟩
          · by_cases hij : j = i
            · subst hij
              rw [ho] at hoj; cases hoj
              refine ⟨v, hv, fun d hd => ?_⟩
              rw [hd, eval_put_same (by rw [I.size, hsz]; exact hdst' j o d ho hd)]
            · rw [getD_set_ne false (Ne.symm hij)] at hl
              obtain ⟨vj, h1, h2⟩ := I.new j oj hoj hl
              refine ⟨vj, (spec S j).keep _ _ _ hww h1, fun dj hdj => ?_⟩
              cases hd : o.dst with
              | none => exact h2 dj hdj
              | some d =>
                have hne : d ≠ dj := fun e => hij (hinj j i oj o hoj ho (by rw [hdj, hd, e]))
                rw [eval_put_other hne]
                exact h2 dj hdj
          · cases hd : o.dst with
            | none => exact I.old t fun j oj hoj hl => ht j oj hoj (getD_set_true hl)
            | some d =>
              have hne : d ≠ t := fun e => ht i o ho (by simp [hilt]) (by rw [hd, e])
              rw [eval_put_other hne]
              exact I.old t fun j oj hoj hl => ht j oj hoj (getD_set_true hl)
          · by_cases hii : i' = i
            · subst hii; exact getD_set_true (hpre j' hwt)
            · rw [getD_set_ne false (Ne.symm hii)] at hl
              exact getD_set_true (I.down _ _ hl hwt)
        unfold wpOp
        simp only [ho]
        unfold okAt at hob
        split
        · rename_i hwt
          rw [if_pos hwt] at hob
          refine .inl ?_
          unfold yieldsTo at hob
          unfold Oper.wp
          generalize (execOp a.eval o).run P w = r at *
          cases r with
          | ok nx w' =>
            cases nx <;> simp only [] at hob <;> simp only [Oper.upon]
            case value v => exact next _ _ hob.1 hob.2
            case skip => exact next _ _ hob.1 hob.2
            case enter f args => exact hob.mono fun e w'' ⟨v, he, h1, h2⟩ => by subst he; exact next _ _ h1 h2
          | halt x w' => simp only [] at hob
        · rename_i hwt
          rw [if_neg hwt] at hob
          exact next _ _ hob.1 hob.2
  refine wp_region_any hm (main _ _ _ _ (by simp [unl]) hdr ⟨rfl, rfl, fun j o _ h => ?_, fun _ _ => rfl, fun i j h _ => ?_, by simp⟩)
  · exfalso
    rcases Nat.lt_or_ge j l.length with h' | h' <;> simp [h'] at h
  · exfalso
    rcases Nat.lt_or_ge i l.length with h' | h' <;> simp [h'] at h
end
end Go.Proofs.YtolfeellcdoopaaDoor.Reg

namespace Go.Proofs.YtolfeellcdoopaaDoor
open Go.ChangeShapes Go.WideShapes Go.ChangeAt Go.RowKit Oct

def U64 : Nat := 18446744073709551616

set_option maxRecDepth 100000 in
theorem size_any (n : Nat) (w : World) (h : n < U64) :
    Calls Tryd.prog 112 #[.int .u64 n] w fun e w' => e = .returned (.int .i64 (sizeN n)) ∧ w = w' := by
  have H := Lib.hid h; clear h
  go_enter Tryd.func112, Tryd.ntmps112
  go_wp2
  go_loop [0, 3] (fun x s => ∃ m k : Nat, m ≤ n ∧ k ≤ 10 ∧ k + sizeN m = sizeN n + 1 ∧ x = .int .u64 m ∧ s = .int .i64 k) (fun x _ => (intOf x).toNat)
  case atStart => exact ⟨n, 1, Nat.le_refl _, by omega, by omega, rfl, rfl⟩
  case round =>
    obtain ⟨m, k, hm, hk, hs0, rfl, rfl⟩ := hrel
    have hs := Lib.hid hs0; clear hs0
    by_cases hlt : m < 128
    · go_wp2
      go_ret
      refine ⟨?_, rfl⟩
      have e : k = sizeN n := by have := hs.out; rw [sizeN_small hlt] at this; omega
      rw [e]; rfl
    · have hge : 128 ≤ m := by omega
      have hsz := Lib.hid (sizeN_big hge)
      have hk10 : sizeN n ≤ 10 := sizeN_le10 H.out
      go_wp2
      go_round
      case rel =>
        have e1 := hs.out
        have e2 := hsz.out
        have := sizeN_pos (m / 128)
        exact ⟨m / 128, k + 1, by omega, by omega, by omega, by go_num, by go_num⟩
      case measure => simp [intOf]; omega
end Go.Proofs.YtolfeellcdoopaaDoor

namespace Go.Proofs.YtolfeellcdoopaaDoor
open Go.ChangeShapes Go.WideShapes Go.ChangeAt Go.RowKit Oct By

theorem info8 : (Tryd.prog.info? 5).map (fun i => (i.zero, i.size, i.bytes)) = some (some (.int .u8 0), 1, 1) := by kernel_rfl

theorem or128 : ∀ x : Fin 256, bits BinOp.or IntKind.u8 (x.val : Int) 128 = ((x.val % 128 + 128 : Nat) : Int) := by decide +kernel

theorem pow_cast (k : Nat) : (2 : Int) ^ (7 * k) = ((128 ^ k : Nat) : Int) := by
  rw [show (128 : Nat) = 2 ^ 7 from rfl, ← Nat.pow_mul, Int.natCast_pow]; rfl
theorem div_cast (n k : Nat) : (n : Int) / 2 ^ (7 * k) % 256 = ((n / 128 ^ k % 256 : Nat) : Int) := by
  rw [pow_cast]; rfl
theorem low_c8 (n k : Nat) : c8 (low n k) = .int .u8 (bits BinOp.or IntKind.u8 ((n : Int) / 2 ^ (7 * k) % 256) 128) := by
  have h := or128 ⟨n / 128 ^ k % 256, Nat.mod_lt _ (by decide)⟩
  rw [div_cast, h]
  unfold c8 low
  rw [UInt8.toNat_ofNat']
  congr 2
  simp only []
  omega
theorem last_c8 (n k : Nat) : c8 (UInt8.ofNat (n / 128 ^ k)) = .int .u8 ((n : Int) / 2 ^ (7 * k) % 256) := by
  rw [div_cast]
  unfold c8
  rw [UInt8.toNat_ofNat']
theorem heads_length (n : Nat) : ∀ k, (heads n k).length = k
  | 0 => rfl
  | k + 1 => by simp [heads, heads_length n k]

theorem apart_any (a : Option Addr) (len cap : Nat) (w : World) (h1 : len ≤ cap) (_h2 : cap ≤ 9223372036854775807) :
    Calls Tryd.prog 111 #[.slice a len cap] w fun e w' => e = .returned (.slice a len len) ∧ w = w' := by
  go_enter Tryd.func111, Tryd.ntmps111
  go_wp2
  go_ret
  exact ⟨rfl, rfl⟩

def Loop (w : World) (xs : List UInt8) (n k : Nat) (v : Value) (wr : World) : Prop :=
  Full wr w.heap.size 5 1 v (xs.length + k) ((xs ++ heads n k).map c8) ∧ Below w.heap.size w wr

theorem Loop.step {w : World} {xs : List UInt8} {n k : Nat} {v' : Value} {wr w' : World} (hL : Below w.heap.size w wr)
    (h1 : w'.ownsRow w.heap.size 5 1 v' (xs.length + k + 1) ((xs ++ heads n k).map c8 ++ [c8 (low n k)])) (h2 : Below w.heap.size wr w') : Loop w xs n (k + 1) v' w' := by
  refine ⟨.own ?_, hL.trans h2⟩
  have e : (xs ++ heads n (k + 1)).map c8 = (xs ++ heads n k).map c8 ++ [c8 (low n k)] := by simp [heads]
  rw [e]
  exact h1

theorem Loop.last {w : World} {xs : List UInt8} {n k : Nat} {v' : Value} {wr w' : World} (hL : Below w.heap.size w wr) (hk : k + 1 = sizeN n)
    (h1 : w'.ownsRow w.heap.size 5 1 v' (xs.length + k + 1) ((xs ++ heads n k).map c8 ++ [c8 (UInt8.ofNat (n / 128 ^ k))])) (h2 : Below w.heap.size wr w') : Put w 5 (xs ++ uintB n) (.returned v') w' := by
  refine Put.mk ?_ (by rw [List.length_append]; have := sizeN_pos n; unfold sizeN at this; omega) (hL.trans h2)
  have e : (xs ++ uintB n).map c8 = (xs ++ heads n k).map c8 ++ [c8 (UInt8.ofNat (n / 128 ^ k))] := by
    rw [uintB_heads n, ← hk]; simp
  have el : (xs ++ uintB n).length = xs.length + k + 1 := by
    rw [List.length_append]; show xs.length + sizeN n = _; omega
  rw [e, el]
  exact h1

set_option maxRecDepth 100000 in
theorem putuint_any (v : Value) (xs : List UInt8) (n : Nat) (w : World) (hb : Bs w v xs) (hx : xs.length ≤ 100000000) (hn : n < U64) :
    Calls Tryd.prog 104 #[v, .int .u64 n] w (Put w 5 (xs ++ uintB n)) := by
  obtain ⟨i0, hi, hz0, hz1, hz2⟩ := info_parts info8
  have hz := sizeN_pos n
  have hz10 := sizeN_le10 hn
  have Hn := Lib.hid hn; clear hn
  obtain ⟨a, cap, rfl, h1, h2, h3, h4⟩ := hb
  have hcap : cap ≤ 9223372036854775807 := by unfold maxLen at h2; omega
  have hst : Loop w xs n 0 (.slice a xs.length xs.length) w :=
    ⟨.inl ⟨a, rfl, fun h => by have := h3 h; omega, by simp [heads], fun ad ha j u hu => h4 ad ha j u (by simpa [heads] using hu)⟩, Below.refl _ _⟩
  have Hst := Lib.hid hst
  clear hst h3 h4 h2
  go_enter Tryd.func104, Tryd.ntmps104
  go_wp2_with (first | (go_at_call 111; refine (apart_any _ _ _ _ h1 hcap).mono ?_; rintro e w' ⟨rfl, rfl⟩) | (go_at_call 112; refine (size_any _ _ Hn.out).mono ?_; rintro e w' ⟨rfl, rfl⟩))

  go_loopw [5, 14] (fun v i wr => ∃ k : Nat, k + 1 ≤ sizeN n ∧ i = .int .i64 k ∧ Loop w xs n k v wr) (fun _ i _ => sizeN n - (intOf i).toNat)
  case atStart => exact ⟨0, by omega, rfl, Hst.out⟩
  case round =>
    obtain ⟨k, hk, rfl, hf, hbel⟩ := hrel
    have Hf := Lib.hid (hf.alloc (.cells #[.int .u8 (bits BinOp.or IntKind.u8 ((n : Int) / 2 ^ (7 * k) % 256) 128)] 5))
    have Hf2 := Lib.hid (hf.alloc (.cells #[.int .u8 ((n : Int) / 2 ^ (7 * k) % 256)] 5))
    have Hb := Lib.hid hbel
    have hsz := hbel.size
    clear hf hbel
    by_cases hlt : k < sizeN n - 1
    · go_wp2_with (at_builtin; go_must (refine wpList_append_fo _ rfl _ _ 44 rfl 5 i0 (.int .u8 0) 1 1 Tryd.underlying44 hi hz0 hz1 hz2 rfl (by decide) w.heap.size _ (xs.length + k) _ rfl Hf.out ⟨wr.heap.size, 0, none⟩ 1 1 [.int .u8 (bits BinOp.or IntKind.u8 ((n : Int) / 2 ^ (7 * k) % 256) 128)] rfl rfl ?c1 ?c2 (by decide) ?c3 ?c4 ?c5 ?_))
      case c1 => exact cell_one_new _ _ _
      case c2 => intro u hu; simp at hu; subst hu; rfl
      case c3 => unfold maxLen; omega
      case c4 => omega
      case c5 => simp; omega
      intro v' w1 hown hb1
      have HL := Lib.hid (Loop.step (xs := xs) (n := n) (k := k) Hb.out (by rw [low_c8]; simpa using hown) (((Below.refl _ _).alloc hsz _).trans hb1))
      clear hown hb1
      go_wp2
      go_roundw
      case rel => exact ⟨k + 1, by omega, by go_num, HL.out⟩
      case measure => simp [intOf]; omega
    · have hge : k + 1 = sizeN n := by omega
      have ek : sizeN n - 1 = k := by omega
      have Hge := Lib.hid hge; clear hge
      have Hek := Lib.hid ek; clear ek
      have ec : ((sizeN n : Int) - 1) = (k : Int) := by have := Hge.out; omega
      go_wp2_with (at_builtin; go_must (refine wpList_append_fo _ rfl _ _ 44 rfl 5 i0 (.int .u8 0) 1 1 Tryd.underlying44 hi hz0 hz1 hz2 rfl (by decide) w.heap.size _ (xs.length + k) _ rfl Hf2.out ⟨wr.heap.size, 0, none⟩ 1 1 [.int .u8 ((n : Int) / 2 ^ (7 * k) % 256)] rfl rfl ?c1 ?c2 (by decide) ?c3 ?c4 ?c5 ?_))
      case c1 => exact cell_one_new _ _ _
      case c2 => intro u hu; simp at hu; subst hu; rfl
      case c3 => unfold maxLen; omega
      case c4 => omega
      case c5 => simp; omega
      intro v' w1 hown hb1
      have HL := Lib.hid (Loop.last (xs := xs) (n := n) (k := k) Hb.out Hge.out (by rw [last_c8]; simpa using hown) (((Below.refl _ _).alloc hsz _).trans hb1))
      clear hown hb1
      go_wp2
      go_ret
      exact HL.out
end Go.Proofs.YtolfeellcdoopaaDoor

namespace Go.Proofs.YtolfeellcdoopaaDoor
open Go.ChangeShapes Go.WideShapes Go.ChangeAt Go.RowKit Oct By

theorem uintB_length (n : Nat) : (uintB n).length = sizeN n := rfl

theorem zig_pos {n : Int} (h0 : 0 ≤ n) (h1 : n ≤ 9223372036854775807) : bits BinOp.xor IntKind.u64 (n * 2) (n / 9223372036854775808) = ((zig n : Nat) : Int) := by
  have e : n / 9223372036854775808 = ((0 : Nat) : Int) := by omega
  have e2 : n * 2 = ((2 * n).toNat : Int) := by omega
  rw [e, e2, bits_xor_u64_nat _ _ (by omega) (by decide), Nat.xor_zero]
  simp only [zig, if_pos h0]
theorem zig_neg {n : Int} (h0 : n < 0) (h1 : -9223372036854775808 ≤ n) :
    bits BinOp.xor IntKind.u64 (IntKind.u64.wrap (IntKind.u64.wrap n * 2)) (IntKind.u64.wrap (n / 9223372036854775808)) = ((zig n : Nat) : Int) := by
  have e1 : IntKind.u64.wrap (IntKind.u64.wrap n * 2) = (((2 * n + 18446744073709551616).toNat : Nat) : Int) := by
    rw [IntKind.wrap_u64, IntKind.wrap_u64]
    omega
  have e2 : IntKind.u64.wrap (n / 9223372036854775808) = ((2 ^ 64 - 1 : Nat) : Int) := by
    rw [IntKind.wrap_u64]
    omega
  rw [e1, e2, bits_xor_u64_nat _ _ (by omega) (by decide), Nat.xor_comm, Lib.xor_ones64 _ (by omega)]
  simp only [zig, if_neg (show ¬ 0 ≤ n by omega)]
  omega
theorem zig_lt {n : Int} (h0 : -9223372036854775808 ≤ n) (h1 : n ≤ 9223372036854775807) : zig n < U64 := by
  unfold zig U64
  split <;> omega

set_option maxRecDepth 100000 in
theorem putint_any (v : Value) (xs : List UInt8) (n : Int) (w : World) (hb : Bs w v xs) (hx : xs.length ≤ 100000000) (h0 : -9223372036854775808 ≤ n) (h1 : n ≤ 9223372036854775807) :
    Calls Tryd.prog 94 #[v, .int .i64 n] w (Put w 5 (xs ++ intB n)) := by
  obtain ⟨zs, hzs⟩ : ∃ zs, zs = xs ++ intB n := ⟨_, rfl⟩
  have Hput := Lib.hid (putuint_any v xs (zig n) w hb hx (zig_lt h0 h1))
  rw [show xs ++ uintB (zig n) = zs from hzs.symm] at Hput
  rw [← hzs]
  clear hzs
  by_cases hn : 0 ≤ n
  · have Hz := Lib.hid (zig_pos hn h1)
    go_enter Tryd.func94, Tryd.ntmps94
    go_wp2_with fail
    rw [Hz.out]
    refine Hput.out.mono ?_
    rintro e w' ⟨g, cap, rfl, h2, h3⟩
    go_wp2
    go_ret
    exact ⟨g, cap, rfl, h2, h3⟩
  · have hn' : n < 0 := by omega
    have Hz := Lib.hid (zig_neg hn' h0)
    go_enter Tryd.func94, Tryd.ntmps94
    go_wp2_with fail
    rw [Hz.out]
    refine Hput.out.mono ?_
    rintro e w' ⟨g, cap, rfl, h2, h3⟩
    go_wp2
    go_ret
    exact ⟨g, cap, rfl, h2, h3⟩

theorem c8_nat (m : Nat) : c8 (UInt8.ofNat m) = .int .u8 ((m : Int) % 256) := by
  unfold c8; rw [UInt8.toNat_ofNat']; rfl

set_option maxRecDepth 100000 in
theorem refuint_nat : ∀ (n : Nat) (w : World), n < U64 → Calls Tryd.prog 96 #[.int .u64 n] w (Put w 5 (uintB n)) := by
  intro n
  induction n using Nat.strongRecOn with
  | ind n ih =>
    intro w hn
    obtain ⟨i0, hi, hz0, hz1, hz2⟩ := info_parts info8
    by_cases hlt : n < 128
    · have Hc := Lib.hid (show c8 (UInt8.ofNat n) = .int .u8 (n : Int) by rw [c8_nat]; congr 1; omega)
      clear hn ih
      go_enter Tryd.func96, Tryd.ntmps96
      go_wp2_with fail
      go_ret
      rw [uintB_small hlt]
      refine Put.mk (v := .slice (some ⟨w.heap.size, 0, none⟩) 1 1) ?_ (by simp) ((Below.refl _ _).alloc (Nat.le_refl _) _)
      rw [← Hc.out]
      exact owns_lit w w.heap.size _ [UInt8.ofNat n] (Nat.le_refl _) (by simp [maxLen])
    · have hge : 128 ≤ n := by omega
      have h10 := sizeN_le10 hn
      have hs := sizeN_big hge
      have hp := sizeN_pos (n / 128)
      rw [← uintB_length] at hp hs h10
      have Hc := Lib.hid (show c8 (UInt8.ofNat (n % 128 + 128)) = .int .u8 ((n : Int) % 128 + 128) by rw [c8_nat]; congr 1; omega)
      have Hih := Lib.hid (fun w => ih (n / 128) (by omega) w (by unfold U64 at *; omega))
      clear ih
      have Hw : IntKind.u64.wrap ((n : Int) / 128) = (n : Int) / 128 := by rw [IntKind.wrap_u64]; unfold U64 at hn; omega
      rw [uintB_big hge]
      obtain ⟨x, hx⟩ : ∃ x, x = UInt8.ofNat (n % 128 + 128) := ⟨_, rfl⟩
      rw [← hx] at Hc ⊢
      clear hx
      have ez : ∃ zs, zs = uintB (n / 128) := ⟨_, rfl⟩
      obtain ⟨zs, hzs⟩ := ez
      rw [← hzs] at Hih hp ⊢
      rw [hs, ← uintB_length, ← hzs] at h10
      clear hn hzs hs
      go_enter Tryd.func96, Tryd.ntmps96
      go_wp2_with fail
      clear Hw
      refine (Hih.out _).mono ?_
      rintro e w' ⟨g, cap, rfl, h2, h3⟩
      have hL := owns_lit w w.heap.size 5 [x] (Nat.le_refl _) (by simp [maxLen])
      have hL2 := Lib.hid (owns_below hL (by rw [show (w.alloc (Obj.cells ([x].map c8).toArray 5)) = w.alloc (.cells #[.int .u8 ((n : Int) % 128 + 128)] 5) by rw [← Hc.out]; rfl]; exact h3))
      clear hL
      have hsz : w.heap.size ≤ w'.heap.size := by have := h3.size; simp at this; omega
      have H2 := Lib.hid h2
      have H3 := Lib.hid h3
      clear h2 h3
      go_wp2_with (at_builtin; go_must (refine wpList_append_fo _ rfl _ _ 44 rfl 5 i0 (.int .u8 0) 1 1 Tryd.underlying44 hi hz0 hz1 hz2 rfl (by decide) w.heap.size _ 1 _ rfl (.inr hL2.out) ⟨g, 0, none⟩ zs.length cap (zs.map c8) rfl ?c0 ?c1 c8_one (by omega) ?c3 ?c4 hsz ?_))
      case c0 => simp
      case c1 => exact H2.out.cells rfl
      case c3 => unfold maxLen; omega
      case c4 => omega
      intro v' w1 hown hb1
      have HP := Lib.hid (Put.mk (E := 5) (xs := x :: zs) (w := w) (v := v') (w' := w1) (by rw [show (x :: zs).length = 1 + zs.length from Nat.add_comm _ _]; exact hown) (by simp)
        ((((Below.refl _ _).alloc (Nat.le_refl _) _).trans (H3.out.mono (by simp))).trans hb1))
      clear hown hb1
      go_wp2
      go_ret
      exact HP.out

theorem refuint_any (m : Int) (w : World) (h0 : 0 ≤ m) (h1 : m.toNat < U64) : Calls Tryd.prog 96 #[.int .u64 m] w (Put w 5 (uintB m.toNat)) := by
  obtain ⟨n, rfl⟩ := Int.eq_ofNat_of_zero_le h0
  exact refuint_nat n w h1
end Go.Proofs.YtolfeellcdoopaaDoor

namespace Go.Proofs.YtolfeellcdoopaaDoor
open Go.ChangeShapes Go.WideShapes Go.ChangeAt Go.RowKit Oct By

set_option maxRecDepth 100000 in
theorem refint_any (n : Int) (w : World) (h0 : -9223372036854775808 ≤ n) (h1 : n ≤ 9223372036854775807) :
    Calls Tryd.prog 81 #[.int .i64 n] w (Put w 5 (intB n)) := by
  by_cases hn : 0 ≤ n
  · have hput := refuint_any (n * 2) w (by omega) (by unfold U64; omega)
    rw [show uintB (n * 2).toNat = intB n by unfold intB zig; rw [if_pos hn, Int.mul_comm]] at hput
    have Hput := Lib.hid hput
    clear hput
    go_enter Tryd.func81, Tryd.ntmps81
    go_wp2_with fail
    refine Hput.out.mono ?_
    rintro e w' ⟨g, cap, rfl, h2, h3⟩
    go_wp2
    go_ret
    exact ⟨g, cap, rfl, h2, h3⟩
  · have hput := refuint_any (-(n + 1) * 2 + 1) w (by omega) (by unfold U64; omega)
    rw [show uintB (-(n + 1) * 2 + 1).toNat = intB n by unfold intB zig; rw [if_neg hn]; congr 2; omega] at hput
    have Hput := Lib.hid hput
    clear hput
    have hn' : n < 0 := by omega
    go_enter Tryd.func81, Tryd.ntmps81
    go_wp2_with fail
    refine Hput.out.mono ?_
    rintro e w' ⟨g, cap, rfl, h2, h3⟩
    go_wp2
    go_ret
    exact ⟨g, cap, rfl, h2, h3⟩

theorem putuint_int (v : Value) (xs : List UInt8) (m : Int) (w : World) (hb : Bs w v xs) (hx : xs.length ≤ 100000000) (h0 : 0 ≤ m) (hn : m.toNat < U64) :
    Calls Tryd.prog 104 #[v, .int .u64 m] w (Put w 5 (xs ++ uintB m.toNat)) := by
  obtain ⟨n, rfl⟩ := Int.eq_ofNat_of_zero_le h0
  exact putuint_any v xs n w hb hx hn

set_option maxRecDepth 100000 in
theorem puttext_any (v : Value) (xs : List UInt8) (s : ByteArray) (w : World) (hb : Bs w v xs) (hx : xs.length ≤ 100000000) (hs : s.size ≤ 100000000) :
    Calls Tryd.prog 95 #[v, .string s] w (Put w 5 (xs ++ textB s.data.toList)) := by
  obtain ⟨i0, hi, hz0, hz1, hz2⟩ := info_parts info8
  have hu := sizeN_le10 (n := s.size) (by omega)
  rw [← uintB_length] at hu
  obtain ⟨us, hus⟩ : ∃ us, us = xs ++ uintB s.size := ⟨_, rfl⟩
  have hput := putuint_int v xs (s.size : Int) w hb hx (by omega) (by unfold U64; omega)
  rw [Int.toNat_natCast, ← hus] at hput
  have hul : us.length ≤ 100000010 := by rw [hus, List.length_append]; omega
  have hlen : s.data.toList.length = s.size := Array.length_toList
  rw [show xs ++ textB s.data.toList = us ++ s.data.toList by rw [hus, textB, hlen, List.append_assoc]]
  have Hlen := Lib.hid hlen
  have hup : 0 < us.length := by rw [hus, List.length_append, uintB_length]; have := sizeN_pos s.size; omega
  have Hput := Lib.hid hput
  clear hput hus hlen hu
  go_enter Tryd.func95, Tryd.ntmps95
  go_wp2_with fail
  refine Hput.out.mono ?_
  rintro e w' ⟨g, cap, rfl, h2, h3⟩
  have hsz := h3.size
  have H2 := Lib.hid h2
  have H3 := Lib.hid h3
  clear h2 h3
  go_wp2_with (at_builtin; go_must (refine Lib.wpList_append_own_string _ rfl _ _ 44 9 rfl w.heap.size 5 i0 Tryd.underlying44 Tryd.underlying9 hi hz0 hz1 hz2 _ us.length (us.map c8) rfl H2.out s rfl ?c3 ?c4 hsz ?_))
  case c3 => unfold maxLen; omega
  case c4 => omega
  intro v' w1 hown hg _
  have HP := Lib.hid (Put.mk (E := 5) (xs := us ++ s.data.toList) (w := w) (v := v') (w' := w1) (by rw [List.map_append, List.length_append, Hlen.out]; exact hown) (by simp; omega)
    (H3.out.trans ((Below.refl _ _).grown hg hsz (fun k hk => (H2.out.lt k hk).1))))
  clear hown hg
  go_wp2
  go_ret
  exact HP.out

set_option maxRecDepth 100000 in
theorem reftext_any (s : ByteArray) (w : World) (hs : s.size ≤ 100000000) :
    Calls Tryd.prog 82 #[.string s] w (Put w 5 (textB s.data.toList)) := by
  obtain ⟨i0, hi, hz0, hz1, hz2⟩ := info_parts info8
  have hu := sizeN_le10 (n := s.size) (by omega)
  rw [← uintB_length] at hu
  obtain ⟨us, hus⟩ : ∃ us, us = uintB s.size := ⟨_, rfl⟩
  have hput := refuint_any (s.size : Int) w (by omega) (by unfold U64; omega)
  rw [Int.toNat_natCast, ← hus] at hput
  rw [← hus] at hu
  have hlen : s.data.toList.length = s.size := Array.length_toList
  rw [show textB s.data.toList = us ++ s.data.toList by rw [hus, textB, hlen]]
  have Hlen := Lib.hid hlen
  have hup : 0 < us.length := by rw [hus, uintB_length]; have := sizeN_pos s.size; omega
  have Hput := Lib.hid hput
  clear hput hus hlen
  have kc := fun (w : World) => Lib.run_convert_string_bytes (P := Tryd.prog) w 9 44 5 s Tryd.underlying9 Tryd.underlying44 Tryd.underlying5
  go_enter Tryd.func82, Tryd.ntmps82
  go_wp2_with fail
  refine Hput.out.mono ?_
  rintro e w' ⟨g, cap, rfl, h2, h3⟩
  have hsz := h3.size
  have hb2 := bytesWorld_below w' 5 s
  have hszb := hb2.size
  have H2 := Lib.hid (owns_below h2 hb2)
  have H3 := Lib.hid (h3.trans (hb2.mono hsz))
  clear h2 h3 hb2
  go_wp2_with (at_builtin; go_must (refine wpList_append_own _ rfl _ _ 44 rfl w.heap.size 5 i0 (.int .u8 0) 1 1 Tryd.underlying44 hi hz0 hz1 hz2 rfl (by decide) _ us.length (us.map c8) rfl H2.out ⟨w'.heap.size, 0, none⟩ s.size _ (s.data.toList.map c8) rfl ?c0 ?c1 c8_one ?c3 ?c4 ?c5 ?_))
  case c0 => rw [List.length_map, Hlen.out, Nat.mul_one]
  case c1 => exact bytesWorld_cells w' _ s
  case c3 => unfold maxLen; omega
  case c4 => omega
  case c5 => omega
  intro v' w1 hown hg _
  have HP := Lib.hid (Put.mk (E := 5) (xs := us ++ s.data.toList) (w := w) (v := v') (w' := w1) (by rw [List.map_append, List.length_append, Hlen.out]; exact hown) (by simp; omega)
    (H3.out.trans ((Below.refl _ _).grown hg (by omega) (fun k hk => (H2.out.lt k hk).1))))
  clear hown hg
  go_wp2
  go_ret
  exact HP.out

end Go.Proofs.YtolfeellcdoopaaDoor

namespace Go.Proofs.YtolfeellcdoopaaDoor.Oct

def val : List UInt8 → Nat
  | [] => 0
  | c :: l => c.toNat % 128 + 128 * val l

theorem val_append : ∀ (l m : List UInt8), val (l ++ m) = val l + 128 ^ l.length * val m
  | [], m => by simp [val]
  | c :: l, m => by
    simp only [List.cons_append, val, val_append l m, List.length_cons, Nat.pow_succ]
    rw [Nat.mul_add, ← Nat.mul_assoc, Nat.mul_comm 128 (128 ^ l.length)]
    omega

theorem val_lt : ∀ (l : List UInt8), val l < 128 ^ l.length
  | [] => by simp [val]
  | c :: l => by
    have := val_lt l
    simp only [val, List.length_cons, Nat.pow_succ]
    omega

theorem ofNat_toNat_lt {n : Nat} (h : n < 256) : (UInt8.ofNat n).toNat = n := by rw [UInt8.toNat_ofNat']; omega

/-- what is put is got -/
theorem val_uintB : ∀ (n : Nat), val (uintB n) = n := by
  intro n
  induction n using Nat.strongRecOn with
  | ind n ih =>
    by_cases h : n < 128
    · rw [uintB_small h]; simp only [val]; rw [ofNat_toNat_lt (by omega)]; omega
    · rw [uintB_big (by omega)]
      simp only [val]
      rw [ih (n / 128) (by omega), ofNat_toNat_lt (by omega)]
      omega

/-- bytes as a Put writes them: all but the last one from 128 on, the last one below, and not 0 but alone -/
def shaped : List UInt8 → Bool
  | [] => false
  | [c] => c.toNat < 128
  | c :: d :: l => 128 ≤ c.toNat && shapedMore (d :: l)
where shapedMore : List UInt8 → Bool
  | [] => false
  | [c] => c.toNat < 128 && c.toNat != 0
  | c :: d :: l => 128 ≤ c.toNat && shapedMore (d :: l)

theorem more_val : ∀ (l : List UInt8), shaped.shapedMore l = true → 0 < val l
  | [], h => by simp [shaped.shapedMore] at h
  | [c], h => by simp [shaped.shapedMore] at h; simp [val]; omega
  | c :: d :: l, h => by
    simp only [shaped.shapedMore, Bool.and_eq_true] at h
    have := more_val (d :: l) h.2
    simp only [val] at this ⊢
    omega
theorem more_shaped : ∀ (l : List UInt8), shaped.shapedMore l = true → shaped l = true
  | [], h => by simp [shaped.shapedMore] at h
  | [c], h => by simp [shaped.shapedMore] at h; simp [shaped, h.1]
  | c :: d :: l, h => h

/-- what is got is put -/
theorem uintB_val : ∀ (l : List UInt8), shaped l = true → uintB (val l) = l
  | [], h => by simp [shaped] at h
  | [c], h => by
    simp [shaped] at h
    simp only [val]
    rw [uintB_small (by omega)]
    congr 1
    apply UInt8.toNat_inj.1
    rw [ofNat_toNat_lt (by omega)]
    omega
  | c :: d :: l, h => by
    simp only [shaped, Bool.and_eq_true, decide_eq_true_eq] at h
    have h1 := more_val _ h.2
    have h2 := uintB_val (d :: l) (more_shaped _ h.2)
    have hc := UInt8.toNat_lt c
    rw [show val (c :: d :: l) = c.toNat % 128 + 128 * val (d :: l) from rfl]
    rw [uintB_big (by omega)]
    rw [show (c.toNat % 128 + 128 * val (d :: l)) / 128 = val (d :: l) by omega, h2]
    congr 1
    apply UInt8.toNat_inj.1
    rw [ofNat_toNat_lt (by omega)]
    omega

theorem uintB_shaped : ∀ (n : Nat), shaped (uintB n) = true ∧ (0 < n → shaped.shapedMore (uintB n) = true) := by
  intro n
  induction n using Nat.strongRecOn with
  | ind n ih =>
    by_cases h : n < 128
    · rw [uintB_small h]
      simp only [shaped, shaped.shapedMore]
      rw [ofNat_toNat_lt (by omega)]
      constructor
      · simpa using h
      · intro h0; simp; omega
    · obtain ⟨_, h2⟩ := ih (n / 128) (by omega)
      have h3 := h2 (by omega)
      rw [uintB_big (by omega)]
      cases hu : uintB (n / 128) with
      | nil => rw [hu] at h3; simp [shaped.shapedMore] at h3
      | cons d l =>
        rw [hu] at h3
        simp only [shaped, shaped.shapedMore]
        rw [ofNat_toNat_lt (by omega)]
        simp [h3]

/-- how many bytes till one below 128, of at most so many -/
def scan : List UInt8 → Nat → Option Nat
  | _, 0 => none
  | [], _ + 1 => none
  | c :: l, f + 1 => if c.toNat < 128 then some 1 else (scan l f).map (· + 1)

def mayEndB (c i : Nat) : Bool := !(i == 9 && decide (1 < c)) && (c != 0 || i == 0)

/-- the number that stands in front of bytes, and how many it has -/
def getU (ys : List UInt8) : Option (Nat × Nat) :=
  match scan ys 10 with
  | none => none
  | some k => if mayEndB (ys.getD (k - 1) 0).toNat (k - 1) then some (val (ys.take k), k) else none

/-- the same as places: the first k bytes from 128 on -/
def big (ys : List UInt8) (k : Nat) : Prop := ∀ i, i < k → 128 ≤ (ys.getD i 0).toNat
theorem big_succ {ys : List UInt8} {k : Nat} (h : big ys k) (hc : 128 ≤ (ys.getD k 0).toNat) : big ys (k + 1) := fun i hi => by
  by_cases hik : i = k
  · subst hik; exact hc
  · exact h i (by omega)

theorem scan_some : ∀ (ys : List UInt8) (f k : Nat), k < ys.length → k < f → big ys k → (ys.getD k 0).toNat < 128 → scan ys f = some (k + 1)
  | [], _, _, h, _, _, _ => by simp at h
  | c :: l, 0, _, _, h, _, _ => by omega
  | c :: l, f + 1, 0, _, _, _, hc => by simp at hc; simp [scan, hc]
  | c :: l, f + 1, k + 1, h, hf, hb, hc => by
    have h0 := hb 0 (by omega)
    simp at h0
    have := scan_some l f k (by simpa using h) (by omega) (fun i hi => by have := hb (i + 1) (by omega); simpa using this) (by simpa using hc)
    simp [scan, this]
    omega
theorem scan_none : ∀ (ys : List UInt8) (f : Nat), big ys (min ys.length f) → scan ys f = none
  | [], 0, _ => rfl
  | [], _ + 1, _ => rfl
  | _ :: _, 0, _ => rfl
  | c :: l, f + 1, hb => by
    have h0 := hb 0 (by simp)
    simp at h0
    have := scan_none l f (fun i hi => by have := hb (i + 1) (by simp; omega); simpa using this)
    simp [scan, this]
    omega

theorem shaped_iff : ∀ (ys : List UInt8) (k : Nat), k < ys.length → big ys k → (ys.getD k 0).toNat < 128 → shaped (ys.take (k + 1)) = ((ys.getD k 0).toNat != 0 || k == 0) ∧ shaped.shapedMore (ys.take (k + 1)) = ((ys.getD k 0).toNat != 0)
  | [], _, h, _, _ => by simp at h
  | c :: l, 0, _, _, hc => by simp at hc; simp [shaped, shaped.shapedMore, hc]
  | c :: l, k + 1, h, hb, hc => by
    have h0 := hb 0 (by omega)
    simp at h0
    have hl : k < l.length := by simpa using h
    have hk := shaped_iff l k hl (fun i hi => by have := hb (i + 1) (by omega); simpa using this) (by simpa using hc)
    cases hm : l.take (k + 1) with
    | nil => exfalso; have := congrArg List.length hm; rw [List.length_take, Nat.min_eq_left (by omega)] at this; simp at this
    | cons d m =>
      rw [List.take_succ_cons, hm]
      simp only [shaped, shaped.shapedMore]
      rw [hm] at hk
      simp [h0, hk.2]

/-- the document's own test: is the number's form these very bytes? -/
theorem form_iff (ys : List UInt8) (k : Nat) (hk : k < ys.length) (hk10 : k < 10) (hb : big ys k) (hc : (ys.getD k 0).toNat < 128) :
    (uintB (val (ys.take (k + 1)) % 18446744073709551616) = ys.take (k + 1)) ↔ mayEndB (ys.getD k 0).toNat k = true := by
  obtain ⟨h1, _⟩ := shaped_iff ys k hk hb hc
  have hlen : (ys.take (k + 1)).length = k + 1 := by simp; omega
  have hsplit : ys.take (k + 1) = ys.take k ++ [ys.getD k 0] := by
    rw [List.take_succ_eq_append_getElem hk, List.getD_eq_getElem?_getD, List.getElem?_eq_getElem hk]; rfl
  have hval : val (ys.take (k + 1)) = val (ys.take k) + 128 ^ k * (ys.getD k 0).toNat := by
    rw [hsplit, val_append, List.length_take, Nat.min_eq_left (by omega)]
    simp only [val, Nat.mul_zero, Nat.add_zero]
    rw [Nat.mod_eq_of_lt hc]
  have hlow : val (ys.take k) < 128 ^ k := by
    have := val_lt (ys.take k)
    rwa [List.length_take, Nat.min_eq_left (by omega)] at this
  -- when is it below 2^64?
  have hsmall : val (ys.take (k + 1)) < 18446744073709551616 ↔ ¬ (k = 9 ∧ 1 < (ys.getD k 0).toNat) := by
    rw [hval]
    by_cases h9 : k = 9
    · subst h9
      constructor
      · intro h ⟨_, h2⟩
        have : 128 ^ 9 * 2 ≤ 128 ^ 9 * (ys.getD 9 0).toNat := Nat.mul_le_mul_left _ h2
        have e : 128 ^ 9 * 2 = 18446744073709551616 := by decide
        omega
      · intro h
        have h3 : (ys.getD 9 0).toNat ≤ 1 := by omega
        have : 128 ^ 9 * (ys.getD 9 0).toNat ≤ 128 ^ 9 * 1 := Nat.mul_le_mul_left _ h3
        have e : 128 ^ 9 * 1 + 128 ^ 9 = 18446744073709551616 := by decide
        omega
    · have hk8 : k ≤ 8 := by omega
      have e1 : val (ys.take (k + 1)) < 128 ^ (k + 1) := by
        have := val_lt (ys.take (k + 1)); rwa [hlen] at this
      have e2 : 128 ^ (k + 1) ≤ 128 ^ 9 := Nat.pow_le_pow_right (by decide) (by omega)
      have e3 : 128 ^ 9 ≤ 18446744073709551616 := by decide
      rw [hval] at e1
      exact ⟨fun _ h => h9 h.1, fun _ => by omega⟩
  constructor
  · intro h
    have hv := congrArg val h
    rw [val_uintB] at hv
    have hlt : val (ys.take (k + 1)) < 18446744073709551616 := by
      rw [← hv]; exact Nat.mod_lt _ (by decide)
    have hs := (uintB_shaped (val (ys.take (k + 1)) % 18446744073709551616)).1
    rw [h, h1] at hs
    have := hsmall.1 hlt
    unfold mayEndB
    simp only [Bool.and_eq_true, Bool.not_eq_true', Bool.and_eq_false_iff, beq_eq_false_iff_ne, decide_eq_false_iff_not]
    exact ⟨by by_cases h9 : k = 9
              · exact .inr (fun h => this ⟨h9, h⟩)
              · exact .inl h9, hs⟩
  · intro h
    unfold mayEndB at h
    simp only [Bool.and_eq_true, Bool.not_eq_true', Bool.and_eq_false_iff, beq_eq_false_iff_ne, decide_eq_false_iff_not] at h
    have hlt : val (ys.take (k + 1)) < 18446744073709551616 := hsmall.2 (fun ⟨h9, h2⟩ => h.1.elim (fun h1 => h1 h9) (fun h1 => h1 h2))
    rw [Nat.mod_eq_of_lt hlt]
    exact uintB_val _ (by rw [h1]; exact h.2)

theorem scan_spec : ∀ (ys : List UInt8) (f k : Nat), scan ys f = some k → 1 ≤ k ∧ k ≤ f ∧ k ≤ ys.length ∧ big ys (k - 1) ∧ (ys.getD (k - 1) 0).toNat < 128
  | [], 0, k, h => by simp [scan] at h
  | [], f + 1, k, h => by simp [scan] at h
  | c :: l, 0, k, h => by simp [scan] at h
  | c :: l, f + 1, k, h => by
    simp only [scan] at h
    split at h
    · rename_i hc
      cases h
      exact ⟨by omega, by omega, by simp, fun i hi => by omega, by simpa using hc⟩
    · rename_i hc
      obtain ⟨m, hm, rfl⟩ := Option.map_eq_some_iff.1 h
      obtain ⟨h1, h2, h3, h4, h5⟩ := scan_spec l f m hm
      refine ⟨by omega, by omega, by simp; omega, fun i hi => ?_, ?_⟩
      · cases i with
        | zero => simp; omega
        | succ i => have := h4 i (by omega); simpa using this
      · rw [show m + 1 - 1 = (m - 1) + 1 by omega]
        simpa using h5

/-- what is found is a number of 64 bits, of 1 to 10 bytes, which are just its form -/
theorem getU_spec {ys : List UInt8} {n k : Nat} (h : getU ys = some (n, k)) : n < 18446744073709551616 ∧ 1 ≤ k ∧ k ≤ 10 ∧ k ≤ ys.length ∧ ys.take k = uintB n := by
  unfold getU at h
  cases hs : scan ys 10 with
  | none => rw [hs] at h; cases h
  | some j =>
    rw [hs] at h
    simp only [] at h
    obtain ⟨h1, h2, h3, h4, h5⟩ := scan_spec ys 10 j hs
    split at h
    · rename_i hm
      cases h
      have hf := (form_iff ys (k - 1) (by omega) (by omega) h4 h5).2 hm
      rw [show k - 1 + 1 = k by omega] at hf
      have hv := congrArg val hf
      rw [val_uintB] at hv
      refine ⟨by rw [← hv]; exact Nat.mod_lt _ (by decide), h1, h2, h3, ?_⟩
      rw [hv] at hf
      exact hf.symm
    · cases h

theorem uintB_parts : ∀ (n : Nat), big (uintB n) (sizeN n - 1) ∧ ((uintB n).getD (sizeN n - 1) 0).toNat < 128 := by
  intro n
  induction n using Nat.strongRecOn with
  | ind n ih =>
    by_cases h : n < 128
    · rw [sizeN_small h, uintB_small h]
      exact ⟨fun i hi => by omega, by simp; omega⟩
    · obtain ⟨h1, h2⟩ := ih (n / 128) (by omega)
      have hp := sizeN_pos (n / 128)
      rw [sizeN_big (by omega), uintB_big (by omega)]
      rw [show sizeN (n / 128) + 1 - 1 = (sizeN (n / 128) - 1) + 1 by omega]
      refine ⟨fun i hi => ?_, by simpa using h2⟩
      cases i with
      | zero => show 128 ≤ (UInt8.ofNat (n % 128 + 128)).toNat; rw [ofNat_toNat_lt (by omega)]; omega
      | succ i => have := h1 i (by omega); simpa using this

theorem getD_append_left (xs ys : List UInt8) (i : Nat) (h : i < xs.length) : (xs ++ ys).getD i 0 = xs.getD i 0 := by
  simp [List.getD_eq_getElem?_getD, List.getElem?_append_left h]

/-- what was put in front is got, whatever stands behind it -/
theorem getU_uintB (n : Nat) (hn : n < 18446744073709551616) (rest : List UInt8) : getU (uintB n ++ rest) = some (n, sizeN n) := by
  obtain ⟨h1, h2⟩ := uintB_parts n
  have hp := sizeN_pos n
  have h10 := sizeN_le10 hn
  have hl : (uintB n).length = sizeN n := rfl
  have hlen : sizeN n - 1 < (uintB n ++ rest).length := by rw [List.length_append]; omega
  have hb : big (uintB n ++ rest) (sizeN n - 1) := fun i hi => by rw [getD_append_left _ _ _ (by omega)]; exact h1 i hi
  have hc : ((uintB n ++ rest).getD (sizeN n - 1) 0).toNat < 128 := by rw [getD_append_left _ _ _ (by omega)]; exact h2
  have htake : (uintB n ++ rest).take (sizeN n - 1 + 1) = uintB n := by
    rw [show sizeN n - 1 + 1 = (uintB n).length by omega, List.take_left]
  have hm : mayEndB ((uintB n ++ rest).getD (sizeN n - 1) 0).toNat (sizeN n - 1) = true := by
    refine (form_iff _ _ hlen (by omega) hb hc).1 ?_
    rw [htake, val_uintB, Nat.mod_eq_of_lt hn]
  unfold getU
  rw [scan_some _ 10 _ hlen (by omega) hb hc]
  simp only [show sizeN n - 1 + 1 - 1 = sizeN n - 1 by omega]
  rw [if_pos hm, htake, val_uintB, show sizeN n - 1 + 1 = sizeN n by omega]

/-- and a longer text has the same in front -/
theorem getU_front {ys : List UInt8} {n k : Nat} (h : getU ys = some (n, k)) (more : List UInt8) : getU (ys ++ more) = some (n, k) := by
  obtain ⟨h1, h2, h3, h4, h5⟩ := getU_spec h
  have hk : k = sizeN n := by
    have := congrArg List.length h5
    rw [List.length_take, Nat.min_eq_left h4] at this
    exact this
  have e : ys ++ more = uintB n ++ (ys.drop k ++ more) := by
    rw [← h5, ← List.append_assoc, List.take_append_drop]
  rw [e, getU_uintB n h1, hk]
end Go.Proofs.YtolfeellcdoopaaDoor.Oct

namespace Go.Proofs.YtolfeellcdoopaaDoor
open Go.ChangeShapes Go.WideShapes Go.ChangeAt Go.RowKit Oct By

set_option maxRecDepth 100000 in
theorem mayend_any (c i : Nat) (w : World) (hc : c < 256) (hi : i ≤ 100) :
    Calls Tryd.prog 110 #[.int .u8 c, .int .i64 i] w fun e w' => e = .returned (.bool (mayEndB c i)) ∧ w = w' := by
  by_cases h9 : i = 9
  · subst h9
    by_cases h1 : 1 < c
    · go_enter Tryd.func110, Tryd.ntmps110
      go_wp2
      go_ret
      exact ⟨by simp [mayEndB, h1], rfl⟩
    · by_cases h0 : c = 0
      · subst h0
        go_enter Tryd.func110, Tryd.ntmps110
        go_wp2
        go_ret
        exact ⟨by simp [mayEndB], rfl⟩
      · have h0' : ((c : Int) != 0) = true := by simp; omega
        have h1' : ¬ (1 : Int) < c := by omega
        go_enter Tryd.func110, Tryd.ntmps110
        go_wp2
        go_ret
        exact ⟨by simp [mayEndB, h0, h1], rfl⟩
  · have h9' : ((i : Int) == 9) = false := by simp; omega
    by_cases h0 : c = 0
    · subst h0
      by_cases hz : i = 0
      · subst hz
        go_enter Tryd.func110, Tryd.ntmps110
        go_wp2
        go_ret
        exact ⟨by simp [mayEndB], rfl⟩
      · have hz' : ((i : Int) == 0) = false := by simp; omega
        go_enter Tryd.func110, Tryd.ntmps110
        go_wp2
        go_ret
        exact ⟨by simp [mayEndB, hz], rfl⟩
    · have h0' : ((c : Int) != 0) = true := by simp; omega
      go_enter Tryd.func110, Tryd.ntmps110
      go_wp2
      go_ret
      exact ⟨by simp [mayEndB, h0, h9], rfl⟩

def gu (xs : List UInt8) (i : Int) : Option (Nat × Nat) := if 0 ≤ i ∧ i ≤ xs.length then getU (xs.drop i.toNat) else none
def tupU (r : Option (Nat × Nat)) (i : Int) : Value := match r with
  | none => .tuple #[.int .u64 0, .int .i64 0, .bool false]
  | some (n, k) => .tuple #[.int .u64 n, .int .i64 (i + k), .bool true]
def acc (ys : List UInt8) (k : Nat) : Nat := val (ys.take k) % 18446744073709551616

set_option maxRecDepth 100000 in
theorem getuint_out (v : Value) (xs : List UInt8) (i : Int) (w : World) (hb : Bs w v xs) (h0 : ¬ (0 ≤ i ∧ i ≤ xs.length)) :
    Calls Tryd.prog 103 #[v, .int .i64 i] w fun e w' => e = .returned (tupU none i) ∧ w = w' := by
  obtain ⟨ao, cap, rfl, h2, h3⟩ := hb.len
  clear hb h3
  by_cases hn : i < 0
  · go_enter Tryd.func103, Tryd.ntmps103
    go_wp2
    go_ret3
    exact ⟨rfl, rfl⟩
  · have hg : (xs.length : Int) < i := by omega
    clear h0
    go_enter Tryd.func103, Tryd.ntmps103
    go_wp2
    go_ret3
    exact ⟨rfl, rfl⟩

set_option maxRecDepth 100000 in
theorem getuint_end (v : Value) (xs : List UInt8) (w : World) (hb : Bs w v xs) (_hx : xs.length ≤ 100000000) :
    Calls Tryd.prog 103 #[v, .int .i64 (xs.length : Int)] w fun e w' => e = .returned (tupU none 0) ∧ w = w' := by
  obtain ⟨ao, cap, rfl, h2, h3⟩ := hb.len
  clear hb h3
  go_enter Tryd.func103, Tryd.ntmps103
  go_wp2
  all_goals
    go_loop [24] (fun j => j = .int .i64 0) (fun _ => 0)
    case atStart => rfl
    case round =>
      subst hrel
      go_wp2
      go_ret3
      exact ⟨rfl, rfl⟩

theorem bt_drop (xs : List UInt8) (i k : Nat) : bt (xs.drop i) k = bt xs (i + k) := by
  simp [bt, List.getD_eq_getElem?_getD]

theorem andnot128 : ∀ x : Fin 256, bits BinOp.andNot IntKind.u8 (x.val : Int) 128 = ((x.val % 128 : Nat) : Int) := by decide +kernel

theorem or_add (a q i : Nat) (h : a < 2 ^ i) (hb : 2 ^ i * q < 18446744073709551616) (ha : a < 18446744073709551616) : bits BinOp.or IntKind.u64 (a : Int) ((2 ^ i * q : Nat) : Int) = ((a + 2 ^ i * q : Nat) : Int) := by
  rw [u64_or_nat _ _ ha hb]
  congr 1
  rw [Nat.or_comm, ← Nat.two_pow_add_eq_or_of_lt h, Nat.add_comm]

theorem acc_succ (ys : List UInt8) (k : Nat) (hk : k < ys.length) : acc ys (k + 1) = (val (ys.take k) + 128 ^ k * (bt ys k % 128)) % 18446744073709551616 := by
  have hsplit : ys.take (k + 1) = ys.take k ++ [ys.getD k 0] := by
    rw [List.take_succ_eq_append_getElem hk, List.getD_eq_getElem?_getD, List.getElem?_eq_getElem hk]; rfl
  unfold acc
  rw [hsplit, val_append, List.length_take, Nat.min_eq_left (by omega)]
  simp [val, bt]

theorem acc_step (ys : List UInt8) (k : Nat) (hk : k < ys.length) (h10 : k < 10) :
    bits BinOp.or IntKind.u64 (acc ys k : Int) (IntKind.u64.wrap (IntKind.u64.wrap (bits BinOp.andNot IntKind.u8 (bt ys k : Int) 128) * 2 ^ (7 * k))) = (acc ys (k + 1) : Int) := by
  have hb := bt_lt ys k
  have ha := andnot128 ⟨bt ys k, hb⟩
  have hv : val (ys.take k) < 128 ^ k := by
    have := val_lt (ys.take k)
    rwa [List.length_take, Nat.min_eq_left (by omega)] at this
  rw [acc_succ ys k hk]
  rw [show bits BinOp.andNot IntKind.u8 (bt ys k : Int) 128 = ((bt ys k % 128 : Nat) : Int) from ha]
  unfold acc
  generalize val (ys.take k) = v at *
  generalize bt ys k = c at *
  clear ha
  rw [pow_cast]
  have key : ∀ q : Nat, v < 2 ^ (7 * k) → 2 ^ (7 * k) * q < 18446744073709551616 → v < 18446744073709551616 → IntKind.u64.wrap (IntKind.u64.wrap ((c % 128 : Nat) : Int) * ((128 ^ k : Nat) : Int)) = ((2 ^ (7 * k) * q : Nat) : Int) →
      v + 2 ^ (7 * k) * q = (v + 128 ^ k * (c % 128)) % 18446744073709551616 →
      bits BinOp.or IntKind.u64 ((v % 18446744073709551616 : Nat) : Int) (IntKind.u64.wrap (IntKind.u64.wrap ((c % 128 : Nat) : Int) * ((128 ^ k : Nat) : Int))) = (((v + 128 ^ k * (c % 128)) % 18446744073709551616 : Nat) : Int) := by
    intro q h1 h2 h3 h4 h5
    rw [h4, ← h5, Nat.mod_eq_of_lt h3]
    exact or_add v q (7 * k) h1 h2 h3
  have hk : k = 0 ∨ k = 1 ∨ k = 2 ∨ k = 3 ∨ k = 4 ∨ k = 5 ∨ k = 6 ∨ k = 7 ∨ k = 8 ∨ k = 9 := by omega
  rcases hk with rfl | rfl | rfl | rfl | rfl | rfl | rfl | rfl | rfl | rfl
  all_goals simp only [Nat.reducePow, Nat.reduceMul, Nat.mul_zero, Nat.pow_zero] at hv key ⊢
  all_goals first
    | exact key (c % 128) (by omega) (by omega) (by omega) (by rw [IntKind.wrap_u64, IntKind.wrap_u64]; omega) (by omega)
    | exact key (c % 2) (by omega) (by omega) (by omega) (by rw [IntKind.wrap_u64, IntKind.wrap_u64]; omega) (by omega)

theorem getU_yes (ys : List UInt8) (k : Nat) (hk : k < ys.length) (h10 : k < 10) (hb : big ys k) (hc : bt ys k < 128) (hm : mayEndB (bt ys k) k = true) : getU ys = some (acc ys (k + 1), k + 1) := by
  have hf := congrArg val ((form_iff ys k hk h10 hb hc).2 hm)
  rw [val_uintB] at hf
  unfold getU
  rw [scan_some ys 10 k hk h10 hb hc]
  simp only [Nat.add_sub_cancel]
  rw [if_pos (show mayEndB (ys.getD k 0).toNat k = true from hm)]
  unfold acc
  rw [hf]
theorem getU_no (ys : List UInt8) (k : Nat) (hk : k < ys.length) (h10 : k < 10) (hb : big ys k) (hc : bt ys k < 128) (hm : mayEndB (bt ys k) k = false) : getU ys = none := by
  unfold getU
  rw [scan_some ys 10 k hk h10 hb hc]
  simp only [Nat.add_sub_cancel]
  rw [if_neg (by rw [show (ys.getD k 0).toNat = bt ys k from rfl, hm]; exact Bool.false_ne_true)]
theorem getU_end (ys : List UInt8) (k : Nat) (h1 : k ≤ ys.length) (h2 : k ≤ 10) (h3 : ys.length ≤ k ∨ 10 ≤ k) (hb : big ys k) : getU ys = none := by
  unfold getU
  rw [scan_none ys 10 (by rw [show min ys.length 10 = k by omega]; exact hb)]

set_option maxRecDepth 100000 in
theorem getuint_in (v : Value) (xs : List UInt8) (i : Nat) (w : World) (hb : Bs w v xs) (hx : xs.length ≤ 100000000) (hi : i < xs.length) :
    Calls Tryd.prog 103 #[v, .int .i64 (i : Int)] w fun e w' => e = .returned (tupU (getU (xs.drop i)) i) ∧ w = w' := by
  obtain ⟨b, o, cap, rfl, h2, h3, hc⟩ := hb.form (by omega)
  have hne : ¬ cap = i := by omega
  have Hc := Lib.hid hc
  obtain ⟨ys, hys⟩ : ∃ ys, ys = xs.drop i := ⟨_, rfl⟩
  have Hys := Lib.hid hys
  have hyl : xs.length = i + ys.length := by rw [hys, List.length_drop]; omega
  rw [← hys]
  have Hyl := Lib.hid hyl
  have hyd : xs.length - i = ys.length := by omega
  have Hyd := Lib.hid hyd
  clear hc hb h3 hys hyl hyd
  go_enter Tryd.func103, Tryd.ntmps103
  go_wp2
  all_goals
    go_loop [4, 24] (fun n j => ∃ k : Nat, k ≤ 10 ∧ k ≤ xs.length - i ∧ j = .int .i64 k ∧ n = .int .u64 (acc ys k) ∧ big ys k) (fun _ j => 10 - (intOf j).toNat)
    case atStart => exact ⟨0, by omega, by omega, rfl, rfl, fun _ h => by omega⟩
    case round =>
      obtain ⟨k, hk1, hk2, rfl, rfl, hbig⟩ := hrel
      by_cases hlt : k < 10 ∧ k < xs.length - i
      · obtain ⟨hl1, hl2⟩ := hlt
        have hcell := Hc.out (i + k) (by omega)
        rw [← bt_drop, ← Hys.out, ← Nat.add_assoc] at hcell
        have hbt := bt_lt ys k
        have hys : k < ys.length := by have := Hyd.out; omega
        have Hacc := Lib.hid (acc_step ys k hys hl1)
        by_cases hc : bt ys k < 128
        · have hcu : (bt ys k : Int) < 128 := by omega
          by_cases hme : mayEndB (bt ys k) k = true
          · have Hfin := Lib.hid (getU_yes ys k hys hl1 hbig hc hme)
            have Hme := Lib.hid hme
            clear hme
            go_wp2_with fail
            refine (mayend_any (bt ys k) k _ hbt (by omega)).mono ?_
            rintro e w' ⟨rfl, rfl⟩
            rw [Hme.out]
            go_wp2
            go_ret3
            refine ⟨?_, rfl⟩
            rw [Hacc.out, Hfin.out]
            exact congrArg Ending.returned (by simp only [tupU]; go_num)
          · have Hfin := Lib.hid (getU_no ys k hys hl1 hbig hc (by simpa using hme))
            have Hme := Lib.hid (show mayEndB (bt ys k) k = false by simpa using hme)
            clear hme
            go_wp2_with fail
            refine (mayend_any (bt ys k) k _ hbt (by omega)).mono ?_
            rintro e w' ⟨rfl, rfl⟩
            rw [Hme.out]
            go_wp2
            go_ret3
            refine ⟨?_, rfl⟩
            rw [Hfin.out]
            rfl
        · have hcu : ¬ (bt ys k : Int) < 128 := by omega
          have hbig' := big_succ hbig (show 128 ≤ bt ys k by omega)
          have hd := Lib.hid (show ys.length = xs.length - i from Hyd.out.symm)
          go_wp2
          go_round
          case rel => exact ⟨k + 1, by omega, by omega, by go_num, by rw [Hacc.out], hbig'⟩
          case measure => simp [intOf]; omega
      · have Hfin := Lib.hid (getU_end ys k (by have := Hyd.out; omega) hk1 (by have := Hyd.out; omega) hbig)
        go_wp2
        go_ret3
        refine ⟨?_, rfl⟩
        rw [Hfin.out]
        rfl

theorem getuint_any (v : Value) (xs : List UInt8) (i : Int) (w : World) (hb : Bs w v xs) (hx : xs.length ≤ 100000000) :
    Calls Tryd.prog 103 #[v, .int .i64 i] w fun e w' => e = .returned (tupU (gu xs i) i) ∧ w = w' := by
  by_cases h : 0 ≤ i ∧ i ≤ xs.length
  · unfold gu
    rw [if_pos h]
    obtain ⟨k, rfl⟩ := Int.eq_ofNat_of_zero_le h.1
    rw [Int.toNat_natCast]
    by_cases hk : k < xs.length
    · exact getuint_in v xs k w hb hx hk
    · obtain rfl : k = xs.length := by omega
      rw [List.drop_of_length_le (Nat.le_refl _)]
      exact getuint_end v xs w hb hx
  · unfold gu
    rw [if_neg h]
    exact getuint_out v xs i w hb h
end Go.Proofs.YtolfeellcdoopaaDoor

namespace Go.Proofs.YtolfeellcdoopaaDoor
open Go.ChangeShapes Go.WideShapes Go.ChangeAt Go.RowKit Oct By Reg

theorem put_call {P : Program} {f : FuncId} {vs : Array Value} {w : World} {E : TypeId} {bs : List UInt8} (h : Calls P f vs w (Put w E bs)) : Calls P f vs w fun e w'' => ∃ v, e = .returned v ∧ Rb w w'' ∧ (bsSpec bs).V w'' v :=
  h.mono fun _ _ ⟨_, _, he, ho, hb⟩ => ⟨_, he, hb, Bs.of_owns ho⟩
theorem val_call {P : Program} {f : FuncId} {vs : Array Value} {w : World} {v : Value} (h : Calls P f vs w fun e w' => e = .returned v ∧ w = w') : Calls P f vs w fun e w'' => ∃ u, e = .returned u ∧ Rb w w'' ∧ (Spec.eq (R := Rb) v).V w'' u :=
  h.mono fun _ _ ⟨he, hw⟩ => ⟨_, he, by rw [← hw]; exact Rb.refl _, rfl⟩
theorem val_call_below {P : Program} {f : FuncId} {vs : Array Value} {w : World} {v : Value} (h : Calls P f vs w fun e w' => e = .returned v ∧ Below w.heap.size w w') : Calls P f vs w fun e w'' => ∃ u, e = .returned u ∧ Rb w w'' ∧ (Spec.eq (R := Rb) v).V w'' u :=
  h.mono fun _ _ ⟨he, hw⟩ => ⟨_, he, hw, rfl⟩

theorem size_int (n : Int) (w : World) (h0 : 0 ≤ n) (h1 : n.toNat < U64) : Calls Tryd.prog 112 #[.int .u64 n] w fun e w' => e = .returned (.int .i64 (sizeN n.toNat : Int)) ∧ w = w' := by
  obtain ⟨n, rfl⟩ := Int.eq_ofNat_of_zero_le h0
  exact size_any n w h1
theorem intB_len {m : Int} (h0 : -9223372036854775808 ≤ m) (h1 : m ≤ 9223372036854775807) : (intB m).length ≤ 10 := sizeN_le10 (zig_lt h0 h1)
theorem textB_len (xs : List UInt8) (h : xs.length ≤ 300) : (textB xs).length ≤ 310 := by
  rw [textB, List.length_append, uintB_length]; have := sizeN_le10 (n := xs.length) (by omega); omega
end Go.Proofs.YtolfeellcdoopaaDoor

namespace Go.Proofs.YtolfeellcdoopaaDoor
open Go.ChangeShapes Go.WideShapes Go.ChangeAt Go.RowKit Oct By Reg

def tupR (r : Option (Nat × Nat)) : Value := match r with
  | none => .tuple #[.int .u64 0, .int .i64 0]
  | some (n, k) => .tuple #[.int .u64 n, .int .i64 k]

set_option maxRecDepth 100000 in
theorem refget_out (v : Value) (xs : List UInt8) (i : Int) (w : World) (hb : Bs w v xs) (h0 : ¬ (0 ≤ i ∧ i ≤ xs.length)) :
    Calls Tryd.prog 93 #[v, .int .i64 i] w fun e w' => e = .returned (tupR none) ∧ Below w.heap.size w w' := by
  obtain ⟨ao, cap, rfl, h2, h3⟩ := hb.len
  clear hb h3
  by_cases hn : i < 0
  · go_enter Tryd.func93, Tryd.ntmps93
    go_wp2
    go_ret2
    exact ⟨rfl, Below.refl _ _⟩
  · have hg : (xs.length : Int) < i := by omega
    clear h0
    go_enter Tryd.func93, Tryd.ntmps93
    go_wp2
    go_ret2
    exact ⟨rfl, Below.refl _ _⟩

theorem sizeOf8 : ∀ w, (Go.sizeOf 5).run Tryd.prog w = .ok 1 w := fun _ => by kernel_rfl

/-- the number of the bytes from j on -/
def back (ys : List UInt8) (k j : Nat) : Nat := val ((ys.take (k + 1)).drop j) % 18446744073709551616
theorem back_start (ys : List UInt8) (k : Nat) (h : k < ys.length) : back ys k (k + 1) = 0 := by
  unfold back; rw [List.drop_of_length_le (by simp; omega)]; rfl
theorem back_end (ys : List UInt8) (k : Nat) : back ys k 0 = acc ys (k + 1) := rfl
theorem back_step (ys : List UInt8) (k j : Nat) (h : k < ys.length) (hj : j ≤ k) : back ys k j = (back ys k (j + 1) * 128 + bt ys j % 128) % 18446744073709551616 := by
  have hlt : j < (ys.take (k + 1)).length := by simp; omega
  unfold back
  rw [List.drop_eq_getElem_cons hlt]
  simp only [val]
  have : ((ys.take (k + 1))[j]).toNat = bt ys j := by
    rw [List.getElem_take, bt, List.getD_eq_getElem?_getD, List.getElem?_eq_getElem (by omega)]; rfl
  rw [this]
  omega
theorem back_lt (ys : List UInt8) (k j : Nat) : back ys k j < 18446744073709551616 := Nat.mod_lt _ (by decide)

set_option maxRecDepth 100000 in
theorem refget_in (v : Value) (xs : List UInt8) (i : Nat) (w : World) (hb : Bs w v xs) (hx : xs.length ≤ 100000000) (hi : i ≤ xs.length) :
    Calls Tryd.prog 93 #[v, .int .i64 (i : Int)] w fun e w' => e = .returned (tupR (getU (xs.drop i))) ∧ Below w.heap.size w w' := by
  obtain ⟨ao, cap, rfl, h2, h3⟩ := hb.len
  have Hc : Hid (0 < xs.length → ∃ b o, ao = some ⟨b, o, none⟩ ∧ ∀ k, k < xs.length → w.cell? ⟨b, o + k, none⟩ = some (.int .u8 (bt xs k : Int))) := fun h => by
    obtain ⟨b, o, cap', e, _, _, hc⟩ := hb.form h
    cases e
    exact ⟨b, o, rfl, hc⟩
  have HB := Lib.hid hb
  obtain ⟨ys, hys⟩ : ∃ ys, ys = xs.drop i := ⟨_, rfl⟩
  have Hys := Lib.hid hys
  have Hyl := Lib.hid (show xs.length = i + ys.length by rw [hys, List.length_drop]; omega)
  rw [← hys]
  clear hb h3 hys
  have hd1 : decide (xs.length < i) = false := by simp; omega
  have hd2 : decide ((i : Int) < 0) = false := by simp
  go_enter Tryd.func93, Tryd.ntmps93
  go_wp2
  go_loop [6] (fun j => ∃ k : Nat, k ≤ 10 ∧ i + k ≤ xs.length ∧ j = .int .i64 ((k : Int) + 1) ∧ big ys k) (fun j => 11 - (intOf j).toNat)
  case atStart => exact ⟨0, by omega, by omega, rfl, fun _ h => by omega⟩
  case round =>
    obtain ⟨k, hk1, hk2, rfl, hbig⟩ := hrel
    by_cases hlt : k < 10 ∧ i + k < xs.length
    · obtain ⟨hl1, hl2⟩ := hlt
      obtain ⟨b, o, rfl, hc⟩ := Hc.out (by omega)
      have hcell := hc (i + k) (by omega)
      rw [← bt_drop, ← Hys.out] at hcell
      have HC : Hid (∀ j, j ≤ k → w.cell? ⟨b, o + (i + j), none⟩ = some (.int .u8 (bt ys j : Int))) := fun j hj => by
        have := hc (i + j) (by omega)
        rwa [← bt_drop, ← Hys.out] at this
      clear hc
      have hbt := bt_lt ys k
      have hys : k < ys.length := by have := Hyl.out; omega
      by_cases hge : 128 ≤ bt ys k
      · have hbig' := big_succ hbig (show 128 ≤ bt ys k from hge)
        go_wp2_with fail
        go_round
        case rel => exact ⟨k + 1, by omega, by omega, by go_num, hbig'⟩
        case measure => simp [intOf]; omega
      · have hbc : ¬ (128 : Int) ≤ bt ys k := by omega
        have hbs := Lib.hid (back_start ys k hys)
        go_wp2_with fail
        clear hcell
        go_loop [7, 8] (fun n j => ∃ m : Nat, m ≤ k + 1 ∧ j = .int .i64 ((m : Int) - 1) ∧ n = .int .u64 (back ys k m)) (fun _ j => (intOf j + 1).toNat)
        case atStart => exact ⟨k + 1, by omega, by go_num, by rw [hbs.out]; rfl⟩
        case round =>
          obtain ⟨m, hm, rfl, rfl⟩ := hrel
          cases m with
          | succ m =>
            have hcell := HC.out m (by omega)
            have hbm := bt_lt ys m
            have hst := Lib.hid (back_step ys k m hys (by omega))
            have hbl := back_lt ys k (m + 1)
            rw [show (((m + 1 : Nat) : Int) - 1) = (m : Int) by omega]
            go_wp2_with fail
            go_round
            case rel => exact ⟨m, by omega, by go_num, by rw [hst.out, IntKind.wrap_u64, IntKind.wrap_u64]; congr 1; omega⟩
            case measure => simp [intOf]
          | zero =>
            rw [back_end]
            go_wp2_with fail
            have hlo : (ys.getD k 0).toNat < 128 := by show bt ys k < 128; omega
            by_cases hme : mayEndB (ys.getD k 0).toNat k = true
            · have Hfin := Lib.hid (getU_yes ys k hys hl1 hbig hlo hme)
              refine wp_region_specs (R := Rb) (S := [Spec.eq (.int .u64 ((acc ys (k + 1) : Int))), bsSpec (uintB (acc ys (k + 1))), Spec.eq (strV (uintB (acc ys (k + 1)))), Spec.eq (.slice (some ⟨b, o, none⟩) xs.length cap), Spec.eq (.int .i64 ((i : Int))), Spec.eq (.int .i64 ((i : Int))), Spec.eq (.int .i64 ((k : Int) + 1)), Spec.eq (.int .i64 (((i : Int)) + ((k : Int) + 1))), bsSpec (ys.take (k + 1)), Spec.eq (strV (ys.take (k + 1))), Spec.eq (.bool true)]) (n := 1) (size := 67) (by kernel_rfl) Rb.trans (Rb.drew _) rfl (by kernel_rfl) ?owed ?fin
              case owed =>
                refine Owed.cons ?_ ?_
                · -- 0: slot 54 := Op.move (Operand.tmp 7)
                  intro a w hR F
                  have e7 : a.eval (.tmp 7) = .int .u64 ((acc ys (k + 1) : Int)) := F.old 7 (by kernel_rfl)
                  exact ok_move _ rfl (wanted_none rfl) ⟨Rb.refl _, e7⟩
                refine Owed.cons ?_ ?_
                · -- 1: slot 55 := Op.call { callee := Callee.value (Operand.func 11), args := #[Operand.tmp 54], argTypes := #[23] }
                  intro a w hR F
                  have e54 : a.eval (.tmp 54) = .int .u64 ((acc ys (k + 1) : Int)) := F.new 0 54 (by kernel_rfl)
                  refine ok_call 96 _ _ #[.int .u64 ((acc ys (k + 1) : Int))] rfl (wanted_none rfl) (by simp [e54]) (Tryd.call96 _ _) ?_
                  exact put_call (refuint_nat (acc ys (k + 1)) w (Nat.mod_lt _ (by decide)))
                refine Owed.cons ?_ ?_
                · -- 2: slot 56 := Op.convert 22 9 (Operand.tmp 55)
                  intro a w hR F
                  have e55 : Bs w (a.eval (.tmp 55)) (uintB (acc ys (k + 1))) := F.new 1 55 (by kernel_rfl)
                  exact ok_conv _ _ _ rfl (wanted_none rfl) (run_convert_Bs e55 44 5 9 Tryd.underlying44 Tryd.underlying5 Tryd.underlying9) ⟨Rb.refl _, rfl⟩
                refine Owed.cons ?_ ?_
                · -- 3: slot 57 := Op.move (Operand.tmp 0)
                  intro a w hR F
                  have e0 : a.eval (.tmp 0) = .slice (some ⟨b, o, none⟩) xs.length cap := F.old 0 (by kernel_rfl)
                  exact ok_move _ rfl (wanted_none rfl) ⟨Rb.refl _, e0⟩
                refine Owed.cons ?_ ?_
                · -- 4: slot 58 := Op.move (Operand.tmp 1)
                  intro a w hR F
                  have e1 : a.eval (.tmp 1) = .int .i64 ((i : Int)) := F.old 1 (by kernel_rfl)
                  exact ok_move _ rfl (wanted_none rfl) ⟨Rb.refl _, e1⟩
                refine Owed.cons ?_ ?_
                · -- 5: slot 59 := Op.move (Operand.tmp 1)
                  intro a w hR F
                  have e1 : a.eval (.tmp 1) = .int .i64 ((i : Int)) := F.old 1 (by kernel_rfl)
                  exact ok_move _ rfl (wanted_none rfl) ⟨Rb.refl _, e1⟩
                refine Owed.cons ?_ ?_
                · -- 6: slot 60 := Op.move (Operand.tmp 6)
                  intro a w hR F
                  have e6 : a.eval (.tmp 6) = .int .i64 ((k : Int) + 1) := F.old 6 (by kernel_rfl)
                  exact ok_move _ rfl (wanted_none rfl) ⟨Rb.refl _, e6⟩
                refine Owed.cons ?_ ?_
                · -- 7: slot 61 := Op.binOp BinOp.add 3 (Operand.tmp 59) (Operand.tmp 60) 3
                  intro a w hR F
                  have e59 : a.eval (.tmp 59) = .int .i64 ((i : Int)) := F.new 5 59 (by kernel_rfl)
                  have e60 : a.eval (.tmp 60) = .int .i64 ((k : Int) + 1) := F.new 6 60 (by kernel_rfl)
                  exact ok_bin _ _ _ _ _ rfl (wanted_none rfl) e59 e60 (run_add_i64 _ _ _ _ _ (by omega) (by omega)) ⟨Rb.refl _, rfl⟩
                refine Owed.cons ?_ ?_
                · -- 8: slot 62 := Op.slice 22 (Operand.tmp 57) (some (Operand.tmp 58)) (some (Operand.tmp 61)) none
                  intro a w hR F
                  have e57 : a.eval (.tmp 57) = .slice (some ⟨b, o, none⟩) xs.length cap := F.new 3 57 (by kernel_rfl)
                  have e58 : a.eval (.tmp 58) = .int .i64 ((i : Int)) := F.new 4 58 (by kernel_rfl)
                  have e61 : a.eval (.tmp 61) = .int .i64 (((i : Int)) + ((k : Int) + 1)) := F.new 7 61 (by kernel_rfl)
                  refine ok_slice_bs _ 5 _ _ _ (xs) (i) (i + (k + 1)) rfl (wanted_none rfl) Tryd.underlying44 sizeOf8 (by rw [e57]; exact HB.out.below hR) (e58) (by rw [e61]; exact congrArg (Value.int .i64) (by omega)) (by omega) (by omega) (fun v hv => ⟨Rb.refl _, ?_⟩)
                  exact by have h := hv; rw [show i + (k + 1) - i = k + 1 by omega, ← Hys.out] at h; exact h
                refine Owed.cons ?_ ?_
                · -- 9: slot 63 := Op.convert 22 9 (Operand.tmp 62)
                  intro a w hR F
                  have e62 : Bs w (a.eval (.tmp 62)) (ys.take (k + 1)) := F.new 8 62 (by kernel_rfl)
                  exact ok_conv _ _ _ rfl (wanted_none rfl) (run_convert_Bs e62 44 5 9 Tryd.underlying44 Tryd.underlying5 Tryd.underlying9) ⟨Rb.refl _, rfl⟩
                refine Owed.cons ?_ ?_
                · -- 10: slot 64 := Op.binOp BinOp.eql 9 (Operand.tmp 56) (Operand.tmp 63) 9
                  intro a w hR F
                  have e56 : a.eval (.tmp 56) = strV (uintB (acc ys (k + 1))) := F.new 2 56 (by kernel_rfl)
                  have e63 : a.eval (.tmp 63) = strV (ys.take (k + 1)) := F.new 9 63 (by kernel_rfl)
                  refine ok_bin _ _ _ _ _ rfl (wanted_none rfl) e56 e63 (run_eql_strV _ _ _ _ _) ⟨Rb.refl _, ?_⟩
                  exact congrArg Value.bool (beq_iff_eq.2 ((form_iff ys k hys hl1 hbig hlo).2 hme))
                exact Owed.nil
              case fin =>
                intro y w2 hR hy
                have e10 : y 10 = .bool true := hy 10 _ rfl
                have HR := Lib.hid hR
                clear hy hR
                simp only [putAll, Act.put, List.setIfInBounds_toArray, List.set_cons_zero, List.set_cons_succ]
                rw [e10]
                go_wp2
                go_ret2
                refine ⟨?_, HR.out⟩
                rw [Hfin.out]
                rfl
            · have Hfin := Lib.hid (getU_no ys k hys hl1 hbig hlo (Bool.eq_false_iff.2 hme))
              refine wp_region_specs (R := Rb) (S := [Spec.eq (.int .u64 ((acc ys (k + 1) : Int))), bsSpec (uintB (acc ys (k + 1))), Spec.eq (strV (uintB (acc ys (k + 1)))), Spec.eq (.slice (some ⟨b, o, none⟩) xs.length cap), Spec.eq (.int .i64 ((i : Int))), Spec.eq (.int .i64 ((i : Int))), Spec.eq (.int .i64 ((k : Int) + 1)), Spec.eq (.int .i64 (((i : Int)) + ((k : Int) + 1))), bsSpec (ys.take (k + 1)), Spec.eq (strV (ys.take (k + 1))), Spec.eq (.bool false)]) (n := 1) (size := 67) (by kernel_rfl) Rb.trans (Rb.drew _) rfl (by kernel_rfl) ?owed ?fin
              case owed =>
                refine Owed.cons ?_ ?_
                · -- 0: slot 54 := Op.move (Operand.tmp 7)
                  intro a w hR F
                  have e7 : a.eval (.tmp 7) = .int .u64 ((acc ys (k + 1) : Int)) := F.old 7 (by kernel_rfl)
                  exact ok_move _ rfl (wanted_none rfl) ⟨Rb.refl _, e7⟩
                refine Owed.cons ?_ ?_
                · -- 1: slot 55 := Op.call { callee := Callee.value (Operand.func 11), args := #[Operand.tmp 54], argTypes := #[23] }
                  intro a w hR F
                  have e54 : a.eval (.tmp 54) = .int .u64 ((acc ys (k + 1) : Int)) := F.new 0 54 (by kernel_rfl)
                  refine ok_call 96 _ _ #[.int .u64 ((acc ys (k + 1) : Int))] rfl (wanted_none rfl) (by simp [e54]) (Tryd.call96 _ _) ?_
                  exact put_call (refuint_nat (acc ys (k + 1)) w (Nat.mod_lt _ (by decide)))
                refine Owed.cons ?_ ?_
                · -- 2: slot 56 := Op.convert 22 9 (Operand.tmp 55)
                  intro a w hR F
                  have e55 : Bs w (a.eval (.tmp 55)) (uintB (acc ys (k + 1))) := F.new 1 55 (by kernel_rfl)
                  exact ok_conv _ _ _ rfl (wanted_none rfl) (run_convert_Bs e55 44 5 9 Tryd.underlying44 Tryd.underlying5 Tryd.underlying9) ⟨Rb.refl _, rfl⟩
                refine Owed.cons ?_ ?_
                · -- 3: slot 57 := Op.move (Operand.tmp 0)
                  intro a w hR F
                  have e0 : a.eval (.tmp 0) = .slice (some ⟨b, o, none⟩) xs.length cap := F.old 0 (by kernel_rfl)
                  exact ok_move _ rfl (wanted_none rfl) ⟨Rb.refl _, e0⟩
                refine Owed.cons ?_ ?_
                · -- 4: slot 58 := Op.move (Operand.tmp 1)
                  intro a w hR F
                  have e1 : a.eval (.tmp 1) = .int .i64 ((i : Int)) := F.old 1 (by kernel_rfl)
                  exact ok_move _ rfl (wanted_none rfl) ⟨Rb.refl _, e1⟩
                refine Owed.cons ?_ ?_
                · -- 5: slot 59 := Op.move (Operand.tmp 1)
                  intro a w hR F
                  have e1 : a.eval (.tmp 1) = .int .i64 ((i : Int)) := F.old 1 (by kernel_rfl)
                  exact ok_move _ rfl (wanted_none rfl) ⟨Rb.refl _, e1⟩
                refine Owed.cons ?_ ?_
                · -- 6: slot 60 := Op.move (Operand.tmp 6)
                  intro a w hR F
                  have e6 : a.eval (.tmp 6) = .int .i64 ((k : Int) + 1) := F.old 6 (by kernel_rfl)
                  exact ok_move _ rfl (wanted_none rfl) ⟨Rb.refl _, e6⟩
                refine Owed.cons ?_ ?_
                · -- 7: slot 61 := Op.binOp BinOp.add 3 (Operand.tmp 59) (Operand.tmp 60) 3
                  intro a w hR F
                  have e59 : a.eval (.tmp 59) = .int .i64 ((i : Int)) := F.new 5 59 (by kernel_rfl)
                  have e60 : a.eval (.tmp 60) = .int .i64 ((k : Int) + 1) := F.new 6 60 (by kernel_rfl)
                  exact ok_bin _ _ _ _ _ rfl (wanted_none rfl) e59 e60 (run_add_i64 _ _ _ _ _ (by omega) (by omega)) ⟨Rb.refl _, rfl⟩
                refine Owed.cons ?_ ?_
                · -- 8: slot 62 := Op.slice 22 (Operand.tmp 57) (some (Operand.tmp 58)) (some (Operand.tmp 61)) none
                  intro a w hR F
                  have e57 : a.eval (.tmp 57) = .slice (some ⟨b, o, none⟩) xs.length cap := F.new 3 57 (by kernel_rfl)
                  have e58 : a.eval (.tmp 58) = .int .i64 ((i : Int)) := F.new 4 58 (by kernel_rfl)
                  have e61 : a.eval (.tmp 61) = .int .i64 (((i : Int)) + ((k : Int) + 1)) := F.new 7 61 (by kernel_rfl)
                  refine ok_slice_bs _ 5 _ _ _ (xs) (i) (i + (k + 1)) rfl (wanted_none rfl) Tryd.underlying44 sizeOf8 (by rw [e57]; exact HB.out.below hR) (e58) (by rw [e61]; exact congrArg (Value.int .i64) (by omega)) (by omega) (by omega) (fun v hv => ⟨Rb.refl _, ?_⟩)
                  exact by have h := hv; rw [show i + (k + 1) - i = k + 1 by omega, ← Hys.out] at h; exact h
                refine Owed.cons ?_ ?_
                · -- 9: slot 63 := Op.convert 22 9 (Operand.tmp 62)
                  intro a w hR F
                  have e62 : Bs w (a.eval (.tmp 62)) (ys.take (k + 1)) := F.new 8 62 (by kernel_rfl)
                  exact ok_conv _ _ _ rfl (wanted_none rfl) (run_convert_Bs e62 44 5 9 Tryd.underlying44 Tryd.underlying5 Tryd.underlying9) ⟨Rb.refl _, rfl⟩
                refine Owed.cons ?_ ?_
                · -- 10: slot 64 := Op.binOp BinOp.eql 9 (Operand.tmp 56) (Operand.tmp 63) 9
                  intro a w hR F
                  have e56 : a.eval (.tmp 56) = strV (uintB (acc ys (k + 1))) := F.new 2 56 (by kernel_rfl)
                  have e63 : a.eval (.tmp 63) = strV (ys.take (k + 1)) := F.new 9 63 (by kernel_rfl)
                  refine ok_bin _ _ _ _ _ rfl (wanted_none rfl) e56 e63 (run_eql_strV _ _ _ _ _) ⟨Rb.refl _, ?_⟩
                  exact congrArg Value.bool (beq_eq_false_iff_ne.2 (fun h => hme ((form_iff ys k hys hl1 hbig hlo).1 h)))
                exact Owed.nil
              case fin =>
                intro y w2 hR hy
                have e10 : y 10 = .bool false := hy 10 _ rfl
                have HR := Lib.hid hR
                clear hy hR
                simp only [putAll, Act.put, List.setIfInBounds_toArray, List.set_cons_zero, List.set_cons_succ]
                rw [e10]
                go_wp2
                go_ret2
                refine ⟨?_, HR.out⟩
                rw [Hfin.out]
                rfl
    · have Hfin := Lib.hid (getU_end ys k (by have := Hyl.out; omega) hk1 (by have := Hyl.out; omega) hbig)
      by_cases h10 : k < 10
      · have hq : ¬ ((i : Int) + ((k : Int) + 1) ≤ xs.length) := by omega
        go_wp2_with fail
        go_ret2
        refine ⟨?_, Below.refl _ _⟩
        rw [Hfin.out]
        rfl
      · have hq : ¬ ((k : Int) + 1 ≤ 10) := by omega
        go_wp2_with fail
        go_ret2
        refine ⟨?_, Below.refl _ _⟩
        rw [Hfin.out]
        rfl
end Go.Proofs.YtolfeellcdoopaaDoor

namespace Go.Proofs.YtolfeellcdoopaaDoor
open Go.ChangeShapes Go.WideShapes Go.ChangeAt Go.RowKit Oct By Reg

theorem refget_any (v : Value) (xs : List UInt8) (i : Int) (w : World) (hb : Bs w v xs) (hx : xs.length ≤ 100000000) :
    Calls Tryd.prog 93 #[v, .int .i64 i] w fun e w' => e = .returned (tupR (gu xs i)) ∧ Below w.heap.size w w' := by
  by_cases h : 0 ≤ i ∧ i ≤ xs.length
  · unfold gu
    rw [if_pos h]
    obtain ⟨k, rfl⟩ := Int.eq_ofNat_of_zero_le h.1
    rw [Int.toNat_natCast]
    exact refget_in v xs k w hb hx (by omega)
  · unfold gu
    rw [if_neg h]
    exact refget_out v xs i w hb h

def unzig (u : Nat) : Int := if u % 2 = 1 then -((u / 2 : Nat) : Int) - 1 else ((u / 2 : Nat) : Int)
def tupI (r : Option (Nat × Nat)) (i : Int) : Value := match r with
  | none => .tuple #[.int .i64 0, .int .i64 0, .bool false]
  | some (n, k) => .tuple #[.int .i64 (unzig n), .int .i64 (i + k), .bool true]
def tupRI (r : Option (Nat × Nat)) : Value := match r with
  | none => .tuple #[.int .i64 0, .int .i64 0]
  | some (n, k) => .tuple #[.int .i64 (unzig n), .int .i64 k]

theorem gu_lt {xs : List UInt8} {i : Int} {n k : Nat} (h : gu xs i = some (n, k)) : n < 18446744073709551616 ∧ 1 ≤ k ∧ k ≤ 10 ∧ 0 ≤ i ∧ i + k ≤ xs.length ∧ (xs.drop i.toNat).take k = uintB n := by
  unfold gu at h
  split at h
  · rename_i hi
    obtain ⟨h1, h2, h3, h4, h5⟩ := getU_spec h
    rw [List.length_drop] at h4
    exact ⟨h1, h2, h3, hi.1, by omega, h5⟩
  · cases h

theorem xor_comm_i64 (x y : Int) : bits BinOp.xor IntKind.i64 x y = bits BinOp.xor IntKind.i64 y x := by
  show IntKind.i64.wrap ((BitVec.ofInt 64 x ^^^ BitVec.ofInt 64 y).toNat : Int) = IntKind.i64.wrap ((BitVec.ofInt 64 y ^^^ BitVec.ofInt 64 x).toNat : Int)
  rw [BitVec.xor_comm]
theorem xor_zero_i64 (x : Nat) (h : x < 9223372036854775808) : bits BinOp.xor IntKind.i64 (x : Int) 0 = x := by
  show IntKind.i64.wrap ((BitVec.ofInt 64 (x : Int) ^^^ BitVec.ofInt 64 0).toNat : Int) = _
  rw [show BitVec.ofInt 64 0 = 0#64 from rfl, BitVec.xor_zero, BitVec.ofInt_natCast, BitVec.toNat_ofNat, IntKind.wrap_i64]
  omega
theorem unzig_bits (n : Nat) (h : n < 18446744073709551616) : bits BinOp.xor IntKind.i64 ((n : Int) / 2) (wrap64 (-wrap64 (bits BinOp.and IntKind.u64 (n : Int) 1))) = unzig n := by
  rw [Lib.u64_and1 _ (by omega) (by omega)]
  have e : (n : Int) / 2 = ((n / 2 : Nat) : Int) := by omega
  unfold unzig
  by_cases h2 : n % 2 = 1
  · rw [if_pos h2, show (n : Int) % 2 = 1 by omega, show wrap64 (-wrap64 1) = -1 by rw [IntWalk.wrap64_in 1 ⟨by omega, by omega⟩, IntWalk.wrap64_in (-1) ⟨by omega, by omega⟩], xor_comm_i64, e, Lib.i64_not _ (by omega)]
  · rw [if_neg h2, show (n : Int) % 2 = 0 by omega, show wrap64 (-wrap64 0) = 0 by rw [IntWalk.wrap64_in 0 ⟨by omega, by omega⟩, IntWalk.wrap64_in (-0) ⟨by omega, by omega⟩]; rfl, e, xor_zero_i64 _ (by omega)]

set_option maxRecDepth 100000 in
theorem getint_any (v : Value) (xs : List UInt8) (i : Int) (w : World) (hb : Bs w v xs) (hx : xs.length ≤ 100000000) :
    Calls Tryd.prog 87 #[v, .int .i64 i] w fun e w' => e = .returned (tupI (gu xs i) i) ∧ w = w' := by
  have hc := getuint_any v xs i w hb hx
  cases hg : gu xs i with
  | none =>
    rw [hg] at hc
    have Hc := Lib.hid hc
    clear hc hg
    go_enter Tryd.func87, Tryd.ntmps87
    go_wp2_with fail
    refine Hc.out.mono ?_
    rintro e w' ⟨rfl, rfl⟩
    unfold tupU
    go_wp2_with fail
    go_ret3
    have hz := unzig_bits 0 (by decide)
    exact ⟨congrArg (fun x => Ending.returned (.tuple #[.int .i64 x, .int .i64 0, .bool false])) hz, rfl⟩
  | some p =>
    obtain ⟨n, k⟩ := p
    have hb := gu_lt hg
    have hn := hb.1
    rw [hg] at hc
    have Hc := Lib.hid hc
    clear hc hg hb
    go_enter Tryd.func87, Tryd.ntmps87
    go_wp2_with fail
    refine Hc.out.mono ?_
    rintro e w' ⟨rfl, rfl⟩
    unfold tupU
    go_wp2_with fail
    go_ret3
    have hz := unzig_bits n hn
    exact ⟨congrArg (fun x => Ending.returned (.tuple #[.int .i64 x, .int .i64 (i + k), .bool true])) hz, rfl⟩

set_option maxRecDepth 100000 in
theorem refgetint_any (v : Value) (xs : List UInt8) (i : Int) (w : World) (hb : Bs w v xs) (hx : xs.length ≤ 100000000) :
    Calls Tryd.prog 76 #[v, .int .i64 i] w fun e w' => e = .returned (tupRI (gu xs i)) ∧ Below w.heap.size w w' := by
  have hc := refget_any v xs i w hb hx
  cases hg : gu xs i with
  | none =>
    rw [hg] at hc
    have Hc := Lib.hid hc
    clear hc hg
    go_enter Tryd.func76, Tryd.ntmps76
    go_wp2_with fail
    refine Hc.out.mono ?_
    rintro e w' ⟨rfl, hb⟩
    unfold tupR
    go_wp2_with fail
    go_ret2
    exact ⟨rfl, hb⟩
  | some p =>
    obtain ⟨n, k⟩ := p
    have hb := gu_lt hg
    have hn := hb.1
    rw [hg] at hc
    have Hc := Lib.hid hc
    clear hc hg hb
    by_cases h2 : n % 2 = 1
    · have h2i : ((n : Int) % 2 == 1) = true := by simp; omega
      go_enter Tryd.func76, Tryd.ntmps76
      go_wp2_with fail
      refine Hc.out.mono ?_
      rintro e w' ⟨rfl, hb⟩
      unfold tupR
      go_wp2_with fail
      go_ret2
      exact ⟨congrArg (fun x => Ending.returned (.tuple #[.int .i64 x, .int .i64 k])) (by unfold unzig; rw [if_pos h2]; omega), hb⟩
    · have h2i : ((n : Int) % 2 == 1) = false := by simp; omega
      go_enter Tryd.func76, Tryd.ntmps76
      go_wp2_with fail
      refine Hc.out.mono ?_
      rintro e w' ⟨rfl, hb⟩
      unfold tupR
      go_wp2_with fail
      go_ret2
      exact ⟨congrArg (fun x => Ending.returned (.tuple #[.int .i64 x, .int .i64 k])) (by unfold unzig; rw [if_neg h2]; omega), hb⟩
end Go.Proofs.YtolfeellcdoopaaDoor

namespace Go.Proofs.YtolfeellcdoopaaDoor
open Go.ChangeShapes Go.WideShapes Go.ChangeAt Go.RowKit Oct By Reg

/-- the text that stands at a place, and how many bytes it has in all -/
def gt (xs : List UInt8) (i most : Int) : Option (List UInt8 × Nat) := match gu xs i with
  | none => none
  | some (n, k) => if (n : Int) ≤ most ∧ i + k + n ≤ xs.length then some ((xs.drop (i.toNat + k)).take n, k + n) else none
def tupT (r : Option (List UInt8 × Nat)) (i : Int) : Value := match r with
  | none => .tuple #[.string (str []), .int .i64 0, .bool false]
  | some (s, k) => .tuple #[.string (str s), .int .i64 (i + k), .bool true]
def tupRT (r : Option (List UInt8 × Nat)) : Value := match r with
  | none => .tuple #[.string (str []), .int .i64 0]
  | some (s, k) => .tuple #[.string (str s), .int .i64 k]

/-- a part, by the walk's own operation -/
theorem slice_bs {w : World} {ao : Option Addr} {n cap : Nat} {X : List UInt8} (hb : Bs w (.slice ao n cap) X) (l h : Nat) (h1 : l ≤ h) (h2 : h ≤ X.length) :
    ∃ r, (∀ a b : Int, a = l → b = h → (Instr.slice 44 (.slice ao n cap) (some (.int .i64 a)) (some (.int .i64 b)) none).run Tryd.prog w = .ok r w) ∧ (convert 44 9 r).run Tryd.prog w = .ok (.string (str ((X.drop l).take (h - l)))) w := by
  obtain ⟨ao', cap', e, e2, e3⟩ := hb.len
  simp only [Value.slice.injEq] at e
  obtain ⟨rfl, rfl, rfl⟩ := e
  have ht' : Tryd.prog.underlying 44 = some (.slice (Tryd.prog.elem 44)) := by simp [Program.elem, Tryd.underlying44]
  have he : Tryd.prog.elem 44 = 5 := by simp [Program.elem, Tryd.underlying44]
  refine ⟨sliced ao l h cap 1, fun a b ha hb' => ?_, run_convert_Bs (hb.sub l h h1 h2) _ 5 _ Tryd.underlying44 Tryd.underlying5 Tryd.underlying9⟩
  subst ha hb'
  rw [run_slice_lh w 44 _ _ _ ht' .i64 .i64 _ _ (by omega) (by omega) (by omega), he, sizeOf8]
  simp [Result.andThen]

set_option maxRecDepth 100000 in
theorem gettext_any (v : Value) (xs : List UInt8) (i most : Int) (w : World) (hb : Bs w v xs) (hx : xs.length ≤ 100000000) :
    Calls Tryd.prog 88 #[v, .int .i64 i, .int .i64 most] w fun e w' => e = .returned (tupT (gt xs i most) i) ∧ w = w' := by
  have hc := getuint_any v xs i w hb hx
  unfold gt
  obtain ⟨ao, cap, rfl, h2, h3⟩ := hb.len
  cases hg : gu xs i with
  | none =>
    rw [hg] at hc
    have Hc := Lib.hid hc
    clear hc hg hb
    go_enter Tryd.func88, Tryd.ntmps88
    go_wp2_with fail
    refine Hc.out.mono ?_
    rintro e w' ⟨rfl, rfl⟩
    unfold tupU
    go_wp2_with fail
    go_ret3
    exact ⟨rfl, rfl⟩
  | some p =>
    obtain ⟨n, k⟩ := p
    obtain ⟨g1, g2, g3, g4, g5, _⟩ := gu_lt hg
    rw [hg] at hc
    have Hc := Lib.hid hc
    clear hc hg
    obtain ⟨j, rfl⟩ := Int.eq_ofNat_of_zero_le g4
    simp only [Int.toNat_natCast]
    by_cases hn : (j : Int) + k + n ≤ xs.length
    · by_cases hm : (n : Int) ≤ most
      · rw [if_pos ⟨hm, hn⟩]
        obtain ⟨r, hr1, hr2⟩ := slice_bs hb (j + k) (j + k + n) (by omega) (by omega)
        rw [show j + k + n - (j + k) = n by omega] at hr2
        have hr3 := hr1 ((j : Int) + k) ((j : Int) + k + n) (by omega) (by omega)
        clear hr1 hb
        have hw : IntKind.u64.wrap ((xs.length : Int) - ((j : Int) + k)) = (xs.length : Int) - ((j : Int) + k) := by rw [IntKind.wrap_u64]; omega
        have hq : ¬ ((xs.length : Int) - ((j : Int) + k) < n) := by omega
        have hq2 : ¬ (most < n) := by omega
        go_enter Tryd.func88, Tryd.ntmps88
        go_wp2_with fail
        refine Hc.out.mono ?_
        rintro e w' ⟨rfl, rfl⟩
        unfold tupU
        go_wp2_with fail
        go_ret3
        exact ⟨congrArg (fun x => Ending.returned (.tuple #[.string (str ((xs.drop (j + k)).take n)), .int .i64 x, .bool true])) (by omega), rfl⟩
      · rw [if_neg (fun h => hm h.1)]
        have hw : IntKind.u64.wrap ((xs.length : Int) - ((j : Int) + k)) = (xs.length : Int) - ((j : Int) + k) := by rw [IntKind.wrap_u64]; omega
        have hq : ¬ ((xs.length : Int) - ((j : Int) + k) < n) := by omega
        have hq2 : most < n := by omega
        clear hb
        go_enter Tryd.func88, Tryd.ntmps88
        go_wp2_with fail
        refine Hc.out.mono ?_
        rintro e w' ⟨rfl, rfl⟩
        unfold tupU
        go_wp2_with fail
        go_ret3
        exact ⟨rfl, rfl⟩
    · rw [if_neg (fun h => hn h.2)]
      have hw : IntKind.u64.wrap ((xs.length : Int) - ((j : Int) + k)) = (xs.length : Int) - ((j : Int) + k) := by rw [IntKind.wrap_u64]; omega
      have hq : (xs.length : Int) - ((j : Int) + k) < n := by omega
      clear hb
      go_enter Tryd.func88, Tryd.ntmps88
      go_wp2_with fail
      refine Hc.out.mono ?_
      rintro e w' ⟨rfl, rfl⟩
      unfold tupU
      go_wp2_with fail
      go_ret3
      exact ⟨rfl, rfl⟩

set_option maxRecDepth 100000 in
theorem reftext_get (v : Value) (xs : List UInt8) (i most : Int) (w : World) (hb : Bs w v xs) (hx : xs.length ≤ 100000000) (hmo : most ≤ 9223372036854775807) :
    Calls Tryd.prog 77 #[v, .int .i64 i, .int .i64 most] w fun e w' => e = .returned (tupRT (gt xs i most)) ∧ Below w.heap.size w w' := by
  have hc := refget_any v xs i w hb hx
  unfold gt
  obtain ⟨ao, cap, rfl, h2, h3⟩ := hb.len
  cases hg : gu xs i with
  | none =>
    rw [hg] at hc
    have Hc := Lib.hid hc
    clear hc hg hb
    go_enter Tryd.func77, Tryd.ntmps77
    go_wp2_with fail
    refine Hc.out.mono ?_
    rintro e w' ⟨rfl, hbe⟩
    unfold tupR
    go_wp2_with fail
    go_ret2
    exact ⟨rfl, hbe⟩
  | some p =>
    obtain ⟨n, k⟩ := p
    obtain ⟨g1, g2, g3, g4, g5, _⟩ := gu_lt hg
    rw [hg] at hc
    have Hc := Lib.hid hc
    clear hc hg
    obtain ⟨j, rfl⟩ := Int.eq_ofNat_of_zero_le g4
    simp only [Int.toNat_natCast]
    have hk0 : ((k : Int) == 0) = false := by simp; omega
    by_cases hneg : most < 0
    · rw [if_neg (fun h => by omega)]
      clear hb
      go_enter Tryd.func77, Tryd.ntmps77
      go_wp2_with fail
      refine Hc.out.mono ?_
      rintro e w' ⟨rfl, hbe⟩
      unfold tupR
      go_wp2_with fail
      go_ret2
      exact ⟨rfl, hbe⟩
    · have hm0 : ¬ (most < 0) := hneg
      have hwm : IntKind.u64.wrap most = most := by rw [IntKind.wrap_u64]; omega
      by_cases hm : (n : Int) ≤ most
      · have hq2 : ¬ (most < n) := by omega
        have hw : IntKind.u64.wrap ((xs.length : Int) - j - k) = (xs.length : Int) - j - k := by rw [IntKind.wrap_u64]; omega
        by_cases hn : (j : Int) + k + n ≤ xs.length
        · rw [if_pos ⟨hm, hn⟩]
          have hq : ¬ ((xs.length : Int) - j - k < n) := by omega
          have Hb := Lib.hid hb
          clear hb
          go_enter Tryd.func77, Tryd.ntmps77
          go_wp2_with fail
          refine Hc.out.mono ?_
          rintro e w' ⟨rfl, hbe⟩
          unfold tupR
          obtain ⟨r, hr1, hr2⟩ := slice_bs (Hb.out.below hbe) (j + k) (j + k + n) (by omega) (by omega)
          rw [show j + k + n - (j + k) = n by omega] at hr2
          have hr3 := hr1 ((j : Int) + k) ((j : Int) + k + n) (by omega) (by omega)
          clear hr1
          have HBE := Lib.hid hbe
          clear hbe
          go_wp2_with fail
          go_ret2
          exact ⟨congrArg (fun x => Ending.returned (.tuple #[.string (str ((xs.drop (j + k)).take n)), .int .i64 x])) (by omega), HBE.out⟩
        · rw [if_neg (fun h => hn h.2)]
          have hq : (xs.length : Int) - j - k < n := by omega
          clear hb
          go_enter Tryd.func77, Tryd.ntmps77
          go_wp2_with fail
          refine Hc.out.mono ?_
          rintro e w' ⟨rfl, hbe⟩
          unfold tupR
          go_wp2_with fail
          go_ret2
          exact ⟨rfl, hbe⟩
      · rw [if_neg (fun h => hm h.1)]
        have hq2 : most < n := by omega
        clear hb
        go_enter Tryd.func77, Tryd.ntmps77
        go_wp2_with fail
        refine Hc.out.mono ?_
        rintro e w' ⟨rfl, hbe⟩
        unfold tupR
        go_wp2_with fail
        go_ret2
        exact ⟨rfl, hbe⟩
end Go.Proofs.YtolfeellcdoopaaDoor
