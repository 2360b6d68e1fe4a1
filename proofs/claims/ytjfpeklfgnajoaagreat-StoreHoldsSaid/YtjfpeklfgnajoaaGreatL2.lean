/-
  Layers 1 and 2: what layer 7 takes of their texts, as one.
-/
import Derived.ProofKit
import Derived.ChangeOld
import Derived.OpenShut
import Derived.LoopTactic
import Derived.WalkSpells
import Derived.Outline
import Derived.Lib.Hide
import Derived.Test.YtjfpeklfgnajoaaGreatChecked
import Derived.Lib.Strings
import Derived.WalkKit
import Derived.Below
import Derived.ArgAppend
import Derived.Deep.Onto
import Derived.Lib.AppendStr
import Derived.Laws.BytesArg
import Derived.Lib.ConvBytes
import Derived.Laws.AppendOwnNone
import Derived.Laws.Slices
import Derived.Orders
import Derived.Tactics
import Derived.KernelRfl
import Derived.WalkLawsBesides
import Derived.IntWalk
import Derived.Lib.ItoaNum
import Derived.Lib.ParseIntB
import Derived.Lib.Small
import Derived.BigQuiet
import Derived.Deep.QuietTactic
namespace Go.Proofs.YtjfpeklfgnajoaaGreat.Oct

/-- seven bits a byte, the lowest first -/
def uintB (n : Nat) : List UInt8 := if h : n < 128 then [UInt8.ofNat n] else UInt8.ofNat (n % 128 + 128) :: uintB (n / 128)
termination_by n
decreasing_by omega

theorem uintB_small {n : Nat} (h : n < 128) : uintB n = [UInt8.ofNat n] := by rw [uintB, dif_pos h]
theorem uintB_big {n : Nat} (h : 128 ≤ n) : uintB n = UInt8.ofNat (n % 128 + 128) :: uintB (n / 128) := by rw [uintB, dif_neg (by omega)]

def sizeN (n : Nat) : Nat := (uintB n).length
theorem sizeN_small {n : Nat} (h : n < 128) : sizeN n = 1 := by simp [sizeN, uintB_small h]
theorem sizeN_big {n : Nat} (h : 128 ≤ n) : sizeN n = sizeN (n / 128) + 1 := by simp [sizeN, uintB_big h]
theorem sizeN_pos (n : Nat) : 1 ≤ sizeN n := by
  by_cases h : n < 128
  · rw [sizeN_small h]; exact Nat.le_refl 1
  · rw [sizeN_big (by omega)]; omega

/-- less than 2^(7k) takes at most k bytes -/
theorem sizeN_le : ∀ (k n : Nat), 1 ≤ k → n < 2 ^ (7 * k) → sizeN n ≤ k
  | 0, _, h, _ => by omega
  | 1, n, _, h => by rw [sizeN_small (by simpa using h)]; exact Nat.le_refl 1
  | k + 2, n, _, h => by
    by_cases hn : n < 128
    · rw [sizeN_small hn]; omega
    · rw [sizeN_big (by omega)]
      have h2 : n / 128 < 2 ^ (7 * (k + 1)) := by
        rw [Nat.div_lt_iff_lt_mul (by decide)]
        rw [show 7 * (k + 2) = 7 * (k + 1) + 7 by omega, Nat.pow_add] at h
        exact h
      have := sizeN_le (k + 1) (n / 128) (by omega) h2
      omega
theorem sizeN_le10 {n : Nat} (h : n < 18446744073709551616) : sizeN n ≤ 10 :=
  sizeN_le 10 n (by omega) (Nat.lt_of_lt_of_le h (by decide))

/-- the bytes by places -/
theorem uintB_last : ∀ (n : Nat), n / 128 ^ (sizeN n - 1) < 128 := by
  intro n
  induction n using Nat.strongRecOn with
  | ind n ih =>
    by_cases h : n < 128
    · rw [sizeN_small h]; simpa using h
    · have h1 := ih (n / 128) (by omega)
      have hp := sizeN_pos (n / 128)
      rw [sizeN_big (by omega), show sizeN (n / 128) + 1 - 1 = (sizeN (n / 128) - 1) + 1 by omega, Nat.pow_succ, Nat.mul_comm, ← Nat.div_div_eq_div_mul]
      exact h1

def low (n i : Nat) : UInt8 := UInt8.ofNat (n / 128 ^ i % 128 + 128)
def heads (n : Nat) : Nat → List UInt8
  | 0 => []
  | k + 1 => heads n k ++ [low n k]
theorem heads_cons (n : Nat) : ∀ k, heads n (k + 1) = UInt8.ofNat (n % 128 + 128) :: heads (n / 128) k
  | 0 => by simp [heads, low]
  | k + 1 => by
    rw [heads, heads_cons n k, heads]
    simp only [List.cons_append, low]
    rw [Nat.pow_succ, Nat.mul_comm, ← Nat.div_div_eq_div_mul]
theorem uintB_heads : ∀ (n : Nat), uintB n = heads n (sizeN n - 1) ++ [UInt8.ofNat (n / 128 ^ (sizeN n - 1))] := by
  intro n
  induction n using Nat.strongRecOn with
  | ind n ih =>
    by_cases h : n < 128
    · rw [sizeN_small h, uintB_small h]; simp [heads]
    · have hp := sizeN_pos (n / 128)
      rw [sizeN_big (by omega), uintB_big (by omega), ih (n / 128) (by omega)]
      rw [show sizeN (n / 128) + 1 - 1 = (sizeN (n / 128) - 1) + 1 by omega, heads_cons, Nat.pow_succ, Nat.mul_comm, ← Nat.div_div_eq_div_mul]
      rfl

/-- a number's zigzag form -/
def zig (n : Int) : Nat := if 0 ≤ n then (2 * n).toNat else (-2 * n - 1).toNat
def intB (n : Int) : List UInt8 := uintB (zig n)
def textB (s : List UInt8) : List UInt8 := uintB s.length ++ s
def wordB (n : Nat) : List UInt8 := [UInt8.ofNat (n / 16777216), UInt8.ofNat (n / 65536 % 256), UInt8.ofNat (n / 256 % 256), UInt8.ofNat (n % 256)]

/-- Adler's two numbers -/
def adl : List UInt8 → Nat × Nat → Nat × Nat
  | [], p => p
  | c :: l, (x, y) => adl l ((x + c.toNat) % 65521, (y + (x + c.toNat) % 65521) % 65521)
def sumN (l : List UInt8) : Nat := (adl l (1, 0)).2 * 65536 + (adl l (1, 0)).1

theorem adl_append : ∀ (l m : List UInt8) (p : Nat × Nat), adl (l ++ m) p = adl m (adl l p)
  | [], _, _ => rfl
  | c :: l, m, (x, y) => by simp [adl, adl_append l m]
theorem adl_take (l : List UInt8) (k : Nat) (h : k < l.length) (p : Nat × Nat) : adl (l.take (k + 1)) p = (((adl (l.take k) p).1 + (l.getD k 0).toNat) % 65521, ((adl (l.take k) p).2 + ((adl (l.take k) p).1 + (l.getD k 0).toNat) % 65521) % 65521) := by
  have e : l.take (k + 1) = l.take k ++ [l.getD k 0] := by
    rw [List.take_succ_eq_append_getElem h, List.getD_eq_getElem?_getD, List.getElem?_eq_getElem h]; rfl
  rw [e, adl_append]
  rfl
theorem adl_lt : ∀ (l : List UInt8) (p : Nat × Nat), p.1 < 65521 → p.2 < 65521 → (adl l p).1 < 65521 ∧ (adl l p).2 < 65521
  | [], _, h1, h2 => ⟨h1, h2⟩
  | c :: l, (x, y), _, _ => adl_lt l _ (Nat.mod_lt _ (by decide)) (Nat.mod_lt _ (by decide))
end Go.Proofs.YtjfpeklfgnajoaaGreat.Oct

namespace Go.Proofs.YtjfpeklfgnajoaaGreat.By
open Go Go.RowKit

def c8 (x : UInt8) : Value := .int .u8 (x.toNat : Int)
theorem c8_one {xs : List UInt8} : ∀ u ∈ xs.map c8, u.oneCell' = true := fun u h => by
  obtain ⟨x, _, rfl⟩ := List.mem_map.1 h; rfl

/-- In the world w the value is a slice of the bytes xs. -/
def Bs (w : World) (v : Value) (xs : List UInt8) : Prop :=
  ∃ (ao : Option Addr) (cap : Nat), v = .slice ao xs.length cap ∧ xs.length ≤ cap ∧ cap ≤ maxLen ∧ (ao = none → cap = 0) ∧ ∀ ad, ao = some ad → ∀ j u, (xs.map c8)[j]? = some u → w.cell? (ad.add j) = some u

theorem Bs.below {w w' : World} {v : Value} {xs : List UInt8} (hb : Below w.heap.size w w') (h : Bs w v xs) : Bs w' v xs := by
  obtain ⟨ao, cap, h1, h2, h3, h4, h5⟩ := h
  refine ⟨ao, cap, h1, h2, h3, h4, fun ad ha j u hu => ?_⟩
  have h := h5 ad ha j u hu
  rw [hb.cell (World.block_lt_of_cell? w _ h)]
  exact h

theorem Bs.nil (w : World) : Bs w (.slice none 0 0) [] := ⟨none, 0, rfl, Nat.le_refl _, Nat.zero_le _, fun _ => rfl, fun _ h => by cases h⟩

theorem Bs.drew {w : World} {v : Value} {xs : List UInt8} (h : Bs w v xs) : Bs w.drew v xs := h.below ((Below.refl _ w).drew)

/-- A slice to which an append makes a row of the call's own: no room is left, or it is such a row already. -/
def Full (w : World) (B : Nat) (e : TypeId) (size : Nat) (v : Value) (n : Nat) (olds : List Value) : Prop :=
  (∃ ao, v = .slice ao n n ∧ (ao = none → n = 0) ∧ olds.length = n * size ∧ ∀ ad, ao = some ad → ∀ j u, olds[j]? = some u → w.cell? (ad.add j) = some u) ∨ w.ownsRow B e size v n olds

theorem Full.own {w : World} {B : Nat} {e : TypeId} {size : Nat} {v : Value} {n : Nat} {olds : List Value} (h : w.ownsRow B e size v n olds) : Full w B e size v n olds := .inr h
theorem Full.bs {w : World} {B : Nat} {e : TypeId} {ao : Option Addr} {xs : List UInt8} (h : Bs w (.slice ao xs.length xs.length) xs) : Full w B e 1 (.slice ao xs.length xs.length) xs.length (xs.map c8) := by
  obtain ⟨ao', cap, h1, h2, h3, h4, h5⟩ := h
  simp only [Value.slice.injEq] at h1
  obtain ⟨rfl, _, rfl⟩ := h1
  exact .inl ⟨ao, rfl, h4, by simp, h5⟩

theorem Full.alloc {w : World} {B : Nat} {e : TypeId} {size : Nat} {v : Value} {n : Nat} {olds : List Value} (h : Full w B e size v n olds) (o : Obj) : Full (w.alloc o) B e size v n olds := by
  rcases h with ⟨ao, h1, h2, h3, h4⟩ | h
  · refine .inl ⟨ao, h1, h2, h3, fun ad ha j u hu => ?_⟩
    have hc := h4 ad ha j u hu
    rw [World.cell?_alloc_lt _ _ _ (World.block_lt_of_cell? w _ hc)]
    exact hc
  · exact .inr (h.alloc o)

section
variable {P : Program} (w : World) {ops : Array Oper} {rest : List Oper} {o : Oper} {a : Act} {Q : Exit → Act → World → Prop}

/-- ONE LAW FOR BOTH: append to a full slice, or to a row of the call's own. -/
theorem wpList_append_fo (hg : o.guard = none) (s x : Operand) (t : TypeId) (hop : o.op = Op.call { callee := Callee.builtin Builtin.append, args := #[s, x], argTypes := #[t, t] })
    (e : TypeId) (i : TypeInfo) (z : Value) (size bytes : Nat) (h1 : P.underlying t = some (.slice e)) (h2 : P.info? e = some i) (h3 : i.zero = some z) (h4 : i.size = size) (h5 : i.bytes = bytes) (h6 : z.cells.size = size) (h7 : 0 < size)
    (B : Nat) (v : Value) (n : Nat) (olds : List Value) (hs : a.eval s = v) (hf : Full w B e size v n olds)
    (ad : Addr) (m c : Nat) (news : List Value) (hx : a.eval x = .slice (some ad) m c) (hn : news.length = m * size) (hc : ∀ j u, news[j]? = some u → w.cell? (ad.add j) = some u) (h1c : ∀ u ∈ news, u.oneCell' = true)
    (hm : 0 < m) (b1 : n + m ≤ maxLen) (b2 : (n + m) * bytes ≤ 140737488355328) (hB : B ≤ w.heap.size)
    (hK : ∀ v' w', w'.ownsRow B e size v' (n + m) (olds ++ news) → Below B w w' → wpList P ops Q rest (a.put o.dst v') w') :
    wpList P ops Q (o :: rest) a w := by
  rcases hf with ⟨ao, rfl, e2, e3, e4⟩ | hown
  · refine wpList_append_grows w hg s x t hop e i z size bytes h1 h2 h3 h4 h5 h6 h7 ao n n olds hs (fun h => ⟨e2 h, e2 h⟩) e3 e4 ad m c news hx hn hc h1c (by omega) b1 b2 (fun v' w' r1 r2 => ?_)
    exact hK v' w' (r1.mono hB) ((Below.refl B w).grown r2 hB (fun k hk => by cases hk))
  · refine wpList_append_own w hg s x t hop B e i z size bytes h1 h2 h3 h4 h5 h6 h7 v n olds hs hown ad m c news hx hn hc h1c b1 b2 hB (fun v' w' r1 r2 _ => ?_)
    exact hK v' w' r1 ((Below.refl B w).grown r2 hB (fun k hk => (hown.lt k hk).1))
end

theorem Bs.of_owns {w : World} {B : Nat} {e : TypeId} {v : Value} {n : Nat} {xs : List UInt8} (h : w.ownsRow B e 1 v n (xs.map c8)) : Bs w v xs := by
  have h0 := h
  obtain ⟨hl, hv⟩ := h
  simp at hl
  subst hl
  rcases hv with ⟨rfl, h2⟩ | ⟨g, cap, cur, rfl, h2, h3, h4, h5, h6, h7⟩
  · rw [List.eq_nil_of_length_eq_zero h2]; exact Bs.nil w
  · exact ⟨_, cap, rfl, h4, h5, (fun h => by cases h), fun ad ha j u hu => (by cases ha; exact h0.cells rfl j u hu)⟩

/-- a byte of a list, as a number -/
def bt (xs : List UInt8) (k : Nat) : Nat := (xs.getD k 0).toNat
theorem bt_lt (xs : List UInt8) (k : Nat) : bt xs k < 256 := UInt8.toNat_lt _

theorem Bs.form {w : World} {v : Value} {xs : List UInt8} (h : Bs w v xs) (hn : 0 < xs.length) :
    ∃ b o cap, v = .slice (some ⟨b, o, none⟩) xs.length cap ∧ xs.length ≤ cap ∧ cap ≤ maxLen ∧ ∀ k, k < xs.length → w.cell? ⟨b, o + k, none⟩ = some (.int .u8 (bt xs k : Int)) := by
  obtain ⟨ao, cap, rfl, h2, h3, h4, h5⟩ := h
  cases ao with
  | none => have := h4 rfl; omega
  | some ad =>
    obtain ⟨b, o, spot⟩ := ad
    have h0 := h5 _ rfl 0 (c8 xs[0]) (by simp [hn])
    have hs : spot = none := by simpa [Addr.add] using World.cell?_spot h0
    subst hs
    refine ⟨b, o, cap, rfl, h2, h3, fun k hk => ?_⟩
    have hc := h5 _ rfl k (c8 xs[k]) (by simp [hk])
    have hadd : (⟨b, o, none⟩ : Addr).add k = ⟨b, o + k, none⟩ := by unfold Addr.add; split <;> simp_all
    rw [hadd] at hc
    rw [hc, bt, List.getD_eq_getElem?_getD, List.getElem?_eq_getElem hk]
    rfl
theorem Bs.len {w : World} {v : Value} {xs : List UInt8} (h : Bs w v xs) : ∃ ao cap, v = .slice ao xs.length cap ∧ xs.length ≤ cap ∧ cap ≤ maxLen := by
  obtain ⟨ao, cap, rfl, h2, h3, _⟩ := h
  exact ⟨ao, cap, rfl, h2, h3⟩
theorem Bs.mk {w : World} {b o cap : Nat} {xs : List UInt8} (h2 : xs.length ≤ cap) (h3 : cap ≤ maxLen) (h : ∀ k, k < xs.length → w.cell? ⟨b, o + k, none⟩ = some (.int .u8 (bt xs k : Int))) : Bs w (.slice (some ⟨b, o, none⟩) xs.length cap) xs := by
  refine ⟨_, cap, rfl, h2, h3, (fun h => by cases h), fun ad ha k u hu => ?_⟩
  cases ha
  rw [List.getElem?_map] at hu
  obtain ⟨x, hx, rfl⟩ := Option.map_eq_some_iff.1 hu
  have hk : k < xs.length := (List.getElem?_eq_some_iff.1 hx).1
  have hadd : (⟨b, o, none⟩ : Addr).add k = ⟨b, o + k, none⟩ := by unfold Addr.add; split <;> simp_all
  rw [hadd, h k hk, bt, List.getD_eq_getElem?_getD, hx]
  rfl

theorem Bs.marked (w : World) (e : TypeId) (m : Nat × Nat) (xs : List UInt8) (hl : xs.length ≤ maxLen) : Bs (w.alloc (.cells (xs.map c8).toArray e m)) (.slice (some ⟨w.heap.size, 0, none⟩) xs.length xs.length) xs :=
  Bs.mk (Nat.le_refl _) hl fun k hk => by
    rw [Nat.zero_add, World.cell?_alloc_mark, bt, List.getD_eq_getElem?_getD]
    simp [hk, c8]

theorem add_add (ad : Addr) (l j : Nat) : (ad.add l).add j = ad.add (l + j) := by
  unfold Addr.add
  by_cases hl : l = 0
  · subst hl; simp
  · by_cases hj : j = 0
    · subst hj; simp
    · rw [if_neg hj, if_neg hl, if_neg (by omega)]
      simp [Nat.add_assoc]

/-- a part of it -/
theorem Bs.sub {w : World} {ao : Option Addr} {n cap : Nat} {X : List UInt8} (hb : Bs w (.slice ao n cap) X) (l h : Nat) (h1 : l ≤ h) (h2 : h ≤ X.length) : Bs w (sliced ao l h cap 1) ((X.drop l).take (h - l)) := by
  obtain ⟨ao', cap', e, e2, e3, e4, e5⟩ := hb
  simp only [Value.slice.injEq] at e
  obtain ⟨rfl, rfl, rfl⟩ := e
  have hlen : ((X.drop l).take (h - l)).length = h - l := by rw [List.length_take, List.length_drop]; omega
  unfold sliced
  rw [Nat.mul_one]
  refine ⟨_, cap - l, by rw [hlen], by omega, by omega, fun hn => ?_, fun ad ha j u hu => ?_⟩
  · by_cases hc : cap = l
    · omega
    · rw [if_neg hc] at hn
      cases ao with
      | none => have := e4 rfl; omega
      | some a => simp at hn
  · have hj : j < h - l := by
      rw [← hlen]
      simpa using (List.getElem?_eq_some_iff.1 hu).1
    by_cases hc : cap = l
    · omega
    · rw [if_neg hc] at ha
      cases ao with
      | none => simp at ha
      | some a =>
        simp at ha
        subst ha
        rw [add_add]
        refine e5 a rfl (l + j) u ?_
        rw [List.getElem?_map, List.getElem?_take, if_pos hj, List.getElem?_drop] at hu
        rw [List.getElem?_map]
        exact hu

theorem owns_form {w : World} {B : Nat} {e : TypeId} {s : Nat} {v : Value} {n : Nat} {xs : List Value} (h : w.ownsRow B e s v n xs) (hn : 0 < n) : ∃ g cap, v = .slice (some ⟨g, 0, none⟩) n cap := by
  rcases h.2 with ⟨_, h0⟩ | ⟨g, cap, _, rfl, _⟩
  · omega
  · exact ⟨g, cap, rfl⟩

theorem owns_below {w w' : World} {B : Nat} {e : TypeId} {s : Nat} {v : Value} {n : Nat} {xs : List Value} (h : w.ownsRow B e s v n xs) (hb : Below w.heap.size w w') : w'.ownsRow B e s v n xs := by
  have hlt := h.lt
  refine ⟨h.1, ?_⟩
  rcases h.2 with h0 | ⟨g, cap, cur, rfl, h2, h3, h4⟩
  · exact .inl h0
  · refine .inr ⟨g, cap, cur, rfl, h2, ?_, h4⟩
    rw [hb.block g (hlt g rfl).2]
    exact h3

/-- a literal: '[]byte{..}' -/
theorem owns_lit (w : World) (B : Nat) (e : TypeId) (xs : List UInt8) (hB : B ≤ w.heap.size) (hl : xs.length ≤ maxLen) : (w.alloc (.cells (xs.map c8).toArray e)).ownsRow B e 1 (.slice (some ⟨w.heap.size, 0, none⟩) xs.length xs.length) xs.length (xs.map c8) :=
  ⟨by simp, .inr ⟨w.heap.size, xs.length, _, rfl, hB, heap_alloc_new w _, Nat.le_refl _, hl, by simp, List.take_of_length_le (by simp)⟩⟩

theorem owns_new (w : World) (e : TypeId) (cs : List Value) (hl : cs.length ≤ maxLen) : (w.alloc (.cells cs.toArray e)).ownsRow w.heap.size e 1 (.slice (some ⟨w.heap.size, 0, none⟩) cs.length cs.length) cs.length cs :=
  ⟨by simp, .inr ⟨w.heap.size, cs.length, _, rfl, Nat.le_refl _, heap_alloc_new w _, Nat.le_refl _, hl, by simp, List.take_of_length_le (by simp)⟩⟩
theorem cells_new (w : World) (e : TypeId) (cs : List Value) (hl : cs.length ≤ maxLen) : ∀ j u, cs[j]? = some u → (w.alloc (.cells cs.toArray e)).cell? ((⟨w.heap.size, 0, none⟩ : Addr).add j) = some u :=
  (owns_new w e cs hl).cells rfl

theorem strCells_c8 (s : ByteArray) : Lib.strCells s = s.data.toList.map c8 := rfl

theorem bytesWorld_below (w : World) (e : TypeId) (s : ByteArray) : Below w.heap.size w (Lib.bytesWorld w e s) :=
  ⟨rfl, rfl, rfl, by rw [Lib.bytesWorld_size]; omega, fun k hk => Lib.bytesWorld_at_old w e s k hk⟩

theorem bytesWorld_cells (w : World) (e : TypeId) (s : ByteArray) : ∀ j u, (s.data.toList.map c8)[j]? = some u → (Lib.bytesWorld w e s).cell? ((⟨w.heap.size, 0, none⟩ : Addr).add j) = some u := by
  intro j u hu
  rw [List.getElem?_map] at hu
  obtain ⟨x, hx, rfl⟩ := Option.map_eq_some_iff.1 hu
  have hj : j < s.data.toList.length := (List.getElem?_eq_some_iff.1 hx).1
  have hadd : (⟨w.heap.size, 0, none⟩ : Addr).add j = ⟨w.heap.size, j, none⟩ := by unfold Addr.add; split <;> simp_all
  rw [hadd, Lib.bytesWorld_cell w e s j (show j < s.data.size from (Array.length_toList (xs := s.data)) ▸ hj), List.getD_eq_getElem?_getD, hx]
  rfl

/-- what a maker of bytes leaves: a row of its own with the bytes, and all that was there as it was -/
def Put (w : World) (E : TypeId) (xs : List UInt8) (e : Ending) (w' : World) : Prop :=
  ∃ g cap, e = .returned (.slice (some ⟨g, 0, none⟩) xs.length cap) ∧ w'.ownsRow w.heap.size E 1 (.slice (some ⟨g, 0, none⟩) xs.length cap) xs.length (xs.map c8) ∧ Below w.heap.size w w'

theorem Put.mk {w w' : World} {E : TypeId} {xs : List UInt8} {v : Value} (h : w'.ownsRow w.heap.size E 1 v xs.length (xs.map c8)) (hn : 0 < xs.length) (hb : Below w.heap.size w w') : Put w E xs (.returned v) w' := by
  obtain ⟨g, cap, rfl⟩ := owns_form h hn
  exact ⟨g, cap, rfl, h, hb⟩

section
variable {P : Program} (w : World) {ops : Array Oper} {rest : List Oper} {o : Oper} {a : Act} {Q : Exit → Act → World → Prop}
/-- append to a row of the call's own: any slice of bytes (nil, empty) as the source. -/
theorem wpList_append_bs (hg : o.guard = none) (s x : Operand) (t : TypeId) (hop : o.op = Op.call { callee := Callee.builtin Builtin.append, args := #[s, x], argTypes := #[t, t] })
    (B : Nat) (e : TypeId) (i : TypeInfo) (h1 : P.underlying t = some (.slice e)) (h2 : P.info? e = some i) (h3 : i.zero = some (.int .u8 0)) (h4 : i.size = 1) (h5 : i.bytes = 1)
    (v : Value) (xs : List UInt8) (hs : a.eval s = v) (hown : w.ownsRow B e 1 v xs.length (xs.map c8)) (v2 : Value) (ys : List UInt8) (hx : a.eval x = v2) (hb : Bs w v2 ys)
    (hl : xs.length + ys.length ≤ 100000000) (hB : B ≤ w.heap.size)
    (hK : ∀ v' w', w'.ownsRow B e 1 v' (xs ++ ys).length ((xs ++ ys).map c8) → Below B w w' → wpList P ops Q rest (a.put o.dst v') w') :
    wpList P ops Q (o :: rest) a w := by
  obtain ⟨ao, cap, rfl, e2, e3, e4, e5⟩ := hb
  cases ao with
  | some ad =>
    refine wpList_append_own w hg s x t hop B e i (.int .u8 0) 1 1 h1 h2 h3 h4 h5 rfl (by decide) v xs.length (xs.map c8) hs hown ad ys.length cap (ys.map c8) hx (by simp) (e5 ad rfl) c8_one (by unfold maxLen; omega) (by omega) hB (fun v' w' r1 r2 _ => ?_)
    exact hK v' w' (by rw [List.length_append, List.map_append]; exact r1) ((Below.refl B w).grown r2 hB (fun k hk => (hown.lt k hk).1))
  | none =>
    have hc := e4 rfl
    have h0 : ys.length = 0 := by omega
    have hy : ys = [] := List.eq_nil_of_length_eq_zero h0
    subst hy
    subst hc
    exact wpList_append_own_none hg s x t hop B e i 1 h1 h2 v xs.length (xs.map c8) hs hown hx (hK v w (by simpa using hown) (Below.refl _ _))
end

/-- A slice of bytes, as a string. -/
def str (xs : List UInt8) : ByteArray := ⟨xs.toArray⟩

theorem toList_str (xs : List UInt8) : (str xs).data.toList = xs := rfl
theorem str_size (xs : List UInt8) : (str xs).size = xs.length := by simp [str, ByteArray.size]
theorem str_append (xs ys : List UInt8) : str xs ++ str ys = str (xs ++ ys) := by
  apply ByteArray.ext
  simp [str, ByteArray.data_append]
theorem str_inj {xs ys : List UInt8} (h : str xs = str ys) : xs = ys := by
  have := congrArg (fun s : ByteArray => s.data.toList) h
  simpa [str] using this
theorem str_toList (s : ByteArray) : str s.data.toList = s := by
  apply ByteArray.ext
  simp [str]

theorem strOf_c8 (xs : List UInt8) : (xs.map fun x => (x.toNat : Int)).map (Value.int .u8) = xs.map c8 := by
  rw [List.map_map]; rfl

theorem run_convert_Bs {P : Program} {w : World} {v : Value} {xs : List UInt8} (h : Bs w v xs) (src e dst : TypeId) (hs : P.underlying src = some (.slice e)) (he : P.underlying e = some (.int .u8)) (hd : P.underlying dst = some .string) :
    (convert src dst v).run P w = .ok (.string (str xs)) w := by
  obtain ⟨ao, cap, rfl, h2, h3, h4, h5⟩ := h
  cases ao with
  | none =>
    have := h4 rfl
    rw [run_convert_bytes_nil w src e hs he _ _ dst hd, List.eq_nil_of_length_eq_zero (by omega : xs.length = 0)]
    rfl
  | some ad =>
    have hl : (loadCells ad xs.length).run P w = .ok ((xs.map fun x => (x.toNat : Int)).map (Value.int .u8)).toArray w := by
      rw [strOf_c8]
      have := run_loadCells_list (P := P) w ad (xs.map c8) (h5 ad rfl)
      simpa using this
    rw [run_convert_bytes_string w src dst e _ xs.length cap hs he hd, run_bytesToString w _ _ cap _ hl, foldl_push_bytes]
    congr 2
    apply ByteArray.ext
    simp only [str, ByteArray.empty, ByteArray.emptyWithCapacity, List.map_map]
    simp [Function.comp_def]
    rfl
end Go.Proofs.YtjfpeklfgnajoaaGreat.By

namespace Go.Proofs.YtjfpeklfgnajoaaGreat.Reg
open Go Go.RowKit

/-- What a slot holds, said of a world, and kept along R. -/
structure Spec (R : World → World → Prop) where
  V : World → Value → Prop
  keep : ∀ w w' v, R w w' → V w v → V w' v

def Spec.eq {R : World → World → Prop} (c : Value) : Spec R := ⟨fun _ v => v = c, fun _ _ _ _ h => h⟩
def Spec.any {R : World → World → Prop} : Spec R := ⟨fun _ _ => True, fun _ _ _ _ h => h⟩

section
variable {P : Program} {R : World → World → Prop} {ops : Array Oper} {S : List (Spec R)}

def spec (S : List (Spec R)) (i : Nat) : Spec R := S.getD i Spec.any

/-- Operation 'i' waits for operation 'j', by an edge. -/
def waitsFor (ops : Array Oper) (i j : Nat) : Bool := ((ops[i]?).map fun o => o.after.any fun e => Region.binds .any e && e.on == j).getD false
/-- .. by a chain of edges. -/
def behind (ops : Array Oper) : Nat → Nat → Nat → Bool
  | 0, _, _ => false
  | n + 1, i, j => waitsFor ops i j || ((ops[i]?).map fun o => o.after.any fun e => Region.binds .any e && behind ops n e.on j).getD false

def dstOf (ops : Array Oper) (j : Nat) : Option Tmp := (ops[j]?).bind (·.dst)

/-- At operation k: slot d holds what operation j left in it. -/
def newOk (ops : Array Oper) (n k j d : Nat) : Bool := behind ops n k j && dstOf ops j == some d
/-- At operation k: slot t has not been written yet. -/
def oldOk (ops : Array Oper) (n k t : Nat) : Bool := (List.range ops.size).all fun j => dstOf ops j != some t || j == k || behind ops n j k

structure Facts (ops : Array Oper) (S : List (Spec R)) (n : Nat) (a0 : Act) (k : Nat) (a : Act) (w : World) : Prop where
  new : ∀ j d, newOk ops n k j d = true → (spec S j).V w (a.eval (.tmp d))
  old : ∀ t, oldOk ops n k t = true → a.eval (.tmp t) = a0.eval (.tmp t)

def yieldsTo (P : Program) (o : Oper) (a : Act) (w : World) (T : World → Value → Prop) : Prop :=
  match (execOp a.eval o).run P w with
  | .ok (.value v) w' => T w' v
  | .ok .skip w' => T w' undef
  | .ok (.enter f args) w' => Calls P f args w' fun e w'' => ∃ v, e = .returned v ∧ T w'' v
  | _ => False

def okAt (P : Program) (ops : Array Oper) (o : Oper) (a : Act) (w : World) (T : World → Value → Prop) : Prop :=
  if Region.wanted o (yielded ops a.tmps) = true then yieldsTo P o a w T else T w undef

/-- All that is owed of the operations. -/
def Owed (P : Program) (ops : Array Oper) (S : List (Spec R)) (n : Nat) (a0 : Act) (w0 : World) : Nat → List Oper → Prop
  | _, [] => True
  | k, o :: l => (∀ a w, R w0 w → Facts ops S n a0 k a w → okAt P ops o a w (fun w' v => R w w' ∧ (spec S k).V w' v)) ∧ Owed P ops S n a0 w0 (k + 1) l

theorem Owed.nil {n : Nat} {a0 : Act} {w0 : World} {k : Nat} : Owed P ops S n a0 w0 k [] := trivial
theorem Owed.cons {n : Nat} {a0 : Act} {w0 : World} {k : Nat} {o : Oper} {l : List Oper} (h : ∀ a w, R w0 w → Facts ops S n a0 k a w → okAt P ops o a w (fun w' v => R w w' ∧ (spec S k).V w' v))
    (ht : Owed P ops S n a0 w0 (k + 1) l) : Owed P ops S n a0 w0 k (o :: l) := ⟨h, ht⟩

theorem Owed.get {n : Nat} {a0 : Act} {w0 : World} : ∀ (l : List Oper) (k i : Nat) (o : Oper), Owed P ops S n a0 w0 k l → l[i]? = some o →
    ∀ a w, R w0 w → Facts ops S n a0 (k + i) a w → okAt P ops o a w (fun w' v => R w w' ∧ (spec S (k + i)).V w' v)
  | [], _, _, _, _, h => by simp at h
  | x :: l, k, 0, o, H, h => by simp at h; subst h; exact H.1
  | x :: l, k, i + 1, o, H, h => by
    have := Owed.get l (k + 1) i o H.2 (by simpa using h)
    rwa [show k + 1 + i = k + (i + 1) by omega] at this

/-- What stands behind the region, the slots filled. -/
def putAll (y : Nat → Value) : Nat → List Oper → Act → Act
  | _, [], a => a
  | k, o :: l, a => putAll y (k + 1) l (a.put o.dst (y k))

/-- The shape of a region that the law serves: every operation has a slot of its own, within the frame; edges go back. -/
def shapeB (size : Nat) (ops : Array Oper) : Bool :=
  (ops.toList.all fun o => (o.dst.map fun d => decide (d < size)).getD false) && decide ((ops.toList.map (·.dst)).Nodup) &&
  (List.range ops.size).all fun i => ((ops[i]?).map fun o => o.after.all fun e => !Region.binds .any e || decide (e.on < i)).getD true

structure Inv (ops : Array Oper) (S : List (Spec R)) (a0 : Act) (listed : Array Bool) (a : Act) (w : World) : Prop where
  size : a.tmps.size = a0.tmps.size
  defers : a.defers = a0.defers
  new : ∀ j o d, ops[j]? = some o → listed.getD j false = true → o.dst = some d → (spec S j).V w (a.eval (.tmp d))
  old : ∀ t, (∀ j o, ops[j]? = some o → listed.getD j false = true → o.dst ≠ some t) → a.eval (.tmp t) = a0.eval (.tmp t)
  down : ∀ i j, listed.getD i false = true → waitsFor ops i j = true → listed.getD j false = true
  len : listed.size = ops.size

theorem waitsFor_iff {i j : Nat} {o : Oper} (h : ops[i]? = some o) : waitsFor ops i j = true ↔ ∃ e ∈ o.after, Region.binds .any e = true ∧ e.on = j := by
  simp only [waitsFor, h, Option.map_some, Option.getD_some, Array.any_eq_true', Bool.and_eq_true, beq_iff_eq]

theorem behind_listed {listed : Array Bool} (hd : ∀ i j, listed.getD i false = true → waitsFor ops i j = true → listed.getD j false = true) :
    ∀ (n i j : Nat), (∀ j, waitsFor ops i j = true → listed.getD j false = true) → behind ops n i j = true → listed.getD j false = true := by
  intro n
  induction n with
  | zero => intro i j _ h; simp [behind] at h
  | succ n ih =>
    intro i j hi h
    simp only [behind, Bool.or_eq_true] at h
    rcases h with h | h
    · exact hi j h
    · cases ho : ops[i]? with
      | none => simp [ho] at h
      | some o =>
        simp only [ho, Option.map_some, Option.getD_some, Array.any_eq_true', Bool.and_eq_true] at h
        obtain ⟨e, he, hb, hn⟩ := h
        have hl := hi e.on ((waitsFor_iff ho).2 ⟨e, he, hb, rfl⟩)
        exact ih e.on j (fun j' hj' => hd _ _ hl hj') hn

theorem eval_put_same {a : Act} {d : Tmp} {v : Value} (h : d < a.tmps.size) : (a.put (some d) v).eval (.tmp d) = v := by
  simp [Act.put, Act.eval, Array.getD, h]

theorem eval_put_other {a : Act} {d t : Tmp} {v : Value} (h : d ≠ t) : (a.put (some d) v).eval (.tmp t) = a.eval (.tmp t) :=
  Act.eval_put fun d' hd' => by cases hd'; exact fun e => h (by cases e; rfl)

def unl (listed : Array Bool) : Nat := (listed.toList.filter fun b => !b).length

theorem unl_set : ∀ (l : List Bool) (i : Nat), l[i]? = some false → ((l.set i true).filter fun b => !b).length + 1 = (l.filter fun b => !b).length
  | [], i, h => by simp at h
  | b :: l, 0, h => by simp at h; subst h; simp
  | b :: l, i + 1, h => by
    have := unl_set l i (by simpa using h)
    cases b <;> simp <;> omega

theorem unl_step {listed : Array Bool} {i : Nat} (h : listed.getD i true = false) : unl (listed.setIfInBounds i true) + 1 = unl listed := by
  unfold unl
  rw [Array.toList_setIfInBounds]
  refine unl_set _ _ ?_
  rcases Nat.lt_or_ge i listed.size with h' | h'
  · simp [h'] at h; simp [h', h]
  · simp [Array.getElem?_eq_none h'] at h

theorem unl_zero {listed : Array Bool} (h : unl listed = 0) (i : Nat) : listed.getD i true = true := by
  unfold unl at h
  rcases Nat.lt_or_ge i listed.size with h' | h'
  · have h0 : listed.toList.filter (fun b => !b) = [] := List.eq_nil_of_length_eq_zero h
    rw [List.filter_eq_nil_iff] at h0
    have := h0 listed[i] (by simp)
    simpa [h'] using this
  · simp [Array.getElem?_eq_none h']

theorem getD_false_of_true {listed : Array Bool} {i : Nat} (h : listed.getD i true = false) : listed.getD i false = false := by
  rcases Nat.lt_or_ge i listed.size with h' | h'
  · simp [h'] at h ⊢; exact h
  · simp [Array.getElem?_eq_none h'] at h

theorem putAll_size (y : Nat → Value) : ∀ (l : List Oper) (k : Nat) (a : Act), (putAll y k l a).tmps.size = a.tmps.size ∧ (putAll y k l a).defers = a.defers
  | [], _, _ => ⟨rfl, rfl⟩
  | o :: l, k, a => by
    obtain ⟨h1, h2⟩ := putAll_size y l (k + 1) (a.put o.dst (y k))
    refine ⟨h1.trans ?_, h2.trans ?_⟩ <;> cases o.dst <;> simp [Act.put]

theorem putAll_other (y : Nat → Value) (t : Tmp) : ∀ (l : List Oper) (k : Nat) (a : Act), (∀ o ∈ l, o.dst ≠ some t) → (putAll y k l a).eval (.tmp t) = a.eval (.tmp t)
  | [], _, _, _ => rfl
  | o :: l, k, a, h => by
    rw [putAll, putAll_other y t l (k + 1) _ (fun o ho => h o (List.mem_cons_of_mem _ ho))]
    exact Act.eval_put fun d hd e => h o List.mem_cons_self (by cases e; exact hd)

theorem putAll_at (y : Nat → Value) : ∀ (l : List Oper) (k : Nat) (a : Act) (i : Nat) (o : Oper) (d : Tmp), (l.map (·.dst)).Nodup → l[i]? = some o → o.dst = some d → d < a.tmps.size → (putAll y k l a).eval (.tmp d) = y (k + i)
  | [], _, _, _, _, _, _, h, _, _ => by simp at h
  | x :: l, k, a, 0, o, d, hn, h, hd, hs => by
    simp at h; subst h
    rw [List.map_cons, List.nodup_cons] at hn
    rw [putAll, putAll_other y d l (k + 1) _ (fun o ho e => hn.1 (List.mem_map.2 ⟨o, ho, by rw [e, hd]⟩)), hd]
    exact eval_put_same hs
  | x :: l, k, a, i + 1, o, d, hn, h, hd, hs => by
    rw [List.map_cons, List.nodup_cons] at hn
    rw [putAll, putAll_at y l (k + 1) _ i o d hn.2 (by simpa using h) hd (by cases x.dst <;> simpa [Act.put] using hs)]
    congr 1; omega

theorem act_ext {a b : Act} (hs : a.tmps.size = b.tmps.size) (hd : a.defers = b.defers) (h : ∀ t, a.eval (.tmp t) = b.eval (.tmp t)) : a = b := by
  obtain ⟨x, p⟩ := a
  obtain ⟨y, q⟩ := b
  dsimp only at hs hd
  subst hd
  congr 1
  refine Array.ext hs fun i h1 h2 => ?_
  have := h i
  simpa [Act.eval, h1, h2] using this

/-- **THE LAW.** -/
theorem wp_region_specs {id n size : Nat} {Q : Exit → Act → World → Prop} {a0 : Act} {w0 : World} {l : List Oper} (hm : P.follows .mixedOrders = true)
    (hT : ∀ a b c, R a b → R b c → R a c) (hdr : R w0 w0.drew) (hsz : a0.tmps.size = size)
    (hB : shapeB size l.toArray = true) (H : Owed P l.toArray S n a0 w0 0 l)
    (hend : ∀ (y : Nat → Value) w', R w0 w' → (∀ j o, l[j]? = some o → (spec S j).V w' (y j)) → Q .normal (putAll y 0 l a0) w') :
    (Code.region id l.toArray true).wp P Q a0 w0 := by
  simp only [shapeB, Bool.and_eq_true, List.all_eq_true, decide_eq_true_eq, List.mem_range] at hB
  obtain ⟨⟨hdst, hnd⟩, hback⟩ := hB
  have hdst' : ∀ (j : Nat) (o : Oper), l.toArray[j]? = some o → ∃ d, o.dst = some d ∧ d < size := fun j o ho => by
    have h1 := hdst o (by simpa using Array.mem_of_getElem? ho)
    cases hd : o.dst with
    | none => simp [hd] at h1
    | some d => simp [hd] at h1; exact ⟨d, rfl, h1⟩
  have hinj : ∀ (i j : Nat) (oi oj : Oper), l.toArray[i]? = some oi → l.toArray[j]? = some oj → oi.dst = oj.dst → i = j := fun i j oi oj hi hj he => by
    have hi' : l[i]? = some oi := by simpa using hi
    have hj' : l[j]? = some oj := by simpa using hj
    have h1 : (l.map (·.dst))[i]? = some oi.dst := by simp [hi']
    have h2 : (l.map (·.dst))[j]? = some oi.dst := by simp [hj', he]
    have hli : i < (l.map (·.dst)).length := by rw [List.getElem?_eq_some_iff] at h1; exact h1.1
    exact (List.getElem?_inj hli hnd).1 (h1.trans h2.symm)
  have hback' : ∀ j o, l.toArray[j]? = some o → ∀ e ∈ o.after, Region.binds .any e = true → e.on < j := fun j o ho e he hb => by
    have := hback j (Array.getElem?_eq_some_iff.1 ho).1
    simp only [ho, Option.map_some, Option.getD_some, Array.all_eq_true_iff_forall_mem, Bool.or_eq_true, Bool.not_eq_true', decide_eq_true_eq] at this
    exact (this e he).resolve_left (by simp [hb])
  -- the walk of whatever order
  have main : ∀ (fuel : Nat) (listed : Array Bool) (a : Act) (w : World), unl listed = fuel → R w0 w → Inv l.toArray S a0 listed a w → wpAny P .any l.toArray Q fuel listed a w := by
    have fin : ∀ (listed : Array Bool) (a : Act) (w : World), R w0 w → Inv l.toArray S a0 listed a w → (∀ j, listed.getD j true = true) → Q .normal a w := fun listed a w hw I hall => by
      have hall' : ∀ j o, l.toArray[j]? = some o → listed.getD j false = true := fun j o ho => by
        have hlt : j < listed.size := by rw [I.len]; exact (Array.getElem?_eq_some_iff.1 ho).1
        have := hall j
        simp [hlt] at this ⊢; exact this
      have he : a = putAll (fun j => a.eval (.tmp ((dstOf l.toArray j).getD 0))) 0 l a0 := by
        obtain ⟨p1, p2⟩ := putAll_size (fun j => a.eval (.tmp ((dstOf l.toArray j).getD 0))) l 0 a0
        refine act_ext (by rw [p1, I.size]) (by rw [p2, I.defers]) fun t => ?_
        by_cases ht : ∃ o ∈ l, o.dst = some t
        · obtain ⟨o, ho, hd⟩ := ht
          obtain ⟨i, hi⟩ := List.getElem?_of_mem ho
          have hsd := hdst o ho
          rw [hd] at hsd
          rw [putAll_at _ l 0 a0 i o t hnd hi hd (by rw [hsz]; simpa using hsd)]
          simp [dstOf, hi, hd]
        · rw [putAll_other _ t l 0 a0 (fun o ho hd => ht ⟨o, ho, hd⟩)]
          exact I.old t (fun j o ho _ hd => ht ⟨o, by simpa using Array.mem_of_getElem? ho, hd⟩)
      rw [he]
      refine hend _ w hw fun j o ho => ?_
      have ho' : l.toArray[j]? = some o := by simpa using ho
      obtain ⟨d, hd, _⟩ := hdst' j o ho'
      have := I.new j o d ho' (hall' j o ho') hd
      simpa [dstOf, ho, hd] using this
    intro fuel
    induction fuel with
    | zero =>
      intro listed a w hf hw I
      have hall := unl_zero hf
      refine ⟨?_, fin listed a w hw I hall⟩
      unfold Region.ready
      rw [List.filter_eq_nil_iff]
      intro j _
      simp [hall j]
    | succ fuel ih =>
      intro listed a w hf hw I
      refine ⟨fun h0 => fin listed a w hw I ?_, fun i hi => ?_⟩
      · -- nothing is ready: all is listed
        intro j
        induction j using Nat.strongRecOn with
        | ind j ihj =>
          by_cases hj : listed.getD j true = true
          · exact hj
          · exfalso
            have hj' : listed.getD j true = false := by simpa using hj
            have hlt : j < listed.size := by
              rcases Nat.lt_or_ge j listed.size with h' | h'
              · exact h'
              · simp [Array.getElem?_eq_none h'] at hj'
            have hlt' : j < l.toArray.size := by rw [← I.len]; exact hlt
            have hmem : j ∈ Region.ready .any l.toArray listed := by
              rw [mem_ready]
              refine ⟨hj', l.toArray[j], by simp, fun e he hb => ?_⟩
              have h1 := hback' j _ (Array.getElem?_eq_getElem hlt') e he hb
              have h2 := ihj e.on h1
              have hlt2 : e.on < listed.size := Nat.lt_trans h1 hlt
              simp [hlt2] at h2 ⊢; exact h2
            rw [h0] at hmem
            cases hmem
      · obtain ⟨hun, o, ho, hall⟩ := mem_ready.1 hi
        obtain ⟨d, hd, hds⟩ := hdst' i o ho
        have hunf := getD_false_of_true hun
        have hilt : i < listed.size := by rw [I.len]; exact (Array.getElem?_eq_some_iff.1 ho).1
        have hpre : ∀ j, waitsFor l.toArray i j = true → listed.getD j false = true := fun j hj => by
          obtain ⟨e, he, hb, rfl⟩ := (waitsFor_iff ho).1 hj
          exact hall e he hb
        have F : Facts l.toArray S n a0 i a w := by
          refine ⟨fun j d' h => ?_, fun t h => ?_⟩
          · simp only [newOk, Bool.and_eq_true, beq_iff_eq] at h
            have hl := behind_listed I.down n i j hpre h.1
            obtain ⟨oj, hoj, hdj⟩ := Option.bind_eq_some_iff.1 h.2
            exact I.new j oj d' hoj hl hdj
          · refine I.old t fun j oj hoj hl hdj => ?_
            simp only [oldOk, List.all_eq_true, List.mem_range, Bool.or_eq_true, bne_iff_ne, ne_eq, beq_iff_eq] at h
            rcases h j (Array.getElem?_eq_some_iff.1 hoj).1 with (h | h) | h
            · exact h (by simp [dstOf, hoj, hdj])
            · subst h; rw [hunf] at hl; cases hl
            · have := behind_listed I.down n j i (fun j' hj' => I.down _ _ hl hj') h
              rw [hunf] at this; cases this
        have hob := Owed.get l 0 i o H (by simpa using ho) a w hw (by simpa using F)
        rw [Nat.zero_add] at hob
        -- what holds behind it
        have next : ∀ (v : Value) (w' : World), R w w' → (spec S i).V w' v → wpAny P .any l.toArray Q fuel (listed.setIfInBounds i true) (a.put o.dst v) w' := fun v w' hww hv => by
          refine ih _ _ _ (by have := unl_step hun; omega) (hT _ _ _ hw hww) ?_
          rw [hd]
          refine ⟨by simp [Act.put, I.size], by simp [Act.put, I.defers], fun j oj dj hoj hl hdj => ?_, fun t ht => ?_, fun i' j' hl hwt => ?_, by simp [I.len]⟩
          · by_cases hij : j = i
            · subst hij
              rw [ho] at hoj; cases hoj
              rw [hd] at hdj; cases hdj
              rw [eval_put_same (by rw [I.size, hsz]; exact hds)]
              exact hv
            · rw [getD_set_ne false (Ne.symm hij)] at hl
              have hne : d ≠ dj := fun e => hij (hinj j i oj o hoj ho (by rw [hdj, hd, e]))
              rw [eval_put_other hne]
              exact (spec S j).keep _ _ _ hww (I.new j oj dj hoj hl hdj)
          · have hne : d ≠ t := fun e => ht i o ho (by simp [hilt]) (by rw [hd, e])
            rw [eval_put_other hne]
            exact I.old t fun j oj hoj hl => ht j oj hoj (getD_set_true hl)
          · by_cases hii : i' = i
            · subst hii; exact getD_set_true (hpre j' hwt)
            · rw [getD_set_ne false (Ne.symm hii)] at hl
              exact getD_set_true (I.down _ _ hl hwt)
        unfold wpOp
        simp only [ho]
        unfold okAt at hob
        split
        · rename_i hwt
          rw [if_pos hwt] at hob
          refine .inl ?_
          unfold yieldsTo at hob
          unfold Oper.wp
          generalize (execOp a.eval o).run P w = r at *
          cases r with
          | ok nx w' =>
            cases nx <;> simp only [] at hob <;> simp only [Oper.upon]
            case value v => exact next _ _ hob.1 hob.2
            case skip => exact next _ _ hob.1 hob.2
            case enter f args => exact hob.mono fun e w'' ⟨v, he, h1, h2⟩ => by subst he; exact next _ _ h1 h2
          | halt x w' => simp only [] at hob
        · rename_i hwt
          rw [if_neg hwt] at hob
          exact next _ _ hob.1 hob.2
  refine wp_region_any hm (main _ _ _ _ (by simp [unl]) hdr ⟨rfl, rfl, fun j o d _ h _ => ?_, fun _ _ => rfl, fun i j h _ => ?_, by simp⟩)
  · exfalso
    rcases Nat.lt_or_ge j l.length with h' | h' <;> simp [h'] at h
  · exfalso
    rcases Nat.lt_or_ge i l.length with h' | h' <;> simp [h'] at h
end
end Go.Proofs.YtjfpeklfgnajoaaGreat.Reg

namespace Go.Proofs.YtjfpeklfgnajoaaGreat.Reg
open Go Go.RowKit By

/-- worlds that keep all that was there -/
def Rb (w w' : World) : Prop := Below w.heap.size w w'
theorem Rb.refl (w : World) : Rb w w := Below.refl _ _
theorem Rb.trans (a b c : World) (h : Rb a b) (k : Rb b c) : Rb a c := Below.trans h (Below.mono k h.size)
theorem Rb.drew (w : World) : Rb w w.drew := (Below.refl _ w).drew

def bsSpec (xs : List UInt8) : Spec Rb := ⟨fun w v => Bs w v xs, fun _ _ _ h k => Bs.below h k⟩
def strV (xs : List UInt8) : Value := .string (str xs)

section
variable {P : Program} {ops : Array Oper} {o : Oper} {a : Act} {w : World} {T : World → Value → Prop}

theorem wanted_none (hg : o.guard = none) : Region.wanted o (yielded ops a.tmps) = true := by simp [Region.wanted, hg]

theorem yielded_of {j d : Nat} {b : Bool} (hd : dstOf ops j = some d) (he : a.eval (.tmp d) = .bool b) : yielded ops a.tmps j = some b := by
  unfold yielded
  have hd' : (ops[j]?).bind (·.dst) = some d := hd
  rw [hd']
  simp only [Option.bind_some]
  simp only [Act.eval, Array.getD_eq_getD_getElem?] at he
  cases h : a.tmps[d]? with
  | none => rw [h] at he; cases he
  | some v => rw [h] at he; simp only [Option.getD_some] at he; subst he; rfl

theorem wanted_true {j d : Nat} {b : Bool} (hg : o.guard = some (j, b)) (hd : dstOf ops j = some d) (he : a.eval (.tmp d) = .bool b) : Region.wanted o (yielded ops a.tmps) = true := by
  simp [Region.wanted, hg, yielded_of hd he]
theorem wanted_false {j d : Nat} {b : Bool} (hg : o.guard = some (j, b)) (hd : dstOf ops j = some d) (he : a.eval (.tmp d) = .bool (!b)) : Region.wanted o (yielded ops a.tmps) = false := by
  simp [Region.wanted, hg, yielded_of hd he]

theorem wanted_undef {j d : Nat} {b : Bool} (hg : o.guard = some (j, b)) (hd : dstOf ops j = some d) (he : a.eval (.tmp d) = undef) : Region.wanted o (yielded ops a.tmps) = false := by
  have hy : yielded ops a.tmps j = none := by
    unfold yielded
    have hd' : (ops[j]?).bind (·.dst) = some d := hd
    rw [hd']
    simp only [Option.bind_some]
    simp only [Act.eval, Array.getD_eq_getD_getElem?] at he
    cases h : a.tmps[d]? with
    | none => rfl
    | some v => rw [h] at he; simp only [Option.getD_some] at he; subst he; rfl
  simp [Region.wanted, hg, hy]
theorem ok_skip (hw : Region.wanted o (yielded ops a.tmps) = false) (h : T w undef) : okAt P ops o a w T := by
  unfold okAt; rw [if_neg (by rw [hw]; exact Bool.false_ne_true)]; exact h
theorem ok_value {v : Value} {w' : World} (hw : Region.wanted o (yielded ops a.tmps) = true) (hr : (execOp a.eval o).run P w = .ok (.value v) w') (h : T w' v) : okAt P ops o a w T := by
  unfold okAt yieldsTo; rw [if_pos hw, hr]; exact h
theorem ok_move (x : Operand) (ho : o.op = .move x) (hw : Region.wanted o (yielded ops a.tmps) = true) (h : T w (a.eval x)) : okAt P ops o a w T :=
  ok_value hw (by simp [execOp, ho]) h
theorem ok_assign (x : Operand) (ho : o.op = .assign x) (hw : Region.wanted o (yielded ops a.tmps) = true) (h : T w (a.eval x)) : okAt P ops o a w T :=
  ok_value hw (by simp [execOp, ho]) h
theorem ok_pick (c x y : Operand) (b : Bool) (ho : o.op = .pick c x y) (hw : Region.wanted o (yielded ops a.tmps) = true) (hc : a.eval c = .bool b) (h : T w (if b then a.eval x else a.eval y)) : okAt P ops o a w T :=
  ok_value (w' := w) hw (by simp [execOp, ho, hc, asBool]) h
theorem ok_conv (src dst : TypeId) (x : Operand) {v : Value} (ho : o.op = .convert src dst x) (hw : Region.wanted o (yielded ops a.tmps) = true) (hr : (convert src dst (a.eval x)).run P w = .ok v w) (h : T w v) : okAt P ops o a w T :=
  ok_value hw (by simp [execOp, ho, hr, Result.andThen]) h
theorem ok_call (f : FuncId) (args : Array Operand) (tys : Array TypeId) (vs : Array Value) (ho : o.op = .call { callee := .value (.func f), args := args, argTypes := tys }) (hw : Region.wanted o (yielded ops a.tmps) = true)
    (ha : args.map a.eval = vs) (hcf : (callFunc f vs).run P w = .ok (.enter f vs) w) (hc : Calls P f vs w fun e w'' => ∃ v, e = .returned v ∧ T w'' v) : okAt P ops o a w T := by
  unfold okAt yieldsTo
  rw [if_pos hw]
  have : (execOp a.eval o).run P w = .ok (.enter f vs) w := by
    have e : execOp a.eval o = callFunc f (#[] ++ args.map a.eval ++ #[]) := by
      simp only [execOp, ho]; rfl
    rw [e, ha]
    simpa using hcf
  rw [this]
  exact hc

def binSem (op : BinOp) (xT : TypeId) (x y : Operand) (u v : Value) : Sem Value := do
  eqGuard op xT x y u v
  binOp op xT u v
theorem ok_bin (op : BinOp) (xT yT : TypeId) (x y : Operand) {u1 u2 v : Value} (ho : o.op = .binOp op xT x y yT) (hw : Region.wanted o (yielded ops a.tmps) = true) (hx : a.eval x = u1) (hy : a.eval y = u2)
    (hr : (binSem op xT x y u1 u2).run P w = .ok v w) (h : T w v) : okAt P ops o a w T := by
  refine ok_value (w' := w) (v := v) hw ?_ h
  have e : execOp a.eval o = (do let r ← binSem op xT x y u1 u2; pure (.value r)) := by
    simp only [execOp, ho, hx, hy, binSem]
  rw [e]
  simp [hr, Result.andThen]
theorem run_eql_strV (t : TypeId) (x y : Operand) (X Y : List UInt8) : (binSem .eql t x y (strV X) (strV Y)).run P w = .ok (.bool (X == Y)) w := by
  have h : ∀ xs, (str xs).toList = xs := fun xs => Lib.toList_data _
  simp [binSem, strV, go_sem, h]
theorem run_neq_strV (t : TypeId) (x y : Operand) (X Y : List UInt8) : (binSem .neq t x y (strV X) (strV Y)).run P w = .ok (.bool (X != Y)) w := by
  have h : ∀ xs, (str xs).toList = xs := fun xs => Lib.toList_data _
  simp [binSem, strV, go_sem, h, bne]
theorem run_add_strV (t : TypeId) (x y : Operand) (X Y : List UInt8) (hl : X.length + Y.length ≤ 9223372036854775807) : (binSem .add t x y (strV X) (strV Y)).run P w = .ok (strV (X ++ Y)) w := by
  simp [binSem, strV, go_sem, str_append, str_size, hl]
theorem run_eql_int (t : TypeId) (x y : Operand) (k : IntKind) (n m : Int) : (binSem .eql t x y (.int k n) (.int k m)).run P w = .ok (.bool (n == m)) w := by
  simp [binSem, go_sem]
theorem run_neq_int (t : TypeId) (x y : Operand) (k : IntKind) (n m : Int) : (binSem .neq t x y (.int k n) (.int k m)).run P w = .ok (.bool (n != m)) w := by
  simp [binSem, go_sem]
theorem run_eql_boolB (t : TypeId) (x y : Operand) (n m : Bool) (ht : P.underlying t = some .bool) : (binSem .eql t x y (.bool n) (.bool m)).run P w = .ok (.bool (n == m)) w := by
  simp [binSem, go_sem, binOp, run_equal_bool w t n m ht]
theorem run_neq_boolB (t : TypeId) (x y : Operand) (n m : Bool) (ht : P.underlying t = some .bool) : (binSem .neq t x y (.bool n) (.bool m)).run P w = .ok (.bool (n != m)) w := by
  simp [binSem, go_sem, binOp, run_equal_bool w t n m ht, bne]
theorem ok_len_bs (x : Operand) (t e : TypeId) (ht : P.underlying t = some (.slice e)) (X : List UInt8) (ho : o.op = .call { callee := .builtin .len, args := #[x], argTypes := #[t] }) (hw : Region.wanted o (yielded ops a.tmps) = true) (hx : Bs w (a.eval x) X) (h : T w (.int .i64 X.length)) : okAt P ops o a w T := by
  obtain ⟨ao, cap, e, h2, h3⟩ := hx.len
  unfold maxLen at h3
  refine ok_value (w' := w) (v := .int .i64 X.length) hw ?_ h
  have hg : goInt (X.length : Int) = .int .i64 X.length := rfl
  simp only [execOp, ho, resolve, invoke, Sem.run_bind, Sem.run_pure, Result.andThen_ok, List.map_toArray, List.map_cons, List.map_nil, e]
  simp [builtin, Builtin.len_, run_underlying ht, Result.andThen, hg]

theorem run_add_i64 (t : TypeId) (x y : Operand) (n m : Int) (h0 : -9223372036854775808 ≤ n + m) (h1 : n + m ≤ 9223372036854775807) : (binSem .add t x y (.int .i64 n) (.int .i64 m)).run P w = .ok (.int .i64 (n + m)) w := by
  simp [binSem, go_sem]
  exact IntWalk.i64_in _ ⟨h0, h1⟩
theorem ok_slice_bs (t e : TypeId) (x lo hi : Operand) (X : List UInt8) (l h : Nat) (ho : o.op = .slice t x (some lo) (some hi) none) (hw : Region.wanted o (yielded ops a.tmps) = true)
    (ht : P.underlying t = some (.slice e)) (hz : ∀ w, (sizeOf e).run P w = .ok 1 w) (hx : Bs w (a.eval x) X) (hl : a.eval lo = .int .i64 (l : Int)) (hh : a.eval hi = .int .i64 (h : Int)) (h1 : l ≤ h) (h2 : h ≤ X.length)
    (hT : ∀ v, Bs w v ((X.drop l).take (h - l)) → T w v) : okAt P ops o a w T := by
  obtain ⟨ao, cap, e0, e2, e3⟩ := hx.len
  have ht' : P.underlying t = some (.slice (P.elem t)) := by simp [Program.elem, ht]
  have he : P.elem t = e := by simp [Program.elem, ht]
  refine ok_value (w' := w) (v := sliced ao l h cap 1) hw ?_ (hT _ ?_)
  · simp only [execOp, ho, Option.map_some, Option.map_none, e0, hl, hh, Sem.run_bind, run_sliceAt_slice w t _ _ _ _ ht']
    rw [run_slice_lh w t _ _ _ ht' .i64 .i64 _ _ (by omega) (by omega) (by omega), he, hz]
    simp [Result.andThen]
  · rw [e0] at hx
    exact hx.sub l h h1 h2

theorem ok_not (xT : TypeId) (x : Operand) (b : Bool) (ho : o.op = .unOp .not xT x) (hw : Region.wanted o (yielded ops a.tmps) = true) (hx : a.eval x = .bool b) (h : T w (.bool (!b))) : okAt P ops o a w T :=
  ok_value (w' := w) hw (by simp [execOp, ho, hx, Op.unary]) h

theorem ok_index (t e : TypeId) (x i : Operand) {b o' n cap k : Nat} (ho : o.op = .indexAddr t x i) (hw : Region.wanted o (yielded ops a.tmps) = true)
    (ht : P.underlying t = some (.slice e)) (hz : ∀ w, (sizeOf e).run P w = .ok 1 w) (hx : a.eval x = .slice (some ⟨b, o', none⟩) n cap) (hi : a.eval i = .int .i64 (k : Int)) (hk : k < n) (h : T w (.pointer (some ⟨b, o' + k, none⟩))) : okAt P ops o a w T := by
  have ht' : P.underlying t = some (.slice (P.elem t)) := by simp [Program.elem, ht]
  have he : P.elem t = e := by simp [Program.elem, ht]
  refine ok_value (w' := w) hw ?_ h
  have hadd : (⟨b, o', none⟩ : Addr).add k = ⟨b, o' + k, none⟩ := by unfold Addr.add; split <;> simp_all
  simp only [execOp, ho, hx, hi, Sem.run_bind]
  rw [run_indexAt_slice w t _ _ _ _ _ ht', if_pos ⟨by omega, by omega⟩, he, hz]
  simp [Result.andThen, hadd]
theorem ok_load (t : TypeId) (x : Operand) {ad : Addr} {v : Value} (ho : o.op = .load t x) (hw : Region.wanted o (yielded ops a.tmps) = true)
    (hx : a.eval x = .pointer (some ad)) (hr : (Instr.loadAt t (.pointer (some ad))).run P w = .ok v w) (h : T w v) : okAt P ops o a w T := by
  refine ok_value (w' := w) hw ?_ h
  simp only [execOp, ho, hx, Sem.run_bind, hr]
  simp [Result.andThen]

/-- from a contract that leaves the world as it was, or only more of it -/
theorem call_below {f : FuncId} {vs : Array Value} {V : World → Value → Prop} (h : Calls P f vs w fun e w' => ∃ v, e = .returned v ∧ Below w.heap.size w w' ∧ V w' v) : Calls P f vs w fun e w'' => ∃ v, e = .returned v ∧ Rb w w'' ∧ V w'' v := h
end
end Go.Proofs.YtjfpeklfgnajoaaGreat.Reg

namespace Go.Proofs.YtjfpeklfgnajoaaGreat.Reg
open Go Go.RowKit

section
variable {P : Program} {R : World → World → Prop} {ops : Array Oper} {S : List (Spec R)}

def shapeS (size : Nat) (ops : Array Oper) : Bool :=
  (ops.toList.all fun o => (o.dst.map fun d => decide (d < size)).getD true) && decide ((ops.toList.map (·.dst)).Nodup) &&
  (List.range ops.size).all fun i => ((ops[i]?).map fun o => o.after.all fun e => !Region.binds .any e || decide (e.on < i)).getD true

structure InvS (ops : Array Oper) (S : List (Spec R)) (a0 : Act) (listed : Array Bool) (a : Act) (w : World) : Prop where
  size : a.tmps.size = a0.tmps.size
  defers : a.defers = a0.defers
  new : ∀ j o, ops[j]? = some o → listed.getD j false = true → ∃ v, (spec S j).V w v ∧ ∀ d, o.dst = some d → a.eval (.tmp d) = v
  old : ∀ t, (∀ j o, ops[j]? = some o → listed.getD j false = true → o.dst ≠ some t) → a.eval (.tmp t) = a0.eval (.tmp t)
  down : ∀ i j, listed.getD i false = true → waitsFor ops i j = true → listed.getD j false = true
  len : listed.size = ops.size

theorem wp_region_store_specs {id n size : Nat} {Q : Exit → Act → World → Prop} {a0 : Act} {w0 : World} {l : List Oper} (hm : P.follows .mixedOrders = true)
    (hT : ∀ a b c, R a b → R b c → R a c) (hdr : R w0 w0.drew) (hsz : a0.tmps.size = size)
    (hB : shapeS size l.toArray = true) (H : Owed P l.toArray S n a0 w0 0 l)
    (hend : ∀ (y : Nat → Value) w', R w0 w' → (∀ j o, l[j]? = some o → (spec S j).V w' (y j)) → Q .normal (putAll y 0 l a0) w') :
    (Code.region id l.toArray true).wp P Q a0 w0 := by
  simp only [shapeS, Bool.and_eq_true, List.all_eq_true, decide_eq_true_eq, List.mem_range] at hB
  obtain ⟨⟨hdst, hnd⟩, hback⟩ := hB
  have hdst' : ∀ (j : Nat) (o : Oper) (d : Tmp), l.toArray[j]? = some o → o.dst = some d → d < size := fun j o d ho hd => by
    have h1 := hdst o (by simpa using Array.mem_of_getElem? ho)
    rw [hd] at h1
    simpa using h1
  have hinj : ∀ (i j : Nat) (oi oj : Oper), l.toArray[i]? = some oi → l.toArray[j]? = some oj → oi.dst = oj.dst → i = j := fun i j oi oj hi hj he => by
    have hi' : l[i]? = some oi := by simpa using hi
    have hj' : l[j]? = some oj := by simpa using hj
    have h1 : (l.map (·.dst))[i]? = some oi.dst := by simp [hi']
    have h2 : (l.map (·.dst))[j]? = some oi.dst := by simp [hj', he]
    have hli : i < (l.map (·.dst)).length := by rw [List.getElem?_eq_some_iff] at h1; exact h1.1
    exact (List.getElem?_inj hli hnd).1 (h1.trans h2.symm)
  have hback' : ∀ j o, l.toArray[j]? = some o → ∀ e ∈ o.after, Region.binds .any e = true → e.on < j := fun j o ho e he hb => by
    have := hback j (Array.getElem?_eq_some_iff.1 ho).1
    simp only [ho, Option.map_some, Option.getD_some, Array.all_eq_true_iff_forall_mem, Bool.or_eq_true, Bool.not_eq_true', decide_eq_true_eq] at this
    exact (this e he).resolve_left (by simp [hb])
  have main : ∀ (fuel : Nat) (listed : Array Bool) (a : Act) (w : World), unl listed = fuel → R w0 w → InvS l.toArray S a0 listed a w → wpAny P .any l.toArray Q fuel listed a w := by
    have fin : ∀ (listed : Array Bool) (a : Act) (w : World), R w0 w → InvS l.toArray S a0 listed a w → (∀ j, listed.getD j true = true) → Q .normal a w := fun listed a w hw I hall => by
      have hall' : ∀ j o, l.toArray[j]? = some o → listed.getD j false = true := fun j o ho => by
        have hlt : j < listed.size := by rw [I.len]; exact (Array.getElem?_eq_some_iff.1 ho).1
        have := hall j
        simp [hlt] at this ⊢; exact this
      have hch : ∀ j, ∃ v, ∀ o, l.toArray[j]? = some o → (spec S j).V w v ∧ ∀ d, o.dst = some d → a.eval (.tmp d) = v := fun j => by
        cases ho : l.toArray[j]? with
        | none => exact ⟨undef, fun o h => by cases h⟩
        | some o =>
          obtain ⟨v, h1, h2⟩ := I.new j o ho (hall' j o ho)
          exact ⟨v, fun o' h => by cases h; exact ⟨h1, h2⟩⟩
      obtain ⟨y, hy⟩ := Classical.axiomOfChoice hch
      have he : a = putAll y 0 l a0 := by
        obtain ⟨p1, p2⟩ := putAll_size y l 0 a0
        refine act_ext (by rw [p1, I.size]) (by rw [p2, I.defers]) fun t => ?_
        by_cases ht : ∃ o ∈ l, o.dst = some t
        · obtain ⟨o, ho, hd⟩ := ht
          obtain ⟨i, hi⟩ := List.getElem?_of_mem ho
          have hi' : l.toArray[i]? = some o := by simpa using hi
          rw [putAll_at _ l 0 a0 i o t hnd hi hd (by rw [hsz]; exact hdst' i o t hi' hd), Nat.zero_add]
          exact (hy i o hi').2 t hd
        · rw [putAll_other _ t l 0 a0 (fun o ho hd => ht ⟨o, ho, hd⟩)]
          exact I.old t (fun j o ho _ hd => ht ⟨o, by simpa using Array.mem_of_getElem? ho, hd⟩)
      rw [he]
      exact hend y w hw fun j o ho => (hy j o (by simpa using ho)).1
    intro fuel
    induction fuel with
    | zero =>
      intro listed a w hf hw I
      have hall := unl_zero hf
      refine ⟨?_, fin listed a w hw I hall⟩
      unfold Region.ready
      rw [List.filter_eq_nil_iff]
      intro j _
      simp [hall j]
    | succ fuel ih =>
      intro listed a w hf hw I
      refine ⟨fun h0 => fin listed a w hw I ?_, fun i hi => ?_⟩
      · intro j
        induction j using Nat.strongRecOn with
        | ind j ihj =>
          by_cases hj : listed.getD j true = true
          · exact hj
          · exfalso
            have hj' : listed.getD j true = false := by simpa using hj
            have hlt : j < listed.size := by
              rcases Nat.lt_or_ge j listed.size with h' | h'
              · exact h'
              · simp [Array.getElem?_eq_none h'] at hj'
            have hlt' : j < l.toArray.size := by rw [← I.len]; exact hlt
            have hmem : j ∈ Region.ready .any l.toArray listed := by
              rw [mem_ready]
              refine ⟨hj', l.toArray[j], by simp, fun e he hb => ?_⟩
              have h1 := hback' j _ (Array.getElem?_eq_getElem hlt') e he hb
              have h2 := ihj e.on h1
              have hlt2 : e.on < listed.size := Nat.lt_trans h1 hlt
              simp [hlt2] at h2 ⊢; exact h2
            rw [h0] at hmem
            cases hmem
      · obtain ⟨hun, o, ho, hall⟩ := mem_ready.1 hi
        have hunf := getD_false_of_true hun
        have hilt : i < listed.size := by rw [I.len]; exact (Array.getElem?_eq_some_iff.1 ho).1
        have hpre : ∀ j, waitsFor l.toArray i j = true → listed.getD j false = true := fun j hj => by
          obtain ⟨e, he, hb, rfl⟩ := (waitsFor_iff ho).1 hj
          exact hall e he hb
        have F : Facts l.toArray S n a0 i a w := by
          refine ⟨fun j d' h => ?_, fun t h => ?_⟩
          · simp only [newOk, Bool.and_eq_true, beq_iff_eq] at h
            have hl := behind_listed I.down n i j hpre h.1
            obtain ⟨oj, hoj, hdj⟩ := Option.bind_eq_some_iff.1 h.2
            obtain ⟨v, h1, h2⟩ := I.new j oj hoj hl
            rw [h2 d' hdj]; exact h1
          · refine I.old t fun j oj hoj hl hdj => ?_
            simp only [oldOk, List.all_eq_true, List.mem_range, Bool.or_eq_true, bne_iff_ne, ne_eq, beq_iff_eq] at h
            rcases h j (Array.getElem?_eq_some_iff.1 hoj).1 with (h | h) | h
            · exact h (by simp [dstOf, hoj, hdj])
            · subst h; rw [hunf] at hl; cases hl
            · have := behind_listed I.down n j i (fun j' hj' => I.down _ _ hl hj') h
              rw [hunf] at this; cases this
        have hob := Owed.get l 0 i o H (by simpa using ho) a w hw (by simpa using F)
        rw [Nat.zero_add] at hob
        have next : ∀ (v : Value) (w' : World), R w w' → (spec S i).V w' v → wpAny P .any l.toArray Q fuel (listed.setIfInBounds i true) (a.put o.dst v) w' := fun v w' hww hv => by
          refine ih _ _ _ (by have := unl_step hun; omega) (hT _ _ _ hw hww) ?_
          refine ⟨by cases o.dst <;> simp [Act.put, I.size], by cases o.dst <;> simp [Act.put, I.defers], fun j oj hoj hl => ?_, fun t ht => ?_, fun i' j' hl hwt => ?_, by simp [I.len]⟩
          · by_cases hij : j = i
            · subst hij
              rw [ho] at hoj; cases hoj
              refine ⟨v, hv, fun d hd => ?_⟩
              rw [hd, eval_put_same (by rw [I.size, hsz]; exact hdst' j o d ho hd)]
            · rw [getD_set_ne false (Ne.symm hij)] at hl
              obtain ⟨vj, h1, h2⟩ := I.new j oj hoj hl
              refine ⟨vj, (spec S j).keep _ _ _ hww h1, fun dj hdj => ?_⟩
              cases hd : o.dst with
              | none => exact h2 dj hdj
              | some d =>
                have hne : d ≠ dj := fun e => hij (hinj j i oj o hoj ho (by rw [hdj, hd, e]))
                rw [eval_put_other hne]
                exact h2 dj hdj
          · cases hd : o.dst with
            | none => exact I.old t fun j oj hoj hl => ht j oj hoj (getD_set_true hl)
            | some d =>
              have hne : d ≠ t := fun e => ht i o ho (by simp [hilt]) (by rw [hd, e])
              rw [eval_put_other hne]
              exact I.old t fun j oj hoj hl => ht j oj hoj (getD_set_true hl)
          · by_cases hii : i' = i
            · subst hii; exact getD_set_true (hpre j' hwt)
            · rw [getD_set_ne false (Ne.symm hii)] at hl
              exact getD_set_true (I.down _ _ hl hwt)
        unfold wpOp
        simp only [ho]
        unfold okAt at hob
        split
        · rename_i hwt
          rw [if_pos hwt] at hob
          refine .inl ?_
          unfold yieldsTo at hob
          unfold Oper.wp
          generalize (execOp a.eval o).run P w = r at *
          cases r with
          | ok nx w' =>
            cases nx <;> simp only [] at hob <;> simp only [Oper.upon]
            case value v => exact next _ _ hob.1 hob.2
            case skip => exact next _ _ hob.1 hob.2
            case enter f args => exact hob.mono fun e w'' ⟨v, he, h1, h2⟩ => by subst he; exact next _ _ h1 h2
          | halt x w' => simp only [] at hob
        · rename_i hwt
          rw [if_neg hwt] at hob
          exact next _ _ hob.1 hob.2
  refine wp_region_any hm (main _ _ _ _ (by simp [unl]) hdr ⟨rfl, rfl, fun j o _ h => ?_, fun _ _ => rfl, fun i j h _ => ?_, by simp⟩)
  · exfalso
    rcases Nat.lt_or_ge j l.length with h' | h' <;> simp [h'] at h
  · exfalso
    rcases Nat.lt_or_ge i l.length with h' | h' <;> simp [h'] at h
end
end Go.Proofs.YtjfpeklfgnajoaaGreat.Reg

namespace Go.Proofs.YtjfpeklfgnajoaaGreat.Oct

def val : List UInt8 → Nat
  | [] => 0
  | c :: l => c.toNat % 128 + 128 * val l

theorem val_append : ∀ (l m : List UInt8), val (l ++ m) = val l + 128 ^ l.length * val m
  | [], m => by simp [val]
  | c :: l, m => by
    simp only [List.cons_append, val, val_append l m, List.length_cons, Nat.pow_succ]
    rw [Nat.mul_add, ← Nat.mul_assoc, Nat.mul_comm 128 (128 ^ l.length)]
    omega

theorem val_lt : ∀ (l : List UInt8), val l < 128 ^ l.length
  | [] => by simp [val]
  | c :: l => by
    have := val_lt l
    simp only [val, List.length_cons, Nat.pow_succ]
    omega

theorem ofNat_toNat_lt {n : Nat} (h : n < 256) : (UInt8.ofNat n).toNat = n := by rw [UInt8.toNat_ofNat']; omega

/-- what is put is got -/
theorem val_uintB : ∀ (n : Nat), val (uintB n) = n := by
  intro n
  induction n using Nat.strongRecOn with
  | ind n ih =>
    by_cases h : n < 128
    · rw [uintB_small h]; simp only [val]; rw [ofNat_toNat_lt (by omega)]; omega
    · rw [uintB_big (by omega)]
      simp only [val]
      rw [ih (n / 128) (by omega), ofNat_toNat_lt (by omega)]
      omega

/-- bytes as a Put writes them: all but the last one from 128 on, the last one below, and not 0 but alone -/
def shaped : List UInt8 → Bool
  | [] => false
  | [c] => c.toNat < 128
  | c :: d :: l => 128 ≤ c.toNat && shapedMore (d :: l)
where shapedMore : List UInt8 → Bool
  | [] => false
  | [c] => c.toNat < 128 && c.toNat != 0
  | c :: d :: l => 128 ≤ c.toNat && shapedMore (d :: l)

theorem more_val : ∀ (l : List UInt8), shaped.shapedMore l = true → 0 < val l
  | [], h => by simp [shaped.shapedMore] at h
  | [c], h => by simp [shaped.shapedMore] at h; simp [val]; omega
  | c :: d :: l, h => by
    simp only [shaped.shapedMore, Bool.and_eq_true] at h
    have := more_val (d :: l) h.2
    simp only [val] at this ⊢
    omega
theorem more_shaped : ∀ (l : List UInt8), shaped.shapedMore l = true → shaped l = true
  | [], h => by simp [shaped.shapedMore] at h
  | [c], h => by simp [shaped.shapedMore] at h; simp [shaped, h.1]
  | c :: d :: l, h => h

/-- what is got is put -/
theorem uintB_val : ∀ (l : List UInt8), shaped l = true → uintB (val l) = l
  | [], h => by simp [shaped] at h
  | [c], h => by
    simp [shaped] at h
    simp only [val]
    rw [uintB_small (by omega)]
    congr 1
    apply UInt8.toNat_inj.1
    rw [ofNat_toNat_lt (by omega)]
    omega
  | c :: d :: l, h => by
    simp only [shaped, Bool.and_eq_true, decide_eq_true_eq] at h
    have h1 := more_val _ h.2
    have h2 := uintB_val (d :: l) (more_shaped _ h.2)
    have hc := UInt8.toNat_lt c
    rw [show val (c :: d :: l) = c.toNat % 128 + 128 * val (d :: l) from rfl]
    rw [uintB_big (by omega)]
    rw [show (c.toNat % 128 + 128 * val (d :: l)) / 128 = val (d :: l) by omega, h2]
    congr 1
    apply UInt8.toNat_inj.1
    rw [ofNat_toNat_lt (by omega)]
    omega

theorem uintB_shaped : ∀ (n : Nat), shaped (uintB n) = true ∧ (0 < n → shaped.shapedMore (uintB n) = true) := by
  intro n
  induction n using Nat.strongRecOn with
  | ind n ih =>
    by_cases h : n < 128
    · rw [uintB_small h]
      simp only [shaped, shaped.shapedMore]
      rw [ofNat_toNat_lt (by omega)]
      constructor
      · simpa using h
      · intro h0; simp; omega
    · obtain ⟨_, h2⟩ := ih (n / 128) (by omega)
      have h3 := h2 (by omega)
      rw [uintB_big (by omega)]
      cases hu : uintB (n / 128) with
      | nil => rw [hu] at h3; simp [shaped.shapedMore] at h3
      | cons d l =>
        rw [hu] at h3
        simp only [shaped, shaped.shapedMore]
        rw [ofNat_toNat_lt (by omega)]
        simp [h3]

/-- how many bytes till one below 128, of at most so many -/
def scan : List UInt8 → Nat → Option Nat
  | _, 0 => none
  | [], _ + 1 => none
  | c :: l, f + 1 => if c.toNat < 128 then some 1 else (scan l f).map (· + 1)

def mayEndB (c i : Nat) : Bool := !(i == 9 && decide (1 < c)) && (c != 0 || i == 0)

/-- the number that stands in front of bytes, and how many it has -/
def getU (ys : List UInt8) : Option (Nat × Nat) :=
  match scan ys 10 with
  | none => none
  | some k => if mayEndB (ys.getD (k - 1) 0).toNat (k - 1) then some (val (ys.take k), k) else none

/-- the same as places: the first k bytes from 128 on -/
def big (ys : List UInt8) (k : Nat) : Prop := ∀ i, i < k → 128 ≤ (ys.getD i 0).toNat
theorem big_succ {ys : List UInt8} {k : Nat} (h : big ys k) (hc : 128 ≤ (ys.getD k 0).toNat) : big ys (k + 1) := fun i hi => by
  by_cases hik : i = k
  · subst hik; exact hc
  · exact h i (by omega)

theorem scan_some : ∀ (ys : List UInt8) (f k : Nat), k < ys.length → k < f → big ys k → (ys.getD k 0).toNat < 128 → scan ys f = some (k + 1)
  | [], _, _, h, _, _, _ => by simp at h
  | c :: l, 0, _, _, h, _, _ => by omega
  | c :: l, f + 1, 0, _, _, _, hc => by simp at hc; simp [scan, hc]
  | c :: l, f + 1, k + 1, h, hf, hb, hc => by
    have h0 := hb 0 (by omega)
    simp at h0
    have := scan_some l f k (by simpa using h) (by omega) (fun i hi => by have := hb (i + 1) (by omega); simpa using this) (by simpa using hc)
    simp [scan, this]
    omega
theorem scan_none : ∀ (ys : List UInt8) (f : Nat), big ys (min ys.length f) → scan ys f = none
  | [], 0, _ => rfl
  | [], _ + 1, _ => rfl
  | _ :: _, 0, _ => rfl
  | c :: l, f + 1, hb => by
    have h0 := hb 0 (by simp)
    simp at h0
    have := scan_none l f (fun i hi => by have := hb (i + 1) (by simp; omega); simpa using this)
    simp [scan, this]
    omega

theorem shaped_iff : ∀ (ys : List UInt8) (k : Nat), k < ys.length → big ys k → (ys.getD k 0).toNat < 128 → shaped (ys.take (k + 1)) = ((ys.getD k 0).toNat != 0 || k == 0) ∧ shaped.shapedMore (ys.take (k + 1)) = ((ys.getD k 0).toNat != 0)
  | [], _, h, _, _ => by simp at h
  | c :: l, 0, _, _, hc => by simp at hc; simp [shaped, shaped.shapedMore, hc]
  | c :: l, k + 1, h, hb, hc => by
    have h0 := hb 0 (by omega)
    simp at h0
    have hl : k < l.length := by simpa using h
    have hk := shaped_iff l k hl (fun i hi => by have := hb (i + 1) (by omega); simpa using this) (by simpa using hc)
    cases hm : l.take (k + 1) with
    | nil => exfalso; have := congrArg List.length hm; rw [List.length_take, Nat.min_eq_left (by omega)] at this; simp at this
    | cons d m =>
      rw [List.take_succ_cons, hm]
      simp only [shaped, shaped.shapedMore]
      rw [hm] at hk
      simp [h0, hk.2]

/-- the document's own test: is the number's form these very bytes? -/
theorem form_iff (ys : List UInt8) (k : Nat) (hk : k < ys.length) (hk10 : k < 10) (hb : big ys k) (hc : (ys.getD k 0).toNat < 128) :
    (uintB (val (ys.take (k + 1)) % 18446744073709551616) = ys.take (k + 1)) ↔ mayEndB (ys.getD k 0).toNat k = true := by
  obtain ⟨h1, _⟩ := shaped_iff ys k hk hb hc
  have hlen : (ys.take (k + 1)).length = k + 1 := by simp; omega
  have hsplit : ys.take (k + 1) = ys.take k ++ [ys.getD k 0] := by
    rw [List.take_succ_eq_append_getElem hk, List.getD_eq_getElem?_getD, List.getElem?_eq_getElem hk]; rfl
  have hval : val (ys.take (k + 1)) = val (ys.take k) + 128 ^ k * (ys.getD k 0).toNat := by
    rw [hsplit, val_append, List.length_take, Nat.min_eq_left (by omega)]
    simp only [val, Nat.mul_zero, Nat.add_zero]
    rw [Nat.mod_eq_of_lt hc]
  have hlow : val (ys.take k) < 128 ^ k := by
    have := val_lt (ys.take k)
    rwa [List.length_take, Nat.min_eq_left (by omega)] at this
  -- when is it below 2^64?
  have hsmall : val (ys.take (k + 1)) < 18446744073709551616 ↔ ¬ (k = 9 ∧ 1 < (ys.getD k 0).toNat) := by
    rw [hval]
    by_cases h9 : k = 9
    · subst h9
      constructor
      · intro h ⟨_, h2⟩
        have : 128 ^ 9 * 2 ≤ 128 ^ 9 * (ys.getD 9 0).toNat := Nat.mul_le_mul_left _ h2
        have e : 128 ^ 9 * 2 = 18446744073709551616 := by decide
        omega
      · intro h
        have h3 : (ys.getD 9 0).toNat ≤ 1 := by omega
        have : 128 ^ 9 * (ys.getD 9 0).toNat ≤ 128 ^ 9 * 1 := Nat.mul_le_mul_left _ h3
        have e : 128 ^ 9 * 1 + 128 ^ 9 = 18446744073709551616 := by decide
        omega
    · have hk8 : k ≤ 8 := by omega
      have e1 : val (ys.take (k + 1)) < 128 ^ (k + 1) := by
        have := val_lt (ys.take (k + 1)); rwa [hlen] at this
      have e2 : 128 ^ (k + 1) ≤ 128 ^ 9 := Nat.pow_le_pow_right (by decide) (by omega)
      have e3 : 128 ^ 9 ≤ 18446744073709551616 := by decide
      rw [hval] at e1
      exact ⟨fun _ h => h9 h.1, fun _ => by omega⟩
  constructor
  · intro h
    have hv := congrArg val h
    rw [val_uintB] at hv
    have hlt : val (ys.take (k + 1)) < 18446744073709551616 := by
      rw [← hv]; exact Nat.mod_lt _ (by decide)
    have hs := (uintB_shaped (val (ys.take (k + 1)) % 18446744073709551616)).1
    rw [h, h1] at hs
    have := hsmall.1 hlt
    unfold mayEndB
    simp only [Bool.and_eq_true, Bool.not_eq_true', Bool.and_eq_false_iff, beq_eq_false_iff_ne, decide_eq_false_iff_not]
    exact ⟨by by_cases h9 : k = 9
              · exact .inr (fun h => this ⟨h9, h⟩)
              · exact .inl h9, hs⟩
  · intro h
    unfold mayEndB at h
    simp only [Bool.and_eq_true, Bool.not_eq_true', Bool.and_eq_false_iff, beq_eq_false_iff_ne, decide_eq_false_iff_not] at h
    have hlt : val (ys.take (k + 1)) < 18446744073709551616 := hsmall.2 (fun ⟨h9, h2⟩ => h.1.elim (fun h1 => h1 h9) (fun h1 => h1 h2))
    rw [Nat.mod_eq_of_lt hlt]
    exact uintB_val _ (by rw [h1]; exact h.2)

theorem scan_spec : ∀ (ys : List UInt8) (f k : Nat), scan ys f = some k → 1 ≤ k ∧ k ≤ f ∧ k ≤ ys.length ∧ big ys (k - 1) ∧ (ys.getD (k - 1) 0).toNat < 128
  | [], 0, k, h => by simp [scan] at h
  | [], f + 1, k, h => by simp [scan] at h
  | c :: l, 0, k, h => by simp [scan] at h
  | c :: l, f + 1, k, h => by
    simp only [scan] at h
    split at h
    · rename_i hc
      cases h
      exact ⟨by omega, by omega, by simp, fun i hi => by omega, by simpa using hc⟩
    · rename_i hc
      obtain ⟨m, hm, rfl⟩ := Option.map_eq_some_iff.1 h
      obtain ⟨h1, h2, h3, h4, h5⟩ := scan_spec l f m hm
      refine ⟨by omega, by omega, by simp; omega, fun i hi => ?_, ?_⟩
      · cases i with
        | zero => simp; omega
        | succ i => have := h4 i (by omega); simpa using this
      · rw [show m + 1 - 1 = (m - 1) + 1 by omega]
        simpa using h5

/-- what is found is a number of 64 bits, of 1 to 10 bytes, which are just its form -/
theorem getU_spec {ys : List UInt8} {n k : Nat} (h : getU ys = some (n, k)) : n < 18446744073709551616 ∧ 1 ≤ k ∧ k ≤ 10 ∧ k ≤ ys.length ∧ ys.take k = uintB n := by
  unfold getU at h
  cases hs : scan ys 10 with
  | none => rw [hs] at h; cases h
  | some j =>
    rw [hs] at h
    simp only [] at h
    obtain ⟨h1, h2, h3, h4, h5⟩ := scan_spec ys 10 j hs
    split at h
    · rename_i hm
      cases h
      have hf := (form_iff ys (k - 1) (by omega) (by omega) h4 h5).2 hm
      rw [show k - 1 + 1 = k by omega] at hf
      have hv := congrArg val hf
      rw [val_uintB] at hv
      refine ⟨by rw [← hv]; exact Nat.mod_lt _ (by decide), h1, h2, h3, ?_⟩
      rw [hv] at hf
      exact hf.symm
    · cases h

theorem uintB_parts : ∀ (n : Nat), big (uintB n) (sizeN n - 1) ∧ ((uintB n).getD (sizeN n - 1) 0).toNat < 128 := by
  intro n
  induction n using Nat.strongRecOn with
  | ind n ih =>
    by_cases h : n < 128
    · rw [sizeN_small h, uintB_small h]
      exact ⟨fun i hi => by omega, by simp; omega⟩
    · obtain ⟨h1, h2⟩ := ih (n / 128) (by omega)
      have hp := sizeN_pos (n / 128)
      rw [sizeN_big (by omega), uintB_big (by omega)]
      rw [show sizeN (n / 128) + 1 - 1 = (sizeN (n / 128) - 1) + 1 by omega]
      refine ⟨fun i hi => ?_, by simpa using h2⟩
      cases i with
      | zero => show 128 ≤ (UInt8.ofNat (n % 128 + 128)).toNat; rw [ofNat_toNat_lt (by omega)]; omega
      | succ i => have := h1 i (by omega); simpa using this

theorem getD_append_left (xs ys : List UInt8) (i : Nat) (h : i < xs.length) : (xs ++ ys).getD i 0 = xs.getD i 0 := by
  simp [List.getD_eq_getElem?_getD, List.getElem?_append_left h]

/-- what was put in front is got, whatever stands behind it -/
theorem getU_uintB (n : Nat) (hn : n < 18446744073709551616) (rest : List UInt8) : getU (uintB n ++ rest) = some (n, sizeN n) := by
  obtain ⟨h1, h2⟩ := uintB_parts n
  have hp := sizeN_pos n
  have h10 := sizeN_le10 hn
  have hl : (uintB n).length = sizeN n := rfl
  have hlen : sizeN n - 1 < (uintB n ++ rest).length := by rw [List.length_append]; omega
  have hb : big (uintB n ++ rest) (sizeN n - 1) := fun i hi => by rw [getD_append_left _ _ _ (by omega)]; exact h1 i hi
  have hc : ((uintB n ++ rest).getD (sizeN n - 1) 0).toNat < 128 := by rw [getD_append_left _ _ _ (by omega)]; exact h2
  have htake : (uintB n ++ rest).take (sizeN n - 1 + 1) = uintB n := by
    rw [show sizeN n - 1 + 1 = (uintB n).length by omega, List.take_left]
  have hm : mayEndB ((uintB n ++ rest).getD (sizeN n - 1) 0).toNat (sizeN n - 1) = true := by
    refine (form_iff _ _ hlen (by omega) hb hc).1 ?_
    rw [htake, val_uintB, Nat.mod_eq_of_lt hn]
  unfold getU
  rw [scan_some _ 10 _ hlen (by omega) hb hc]
  simp only [show sizeN n - 1 + 1 - 1 = sizeN n - 1 by omega]
  rw [if_pos hm, htake, val_uintB, show sizeN n - 1 + 1 = sizeN n by omega]

/-- and a longer text has the same in front -/
theorem getU_front {ys : List UInt8} {n k : Nat} (h : getU ys = some (n, k)) (more : List UInt8) : getU (ys ++ more) = some (n, k) := by
  obtain ⟨h1, h2, h3, h4, h5⟩ := getU_spec h
  have hk : k = sizeN n := by
    have := congrArg List.length h5
    rw [List.length_take, Nat.min_eq_left h4] at this
    exact this
  have e : ys ++ more = uintB n ++ (ys.drop k ++ more) := by
    rw [← h5, ← List.append_assoc, List.take_append_drop]
  rw [e, getU_uintB n h1, hk]
end Go.Proofs.YtjfpeklfgnajoaaGreat.Oct

namespace Go.Proofs.YtjfpeklfgnajoaaGreat.Val
open Go Oct

def okB (c : UInt8) : Bool := decide (32 ≤ c.toNat) && decide (c.toNat ≤ 126)
def rightTextB (l : List UInt8) : Bool := decide (l.length ≤ 32) && l.all okB
def rightB (k n : Int) (l : List UInt8) : Bool :=
  if k = 1 then l.isEmpty else if k = 2 then (l.isEmpty && decide (0 ≤ n ∧ n ≤ 1)) else if k = 3 then (decide (n = 0) && rightTextB l) else false
def rightTypeB (k m : Int) : Bool := if k = 1 ∨ k = 2 then decide (m = 0) else if k = 3 then decide (1 ≤ m ∧ m ≤ 32) else false
def fitsB (k n : Int) (l : List UInt8) (t m : Int) : Bool := rightB k n l && rightTypeB t m && decide (k = t) && (decide (t ≠ 3) || decide ((l.length : Int) ≤ m))

theorem all_take_succ {l : List UInt8} {k : Nat} (h : k < l.length) : (l.take (k + 1)).all okB = ((l.take k).all okB && okB (l.getD k 0)) := by
  rw [List.take_succ_eq_append_getElem h, List.all_append, List.getD_eq_getElem?_getD, List.getElem?_eq_getElem h]
  simp
theorem all_false_of {l : List UInt8} {k : Nat} (h : k < l.length) (hb : okB (l.getD k 0) = false) : l.all okB = false := by
  rw [Bool.eq_false_iff]
  intro ha
  have := List.all_eq_true.1 ha (l.getD k 0) (by rw [List.getD_eq_getElem?_getD, List.getElem?_eq_getElem h]; exact List.getElem_mem h)
  rw [hb] at this; cases this

/-- the bytes of a value that is right -/
def bytesV (k n : Int) (l : List UInt8) : List UInt8 := if k = 1 then 1 :: intB n else if k = 2 then [2, UInt8.ofNat n.toNat] else 3 :: textB l
def bytesR (k n : Int) (l : List UInt8) : List UInt8 := if rightB k n l = true then bytesV k n l else []

/-- a text in quotes -/
def esc : List UInt8 → List UInt8
  | [] => []
  | c :: l => if c = 34 ∨ c = 92 then 92 :: c :: esc l else c :: esc l
def quoteB (l : List UInt8) : List UInt8 := 34 :: (esc l ++ [34])
def textV (k n : Int) (l : List UInt8) : List UInt8 := if k = 1 then Lib.itoa n else if k = 2 then Lib.formatBool (decide (n = 1)) else quoteB l
def printV (k n : Int) (l : List UInt8) : List UInt8 := if rightB k n l = true then textV k n l else []
end Go.Proofs.YtjfpeklfgnajoaaGreat.Val

namespace Go.Proofs.YtjfpeklfgnajoaaGreat
open Go.ChangeShapes Go.WideShapes Go.ChangeAt Go.RowKit Oct By Reg Val

theorem val_call {P : Program} {f : FuncId} {vs : Array Value} {w : World} {v : Value} (h : Calls P f vs w fun e w' => e = .returned v ∧ w = w') : Calls P f vs w fun e w'' => ∃ u, e = .returned u ∧ Rb w w'' ∧ (Spec.eq (R := Rb) v).V w'' u :=
  h.mono fun _ _ ⟨he, hw⟩ => ⟨_, he, by rw [← hw]; exact Rb.refl _, rfl⟩
theorem val_call_below {P : Program} {f : FuncId} {vs : Array Value} {w : World} {v : Value} (h : Calls P f vs w fun e w' => e = .returned v ∧ Below w.heap.size w w') : Calls P f vs w fun e w'' => ∃ u, e = .returned u ∧ Rb w w'' ∧ (Spec.eq (R := Rb) v).V w'' u :=
  h.mono fun _ _ ⟨he, hw⟩ => ⟨_, he, hw, rfl⟩

abbrev vv (k n : Int) (s : ByteArray) : Value := .agg #[.int .i64 k, .int .i64 n, .string s]
theorem ret_bool {a b : Bool} (h : a = b) : Ending.returned (.bool a) = .returned (.bool b) := by rw [h]

set_option maxRecDepth 100000 in
theorem righttext_any (s : ByteArray) (w : World) (hs : s.size ≤ maxLen) :
    Calls Tryz.prog 122 #[.string s] w fun e w' => e = .returned (.bool (rightTextB s.data.toList)) ∧ w = w' := by
  unfold maxLen at hs
  have hlen : s.data.toList.length = s.size := Array.length_toList
  by_cases hbig : 32 < s.size
  · have Hr : Hid (false = rightTextB s.data.toList) := by unfold rightTextB; rw [hlen, decide_eq_false (by omega)]; rfl
    clear hlen
    go_enter Tryz.func122, Tryz.ntmps122
    go_wp2
    go_ret
    exact ⟨ret_bool Hr.out, rfl⟩
  · have Hlen := Lib.hid hlen; clear hlen
    go_enter Tryz.func122, Tryz.ntmps122
    go_wp2
    go_loop [9] (fun i => ∃ k : Nat, k ≤ s.size ∧ i = .int .i64 k ∧ Hid ((s.data.toList.take k).all okB = true)) (fun i => s.size - (intOf i).toNat)
    case atStart => exact ⟨0, Nat.zero_le _, rfl, rfl⟩
    case round =>
      obtain ⟨k, hk, rfl, ha⟩ := hrel
      by_cases hlt : k < s.size
      · have hl : k < s.data.toList.length := by rw [Hlen.out]; exact hlt
        have hgd : s.data.toList.getD k 0 = s[k] := by
          rw [List.getD_eq_getElem?_getD, List.getElem?_eq_getElem hl]; rfl
        by_cases hok : okB s[k] = true
        · have hok' := hok
          unfold okB at hok'
          simp only [Bool.and_eq_true, decide_eq_true_eq] at hok'
          obtain ⟨h1, h2⟩ := hok'
          have ha' : Hid ((s.data.toList.take (k + 1)).all okB = true) := by
            show (s.data.toList.take (k + 1)).all okB = true
            rw [all_take_succ hl, ha.out, hgd, hok]; rfl
          clear hok ha hgd
          go_wp2
          go_round
          case rel => exact ⟨k + 1, by omega, by go_num, ha'⟩
          case measure => simp [intOf]; omega
        · have Hr : Hid (false = rightTextB s.data.toList) := by
            show false = rightTextB s.data.toList
            unfold rightTextB
            rw [all_false_of hl (by rw [hgd]; exact Bool.eq_false_iff.2 hok), Bool.and_false]
          have hok' := hok
          unfold okB at hok'
          simp only [Bool.and_eq_true, decide_eq_true_eq] at hok'
          clear hok ha hgd
          by_cases h1 : s[k].toNat < 32
          · clear hok'
            go_wp2
            go_ret
            exact ⟨ret_bool Hr.out, rfl⟩
          · have h2 : 126 < s[k].toNat := by omega
            clear hok'
            go_wp2
            go_ret
            exact ⟨ret_bool Hr.out, rfl⟩
      · have Hr : Hid (true = rightTextB s.data.toList) := by
          show true = rightTextB s.data.toList
          have h := ha.out
          rw [List.take_of_length_le (by rw [Hlen.out]; omega)] at h
          unfold rightTextB
          rw [Hlen.out, h, decide_eq_true (by omega)]; rfl
        clear ha
        go_wp2
        go_ret
        exact ⟨ret_bool Hr.out, rfl⟩

theorem vint_any (n : Int) (w : World) : Calls Tryz.prog 119 #[.int .i64 n] w fun e w' => e = .returned (vv 1 n ⟨#[]⟩) ∧ Below w.heap.size w w' := by
  go_enter Tryz.func119, Tryz.ntmps119
  go_wp2
  exact bodyPost_ret (v := vv 1 n ⟨#[]⟩) (by simp [results, Tryz.results119, go_sem]) rfl ⟨rfl, (Below.refl _ _).alloc (Nat.le_refl _) _⟩
theorem vtext_any (s : ByteArray) (w : World) : Calls Tryz.prog 121 #[.string s] w fun e w' => e = .returned (vv 3 0 s) ∧ Below w.heap.size w w' := by
  go_enter Tryz.func121, Tryz.ntmps121
  go_wp2
  exact bodyPost_ret (v := vv 3 0 s) (by simp [results, Tryz.results121, go_sem]) rfl ⟨rfl, (Below.refl _ _).alloc (Nat.le_refl _) _⟩
theorem vbool_any (b : Bool) (w : World) : Calls Tryz.prog 120 #[.bool b] w fun e w' => e = .returned (vv 2 (if b then 1 else 0) ⟨#[]⟩) ∧ Below w.heap.size w w' := by
  cases b
  · go_enter Tryz.func120, Tryz.ntmps120
    go_wp2
    exact bodyPost_ret (v := vv 2 0 ⟨#[]⟩) (by simp [results, Tryz.results120, go_sem]) rfl ⟨rfl, ((Below.refl _ _).alloc (Nat.le_refl _) _).alloc (by simp) _⟩
  · go_enter Tryz.func120, Tryz.ntmps120
    go_wp2
    exact bodyPost_ret (v := vv 2 1 ⟨#[]⟩) (by simp [results, Tryz.results120, go_sem]) rfl ⟨rfl, ((Below.refl _ _).alloc (Nat.le_refl _) _).alloc (by simp) _⟩
end Go.Proofs.YtjfpeklfgnajoaaGreat

namespace Go.Proofs.YtjfpeklfgnajoaaGreat
open Go.ChangeShapes Go.WideShapes Go.ChangeAt Go.RowKit Oct By Reg Val

abbrev tv (k m : Int) : Value := .agg #[.int .i64 k, .int .i64 m]
def HeldV (w : World) (B : Nat) (k n : Int) (s : ByteArray) : Prop :=
  w.cell? ⟨B, 0, none⟩ = some (.int .i64 k) ∧ w.cell? ⟨B, 1, none⟩ = some (.int .i64 n) ∧ w.cell? ⟨B, 2, none⟩ = some (.string s)
def HeldT (w : World) (B : Nat) (k m : Int) : Prop :=
  w.cell? ⟨B, 0, none⟩ = some (.int .i64 k) ∧ w.cell? ⟨B, 1, none⟩ = some (.int .i64 m)
theorem cell_rb {w w' : World} {a : Addr} {v : Value} (hb : Rb w w') (h : w.cell? a = some v) : w'.cell? a = some v := by
  rw [Below.cell hb (World.block_lt_of_cell? w _ h)]; exact h
theorem HeldV.rb {w w' : World} {B : Nat} {k n : Int} {s : ByteArray} (h : HeldV w B k n s) (hb : Rb w w') : HeldV w' B k n s :=
  ⟨cell_rb hb h.1, cell_rb hb h.2.1, cell_rb hb h.2.2⟩
theorem HeldT.rb {w w' : World} {B : Nat} {k m : Int} (h : HeldT w B k m) (hb : Rb w w') : HeldT w' B k m :=
  ⟨cell_rb hb h.1, cell_rb hb h.2⟩
theorem HeldV.new (w : World) (k n : Int) (s : ByteArray) (T : TypeId) : HeldV (w.alloc (.cells #[.int .i64 k, .int .i64 n, .string s] T)) w.heap.size k n s := by
  refine ⟨?_, ?_, ?_⟩ <;> simp
theorem HeldT.new (w : World) (k m : Int) (T : TypeId) : HeldT (w.alloc (.cells #[.int .i64 k, .int .i64 m] T)) w.heap.size k m := by
  refine ⟨?_, ?_⟩ <;> simp
theorem HeldV.load {w : World} {B : Nat} {k n : Int} {s : ByteArray} (h : HeldV w B k n s) : (Instr.loadAt 60 (.pointer (some ⟨B, 0, none⟩))).run Tryz.prog w = .ok (vv k n s) w := by
  obtain ⟨h0, h1, h2⟩ := h
  simp [Instr.loadAt, go_sem, h0, h1, h2]
theorem HeldT.load {w : World} {B : Nat} {k m : Int} (h : HeldT w B k m) : (Instr.loadAt 86 (.pointer (some ⟨B, 0, none⟩))).run Tryz.prog w = .ok (tv k m) w := by
  obtain ⟨h0, h1⟩ := h
  simp [Instr.loadAt, go_sem, h0, h1]

def eqVB (k n : Int) (s : ByteArray) (k' n' : Int) (s' : ByteArray) : Bool := (k == k') && ((n == n') && (s.toList == s'.toList))
def eqTB (k m k' m' : Int) : Bool := (k == k') && (m == m')

section
variable {ops : Array Oper} {o : Oper} {a : Act} {w : World} {T : World → Value → Prop}
theorem run_eqlV (x y : Operand) (k n k' n' : Int) (s s' : ByteArray) : (binSem .eql 60 x y (vv k n s) (vv k' n' s')).run Tryz.prog w = .ok (.bool (eqVB k n s k' n' s')) w := by
  unfold eqVB
  by_cases h1 : k = k' <;> by_cases h2 : n = n' <;> by_cases h3 : s.toList = s'.toList <;> simp [binSem, go_sem, h1, h2, h3]
theorem run_eqlT (x y : Operand) (k m k' m' : Int) : (binSem .eql 86 x y (tv k m) (tv k' m')).run Tryz.prog w = .ok (.bool (eqTB k m k' m')) w := by
  unfold eqTB
  by_cases h1 : k = k' <;> by_cases h2 : m = m' <;> simp [binSem, go_sem, h1, h2]
theorem run_neqV (x y : Operand) (k n k' n' : Int) (s s' : ByteArray) : (binSem .neq 60 x y (vv k n s) (vv k' n' s')).run Tryz.prog w = .ok (.bool (!(eqVB k n s k' n' s'))) w := by
  unfold eqVB
  by_cases h1 : k = k' <;> by_cases h2 : n = n' <;> by_cases h3 : s.toList = s'.toList <;> simp [binSem, go_sem, h1, h2, h3]
theorem ok_field {B : Nat} (T0 : TypeId) (i : Nat) (x : Operand) (hT : T0 = 60 ∧ i < 3 ∨ T0 = 86 ∧ i < 2) (ho : o.op = .fieldAddr T0 x i) (hw : Region.wanted o (yielded ops a.tmps) = true) (hx : a.eval x = .pointer (some ⟨B, 0, none⟩))
    (h : T w (.pointer (some ⟨B, i, none⟩))) : okAt Tryz.prog ops o a w T := by
  refine ok_value (w' := w) (v := .pointer (some ⟨B, i, none⟩)) hw ?_ h
  simp only [execOp, ho, hx]
  rcases hT with ⟨rfl, hi⟩ | ⟨rfl, hi⟩
  · have hi' : i = 0 ∨ i = 1 ∨ i = 2 := by omega
    rcases hi' with rfl | rfl | rfl <;> simp [go_sem]
  · have hi' : i = 0 ∨ i = 1 := by omega
    rcases hi' with rfl | rfl <;> simp [go_sem]
theorem HeldV.f0 {B : Nat} {k n : Int} {s : ByteArray} (h : HeldV w B k n s) : (Instr.loadAt 3 (.pointer (some ⟨B, 0, none⟩))).run Tryz.prog w = .ok (.int .i64 k) w := by
  simp [Instr.loadAt, go_sem, h.1]
theorem HeldV.f1 {B : Nat} {k n : Int} {s : ByteArray} (h : HeldV w B k n s) : (Instr.loadAt 2 (.pointer (some ⟨B, 1, none⟩))).run Tryz.prog w = .ok (.int .i64 n) w := by
  simp [Instr.loadAt, go_sem, h.2.1]
theorem HeldV.f2 {B : Nat} {k n : Int} {s : ByteArray} (h : HeldV w B k n s) : (Instr.loadAt 9 (.pointer (some ⟨B, 2, none⟩))).run Tryz.prog w = .ok (.string s) w := by
  simp [Instr.loadAt, go_sem, h.2.2]
theorem HeldT.f0 {B : Nat} {k m : Int} (h : HeldT w B k m) : (Instr.loadAt 3 (.pointer (some ⟨B, 0, none⟩))).run Tryz.prog w = .ok (.int .i64 k) w := by
  simp [Instr.loadAt, go_sem, h.1]
theorem HeldT.f1 {B : Nat} {k m : Int} (h : HeldT w B k m) : (Instr.loadAt 3 (.pointer (some ⟨B, 1, none⟩))).run Tryz.prog w = .ok (.int .i64 m) w := by
  simp [Instr.loadAt, go_sem, h.2]
theorem run_build1 (n : Int) (c : Int) : (Instr.build 60 #[(0, .int .i64 c), (1, .int .i64 n)]).run Tryz.prog w = .ok (vv c n ⟨#[]⟩) w := by
  simp [go_sem]
theorem run_build2 (s : ByteArray) (c : Int) : (Instr.build 60 #[(0, .int .i64 c), (2, .string s)]).run Tryz.prog w = .ok (vv c 0 s) w := by
  simp [go_sem]
theorem run_build0 (c : Int) : (Instr.build 60 #[(0, .int .i64 c)]).run Tryz.prog w = .ok (vv c 0 ⟨#[]⟩) w := by
  simp [go_sem]
theorem run_buildN : (Instr.build 60 #[]).run Tryz.prog w = .ok (vv 0 0 ⟨#[]⟩) w := by
  simp [go_sem]
theorem ok_build (T0 : TypeId) (parts : Array (Nat × Operand)) (vs : Array (Nat × Value)) {v : Value} (ho : o.op = .build T0 parts) (hw : Region.wanted o (yielded ops a.tmps) = true) (hp : (parts.map fun (i, x) => (i, a.eval x)) = vs)
    (hr : (Instr.build T0 vs).run Tryz.prog w = .ok v w) (h : T w v) : okAt Tryz.prog ops o a w T := by
  refine ok_value (w' := w) hw ?_ h
  simp only [execOp, ho, hp, Sem.run_bind, hr]
  simp [Result.andThen]
theorem ok_len_str (x : Operand) (t : TypeId) (s : ByteArray) (ht : Tryz.prog.underlying t = some .string) (ho : o.op = .call { callee := .builtin .len, args := #[x], argTypes := #[t] }) (hw : Region.wanted o (yielded ops a.tmps) = true) (hx : a.eval x = .string s) (h : T w (.int .i64 s.size)) : okAt Tryz.prog ops o a w T := by
  refine ok_value (w' := w) (v := .int .i64 s.size) hw ?_ h
  have hg : goInt (s.size : Int) = .int .i64 s.size := rfl
  simp only [execOp, ho, resolve, invoke, Sem.run_bind, Sem.run_pure, Result.andThen_ok, List.map_toArray, List.map_cons, List.map_nil, hx]
  simp [builtin, Builtin.len_, run_underlying ht, Result.andThen, hg]
theorem run_gtr_int (t : TypeId) (x y : Operand) (k : IntKind) (n m : Int) : (binSem .gtr t x y (.int k n) (.int k m)).run Tryz.prog w = .ok (.bool (decide (n > m))) w := by
  simp [binSem, go_sem]
theorem run_leq_int (t : TypeId) (x y : Operand) (k : IntKind) (n m : Int) : (binSem .leq t x y (.int k n) (.int k m)).run Tryz.prog w = .ok (.bool (decide (n ≤ m))) w := by
  simp [binSem, go_sem]
theorem run_eql_S (t : TypeId) (x y : Operand) (s s' : ByteArray) : (binSem .eql t x y (.string s) (.string s')).run Tryz.prog w = .ok (.bool (s.toList == s'.toList)) w := by
  simp [binSem, go_sem]
end
end Go.Proofs.YtjfpeklfgnajoaaGreat

namespace Go.Proofs.YtjfpeklfgnajoaaGreat
open Go.ChangeShapes Go.WideShapes Go.ChangeAt Go.RowKit Oct By Reg Val

theorem empty_iff (s : ByteArray) : (s.toList == (⟨#[]⟩ : ByteArray).toList) = s.data.toList.isEmpty := by
  rw [ByteArray.toList_eq, ByteArray.toList_eq]
  cases s.data.toList <;> rfl
theorem right1 (n : Int) (s : ByteArray) : eqVB 1 n s 1 n ⟨#[]⟩ = rightB 1 n s.data.toList := by
  unfold eqVB rightB; rw [empty_iff]; simp
theorem right2a (n : Int) (s : ByteArray) (h0 : n = 0) : eqVB 2 n s 2 0 ⟨#[]⟩ = rightB 2 n s.data.toList := by
  unfold eqVB rightB; rw [empty_iff, h0]; simp
theorem right2b (n : Int) (s : ByteArray) (h0 : ¬ n = 0) : eqVB 2 n s 2 1 ⟨#[]⟩ = rightB 2 n s.data.toList := by
  unfold eqVB rightB; rw [empty_iff]
  simp only [beq_self_eq_true, Bool.true_and]
  rw [if_neg (by decide), if_pos trivial, Bool.and_comm]
  congr 1
  rw [Bool.eq_iff_iff]; simp; omega
theorem right3a (n : Int) (s : ByteArray) (h0 : ¬ n = 0) : eqVB 3 n s 3 0 s = false := by
  unfold eqVB; simp [h0]
theorem right3b (n : Int) (s : ByteArray) (h0 : n = 0) : eqVB 3 n s 3 0 s = true := by
  unfold eqVB; simp [h0]
theorem right3a_end (n : Int) (s : ByteArray) (h0 : ¬ n = 0) : false = rightB 3 n s.data.toList := by
  unfold rightB; simp [h0]
theorem right3b_end (n : Int) (s : ByteArray) (h0 : n = 0) : rightTextB s.data.toList = rightB 3 n s.data.toList := by
  unfold rightB; simp [h0]

set_option maxRecDepth 100000 in
theorem right_any (k n : Int) (s : ByteArray) (w0 : World) (hs : s.size ≤ maxLen) :
    Calls Tryz.prog 95 #[vv k n s] w0 fun e w' => e = .returned (.bool (rightB k n s.data.toList)) ∧ Below w0.heap.size w0 w' := by
  by_cases h1 : k = 1
  · subst h1
    go_enter Tryz.func95, Tryz.ntmps95
    go_wp2_with fail
    refine wp_region_specs (R := Rb) (S := [Spec.eq (vv (1) (n) (s)), Spec.eq (.pointer (some ⟨w0.heap.size, 1, none⟩)), Spec.eq (.int .i64 (n)), Spec.eq (vv (1) (n) (⟨#[]⟩)), Spec.eq (.bool (eqVB (1) (n) (s) (1) (n) (⟨#[]⟩))), Spec.eq (.bool (eqVB (1) (n) (s) (1) (n) (⟨#[]⟩)))]) (n := 1) (size := 32) (by kernel_rfl) Rb.trans (Rb.drew _) rfl (by kernel_rfl) ?owed ?fin
    case owed =>
      refine Owed.cons ?_ ?_
      · -- 0: slot 7 := Op.load 23 (Operand.tmp 1)
        intro a w hR F
        have e1 : a.eval (.tmp 1) = .pointer (some ⟨w0.heap.size, 0, none⟩) := F.old 1 (by kernel_rfl)
        exact ok_load _ _ rfl (wanted_none rfl) e1 ((HeldV.new w0 1 n s _).rb hR).load ⟨Rb.refl _, rfl⟩
      refine Owed.cons ?_ ?_
      · -- 1: slot 8 := Op.fieldAddr 23 (Operand.tmp 1) 1
        intro a w hR F
        have e1 : a.eval (.tmp 1) = .pointer (some ⟨w0.heap.size, 0, none⟩) := F.old 1 (by kernel_rfl)
        exact ok_field _ 1 _ (by decide) rfl (wanted_none rfl) e1 ⟨Rb.refl _, rfl⟩
      refine Owed.cons ?_ ?_
      · -- 2: slot 9 := Op.load 2 (Operand.tmp 8)
        intro a w hR F
        have e8 : a.eval (.tmp 8) = .pointer (some ⟨w0.heap.size, 1, none⟩) := F.new 1 8 (by kernel_rfl)
        exact ok_load _ _ rfl (wanted_none rfl) e8 ((HeldV.new w0 1 n s _).rb hR).f1 ⟨Rb.refl _, rfl⟩
      refine Owed.cons ?_ ?_
      · -- 3: slot 10 := Op.call { callee := Callee.value (Operand.func 21), args := #[Operand.tmp 9], argTypes := #[2] }
        intro a w hR F
        have e9 : a.eval (.tmp 9) = .int .i64 (n) := F.new 2 9 (by kernel_rfl)
        refine ok_call 119 _ _ #[.int .i64 (n)] rfl (wanted_none rfl) (by simp [e9]) (Tryz.call119 _ _) ?_
        exact val_call_below (vint_any n w)
      refine Owed.cons ?_ ?_
      · -- 4: slot 11 := Op.binOp BinOp.eql 23 (Operand.tmp 7) (Operand.tmp 10) 23
        intro a w hR F
        have e7 : a.eval (.tmp 7) = vv (1) (n) (s) := F.new 0 7 (by kernel_rfl)
        have e10 : a.eval (.tmp 10) = vv (1) (n) (⟨#[]⟩) := F.new 3 10 (by kernel_rfl)
        exact ok_bin _ _ _ _ _ rfl (wanted_none rfl) e7 e10 (run_eqlV _ _ _ _ _ _ _ _) ⟨Rb.refl _, rfl⟩
      refine Owed.cons ?_ ?_
      · -- 5: slot 2 := Op.assign (Operand.tmp 11)
        intro a w hR F
        have e11 : a.eval (.tmp 11) = .bool (eqVB (1) (n) (s) (1) (n) (⟨#[]⟩)) := F.new 4 11 (by kernel_rfl)
        exact ok_assign _ rfl (wanted_none rfl) ⟨Rb.refl _, e11⟩
      exact Owed.nil
    case fin =>
      intro y w2 hR hy
      have e5 : y 5 = .bool (eqVB 1 n s 1 n ⟨#[]⟩) := hy 5 _ rfl
      have HR := Lib.hid hR
      clear hy hR
      simp only [putAll, Act.put, List.setIfInBounds_toArray, List.set_cons_zero, List.set_cons_succ]
      rw [e5]
      go_wp2
      go_ret
      exact ⟨ret_bool (right1 n s), Below.trans ((Below.refl _ w0).alloc (Nat.le_refl _) _) (Below.mono HR.out (by simp))⟩
  by_cases h2 : k = 2
  · subst h2
    clear h1
    by_cases h0 : n = 0
    · have H0 := Lib.hid h0
      clear h0
      go_enter Tryz.func95, Tryz.ntmps95
      go_wp2_with fail
      refine wp_region_specs (R := Rb) (S := [Spec.eq (vv (2) (n) (s)), Spec.eq (.pointer (some ⟨w0.heap.size, 1, none⟩)), Spec.eq (.int .i64 (n)), Spec.eq (.bool false), Spec.eq (vv (2) (0) (⟨#[]⟩)), Spec.eq (.bool (eqVB (2) (n) (s) (2) (0) (⟨#[]⟩))), Spec.eq (.bool (eqVB (2) (n) (s) (2) (0) (⟨#[]⟩)))]) (n := 1) (size := 32) (by kernel_rfl) Rb.trans (Rb.drew _) rfl (by kernel_rfl) ?owed ?fin
      case owed =>
        refine Owed.cons ?_ ?_
        · -- 0: slot 14 := Op.load 23 (Operand.tmp 1)
          intro a w hR F
          have e1 : a.eval (.tmp 1) = .pointer (some ⟨w0.heap.size, 0, none⟩) := F.old 1 (by kernel_rfl)
          exact ok_load _ _ rfl (wanted_none rfl) e1 ((HeldV.new w0 2 n s _).rb hR).load ⟨Rb.refl _, rfl⟩
        refine Owed.cons ?_ ?_
        · -- 1: slot 15 := Op.fieldAddr 23 (Operand.tmp 1) 1
          intro a w hR F
          have e1 : a.eval (.tmp 1) = .pointer (some ⟨w0.heap.size, 0, none⟩) := F.old 1 (by kernel_rfl)
          exact ok_field _ 1 _ (by decide) rfl (wanted_none rfl) e1 ⟨Rb.refl _, rfl⟩
        refine Owed.cons ?_ ?_
        · -- 2: slot 16 := Op.load 2 (Operand.tmp 15)
          intro a w hR F
          have e15 : a.eval (.tmp 15) = .pointer (some ⟨w0.heap.size, 1, none⟩) := F.new 1 15 (by kernel_rfl)
          exact ok_load _ _ rfl (wanted_none rfl) e15 ((HeldV.new w0 2 n s _).rb hR).f1 ⟨Rb.refl _, rfl⟩
        refine Owed.cons ?_ ?_
        · -- 3: slot 17 := Op.binOp BinOp.neq 2 (Operand.tmp 16) (Operand.const (Value.int IntKind.i64 0)) 2
          intro a w hR F
          have e16 : a.eval (.tmp 16) = .int .i64 (n) := F.new 2 16 (by kernel_rfl)
          refine ok_bin _ _ _ _ _ rfl (wanted_none rfl) e16 rfl (run_neq_int _ _ _ _ _ _) ⟨Rb.refl _, ?_⟩
          exact congrArg Value.bool (by simp [H0.out])
        refine Owed.cons ?_ ?_
        · -- 4: slot 18 := Op.call { callee := Callee.value (Operand.func 23), args := #[Operand.tmp 17], argTypes := #[4] }
          intro a w hR F
          have e17 : a.eval (.tmp 17) = .bool false := F.new 3 17 (by kernel_rfl)
          refine ok_call 120 _ _ #[.bool false] rfl (wanted_none rfl) (by simp [e17]) (Tryz.call120 _ _) ?_
          exact val_call_below (vbool_any false w)
        refine Owed.cons ?_ ?_
        · -- 5: slot 19 := Op.binOp BinOp.eql 23 (Operand.tmp 14) (Operand.tmp 18) 23
          intro a w hR F
          have e14 : a.eval (.tmp 14) = vv (2) (n) (s) := F.new 0 14 (by kernel_rfl)
          have e18 : a.eval (.tmp 18) = vv (2) (0) (⟨#[]⟩) := F.new 4 18 (by kernel_rfl)
          exact ok_bin _ _ _ _ _ rfl (wanted_none rfl) e14 e18 (run_eqlV _ _ _ _ _ _ _ _) ⟨Rb.refl _, rfl⟩
        refine Owed.cons ?_ ?_
        · -- 6: slot 2 := Op.assign (Operand.tmp 19)
          intro a w hR F
          have e19 : a.eval (.tmp 19) = .bool (eqVB (2) (n) (s) (2) (0) (⟨#[]⟩)) := F.new 5 19 (by kernel_rfl)
          exact ok_assign _ rfl (wanted_none rfl) ⟨Rb.refl _, e19⟩
        exact Owed.nil
      case fin =>
        intro y w2 hR hy
        have e6 : y 6 = .bool (eqVB 2 n s 2 0 ⟨#[]⟩) := hy 6 _ rfl
        have HR := Lib.hid hR
        clear hy hR
        simp only [putAll, Act.put, List.setIfInBounds_toArray, List.set_cons_zero, List.set_cons_succ]
        rw [e6]
        go_wp2
        go_ret
        exact ⟨ret_bool (right2a n s H0.out), Below.trans ((Below.refl _ w0).alloc (Nat.le_refl _) _) (Below.mono HR.out (by simp))⟩
    · have H0 := Lib.hid h0
      clear h0
      go_enter Tryz.func95, Tryz.ntmps95
      go_wp2_with fail
      refine wp_region_specs (R := Rb) (S := [Spec.eq (vv (2) (n) (s)), Spec.eq (.pointer (some ⟨w0.heap.size, 1, none⟩)), Spec.eq (.int .i64 (n)), Spec.eq (.bool true), Spec.eq (vv (2) (1) (⟨#[]⟩)), Spec.eq (.bool (eqVB (2) (n) (s) (2) (1) (⟨#[]⟩))), Spec.eq (.bool (eqVB (2) (n) (s) (2) (1) (⟨#[]⟩)))]) (n := 1) (size := 32) (by kernel_rfl) Rb.trans (Rb.drew _) rfl (by kernel_rfl) ?owed ?fin
      case owed =>
        refine Owed.cons ?_ ?_
        · -- 0: slot 14 := Op.load 23 (Operand.tmp 1)
          intro a w hR F
          have e1 : a.eval (.tmp 1) = .pointer (some ⟨w0.heap.size, 0, none⟩) := F.old 1 (by kernel_rfl)
          exact ok_load _ _ rfl (wanted_none rfl) e1 ((HeldV.new w0 2 n s _).rb hR).load ⟨Rb.refl _, rfl⟩
        refine Owed.cons ?_ ?_
        · -- 1: slot 15 := Op.fieldAddr 23 (Operand.tmp 1) 1
          intro a w hR F
          have e1 : a.eval (.tmp 1) = .pointer (some ⟨w0.heap.size, 0, none⟩) := F.old 1 (by kernel_rfl)
          exact ok_field _ 1 _ (by decide) rfl (wanted_none rfl) e1 ⟨Rb.refl _, rfl⟩
        refine Owed.cons ?_ ?_
        · -- 2: slot 16 := Op.load 2 (Operand.tmp 15)
          intro a w hR F
          have e15 : a.eval (.tmp 15) = .pointer (some ⟨w0.heap.size, 1, none⟩) := F.new 1 15 (by kernel_rfl)
          exact ok_load _ _ rfl (wanted_none rfl) e15 ((HeldV.new w0 2 n s _).rb hR).f1 ⟨Rb.refl _, rfl⟩
        refine Owed.cons ?_ ?_
        · -- 3: slot 17 := Op.binOp BinOp.neq 2 (Operand.tmp 16) (Operand.const (Value.int IntKind.i64 0)) 2
          intro a w hR F
          have e16 : a.eval (.tmp 16) = .int .i64 (n) := F.new 2 16 (by kernel_rfl)
          refine ok_bin _ _ _ _ _ rfl (wanted_none rfl) e16 rfl (run_neq_int _ _ _ _ _ _) ⟨Rb.refl _, ?_⟩
          exact congrArg Value.bool (by simp [H0.out])
        refine Owed.cons ?_ ?_
        · -- 4: slot 18 := Op.call { callee := Callee.value (Operand.func 23), args := #[Operand.tmp 17], argTypes := #[4] }
          intro a w hR F
          have e17 : a.eval (.tmp 17) = .bool true := F.new 3 17 (by kernel_rfl)
          refine ok_call 120 _ _ #[.bool true] rfl (wanted_none rfl) (by simp [e17]) (Tryz.call120 _ _) ?_
          exact val_call_below (vbool_any true w)
        refine Owed.cons ?_ ?_
        · -- 5: slot 19 := Op.binOp BinOp.eql 23 (Operand.tmp 14) (Operand.tmp 18) 23
          intro a w hR F
          have e14 : a.eval (.tmp 14) = vv (2) (n) (s) := F.new 0 14 (by kernel_rfl)
          have e18 : a.eval (.tmp 18) = vv (2) (1) (⟨#[]⟩) := F.new 4 18 (by kernel_rfl)
          exact ok_bin _ _ _ _ _ rfl (wanted_none rfl) e14 e18 (run_eqlV _ _ _ _ _ _ _ _) ⟨Rb.refl _, rfl⟩
        refine Owed.cons ?_ ?_
        · -- 6: slot 2 := Op.assign (Operand.tmp 19)
          intro a w hR F
          have e19 : a.eval (.tmp 19) = .bool (eqVB (2) (n) (s) (2) (1) (⟨#[]⟩)) := F.new 5 19 (by kernel_rfl)
          exact ok_assign _ rfl (wanted_none rfl) ⟨Rb.refl _, e19⟩
        exact Owed.nil
      case fin =>
        intro y w2 hR hy
        have e6 : y 6 = .bool (eqVB 2 n s 2 1 ⟨#[]⟩) := hy 6 _ rfl
        have HR := Lib.hid hR
        clear hy hR
        simp only [putAll, Act.put, List.setIfInBounds_toArray, List.set_cons_zero, List.set_cons_succ]
        rw [e6]
        go_wp2
        go_ret
        exact ⟨ret_bool (right2b n s H0.out), Below.trans ((Below.refl _ w0).alloc (Nat.le_refl _) _) (Below.mono HR.out (by simp))⟩
  by_cases h3 : k = 3
  · subst h3
    clear h1 h2
    by_cases h0 : n = 0
    · have H0 := Lib.hid h0
      clear h0
      go_enter Tryz.func95, Tryz.ntmps95
      go_wp2_with fail
      refine wp_region_specs (R := Rb) (S := [Spec.eq (vv (3) (n) (s)), Spec.eq (.pointer (some ⟨w0.heap.size, 2, none⟩)), Spec.eq (.string (s)), Spec.eq (vv (3) (0) (s)), Spec.eq (.bool true), Spec.eq (.bool true), Spec.eq (.pointer (some ⟨w0.heap.size, 2, none⟩)), Spec.eq (.string (s)), Spec.eq (.bool (rightTextB s.data.toList)), Spec.eq (.bool (rightTextB s.data.toList)), Spec.eq (.bool (rightTextB s.data.toList))]) (n := 1) (size := 32) (by kernel_rfl) Rb.trans (Rb.drew _) rfl (by kernel_rfl) ?owed ?fin
      case owed =>
        refine Owed.cons ?_ ?_
        · -- 0: slot 22 := Op.load 23 (Operand.tmp 1)
          intro a w hR F
          have e1 : a.eval (.tmp 1) = .pointer (some ⟨w0.heap.size, 0, none⟩) := F.old 1 (by kernel_rfl)
          exact ok_load _ _ rfl (wanted_none rfl) e1 ((HeldV.new w0 3 n s _).rb hR).load ⟨Rb.refl _, rfl⟩
        refine Owed.cons ?_ ?_
        · -- 1: slot 23 := Op.fieldAddr 23 (Operand.tmp 1) 2
          intro a w hR F
          have e1 : a.eval (.tmp 1) = .pointer (some ⟨w0.heap.size, 0, none⟩) := F.old 1 (by kernel_rfl)
          exact ok_field _ 2 _ (by decide) rfl (wanted_none rfl) e1 ⟨Rb.refl _, rfl⟩
        refine Owed.cons ?_ ?_
        · -- 2: slot 24 := Op.load 9 (Operand.tmp 23)
          intro a w hR F
          have e23 : a.eval (.tmp 23) = .pointer (some ⟨w0.heap.size, 2, none⟩) := F.new 1 23 (by kernel_rfl)
          exact ok_load _ _ rfl (wanted_none rfl) e23 ((HeldV.new w0 3 n s _).rb hR).f2 ⟨Rb.refl _, rfl⟩
        refine Owed.cons ?_ ?_
        · -- 3: slot 25 := Op.call { callee := Callee.value (Operand.func 22), args := #[Operand.tmp 24], argTypes := #[9] }
          intro a w hR F
          have e24 : a.eval (.tmp 24) = .string (s) := F.new 2 24 (by kernel_rfl)
          refine ok_call 121 _ _ #[.string (s)] rfl (wanted_none rfl) (by simp [e24]) (Tryz.call121 _ _) ?_
          exact val_call_below (vtext_any s w)
        refine Owed.cons ?_ ?_
        · -- 4: slot 26 := Op.binOp BinOp.eql 23 (Operand.tmp 22) (Operand.tmp 25) 23
          intro a w hR F
          have e22 : a.eval (.tmp 22) = vv (3) (n) (s) := F.new 0 22 (by kernel_rfl)
          have e25 : a.eval (.tmp 25) = vv (3) (0) (s) := F.new 3 25 (by kernel_rfl)
          refine ok_bin _ _ _ _ _ rfl (wanted_none rfl) e22 e25 (run_eqlV _ _ _ _ _ _ _ _) ⟨Rb.refl _, ?_⟩
          exact congrArg Value.bool (right3b n s H0.out)
        refine Owed.cons ?_ ?_
        · -- 5: slot 27 := Op.move (Operand.tmp 26)
          intro a w hR F
          have e26 : a.eval (.tmp 26) = .bool true := F.new 4 26 (by kernel_rfl)
          exact ok_move _ rfl (wanted_none rfl) ⟨Rb.refl _, e26⟩
        refine Owed.cons ?_ ?_
        · -- 6: slot 28 := Op.fieldAddr 23 (Operand.tmp 1) 2
          intro a w hR F
          have e27 : a.eval (.tmp 27) = .bool true := F.new 5 27 (by kernel_rfl)
          have e1 : a.eval (.tmp 1) = .pointer (some ⟨w0.heap.size, 0, none⟩) := F.old 1 (by kernel_rfl)
          exact ok_field _ 2 _ (by decide) rfl (wanted_true (j := 5) (d := 27) rfl (by kernel_rfl) e27) e1 ⟨Rb.refl _, rfl⟩
        refine Owed.cons ?_ ?_
        · -- 7: slot 29 := Op.load 9 (Operand.tmp 28)
          intro a w hR F
          have e27 : a.eval (.tmp 27) = .bool true := F.new 5 27 (by kernel_rfl)
          have e28 : a.eval (.tmp 28) = .pointer (some ⟨w0.heap.size, 2, none⟩) := F.new 6 28 (by kernel_rfl)
          exact ok_load _ _ rfl (wanted_true (j := 5) (d := 27) rfl (by kernel_rfl) e27) e28 ((HeldV.new w0 3 n s _).rb hR).f2 ⟨Rb.refl _, rfl⟩
        refine Owed.cons ?_ ?_
        · -- 8: slot 30 := Op.call { callee := Callee.value (Operand.func 34), args := #[Operand.tmp 29], argTypes := #[9] }
          intro a w hR F
          have e27 : a.eval (.tmp 27) = .bool true := F.new 5 27 (by kernel_rfl)
          have e29 : a.eval (.tmp 29) = .string (s) := F.new 7 29 (by kernel_rfl)
          refine ok_call 122 _ _ #[.string (s)] rfl (wanted_true (j := 5) (d := 27) rfl (by kernel_rfl) e27) (by simp [e29]) (Tryz.call122 _ _) ?_
          exact val_call (righttext_any s w hs)
        refine Owed.cons ?_ ?_
        · -- 9: slot 31 := Op.pick (Operand.tmp 27) (Operand.tmp 30) (Operand.const (Value.bool false))
          intro a w hR F
          have e27 : a.eval (.tmp 27) = .bool true := F.new 5 27 (by kernel_rfl)
          have e30 : a.eval (.tmp 30) = .bool (rightTextB s.data.toList) := F.new 8 30 (by kernel_rfl)
          exact ok_pick _ _ _ true rfl (wanted_none rfl) e27 ⟨Rb.refl _, e30⟩
        refine Owed.cons ?_ ?_
        · -- 10: slot 2 := Op.assign (Operand.tmp 31)
          intro a w hR F
          have e31 : a.eval (.tmp 31) = .bool (rightTextB s.data.toList) := F.new 9 31 (by kernel_rfl)
          exact ok_assign _ rfl (wanted_none rfl) ⟨Rb.refl _, e31⟩
        exact Owed.nil
      case fin =>
        intro y w2 hR hy
        have e10 : y 10 = .bool (rightTextB s.data.toList) := hy 10 _ rfl
        have HR := Lib.hid hR
        clear hy hR
        simp only [putAll, Act.put, List.setIfInBounds_toArray, List.set_cons_zero, List.set_cons_succ]
        rw [e10]
        go_wp2
        go_ret
        exact ⟨ret_bool (right3b_end n s H0.out), Below.trans ((Below.refl _ w0).alloc (Nat.le_refl _) _) (Below.mono HR.out (by simp))⟩
    · have H0 := Lib.hid h0
      clear h0
      go_enter Tryz.func95, Tryz.ntmps95
      go_wp2_with fail
      refine wp_region_specs (R := Rb) (S := [Spec.eq (vv (3) (n) (s)), Spec.eq (.pointer (some ⟨w0.heap.size, 2, none⟩)), Spec.eq (.string (s)), Spec.eq (vv (3) (0) (s)), Spec.eq (.bool false), Spec.eq (.bool false), Spec.eq (undef), Spec.eq (undef), Spec.eq (undef), Spec.eq (.bool false), Spec.eq (.bool false)]) (n := 1) (size := 32) (by kernel_rfl) Rb.trans (Rb.drew _) rfl (by kernel_rfl) ?owed ?fin
      case owed =>
        refine Owed.cons ?_ ?_
        · -- 0: slot 22 := Op.load 23 (Operand.tmp 1)
          intro a w hR F
          have e1 : a.eval (.tmp 1) = .pointer (some ⟨w0.heap.size, 0, none⟩) := F.old 1 (by kernel_rfl)
          exact ok_load _ _ rfl (wanted_none rfl) e1 ((HeldV.new w0 3 n s _).rb hR).load ⟨Rb.refl _, rfl⟩
        refine Owed.cons ?_ ?_
        · -- 1: slot 23 := Op.fieldAddr 23 (Operand.tmp 1) 2
          intro a w hR F
          have e1 : a.eval (.tmp 1) = .pointer (some ⟨w0.heap.size, 0, none⟩) := F.old 1 (by kernel_rfl)
          exact ok_field _ 2 _ (by decide) rfl (wanted_none rfl) e1 ⟨Rb.refl _, rfl⟩
        refine Owed.cons ?_ ?_
        · -- 2: slot 24 := Op.load 9 (Operand.tmp 23)
          intro a w hR F
          have e23 : a.eval (.tmp 23) = .pointer (some ⟨w0.heap.size, 2, none⟩) := F.new 1 23 (by kernel_rfl)
          exact ok_load _ _ rfl (wanted_none rfl) e23 ((HeldV.new w0 3 n s _).rb hR).f2 ⟨Rb.refl _, rfl⟩
        refine Owed.cons ?_ ?_
        · -- 3: slot 25 := Op.call { callee := Callee.value (Operand.func 22), args := #[Operand.tmp 24], argTypes := #[9] }
          intro a w hR F
          have e24 : a.eval (.tmp 24) = .string (s) := F.new 2 24 (by kernel_rfl)
          refine ok_call 121 _ _ #[.string (s)] rfl (wanted_none rfl) (by simp [e24]) (Tryz.call121 _ _) ?_
          exact val_call_below (vtext_any s w)
        refine Owed.cons ?_ ?_
        · -- 4: slot 26 := Op.binOp BinOp.eql 23 (Operand.tmp 22) (Operand.tmp 25) 23
          intro a w hR F
          have e22 : a.eval (.tmp 22) = vv (3) (n) (s) := F.new 0 22 (by kernel_rfl)
          have e25 : a.eval (.tmp 25) = vv (3) (0) (s) := F.new 3 25 (by kernel_rfl)
          refine ok_bin _ _ _ _ _ rfl (wanted_none rfl) e22 e25 (run_eqlV _ _ _ _ _ _ _ _) ⟨Rb.refl _, ?_⟩
          exact congrArg Value.bool (right3a n s H0.out)
        refine Owed.cons ?_ ?_
        · -- 5: slot 27 := Op.move (Operand.tmp 26)
          intro a w hR F
          have e26 : a.eval (.tmp 26) = .bool false := F.new 4 26 (by kernel_rfl)
          exact ok_move _ rfl (wanted_none rfl) ⟨Rb.refl _, e26⟩
        refine Owed.cons ?_ ?_
        · -- 6: slot 28 := Op.fieldAddr 23 (Operand.tmp 1) 2
          intro a w hR F
          have e27 : a.eval (.tmp 27) = .bool false := F.new 5 27 (by kernel_rfl)
          exact ok_skip (wanted_false (j := 5) (d := 27) rfl (by kernel_rfl) e27) ⟨Rb.refl _, rfl⟩
        refine Owed.cons ?_ ?_
        · -- 7: slot 29 := Op.load 9 (Operand.tmp 28)
          intro a w hR F
          have e27 : a.eval (.tmp 27) = .bool false := F.new 5 27 (by kernel_rfl)
          exact ok_skip (wanted_false (j := 5) (d := 27) rfl (by kernel_rfl) e27) ⟨Rb.refl _, rfl⟩
        refine Owed.cons ?_ ?_
        · -- 8: slot 30 := Op.call { callee := Callee.value (Operand.func 34), args := #[Operand.tmp 29], argTypes := #[9] }
          intro a w hR F
          have e27 : a.eval (.tmp 27) = .bool false := F.new 5 27 (by kernel_rfl)
          exact ok_skip (wanted_false (j := 5) (d := 27) rfl (by kernel_rfl) e27) ⟨Rb.refl _, rfl⟩
        refine Owed.cons ?_ ?_
        · -- 9: slot 31 := Op.pick (Operand.tmp 27) (Operand.tmp 30) (Operand.const (Value.bool false))
          intro a w hR F
          have e27 : a.eval (.tmp 27) = .bool false := F.new 5 27 (by kernel_rfl)
          exact ok_pick _ _ _ false rfl (wanted_none rfl) e27 ⟨Rb.refl _, rfl⟩
        refine Owed.cons ?_ ?_
        · -- 10: slot 2 := Op.assign (Operand.tmp 31)
          intro a w hR F
          have e31 : a.eval (.tmp 31) = .bool false := F.new 9 31 (by kernel_rfl)
          exact ok_assign _ rfl (wanted_none rfl) ⟨Rb.refl _, e31⟩
        exact Owed.nil
      case fin =>
        intro y w2 hR hy
        have e10 : y 10 = .bool false := hy 10 _ rfl
        have HR := Lib.hid hR
        clear hy hR
        simp only [putAll, Act.put, List.setIfInBounds_toArray, List.set_cons_zero, List.set_cons_succ]
        rw [e10]
        go_wp2
        go_ret
        exact ⟨ret_bool (right3a_end n s H0.out), Below.trans ((Below.refl _ w0).alloc (Nat.le_refl _) _) (Below.mono HR.out (by simp))⟩
  · have Hr : Hid (false = rightB k n s.data.toList) := by
      show false = rightB k n s.data.toList
      unfold rightB; rw [if_neg h1, if_neg h2, if_neg h3]
    go_enter Tryz.func95, Tryz.ntmps95
    go_wp2
    go_ret
    exact ⟨ret_bool Hr.out, (Below.refl _ _).alloc (Nat.le_refl _) _⟩
end Go.Proofs.YtjfpeklfgnajoaaGreat

namespace Go.Proofs.YtjfpeklfgnajoaaGreat
open Go.ChangeShapes Go.WideShapes Go.ChangeAt Go.RowKit Oct By Reg Val

def AllOk (l : List UInt8) : Prop := l.all okB = true
set_option maxRecDepth 100000 in
theorem refright_any (k n : Int) (s : ByteArray) (w : World) (hs : s.size ≤ maxLen) :
    Calls Tryz.prog 116 #[vv k n s] w fun e w' => e = .returned (.bool (rightB k n s.data.toList)) ∧ Below w.heap.size w w' := by
  have hb := (Below.refl w.heap.size w).alloc (Nat.le_refl _) (.cells #[.int .i64 k, .int .i64 n, .string s] 60)
  have hem := empty_iff s
  by_cases h1 : k = 1
  · subst h1
    have Hr : Hid ((s.toList == (⟨#[]⟩ : ByteArray).toList) = rightB 1 n s.data.toList) := by
      show (s.toList == (⟨#[]⟩ : ByteArray).toList) = rightB 1 n s.data.toList
      unfold rightB; rw [hem, if_pos rfl]
    have Hb := Lib.hid hb; clear hb hem
    go_enter Tryz.func116, Tryz.ntmps116
    go_wp2
    go_ret
    exact ⟨ret_bool (by rw [← Hr.out]; rw [Bool.eq_iff_iff]; simp), Hb.out⟩
  by_cases h2 : k = 2
  · subst h2
    clear h1
    have Hr : Hid (((s.toList == (⟨#[]⟩ : ByteArray).toList) && decide (0 ≤ n ∧ n ≤ 1)) = rightB 2 n s.data.toList) := by
      show ((s.toList == (⟨#[]⟩ : ByteArray).toList) && decide (0 ≤ n ∧ n ≤ 1)) = rightB 2 n s.data.toList
      unfold rightB; rw [hem, if_neg (by decide), if_pos rfl]
    have Hb := Lib.hid hb; clear hb hem
    go_enter Tryz.func116, Tryz.ntmps116
    go_wp2
    all_goals
      go_ret
      subst_vars
      refine ⟨ret_bool ?_, Hb.out⟩
      rw [← Hr.out, Bool.eq_iff_iff]
      simp_all
      try omega
  · have Hb := Lib.hid hb; clear hb hem
    unfold maxLen at hs
    have Hlen := Lib.hid (show s.data.toList.length = s.size from Array.length_toList)
    go_enter Tryz.func116, Tryz.ntmps116
    go_wp2
    go_loop [3] (fun i => ∃ j : Nat, j ≤ s.size ∧ i = .int .i64 j ∧ AllOk (s.data.toList.take j)) (fun i => s.size - (intOf i).toNat)
    case atStart => exact ⟨0, Nat.zero_le _, rfl, rfl⟩
    case round =>
      obtain ⟨j, hk, rfl, ha⟩ := hrel
      by_cases hlt : j < s.size
      · have hl : j < s.data.toList.length := by rw [Hlen.out]; exact hlt
        have hgd : s.data.toList.getD j 0 = s[j] := by
          rw [List.getD_eq_getElem?_getD, List.getElem?_eq_getElem hl]; rfl
        by_cases hok : okB s[j] = true
        · have hok' := hok
          unfold okB at hok'
          simp only [Bool.and_eq_true, decide_eq_true_eq] at hok'
          obtain ⟨h1, h2⟩ := hok'
          have ha' : AllOk (s.data.toList.take (j + 1)) := by
            show (s.data.toList.take (j + 1)).all okB = true
            rw [all_take_succ hl, show (s.data.toList.take j).all okB = true from ha, hgd, hok]; rfl
          clear hok ha hgd
          go_wp2
          go_round
          case rel => exact ⟨j + 1, by omega, by go_num, ha'⟩
          case measure => simp [intOf]; omega
        · have Hr : Hid (false = rightB k n s.data.toList) := by
            show false = rightB k n s.data.toList
            unfold rightB rightTextB
            rw [if_neg h1, if_neg h2, all_false_of hl (by rw [hgd]; exact Bool.eq_false_iff.2 hok), Bool.and_false, Bool.and_false]
            simp
          have hok' := hok
          unfold okB at hok'
          simp only [Bool.and_eq_true, decide_eq_true_eq] at hok'
          clear hok ha hgd
          by_cases h1 : s[j].toNat < 32
          · clear hok'
            go_wp2
            go_ret
            exact ⟨ret_bool Hr.out, Hb.out⟩
          · have h2 : 126 < s[j].toNat := by omega
            clear hok'
            go_wp2
            go_ret
            exact ⟨ret_bool Hr.out, Hb.out⟩
      · have Hr : Hid ((decide (k = 3) && (decide (n = 0) && decide (s.size ≤ 32))) = rightB k n s.data.toList) := by
          show (decide (k = 3) && (decide (n = 0) && decide (s.size ≤ 32))) = rightB k n s.data.toList
          have h : (s.data.toList.take j).all okB = true := ha
          rw [List.take_of_length_le (by rw [Hlen.out]; omega)] at h
          unfold rightB rightTextB
          rw [if_neg h1, if_neg h2, Hlen.out, h]
          by_cases h3 : k = 3 <;> simp [h3]
        clear ha
        go_wp2
        all_goals
          go_ret
          subst_vars
          refine ⟨ret_bool ?_, Hb.out⟩
          rw [← Hr.out, Bool.eq_iff_iff]
          simp [*]
          try omega

theorem righttype_any (k m : Int) (w : World) :
    Calls Tryz.prog 96 #[tv k m] w fun e w' => e = .returned (.bool (rightTypeB k m)) ∧ Below w.heap.size w w' := by
  have hb := (Below.refl w.heap.size w).alloc (Nat.le_refl _) (.cells #[.int .i64 k, .int .i64 m] 86)
  have Hb := Lib.hid hb; clear hb
  by_cases h1 : k = 1
  · subst h1
    go_enter Tryz.func96, Tryz.ntmps96
    go_wp2
    all_goals
      go_ret
      subst_vars
      refine ⟨ret_bool ?_, Hb.out⟩
      unfold rightTypeB
      simp [*]
      try omega
  by_cases h2 : k = 2
  · subst h2
    clear h1
    go_enter Tryz.func96, Tryz.ntmps96
    go_wp2
    all_goals
      go_ret
      subst_vars
      refine ⟨ret_bool ?_, Hb.out⟩
      unfold rightTypeB
      simp [*]
      try omega
  by_cases h3 : k = 3
  · subst h3
    clear h1 h2
    go_enter Tryz.func96, Tryz.ntmps96
    go_wp2
    all_goals
      go_ret
      subst_vars
      refine ⟨ret_bool ?_, Hb.out⟩
      unfold rightTypeB
      simp [*]
      try omega
  · go_enter Tryz.func96, Tryz.ntmps96
    go_wp2
    go_ret
    exact ⟨ret_bool (by unfold rightTypeB; rw [if_neg (by omega), if_neg h3]), Hb.out⟩

theorem refrighttype_any (k m : Int) (w : World) :
    Calls Tryz.prog 80 #[tv k m] w fun e w' => e = .returned (.bool (rightTypeB k m)) ∧ Below w.heap.size w w' := by
  have hb := (Below.refl w.heap.size w).alloc (Nat.le_refl _) (.cells #[.int .i64 k, .int .i64 m] 86)
  have Hb := Lib.hid hb; clear hb
  by_cases h1 : k = 1
  · subst h1
    go_enter Tryz.func80, Tryz.ntmps80
    go_wp2
    all_goals
      go_ret
      subst_vars
      refine ⟨ret_bool ?_, Hb.out⟩
      unfold rightTypeB
      first | (simp [*]; done) | (simp [*]; omega) | (rw [Bool.eq_iff_iff]; simp [*]; omega)
  by_cases h2 : k = 2
  · subst h2
    clear h1
    go_enter Tryz.func80, Tryz.ntmps80
    go_wp2
    all_goals
      go_ret
      subst_vars
      refine ⟨ret_bool ?_, Hb.out⟩
      unfold rightTypeB
      first | (simp [*]; done) | (simp [*]; omega) | (rw [Bool.eq_iff_iff]; simp [*]; omega)
  by_cases h3 : k = 3
  · subst h3
    clear h1 h2
    go_enter Tryz.func80, Tryz.ntmps80
    go_wp2
    all_goals
      go_ret
      subst_vars
      refine ⟨ret_bool ?_, Hb.out⟩
      unfold rightTypeB
      first | (simp [*]; done) | (simp [*]; omega) | (rw [Bool.eq_iff_iff]; simp [*]; omega)
  · go_enter Tryz.func80, Tryz.ntmps80
    go_wp2
    all_goals
      go_ret
      subst_vars
      refine ⟨ret_bool ?_, Hb.out⟩
      unfold rightTypeB
      simp [*]

end Go.Proofs.YtjfpeklfgnajoaaGreat

namespace Go.Proofs.YtjfpeklfgnajoaaGreat
open Go.ChangeShapes Go.WideShapes Go.ChangeAt Go.RowKit Oct By Reg Val

theorem bcell {W w1 : World} (hb : Below W.heap.size W w1) : (∀ b o, b < W.heap.size → w1.cell? ⟨b, o, none⟩ = W.cell? ⟨b, o, none⟩) ∧ (∀ b o, b < W.heap.size → w1.frozen? ⟨b, o, none⟩ = W.frozen? ⟨b, o, none⟩) :=
  ⟨fun b o h => hb.cell (p := ⟨b, o, none⟩) h, fun b o h => hb.frozen (p := ⟨b, o, none⟩) h⟩

set_option maxRecDepth 100000 in
theorem zero_any (k m : Int) (w : World) :
    Calls Tryz.prog 77 #[tv k m] w fun e w' => e = .returned (vv (if rightTypeB k m = true then k else 0) 0 ⟨#[]⟩) ∧ Below w.heap.size w w' := by
  have c := fun w => righttype_any k m w
  cases hr : rightTypeB k m
  · rw [hr] at c
    have C := Lib.hid c; clear c hr
    go_enter Tryz.func77, Tryz.ntmps77
    go_wp2_with fail
    refine (C.out _).mono ?_
    rintro e w' ⟨rfl, hb⟩
    obtain ⟨hc, hf⟩ := bcell hb
    have HB := Lib.hid hb; clear hb
    go_wp2
    refine bodyPost_ret (v := vv 0 0 ⟨#[]⟩) (by simp [results, Tryz.results77, go_sem, hc]) rfl ⟨rfl, ?_⟩
    exact Below.setCell (Below.setCell (Below.setCell ((((Below.refl _ _).alloc (Nat.le_refl _) _).alloc (by simp) _).trans (HB.out.mono (by simp; omega))) (by simp) _) (by simp) _) (by simp) _
  · rw [hr] at c
    have C := Lib.hid c; clear c hr
    go_enter Tryz.func77, Tryz.ntmps77
    go_wp2_with fail
    refine (C.out _).mono ?_
    rintro e w' ⟨rfl, hb⟩
    obtain ⟨hc, hf⟩ := bcell hb
    have HB := Lib.hid hb; clear hb
    go_wp2
    refine bodyPost_ret (v := vv k 0 ⟨#[]⟩) (by simp [results, Tryz.results77, go_sem, hc]) rfl ⟨rfl, ?_⟩
    exact Below.setCell (Below.setCell (Below.setCell ((((Below.refl _ _).alloc (Nat.le_refl _) _).alloc (by simp) _).trans (HB.out.mono (by simp; omega))) (by simp) _) (by simp) _) (by simp) _

set_option maxRecDepth 100000 in
theorem refzero_any (k m : Int) (w : World) :
    Calls Tryz.prog 76 #[tv k m] w fun e w' => e = .returned (vv (if rightTypeB k m = true then k else 0) 0 ⟨#[]⟩) ∧ Below w.heap.size w w' := by
  have c := fun w => refrighttype_any k m w
  cases hr : rightTypeB k m
  · rw [hr] at c
    have C := Lib.hid c; clear c hr
    go_enter Tryz.func76, Tryz.ntmps76
    go_wp2_with fail
    refine (C.out _).mono ?_
    rintro e w' ⟨rfl, hb⟩
    obtain ⟨hc, hf⟩ := bcell hb
    have HB := Lib.hid hb; clear hb
    go_wp2
    refine bodyPost_ret (v := vv 0 0 ⟨#[]⟩) (by simp [results, Tryz.results76, go_sem, hc]) rfl ⟨rfl, ?_⟩
    exact Below.setCell (Below.setCell (Below.setCell (((((Below.refl _ _).alloc (Nat.le_refl _) _).alloc (by simp) _).alloc (by simp; omega) _).trans (HB.out.mono (by simp; omega))) (by simp) _) (by simp) _) (by simp) _
  · rw [hr] at c
    have C := Lib.hid c; clear c hr
    go_enter Tryz.func76, Tryz.ntmps76
    go_wp2_with fail
    refine (C.out _).mono ?_
    rintro e w' ⟨rfl, hb⟩
    obtain ⟨hc, hf⟩ := bcell hb
    have HB := Lib.hid hb; clear hb
    go_wp2
    refine bodyPost_ret (v := vv k 0 ⟨#[]⟩) (by simp [results, Tryz.results76, go_sem, hc]) rfl ⟨rfl, ?_⟩
    exact Below.setCell (Below.setCell (Below.setCell (Below.setCell (((((Below.refl _ _).alloc (Nat.le_refl _) _).alloc (by simp) _).alloc (by simp; omega) _).trans (HB.out.mono (by simp; omega))) (by simp; omega) _) (by simp) _) (by simp) _) (by simp) _

theorem fits_end {k n m : Int} {s : ByteArray} (h1 : rightB k n s.data.toList = true) (h2 : rightTypeB k m = true) : decide ((s.size : Int) ≤ m) = fitsB k n s.data.toList k m := by
  have hlen : s.data.toList.length = s.size := Array.length_toList
  unfold fitsB
  rw [h1, h2, hlen]
  by_cases h3 : k = 3
  · simp [h3]
  · have hl : s.size = 0 := by
      rw [← hlen]
      generalize s.data.toList = l at h1
      have hl : l.isEmpty = true := by
        unfold rightB at h1
        split at h1
        · exact h1
        · split at h1
          · rw [Bool.and_eq_true] at h1; exact h1.1
          · simp at h1
      rw [List.isEmpty_iff.1 hl]; rfl
    have hm : m = 0 := by
      unfold rightTypeB at h2
      rw [if_neg h3] at h2
      split at h2
      · simpa using h2
      · cases h2
    simp [h3, hl, hm]

set_option maxRecDepth 100000 in
theorem fits_any (k n : Int) (s : ByteArray) (t m : Int) (w : World) (hs : s.size ≤ maxLen) :
    Calls Tryz.prog 70 #[vv k n s, tv t m] w fun e w' => e = .returned (.bool (fitsB k n s.data.toList t m)) ∧ Below w.heap.size w w' := by
  have c1 := fun w => right_any k n s w hs
  have c2 := fun w => righttype_any t m w
  cases hr : rightB k n s.data.toList
  · have hR := Lib.hid (show false = fitsB k n s.data.toList t m by unfold fitsB; rw [hr]; rfl)
    rw [hr] at c1
    have C1 := Lib.hid c1; clear c1 c2 hr
    go_enter Tryz.func70, Tryz.ntmps70
    go_wp2_with fail
    refine (C1.out _).mono ?_
    rintro e w' ⟨rfl, hb⟩
    have HB := Lib.hid hb; clear hb
    go_wp2
    go_ret
    exact ⟨ret_bool hR.out, (((Below.refl _ _).alloc (Nat.le_refl _) _).alloc (by simp) _).trans (HB.out.mono (by simp; omega))⟩
  rw [hr] at c1
  cases ht : rightTypeB t m
  · have hR := Lib.hid (show false = fitsB k n s.data.toList t m by unfold fitsB; rw [hr, ht]; rfl)
    rw [ht] at c2
    have C1 := Lib.hid c1; have C2 := Lib.hid c2; clear c1 c2 hr ht
    go_enter Tryz.func70, Tryz.ntmps70
    go_wp2_with fail
    refine (C1.out _).mono ?_
    rintro e w1 ⟨rfl, hb⟩
    obtain ⟨hc, hf⟩ := bcell hb
    have HB := Lib.hid hb; clear hb
    go_wp2_with fail
    refine (C2.out _).mono ?_
    rintro e w2 ⟨rfl, hb2⟩
    have HB2 := Lib.hid hb2; clear hb2
    have hz : w.heap.size + 2 ≤ w1.heap.size := by have := HB.out.size; simp at this; omega
    go_wp2
    go_ret
    exact ⟨ret_bool hR.out, ((((Below.refl _ _).alloc (Nat.le_refl _) _).alloc (by simp) _).trans (HB.out.mono (by simp; omega))).trans (HB2.out.mono (by omega))⟩
  rw [ht] at c2
  by_cases hk : k = t
  · subst hk
    have hR := Lib.hid (fits_end hr ht)
    have C1 := Lib.hid c1; have C2 := Lib.hid c2; clear c1 c2 hr ht
    go_enter Tryz.func70, Tryz.ntmps70
    go_wp2_with fail
    refine (C1.out _).mono ?_
    rintro e w1 ⟨rfl, hb⟩
    obtain ⟨hc, hf⟩ := bcell hb
    have HB := Lib.hid hb; clear hb
    go_wp2_with fail
    refine (C2.out _).mono ?_
    rintro e w2 ⟨rfl, hb2⟩
    obtain ⟨hc2, hf2⟩ := bcell hb2
    have HB2 := Lib.hid hb2; clear hb2
    have hz : w.heap.size + 2 ≤ w1.heap.size := by have := HB.out.size; simp at this; omega
    have e1 : w2.cell? ⟨w.heap.size, 0, none⟩ = some (.int .i64 k) := by rw [hc2 _ _ (by omega), hc _ _ (by simp; omega)]; simp
    have e2 : w2.cell? ⟨w.heap.size + 1, 0, none⟩ = some (.int .i64 k) := by rw [hc2 _ _ (by omega), hc _ _ (by simp)]; simp
    have e3 : w2.cell? ⟨w.heap.size, 2, none⟩ = some (.string s) := by rw [hc2 _ _ (by omega), hc _ _ (by simp; omega)]; simp
    have e4 : w2.cell? ⟨w.heap.size + 1, 1, none⟩ = some (.int .i64 m) := by rw [hc2 _ _ (by omega), hc _ _ (by simp)]; simp
    clear hc hf hc2 hf2
    go_wp2
    go_ret
    exact ⟨ret_bool hR.out, ((((Below.refl _ _).alloc (Nat.le_refl _) _).alloc (by simp) _).trans (HB.out.mono (by simp; omega))).trans (HB2.out.mono (by omega))⟩
  · have hR := Lib.hid (show false = fitsB k n s.data.toList t m by unfold fitsB; rw [hr, ht, decide_eq_false hk]; rfl)
    have C1 := Lib.hid c1; have C2 := Lib.hid c2; clear c1 c2 hr ht
    go_enter Tryz.func70, Tryz.ntmps70
    go_wp2_with fail
    refine (C1.out _).mono ?_
    rintro e w1 ⟨rfl, hb⟩
    obtain ⟨hc, hf⟩ := bcell hb
    have HB := Lib.hid hb; clear hb
    go_wp2_with fail
    refine (C2.out _).mono ?_
    rintro e w2 ⟨rfl, hb2⟩
    obtain ⟨hc2, hf2⟩ := bcell hb2
    have HB2 := Lib.hid hb2; clear hb2
    have hz : w.heap.size + 2 ≤ w1.heap.size := by have := HB.out.size; simp at this; omega
    have e1 : w2.cell? ⟨w.heap.size, 0, none⟩ = some (.int .i64 k) := by rw [hc2 _ _ (by omega), hc _ _ (by simp; omega)]; simp
    have e2 : w2.cell? ⟨w.heap.size + 1, 0, none⟩ = some (.int .i64 t) := by rw [hc2 _ _ (by omega), hc _ _ (by simp)]; simp
    clear hc hf hc2 hf2
    go_wp2
    go_ret
    exact ⟨ret_bool hR.out, ((((Below.refl _ _).alloc (Nat.le_refl _) _).alloc (by simp) _).trans (HB.out.mono (by simp; omega))).trans (HB2.out.mono (by omega))⟩
set_option maxRecDepth 100000 in
theorem reffits_any (k n : Int) (s : ByteArray) (t m : Int) (w : World) (hs : s.size ≤ maxLen) :
    Calls Tryz.prog 87 #[vv k n s, tv t m] w fun e w' => e = .returned (.bool (fitsB k n s.data.toList t m)) ∧ Below w.heap.size w w' := by
  have c1 := fun w => refright_any k n s w hs
  have c2 := fun w => refrighttype_any t m w
  cases hr : rightB k n s.data.toList
  · have hR := Lib.hid (show false = fitsB k n s.data.toList t m by unfold fitsB; rw [hr]; rfl)
    rw [hr] at c1
    have C1 := Lib.hid c1; clear c1 c2 hr
    go_enter Tryz.func87, Tryz.ntmps87
    go_wp2_with fail
    refine (C1.out _).mono ?_
    rintro e w' ⟨rfl, hb⟩
    have HB := Lib.hid hb; clear hb
    go_wp2
    go_ret
    exact ⟨ret_bool hR.out, (((Below.refl _ _).alloc (Nat.le_refl _) _).alloc (by simp) _).trans (HB.out.mono (by simp; omega))⟩
  rw [hr] at c1
  cases ht : rightTypeB t m
  · have hR := Lib.hid (show false = fitsB k n s.data.toList t m by unfold fitsB; rw [hr, ht]; rfl)
    rw [ht] at c2
    have C1 := Lib.hid c1; have C2 := Lib.hid c2; clear c1 c2 hr ht
    go_enter Tryz.func87, Tryz.ntmps87
    go_wp2_with fail
    refine (C1.out _).mono ?_
    rintro e w1 ⟨rfl, hb⟩
    obtain ⟨hc, hf⟩ := bcell hb
    have HB := Lib.hid hb; clear hb
    go_wp2_with fail
    refine (C2.out _).mono ?_
    rintro e w2 ⟨rfl, hb2⟩
    have HB2 := Lib.hid hb2; clear hb2
    have hz : w.heap.size + 2 ≤ w1.heap.size := by have := HB.out.size; simp at this; omega
    go_wp2
    go_ret
    exact ⟨ret_bool hR.out, ((((Below.refl _ _).alloc (Nat.le_refl _) _).alloc (by simp) _).trans (HB.out.mono (by simp; omega))).trans (HB2.out.mono (by omega))⟩
  rw [ht] at c2
  by_cases hk : k = t
  · subst hk
    have hR := Lib.hid (show (decide (k ≠ 3) || decide ((s.size : Int) ≤ m)) = fitsB k n s.data.toList k m by unfold fitsB; rw [hr, ht, show s.data.toList.length = s.size from Array.length_toList]; simp)
    have C1 := Lib.hid c1; have C2 := Lib.hid c2; clear c1 c2 hr ht
    go_enter Tryz.func87, Tryz.ntmps87
    go_wp2_with fail
    refine (C1.out _).mono ?_
    rintro e w1 ⟨rfl, hb⟩
    obtain ⟨hc, hf⟩ := bcell hb
    have HB := Lib.hid hb; clear hb
    go_wp2_with fail
    refine (C2.out _).mono ?_
    rintro e w2 ⟨rfl, hb2⟩
    obtain ⟨hc2, hf2⟩ := bcell hb2
    have HB2 := Lib.hid hb2; clear hb2
    have hz : w.heap.size + 2 ≤ w1.heap.size := by have := HB.out.size; simp at this; omega
    have e1 : w2.cell? ⟨w.heap.size, 0, none⟩ = some (.int .i64 k) := by rw [hc2 _ _ (by omega), hc _ _ (by simp; omega)]; simp
    have e2 : w2.cell? ⟨w.heap.size + 1, 0, none⟩ = some (.int .i64 k) := by rw [hc2 _ _ (by omega), hc _ _ (by simp)]; simp
    have e3 : w2.cell? ⟨w.heap.size, 2, none⟩ = some (.string s) := by rw [hc2 _ _ (by omega), hc _ _ (by simp; omega)]; simp
    have e4 : w2.cell? ⟨w.heap.size + 1, 1, none⟩ = some (.int .i64 m) := by rw [hc2 _ _ (by omega), hc _ _ (by simp)]; simp
    clear hc hf hc2 hf2
    have HE := Lib.hid (show Below w.heap.size w w2 from ((((Below.refl _ _).alloc (Nat.le_refl _) _).alloc (by simp) _).trans (HB.out.mono (by simp; omega))).trans (HB2.out.mono (by omega)))
    by_cases h3 : k = 3
    · subst h3
      go_wp2
      go_ret
      exact ⟨ret_bool (by rw [← hR.out]; simp), HE.out⟩
    · go_wp2
      go_ret
      exact ⟨ret_bool (by rw [← hR.out]; simp [h3]), HE.out⟩
  · have hR := Lib.hid (show false = fitsB k n s.data.toList t m by unfold fitsB; rw [hr, ht, decide_eq_false hk]; rfl)
    have C1 := Lib.hid c1; have C2 := Lib.hid c2; clear c1 c2 hr ht
    go_enter Tryz.func87, Tryz.ntmps87
    go_wp2_with fail
    refine (C1.out _).mono ?_
    rintro e w1 ⟨rfl, hb⟩
    obtain ⟨hc, hf⟩ := bcell hb
    have HB := Lib.hid hb; clear hb
    go_wp2_with fail
    refine (C2.out _).mono ?_
    rintro e w2 ⟨rfl, hb2⟩
    obtain ⟨hc2, hf2⟩ := bcell hb2
    have HB2 := Lib.hid hb2; clear hb2
    have hz : w.heap.size + 2 ≤ w1.heap.size := by have := HB.out.size; simp at this; omega
    have e1 : w2.cell? ⟨w.heap.size, 0, none⟩ = some (.int .i64 k) := by rw [hc2 _ _ (by omega), hc _ _ (by simp; omega)]; simp
    have e2 : w2.cell? ⟨w.heap.size + 1, 0, none⟩ = some (.int .i64 t) := by rw [hc2 _ _ (by omega), hc _ _ (by simp)]; simp
    clear hc hf hc2 hf2
    go_wp2
    go_ret
    exact ⟨ret_bool hR.out, ((((Below.refl _ _).alloc (Nat.le_refl _) _).alloc (by simp) _).trans (HB.out.mono (by simp; omega))).trans (HB2.out.mono (by omega))⟩
end Go.Proofs.YtjfpeklfgnajoaaGreat
