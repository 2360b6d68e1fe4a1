/-
  Words for slices of bytes: what a value reads as in a world ('Bs'), a slice to which one appends ('Full': no room left, or a row of the call's own), and the laws of append and conversion in these words.
-/
import Derived.WalkKit
import Derived.Below
import Derived.ArgAppend
import Derived.Deep.Onto
import Derived.Lib.AppendStr
import Derived.Laws.BytesArg
import Derived.Lib.ConvBytes
import Derived.Laws.AppendOwnNone
import Derived.Laws.Slices
namespace Go.Proofs.YtolfeellcdoopaaDoor.By
open Go Go.RowKit

def c8 (x : UInt8) : Value := .int .u8 (x.toNat : Int)
theorem c8_one {xs : List UInt8} : ∀ u ∈ xs.map c8, u.oneCell' = true := fun u h => by
  obtain ⟨x, _, rfl⟩ := List.mem_map.1 h; rfl

/-- In the world w the value is a slice of the bytes xs. -/
def Bs (w : World) (v : Value) (xs : List UInt8) : Prop :=
  ∃ (ao : Option Addr) (cap : Nat), v = .slice ao xs.length cap ∧ xs.length ≤ cap ∧ cap ≤ maxLen ∧ (ao = none → cap = 0) ∧ ∀ ad, ao = some ad → ∀ j u, (xs.map c8)[j]? = some u → w.cell? (ad.add j) = some u

theorem Bs.below {w w' : World} {v : Value} {xs : List UInt8} (hb : Below w.heap.size w w') (h : Bs w v xs) : Bs w' v xs := by
  obtain ⟨ao, cap, h1, h2, h3, h4, h5⟩ := h
  refine ⟨ao, cap, h1, h2, h3, h4, fun ad ha j u hu => ?_⟩
  have h := h5 ad ha j u hu
  rw [hb.cell (World.block_lt_of_cell? w _ h)]
  exact h

theorem Bs.nil (w : World) : Bs w (.slice none 0 0) [] := ⟨none, 0, rfl, Nat.le_refl _, Nat.zero_le _, fun _ => rfl, fun _ h => by cases h⟩

theorem Bs.drew {w : World} {v : Value} {xs : List UInt8} (h : Bs w v xs) : Bs w.drew v xs := h.below ((Below.refl _ w).drew)

/-- A slice to which an append makes a row of the call's own: no room is left, or it is such a row already. -/
def Full (w : World) (B : Nat) (e : TypeId) (size : Nat) (v : Value) (n : Nat) (olds : List Value) : Prop :=
  (∃ ao, v = .slice ao n n ∧ (ao = none → n = 0) ∧ olds.length = n * size ∧ ∀ ad, ao = some ad → ∀ j u, olds[j]? = some u → w.cell? (ad.add j) = some u) ∨ w.ownsRow B e size v n olds

theorem Full.own {w : World} {B : Nat} {e : TypeId} {size : Nat} {v : Value} {n : Nat} {olds : List Value} (h : w.ownsRow B e size v n olds) : Full w B e size v n olds := .inr h
theorem Full.bs {w : World} {B : Nat} {e : TypeId} {ao : Option Addr} {xs : List UInt8} (h : Bs w (.slice ao xs.length xs.length) xs) : Full w B e 1 (.slice ao xs.length xs.length) xs.length (xs.map c8) := by
  obtain ⟨ao', cap, h1, h2, h3, h4, h5⟩ := h
  simp only [Value.slice.injEq] at h1
  obtain ⟨rfl, _, rfl⟩ := h1
  exact .inl ⟨ao, rfl, h4, by simp, h5⟩

theorem Full.alloc {w : World} {B : Nat} {e : TypeId} {size : Nat} {v : Value} {n : Nat} {olds : List Value} (h : Full w B e size v n olds) (o : Obj) : Full (w.alloc o) B e size v n olds := by
  rcases h with ⟨ao, h1, h2, h3, h4⟩ | h
  · refine .inl ⟨ao, h1, h2, h3, fun ad ha j u hu => ?_⟩
    have hc := h4 ad ha j u hu
    rw [World.cell?_alloc_lt _ _ _ (World.block_lt_of_cell? w _ hc)]
    exact hc
  · exact .inr (h.alloc o)

section
variable {P : Program} (w : World) {ops : Array Oper} {rest : List Oper} {o : Oper} {a : Act} {Q : Exit → Act → World → Prop}

/-- ONE LAW FOR BOTH: append to a full slice, or to a row of the call's own. -/
theorem wpList_append_fo (hg : o.guard = none) (s x : Operand) (t : TypeId) (hop : o.op = Op.call { callee := Callee.builtin Builtin.append, args := #[s, x], argTypes := #[t, t] })
    (e : TypeId) (i : TypeInfo) (z : Value) (size bytes : Nat) (h1 : P.underlying t = some (.slice e)) (h2 : P.info? e = some i) (h3 : i.zero = some z) (h4 : i.size = size) (h5 : i.bytes = bytes) (h6 : z.cells.size = size) (h7 : 0 < size)
    (B : Nat) (v : Value) (n : Nat) (olds : List Value) (hs : a.eval s = v) (hf : Full w B e size v n olds)
    (ad : Addr) (m c : Nat) (news : List Value) (hx : a.eval x = .slice (some ad) m c) (hn : news.length = m * size) (hc : ∀ j u, news[j]? = some u → w.cell? (ad.add j) = some u) (h1c : ∀ u ∈ news, u.oneCell' = true)
    (hm : 0 < m) (b1 : n + m ≤ maxLen) (b2 : (n + m) * bytes ≤ 140737488355328) (hB : B ≤ w.heap.size)
    (hK : ∀ v' w', w'.ownsRow B e size v' (n + m) (olds ++ news) → Below B w w' → wpList P ops Q rest (a.put o.dst v') w') :
    wpList P ops Q (o :: rest) a w := by
  rcases hf with ⟨ao, rfl, e2, e3, e4⟩ | hown
  · refine wpList_append_grows w hg s x t hop e i z size bytes h1 h2 h3 h4 h5 h6 h7 ao n n olds hs (fun h => ⟨e2 h, e2 h⟩) e3 e4 ad m c news hx hn hc h1c (by omega) b1 b2 (fun v' w' r1 r2 => ?_)
    exact hK v' w' (r1.mono hB) ((Below.refl B w).grown r2 hB (fun k hk => by cases hk))
  · refine wpList_append_own w hg s x t hop B e i z size bytes h1 h2 h3 h4 h5 h6 h7 v n olds hs hown ad m c news hx hn hc h1c b1 b2 hB (fun v' w' r1 r2 _ => ?_)
    exact hK v' w' r1 ((Below.refl B w).grown r2 hB (fun k hk => (hown.lt k hk).1))
end

theorem Bs.of_owns {w : World} {B : Nat} {e : TypeId} {v : Value} {n : Nat} {xs : List UInt8} (h : w.ownsRow B e 1 v n (xs.map c8)) : Bs w v xs := by
  have h0 := h
  obtain ⟨hl, hv⟩ := h
  simp at hl
  subst hl
  rcases hv with ⟨rfl, h2⟩ | ⟨g, cap, cur, rfl, h2, h3, h4, h5, h6, h7⟩
  · rw [List.eq_nil_of_length_eq_zero h2]; exact Bs.nil w
  · exact ⟨_, cap, rfl, h4, h5, (fun h => by cases h), fun ad ha j u hu => (by cases ha; exact h0.cells rfl j u hu)⟩

/-- a byte of a list, as a number -/
def bt (xs : List UInt8) (k : Nat) : Nat := (xs.getD k 0).toNat
theorem bt_lt (xs : List UInt8) (k : Nat) : bt xs k < 256 := UInt8.toNat_lt _

theorem Bs.form {w : World} {v : Value} {xs : List UInt8} (h : Bs w v xs) (hn : 0 < xs.length) :
    ∃ b o cap, v = .slice (some ⟨b, o, none⟩) xs.length cap ∧ xs.length ≤ cap ∧ cap ≤ maxLen ∧ ∀ k, k < xs.length → w.cell? ⟨b, o + k, none⟩ = some (.int .u8 (bt xs k : Int)) := by
  obtain ⟨ao, cap, rfl, h2, h3, h4, h5⟩ := h
  cases ao with
  | none => have := h4 rfl; omega
  | some ad =>
    obtain ⟨b, o, spot⟩ := ad
    have h0 := h5 _ rfl 0 (c8 xs[0]) (by simp [hn])
    have hs : spot = none := by simpa [Addr.add] using World.cell?_spot h0
    subst hs
    refine ⟨b, o, cap, rfl, h2, h3, fun k hk => ?_⟩
    have hc := h5 _ rfl k (c8 xs[k]) (by simp [hk])
    have hadd : (⟨b, o, none⟩ : Addr).add k = ⟨b, o + k, none⟩ := by unfold Addr.add; split <;> simp_all
    rw [hadd] at hc
    rw [hc, bt, List.getD_eq_getElem?_getD, List.getElem?_eq_getElem hk]
    rfl
theorem Bs.len {w : World} {v : Value} {xs : List UInt8} (h : Bs w v xs) : ∃ ao cap, v = .slice ao xs.length cap ∧ xs.length ≤ cap ∧ cap ≤ maxLen := by
  obtain ⟨ao, cap, rfl, h2, h3, _⟩ := h
  exact ⟨ao, cap, rfl, h2, h3⟩
theorem Bs.mk {w : World} {b o cap : Nat} {xs : List UInt8} (h2 : xs.length ≤ cap) (h3 : cap ≤ maxLen) (h : ∀ k, k < xs.length → w.cell? ⟨b, o + k, none⟩ = some (.int .u8 (bt xs k : Int))) : Bs w (.slice (some ⟨b, o, none⟩) xs.length cap) xs := by
  refine ⟨_, cap, rfl, h2, h3, (fun h => by cases h), fun ad ha k u hu => ?_⟩
  cases ha
  rw [List.getElem?_map] at hu
  obtain ⟨x, hx, rfl⟩ := Option.map_eq_some_iff.1 hu
  have hk : k < xs.length := (List.getElem?_eq_some_iff.1 hx).1
  have hadd : (⟨b, o, none⟩ : Addr).add k = ⟨b, o + k, none⟩ := by unfold Addr.add; split <;> simp_all
  rw [hadd, h k hk, bt, List.getD_eq_getElem?_getD, hx]
  rfl

theorem Bs.marked (w : World) (e : TypeId) (m : Nat × Nat) (xs : List UInt8) (hl : xs.length ≤ maxLen) : Bs (w.alloc (.cells (xs.map c8).toArray e m)) (.slice (some ⟨w.heap.size, 0, none⟩) xs.length xs.length) xs :=
  Bs.mk (Nat.le_refl _) hl fun k hk => by
    rw [Nat.zero_add, World.cell?_alloc_mark, bt, List.getD_eq_getElem?_getD]
    simp [hk, c8]

theorem add_add (ad : Addr) (l j : Nat) : (ad.add l).add j = ad.add (l + j) := by
  unfold Addr.add
  by_cases hl : l = 0
  · subst hl; simp
  · by_cases hj : j = 0
    · subst hj; simp
    · rw [if_neg hj, if_neg hl, if_neg (by omega)]
      simp [Nat.add_assoc]

/-- a part of it -/
theorem Bs.sub {w : World} {ao : Option Addr} {n cap : Nat} {X : List UInt8} (hb : Bs w (.slice ao n cap) X) (l h : Nat) (h1 : l ≤ h) (h2 : h ≤ X.length) : Bs w (sliced ao l h cap 1) ((X.drop l).take (h - l)) := by
  obtain ⟨ao', cap', e, e2, e3, e4, e5⟩ := hb
  simp only [Value.slice.injEq] at e
  obtain ⟨rfl, rfl, rfl⟩ := e
  have hlen : ((X.drop l).take (h - l)).length = h - l := by rw [List.length_take, List.length_drop]; omega
  unfold sliced
  rw [Nat.mul_one]
  refine ⟨_, cap - l, by rw [hlen], by omega, by omega, fun hn => ?_, fun ad ha j u hu => ?_⟩
  · by_cases hc : cap = l
    · omega
    · rw [if_neg hc] at hn
      cases ao with
      | none => have := e4 rfl; omega
      | some a => simp at hn
  · have hj : j < h - l := by
      rw [← hlen]
      simpa using (List.getElem?_eq_some_iff.1 hu).1
    by_cases hc : cap = l
    · omega
    · rw [if_neg hc] at ha
      cases ao with
      | none => simp at ha
      | some a =>
        simp at ha
        subst ha
        rw [add_add]
        refine e5 a rfl (l + j) u ?_
        rw [List.getElem?_map, List.getElem?_take, if_pos hj, List.getElem?_drop] at hu
        rw [List.getElem?_map]
        exact hu

theorem owns_form {w : World} {B : Nat} {e : TypeId} {s : Nat} {v : Value} {n : Nat} {xs : List Value} (h : w.ownsRow B e s v n xs) (hn : 0 < n) : ∃ g cap, v = .slice (some ⟨g, 0, none⟩) n cap := by
  rcases h.2 with ⟨_, h0⟩ | ⟨g, cap, _, rfl, _⟩
  · omega
  · exact ⟨g, cap, rfl⟩

theorem owns_below {w w' : World} {B : Nat} {e : TypeId} {s : Nat} {v : Value} {n : Nat} {xs : List Value} (h : w.ownsRow B e s v n xs) (hb : Below w.heap.size w w') : w'.ownsRow B e s v n xs := by
  have hlt := h.lt
  refine ⟨h.1, ?_⟩
  rcases h.2 with h0 | ⟨g, cap, cur, rfl, h2, h3, h4⟩
  · exact .inl h0
  · refine .inr ⟨g, cap, cur, rfl, h2, ?_, h4⟩
    rw [hb.block g (hlt g rfl).2]
    exact h3

/-- a literal: '[]byte{..}' -/
theorem owns_lit (w : World) (B : Nat) (e : TypeId) (xs : List UInt8) (hB : B ≤ w.heap.size) (hl : xs.length ≤ maxLen) : (w.alloc (.cells (xs.map c8).toArray e)).ownsRow B e 1 (.slice (some ⟨w.heap.size, 0, none⟩) xs.length xs.length) xs.length (xs.map c8) :=
  ⟨by simp, .inr ⟨w.heap.size, xs.length, _, rfl, hB, heap_alloc_new w _, Nat.le_refl _, hl, by simp, List.take_of_length_le (by simp)⟩⟩

theorem owns_new (w : World) (e : TypeId) (cs : List Value) (hl : cs.length ≤ maxLen) : (w.alloc (.cells cs.toArray e)).ownsRow w.heap.size e 1 (.slice (some ⟨w.heap.size, 0, none⟩) cs.length cs.length) cs.length cs :=
  ⟨by simp, .inr ⟨w.heap.size, cs.length, _, rfl, Nat.le_refl _, heap_alloc_new w _, Nat.le_refl _, hl, by simp, List.take_of_length_le (by simp)⟩⟩
theorem cells_new (w : World) (e : TypeId) (cs : List Value) (hl : cs.length ≤ maxLen) : ∀ j u, cs[j]? = some u → (w.alloc (.cells cs.toArray e)).cell? ((⟨w.heap.size, 0, none⟩ : Addr).add j) = some u :=
  (owns_new w e cs hl).cells rfl

theorem strCells_c8 (s : ByteArray) : Lib.strCells s = s.data.toList.map c8 := rfl

theorem bytesWorld_below (w : World) (e : TypeId) (s : ByteArray) : Below w.heap.size w (Lib.bytesWorld w e s) :=
  ⟨rfl, rfl, rfl, by rw [Lib.bytesWorld_size]; omega, fun k hk => Lib.bytesWorld_at_old w e s k hk⟩

theorem bytesWorld_cells (w : World) (e : TypeId) (s : ByteArray) : ∀ j u, (s.data.toList.map c8)[j]? = some u → (Lib.bytesWorld w e s).cell? ((⟨w.heap.size, 0, none⟩ : Addr).add j) = some u := by
  intro j u hu
  rw [List.getElem?_map] at hu
  obtain ⟨x, hx, rfl⟩ := Option.map_eq_some_iff.1 hu
  have hj : j < s.data.toList.length := (List.getElem?_eq_some_iff.1 hx).1
  have hadd : (⟨w.heap.size, 0, none⟩ : Addr).add j = ⟨w.heap.size, j, none⟩ := by unfold Addr.add; split <;> simp_all
  rw [hadd, Lib.bytesWorld_cell w e s j (show j < s.data.size from (Array.length_toList (xs := s.data)) ▸ hj), List.getD_eq_getElem?_getD, hx]
  rfl

/-- what a maker of bytes leaves: a row of its own with the bytes, and all that was there as it was -/
def Put (w : World) (E : TypeId) (xs : List UInt8) (e : Ending) (w' : World) : Prop :=
  ∃ g cap, e = .returned (.slice (some ⟨g, 0, none⟩) xs.length cap) ∧ w'.ownsRow w.heap.size E 1 (.slice (some ⟨g, 0, none⟩) xs.length cap) xs.length (xs.map c8) ∧ Below w.heap.size w w'

theorem Put.mk {w w' : World} {E : TypeId} {xs : List UInt8} {v : Value} (h : w'.ownsRow w.heap.size E 1 v xs.length (xs.map c8)) (hn : 0 < xs.length) (hb : Below w.heap.size w w') : Put w E xs (.returned v) w' := by
  obtain ⟨g, cap, rfl⟩ := owns_form h hn
  exact ⟨g, cap, rfl, h, hb⟩

section
variable {P : Program} (w : World) {ops : Array Oper} {rest : List Oper} {o : Oper} {a : Act} {Q : Exit → Act → World → Prop}
/-- append to a row of the call's own: any slice of bytes (nil, empty) as the source. -/
theorem wpList_append_bs (hg : o.guard = none) (s x : Operand) (t : TypeId) (hop : o.op = Op.call { callee := Callee.builtin Builtin.append, args := #[s, x], argTypes := #[t, t] })
    (B : Nat) (e : TypeId) (i : TypeInfo) (h1 : P.underlying t = some (.slice e)) (h2 : P.info? e = some i) (h3 : i.zero = some (.int .u8 0)) (h4 : i.size = 1) (h5 : i.bytes = 1)
    (v : Value) (xs : List UInt8) (hs : a.eval s = v) (hown : w.ownsRow B e 1 v xs.length (xs.map c8)) (v2 : Value) (ys : List UInt8) (hx : a.eval x = v2) (hb : Bs w v2 ys)
    (hl : xs.length + ys.length ≤ 100000000) (hB : B ≤ w.heap.size)
    (hK : ∀ v' w', w'.ownsRow B e 1 v' (xs ++ ys).length ((xs ++ ys).map c8) → Below B w w' → wpList P ops Q rest (a.put o.dst v') w') :
    wpList P ops Q (o :: rest) a w := by
  obtain ⟨ao, cap, rfl, e2, e3, e4, e5⟩ := hb
  cases ao with
  | some ad =>
    refine wpList_append_own w hg s x t hop B e i (.int .u8 0) 1 1 h1 h2 h3 h4 h5 rfl (by decide) v xs.length (xs.map c8) hs hown ad ys.length cap (ys.map c8) hx (by simp) (e5 ad rfl) c8_one (by unfold maxLen; omega) (by omega) hB (fun v' w' r1 r2 _ => ?_)
    exact hK v' w' (by rw [List.length_append, List.map_append]; exact r1) ((Below.refl B w).grown r2 hB (fun k hk => (hown.lt k hk).1))
  | none =>
    have hc := e4 rfl
    have h0 : ys.length = 0 := by omega
    have hy : ys = [] := List.eq_nil_of_length_eq_zero h0
    subst hy
    subst hc
    exact wpList_append_own_none hg s x t hop B e i 1 h1 h2 v xs.length (xs.map c8) hs hown hx (hK v w (by simpa using hown) (Below.refl _ _))
end

/-- A slice of bytes, as a string. -/
def str (xs : List UInt8) : ByteArray := ⟨xs.toArray⟩

theorem toList_str (xs : List UInt8) : (str xs).data.toList = xs := rfl
theorem str_size (xs : List UInt8) : (str xs).size = xs.length := by simp [str, ByteArray.size]
theorem str_append (xs ys : List UInt8) : str xs ++ str ys = str (xs ++ ys) := by
  apply ByteArray.ext
  simp [str, ByteArray.data_append]
theorem str_inj {xs ys : List UInt8} (h : str xs = str ys) : xs = ys := by
  have := congrArg (fun s : ByteArray => s.data.toList) h
  simpa [str] using this
theorem str_toList (s : ByteArray) : str s.data.toList = s := by
  apply ByteArray.ext
  simp [str]

theorem strOf_c8 (xs : List UInt8) : (xs.map fun x => (x.toNat : Int)).map (Value.int .u8) = xs.map c8 := by
  rw [List.map_map]; rfl

theorem run_convert_Bs {P : Program} {w : World} {v : Value} {xs : List UInt8} (h : Bs w v xs) (src e dst : TypeId) (hs : P.underlying src = some (.slice e)) (he : P.underlying e = some (.int .u8)) (hd : P.underlying dst = some .string) :
    (convert src dst v).run P w = .ok (.string (str xs)) w := by
  obtain ⟨ao, cap, rfl, h2, h3, h4, h5⟩ := h
  cases ao with
  | none =>
    have := h4 rfl
    rw [run_convert_bytes_nil w src e hs he _ _ dst hd, List.eq_nil_of_length_eq_zero (by omega : xs.length = 0)]
    rfl
  | some ad =>
    have hl : (loadCells ad xs.length).run P w = .ok ((xs.map fun x => (x.toNat : Int)).map (Value.int .u8)).toArray w := by
      rw [strOf_c8]
      have := run_loadCells_list (P := P) w ad (xs.map c8) (h5 ad rfl)
      simpa using this
    rw [run_convert_bytes_string w src dst e _ xs.length cap hs he hd, run_bytesToString w _ _ cap _ hl, foldl_push_bytes]
    congr 2
    apply ByteArray.ext
    simp only [str, ByteArray.empty, ByteArray.emptyWithCapacity, List.map_map]
    simp [Function.comp_def]
    rfl
end Go.Proofs.YtolfeellcdoopaaDoor.By
