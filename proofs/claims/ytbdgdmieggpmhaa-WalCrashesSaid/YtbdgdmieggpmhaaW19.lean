/-
  Layer 4: what WalCrashes' loop keeps, as plain data; an append to a row of strings.
-/
import Derived.Test.YtbdgdmieggpmhaaW18
namespace Go.Proofs.Ytbdgdmieggpmhaa.L4
open Go.ChangeShapes Go.WideShapes Go.ChangeAt Go.RowKit Oct By Reg L3
set_option linter.unusedVariables false

/-- a beginning of a frame is none -/
theorem headF_cut (g : Nat) (s : List UInt8) (m : Nat) (hg : g < 4294967296) (hs : s.length < 18446744073709551616) (hm : m < (frameB g s).length) : headF ((frameB g s).take m) = none := by
  cases h : headF ((frameB g s).take m) with
  | none => rfl
  | some p =>
    exfalso
    obtain ⟨g', s'⟩ := p
    obtain ⟨hg', hs', r, hr⟩ := headF_some h
    have e1 : frameB g s = frameB g' s' ++ (r ++ (frameB g s).drop m) := by
      rw [← List.append_assoc, ← hr, List.take_append_drop]
    have e2 := headF_frame g' s' (r ++ (frameB g s).drop m) hg' hs'
    rw [← e1] at e2
    have e3 := headF_frame g s [] hg hs
    rw [List.append_nil, e2] at e3
    simp only [Option.some.injEq, Prod.mk.injEq] at e3
    obtain ⟨rfl, rfl⟩ := e3
    have := congrArg List.length hr
    rw [List.length_append, List.length_take] at this
    omega
/-- how much of frames stands in a beginning of them -/
theorem rowsL_cut (g : Nat) (hg : g < 4294967296) : ∀ (A : List (List UInt8)) (m : Nat), (∀ s ∈ A, s.length < 18446744073709551616) → ∃ j, j ≤ A.length ∧ rowsL g ((frames g A).take m) = A.take j ∧ ∀ s, s ≤ A.length → lenL g (A.take s) ≤ m → s ≤ j
  | [], m, _ => ⟨0, Nat.le_refl _, by simp [frames]; rfl, fun s hs _ => hs⟩
  | a :: A, m, h => by
    have ha := h a List.mem_cons_self
    by_cases hm : m < (frameB g a).length
    · refine ⟨0, Nat.zero_le _, ?_, fun s hs hl => ?_⟩
      · rw [frames, List.take_append_of_le_length (by omega), rowsL_none (headF_cut g a m hg ha hm)]; rfl
      · cases s with
        | zero => exact Nat.le_refl _
        | succ s =>
          rw [List.take_succ_cons, lenL] at hl
          omega
    · obtain ⟨j, hj, he, hn⟩ := rowsL_cut g hg A (m - (frameB g a).length) fun s hs => h s (List.mem_cons_of_mem _ hs)
      refine ⟨j + 1, by simp; exact hj, ?_, fun s hs hl => ?_⟩
      · rw [frames, List.take_append, List.take_of_length_le (by omega), rowsL_step (headF_frame g a _ hg ha), List.drop_left, he, List.take_succ_cons]
      · cases s with
        | zero => exact Nat.zero_le _
        | succ s =>
          rw [List.take_succ_cons, lenL] at hl
          have := hn s (by simpa using hs) (by omega)
          omega

def Slots (g : Nat) (I x y : List UInt8) : Prop := (g = 0 ∧ I = [] ∧ x = [] ∧ y = []) ∨
  (1 ≤ g ∧ g % 2 = 0 ∧ x = frameB g I ∧ (y = [] ∨ ∃ J : List UInt8, y = frameB (g - 1) J ∧ J.length ≤ 200)) ∨ (1 ≤ g ∧ g % 2 = 1 ∧ y = frameB g I ∧ (x = [] ∨ ∃ J : List UInt8, x = frameB (g - 1) J ∧ J.length ≤ 200))
theorem Slots.newest {g : Nat} {I : List UInt8} {D : Dk} (h : Slots g I D.n0 D.n1) (hg : g < 4294967296) (hI : I.length ≤ 200) : newN D = (g, I) := by
  have other : ∀ (z : List UInt8), 1 ≤ g → (z = [] ∨ ∃ J : List UInt8, z = frameB (g - 1) J ∧ J.length ≤ 200) → ∀ g' s', imageF z = some (g', s') → g' < g := fun z h1 hz g' s' hi => by
    rcases hz with rfl | ⟨J, rfl, hJ⟩
    · rw [imageF_nil] at hi; cases hi
    · rw [imageF_frame (g - 1) J (by omega) (by omega)] at hi
      simp only [Option.some.injEq, Prod.mk.injEq] at hi
      omega
  rcases h with ⟨rfl, rfl, hx, hy⟩ | ⟨h1, _, hx, hy⟩ | ⟨h1, _, hy, hx⟩
  · exact newN_none (by rw [hx]; rfl) (by rw [hy]; rfl)
  · exact newN_of (.inl ⟨by rw [hx]; exact imageF_frame g I hg (by omega), fun g' s' hi => Nat.le_of_lt (other _ h1 hy g' s' hi)⟩)
  · exact newN_of (.inr ⟨by rw [hy]; exact imageF_frame g I hg (by omega), fun g' s' hi => other _ h1 hx g' s' hi⟩)

structure CInv (k : Nat) (D : Dk) (g : Nat) (I : List UInt8) (A : List (List UInt8)) (sure : Nat) : Prop where
  room : D.room = 16384
  gk : g ≤ k
  len : A.length ≤ k
  le : sure ≤ A.length
  sr : D.sure = frames g (A.take sure)
  rs : D.rest = frames g (A.drop sure)
  e0 : D.n0 = D.s0
  e1 : D.n1 = D.s1
  slots : Slots g I D.n0 D.n1
  a : ∀ s ∈ A, s.length ≤ 200
  i : I.length ≤ 200

section
variable {k g sure : Nat} {D : Dk} {I : List UInt8} {A : List (List UInt8)}
theorem CInv.start : CInv 0 (Dk.new 16384) 0 [] [] 0 := ⟨rfl, Nat.le_refl _, Nat.le_refl _, Nat.le_refl _, rfl, rfl, rfl, rfl, .inl ⟨rfl, rfl, rfl, rfl⟩, fun s h => (by cases h), by simp⟩
theorem CInv.log (h : CInv k D g I A sure) : D.log = frames g A := by
  unfold Dk.log
  rw [h.sr, h.rs, ← frames_append, List.take_append_drop]
theorem CInv.next (h : CInv k D g I A sure) : CInv (k + 1) D g I A sure := ⟨h.room, Nat.le_succ_of_le h.gk, Nat.le_succ_of_le h.len, h.le, h.sr, h.rs, h.e0, h.e1, h.slots, h.a, h.i⟩
theorem CInv.add (h : CInv k D g I A sure) (s : List UInt8) (hs : s.length ≤ 200) : CInv (k + 1) (D.append (frameB g s)) g I (A ++ [s]) sure where
  room := h.room
  gk := Nat.le_succ_of_le h.gk
  len := by have := h.len; simp; omega
  le := by have := h.le; simp; omega
  sr := by rw [List.take_append_of_le_length h.le]; exact h.sr
  rs := by
    rw [List.drop_append_of_le_length h.le, frames_append]
    show D.rest ++ _ = _
    rw [h.rs]
    simp [frames]
  e0 := h.e0
  e1 := h.e1
  slots := h.slots
  a := fun x hx => by
    rcases List.mem_append.1 hx with hx | hx
    · exact h.a x hx
    · simp at hx; subst hx; exact hs
  i := h.i
theorem CInv.sync (h : CInv k D g I A sure) : CInv (k + 1) D.sync g I A A.length where
  room := h.room
  gk := Nat.le_succ_of_le h.gk
  len := Nat.le_succ_of_le h.len
  le := Nat.le_refl _
  sr := by rw [List.take_of_length_le (Nat.le_refl _)]; exact h.log
  rs := by rw [List.drop_length]; rfl
  e0 := rfl
  e1 := rfl
  slots := h.slots
  a := h.a
  i := h.i
theorem CInv.check (h : CInv k D g I A sure) (s : List UInt8) (hs : s.length ≤ 200) : CInv (k + 1) (ckD D g (frameB (g + 1) s)) (g + 1) s [] 0 := by
  have hp : ∀ z x y, (g % 2 = 0 → z = x) → (g % 2 = 1 → z = y) → Slots g I x y → (z = [] ∨ ∃ J : List UInt8, z = frameB (g + 1 - 1) J ∧ J.length ≤ 200) := fun z x y h0 h1 hs => by
    rcases hs with ⟨rfl, rfl, rfl, rfl⟩ | ⟨_, hm, rfl, _⟩ | ⟨_, hm, rfl, _⟩
    · exact .inl (h0 rfl)
    · exact .inr ⟨I, h0 hm, h.i⟩
    · exact .inr ⟨I, h1 hm, h.i⟩
  unfold ckD
  by_cases hg : (g + 1) % 2 = 0
  · rw [if_pos hg]
    refine ⟨h.room, Nat.succ_le_succ h.gk, Nat.zero_le _, Nat.le_refl _, rfl, rfl, rfl, rfl, .inr (.inl ⟨by omega, hg, rfl, ?_⟩), fun s h => (by cases h), hs⟩
    exact hp D.n1 D.n0 D.n1 (fun e => by omega) (fun _ => rfl) h.slots
  · rw [if_neg hg]
    refine ⟨h.room, Nat.succ_le_succ h.gk, Nat.zero_le _, Nat.le_refl _, rfl, rfl, rfl, rfl, .inr (.inr ⟨by omega, by omega, rfl, ?_⟩), fun s h => (by cases h), hs⟩
    exact hp D.n0 D.n0 D.n1 (fun _ => rfl) (fun e => by omega) h.slots

/-- behind a crash, and an Open; behind another Open -/
theorem CInv.crash (h : CInv k D g I A sure) (hk : k ≤ 40) (n : Nat) : ∃ j, sure ≤ j ∧ j ≤ A.length ∧ newN (D.crash n) = (g, I) ∧ openG (D.crash n) = g ∧ openR (D.crash n) = A.take j ∧
    newN (openD (D.crash n)) = (g, I) ∧ openR (openD (D.crash n)) = A.take j ∧ openD (openD (D.crash n)) = openD (D.crash n) := by
  have hg : g < 4294967296 := by have := h.gk; omega
  have hA : ∀ s ∈ A, s.length < 18446744073709551616 := fun s hs => by have := h.a s hs; omega
  have hsl : Slots g I (D.crash n).n0 (D.crash n).n1 := by
    show Slots g I D.s0 D.s1
    rw [← h.e0, ← h.e1]; exact h.slots
  have hn := hsl.newest hg h.i
  have hG : openG (D.crash n) = g := by unfold openG; rw [hn]
  have hlog : (D.crash n).log = (frames g A).take (lenL g (A.take sure) + n) := by
    rw [crash_log, h.log, h.sr, frames_len]
  obtain ⟨j, hj, hr, hs⟩ := rowsL_cut g hg A (lenL g (A.take sure) + n) hA
  have hR : openR (D.crash n) = A.take j := by unfold openR; rw [hG, hlog, hr]
  have hD : openD (D.crash n) = ⟨D.room, frames g (A.take j), [], D.s0, D.s1, D.s0, D.s1⟩ := by
    show (⟨(D.crash n).room, frames (openG (D.crash n)) (openR (D.crash n)), [], (D.crash n).n0, (D.crash n).n1, (D.crash n).n0, (D.crash n).n1⟩ : Dk) = _
    rw [hG, hR]
    rfl
  have hn2 : newN (openD (D.crash n)) = (g, I) := by
    refine Slots.newest ?_ hg h.i
    rw [hD]
    show Slots g I D.s0 D.s1
    rw [← h.e0, ← h.e1]; exact h.slots
  have hG2 : openG (openD (D.crash n)) = g := by unfold openG; rw [hn2]
  have hR2 : openR (openD (D.crash n)) = A.take j := by
    have e := rowsL_frames g hg [] (A.take j) fun s hs => hA s (List.mem_of_mem_take hs)
    rw [List.append_nil] at e
    unfold openR
    rw [hG2, hD]
    show rowsL g (frames g (A.take j) ++ []) = _
    rw [List.append_nil, e]
    show _ ++ [] = _
    rw [List.append_nil]
  refine ⟨j, hs sure h.le (by omega), hj, hn, hG, hR, hn2, hR2, ?_⟩
  show (⟨(openD (D.crash n)).room, frames (openG (openD (D.crash n))) (openR (openD (D.crash n))), [], (openD (D.crash n)).n0, (openD (D.crash n)).n1, (openD (D.crash n)).n0, (openD (D.crash n)).n1⟩ : Dk) = _
  rw [hG2, hR2, hD]
end

/-! ### an append to a row of strings, and where it lies then -/
section
variable {P : Program} {w : World} {ops : Array Oper} {rest : List Oper} {o : Oper} {a : Act} {Q : Exit → Act → World → Prop}
theorem run_append_str (t ty e : TypeId) (i : TypeInfo) (ht : P.underlying t = some (.slice e)) (hi : P.info? e = some i) (hz : i.zero = some (.string ⟨#[]⟩)) (hsize : i.size = 1) (hby : i.bytes = 16)
    (B : Nat) (hB : B ≤ w.heap.size) (v : Value) (n : Nat) (xs : List Value) (hown : w.ownsRow B e 1 v n xs) (ad : Addr) (m c : Nat) (news : List Value) (hl : news.length = m) (hnews : ∀ j u, news[j]? = some u → w.cell? (ad.add j) = some u) (h1 : ∀ u ∈ news, u.oneCell' = true)
    (h63 : n + m ≤ 1000000) :
    ∃ v' w', (Builtin.append_ #[t, t] ty #[v, .slice (some ad) m c]).run P w = .ok v' w' ∧ w'.ownsRow B e 1 v' (n + m) (xs ++ news) ∧ w.grownBy w' v.ownBlock ∧ (∀ k, v'.ownBlock = some k → v.ownBlock = some k ∨ w.heap.size ≤ k) := by
  have hm : n + m ≤ maxLen := by unfold maxLen; omega
  obtain ⟨v', w', hr, h2, h3, h4⟩ := run_append_own (P := P) w B t ty e i (.string ⟨#[]⟩) 1 16 ht hi hz hsize hby rfl (by decide) v n xs hown ad m c news (by omega) hnews h1 hm (by omega) hB
  refine ⟨v', w', hr, h2, h3, ?_⟩
  rcases hown.2 with ⟨rfl, rfl⟩ | ⟨g, cap, cur, rfl, hbg, hg, hnc, hcm, hcs, htake⟩
  · have hx : xs = [] := List.eq_nil_of_length_eq_zero (by simpa using hown.1)
    subst hx
    obtain ⟨v2, w2, hr2, k2, _, _⟩ := run_append_own (P := P) w w.heap.size t ty e i (.string ⟨#[]⟩) 1 16 ht hi hz hsize hby rfl (by decide) _ _ _ (World.ownsRow_nil w _ e 1) ad m c news (by omega) hnews h1 hm (by omega) (Nat.le_refl _)
    rw [hr] at hr2
    cases hr2
    intro k hk
    exact .inr (k2.lt k hk).1
  · by_cases hroom : n + m ≤ cap
    · have hr2 := run_append_room (P := P) w t ty e i ht hi g n cap cur hg ad m c news (by rw [hsize]; omega) hnews h1 hroom (by rw [hsize, hcs, hl]; omega)
      rw [hr] at hr2
      cases hr2
      intro k hk
      exact .inl hk
    · have holds : ∀ j u, xs[j]? = some u → w.cell? ((⟨g, 0, none⟩ : Addr).add j) = some u := hown.cells (g := g) rfl
      obtain ⟨v2, w2, hr2, k2, _⟩ := run_append_arg_grows (P := P) w t ty e i (.string ⟨#[]⟩) 1 16 ht hi hz hsize hby rfl (by decide) ⟨g, 0, none⟩ n cap xs hown.1 holds ad m c news (by omega) hnews (by omega) hm (by omega)
      rw [hr] at hr2
      cases hr2
      intro k hk
      exact .inr (k2.lt k hk).1
theorem wpList_append_str (hg : o.guard = none) (s x : Operand) (t : TypeId) (hop : o.op = Op.call { callee := Callee.builtin Builtin.append, args := #[s, x], argTypes := #[t, t] })
    (e : TypeId) (i : TypeInfo) (ht : P.underlying t = some (.slice e)) (hi : P.info? e = some i) (hz : i.zero = some (.string ⟨#[]⟩)) (hsize : i.size = 1) (hby : i.bytes = 16)
    (B : Nat) (hB : B ≤ w.heap.size) (v : Value) (n : Nat) (xs : List Value) (hs : a.eval s = v) (hown : w.ownsRow B e 1 v n xs) (ad : Addr) (c : Nat) (str0 : ByteArray) (hx : a.eval x = .slice (some ad) 1 c) (hc : ∀ j u, [Value.string str0][j]? = some u → w.cell? (ad.add j) = some u) (hl : n + 1 ≤ 1000000)
    (hK : ∀ v' w', w'.ownsRow B e 1 v' (n + 1) (xs ++ [.string str0]) → w.grownBy w' v.ownBlock → (∀ k, v'.ownBlock = some k → v.ownBlock = some k ∨ w.heap.size ≤ k) → wpList P ops Q rest (a.put o.dst v') w') :
    wpList P ops Q (o :: rest) a w := by
  obtain ⟨v', w', hr, h2, h3, h4⟩ := run_append_str (P := P) t o.type e i ht hi hz hsize hby B hB v n xs hown ad 1 c [.string str0] rfl hc (fun u hu => by simp at hu; subst hu; rfl) hl
  refine wpList_plain hg fun _ hK' => ?_
  unfold Oper.wp execOp
  simp only [hop, resolve, invoke, builtin, Sem.run_bind, Sem.run_pure, Result.andThen_ok, List.map_toArray, List.map_cons, List.map_nil, hs, hx, hr]
  exact hK' _ _ (hK v' w' h2 h3 h4)
end
end Go.Proofs.Ytbdgdmieggpmhaa.L4
