/-
  Layer 5: a node in memory; leaf, size, place.
-/
import Derived.Test.YtjdlicphmflnkaaT3
import Derived.Test.YtjdlicphmflnkaaT4
import Derived.Test.YtjdlicphmflnkaaT5
namespace Go.Proofs.Ytjdlicphmflnkaa.L5
open Go.ChangeShapes Go.WideShapes Go.ChangeAt Go.RowKit By Reg
set_option linter.unusedVariables false

structure Nd where
  b : Nat
  kv : Value
  vv : Value
  pv : Value
  ks : List Int
  vs : List Int
  ps : List Nat

/-- the node's own blocks -/
def Nd.has (N : Nd) (k : Nat) : Prop := k = N.b ∨ N.kv.ownBlock = some k ∨ N.vv.ownBlock = some k ∨ N.pv.ownBlock = some k

structure NodeAt (w : World) (N : Nd) : Prop where
  blk : Blk w N.b 70 [N.kv, N.vv, N.pv]
  rk : Row w 2 N.kv (N.ks.map i64)
  rv : Row w 3 N.vv (N.vs.map i64)
  rp : Row w 24 N.pv (N.ps.map ptrv)

theorem i64_one {xs : List Int} : ∀ u ∈ xs.map i64, u.oneCell' = true := fun u h => by
  obtain ⟨x, _, rfl⟩ := List.mem_map.1 h; rfl
theorem ptr_one {xs : List Nat} : ∀ u ∈ xs.map ptrv, u.oneCell' = true := fun u h => by
  obtain ⟨x, _, rfl⟩ := List.mem_map.1 h; rfl

theorem Row.apart {w : World} {e e' : TypeId} {v v' : Value} {xs xs' : List Value} (h : Row w e v xs) (h' : Row w e' v' xs') (hne : e ≠ e') {k : Nat} (hk : v.ownBlock = some k) : v'.ownBlock ≠ some k := fun hk' => by
  obtain ⟨cs, hb⟩ := h.typ k hk
  obtain ⟨cs', hb'⟩ := h'.typ k hk'
  exact hne (hb.inj hb').1

namespace NodeAt
variable {w w' : World} {N : Nd}
theorem lt (h : NodeAt w N) : ∀ k, N.has k → k < w.heap.size := fun k hk => by
  rcases hk with rfl | hk | hk | hk
  · exact h.blk.lt
  · exact h.rk.lt k hk
  · exact h.rv.lt k hk
  · exact h.rp.lt k hk
theorem same (h : NodeAt w N) (e : ∀ k, N.has k → w'.heap[k]? = w.heap[k]?) : NodeAt w' N :=
  ⟨h.blk.same (e _ (.inl rfl)), h.rk.same fun k hk => e k (.inr (.inl hk)), h.rv.same fun k hk => e k (.inr (.inr (.inl hk))), h.rp.same fun k hk => e k (.inr (.inr (.inr hk)))⟩
theorem rb (h : NodeAt w N) (hb : Rb w w') : NodeAt w' N := h.same fun k hk => hb.block k (h.lt k hk)
theorem fr {F : Nat → Prop} (h : NodeAt w N) (hf : Fr F w w') (hF : ∀ k, N.has k → ¬ F k) : NodeAt w' N := h.same fun k hk => hf.block k (h.lt k hk) (hF k hk)
theorem kb (h : NodeAt w N) : N.kv.ownBlock ≠ some N.b := h.rk.not_blk h.blk (by decide)
theorem vb (h : NodeAt w N) : N.vv.ownBlock ≠ some N.b := h.rv.not_blk h.blk (by decide)
theorem pb (h : NodeAt w N) : N.pv.ownBlock ≠ some N.b := h.rp.not_blk h.blk (by decide)
theorem kV (h : NodeAt w N) {k : Nat} (hk : N.kv.ownBlock = some k) : N.vv.ownBlock ≠ some k := h.rk.apart h.rv (by decide) hk
theorem kP (h : NodeAt w N) {k : Nat} (hk : N.kv.ownBlock = some k) : N.pv.ownBlock ≠ some k := h.rk.apart h.rp (by decide) hk
theorem vP (h : NodeAt w N) {k : Nat} (hk : N.vv.ownBlock = some k) : N.pv.ownBlock ≠ some k := h.rv.apart h.rp (by decide) hk
theorem c0 (h : NodeAt w N) : w.cell? ⟨N.b, 0, none⟩ = some N.kv := h.blk.cell 0
theorem c1 (h : NodeAt w N) : w.cell? ⟨N.b, 1, none⟩ = some N.vv := h.blk.cell 1
theorem c2 (h : NodeAt w N) : w.cell? ⟨N.b, 2, none⟩ = some N.pv := h.blk.cell 2
theorem kform (h : NodeAt w N) : ∃ ao cap, N.kv = .slice ao N.ks.length cap ∧ N.ks.length ≤ cap ∧ cap ≤ maxLen := by simpa using h.rk.form
theorem vform (h : NodeAt w N) : ∃ ao cap, N.vv = .slice ao N.vs.length cap ∧ N.vs.length ≤ cap ∧ cap ≤ maxLen := by simpa using h.rv.form
theorem pform (h : NodeAt w N) : ∃ ao cap, N.pv = .slice ao N.ps.length cap ∧ N.ps.length ≤ cap ∧ cap ≤ maxLen := by simpa using h.rp.form
end NodeAt

/-- a cell of a row -/
theorem Row.at_ {w : World} {e : TypeId} {v : Value} {xs : List Value} (h : Row w e v xs) {j : Nat} (hj : j < xs.length) :
    ∃ g cap, v = .slice (some ⟨g, 0, none⟩) xs.length cap ∧ xs.length ≤ cap ∧ cap ≤ maxLen ∧ w.cell? ⟨g, j, none⟩ = some xs[j] := by
  rcases h.cases' with ⟨rfl, rfl⟩ | ⟨g, rest, rfl, h2, h3⟩
  · simp at hj
  · refine ⟨g, _, rfl, by omega, h3, ?_⟩
    rw [h2.cell, List.getElem?_append_left hj, List.getElem?_eq_getElem hj]

/-- the node turned into another one, of the same block -/
structure Nx (w : World) (N : Nd) (w' : World) (N' : Nd) : Prop where
  at_ : NodeAt w' N'
  b : N'.b = N.b
  fr : Fr N.has w w'
  has : ∀ k, N'.has k → N.has k ∨ w.heap.size ≤ k
theorem Nx.of_rb {w w' : World} {N : Nd} (h : NodeAt w N) (hr : Rb w w') : Nx w N w' N := ⟨h.rb hr, rfl, Fr.of_rb hr, fun _ h => .inl h⟩
theorem Nx.trans {w w1 w2 : World} {N N1 N2 : Nd} (h : Nx w N w1 N1) (k : Nx w1 N1 w2 N2) : Nx w N w2 N2 :=
  ⟨k.at_, k.b.trans h.b, h.fr.trans k.fr h.has, fun i hi => by
    rcases k.has i hi with h' | h'
    · exact h.has i h'
    · have := h.fr.size; exact .inr (by omega)⟩
theorem Nx.rb {w w0 w2 : World} {N N2 : Nd} (hr : Rb w w0) (k : Nx w0 N w2 N2) : Nx w N w2 N2 :=
  ⟨k.at_, k.b, (Fr.of_rb hr).trans k.fr fun _ h => .inl h, fun i hi => by
    rcases k.has i hi with h' | h'
    · exact .inl h'
    · have := hr.size; exact .inr (by omega)⟩

/-- the keys' row turned, then stored -/
theorem Nx.keys {w w1 w2 : World} {N : Nd} {kv' : Value} {ks' : List Int} (h : NodeAt w N) (hr : Re w 2 N.kv (ks'.map i64) kv' w1) (hb : Blk w2 N.b 70 [kv', N.vv, N.pv]) (hw : Wrote N.b w1 w2) :
    Nx w N w2 { N with kv := kv', ks := ks' } := by
  have hkb : kv'.ownBlock ≠ some N.b := fun e => by
    rcases hr.new _ e with h' | h'
    · exact h.kb h'
    · have := h.blk.lt; omega
  refine ⟨⟨hb, hr.row.same fun k hk => hw.block k (fun e => hkb (by rw [← e]; exact hk)), ?_, ?_⟩, rfl, ?_, ?_⟩
  · exact (h.rv.fr hr.fr (fun k hk hk' => h.kV hk' hk)).same fun k hk => hw.block k (fun e => h.vb (by rw [← e]; exact hk))
  · exact (h.rp.fr hr.fr (fun k hk hk' => h.kP hk' hk)).same fun k hk => hw.block k (fun e => h.pb (by rw [← e]; exact hk))
  · exact (hr.fr.mono (fun k hk _ => .inr (.inl hk))).wrote hw (.inl (.inl rfl))
  · intro k hk
    rcases hk with hk | hk | hk | hk
    · exact .inl (.inl hk)
    · rcases hr.new k hk with h' | h'
      · exact .inl (.inr (.inl h'))
      · exact .inr h'
    · exact .inl (.inr (.inr (.inl hk)))
    · exact .inl (.inr (.inr (.inr hk)))
theorem Nx.vals {w w1 w2 : World} {N : Nd} {vv' : Value} {vs' : List Int} (h : NodeAt w N) (hr : Re w 3 N.vv (vs'.map i64) vv' w1) (hb : Blk w2 N.b 70 [N.kv, vv', N.pv]) (hw : Wrote N.b w1 w2) :
    Nx w N w2 { N with vv := vv', vs := vs' } := by
  have hkb : vv'.ownBlock ≠ some N.b := fun e => by
    rcases hr.new _ e with h' | h'
    · exact h.vb h'
    · have := h.blk.lt; omega
  refine ⟨⟨hb, ?_, hr.row.same fun k hk => hw.block k (fun e => hkb (by rw [← e]; exact hk)), ?_⟩, rfl, ?_, ?_⟩
  · exact (h.rk.fr hr.fr (fun k hk hk' => h.kV hk hk')).same fun k hk => hw.block k (fun e => h.kb (by rw [← e]; exact hk))
  · exact (h.rp.fr hr.fr (fun k hk hk' => h.vP hk' hk)).same fun k hk => hw.block k (fun e => h.pb (by rw [← e]; exact hk))
  · exact (hr.fr.mono (fun k hk _ => .inr (.inr (.inl hk)))).wrote hw (.inl (.inl rfl))
  · intro k hk
    rcases hk with hk | hk | hk | hk
    · exact .inl (.inl hk)
    · exact .inl (.inr (.inl hk))
    · rcases hr.new k hk with h' | h'
      · exact .inl (.inr (.inr (.inl h')))
      · exact .inr h'
    · exact .inl (.inr (.inr (.inr hk)))
theorem Nx.parts {w w1 w2 : World} {N : Nd} {pv' : Value} {ps' : List Nat} (h : NodeAt w N) (hr : Re w 24 N.pv (ps'.map ptrv) pv' w1) (hb : Blk w2 N.b 70 [N.kv, N.vv, pv']) (hw : Wrote N.b w1 w2) :
    Nx w N w2 { N with pv := pv', ps := ps' } := by
  have hkb : pv'.ownBlock ≠ some N.b := fun e => by
    rcases hr.new _ e with h' | h'
    · exact h.pb h'
    · have := h.blk.lt; omega
  refine ⟨⟨hb, ?_, ?_, hr.row.same fun k hk => hw.block k (fun e => hkb (by rw [← e]; exact hk))⟩, rfl, ?_, ?_⟩
  · exact (h.rk.fr hr.fr (fun k hk hk' => h.kP hk hk')).same fun k hk => hw.block k (fun e => h.kb (by rw [← e]; exact hk))
  · exact (h.rv.fr hr.fr (fun k hk hk' => h.vP hk hk')).same fun k hk => hw.block k (fun e => h.vb (by rw [← e]; exact hk))
  · exact (hr.fr.mono (fun k hk _ => .inr (.inr (.inr hk)))).wrote hw (.inl (.inl rfl))
  · intro k hk
    rcases hk with hk | hk | hk | hk
    · exact .inl (.inl hk)
    · exact .inl (.inr (.inl hk))
    · exact .inl (.inr (.inr (.inl hk)))
    · rcases hr.new k hk with h' | h'
      · exact .inl (.inr (.inr (.inr h')))
      · exact .inr h'

def isLeaf (N : Nd) : Bool := decide (N.ps.length = 0)
def sizeN (N : Nd) : Nat := if isLeaf N then N.ks.length else N.ps.length

theorem leaf_any (w : World) (N : Nd) (h : NodeAt w N) : Calls Try.prog 34 #[ptrv N.b] w fun e w' => e = .returned (.bool (isLeaf N)) ∧ w = w' := by
  have c2 := h.c2
  obtain ⟨ao, cap, hp, _, _⟩ := h.pform
  rw [hp] at c2
  have e : isLeaf N = ((N.ps.length : Int) == 0) := by unfold isLeaf; rw [Bool.eq_iff_iff]; simp
  rw [e]
  generalize N.b = b at *
  generalize N.ps.length = n at *
  clear h hp e
  go_enter Try.func34, Try.ntmps34
  go_wp2_with fail
  go_ret
  exact ⟨rfl, rfl⟩

theorem size_any (w : World) (N : Nd) (h : NodeAt w N) : Calls Try.prog 32 #[ptrv N.b] w fun e w' => e = .returned (i64 (sizeN N)) ∧ w = w' := by
  have c2 := h.c2
  have c0 := h.c0
  obtain ⟨ao, cap, hp, _, _⟩ := h.pform
  obtain ⟨ao2, cap2, hk, _, _⟩ := h.kform
  rw [hp] at c2
  rw [hk] at c0
  have C := Lib.hid (leaf_any w N h)
  unfold sizeN
  generalize N.ks.length = m at *
  generalize N.ps.length = n at *
  clear h hp hk
  cases hl : isLeaf N
  · rw [hl] at C
    generalize N.b = b at *
    clear hl
    go_enter Try.func32, Try.ntmps32
    go_wp2_with (go_at_call 34; refine C.out.mono ?_; rintro e w' ⟨rfl, rfl⟩)
    go_ret
    exact ⟨rfl, rfl⟩
  · rw [hl] at C
    generalize N.b = b at *
    clear hl
    go_enter Try.func32, Try.ntmps32
    go_wp2_with (go_at_call 34; refine C.out.mono ?_; rintro e w' ⟨rfl, rfl⟩)
    go_ret
    exact ⟨rfl, rfl⟩

/-- which part the key lies in -/
def placeAt (x : Int) (ks : List Int) (p : Nat) : Nat := if found x ks p then p + 1 else p

theorem place_any (w : World) (N : Nd) (x : Int) (p : Nat) (h : NodeAt w N) (hbig : N.ks.length ≤ 1000000) (hs : N.ks.Pairwise (· < ·)) (hp : Pos x N.ks p) :
    Calls Try.prog 40 #[ptrv N.b, i64 x] w fun e w' => e = .returned (i64 (placeAt x N.ks p : Nat)) ∧ Rb w w' := by
  have c0 := h.c0
  have C := Lib.hid (search_at w N.kv N.ks x p h.rk hbig hs hp)
  obtain ⟨ao2, cap2, hk, _, _⟩ := h.kform
  rw [hk] at c0 C
  have hp := hp.le
  generalize N.ks.length = m at *
  generalize N.b = b at *
  unfold placeAt
  clear h hk
  cases hf : found x N.ks p
  · rw [hf] at C
    go_enter Try.func40, Try.ntmps40
    go_wp2_with (go_at_call 41; refine C.out.mono ?_)
    rintro e w' ⟨rfl, h2⟩
    have H2 := Lib.hid h2
    clear h2 C
    go_wp2_with fail
    go_ret
    exact ⟨rfl, H2.out⟩
  · rw [hf] at C
    go_enter Try.func40, Try.ntmps40
    go_wp2_with (go_at_call 41; refine C.out.mono ?_)
    rintro e w' ⟨rfl, h2⟩
    have H2 := Lib.hid h2
    clear h2 C
    go_wp2_with fail
    go_ret
    exact ⟨rfl, H2.out⟩
end Go.Proofs.Ytjdlicphmflnkaa.L5
