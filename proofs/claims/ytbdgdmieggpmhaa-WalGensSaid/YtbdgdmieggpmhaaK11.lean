/-
  Layer 3: the document's disk, in the words of XK1.
-/
import Derived.Test.YtbdgdmieggpmhaaK10
namespace Go.Proofs.Ytbdgdmieggpmhaa.L3
open Go.ChangeShapes Go.WideShapes Go.ChangeAt Go.RowKit By Reg
set_option linter.unusedVariables false

theorem Ss.one {w : World} {v : Value} {x y : List UInt8} (h : Ss w v x y) : v.cells = #[v] ∧ v.oneCell' = true := by
  obtain ⟨g, cap, rfl, _⟩ := h; exact ⟨rfl, rfl⟩
theorem log_small {D : Dk} (h : D.Ok) : (str D.sure ++ str D.rest).size ≤ 1048576 := by
  rw [str_log, str_size]
  obtain ⟨h1, h2, -⟩ := h
  omega

theorem rsync_any (D : Dk) (r : Rm) (w : World) (h : HeldR w r D) (ok : D.Ok) : Calls Try.prog 58 #[refv D r] w (RefE w r.has D.sync) :=
  (rsync_raw _ _ _ _ _ w (sum_fits ok) h.n.one h.s.one).mono fun e w' ⟨he, hb⟩ => ⟨⟨r.nv, r.nv⟩, by rw [he, str_append]; rfl, ⟨h.n.rb hb, h.n.rb hb⟩, hb, fun k hk => by rcases hk with hk | hk <;> exact .inl (.inl hk)⟩

theorem rcrash_any (D : Dk) (r : Rm) (k : Int) (w : World) (h : HeldR w r D) (ok : D.Ok) : Calls Try.prog 60 #[refv D r, .int .i64 k] w (RefE w r.has (D.crash k.toNat)) := by
  have fin : ∀ (w' : World), Rb w w' → ∀ s : ByteArray, s = str (D.crash k.toNat).sure → RefE w r.has (D.crash k.toNat) (.returned (rawv D.room s ⟨#[]⟩ r.sv r.sv)) w' := fun w' hb s hs =>
    ⟨⟨r.sv, r.sv⟩, by rw [hs]; rfl, ⟨h.s.rb hb, h.s.rb hb⟩, hb, fun k hk => by rcases hk with hk | hk <;> exact .inl (.inr hk)⟩
  by_cases h0 : k < 0
  · refine (rcrash_1 _ _ _ _ _ k w (sum_fits ok) h.s.one h0).mono fun e w' ⟨he, hb⟩ => ?_
    subst he
    refine fin w' hb _ ?_
    rw [show k.toNat = 0 by omega]
    simp [Dk.crash]
  · by_cases h1 : (D.rest.length : Int) < k
    · refine (rcrash_3 _ _ _ _ _ k w (sum_fits ok) h.s.one (by rw [str_size]; exact h1)).mono fun e w' ⟨he, hb⟩ => ?_
      subst he
      refine fin w' hb _ ?_
      rw [str_append]
      show str _ = str (D.sure ++ D.rest.take k.toNat)
      rw [List.take_of_length_le (by omega)]
    · obtain ⟨m, rfl⟩ := Int.eq_ofNat_of_zero_le (by omega : 0 ≤ k)
      refine (rcrash_2 _ _ _ _ _ m w (sum_fits ok) h.s.one (by rw [str_size]; omega)).mono fun e w' ⟨he, hb⟩ => ?_
      subst he
      refine fin w' hb _ ?_
      rw [extract_str, str_append, Int.toNat_natCast]
      rfl

theorem rappend_4 (D : Dk) (r : Rm) (b : List UInt8) (w : World) (h : HeldR w r D) (ok : D.Ok) (hb : b.length ≤ 1000) (hf : D.room < D.log.length + b.length) :
    Calls Try.prog 74 #[refv D r, .string (str b)] w (RefT w r.has D 4) :=
  (rappend_full _ _ _ _ _ _ w (sum_fits ok) (log_small ok) (by rw [str_size]; omega) h.n.one.2 h.s.one.2 (by rw [str_log, str_size, str_size]; omega)).mono fun e w' ⟨he, hb⟩ => ⟨r, he, h.rb hb, hb, fun k hk => .inl hk⟩
theorem rappend_0 (D : Dk) (r : Rm) (b : List UInt8) (w : World) (h : HeldR w r D) (ok : D.Ok) (hb : b.length ≤ 1000) (hf : D.log.length + b.length ≤ D.room) :
    Calls Try.prog 74 #[refv D r, .string (str b)] w (RefT w r.has (D.append b) 0) :=
  (rappend_fits _ _ _ _ _ _ w (sum_fits ok) (log_small ok) (by rw [str_size]; omega) h.n.one.2 h.s.one.2 (by rw [str_log, str_size, str_size]; omega) (by have := ok.2.1; omega)).mono fun e w' ⟨he, hb⟩ => ⟨r, by rw [he, str_append]; rfl, ⟨h.n.rb hb, h.s.rb hb⟩, hb, fun k hk => .inl hk⟩

theorem rwrite_x (D : Dk) (r : Rm) (k : Int) (b : List UInt8) (w : World) (h : HeldR w r D) (hk : decide (0 ≤ k ∧ k < 2) = false) :
    Calls Try.prog 75 #[refv D r, .int .i64 k, .string (str b)] w (RefT w r.has D 1) :=
  (rwrite_no _ _ _ _ _ _ k w h.n.one.2 h.s.one.2 hk).mono fun e w' ⟨he, hb⟩ => ⟨r, he, h.rb hb, hb, fun k hk => .inl hk⟩
theorem rwrite_y0 (D : Dk) (r : Rm) (b : List UInt8) (w : World) (h : HeldR w r D) :
    Calls Try.prog 75 #[refv D r, .int .i64 0, .string (str b)] w (RefT w r.has (D.write0 b) 0) := by
  obtain ⟨g, cap, hv, h0, hm, hx, hy⟩ := h.n
  unfold refv
  rw [hv]
  refine (rwrite_0 _ _ _ _ _ _ g cap _ w h.s.one.2 hx hy).mono fun e w' ⟨g', cap', he, hg, hc, hcm, hx', hy', hb⟩ => ?_
  refine ⟨⟨.slice (some ⟨g', 0, none⟩) 2 cap', r.sv⟩, he, ⟨⟨g', cap', rfl, hc, hcm, hx', hy'⟩, h.s.rb hb⟩, hb, fun k hk => ?_⟩
  rcases hk with hk | hk
  · simp [Value.ownBlock] at hk; exact .inr (by omega)
  · exact .inl (.inr hk)
theorem rwrite_y1 (D : Dk) (r : Rm) (b : List UInt8) (w : World) (h : HeldR w r D) :
    Calls Try.prog 75 #[refv D r, .int .i64 1, .string (str b)] w (RefT w r.has (D.write1 b) 0) := by
  obtain ⟨g, cap, hv, h0, hm, hx, hy⟩ := h.n
  unfold refv
  rw [hv]
  refine (rwrite_1 _ _ _ _ _ _ g cap _ w h.s.one.2 hx hy).mono fun e w' ⟨g', cap', he, hg, hc, hcm, hx', hy', hb⟩ => ?_
  refine ⟨⟨.slice (some ⟨g', 0, none⟩) 2 cap', r.sv⟩, he, ⟨⟨g', cap', rfl, hc, hcm, hx', hy'⟩, h.s.rb hb⟩, hb, fun k hk => ?_⟩
  rcases hk with hk | hk
  · simp [Value.ownBlock] at hk; exact .inr (by omega)
  · exact .inl (.inr hk)
end Go.Proofs.Ytbdgdmieggpmhaa.L3
