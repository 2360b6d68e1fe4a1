/-
  Layer 2: Parse.
-/
import Derived.Test.YtefjfiihfbkjoaaDoorVY
import Derived.Test.YtefjfiihfbkjoaaDoorVU
import Derived.Test.YtefjfiihfbkjoaaDoorVQ
import Derived.Lib.ParseIntBTie
namespace Go.Proofs.YtefjfiihfbkjoaaDoor
open Go.ChangeShapes Go.WideShapes Go.ChangeAt Go.RowKit Oct By Reg Val

def parseV (l : List UInt8) : Option (Int × Int × List UInt8) :=
  if rightB (guessV l).1 (guessV l).2.1 (guessV l).2.2 = true ∧ printV (guessV l).1 (guessV l).2.1 (guessV l).2.2 = l then some (guessV l) else none
def tupP (r : Option (Int × Int × List UInt8)) : Value := match r with
  | none => .tuple #[vv 0 0 ⟨#[]⟩, .bool false]
  | some (k, n, s) => .tuple #[vv k n (str s), .bool true]
theorem unq_len (l : List UInt8) : ∀ (f i : Nat), (unq l f i).length ≤ f
  | 0, _ => by simp [unq]
  | f + 1, i => by
    unfold unq
    split
    · split
      · simp; exact unq_len l f _
      · simp; exact unq_len l f _
    · simp
theorem guess_len (l : List UInt8) : (guessV l).2.2.length ≤ l.length := by
  unfold guessV
  split
  · simp
  · split
    · simp
    · split
      · exact unq_len l _ _
      · split <;> simp

theorem guess_bd (l : List UInt8) : -9223372036854775808 ≤ (guessV l).2.1 ∧ (guessV l).2.1 ≤ 9223372036854775807 := by
  unfold guessV
  split
  · simp
  · split
    · simp
    · split
      · simp
      · split
        · rename_i v hv
          have := Lib.parseIntB_bounds (numB_ok hv)
          simp only [show (64 - 1 : Nat) = 63 from rfl] at this
          have e : ((2 ^ 63 : Nat) : Int) = 9223372036854775808 := by decide
          rw [e] at this
          exact ⟨by show -9223372036854775808 ≤ v; omega, by show v ≤ 9223372036854775807; omega⟩
        · simp

/-- behind the guess: the result's block and the guess's -/
structure ParseS (w wx : World) (B C : Nat) (k n : Int) (s : ByteArray) : Prop where
  res : HeldV wx B 0 0 ⟨#[]⟩
  var : HeldV wx C k n s
  fz : ∀ o, wx.frozen? ⟨B, o, none⟩ = false
  below : Rb w wx
theorem ParseS.start {w w1 : World} (hb : Below (w.alloc (.cells #[.int .i64 0, .int .i64 0, .string ⟨#[]⟩] 23)).heap.size (w.alloc (.cells #[.int .i64 0, .int .i64 0, .string ⟨#[]⟩] 23)) w1) (k n : Int) (s : ByteArray) :
    ParseS w (w1.alloc (.cells #[.int .i64 k, .int .i64 n, .string s] 23)) w.heap.size w1.heap.size k n s := by
  have g := fun (w : World) (o : Obj) => (show Rb w (w.alloc o) from (Below.refl _ _).alloc (Nat.le_refl _) _)
  have hr := HeldV.rb (HeldV.at w w.heap.size 0 0 ⟨#[]⟩ 23 rfl) hb
  exact ⟨hr.rb (g _ _), HeldV.at w1 _ _ _ _ _ rfl, fun o => fz_rb (g _ _) hr.1 (fz_keep (B := w.heap.size) (o := o) hb), Rb.trans _ _ _ (Rb.trans _ _ _ (g _ _) hb) (g _ _)⟩
theorem ParseS.rb {w wx w1 : World} {B C : Nat} {k n : Int} {s : ByteArray} (h : ParseS w wx B C k n s) (hb : Below wx.heap.size wx w1) : ParseS w w1 B C k n s :=
  ⟨h.res.rb hb, h.var.rb hb, fun o => fz_rb hb h.res.1 (h.fz o), Rb.trans _ _ _ h.below hb⟩

set_option maxRecDepth 100000 in
theorem parse_any (s : ByteArray) (w : World) (hs : s.size ≤ 200) (htab : Tab w) (herr : Errs w) :
    Calls Tryd.prog 30 #[.string s] w fun e w' => e = .returned (tupP (parseV s.data.toList)) ∧ Below w.heap.size w w' := by
  have hlen : s.data.toList.length = s.size := Array.length_toList
  have g := fun (o : Obj) => (show Below w.heap.size w (w.alloc o) from (Below.refl _ _).alloc (Nat.le_refl _) _)
  have hc := fun w' (hw : Rb w w') => guess_any s w' hs (herr.rb hw)
  have hgl := guess_len s.data.toList
  have hbd := guess_bd s.data.toList
  unfold guessT at hc
  have hpv : parseV s.data.toList = if rightB (guessV s.data.toList).1 (guessV s.data.toList).2.1 (guessV s.data.toList).2.2 = true ∧ printV (guessV s.data.toList).1 (guessV s.data.toList).2.1 (guessV s.data.toList).2.2 = s.data.toList then some (guessV s.data.toList) else none := rfl
  obtain ⟨G, hG⟩ : ∃ G, G = guessV s.data.toList := ⟨_, rfl⟩
  rw [← hG] at hc hgl hbd hpv
  obtain ⟨K, N, S⟩ := G
  clear hG
  simp only at hc hgl hbd hpv
  have hsz : (str S).size ≤ maxLen := by rw [str_size]; unfold maxLen; omega
  have hcr := fun w => right_any K N (str S) w hsz
  have hcp := fun w' (hw : Rb w w') => print_any K N (str S) w' hsz hbd.1 hbd.2 (htab.rb hw)
  rw [show (str S).data.toList = S from rfl] at hcr hcp
  have HC := Lib.hid hc
  clear hc hgl hbd
  cases hr : rightB K N S
  · have hR := Lib.hid (show parseV s.data.toList = none by rw [hpv, hr]; simp)
    rw [hr] at hcr
    have HR := Lib.hid hcr
    clear hcr hcp hr hpv hlen
    go_enter Tryd.func30, Tryd.ntmps30
    go_wp2_with fail
    refine (HC.out _ (g _)).mono ?_
    rintro e w1 ⟨rfl, hb⟩
    have H1 := Lib.hid (ParseS.start hb K N (str S))
    clear hb
    have z0 := H1.out.var.1
    have z1 := H1.out.var.2.1
    have z2 := H1.out.var.2.2
    go_wp2_with fail
    refine (HR.out _).mono ?_
    rintro e w2 ⟨rfl, hb⟩
    have H2 := Lib.hid (H1.out.rb hb)
    clear hb z0 z1 z2 H1
    have z0 := H2.out.var.1
    have z1 := H2.out.var.2.1
    have z2 := H2.out.var.2.2
    have y0 := H2.out.res.1
    have y1 := H2.out.res.2.1
    have y2 := H2.out.res.2.2
    have yf := H2.out.fz
    go_wp2_with fail
    rw [hR.out]
    refine bodyPost_ret (v := tupP none) (by simp [results, Tryd.results30, go_sem, tupP, y0, y1, y2]) rfl ⟨rfl, ?_⟩
    exact Below.setCell (Below.setCell (Below.setCell H2.out.below (Nat.le_refl _) _) (Nat.le_refl _) _) (Nat.le_refl _) _
  · rw [hr] at hcr
    have HR := Lib.hid hcr
    by_cases hp : printV K N S = s.data.toList
    · have hR := Lib.hid (show parseV s.data.toList = some (K, N, S) by rw [hpv, hr, if_pos ⟨rfl, hp⟩])
      rw [hp] at hcp
      rw [show strV s.data.toList = .string s by unfold strV; rw [str_toList]] at hcp
      have HP := Lib.hid hcp
      clear hcr hcp hr hpv hp hlen
      go_enter Tryd.func30, Tryd.ntmps30
      go_wp2_with fail
      refine (HC.out _ (g _)).mono ?_
      rintro e w1 ⟨rfl, hb⟩
      have H1 := Lib.hid (ParseS.start hb K N (str S))
      clear hb
      have z0 := H1.out.var.1
      have z1 := H1.out.var.2.1
      have z2 := H1.out.var.2.2
      go_wp2_with fail
      refine (HR.out _).mono ?_
      rintro e w2 ⟨rfl, hb⟩
      have H2 := Lib.hid (H1.out.rb hb)
      clear hb z0 z1 z2 H1
      have z0 := H2.out.var.1
      have z1 := H2.out.var.2.1
      have z2 := H2.out.var.2.2
      have y0 := H2.out.res.1
      have y1 := H2.out.res.2.1
      have y2 := H2.out.res.2.2
      have yf := H2.out.fz
      go_wp2_with fail
      refine (HP.out _ H2.out.below).mono ?_
      rintro e w3 ⟨rfl, hb⟩
      have H3 := H2.out.rb hb
      clear hb z0 z1 z2 y0 y1 y2 yf H2
      have H2 := Lib.hid H3
      clear H3
      have z0 := H2.out.var.1
      have z1 := H2.out.var.2.1
      have z2 := H2.out.var.2.2
      have y0 := H2.out.res.1
      have y1 := H2.out.res.2.1
      have y2 := H2.out.res.2.2
      have yf := H2.out.fz
      go_wp2_with fail
      rw [hR.out]
      refine bodyPost_ret (v := tupP (some (K, N, S))) (by simp [results, Tryd.results30, go_sem, tupP, y0, y1, y2]) rfl ⟨rfl, ?_⟩
      exact Below.setCell (Below.setCell (Below.setCell H2.out.below (Nat.le_refl _) _) (Nat.le_refl _) _) (Nat.le_refl _) _
    · have hR := Lib.hid (show parseV s.data.toList = none by rw [hpv, hr, if_neg (fun h => hp h.2)])
      unfold strV at hcp
      have hq : ((str (printV K N S)).toList == s.toList) = false := by
        rw [ByteArray.toList_eq, ByteArray.toList_eq]; exact beq_eq_false_iff_ne.2 hp
      obtain ⟨q, hqq⟩ : ∃ q, q = str (printV K N S) := ⟨_, rfl⟩
      rw [← hqq] at hcp hq
      have hq2 : (q.toList != s.toList) = true := by unfold bne; rw [hq]; rfl
      have HP := Lib.hid hcp
      clear hcr hcp hr hpv hp hlen hqq
      go_enter Tryd.func30, Tryd.ntmps30
      go_wp2_with fail
      refine (HC.out _ (g _)).mono ?_
      rintro e w1 ⟨rfl, hb⟩
      have H1 := Lib.hid (ParseS.start hb K N (str S))
      clear hb
      have z0 := H1.out.var.1
      have z1 := H1.out.var.2.1
      have z2 := H1.out.var.2.2
      go_wp2_with fail
      refine (HR.out _).mono ?_
      rintro e w2 ⟨rfl, hb⟩
      have H2 := Lib.hid (H1.out.rb hb)
      clear hb z0 z1 z2 H1
      have z0 := H2.out.var.1
      have z1 := H2.out.var.2.1
      have z2 := H2.out.var.2.2
      have y0 := H2.out.res.1
      have y1 := H2.out.res.2.1
      have y2 := H2.out.res.2.2
      have yf := H2.out.fz
      go_wp2_with fail
      refine (HP.out _ H2.out.below).mono ?_
      rintro e w3 ⟨rfl, hb⟩
      have H3 := H2.out.rb hb
      clear hb z0 z1 z2 y0 y1 y2 yf H2
      have H2 := Lib.hid H3
      clear H3
      have z0 := H2.out.var.1
      have z1 := H2.out.var.2.1
      have z2 := H2.out.var.2.2
      have y0 := H2.out.res.1
      have y1 := H2.out.res.2.1
      have y2 := H2.out.res.2.2
      have yf := H2.out.fz
      go_wp2_with fail
      rw [hR.out]
      refine bodyPost_ret (v := tupP none) (by simp [results, Tryd.results30, go_sem, tupP, y0, y1, y2]) rfl ⟨rfl, ?_⟩
      exact Below.setCell (Below.setCell (Below.setCell H2.out.below (Nat.le_refl _) _) (Nat.le_refl _) _) (Nat.le_refl _) _
end Go.Proofs.YtefjfiihfbkjoaaDoor
