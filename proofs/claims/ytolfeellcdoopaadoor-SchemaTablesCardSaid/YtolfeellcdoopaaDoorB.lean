import Derived.Test.YtolfeellcdoopaaDoorA
import Derived.Test.YtolfeellcdoopaaDoorBytes
import Derived.Deep.DeepMust
namespace Go.Proofs.YtolfeellcdoopaaDoor
open Go.ChangeShapes Go.WideShapes Go.ChangeAt Go.RowKit Oct By

theorem info8 : (Tryd.prog.info? 5).map (fun i => (i.zero, i.size, i.bytes)) = some (some (.int .u8 0), 1, 1) := by kernel_rfl

theorem or128 : ∀ x : Fin 256, bits BinOp.or IntKind.u8 (x.val : Int) 128 = ((x.val % 128 + 128 : Nat) : Int) := by decide +kernel

theorem pow_cast (k : Nat) : (2 : Int) ^ (7 * k) = ((128 ^ k : Nat) : Int) := by
  rw [show (128 : Nat) = 2 ^ 7 from rfl, ← Nat.pow_mul, Int.natCast_pow]; rfl
theorem div_cast (n k : Nat) : (n : Int) / 2 ^ (7 * k) % 256 = ((n / 128 ^ k % 256 : Nat) : Int) := by
  rw [pow_cast]; rfl
theorem low_c8 (n k : Nat) : c8 (low n k) = .int .u8 (bits BinOp.or IntKind.u8 ((n : Int) / 2 ^ (7 * k) % 256) 128) := by
  have h := or128 ⟨n / 128 ^ k % 256, Nat.mod_lt _ (by decide)⟩
  rw [div_cast, h]
  unfold c8 low
  rw [UInt8.toNat_ofNat']
  congr 2
  simp only []
  omega
theorem last_c8 (n k : Nat) : c8 (UInt8.ofNat (n / 128 ^ k)) = .int .u8 ((n : Int) / 2 ^ (7 * k) % 256) := by
  rw [div_cast]
  unfold c8
  rw [UInt8.toNat_ofNat']
theorem heads_length (n : Nat) : ∀ k, (heads n k).length = k
  | 0 => rfl
  | k + 1 => by simp [heads, heads_length n k]

theorem apart_any (a : Option Addr) (len cap : Nat) (w : World) (h1 : len ≤ cap) (_h2 : cap ≤ 9223372036854775807) :
    Calls Tryd.prog 111 #[.slice a len cap] w fun e w' => e = .returned (.slice a len len) ∧ w = w' := by
  go_enter Tryd.func111, Tryd.ntmps111
  go_wp2
  go_ret
  exact ⟨rfl, rfl⟩

def Loop (w : World) (xs : List UInt8) (n k : Nat) (v : Value) (wr : World) : Prop :=
  Full wr w.heap.size 5 1 v (xs.length + k) ((xs ++ heads n k).map c8) ∧ Below w.heap.size w wr

theorem Loop.step {w : World} {xs : List UInt8} {n k : Nat} {v' : Value} {wr w' : World} (hL : Below w.heap.size w wr)
    (h1 : w'.ownsRow w.heap.size 5 1 v' (xs.length + k + 1) ((xs ++ heads n k).map c8 ++ [c8 (low n k)])) (h2 : Below w.heap.size wr w') : Loop w xs n (k + 1) v' w' := by
  refine ⟨.own ?_, hL.trans h2⟩
  have e : (xs ++ heads n (k + 1)).map c8 = (xs ++ heads n k).map c8 ++ [c8 (low n k)] := by simp [heads]
  rw [e]
  exact h1

theorem Loop.last {w : World} {xs : List UInt8} {n k : Nat} {v' : Value} {wr w' : World} (hL : Below w.heap.size w wr) (hk : k + 1 = sizeN n)
    (h1 : w'.ownsRow w.heap.size 5 1 v' (xs.length + k + 1) ((xs ++ heads n k).map c8 ++ [c8 (UInt8.ofNat (n / 128 ^ k))])) (h2 : Below w.heap.size wr w') : Put w 5 (xs ++ uintB n) (.returned v') w' := by
  refine Put.mk ?_ (by rw [List.length_append]; have := sizeN_pos n; unfold sizeN at this; omega) (hL.trans h2)
  have e : (xs ++ uintB n).map c8 = (xs ++ heads n k).map c8 ++ [c8 (UInt8.ofNat (n / 128 ^ k))] := by
    rw [uintB_heads n, ← hk]; simp
  have el : (xs ++ uintB n).length = xs.length + k + 1 := by
    rw [List.length_append]; show xs.length + sizeN n = _; omega
  rw [e, el]
  exact h1

set_option maxRecDepth 100000 in
theorem putuint_any (v : Value) (xs : List UInt8) (n : Nat) (w : World) (hb : Bs w v xs) (hx : xs.length ≤ 100000000) (hn : n < U64) :
    Calls Tryd.prog 104 #[v, .int .u64 n] w (Put w 5 (xs ++ uintB n)) := by
  obtain ⟨i0, hi, hz0, hz1, hz2⟩ := info_parts info8
  have hz := sizeN_pos n
  have hz10 := sizeN_le10 hn
  have Hn := Lib.hid hn; clear hn
  obtain ⟨a, cap, rfl, h1, h2, h3, h4⟩ := hb
  have hcap : cap ≤ 9223372036854775807 := by unfold maxLen at h2; omega
  have hst : Loop w xs n 0 (.slice a xs.length xs.length) w :=
    ⟨.inl ⟨a, rfl, fun h => by have := h3 h; omega, by simp [heads], fun ad ha j u hu => h4 ad ha j u (by simpa [heads] using hu)⟩, Below.refl _ _⟩
  have Hst := Lib.hid hst
  clear hst h3 h4 h2
  go_enter Tryd.func104, Tryd.ntmps104
  go_wp2_with (first | (go_at_call 111; refine (apart_any _ _ _ _ h1 hcap).mono ?_; rintro e w' ⟨rfl, rfl⟩) | (go_at_call 112; refine (size_any _ _ Hn.out).mono ?_; rintro e w' ⟨rfl, rfl⟩))

  go_loopw [5, 14] (fun v i wr => ∃ k : Nat, k + 1 ≤ sizeN n ∧ i = .int .i64 k ∧ Loop w xs n k v wr) (fun _ i _ => sizeN n - (intOf i).toNat)
  case atStart => exact ⟨0, by omega, rfl, Hst.out⟩
  case round =>
    obtain ⟨k, hk, rfl, hf, hbel⟩ := hrel
    have Hf := Lib.hid (hf.alloc (.cells #[.int .u8 (bits BinOp.or IntKind.u8 ((n : Int) / 2 ^ (7 * k) % 256) 128)] 5))
    have Hf2 := Lib.hid (hf.alloc (.cells #[.int .u8 ((n : Int) / 2 ^ (7 * k) % 256)] 5))
    have Hb := Lib.hid hbel
    have hsz := hbel.size
    clear hf hbel
    by_cases hlt : k < sizeN n - 1
    · go_wp2_with (at_builtin; go_must (refine wpList_append_fo _ rfl _ _ 44 rfl 5 i0 (.int .u8 0) 1 1 Tryd.underlying44 hi hz0 hz1 hz2 rfl (by decide) w.heap.size _ (xs.length + k) _ rfl Hf.out ⟨wr.heap.size, 0, none⟩ 1 1 [.int .u8 (bits BinOp.or IntKind.u8 ((n : Int) / 2 ^ (7 * k) % 256) 128)] rfl rfl ?c1 ?c2 (by decide) ?c3 ?c4 ?c5 ?_))
      case c1 => exact cell_one_new _ _ _
      case c2 => intro u hu; simp at hu; subst hu; rfl
      case c3 => unfold maxLen; omega
      case c4 => omega
      case c5 => simp; omega
      intro v' w1 hown hb1
      have HL := Lib.hid (Loop.step (xs := xs) (n := n) (k := k) Hb.out (by rw [low_c8]; simpa using hown) (((Below.refl _ _).alloc hsz _).trans hb1))
      clear hown hb1
      go_wp2
      go_roundw
      case rel => exact ⟨k + 1, by omega, by go_num, HL.out⟩
      case measure => simp [intOf]; omega
    · have hge : k + 1 = sizeN n := by omega
      have ek : sizeN n - 1 = k := by omega
      have Hge := Lib.hid hge; clear hge
      have Hek := Lib.hid ek; clear ek
      have ec : ((sizeN n : Int) - 1) = (k : Int) := by have := Hge.out; omega
      go_wp2_with (at_builtin; go_must (refine wpList_append_fo _ rfl _ _ 44 rfl 5 i0 (.int .u8 0) 1 1 Tryd.underlying44 hi hz0 hz1 hz2 rfl (by decide) w.heap.size _ (xs.length + k) _ rfl Hf2.out ⟨wr.heap.size, 0, none⟩ 1 1 [.int .u8 ((n : Int) / 2 ^ (7 * k) % 256)] rfl rfl ?c1 ?c2 (by decide) ?c3 ?c4 ?c5 ?_))
      case c1 => exact cell_one_new _ _ _
      case c2 => intro u hu; simp at hu; subst hu; rfl
      case c3 => unfold maxLen; omega
      case c4 => omega
      case c5 => simp; omega
      intro v' w1 hown hb1
      have HL := Lib.hid (Loop.last (xs := xs) (n := n) (k := k) Hb.out Hge.out (by rw [last_c8]; simpa using hown) (((Below.refl _ _).alloc hsz _).trans hb1))
      clear hown hb1
      go_wp2
      go_ret
      exact HL.out
end Go.Proofs.YtolfeellcdoopaaDoor
