/-
  Plain facts: a byte 0 replaced by 0 and 255 is the escaped text; a number's eight bytes.
-/
import Derived.Test.YtkhklfnhninkjaaGreatKeyPlain
import Derived.Lib.Replace
import Derived.Laws.BitsAllLaws
namespace Go.Proofs.YtkhklfnhninkjaaGreat
open Go.RowKit

theorem index_zero_cons (l : List UInt8) : Lib.index (0 :: l) [0] = 0 := by
  unfold Lib.index
  rw [if_pos (by simp)]
theorem index_other_cons (b : UInt8) (l : List UInt8) (h : b ≠ 0) : Lib.index (b :: l) [0] = if Lib.index l [0] == -1 then -1 else Lib.index l [0] + 1 := by
  rw [Lib.index, if_neg]
  simp
  exact fun e => h e.symm
theorem replaceK_other (b : UInt8) (l : List UInt8) (h : b ≠ 0) : ∀ k, Lib.replaceK [0] [0, 255] k (b :: l) = b :: Lib.replaceK [0] [0, 255] k l
  | 0 => rfl
  | k + 1 => by
    rw [Lib.replaceK, Lib.replaceK, index_other_cons b l h]
    by_cases hi : Lib.index l [0] = -1
    · simp [hi]
    · have hge := Lib.index_ge l [0]
      have e1 : (Lib.index l [0] == -1) = false := by simpa using hi
      have e2 : (Lib.index l [0] + 1 == -1) = false := by
        rw [beq_eq_false_iff_ne]; omega
      have e3 : (Lib.index l [0] + 1).toNat = (Lib.index l [0]).toNat + 1 := by omega
      simp only [e1, Bool.false_eq_true, if_false, e2, e3, List.take_succ_cons, List.cons_append]
      have e4 : (Lib.index l [0]).toNat + 1 + [(0 : UInt8)].length = ((Lib.index l [0]).toNat + [(0 : UInt8)].length) + 1 := by omega
      rw [e4, List.drop_succ_cons]
theorem replaceK_esc : ∀ l : List UInt8, Lib.replaceK [0] [0, 255] (Lib.count l [0]) l = esc l
  | [] => by rw [Lib.count_one]; rfl
  | b :: l => by
    by_cases h : b = 0
    · subst h
      rw [Lib.count_cons_eq, Nat.add_comm, Lib.replaceK, index_zero_cons]
      have := replaceK_esc l
      simp [esc, this]
    · rw [Lib.count_cons_ne b 0 l h, replaceK_other b l h, replaceK_esc l]
      simp [esc, h]
theorem replaceAll_esc (l : List UInt8) : Lib.replaceAll l [0] [0, 255] = esc l := by
  unfold Lib.replaceAll Lib.replace
  rw [if_neg (by decide)]
  unfold Lib.replaceNum
  rw [if_pos (.inl (by decide))]
  exact replaceK_esc l
/-- The bytes of a number from the highest down, as a shift tells them. -/
theorem be8_eq (n : Nat) : be 8 n = [UInt8.ofNat (n / 2 ^ 56), UInt8.ofNat (n / 2 ^ 48), UInt8.ofNat (n / 2 ^ 40), UInt8.ofNat (n / 2 ^ 32), UInt8.ofNat (n / 2 ^ 24), UInt8.ofNat (n / 2 ^ 16), UInt8.ofNat (n / 2 ^ 8), UInt8.ofNat n] := by
  have key : ∀ a b : Nat, a % 256 = b % 256 → UInt8.ofNat a = UInt8.ofNat b := fun a b h => UInt8.toNat_inj.1 (by rw [UInt8.toNat_ofNat', UInt8.toNat_ofNat']; exact h)
  simp only [be, Nat.pow_succ, Nat.pow_zero, Nat.one_mul, Nat.div_one]
  have e := fun (a b : Nat) (x y : List UInt8) (h1 : a % 256 = b % 256) (h2 : x = y) => show UInt8.ofNat a :: x = UInt8.ofNat b :: y by rw [key a b h1, h2]
  refine e _ _ _ _ (by omega) (e _ _ _ _ (by omega) (e _ _ _ _ (by omega) (e _ _ _ _ (by omega) (e _ _ _ _ (by omega) (e _ _ _ _ (by omega) (e _ _ _ _ (by omega) (e _ _ _ _ (by omega) rfl)))))))
/-- The i-th of them. -/
theorem be8_at (n i : Nat) (h : i < 8) : (be 8 n)[i]? = some (UInt8.ofNat (n / 2 ^ (56 - 8 * i))) := by
  rw [be8_eq]
  match i, h with
  | 0, _ => rfl
  | 1, _ => rfl
  | 2, _ => rfl
  | 3, _ => rfl
  | 4, _ => rfl
  | 5, _ => rfl
  | 6, _ => rfl
  | 7, _ => show some (UInt8.ofNat n) = some (UInt8.ofNat (n / 1)); rw [Nat.div_one]
theorem xorTop (a : Nat) (h : a < 18446744073709551616) : a ^^^ 9223372036854775808 = if a < 9223372036854775808 then a + 9223372036854775808 else a - 9223372036854775808 := by
  have hd : (a ^^^ 2 ^ 63) / 2 ^ 63 = a / 2 ^ 63 ^^^ 2 ^ 63 / 2 ^ 63 := Nat.xor_div_two_pow ..
  have hm : (a ^^^ 2 ^ 63) % 2 ^ 63 = (a % 2 ^ 63) ^^^ (2 ^ 63 % 2 ^ 63) := Nat.xor_mod_two_pow ..
  rw [Nat.mod_self, Nat.xor_zero] at hm
  rw [Nat.div_self (by decide)] at hd
  have e : (9223372036854775808 : Nat) = 2 ^ 63 := by decide
  rw [e]
  by_cases hlt : a < 2 ^ 63
  · rw [Nat.div_eq_of_lt hlt] at hd
    rw [if_pos hlt]
    have : 0 ^^^ 1 = 1 := rfl
    rw [this] at hd
    omega
  · have h1 : a / 2 ^ 63 = 1 := by omega
    rw [h1] at hd
    rw [if_neg hlt]
    have : 1 ^^^ 1 = 0 := rfl
    rw [this] at hd
    omega
theorem turnBit (n : Int) (h1 : -9223372036854775808 ≤ n) (h2 : n ≤ 9223372036854775807) : bits .xor .u64 (IntKind.u64.wrap n) 9223372036854775808 = ((n + 9223372036854775808).toNat : Int) := by
  rw [IntKind.wrap_u64]
  have e : n % 18446744073709551616 = (((n % 18446744073709551616).toNat : Nat) : Int) := by omega
  have hx := u64_xor_nat (n % 18446744073709551616).toNat 9223372036854775808 (by omega) (by omega)
  rw [e]
  refine hx.trans ?_
  rw [xorTop _ (by omega)]
  by_cases h : 0 ≤ n
  · rw [if_pos (by omega)]; omega
  · rw [if_neg (by omega)]; omega
/-- Turned back. -/
theorem turnBack (u : Nat) (h : u < 18446744073709551616) : IntKind.i64.wrap (bits .xor .u64 (u : Int) 9223372036854775808) = (u : Int) - 9223372036854775808 := by
  have hx := u64_xor_nat u 9223372036854775808 h (by omega)
  have e : bits .xor .u64 (u : Int) 9223372036854775808 = ((u ^^^ 9223372036854775808 : Nat) : Int) := hx
  rw [e, xorTop _ h, IntKind.wrap_i64]
  by_cases hl : u < 9223372036854775808
  · rw [if_pos hl]; omega
  · rw [if_neg hl]; omega
end Go.Proofs.YtkhklfnhninkjaaGreat
