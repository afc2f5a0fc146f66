/-
  Plain facts: a number read from its bytes.
-/
import Derived.Test.YtaapacpiipcogaaPlain
namespace Go.Proofs.Ytaapacpiipcogaa
open Go.RowKit

def unz (u : Nat) : Int := if u % 2 = 1 then -((u / 2 : Nat) : Int) - 1 else ((u / 2 : Nat) : Int)
/-- The number, how many bytes it has, the code. -/
def rd (k u : Nat) : List UInt8 → Int × Nat × Nat
  | [] => (0, 0, 4)
  | b :: l =>
    if k = 9 ∧ 1 < b.toNat then (0, 0, 3)
    else if b.toNat < 128 then (if b.toNat = 0 ∧ 0 < k then (0, 0, 3) else (unz (u + b.toNat % 128 * 2 ^ (7 * k)), k + 1, 0))
    else rd (k + 1) (u + b.toNat % 128 * 2 ^ (7 * k)) l
def rdAt (l : List UInt8) (at' : Nat) : Int × Nat × Nat := rd 0 0 (l.drop at')
theorem drop_cons (s : ByteArray) (k : Nat) (h : k < s.size) : s.data.toList.drop k = s[k] :: s.data.toList.drop (k + 1) := by
  rw [List.drop_eq_getElem_cons (by simpa using h)]; rfl
theorem drop_none (s : ByteArray) (k : Nat) (h : s.size ≤ k) : s.data.toList.drop k = [] := List.drop_eq_nil_of_le (by simpa using h)
theorem rd_short (k u : Nat) : rd k u [] = (0, 0, 4) := rfl
theorem rd_big {k u : Nat} {b : UInt8} {l : List UInt8} (h : k = 9) (hb : 1 < b.toNat) : rd k u (b :: l) = (0, 0, 3) := by simp [rd, h, hb]
theorem rd_nought {k u : Nat} {b : UInt8} {l : List UInt8} (h : 0 < k) (hb : b.toNat = 0) : rd k u (b :: l) = (0, 0, 3) := by simp [rd, h, hb]
theorem rd_last {k u : Nat} {b : UInt8} {l : List UInt8} (h : ¬ (k = 9 ∧ 1 < b.toNat)) (hb : b.toNat < 128) (hz : ¬ (b.toNat = 0 ∧ 0 < k)) : rd k u (b :: l) = (unz (u + b.toNat % 128 * 2 ^ (7 * k)), k + 1, 0) := by
  simp only [rd, if_neg h, if_pos hb, if_neg hz]
theorem rd_more {k u : Nat} {b : UInt8} {l : List UInt8} (h : ¬ k = 9) (hb : ¬ b.toNat < 128) : rd k u (b :: l) = rd (k + 1) (u + b.toNat % 128 * 2 ^ (7 * k)) l := by
  have h' : ¬ (k = 9 ∧ 1 < b.toNat) := fun e => h e.1
  rw [rd, if_neg h', if_neg hb]
theorem u8_and127 (b : Nat) (h : b < 256) : bits .and .u8 (b : Int) 127 = ((b % 128 : Nat) : Int) := by
  have := u8_and_nat b 127 h (by omega)
  simpa [nat_mask7] using this
theorem next_lt {k u b : Nat} (hu : u < 2 ^ (7 * k)) : u + b % 128 * 2 ^ (7 * k) < 2 ^ (7 * (k + 1)) := by
  have e : 2 ^ (7 * (k + 1)) = 128 * 2 ^ (7 * k) := by rw [Nat.mul_add, Nat.pow_add, Nat.mul_comm]
  rw [e]
  have : b % 128 < 128 := Nat.mod_lt _ (by omega)
  have h2 : b % 128 * 2 ^ (7 * k) ≤ 127 * 2 ^ (7 * k) := Nat.mul_le_mul_right _ (by omega)
  omega
theorem pow_le {k : Nat} (h : k ≤ 9) : 2 ^ (7 * k) ≤ 9223372036854775808 := Nat.pow_le_pow_right (n := 2) (by omega) (show 7 * k ≤ 63 by omega)
theorem or_join {k u b : Nat} (hu : u < 2 ^ (7 * k)) : u ||| b * 2 ^ (7 * k) = u + b * 2 ^ (7 * k) := by
  rw [Nat.or_comm, nat_join (7 * k) (b * 2 ^ (7 * k)) u (by simp) hu, Nat.add_comm]
/-- The product fits: at the tenth byte it is 0 or 1. -/
theorem prod_lt {k b : Nat} (hk : k ≤ 9) (h : ¬ (k = 9 ∧ 1 < b)) : b % 128 * 2 ^ (7 * k) < 18446744073709551616 := by
  by_cases h9 : k = 9
  · subst h9
    have : b ≤ 1 := by
      rcases Nat.lt_or_ge 1 b with h1 | h1
      · exact absurd ⟨rfl, h1⟩ h
      · exact h1
    have : b % 128 ≤ 1 := by omega
    have : b % 128 * 2 ^ (7 * 9) ≤ 1 * 2 ^ (7 * 9) := Nat.mul_le_mul_right _ this
    omega
  · have h1 := pow_le (k := k + 1) (by omega)
    have h2 := next_lt (k := k) (u := 0) (b := b) (Nat.two_pow_pos _)
    omega
theorem or_u64 {k u b : Nat} (hu : u < 2 ^ (7 * k)) (hp : b % 128 * 2 ^ (7 * k) < 18446744073709551616) (hk : k ≤ 9) :
    bits .or .u64 (u : Int) (IntKind.u64.wrap ((b : Int) % 128 * 2 ^ (7 * k))) = ((u + b % 128 * 2 ^ (7 * k) : Nat) : Int) := by
  have e : (b : Int) % 128 * 2 ^ (7 * k) = ((b % 128 * 2 ^ (7 * k) : Nat) : Int) := by simp
  have hw : IntKind.u64.wrap ((b % 128 * 2 ^ (7 * k) : Nat) : Int) = ((b % 128 * 2 ^ (7 * k) : Nat) : Int) := by rw [IntKind.wrap_u64]; omega
  have hu2 : u < 18446744073709551616 := Nat.lt_of_lt_of_le hu (Nat.le_trans (pow_le hk) (by omega))
  rw [e, hw, u64_or_nat _ _ hu2 hp, or_join hu]
theorem u64_and1 (u : Nat) (hu : u < 18446744073709551616) : bits .and .u64 (u : Int) 1 = ((u % 2 : Nat) : Int) := by
  have := u64_and_nat u 1 hu (by omega)
  simpa [nat_mask1] using this
theorem i64_xor_neg (a : Nat) (ha : a < 9223372036854775808) : bits .xor .i64 (a : Int) (-1) = -(a : Int) - 1 := by
  show IntKind.i64.wrap ((BitVec.ofInt 64 (a : Int) ^^^ BitVec.ofInt 64 (-1)).toNat : Int) = _
  have h1 : BitVec.ofInt 64 (-1) = BitVec.allOnes 64 := by decide
  rw [h1, BitVec.xor_allOnes, BitVec.toNat_not, ofInt_u64 a (by omega)]
  simp [IntKind.wrap, IntKind.bits, IntKind.signed]
  omega
theorem i64_xor_zero (a : Nat) (ha : a < 9223372036854775808) : bits .xor .i64 (a : Int) 0 = (a : Int) := by
  show IntKind.i64.wrap ((BitVec.ofInt 64 (a : Int) ^^^ BitVec.ofInt 64 0).toNat : Int) = _
  have h1 : BitVec.ofInt 64 0 = 0#64 := by decide
  rw [h1, BitVec.xor_zero, ofInt_u64 a (by omega)]
  simp [IntKind.wrap, IntKind.bits, IntKind.signed]
  omega
theorem unz_odd {u : Nat} (hu : u < 18446744073709551616) (h : u % 2 = 1) : bits .xor .i64 ((u : Int) / 2) (-1) = unz u := by
  have := i64_xor_neg (u / 2) (by omega)
  rw [unz, if_pos h, ← this]; simp
theorem unz_even {u : Nat} (hu : u < 18446744073709551616) (h : ¬ u % 2 = 1) : bits .xor .i64 ((u : Int) / 2) 0 = unz u := by
  have := i64_xor_zero (u / 2) (by omega)
  rw [unz, if_neg h, ← this]; simp
theorem or_first (b : Nat) : bits .or .u64 0 ((b : Int) % 128) = ((b % 128 : Nat) : Int) := by
  have := u64_or_nat 0 (b % 128) (by omega) (by omega)
  simpa using this
theorem wrap_prod {k b : Nat} (hp : b % 128 * 2 ^ (7 * k) < 18446744073709551616) : IntKind.u64.wrap ((b : Int) % 128 * 2 ^ (7 * k)) = ((b % 128 * 2 ^ (7 * k) : Nat) : Int) := by
  have e : (b : Int) % 128 * 2 ^ (7 * k) = ((b % 128 * 2 ^ (7 * k) : Nat) : Int) := by simp
  rw [e, IntKind.wrap_u64]; omega
theorem sum_lt {k u b : Nat} (hk : k ≤ 9) (hu : u < 2 ^ (7 * k)) (hA : ¬ (k = 9 ∧ 1 < b)) : u + b % 128 * 2 ^ (7 * k) < 18446744073709551616 := by
  have := pow_le hk
  rcases Nat.lt_or_ge k 9 with h9 | h9
  · have := next_lt (b := b) hu
    have := pow_le (k := k + 1) (by omega)
    omega
  · obtain rfl : k = 9 := by omega
    have h1 : ¬ 1 < b := fun h => hA ⟨rfl, h⟩
    have : b % 128 ≤ 1 := by omega
    have : b % 128 * 2 ^ (7 * 9) ≤ 1 * 2 ^ (7 * 9) := Nat.mul_le_mul_right _ this
    omega
theorem unz_eq (u : Nat) : unz u = if u % 2 = 1 then -((u / 2 : Nat) : Int) - 1 else ((u / 2 : Nat) : Int) := rfl
end Go.Proofs.Ytaapacpiipcogaa
