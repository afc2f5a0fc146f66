/-
  Plain facts: a number is got back from its bytes, and not from fewer.
-/
import Derived.Test.YtaapacpiipcogaaGetPlain
import Derived.Test.YtaapacpiipcogaaNum
namespace Go.Proofs.Ytaapacpiipcogaa
open Go.RowKit

def toB (x : Int) : UInt8 := UInt8.ofNat x.toNat
theorem toB_small {U : Nat} (h : U < 256) : (toB (U : Int)).toNat = U := by
  unfold toB; rw [Int.toNat_natCast, UInt8.toNat_ofNat', Nat.mod_eq_of_lt h]
theorem sum_step (k u0 U : Nat) : u0 + U % 128 * 2 ^ (7 * k) + U / 128 * 2 ^ (7 * (k + 1)) = u0 + U * 2 ^ (7 * k) := by
  have e : 2 ^ (7 * (k + 1)) = 128 * 2 ^ (7 * k) := by rw [Nat.mul_add, Nat.pow_add, Nat.mul_comm]
  have h := Nat.div_add_mod U 128
  rw [e, ← Nat.mul_assoc]
  have h2 : U * 2 ^ (7 * k) = (U % 128) * 2 ^ (7 * k) + (U / 128 * 128) * 2 ^ (7 * k) := by rw [← Nat.add_mul]; congr 1; omega
  rw [h2]; omega
/-- Read from the k-th byte on: the number whose bytes stand there. -/
theorem rd_put : ∀ (f k u0 U : Nat) (rest : List UInt8), k + f = 9 → U < 2 ^ (64 - 7 * k) → (0 < k → 0 < U) →
    rd k u0 ((putL f U).map toB ++ rest) = (unz (u0 + U * 2 ^ (7 * k)), k + (putL f U).length, 0)
  | 0, k, u0, U, rest, hk, hU, hp => by
    obtain rfl : k = 9 := by omega
    have hU2 : U < 2 := by simpa using hU
    rw [putL_small 0 U (by omega)]
    have hb := toB_small (U := U) (by omega)
    rw [List.map_cons, List.map_nil, List.singleton_append, rd_last (by rw [hb]; omega) (by rw [hb]; omega) (by rw [hb]; omega), hb, Nat.mod_eq_of_lt (by omega)]
    rfl
  | f + 1, k, u0, U, rest, hk, hU, hp => by
    by_cases hs : U < 128
    · rw [putL_small _ U hs]
      have hb := toB_small (U := U) (by omega)
      rw [List.map_cons, List.map_nil, List.singleton_append, rd_last (by rw [hb]; omega) (by rw [hb]; omega) (by rw [hb]; omega), hb, Nat.mod_eq_of_lt (by omega)]
      rfl
    · rw [putL_big f U hs]
      have hb := toB_small (U := U % 128 + 128) (by omega)
      rw [List.map_cons, List.cons_append, rd_more (by omega) (by rw [hb]; omega), hb, show (U % 128 + 128) % 128 = U % 128 by omega]
      rw [rd_put f (k + 1) _ (U / 128) rest (by omega) (pow_step k U (by omega) hU) (by omega), sum_step, List.length_cons]
      simp; omega
/-- All bytes but the last: too short. -/
theorem rd_cut : ∀ (f k u0 U : Nat), k + f = 9 → U < 2 ^ (64 - 7 * k) → rd k u0 ((putL f U).map toB).dropLast = (0, 0, 4)
  | 0, k, u0, U, hk, hU => by simp [putL, rd]
  | f + 1, k, u0, U, hk, hU => by
    by_cases hs : U < 128
    · rw [putL_small _ U hs]; simp [rd]
    · rw [putL_big f U hs]
      have hb := toB_small (U := U % 128 + 128) (by omega)
      have hne : (putL f (U / 128)).map toB ≠ [] := by
        cases f <;> simp [putL]
        split <;> simp
      rw [List.map_cons, List.dropLast_cons_of_ne_nil hne, rd_more (by omega) (by rw [hb]; omega)]
      exact rd_cut f (k + 1) _ (U / 128) (by omega) (pow_step k U (by omega) hU)
theorem unz_fold (n : Int) : unz (foldN n) = n := by
  unfold unz foldN
  split <;> split <;> omega
def numB (n : Int) : List UInt8 := (putL 9 (foldN n)).map toB
theorem numS_list (n : Int) : (strOfNums (putL 9 (foldN n))).data.toList = numB n := strOfNums_data _
theorem numB_pos (n : Int) : 0 < (numB n).length := by
  unfold numB; rw [List.length_map, putL]; split <;> simp
theorem rdAt_put (n : Int) (h1 : -9223372036854775808 ≤ n) (h2 : n ≤ 9223372036854775807) (a b : List UInt8) : rdAt (a ++ numB n ++ b) a.length = (n, (numB n).length, 0) := by
  unfold rdAt
  rw [List.append_assoc, List.drop_append_of_le_length (Nat.le_refl _), List.drop_length, List.nil_append]
  have h := rd_put 9 0 0 (foldN n) b rfl (foldN_lt n h1 h2) (by omega)
  unfold numB
  rw [h]
  simp [unz_fold]
theorem rdAt_cut (n : Int) (h1 : -9223372036854775808 ≤ n) (h2 : n ≤ 9223372036854775807) : rdAt (numB n).dropLast 0 = (0, 0, 4) := by
  unfold rdAt
  rw [List.drop_zero]
  exact rd_cut 9 0 0 (foldN n) rfl (foldN_lt n h1 h2)
end Go.Proofs.Ytaapacpiipcogaa
