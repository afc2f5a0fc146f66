/-
  Contracts: a text between quotes, of the program and of the specification.
-/
import Derived.Test.YteanieiphpehcaaQPl
import Derived.WalkLawsBesides
namespace Go.Proofs.Yteanieiphpehcaa
open Go.RowKit
set_option maxRecDepth 100000

theorem wordTo_succ (s : ByteArray) (k : Nat) (h : k < s.size) : wordTo s (k + 1) = (wordTo s k && isW s[k].toNat) := by
  unfold wordTo
  rw [upto_succ, List.getD_eq_getElem?_getD, List.getElem?_eq_getElem (by simpa using h)]; rfl
theorem wordTo_false {s : ByteArray} {k : Nat} (hk : k < s.size) (h : wordTo s (k + 1) = false) : wordTo s s.size = false := by
  unfold wordTo at *
  rw [Bool.eq_false_iff] at *
  intro e
  exact h ((upto_iff _ _).2 fun i hi => (upto_iff _ _).1 e i (by omega))
theorem clsW (b : Nat) : (97 ≤ b ∧ b ≤ 122 ∧ isLet b = true ∧ isW b = true) ∨ (48 ≤ b ∧ b ≤ 57 ∧ isLet b = false ∧ isW b = true) ∨ (b = 95 ∧ isLet b = false ∧ isW b = true) ∨ (b = 45 ∧ isLet b = false ∧ isW b = true) ∨
    (isLet b = false ∧ isW b = false ∧ (b < 45 ∨ (45 < b ∧ b < 48) ∨ (57 < b ∧ b < 95) ∨ b = 96 ∨ 122 < b)) := by
  by_cases h1 : 97 ≤ b <;> by_cases h2 : b ≤ 122 <;> by_cases h3 : 48 ≤ b <;> by_cases h4 : b ≤ 57 <;> by_cases h5 : b = 95 <;> by_cases h6 : b = 45 <;> simp [isLet, isW, isDig, h1, h2, h3, h4, h5, h6] <;> omega
set_option maxHeartbeats 4000000 in
theorem implQuoted_any (s : ByteArray) (w : World) (hs : s.size ≤ maxLen) :
    Calls Try.prog 58 #[.string s] w fun e w' => e = .returned (.bool (wordOk s)) ∧ w' = w := by
  unfold maxLen at hs
  by_cases h2 : 40 < s.size
  · have H : Hid (wordOk s = false) := by show _ = _; unfold wordOk; rw [decide_eq_false (by omega)]; rfl
    go_enter Try.func58, Try.ntmps58
    go_wp2
    go_ret
    exact ⟨ret_bool H.out.symm, rfl⟩
  have H : Hid (wordOk s = wordTo s s.size) := by show _ = _; unfold wordOk; rw [decide_eq_true (by omega)]; rfl
  go_enter Try.func58, Try.ntmps58
  go_wp2
  go_loop [9] (fun i => ∃ k : Nat, k ≤ s.size ∧ i = .int .i64 k ∧ Hid (wordTo s k = true)) (fun i => s.size - (intOf i).toNat)
  case atStart => exact ⟨0, Nat.zero_le _, rfl, rfl⟩
  case round =>
    obtain ⟨k, hk, rfl, HK⟩ := hrel
    by_cases hlt : k < s.size
    · have HN : Hid (wordTo s (k + 1) = isW s[k].toNat) := by show _ = _; rw [wordTo_succ s k hlt, HK.out]; rfl
      have HL : Hid (wordTo s (k + 1) = false → wordOk s = false) := fun h => by rw [H.out]; exact wordTo_false hlt h
      rcases clsW s[k].toNat with ⟨c1, c2, c3, c4⟩ | ⟨c1, c2, c3, c4⟩ | ⟨c1, c3, c4⟩ | ⟨c1, c3, c4⟩ | ⟨c3, c4, c1 | ⟨c1, c2⟩ | ⟨c1, c2⟩ | c1 | c1⟩
      iterate 4
        · have HV : Hid (wordTo s (k + 1) = true) := HN.out.trans c4
          clear HN HL
          first
          | (have q1 : isDig s[k].toNat = false := dig_no (by omega))
          | (have q1 : isDig s[k].toNat = true := dig_yes (by omega) (by omega))
          first
          | (have q2 : ((s[k].toNat : Int) != 95) = true := by simp; omega)
          | (have q2 : ((s[k].toNat : Int) != 95) = false := by simp; omega)
          first
          | (have q3 : ((s[k].toNat : Int) != 45) = true := by simp; omega)
          | (have q3 : ((s[k].toNat : Int) != 45) = false := by simp; omega)
          go_wp2_with (first | (go_at_call 17; refine (isLetter_any _ _).mono ?_; rintro e w' ⟨rfl, rfl⟩) | (go_at_call 18; refine (isDigit_any _ _).mono ?_; rintro e w' ⟨rfl, rfl⟩))
          go_round
          case rel => exact ⟨k + 1, by omega, by go_num, HV.out⟩
          case measure => simp [intOf]; omega
      all_goals
        have HV : Hid (wordOk s = false) := HL.out (HN.out.trans c4)
        clear HN HL
        have q1 : isDig s[k].toNat = false := dig_no (by omega)
        have q2 : ((s[k].toNat : Int) != 95) = true := by simp; omega
        have q3 : ((s[k].toNat : Int) != 45) = true := by simp; omega
        go_wp2_with (first | (go_at_call 17; refine (isLetter_any _ _).mono ?_; rintro e w' ⟨rfl, rfl⟩) | (go_at_call 18; refine (isDigit_any _ _).mono ?_; rintro e w' ⟨rfl, rfl⟩))
        go_ret
        exact ⟨ret_bool HV.out.symm, rfl⟩
    · obtain rfl : k = s.size := by omega
      have HF : Hid (wordOk s = true) := by show _ = _; rw [H.out]; exact HK.out
      go_wp2
      go_ret
      exact ⟨ret_bool HF.out.symm, rfl⟩
set_option maxHeartbeats 4000000 in
theorem specWord_any (s : ByteArray) (w : World) (hs : s.size ≤ maxLen) :
    Calls Try.prog 52 #[.string s] w fun e w' => e = .returned (.bool (wordOk s)) ∧ w' = w := by
  unfold maxLen at hs
  have H : Hid (wordOk s = (decide (s.size ≤ 40) && wordTo s s.size)) := rfl
  go_enter Try.func52, Try.ntmps52
  go_wp2
  go_loop [3] (fun i => ∃ k : Nat, k ≤ s.size ∧ i = .int .i64 k ∧ Hid (wordTo s k = true)) (fun i => s.size - (intOf i).toNat)
  case atStart => exact ⟨0, Nat.zero_le _, rfl, rfl⟩
  case round =>
    obtain ⟨k, hk, rfl, HK⟩ := hrel
    by_cases hlt : k < s.size
    · have HN : Hid (wordTo s (k + 1) = isW s[k].toNat) := by show _ = _; rw [wordTo_succ s k hlt, HK.out]; rfl
      have HL : Hid (wordTo s (k + 1) = false → wordOk s = false) := fun h => by rw [H.out, wordTo_false hlt h]; simp
      rcases clsW s[k].toNat with ⟨c1, c2, c3, c4⟩ | ⟨c1, c2, c3, c4⟩ | ⟨c1, c3, c4⟩ | ⟨c1, c3, c4⟩ | ⟨c3, c4, c1 | ⟨c1, c2⟩ | ⟨c1, c2⟩ | c1 | c1⟩
      iterate 4
        · have HV : Hid (wordTo s (k + 1) = true) := HN.out.trans c4
          clear HN HL
          go_wp2
          go_round
          case rel => exact ⟨k + 1, by omega, by go_num, HV.out⟩
          case measure => simp [intOf]; omega
      all_goals
        have HV : Hid (wordOk s = false) := HL.out (HN.out.trans c4)
        clear HN HL
        have q2 : ((s[k].toNat : Int) == 95) = false := by simp; omega
        have q3 : ((s[k].toNat : Int) == 45) = false := by simp; omega
        first
        | (have q4 : (!decide ((s[k].toNat : Int) ≤ 57)) = true := by simp; omega)
        | (have q4 : (!decide ((s[k].toNat : Int) ≤ 57)) = false := by simp; omega)
        first
        | (have q5 : (!decide ((s[k].toNat : Int) ≤ 122)) = true := by simp; omega)
        | (have q5 : (!decide ((s[k].toNat : Int) ≤ 122)) = false := by simp; omega)
        go_wp2
        go_ret
        exact ⟨ret_bool HV.out.symm, rfl⟩
    · obtain rfl : k = s.size := by omega
      go_wp2
      go_ret
      exact ⟨ret_bool (by rw [H.out, HK.out, Bool.and_true]; exact decide_eq_decide.2 (by omega)), rfl⟩
end Go.Proofs.Yteanieiphpehcaa
