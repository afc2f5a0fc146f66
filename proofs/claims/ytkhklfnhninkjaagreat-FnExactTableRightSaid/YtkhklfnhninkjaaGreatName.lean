/-
  Contracts: NameRight of the program and of the specification; the law on both.
-/
import Derived.Test.YtkhklfnhninkjaaGreatRows
import Derived.Test.YtkhklfnhninkjaaGreatPlain
import Derived.WalkKit
import Derived.WalkLawsBesides
namespace Go.Proofs.YtkhklfnhninkjaaGreat
open Go.RowKit

def isLet (b : Nat) : Bool := decide (97 ≤ b) && decide (b ≤ 122)
def isNameB (b : Nat) : Bool := isLet b || (decide (48 ≤ b) && decide (b ≤ 57)) || decide (b = 95)
def nameTo (l : List UInt8) (k : Nat) : Bool := (l.take k).all (fun b => isNameB b.toNat) && (decide (k = 0) || isLet (l.headD 0).toNat)
/-- Is it a name? -/
def nameOk (l : List UInt8) : Bool := decide (1 ≤ l.length) && decide (l.length ≤ 20) && nameTo l l.length

theorem nameTo_zero (l : List UInt8) : nameTo l 0 = true := by simp [nameTo]
theorem nameTo_succ (l : List UInt8) (k : Nat) (h : k < l.length) : nameTo l (k + 1) = (nameTo l k && (isNameB l[k].toNat && (!decide (k = 0) || isLet l[k].toNat))) := by
  unfold nameTo
  rw [List.take_succ_eq_append_getElem h, List.all_append]
  cases k with
  | zero => cases l with
    | nil => simp at h
    | cons b l => simp
  | succ k =>
    simp only [List.all_cons, List.all_nil, Bool.and_true]
    cases isNameB l[k + 1].toNat <;> simp
theorem nameTo_le (l : List UInt8) (k : Nat) (h : k ≤ l.length) (hk : nameTo l k = false) : nameTo l l.length = false := by
  unfold nameTo at *
  rw [List.take_length]
  by_cases h0 : k = 0
  · simp [h0] at hk
  · rw [Bool.and_eq_false_iff] at *
    rcases hk with hk | hk
    · left
      rw [List.all_eq_false] at *
      obtain ⟨x, hx, hb⟩ := hk
      exact ⟨x, List.mem_of_mem_take hx, hb⟩
    · right
      simp [h0] at hk
      have : ¬ l.length = 0 := by omega
      simp [this, hk]
theorem nameOk_of (l : List UInt8) (h1 : 1 ≤ l.length) (h2 : l.length ≤ 20) : nameOk l = nameTo l l.length := by
  simp [nameOk, h1, h2]
theorem nameOk_not (l : List UInt8) (h : l.length < 1 ∨ 20 < l.length) : nameOk l = false := by
  unfold nameOk
  rcases h with h | h
  · have : ¬ 1 ≤ l.length := by omega
    simp [this]
  · have : ¬ l.length ≤ 20 := by omega
    simp [this]
def isDig (b : Nat) : Bool := decide (48 ≤ b) && decide (b ≤ 57)
theorem isLetter_any (b : Nat) (w : World) :
    Calls Tryz.prog 68 #[.int .u8 b] w fun e w' => e = .returned (.bool (isLet b)) ∧ w' = w := by
  by_cases h1 : 97 ≤ b
  · by_cases h2 : b ≤ 122
    · have H : Hid (isLet b = true) := by show _ = _; simp [isLet, h1, h2]
      go_enter Tryz.func68, Tryz.ntmps68
      go_wp2
      go_ret
      exact ⟨ret_bool (by rw [H.out]; simp; omega), rfl⟩
    · have H : Hid (isLet b = false) := by show _ = _; simp [isLet, h2]
      go_enter Tryz.func68, Tryz.ntmps68
      go_wp2
      go_ret
      exact ⟨ret_bool (by rw [H.out]; simp; omega), rfl⟩
  · have H : Hid (isLet b = false) := by show _ = _; simp [isLet, h1]
    go_enter Tryz.func68, Tryz.ntmps68
    go_wp2
    go_ret
    exact ⟨ret_bool (by rw [H.out]), rfl⟩
theorem isDigit_any (b : Nat) (w : World) :
    Calls Tryz.prog 69 #[.int .u8 b] w fun e w' => e = .returned (.bool (isDig b)) ∧ w' = w := by
  by_cases h1 : 48 ≤ b
  · by_cases h2 : b ≤ 57
    · have H : Hid (isDig b = true) := by show _ = _; simp [isDig, h1, h2]
      go_enter Tryz.func69, Tryz.ntmps69
      go_wp2
      go_ret
      exact ⟨ret_bool (by rw [H.out]; simp; omega), rfl⟩
    · have H : Hid (isDig b = false) := by show _ = _; simp [isDig, h2]
      go_enter Tryz.func69, Tryz.ntmps69
      go_wp2
      go_ret
      exact ⟨ret_bool (by rw [H.out]; simp; omega), rfl⟩
  · have H : Hid (isDig b = false) := by show _ = _; simp [isDig, h1]
    go_enter Tryz.func69, Tryz.ntmps69
    go_wp2
    go_ret
    exact ⟨ret_bool (by rw [H.out]), rfl⟩
theorem dig_yes {b : Nat} (h1 : 48 ≤ b) (h2 : b ≤ 57) : isDig b = true := by simp [isDig, h1, h2]
theorem dig_no {b : Nat} (h : b < 48 ∨ 57 < b) : isDig b = false := by
  unfold isDig
  rcases h with h | h
  · have : ¬ 48 ≤ b := by omega
    simp [this]
  · have : ¬ b ≤ 57 := by omega
    simp [this]
theorem cls (b : Nat) : (97 ≤ b ∧ b ≤ 122 ∧ isLet b = true ∧ isNameB b = true) ∨ (48 ≤ b ∧ b ≤ 57 ∧ isLet b = false ∧ isNameB b = true) ∨ (b = 95 ∧ isLet b = false ∧ isNameB b = true) ∨
    (isLet b = false ∧ isNameB b = false ∧ (b < 48 ∨ (57 < b ∧ b < 95) ∨ b = 96 ∨ 122 < b)) := by
  by_cases h1 : 97 ≤ b <;> by_cases h2 : b ≤ 122 <;> by_cases h3 : 48 ≤ b <;> by_cases h4 : b ≤ 57 <;> by_cases h5 : b = 95 <;> simp [isLet, isNameB, h1, h2, h3, h4, h5] <;> omega

set_option maxHeartbeats 1000000 in
theorem specName_any (s : ByteArray) (w : World) :
    Calls Tryz.prog 25 #[.string s] w fun e w' => e = .returned (.bool (nameOk s.data.toList)) ∧ w' = w := by
  by_cases h1 : s.size < 1
  · have H : Hid (nameOk s.data.toList = false) := nameOk_not _ (by rw [len_data]; omega)
    go_enter Tryz.func25, Tryz.ntmps25
    go_wp2
    go_ret
    exact ⟨ret_bool H.out.symm, rfl⟩
  by_cases h2 : 20 < s.size
  · have H : Hid (nameOk s.data.toList = false) := nameOk_not _ (by rw [len_data]; omega)
    go_enter Tryz.func25, Tryz.ntmps25
    go_wp2
    go_ret
    exact ⟨ret_bool H.out.symm, rfl⟩
  have H : Hid (nameOk s.data.toList = nameTo s.data.toList s.size) := by
    show _ = _
    rw [nameOk_of _ (by rw [len_data]; omega) (by rw [len_data]; omega)]; rfl
  go_enter Tryz.func25, Tryz.ntmps25
  go_wp2
  go_loop [3] (fun i => ∃ k : Nat, k ≤ s.size ∧ i = .int .i64 k ∧ Hid (nameTo s.data.toList k = true)) (fun i => s.size - (intOf i).toNat)
  case atStart => exact ⟨0, Nat.zero_le _, rfl, nameTo_zero _⟩
  case round =>
    obtain ⟨k, hk, rfl, HK⟩ := hrel
    by_cases hlt : k < s.size
    · have HN : Hid (nameTo s.data.toList (k + 1) = (isNameB s[k].toNat && (!decide (k = 0) || isLet s[k].toNat))) := by
        show _ = _
        rw [nameTo_succ _ _ (by simpa using hlt), HK.out]; rfl
      have HL : Hid (nameTo s.data.toList (k + 1) = false → nameOk s.data.toList = false) := fun h => by
        rw [H.out]; have := nameTo_le s.data.toList (k + 1) (by simp; omega) h; simpa using this
      rcases Nat.eq_zero_or_pos k with rfl | hkp
      · rcases cls s[0].toNat with ⟨c1, c2, c3, c4⟩ | ⟨c1, c2, c3, c4⟩ | ⟨c1, c3, c4⟩ | ⟨c3, c4, c1 | ⟨c1, c2⟩ | c1 | c1⟩
        · have HV : Hid (nameTo s.data.toList (0 + 1) = true) := by
            show _ = _
            rw [HN.out, c3, c4]; simp
          clear HN HL c3 c4
          have q1 : ((s[0].toNat : Int) != 95) = true := by simp; omega
          have q2 : (!decide ((s[0].toNat : Int) ≤ 122)) = false := by simp; omega
          have q3 : (!decide ((s[0].toNat : Int) ≤ 57)) = true := by simp; omega
          go_wp2
          go_round
          case rel => exact ⟨0 + 1, by omega, by go_num, HV.out⟩
          case measure => simp [intOf]; omega
        · have HV : Hid (nameOk s.data.toList = false) := by
            refine HL.out ?_
            rw [HN.out, c3, c4]; simp
          clear HN HL c3 c4
          have q1 : ((s[0].toNat : Int) != 95) = true := by simp; omega
          have q2 : (!decide ((s[0].toNat : Int) ≤ 122)) = false := by simp; omega
          have q3 : (!decide ((s[0].toNat : Int) ≤ 57)) = false := by simp; omega
          go_wp2
          go_ret
          exact ⟨ret_bool HV.out.symm, rfl⟩
        · have HV : Hid (nameOk s.data.toList = false) := by
            refine HL.out ?_
            rw [HN.out, c3, c4]; simp
          clear HN HL c3 c4
          have q1 : ((s[0].toNat : Int) != 95) = false := by simp; omega
          have q2 : (!decide ((s[0].toNat : Int) ≤ 122)) = false := by simp; omega
          have q3 : (!decide ((s[0].toNat : Int) ≤ 57)) = true := by simp; omega
          go_wp2
          go_ret
          exact ⟨ret_bool HV.out.symm, rfl⟩
        · have HV : Hid (nameOk s.data.toList = false) := by
            refine HL.out ?_
            rw [HN.out, c3, c4]; simp
          clear HN HL c3 c4
          have q1 : ((s[0].toNat : Int) != 95) = true := by simp; omega
          have q2 : (!decide ((s[0].toNat : Int) ≤ 122)) = false := by simp; omega
          have q3 : (!decide ((s[0].toNat : Int) ≤ 57)) = false := by simp; omega
          go_wp2
          go_ret
          exact ⟨ret_bool HV.out.symm, rfl⟩
        · have HV : Hid (nameOk s.data.toList = false) := by
            refine HL.out ?_
            rw [HN.out, c3, c4]; simp
          clear HN HL c3 c4
          have q1 : ((s[0].toNat : Int) != 95) = true := by simp; omega
          have q2 : (!decide ((s[0].toNat : Int) ≤ 122)) = false := by simp; omega
          have q3 : (!decide ((s[0].toNat : Int) ≤ 57)) = true := by simp; omega
          go_wp2
          go_ret
          exact ⟨ret_bool HV.out.symm, rfl⟩
        · have HV : Hid (nameOk s.data.toList = false) := by
            refine HL.out ?_
            rw [HN.out, c3, c4]; simp
          clear HN HL c3 c4
          have q1 : ((s[0].toNat : Int) != 95) = true := by simp; omega
          have q2 : (!decide ((s[0].toNat : Int) ≤ 122)) = false := by simp; omega
          have q3 : (!decide ((s[0].toNat : Int) ≤ 57)) = true := by simp; omega
          go_wp2
          go_ret
          exact ⟨ret_bool HV.out.symm, rfl⟩
        · have HV : Hid (nameOk s.data.toList = false) := by
            refine HL.out ?_
            rw [HN.out, c3, c4]; simp
          clear HN HL c3 c4
          have q1 : ((s[0].toNat : Int) != 95) = true := by simp; omega
          have q2 : (!decide ((s[0].toNat : Int) ≤ 122)) = true := by simp; omega
          have q3 : (!decide ((s[0].toNat : Int) ≤ 57)) = true := by simp; omega
          go_wp2
          go_ret
          exact ⟨ret_bool HV.out.symm, rfl⟩
      · have hk0 : ¬ k = 0 := by omega
        rcases cls s[k].toNat with ⟨c1, c2, c3, c4⟩ | ⟨c1, c2, c3, c4⟩ | ⟨c1, c3, c4⟩ | ⟨c3, c4, c1 | ⟨c1, c2⟩ | c1 | c1⟩
        · have HV : Hid (nameTo s.data.toList (k + 1) = true) := by
            show _ = _
            rw [HN.out, c3, c4]; simp [hk0]
          clear HN HL c3 c4
          have q1 : ((s[k].toNat : Int) != 95) = true := by simp; omega
          have q2 : (!decide ((s[k].toNat : Int) ≤ 122)) = false := by simp; omega
          have q3 : (!decide ((s[k].toNat : Int) ≤ 57)) = true := by simp; omega
          go_wp2
          go_round
          case rel => exact ⟨k + 1, by omega, by go_num, HV.out⟩
          case measure => simp [intOf]; omega
        · have HV : Hid (nameTo s.data.toList (k + 1) = true) := by
            show _ = _
            rw [HN.out, c3, c4]; simp [hk0]
          clear HN HL c3 c4
          have q1 : ((s[k].toNat : Int) != 95) = true := by simp; omega
          have q2 : (!decide ((s[k].toNat : Int) ≤ 122)) = false := by simp; omega
          have q3 : (!decide ((s[k].toNat : Int) ≤ 57)) = false := by simp; omega
          go_wp2
          go_round
          case rel => exact ⟨k + 1, by omega, by go_num, HV.out⟩
          case measure => simp [intOf]; omega
        · have HV : Hid (nameTo s.data.toList (k + 1) = true) := by
            show _ = _
            rw [HN.out, c3, c4]; simp [hk0]
          clear HN HL c3 c4
          have q1 : ((s[k].toNat : Int) != 95) = false := by simp; omega
          have q2 : (!decide ((s[k].toNat : Int) ≤ 122)) = false := by simp; omega
          have q3 : (!decide ((s[k].toNat : Int) ≤ 57)) = true := by simp; omega
          go_wp2
          go_round
          case rel => exact ⟨k + 1, by omega, by go_num, HV.out⟩
          case measure => simp [intOf]; omega
        · have HV : Hid (nameOk s.data.toList = false) := by
            refine HL.out ?_
            rw [HN.out, c3, c4]; simp
          clear HN HL c3 c4
          have q1 : ((s[k].toNat : Int) != 95) = true := by simp; omega
          have q2 : (!decide ((s[k].toNat : Int) ≤ 122)) = false := by simp; omega
          have q3 : (!decide ((s[k].toNat : Int) ≤ 57)) = false := by simp; omega
          go_wp2
          go_ret
          exact ⟨ret_bool HV.out.symm, rfl⟩
        · have HV : Hid (nameOk s.data.toList = false) := by
            refine HL.out ?_
            rw [HN.out, c3, c4]; simp
          clear HN HL c3 c4
          have q1 : ((s[k].toNat : Int) != 95) = true := by simp; omega
          have q2 : (!decide ((s[k].toNat : Int) ≤ 122)) = false := by simp; omega
          have q3 : (!decide ((s[k].toNat : Int) ≤ 57)) = true := by simp; omega
          go_wp2
          go_ret
          exact ⟨ret_bool HV.out.symm, rfl⟩
        · have HV : Hid (nameOk s.data.toList = false) := by
            refine HL.out ?_
            rw [HN.out, c3, c4]; simp
          clear HN HL c3 c4
          have q1 : ((s[k].toNat : Int) != 95) = true := by simp; omega
          have q2 : (!decide ((s[k].toNat : Int) ≤ 122)) = false := by simp; omega
          have q3 : (!decide ((s[k].toNat : Int) ≤ 57)) = true := by simp; omega
          go_wp2
          go_ret
          exact ⟨ret_bool HV.out.symm, rfl⟩
        · have HV : Hid (nameOk s.data.toList = false) := by
            refine HL.out ?_
            rw [HN.out, c3, c4]; simp
          clear HN HL c3 c4
          have q1 : ((s[k].toNat : Int) != 95) = true := by simp; omega
          have q2 : (!decide ((s[k].toNat : Int) ≤ 122)) = true := by simp; omega
          have q3 : (!decide ((s[k].toNat : Int) ≤ 57)) = true := by simp; omega
          go_wp2
          go_ret
          exact ⟨ret_bool HV.out.symm, rfl⟩
    · have hk' : k = s.size := by omega
      have HF : Hid (nameOk s.data.toList = true) := by
        show _ = _
        rw [H.out, ← hk']; exact HK.out
      clear hk'
      go_wp2
      go_ret
      exact ⟨ret_bool HF.out.symm, rfl⟩

set_option maxHeartbeats 2000000 in
theorem implName_any (s : ByteArray) (w : World) :
    Calls Tryz.prog 57 #[.string s] w fun e w' => e = .returned (.bool (nameOk s.data.toList)) ∧ w' = w := by
  by_cases h1 : s.size < 1
  · have H : Hid (nameOk s.data.toList = false) := nameOk_not _ (by rw [len_data]; omega)
    go_enter Tryz.func57, Tryz.ntmps57
    go_wp2
    go_ret
    exact ⟨ret_bool H.out.symm, rfl⟩
  by_cases h2 : 20 < s.size
  · have H : Hid (nameOk s.data.toList = false) := nameOk_not _ (by rw [len_data]; omega)
    go_enter Tryz.func57, Tryz.ntmps57
    go_wp2
    go_ret
    exact ⟨ret_bool H.out.symm, rfl⟩
  have H : Hid (nameOk s.data.toList = nameTo s.data.toList s.size) := by
    show _ = _
    rw [nameOk_of _ (by rw [len_data]; omega) (by rw [len_data]; omega)]; rfl
  have hp : 0 < s.size := by omega
  have HH : Hid (nameTo s.data.toList 1 = (isNameB s[0].toNat && isLet s[0].toNat)) := by
    show _ = _
    rw [nameTo_succ _ _ (by simpa using hp), nameTo_zero]; simp; rfl
  by_cases hl : isLet s[0].toNat = true
  · have H0 : Hid (isLet s[0].toNat = true) := hl
    go_enter Tryz.func57, Tryz.ntmps57
    go_wp2_with (first | (go_at_call 68; refine (isLetter_any _ _).mono ?_; rintro e w' ⟨rfl, rfl⟩) | (go_at_call 69; refine (isDigit_any _ _).mono ?_; rintro e w' ⟨rfl, rfl⟩))
    go_loop [20] (fun i => ∃ k : Nat, k ≤ s.size ∧ i = .int .i64 k ∧ Hid (nameTo s.data.toList k = true)) (fun i => s.size - (intOf i).toNat)
    case atStart => exact ⟨0, Nat.zero_le _, rfl, nameTo_zero _⟩
    case round =>
      obtain ⟨k, hk, rfl, HK⟩ := hrel
      clear hl
      by_cases hlt : k < s.size
      · have HN : Hid (nameTo s.data.toList (k + 1) = isNameB s[k].toNat) := by
          show _ = _
          rw [nameTo_succ _ _ (by simpa using hlt), HK.out]
          by_cases hk0 : k = 0
          · subst hk0
            have := H0.out
            show (true && (isNameB s[0].toNat && (!decide (0 = 0) || isLet s[0].toNat))) = _
            rw [this]; simp
          · simp [hk0]; rfl
        have HL : Hid (nameTo s.data.toList (k + 1) = false → nameOk s.data.toList = false) := fun h => by
          rw [H.out]; have := nameTo_le s.data.toList (k + 1) (by rw [len_data]; omega) h; simpa using this
        rcases cls s[k].toNat with ⟨c1, c2, c3, c4⟩ | ⟨c1, c2, c3, c4⟩ | ⟨c1, c3, c4⟩ | ⟨c3, c4, c1 | ⟨c1, c2⟩ | c1 | c1⟩
        · have HV : Hid (nameTo s.data.toList (k + 1) = true) := HN.out.trans c4
          clear HN HL
          have q1 : isDig s[k].toNat = false := dig_no (by omega)
          have q2 : ((s[k].toNat : Int) != 95) = true := by simp; omega
          go_wp2_with (first | (go_at_call 68; refine (isLetter_any _ _).mono ?_; rintro e w' ⟨rfl, rfl⟩) | (go_at_call 69; refine (isDigit_any _ _).mono ?_; rintro e w' ⟨rfl, rfl⟩))
          go_round
          case rel => exact ⟨k + 1, by omega, by go_num, HV.out⟩
          case measure => simp [intOf]; omega
        · have HV : Hid (nameTo s.data.toList (k + 1) = true) := HN.out.trans c4
          clear HN HL
          have q1 : isDig s[k].toNat = true := dig_yes c1 c2
          have q2 : ((s[k].toNat : Int) != 95) = true := by simp; omega
          go_wp2_with (first | (go_at_call 68; refine (isLetter_any _ _).mono ?_; rintro e w' ⟨rfl, rfl⟩) | (go_at_call 69; refine (isDigit_any _ _).mono ?_; rintro e w' ⟨rfl, rfl⟩))
          go_round
          case rel => exact ⟨k + 1, by omega, by go_num, HV.out⟩
          case measure => simp [intOf]; omega
        · have HV : Hid (nameTo s.data.toList (k + 1) = true) := HN.out.trans c4
          clear HN HL
          have q1 : isDig s[k].toNat = false := dig_no (by omega)
          have q2 : ((s[k].toNat : Int) != 95) = false := by simp; omega
          go_wp2_with (first | (go_at_call 68; refine (isLetter_any _ _).mono ?_; rintro e w' ⟨rfl, rfl⟩) | (go_at_call 69; refine (isDigit_any _ _).mono ?_; rintro e w' ⟨rfl, rfl⟩))
          go_round
          case rel => exact ⟨k + 1, by omega, by go_num, HV.out⟩
          case measure => simp [intOf]; omega
        · have HV : Hid (nameOk s.data.toList = false) := HL.out (HN.out.trans c4)
          clear HN HL
          have q1 : isDig s[k].toNat = false := dig_no (by omega)
          have q2 : ((s[k].toNat : Int) != 95) = true := by simp; omega
          go_wp2_with (first | (go_at_call 68; refine (isLetter_any _ _).mono ?_; rintro e w' ⟨rfl, rfl⟩) | (go_at_call 69; refine (isDigit_any _ _).mono ?_; rintro e w' ⟨rfl, rfl⟩))
          go_ret
          exact ⟨ret_bool HV.out.symm, rfl⟩
        · have HV : Hid (nameOk s.data.toList = false) := HL.out (HN.out.trans c4)
          clear HN HL
          have q1 : isDig s[k].toNat = false := dig_no (by omega)
          have q2 : ((s[k].toNat : Int) != 95) = true := by simp; omega
          go_wp2_with (first | (go_at_call 68; refine (isLetter_any _ _).mono ?_; rintro e w' ⟨rfl, rfl⟩) | (go_at_call 69; refine (isDigit_any _ _).mono ?_; rintro e w' ⟨rfl, rfl⟩))
          go_ret
          exact ⟨ret_bool HV.out.symm, rfl⟩
        · have HV : Hid (nameOk s.data.toList = false) := HL.out (HN.out.trans c4)
          clear HN HL
          have q1 : isDig s[k].toNat = false := dig_no (by omega)
          have q2 : ((s[k].toNat : Int) != 95) = true := by simp; omega
          go_wp2_with (first | (go_at_call 68; refine (isLetter_any _ _).mono ?_; rintro e w' ⟨rfl, rfl⟩) | (go_at_call 69; refine (isDigit_any _ _).mono ?_; rintro e w' ⟨rfl, rfl⟩))
          go_ret
          exact ⟨ret_bool HV.out.symm, rfl⟩
        · have HV : Hid (nameOk s.data.toList = false) := HL.out (HN.out.trans c4)
          clear HN HL
          have q1 : isDig s[k].toNat = false := dig_no (by omega)
          have q2 : ((s[k].toNat : Int) != 95) = true := by simp; omega
          go_wp2_with (first | (go_at_call 68; refine (isLetter_any _ _).mono ?_; rintro e w' ⟨rfl, rfl⟩) | (go_at_call 69; refine (isDigit_any _ _).mono ?_; rintro e w' ⟨rfl, rfl⟩))
          go_ret
          exact ⟨ret_bool HV.out.symm, rfl⟩
      · have hk' : k = s.size := by omega
        have HF : Hid (nameOk s.data.toList = true) := by
          show _ = _
          rw [H.out, ← hk']; exact HK.out
        clear hk'
        go_wp2_with (first | (go_at_call 68; refine (isLetter_any _ _).mono ?_; rintro e w' ⟨rfl, rfl⟩) | (go_at_call 69; refine (isDigit_any _ _).mono ?_; rintro e w' ⟨rfl, rfl⟩))
        go_ret
        exact ⟨ret_bool HF.out.symm, rfl⟩
  · have HV : Hid (nameOk s.data.toList = false) := by
      show _ = _
      rw [H.out]
      refine nameTo_le s.data.toList 1 (by rw [len_data]; omega) ?_
      rw [HH.out]; simp [hl]
    have c3 : isLet s[0].toNat = false := by simpa using hl
    clear hl HH
    go_enter Tryz.func57, Tryz.ntmps57
    go_wp2_with (go_at_call 68; refine (isLetter_any _ _).mono ?_; rintro e w' ⟨rfl, rfl⟩)
    go_ret
    exact ⟨ret_bool HV.out.symm, rfl⟩
end Go.Proofs.YtkhklfnhninkjaaGreat
