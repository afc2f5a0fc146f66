/-
  Contracts and plain laws, part 2 of 9: Name, SchPlain, SRow, RdPlain, RdC, Owns, OwnBytes, ConvOne, MarkT, KeyPlain, VRow, FlatV
-/
import Derived.Test.YtpmaklbbkmghbaaRows
import Derived.WalkKit
import Derived.WalkLawsBesides
import Derived.Below
import Derived.Laws.AppendOwn
import Derived.Maps.AppendAt
import Derived.Test.YtpmaklbbkmghbaaPa

/-
  Contracts: NameRight of the program and of the specification; the law on both.
-/
namespace Go.Proofs.Ytpmaklbbkmghbaa
open Go.RowKit

def isLet (b : Nat) : Bool := decide (97 ≤ b) && decide (b ≤ 122)
def isNameB (b : Nat) : Bool := isLet b || (decide (48 ≤ b) && decide (b ≤ 57)) || decide (b = 95)
def nameTo (l : List UInt8) (k : Nat) : Bool := (l.take k).all (fun b => isNameB b.toNat) && (decide (k = 0) || isLet (l.headD 0).toNat)
/-- Is it a name? -/
def nameOk (l : List UInt8) : Bool := decide (1 ≤ l.length) && decide (l.length ≤ 20) && nameTo l l.length

theorem nameTo_zero (l : List UInt8) : nameTo l 0 = true := by simp [nameTo]
theorem nameTo_succ (l : List UInt8) (k : Nat) (h : k < l.length) : nameTo l (k + 1) = (nameTo l k && (isNameB l[k].toNat && (!decide (k = 0) || isLet l[k].toNat))) := by
  unfold nameTo
  rw [List.take_succ_eq_append_getElem h, List.all_append]
  cases k with
  | zero => cases l with
    | nil => simp at h
    | cons b l => simp
  | succ k =>
    simp only [List.all_cons, List.all_nil, Bool.and_true]
    cases isNameB l[k + 1].toNat <;> simp
theorem nameTo_le (l : List UInt8) (k : Nat) (h : k ≤ l.length) (hk : nameTo l k = false) : nameTo l l.length = false := by
  unfold nameTo at *
  rw [List.take_length]
  by_cases h0 : k = 0
  · simp [h0] at hk
  · rw [Bool.and_eq_false_iff] at *
    rcases hk with hk | hk
    · left
      rw [List.all_eq_false] at *
      obtain ⟨x, hx, hb⟩ := hk
      exact ⟨x, List.mem_of_mem_take hx, hb⟩
    · right
      simp [h0] at hk
      have : ¬ l.length = 0 := by omega
      simp [this, hk]
theorem nameOk_of (l : List UInt8) (h1 : 1 ≤ l.length) (h2 : l.length ≤ 20) : nameOk l = nameTo l l.length := by
  simp [nameOk, h1, h2]
theorem nameOk_not (l : List UInt8) (h : l.length < 1 ∨ 20 < l.length) : nameOk l = false := by
  unfold nameOk
  rcases h with h | h
  · have : ¬ 1 ≤ l.length := by omega
    simp [this]
  · have : ¬ l.length ≤ 20 := by omega
    simp [this]
def isDig (b : Nat) : Bool := decide (48 ≤ b) && decide (b ≤ 57)
theorem isLetter_any (b : Nat) (w : World) :
    Calls Try.prog 112 #[.int .u8 b] w fun e w' => e = .returned (.bool (isLet b)) ∧ w' = w := by
  by_cases h1 : 97 ≤ b
  · by_cases h2 : b ≤ 122
    · have H : Hid (isLet b = true) := by show _ = _; simp [isLet, h1, h2]
      go_enter Try.func112, Try.ntmps112
      go_wp2
      go_ret
      exact ⟨ret_bool (by rw [H.out]; simp; omega), rfl⟩
    · have H : Hid (isLet b = false) := by show _ = _; simp [isLet, h2]
      go_enter Try.func112, Try.ntmps112
      go_wp2
      go_ret
      exact ⟨ret_bool (by rw [H.out]; simp; omega), rfl⟩
  · have H : Hid (isLet b = false) := by show _ = _; simp [isLet, h1]
    go_enter Try.func112, Try.ntmps112
    go_wp2
    go_ret
    exact ⟨ret_bool (by rw [H.out]), rfl⟩
theorem isDigit_any (b : Nat) (w : World) :
    Calls Try.prog 113 #[.int .u8 b] w fun e w' => e = .returned (.bool (isDig b)) ∧ w' = w := by
  by_cases h1 : 48 ≤ b
  · by_cases h2 : b ≤ 57
    · have H : Hid (isDig b = true) := by show _ = _; simp [isDig, h1, h2]
      go_enter Try.func113, Try.ntmps113
      go_wp2
      go_ret
      exact ⟨ret_bool (by rw [H.out]; simp; omega), rfl⟩
    · have H : Hid (isDig b = false) := by show _ = _; simp [isDig, h2]
      go_enter Try.func113, Try.ntmps113
      go_wp2
      go_ret
      exact ⟨ret_bool (by rw [H.out]; simp; omega), rfl⟩
  · have H : Hid (isDig b = false) := by show _ = _; simp [isDig, h1]
    go_enter Try.func113, Try.ntmps113
    go_wp2
    go_ret
    exact ⟨ret_bool (by rw [H.out]), rfl⟩
theorem dig_yes {b : Nat} (h1 : 48 ≤ b) (h2 : b ≤ 57) : isDig b = true := by simp [isDig, h1, h2]
theorem dig_no {b : Nat} (h : b < 48 ∨ 57 < b) : isDig b = false := by
  unfold isDig
  rcases h with h | h
  · have : ¬ 48 ≤ b := by omega
    simp [this]
  · have : ¬ b ≤ 57 := by omega
    simp [this]
theorem cls (b : Nat) : (97 ≤ b ∧ b ≤ 122 ∧ isLet b = true ∧ isNameB b = true) ∨ (48 ≤ b ∧ b ≤ 57 ∧ isLet b = false ∧ isNameB b = true) ∨ (b = 95 ∧ isLet b = false ∧ isNameB b = true) ∨
    (isLet b = false ∧ isNameB b = false ∧ (b < 48 ∨ (57 < b ∧ b < 95) ∨ b = 96 ∨ 122 < b)) := by
  by_cases h1 : 97 ≤ b <;> by_cases h2 : b ≤ 122 <;> by_cases h3 : 48 ≤ b <;> by_cases h4 : b ≤ 57 <;> by_cases h5 : b = 95 <;> simp [isLet, isNameB, h1, h2, h3, h4, h5] <;> omega

set_option maxHeartbeats 1000000 in
theorem specName_any (s : ByteArray) (w : World) :
    Calls Try.prog 42 #[.string s] w fun e w' => e = .returned (.bool (nameOk s.data.toList)) ∧ w' = w := by
  by_cases h1 : s.size < 1
  · have H : Hid (nameOk s.data.toList = false) := nameOk_not _ (by rw [len_data]; omega)
    go_enter Try.func42, Try.ntmps42
    go_wp2
    go_ret
    exact ⟨ret_bool H.out.symm, rfl⟩
  by_cases h2 : 20 < s.size
  · have H : Hid (nameOk s.data.toList = false) := nameOk_not _ (by rw [len_data]; omega)
    go_enter Try.func42, Try.ntmps42
    go_wp2
    go_ret
    exact ⟨ret_bool H.out.symm, rfl⟩
  have H : Hid (nameOk s.data.toList = nameTo s.data.toList s.size) := by
    show _ = _
    rw [nameOk_of _ (by rw [len_data]; omega) (by rw [len_data]; omega)]; rfl
  go_enter Try.func42, Try.ntmps42
  go_wp2
  go_loop [3] (fun i => ∃ k : Nat, k ≤ s.size ∧ i = .int .i64 k ∧ Hid (nameTo s.data.toList k = true)) (fun i => s.size - (intOf i).toNat)
  case atStart => exact ⟨0, Nat.zero_le _, rfl, nameTo_zero _⟩
  case round =>
    obtain ⟨k, hk, rfl, HK⟩ := hrel
    by_cases hlt : k < s.size
    · have HN : Hid (nameTo s.data.toList (k + 1) = (isNameB s[k].toNat && (!decide (k = 0) || isLet s[k].toNat))) := by
        show _ = _
        rw [nameTo_succ _ _ (by simpa using hlt), HK.out]; rfl
      have HL : Hid (nameTo s.data.toList (k + 1) = false → nameOk s.data.toList = false) := fun h => by
        rw [H.out]; have := nameTo_le s.data.toList (k + 1) (by simp; omega) h; simpa using this
      rcases Nat.eq_zero_or_pos k with rfl | hkp
      · rcases cls s[0].toNat with ⟨c1, c2, c3, c4⟩ | ⟨c1, c2, c3, c4⟩ | ⟨c1, c3, c4⟩ | ⟨c3, c4, c1 | ⟨c1, c2⟩ | c1 | c1⟩
        · have HV : Hid (nameTo s.data.toList (0 + 1) = true) := by
            show _ = _
            rw [HN.out, c3, c4]; simp
          clear HN HL c3 c4
          have q1 : ((s[0].toNat : Int) != 95) = true := by simp; omega
          have q2 : (!decide ((s[0].toNat : Int) ≤ 122)) = false := by simp; omega
          have q3 : (!decide ((s[0].toNat : Int) ≤ 57)) = true := by simp; omega
          go_wp2
          go_round
          case rel => exact ⟨0 + 1, by omega, by go_num, HV.out⟩
          case measure => simp [intOf]; omega
        · have HV : Hid (nameOk s.data.toList = false) := by
            refine HL.out ?_
            rw [HN.out, c3, c4]; simp
          clear HN HL c3 c4
          have q1 : ((s[0].toNat : Int) != 95) = true := by simp; omega
          have q2 : (!decide ((s[0].toNat : Int) ≤ 122)) = false := by simp; omega
          have q3 : (!decide ((s[0].toNat : Int) ≤ 57)) = false := by simp; omega
          go_wp2
          go_ret
          exact ⟨ret_bool HV.out.symm, rfl⟩
        · have HV : Hid (nameOk s.data.toList = false) := by
            refine HL.out ?_
            rw [HN.out, c3, c4]; simp
          clear HN HL c3 c4
          have q1 : ((s[0].toNat : Int) != 95) = false := by simp; omega
          have q2 : (!decide ((s[0].toNat : Int) ≤ 122)) = false := by simp; omega
          have q3 : (!decide ((s[0].toNat : Int) ≤ 57)) = true := by simp; omega
          go_wp2
          go_ret
          exact ⟨ret_bool HV.out.symm, rfl⟩
        · have HV : Hid (nameOk s.data.toList = false) := by
            refine HL.out ?_
            rw [HN.out, c3, c4]; simp
          clear HN HL c3 c4
          have q1 : ((s[0].toNat : Int) != 95) = true := by simp; omega
          have q2 : (!decide ((s[0].toNat : Int) ≤ 122)) = false := by simp; omega
          have q3 : (!decide ((s[0].toNat : Int) ≤ 57)) = false := by simp; omega
          go_wp2
          go_ret
          exact ⟨ret_bool HV.out.symm, rfl⟩
        · have HV : Hid (nameOk s.data.toList = false) := by
            refine HL.out ?_
            rw [HN.out, c3, c4]; simp
          clear HN HL c3 c4
          have q1 : ((s[0].toNat : Int) != 95) = true := by simp; omega
          have q2 : (!decide ((s[0].toNat : Int) ≤ 122)) = false := by simp; omega
          have q3 : (!decide ((s[0].toNat : Int) ≤ 57)) = true := by simp; omega
          go_wp2
          go_ret
          exact ⟨ret_bool HV.out.symm, rfl⟩
        · have HV : Hid (nameOk s.data.toList = false) := by
            refine HL.out ?_
            rw [HN.out, c3, c4]; simp
          clear HN HL c3 c4
          have q1 : ((s[0].toNat : Int) != 95) = true := by simp; omega
          have q2 : (!decide ((s[0].toNat : Int) ≤ 122)) = false := by simp; omega
          have q3 : (!decide ((s[0].toNat : Int) ≤ 57)) = true := by simp; omega
          go_wp2
          go_ret
          exact ⟨ret_bool HV.out.symm, rfl⟩
        · have HV : Hid (nameOk s.data.toList = false) := by
            refine HL.out ?_
            rw [HN.out, c3, c4]; simp
          clear HN HL c3 c4
          have q1 : ((s[0].toNat : Int) != 95) = true := by simp; omega
          have q2 : (!decide ((s[0].toNat : Int) ≤ 122)) = true := by simp; omega
          have q3 : (!decide ((s[0].toNat : Int) ≤ 57)) = true := by simp; omega
          go_wp2
          go_ret
          exact ⟨ret_bool HV.out.symm, rfl⟩
      · have hk0 : ¬ k = 0 := by omega
        rcases cls s[k].toNat with ⟨c1, c2, c3, c4⟩ | ⟨c1, c2, c3, c4⟩ | ⟨c1, c3, c4⟩ | ⟨c3, c4, c1 | ⟨c1, c2⟩ | c1 | c1⟩
        · have HV : Hid (nameTo s.data.toList (k + 1) = true) := by
            show _ = _
            rw [HN.out, c3, c4]; simp [hk0]
          clear HN HL c3 c4
          have q1 : ((s[k].toNat : Int) != 95) = true := by simp; omega
          have q2 : (!decide ((s[k].toNat : Int) ≤ 122)) = false := by simp; omega
          have q3 : (!decide ((s[k].toNat : Int) ≤ 57)) = true := by simp; omega
          go_wp2
          go_round
          case rel => exact ⟨k + 1, by omega, by go_num, HV.out⟩
          case measure => simp [intOf]; omega
        · have HV : Hid (nameTo s.data.toList (k + 1) = true) := by
            show _ = _
            rw [HN.out, c3, c4]; simp [hk0]
          clear HN HL c3 c4
          have q1 : ((s[k].toNat : Int) != 95) = true := by simp; omega
          have q2 : (!decide ((s[k].toNat : Int) ≤ 122)) = false := by simp; omega
          have q3 : (!decide ((s[k].toNat : Int) ≤ 57)) = false := by simp; omega
          go_wp2
          go_round
          case rel => exact ⟨k + 1, by omega, by go_num, HV.out⟩
          case measure => simp [intOf]; omega
        · have HV : Hid (nameTo s.data.toList (k + 1) = true) := by
            show _ = _
            rw [HN.out, c3, c4]; simp [hk0]
          clear HN HL c3 c4
          have q1 : ((s[k].toNat : Int) != 95) = false := by simp; omega
          have q2 : (!decide ((s[k].toNat : Int) ≤ 122)) = false := by simp; omega
          have q3 : (!decide ((s[k].toNat : Int) ≤ 57)) = true := by simp; omega
          go_wp2
          go_round
          case rel => exact ⟨k + 1, by omega, by go_num, HV.out⟩
          case measure => simp [intOf]; omega
        · have HV : Hid (nameOk s.data.toList = false) := by
            refine HL.out ?_
            rw [HN.out, c3, c4]; simp
          clear HN HL c3 c4
          have q1 : ((s[k].toNat : Int) != 95) = true := by simp; omega
          have q2 : (!decide ((s[k].toNat : Int) ≤ 122)) = false := by simp; omega
          have q3 : (!decide ((s[k].toNat : Int) ≤ 57)) = false := by simp; omega
          go_wp2
          go_ret
          exact ⟨ret_bool HV.out.symm, rfl⟩
        · have HV : Hid (nameOk s.data.toList = false) := by
            refine HL.out ?_
            rw [HN.out, c3, c4]; simp
          clear HN HL c3 c4
          have q1 : ((s[k].toNat : Int) != 95) = true := by simp; omega
          have q2 : (!decide ((s[k].toNat : Int) ≤ 122)) = false := by simp; omega
          have q3 : (!decide ((s[k].toNat : Int) ≤ 57)) = true := by simp; omega
          go_wp2
          go_ret
          exact ⟨ret_bool HV.out.symm, rfl⟩
        · have HV : Hid (nameOk s.data.toList = false) := by
            refine HL.out ?_
            rw [HN.out, c3, c4]; simp
          clear HN HL c3 c4
          have q1 : ((s[k].toNat : Int) != 95) = true := by simp; omega
          have q2 : (!decide ((s[k].toNat : Int) ≤ 122)) = false := by simp; omega
          have q3 : (!decide ((s[k].toNat : Int) ≤ 57)) = true := by simp; omega
          go_wp2
          go_ret
          exact ⟨ret_bool HV.out.symm, rfl⟩
        · have HV : Hid (nameOk s.data.toList = false) := by
            refine HL.out ?_
            rw [HN.out, c3, c4]; simp
          clear HN HL c3 c4
          have q1 : ((s[k].toNat : Int) != 95) = true := by simp; omega
          have q2 : (!decide ((s[k].toNat : Int) ≤ 122)) = true := by simp; omega
          have q3 : (!decide ((s[k].toNat : Int) ≤ 57)) = true := by simp; omega
          go_wp2
          go_ret
          exact ⟨ret_bool HV.out.symm, rfl⟩
    · have hk' : k = s.size := by omega
      have HF : Hid (nameOk s.data.toList = true) := by
        show _ = _
        rw [H.out, ← hk']; exact HK.out
      clear hk'
      go_wp2
      go_ret
      exact ⟨ret_bool HF.out.symm, rfl⟩

set_option maxHeartbeats 2000000 in
theorem implName_any (s : ByteArray) (w : World) :
    Calls Try.prog 87 #[.string s] w fun e w' => e = .returned (.bool (nameOk s.data.toList)) ∧ w' = w := by
  by_cases h1 : s.size < 1
  · have H : Hid (nameOk s.data.toList = false) := nameOk_not _ (by rw [len_data]; omega)
    go_enter Try.func87, Try.ntmps87
    go_wp2
    go_ret
    exact ⟨ret_bool H.out.symm, rfl⟩
  by_cases h2 : 20 < s.size
  · have H : Hid (nameOk s.data.toList = false) := nameOk_not _ (by rw [len_data]; omega)
    go_enter Try.func87, Try.ntmps87
    go_wp2
    go_ret
    exact ⟨ret_bool H.out.symm, rfl⟩
  have H : Hid (nameOk s.data.toList = nameTo s.data.toList s.size) := by
    show _ = _
    rw [nameOk_of _ (by rw [len_data]; omega) (by rw [len_data]; omega)]; rfl
  have hp : 0 < s.size := by omega
  have HH : Hid (nameTo s.data.toList 1 = (isNameB s[0].toNat && isLet s[0].toNat)) := by
    show _ = _
    rw [nameTo_succ _ _ (by simpa using hp), nameTo_zero]; simp; rfl
  by_cases hl : isLet s[0].toNat = true
  · have H0 : Hid (isLet s[0].toNat = true) := hl
    go_enter Try.func87, Try.ntmps87
    go_wp2_with (first | (go_at_call 112; refine (isLetter_any _ _).mono ?_; rintro e w' ⟨rfl, rfl⟩) | (go_at_call 113; refine (isDigit_any _ _).mono ?_; rintro e w' ⟨rfl, rfl⟩))
    go_loop [20] (fun i => ∃ k : Nat, k ≤ s.size ∧ i = .int .i64 k ∧ Hid (nameTo s.data.toList k = true)) (fun i => s.size - (intOf i).toNat)
    case atStart => exact ⟨0, Nat.zero_le _, rfl, nameTo_zero _⟩
    case round =>
      obtain ⟨k, hk, rfl, HK⟩ := hrel
      clear hl
      by_cases hlt : k < s.size
      · have HN : Hid (nameTo s.data.toList (k + 1) = isNameB s[k].toNat) := by
          show _ = _
          rw [nameTo_succ _ _ (by simpa using hlt), HK.out]
          by_cases hk0 : k = 0
          · subst hk0
            have := H0.out
            show (true && (isNameB s[0].toNat && (!decide (0 = 0) || isLet s[0].toNat))) = _
            rw [this]; simp
          · simp [hk0]; rfl
        have HL : Hid (nameTo s.data.toList (k + 1) = false → nameOk s.data.toList = false) := fun h => by
          rw [H.out]; have := nameTo_le s.data.toList (k + 1) (by rw [len_data]; omega) h; simpa using this
        rcases cls s[k].toNat with ⟨c1, c2, c3, c4⟩ | ⟨c1, c2, c3, c4⟩ | ⟨c1, c3, c4⟩ | ⟨c3, c4, c1 | ⟨c1, c2⟩ | c1 | c1⟩
        · have HV : Hid (nameTo s.data.toList (k + 1) = true) := HN.out.trans c4
          clear HN HL
          have q1 : isDig s[k].toNat = false := dig_no (by omega)
          have q2 : ((s[k].toNat : Int) != 95) = true := by simp; omega
          go_wp2_with (first | (go_at_call 112; refine (isLetter_any _ _).mono ?_; rintro e w' ⟨rfl, rfl⟩) | (go_at_call 113; refine (isDigit_any _ _).mono ?_; rintro e w' ⟨rfl, rfl⟩))
          go_round
          case rel => exact ⟨k + 1, by omega, by go_num, HV.out⟩
          case measure => simp [intOf]; omega
        · have HV : Hid (nameTo s.data.toList (k + 1) = true) := HN.out.trans c4
          clear HN HL
          have q1 : isDig s[k].toNat = true := dig_yes c1 c2
          have q2 : ((s[k].toNat : Int) != 95) = true := by simp; omega
          go_wp2_with (first | (go_at_call 112; refine (isLetter_any _ _).mono ?_; rintro e w' ⟨rfl, rfl⟩) | (go_at_call 113; refine (isDigit_any _ _).mono ?_; rintro e w' ⟨rfl, rfl⟩))
          go_round
          case rel => exact ⟨k + 1, by omega, by go_num, HV.out⟩
          case measure => simp [intOf]; omega
        · have HV : Hid (nameTo s.data.toList (k + 1) = true) := HN.out.trans c4
          clear HN HL
          have q1 : isDig s[k].toNat = false := dig_no (by omega)
          have q2 : ((s[k].toNat : Int) != 95) = false := by simp; omega
          go_wp2_with (first | (go_at_call 112; refine (isLetter_any _ _).mono ?_; rintro e w' ⟨rfl, rfl⟩) | (go_at_call 113; refine (isDigit_any _ _).mono ?_; rintro e w' ⟨rfl, rfl⟩))
          go_round
          case rel => exact ⟨k + 1, by omega, by go_num, HV.out⟩
          case measure => simp [intOf]; omega
        · have HV : Hid (nameOk s.data.toList = false) := HL.out (HN.out.trans c4)
          clear HN HL
          have q1 : isDig s[k].toNat = false := dig_no (by omega)
          have q2 : ((s[k].toNat : Int) != 95) = true := by simp; omega
          go_wp2_with (first | (go_at_call 112; refine (isLetter_any _ _).mono ?_; rintro e w' ⟨rfl, rfl⟩) | (go_at_call 113; refine (isDigit_any _ _).mono ?_; rintro e w' ⟨rfl, rfl⟩))
          go_ret
          exact ⟨ret_bool HV.out.symm, rfl⟩
        · have HV : Hid (nameOk s.data.toList = false) := HL.out (HN.out.trans c4)
          clear HN HL
          have q1 : isDig s[k].toNat = false := dig_no (by omega)
          have q2 : ((s[k].toNat : Int) != 95) = true := by simp; omega
          go_wp2_with (first | (go_at_call 112; refine (isLetter_any _ _).mono ?_; rintro e w' ⟨rfl, rfl⟩) | (go_at_call 113; refine (isDigit_any _ _).mono ?_; rintro e w' ⟨rfl, rfl⟩))
          go_ret
          exact ⟨ret_bool HV.out.symm, rfl⟩
        · have HV : Hid (nameOk s.data.toList = false) := HL.out (HN.out.trans c4)
          clear HN HL
          have q1 : isDig s[k].toNat = false := dig_no (by omega)
          have q2 : ((s[k].toNat : Int) != 95) = true := by simp; omega
          go_wp2_with (first | (go_at_call 112; refine (isLetter_any _ _).mono ?_; rintro e w' ⟨rfl, rfl⟩) | (go_at_call 113; refine (isDigit_any _ _).mono ?_; rintro e w' ⟨rfl, rfl⟩))
          go_ret
          exact ⟨ret_bool HV.out.symm, rfl⟩
        · have HV : Hid (nameOk s.data.toList = false) := HL.out (HN.out.trans c4)
          clear HN HL
          have q1 : isDig s[k].toNat = false := dig_no (by omega)
          have q2 : ((s[k].toNat : Int) != 95) = true := by simp; omega
          go_wp2_with (first | (go_at_call 112; refine (isLetter_any _ _).mono ?_; rintro e w' ⟨rfl, rfl⟩) | (go_at_call 113; refine (isDigit_any _ _).mono ?_; rintro e w' ⟨rfl, rfl⟩))
          go_ret
          exact ⟨ret_bool HV.out.symm, rfl⟩
      · have hk' : k = s.size := by omega
        have HF : Hid (nameOk s.data.toList = true) := by
          show _ = _
          rw [H.out, ← hk']; exact HK.out
        clear hk'
        go_wp2_with (first | (go_at_call 112; refine (isLetter_any _ _).mono ?_; rintro e w' ⟨rfl, rfl⟩) | (go_at_call 113; refine (isDigit_any _ _).mono ?_; rintro e w' ⟨rfl, rfl⟩))
        go_ret
        exact ⟨ret_bool HF.out.symm, rfl⟩
  · have HV : Hid (nameOk s.data.toList = false) := by
      show _ = _
      rw [H.out]
      refine nameTo_le s.data.toList 1 (by rw [len_data]; omega) ?_
      rw [HH.out]; simp [hl]
    have c3 : isLet s[0].toNat = false := by simpa using hl
    clear hl HH
    go_enter Try.func87, Try.ntmps87
    go_wp2_with (go_at_call 112; refine (isLetter_any _ _).mono ?_; rintro e w' ⟨rfl, rfl⟩)
    go_ret
    exact ⟨ret_bool HV.out.symm, rfl⟩
end Go.Proofs.Ytpmaklbbkmghbaa

/-
  Schemas: plain facts.
-/
namespace Go.Proofs.Ytpmaklbbkmghbaa
open Go.RowKit

structure Col where
  name : ByteArray
  kind : Int
  nul : Bool
structure Idx where
  cols : List Int
  uniq : Bool
structure Sch where
  name : ByteArray
  cols : List Col
  key : List Int
  idx : List Idx
def noCol : Col := ⟨ByteArray.empty, 0, false⟩
def noIdx : Idx := ⟨[], false⟩

/-- Is the number at place i one of m columns, and none ahead of it the same? -/
def plOk (m : Nat) (l : List Int) (i : Nat) : Bool := decide (0 ≤ l.getD i 0) && decide (l.getD i 0 < (m : Int)) && !decide (l.getD i 0 ∈ l.take i)
def isCols (m : Nat) (l : List Int) : Bool := decide (1 ≤ l.length) && upto (plOk m l) l.length
def colOk (cs : List Col) (i : Nat) : Bool := nameOk (cs.getD i noCol).name.data.toList && decide (1 ≤ (cs.getD i noCol).kind) && decide ((cs.getD i noCol).kind ≤ 3) && !(cs.take i).any (fun c => decide (c.name = (cs.getD i noCol).name))
def keyAt (s : Sch) (i : Nat) : Bool := !(s.cols.getD (s.key.getD i 0).toNat noCol).nul
def idxAt (s : Sch) (i : Nat) : Bool := isCols s.cols.length (s.idx.getD i noIdx).cols
def manyOk (n : Nat) : Bool := decide (1 ≤ n) && decide (n ≤ 10)
/-- Is a schema right? -/
def schRight (s : Sch) : Bool :=
  nameOk s.name.data.toList && manyOk s.cols.length && isCols s.cols.length s.key && decide (s.idx.length ≤ 4) && upto (colOk s.cols) s.cols.length && upto (keyAt s) s.key.length && upto (idxAt s) s.idx.length

theorem mem_take_succ (l : List Int) (x : Int) (k : Nat) (h : k < l.length) : x ∈ l.take (k + 1) ↔ x ∈ l.take k ∨ x = l.getD k 0 := by
  rw [List.take_succ_eq_append_getElem h, List.mem_append, List.mem_singleton, List.getD_eq_getElem?_getD, List.getElem?_eq_getElem h]; rfl
theorem seen_succ (cs : List Col) (x : ByteArray) (k : Nat) (h : k < cs.length) : (cs.take (k + 1)).any (fun c => decide (c.name = x)) = ((cs.take k).any (fun c => decide (c.name = x)) || decide ((cs.getD k noCol).name = x)) := by
  rw [List.take_succ_eq_append_getElem h, List.any_append, List.getD_eq_getElem?_getD, List.getElem?_eq_getElem h]; simp

/-- No more different numbers below m than m. -/
theorem few (m : Nat) : ∀ l : List Int, l.Nodup → (∀ x ∈ l, 0 ≤ x ∧ x < (m : Int)) → l.length ≤ m := by
  induction m with
  | zero =>
    intro l _ h
    match l, h with
    | [], _ => simp
    | x :: r, h => have := h x (by simp); omega
  | succ m ih =>
    intro l hn h
    by_cases hm : (m : Int) ∈ l
    · have h1 := ih (l.erase (m : Int)) (hn.erase _) (fun x hx => by
        have h2 := (List.Nodup.mem_erase_iff hn).1 hx
        have h3 := h x h2.2
        have : x ≠ (m : Int) := h2.1
        omega)
      rw [List.length_erase_of_mem hm] at h1
      omega
    · have := ih l hn (fun x hx => by
        have h3 := h x hx
        have : x ≠ (m : Int) := fun e => hm (e ▸ hx)
        omega)
      omega
theorem nodup_of (l : List Int) (h : ∀ i, i < l.length → l.getD i 0 ∉ l.take i) : l.Nodup := by
  have : ∀ k, k ≤ l.length → (l.take k).Nodup := by
    intro k
    induction k with
    | zero => intro _; simp
    | succ k ih =>
      intro hk
      have hlt : k < l.length := by omega
      rw [List.take_succ_eq_append_getElem hlt, List.nodup_append]
      refine ⟨ih (by omega), by simp, ?_⟩
      intro a ha b hb e
      rw [List.mem_singleton] at hb
      subst hb e
      have h1 := h k hlt
      rw [List.getD_eq_getElem?_getD, List.getElem?_eq_getElem hlt] at h1
      exact h1 ha
  have h2 := this l.length (Nat.le_refl _)
  rwa [List.take_length] at h2
theorem isCols_len {m : Nat} {l : List Int} (h : isCols m l = true) : 1 ≤ l.length ∧ l.length ≤ m := by
  unfold isCols at h
  rw [Bool.and_eq_true, decide_eq_true_eq, upto_iff] at h
  refine ⟨h.1, few m l (nodup_of l fun i hi => ?_) (fun x hx => ?_)⟩
  · have := h.2 i hi
    unfold plOk at this
    simp only [Bool.and_eq_true, Bool.not_eq_true', decide_eq_false_iff_not] at this
    exact this.2
  · obtain ⟨i, hi, rfl⟩ := List.getElem_of_mem hx
    have := h.2 i hi
    unfold plOk at this
    simp only [Bool.and_eq_true, decide_eq_true_eq, List.getD_eq_getElem?_getD, List.getElem?_eq_getElem hi, Option.getD_some] at this
    exact this.1
theorem isCols_at {m : Nat} {l : List Int} (h : isCols m l = true) (i : Nat) (hi : i < l.length) : 0 ≤ l.getD i 0 ∧ l.getD i 0 < (m : Int) := by
  unfold isCols at h
  rw [Bool.and_eq_true, decide_eq_true_eq, upto_iff] at h
  have := h.2 i hi
  unfold plOk at this
  simp only [Bool.and_eq_true, decide_eq_true_eq] at this
  exact this.1
theorem isCols_not {m : Nat} {l : List Int} (h : l.length < 1 ∨ m < l.length) : isCols m l = false := by
  rw [Bool.eq_false_iff]
  intro e
  have := isCols_len e
  omega
end Go.Proofs.Ytpmaklbbkmghbaa

/-
  Numbers, columns, indexes and schemas as they lie in memory. Plain laws.
-/
namespace Go.Proofs.Ytpmaklbbkmghbaa
open Go.RowKit

/-- Numbers that lie one behind the other, below block B. -/
def IntRow (w : World) (A B : Nat) (ao : Option Addr) (l : List Int) : Prop :=
  (∀ x ∈ l, inI64 x) ∧ (l.length = 0 ∨ ∃ b off, ao = some ⟨b, off, none⟩ ∧ A ≤ b ∧ b < B ∧ ∀ i, i < l.length → w.cell? ⟨b, off + i, none⟩ = some (.int .i64 (l.getD i 0)))
theorem IntRow.kept {w w' : World} {A B : Nat} {ao : Option Addr} {l : List Int} (h : IntRow w A B ao l) (hb : Below B w w') : IntRow w' A B ao l := by
  refine ⟨h.1, ?_⟩
  rcases h.2 with h0 | ⟨b, off, e, hA, hB, hc⟩
  · exact .inl h0
  · exact .inr ⟨b, off, e, hA, hB, fun i hi => (hb.cell (p := ⟨b, _, none⟩) hB).trans (hc i hi)⟩
theorem IntRow.mono {w : World} {A B A' C : Nat} {ao : Option Addr} {l : List Int} (h : IntRow w A B ao l) (ha : A' ≤ A) (hc : B ≤ C) : IntRow w A' C ao l := by
  refine ⟨h.1, ?_⟩
  rcases h.2 with h0 | ⟨b, off, e, hA, hB, hc'⟩
  · exact .inl h0
  · exact .inr ⟨b, off, e, by omega, by omega, hc'⟩
theorem IntRow.at {w : World} {A B : Nat} {ao : Option Addr} {l : List Int} (h : IntRow w A B ao l) (k : Nat) (hk : k < l.length) :
    ∃ b off x, ao = some ⟨b, off, none⟩ ∧ b < B ∧ l.getD k 0 = x ∧ inI64 x ∧ w.cell? ⟨b, off + k, none⟩ = some (.int .i64 x) := by
  rcases h.2 with h0 | ⟨b, off, e, hA, hB, hc⟩
  · omega
  · exact ⟨b, off, _, e, hB, rfl, h.1 _ (getD_mem l 0 k hk), hc k hk⟩
/-- A write into another block leaves the numbers. -/
theorem IntRow.other {w : World} {A B : Nat} {ao : Option Addr} {l : List Int} (h : IntRow w A B ao l) (g m : Nat) (v : Value) (hg : g < A) : IntRow (w.setCell ⟨g, m, none⟩ v) A B ao l := by
  refine ⟨h.1, ?_⟩
  rcases h.2 with h0 | ⟨b, off, e, hA, hB, hc⟩
  · exact .inl h0
  · refine .inr ⟨b, off, e, hA, hB, fun i hi => ?_⟩
    exact (World.cell?_setCell_other w ⟨g, m, none⟩ ⟨b, off + i, none⟩ v (fun e' => by have : g = b := congrArg Addr.block e'; omega)).trans (hc i hi)

/-- Columns, three cells each. -/
def ColRow (w : World) (A B : Nat) (ao : Option Addr) (cs : List Col) : Prop :=
  (∀ c ∈ cs, inI64 c.kind ∧ c.name.size ≤ maxLen) ∧ (cs.length = 0 ∨ ∃ b off, ao = some ⟨b, off, none⟩ ∧ A ≤ b ∧ b < B ∧ ∀ i, i < cs.length →
    w.cell? ⟨b, off + i * 3, none⟩ = some (.string (cs.getD i noCol).name) ∧ w.cell? ⟨b, off + i * 3 + 1, none⟩ = some (.int .i64 (cs.getD i noCol).kind) ∧ w.cell? ⟨b, off + i * 3 + 2, none⟩ = some (.bool (cs.getD i noCol).nul))
theorem ColRow.kept {w w' : World} {A B : Nat} {ao : Option Addr} {cs : List Col} (h : ColRow w A B ao cs) (hb : Below B w w') : ColRow w' A B ao cs := by
  refine ⟨h.1, ?_⟩
  rcases h.2 with h0 | ⟨b, off, e, hA, hB, hc⟩
  · exact .inl h0
  · refine .inr ⟨b, off, e, hA, hB, fun i hi => ?_⟩
    obtain ⟨c0, c1, c2⟩ := hc i hi
    exact ⟨(hb.cell (p := ⟨b, _, none⟩) hB).trans c0, (hb.cell (p := ⟨b, _, none⟩) hB).trans c1, (hb.cell (p := ⟨b, _, none⟩) hB).trans c2⟩
theorem ColRow.mono {w : World} {A B A' C : Nat} {ao : Option Addr} {cs : List Col} (h : ColRow w A B ao cs) (ha : A' ≤ A) (hc : B ≤ C) : ColRow w A' C ao cs := by
  refine ⟨h.1, ?_⟩
  rcases h.2 with h0 | ⟨b, off, e, hA, hB, hc'⟩
  · exact .inl h0
  · exact .inr ⟨b, off, e, by omega, by omega, hc'⟩
theorem ColRow.at {w : World} {A B : Nat} {ao : Option Addr} {cs : List Col} (h : ColRow w A B ao cs) (k : Nat) (hk : k < cs.length) :
    ∃ b off nm kd nu, ao = some ⟨b, off, none⟩ ∧ b < B ∧ cs.getD k noCol = ⟨nm, kd, nu⟩ ∧ nm.size ≤ maxLen ∧ inI64 kd ∧ w.cell? ⟨b, off + k * 3, none⟩ = some (.string nm) ∧ w.cell? ⟨b, off + k * 3 + 1, none⟩ = some (.int .i64 kd) ∧ w.cell? ⟨b, off + k * 3 + 2, none⟩ = some (.bool nu) := by
  rcases h.2 with h0 | ⟨b, off, e, hA, hB, hc⟩
  · omega
  · obtain ⟨c0, c1, c2⟩ := hc k hk
    have hm := h.1 _ (getD_mem cs noCol k hk)
    exact ⟨b, off, _, _, _, e, hB, rfl, hm.2, hm.1, c0, c1, c2⟩

/-- Indexes, two cells each, the numbers of each below B, too. -/
def IdxRow (w : World) (A B : Nat) (ao : Option Addr) (xs : List Idx) : Prop :=
  xs.length = 0 ∨ ∃ b off, ao = some ⟨b, off, none⟩ ∧ A ≤ b ∧ b < B ∧ ∀ i, i < xs.length → ∃ io cp,
    w.cell? ⟨b, off + i * 2, none⟩ = some (.slice io (xs.getD i noIdx).cols.length cp) ∧ w.cell? ⟨b, off + i * 2 + 1, none⟩ = some (.bool (xs.getD i noIdx).uniq) ∧ ((xs.getD i noIdx).cols.length ≤ cp ∧ cp ≤ maxLen) ∧ IntRow w A B io (xs.getD i noIdx).cols
theorem IdxRow.kept {w w' : World} {A B : Nat} {ao : Option Addr} {xs : List Idx} (h : IdxRow w A B ao xs) (hb : Below B w w') : IdxRow w' A B ao xs := by
  rcases h with h0 | ⟨b, off, e, hA, hB, hc⟩
  · exact .inl h0
  · refine .inr ⟨b, off, e, hA, hB, fun i hi => ?_⟩
    obtain ⟨io, cp, c0, c1, hl, hr⟩ := hc i hi
    exact ⟨io, cp, (hb.cell (p := ⟨b, _, none⟩) hB).trans c0, (hb.cell (p := ⟨b, _, none⟩) hB).trans c1, hl, hr.kept hb⟩
theorem IdxRow.mono {w : World} {A B A' C : Nat} {ao : Option Addr} {xs : List Idx} (h : IdxRow w A B ao xs) (ha : A' ≤ A) (hc : B ≤ C) : IdxRow w A' C ao xs := by
  rcases h with h0 | ⟨b, off, e, hA, hB, hc'⟩
  · exact .inl h0
  · refine .inr ⟨b, off, e, by omega, by omega, fun i hi => ?_⟩
    obtain ⟨io, cp, c0, c1, hl, hr⟩ := hc' i hi
    exact ⟨io, cp, c0, c1, hl, hr.mono ha hc⟩
theorem IdxRow.at {w : World} {A B : Nat} {ao : Option Addr} {xs : List Idx} (h : IdxRow w A B ao xs) (k : Nat) (hk : k < xs.length) :
    ∃ b off io cp l u, ao = some ⟨b, off, none⟩ ∧ b < B ∧ xs.getD k noIdx = ⟨l, u⟩ ∧ (l.length ≤ cp ∧ cp ≤ maxLen) ∧ IntRow w A B io l ∧ w.cell? ⟨b, off + k * 2, none⟩ = some (.slice io l.length cp) ∧ w.cell? ⟨b, off + k * 2 + 1, none⟩ = some (.bool u) := by
  rcases h with h0 | ⟨b, off, e, hA, hB, hc⟩
  · omega
  · obtain ⟨io, cp, c0, c1, hl, hr⟩ := hc k hk
    exact ⟨b, off, io, cp, _, _, e, hB, rfl, hl, hr, c0, c1⟩

theorem ColRow.other {w : World} {A B : Nat} {ao : Option Addr} {cs : List Col} (h : ColRow w A B ao cs) (g m : Nat) (v : Value) (hg : g < A) : ColRow (w.setCell ⟨g, m, none⟩ v) A B ao cs := by
  refine ⟨h.1, ?_⟩
  rcases h.2 with h0 | ⟨b, off, e, hA, hB, hc⟩
  · exact .inl h0
  · refine .inr ⟨b, off, e, hA, hB, fun i hi => ?_⟩
    obtain ⟨c0, c1, c2⟩ := hc i hi
    have ho := fun o => World.cell?_setCell_other w ⟨g, m, none⟩ ⟨b, o, none⟩ v (fun e' => by have : g = b := congrArg Addr.block e'; omega)
    exact ⟨(ho _).trans c0, (ho _).trans c1, (ho _).trans c2⟩
theorem IdxRow.other {w : World} {A B : Nat} {ao : Option Addr} {xs : List Idx} (h : IdxRow w A B ao xs) (g m : Nat) (v : Value) (hg : g < A) : IdxRow (w.setCell ⟨g, m, none⟩ v) A B ao xs := by
  rcases h with h0 | ⟨b, off, e, hA, hB, hc⟩
  · exact .inl h0
  · refine .inr ⟨b, off, e, hA, hB, fun i hi => ?_⟩
    obtain ⟨io, cp, c0, c1, hl, hr⟩ := hc i hi
    have ho := fun o => World.cell?_setCell_other w ⟨g, m, none⟩ ⟨b, o, none⟩ v (fun e' => by have : g = b := congrArg Addr.block e'; omega)
    exact ⟨io, cp, (ho _).trans c0, (ho _).trans c1, hl, hr.other g m v hg⟩
/-- A schema whose parts lie below block B. -/
def SchRow (w : World) (A B : Nat) (ao ko xo : Option Addr) (c2 : Nat) (s : Sch) : Prop :=
  (s.name.size ≤ maxLen ∧ s.cols.length ≤ maxLen ∧ (s.key.length ≤ c2 ∧ c2 ≤ maxLen) ∧ s.idx.length ≤ maxLen) ∧ ColRow w A B ao s.cols ∧ IntRow w A B ko s.key ∧ IdxRow w A B xo s.idx
theorem SchRow.kept {w w' : World} {A B : Nat} {ao ko xo : Option Addr} {c2 : Nat} {s : Sch} (h : SchRow w A B ao ko xo c2 s) (hb : Below B w w') : SchRow w' A B ao ko xo c2 s := ⟨h.1, h.2.1.kept hb, h.2.2.1.kept hb, h.2.2.2.kept hb⟩
theorem SchRow.mono {w : World} {A B A' C : Nat} {ao ko xo : Option Addr} {c2 : Nat} {s : Sch} (h : SchRow w A B ao ko xo c2 s) (ha : A' ≤ A) (hc : B ≤ C) : SchRow w A' C ao ko xo c2 s := ⟨h.1, h.2.1.mono ha hc, h.2.2.1.mono ha hc, h.2.2.2.mono ha hc⟩
theorem SchRow.other {w : World} {A B : Nat} {ao ko xo : Option Addr} {c2 : Nat} {s : Sch} (h : SchRow w A B ao ko xo c2 s) (g m : Nat) (v : Value) (hg : g < A) : SchRow (w.setCell ⟨g, m, none⟩ v) A B ao ko xo c2 s := ⟨h.1, h.2.1.other g m v hg, h.2.2.1.other g m v hg, h.2.2.2.other g m v hg⟩
/-- What a schema is as a value. -/
def schV (s : Sch) (ao : Option Addr) (c1 : Nat) (ko : Option Addr) (c2 : Nat) (xo : Option Addr) (c3 : Nat) : Value :=
  .agg #[.string s.name, .slice ao s.cols.length c1, .slice ko s.key.length c2, .slice xo s.idx.length c3]
end Go.Proofs.Ytpmaklbbkmghbaa

/-
  A schema read from its bytes: plain facts.
-/
namespace Go.Proofs.Ytpmaklbbkmghbaa
open Go.RowKit

def rCol (s : ByteArray) (st : St) : Col × St :=
  (⟨(rTxt s st).1, (rNum s (rTxt s st).2).1, (rFlag s (rNum s (rTxt s st).2).2).1⟩, (rFlag s (rNum s (rTxt s st).2).2).2)
def rIdx (s : ByteArray) (st : St) : Idx × St := (⟨(rNums s st).1, (rFlag s (rNums s st).2).1⟩, (rFlag s (rNums s st).2).2)
end Go.Proofs.Ytpmaklbbkmghbaa

/-
  Contracts: the program's cursor.
-/
namespace Go.Proofs.Ytpmaklbbkmghbaa
open Go.RowKit
set_option maxRecDepth 100000

/-- The program's cursor in block g, at a state. -/
def CurAt (g : Nat) (s : ByteArray) (st : St) (w : World) : Prop :=
  s.size ≤ 20000 ∧ ∃ (a : Int) (e : Value), w.heap[g]? = some (.cells #[.string s, .int .i64 a, e] 99 (0, 0)) ∧ ((∃ p : Nat, st = some p ∧ a = (p : Int) ∧ e = .nilIface ∧ p ≤ s.size) ∨ (st = none ∧ ∃ c : Int, e = faultV c))
theorem CurAt.kept {g : Nat} {s : ByteArray} {st : St} {w w' : World} {r : Option Nat} (h : CurAt g s st w) (hg : w.grownBy w' r) (hr : r ≠ some g) : CurAt g s st w' := by
  obtain ⟨h1, a, e, h2, h3⟩ := h
  exact ⟨h1, a, e, (hg.block g (Array.getElem?_eq_some_iff.1 h2).1 (fun e => hr e.symm)).trans h2, h3⟩
theorem CurAt.below {g B : Nat} {s : ByteArray} {st : St} {w w' : World} (h : CurAt g s st w) (hb : Below B w w') (hg : g < B) : CurAt g s st w' := by
  obtain ⟨h1, a, e, h2, h3⟩ := h
  exact ⟨h1, a, e, (hb.block g hg).trans h2, h3⟩
theorem CurAt.lt {g : Nat} {s : ByteArray} {st : St} {w : World} (h : CurAt g s st w) : g < w.heap.size := by
  obtain ⟨h1, a, e, h2, h3⟩ := h
  exact (Array.getElem?_eq_some_iff.1 h2).1
theorem curNum_any (g : Nat) (s : ByteArray) (st : St) (w : World) (h : CurAt g s st w) :
    Calls Try.prog 119 #[.pointer (some ⟨g, 0, none⟩)] w fun e w' => e = .returned (.int .i64 (rNum s st).1) ∧ CurAt g s (rNum s st).2 w' ∧ w.grownBy w' (some g) := by
  have HC := hide h
  obtain ⟨hs, a, e, hg, hst⟩ := h
  obtain ⟨c0, c1, c2, cf⟩ := cells3 hg
  rcases hst with ⟨p, rfl, rfl, rfl, hp⟩ | ⟨rfl, c, rfl⟩
  · have hrd := readNum_any s p hs
    have HG := hide hg
    clear hg
    by_cases h0 : (rdAt s.data.toList p).2.2 = 0
    · have HN : Hid (rNum s (some p) = ((rdAt s.data.toList p).1, some (p + (rdAt s.data.toList p).2.1))) := by show _ = _; unfold rNum; simp only; rw [if_pos h0]
      have HP := hide (rNum_place s (some p) (p + (rdAt s.data.toList p).2.1) (by rw [HN.out]))
      have HR0 : Hid (∀ w, Calls Try.prog 125 #[.string s, .int .i64 p] w fun e w' => e = .returned (.tuple #[.int .i64 (rdAt s.data.toList p).1, .int .i64 ((p + (rdAt s.data.toList p).2.1 : Nat) : Int), .nilIface]) ∧ w' = w) := by
        have h := hrd
        unfold behind errV at h
        rw [h0] at h
        exact h
      clear hrd h0
      generalize (rdAt s.data.toList p).1 = n at *
      generalize p + (rdAt s.data.toList p).2.1 = q at *
      go_enter Try.func119, Try.ntmps119
      go_wp2
      go_region_held3 (fun W => W.cell? ⟨g, 0, none⟩ = some (.string s) ∧ W.cell? ⟨g, 1, none⟩ = some (.int .i64 p)) (go_keep) (first | (go_at_call 125; refine (HR0.out _).mono ?_; rintro e w1 ⟨rfl, rfl⟩))
      all_goals
        go_wp2
        go_ret
        refine ⟨by rw [HN.out]; rfl, ?_, grown_setG (grown_setG grown_drew)⟩
        rw [HN.out]
        exact ⟨hs, _, _, set12 HG.out, .inl ⟨q, rfl, rfl, rfl, HP.out⟩⟩
    · have HN : Hid (rNum s (some p) = (0, none)) := by show _ = _; unfold rNum; simp only; rw [if_neg h0]
      obtain ⟨cc, hcc⟩ : ∃ cc : Nat, (rdAt s.data.toList p).2.2 = cc := ⟨_, rfl⟩
      have hn0 : (rdAt s.data.toList p).1 = 0 := rd_zero _ _ _ h0
      have HR0 : Hid (∃ q : Int, ∀ w, Calls Try.prog 125 #[.string s, .int .i64 p] w fun e w' => e = .returned (.tuple #[.int .i64 0, .int .i64 q, .iface 161 (.agg #[.int .i64 cc])]) ∧ w' = w) := by
        have h := hrd
        unfold errV at h
        rw [hcc, hn0] at h
        rw [hcc] at h0
        rw [if_neg h0] at h
        exact ⟨_, h⟩
      clear hrd h0 hn0 hcc
      obtain ⟨q, HR1⟩ := HR0.out
      have HR2 := hide HR1
      clear HR0 HR1
      go_enter Try.func119, Try.ntmps119
      go_wp2
      go_region_held3 (fun W => W.cell? ⟨g, 0, none⟩ = some (.string s) ∧ W.cell? ⟨g, 1, none⟩ = some (.int .i64 p)) (go_keep) (first | (go_at_call 125; refine (HR2.out _).mono ?_; rintro e w1 ⟨rfl, rfl⟩))
      all_goals
        go_wp2
        go_ret
        refine ⟨by rw [HN.out]; rfl, ?_, grown_setG (grown_setG grown_drew)⟩
        rw [HN.out]
        exact ⟨hs, _, _, set12 HG.out, .inr ⟨rfl, cc, rfl⟩⟩
  · have hf : faultV c = .iface 161 (.agg #[.int .i64 c]) := rfl
    rw [hf] at c2
    go_enter Try.func119, Try.ntmps119
    go_wp2
    go_ret
    exact ⟨rfl, HC.out, grown_refl _ _⟩
set_option maxHeartbeats 1000000 in
theorem curWord_any (g : Nat) (s : ByteArray) (st : St) (w : World) (h : CurAt g s st w) :
    Calls Try.prog 99 #[.pointer (some ⟨g, 0, none⟩)] w fun e w' => e = .returned (.string (rTxt s st).1) ∧ CurAt g s (rTxt s st).2 w' ∧ w.grownBy w' (some g) := by
  have HC := hide h
  have hgl := h.lt
  obtain ⟨hs, a, e, hg, hst⟩ := h
  obtain ⟨c0, c1, c2, cf⟩ := cells3 hg
  rcases hst with ⟨p, rfl, rfl, rfl, hp⟩ | ⟨rfl, c, rfl⟩
  · have hrd : ∀ w, Calls Try.prog 118 #[.string s, .int .i64 p] w fun e w' => e = .returned (.tuple #[.string (txtAt s p).1, .int .i64 (txtAt s p).2.1, errV (txtAt s p).2.2]) ∧ Below w.heap.size w w' := fun w => readText_any s p hs _ _ _ rfl rfl rfl w
    have HG := hide hg
    clear hg
    by_cases h0 : (txtAt s p).2.2 = 0
    · have HN : Hid (rTxt s (some p) = ((txtAt s p).1, some (txtAt s p).2.1.toNat)) := by show _ = _; unfold rTxt; simp only; rw [if_pos h0]
      have HP := hide (rTxt_place s (some p) (txtAt s p).2.1.toNat (by rw [HN.out]))
      have hq := txt_place s p h0
      have HQ : Hid ((txtAt s p).2.1 = (((txtAt s p).2.1.toNat : Nat) : Int)) := by show _ = _; omega
      have HR0 : Hid (∀ w, Calls Try.prog 118 #[.string s, .int .i64 p] w fun e w' => e = .returned (.tuple #[.string (txtAt s p).1, .int .i64 ((txtAt s p).2.1.toNat : Nat), .nilIface]) ∧ Below w.heap.size w w') := by
        have h := hrd
        unfold errV at h
        rw [h0] at h
        rw [← HQ.out]
        exact h
      clear hrd h0 hq HQ
      generalize (txtAt s p).1 = n at *
      generalize (txtAt s p).2.1.toNat = q at *
      go_enter Try.func99, Try.ntmps99
      go_wp2
      go_region_held3 (fun W => W.cell? ⟨g, 0, none⟩ = some (.string s) ∧ W.cell? ⟨g, 1, none⟩ = some (.int .i64 p)) (go_keep) (first | (go_at_call 118; refine (HR0.out _).mono ?_; rintro e w1 ⟨rfl, hb1⟩; have hb1' : Below w.heap.size w w1 := (Below.refl _ _).drew.trans hb1; obtain ⟨hc1, hf1⟩ := bcell hb1'))
      all_goals
        have HG1 := hide ((hb1'.block _ hgl).trans HG.out)
        obtain ⟨k0, k1, k2, kf⟩ := cells3 HG1.out
        have gr := grown_below (grown_refl w (some g)) hb1'
        clear hc1 hf1 hb1 hb1'
        go_wp2
        go_ret
        refine ⟨by rw [HN.out]; rfl, ?_, grown_setG (grown_setG gr)⟩
        rw [HN.out]
        exact ⟨hs, _, _, set12 HG1.out, .inl ⟨q, rfl, rfl, rfl, HP.out⟩⟩
    · have HN : Hid (rTxt s (some p) = (ByteArray.empty, none)) := by show _ = _; unfold rTxt; simp only; rw [if_neg h0]
      obtain ⟨cc, hcc⟩ : ∃ cc : Nat, (txtAt s p).2.2 = cc := ⟨_, rfl⟩
      have hn0 : (txtAt s p).1 = ByteArray.empty := txt_zero s p h0
      have HR0 : Hid (∃ q : Int, ∀ w, Calls Try.prog 118 #[.string s, .int .i64 p] w fun e w' => e = .returned (.tuple #[.string ByteArray.empty, .int .i64 q, .iface 161 (.agg #[.int .i64 cc])]) ∧ Below w.heap.size w w') := by
        have h := hrd
        unfold errV at h
        rw [hcc, hn0] at h
        rw [hcc] at h0
        rw [if_neg h0] at h
        exact ⟨_, h⟩
      clear hrd h0 hn0 hcc
      obtain ⟨q, HR1⟩ := HR0.out
      have HR2 := hide HR1
      clear HR0 HR1
      go_enter Try.func99, Try.ntmps99
      go_wp2
      go_region_held3 (fun W => W.cell? ⟨g, 0, none⟩ = some (.string s) ∧ W.cell? ⟨g, 1, none⟩ = some (.int .i64 p)) (go_keep) (first | (go_at_call 118; refine (HR2.out _).mono ?_; rintro e w1 ⟨rfl, hb1⟩; have hb1' : Below w.heap.size w w1 := (Below.refl _ _).drew.trans hb1; obtain ⟨hc1, hf1⟩ := bcell hb1'))
      all_goals
        have HG1 := hide ((hb1'.block _ hgl).trans HG.out)
        obtain ⟨k0, k1, k2, kf⟩ := cells3 HG1.out
        have gr := grown_below (grown_refl w (some g)) hb1'
        clear hc1 hf1 hb1 hb1'
        go_wp2
        go_ret
        refine ⟨by rw [HN.out]; rfl, ?_, grown_setG (grown_setG gr)⟩
        rw [HN.out]
        exact ⟨hs, _, _, set12 HG1.out, .inr ⟨rfl, cc, rfl⟩⟩
  · have hf : faultV c = .iface 161 (.agg #[.int .i64 c]) := rfl
    rw [hf] at c2
    go_enter Try.func99, Try.ntmps99
    go_wp2
    go_ret
    exact ⟨rfl, HC.out, grown_refl _ _⟩
theorem curRefuse_any (g : Nat) (s : ByteArray) (st : St) (w : World) (h : CurAt g s st w) :
    Calls Try.prog 120 #[.pointer (some ⟨g, 0, none⟩)] w fun e w' => e = .returned (.tuple #[]) ∧ CurAt g s none w' ∧ w.grownBy w' (some g) := by
  have HC := hide h
  obtain ⟨hs, a, e, hg, hst⟩ := h
  obtain ⟨c0, c1, c2, cf⟩ := cells3 hg
  have HG := hide hg
  clear hg
  rcases hst with ⟨p, rfl, rfl, rfl, hp⟩ | ⟨rfl, c, rfl⟩
  · go_enter Try.func120, Try.ntmps120
    go_wp2
    refine bodyPost_end (v := .tuple #[]) (by simp [results, Try.results120, go_sem]) rfl ⟨rfl, ?_, grown_setG (grown_refl _ _)⟩
    exact ⟨hs, _, _, setc2 HG.out, .inr ⟨rfl, 3, rfl⟩⟩
  · have hf : faultV c = .iface 161 (.agg #[.int .i64 c]) := rfl
    rw [hf] at c2
    go_enter Try.func120, Try.ntmps120
    go_wp2
    refine bodyPost_end (v := .tuple #[]) (by simp [results, Try.results120, go_sem]) rfl ⟨rfl, HC.out, grown_refl _ _⟩
theorem curMany_any (g : Nat) (s : ByteArray) (most : Int) (st : St) (w : World) (h : CurAt g s st w) :
    Calls Try.prog 100 #[.pointer (some ⟨g, 0, none⟩), .int .i64 most] w fun e w' => e = .returned (.int .i64 (rMany s most st).1) ∧ CurAt g s (rMany s most st).2 w' ∧ w.grownBy w' (some g) := by
  have HN := hide (curNum_any g s st w h)
  have HM : Hid (rMany s most st = if (rNum s st).1 < 0 ∨ most < (rNum s st).1 then (0, none) else rNum s st) := rfl
  generalize hr : rNum s st = r at *
  clear hr
  obtain ⟨n, st1⟩ := r
  simp only at HN HM
  clear h
  by_cases h1 : n < 0 ∨ most < n
  · have HR : Hid (rMany s most st = (0, none)) := by show _ = _; rw [HM.out, if_pos h1]
    clear HM
    go_enter Try.func100, Try.ntmps100
    go_wp2_with fail
    refine HN.out.mono ?_
    rintro e w1 ⟨rfl, hc1, gr1⟩
    have HC1 := hide hc1
    clear hc1
    have h1' : n < 0 ∨ (¬ (n < 0) ∧ most < n) := by omega
    clear h1
    rcases h1' with h1 | ⟨hn, h1⟩
    all_goals
      go_wp2_with fail
      refine (curRefuse_any g s st1 w1 HC1.out).mono ?_
      rintro e w2 ⟨rfl, hc2, gr2⟩
      have HC2 := hide hc2
      clear hc2
      go_wp2
      go_ret
      exact ⟨by rw [HR.out]; rfl, by rw [HR.out]; exact HC2.out, gr1.trans gr2⟩
  · have HR : Hid (rMany s most st = (n, st1)) := by show _ = _; rw [HM.out, if_neg h1]
    have h2 : ¬ (n < 0) := by omega
    have h3 : ¬ (most < n) := by omega
    clear HM h1
    go_enter Try.func100, Try.ntmps100
    go_wp2_with fail
    refine HN.out.mono ?_
    rintro e w1 ⟨rfl, hc1, gr1⟩
    have HC1 := hide hc1
    clear hc1
    go_wp2
    go_ret
    exact ⟨by rw [HR.out]; rfl, by rw [HR.out]; exact HC1.out, gr1⟩
theorem curFlag_any (g : Nat) (s : ByteArray) (st : St) (w : World) (h : CurAt g s st w) :
    Calls Try.prog 121 #[.pointer (some ⟨g, 0, none⟩)] w fun e w' => e = .returned (.bool (rFlag s st).1) ∧ CurAt g s (rFlag s st).2 w' ∧ w.grownBy w' (some g) := by
  have HN := hide (curMany_any g s 1 st w h)
  have HR : Hid (rFlag s st = (decide ((rMany s 1 st).1 = 1), (rMany s 1 st).2)) := rfl
  generalize rMany s 1 st = r at *
  obtain ⟨n, st1⟩ := r
  simp only at HN HR
  clear h
  go_enter Try.func121, Try.ntmps121
  go_wp2_with fail
  refine HN.out.mono ?_
  rintro e w1 ⟨rfl, hc1, gr1⟩
  have HC1 := hide hc1
  clear hc1
  by_cases h1 : n = 1
  · subst h1
    go_wp2
    go_ret
    exact ⟨by rw [HR.out]; rfl, by rw [HR.out]; exact HC1.out, gr1⟩
  · have h2 : (n == 1) = false := by simp [h1]
    have HD := hide (decide_eq_false h1)
    clear h1
    go_wp2
    go_ret
    exact ⟨by rw [HR.out, HD.out]; rfl, by rw [HR.out]; exact HC1.out, gr1⟩
end Go.Proofs.Ytpmaklbbkmghbaa

/-
  Rows of cells that a call has made, or that can be read. Plain laws.
-/
namespace Go.Proofs.Ytpmaklbbkmghbaa
open Go.RowKit

/-- Cells that can be read one behind the other, below block B. -/
def CellRow (w : World) (B : Nat) (ao : Option Addr) (xs : List Value) : Prop :=
  xs.length = 0 ∨ ∃ b off, ao = some ⟨b, off, none⟩ ∧ b < B ∧ ∀ i (h : i < xs.length), w.cell? ⟨b, off + i, none⟩ = some xs[i]
theorem CellRow.kept {w w' : World} {B : Nat} {ao : Option Addr} {xs : List Value} (h : CellRow w B ao xs) (hb : Below B w w') : CellRow w' B ao xs := by
  rcases h with h0 | ⟨b, off, e, hB, hc⟩
  · exact .inl h0
  · exact .inr ⟨b, off, e, hB, fun i hi => (hb.cell (p := ⟨b, off + i, none⟩) hB).trans (hc i hi)⟩
theorem CellRow.mono {w : World} {B C : Nat} {ao : Option Addr} {xs : List Value} (h : CellRow w B ao xs) (hc : B ≤ C) : CellRow w C ao xs := by
  rcases h with h0 | ⟨b, off, e, hB, hc'⟩
  · exact .inl h0
  · exact .inr ⟨b, off, e, by omega, hc'⟩
theorem CellRow.at {w : World} {B : Nat} {ao : Option Addr} {xs : List Value} (h : CellRow w B ao xs) (k : Nat) (hk : k < xs.length) : ∃ b off, ao = some ⟨b, off, none⟩ ∧ b < B ∧ w.cell? ⟨b, off + k, none⟩ = some xs[k] := by
  rcases h with h0 | ⟨b, off, e, hB, hc⟩
  · omega
  · exact ⟨b, off, e, hB, hc k hk⟩
theorem cellRow_of_owns {w : World} {base n : Nat} {t : TypeId} {v : Value} {xs : List Value} (h : w.ownsRow base t 1 v n xs) : ∃ ao cap, v = .slice ao xs.length cap ∧ CellRow w w.heap.size ao xs := by
  have hx : xs.length = n := by simpa using h.1
  rcases h.2 with ⟨rfl, rfl⟩ | ⟨g, cap, cur, rfl, hb, hg, hn, hm, hs, ht⟩
  · obtain rfl : xs = [] := List.eq_nil_of_length_eq_zero hx
    exact ⟨none, 0, rfl, .inl rfl⟩
  · refine ⟨some ⟨g, 0, none⟩, cap, by rw [hx], .inr ⟨g, 0, rfl, (Array.getElem?_eq_some_iff.1 hg).1, fun i hi => ?_⟩⟩
    have hc := World.ownsRow.cellAt h i (by omega)
    rw [Nat.zero_add, hc, List.getElem?_eq_getElem hi]

theorem owns_below {w w' : World} {base n size : Nat} {t : TypeId} {v : Value} {xs : List Value} (h : w.ownsRow base t size v n xs) (hb : Below w.heap.size w w') : w'.ownsRow base t size v n xs := by
  refine ⟨h.1, ?_⟩
  rcases h.2 with h0 | ⟨g, cap, cur, rfl, hB, hg, hn, hm, hs, ht⟩
  · exact .inl h0
  · exact .inr ⟨g, cap, cur, rfl, hB, (hb.block _ (Array.getElem?_eq_some_iff.1 hg).1).trans hg, hn, hm, hs, ht⟩
theorem below_alloc {w w' : World} {o : Obj} (h : Below (w.alloc o).heap.size (w.alloc o) w') : Below w.heap.size w w' :=
  ((Below.refl _ _).alloc (Nat.le_refl _) o).trans (h.mono (by simp))
end Go.Proofs.Ytpmaklbbkmghbaa

/-
  A slice of bytes that the call has made.
-/
namespace Go.Proofs.Ytpmaklbbkmghbaa
open Go.RowKit

def numsU (l : List UInt8) : List Int := l.map fun b => (b.toNat : Int)
theorem numsU_append (a b : List UInt8) : numsU (a ++ b) = numsU a ++ numsU b := by simp [numsU]
theorem numsU_len (l : List UInt8) : (numsU l).length = l.length := by simp [numsU]
/-- A slice of bytes that the call has made. -/
def OwnB (base : Nat) (v : Value) (l : List UInt8) (w : World) : Prop := w.ownsRow base 5 1 v l.length ((numsU l).map (Value.int .u8))
theorem OwnB.below {base : Nat} {v : Value} {l : List UInt8} {w w' : World} (h : OwnB base v l w) (hb : Below w.heap.size w w') : OwnB base v l w' := owns_below h hb
theorem ownB_of {base : Nat} {v : Value} {l : List UInt8} {w : World} {n : Nat} {xs : List Value} (h : w.ownsRow base 5 1 v n xs) (hn : n = l.length) (hx : xs = (numsU l).map (Value.int .u8)) : OwnB base v l w := by subst hn hx; exact h
theorem OwnB.conv {base : Nat} {v : Value} {l : List UInt8} {w : World} (h : OwnB base v l w) : (convert 82 9 v).run Try.prog w = .ok (.string (mkS l)) w := by
  have := convOwn h
  rwa [numsU, strOfNums_bytes] at this
theorem own_snoc {base : Nat} {v : Value} {l : List UInt8} {w : World} {x : Int} (c : UInt8) (h : w.ownsRow base 5 1 v (l.length + 1) ((numsU l).map (Value.int .u8) ++ [.int .u8 x])) (hx : x = (c.toNat : Int)) : OwnB base v (l ++ [c]) w := by
  subst hx
  exact ownB_of h (by simp) (by rw [numsU_append, List.map_append]; rfl)
theorem own_snoc2 {base : Nat} {v : Value} {l : List UInt8} {w : World} {x y : Int} (c d : UInt8) (h : w.ownsRow base 5 1 v (l.length + 2) ((numsU l).map (Value.int .u8) ++ [.int .u8 x, .int .u8 y])) (hx : x = (c.toNat : Int)) (hy : y = (d.toNat : Int)) : OwnB base v (l ++ [c, d]) w := by
  subst hx hy
  exact ownB_of h (by simp) (by rw [numsU_append, List.map_append]; rfl)
theorem cell_two_new (w : World) (x y : Value) (t : TypeId) : ∀ j u, [x, y][j]? = some u → (w.alloc (.cells #[x, y] t)).cell? ((⟨w.heap.size, 0, none⟩ : Addr).add j) = some u := by
  intro j u hj
  have hadd : (⟨w.heap.size, 0, none⟩ : Addr).add j = ⟨w.heap.size, j, none⟩ := by unfold Addr.add; split <;> simp_all
  rw [hadd, cell_of_row _ _ _ _ _ _ (heap_alloc_new w _)]
  simpa using hj
theorem one1 (k : IntKind) (x : Int) : ∀ u ∈ [Value.int k x], u.oneCell' = true := fun u hu => by simp at hu; subst hu; rfl
theorem one2 (k : IntKind) (x y : Int) : ∀ u ∈ [Value.int k x, Value.int k y], u.oneCell' = true := fun u hu => by
  simp at hu
  rcases hu with rfl | rfl <;> rfl
theorem size_alloc_le {B : Nat} {w : World} (o : Obj) (h : B ≤ w.heap.size) : B ≤ (w.alloc o).heap.size := by simp; omega
end Go.Proofs.Ytpmaklbbkmghbaa

/-
  One byte, as a text.
-/
namespace Go.Proofs.Ytpmaklbbkmghbaa
open Go.RowKit

theorem conv_one (W : World) (c : UInt8) (x : Int) (hx : x = (c.toNat : Int)) : (convert 82 9 (.slice (some ⟨W.heap.size, 0, none⟩) 1 1)).run Try.prog (W.alloc (.cells #[.int .u8 x] 5)) = .ok (.string (mkS [c])) (W.alloc (.cells #[.int .u8 x] 5)) := by
  subst hx
  exact OwnB.conv (base := W.heap.size) (l := [c]) ⟨rfl, .inr ⟨W.heap.size, 1, _, rfl, Nat.le_refl _, heap_alloc_new _ _, Nat.le_refl _, by decide, rfl, rfl⟩⟩
end Go.Proofs.Ytpmaklbbkmghbaa

/-
  Contracts: marks.
-/
namespace Go.Proofs.Ytpmaklbbkmghbaa
open Go.RowKit

/-- A number's figures, ahead of what stands there. -/
def figs (j : Nat) (o : ByteArray) : ByteArray := if _h : j = 0 then o else figs (j / 10) (mkS [UInt8.ofNat (48 + j % 10)] ++ o)
termination_by j
decreasing_by omega
theorem figs_zero (o : ByteArray) : figs 0 o = o := by rw [figs]; rfl
theorem figs_pos (j : Nat) (o : ByteArray) (h : 0 < j) : figs j o = figs (j / 10) (mkS [UInt8.ofNat (48 + j % 10)] ++ o) := by rw [figs, dif_neg (by omega)]
/-- A mark. -/
def markS (k : Nat) : ByteArray := "m".toUTF8 ++ figs k ⟨#[]⟩
theorem m_size (k : Nat) : markS k = ⟨#[109]⟩ ++ figs k ⟨#[]⟩ := rfl
set_option maxRecDepth 100000 in
set_option maxHeartbeats 4000000 in
theorem markText_pos (k : Nat) (h : 0 < k) (hk : k ≤ 10000000) (w : World) :
    Calls Try.prog 74 #[.int .i64 k] w fun e w' => e = .returned (.string (markS k)) ∧ Below w.heap.size w w' := by
  go_enter Try.func74, Try.ntmps74
  go_wp2
  go_loopw [0, 3] (fun i o wr => ∃ (j : Nat) (x : ByteArray), x.size + j ≤ 10000000 ∧ i = .int .i64 j ∧ o = .string x ∧ Hid (figs k ⟨#[]⟩ = figs j x) ∧ Below w.heap.size w wr) (fun i _ _ => (intOf i).toNat)
  case atStart => exact ⟨k, ⟨#[]⟩, by simpa [ByteArray.size] using hk, rfl, rfl, rfl, Below.refl _ _⟩
  case round =>
    obtain ⟨j, x, hj, rfl, rfl, HF, hb⟩ := hrel
    have hz := hb.size
    by_cases hj0 : j = 0
    · subst hj0
      have HM : Hid (markS k = ⟨#[109]⟩ ++ x) := by show _ = _; rw [m_size, HF.out, figs_zero]
      clear HF
      go_wp2
      go_ret
      exact ⟨ret_str HM.out.symm, hb⟩
    · have HF2 : Hid (figs k ⟨#[]⟩ = figs (j / 10) (mkS [UInt8.ofNat (48 + j % 10)] ++ x)) := by show _ = _; rw [HF.out, figs_pos j x (by omega)]
      have hr10 : j % 10 < 10 := Nat.mod_lt _ (by omega)
      have hcv := conv_one wr (UInt8.ofNat (48 + j % 10)) (48 + (j : Int) % 10) (by rw [UInt8.toNat_ofNat']; omega)
      have hms : (mkS [UInt8.ofNat (48 + j % 10)]).size = 1 := mkS_size _
      have hb2 := hb.alloc hz (.cells #[.int .u8 (48 + (j : Int) % 10)] 5)
      clear HF
      generalize mkS [UInt8.ofNat (48 + j % 10)] = c at *
      go_wp2
      go_roundw
      case rel => exact ⟨j / 10, c ++ x, by rw [ByteArray.size_append]; omega, by go_num, rfl, HF2, hb2⟩
      case measure => simp [intOf]; omega
end Go.Proofs.Ytpmaklbbkmghbaa

/-
  Plain facts on values: which are right, their bytes, how these are read, and that the order of the bytes is that of the values.
-/
namespace Go.Proofs.Ytpmaklbbkmghbaa
open Go.RowKit

/-- A value's three fields. -/
structure Val where
  kind : Int
  num : Int
  text : ByteArray
/-- The fields lie in int64. -/
def Val.ok (v : Val) : Prop := -9223372036854775808 ≤ v.kind ∧ v.kind ≤ 9223372036854775807 ∧ -9223372036854775808 ≤ v.num ∧ v.num ≤ 9223372036854775807
def vRight (v : Val) : Bool :=
  if v.kind = 0 then decide (v.num = 0 ∧ v.text.size = 0) else if v.kind = 1 then decide ((v.num = 0 ∨ v.num = 1) ∧ v.text.size = 0)
  else if v.kind = 2 then decide (v.text.size = 0) else if v.kind = 3 then decide (v.num = 0 ∧ v.text.size ≤ 200) else false
def vsRight (l : List Val) : Bool := decide (l.length ≤ 12) && l.all vRight

theorem ba_ext {a b : ByteArray} (h : a.data.toList = b.data.toList) : a = b := ByteArray.ext (Array.ext' h)
theorem ba_size (a : ByteArray) : a.size = a.data.toList.length := rfl
theorem ba_empty {a : ByteArray} (h : a.size = 0) : a = ByteArray.empty := by
  apply ba_ext
  rw [ba_size] at h
  rw [List.eq_nil_of_length_eq_zero h]; rfl

/-- The order of texts, as a number. -/
def cmpB : List UInt8 → List UInt8 → Int
  | [], [] => 0
  | [], _ :: _ => -1
  | _ :: _, [] => 1
  | a :: x, b :: y => if a = b then cmpB x y else if a < b then -1 else 1
theorem cmpB_less : ∀ x y, Op.bytesLess x y = decide (cmpB x y = -1)
  | [], [] => rfl
  | [], _ :: _ => rfl
  | _ :: _, [] => rfl
  | a :: x, b :: y => by
    by_cases h : a = b
    · subst h
      have e : Op.bytesLess (a :: x) (a :: y) = Op.bytesLess x y := by simp [Op.bytesLess]
      rw [e, cmpB_less x y]; simp [cmpB]
    · by_cases h2 : a < b <;> simp [Op.bytesLess, cmpB, h, h2]
theorem cmpB_self : ∀ x, cmpB x x = 0
  | [] => rfl
  | a :: x => by simp [cmpB, cmpB_self x]
theorem cmpB_zero : ∀ x y, cmpB x y = 0 → x = y
  | [], [] => fun _ => rfl
  | [], _ :: _ => fun h => by simp [cmpB] at h
  | _ :: _, [] => fun h => by simp [cmpB] at h
  | a :: x, b :: y => fun h => by
    by_cases e : a = b
    · subst e
      simp [cmpB] at h
      rw [cmpB_zero x y h]
    · by_cases h2 : a < b <;> simp [cmpB, e, h2] at h
theorem cmpB_flip : ∀ x y, cmpB y x = -cmpB x y
  | [], [] => rfl
  | [], _ :: _ => rfl
  | _ :: _, [] => rfl
  | a :: x, b :: y => by
    by_cases h : a = b
    · subst h; simp [cmpB, cmpB_flip x y]
    · have h' : ¬ b = a := fun e => h e.symm
      by_cases h2 : a < b
      · have h3 : ¬ b < a := by rw [UInt8.lt_iff_toNat_lt] at h2 ⊢; omega
        simp [cmpB, h, h', h2, h3]
      · have h3 : b < a := by
          have : a.toNat ≠ b.toNat := fun e => h (UInt8.toNat_inj.1 e)
          rw [UInt8.lt_iff_toNat_lt] at h2 ⊢; omega
        simp [cmpB, h, h', h2, h3]
theorem cmpB_three : ∀ x y, cmpB x y = 0 ∨ cmpB x y = -1 ∨ cmpB x y = 1
  | [], [] => .inl rfl
  | [], _ :: _ => .inr (.inl rfl)
  | _ :: _, [] => .inr (.inr rfl)
  | a :: x, b :: y => by
    by_cases h : a = b
    · subst h; simpa [cmpB] using cmpB_three x y
    · by_cases h2 : a < b <;> simp [cmpB, h, h2]

/-- A text's bytes, a byte 0 as 0 and 255. -/
def esc : List UInt8 → List UInt8
  | [] => []
  | b :: r => if b = 0 then 0 :: 255 :: esc r else b :: esc r
/-- k bytes of a number, the highest first. -/
def be : Nat → Nat → List UInt8
  | 0, _ => []
  | k + 1, n => UInt8.ofNat (n / 256 ^ k) :: be k (n % 256 ^ k)
def keyV (v : Val) : List UInt8 :=
  if v.kind = 0 then [0] else if v.kind = 1 then [1, UInt8.ofNat v.num.toNat] else if v.kind = 2 then 2 :: be 8 (v.num + 9223372036854775808).toNat
  else 3 :: (esc v.text.data.toList ++ [0, 0])
def keyL (vs : List Val) : List UInt8 := (vs.map keyV).flatten
theorem keyL_cons (v : Val) (vs : List Val) : keyL (v :: vs) = keyV v ++ keyL vs := by simp [keyL]
theorem keyL_nil : keyL [] = [] := rfl
theorem keyL_snoc (vs : List Val) (v : Val) : keyL (vs ++ [v]) = keyL vs ++ keyV v := by simp [keyL]
theorem be_len : ∀ k n, (be k n).length = k
  | 0, _ => rfl
  | k + 1, n => by simp [be, be_len k]
theorem esc_len : ∀ l, (esc l).length ≤ 2 * l.length
  | [] => Nat.le_refl _
  | b :: r => by
    have := esc_len r
    by_cases h : b = 0 <;> simp [esc, h] <;> omega
theorem esc_append (a b : List UInt8) : esc (a ++ b) = esc a ++ esc b := by
  induction a with
  | nil => rfl
  | cons x r ih => by_cases h : x = 0 <;> simp [esc, h, ih]
theorem keyV_pos (v : Val) : 1 ≤ (keyV v).length := by
  unfold keyV
  by_cases h0 : v.kind = 0
  · simp [h0]
  by_cases h1 : v.kind = 1
  · simp [h1]
  by_cases h2 : v.kind = 2
  · simp [h2]
  · simp [h0, h1, h2]
theorem keyV_len (v : Val) (h : vRight v = true) : (keyV v).length ≤ 403 := by
  unfold keyV
  unfold vRight at h
  by_cases h0 : v.kind = 0
  · simp [h0]
  by_cases h1 : v.kind = 1
  · simp [h1]
  by_cases h2 : v.kind = 2
  · simp [h2, be_len]
  by_cases h3 : v.kind = 3
  · simp [h3] at h ⊢
    have := esc_len v.text.data.toList
    rw [← ba_size] at this
    omega
  · simp [h0, h1, h2, h3] at h
theorem keyL_len (vs : List Val) (h : vs.all vRight = true) : (keyL vs).length ≤ 403 * vs.length := by
  induction vs with
  | nil => simp [keyL]
  | cons v r ih =>
    rw [List.all_cons, Bool.and_eq_true] at h
    have := ih h.2
    have := keyV_len v h.1
    rw [keyL_cons, List.length_append, List.length_cons]; omega

/-- The plain bytes up to 0 0, and what is behind. -/
def unesc : List UInt8 → Option (List UInt8 × List UInt8)
  | [] => none
  | [_] => none
  | b :: c :: r => if b = 0 then (if c = 0 then some ([], r) else if c = 255 then (unesc r).map fun p => (0 :: p.1, p.2) else none) else (unesc (c :: r)).map fun p => (b :: p.1, p.2)
theorem unesc_esc (l r : List UInt8) : unesc (esc l ++ 0 :: 0 :: r) = some (l, r) := by
  induction l with
  | nil => simp [esc, unesc]
  | cons b t ih =>
    by_cases h : b = 0
    · subst h
      simp [esc, unesc, ih]
    · rw [esc, if_neg h]
      cases he : esc t ++ 0 :: 0 :: r with
      | nil => simp at he
      | cons c u =>
        rw [List.cons_append, he, unesc, if_neg h, ← he, ih]; rfl
theorem esc_unesc : ∀ l p r, unesc l = some (p, r) → l = esc p ++ 0 :: 0 :: r
  | [], _, _, h => by simp [unesc] at h
  | [_], _, _, h => by simp [unesc] at h
  | b :: c :: t, p, r, h => by
    rw [unesc] at h
    by_cases hb : b = 0
    · rw [if_pos hb] at h
      by_cases hc : c = 0
      · rw [if_pos hc] at h
        simp at h
        obtain ⟨rfl, rfl⟩ := h
        simp [esc, hb, hc]
      · rw [if_neg hc] at h
        by_cases h5 : c = 255
        · rw [if_pos h5] at h
          simp at h
          obtain ⟨a, ha, rfl⟩ := h
          have := esc_unesc t a r ha
          simp [esc, hb, h5, this]
        · rw [if_neg h5] at h; simp at h
    · rw [if_neg hb] at h
      simp at h
      obtain ⟨a, ha, rfl⟩ := h
      have := esc_unesc (c :: t) a r ha
      simp [esc, hb, this]
theorem unesc_zero (c : UInt8) (r : List UInt8) : unesc (0 :: c :: r) = if c = 0 then some ([], r) else if c = 255 then (unesc r).map fun p => (0 :: p.1, p.2) else none := by
  rw [unesc, if_pos rfl]
theorem unesc_more (b : UInt8) (hb : b ≠ 0) : ∀ r, unesc (b :: r) = (unesc r).map fun p => (b :: p.1, p.2)
  | [] => rfl
  | c :: r => by rw [unesc, if_neg hb]

def beVal : List UInt8 → Nat := fun l => l.foldl (fun a b => a * 256 + b.toNat) 0
theorem beVal_snoc (l : List UInt8) (b : UInt8) : beVal (l ++ [b]) = beVal l * 256 + b.toNat := by simp [beVal]
theorem foldl_be (l : List UInt8) : ∀ a, l.foldl (fun a b => a * 256 + b.toNat) a = a * 256 ^ l.length + beVal l := by
  induction l with
  | nil => intro a; simp [beVal]
  | cons b r ih =>
    intro a
    unfold beVal
    simp only [List.foldl_cons, List.length_cons]
    rw [ih, ih (0 * 256 + b.toNat)]
    rw [Nat.pow_succ, Nat.add_mul, Nat.mul_assoc, Nat.mul_comm 256, Nat.zero_mul, Nat.zero_add]; omega
theorem beVal_cons (b : UInt8) (l : List UInt8) : beVal (b :: l) = b.toNat * 256 ^ l.length + beVal l := by
  have := foldl_be l (0 * 256 + b.toNat)
  unfold beVal at *
  rw [List.foldl_cons, this]; simp
theorem beVal_lt (l : List UInt8) : beVal l < 256 ^ l.length := by
  induction l with
  | nil => simp [beVal]
  | cons b r ih =>
    rw [beVal_cons, List.length_cons, Nat.pow_succ]
    have h1 : b.toNat ≤ 255 := by have := b.toNat_lt; omega
    have h2 := Nat.mul_le_mul_right (256 ^ r.length) h1
    omega
theorem be_val : ∀ k n, n < 256 ^ k → beVal (be k n) = n
  | 0, n, h => by simp [be, beVal] at h ⊢; omega
  | k + 1, n, h => by
    have hp : 0 < 256 ^ k := Nat.pow_pos (by omega)
    have hd : n / 256 ^ k < 256 := Nat.div_lt_of_lt_mul (by rw [Nat.pow_succ] at h; exact h)
    rw [be, beVal_cons, be_len, be_val k _ (Nat.mod_lt _ hp), UInt8.toNat_ofNat', Nat.mod_eq_of_lt hd, Nat.mul_comm]
    exact Nat.div_add_mod n (256 ^ k)
theorem val_be (l : List UInt8) : be l.length (beVal l) = l := by
  induction l with
  | nil => rfl
  | cons b r ih =>
    have hp : 0 < 256 ^ r.length := Nat.pow_pos (by omega)
    have hv := beVal_lt r
    rw [List.length_cons, be, beVal_cons, Nat.mul_comm, Nat.mul_add_div hp, Nat.mul_add_mod, Nat.div_eq_of_lt hv, Nat.mod_eq_of_lt hv, ih]
    simp

/-- The value that stands at the head of bytes, and what is behind. -/
def readV : List UInt8 → Option (Val × List UInt8)
  | [] => none
  | k :: r =>
    if k = 0 then some (⟨0, 0, ByteArray.empty⟩, r)
    else if k = 1 then (match r with | [] => none | b :: t => if b.toNat ≤ 1 then some (⟨1, b.toNat, ByteArray.empty⟩, t) else none)
    else if k = 2 then (if r.length < 8 then none else some (⟨2, (beVal (r.take 8) : Int) - 9223372036854775808, ByteArray.empty⟩, r.drop 8))
    else if k = 3 then (match unesc r with | none => none | some (p, t) => if p.length ≤ 200 then some (⟨3, 0, ⟨p.toArray⟩⟩, t) else none)
    else none
def readN : Nat → List UInt8 → Option (List Val)
  | _, [] => some []
  | 0, _ :: _ => none
  | n + 1, l => match readV l with | none => none | some (v, r) => (readN n r).map fun vs => v :: vs

theorem readV_key (v : Val) (h : vRight v = true) (ho : v.ok) (r : List UInt8) : readV (keyV v ++ r) = some (v, r) := by
  obtain ⟨k, n, t⟩ := v
  obtain ⟨_, _, ho1, ho2⟩ := ho
  simp only at ho1 ho2
  unfold vRight at h
  unfold keyV
  simp only at h ⊢
  by_cases h0 : k = 0
  · subst h0
    simp at h
    obtain ⟨rfl, ht⟩ := h
    obtain rfl := ht
    simp [readV]
  by_cases h1 : k = 1
  · subst h1
    simp at h
    obtain ⟨hn, ht⟩ := h
    obtain rfl := ht
    rcases hn with rfl | rfl <;> simp [readV]
  by_cases h2 : k = 2
  · subst h2
    simp at h
    obtain rfl := h
    have hb := be_val 8 (n + 9223372036854775808).toNat (by omega)
    have hl := be_len 8 (n + 9223372036854775808).toNat
    simp only [if_neg h0, if_neg h1, if_true, readV, List.cons_append]
    rw [if_neg (by decide), if_neg (by decide), if_neg (by rw [List.length_append, hl]; omega), List.take_left' hl, List.drop_left' hl, hb]
    have : (((n + 9223372036854775808).toNat : Nat) : Int) - 9223372036854775808 = n := by omega
    rw [this]
  by_cases h3 : k = 3
  · subst h3
    simp at h
    obtain ⟨rfl, ht⟩ := h
    simp only [if_neg h0, if_neg h1, if_neg h2, readV, List.cons_append, List.append_assoc]
    rw [if_neg (by decide), if_neg (by decide), if_neg (by decide), if_true]
    show (match unesc (esc t.data.toList ++ 0 :: 0 :: r) with | none => none | some (p, t) => if p.length ≤ 200 then some ((⟨3, 0, ⟨p.toArray⟩⟩ : Val), t) else none) = _
    rw [unesc_esc]
    simp only
    rw [if_pos (by rw [← ba_size]; exact ht)]
  · simp [h0, h1, h2, h3] at h
theorem key_readV (l : List UInt8) (v : Val) (r : List UInt8) (h : readV l = some (v, r)) : vRight v = true ∧ v.ok ∧ keyV v ++ r = l := by
  cases l with
  | nil => simp [readV] at h
  | cons k t =>
    rw [readV.eq_def] at h
    simp only at h
    by_cases h0 : k = 0
    · rw [if_pos h0] at h
      simp at h
      obtain ⟨rfl, rfl⟩ := h
      exact ⟨rfl, ⟨by simp, by simp, by simp, by simp⟩, by simp [keyV, h0]⟩
    rw [if_neg h0] at h
    by_cases h1 : k = 1
    · rw [if_pos h1] at h
      cases t with
      | nil => simp at h
      | cons b u =>
        simp only at h
        by_cases hb : b.toNat ≤ 1
        · rw [if_pos hb] at h
          simp at h
          obtain ⟨rfl, rfl⟩ := h
          refine ⟨?_, ⟨by simp, by simp, by show _ ≤ (b.toNat : Int); omega, by show (b.toNat : Int) ≤ _; omega⟩, ?_⟩
          · have : (b.toNat : Int) = 0 ∨ (b.toNat : Int) = 1 := by omega
            show decide (((b.toNat : Int) = 0 ∨ (b.toNat : Int) = 1) ∧ ByteArray.empty.size = 0) = true
            exact decide_eq_true ⟨this, rfl⟩
          · simp [keyV, h1]
        · rw [if_neg hb] at h; simp at h
    rw [if_neg h1] at h
    by_cases h2 : k = 2
    · rw [if_pos h2] at h
      by_cases hl : t.length < 8
      · rw [if_pos hl] at h; simp at h
      · rw [if_neg hl] at h
        simp at h
        obtain ⟨rfl, rfl⟩ := h
        have h8 : (t.take 8).length = 8 := by rw [List.length_take]; omega
        have hv := beVal_lt (t.take 8)
        rw [h8] at hv
        refine ⟨rfl, ⟨by simp, by simp, by simp; omega, by simp; omega⟩, ?_⟩
        have e := val_be (t.take 8)
        rw [h8] at e
        show (2 : UInt8) :: be 8 ((beVal (t.take 8) : Int) - 9223372036854775808 + 9223372036854775808).toNat ++ t.drop 8 = k :: t
        have : ((beVal (t.take 8) : Int) - 9223372036854775808 + 9223372036854775808).toNat = beVal (t.take 8) := by omega
        rw [this, e, h2, List.cons_append, List.take_append_drop]
    rw [if_neg h2] at h
    by_cases h3 : k = 3
    · rw [if_pos h3] at h
      cases hu : unesc t with
      | none => rw [hu] at h; simp at h
      | some q =>
        obtain ⟨p, u⟩ := q
        rw [hu] at h
        simp only at h
        by_cases hp : p.length ≤ 200
        · rw [if_pos hp] at h
          simp at h
          obtain ⟨rfl, rfl⟩ := h
          have := esc_unesc t p u hu
          refine ⟨?_, ⟨by simp, by simp, by simp, by simp⟩, ?_⟩
          · simp [vRight, ByteArray.size, hp]
          · simp [keyV, h3, this]
        · rw [if_neg hp] at h; simp at h
    · rw [if_neg h3] at h; simp at h
theorem readN_key (vs : List Val) : ∀ n, vs.length ≤ n → vs.all vRight = true → (∀ v ∈ vs, v.ok) → readN n (keyL vs) = some vs := by
  induction vs with
  | nil => intro n _ _ _; cases n <;> rfl
  | cons v r ih =>
    intro n hn h ho
    rw [List.all_cons, Bool.and_eq_true] at h
    rw [List.length_cons] at hn
    obtain ⟨m, rfl⟩ : ∃ m, n = m + 1 := ⟨n - 1, by omega⟩
    rw [keyL_cons]
    have hp := keyV_pos v
    cases hk : keyV v ++ keyL r with
    | nil =>
      have : (keyV v ++ keyL r).length = 0 := by rw [hk]; rfl
      rw [List.length_append] at this; omega
    | cons b t =>
      rw [readN, ← hk, readV_key v h.1 (ho v (List.mem_cons_self ..))]
      · simp only
        rw [ih m (by omega) h.2 (fun x hx => ho x (List.mem_cons_of_mem _ hx))]; rfl
      · intro e
        rw [e] at hk
        have h0 : (keyV v ++ keyL r).length = 0 := by rw [hk]; rfl
        rw [List.length_append] at h0; omega
theorem key_readN : ∀ n l vs, readN n l = some vs → vs.length ≤ n ∧ vs.all vRight = true ∧ (∀ v ∈ vs, v.ok) ∧ keyL vs = l
  | n, [], vs, h => by
    have : vs = [] := by cases n <;> simpa [readN] using h.symm
    subst this
    exact ⟨Nat.zero_le _, rfl, fun _ hv => by simp at hv, rfl⟩
  | 0, _ :: _, vs, h => by simp [readN] at h
  | n + 1, k :: t, vs, h => by
    rw [readN] at h
    · cases hr : readV (k :: t) with
      | none => rw [hr] at h; simp at h
      | some q =>
        obtain ⟨v, r⟩ := q
        rw [hr] at h
        simp at h
        obtain ⟨us, hu, rfl⟩ := h
        obtain ⟨a1, a2, a3⟩ := key_readV _ _ _ hr
        obtain ⟨b1, b2, b3, b4⟩ := key_readN n r us hu
        refine ⟨by simp; omega, by rw [List.all_cons, a1, b2]; rfl, fun x hx => ?_, by rw [keyL_cons, b4, a3]⟩
        rcases List.mem_cons.1 hx with rfl | hx
        · exact a2
        · exact b3 x hx
    · simp

/-- The order of values, as a number. -/
def cmpV (a b : Val) : Int :=
  if a.kind < b.kind then -1 else if b.kind < a.kind then 1 else if a.num < b.num then -1 else if b.num < a.num then 1 else cmpB a.text.data.toList b.text.data.toList
def cmpL : List Val → List Val → Int
  | [], [] => 0
  | [], _ :: _ => -1
  | _ :: _, [] => 1
  | a :: x, b :: y => if cmpV a b = 0 then cmpL x y else cmpV a b
theorem cmpV_flip (a b : Val) : cmpV b a = -cmpV a b := by
  unfold cmpV
  rw [cmpB_flip a.text.data.toList]
  repeat (first | omega | split)
theorem cmpV_three (a b : Val) : cmpV a b = 0 ∨ cmpV a b = -1 ∨ cmpV a b = 1 := by
  unfold cmpV
  have := cmpB_three a.text.data.toList b.text.data.toList
  repeat (first | omega | split)
theorem cmpV_zero (a b : Val) (h : cmpV a b = 0) : a = b := by
  unfold cmpV at h
  obtain ⟨k, n, t⟩ := a
  obtain ⟨k', n', t'⟩ := b
  simp only at h
  by_cases h1 : k < k'
  · rw [if_pos h1] at h; omega
  rw [if_neg h1] at h
  by_cases h2 : k' < k
  · rw [if_pos h2] at h; omega
  rw [if_neg h2] at h
  by_cases h3 : n < n'
  · rw [if_pos h3] at h; omega
  rw [if_neg h3] at h
  by_cases h4 : n' < n
  · rw [if_pos h4] at h; omega
  rw [if_neg h4] at h
  have e := ba_ext (cmpB_zero _ _ h)
  obtain rfl : k = k' := by omega
  obtain rfl : n = n' := by omega
  rw [e]
theorem cmpV_self (a : Val) : cmpV a a = 0 := by
  unfold cmpV
  rw [if_neg (by omega), if_neg (by omega), if_neg (by omega), if_neg (by omega), cmpB_self]
theorem cmpL_flip : ∀ x y, cmpL y x = -cmpL x y
  | [], [] => rfl
  | [], _ :: _ => rfl
  | _ :: _, [] => rfl
  | a :: x, b :: y => by
    rw [cmpL, cmpL, cmpV_flip a b, cmpL_flip x y]
    by_cases h : cmpV a b = 0
    · rw [if_pos h, if_pos (by omega)]
    · rw [if_neg h, if_neg (by omega)]
theorem cmpL_three : ∀ x y, cmpL x y = 0 ∨ cmpL x y = -1 ∨ cmpL x y = 1
  | [], [] => .inl rfl
  | [], _ :: _ => .inr (.inl rfl)
  | _ :: _, [] => .inr (.inr rfl)
  | a :: x, b :: y => by
    rw [cmpL]
    by_cases h : cmpV a b = 0
    · rw [if_pos h]; exact cmpL_three x y
    · rw [if_neg h]; exact cmpV_three a b

theorem cmpB_be : ∀ k m n r s, m < 256 ^ k → n < 256 ^ k → cmpB (be k m ++ r) (be k n ++ s) = if m = n then cmpB r s else if m < n then -1 else 1
  | 0, m, n, r, s, hm, hn => by
    have : m = n := by simp at hm hn; omega
    rw [if_pos this]; rfl
  | k + 1, m, n, r, s, hm, hn => by
    have hp : 0 < 256 ^ k := Nat.pow_pos (by omega)
    have hm' : m / 256 ^ k < 256 := Nat.div_lt_of_lt_mul (by rw [Nat.pow_succ] at hm; exact hm)
    have hn' : n / 256 ^ k < 256 := Nat.div_lt_of_lt_mul (by rw [Nat.pow_succ] at hn; exact hn)
    have em := Nat.div_add_mod m (256 ^ k)
    have en := Nat.div_add_mod n (256 ^ k)
    have lm := Nat.mod_lt m hp
    have ln := Nat.mod_lt n hp
    simp only [be, List.cons_append, cmpB]
    by_cases h : m / 256 ^ k = n / 256 ^ k
    · rw [if_pos (by rw [h]), cmpB_be k _ _ r s lm ln]
      rw [h] at em
      by_cases e : m % 256 ^ k = n % 256 ^ k
      · rw [if_pos e, if_pos (by omega)]
      · rw [if_neg e, if_neg (show ¬ m = n by omega)]
        by_cases l : m % 256 ^ k < n % 256 ^ k
        · rw [if_pos l, if_pos (by omega)]
        · rw [if_neg l, if_neg (by omega)]
    · have hne : ¬ UInt8.ofNat (m / 256 ^ k) = UInt8.ofNat (n / 256 ^ k) := by
        intro e
        have := congrArg UInt8.toNat e
        rw [UInt8.toNat_ofNat', UInt8.toNat_ofNat', Nat.mod_eq_of_lt hm', Nat.mod_eq_of_lt hn'] at this
        exact h this
      rw [if_neg hne, if_neg (show ¬ m = n by intro e; subst e; exact h rfl)]
      have hlt : (UInt8.ofNat (m / 256 ^ k) < UInt8.ofNat (n / 256 ^ k)) ↔ m < n := by
        rw [UInt8.lt_iff_toNat_lt, UInt8.toNat_ofNat', UInt8.toNat_ofNat', Nat.mod_eq_of_lt hm', Nat.mod_eq_of_lt hn']
        constructor
        · intro hl
          have := Nat.mul_le_mul_left (256 ^ k) (Nat.succ_le_of_lt hl)
          rw [Nat.mul_succ] at this; omega
        · intro hl
          rcases Nat.lt_or_ge (m / 256 ^ k) (n / 256 ^ k) with g | g
          · exact g
          · have := Nat.mul_le_mul_left (256 ^ k) (show n / 256 ^ k + 1 ≤ m / 256 ^ k by omega)
            rw [Nat.mul_succ] at this; omega
      by_cases l : m < n
      · rw [if_pos l, if_pos (hlt.2 l)]
      · rw [if_neg l, if_neg (fun g => l (hlt.1 g))]
theorem u8_pos {b : UInt8} (h : b ≠ 0) : (0 : UInt8) < b := by
  rw [UInt8.lt_iff_toNat_lt]
  have : b.toNat ≠ 0 := fun e => h (UInt8.toNat_inj.1 e)
  show 0 < _
  omega
theorem u8_pos' {b : UInt8} (_h : b ≠ 0) : ¬ b < (0 : UInt8) := by
  rw [UInt8.lt_iff_toNat_lt]
  show ¬ _ < 0
  omega
theorem cmpB_esc : ∀ x y r s, cmpB (esc x ++ 0 :: 0 :: r) (esc y ++ 0 :: 0 :: s) = if cmpB x y = 0 then cmpB r s else cmpB x y
  | [], [], r, s => by simp [esc, cmpB]
  | [], b :: y, r, s => by
    by_cases h : b = 0
    · simp [esc, cmpB, h]
    · have h' : ¬ (0 : UInt8) = b := fun e => h e.symm
      simp [esc, cmpB, h, h', u8_pos h]
  | a :: x, [], r, s => by
    by_cases h : a = 0
    · simp [esc, cmpB, h]
    · simp [esc, cmpB, h, u8_pos' h]
  | a :: x, b :: y, r, s => by
    have ih := cmpB_esc x y r s
    by_cases e : a = b
    · subst e
      by_cases h : a = 0
      · simp [esc, cmpB, h, ih]
      · simp [esc, cmpB, h, ih]
    · by_cases h : a = 0
      · subst h
        have hb : b ≠ 0 := fun e' => e e'.symm
        simp [esc, cmpB, hb, e, u8_pos hb]
      · by_cases hb : b = 0
        · subst hb
          simp [esc, cmpB, h, u8_pos' h]
        · by_cases l : a < b <;> simp [esc, cmpB, h, hb, e, l]
theorem u8_ofNat_lt {m n : Nat} (hm : m < 256) (hn : n < 256) : (UInt8.ofNat m < UInt8.ofNat n) ↔ m < n := by
  rw [UInt8.lt_iff_toNat_lt, UInt8.toNat_ofNat', UInt8.toNat_ofNat', Nat.mod_eq_of_lt hm, Nat.mod_eq_of_lt hn]
theorem right_kind {v : Val} (h : vRight v = true) : v.kind = 0 ∨ v.kind = 1 ∨ v.kind = 2 ∨ v.kind = 3 := by
  unfold vRight at h
  by_cases h0 : v.kind = 0
  · exact .inl h0
  by_cases h1 : v.kind = 1
  · exact .inr (.inl h1)
  by_cases h2 : v.kind = 2
  · exact .inr (.inr (.inl h2))
  by_cases h3 : v.kind = 3
  · exact .inr (.inr (.inr h3))
  · simp [h0, h1, h2, h3] at h
theorem keyV_head {v : Val} (h : vRight v = true) : ∃ t, keyV v = UInt8.ofNat v.kind.toNat :: t := by
  rcases right_kind h with h | h | h | h <;> simp [keyV, h]
theorem cmpB_keyV (a b : Val) (ha : vRight a = true) (hb : vRight b = true) (oa : a.ok) (ob : b.ok) (r s : List UInt8) :
    cmpB (keyV a ++ r) (keyV b ++ s) = if cmpV a b = 0 then cmpB r s else cmpV a b := by
  have ka := right_kind ha
  have kb := right_kind hb
  by_cases hk : a.kind = b.kind
  · obtain ⟨k, n, t⟩ := a
    obtain ⟨k', n', t'⟩ := b
    obtain ⟨_, _, oa1, oa2⟩ := oa
    obtain ⟨_, _, ob1, ob2⟩ := ob
    simp only at hk ka kb oa1 oa2 ob1 ob2
    subst hk
    unfold vRight at ha hb
    unfold cmpV keyV
    simp only at ha hb ⊢
    rw [if_neg (Int.lt_irrefl k), if_neg (Int.lt_irrefl k)]
    rcases ka with rfl | rfl | rfl | rfl
    · simp at ha hb
      obtain ⟨rfl, ht⟩ := ha
      obtain ⟨rfl, ht'⟩ := hb
      obtain rfl := ht
      obtain rfl := ht'
      simp [cmpB]
    · simp at ha hb
      obtain ⟨hn, ht⟩ := ha
      obtain ⟨hn', ht'⟩ := hb
      obtain rfl := ht
      obtain rfl := ht'
      rcases hn with rfl | rfl <;> rcases hn' with rfl | rfl <;> simp [cmpB]
    · simp at ha hb
      obtain rfl := ha
      obtain rfl := hb
      rw [if_neg (by omega), if_neg (by omega), if_pos rfl, if_neg (by omega), if_neg (by omega), if_pos rfl]
      have := cmpB_be 8 (n + 9223372036854775808).toNat (n' + 9223372036854775808).toNat r s (by omega) (by omega)
      rw [List.cons_append, List.cons_append, cmpB, if_pos rfl, this]
      have e0 : cmpB ByteArray.empty.data.toList ByteArray.empty.data.toList = 0 := rfl
      rw [e0]
      by_cases e : n = n'
      · subst e; simp
      · by_cases l : n < n'
        · rw [if_neg (by omega), if_pos (by omega), if_pos l, if_neg (by omega)]
        · rw [if_neg (by omega), if_neg (by omega), if_neg l, if_pos (show n' < n by omega), if_neg (by omega)]
    · simp at ha hb
      obtain ⟨rfl, ht⟩ := ha
      obtain ⟨rfl, ht'⟩ := hb
      simp only [Int.lt_irrefl, if_false]
      have := cmpB_esc t.data.toList t'.data.toList r s
      rw [if_neg (by omega), if_neg (by omega), if_neg (by omega), if_neg (by omega), if_neg (by omega), if_neg (by omega)]
      rw [List.cons_append, List.cons_append, cmpB, if_pos rfl, List.append_assoc, List.append_assoc]
      exact this
  · obtain ⟨u, hu⟩ := keyV_head ha
    obtain ⟨u', hu'⟩ := keyV_head hb
    rw [hu, hu', List.cons_append, List.cons_append, cmpB]
    have hne : ¬ UInt8.ofNat a.kind.toNat = UInt8.ofNat b.kind.toNat := by
      intro e
      have := congrArg UInt8.toNat e
      rw [UInt8.toNat_ofNat', UInt8.toNat_ofNat', Nat.mod_eq_of_lt (by omega), Nat.mod_eq_of_lt (by omega)] at this
      omega
    rw [if_neg hne]
    have hl := u8_ofNat_lt (m := a.kind.toNat) (n := b.kind.toNat) (by omega) (by omega)
    unfold cmpV
    by_cases l : a.kind < b.kind
    · rw [if_pos (hl.2 (by omega)), if_pos l, if_neg (by omega)]
    · rw [if_neg (fun g => by have := hl.1 g; omega), if_neg l, if_pos (show b.kind < a.kind by omega), if_neg (by omega)]
theorem cmpB_keyL : ∀ x y, x.all vRight = true → y.all vRight = true → (∀ v ∈ x, v.ok) → (∀ v ∈ y, v.ok) → cmpB (keyL x) (keyL y) = cmpL x y
  | [], [], _, _, _, _ => rfl
  | [], b :: y, _, hy, _, _ => by
    rw [List.all_cons, Bool.and_eq_true] at hy
    obtain ⟨t, ht⟩ := keyV_head hy.1
    rw [keyL_cons, ht]; rfl
  | a :: x, [], hx, _, _, _ => by
    rw [List.all_cons, Bool.and_eq_true] at hx
    obtain ⟨t, ht⟩ := keyV_head hx.1
    rw [keyL_cons, ht]; rfl
  | a :: x, b :: y, hx, hy, ox, oy => by
    rw [List.all_cons, Bool.and_eq_true] at hx hy
    rw [keyL_cons, keyL_cons, cmpB_keyV a b hx.1 hy.1 (ox a (List.mem_cons_self ..)) (oy b (List.mem_cons_self ..)), cmpL,
      cmpB_keyL x y hx.2 hy.2 (fun v hv => ox v (List.mem_cons_of_mem _ hv)) (fun v hv => oy v (List.mem_cons_of_mem _ hv))]
end Go.Proofs.Ytpmaklbbkmghbaa

/-
  Values that lie one behind the other. Plain laws.
-/
namespace Go.Proofs.Ytpmaklbbkmghbaa
open Go.RowKit

/-- Values that lie one behind the other, each in three cells, below block B. -/
def ValRow (w : World) (B : Nat) (ao : Option Addr) (vs : List Val) : Prop :=
  (∀ v ∈ vs, v.ok) ∧ (∀ v ∈ vs, v.text.size ≤ maxLen) ∧ (vs.length = 0 ∨ ∃ b off, ao = some ⟨b, off, none⟩ ∧ b < B ∧ ∀ i (h : i < vs.length),
    w.cell? ⟨b, off + i * 3, none⟩ = some (.int .i64 vs[i].kind) ∧ w.cell? ⟨b, off + i * 3 + 1, none⟩ = some (.int .i64 vs[i].num) ∧ w.cell? ⟨b, off + i * 3 + 2, none⟩ = some (.string vs[i].text))
theorem ValRow.kept {w w' : World} {B : Nat} {ao : Option Addr} {vs : List Val} (h : ValRow w B ao vs) (hb : Below B w w') : ValRow w' B ao vs := by
  refine ⟨h.1, h.2.1, ?_⟩
  rcases h.2.2 with h0 | ⟨b, off, e, hB, hc⟩
  · exact .inl h0
  · refine .inr ⟨b, off, e, hB, fun i hi => ?_⟩
    obtain ⟨c0, c1, c2⟩ := hc i hi
    exact ⟨(hb.cell (p := ⟨b, _, none⟩) hB).trans c0, (hb.cell (p := ⟨b, _, none⟩) hB).trans c1, (hb.cell (p := ⟨b, _, none⟩) hB).trans c2⟩
theorem ValRow.mono {w : World} {B C : Nat} {ao : Option Addr} {vs : List Val} (h : ValRow w B ao vs) (hc : B ≤ C) : ValRow w C ao vs := by
  refine ⟨h.1, h.2.1, ?_⟩
  rcases h.2.2 with h0 | ⟨b, off, e, hB, hc'⟩
  · exact .inl h0
  · exact .inr ⟨b, off, e, by omega, hc'⟩
theorem ValRow.at {w : World} {B : Nat} {ao : Option Addr} {vs : List Val} (h : ValRow w B ao vs) (k : Nat) (hk : k < vs.length) :
    ∃ b off kk nn tt, ao = some ⟨b, off, none⟩ ∧ b < B ∧ vs[k] = ⟨kk, nn, tt⟩ ∧ tt.size ≤ maxLen ∧ w.cell? ⟨b, off + k * 3, none⟩ = some (.int .i64 kk) ∧ w.cell? ⟨b, off + k * 3 + 1, none⟩ = some (.int .i64 nn) ∧ w.cell? ⟨b, off + k * 3 + 2, none⟩ = some (.string tt) := by
  rcases h.2.2 with h0 | ⟨b, off, e, hB, hc⟩
  · omega
  · obtain ⟨c0, c1, c2⟩ := hc k hk
    exact ⟨b, off, _, _, _, e, hB, rfl, h.2.1 _ (List.getElem_mem hk), c0, c1, c2⟩
end Go.Proofs.Ytpmaklbbkmghbaa

/-
  Values in a block of their own, three cells each. Plain laws.
-/
namespace Go.Proofs.Ytpmaklbbkmghbaa
open Go.RowKit

def vCells (v : Val) : List Value := [.int .i64 v.kind, .int .i64 v.num, .string v.text]
def flatV (vs : List Val) : List Value := vs.flatMap vCells
theorem flatV_cons (v : Val) (vs : List Val) : flatV (v :: vs) = .int .i64 v.kind :: .int .i64 v.num :: .string v.text :: flatV vs := rfl
theorem flatV_append (a b : List Val) : flatV (a ++ b) = flatV a ++ flatV b := by simp [flatV]
theorem flatV_len (vs : List Val) : (flatV vs).length = vs.length * 3 := by
  induction vs with
  | nil => rfl
  | cons v r ih => rw [flatV_cons]; simp [ih]; omega
theorem flatV_get (vs : List Val) : ∀ i (h : i < vs.length), (flatV vs)[i * 3]? = some (.int .i64 vs[i].kind) ∧ (flatV vs)[i * 3 + 1]? = some (.int .i64 vs[i].num) ∧ (flatV vs)[i * 3 + 2]? = some (.string vs[i].text) := by
  induction vs with
  | nil => intro i h; simp at h
  | cons v r ih =>
    intro i h
    rw [flatV_cons]
    match i, h with
    | 0, _ => exact ⟨rfl, rfl, rfl⟩
    | i + 1, h =>
      obtain ⟨h0, h1, h2⟩ := ih i (by simpa using h)
      have e : (i + 1) * 3 = i * 3 + 1 + 1 + 1 := by omega
      rw [e]
      simp only [List.getElem?_cons_succ, List.getElem_cons_succ]
      exact ⟨h0, h1, h2⟩
/-- A block whose first cells are those of values, read as a slice of them. -/
theorem valRow_of {w : World} {g : Nat} {cur : List Value} {t : TypeId} {f : Nat × Nat} {vs : List Val} (hg : w.heap[g]? = some (.cells cur.toArray t f)) (hc : cur.take (vs.length * 3) = flatV vs) (ho : ∀ v ∈ vs, v.ok) (ht : ∀ v ∈ vs, v.text.size ≤ maxLen) :
    ValRow w w.heap.size (some ⟨g, 0, none⟩) vs := by
  have hlt : g < w.heap.size := (Array.getElem?_eq_some_iff.1 hg).1
  refine ⟨ho, ht, .inr ⟨g, 0, rfl, hlt, fun i hi => ?_⟩⟩
  have hget : ∀ j, j < vs.length * 3 → cur[j]? = (flatV vs)[j]? := fun j hj => by rw [← hc, List.getElem?_take_of_lt hj]
  obtain ⟨h0, h1, h2⟩ := flatV_get vs i hi
  refine ⟨?_, ?_, ?_⟩
  · rw [cell_of_row _ _ _ _ _ _ hg, List.getElem?_toArray, Nat.zero_add, hget _ (by omega), h0]
  · rw [cell_of_row _ _ _ _ _ _ hg, List.getElem?_toArray, Nat.zero_add, hget _ (by omega), h1]
  · rw [cell_of_row _ _ _ _ _ _ hg, List.getElem?_toArray, Nat.zero_add, hget _ (by omega), h2]
theorem set_mid (p : List Value) (x a : Value) (q : List Value) : (p ++ x :: q).set p.length a = p ++ a :: q := by
  rw [List.set_append_right _ _ (Nat.le_refl _), Nat.sub_self]; rfl
theorem set3_take (cur : List Value) (m : Nat) (a b c : Value) (h : m + 3 ≤ cur.length) : (((cur.set m a).set (m + 1) b).set (m + 2) c).take (m + 3) = cur.take m ++ [a, b, c] ∧ (((cur.set m a).set (m + 1) b).set (m + 2) c).length = cur.length := by
  refine ⟨?_, by simp⟩
  obtain ⟨p, q, rfl, hp⟩ : ∃ p q, cur = p ++ q ∧ p.length = m := ⟨cur.take m, cur.drop m, (List.take_append_drop _ _).symm, by rw [List.length_take]; omega⟩
  subst hp
  match q, h with
  | x :: y :: z :: r, _ =>
    have e1 : (p ++ a :: y :: z :: r).set (p.length + 1) b = p ++ a :: b :: z :: r := by simp
    have e2 : (p ++ a :: b :: z :: r).set (p.length + 2) c = p ++ a :: b :: c :: r := by simp
    rw [set_mid, e1, e2, List.take_left]
    have : p ++ a :: b :: c :: r = (p ++ [a, b, c]) ++ r := by simp
    rw [this, List.take_left' (by simp)]
  | [], h => exact absurd h (by simp)
  | [_], h => exact absurd h (by simp)
  | [_, _], h => exact absurd h (by simp)
theorem flatV_step (cur : List Value) (vs : List Val) (k : Nat) (hk : k < vs.length) (hl : cur.length = vs.length * 3) (hc : cur.take (k * 3) = flatV (vs.take k)) (a : Int) (b : Int) (t : ByteArray) (hv : vs[k] = ⟨a, b, t⟩) :
    (((cur.set (k * 3) (.int .i64 a)).set (k * 3 + 1) (.int .i64 b)).set (k * 3 + 2) (.string t)).take ((k + 1) * 3) = flatV (vs.take (k + 1)) ∧ (((cur.set (k * 3) (.int .i64 a)).set (k * 3 + 1) (.int .i64 b)).set (k * 3 + 2) (.string t)).length = vs.length * 3 := by
  obtain ⟨h1, h2⟩ := set3_take cur (k * 3) (.int .i64 a) (.int .i64 b) (.string t) (by omega)
  have e : (k + 1) * 3 = k * 3 + 3 := by omega
  rw [e, h1, h2, hl, hc, List.take_succ_eq_append_getElem hk, flatV_append, hv]
  exact ⟨rfl, rfl⟩
theorem set3_heap {W : World} {g m : Nat} {cur : List Value} {t : TypeId} {x y z : Value} (h : W.heap[g]? = some (.cells cur.toArray t (0, 0))) :
    (((W.setCell ⟨g, m, none⟩ x).setCell ⟨g, m + 1, none⟩ y).setCell ⟨g, m + 2, none⟩ z).heap[g]? = some (.cells (((cur.set m x).set (m + 1) y).set (m + 2) z).toArray t (0, 0)) := by
  have h1 := heap_setCell_same W g m _ t x h
  have h2 := heap_setCell_same _ g (m + 1) _ t y h1
  have h3 := heap_setCell_same _ g (m + 2) _ t z h2
  rw [h3]; simp
end Go.Proofs.Ytpmaklbbkmghbaa
