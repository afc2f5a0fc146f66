/-
  Contracts: the CRC's functions of the program and of the specification.
-/
import Derived.Test.YtaapacpiipcogaaRows
import Derived.Test.YtaapacpiipcogaaLong
import Derived.WalkKit
import Derived.WalkLawsBesides
namespace Go.Proofs.Ytaapacpiipcogaa
open Go.RowKit

set_option maxHeartbeats 400000 in
theorem shiftByte_any (r : Nat) (hr : r < 4294967296) (w : World) :
    Calls Try.prog 100 #[.int .u32 r] w fun e w' => e = .returned (.int .u32 (crcByte r : Nat)) ∧ w' = w := by
  go_enter Try.func100, Try.ntmps100
  go_wp2
  go_loop [0, 4] (fun x i => ∃ k : Nat, k ≤ 8 ∧ i = .int .i64 k ∧ x = .int .u32 (crcBits k r : Nat)) (fun _ i => 8 - (intOf i).toNat)
  case atStart => exact ⟨0, Nat.zero_le _, rfl, rfl⟩
  case round =>
    obtain ⟨k, hk, rfl, rfl⟩ := hrel
    by_cases hlt : k < 8
    · have hx := crcBits_lt hr k
      have ha := u32_and1 (crcBits k r) hx
      by_cases hodd : crcBits k r % 2 = 1
      · have HS : Hid (crcBits (k + 1) r = (crcBits k r / 2) ^^^ 3988292384) := crcBits_odd hodd
        have HP : Hid (bits .xor .u32 ((crcBits k r : Int) / 2) 3988292384 = (((crcBits k r / 2) ^^^ 3988292384 : Nat) : Int)) := u32_xorP _ hx
        go_wp2
        go_round
        case rel => exact ⟨k + 1, by omega, by go_num, by rw [HS.out, ← HP.out]⟩
        case measure => simp [intOf]; omega
      · have HS : Hid (crcBits (k + 1) r = crcBits k r / 2) := crcBits_even hodd
        go_wp2
        go_round
        case rel => exact ⟨k + 1, by omega, by go_num, by rw [HS.out]; go_num⟩
        case measure => simp [intOf]; omega
    · obtain rfl : k = 8 := by omega
      go_wp2
      go_ret
      exact ⟨rfl, rfl⟩

set_option maxHeartbeats 1000000 in
theorem specCrc_any (c : Nat) (hc : c < 4294967296) (s : ByteArray) (hs : s.size ≤ 9223372036854775807) (w : World) :
    Calls Try.prog 73 #[.int .i64 c, .string s] w fun e w' => e = .returned (.int .i64 (crcMoreN c s.data.toList : Nat)) ∧ w' = w := by
  have hx0 := u32_xorM c hc
  have hx1 := xorM_lt hc
  go_enter Try.func73, Try.ntmps73
  go_wp2
  go_loop [5, 6] (fun x i => ∃ k : Nat, k ≤ s.size ∧ i = .int .i64 k ∧ x = .int .u32 (crcL (c ^^^ 4294967295) (s.data.toList.take k) : Nat)) (fun _ i => s.size - (intOf i).toNat)
  case atStart => exact ⟨0, Nat.zero_le _, rfl, by simp [crcL]⟩
  case round =>
    obtain ⟨k, hk, rfl, rfl⟩ := hrel
    obtain ⟨R, hR⟩ : ∃ R, R = crcL (c ^^^ 4294967295) (s.data.toList.take k) := ⟨_, rfl⟩
    have hRlt : R < 4294967296 := by rw [hR]; exact crcL_lt hx1 _
    rw [← hR]
    have HR : Hid (R = crcL (c ^^^ 4294967295) (s.data.toList.take k)) := hR
    clear hR hx0 hx1
    by_cases hlt : k < s.size
    · have hxb := u32_xorB R hRlt s[k]
      have hxl := xor_byte_lt hRlt s[k]
      have HT : Hid (crcL (c ^^^ 4294967295) (s.data.toList.take (k + 1)) = crcBits 8 (R ^^^ s[k].toNat)) := by
        show _ = _
        rw [take_snoc s k hlt, crcL_snoc, ← HR.out]; rfl
      generalize R ^^^ s[k].toNat = X at hxb hxl HT
      go_wp2
      clear hxb
      go_loop [5, 7] (fun x i => ∃ j : Nat, j ≤ 8 ∧ i = .int .i64 j ∧ x = .int .u32 (crcBits j X : Nat)) (fun _ i => 8 - (intOf i).toNat)
      case atStart => exact ⟨0, Nat.zero_le _, rfl, rfl⟩
      case round =>
        obtain ⟨j, hj, rfl, rfl⟩ := hrel
        by_cases hjl : j < 8
        · have hx := crcBits_lt hxl j
          have ha := u32_and1 _ hx
          by_cases hodd : crcBits j X % 2 = 1
          · have HS : Hid (crcBits (j + 1) X = (crcBits j X / 2) ^^^ 3988292384) := crcBits_odd hodd
            have HP : Hid (bits .xor .u32 ((crcBits j X : Int) / 2) 3988292384 = (((crcBits j X / 2) ^^^ 3988292384 : Nat) : Int)) := u32_xorP _ hx
            go_wp2
            go_round
            case rel => exact ⟨j + 1, by omega, by go_num, by rw [HS.out, ← HP.out]⟩
            case measure => simp [intOf]; omega
          · have HS : Hid (crcBits (j + 1) X = crcBits j X / 2) := crcBits_even hodd
            go_wp2
            go_round
            case rel => exact ⟨j + 1, by omega, by go_num, by rw [HS.out]; go_num⟩
            case measure => simp [intOf]; omega
        · obtain rfl : j = 8 := by omega
          go_wp2
          go_round
          case rel => exact ⟨k + 1, by omega, by go_num, by rw [HT.out]⟩
          case measure => simp [intOf]; omega
    · have hxm := u32_xorM R hRlt
      have hxml := xorM_lt hRlt
      have HF : Hid (crcMoreN c s.data.toList = R ^^^ 4294967295) := by
        show _ = _
        rw [HR.out, List.take_of_length_le (by simp; omega)]; rfl
      go_wp2
      go_ret
      exact ⟨ret_int (by rw [HF.out]), rfl⟩

set_option maxHeartbeats 400000 in
set_option maxRecDepth 100000 in
theorem implCrcMore_in (c : Nat) (hc : c < 4294967296) (s : ByteArray) (hs : s.size ≤ 20000) (w : World) :
    Calls Try.prog 95 #[.int .i64 c, .string s] w fun e w' => e = .returned (.int .i64 (crcMoreN c s.data.toList : Nat)) ∧ w' = w := by
  have hx0 := u32_notN c hc
  have hx1 := xorM_lt hc
  go_enter Try.func95, Try.ntmps95
  go_wp2_with (go_at_call 76; refine (tooLong_no _ hs _).mono ?_; rintro e w' ⟨rfl, rfl⟩)
  go_loop [5, 22] (fun x i => ∃ k : Nat, k ≤ s.size ∧ i = .int .i64 k ∧ x = .int .u32 (crcL (c ^^^ 4294967295) (s.data.toList.take k) : Nat)) (fun _ i => s.size - (intOf i).toNat)
  case atStart => exact ⟨0, Nat.zero_le _, rfl, by simp [crcL]⟩
  case round =>
    obtain ⟨k, hk, rfl, rfl⟩ := hrel
    obtain ⟨R, hR⟩ : ∃ R, R = crcL (c ^^^ 4294967295) (s.data.toList.take k) := ⟨_, rfl⟩
    have hRlt : R < 4294967296 := by rw [hR]; exact crcL_lt hx1 _
    rw [← hR]
    have HR : Hid (R = crcL (c ^^^ 4294967295) (s.data.toList.take k)) := hR
    clear hR hx0 hx1
    by_cases hlt : k < s.size
    · have hxb := u32_xorB R hRlt s[k]
      have hxl := xor_byte_lt hRlt s[k]
      have HT : Hid (crcL (c ^^^ 4294967295) (s.data.toList.take (k + 1)) = crcByte (R ^^^ s[k].toNat)) := by
        show _ = _
        rw [take_snoc s k hlt, crcL_snoc, ← HR.out]
      generalize R ^^^ s[k].toNat = X at hxb hxl HT
      go_wp2_with (go_at_call 100; refine (shiftByte_any _ hxl _).mono ?_; rintro e w' ⟨rfl, rfl⟩)
      go_round
      case rel => exact ⟨k + 1, by omega, by go_num, by rw [HT.out]⟩
      case measure => simp [intOf]; omega
    · have hxm := u32_notN R hRlt
      have hxml := xorM_lt hRlt
      have HF : Hid (crcMoreN c s.data.toList = R ^^^ 4294967295) := by
        show _ = _
        rw [HR.out, List.take_of_length_le (by simp; omega)]; rfl
      go_wp2
      go_ret
      exact ⟨ret_int (by rw [HF.out]), rfl⟩

set_option maxRecDepth 100000 in
theorem implCrcMore_out (c : Int) (s : ByteArray) (h : 20000 < s.size ∨ c < 0 ∨ 4294967296 ≤ c) (w : World) :
    Calls Try.prog 95 #[.int .i64 c, .string s] w fun e w' => e = .returned (.int .i64 0) ∧ w' = w := by
  by_cases hs : s.size ≤ 20000
  · by_cases h0 : c < 0
    · go_enter Try.func95, Try.ntmps95
      go_wp2_with (go_at_call 76; refine (tooLong_no _ hs _).mono ?_; rintro e w' ⟨rfl, rfl⟩)
      go_ret
      exact ⟨rfl, rfl⟩
    · have h1 : 4294967296 ≤ c := by omega
      go_enter Try.func95, Try.ntmps95
      go_wp2_with (go_at_call 76; refine (tooLong_no _ hs _).mono ?_; rintro e w' ⟨rfl, rfl⟩)
      go_ret
      exact ⟨rfl, rfl⟩
  · go_enter Try.func95, Try.ntmps95
    go_wp2_with (go_at_call 76; refine (tooLong_yes _ (by omega) _).mono ?_; rintro e w' ⟨rfl, rfl⟩)
    go_ret
    exact ⟨rfl, rfl⟩

/-- The CRC of a text: 0 beyond MaxBytes. -/
def crcOf (s : ByteArray) : Nat := if s.size ≤ 20000 then crcMoreN 0 s.data.toList else 0
theorem crcOf_lt (s : ByteArray) : crcOf s < 4294967296 := by
  unfold crcOf; split
  · exact crcMoreN_lt (by omega) _
  · omega
theorem implCrc_any (s : ByteArray) (w : World) :
    Calls Try.prog 86 #[.string s] w fun e w' => e = .returned (.int .i64 (crcOf s : Nat)) ∧ w' = w := by
  by_cases hs : s.size ≤ 20000
  · have H : Hid (crcOf s = crcMoreN 0 s.data.toList) := if_pos hs
    go_enter Try.func86, Try.ntmps86
    go_wp2_with (go_at_call 95; refine (implCrcMore_in 0 (by omega) _ hs _).mono ?_; rintro e w' ⟨rfl, rfl⟩)
    go_ret
    exact ⟨ret_int (by rw [H.out]), rfl⟩
  · have H : Hid (crcOf s = 0) := if_neg hs
    go_enter Try.func86, Try.ntmps86
    go_wp2_with (go_at_call 95; refine (implCrcMore_out 0 _ (by omega) _).mono ?_; rintro e w' ⟨rfl, rfl⟩)
    go_ret
    exact ⟨ret_int (by rw [H.out]; rfl), rfl⟩
end Go.Proofs.Ytaapacpiipcogaa
