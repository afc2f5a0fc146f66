/-
  Contracts and plain laws, part 1 of 5: Plain, Long, CrcC, Conv, Num, MkS, JoinC, Join, SealC, GetPlain, GetBack, RecP, Base, RecR, RecB, Owns, OwnBytes
-/
import Derived.WalkKit
import Derived.Laws.BitsAllLaws
import Derived.Test.YtfhfhpnoeghgmaaRows
import Derived.WalkLawsBesides
import Derived.Laws.BytesArg
import Derived.Maps.AppendAt
import Derived.OpenShut
import Derived.Lib.BufferWrite
import Derived.Laws.CopyOwn
import Derived.Below
import Derived.Laws.AppendOwn
import Derived.Deep.RegionHeld3
import Derived.Deep.DrawnRows

/-
  Plain facts on numbers and lists: the CRC bit by bit.
-/
namespace Go.Proofs.Ytfhfhpnoeghgmaa
open Go.RowKit

def crcBit (r : Nat) : Nat := if r % 2 = 1 then (r / 2) ^^^ 3988292384 else r / 2
def crcBits : Nat → Nat → Nat
  | 0, r => r
  | k + 1, r => crcBit (crcBits k r)
def crcByte (r : Nat) : Nat := crcBits 8 r
def crcL (r : Nat) (l : List UInt8) : Nat := l.foldl (fun r b => crcByte (r ^^^ b.toNat)) r

theorem crcBit_lt {r : Nat} (h : r < 4294967296) : crcBit r < 4294967296 := by
  unfold crcBit
  split
  · exact Nat.xor_lt_two_pow (n := 32) (by omega) (by omega)
  · omega
theorem crcBits_lt {r : Nat} (h : r < 4294967296) : ∀ k, crcBits k r < 4294967296
  | 0 => h
  | k + 1 => crcBit_lt (crcBits_lt h k)
theorem crcBits_succ (k r : Nat) : crcBits (k + 1) r = crcBit (crcBits k r) := rfl
theorem crcBits_odd {k r : Nat} (h : crcBits k r % 2 = 1) : crcBits (k + 1) r = (crcBits k r / 2) ^^^ 3988292384 := by
  rw [crcBits_succ, crcBit, if_pos h]
theorem crcBits_even {k r : Nat} (h : ¬ crcBits k r % 2 = 1) : crcBits (k + 1) r = crcBits k r / 2 := by
  rw [crcBits_succ, crcBit, if_neg h]
theorem crcByte_lt {r : Nat} (h : r < 4294967296) : crcByte r < 4294967296 := crcBits_lt h 8
theorem xor_byte_lt {r : Nat} (h : r < 4294967296) (b : UInt8) : r ^^^ b.toNat < 4294967296 :=
  Nat.xor_lt_two_pow (n := 32) (by omega) (by have := b.toNat_lt; omega)
theorem crcL_lt {r : Nat} (h : r < 4294967296) (l : List UInt8) : crcL r l < 4294967296 := by
  unfold crcL
  induction l generalizing r with
  | nil => exact h
  | cons b l ih => exact ih (crcByte_lt (xor_byte_lt h b))
theorem crcL_snoc (r : Nat) (l : List UInt8) (b : UInt8) : crcL r (l ++ [b]) = crcByte (crcL r l ^^^ b.toNat) := by
  simp [crcL]
theorem len_data (s : ByteArray) : s.data.toList.length = s.size := rfl
theorem take_snoc (s : ByteArray) (k : Nat) (h : k < s.size) : s.data.toList.take (k + 1) = s.data.toList.take k ++ [s[k]] := by
  rw [List.take_succ_eq_append_getElem (by simpa using h)]; rfl
theorem u32_and1 (X : Nat) (h : X < 4294967296) : bits .and .u32 (X : Int) 1 = ((X % 2 : Nat) : Int) := by
  have := u32_and_nat X 1 h (by omega)
  simpa [nat_mask1] using this
theorem u32_xorP (X : Nat) (h : X < 4294967296) : bits .xor .u32 ((X : Int) / 2) 3988292384 = (((X / 2) ^^^ 3988292384 : Nat) : Int) := by
  have := u32_xor_nat (X / 2) 3988292384 (by omega) (by omega)
  simpa using this
theorem u32_xorM (X : Nat) (h : X < 4294967296) : bits .xor .u32 (X : Int) 4294967295 = ((X ^^^ 4294967295 : Nat) : Int) :=
  u32_xor_nat X 4294967295 h (by omega)
theorem u32_notN (X : Nat) (h : X < 4294967296) : bits .xor .u32 IntKind.u32.max (X : Int) = ((X ^^^ 4294967295 : Nat) : Int) := by
  have e : IntKind.u32.max = ((4294967295 : Nat) : Int) := by decide
  rw [e, u32_xor_nat 4294967295 X (by omega) h, Nat.xor_comm]
theorem u32_xorB (X : Nat) (h : X < 4294967296) (b : UInt8) : bits .xor .u32 (X : Int) ((b.toNat : Int) % 4294967296) = ((X ^^^ b.toNat : Nat) : Int) := by
  have hb := b.toNat_lt
  rw [show ((b.toNat : Int) % 4294967296) = (b.toNat : Int) by omega]
  exact u32_xor_nat X b.toNat h (by omega)
theorem xorM (X : Nat) (h : X < 4294967296) : X ^^^ 4294967295 = 4294967295 - X := by
  have e : (BitVec.ofNat 32 X ^^^ BitVec.allOnes 32).toNat = 4294967295 - X := by
    rw [BitVec.xor_allOnes, BitVec.toNat_not, BitVec.toNat_ofNat, Nat.mod_eq_of_lt h]
  rw [BitVec.toNat_xor, BitVec.toNat_allOnes, BitVec.toNat_ofNat, Nat.mod_eq_of_lt h] at e
  exact e
theorem xorM_lt {X : Nat} (h : X < 4294967296) : X ^^^ 4294967295 < 4294967296 := Nat.xor_lt_two_pow (n := 32) (by omega) (by omega)
theorem xorM_xorM {X : Nat} (h : X < 4294967296) : (X ^^^ 4294967295) ^^^ 4294967295 = X := by
  rw [xorM _ (xorM_lt h), xorM _ h]; omega
theorem bcell {W w1 : World} (hb : Below W.heap.size W w1) : (∀ b o, b < W.heap.size → w1.cell? ⟨b, o, none⟩ = W.cell? ⟨b, o, none⟩) ∧ (∀ b o, b < W.heap.size → w1.frozen? ⟨b, o, none⟩ = W.frozen? ⟨b, o, none⟩) :=
  ⟨fun b o h => hb.cell (p := ⟨b, o, none⟩) h, fun b o h => hb.frozen (p := ⟨b, o, none⟩) h⟩
theorem ret_int {k : IntKind} {a b : Int} (h : a = b) : Ending.returned (.int k a) = .returned (.int k b) := by rw [h]
theorem ret_str {a b : ByteArray} (h : a = b) : Ending.returned (.string a) = .returned (.string b) := by rw [h]
theorem ret3n {a b a' b' : Int} {v v' : Value} (h1 : a = a') (h2 : b = b') (h3 : v = v') : Ending.returned (.tuple #[.int .i64 a, .int .i64 b, v]) = .returned (.tuple #[.int .i64 a', .int .i64 b', v']) := by rw [h1, h2, h3]
theorem ret_bool {a b : Bool} (h : a = b) : Ending.returned (.bool a) = .returned (.bool b) := by rw [h]
/-- the CRC that goes on from c over l -/
def crcMoreN (c : Nat) (l : List UInt8) : Nat := crcL (c ^^^ 4294967295) l ^^^ 4294967295
theorem crcMoreN_lt {c : Nat} (h : c < 4294967296) (l : List UInt8) : crcMoreN c l < 4294967296 := xorM_lt (crcL_lt (xorM_lt h) l)
theorem crcMoreN_append {c : Nat} (h : c < 4294967296) (l m : List UInt8) : crcMoreN (crcMoreN c l) m = crcMoreN c (l ++ m) := by
  unfold crcMoreN
  rw [xorM_xorM (crcL_lt (xorM_lt h) l)]
  simp [crcL]
end Go.Proofs.Ytfhfhpnoeghgmaa

/-
  Contracts: the look at a text's length.
-/
namespace Go.Proofs.Ytfhfhpnoeghgmaa
open Go.RowKit

theorem tooLong_no (s : ByteArray) (hs : s.size ≤ 20000) (w : World) :
    Calls Try.prog 83 #[.string s] w fun e w' => e = .returned (.bool false) ∧ w' = w := by
  have h1 : ¬ 20000 < (s.size : Int) := by omega
  go_enter Try.func83, Try.ntmps83
  go_wp2
  go_ret
  exact ⟨ret_bool (by simp), rfl⟩
theorem tooLong_yes (s : ByteArray) (hs : 20000 < s.size) (w : World) :
    Calls Try.prog 83 #[.string s] w fun e w' => e = .returned (.bool true) ∧ w' = w := by
  have h1 : 20000 < (s.size : Int) := by omega
  go_enter Try.func83, Try.ntmps83
  go_wp2
  go_ret
  exact ⟨ret_bool (by simp), rfl⟩
end Go.Proofs.Ytfhfhpnoeghgmaa

/-
  Contracts: the CRC's functions of the program and of the specification.
-/
namespace Go.Proofs.Ytfhfhpnoeghgmaa
open Go.RowKit

set_option maxHeartbeats 400000 in
theorem shiftByte_any (r : Nat) (hr : r < 4294967296) (w : World) :
    Calls Try.prog 130 #[.int .u32 r] w fun e w' => e = .returned (.int .u32 (crcByte r : Nat)) ∧ w' = w := by
  go_enter Try.func130, Try.ntmps130
  go_wp2
  go_loop [0, 4] (fun x i => ∃ k : Nat, k ≤ 8 ∧ i = .int .i64 k ∧ x = .int .u32 (crcBits k r : Nat)) (fun _ i => 8 - (intOf i).toNat)
  case atStart => exact ⟨0, Nat.zero_le _, rfl, rfl⟩
  case round =>
    obtain ⟨k, hk, rfl, rfl⟩ := hrel
    by_cases hlt : k < 8
    · have hx := crcBits_lt hr k
      have ha := u32_and1 (crcBits k r) hx
      by_cases hodd : crcBits k r % 2 = 1
      · have HS : Hid (crcBits (k + 1) r = (crcBits k r / 2) ^^^ 3988292384) := crcBits_odd hodd
        have HP : Hid (bits .xor .u32 ((crcBits k r : Int) / 2) 3988292384 = (((crcBits k r / 2) ^^^ 3988292384 : Nat) : Int)) := u32_xorP _ hx
        go_wp2
        go_round
        case rel => exact ⟨k + 1, by omega, by go_num, by rw [HS.out, ← HP.out]⟩
        case measure => simp [intOf]; omega
      · have HS : Hid (crcBits (k + 1) r = crcBits k r / 2) := crcBits_even hodd
        go_wp2
        go_round
        case rel => exact ⟨k + 1, by omega, by go_num, by rw [HS.out]; go_num⟩
        case measure => simp [intOf]; omega
    · obtain rfl : k = 8 := by omega
      go_wp2
      go_ret
      exact ⟨rfl, rfl⟩

set_option maxHeartbeats 1000000 in
theorem specCrc_any (c : Nat) (hc : c < 4294967296) (s : ByteArray) (hs : s.size ≤ 9223372036854775807) (w : World) :
    Calls Try.prog 104 #[.int .i64 c, .string s] w fun e w' => e = .returned (.int .i64 (crcMoreN c s.data.toList : Nat)) ∧ w' = w := by
  have hx0 := u32_xorM c hc
  have hx1 := xorM_lt hc
  go_enter Try.func104, Try.ntmps104
  go_wp2
  go_loop [5, 6] (fun x i => ∃ k : Nat, k ≤ s.size ∧ i = .int .i64 k ∧ x = .int .u32 (crcL (c ^^^ 4294967295) (s.data.toList.take k) : Nat)) (fun _ i => s.size - (intOf i).toNat)
  case atStart => exact ⟨0, Nat.zero_le _, rfl, by simp [crcL]⟩
  case round =>
    obtain ⟨k, hk, rfl, rfl⟩ := hrel
    obtain ⟨R, hR⟩ : ∃ R, R = crcL (c ^^^ 4294967295) (s.data.toList.take k) := ⟨_, rfl⟩
    have hRlt : R < 4294967296 := by rw [hR]; exact crcL_lt hx1 _
    rw [← hR]
    have HR : Hid (R = crcL (c ^^^ 4294967295) (s.data.toList.take k)) := hR
    clear hR hx0 hx1
    by_cases hlt : k < s.size
    · have hxb := u32_xorB R hRlt s[k]
      have hxl := xor_byte_lt hRlt s[k]
      have HT : Hid (crcL (c ^^^ 4294967295) (s.data.toList.take (k + 1)) = crcBits 8 (R ^^^ s[k].toNat)) := by
        show _ = _
        rw [take_snoc s k hlt, crcL_snoc, ← HR.out]; rfl
      generalize R ^^^ s[k].toNat = X at hxb hxl HT
      go_wp2
      clear hxb
      go_loop [5, 7] (fun x i => ∃ j : Nat, j ≤ 8 ∧ i = .int .i64 j ∧ x = .int .u32 (crcBits j X : Nat)) (fun _ i => 8 - (intOf i).toNat)
      case atStart => exact ⟨0, Nat.zero_le _, rfl, rfl⟩
      case round =>
        obtain ⟨j, hj, rfl, rfl⟩ := hrel
        by_cases hjl : j < 8
        · have hx := crcBits_lt hxl j
          have ha := u32_and1 _ hx
          by_cases hodd : crcBits j X % 2 = 1
          · have HS : Hid (crcBits (j + 1) X = (crcBits j X / 2) ^^^ 3988292384) := crcBits_odd hodd
            have HP : Hid (bits .xor .u32 ((crcBits j X : Int) / 2) 3988292384 = (((crcBits j X / 2) ^^^ 3988292384 : Nat) : Int)) := u32_xorP _ hx
            go_wp2
            go_round
            case rel => exact ⟨j + 1, by omega, by go_num, by rw [HS.out, ← HP.out]⟩
            case measure => simp [intOf]; omega
          · have HS : Hid (crcBits (j + 1) X = crcBits j X / 2) := crcBits_even hodd
            go_wp2
            go_round
            case rel => exact ⟨j + 1, by omega, by go_num, by rw [HS.out]; go_num⟩
            case measure => simp [intOf]; omega
        · obtain rfl : j = 8 := by omega
          go_wp2
          go_round
          case rel => exact ⟨k + 1, by omega, by go_num, by rw [HT.out]⟩
          case measure => simp [intOf]; omega
    · have hxm := u32_xorM R hRlt
      have hxml := xorM_lt hRlt
      have HF : Hid (crcMoreN c s.data.toList = R ^^^ 4294967295) := by
        show _ = _
        rw [HR.out, List.take_of_length_le (by simp; omega)]; rfl
      go_wp2
      go_ret
      exact ⟨ret_int (by rw [HF.out]), rfl⟩

set_option maxHeartbeats 400000 in
set_option maxRecDepth 100000 in
theorem implCrcMore_in (c : Nat) (hc : c < 4294967296) (s : ByteArray) (hs : s.size ≤ 20000) (w : World) :
    Calls Try.prog 129 #[.int .i64 c, .string s] w fun e w' => e = .returned (.int .i64 (crcMoreN c s.data.toList : Nat)) ∧ w' = w := by
  have hx0 := u32_notN c hc
  have hx1 := xorM_lt hc
  go_enter Try.func129, Try.ntmps129
  go_wp2_with (go_at_call 83; refine (tooLong_no _ hs _).mono ?_; rintro e w' ⟨rfl, rfl⟩)
  go_loop [5, 22] (fun x i => ∃ k : Nat, k ≤ s.size ∧ i = .int .i64 k ∧ x = .int .u32 (crcL (c ^^^ 4294967295) (s.data.toList.take k) : Nat)) (fun _ i => s.size - (intOf i).toNat)
  case atStart => exact ⟨0, Nat.zero_le _, rfl, by simp [crcL]⟩
  case round =>
    obtain ⟨k, hk, rfl, rfl⟩ := hrel
    obtain ⟨R, hR⟩ : ∃ R, R = crcL (c ^^^ 4294967295) (s.data.toList.take k) := ⟨_, rfl⟩
    have hRlt : R < 4294967296 := by rw [hR]; exact crcL_lt hx1 _
    rw [← hR]
    have HR : Hid (R = crcL (c ^^^ 4294967295) (s.data.toList.take k)) := hR
    clear hR hx0 hx1
    by_cases hlt : k < s.size
    · have hxb := u32_xorB R hRlt s[k]
      have hxl := xor_byte_lt hRlt s[k]
      have HT : Hid (crcL (c ^^^ 4294967295) (s.data.toList.take (k + 1)) = crcByte (R ^^^ s[k].toNat)) := by
        show _ = _
        rw [take_snoc s k hlt, crcL_snoc, ← HR.out]
      generalize R ^^^ s[k].toNat = X at hxb hxl HT
      go_wp2_with (go_at_call 130; refine (shiftByte_any _ hxl _).mono ?_; rintro e w' ⟨rfl, rfl⟩)
      go_round
      case rel => exact ⟨k + 1, by omega, by go_num, by rw [HT.out]⟩
      case measure => simp [intOf]; omega
    · have hxm := u32_notN R hRlt
      have hxml := xorM_lt hRlt
      have HF : Hid (crcMoreN c s.data.toList = R ^^^ 4294967295) := by
        show _ = _
        rw [HR.out, List.take_of_length_le (by simp; omega)]; rfl
      go_wp2
      go_ret
      exact ⟨ret_int (by rw [HF.out]), rfl⟩

set_option maxRecDepth 100000 in
theorem implCrcMore_out (c : Int) (s : ByteArray) (h : 20000 < s.size ∨ c < 0 ∨ 4294967296 ≤ c) (w : World) :
    Calls Try.prog 129 #[.int .i64 c, .string s] w fun e w' => e = .returned (.int .i64 0) ∧ w' = w := by
  by_cases hs : s.size ≤ 20000
  · by_cases h0 : c < 0
    · go_enter Try.func129, Try.ntmps129
      go_wp2_with (go_at_call 83; refine (tooLong_no _ hs _).mono ?_; rintro e w' ⟨rfl, rfl⟩)
      go_ret
      exact ⟨rfl, rfl⟩
    · have h1 : 4294967296 ≤ c := by omega
      go_enter Try.func129, Try.ntmps129
      go_wp2_with (go_at_call 83; refine (tooLong_no _ hs _).mono ?_; rintro e w' ⟨rfl, rfl⟩)
      go_ret
      exact ⟨rfl, rfl⟩
  · go_enter Try.func129, Try.ntmps129
    go_wp2_with (go_at_call 83; refine (tooLong_yes _ (by omega) _).mono ?_; rintro e w' ⟨rfl, rfl⟩)
    go_ret
    exact ⟨rfl, rfl⟩

/-- The CRC of a text: 0 beyond MaxBytes. -/
def crcOf (s : ByteArray) : Nat := if s.size ≤ 20000 then crcMoreN 0 s.data.toList else 0
theorem crcOf_lt (s : ByteArray) : crcOf s < 4294967296 := by
  unfold crcOf; split
  · exact crcMoreN_lt (by omega) _
  · omega
theorem implCrc_any (s : ByteArray) (w : World) :
    Calls Try.prog 124 #[.string s] w fun e w' => e = .returned (.int .i64 (crcOf s : Nat)) ∧ w' = w := by
  by_cases hs : s.size ≤ 20000
  · have H : Hid (crcOf s = crcMoreN 0 s.data.toList) := if_pos hs
    go_enter Try.func124, Try.ntmps124
    go_wp2_with (go_at_call 129; refine (implCrcMore_in 0 (by omega) _ hs _).mono ?_; rintro e w' ⟨rfl, rfl⟩)
    go_ret
    exact ⟨ret_int (by rw [H.out]), rfl⟩
  · have H : Hid (crcOf s = 0) := if_neg hs
    go_enter Try.func124, Try.ntmps124
    go_wp2_with (go_at_call 129; refine (implCrcMore_out 0 _ (by omega) _).mono ?_; rintro e w' ⟨rfl, rfl⟩)
    go_ret
    exact ⟨ret_int (by rw [H.out]; rfl), rfl⟩
end Go.Proofs.Ytfhfhpnoeghgmaa

/-
  Bytes that a call itself made, turned into a text.
-/
namespace Go.Proofs.Ytfhfhpnoeghgmaa
open Go.RowKit

theorem Try.infoU8 : (Try.prog.info? 5).map (fun i => (i.zero, i.size, i.bytes)) = some (some (.int .u8 0), 1, 1) := by kernel_rfl

theorem convOwn {W : World} {base n : Nat} {v : Value} {xs : List Int} (h : W.ownsRow base 5 1 v n (xs.map (Value.int .u8))) :
    (convert 22 9 v).run Try.prog W = .ok (.string (strOfNums xs)) W := by
  have hx : xs.length = n := by simpa using h.1
  rcases h.2 with ⟨rfl, rfl⟩ | ⟨g, cap, cur, rfl, hb, hg, hn, hm, hs, ht⟩
  · obtain rfl : xs = [] := List.eq_nil_of_length_eq_zero hx
    exact run_convert_bytes_nil _ 22 5 Try.underlying22 Try.underlying5 0 0 9 Try.underlying9
  · refine run_convert_bytes_arg _ 22 5 Try.underlying22 Try.underlying5 g 0 n cap xs hx (fun i hi => ?_) 9 Try.underlying9
    have hc := World.ownsRow.cellAt h i (by omega)
    rw [Nat.zero_add, hc]
    simp [List.getElem?_eq_getElem (show i < xs.length by omega)]
end Go.Proofs.Ytfhfhpnoeghgmaa

/-
  Contracts: PutNum of the program and of the specification.
-/
namespace Go.Proofs.Ytfhfhpnoeghgmaa
open Go.RowKit

/-- The number's bytes, seven bits each, the lowest first. -/
def putL : Nat → Nat → List Int
  | 0, u => [(u : Int)]
  | f + 1, u => if u < 128 then [(u : Int)] else ((u % 128 + 128 : Nat) : Int) :: putL f (u / 128)
def foldN (n : Int) : Nat := if n < 0 then (-2 * n - 1).toNat else (2 * n).toNat
theorem foldN_lt (n : Int) (h1 : -9223372036854775808 ≤ n) (h2 : n ≤ 9223372036854775807) : foldN n < 18446744073709551616 := by
  unfold foldN; split <;> omega

theorem fold_any (n : Int) (h1 : -9223372036854775808 ≤ n) (h2 : n ≤ 9223372036854775807) (w : World) :
    Calls Try.prog 105 #[.int .i64 n] w fun e w' => e = .returned (.int .u64 (foldN n : Nat)) ∧ w' = w := by
  by_cases h : n < 0
  · have H : Hid ((foldN n : Int) = -2 * n - 1) := by show _ = _; simp only [foldN, if_pos h]; omega
    go_enter Try.func105, Try.ntmps105
    go_wp2
    go_ret
    exact ⟨ret_int (by rw [H.out]; omega), rfl⟩
  · have H : Hid ((foldN n : Int) = 2 * n) := by show _ = _; simp only [foldN, if_neg h]; omega
    go_enter Try.func105, Try.ntmps105
    go_wp2
    go_ret
    exact ⟨ret_int (by rw [H.out]), rfl⟩

theorem u64_notN (X : Nat) (h : X < 18446744073709551616) : bits .xor .u64 (X : Int) 18446744073709551615 = ((18446744073709551615 - X : Nat) : Int) := by
  have := u64_xor_nat X 18446744073709551615 h (by omega)
  have e : (BitVec.ofNat 64 X ^^^ BitVec.allOnes 64).toNat = 18446744073709551615 - X := by
    rw [BitVec.xor_allOnes, BitVec.toNat_not, BitVec.toNat_ofNat, Nat.mod_eq_of_lt h]
  rw [BitVec.toNat_xor, BitVec.toNat_allOnes, BitVec.toNat_ofNat, Nat.mod_eq_of_lt h] at e
  have e' : X ^^^ 18446744073709551615 = 18446744073709551615 - X := e
  rw [e'] at this
  exact this
theorem u64_xor0 (X : Nat) (h : X < 18446744073709551616) : bits .xor .u64 (X : Int) 0 = (X : Int) := by
  have := u64_xor_nat X 0 h (by omega)
  simpa using this
theorem putFold (n : Int) (h1 : -9223372036854775808 ≤ n) (h2 : n ≤ 9223372036854775807) :
    bits .xor .u64 (IntKind.u64.wrap (IntKind.u64.wrap n * 2)) (IntKind.u64.wrap (n / 9223372036854775808)) = (foldN n : Nat) := by
  simp only [IntKind.wrap_u64]
  by_cases h : n < 0
  · have e1 : n % 18446744073709551616 * 2 % 18446744073709551616 = ((2 * n + 18446744073709551616).toNat : Int) := by omega
    have e2 : n / 9223372036854775808 % 18446744073709551616 = 18446744073709551615 := by omega
    rw [e1, e2, u64_notN _ (by omega)]
    simp only [foldN, if_pos h]; omega
  · have e1 : n % 18446744073709551616 * 2 % 18446744073709551616 = ((2 * n).toNat : Int) := by omega
    have e2 : n / 9223372036854775808 % 18446744073709551616 = 0 := by omega
    rw [e1, e2, u64_xor0 _ (by omega)]
    simp only [foldN, if_neg h]

theorem or128 : ∀ x : Fin 256, x.val ||| 128 = x.val % 128 + 128 := by decide +kernel
theorem u8_or128N (U : Nat) : bits .or .u8 ((U : Int) % 256) 128 = ((U % 128 + 128 : Nat) : Int) := by
  have h := u8_or_nat (U % 256) 128 (by omega) (by omega)
  rw [or128 ⟨U % 256, by omega⟩] at h
  have e : (((U % 256 : Nat)) : Int) = (U : Int) % 256 := by omega
  rw [e] at h
  simp only at h
  rw [show U % 256 % 128 = U % 128 by omega] at h
  exact h
theorem putL_small (f U : Nat) (h : U < 128) : putL f U = [(U : Int)] := by cases f <;> simp [putL, h]
theorem putL_big (f U : Nat) (h : ¬ U < 128) : putL (f + 1) U = ((U % 128 + 128 : Nat) : Int) :: putL f (U / 128) := by simp [putL, h]
theorem pow_step (k U : Nat) (hk : k < 9) (h : U < 2 ^ (64 - 7 * k)) : U / 128 < 2 ^ (64 - 7 * (k + 1)) := by
  have e : 64 - 7 * k = (64 - 7 * (k + 1)) + 7 := by omega
  rw [e, Nat.pow_add] at h
  exact Nat.div_lt_of_lt_mul (by rw [Nat.mul_comm]; exact h)
theorem lt_nine (k U : Nat) (hk : k ≤ 9) (h : U < 2 ^ (64 - 7 * k)) (hb : ¬ U < 128) : k < 9 := by
  rcases Nat.lt_or_ge k 9 with h9 | h9
  · exact h9
  · obtain rfl : k = 9 := by omega
    omega

theorem sliceArr10 (W : World) (g k : Nat) (hk : k ≤ 9) :
    (Instr.sliceAt 142 (.pointer (some ⟨g, 0, none⟩)) none (some (.int .i64 ((k : Int) + 1))) none).run Try.prog W = .ok (.slice (some ⟨g, 0, none⟩) (k + 1) 10) W := by
  have ht : Try.prog.underlying 142 = some (.array (Try.prog.arrayLen 142) (Try.prog.elem 142)) := by kernel_rfl
  have hl : Try.prog.arrayLen 142 = 10 := by kernel_rfl
  have hs : ∀ w, (sizeOf (Try.prog.elem 142)).run Try.prog w = .ok 1 w := fun w => by kernel_rfl
  rw [run_sliceAt_array_h W 142 _ ht .i64 ((k : Int) + 1) (by omega) (by rw [hl]; omega), hs, hl]
  have e : ((k : Int) + 1).toNat = k + 1 := by omega
  simp [Result.andThen, slicedAt, e, Addr.add]
set_option maxRecDepth 100000 in
theorem implPutNum_any (n : Int) (h1 : -9223372036854775808 ≤ n) (h2 : n ≤ 9223372036854775807) (w : World) :
    Calls Try.prog 93 #[.int .i64 n] w fun e w' => e = .returned (.string (strOfNums (putL 9 (foldN n)))) ∧ Below w.heap.size w w' := by
  go_enter Try.func93, Try.ntmps93
  go_wp2
  rw [putFold n h1 h2]
  have hf := foldN_lt n h1 h2
  generalize hF : foldN n = U0 at hf
  have HF : Hid (foldN n = U0) := hF
  clear h1 h2 hF
  generalize IntKind.u64.wrap (IntKind.u64.wrap n * 2) = q2
  generalize IntKind.u64.wrap n = q1
  generalize IntKind.u64.wrap (n / 9223372036854775808) = q3
  generalize n / 9223372036854775808 = q4
  go_loopw [3, 5] (fun u i wr => ∃ (k U : Nat) (arr : Array Value) (xs : List Int), k ≤ 9 ∧ Hid (U < 2 ^ (64 - 7 * k)) ∧ i = .int .i64 k ∧ u = .int .u64 U ∧ xs.length = k ∧ Hid (putL 9 U0 = xs ++ putL (9 - k) U) ∧
      arr.size = 10 ∧ wr.heap[w.heap.size]? = some (.cells arr 142 (0, 0)) ∧ (∀ j, j < k → arr[j]? = some (.int .u8 (xs.getD j 0))) ∧ Below w.heap.size w wr)
    (fun _ i _ => 9 - (intOf i).toNat)
  case atStart =>
    refine ⟨0, U0, _, [], by omega, hf, rfl, rfl, rfl, rfl, ?_, heap_alloc_new _ _, fun j hj => absurd hj (by omega), (Below.refl _ _).alloc (Nat.le_refl _) _⟩
    rfl
  case round =>
    obtain ⟨k, U, arr, xs, hk, HU, rfl, rfl, hxs, HP, hsz, hg, hcs, hb⟩ := hrel
    clear hf
    obtain ⟨old, hold⟩ : ∃ v, arr[k]? = some v := ⟨arr[k]'(by omega), Array.getElem?_eq_getElem (by omega)⟩
    have hcell : wr.cell? ⟨w.heap.size, k, none⟩ = some old := by rw [cell_of_row wr _ k arr _ _ hg, hold]
    have hfr : wr.frozen? ⟨w.heap.size, k, none⟩ = false := frozen_of_row wr _ k arr _ hg
    by_cases hlt : U < 128
    · have hsl : ∀ W, (Instr.sliceAt 142 (.pointer (some ⟨w.heap.size, 0, none⟩)) none (some (.int .i64 ((k : Int) + 1))) none).run Try.prog W = .ok (.slice (some ⟨w.heap.size, 0, none⟩) (k + 1) 10) W := fun W => sliceArr10 W _ k hk
      have hcv : (convert 22 9 (.slice (some ⟨w.heap.size, 0, none⟩) (k + 1) 10)).run Try.prog (wr.setCell ⟨w.heap.size, k, none⟩ (.int .u8 (U : Int))) = .ok (.string (strOfNums (xs ++ [(U : Int)]))) (wr.setCell ⟨w.heap.size, k, none⟩ (.int .u8 (U : Int))) := by
        refine run_convert_bytes_arg _ 22 5 Try.underlying22 Try.underlying5 w.heap.size 0 (k + 1) 10 (xs ++ [(U : Int)]) (by simp [hxs]) (fun i hi => ?_) 9 Try.underlying9
        rw [Nat.zero_add, cell_of_row _ w.heap.size i _ _ _ (heap_setCell_same wr w.heap.size k arr _ _ hg), Array.getElem?_setIfInBounds]
        by_cases e : k = i
        · subst e; simp [hsz, ← hxs]; omega
        · rw [if_neg e, hcs i (by omega)]
          simp [List.getElem?_append_left (show i < xs.length by omega)]
      have HE : Hid (putL 9 U0 = xs ++ [(U : Int)]) := by
        show _ = _
        rw [HP.out, putL_small _ _ hlt]
      have hb' := hb.setCell (p := ⟨w.heap.size, k, none⟩) (Nat.le_refl _) (.int .u8 (U : Int))
      clear HU HP hxs hsz hg hcs hold hb
      go_wp2
      go_ret
      exact ⟨ret_str (by rw [HF.out, HE.out]), hb'⟩
    · have hk9 := lt_nine k U hk HU.out hlt
      have hor := u8_or128N U
      have HU' : Hid (U / 128 < 2 ^ (64 - 7 * (k + 1))) := pow_step k U hk9 HU.out
      have HP' : Hid (putL 9 U0 = (xs ++ [((U % 128 + 128 : Nat) : Int)]) ++ putL (9 - (k + 1)) (U / 128)) := by
        show _ = _
        rw [HP.out, show 9 - k = (9 - (k + 1)) + 1 by omega, putL_big _ _ hlt]; simp
      have hg' := heap_setCell_same wr w.heap.size k arr _ (.int .u8 ((U % 128 + 128 : Nat) : Int)) hg
      have hb' := hb.setCell (p := ⟨w.heap.size, k, none⟩) (Nat.le_refl _) (.int .u8 ((U % 128 + 128 : Nat) : Int))
      have HG : Hid ((wr.setCell ⟨w.heap.size, k, none⟩ (.int .u8 ((U % 128 + 128 : Nat) : Int))).heap[w.heap.size]? = some (.cells (arr.setIfInBounds k (.int .u8 ((U % 128 + 128 : Nat) : Int))) 142 (0, 0))) := hg'
      have HC : Hid (∀ j, j < k + 1 → (arr.setIfInBounds k (.int .u8 ((U % 128 + 128 : Nat) : Int)))[j]? = some (.int .u8 ((xs ++ [((U % 128 + 128 : Nat) : Int)]).getD j 0))) := by
        intro j hj
        rw [Array.getElem?_setIfInBounds]
        by_cases e : k = j
        · subst e; simp [hsz, ← hxs]; omega
        · rw [if_neg e, hcs j (by omega)]
          simp [List.getElem?_append_left (show j < xs.length by omega)]
      clear HU HP hg hg' hcs hold hb
      go_wp2
      go_roundw
      case rel => exact ⟨k + 1, U / 128, _, xs ++ [((U % 128 + 128 : Nat) : Int)], by omega, HU'.out, by go_num, by go_num, by simp [hxs], HP'.out, by simp [hsz], HG.out, HC.out, hb'⟩
      case measure => simp [intOf]; omega

set_option maxRecDepth 100000 in
set_option maxHeartbeats 400000 in
theorem specPutNum_any (n : Int) (h1 : -9223372036854775808 ≤ n) (h2 : n ≤ 9223372036854775807) (w : World) :
    Calls Try.prog 65 #[.int .i64 n] w fun e w' => e = .returned (.string (strOfNums (putL 9 (foldN n)))) ∧ Below w.heap.size w w' := by
  obtain ⟨i0, hi, hz0, hz1, hz2⟩ := info_parts Try.infoU8
  go_enter Try.func65, Try.ntmps65
  go_wp2_with (go_at_call 105; refine (fold_any n h1 h2 _).mono ?_; rintro e w ⟨rfl, rfl⟩)
  have hf := foldN_lt n h1 h2
  generalize hF : foldN n = U0 at hf
  have HF : Hid (foldN n = U0) := hF
  clear h1 h2 hF
  go_loopw [3, 4] (fun u v wr => ∃ (k U : Nat) (xs : List Int), k ≤ 9 ∧ Hid (U < 2 ^ (64 - 7 * k)) ∧ u = .int .u64 U ∧ Hid (putL 9 U0 = xs ++ putL (9 - k) U) ∧
      wr.ownsRow w.heap.size 5 1 v k (xs.map (Value.int .u8)) ∧ Below w.heap.size w wr)
    (fun u _ _ => (intOf u).toNat)
  case atStart => exact ⟨0, U0, [], by omega, hf, rfl, rfl, ⟨rfl, .inr ⟨w.heap.size, 0, #[], rfl, Nat.le_refl _, heap_alloc_new _ _, Nat.le_refl _, Nat.zero_le _, rfl, rfl⟩⟩, (Below.refl _ _).alloc (Nat.le_refl _) _⟩
  case round =>
    obtain ⟨k, U, xs, hk, HU, rfl, HP, hown, hb⟩ := hrel
    clear hf
    have hB := hb.size
    by_cases hlt : U < 128
    · have HE : Hid (putL 9 U0 = xs ++ [(U : Int)]) := by
        show _ = _
        rw [HP.out, putL_small _ _ hlt]
      clear HU HP
      go_wp2_with (at_builtin; refine wpList_append_own _ rfl _ _ 22 rfl w.heap.size 5 i0 (.int .u8 0) 1 1 Try.underlying22 hi hz0 hz1 hz2 rfl (by decide) _ _ _ rfl (hown.alloc _) ⟨wr.heap.size, 0, none⟩ 1 1 [.int .u8 (U : Int)] rfl rfl ?c1 ?c2 ?c3 ?c4 ?c5 ?_)
      case c1 => exact cell_one_new _ _ _
      case c2 => intro u hu; simp at hu; subst hu; rfl
      case c3 => unfold maxLen; omega
      case c4 => omega
      case c5 => simp; omega
      · intro v' w1 hown' hgrow _
        have hcv := convOwn (xs := xs ++ [(U : Int)]) (by simpa using hown')
        have hb' := (hb.alloc hB _).grown hgrow (by simp; omega) (fun j hj => (hown.lt j hj).1)
        go_wp2
        go_ret
        exact ⟨ret_str (by rw [HF.out, HE.out]), hb'⟩
    · have hk9 := lt_nine k U hk HU.out hlt
      have HU' : Hid (U / 128 < 2 ^ (64 - 7 * (k + 1))) := pow_step k U hk9 HU.out
      have HP' : Hid (putL 9 U0 = (xs ++ [((U % 128 + 128 : Nat) : Int)]) ++ putL (9 - (k + 1)) (U / 128)) := by
        show _ = _
        rw [HP.out, show 9 - k = (9 - (k + 1)) + 1 by omega, putL_big _ _ hlt]; simp
      have hU64 : U < 18446744073709551616 := Nat.lt_of_lt_of_le HU.out (Nat.pow_le_pow_right (n := 2) (by omega) (show 64 - 7 * k ≤ 64 by omega))
      clear HU HP
      go_wp2_with (at_builtin; refine wpList_append_own _ rfl _ _ 22 rfl w.heap.size 5 i0 (.int .u8 0) 1 1 Try.underlying22 hi hz0 hz1 hz2 rfl (by decide) _ _ _ rfl (hown.alloc _) ⟨wr.heap.size, 0, none⟩ 1 1 [.int .u8 ((U % 128 + 128 : Nat) : Int)] rfl rfl ?d1 ?d2 ?d3 ?d4 ?d5 ?_)
      case d1 => exact cell_one_new _ _ _
      case d2 => intro u hu; simp at hu; subst hu; rfl
      case d3 => unfold maxLen; omega
      case d4 => omega
      case d5 => simp; omega
      · intro v' w1 hown' hgrow _
        have hb' := (hb.alloc hB _).grown hgrow (by simp; omega) (fun j hj => (hown.lt j hj).1)
        go_wp2
        go_roundw
        case rel => exact ⟨k + 1, U / 128, xs ++ [((U % 128 + 128 : Nat) : Int)], by omega, HU'.out, by go_num, HP'.out, by simpa using hown', hb'⟩
        case measure => simp [intOf]; omega

end Go.Proofs.Ytfhfhpnoeghgmaa

/-
  Texts of bytes. Plain laws.
-/
namespace Go.Proofs.Ytfhfhpnoeghgmaa
open Go.RowKit

def mkS (l : List UInt8) : ByteArray := ⟨l.toArray⟩
def bCell (b : UInt8) : Value := .int .u8 (b.toNat : Int)
theorem mkS_list (l : List UInt8) : (mkS l).data.toList = l := by simp [mkS]
theorem mkS_size (l : List UInt8) : (mkS l).size = l.length := by simp [mkS, ByteArray.size]
theorem mkS_data (s : ByteArray) : mkS s.data.toList = s := by simp [mkS]
theorem strOfNums_bytes (l : List UInt8) : strOfNums (l.map fun b => (b.toNat : Int)) = mkS l := by
  simp [strOfNums, mkS, Function.comp_def]
end Go.Proofs.Ytfhfhpnoeghgmaa

/-
  Contracts: joinTexts.
-/
namespace Go.Proofs.Ytfhfhpnoeghgmaa
open Go.RowKit

def catL (ss : List ByteArray) : List UInt8 := (ss.map fun s => s.data.toList).flatten
theorem catL_snoc (ss : List ByteArray) (k : Nat) (h : k < ss.length) : catL (ss.take (k + 1)) = catL (ss.take k) ++ (ss[k]).data.toList := by
  unfold catL; rw [List.take_succ_eq_append_getElem h, List.map_append, List.flatten_append]; simp
theorem catL_le (ss : List ByteArray) (k : Nat) : (catL (ss.take k)).length ≤ (catL ss).length := by
  have : catL ss = catL (ss.take k) ++ catL (ss.drop k) := by
    unfold catL; rw [← List.flatten_append, ← List.map_append, List.take_append_drop]
  rw [this]; simp

/-- What one round of the copying does, whatever the cut 'all[at:]' has come to. -/
theorem copyRound (wr : World) (g tot at' : Nat) (s : ByteArray) (cur : List Value) (hg : wr.heap[g]? = some (.cells cur.toArray 5 (0, 0))) (hl : cur.length = tot) (hat : at' + s.size ≤ tot) :
    ∃ (ad : Addr) (w1 : World) (new : List Value), (∀ W, (Instr.slice 22 (.slice (some ⟨g, 0, none⟩) tot tot) (some (.int .i64 (at' : Int))) none none).run Try.prog W = .ok (.slice (some ad) (tot - at') (tot - at')) W) ∧
      (∀ ty, (Builtin.copy_ #[22, 9] ty #[.slice (some ad) (tot - at') (tot - at'), .string s]).run Try.prog wr = .ok (goInt s.size) w1) ∧ w1.heap[g]? = some (.cells new.toArray 5 (0, 0)) ∧ (∀ B w0, Below B w0 wr → B ≤ g → Below B w0 w1) ∧
      new.length = tot ∧ new.take (at' + s.size) = cur.take at' ++ s.data.toList.map bCell := by
  have hs : (Try.prog.info? 5).map (·.size) = some 1 := by kernel_rfl
  have hsz : ∀ w, (sizeOf (Try.prog.elem 22)).run Try.prog w = .ok 1 w := fun w => by kernel_rfl
  have hu : Try.prog.underlying 22 = some (.slice (Try.prog.elem 22)) := by kernel_rfl
  have hslice : ∀ W, (Instr.slice 22 (.slice (some ⟨g, 0, none⟩) tot tot) (some (.int .i64 (at' : Int))) none none).run Try.prog W = .ok (sliced (some ⟨g, 0, none⟩) at' tot tot 1) W := by
    intro W
    rw [run_slice_l W 22 _ tot tot hu .i64 (at' : Int) (by omega) (by omega), hsz]
    simp [Result.andThen]
  have hsl : ∀ W, (Instr.slice 22 (.slice (some ⟨g, 0, none⟩) tot tot) (some (.int .i64 (at' : Int))) none none).run Try.prog W = .ok (.slice (some (if tot = at' then ⟨g, 0, none⟩ else ⟨g, at', none⟩)) (tot - at') (tot - at')) W := by
    intro W
    rw [hslice W]
    by_cases e : tot = at'
    · simp [sliced, e]
    · simp [sliced, e, Addr.add]; omega
  have hsd : s.data.toList.length = s.size := rfl
  by_cases h0 : s.size = 0
  · have e : s.data.toList = [] := List.eq_nil_of_length_eq_zero h0
    refine ⟨_, wr, cur, hsl, fun ty => ?_, hg, fun B w0 h _ => h, hl, by rw [e, h0]; simp⟩
    rw [Lib.run_copy_empty_string wr 22 9 ty 5 _ _ _ s Try.underlying22 (by rw [hs]; rfl) h0, h0]; rfl
  · rw [if_neg (by omega)] at hsl
    refine ⟨_, _, cur.take at' ++ s.data.toList.map bCell ++ cur.drop (at' + s.size), hsl, fun ty => Lib.run_copy_row_string wr 22 9 ty 5 g at' (tot - at') (tot - at') s cur.toArray _ Try.underlying22 hs hg (by omega) (by simp; omega), ?_, fun B w0 h hB => below_setRow h hB _, ?_, ?_⟩
    · rw [setRow_heap wr g _ _ _ _ hg]; rfl
    · simp only [List.length_append, List.length_take, List.length_map, List.length_drop, hsd]; omega
    · rw [List.take_append_of_le_length (by simp only [List.length_append, List.length_take, List.length_map, hsd]; omega)]
      exact List.take_of_length_le (by simp only [List.length_append, List.length_take, List.length_map, hsd]; omega)

set_option maxHeartbeats 400000 in
theorem join_any (ss : List ByteArray) (pb po cap : Nat) (w : World) (hb : (catL ss).length ≤ 1000000000) (hn : ss.length ≤ 1000000)
    (hc : ∀ j, j < ss.length → w.cell? ⟨pb, po + j, none⟩ = some (.string (ss.getD j ByteArray.empty))) :
    Calls Try.prog 92 #[.slice (some ⟨pb, po, none⟩) ss.length cap] w fun e w' => e = .returned (.string (mkS (catL ss))) ∧ Below w.heap.size w w' := by
  obtain ⟨i0, hi, hz0, hz1, hz2⟩ := info_parts Try.infoU8
  go_enter Try.func92, Try.ntmps92
  go_wp2
  go_loop [3, 12] (fun z i => ∃ k : Nat, k ≤ ss.length ∧ i = .int .i64 k ∧ z = .int .i64 ((catL (ss.take k)).length : Nat)) (fun _ i => ss.length - (intOf i).toNat)
  case atStart => exact ⟨0, Nat.zero_le _, rfl, by simp [catL]⟩
  case round =>
    obtain ⟨k, hk, rfl, rfl⟩ := hrel
    have hle := catL_le ss k
    by_cases hlt : k < ss.length
    · have hck := hc k hlt
      have HS : Hid ((catL (ss.take (k + 1))).length = (catL (ss.take k)).length + (ss.getD k ByteArray.empty).size) := by
        show _ = _
        rw [catL_snoc ss k hlt, List.length_append, len_data]; simp [List.getElem?_eq_getElem hlt]
      have hle2 := catL_le ss (k + 1)
      have hsb : (catL (ss.take k)).length + (ss.getD k ByteArray.empty).size ≤ 1000000000 := by rw [← HS.out]; omega
      generalize (catL (ss.take k)).length = z at *
      generalize ss.getD k ByteArray.empty = sk at *
      clear hc hle2
      go_wp2
      go_round
      case rel => exact ⟨k + 1, by omega, by go_num, by rw [HS.out]; go_num⟩
      case measure => simp [intOf]; omega
    · obtain rfl : k = ss.length := by omega
      rw [List.take_length]
      generalize hT : (catL ss).length = tot at *
      have HT : Hid ((catL ss).length = tot) := hT
      clear hT
      go_wp2_with (at_make; refine wpList_make_full _ rfl _ _ 22 rfl w.heap.size 5 i0 (.int .u8 0) 1 Try.underlying22 hi hz0 hz1 .i64 .i64 _ _ tot rfl rfl rfl rfl (by rw [hz2]; omega) (by unfold maxLen; omega) (Nat.le_refl _) ?_; intro w1 hown1 hgrow1)
      obtain ⟨cur0, hg0, hl0⟩ : ∃ cur : List Value, w1.heap[w.heap.size]? = some (.cells cur.toArray 5 (0, 0)) ∧ cur.length = tot := by
        rcases hown1.2 with ⟨h, _⟩ | ⟨g, cap', cur, hv, _, hg, _, _, hs, _⟩
        · simp at h
        · simp at hv
          obtain ⟨rfl, rfl⟩ := hv
          exact ⟨cur.toList, by simpa using hg, by simpa using hs⟩
      have hb1 : Below w.heap.size w w1 := (Below.refl _ _).grown hgrow1 (Nat.le_refl _) (fun j hj => by simp at hj)
      clear hown1 hgrow1
      go_loopw [7, 25] (fun z i wr => ∃ (k : Nat) (cur : List Value), k ≤ ss.length ∧ i = .int .i64 k ∧ z = .int .i64 ((catL (ss.take k)).length : Nat) ∧ cur.length = tot ∧
          wr.heap[w.heap.size]? = some (.cells cur.toArray 5 (0, 0)) ∧ Hid (cur.take (catL (ss.take k)).length = (catL (ss.take k)).map bCell) ∧ Below w.heap.size w wr) (fun _ i _ => ss.length - (intOf i).toNat)
      case atStart => exact ⟨0, cur0, Nat.zero_le _, rfl, by simp [catL], hl0, hg0, by show _ = _; simp [catL], hb1⟩
      case round =>
        obtain ⟨k, cur, hk, rfl, rfl, hlen, hg, HC, hbw⟩ := hrel
        clear hb1 hg0 hl0
        have hle2 := catL_le ss k
        rw [HT.out] at hle2
        by_cases hlt : k < ss.length
        · have hck : wr.cell? ⟨pb, po + k, none⟩ = some (.string (ss.getD k ByteArray.empty)) := by
            have h := hc k hlt
            rw [hbw.cell (p := ⟨pb, po + k, none⟩) (block_lt_of_cell h)]; exact h
          have HS : Hid (catL (ss.take (k + 1)) = catL (ss.take k) ++ (ss.getD k ByteArray.empty).data.toList) := by
            show _ = _
            rw [catL_snoc ss k hlt]; simp [List.getElem?_eq_getElem hlt]
          have hle3 := catL_le ss (k + 1)
          rw [HT.out, HS.out, List.length_append, len_data] at hle3
          generalize hZ : (catL (ss.take k)).length = z at *
          generalize hSK : ss.getD k ByteArray.empty = sk at *
          obtain ⟨ad, w2, new, hsl, hcp, hg2, hB2, hl2, ht2⟩ := copyRound wr w.heap.size tot z sk cur hg hlen hle3
          have hb2 := hB2 _ _ hbw (Nat.le_refl _)
          have HN : Hid (new.take (catL (ss.take (k + 1))).length = (catL (ss.take (k + 1))).map bCell) := by
            show _ = _
            rw [HS.out, List.length_append, hZ, len_data, ht2, HC.out, List.map_append]
          have HZ : Hid ((catL (ss.take (k + 1))).length = z + sk.size) := by
            show _ = _
            rw [HS.out, List.length_append, hZ, len_data]
          have HG : Hid (w2.heap[w.heap.size]? = some (.cells new.toArray 5 (0, 0))) := hg2
          clear hc hZ hSK hB2 ht2 hg hg2 hbw
          go_wp2
          go_roundw
          case rel => exact ⟨k + 1, new, by omega, by go_num, by rw [HZ.out]; go_num, hl2, HG.out, HN.out, hb2⟩
          case measure => simp [intOf]; omega
        · obtain rfl : k = ss.length := by omega
          have hcv : (convert 22 9 (.slice (some ⟨w.heap.size, 0, none⟩) tot tot)).run Try.prog wr = .ok (.string (mkS (catL ss))) wr := by
            have hcc := HC.out
            rw [List.take_length, HT.out, List.take_of_length_le (by omega)] at hcc
            rw [← strOfNums_bytes]
            refine run_convert_bytes_arg _ 22 5 Try.underlying22 Try.underlying5 w.heap.size 0 tot tot _ (by rw [List.length_map, HT.out]) (fun i hi => ?_) 9 Try.underlying9
            have hi2 : i < (catL ss).length := by rw [HT.out]; exact hi
            rw [Nat.zero_add, cell_of_row _ _ i _ _ _ hg, hcc]
            simp [bCell, List.getElem?_eq_getElem hi2]
          clear hc HC hg hlen
          go_wp2
          go_ret
          exact ⟨rfl, hbw⟩

theorem join2 (t s : ByteArray) (pb cap : Nat) (w : World) (hb : t.size + s.size ≤ 1000000000) (h0 : w.cell? ⟨pb, 0, none⟩ = some (.string t)) (h1 : w.cell? ⟨pb, 1, none⟩ = some (.string s)) :
    Calls Try.prog 92 #[.slice (some ⟨pb, 0, none⟩) 2 cap] w fun e w' => e = .returned (.string (mkS (t.data.toList ++ s.data.toList))) ∧ Below w.heap.size w w' := by
  have h := join_any [t, s] pb 0 cap w (by simp only [catL, List.map_cons, List.map_nil, List.flatten_cons, List.flatten_nil, List.append_nil, List.length_append, len_data]; exact hb) (by simp) (fun j hj => by
    match j, hj with
    | 0, _ => simpa using h0
    | 1, _ => simpa using h1)
  simpa [catL] using h
theorem join1 (s : ByteArray) (pb cap : Nat) (w : World) (hb : s.size ≤ 1000000000) (h0 : w.cell? ⟨pb, 0, none⟩ = some (.string s)) :
    Calls Try.prog 92 #[.slice (some ⟨pb, 0, none⟩) 1 cap] w fun e w' => e = .returned (.string s) ∧ Below w.heap.size w w' := by
  have h := join_any [s] pb 0 cap w (by simp only [catL, List.map_cons, List.map_nil, List.flatten_cons, List.flatten_nil, List.append_nil, len_data]; exact hb) (by simp) (fun j hj => by
    match j, hj with
    | 0, _ => simpa using h0)
  simpa [catL, mkS] using h
end Go.Proofs.Ytfhfhpnoeghgmaa

/-
  Contracts: PutText of the program and of the specification.
-/
namespace Go.Proofs.Ytfhfhpnoeghgmaa
open Go.RowKit

/-- PutText of a text: the empty text beyond MaxBytes. -/
def putT (s : ByteArray) : ByteArray := if s.size ≤ 20000 then mkS ((strOfNums (putL 9 (foldN s.size))).data.toList ++ s.data.toList) else ByteArray.empty
theorem putL_len : ∀ f u, (putL f u).length ≤ f + 1
  | 0, u => by simp [putL]
  | f + 1, u => by
    unfold putL
    split
    · simp
    · have := putL_len f (u / 128); simp; omega
theorem num_size (n : Int) : (strOfNums (putL 9 (foldN n))).size ≤ 10 := by
  rw [strOfNums_size]; exact putL_len 9 _

set_option maxHeartbeats 400000 in
theorem implPutText_any (s : ByteArray) (w : World) :
    Calls Try.prog 94 #[.string s] w fun e w' => e = .returned (.string (putT s)) ∧ Below w.heap.size w w' := by
  by_cases hs : s.size ≤ 20000
  · have HP : Hid (putT s = mkS ((strOfNums (putL 9 (foldN s.size))).data.toList ++ s.data.toList)) := if_pos hs
    have hn := num_size s.size
    go_enter Try.func94, Try.ntmps94
    go_wp2_with fail
    refine (tooLong_no _ hs _).mono ?_
    rintro e w0 ⟨rfl, rfl⟩
    go_wp2_with fail
    refine (implPutNum_any _ (by omega) (by omega) _).mono ?_
    rintro e w1 ⟨rfl, hb1⟩
    generalize strOfNums (putL 9 (foldN s.size)) = t at *
    go_wp2_with fail
    refine (join2 t s _ _ _ (by omega) (by simp) (by simp)).mono ?_
    rintro e w2 ⟨rfl, hb2⟩
    go_wp2
    go_ret
    exact ⟨ret_str (by rw [HP.out]), (hb1.alloc hb1.size _).trans (hb2.mono (by simp; have := hb1.size; omega))⟩
  · have HP : Hid (putT s = ByteArray.empty) := if_neg hs
    go_enter Try.func94, Try.ntmps94
    go_wp2_with (go_at_call 83; refine (tooLong_yes _ (by omega) _).mono ?_; rintro e w' ⟨rfl, rfl⟩)
    go_ret
    exact ⟨ret_str (by rw [HP.out]; rfl), Below.refl _ _⟩

theorem specPutText_any (s : ByteArray) (w : World) :
    Calls Try.prog 66 #[.string s] w fun e w' => e = .returned (.string (putT s)) ∧ Below w.heap.size w w' := by
  by_cases hs : s.size ≤ 20000
  · have HP : Hid (putT s = mkS ((strOfNums (putL 9 (foldN s.size))).data.toList ++ s.data.toList)) := if_pos hs
    have hn := num_size s.size
    go_enter Try.func66, Try.ntmps66
    go_wp2_with fail
    refine (specPutNum_any _ (by omega) (by omega) _).mono ?_
    rintro e w1 ⟨rfl, hb1⟩
    generalize strOfNums (putL 9 (foldN s.size)) = t at *
    go_wp2
    go_ret
    exact ⟨ret_str (by rw [HP.out]; rfl), hb1⟩
  · have HP : Hid (putT s = ByteArray.empty) := if_neg hs
    go_enter Try.func66, Try.ntmps66
    go_wp2
    go_ret
    exact ⟨ret_str (by rw [HP.out]; rfl), Below.refl _ _⟩

end Go.Proofs.Ytfhfhpnoeghgmaa

/-
  Contracts: sumText, l01Four, Seal and Unseal of the program and of the specification; the laws on them.
-/
namespace Go.Proofs.Ytfhfhpnoeghgmaa
open Go.RowKit

def fourL (c : Nat) : List Int := [(c : Int) % 256, (c : Int) / 256 % 256, (c : Int) / 65536 % 256, (c : Int) / 16777216]
def fourS (c : Nat) : ByteArray := strOfNums (fourL c)
theorem fourS_size (c : Nat) : (fourS c).size = 4 := by simp [fourS, strOfNums_size, fourL]
theorem conv4 (c : Nat) (t : TypeId) (W : World) :
    (convert 22 9 (.slice (some ⟨W.heap.size, 0, none⟩) 4 4)).run Try.prog (W.alloc (.cells #[.int .u8 ((c : Int) % 256), .int .u8 ((c : Int) / 256 % 256), .int .u8 ((c : Int) / 65536 % 256), .int .u8 ((c : Int) / 16777216)] t)) =
      .ok (.string (fourS c)) (W.alloc (.cells #[.int .u8 ((c : Int) % 256), .int .u8 ((c : Int) / 256 % 256), .int .u8 ((c : Int) / 65536 % 256), .int .u8 ((c : Int) / 16777216)] t)) := by
  refine run_convert_bytes_arg _ 22 5 Try.underlying22 Try.underlying5 W.heap.size 0 4 4 (fourL c) rfl (fun i hi => ?_) 9 Try.underlying9
  rw [Nat.zero_add, cell_of_row _ _ i _ _ _ (heap_alloc_new W _)]
  match i, hi with
  | 0, _ => rfl
  | 1, _ => rfl
  | 2, _ => rfl
  | 3, _ => rfl

theorem sumText_any (s : ByteArray) (w : World) :
    Calls Try.prog 115 #[.string s] w fun e w' => e = .returned (.string (fourS (crcOf s))) ∧ Below w.heap.size w w' := by
  have hc := crcOf_lt s
  have hcv := fun t W => conv4 (crcOf s) t W
  go_enter Try.func115, Try.ntmps115
  go_wp2_with (go_at_call 124; refine (implCrc_any _ _).mono ?_; rintro e w' ⟨rfl, rfl⟩)
  go_ret
  exact ⟨rfl, (Below.refl _ _).alloc (Nat.le_refl _) _⟩
theorem four_any (c : Nat) (hc : c < 4294967296) (w : World) :
    Calls Try.prog 103 #[.int .i64 c] w fun e w' => e = .returned (.string (fourS c)) ∧ Below w.heap.size w w' := by
  have hcv := fun t W => conv4 c t W
  go_enter Try.func103, Try.ntmps103
  go_wp2
  go_ret
  exact ⟨rfl, (Below.refl _ _).alloc (Nat.le_refl _) _⟩

theorem crcOf_in (s : ByteArray) (h : s.size ≤ 20000) : crcOf s = crcMoreN 0 s.data.toList := if_pos h
/-- The seal of a text: the empty text where it does not fit. -/
def sealS (s : ByteArray) : ByteArray := if s.size ≤ 19996 then mkS (s.data.toList ++ (fourS (crcOf s)).data.toList) else ByteArray.empty

theorem implSeal_any (s : ByteArray) (w : World) :
    Calls Try.prog 91 #[.string s] w fun e w' => e = .returned (.string (sealS s)) ∧ Below w.heap.size w w' := by
  by_cases hs : s.size ≤ 19996
  · have HP : Hid (sealS s = mkS (s.data.toList ++ (fourS (crcOf s)).data.toList)) := if_pos hs
    have hn := fourS_size (crcOf s)
    go_enter Try.func91, Try.ntmps91
    go_wp2_with fail
    refine (sumText_any s _).mono ?_
    rintro e w1 ⟨rfl, hb1⟩
    generalize fourS (crcOf s) = t at *
    go_wp2_with fail
    refine (join2 s t _ _ _ (by omega) (by simp) (by simp)).mono ?_
    rintro e w2 ⟨rfl, hb2⟩
    go_wp2
    go_ret
    exact ⟨ret_str (by rw [HP.out]), (hb1.alloc hb1.size _).trans (hb2.mono (by simp; have := hb1.size; omega))⟩
  · have HP : Hid (sealS s = ByteArray.empty) := if_neg hs
    go_enter Try.func91, Try.ntmps91
    go_wp2
    go_ret
    exact ⟨ret_str (by rw [HP.out]; rfl), Below.refl _ _⟩
theorem specSeal_any (s : ByteArray) (w : World) :
    Calls Try.prog 64 #[.string s] w fun e w' => e = .returned (.string (sealS s)) ∧ Below w.heap.size w w' := by
  by_cases hs : s.size ≤ 19996
  · have HP : Hid (sealS s = mkS (s.data.toList ++ (fourS (crcMoreN 0 s.data.toList)).data.toList)) := by
      show _ = _
      rw [← crcOf_in s (by omega)]; exact if_pos hs
    have hn := fourS_size (crcMoreN 0 s.data.toList)
    go_enter Try.func64, Try.ntmps64
    go_wp2_with fail
    refine (specCrc_any 0 (by omega) s (by omega) _).mono ?_
    rintro e w0 ⟨rfl, rfl⟩
    go_wp2_with fail
    refine (four_any _ (crcMoreN_lt (by omega) _) _).mono ?_
    rintro e w1 ⟨rfl, hb1⟩
    generalize fourS (crcMoreN 0 s.data.toList) = t at *
    go_wp2
    go_ret
    exact ⟨ret_str (by rw [HP.out]; rfl), hb1⟩
  · have HP : Hid (sealS s = ByteArray.empty) := if_neg hs
    go_enter Try.func64, Try.ntmps64
    go_wp2
    go_ret
    exact ⟨ret_str (by rw [HP.out]; rfl), Below.refl _ _⟩

end Go.Proofs.Ytfhfhpnoeghgmaa

/-
  Plain facts: a number read from its bytes.
-/
namespace Go.Proofs.Ytfhfhpnoeghgmaa
open Go.RowKit

def unz (u : Nat) : Int := if u % 2 = 1 then -((u / 2 : Nat) : Int) - 1 else ((u / 2 : Nat) : Int)
/-- The number, how many bytes it has, the code. -/
def rd (k u : Nat) : List UInt8 → Int × Nat × Nat
  | [] => (0, 0, 4)
  | b :: l =>
    if k = 9 ∧ 1 < b.toNat then (0, 0, 3)
    else if b.toNat < 128 then (if b.toNat = 0 ∧ 0 < k then (0, 0, 3) else (unz (u + b.toNat % 128 * 2 ^ (7 * k)), k + 1, 0))
    else rd (k + 1) (u + b.toNat % 128 * 2 ^ (7 * k)) l
def rdAt (l : List UInt8) (at' : Nat) : Int × Nat × Nat := rd 0 0 (l.drop at')
theorem drop_cons (s : ByteArray) (k : Nat) (h : k < s.size) : s.data.toList.drop k = s[k] :: s.data.toList.drop (k + 1) := by
  rw [List.drop_eq_getElem_cons (by simpa using h)]; rfl
theorem drop_none (s : ByteArray) (k : Nat) (h : s.size ≤ k) : s.data.toList.drop k = [] := List.drop_eq_nil_of_le (by simpa using h)
theorem rd_short (k u : Nat) : rd k u [] = (0, 0, 4) := rfl
theorem rd_big {k u : Nat} {b : UInt8} {l : List UInt8} (h : k = 9) (hb : 1 < b.toNat) : rd k u (b :: l) = (0, 0, 3) := by simp [rd, h, hb]
theorem rd_nought {k u : Nat} {b : UInt8} {l : List UInt8} (h : 0 < k) (hb : b.toNat = 0) : rd k u (b :: l) = (0, 0, 3) := by simp [rd, h, hb]
theorem rd_last {k u : Nat} {b : UInt8} {l : List UInt8} (h : ¬ (k = 9 ∧ 1 < b.toNat)) (hb : b.toNat < 128) (hz : ¬ (b.toNat = 0 ∧ 0 < k)) : rd k u (b :: l) = (unz (u + b.toNat % 128 * 2 ^ (7 * k)), k + 1, 0) := by
  simp only [rd, if_neg h, if_pos hb, if_neg hz]
theorem rd_more {k u : Nat} {b : UInt8} {l : List UInt8} (h : ¬ k = 9) (hb : ¬ b.toNat < 128) : rd k u (b :: l) = rd (k + 1) (u + b.toNat % 128 * 2 ^ (7 * k)) l := by
  have h' : ¬ (k = 9 ∧ 1 < b.toNat) := fun e => h e.1
  rw [rd, if_neg h', if_neg hb]
theorem u8_and127 (b : Nat) (h : b < 256) : bits .and .u8 (b : Int) 127 = ((b % 128 : Nat) : Int) := by
  have := u8_and_nat b 127 h (by omega)
  simpa [nat_mask7] using this
theorem next_lt {k u b : Nat} (hu : u < 2 ^ (7 * k)) : u + b % 128 * 2 ^ (7 * k) < 2 ^ (7 * (k + 1)) := by
  have e : 2 ^ (7 * (k + 1)) = 128 * 2 ^ (7 * k) := by rw [Nat.mul_add, Nat.pow_add, Nat.mul_comm]
  rw [e]
  have : b % 128 < 128 := Nat.mod_lt _ (by omega)
  have h2 : b % 128 * 2 ^ (7 * k) ≤ 127 * 2 ^ (7 * k) := Nat.mul_le_mul_right _ (by omega)
  omega
theorem pow_le {k : Nat} (h : k ≤ 9) : 2 ^ (7 * k) ≤ 9223372036854775808 := Nat.pow_le_pow_right (n := 2) (by omega) (show 7 * k ≤ 63 by omega)
theorem or_join {k u b : Nat} (hu : u < 2 ^ (7 * k)) : u ||| b * 2 ^ (7 * k) = u + b * 2 ^ (7 * k) := by
  rw [Nat.or_comm, nat_join (7 * k) (b * 2 ^ (7 * k)) u (by simp) hu, Nat.add_comm]
/-- The product fits: at the tenth byte it is 0 or 1. -/
theorem prod_lt {k b : Nat} (hk : k ≤ 9) (h : ¬ (k = 9 ∧ 1 < b)) : b % 128 * 2 ^ (7 * k) < 18446744073709551616 := by
  by_cases h9 : k = 9
  · subst h9
    have : b ≤ 1 := by
      rcases Nat.lt_or_ge 1 b with h1 | h1
      · exact absurd ⟨rfl, h1⟩ h
      · exact h1
    have : b % 128 ≤ 1 := by omega
    have : b % 128 * 2 ^ (7 * 9) ≤ 1 * 2 ^ (7 * 9) := Nat.mul_le_mul_right _ this
    omega
  · have h1 := pow_le (k := k + 1) (by omega)
    have h2 := next_lt (k := k) (u := 0) (b := b) (Nat.two_pow_pos _)
    omega
theorem or_u64 {k u b : Nat} (hu : u < 2 ^ (7 * k)) (hp : b % 128 * 2 ^ (7 * k) < 18446744073709551616) (hk : k ≤ 9) :
    bits .or .u64 (u : Int) (IntKind.u64.wrap ((b : Int) % 128 * 2 ^ (7 * k))) = ((u + b % 128 * 2 ^ (7 * k) : Nat) : Int) := by
  have e : (b : Int) % 128 * 2 ^ (7 * k) = ((b % 128 * 2 ^ (7 * k) : Nat) : Int) := by simp
  have hw : IntKind.u64.wrap ((b % 128 * 2 ^ (7 * k) : Nat) : Int) = ((b % 128 * 2 ^ (7 * k) : Nat) : Int) := by rw [IntKind.wrap_u64]; omega
  have hu2 : u < 18446744073709551616 := Nat.lt_of_lt_of_le hu (Nat.le_trans (pow_le hk) (by omega))
  rw [e, hw, u64_or_nat _ _ hu2 hp, or_join hu]
theorem u64_and1 (u : Nat) (hu : u < 18446744073709551616) : bits .and .u64 (u : Int) 1 = ((u % 2 : Nat) : Int) := by
  have := u64_and_nat u 1 hu (by omega)
  simpa [nat_mask1] using this
theorem i64_xor_neg (a : Nat) (ha : a < 9223372036854775808) : bits .xor .i64 (a : Int) (-1) = -(a : Int) - 1 := by
  show IntKind.i64.wrap ((BitVec.ofInt 64 (a : Int) ^^^ BitVec.ofInt 64 (-1)).toNat : Int) = _
  have h1 : BitVec.ofInt 64 (-1) = BitVec.allOnes 64 := by decide
  rw [h1, BitVec.xor_allOnes, BitVec.toNat_not, ofInt_u64 a (by omega)]
  simp [IntKind.wrap, IntKind.bits, IntKind.signed]
  omega
theorem i64_xor_zero (a : Nat) (ha : a < 9223372036854775808) : bits .xor .i64 (a : Int) 0 = (a : Int) := by
  show IntKind.i64.wrap ((BitVec.ofInt 64 (a : Int) ^^^ BitVec.ofInt 64 0).toNat : Int) = _
  have h1 : BitVec.ofInt 64 0 = 0#64 := by decide
  rw [h1, BitVec.xor_zero, ofInt_u64 a (by omega)]
  simp [IntKind.wrap, IntKind.bits, IntKind.signed]
  omega
theorem unz_odd {u : Nat} (hu : u < 18446744073709551616) (h : u % 2 = 1) : bits .xor .i64 ((u : Int) / 2) (-1) = unz u := by
  have := i64_xor_neg (u / 2) (by omega)
  rw [unz, if_pos h, ← this]; simp
theorem unz_even {u : Nat} (hu : u < 18446744073709551616) (h : ¬ u % 2 = 1) : bits .xor .i64 ((u : Int) / 2) 0 = unz u := by
  have := i64_xor_zero (u / 2) (by omega)
  rw [unz, if_neg h, ← this]; simp
theorem or_first (b : Nat) : bits .or .u64 0 ((b : Int) % 128) = ((b % 128 : Nat) : Int) := by
  have := u64_or_nat 0 (b % 128) (by omega) (by omega)
  simpa using this
theorem wrap_prod {k b : Nat} (hp : b % 128 * 2 ^ (7 * k) < 18446744073709551616) : IntKind.u64.wrap ((b : Int) % 128 * 2 ^ (7 * k)) = ((b % 128 * 2 ^ (7 * k) : Nat) : Int) := by
  have e : (b : Int) % 128 * 2 ^ (7 * k) = ((b % 128 * 2 ^ (7 * k) : Nat) : Int) := by simp
  rw [e, IntKind.wrap_u64]; omega
theorem sum_lt {k u b : Nat} (hk : k ≤ 9) (hu : u < 2 ^ (7 * k)) (hA : ¬ (k = 9 ∧ 1 < b)) : u + b % 128 * 2 ^ (7 * k) < 18446744073709551616 := by
  have := pow_le hk
  rcases Nat.lt_or_ge k 9 with h9 | h9
  · have := next_lt (b := b) hu
    have := pow_le (k := k + 1) (by omega)
    omega
  · obtain rfl : k = 9 := by omega
    have h1 : ¬ 1 < b := fun h => hA ⟨rfl, h⟩
    have : b % 128 ≤ 1 := by omega
    have : b % 128 * 2 ^ (7 * 9) ≤ 1 * 2 ^ (7 * 9) := Nat.mul_le_mul_right _ this
    omega
theorem unz_eq (u : Nat) : unz u = if u % 2 = 1 then -((u / 2 : Nat) : Int) - 1 else ((u / 2 : Nat) : Int) := rfl
end Go.Proofs.Ytfhfhpnoeghgmaa

/-
  Plain facts: a number is got back from its bytes, and not from fewer.
-/
namespace Go.Proofs.Ytfhfhpnoeghgmaa
open Go.RowKit

def toB (x : Int) : UInt8 := UInt8.ofNat x.toNat
theorem toB_small {U : Nat} (h : U < 256) : (toB (U : Int)).toNat = U := by
  unfold toB; rw [Int.toNat_natCast, UInt8.toNat_ofNat', Nat.mod_eq_of_lt h]
theorem sum_step (k u0 U : Nat) : u0 + U % 128 * 2 ^ (7 * k) + U / 128 * 2 ^ (7 * (k + 1)) = u0 + U * 2 ^ (7 * k) := by
  have e : 2 ^ (7 * (k + 1)) = 128 * 2 ^ (7 * k) := by rw [Nat.mul_add, Nat.pow_add, Nat.mul_comm]
  have h := Nat.div_add_mod U 128
  rw [e, ← Nat.mul_assoc]
  have h2 : U * 2 ^ (7 * k) = (U % 128) * 2 ^ (7 * k) + (U / 128 * 128) * 2 ^ (7 * k) := by rw [← Nat.add_mul]; congr 1; omega
  rw [h2]; omega
/-- Read from the k-th byte on: the number whose bytes stand there. -/
theorem rd_put : ∀ (f k u0 U : Nat) (rest : List UInt8), k + f = 9 → U < 2 ^ (64 - 7 * k) → (0 < k → 0 < U) →
    rd k u0 ((putL f U).map toB ++ rest) = (unz (u0 + U * 2 ^ (7 * k)), k + (putL f U).length, 0)
  | 0, k, u0, U, rest, hk, hU, hp => by
    obtain rfl : k = 9 := by omega
    have hU2 : U < 2 := by simpa using hU
    rw [putL_small 0 U (by omega)]
    have hb := toB_small (U := U) (by omega)
    rw [List.map_cons, List.map_nil, List.singleton_append, rd_last (by rw [hb]; omega) (by rw [hb]; omega) (by rw [hb]; omega), hb, Nat.mod_eq_of_lt (by omega)]
    rfl
  | f + 1, k, u0, U, rest, hk, hU, hp => by
    by_cases hs : U < 128
    · rw [putL_small _ U hs]
      have hb := toB_small (U := U) (by omega)
      rw [List.map_cons, List.map_nil, List.singleton_append, rd_last (by rw [hb]; omega) (by rw [hb]; omega) (by rw [hb]; omega), hb, Nat.mod_eq_of_lt (by omega)]
      rfl
    · rw [putL_big f U hs]
      have hb := toB_small (U := U % 128 + 128) (by omega)
      rw [List.map_cons, List.cons_append, rd_more (by omega) (by rw [hb]; omega), hb, show (U % 128 + 128) % 128 = U % 128 by omega]
      rw [rd_put f (k + 1) _ (U / 128) rest (by omega) (pow_step k U (by omega) hU) (by omega), sum_step, List.length_cons]
      simp; omega
/-- All bytes but the last: too short. -/
theorem rd_cut : ∀ (f k u0 U : Nat), k + f = 9 → U < 2 ^ (64 - 7 * k) → rd k u0 ((putL f U).map toB).dropLast = (0, 0, 4)
  | 0, k, u0, U, hk, hU => by simp [putL, rd]
  | f + 1, k, u0, U, hk, hU => by
    by_cases hs : U < 128
    · rw [putL_small _ U hs]; simp [rd]
    · rw [putL_big f U hs]
      have hb := toB_small (U := U % 128 + 128) (by omega)
      have hne : (putL f (U / 128)).map toB ≠ [] := by
        cases f <;> simp [putL]
        split <;> simp
      rw [List.map_cons, List.dropLast_cons_of_ne_nil hne, rd_more (by omega) (by rw [hb]; omega)]
      exact rd_cut f (k + 1) _ (U / 128) (by omega) (pow_step k U (by omega) hU)
theorem unz_fold (n : Int) : unz (foldN n) = n := by
  unfold unz foldN
  split <;> split <;> omega
def numB (n : Int) : List UInt8 := (putL 9 (foldN n)).map toB
theorem numS_list (n : Int) : (strOfNums (putL 9 (foldN n))).data.toList = numB n := strOfNums_data _
theorem numB_pos (n : Int) : 0 < (numB n).length := by
  unfold numB; rw [List.length_map, putL]; split <;> simp
theorem rdAt_put (n : Int) (h1 : -9223372036854775808 ≤ n) (h2 : n ≤ 9223372036854775807) (a b : List UInt8) : rdAt (a ++ numB n ++ b) a.length = (n, (numB n).length, 0) := by
  unfold rdAt
  rw [List.append_assoc, List.drop_append_of_le_length (Nat.le_refl _), List.drop_length, List.nil_append]
  have h := rd_put 9 0 0 (foldN n) b rfl (foldN_lt n h1 h2) (by omega)
  unfold numB
  rw [h]
  simp [unz_fold]
theorem rdAt_cut (n : Int) (h1 : -9223372036854775808 ≤ n) (h2 : n ≤ 9223372036854775807) : rdAt (numB n).dropLast 0 = (0, 0, 4) := by
  unfold rdAt
  rw [List.drop_zero]
  exact rd_cut 9 0 0 (foldN n) rfl (foldN_lt n h1 h2)
end Go.Proofs.Ytfhfhpnoeghgmaa

/-
  Records and their bytes: plain.
-/
namespace Go.Proofs.Ytfhfhpnoeghgmaa
open Go.RowKit
set_option maxRecDepth 100000

def seqOk (q : Int) : Bool := decide (1 ≤ q) && decide (q ≤ 1000000000)
def recRight (q : Int) (t : ByteArray) : Bool := seqOk q && decide (t.size ≤ 6000)
def numS (q : Int) : ByteArray := strOfNums (putL 9 (foldN q))
/-- What is sealed. -/
def recL (q : Int) (t : ByteArray) : List UInt8 := 76 :: ((numS q).data.toList ++ (putT t).data.toList)
def recS (q : Int) (t : ByteArray) : ByteArray := sealS (mkS (recL q t))
/-- The bytes of a record: none, where it is not right. -/
def recBytes (q : Int) (t : ByteArray) : ByteArray := if recRight q t = true then recS q t else ⟨#[]⟩
theorem recBytes_no {q : Int} {t : ByteArray} (h : recRight q t = false) : recBytes q t = ⟨#[]⟩ := by unfold recBytes; rw [h]; rfl
theorem recBytes_yes {q : Int} {t : ByteArray} (h : recRight q t = true) : recBytes q t = recS q t := by unfold recBytes; rw [h]; rfl
theorem recRight_iff (q : Int) (t : ByteArray) : recRight q t = true ↔ (1 ≤ q ∧ q ≤ 1000000000) ∧ t.size ≤ 6000 := by simp [recRight, seqOk]
theorem numS_len (q : Int) : (numS q).size ≤ 10 := num_size q
theorem numS_data (q : Int) : (numS q).data.toList = numB q := numS_list q
theorem putT_yes {t : ByteArray} (h : t.size ≤ 20000) : putT t = mkS ((numS t.size).data.toList ++ t.data.toList) := if_pos h
theorem putT_len (t : ByteArray) (h : t.size ≤ 6000) : (putT t).size ≤ 6010 := by
  rw [putT_yes (by omega), mkS_size, List.length_append]
  have h1 : (numS (t.size : Int)).data.toList.length ≤ 10 := numS_len _
  have h2 : t.data.toList.length = t.size := rfl
  omega
theorem recL_len (q : Int) (t : ByteArray) (h : t.size ≤ 6000) : (recL q t).length ≤ 6021 := by
  unfold recL
  have h1 : (numS q).data.toList.length ≤ 10 := numS_len _
  have h2 : (putT t).data.toList.length ≤ 6010 := putT_len t h
  simp only [List.length_cons, List.length_append]
  omega
theorem recS_eq {q : Int} {t : ByteArray} (h : t.size ≤ 6000) : recS q t = mkS (recL q t ++ (fourS (crcOf (mkS (recL q t)))).data.toList) := by
  unfold recS sealS
  have h1 := recL_len q t h
  have h2 := mkS_size (recL q t)
  rw [if_pos (by omega)]
  rfl
theorem recS_len {q : Int} {t : ByteArray} (h : t.size ≤ 6000) : (recS q t).size = (recL q t).length + 4 := by
  rw [recS_eq h, mkS_size, List.length_append]
  have h1 : (fourS (crcOf (mkS (recL q t)))).data.toList.length = 4 := fourS_size _
  omega
theorem recBytes_len (q : Int) (t : ByteArray) : (recBytes q t).size ≤ 6025 := by
  cases h : recRight q t with
  | false => rw [recBytes_no h]; decide
  | true =>
    have h2 := ((recRight_iff q t).1 h).2
    have := recL_len q t h2
    rw [recBytes_yes h, recS_len h2]; omega
end Go.Proofs.Ytfhfhpnoeghgmaa

/-
  Plain facts that many texts share.
-/
namespace Go.Proofs.Ytfhfhpnoeghgmaa
open Go.RowKit

theorem hide {p : Prop} (h : p) : Hid p := h
/-- Does it hold at each place below n? -/
def upto (p : Nat → Bool) (n : Nat) : Bool := (List.range n).all p
theorem upto_zero (p : Nat → Bool) : upto p 0 = true := rfl
theorem upto_succ (p : Nat → Bool) (k : Nat) : upto p (k + 1) = (upto p k && p k) := by
  unfold upto; rw [List.range_succ, List.all_append]; simp
theorem upto_iff (p : Nat → Bool) (n : Nat) : upto p n = true ↔ ∀ i, i < n → p i = true := by
  unfold upto; simp
theorem upto_false {p : Nat → Bool} {k n : Nat} (hk : k < n) (h : p k = false) : upto p n = false := by
  rw [Bool.eq_false_iff]
  intro e
  have := (upto_iff p n).1 e k hk
  rw [h] at this; cases this
theorem getD_mem {α : Type} (l : List α) (d : α) (k : Nat) (hk : k < l.length) : l.getD k d ∈ l := by
  rw [List.getD_eq_getElem?_getD, List.getElem?_eq_getElem hk]; exact List.getElem_mem hk
theorem heap_far (W : World) (g m b : Nat) (v : Value) (h : b ≠ g) : (W.setCell ⟨g, m, none⟩ v).heap[b]? = W.heap[b]? := heap_setCell_other W ⟨g, m, none⟩ b v (by simpa using h)
theorem heap_old (w : World) (o : Obj) (k : Nat) (h : k < w.heap.size) : (w.alloc o).heap[k]? = w.heap[k]? := by
  unfold World.alloc; simp only [Array.getElem?_push]; rw [if_neg (by omega)]
theorem alloc3 (w : World) (o1 o2 o3 : Obj) : (((w.alloc o1).alloc o2).alloc o3).heap[w.heap.size]? = some o1 ∧ (((w.alloc o1).alloc o2).alloc o3).heap[w.heap.size + 1]? = some o2 ∧ (((w.alloc o1).alloc o2).alloc o3).heap[w.heap.size + 1 + 1]? = some o3 := by
  have s1 : (w.alloc o1).heap.size = w.heap.size + 1 := by simp
  have s2 : ((w.alloc o1).alloc o2).heap.size = w.heap.size + 1 + 1 := by simp
  refine ⟨?_, ?_, ?_⟩
  · rw [heap_old _ _ _ (by omega), heap_old _ _ _ (by omega), heap_alloc_new]
  · rw [heap_old _ _ _ (by omega), ← s1, heap_alloc_new]
  · rw [← s2, heap_alloc_new]
theorem two_allocs (w : World) (o1 o2 : Obj) : ((w.alloc o1).alloc o2).heap[w.heap.size]? = some o1 ∧ ((w.alloc o1).alloc o2).heap[w.heap.size + 1]? = some o2 ∧ ((w.alloc o1).alloc o2).heap.size = w.heap.size + 2 := by
  have s1 : (w.alloc o1).heap.size = w.heap.size + 1 := by simp
  refine ⟨?_, ?_, by simp⟩
  · rw [heap_old _ _ _ (by omega), heap_alloc_new]
  · rw [← s1, heap_alloc_new]
theorem setL_heap {W : World} {g m : Nat} {cur : List Value} {t : TypeId} {x : Value} (h : W.heap[g]? = some (.cells cur.toArray t (0, 0))) :
    (W.setCell ⟨g, m, none⟩ x).heap[g]? = some (.cells (cur.set m x).toArray t (0, 0)) := by
  have h1 := heap_setCell_same W g m _ t x h
  rw [h1]; simp
theorem take_set1 (cur : List Value) (k : Nat) (x : Value) (h : k < cur.length) : (cur.set k x).take (k + 1) = cur.take k ++ [x] := by
  have h' : k < (cur.set k x).length := by simpa using h
  rw [List.take_succ_eq_append_getElem h', List.take_set_of_le (Nat.le_refl _), List.getElem_set_self]
theorem cells4 {w : World} {g : Nat} {a b c d : Value} {t : TypeId} (h : w.heap[g]? = some (.cells #[a, b, c, d] t (0, 0))) :
    w.cell? ⟨g, 0, none⟩ = some a ∧ w.cell? ⟨g, 1, none⟩ = some b ∧ w.cell? ⟨g, 2, none⟩ = some c ∧ w.cell? ⟨g, 3, none⟩ = some d ∧ ∀ j, w.frozen? ⟨g, j, none⟩ = false :=
  ⟨by rw [cell_of_row _ _ _ _ _ _ h]; rfl, by rw [cell_of_row _ _ _ _ _ _ h]; rfl, by rw [cell_of_row _ _ _ _ _ _ h]; rfl, by rw [cell_of_row _ _ _ _ _ _ h]; rfl, fun j => frozen_of_row _ _ _ _ _ h⟩
theorem set2 {W : World} {g : Nat} {a b x y : Value} {t : TypeId} (h : W.heap[g]? = some (.cells #[a, b] t (0, 0))) :
    ((W.setCell ⟨g, 0, none⟩ x).setCell ⟨g, 1, none⟩ y).heap[g]? = some (.cells #[x, y] t (0, 0)) := by
  have h1 := heap_setCell_same W g 0 _ t x h
  have h2 := heap_setCell_same _ g 1 _ t y h1
  simpa using h2
theorem below2 {B g : Nat} {w W : World} {x y : Value} (h : Below B w W) (hg : B ≤ g) : Below B w ((W.setCell ⟨g, 0, none⟩ x).setCell ⟨g, 1, none⟩ y) := (h.setCell hg _).setCell hg _
theorem cells2 {W : World} {g : Nat} {a b : Value} {t : TypeId} (h : W.heap[g]? = some (.cells #[a, b] t (0, 0))) : W.cell? ⟨g, 0, none⟩ = some a ∧ W.cell? ⟨g, 1, none⟩ = some b ∧ (∀ j, W.frozen? ⟨g, j, none⟩ = false) :=
  ⟨by rw [cell_of_row _ _ _ _ _ _ h]; rfl, by rw [cell_of_row _ _ _ _ _ _ h]; rfl, fun j => frozen_of_row _ _ _ _ _ h⟩
theorem owns_set2 {W : World} {base g n : Nat} {v x y : Value} {xs : List Value} {t : TypeId} {size : Nat} (h : W.ownsRow base t size v n xs) (hg : g < base) : ((W.setCell ⟨g, 0, none⟩ x).setCell ⟨g, 1, none⟩ y).ownsRow base t size v n xs := by
  refine ⟨h.1, ?_⟩
  rcases h.2 with h0 | ⟨q, cap, cur, rfl, hB, hq, hn, hm, hs, ht⟩
  · exact .inl h0
  · exact .inr ⟨q, cap, cur, rfl, hB, by rw [heap_setCell_other _ _ _ _ (show q ≠ g by omega), heap_setCell_other _ _ _ _ (show q ≠ g by omega)]; exact hq, hn, hm, hs, ht⟩
theorem owns_base {W : World} {base base' n size : Nat} {v : Value} {xs : List Value} {t : TypeId} (h : W.ownsRow base t size v n xs) (hb : base' ≤ base) : W.ownsRow base' t size v n xs := by
  refine ⟨h.1, ?_⟩
  rcases h.2 with h0 | ⟨q, cap, cur, rfl, hB, hq, hn, hm, hs, ht⟩
  · exact .inl h0
  · exact .inr ⟨q, cap, cur, rfl, by omega, hq, hn, hm, hs, ht⟩
theorem own_set {W : World} {base g m n size : Nat} {v x : Value} {xs : List Value} {t : TypeId} (h : W.ownsRow base t size v n xs) (hg : g < base) : (W.setCell ⟨g, m, none⟩ x).ownsRow base t size v n xs := by
  refine ⟨h.1, ?_⟩
  rcases h.2 with h0 | ⟨q, cap, cur, rfl, hB, hq, hn, hm, hs, ht⟩
  · exact .inl h0
  · exact .inr ⟨q, cap, cur, rfl, hB, by rw [heap_setCell_other _ _ _ _ (show q ≠ g by omega)]; exact hq, hn, hm, hs, ht⟩
theorem own_far {base n size g : Nat} {t : TypeId} {v : Value} {xs : List Value} {w w' : World} (h : w.ownsRow base t size v n xs) (hg : w.grownBy w' (some g)) (hl : g < base) : w'.ownsRow base t size v n xs :=
  World.ownsRow.kept h hg (by
    cases hv : v.ownBlock with
    | none => exact .inl rfl
    | some k =>
      refine .inr (fun e => ?_)
      have h1 := (World.ownsRow.lt h k hv).1
      have : k = g := by simpa using e
      omega)
theorem cells5 {w : World} {g : Nat} {a b c d e : Value} {t : TypeId} (h : w.heap[g]? = some (.cells #[a, b, c, d, e] t (0, 0))) :
    w.cell? ⟨g, 0, none⟩ = some a ∧ w.cell? ⟨g, 1, none⟩ = some b ∧ w.cell? ⟨g, 2, none⟩ = some c ∧ w.cell? ⟨g, 3, none⟩ = some d ∧ w.cell? ⟨g, 4, none⟩ = some e ∧ ∀ j, w.frozen? ⟨g, j, none⟩ = false :=
  ⟨by rw [cell_of_row _ _ _ _ _ _ h]; rfl, by rw [cell_of_row _ _ _ _ _ _ h]; rfl, by rw [cell_of_row _ _ _ _ _ _ h]; rfl, by rw [cell_of_row _ _ _ _ _ _ h]; rfl, by rw [cell_of_row _ _ _ _ _ _ h]; rfl, fun j => frozen_of_row _ _ _ _ _ h⟩
/-- Only the blocks of these values may have been written. -/
structure GL (l : List Value) (w w' : World) : Prop where
  os : w'.os = w.os
  tape : w'.tape = w.tape
  output : w'.output = w.output
  size : w.heap.size ≤ w'.heap.size
  block : ∀ b, b < w.heap.size → (∀ v ∈ l, v.ownBlock ≠ some b) → w'.heap[b]? = w.heap[b]?
theorem GL.refl (l : List Value) (w : World) : GL l w w := ⟨rfl, rfl, rfl, Nat.le_refl _, fun _ _ _ => rfl⟩
theorem GL.trans {l : List Value} {a b c : World} (h : GL l a b) (k : GL l b c) : GL l a c :=
  ⟨k.os.trans h.os, k.tape.trans h.tape, k.output.trans h.output, Nat.le_trans h.size k.size, fun i hi hv => (k.block i (Nat.lt_of_lt_of_le hi h.size) hv).trans (h.block i hi hv)⟩
theorem GL.mono {l l' : List Value} {w w' : World} (h : GL l w w') (hs : ∀ v ∈ l, v ∈ l') : GL l' w w' := ⟨h.os, h.tape, h.output, h.size, fun b hb hv => h.block b hb (fun v hv' => hv v (hs v hv'))⟩
theorem GL.of {l : List Value} {v : Value} {w w' : World} (h : w.grownBy w' v.ownBlock) (hv : v ∈ l) : GL l w w' := ⟨h.os, h.tape, h.output, h.size, fun b hb hn => h.block b hb (fun e => hn v hv e.symm)⟩
theorem GL.alloc (l : List Value) (w : World) (o : Obj) : GL l w (w.alloc o) := ⟨rfl, rfl, rfl, by simp, fun b hb _ => heap_old _ _ _ hb⟩
theorem GL.below {l : List Value} {B : Nat} {w w' : World} (h : GL l w w') (hb : ∀ v ∈ l, ∀ b, v.ownBlock = some b → B ≤ b) (hB : B ≤ w.heap.size) : Below B w w' :=
  ⟨h.os, h.tape, h.output, h.size, fun k hk => h.block k (Nat.lt_of_lt_of_le hk hB) (fun v hv e => by have := hb v hv k e; omega)⟩
theorem GL.own {l : List Value} {w w' : World} {base n size : Nat} {t : TypeId} {u : Value} {xs : List Value} (h : GL l w w') (ho : w.ownsRow base t size u n xs) (hne : ∀ v ∈ l, u.ownBlock = none ∨ u.ownBlock ≠ v.ownBlock) : w'.ownsRow base t size u n xs := by
  refine ⟨ho.1, ?_⟩
  rcases ho.2 with h0 | ⟨q, cap, cur, rfl, hB, hq, rest⟩
  · exact .inl h0
  · refine .inr ⟨q, cap, cur, rfl, hB, (h.block q (Array.getElem?_eq_some_iff.1 hq).1 (fun v hv e => ?_)).trans hq, rest⟩
    rcases hne v hv with h1 | h1
    · simp [Value.ownBlock] at h1
    · exact h1 (by rw [e]; rfl)
end Go.Proofs.Ytfhfhpnoeghgmaa

/-
  Contracts: is a record right, of both; the bytes of a record, of both.
-/
namespace Go.Proofs.Ytfhfhpnoeghgmaa
open Go.RowKit
set_option maxRecDepth 100000

theorem blkR {W : World} {g : Nat} {o : Obj} (h : W.heap[g]? = some o) : g < W.heap.size := (Array.getElem?_eq_some_iff.1 h).1
theorem seqRight_any (q : Int) (w : World) : Calls Try.prog 56 #[.int .i64 q] w fun e w' => e = .returned (.bool (seqOk q)) ∧ w' = w := by
  by_cases h1 : 1 ≤ q
  · go_enter Try.func56, Try.ntmps56
    go_wp2
    go_ret
    exact ⟨ret_bool (by simp [seqOk, h1]), rfl⟩
  · go_enter Try.func56, Try.ntmps56
    go_wp2
    go_ret
    exact ⟨ret_bool (by simp [seqOk]; intros; omega), rfl⟩
theorem l08Seq_any (q : Int) (w : World) : Calls Try.prog 59 #[.int .i64 q] w fun e w' => e = .returned (.bool (seqOk q)) ∧ w' = w := by
  by_cases h1 : 1 ≤ q
  · go_enter Try.func59, Try.ntmps59
    go_wp2
    go_ret
    exact ⟨ret_bool (by simp [seqOk, h1]), rfl⟩
  · go_enter Try.func59, Try.ntmps59
    go_wp2
    go_ret
    exact ⟨ret_bool (by simp [seqOk]; intros; omega), rfl⟩
theorem implRecordRight_any (q : Int) (t : ByteArray) (w : World) : Calls Try.prog 45 #[.agg #[.int .i64 q, .string t]] w fun e w' => e = .returned (.bool (recRight q t)) ∧ Below w.heap.size w w' := by
  have B0 := hide ((Below.refl w.heap.size w).alloc (Nat.le_refl _) (.cells #[.int .i64 q, .string t] 34))
  have X0 := hide (heap_alloc_new w (.cells #[.int .i64 q, .string t] 34))
  obtain ⟨x0, x1, xf⟩ := cells2 X0.out
  have HS := hide (seqRight_any q)
  have HR : Hid (recRight q t = (seqOk q && decide (t.size ≤ 6000))) := rfl
  cases hs : seqOk q with
  | false =>
    rw [hs] at HS HR
    go_enter Try.func45, Try.ntmps45
    go_wp2_with (go_at_call 56; refine (HS.out _).mono ?_; rintro e w1 ⟨rfl, rfl⟩)
    go_ret
    exact ⟨ret_bool (by rw [HR.out]; rfl), B0.out⟩
  | true =>
    rw [hs] at HS HR
    go_enter Try.func45, Try.ntmps45
    go_wp2_with (go_at_call 56; refine (HS.out _).mono ?_; rintro e w1 ⟨rfl, rfl⟩)
    go_ret
    exact ⟨ret_bool (by rw [HR.out]; simp; omega), B0.out⟩
theorem specRecordRight_any (q : Int) (t : ByteArray) (w : World) : Calls Try.prog 43 #[.agg #[.int .i64 q, .string t]] w fun e w' => e = .returned (.bool (recRight q t)) ∧ Below w.heap.size w w' := by
  have B0 := hide ((Below.refl w.heap.size w).alloc (Nat.le_refl _) (.cells #[.int .i64 q, .string t] 34))
  have X0 := hide (heap_alloc_new w (.cells #[.int .i64 q, .string t] 34))
  obtain ⟨x0, x1, xf⟩ := cells2 X0.out
  have HS := hide (l08Seq_any q)
  have HR : Hid (recRight q t = (seqOk q && decide (t.size ≤ 6000))) := rfl
  cases hs : seqOk q with
  | false =>
    rw [hs] at HS HR
    go_enter Try.func43, Try.ntmps43
    go_wp2_with (go_at_call 59; refine (HS.out _).mono ?_; rintro e w1 ⟨rfl, rfl⟩)
    go_ret
    exact ⟨ret_bool (by rw [HR.out]; rfl), B0.out⟩
  | true =>
    rw [hs] at HS HR
    go_enter Try.func43, Try.ntmps43
    go_wp2_with (go_at_call 59; refine (HS.out _).mono ?_; rintro e w1 ⟨rfl, rfl⟩)
    go_ret
    exact ⟨ret_bool (by rw [HR.out]; simp; omega), B0.out⟩
end Go.Proofs.Ytfhfhpnoeghgmaa

/-
  Contracts: the bytes of a record, of both.
-/
namespace Go.Proofs.Ytfhfhpnoeghgmaa
open Go.RowKit
set_option maxRecDepth 100000


set_option maxHeartbeats 1000000 in
theorem specRecordBytes_any (q : Int) (t : ByteArray) (w : World) (hq : -9223372036854775808 ≤ q ∧ q ≤ 9223372036854775807) : Calls Try.prog 19 #[.agg #[.int .i64 q, .string t]] w fun e w' => e = .returned (.string (recBytes q t)) ∧ Below w.heap.size w w' := by
  have B0 := hide ((Below.refl w.heap.size w).alloc (Nat.le_refl _) (.cells #[.int .i64 q, .string t] 34))
  have X0 := hide (heap_alloc_new w (.cells #[.int .i64 q, .string t] 34))
  obtain ⟨x0, x1, xf⟩ := cells2 X0.out
  have HR := hide (specRecordRight_any q t)
  cases hr : recRight q t with
  | false =>
    rw [hr] at HR
    rw [recBytes_no hr]
    go_enter Try.func19, Try.ntmps19
    go_wp2_with (go_at_call 43; refine (HR.out _).mono ?_; rintro e w1 ⟨rfl, b1⟩; have B1 := hide (B0.out.trans (b1.mono B0.out.size)); clear b1)
    go_ret
    exact ⟨rfl, B1.out⟩
  | true =>
    rw [hr] at HR
    rw [recBytes_yes hr]
    have HE : Hid (recS q t = sealS (mkS (recL q t))) := rfl
    have HL : Hid (mkS (recL q t) = (⟨#[76]⟩ : ByteArray) ++ numS q ++ putT t) := rfl
    have HN := hide (fun W => specPutNum_any q hq.1 hq.2 W)
    have HP := hide (fun W => specPutText_any t W)
    have HS := hide (fun s W => specSeal_any s W)
    rw [show strOfNums (putL 9 (foldN q)) = numS q from rfl] at HN
    have hA := numS_len q
    have hB := putT_len t ((recRight_iff q t).1 hr).2
    generalize numS q = A at *
    generalize putT t = B at *
    have hD1 : ¬ 9223372036854775807 < 1 + A.size := by omega
    have hD2 : ¬ 9223372036854775807 < 1 + A.size + B.size := by omega
    clear hr
    go_enter Try.func19, Try.ntmps19
    go_wp2_with (go_at_call 43; refine (HR.out _).mono ?_; rintro e w1 ⟨rfl, b1⟩; have B1 := hide (B0.out.trans (b1.mono B0.out.size)); have X1 := hide ((b1.block w.heap.size (by simp)).trans X0.out); clear b1 x0 x1 xf; obtain ⟨x0, x1, xf⟩ := cells2 X1.out)
    go_region_held3 (fun W => W.cell? ⟨w.heap.size, 0, none⟩ = some (.int .i64 q) ∧ W.cell? ⟨w.heap.size, 1, none⟩ = some (.string t)) (go_keep) (first
      | (go_at_call 65; refine (HN.out _).mono ?_; rintro e w2 ⟨rfl, b2⟩; have X2 : Hid (w2.heap[w.heap.size]? = some (.cells #[.int .i64 q, .string t] 34 (0, 0))) := (b2.block w.heap.size (blkR X1.out)).trans X1.out; have B2 : Hid (Below w.heap.size w w2) := B1.out.drew.trans (b2.mono B1.out.size); have y2 := cells2 X2.out; have x02 := y2.1; have x12 := y2.2.1; clear y2 b2)
      | (go_at_call 66; refine (HP.out _).mono ?_; rintro e w3 ⟨rfl, b3⟩; have X3 : Hid (w3.heap[w.heap.size]? = some (.cells #[.int .i64 q, .string t] 34 (0, 0))) := (b3.block w.heap.size (blkR X2.out)).trans X2.out; have B3 : Hid (Below w.heap.size w w3) := B2.out.trans (b3.mono B2.out.size); have y3 := cells2 X3.out; have x03 := y3.1; have x13 := y3.2.1; clear y3 b3)
      | (go_at_call 64; refine (HS.out _ _).mono ?_; rintro e w4 ⟨rfl, b4⟩; have X4 : Hid (w4.heap[w.heap.size]? = some (.cells #[.int .i64 q, .string t] 34 (0, 0))) := (b4.block w.heap.size (blkR X3.out)).trans X3.out; have B4 : Hid (Below w.heap.size w w4) := B3.out.trans (b4.mono B3.out.size); have y4 := cells2 X4.out; have x04 := y4.1; have x14 := y4.2.1; clear y4 b4))
    all_goals
      go_wp2
      go_ret
      exact ⟨ret_str (by rw [HE.out, HL.out]), B4.out⟩
theorem cellsT (w : World) (t : TypeId) (a b c : Value) : (w.alloc (.cells #[a, b, c] t)).cell? ⟨w.heap.size, 0, none⟩ = some a ∧ (w.alloc (.cells #[a, b, c] t)).cell? ⟨w.heap.size, 1, none⟩ = some b ∧ (w.alloc (.cells #[a, b, c] t)).cell? ⟨w.heap.size, 2, none⟩ = some c := by
  have h := heap_alloc_new w (.cells #[a, b, c] t)
  refine ⟨?_, ?_, ?_⟩ <;> rw [cell_of_row _ _ _ _ _ _ h] <;> rfl
theorem join3 (s t u : ByteArray) (pb cap : Nat) (w : World) (hb : s.size + t.size + u.size ≤ 1000000000) (h0 : w.cell? ⟨pb, 0, none⟩ = some (.string s)) (h1 : w.cell? ⟨pb, 1, none⟩ = some (.string t)) (h2 : w.cell? ⟨pb, 2, none⟩ = some (.string u)) :
    Calls Try.prog 92 #[.slice (some ⟨pb, 0, none⟩) 3 cap] w fun e w' => e = .returned (.string (mkS (s.data.toList ++ (t.data.toList ++ u.data.toList)))) ∧ Below w.heap.size w w' := by
  have h := join_any [s, t, u] pb 0 cap w (by simp only [catL, List.map_cons, List.map_nil, List.flatten_cons, List.flatten_nil, List.append_nil, List.length_append, len_data]; omega) (by simp) (fun j hj => by
    match j, hj with
    | 0, _ => simpa using h0
    | 1, _ => simpa using h1
    | 2, _ => simpa using h2)
  simpa [catL] using h
set_option maxHeartbeats 1000000 in
theorem implRecordBytes_any (q : Int) (t : ByteArray) (w : World) (hq : -9223372036854775808 ≤ q ∧ q ≤ 9223372036854775807) : Calls Try.prog 46 #[.agg #[.int .i64 q, .string t]] w fun e w' => e = .returned (.string (recBytes q t)) ∧ Below w.heap.size w w' := by
  have B0 := hide ((Below.refl w.heap.size w).alloc (Nat.le_refl _) (.cells #[.int .i64 q, .string t] 34))
  have X0 := hide (heap_alloc_new w (.cells #[.int .i64 q, .string t] 34))
  obtain ⟨x0, x1, xf⟩ := cells2 X0.out
  have HR := hide (implRecordRight_any q t)
  cases hr : recRight q t with
  | false =>
    rw [hr] at HR
    rw [recBytes_no hr]
    go_enter Try.func46, Try.ntmps46
    go_wp2_with (go_at_call 45; refine (HR.out _).mono ?_; rintro e w1 ⟨rfl, b1⟩; have B1 := hide (B0.out.trans (b1.mono B0.out.size)); clear b1)
    go_ret
    exact ⟨rfl, B1.out⟩
  | true =>
    rw [hr] at HR
    rw [recBytes_yes hr]
    have HE : Hid (recS q t = sealS (mkS (recL q t))) := rfl
    have HL : Hid (recL q t = (⟨#[76]⟩ : ByteArray).data.toList ++ ((numS q).data.toList ++ (putT t).data.toList)) := rfl
    have HN := hide (fun W => implPutNum_any q hq.1 hq.2 W)
    have HP := hide (fun W => implPutText_any t W)
    have HS := hide (fun s W => implSeal_any s W)
    rw [show strOfNums (putL 9 (foldN q)) = numS q from rfl] at HN
    have hA := numS_len q
    have hB := putT_len t ((recRight_iff q t).1 hr).2
    generalize numS q = A at *
    generalize putT t = B at *
    have HJ := hide (fun (pb cap : Nat) (W : World) => join3 ⟨#[76]⟩ A B pb cap W (by show 1 + _ + _ ≤ _; omega))
    clear hr
    go_enter Try.func46, Try.ntmps46
    go_wp2_with (go_at_call 45; refine (HR.out _).mono ?_; rintro e w1 ⟨rfl, b1⟩; have B1 := hide (B0.out.trans (b1.mono B0.out.size)); have X1 := hide ((b1.block w.heap.size (by simp)).trans X0.out); clear b1 x0 x1 xf; obtain ⟨x0, x1, xf⟩ := cells2 X1.out)
    go_region_held3 (fun W => W.cell? ⟨w.heap.size, 0, none⟩ = some (.int .i64 q) ∧ W.cell? ⟨w.heap.size, 1, none⟩ = some (.string t)) (go_keep) (first
      | (go_at_call 93; refine (HN.out _).mono ?_; rintro e w2 ⟨rfl, b2⟩; have X2 : Hid (w2.heap[w.heap.size]? = some (.cells #[.int .i64 q, .string t] 34 (0, 0))) := (b2.block w.heap.size (blkR X1.out)).trans X1.out; have B2 : Hid (Below w.heap.size w w2) := B1.out.drew.trans (b2.mono B1.out.size); have y2 := cells2 X2.out; have x02 := y2.1; have x12 := y2.2.1; clear y2 b2)
      | (go_at_call 94; refine (HP.out _).mono ?_; rintro e w3 ⟨rfl, b3⟩; have X3 : Hid (w3.heap[w.heap.size]? = some (.cells #[.int .i64 q, .string t] 34 (0, 0))) := (b3.block w.heap.size (blkR X2.out)).trans X2.out; have B3 : Hid (Below w.heap.size w w3) := B2.out.trans (b3.mono B2.out.size); have y3 := cells2 X3.out; have x03 := y3.1; have x13 := y3.2.1; have hn3 := Nat.ne_of_lt (blkR X3.out); clear y3 b3)
      | (go_at_call 92; have z3 := cellsT w3 9 (.string ⟨#[76]⟩) (.string A) (.string B); refine (HJ.out _ _ _ z3.1 z3.2.1 z3.2.2).mono ?_; rintro e w5 ⟨rfl, b5⟩; have X5 : Hid (w5.heap[w.heap.size]? = some (.cells #[.int .i64 q, .string t] 34 (0, 0))) := (b5.block w.heap.size (by have := blkR X3.out; rw [World.size_alloc]; omega)).trans ((heap_old w3 _ _ (blkR X3.out)).trans X3.out); have B5 : Hid (Below w.heap.size w w5) := (B3.out.alloc B3.out.size _).trans (b5.mono (by have := B3.out.size; rw [World.size_alloc]; omega)); have y5 := cells2 X5.out; have x05 := y5.1; have x15 := y5.2.1; clear y5 b5)
      | (go_at_call 91; refine (HS.out _ _).mono ?_; rintro e w4 ⟨rfl, b4⟩; have X4 : Hid (w4.heap[w.heap.size]? = some (.cells #[.int .i64 q, .string t] 34 (0, 0))) := (b4.block w.heap.size (blkR X5.out)).trans X5.out; have B4 : Hid (Below w.heap.size w w4) := B5.out.trans (b4.mono B5.out.size); have y4 := cells2 X4.out; have x04 := y4.1; have x14 := y4.2.1; clear y4 b4))
    all_goals
      go_wp2
      go_ret
      exact ⟨ret_str (by rw [HE.out, HL.out]; rfl), B4.out⟩
end Go.Proofs.Ytfhfhpnoeghgmaa

/-
  Rows of cells that a call has made, or that can be read. Plain laws.
-/
namespace Go.Proofs.Ytfhfhpnoeghgmaa
open Go.RowKit

/-- Cells that can be read one behind the other, below block B. -/
def CellRow (w : World) (B : Nat) (ao : Option Addr) (xs : List Value) : Prop :=
  xs.length = 0 ∨ ∃ b off, ao = some ⟨b, off, none⟩ ∧ b < B ∧ ∀ i (h : i < xs.length), w.cell? ⟨b, off + i, none⟩ = some xs[i]
theorem CellRow.kept {w w' : World} {B : Nat} {ao : Option Addr} {xs : List Value} (h : CellRow w B ao xs) (hb : Below B w w') : CellRow w' B ao xs := by
  rcases h with h0 | ⟨b, off, e, hB, hc⟩
  · exact .inl h0
  · exact .inr ⟨b, off, e, hB, fun i hi => (hb.cell (p := ⟨b, off + i, none⟩) hB).trans (hc i hi)⟩
theorem CellRow.mono {w : World} {B C : Nat} {ao : Option Addr} {xs : List Value} (h : CellRow w B ao xs) (hc : B ≤ C) : CellRow w C ao xs := by
  rcases h with h0 | ⟨b, off, e, hB, hc'⟩
  · exact .inl h0
  · exact .inr ⟨b, off, e, by omega, hc'⟩
theorem CellRow.at {w : World} {B : Nat} {ao : Option Addr} {xs : List Value} (h : CellRow w B ao xs) (k : Nat) (hk : k < xs.length) : ∃ b off, ao = some ⟨b, off, none⟩ ∧ b < B ∧ w.cell? ⟨b, off + k, none⟩ = some xs[k] := by
  rcases h with h0 | ⟨b, off, e, hB, hc⟩
  · omega
  · exact ⟨b, off, e, hB, hc k hk⟩
theorem cellRow_of_owns {w : World} {base n : Nat} {t : TypeId} {v : Value} {xs : List Value} (h : w.ownsRow base t 1 v n xs) : ∃ ao cap, v = .slice ao xs.length cap ∧ CellRow w w.heap.size ao xs := by
  have hx : xs.length = n := by simpa using h.1
  rcases h.2 with ⟨rfl, rfl⟩ | ⟨g, cap, cur, rfl, hb, hg, hn, hm, hs, ht⟩
  · obtain rfl : xs = [] := List.eq_nil_of_length_eq_zero hx
    exact ⟨none, 0, rfl, .inl rfl⟩
  · refine ⟨some ⟨g, 0, none⟩, cap, by rw [hx], .inr ⟨g, 0, rfl, (Array.getElem?_eq_some_iff.1 hg).1, fun i hi => ?_⟩⟩
    have hc := World.ownsRow.cellAt h i (by omega)
    rw [Nat.zero_add, hc, List.getElem?_eq_getElem hi]

theorem owns_below {w w' : World} {base n size : Nat} {t : TypeId} {v : Value} {xs : List Value} (h : w.ownsRow base t size v n xs) (hb : Below w.heap.size w w') : w'.ownsRow base t size v n xs := by
  refine ⟨h.1, ?_⟩
  rcases h.2 with h0 | ⟨g, cap, cur, rfl, hB, hg, hn, hm, hs, ht⟩
  · exact .inl h0
  · exact .inr ⟨g, cap, cur, rfl, hB, (hb.block _ (Array.getElem?_eq_some_iff.1 hg).1).trans hg, hn, hm, hs, ht⟩
theorem below_alloc {w w' : World} {o : Obj} (h : Below (w.alloc o).heap.size (w.alloc o) w') : Below w.heap.size w w' :=
  ((Below.refl _ _).alloc (Nat.le_refl _) o).trans (h.mono (by simp))
end Go.Proofs.Ytfhfhpnoeghgmaa

/-
  A slice of bytes that the call has made.
-/
namespace Go.Proofs.Ytfhfhpnoeghgmaa
open Go.RowKit

def numsU (l : List UInt8) : List Int := l.map fun b => (b.toNat : Int)
theorem numsU_append (a b : List UInt8) : numsU (a ++ b) = numsU a ++ numsU b := by simp [numsU]
theorem numsU_len (l : List UInt8) : (numsU l).length = l.length := by simp [numsU]
/-- A slice of bytes that the call has made. -/
def OwnB (base : Nat) (v : Value) (l : List UInt8) (w : World) : Prop := w.ownsRow base 5 1 v l.length ((numsU l).map (Value.int .u8))
theorem OwnB.below {base : Nat} {v : Value} {l : List UInt8} {w w' : World} (h : OwnB base v l w) (hb : Below w.heap.size w w') : OwnB base v l w' := owns_below h hb
theorem ownB_of {base : Nat} {v : Value} {l : List UInt8} {w : World} {n : Nat} {xs : List Value} (h : w.ownsRow base 5 1 v n xs) (hn : n = l.length) (hx : xs = (numsU l).map (Value.int .u8)) : OwnB base v l w := by subst hn hx; exact h
theorem OwnB.conv {base : Nat} {v : Value} {l : List UInt8} {w : World} (h : OwnB base v l w) : (convert 22 9 v).run Try.prog w = .ok (.string (mkS l)) w := by
  have := convOwn h
  rwa [numsU, strOfNums_bytes] at this
theorem own_snoc {base : Nat} {v : Value} {l : List UInt8} {w : World} {x : Int} (c : UInt8) (h : w.ownsRow base 5 1 v (l.length + 1) ((numsU l).map (Value.int .u8) ++ [.int .u8 x])) (hx : x = (c.toNat : Int)) : OwnB base v (l ++ [c]) w := by
  subst hx
  exact ownB_of h (by simp) (by rw [numsU_append, List.map_append]; rfl)
theorem own_snoc2 {base : Nat} {v : Value} {l : List UInt8} {w : World} {x y : Int} (c d : UInt8) (h : w.ownsRow base 5 1 v (l.length + 2) ((numsU l).map (Value.int .u8) ++ [.int .u8 x, .int .u8 y])) (hx : x = (c.toNat : Int)) (hy : y = (d.toNat : Int)) : OwnB base v (l ++ [c, d]) w := by
  subst hx hy
  exact ownB_of h (by simp) (by rw [numsU_append, List.map_append]; rfl)
theorem cell_two_new (w : World) (x y : Value) (t : TypeId) : ∀ j u, [x, y][j]? = some u → (w.alloc (.cells #[x, y] t)).cell? ((⟨w.heap.size, 0, none⟩ : Addr).add j) = some u := by
  intro j u hj
  have hadd : (⟨w.heap.size, 0, none⟩ : Addr).add j = ⟨w.heap.size, j, none⟩ := by unfold Addr.add; split <;> simp_all
  rw [hadd, cell_of_row _ _ _ _ _ _ (heap_alloc_new w _)]
  simpa using hj
theorem one1 (k : IntKind) (x : Int) : ∀ u ∈ [Value.int k x], u.oneCell' = true := fun u hu => by simp at hu; subst hu; rfl
theorem one2 (k : IntKind) (x y : Int) : ∀ u ∈ [Value.int k x, Value.int k y], u.oneCell' = true := fun u hu => by
  simp at hu
  rcases hu with rfl | rfl <;> rfl
theorem size_alloc_le {B : Nat} {w : World} (o : Obj) (h : B ≤ w.heap.size) : B ≤ (w.alloc o).heap.size := by simp; omega
end Go.Proofs.Ytfhfhpnoeghgmaa
