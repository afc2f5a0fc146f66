/-
  Plain facts on numbers and lists: the CRC bit by bit.
-/
import Derived.WalkKit
import Derived.Laws.BitsAllLaws
namespace Go.Proofs.YtkhklfnhninkjaaGreat
open Go.RowKit

def crcBit (r : Nat) : Nat := if r % 2 = 1 then (r / 2) ^^^ 3988292384 else r / 2
def crcBits : Nat → Nat → Nat
  | 0, r => r
  | k + 1, r => crcBit (crcBits k r)
def crcByte (r : Nat) : Nat := crcBits 8 r
def crcL (r : Nat) (l : List UInt8) : Nat := l.foldl (fun r b => crcByte (r ^^^ b.toNat)) r

theorem crcBit_lt {r : Nat} (h : r < 4294967296) : crcBit r < 4294967296 := by
  unfold crcBit
  split
  · exact Nat.xor_lt_two_pow (n := 32) (by omega) (by omega)
  · omega
theorem crcBits_lt {r : Nat} (h : r < 4294967296) : ∀ k, crcBits k r < 4294967296
  | 0 => h
  | k + 1 => crcBit_lt (crcBits_lt h k)
theorem crcBits_succ (k r : Nat) : crcBits (k + 1) r = crcBit (crcBits k r) := rfl
theorem crcBits_odd {k r : Nat} (h : crcBits k r % 2 = 1) : crcBits (k + 1) r = (crcBits k r / 2) ^^^ 3988292384 := by
  rw [crcBits_succ, crcBit, if_pos h]
theorem crcBits_even {k r : Nat} (h : ¬ crcBits k r % 2 = 1) : crcBits (k + 1) r = crcBits k r / 2 := by
  rw [crcBits_succ, crcBit, if_neg h]
theorem crcByte_lt {r : Nat} (h : r < 4294967296) : crcByte r < 4294967296 := crcBits_lt h 8
theorem xor_byte_lt {r : Nat} (h : r < 4294967296) (b : UInt8) : r ^^^ b.toNat < 4294967296 :=
  Nat.xor_lt_two_pow (n := 32) (by omega) (by have := b.toNat_lt; omega)
theorem crcL_lt {r : Nat} (h : r < 4294967296) (l : List UInt8) : crcL r l < 4294967296 := by
  unfold crcL
  induction l generalizing r with
  | nil => exact h
  | cons b l ih => exact ih (crcByte_lt (xor_byte_lt h b))
theorem crcL_snoc (r : Nat) (l : List UInt8) (b : UInt8) : crcL r (l ++ [b]) = crcByte (crcL r l ^^^ b.toNat) := by
  simp [crcL]
theorem len_data (s : ByteArray) : s.data.toList.length = s.size := rfl
theorem take_snoc (s : ByteArray) (k : Nat) (h : k < s.size) : s.data.toList.take (k + 1) = s.data.toList.take k ++ [s[k]] := by
  rw [List.take_succ_eq_append_getElem (by simpa using h)]; rfl
theorem u32_and1 (X : Nat) (h : X < 4294967296) : bits .and .u32 (X : Int) 1 = ((X % 2 : Nat) : Int) := by
  have := u32_and_nat X 1 h (by omega)
  simpa [nat_mask1] using this
theorem u32_xorP (X : Nat) (h : X < 4294967296) : bits .xor .u32 ((X : Int) / 2) 3988292384 = (((X / 2) ^^^ 3988292384 : Nat) : Int) := by
  have := u32_xor_nat (X / 2) 3988292384 (by omega) (by omega)
  simpa using this
theorem u32_xorM (X : Nat) (h : X < 4294967296) : bits .xor .u32 (X : Int) 4294967295 = ((X ^^^ 4294967295 : Nat) : Int) :=
  u32_xor_nat X 4294967295 h (by omega)
theorem u32_notN (X : Nat) (h : X < 4294967296) : bits .xor .u32 IntKind.u32.max (X : Int) = ((X ^^^ 4294967295 : Nat) : Int) := by
  have e : IntKind.u32.max = ((4294967295 : Nat) : Int) := by decide
  rw [e, u32_xor_nat 4294967295 X (by omega) h, Nat.xor_comm]
theorem u32_xorB (X : Nat) (h : X < 4294967296) (b : UInt8) : bits .xor .u32 (X : Int) ((b.toNat : Int) % 4294967296) = ((X ^^^ b.toNat : Nat) : Int) := by
  have hb := b.toNat_lt
  rw [show ((b.toNat : Int) % 4294967296) = (b.toNat : Int) by omega]
  exact u32_xor_nat X b.toNat h (by omega)
theorem xorM (X : Nat) (h : X < 4294967296) : X ^^^ 4294967295 = 4294967295 - X := by
  have e : (BitVec.ofNat 32 X ^^^ BitVec.allOnes 32).toNat = 4294967295 - X := by
    rw [BitVec.xor_allOnes, BitVec.toNat_not, BitVec.toNat_ofNat, Nat.mod_eq_of_lt h]
  rw [BitVec.toNat_xor, BitVec.toNat_allOnes, BitVec.toNat_ofNat, Nat.mod_eq_of_lt h] at e
  exact e
theorem xorM_lt {X : Nat} (h : X < 4294967296) : X ^^^ 4294967295 < 4294967296 := Nat.xor_lt_two_pow (n := 32) (by omega) (by omega)
theorem xorM_xorM {X : Nat} (h : X < 4294967296) : (X ^^^ 4294967295) ^^^ 4294967295 = X := by
  rw [xorM _ (xorM_lt h), xorM _ h]; omega
theorem bcell {W w1 : World} (hb : Below W.heap.size W w1) : (∀ b o, b < W.heap.size → w1.cell? ⟨b, o, none⟩ = W.cell? ⟨b, o, none⟩) ∧ (∀ b o, b < W.heap.size → w1.frozen? ⟨b, o, none⟩ = W.frozen? ⟨b, o, none⟩) :=
  ⟨fun b o h => hb.cell (p := ⟨b, o, none⟩) h, fun b o h => hb.frozen (p := ⟨b, o, none⟩) h⟩
theorem ret_int {k : IntKind} {a b : Int} (h : a = b) : Ending.returned (.int k a) = .returned (.int k b) := by rw [h]
theorem ret_str {a b : ByteArray} (h : a = b) : Ending.returned (.string a) = .returned (.string b) := by rw [h]
theorem ret3n {a b a' b' : Int} {v v' : Value} (h1 : a = a') (h2 : b = b') (h3 : v = v') : Ending.returned (.tuple #[.int .i64 a, .int .i64 b, v]) = .returned (.tuple #[.int .i64 a', .int .i64 b', v']) := by rw [h1, h2, h3]
theorem ret_bool {a b : Bool} (h : a = b) : Ending.returned (.bool a) = .returned (.bool b) := by rw [h]
/-- the CRC that goes on from c over l -/
def crcMoreN (c : Nat) (l : List UInt8) : Nat := crcL (c ^^^ 4294967295) l ^^^ 4294967295
theorem crcMoreN_lt {c : Nat} (h : c < 4294967296) (l : List UInt8) : crcMoreN c l < 4294967296 := xorM_lt (crcL_lt (xorM_lt h) l)
theorem crcMoreN_append {c : Nat} (h : c < 4294967296) (l m : List UInt8) : crcMoreN (crcMoreN c l) m = crcMoreN c (l ++ m) := by
  unfold crcMoreN
  rw [xorM_xorM (crcL_lt (xorM_lt h) l)]
  simp [crcL]
end Go.Proofs.YtkhklfnhninkjaaGreat
