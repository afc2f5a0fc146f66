/-
  Contracts and plain laws, part 1 of 6: FaultV, Plain, Long, Jumps, GetPlain, ReadNum, Out3, OutN, GetDef, Conv, Num, MkS, JoinC, Join, GetText, OutT, GetDefT, Name
-/
import Derived.Test.YtjihkdbloffbmaaRows
import Derived.WalkKit
import Derived.Laws.BitsAllLaws
import Derived.WalkLawsBesides
import Derived.Scope
import Derived.WalkMore
import Derived.Outline
import Derived.Laws.BytesArg
import Derived.Maps.AppendAt
import Derived.OpenShut
import Derived.Lib.BufferWrite
import Derived.Laws.CopyOwn

/-
  A fault as an error.
-/
namespace Go.Proofs.Ytjihkdbloffbmaa
open Go.RowKit

def faultV (c : Int) : Value := .iface 178 (.agg #[.int .i64 c])
end Go.Proofs.Ytjihkdbloffbmaa

/-
  Plain facts on numbers and lists: the CRC bit by bit.
-/
namespace Go.Proofs.Ytjihkdbloffbmaa
open Go.RowKit

def crcBit (r : Nat) : Nat := if r % 2 = 1 then (r / 2) ^^^ 3988292384 else r / 2
def crcBits : Nat → Nat → Nat
  | 0, r => r
  | k + 1, r => crcBit (crcBits k r)
def crcByte (r : Nat) : Nat := crcBits 8 r
def crcL (r : Nat) (l : List UInt8) : Nat := l.foldl (fun r b => crcByte (r ^^^ b.toNat)) r

theorem crcBit_lt {r : Nat} (h : r < 4294967296) : crcBit r < 4294967296 := by
  unfold crcBit
  split
  · exact Nat.xor_lt_two_pow (n := 32) (by omega) (by omega)
  · omega
theorem crcBits_lt {r : Nat} (h : r < 4294967296) : ∀ k, crcBits k r < 4294967296
  | 0 => h
  | k + 1 => crcBit_lt (crcBits_lt h k)
theorem crcBits_succ (k r : Nat) : crcBits (k + 1) r = crcBit (crcBits k r) := rfl
theorem crcBits_odd {k r : Nat} (h : crcBits k r % 2 = 1) : crcBits (k + 1) r = (crcBits k r / 2) ^^^ 3988292384 := by
  rw [crcBits_succ, crcBit, if_pos h]
theorem crcBits_even {k r : Nat} (h : ¬ crcBits k r % 2 = 1) : crcBits (k + 1) r = crcBits k r / 2 := by
  rw [crcBits_succ, crcBit, if_neg h]
theorem crcByte_lt {r : Nat} (h : r < 4294967296) : crcByte r < 4294967296 := crcBits_lt h 8
theorem xor_byte_lt {r : Nat} (h : r < 4294967296) (b : UInt8) : r ^^^ b.toNat < 4294967296 :=
  Nat.xor_lt_two_pow (n := 32) (by omega) (by have := b.toNat_lt; omega)
theorem crcL_lt {r : Nat} (h : r < 4294967296) (l : List UInt8) : crcL r l < 4294967296 := by
  unfold crcL
  induction l generalizing r with
  | nil => exact h
  | cons b l ih => exact ih (crcByte_lt (xor_byte_lt h b))
theorem crcL_snoc (r : Nat) (l : List UInt8) (b : UInt8) : crcL r (l ++ [b]) = crcByte (crcL r l ^^^ b.toNat) := by
  simp [crcL]
theorem len_data (s : ByteArray) : s.data.toList.length = s.size := rfl
theorem take_snoc (s : ByteArray) (k : Nat) (h : k < s.size) : s.data.toList.take (k + 1) = s.data.toList.take k ++ [s[k]] := by
  rw [List.take_succ_eq_append_getElem (by simpa using h)]; rfl
theorem u32_and1 (X : Nat) (h : X < 4294967296) : bits .and .u32 (X : Int) 1 = ((X % 2 : Nat) : Int) := by
  have := u32_and_nat X 1 h (by omega)
  simpa [nat_mask1] using this
theorem u32_xorP (X : Nat) (h : X < 4294967296) : bits .xor .u32 ((X : Int) / 2) 3988292384 = (((X / 2) ^^^ 3988292384 : Nat) : Int) := by
  have := u32_xor_nat (X / 2) 3988292384 (by omega) (by omega)
  simpa using this
theorem u32_xorM (X : Nat) (h : X < 4294967296) : bits .xor .u32 (X : Int) 4294967295 = ((X ^^^ 4294967295 : Nat) : Int) :=
  u32_xor_nat X 4294967295 h (by omega)
theorem u32_notN (X : Nat) (h : X < 4294967296) : bits .xor .u32 IntKind.u32.max (X : Int) = ((X ^^^ 4294967295 : Nat) : Int) := by
  have e : IntKind.u32.max = ((4294967295 : Nat) : Int) := by decide
  rw [e, u32_xor_nat 4294967295 X (by omega) h, Nat.xor_comm]
theorem u32_xorB (X : Nat) (h : X < 4294967296) (b : UInt8) : bits .xor .u32 (X : Int) ((b.toNat : Int) % 4294967296) = ((X ^^^ b.toNat : Nat) : Int) := by
  have hb := b.toNat_lt
  rw [show ((b.toNat : Int) % 4294967296) = (b.toNat : Int) by omega]
  exact u32_xor_nat X b.toNat h (by omega)
theorem xorM (X : Nat) (h : X < 4294967296) : X ^^^ 4294967295 = 4294967295 - X := by
  have e : (BitVec.ofNat 32 X ^^^ BitVec.allOnes 32).toNat = 4294967295 - X := by
    rw [BitVec.xor_allOnes, BitVec.toNat_not, BitVec.toNat_ofNat, Nat.mod_eq_of_lt h]
  rw [BitVec.toNat_xor, BitVec.toNat_allOnes, BitVec.toNat_ofNat, Nat.mod_eq_of_lt h] at e
  exact e
theorem xorM_lt {X : Nat} (h : X < 4294967296) : X ^^^ 4294967295 < 4294967296 := Nat.xor_lt_two_pow (n := 32) (by omega) (by omega)
theorem xorM_xorM {X : Nat} (h : X < 4294967296) : (X ^^^ 4294967295) ^^^ 4294967295 = X := by
  rw [xorM _ (xorM_lt h), xorM _ h]; omega
theorem bcell {W w1 : World} (hb : Below W.heap.size W w1) : (∀ b o, b < W.heap.size → w1.cell? ⟨b, o, none⟩ = W.cell? ⟨b, o, none⟩) ∧ (∀ b o, b < W.heap.size → w1.frozen? ⟨b, o, none⟩ = W.frozen? ⟨b, o, none⟩) :=
  ⟨fun b o h => hb.cell (p := ⟨b, o, none⟩) h, fun b o h => hb.frozen (p := ⟨b, o, none⟩) h⟩
theorem ret_int {k : IntKind} {a b : Int} (h : a = b) : Ending.returned (.int k a) = .returned (.int k b) := by rw [h]
theorem ret_str {a b : ByteArray} (h : a = b) : Ending.returned (.string a) = .returned (.string b) := by rw [h]
theorem ret3n {a b a' b' : Int} {v v' : Value} (h1 : a = a') (h2 : b = b') (h3 : v = v') : Ending.returned (.tuple #[.int .i64 a, .int .i64 b, v]) = .returned (.tuple #[.int .i64 a', .int .i64 b', v']) := by rw [h1, h2, h3]
theorem ret_bool {a b : Bool} (h : a = b) : Ending.returned (.bool a) = .returned (.bool b) := by rw [h]
/-- the CRC that goes on from c over l -/
def crcMoreN (c : Nat) (l : List UInt8) : Nat := crcL (c ^^^ 4294967295) l ^^^ 4294967295
theorem crcMoreN_lt {c : Nat} (h : c < 4294967296) (l : List UInt8) : crcMoreN c l < 4294967296 := xorM_lt (crcL_lt (xorM_lt h) l)
theorem crcMoreN_append {c : Nat} (h : c < 4294967296) (l m : List UInt8) : crcMoreN (crcMoreN c l) m = crcMoreN c (l ++ m) := by
  unfold crcMoreN
  rw [xorM_xorM (crcL_lt (xorM_lt h) l)]
  simp [crcL]
end Go.Proofs.Ytjihkdbloffbmaa

/-
  Contracts: the look at a text's length.
-/
namespace Go.Proofs.Ytjihkdbloffbmaa
open Go.RowKit

theorem tooLong_no (s : ByteArray) (hs : s.size ≤ 20000) (w : World) :
    Calls Try.prog 54 #[.string s] w fun e w' => e = .returned (.bool false) ∧ w' = w := by
  have h1 : ¬ 20000 < (s.size : Int) := by omega
  go_enter Try.func54, Try.ntmps54
  go_wp2
  go_ret
  exact ⟨ret_bool (by simp), rfl⟩
theorem tooLong_yes (s : ByteArray) (hs : 20000 < s.size) (w : World) :
    Calls Try.prog 54 #[.string s] w fun e w' => e = .returned (.bool true) ∧ w' = w := by
  have h1 : 20000 < (s.size : Int) := by omega
  go_enter Try.func54, Try.ntmps54
  go_wp2
  go_ret
  exact ⟨ret_bool (by simp), rfl⟩
end Go.Proofs.Ytjihkdbloffbmaa

/-
  A scope with three labels: 0 is jumped back to (a measure falls), 2 and 1 are jumped on to. Plain laws of the walk, no program.
-/
namespace Go.Proofs.Ytjihkdbloffbmaa
open Go

def jumpAll (J : Nat → Act → World → Prop) (Q : Exit → Act → World → Prop) : Exit → Act → World → Prop
  | .goto l, a, w => J l a w
  | e, a, w => Q e a w
theorem wp_scope_all {P : Program} {a : Act} {w : World} {Q : Exit → Act → World → Prop} {c : Code} (rest : Nat → Code) (J : Nat → Act → World → Prop) (μ : Nat → Act → World → Nat)
    (hf : ∀ l a w, J l a w → findLabel c l = some (rest l)) (first : c.wp P (jumpAll J Q) a w)
    (pass : ∀ l a w, J l a w → (rest l).wp P (jumpAll (fun l' a' w' => J l' a' w' ∧ μ l' a' w' < μ l a w) Q) a w) : (Code.scope c).wp P Q a w := by
  intro b k cs
  have key : ∀ n l a w, μ l a w = n → J l a w → ∃ e a' w', Q e a' w' ∧ Arrives P (lone (b.at a (.code (rest l) :: .inScope c :: k)) cs w) b k cs e a' w' := by
    intro n
    induction n using Nat.strongRecOn with
    | _ n ih =>
      intro l a w hn hJ
      obtain ⟨e, a₁, w₁, hq, harr⟩ := pass l a w hJ b (.inScope c :: k) cs
      cases e with
      | normal => exact ⟨.normal, a₁, w₁, hq, Steps.trans harr (.one step_inScope)⟩
      | exit id => exact ⟨.exit id, a₁, w₁, hq, fun k' hk => harr k' (by simp [exitTo, hk])⟩
      | goto l' =>
        obtain ⟨hJ', hlt⟩ := hq
        have hg : gotoIn l' (.inScope c :: k) = some (.code (rest l') :: .inScope c :: k) := by simp [gotoIn, hf l' a₁ w₁ hJ']
        obtain ⟨e₂, a₂, w₂, hq₂, harr₂⟩ := ih _ (by omega) l' a₁ w₁ rfl hJ'
        exact ⟨e₂, a₂, w₂, hq₂, .of_steps (harr _ hg) harr₂⟩
      | ret => exact ⟨_, a₁, w₁, hq, harr⟩
      | panic ch => exact ⟨_, a₁, w₁, hq, harr⟩
      | outgrown => exact ⟨_, a₁, w₁, hq, harr⟩
  obtain ⟨e, a₁, w₁, hq, harr⟩ := first b (.inScope c :: k) cs
  cases e with
  | normal => exact ⟨.normal, a₁, w₁, hq, .head step_scope (Steps.trans harr (.one step_inScope))⟩
  | exit id => exact ⟨.exit id, a₁, w₁, hq, fun k' hk => .head step_scope (harr k' (by simp [exitTo, hk]))⟩
  | goto l' =>
    have hg : gotoIn l' (.inScope c :: k) = some (.code (rest l') :: .inScope c :: k) := by simp [gotoIn, hf l' a₁ w₁ hq]
    obtain ⟨e₂, a₂, w₂, hq₂, harr₂⟩ := key _ l' a₁ w₁ rfl hq
    exact ⟨e₂, a₂, w₂, hq₂, .of_steps (.head step_scope (harr _ hg)) harr₂⟩
  | ret => exact ⟨_, a₁, w₁, hq, .of_steps (.one step_scope) harr⟩
  | panic ch => exact ⟨_, a₁, w₁, hq, .of_steps (.one step_scope) harr⟩
  | outgrown => exact ⟨_, a₁, w₁, hq, .of_steps (.one step_scope) harr⟩

def jump3 (J0 J1 J2 : Act → World → Prop) (Q : Exit → Act → World → Prop) : Exit → Act → World → Prop
  | .goto 0, a, w => J0 a w
  | .goto 1, a, w => J1 a w
  | .goto 2, a, w => J2 a w
  | .goto _, _, _ => False
  | e, a, w => Q e a w
theorem jump3_0 {J0 J1 J2 Q a w} : jump3 J0 J1 J2 Q (.goto 0) a w = J0 a w := rfl
theorem jump3_1 {J0 J1 J2 Q a w} : jump3 J0 J1 J2 Q (.goto 1) a w = J1 a w := rfl
theorem jump3_2 {J0 J1 J2 Q a w} : jump3 J0 J1 J2 Q (.goto 2) a w = J2 a w := rfl
theorem jump3_ret {J0 J1 J2 Q a w} : jump3 J0 J1 J2 Q .ret a w = Q .ret a w := rfl

theorem wp_scope_three {P : Program} {a : Act} {w : World} {Q : Exit → Act → World → Prop} {c r0 r1 r2 : Code} (J0 J1 J2 : Act → World → Prop) (m : Act → World → Nat)
    (h0 : findLabel c 0 = some r0) (h1 : findLabel c 1 = some r1) (h2 : findLabel c 2 = some r2) (first : c.wp P (jump3 J0 J1 J2 Q) a w)
    (pass0 : ∀ a w, J0 a w → r0.wp P (jump3 (fun a' w' => J0 a' w' ∧ m a' w' < m a w) J1 J2 Q) a w)
    (pass2 : ∀ a w, J2 a w → r2.wp P (jump3 (fun _ _ => False) J1 (fun _ _ => False) Q) a w)
    (pass1 : ∀ a w, J1 a w → r1.wp P (jump3 (fun _ _ => False) (fun _ _ => False) (fun _ _ => False) Q) a w) : (Code.scope c).wp P Q a w := by
  refine wp_scope_all (fun l => if l = 0 then r0 else if l = 1 then r1 else r2) (fun l a w => (l = 0 ∧ J0 a w) ∨ (l = 1 ∧ J1 a w) ∨ (l = 2 ∧ J2 a w)) (fun l a w => if l = 0 then m a w + 2 else if l = 2 then 1 else 0) ?_ ?_ ?_
  · rintro l a w (⟨rfl, _⟩ | ⟨rfl, _⟩ | ⟨rfl, _⟩)
    · simpa using h0
    · simpa using h1
    · simpa using h2
  · refine Code.wp_mono ?_ first
    intro e a w h
    cases e with
    | goto l =>
      match l, h with
      | 0, h => exact .inl ⟨rfl, h⟩
      | 1, h => exact .inr (.inl ⟨rfl, h⟩)
      | 2, h => exact .inr (.inr ⟨rfl, h⟩)
    | _ => exact h
  · rintro l a w (⟨rfl, hJ⟩ | ⟨rfl, hJ⟩ | ⟨rfl, hJ⟩)
    · refine Code.wp_mono ?_ (pass0 a w hJ)
      intro e a' w' h
      cases e with
      | goto l =>
        match l, h with
        | 0, h => exact ⟨.inl ⟨rfl, h.1⟩, by simpa using h.2⟩
        | 1, h => exact ⟨.inr (.inl ⟨rfl, h⟩), by simp⟩
        | 2, h => exact ⟨.inr (.inr ⟨rfl, h⟩), by simp⟩
      | _ => exact h
    · refine Code.wp_mono ?_ (pass1 a w hJ)
      intro e a' w' h
      cases e with
      | goto l =>
        match l, h with
        | 0, h => exact h.elim
        | 1, h => exact h.elim
        | 2, h => exact h.elim
      | _ => exact h
    · refine Code.wp_mono ?_ (pass2 a w hJ)
      intro e a' w' h
      cases e with
      | goto l =>
        match l, h with
        | 0, h => exact h.elim
        | 1, h => exact ⟨.inr (.inl ⟨rfl, h⟩), by simp⟩
        | 2, h => exact h.elim
      | _ => exact h
end Go.Proofs.Ytjihkdbloffbmaa

/-
  Plain facts: a number read from its bytes.
-/
namespace Go.Proofs.Ytjihkdbloffbmaa
open Go.RowKit

def unz (u : Nat) : Int := if u % 2 = 1 then -((u / 2 : Nat) : Int) - 1 else ((u / 2 : Nat) : Int)
/-- The number, how many bytes it has, the code. -/
def rd (k u : Nat) : List UInt8 → Int × Nat × Nat
  | [] => (0, 0, 4)
  | b :: l =>
    if k = 9 ∧ 1 < b.toNat then (0, 0, 3)
    else if b.toNat < 128 then (if b.toNat = 0 ∧ 0 < k then (0, 0, 3) else (unz (u + b.toNat % 128 * 2 ^ (7 * k)), k + 1, 0))
    else rd (k + 1) (u + b.toNat % 128 * 2 ^ (7 * k)) l
def rdAt (l : List UInt8) (at' : Nat) : Int × Nat × Nat := rd 0 0 (l.drop at')
theorem drop_cons (s : ByteArray) (k : Nat) (h : k < s.size) : s.data.toList.drop k = s[k] :: s.data.toList.drop (k + 1) := by
  rw [List.drop_eq_getElem_cons (by simpa using h)]; rfl
theorem drop_none (s : ByteArray) (k : Nat) (h : s.size ≤ k) : s.data.toList.drop k = [] := List.drop_eq_nil_of_le (by simpa using h)
theorem rd_short (k u : Nat) : rd k u [] = (0, 0, 4) := rfl
theorem rd_big {k u : Nat} {b : UInt8} {l : List UInt8} (h : k = 9) (hb : 1 < b.toNat) : rd k u (b :: l) = (0, 0, 3) := by simp [rd, h, hb]
theorem rd_nought {k u : Nat} {b : UInt8} {l : List UInt8} (h : 0 < k) (hb : b.toNat = 0) : rd k u (b :: l) = (0, 0, 3) := by simp [rd, h, hb]
theorem rd_last {k u : Nat} {b : UInt8} {l : List UInt8} (h : ¬ (k = 9 ∧ 1 < b.toNat)) (hb : b.toNat < 128) (hz : ¬ (b.toNat = 0 ∧ 0 < k)) : rd k u (b :: l) = (unz (u + b.toNat % 128 * 2 ^ (7 * k)), k + 1, 0) := by
  simp only [rd, if_neg h, if_pos hb, if_neg hz]
theorem rd_more {k u : Nat} {b : UInt8} {l : List UInt8} (h : ¬ k = 9) (hb : ¬ b.toNat < 128) : rd k u (b :: l) = rd (k + 1) (u + b.toNat % 128 * 2 ^ (7 * k)) l := by
  have h' : ¬ (k = 9 ∧ 1 < b.toNat) := fun e => h e.1
  rw [rd, if_neg h', if_neg hb]
theorem u8_and127 (b : Nat) (h : b < 256) : bits .and .u8 (b : Int) 127 = ((b % 128 : Nat) : Int) := by
  have := u8_and_nat b 127 h (by omega)
  simpa [nat_mask7] using this
theorem next_lt {k u b : Nat} (hu : u < 2 ^ (7 * k)) : u + b % 128 * 2 ^ (7 * k) < 2 ^ (7 * (k + 1)) := by
  have e : 2 ^ (7 * (k + 1)) = 128 * 2 ^ (7 * k) := by rw [Nat.mul_add, Nat.pow_add, Nat.mul_comm]
  rw [e]
  have : b % 128 < 128 := Nat.mod_lt _ (by omega)
  have h2 : b % 128 * 2 ^ (7 * k) ≤ 127 * 2 ^ (7 * k) := Nat.mul_le_mul_right _ (by omega)
  omega
theorem pow_le {k : Nat} (h : k ≤ 9) : 2 ^ (7 * k) ≤ 9223372036854775808 := Nat.pow_le_pow_right (n := 2) (by omega) (show 7 * k ≤ 63 by omega)
theorem or_join {k u b : Nat} (hu : u < 2 ^ (7 * k)) : u ||| b * 2 ^ (7 * k) = u + b * 2 ^ (7 * k) := by
  rw [Nat.or_comm, nat_join (7 * k) (b * 2 ^ (7 * k)) u (by simp) hu, Nat.add_comm]
/-- The product fits: at the tenth byte it is 0 or 1. -/
theorem prod_lt {k b : Nat} (hk : k ≤ 9) (h : ¬ (k = 9 ∧ 1 < b)) : b % 128 * 2 ^ (7 * k) < 18446744073709551616 := by
  by_cases h9 : k = 9
  · subst h9
    have : b ≤ 1 := by
      rcases Nat.lt_or_ge 1 b with h1 | h1
      · exact absurd ⟨rfl, h1⟩ h
      · exact h1
    have : b % 128 ≤ 1 := by omega
    have : b % 128 * 2 ^ (7 * 9) ≤ 1 * 2 ^ (7 * 9) := Nat.mul_le_mul_right _ this
    omega
  · have h1 := pow_le (k := k + 1) (by omega)
    have h2 := next_lt (k := k) (u := 0) (b := b) (Nat.two_pow_pos _)
    omega
theorem or_u64 {k u b : Nat} (hu : u < 2 ^ (7 * k)) (hp : b % 128 * 2 ^ (7 * k) < 18446744073709551616) (hk : k ≤ 9) :
    bits .or .u64 (u : Int) (IntKind.u64.wrap ((b : Int) % 128 * 2 ^ (7 * k))) = ((u + b % 128 * 2 ^ (7 * k) : Nat) : Int) := by
  have e : (b : Int) % 128 * 2 ^ (7 * k) = ((b % 128 * 2 ^ (7 * k) : Nat) : Int) := by simp
  have hw : IntKind.u64.wrap ((b % 128 * 2 ^ (7 * k) : Nat) : Int) = ((b % 128 * 2 ^ (7 * k) : Nat) : Int) := by rw [IntKind.wrap_u64]; omega
  have hu2 : u < 18446744073709551616 := Nat.lt_of_lt_of_le hu (Nat.le_trans (pow_le hk) (by omega))
  rw [e, hw, u64_or_nat _ _ hu2 hp, or_join hu]
theorem u64_and1 (u : Nat) (hu : u < 18446744073709551616) : bits .and .u64 (u : Int) 1 = ((u % 2 : Nat) : Int) := by
  have := u64_and_nat u 1 hu (by omega)
  simpa [nat_mask1] using this
theorem i64_xor_neg (a : Nat) (ha : a < 9223372036854775808) : bits .xor .i64 (a : Int) (-1) = -(a : Int) - 1 := by
  show IntKind.i64.wrap ((BitVec.ofInt 64 (a : Int) ^^^ BitVec.ofInt 64 (-1)).toNat : Int) = _
  have h1 : BitVec.ofInt 64 (-1) = BitVec.allOnes 64 := by decide
  rw [h1, BitVec.xor_allOnes, BitVec.toNat_not, ofInt_u64 a (by omega)]
  simp [IntKind.wrap, IntKind.bits, IntKind.signed]
  omega
theorem i64_xor_zero (a : Nat) (ha : a < 9223372036854775808) : bits .xor .i64 (a : Int) 0 = (a : Int) := by
  show IntKind.i64.wrap ((BitVec.ofInt 64 (a : Int) ^^^ BitVec.ofInt 64 0).toNat : Int) = _
  have h1 : BitVec.ofInt 64 0 = 0#64 := by decide
  rw [h1, BitVec.xor_zero, ofInt_u64 a (by omega)]
  simp [IntKind.wrap, IntKind.bits, IntKind.signed]
  omega
theorem unz_odd {u : Nat} (hu : u < 18446744073709551616) (h : u % 2 = 1) : bits .xor .i64 ((u : Int) / 2) (-1) = unz u := by
  have := i64_xor_neg (u / 2) (by omega)
  rw [unz, if_pos h, ← this]; simp
theorem unz_even {u : Nat} (hu : u < 18446744073709551616) (h : ¬ u % 2 = 1) : bits .xor .i64 ((u : Int) / 2) 0 = unz u := by
  have := i64_xor_zero (u / 2) (by omega)
  rw [unz, if_neg h, ← this]; simp
theorem or_first (b : Nat) : bits .or .u64 0 ((b : Int) % 128) = ((b % 128 : Nat) : Int) := by
  have := u64_or_nat 0 (b % 128) (by omega) (by omega)
  simpa using this
theorem wrap_prod {k b : Nat} (hp : b % 128 * 2 ^ (7 * k) < 18446744073709551616) : IntKind.u64.wrap ((b : Int) % 128 * 2 ^ (7 * k)) = ((b % 128 * 2 ^ (7 * k) : Nat) : Int) := by
  have e : (b : Int) % 128 * 2 ^ (7 * k) = ((b % 128 * 2 ^ (7 * k) : Nat) : Int) := by simp
  rw [e, IntKind.wrap_u64]; omega
theorem sum_lt {k u b : Nat} (hk : k ≤ 9) (hu : u < 2 ^ (7 * k)) (hA : ¬ (k = 9 ∧ 1 < b)) : u + b % 128 * 2 ^ (7 * k) < 18446744073709551616 := by
  have := pow_le hk
  rcases Nat.lt_or_ge k 9 with h9 | h9
  · have := next_lt (b := b) hu
    have := pow_le (k := k + 1) (by omega)
    omega
  · obtain rfl : k = 9 := by omega
    have h1 : ¬ 1 < b := fun h => hA ⟨rfl, h⟩
    have : b % 128 ≤ 1 := by omega
    have : b % 128 * 2 ^ (7 * 9) ≤ 1 * 2 ^ (7 * 9) := Nat.mul_le_mul_right _ this
    omega
theorem unz_eq (u : Nat) : unz u = if u % 2 = 1 then -((u / 2 : Nat) : Int) - 1 else ((u / 2 : Nat) : Int) := rfl
end Go.Proofs.Ytjihkdbloffbmaa

/-
  Contract: readNum.
-/
namespace Go.Proofs.Ytjihkdbloffbmaa
open Go.RowKit

def errV (c : Nat) : Value := if c = 0 then .nilIface else faultV c
def behind (at' : Nat) (r : Int × Nat × Nat) : Int := if r.2.2 = 0 then ((at' + r.2.1 : Nat) : Int) else 0

def RJ0 (s : ByteArray) (p : Nat) (w : World) : Act → World → Prop := fun a' w' => w' = w ∧ ∃ (k u : Nat) (at' kk : Int) (u8 u10 u11 u12 u13 u14 u15 u16 u17 u18 u19 u20 u21 u22 u23 u24 u25 u26 u27 u28 u29 u30 u31 u32 u33 u34 u35 u36 u37 u38 : Value), a' = ⟨#[.string s, .int .i64 at', undef, undef, .int .i64 0, .int .i64 0, .nilIface, .int .u64 (u : Nat), u8, .int .i64 kk, u10, u11, u12, u13, u14, u15, u16, u17, u18, u19, u20, u21, u22, u23, u24, u25, u26, u27, u28, u29, u30, u31, u32, u33, u34, u35, u36, u37, u38, undef, undef, undef, undef, undef, undef, undef, undef, undef, undef, undef, undef, undef, undef, undef, undef, undef], []⟩ ∧ at' = (p : Int) + k ∧ kk = (k : Int) ∧ k ≤ 9 ∧ Hid (u < 2 ^ (7 * k)) ∧ Hid (rdAt s.data.toList p = rd k u (s.data.toList.drop (p + k)))
def RJ1 (s : ByteArray) (p : Nat) (w : World) : Act → World → Prop := fun a' w' => w' = w ∧ ∃ (u1 u2 u3 u4 u5 u6 u7 u8 u9 u10 u11 u12 u13 u14 u15 u16 u17 u18 u19 u20 u21 u22 u23 u24 u25 u26 u27 u28 u29 u30 u31 u32 u33 u34 u35 u36 u37 u38 u39 u40 u41 u42 u43 u44 u45 u46 u47 u48 u49 u50 u51 u52 u53 : Value), a' = ⟨#[.string s, u1, u2, u3, u4, u5, u6, u7, u8, u9, u10, u11, u12, u13, u14, u15, u16, u17, u18, u19, u20, u21, u22, u23, u24, u25, u26, u27, u28, u29, u30, u31, u32, u33, u34, u35, u36, u37, u38, u39, u40, u41, u42, u43, u44, u45, u46, u47, u48, u49, u50, u51, u52, u53, undef, undef], []⟩ ∧ Hid (rdAt s.data.toList p = (0, 0, 3))
def RJ2 (s : ByteArray) (p : Nat) (w : World) : Act → World → Prop := fun a' w' => w' = w ∧ ∃ (k u b : Nat) (at' kk : Int) (u10 u11 u12 u13 u14 u15 u16 u17 u18 u19 u20 u21 u22 u23 u24 u25 u26 u27 u28 u29 u30 u31 u32 u33 u34 u35 u36 u37 u38 : Value), a' = ⟨#[.string s, .int .i64 at', undef, undef, .int .i64 0, .int .i64 0, .nilIface, .int .u64 (u : Nat), .int .u8 (b : Nat), .int .i64 kk, u10, u11, u12, u13, u14, u15, u16, u17, u18, u19, u20, u21, u22, u23, u24, u25, u26, u27, u28, u29, u30, u31, u32, u33, u34, u35, u36, u37, u38, undef, undef, undef, undef, undef, undef, undef, undef, undef, undef, undef, undef, undef, undef, undef, undef, undef], []⟩ ∧ at' = (p : Int) + k + 1 ∧ kk = (k : Int) + 1 ∧ k ≤ 9 ∧ p + k + 1 ≤ s.size ∧ b < 128 ∧ Hid (u < 18446744073709551616) ∧ Hid (b = 0 ∧ 0 < k → rdAt s.data.toList p = (0, 0, 3)) ∧ Hid (¬ (b = 0 ∧ 0 < k) → rdAt s.data.toList p = (unz u, k + 1, 0))
set_option maxRecDepth 1000000 in
set_option maxHeartbeats 4000000 in
theorem readNum_any (s : ByteArray) (p : Nat) (hs : s.size ≤ 20000) (w : World) :
    Calls Try.prog 134 #[.string s, .int .i64 p] w fun e w' => e = .returned (.tuple #[.int .i64 (rdAt s.data.toList p).1, .int .i64 (behind p (rdAt s.data.toList p)), errV (rdAt s.data.toList p).2.2]) ∧ w' = w := by
  go_enter Try.func134, Try.ntmps134
  go_wp2
  refine wp_scope_three (RJ0 s p w) (RJ1 s p w) (RJ2 s p w) (fun a' _ => 10 - (intOf (a'.tmps.getD 9 undef)).toNat) rfl rfl rfl ?_ ?_ ?_ ?_
  · by_cases hlt : p < s.size
    · have hbl : s[p].toNat < 256 := s[p].toNat_lt
      have hand := u8_and127 s[p].toNat hbl
      have hor := or_first s[p].toNat
      have HD : Hid (s.data.toList.drop p = s[p] :: s.data.toList.drop (p + 1)) := drop_cons s p hlt
      by_cases hb : s[p].toNat < 128
      · have HV : Hid (rdAt s.data.toList p = (unz (s[p].toNat % 128), 1, 0)) := by
          show rd 0 0 _ = _
          rw [HD.out, rd_last (by omega) hb (by omega)]; simp
        have hu2 : s[p].toNat % 128 < 18446744073709551616 := by omega
        have HU2 : Hid (s[p].toNat % 128 < 18446744073709551616) := hu2
        clear hu2
        generalize s[p].toNat % 128 = u2 at hor HV HU2
        go_wp2
        go_step3
        go_wp2
        go_step3
        show RJ2 s p w _ _
        exact ⟨rfl, 0, u2, s[p].toNat, _, _, _, _, _, _, _, _, _, _, _, _, _, _, _, _, _, _, _, _, _, _, _, _, _, _, _, _, _, _, _, rfl, by simp, by simp, by omega, by omega, hb, HU2, fun h => absurd h.2 (by omega), fun _ => HV.out⟩
      · have HV : Hid (rdAt s.data.toList p = rd 1 (s[p].toNat % 128) (s.data.toList.drop (p + 1))) := by
          show rd 0 0 _ = _
          rw [HD.out, rd_more (by omega) hb]; simp
        have HU2 : Hid (s[p].toNat % 128 < 2 ^ (7 * 1)) := by show _ < _; omega
        generalize s[p].toNat % 128 = u2 at hor HV HU2
        go_wp2
        go_step3
        go_wp2
        go_step3
        show RJ0 s p w _ _
        exact ⟨rfl, 1, u2, _, _, _, _, _, _, _, _, _, _, _, _, _, _, _, _, _, _, _, _, _, _, _, _, _, _, _, _, _, _, _, _, rfl, by simp, by simp, by omega, HU2, HV⟩
    · have HF : Hid (rdAt s.data.toList p = (0, 0, 4)) := by
        show rd 0 0 _ = _
        rw [drop_none _ _ (by omega), rd_short]
      go_wp2
      go_step3
      go_wp2
      rw [jump3_ret]
      go_ret3
      exact ⟨by rw [HF.out]; rfl, rfl⟩
  · rintro a' w' ⟨rfl, k, u, at', kk, u8, u10, u11, u12, u13, u14, u15, u16, u17, u18, u19, u20, u21, u22, u23, u24, u25, u26, u27, u28, u29, u30, u31, u32, u33, u34, u35, u36, u37, u38, rfl, rfl, rfl, hk, HU, HR⟩
    by_cases hlt : p + k < s.size
    · have hbl : s[p + k].toNat < 256 := s[p + k].toNat_lt
      have hand := u8_and127 s[p + k].toNat hbl
      have HD : Hid (s.data.toList.drop (p + k) = s[p + k] :: s.data.toList.drop (p + k + 1)) := drop_cons s (p + k) hlt
      by_cases hA : k = 9 ∧ 1 < s[p + k].toNat
      · have HF : Hid (rdAt s.data.toList p = (0, 0, 3)) := by
          show _ = _
          rw [HR.out, HD.out, rd_big hA.1 hA.2]
        have h9 : 9 ≤ k := by omega
        have h1 := hA.2
        clear hA HR HD HU
        go_wp2
        go_step3
        show RJ1 s p w' _ _
        exact ⟨rfl, _, _, _, _, _, _, _, _, _, _, _, _, _, _, _, _, _, _, _, _, _, _, _, _, _, _, _, _, _, _, _, _, _, _, _, _, _, _, _, _, _, _, _, _, _, _, _, _, _, _, _, _, _, rfl, HF⟩
      · have hpl := prod_lt hk hA
        have hor := or_u64 HU.out hpl hk
        by_cases hb : s[p + k].toNat < 128
        · have HZ : Hid (s[p + k].toNat = 0 ∧ 0 < k → rdAt s.data.toList p = (0, 0, 3)) := fun h => by rw [HR.out, HD.out, rd_nought h.2 h.1]
          have HV : Hid (¬ (s[p + k].toNat = 0 ∧ 0 < k) → rdAt s.data.toList p = (unz (u + s[p + k].toNat % 128 * 2 ^ (7 * k)), k + 1, 0)) := fun h => by rw [HR.out, HD.out, rd_last hA hb h]
          have HU2 : Hid (u + s[p + k].toNat % 128 * 2 ^ (7 * k) < 18446744073709551616) := by
            show _ < _
            have := pow_le hk
            have := HU.out
            rcases Nat.lt_or_ge k 9 with h9 | h9
            · have := next_lt (b := s[p + k].toNat) HU.out
              have := pow_le (k := k + 1) (by omega)
              omega
            · obtain rfl : k = 9 := by omega
              have h1 : ¬ 1 < s[p + 9].toNat := fun h => hA ⟨rfl, h⟩
              have : s[p + 9].toNat % 128 ≤ 1 := by omega
              have : s[p + 9].toNat % 128 * 2 ^ (7 * 9) ≤ 1 * 2 ^ (7 * 9) := Nat.mul_le_mul_right _ this
              omega
          generalize u + s[p + k].toNat % 128 * 2 ^ (7 * k) = u2 at hor HV HU2
          clear hpl HR HD HU
          have hA' : ((k : Int) + 1 == 10 && decide (1 < (s[p + k].toNat : Int))) = false := by
            rw [Bool.and_eq_false_iff]
            by_cases h9 : k = 9
            · right; have : ¬ 1 < s[p + k].toNat := fun h => hA ⟨h9, h⟩
              simp; omega
            · left; simp; omega
          rcases Nat.lt_or_ge k 9 with h9 | h9
          · go_wp2
            go_step3
            show RJ2 s p w' _ _
            exact ⟨rfl, k, u2, s[p + k].toNat, _, _, _, _, _, _, _, _, _, _, _, _, _, _, _, _, _, _, _, _, _, _, _, _, _, _, _, _, _, _, _, rfl, rfl, rfl, hk, by omega, hb, HU2, HZ, HV⟩
          · have h1 : ¬ 1 < s[p + k].toNat := fun h => hA ⟨by omega, h⟩
            clear hA' hA
            go_wp2
            go_step3
            show RJ2 s p w' _ _
            exact ⟨rfl, k, u2, s[p + k].toNat, _, _, _, _, _, _, _, _, _, _, _, _, _, _, _, _, _, _, _, _, _, _, _, _, _, _, _, _, _, _, _, rfl, by omega, by omega, hk, by omega, hb, HU2, HZ, HV⟩
        · have hk8 : k < 9 := by
            rcases Nat.lt_or_ge k 9 with h9 | h9
            · exact h9
            · exact absurd ⟨by omega, by omega⟩ hA
          have HU2 : Hid (u + s[p + k].toNat % 128 * 2 ^ (7 * k) < 2 ^ (7 * (k + 1))) := next_lt HU.out
          have HR2 : Hid (rdAt s.data.toList p = rd (k + 1) (u + s[p + k].toNat % 128 * 2 ^ (7 * k)) (s.data.toList.drop (p + (k + 1)))) := by
            show _ = _
            rw [HR.out, HD.out, rd_more (by omega) hb]; rfl
          generalize u + s[p + k].toNat % 128 * 2 ^ (7 * k) = u2 at hor HU2 HR2
          clear hpl HR HD HU hA
          go_wp2
          go_step3
          show RJ0 s p w' _ _ ∧ _
          exact ⟨⟨rfl, k + 1, u2, _, _, _, _, _, _, _, _, _, _, _, _, _, _, _, _, _, _, _, _, _, _, _, _, _, _, _, _, _, _, _, _, rfl, by omega, by omega, by omega, HU2, HR2⟩, by simp [intOf]; omega⟩
    · have HF : Hid (rdAt s.data.toList p = (0, 0, 4)) := by
        show _ = _
        rw [HR.out, drop_none _ _ (by omega), rd_short]
      go_wp2
      rw [jump3_ret]
      go_ret3
      exact ⟨by rw [HF.out]; rfl, rfl⟩
  · rintro a' w' ⟨rfl, k, u, b, at', kk, u10, u11, u12, u13, u14, u15, u16, u17, u18, u19, u20, u21, u22, u23, u24, u25, u26, u27, u28, u29, u30, u31, u32, u33, u34, u35, u36, u37, u38, rfl, rfl, rfl, hk, hle, hb, HU, HZ, HV⟩
    by_cases hz : b = 0 ∧ 0 < k
    · have HF : Hid (rdAt s.data.toList p = (0, 0, 3)) := HZ.out hz
      obtain ⟨rfl, hk0⟩ := hz
      clear HZ HV HU
      go_wp2
      go_step3
      show RJ1 s p w' _ _
      exact ⟨rfl, _, _, _, _, _, _, _, _, _, _, _, _, _, _, _, _, _, _, _, _, _, _, _, _, _, _, _, _, _, _, _, _, _, _, _, _, _, _, _, _, _, _, _, _, _, _, _, _, _, _, _, _, _, rfl, HF⟩
    · have HF : Hid (rdAt s.data.toList p = (unz u, k + 1, 0)) := HV.out hz
      have hu : u < 18446744073709551616 := HU.out
      have ha1 := u64_and1 u hu
      have hcon : ((b : Int) == 0 && decide (1 < (k : Int) + 1)) = false := by
        rw [Bool.and_eq_false_iff]
        by_cases hb0 : b = 0
        · right; have : ¬ 0 < k := fun h => hz ⟨hb0, h⟩
          simp; omega
        · left; simp; omega
      clear HZ HV HU
      rcases Nat.mod_two_eq_zero_or_one u with hm | hm
      · have HX : Hid (bits .xor .i64 ((u : Int) / 2) 0 = unz u) := unz_even hu (by omega)
        rw [hm] at ha1
        go_wp2
        all_goals
          rw [jump3_ret]
          go_ret3
          exact ⟨ret3n (by rw [HF.out]; exact HX.out) (by rw [HF.out]; simp [behind]; omega) (by rw [HF.out]; rfl), rfl⟩
      · have HX : Hid (bits .xor .i64 ((u : Int) / 2) (-1) = unz u) := unz_odd hu hm
        rw [hm] at ha1
        go_wp2
        all_goals
          rw [jump3_ret]
          go_ret3
          exact ⟨ret3n (by rw [HF.out]; exact HX.out) (by rw [HF.out]; simp [behind]; omega) (by rw [HF.out]; rfl), rfl⟩
  · rintro a' w' ⟨rfl, u1, u2, u3, u4, u5, u6, u7, u8, u9, u10, u11, u12, u13, u14, u15, u16, u17, u18, u19, u20, u21, u22, u23, u24, u25, u26, u27, u28, u29, u30, u31, u32, u33, u34, u35, u36, u37, u38, u39, u40, u41, u42, u43, u44, u45, u46, u47, u48, u49, u50, u51, u52, u53, rfl, HF⟩
    go_wp2
    rw [jump3_ret]
    go_ret3
    exact ⟨by rw [HF.out]; rfl, rfl⟩
end Go.Proofs.Ytjihkdbloffbmaa

/-
  Structs of three fields in a block of their own. Plain laws, no program.
-/
namespace Go.Proofs.Ytjihkdbloffbmaa
open Go.RowKit

theorem set3 {W : World} {g : Nat} {a b c x y z : Value} {t : TypeId} (h : W.heap[g]? = some (.cells #[a, b, c] t (0, 0))) :
    (((W.setCell ⟨g, 0, none⟩ x).setCell ⟨g, 1, none⟩ y).setCell ⟨g, 2, none⟩ z).heap[g]? = some (.cells #[x, y, z] t (0, 0)) := by
  have h1 := heap_setCell_same W g 0 _ t x h
  have h2 := heap_setCell_same _ g 1 _ t y h1
  have h3 := heap_setCell_same _ g 2 _ t z h2
  simpa using h3
theorem below3 {B g : Nat} {w W : World} {x y z : Value} (h : Below B w W) (hg : B ≤ g) : Below B w (((W.setCell ⟨g, 0, none⟩ x).setCell ⟨g, 1, none⟩ y).setCell ⟨g, 2, none⟩ z) :=
  ((h.setCell hg _).setCell hg _).setCell hg _
theorem cells3 {W : World} {g : Nat} {a b c : Value} {t : TypeId} (h : W.heap[g]? = some (.cells #[a, b, c] t (0, 0))) :
    W.cell? ⟨g, 0, none⟩ = some a ∧ W.cell? ⟨g, 1, none⟩ = some b ∧ W.cell? ⟨g, 2, none⟩ = some c ∧ (∀ j, W.frozen? ⟨g, j, none⟩ = false) :=
  ⟨by rw [cell_of_row _ _ _ _ _ _ h]; rfl, by rw [cell_of_row _ _ _ _ _ _ h]; rfl, by rw [cell_of_row _ _ _ _ _ _ h]; rfl, fun j => frozen_of_row _ _ _ _ _ h⟩

end Go.Proofs.Ytjihkdbloffbmaa

/-
  NumOut as a value, and as a result in its block.
-/
namespace Go.Proofs.Ytjihkdbloffbmaa
open Go.RowKit

def nOut (n a c : Int) : Value := .agg #[.int .i64 n, .int .i64 a, .int .i64 c]
theorem resNum {fn : Func} {p : Tmp} (h : fn.results = #[.cell p 163]) (tmps : Array Value) (w : World) (g : Nat) (x y z : Value) (hp : tmps.getD p undef = .pointer (some ⟨g, 0, none⟩))
    (hg : w.heap[g]? = some (.cells #[x, y, z] 163 (0, 0))) : (results fn tmps).run Try.prog w = .ok (.agg #[x, y, z]) w :=
  results_cell_row h tmps w g 163 #[x, y, z] (0, 0) _ hp hg Try.underlying163 rfl (by kernel_rfl)
end Go.Proofs.Ytjihkdbloffbmaa

/-
  What GetNum answers. Plain.
-/
namespace Go.Proofs.Ytjihkdbloffbmaa
open Go.RowKit

/-- What GetNum answers: the number, the place behind it, the code. -/
def getNum3 (s : ByteArray) (a : Int) : Int × Int × Nat :=
  if 20000 < s.size then (0, 0, 2) else if a < 0 then (0, 0, 1) else ((rdAt s.data.toList a.toNat).1, behind a.toNat (rdAt s.data.toList a.toNat), (rdAt s.data.toList a.toNat).2.2)
def getNumV (s : ByteArray) (a : Int) : Value := nOut (getNum3 s a).1 (getNum3 s a).2.1 (getNum3 s a).2.2

end Go.Proofs.Ytjihkdbloffbmaa

/-
  Bytes that a call itself made, turned into a text.
-/
namespace Go.Proofs.Ytjihkdbloffbmaa
open Go.RowKit

theorem Try.infoU8 : (Try.prog.info? 5).map (fun i => (i.zero, i.size, i.bytes)) = some (some (.int .u8 0), 1, 1) := by kernel_rfl

theorem convOwn {W : World} {base n : Nat} {v : Value} {xs : List Int} (h : W.ownsRow base 5 1 v n (xs.map (Value.int .u8))) :
    (convert 22 9 v).run Try.prog W = .ok (.string (strOfNums xs)) W := by
  have hx : xs.length = n := by simpa using h.1
  rcases h.2 with ⟨rfl, rfl⟩ | ⟨g, cap, cur, rfl, hb, hg, hn, hm, hs, ht⟩
  · obtain rfl : xs = [] := List.eq_nil_of_length_eq_zero hx
    exact run_convert_bytes_nil _ 22 5 Try.underlying22 Try.underlying5 0 0 9 Try.underlying9
  · refine run_convert_bytes_arg _ 22 5 Try.underlying22 Try.underlying5 g 0 n cap xs hx (fun i hi => ?_) 9 Try.underlying9
    have hc := World.ownsRow.cellAt h i (by omega)
    rw [Nat.zero_add, hc]
    simp [List.getElem?_eq_getElem (show i < xs.length by omega)]
end Go.Proofs.Ytjihkdbloffbmaa

/-
  Contracts: PutNum of the program and of the specification.
-/
namespace Go.Proofs.Ytjihkdbloffbmaa
open Go.RowKit

/-- The number's bytes, seven bits each, the lowest first. -/
def putL : Nat → Nat → List Int
  | 0, u => [(u : Int)]
  | f + 1, u => if u < 128 then [(u : Int)] else ((u % 128 + 128 : Nat) : Int) :: putL f (u / 128)
def foldN (n : Int) : Nat := if n < 0 then (-2 * n - 1).toNat else (2 * n).toNat
theorem foldN_lt (n : Int) (h1 : -9223372036854775808 ≤ n) (h2 : n ≤ 9223372036854775807) : foldN n < 18446744073709551616 := by
  unfold foldN; split <;> omega

theorem fold_any (n : Int) (h1 : -9223372036854775808 ≤ n) (h2 : n ≤ 9223372036854775807) (w : World) :
    Calls Try.prog 88 #[.int .i64 n] w fun e w' => e = .returned (.int .u64 (foldN n : Nat)) ∧ w' = w := by
  by_cases h : n < 0
  · have H : Hid ((foldN n : Int) = -2 * n - 1) := by show _ = _; simp only [foldN, if_pos h]; omega
    go_enter Try.func88, Try.ntmps88
    go_wp2
    go_ret
    exact ⟨ret_int (by rw [H.out]; omega), rfl⟩
  · have H : Hid ((foldN n : Int) = 2 * n) := by show _ = _; simp only [foldN, if_neg h]; omega
    go_enter Try.func88, Try.ntmps88
    go_wp2
    go_ret
    exact ⟨ret_int (by rw [H.out]), rfl⟩

theorem u64_notN (X : Nat) (h : X < 18446744073709551616) : bits .xor .u64 (X : Int) 18446744073709551615 = ((18446744073709551615 - X : Nat) : Int) := by
  have := u64_xor_nat X 18446744073709551615 h (by omega)
  have e : (BitVec.ofNat 64 X ^^^ BitVec.allOnes 64).toNat = 18446744073709551615 - X := by
    rw [BitVec.xor_allOnes, BitVec.toNat_not, BitVec.toNat_ofNat, Nat.mod_eq_of_lt h]
  rw [BitVec.toNat_xor, BitVec.toNat_allOnes, BitVec.toNat_ofNat, Nat.mod_eq_of_lt h] at e
  have e' : X ^^^ 18446744073709551615 = 18446744073709551615 - X := e
  rw [e'] at this
  exact this
theorem u64_xor0 (X : Nat) (h : X < 18446744073709551616) : bits .xor .u64 (X : Int) 0 = (X : Int) := by
  have := u64_xor_nat X 0 h (by omega)
  simpa using this
theorem putFold (n : Int) (h1 : -9223372036854775808 ≤ n) (h2 : n ≤ 9223372036854775807) :
    bits .xor .u64 (IntKind.u64.wrap (IntKind.u64.wrap n * 2)) (IntKind.u64.wrap (n / 9223372036854775808)) = (foldN n : Nat) := by
  simp only [IntKind.wrap_u64]
  by_cases h : n < 0
  · have e1 : n % 18446744073709551616 * 2 % 18446744073709551616 = ((2 * n + 18446744073709551616).toNat : Int) := by omega
    have e2 : n / 9223372036854775808 % 18446744073709551616 = 18446744073709551615 := by omega
    rw [e1, e2, u64_notN _ (by omega)]
    simp only [foldN, if_pos h]; omega
  · have e1 : n % 18446744073709551616 * 2 % 18446744073709551616 = ((2 * n).toNat : Int) := by omega
    have e2 : n / 9223372036854775808 % 18446744073709551616 = 0 := by omega
    rw [e1, e2, u64_xor0 _ (by omega)]
    simp only [foldN, if_neg h]

theorem or128 : ∀ x : Fin 256, x.val ||| 128 = x.val % 128 + 128 := by decide +kernel
theorem u8_or128N (U : Nat) : bits .or .u8 ((U : Int) % 256) 128 = ((U % 128 + 128 : Nat) : Int) := by
  have h := u8_or_nat (U % 256) 128 (by omega) (by omega)
  rw [or128 ⟨U % 256, by omega⟩] at h
  have e : (((U % 256 : Nat)) : Int) = (U : Int) % 256 := by omega
  rw [e] at h
  simp only at h
  rw [show U % 256 % 128 = U % 128 by omega] at h
  exact h
theorem putL_small (f U : Nat) (h : U < 128) : putL f U = [(U : Int)] := by cases f <;> simp [putL, h]
theorem putL_big (f U : Nat) (h : ¬ U < 128) : putL (f + 1) U = ((U % 128 + 128 : Nat) : Int) :: putL f (U / 128) := by simp [putL, h]
theorem pow_step (k U : Nat) (hk : k < 9) (h : U < 2 ^ (64 - 7 * k)) : U / 128 < 2 ^ (64 - 7 * (k + 1)) := by
  have e : 64 - 7 * k = (64 - 7 * (k + 1)) + 7 := by omega
  rw [e, Nat.pow_add] at h
  exact Nat.div_lt_of_lt_mul (by rw [Nat.mul_comm]; exact h)
theorem lt_nine (k U : Nat) (hk : k ≤ 9) (h : U < 2 ^ (64 - 7 * k)) (hb : ¬ U < 128) : k < 9 := by
  rcases Nat.lt_or_ge k 9 with h9 | h9
  · exact h9
  · obtain rfl : k = 9 := by omega
    omega

theorem sliceArr10 (W : World) (g k : Nat) (hk : k ≤ 9) :
    (Instr.sliceAt 127 (.pointer (some ⟨g, 0, none⟩)) none (some (.int .i64 ((k : Int) + 1))) none).run Try.prog W = .ok (.slice (some ⟨g, 0, none⟩) (k + 1) 10) W := by
  have ht : Try.prog.underlying 127 = some (.array (Try.prog.arrayLen 127) (Try.prog.elem 127)) := by kernel_rfl
  have hl : Try.prog.arrayLen 127 = 10 := by kernel_rfl
  have hs : ∀ w, (sizeOf (Try.prog.elem 127)).run Try.prog w = .ok 1 w := fun w => by kernel_rfl
  rw [run_sliceAt_array_h W 127 _ ht .i64 ((k : Int) + 1) (by omega) (by rw [hl]; omega), hs, hl]
  have e : ((k : Int) + 1).toNat = k + 1 := by omega
  simp [Result.andThen, slicedAt, e, Addr.add]
set_option maxRecDepth 100000 in
theorem implPutNum_any (n : Int) (h1 : -9223372036854775808 ≤ n) (h2 : n ≤ 9223372036854775807) (w : World) :
    Calls Try.prog 44 #[.int .i64 n] w fun e w' => e = .returned (.string (strOfNums (putL 9 (foldN n)))) ∧ Below w.heap.size w w' := by
  go_enter Try.func44, Try.ntmps44
  go_wp2
  rw [putFold n h1 h2]
  have hf := foldN_lt n h1 h2
  generalize hF : foldN n = U0 at hf
  have HF : Hid (foldN n = U0) := hF
  clear h1 h2 hF
  generalize IntKind.u64.wrap (IntKind.u64.wrap n * 2) = q2
  generalize IntKind.u64.wrap n = q1
  generalize IntKind.u64.wrap (n / 9223372036854775808) = q3
  generalize n / 9223372036854775808 = q4
  go_loopw [3, 5] (fun u i wr => ∃ (k U : Nat) (arr : Array Value) (xs : List Int), k ≤ 9 ∧ Hid (U < 2 ^ (64 - 7 * k)) ∧ i = .int .i64 k ∧ u = .int .u64 U ∧ xs.length = k ∧ Hid (putL 9 U0 = xs ++ putL (9 - k) U) ∧
      arr.size = 10 ∧ wr.heap[w.heap.size]? = some (.cells arr 127 (0, 0)) ∧ (∀ j, j < k → arr[j]? = some (.int .u8 (xs.getD j 0))) ∧ Below w.heap.size w wr)
    (fun _ i _ => 9 - (intOf i).toNat)
  case atStart =>
    refine ⟨0, U0, _, [], by omega, hf, rfl, rfl, rfl, rfl, ?_, heap_alloc_new _ _, fun j hj => absurd hj (by omega), (Below.refl _ _).alloc (Nat.le_refl _) _⟩
    rfl
  case round =>
    obtain ⟨k, U, arr, xs, hk, HU, rfl, rfl, hxs, HP, hsz, hg, hcs, hb⟩ := hrel
    clear hf
    obtain ⟨old, hold⟩ : ∃ v, arr[k]? = some v := ⟨arr[k]'(by omega), Array.getElem?_eq_getElem (by omega)⟩
    have hcell : wr.cell? ⟨w.heap.size, k, none⟩ = some old := by rw [cell_of_row wr _ k arr _ _ hg, hold]
    have hfr : wr.frozen? ⟨w.heap.size, k, none⟩ = false := frozen_of_row wr _ k arr _ hg
    by_cases hlt : U < 128
    · have hsl : ∀ W, (Instr.sliceAt 127 (.pointer (some ⟨w.heap.size, 0, none⟩)) none (some (.int .i64 ((k : Int) + 1))) none).run Try.prog W = .ok (.slice (some ⟨w.heap.size, 0, none⟩) (k + 1) 10) W := fun W => sliceArr10 W _ k hk
      have hcv : (convert 22 9 (.slice (some ⟨w.heap.size, 0, none⟩) (k + 1) 10)).run Try.prog (wr.setCell ⟨w.heap.size, k, none⟩ (.int .u8 (U : Int))) = .ok (.string (strOfNums (xs ++ [(U : Int)]))) (wr.setCell ⟨w.heap.size, k, none⟩ (.int .u8 (U : Int))) := by
        refine run_convert_bytes_arg _ 22 5 Try.underlying22 Try.underlying5 w.heap.size 0 (k + 1) 10 (xs ++ [(U : Int)]) (by simp [hxs]) (fun i hi => ?_) 9 Try.underlying9
        rw [Nat.zero_add, cell_of_row _ w.heap.size i _ _ _ (heap_setCell_same wr w.heap.size k arr _ _ hg), Array.getElem?_setIfInBounds]
        by_cases e : k = i
        · subst e; simp [hsz, ← hxs]; omega
        · rw [if_neg e, hcs i (by omega)]
          simp [List.getElem?_append_left (show i < xs.length by omega)]
      have HE : Hid (putL 9 U0 = xs ++ [(U : Int)]) := by
        show _ = _
        rw [HP.out, putL_small _ _ hlt]
      have hb' := hb.setCell (p := ⟨w.heap.size, k, none⟩) (Nat.le_refl _) (.int .u8 (U : Int))
      clear HU HP hxs hsz hg hcs hold hb
      go_wp2
      go_ret
      exact ⟨ret_str (by rw [HF.out, HE.out]), hb'⟩
    · have hk9 := lt_nine k U hk HU.out hlt
      have hor := u8_or128N U
      have HU' : Hid (U / 128 < 2 ^ (64 - 7 * (k + 1))) := pow_step k U hk9 HU.out
      have HP' : Hid (putL 9 U0 = (xs ++ [((U % 128 + 128 : Nat) : Int)]) ++ putL (9 - (k + 1)) (U / 128)) := by
        show _ = _
        rw [HP.out, show 9 - k = (9 - (k + 1)) + 1 by omega, putL_big _ _ hlt]; simp
      have hg' := heap_setCell_same wr w.heap.size k arr _ (.int .u8 ((U % 128 + 128 : Nat) : Int)) hg
      have hb' := hb.setCell (p := ⟨w.heap.size, k, none⟩) (Nat.le_refl _) (.int .u8 ((U % 128 + 128 : Nat) : Int))
      have HG : Hid ((wr.setCell ⟨w.heap.size, k, none⟩ (.int .u8 ((U % 128 + 128 : Nat) : Int))).heap[w.heap.size]? = some (.cells (arr.setIfInBounds k (.int .u8 ((U % 128 + 128 : Nat) : Int))) 127 (0, 0))) := hg'
      have HC : Hid (∀ j, j < k + 1 → (arr.setIfInBounds k (.int .u8 ((U % 128 + 128 : Nat) : Int)))[j]? = some (.int .u8 ((xs ++ [((U % 128 + 128 : Nat) : Int)]).getD j 0))) := by
        intro j hj
        rw [Array.getElem?_setIfInBounds]
        by_cases e : k = j
        · subst e; simp [hsz, ← hxs]; omega
        · rw [if_neg e, hcs j (by omega)]
          simp [List.getElem?_append_left (show j < xs.length by omega)]
      clear HU HP hg hg' hcs hold hb
      go_wp2
      go_roundw
      case rel => exact ⟨k + 1, U / 128, _, xs ++ [((U % 128 + 128 : Nat) : Int)], by omega, HU'.out, by go_num, by go_num, by simp [hxs], HP'.out, by simp [hsz], HG.out, HC.out, hb'⟩
      case measure => simp [intOf]; omega

set_option maxRecDepth 100000 in
set_option maxHeartbeats 400000 in
theorem specPutNum_any (n : Int) (h1 : -9223372036854775808 ≤ n) (h2 : n ≤ 9223372036854775807) (w : World) :
    Calls Try.prog 50 #[.int .i64 n] w fun e w' => e = .returned (.string (strOfNums (putL 9 (foldN n)))) ∧ Below w.heap.size w w' := by
  obtain ⟨i0, hi, hz0, hz1, hz2⟩ := info_parts Try.infoU8
  go_enter Try.func50, Try.ntmps50
  go_wp2_with (go_at_call 88; refine (fold_any n h1 h2 _).mono ?_; rintro e w ⟨rfl, rfl⟩)
  have hf := foldN_lt n h1 h2
  generalize hF : foldN n = U0 at hf
  have HF : Hid (foldN n = U0) := hF
  clear h1 h2 hF
  go_loopw [3, 4] (fun u v wr => ∃ (k U : Nat) (xs : List Int), k ≤ 9 ∧ Hid (U < 2 ^ (64 - 7 * k)) ∧ u = .int .u64 U ∧ Hid (putL 9 U0 = xs ++ putL (9 - k) U) ∧
      wr.ownsRow w.heap.size 5 1 v k (xs.map (Value.int .u8)) ∧ Below w.heap.size w wr)
    (fun u _ _ => (intOf u).toNat)
  case atStart => exact ⟨0, U0, [], by omega, hf, rfl, rfl, ⟨rfl, .inr ⟨w.heap.size, 0, #[], rfl, Nat.le_refl _, heap_alloc_new _ _, Nat.le_refl _, Nat.zero_le _, rfl, rfl⟩⟩, (Below.refl _ _).alloc (Nat.le_refl _) _⟩
  case round =>
    obtain ⟨k, U, xs, hk, HU, rfl, HP, hown, hb⟩ := hrel
    clear hf
    have hB := hb.size
    by_cases hlt : U < 128
    · have HE : Hid (putL 9 U0 = xs ++ [(U : Int)]) := by
        show _ = _
        rw [HP.out, putL_small _ _ hlt]
      clear HU HP
      go_wp2_with (at_builtin; refine wpList_append_own _ rfl _ _ 22 rfl w.heap.size 5 i0 (.int .u8 0) 1 1 Try.underlying22 hi hz0 hz1 hz2 rfl (by decide) _ _ _ rfl (hown.alloc _) ⟨wr.heap.size, 0, none⟩ 1 1 [.int .u8 (U : Int)] rfl rfl ?c1 ?c2 ?c3 ?c4 ?c5 ?_)
      case c1 => exact cell_one_new _ _ _
      case c2 => intro u hu; simp at hu; subst hu; rfl
      case c3 => unfold maxLen; omega
      case c4 => omega
      case c5 => simp; omega
      · intro v' w1 hown' hgrow _
        have hcv := convOwn (xs := xs ++ [(U : Int)]) (by simpa using hown')
        have hb' := (hb.alloc hB _).grown hgrow (by simp; omega) (fun j hj => (hown.lt j hj).1)
        go_wp2
        go_ret
        exact ⟨ret_str (by rw [HF.out, HE.out]), hb'⟩
    · have hk9 := lt_nine k U hk HU.out hlt
      have HU' : Hid (U / 128 < 2 ^ (64 - 7 * (k + 1))) := pow_step k U hk9 HU.out
      have HP' : Hid (putL 9 U0 = (xs ++ [((U % 128 + 128 : Nat) : Int)]) ++ putL (9 - (k + 1)) (U / 128)) := by
        show _ = _
        rw [HP.out, show 9 - k = (9 - (k + 1)) + 1 by omega, putL_big _ _ hlt]; simp
      have hU64 : U < 18446744073709551616 := Nat.lt_of_lt_of_le HU.out (Nat.pow_le_pow_right (n := 2) (by omega) (show 64 - 7 * k ≤ 64 by omega))
      clear HU HP
      go_wp2_with (at_builtin; refine wpList_append_own _ rfl _ _ 22 rfl w.heap.size 5 i0 (.int .u8 0) 1 1 Try.underlying22 hi hz0 hz1 hz2 rfl (by decide) _ _ _ rfl (hown.alloc _) ⟨wr.heap.size, 0, none⟩ 1 1 [.int .u8 ((U % 128 + 128 : Nat) : Int)] rfl rfl ?d1 ?d2 ?d3 ?d4 ?d5 ?_)
      case d1 => exact cell_one_new _ _ _
      case d2 => intro u hu; simp at hu; subst hu; rfl
      case d3 => unfold maxLen; omega
      case d4 => omega
      case d5 => simp; omega
      · intro v' w1 hown' hgrow _
        have hb' := (hb.alloc hB _).grown hgrow (by simp; omega) (fun j hj => (hown.lt j hj).1)
        go_wp2
        go_roundw
        case rel => exact ⟨k + 1, U / 128, xs ++ [((U % 128 + 128 : Nat) : Int)], by omega, HU'.out, by go_num, HP'.out, by simpa using hown', hb'⟩
        case measure => simp [intOf]; omega

end Go.Proofs.Ytjihkdbloffbmaa

/-
  Texts of bytes. Plain laws.
-/
namespace Go.Proofs.Ytjihkdbloffbmaa
open Go.RowKit

def mkS (l : List UInt8) : ByteArray := ⟨l.toArray⟩
def bCell (b : UInt8) : Value := .int .u8 (b.toNat : Int)
theorem mkS_list (l : List UInt8) : (mkS l).data.toList = l := by simp [mkS]
theorem mkS_size (l : List UInt8) : (mkS l).size = l.length := by simp [mkS, ByteArray.size]
theorem mkS_data (s : ByteArray) : mkS s.data.toList = s := by simp [mkS]
theorem strOfNums_bytes (l : List UInt8) : strOfNums (l.map fun b => (b.toNat : Int)) = mkS l := by
  simp [strOfNums, mkS, Function.comp_def]
end Go.Proofs.Ytjihkdbloffbmaa

/-
  Contracts: joinTexts.
-/
namespace Go.Proofs.Ytjihkdbloffbmaa
open Go.RowKit

def catL (ss : List ByteArray) : List UInt8 := (ss.map fun s => s.data.toList).flatten
theorem catL_snoc (ss : List ByteArray) (k : Nat) (h : k < ss.length) : catL (ss.take (k + 1)) = catL (ss.take k) ++ (ss[k]).data.toList := by
  unfold catL; rw [List.take_succ_eq_append_getElem h, List.map_append, List.flatten_append]; simp
theorem catL_le (ss : List ByteArray) (k : Nat) : (catL (ss.take k)).length ≤ (catL ss).length := by
  have : catL ss = catL (ss.take k) ++ catL (ss.drop k) := by
    unfold catL; rw [← List.flatten_append, ← List.map_append, List.take_append_drop]
  rw [this]; simp

/-- What one round of the copying does, whatever the cut 'all[at:]' has come to. -/
theorem copyRound (wr : World) (g tot at' : Nat) (s : ByteArray) (cur : List Value) (hg : wr.heap[g]? = some (.cells cur.toArray 5 (0, 0))) (hl : cur.length = tot) (hat : at' + s.size ≤ tot) :
    ∃ (ad : Addr) (w1 : World) (new : List Value), (∀ W, (Instr.slice 22 (.slice (some ⟨g, 0, none⟩) tot tot) (some (.int .i64 (at' : Int))) none none).run Try.prog W = .ok (.slice (some ad) (tot - at') (tot - at')) W) ∧
      (∀ ty, (Builtin.copy_ #[22, 9] ty #[.slice (some ad) (tot - at') (tot - at'), .string s]).run Try.prog wr = .ok (goInt s.size) w1) ∧ w1.heap[g]? = some (.cells new.toArray 5 (0, 0)) ∧ (∀ B w0, Below B w0 wr → B ≤ g → Below B w0 w1) ∧
      new.length = tot ∧ new.take (at' + s.size) = cur.take at' ++ s.data.toList.map bCell := by
  have hs : (Try.prog.info? 5).map (·.size) = some 1 := by kernel_rfl
  have hsz : ∀ w, (sizeOf (Try.prog.elem 22)).run Try.prog w = .ok 1 w := fun w => by kernel_rfl
  have hu : Try.prog.underlying 22 = some (.slice (Try.prog.elem 22)) := by kernel_rfl
  have hslice : ∀ W, (Instr.slice 22 (.slice (some ⟨g, 0, none⟩) tot tot) (some (.int .i64 (at' : Int))) none none).run Try.prog W = .ok (sliced (some ⟨g, 0, none⟩) at' tot tot 1) W := by
    intro W
    rw [run_slice_l W 22 _ tot tot hu .i64 (at' : Int) (by omega) (by omega), hsz]
    simp [Result.andThen]
  have hsl : ∀ W, (Instr.slice 22 (.slice (some ⟨g, 0, none⟩) tot tot) (some (.int .i64 (at' : Int))) none none).run Try.prog W = .ok (.slice (some (if tot = at' then ⟨g, 0, none⟩ else ⟨g, at', none⟩)) (tot - at') (tot - at')) W := by
    intro W
    rw [hslice W]
    by_cases e : tot = at'
    · simp [sliced, e]
    · simp [sliced, e, Addr.add]; omega
  have hsd : s.data.toList.length = s.size := rfl
  by_cases h0 : s.size = 0
  · have e : s.data.toList = [] := List.eq_nil_of_length_eq_zero h0
    refine ⟨_, wr, cur, hsl, fun ty => ?_, hg, fun B w0 h _ => h, hl, by rw [e, h0]; simp⟩
    rw [Lib.run_copy_empty_string wr 22 9 ty 5 _ _ _ s Try.underlying22 (by rw [hs]; rfl) h0, h0]; rfl
  · rw [if_neg (by omega)] at hsl
    refine ⟨_, _, cur.take at' ++ s.data.toList.map bCell ++ cur.drop (at' + s.size), hsl, fun ty => Lib.run_copy_row_string wr 22 9 ty 5 g at' (tot - at') (tot - at') s cur.toArray _ Try.underlying22 hs hg (by omega) (by simp; omega), ?_, fun B w0 h hB => below_setRow h hB _, ?_, ?_⟩
    · rw [setRow_heap wr g _ _ _ _ hg]; rfl
    · simp only [List.length_append, List.length_take, List.length_map, List.length_drop, hsd]; omega
    · rw [List.take_append_of_le_length (by simp only [List.length_append, List.length_take, List.length_map, hsd]; omega)]
      exact List.take_of_length_le (by simp only [List.length_append, List.length_take, List.length_map, hsd]; omega)

set_option maxHeartbeats 400000 in
theorem join_any (ss : List ByteArray) (pb po cap : Nat) (w : World) (hb : (catL ss).length ≤ 1000000000) (hn : ss.length ≤ 1000000)
    (hc : ∀ j, j < ss.length → w.cell? ⟨pb, po + j, none⟩ = some (.string (ss.getD j ByteArray.empty))) :
    Calls Try.prog 45 #[.slice (some ⟨pb, po, none⟩) ss.length cap] w fun e w' => e = .returned (.string (mkS (catL ss))) ∧ Below w.heap.size w w' := by
  obtain ⟨i0, hi, hz0, hz1, hz2⟩ := info_parts Try.infoU8
  go_enter Try.func45, Try.ntmps45
  go_wp2
  go_loop [3, 12] (fun z i => ∃ k : Nat, k ≤ ss.length ∧ i = .int .i64 k ∧ z = .int .i64 ((catL (ss.take k)).length : Nat)) (fun _ i => ss.length - (intOf i).toNat)
  case atStart => exact ⟨0, Nat.zero_le _, rfl, by simp [catL]⟩
  case round =>
    obtain ⟨k, hk, rfl, rfl⟩ := hrel
    have hle := catL_le ss k
    by_cases hlt : k < ss.length
    · have hck := hc k hlt
      have HS : Hid ((catL (ss.take (k + 1))).length = (catL (ss.take k)).length + (ss.getD k ByteArray.empty).size) := by
        show _ = _
        rw [catL_snoc ss k hlt, List.length_append, len_data]; simp [List.getElem?_eq_getElem hlt]
      have hle2 := catL_le ss (k + 1)
      have hsb : (catL (ss.take k)).length + (ss.getD k ByteArray.empty).size ≤ 1000000000 := by rw [← HS.out]; omega
      generalize (catL (ss.take k)).length = z at *
      generalize ss.getD k ByteArray.empty = sk at *
      clear hc hle2
      go_wp2
      go_round
      case rel => exact ⟨k + 1, by omega, by go_num, by rw [HS.out]; go_num⟩
      case measure => simp [intOf]; omega
    · obtain rfl : k = ss.length := by omega
      rw [List.take_length]
      generalize hT : (catL ss).length = tot at *
      have HT : Hid ((catL ss).length = tot) := hT
      clear hT
      go_wp2_with (at_make; refine wpList_make_full _ rfl _ _ 22 rfl w.heap.size 5 i0 (.int .u8 0) 1 Try.underlying22 hi hz0 hz1 .i64 .i64 _ _ tot rfl rfl rfl rfl (by rw [hz2]; omega) (by unfold maxLen; omega) (Nat.le_refl _) ?_; intro w1 hown1 hgrow1)
      obtain ⟨cur0, hg0, hl0⟩ : ∃ cur : List Value, w1.heap[w.heap.size]? = some (.cells cur.toArray 5 (0, 0)) ∧ cur.length = tot := by
        rcases hown1.2 with ⟨h, _⟩ | ⟨g, cap', cur, hv, _, hg, _, _, hs, _⟩
        · simp at h
        · simp at hv
          obtain ⟨rfl, rfl⟩ := hv
          exact ⟨cur.toList, by simpa using hg, by simpa using hs⟩
      have hb1 : Below w.heap.size w w1 := (Below.refl _ _).grown hgrow1 (Nat.le_refl _) (fun j hj => by simp at hj)
      clear hown1 hgrow1
      go_loopw [7, 25] (fun z i wr => ∃ (k : Nat) (cur : List Value), k ≤ ss.length ∧ i = .int .i64 k ∧ z = .int .i64 ((catL (ss.take k)).length : Nat) ∧ cur.length = tot ∧
          wr.heap[w.heap.size]? = some (.cells cur.toArray 5 (0, 0)) ∧ Hid (cur.take (catL (ss.take k)).length = (catL (ss.take k)).map bCell) ∧ Below w.heap.size w wr) (fun _ i _ => ss.length - (intOf i).toNat)
      case atStart => exact ⟨0, cur0, Nat.zero_le _, rfl, by simp [catL], hl0, hg0, by show _ = _; simp [catL], hb1⟩
      case round =>
        obtain ⟨k, cur, hk, rfl, rfl, hlen, hg, HC, hbw⟩ := hrel
        clear hb1 hg0 hl0
        have hle2 := catL_le ss k
        rw [HT.out] at hle2
        by_cases hlt : k < ss.length
        · have hck : wr.cell? ⟨pb, po + k, none⟩ = some (.string (ss.getD k ByteArray.empty)) := by
            have h := hc k hlt
            rw [hbw.cell (p := ⟨pb, po + k, none⟩) (block_lt_of_cell h)]; exact h
          have HS : Hid (catL (ss.take (k + 1)) = catL (ss.take k) ++ (ss.getD k ByteArray.empty).data.toList) := by
            show _ = _
            rw [catL_snoc ss k hlt]; simp [List.getElem?_eq_getElem hlt]
          have hle3 := catL_le ss (k + 1)
          rw [HT.out, HS.out, List.length_append, len_data] at hle3
          generalize hZ : (catL (ss.take k)).length = z at *
          generalize hSK : ss.getD k ByteArray.empty = sk at *
          obtain ⟨ad, w2, new, hsl, hcp, hg2, hB2, hl2, ht2⟩ := copyRound wr w.heap.size tot z sk cur hg hlen hle3
          have hb2 := hB2 _ _ hbw (Nat.le_refl _)
          have HN : Hid (new.take (catL (ss.take (k + 1))).length = (catL (ss.take (k + 1))).map bCell) := by
            show _ = _
            rw [HS.out, List.length_append, hZ, len_data, ht2, HC.out, List.map_append]
          have HZ : Hid ((catL (ss.take (k + 1))).length = z + sk.size) := by
            show _ = _
            rw [HS.out, List.length_append, hZ, len_data]
          have HG : Hid (w2.heap[w.heap.size]? = some (.cells new.toArray 5 (0, 0))) := hg2
          clear hc hZ hSK hB2 ht2 hg hg2 hbw
          go_wp2
          go_roundw
          case rel => exact ⟨k + 1, new, by omega, by go_num, by rw [HZ.out]; go_num, hl2, HG.out, HN.out, hb2⟩
          case measure => simp [intOf]; omega
        · obtain rfl : k = ss.length := by omega
          have hcv : (convert 22 9 (.slice (some ⟨w.heap.size, 0, none⟩) tot tot)).run Try.prog wr = .ok (.string (mkS (catL ss))) wr := by
            have hcc := HC.out
            rw [List.take_length, HT.out, List.take_of_length_le (by omega)] at hcc
            rw [← strOfNums_bytes]
            refine run_convert_bytes_arg _ 22 5 Try.underlying22 Try.underlying5 w.heap.size 0 tot tot _ (by rw [List.length_map, HT.out]) (fun i hi => ?_) 9 Try.underlying9
            have hi2 : i < (catL ss).length := by rw [HT.out]; exact hi
            rw [Nat.zero_add, cell_of_row _ _ i _ _ _ hg, hcc]
            simp [bCell, List.getElem?_eq_getElem hi2]
          clear hc HC hg hlen
          go_wp2
          go_ret
          exact ⟨rfl, hbw⟩

theorem join2 (t s : ByteArray) (pb cap : Nat) (w : World) (hb : t.size + s.size ≤ 1000000000) (h0 : w.cell? ⟨pb, 0, none⟩ = some (.string t)) (h1 : w.cell? ⟨pb, 1, none⟩ = some (.string s)) :
    Calls Try.prog 45 #[.slice (some ⟨pb, 0, none⟩) 2 cap] w fun e w' => e = .returned (.string (mkS (t.data.toList ++ s.data.toList))) ∧ Below w.heap.size w w' := by
  have h := join_any [t, s] pb 0 cap w (by simp only [catL, List.map_cons, List.map_nil, List.flatten_cons, List.flatten_nil, List.append_nil, List.length_append, len_data]; exact hb) (by simp) (fun j hj => by
    match j, hj with
    | 0, _ => simpa using h0
    | 1, _ => simpa using h1)
  simpa [catL] using h
theorem join1 (s : ByteArray) (pb cap : Nat) (w : World) (hb : s.size ≤ 1000000000) (h0 : w.cell? ⟨pb, 0, none⟩ = some (.string s)) :
    Calls Try.prog 45 #[.slice (some ⟨pb, 0, none⟩) 1 cap] w fun e w' => e = .returned (.string s) ∧ Below w.heap.size w w' := by
  have h := join_any [s] pb 0 cap w (by simp only [catL, List.map_cons, List.map_nil, List.flatten_cons, List.flatten_nil, List.append_nil, len_data]; exact hb) (by simp) (fun j hj => by
    match j, hj with
    | 0, _ => simpa using h0)
  simpa [catL, mkS] using h
end Go.Proofs.Ytjihkdbloffbmaa

/-
  Contracts: PutText of the program and of the specification.
-/
namespace Go.Proofs.Ytjihkdbloffbmaa
open Go.RowKit

/-- PutText of a text: the empty text beyond MaxBytes. -/
def putT (s : ByteArray) : ByteArray := if s.size ≤ 20000 then mkS ((strOfNums (putL 9 (foldN s.size))).data.toList ++ s.data.toList) else ByteArray.empty
theorem putL_len : ∀ f u, (putL f u).length ≤ f + 1
  | 0, u => by simp [putL]
  | f + 1, u => by
    unfold putL
    split
    · simp
    · have := putL_len f (u / 128); simp; omega
theorem num_size (n : Int) : (strOfNums (putL 9 (foldN n))).size ≤ 10 := by
  rw [strOfNums_size]; exact putL_len 9 _

set_option maxHeartbeats 400000 in
theorem implPutText_any (s : ByteArray) (w : World) :
    Calls Try.prog 43 #[.string s] w fun e w' => e = .returned (.string (putT s)) ∧ Below w.heap.size w w' := by
  by_cases hs : s.size ≤ 20000
  · have HP : Hid (putT s = mkS ((strOfNums (putL 9 (foldN s.size))).data.toList ++ s.data.toList)) := if_pos hs
    have hn := num_size s.size
    go_enter Try.func43, Try.ntmps43
    go_wp2_with fail
    refine (tooLong_no _ hs _).mono ?_
    rintro e w0 ⟨rfl, rfl⟩
    go_wp2_with fail
    refine (implPutNum_any _ (by omega) (by omega) _).mono ?_
    rintro e w1 ⟨rfl, hb1⟩
    generalize strOfNums (putL 9 (foldN s.size)) = t at *
    go_wp2_with fail
    refine (join2 t s _ _ _ (by omega) (by simp) (by simp)).mono ?_
    rintro e w2 ⟨rfl, hb2⟩
    go_wp2
    go_ret
    exact ⟨ret_str (by rw [HP.out]), (hb1.alloc hb1.size _).trans (hb2.mono (by simp; have := hb1.size; omega))⟩
  · have HP : Hid (putT s = ByteArray.empty) := if_neg hs
    go_enter Try.func43, Try.ntmps43
    go_wp2_with (go_at_call 54; refine (tooLong_yes _ (by omega) _).mono ?_; rintro e w' ⟨rfl, rfl⟩)
    go_ret
    exact ⟨ret_str (by rw [HP.out]; rfl), Below.refl _ _⟩

theorem specPutText_any (s : ByteArray) (w : World) :
    Calls Try.prog 49 #[.string s] w fun e w' => e = .returned (.string (putT s)) ∧ Below w.heap.size w w' := by
  by_cases hs : s.size ≤ 20000
  · have HP : Hid (putT s = mkS ((strOfNums (putL 9 (foldN s.size))).data.toList ++ s.data.toList)) := if_pos hs
    have hn := num_size s.size
    go_enter Try.func49, Try.ntmps49
    go_wp2_with fail
    refine (specPutNum_any _ (by omega) (by omega) _).mono ?_
    rintro e w1 ⟨rfl, hb1⟩
    generalize strOfNums (putL 9 (foldN s.size)) = t at *
    go_wp2
    go_ret
    exact ⟨ret_str (by rw [HP.out]; rfl), hb1⟩
  · have HP : Hid (putT s = ByteArray.empty) := if_neg hs
    go_enter Try.func49, Try.ntmps49
    go_wp2
    go_ret
    exact ⟨ret_str (by rw [HP.out]; rfl), Below.refl _ _⟩

end Go.Proofs.Ytjihkdbloffbmaa

/-
  Contracts: readText and GetText of the program.
-/
namespace Go.Proofs.Ytjihkdbloffbmaa
open Go.RowKit

theorem rd_count : ∀ (l : List UInt8) (k u : Nat), (rd k u l).2.1 ≤ k + l.length
  | [], k, u => by simp [rd]
  | b :: l, k, u => by
    unfold rd
    split
    · simp
    · split
      · split
        · simp
        · simp
      · have := rd_count l (k + 1) (u + b.toNat % 128 * 2 ^ (7 * k)); simp; omega
/-- What is behind a number that is there lies within the text. -/
theorem behind_le (s : ByteArray) (p : Nat) (h : (rdAt s.data.toList p).2.2 = 0) : 0 ≤ behind p (rdAt s.data.toList p) ∧ behind p (rdAt s.data.toList p) ≤ s.size := by
  unfold behind
  rw [if_pos h]
  have hc := rd_count (s.data.toList.drop p) 0 0
  rw [List.length_drop, len_data] at hc
  have hp : p ≤ s.size := by
    rcases Nat.lt_or_ge s.size p with hlt | hge
    · unfold rdAt at h
      rw [drop_none _ _ (by omega)] at h
      simp [rd] at h
    · exact hge
  have hc' : (rdAt s.data.toList p).2.1 ≤ s.size - p := by unfold rdAt; omega
  omega

/-- The text that stands behind a number that was read: the text, the place behind it, the code. -/
def textOf (s : ByteArray) (n q : Int) (c : Nat) : ByteArray × Int × Nat :=
  if ¬ c = 0 then (ByteArray.empty, 0, c) else if n < 0 ∨ 20000 < n then (ByteArray.empty, 0, 3) else if (s.size : Int) - q < n then (ByteArray.empty, 0, 4)
  else (s.extract q.toNat (q + n).toNat, q + n, 0)

theorem ret3t {t t' : ByteArray} {b b' : Int} {v v' : Value} (h1 : t = t') (h2 : b = b') (h3 : v = v') : Ending.returned (.tuple #[.string t, .int .i64 b, v]) = .returned (.tuple #[.string t', .int .i64 b', v']) := by rw [h1, h2, h3]

set_option maxRecDepth 100000 in
set_option maxHeartbeats 2000000 in
theorem readText_any (s : ByteArray) (p : Nat) (hs : s.size ≤ 20000) (n q : Int) (c : Nat) (hn : n = (rdAt s.data.toList p).1) (hq : q = behind p (rdAt s.data.toList p)) (hc : c = (rdAt s.data.toList p).2.2) (w : World) :
    Calls Try.prog 125 #[.string s, .int .i64 p] w fun e w' => e = .returned (.tuple #[.string (textOf s n q c).1, .int .i64 (textOf s n q c).2.1, errV (textOf s n q c).2.2]) ∧ Below w.heap.size w w' := by
  have hrd := readNum_any s p hs
  have hbl : c = 0 → 0 ≤ q ∧ q ≤ s.size := fun h => by rw [hq]; exact behind_le s p (by rw [← hc]; exact h)
  rw [← hn, ← hq, ← hc] at hrd
  have HR : Hid (∀ w, Calls Try.prog 134 #[.string s, .int .i64 p] w fun e w' => e = .returned (.tuple #[.int .i64 n, .int .i64 q, errV c]) ∧ w' = w) := hrd
  clear hrd hn hq hc
  by_cases h0 : c = 0
  · obtain ⟨hq0, hq1⟩ := hbl h0
    have HR0 : Hid (∀ w, Calls Try.prog 134 #[.string s, .int .i64 p] w fun e w' => e = .returned (.tuple #[.int .i64 n, .int .i64 q, .nilIface]) ∧ w' = w) := by
      have h := HR.out; rw [h0] at h; exact h
    clear HR hbl
    by_cases h1 : n < 0
    · have H : Hid (textOf s n q c = (ByteArray.empty, 0, 3)) := by show _ = _; unfold textOf; rw [if_neg (by simp [h0]), if_pos (Or.inl h1)]
      go_enter Try.func125, Try.ntmps125
      go_wp2_with fail
      refine (HR0.out _).mono ?_
      rintro e w0 ⟨rfl, rfl⟩
      go_wp2
      go_ret3
      exact ⟨by rw [H.out]; rfl, Below.refl _ _⟩
    by_cases h2 : 20000 < n
    · have H : Hid (textOf s n q c = (ByteArray.empty, 0, 3)) := by show _ = _; unfold textOf; rw [if_neg (by simp [h0]), if_pos (Or.inr h2)]
      go_enter Try.func125, Try.ntmps125
      go_wp2_with fail
      refine (HR0.out _).mono ?_
      rintro e w0 ⟨rfl, rfl⟩
      go_wp2
      go_ret3
      exact ⟨by rw [H.out]; rfl, Below.refl _ _⟩
    by_cases h3 : (s.size : Int) - q < n
    · have H : Hid (textOf s n q c = (ByteArray.empty, 0, 4)) := by show _ = _; unfold textOf; rw [if_neg (by simp [h0]), if_neg (by omega), if_pos h3]
      go_enter Try.func125, Try.ntmps125
      go_wp2_with fail
      refine (HR0.out _).mono ?_
      rintro e w0 ⟨rfl, rfl⟩
      go_wp2
      go_ret3
      exact ⟨by rw [H.out]; rfl, Below.refl _ _⟩
    have H : Hid (textOf s n q c = (s.extract q.toNat (q + n).toNat, q + n, 0)) := by show _ = _; unfold textOf; rw [if_neg (by simp [h0]), if_neg (by omega), if_neg h3]
    have hz : (s.extract q.toNat (q + n).toNat).size ≤ 20000 := by simp; omega
    have h4 : q ≤ q + n := by omega
    have h5 : q + n ≤ s.size := by omega
    clear h0
    go_enter Try.func125, Try.ntmps125
    go_wp2_with fail
    refine (HR0.out _).mono ?_
    rintro e w0 ⟨rfl, rfl⟩
    go_wp2_with fail
    refine (join1 (s.extract q.toNat (q + n).toNat) _ _ _ (by omega) (by simp)).mono ?_
    rintro e w2 ⟨rfl, hb2⟩
    go_wp2
    go_ret3
    exact ⟨by rw [H.out]; rfl, ((Below.refl _ _).alloc (Nat.le_refl _) _).trans (hb2.mono (by simp))⟩
  · have H : Hid (textOf s n q c = (ByteArray.empty, 0, c)) := if_pos h0
    have HR0 : Hid (∀ w, Calls Try.prog 134 #[.string s, .int .i64 p] w fun e w' => e = .returned (.tuple #[.int .i64 n, .int .i64 q, .iface 178 (.agg #[.int .i64 c])]) ∧ w' = w) := by
      have h := HR.out; unfold errV at h; rw [if_neg h0] at h; exact h
    have HE : Hid (errV c = .iface 178 (.agg #[.int .i64 c])) := if_neg h0
    clear HR hbl h0
    go_enter Try.func125, Try.ntmps125
    go_wp2_with fail
    refine (HR0.out _).mono ?_
    rintro e w0 ⟨rfl, rfl⟩
    go_wp2
    go_ret3
    exact ⟨ret3t (by rw [H.out]; rfl) (by rw [H.out]) (by rw [H.out]; exact HE.out.symm), Below.refl _ _⟩
end Go.Proofs.Ytjihkdbloffbmaa

/-
  TextOut as a value, and as a result in its block.
-/
namespace Go.Proofs.Ytjihkdbloffbmaa
open Go.RowKit

def tOut (t : ByteArray) (at' code : Int) : Value := .agg #[.string t, .int .i64 at', .int .i64 code]
theorem resOut {fn : Func} {p : Tmp} (h : fn.results = #[.cell p 160]) (tmps : Array Value) (w : World) (g : Nat) (x y z : Value) (hp : tmps.getD p undef = .pointer (some ⟨g, 0, none⟩))
    (hg : w.heap[g]? = some (.cells #[x, y, z] 160 (0, 0))) : (results fn tmps).run Try.prog w = .ok (.agg #[x, y, z]) w :=
  results_cell_row h tmps w g 160 #[x, y, z] (0, 0) _ hp hg Try.underlying160 rfl (by kernel_rfl)
end Go.Proofs.Ytjihkdbloffbmaa

/-
  What GetText answers. Plain.
-/
namespace Go.Proofs.Ytjihkdbloffbmaa
open Go.RowKit

/-- What GetText answers: the text, the place behind it, the code. -/
def getText3 (s : ByteArray) (a : Int) : ByteArray × Int × Nat := textOf s (getNum3 s a).1 (getNum3 s a).2.1 (getNum3 s a).2.2
def getTextV (s : ByteArray) (a : Int) : Value := tOut (getText3 s a).1 (getText3 s a).2.1 (getText3 s a).2.2

end Go.Proofs.Ytjihkdbloffbmaa

/-
  Contracts: NameRight of the program and of the specification; the law on both.
-/
namespace Go.Proofs.Ytjihkdbloffbmaa
open Go.RowKit

def isLet (b : Nat) : Bool := decide (97 ≤ b) && decide (b ≤ 122)
def isNameB (b : Nat) : Bool := isLet b || (decide (48 ≤ b) && decide (b ≤ 57)) || decide (b = 95)
def nameTo (l : List UInt8) (k : Nat) : Bool := (l.take k).all (fun b => isNameB b.toNat) && (decide (k = 0) || isLet (l.headD 0).toNat)
/-- Is it a name? -/
def nameOk (l : List UInt8) : Bool := decide (1 ≤ l.length) && decide (l.length ≤ 20) && nameTo l l.length

theorem nameTo_zero (l : List UInt8) : nameTo l 0 = true := by simp [nameTo]
theorem nameTo_succ (l : List UInt8) (k : Nat) (h : k < l.length) : nameTo l (k + 1) = (nameTo l k && (isNameB l[k].toNat && (!decide (k = 0) || isLet l[k].toNat))) := by
  unfold nameTo
  rw [List.take_succ_eq_append_getElem h, List.all_append]
  cases k with
  | zero => cases l with
    | nil => simp at h
    | cons b l => simp
  | succ k =>
    simp only [List.all_cons, List.all_nil, Bool.and_true]
    cases isNameB l[k + 1].toNat <;> simp
theorem nameTo_le (l : List UInt8) (k : Nat) (h : k ≤ l.length) (hk : nameTo l k = false) : nameTo l l.length = false := by
  unfold nameTo at *
  rw [List.take_length]
  by_cases h0 : k = 0
  · simp [h0] at hk
  · rw [Bool.and_eq_false_iff] at *
    rcases hk with hk | hk
    · left
      rw [List.all_eq_false] at *
      obtain ⟨x, hx, hb⟩ := hk
      exact ⟨x, List.mem_of_mem_take hx, hb⟩
    · right
      simp [h0] at hk
      have : ¬ l.length = 0 := by omega
      simp [this, hk]
theorem nameOk_of (l : List UInt8) (h1 : 1 ≤ l.length) (h2 : l.length ≤ 20) : nameOk l = nameTo l l.length := by
  simp [nameOk, h1, h2]
theorem nameOk_not (l : List UInt8) (h : l.length < 1 ∨ 20 < l.length) : nameOk l = false := by
  unfold nameOk
  rcases h with h | h
  · have : ¬ 1 ≤ l.length := by omega
    simp [this]
  · have : ¬ l.length ≤ 20 := by omega
    simp [this]
def isDig (b : Nat) : Bool := decide (48 ≤ b) && decide (b ≤ 57)
theorem isLetter_any (b : Nat) (w : World) :
    Calls Try.prog 122 #[.int .u8 b] w fun e w' => e = .returned (.bool (isLet b)) ∧ w' = w := by
  by_cases h1 : 97 ≤ b
  · by_cases h2 : b ≤ 122
    · have H : Hid (isLet b = true) := by show _ = _; simp [isLet, h1, h2]
      go_enter Try.func122, Try.ntmps122
      go_wp2
      go_ret
      exact ⟨ret_bool (by rw [H.out]; simp; omega), rfl⟩
    · have H : Hid (isLet b = false) := by show _ = _; simp [isLet, h2]
      go_enter Try.func122, Try.ntmps122
      go_wp2
      go_ret
      exact ⟨ret_bool (by rw [H.out]; simp; omega), rfl⟩
  · have H : Hid (isLet b = false) := by show _ = _; simp [isLet, h1]
    go_enter Try.func122, Try.ntmps122
    go_wp2
    go_ret
    exact ⟨ret_bool (by rw [H.out]), rfl⟩
theorem isDigit_any (b : Nat) (w : World) :
    Calls Try.prog 123 #[.int .u8 b] w fun e w' => e = .returned (.bool (isDig b)) ∧ w' = w := by
  by_cases h1 : 48 ≤ b
  · by_cases h2 : b ≤ 57
    · have H : Hid (isDig b = true) := by show _ = _; simp [isDig, h1, h2]
      go_enter Try.func123, Try.ntmps123
      go_wp2
      go_ret
      exact ⟨ret_bool (by rw [H.out]; simp; omega), rfl⟩
    · have H : Hid (isDig b = false) := by show _ = _; simp [isDig, h2]
      go_enter Try.func123, Try.ntmps123
      go_wp2
      go_ret
      exact ⟨ret_bool (by rw [H.out]; simp; omega), rfl⟩
  · have H : Hid (isDig b = false) := by show _ = _; simp [isDig, h1]
    go_enter Try.func123, Try.ntmps123
    go_wp2
    go_ret
    exact ⟨ret_bool (by rw [H.out]), rfl⟩
theorem dig_yes {b : Nat} (h1 : 48 ≤ b) (h2 : b ≤ 57) : isDig b = true := by simp [isDig, h1, h2]
theorem dig_no {b : Nat} (h : b < 48 ∨ 57 < b) : isDig b = false := by
  unfold isDig
  rcases h with h | h
  · have : ¬ 48 ≤ b := by omega
    simp [this]
  · have : ¬ b ≤ 57 := by omega
    simp [this]
theorem cls (b : Nat) : (97 ≤ b ∧ b ≤ 122 ∧ isLet b = true ∧ isNameB b = true) ∨ (48 ≤ b ∧ b ≤ 57 ∧ isLet b = false ∧ isNameB b = true) ∨ (b = 95 ∧ isLet b = false ∧ isNameB b = true) ∨
    (isLet b = false ∧ isNameB b = false ∧ (b < 48 ∨ (57 < b ∧ b < 95) ∨ b = 96 ∨ 122 < b)) := by
  by_cases h1 : 97 ≤ b <;> by_cases h2 : b ≤ 122 <;> by_cases h3 : 48 ≤ b <;> by_cases h4 : b ≤ 57 <;> by_cases h5 : b = 95 <;> simp [isLet, isNameB, h1, h2, h3, h4, h5] <;> omega

set_option maxHeartbeats 1000000 in
theorem specName_any (s : ByteArray) (w : World) :
    Calls Try.prog 67 #[.string s] w fun e w' => e = .returned (.bool (nameOk s.data.toList)) ∧ w' = w := by
  by_cases h1 : s.size < 1
  · have H : Hid (nameOk s.data.toList = false) := nameOk_not _ (by rw [len_data]; omega)
    go_enter Try.func67, Try.ntmps67
    go_wp2
    go_ret
    exact ⟨ret_bool H.out.symm, rfl⟩
  by_cases h2 : 20 < s.size
  · have H : Hid (nameOk s.data.toList = false) := nameOk_not _ (by rw [len_data]; omega)
    go_enter Try.func67, Try.ntmps67
    go_wp2
    go_ret
    exact ⟨ret_bool H.out.symm, rfl⟩
  have H : Hid (nameOk s.data.toList = nameTo s.data.toList s.size) := by
    show _ = _
    rw [nameOk_of _ (by rw [len_data]; omega) (by rw [len_data]; omega)]; rfl
  go_enter Try.func67, Try.ntmps67
  go_wp2
  go_loop [3] (fun i => ∃ k : Nat, k ≤ s.size ∧ i = .int .i64 k ∧ Hid (nameTo s.data.toList k = true)) (fun i => s.size - (intOf i).toNat)
  case atStart => exact ⟨0, Nat.zero_le _, rfl, nameTo_zero _⟩
  case round =>
    obtain ⟨k, hk, rfl, HK⟩ := hrel
    by_cases hlt : k < s.size
    · have HN : Hid (nameTo s.data.toList (k + 1) = (isNameB s[k].toNat && (!decide (k = 0) || isLet s[k].toNat))) := by
        show _ = _
        rw [nameTo_succ _ _ (by simpa using hlt), HK.out]; rfl
      have HL : Hid (nameTo s.data.toList (k + 1) = false → nameOk s.data.toList = false) := fun h => by
        rw [H.out]; have := nameTo_le s.data.toList (k + 1) (by simp; omega) h; simpa using this
      rcases Nat.eq_zero_or_pos k with rfl | hkp
      · rcases cls s[0].toNat with ⟨c1, c2, c3, c4⟩ | ⟨c1, c2, c3, c4⟩ | ⟨c1, c3, c4⟩ | ⟨c3, c4, c1 | ⟨c1, c2⟩ | c1 | c1⟩
        · have HV : Hid (nameTo s.data.toList (0 + 1) = true) := by
            show _ = _
            rw [HN.out, c3, c4]; simp
          clear HN HL c3 c4
          have q1 : ((s[0].toNat : Int) != 95) = true := by simp; omega
          have q2 : (!decide ((s[0].toNat : Int) ≤ 122)) = false := by simp; omega
          have q3 : (!decide ((s[0].toNat : Int) ≤ 57)) = true := by simp; omega
          go_wp2
          go_round
          case rel => exact ⟨0 + 1, by omega, by go_num, HV.out⟩
          case measure => simp [intOf]; omega
        · have HV : Hid (nameOk s.data.toList = false) := by
            refine HL.out ?_
            rw [HN.out, c3, c4]; simp
          clear HN HL c3 c4
          have q1 : ((s[0].toNat : Int) != 95) = true := by simp; omega
          have q2 : (!decide ((s[0].toNat : Int) ≤ 122)) = false := by simp; omega
          have q3 : (!decide ((s[0].toNat : Int) ≤ 57)) = false := by simp; omega
          go_wp2
          go_ret
          exact ⟨ret_bool HV.out.symm, rfl⟩
        · have HV : Hid (nameOk s.data.toList = false) := by
            refine HL.out ?_
            rw [HN.out, c3, c4]; simp
          clear HN HL c3 c4
          have q1 : ((s[0].toNat : Int) != 95) = false := by simp; omega
          have q2 : (!decide ((s[0].toNat : Int) ≤ 122)) = false := by simp; omega
          have q3 : (!decide ((s[0].toNat : Int) ≤ 57)) = true := by simp; omega
          go_wp2
          go_ret
          exact ⟨ret_bool HV.out.symm, rfl⟩
        · have HV : Hid (nameOk s.data.toList = false) := by
            refine HL.out ?_
            rw [HN.out, c3, c4]; simp
          clear HN HL c3 c4
          have q1 : ((s[0].toNat : Int) != 95) = true := by simp; omega
          have q2 : (!decide ((s[0].toNat : Int) ≤ 122)) = false := by simp; omega
          have q3 : (!decide ((s[0].toNat : Int) ≤ 57)) = false := by simp; omega
          go_wp2
          go_ret
          exact ⟨ret_bool HV.out.symm, rfl⟩
        · have HV : Hid (nameOk s.data.toList = false) := by
            refine HL.out ?_
            rw [HN.out, c3, c4]; simp
          clear HN HL c3 c4
          have q1 : ((s[0].toNat : Int) != 95) = true := by simp; omega
          have q2 : (!decide ((s[0].toNat : Int) ≤ 122)) = false := by simp; omega
          have q3 : (!decide ((s[0].toNat : Int) ≤ 57)) = true := by simp; omega
          go_wp2
          go_ret
          exact ⟨ret_bool HV.out.symm, rfl⟩
        · have HV : Hid (nameOk s.data.toList = false) := by
            refine HL.out ?_
            rw [HN.out, c3, c4]; simp
          clear HN HL c3 c4
          have q1 : ((s[0].toNat : Int) != 95) = true := by simp; omega
          have q2 : (!decide ((s[0].toNat : Int) ≤ 122)) = false := by simp; omega
          have q3 : (!decide ((s[0].toNat : Int) ≤ 57)) = true := by simp; omega
          go_wp2
          go_ret
          exact ⟨ret_bool HV.out.symm, rfl⟩
        · have HV : Hid (nameOk s.data.toList = false) := by
            refine HL.out ?_
            rw [HN.out, c3, c4]; simp
          clear HN HL c3 c4
          have q1 : ((s[0].toNat : Int) != 95) = true := by simp; omega
          have q2 : (!decide ((s[0].toNat : Int) ≤ 122)) = true := by simp; omega
          have q3 : (!decide ((s[0].toNat : Int) ≤ 57)) = true := by simp; omega
          go_wp2
          go_ret
          exact ⟨ret_bool HV.out.symm, rfl⟩
      · have hk0 : ¬ k = 0 := by omega
        rcases cls s[k].toNat with ⟨c1, c2, c3, c4⟩ | ⟨c1, c2, c3, c4⟩ | ⟨c1, c3, c4⟩ | ⟨c3, c4, c1 | ⟨c1, c2⟩ | c1 | c1⟩
        · have HV : Hid (nameTo s.data.toList (k + 1) = true) := by
            show _ = _
            rw [HN.out, c3, c4]; simp [hk0]
          clear HN HL c3 c4
          have q1 : ((s[k].toNat : Int) != 95) = true := by simp; omega
          have q2 : (!decide ((s[k].toNat : Int) ≤ 122)) = false := by simp; omega
          have q3 : (!decide ((s[k].toNat : Int) ≤ 57)) = true := by simp; omega
          go_wp2
          go_round
          case rel => exact ⟨k + 1, by omega, by go_num, HV.out⟩
          case measure => simp [intOf]; omega
        · have HV : Hid (nameTo s.data.toList (k + 1) = true) := by
            show _ = _
            rw [HN.out, c3, c4]; simp [hk0]
          clear HN HL c3 c4
          have q1 : ((s[k].toNat : Int) != 95) = true := by simp; omega
          have q2 : (!decide ((s[k].toNat : Int) ≤ 122)) = false := by simp; omega
          have q3 : (!decide ((s[k].toNat : Int) ≤ 57)) = false := by simp; omega
          go_wp2
          go_round
          case rel => exact ⟨k + 1, by omega, by go_num, HV.out⟩
          case measure => simp [intOf]; omega
        · have HV : Hid (nameTo s.data.toList (k + 1) = true) := by
            show _ = _
            rw [HN.out, c3, c4]; simp [hk0]
          clear HN HL c3 c4
          have q1 : ((s[k].toNat : Int) != 95) = false := by simp; omega
          have q2 : (!decide ((s[k].toNat : Int) ≤ 122)) = false := by simp; omega
          have q3 : (!decide ((s[k].toNat : Int) ≤ 57)) = true := by simp; omega
          go_wp2
          go_round
          case rel => exact ⟨k + 1, by omega, by go_num, HV.out⟩
          case measure => simp [intOf]; omega
        · have HV : Hid (nameOk s.data.toList = false) := by
            refine HL.out ?_
            rw [HN.out, c3, c4]; simp
          clear HN HL c3 c4
          have q1 : ((s[k].toNat : Int) != 95) = true := by simp; omega
          have q2 : (!decide ((s[k].toNat : Int) ≤ 122)) = false := by simp; omega
          have q3 : (!decide ((s[k].toNat : Int) ≤ 57)) = false := by simp; omega
          go_wp2
          go_ret
          exact ⟨ret_bool HV.out.symm, rfl⟩
        · have HV : Hid (nameOk s.data.toList = false) := by
            refine HL.out ?_
            rw [HN.out, c3, c4]; simp
          clear HN HL c3 c4
          have q1 : ((s[k].toNat : Int) != 95) = true := by simp; omega
          have q2 : (!decide ((s[k].toNat : Int) ≤ 122)) = false := by simp; omega
          have q3 : (!decide ((s[k].toNat : Int) ≤ 57)) = true := by simp; omega
          go_wp2
          go_ret
          exact ⟨ret_bool HV.out.symm, rfl⟩
        · have HV : Hid (nameOk s.data.toList = false) := by
            refine HL.out ?_
            rw [HN.out, c3, c4]; simp
          clear HN HL c3 c4
          have q1 : ((s[k].toNat : Int) != 95) = true := by simp; omega
          have q2 : (!decide ((s[k].toNat : Int) ≤ 122)) = false := by simp; omega
          have q3 : (!decide ((s[k].toNat : Int) ≤ 57)) = true := by simp; omega
          go_wp2
          go_ret
          exact ⟨ret_bool HV.out.symm, rfl⟩
        · have HV : Hid (nameOk s.data.toList = false) := by
            refine HL.out ?_
            rw [HN.out, c3, c4]; simp
          clear HN HL c3 c4
          have q1 : ((s[k].toNat : Int) != 95) = true := by simp; omega
          have q2 : (!decide ((s[k].toNat : Int) ≤ 122)) = true := by simp; omega
          have q3 : (!decide ((s[k].toNat : Int) ≤ 57)) = true := by simp; omega
          go_wp2
          go_ret
          exact ⟨ret_bool HV.out.symm, rfl⟩
    · have hk' : k = s.size := by omega
      have HF : Hid (nameOk s.data.toList = true) := by
        show _ = _
        rw [H.out, ← hk']; exact HK.out
      clear hk'
      go_wp2
      go_ret
      exact ⟨ret_bool HF.out.symm, rfl⟩

set_option maxHeartbeats 2000000 in
theorem implName_any (s : ByteArray) (w : World) :
    Calls Try.prog 90 #[.string s] w fun e w' => e = .returned (.bool (nameOk s.data.toList)) ∧ w' = w := by
  by_cases h1 : s.size < 1
  · have H : Hid (nameOk s.data.toList = false) := nameOk_not _ (by rw [len_data]; omega)
    go_enter Try.func90, Try.ntmps90
    go_wp2
    go_ret
    exact ⟨ret_bool H.out.symm, rfl⟩
  by_cases h2 : 20 < s.size
  · have H : Hid (nameOk s.data.toList = false) := nameOk_not _ (by rw [len_data]; omega)
    go_enter Try.func90, Try.ntmps90
    go_wp2
    go_ret
    exact ⟨ret_bool H.out.symm, rfl⟩
  have H : Hid (nameOk s.data.toList = nameTo s.data.toList s.size) := by
    show _ = _
    rw [nameOk_of _ (by rw [len_data]; omega) (by rw [len_data]; omega)]; rfl
  have hp : 0 < s.size := by omega
  have HH : Hid (nameTo s.data.toList 1 = (isNameB s[0].toNat && isLet s[0].toNat)) := by
    show _ = _
    rw [nameTo_succ _ _ (by simpa using hp), nameTo_zero]; simp; rfl
  by_cases hl : isLet s[0].toNat = true
  · have H0 : Hid (isLet s[0].toNat = true) := hl
    go_enter Try.func90, Try.ntmps90
    go_wp2_with (first | (go_at_call 122; refine (isLetter_any _ _).mono ?_; rintro e w' ⟨rfl, rfl⟩) | (go_at_call 123; refine (isDigit_any _ _).mono ?_; rintro e w' ⟨rfl, rfl⟩))
    go_loop [20] (fun i => ∃ k : Nat, k ≤ s.size ∧ i = .int .i64 k ∧ Hid (nameTo s.data.toList k = true)) (fun i => s.size - (intOf i).toNat)
    case atStart => exact ⟨0, Nat.zero_le _, rfl, nameTo_zero _⟩
    case round =>
      obtain ⟨k, hk, rfl, HK⟩ := hrel
      clear hl
      by_cases hlt : k < s.size
      · have HN : Hid (nameTo s.data.toList (k + 1) = isNameB s[k].toNat) := by
          show _ = _
          rw [nameTo_succ _ _ (by simpa using hlt), HK.out]
          by_cases hk0 : k = 0
          · subst hk0
            have := H0.out
            show (true && (isNameB s[0].toNat && (!decide (0 = 0) || isLet s[0].toNat))) = _
            rw [this]; simp
          · simp [hk0]; rfl
        have HL : Hid (nameTo s.data.toList (k + 1) = false → nameOk s.data.toList = false) := fun h => by
          rw [H.out]; have := nameTo_le s.data.toList (k + 1) (by rw [len_data]; omega) h; simpa using this
        rcases cls s[k].toNat with ⟨c1, c2, c3, c4⟩ | ⟨c1, c2, c3, c4⟩ | ⟨c1, c3, c4⟩ | ⟨c3, c4, c1 | ⟨c1, c2⟩ | c1 | c1⟩
        · have HV : Hid (nameTo s.data.toList (k + 1) = true) := HN.out.trans c4
          clear HN HL
          have q1 : isDig s[k].toNat = false := dig_no (by omega)
          have q2 : ((s[k].toNat : Int) != 95) = true := by simp; omega
          go_wp2_with (first | (go_at_call 122; refine (isLetter_any _ _).mono ?_; rintro e w' ⟨rfl, rfl⟩) | (go_at_call 123; refine (isDigit_any _ _).mono ?_; rintro e w' ⟨rfl, rfl⟩))
          go_round
          case rel => exact ⟨k + 1, by omega, by go_num, HV.out⟩
          case measure => simp [intOf]; omega
        · have HV : Hid (nameTo s.data.toList (k + 1) = true) := HN.out.trans c4
          clear HN HL
          have q1 : isDig s[k].toNat = true := dig_yes c1 c2
          have q2 : ((s[k].toNat : Int) != 95) = true := by simp; omega
          go_wp2_with (first | (go_at_call 122; refine (isLetter_any _ _).mono ?_; rintro e w' ⟨rfl, rfl⟩) | (go_at_call 123; refine (isDigit_any _ _).mono ?_; rintro e w' ⟨rfl, rfl⟩))
          go_round
          case rel => exact ⟨k + 1, by omega, by go_num, HV.out⟩
          case measure => simp [intOf]; omega
        · have HV : Hid (nameTo s.data.toList (k + 1) = true) := HN.out.trans c4
          clear HN HL
          have q1 : isDig s[k].toNat = false := dig_no (by omega)
          have q2 : ((s[k].toNat : Int) != 95) = false := by simp; omega
          go_wp2_with (first | (go_at_call 122; refine (isLetter_any _ _).mono ?_; rintro e w' ⟨rfl, rfl⟩) | (go_at_call 123; refine (isDigit_any _ _).mono ?_; rintro e w' ⟨rfl, rfl⟩))
          go_round
          case rel => exact ⟨k + 1, by omega, by go_num, HV.out⟩
          case measure => simp [intOf]; omega
        · have HV : Hid (nameOk s.data.toList = false) := HL.out (HN.out.trans c4)
          clear HN HL
          have q1 : isDig s[k].toNat = false := dig_no (by omega)
          have q2 : ((s[k].toNat : Int) != 95) = true := by simp; omega
          go_wp2_with (first | (go_at_call 122; refine (isLetter_any _ _).mono ?_; rintro e w' ⟨rfl, rfl⟩) | (go_at_call 123; refine (isDigit_any _ _).mono ?_; rintro e w' ⟨rfl, rfl⟩))
          go_ret
          exact ⟨ret_bool HV.out.symm, rfl⟩
        · have HV : Hid (nameOk s.data.toList = false) := HL.out (HN.out.trans c4)
          clear HN HL
          have q1 : isDig s[k].toNat = false := dig_no (by omega)
          have q2 : ((s[k].toNat : Int) != 95) = true := by simp; omega
          go_wp2_with (first | (go_at_call 122; refine (isLetter_any _ _).mono ?_; rintro e w' ⟨rfl, rfl⟩) | (go_at_call 123; refine (isDigit_any _ _).mono ?_; rintro e w' ⟨rfl, rfl⟩))
          go_ret
          exact ⟨ret_bool HV.out.symm, rfl⟩
        · have HV : Hid (nameOk s.data.toList = false) := HL.out (HN.out.trans c4)
          clear HN HL
          have q1 : isDig s[k].toNat = false := dig_no (by omega)
          have q2 : ((s[k].toNat : Int) != 95) = true := by simp; omega
          go_wp2_with (first | (go_at_call 122; refine (isLetter_any _ _).mono ?_; rintro e w' ⟨rfl, rfl⟩) | (go_at_call 123; refine (isDigit_any _ _).mono ?_; rintro e w' ⟨rfl, rfl⟩))
          go_ret
          exact ⟨ret_bool HV.out.symm, rfl⟩
        · have HV : Hid (nameOk s.data.toList = false) := HL.out (HN.out.trans c4)
          clear HN HL
          have q1 : isDig s[k].toNat = false := dig_no (by omega)
          have q2 : ((s[k].toNat : Int) != 95) = true := by simp; omega
          go_wp2_with (first | (go_at_call 122; refine (isLetter_any _ _).mono ?_; rintro e w' ⟨rfl, rfl⟩) | (go_at_call 123; refine (isDigit_any _ _).mono ?_; rintro e w' ⟨rfl, rfl⟩))
          go_ret
          exact ⟨ret_bool HV.out.symm, rfl⟩
      · have hk' : k = s.size := by omega
        have HF : Hid (nameOk s.data.toList = true) := by
          show _ = _
          rw [H.out, ← hk']; exact HK.out
        clear hk'
        go_wp2_with (first | (go_at_call 122; refine (isLetter_any _ _).mono ?_; rintro e w' ⟨rfl, rfl⟩) | (go_at_call 123; refine (isDigit_any _ _).mono ?_; rintro e w' ⟨rfl, rfl⟩))
        go_ret
        exact ⟨ret_bool HF.out.symm, rfl⟩
  · have HV : Hid (nameOk s.data.toList = false) := by
      show _ = _
      rw [H.out]
      refine nameTo_le s.data.toList 1 (by rw [len_data]; omega) ?_
      rw [HH.out]; simp [hl]
    have c3 : isLet s[0].toNat = false := by simpa using hl
    clear hl HH
    go_enter Try.func90, Try.ntmps90
    go_wp2_with (go_at_call 122; refine (isLetter_any _ _).mono ?_; rintro e w' ⟨rfl, rfl⟩)
    go_ret
    exact ⟨ret_bool HV.out.symm, rfl⟩
end Go.Proofs.Ytjihkdbloffbmaa
