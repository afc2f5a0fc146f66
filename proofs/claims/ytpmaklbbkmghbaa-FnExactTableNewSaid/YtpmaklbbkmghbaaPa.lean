/-
  Contracts and plain laws, part 1 of 9: Base, InI, FaultV, Plain, Long, Jumps, GetPlain, ReadNum, Out3, OutN, GetDef, Conv, Num, MkS, JoinC, Join, GetText, OutT, GetDefT, RdSt, GrowG, Skips, RdG
-/
import Derived.WalkKit
import Derived.Below
import Derived.Laws.AppendOwn
import Derived.Maps.AppendAt
import Derived.Test.YtpmaklbbkmghbaaRows
import Derived.Laws.BitsAllLaws
import Derived.WalkLawsBesides
import Derived.Scope
import Derived.WalkMore
import Derived.Outline
import Derived.Laws.BytesArg
import Derived.OpenShut
import Derived.Lib.BufferWrite
import Derived.Laws.CopyOwn
import Derived.Deep.RegionHeld3

/-
  Plain facts that many texts share.
-/
namespace Go.Proofs.Ytpmaklbbkmghbaa
open Go.RowKit

theorem hide {p : Prop} (h : p) : Hid p := h
/-- Does it hold at each place below n? -/
def upto (p : Nat → Bool) (n : Nat) : Bool := (List.range n).all p
theorem upto_zero (p : Nat → Bool) : upto p 0 = true := rfl
theorem upto_succ (p : Nat → Bool) (k : Nat) : upto p (k + 1) = (upto p k && p k) := by
  unfold upto; rw [List.range_succ, List.all_append]; simp
theorem upto_iff (p : Nat → Bool) (n : Nat) : upto p n = true ↔ ∀ i, i < n → p i = true := by
  unfold upto; simp
theorem upto_false {p : Nat → Bool} {k n : Nat} (hk : k < n) (h : p k = false) : upto p n = false := by
  rw [Bool.eq_false_iff]
  intro e
  have := (upto_iff p n).1 e k hk
  rw [h] at this; cases this
theorem getD_mem {α : Type} (l : List α) (d : α) (k : Nat) (hk : k < l.length) : l.getD k d ∈ l := by
  rw [List.getD_eq_getElem?_getD, List.getElem?_eq_getElem hk]; exact List.getElem_mem hk
theorem heap_far (W : World) (g m b : Nat) (v : Value) (h : b ≠ g) : (W.setCell ⟨g, m, none⟩ v).heap[b]? = W.heap[b]? := heap_setCell_other W ⟨g, m, none⟩ b v (by simpa using h)
theorem heap_old (w : World) (o : Obj) (k : Nat) (h : k < w.heap.size) : (w.alloc o).heap[k]? = w.heap[k]? := by
  unfold World.alloc; simp only [Array.getElem?_push]; rw [if_neg (by omega)]
theorem alloc3 (w : World) (o1 o2 o3 : Obj) : (((w.alloc o1).alloc o2).alloc o3).heap[w.heap.size]? = some o1 ∧ (((w.alloc o1).alloc o2).alloc o3).heap[w.heap.size + 1]? = some o2 ∧ (((w.alloc o1).alloc o2).alloc o3).heap[w.heap.size + 1 + 1]? = some o3 := by
  have s1 : (w.alloc o1).heap.size = w.heap.size + 1 := by simp
  have s2 : ((w.alloc o1).alloc o2).heap.size = w.heap.size + 1 + 1 := by simp
  refine ⟨?_, ?_, ?_⟩
  · rw [heap_old _ _ _ (by omega), heap_old _ _ _ (by omega), heap_alloc_new]
  · rw [heap_old _ _ _ (by omega), ← s1, heap_alloc_new]
  · rw [← s2, heap_alloc_new]
theorem two_allocs (w : World) (o1 o2 : Obj) : ((w.alloc o1).alloc o2).heap[w.heap.size]? = some o1 ∧ ((w.alloc o1).alloc o2).heap[w.heap.size + 1]? = some o2 ∧ ((w.alloc o1).alloc o2).heap.size = w.heap.size + 2 := by
  have s1 : (w.alloc o1).heap.size = w.heap.size + 1 := by simp
  refine ⟨?_, ?_, by simp⟩
  · rw [heap_old _ _ _ (by omega), heap_alloc_new]
  · rw [← s1, heap_alloc_new]
theorem setL_heap {W : World} {g m : Nat} {cur : List Value} {t : TypeId} {x : Value} (h : W.heap[g]? = some (.cells cur.toArray t (0, 0))) :
    (W.setCell ⟨g, m, none⟩ x).heap[g]? = some (.cells (cur.set m x).toArray t (0, 0)) := by
  have h1 := heap_setCell_same W g m _ t x h
  rw [h1]; simp
theorem take_set1 (cur : List Value) (k : Nat) (x : Value) (h : k < cur.length) : (cur.set k x).take (k + 1) = cur.take k ++ [x] := by
  have h' : k < (cur.set k x).length := by simpa using h
  rw [List.take_succ_eq_append_getElem h', List.take_set_of_le (Nat.le_refl _), List.getElem_set_self]
theorem cells4 {w : World} {g : Nat} {a b c d : Value} {t : TypeId} (h : w.heap[g]? = some (.cells #[a, b, c, d] t (0, 0))) :
    w.cell? ⟨g, 0, none⟩ = some a ∧ w.cell? ⟨g, 1, none⟩ = some b ∧ w.cell? ⟨g, 2, none⟩ = some c ∧ w.cell? ⟨g, 3, none⟩ = some d ∧ ∀ j, w.frozen? ⟨g, j, none⟩ = false :=
  ⟨by rw [cell_of_row _ _ _ _ _ _ h]; rfl, by rw [cell_of_row _ _ _ _ _ _ h]; rfl, by rw [cell_of_row _ _ _ _ _ _ h]; rfl, by rw [cell_of_row _ _ _ _ _ _ h]; rfl, fun j => frozen_of_row _ _ _ _ _ h⟩
theorem set2 {W : World} {g : Nat} {a b x y : Value} {t : TypeId} (h : W.heap[g]? = some (.cells #[a, b] t (0, 0))) :
    ((W.setCell ⟨g, 0, none⟩ x).setCell ⟨g, 1, none⟩ y).heap[g]? = some (.cells #[x, y] t (0, 0)) := by
  have h1 := heap_setCell_same W g 0 _ t x h
  have h2 := heap_setCell_same _ g 1 _ t y h1
  simpa using h2
theorem below2 {B g : Nat} {w W : World} {x y : Value} (h : Below B w W) (hg : B ≤ g) : Below B w ((W.setCell ⟨g, 0, none⟩ x).setCell ⟨g, 1, none⟩ y) := (h.setCell hg _).setCell hg _
theorem cells2 {W : World} {g : Nat} {a b : Value} {t : TypeId} (h : W.heap[g]? = some (.cells #[a, b] t (0, 0))) : W.cell? ⟨g, 0, none⟩ = some a ∧ W.cell? ⟨g, 1, none⟩ = some b ∧ (∀ j, W.frozen? ⟨g, j, none⟩ = false) :=
  ⟨by rw [cell_of_row _ _ _ _ _ _ h]; rfl, by rw [cell_of_row _ _ _ _ _ _ h]; rfl, fun j => frozen_of_row _ _ _ _ _ h⟩
theorem owns_set2 {W : World} {base g n : Nat} {v x y : Value} {xs : List Value} {t : TypeId} {size : Nat} (h : W.ownsRow base t size v n xs) (hg : g < base) : ((W.setCell ⟨g, 0, none⟩ x).setCell ⟨g, 1, none⟩ y).ownsRow base t size v n xs := by
  refine ⟨h.1, ?_⟩
  rcases h.2 with h0 | ⟨q, cap, cur, rfl, hB, hq, hn, hm, hs, ht⟩
  · exact .inl h0
  · exact .inr ⟨q, cap, cur, rfl, hB, by rw [heap_setCell_other _ _ _ _ (show q ≠ g by omega), heap_setCell_other _ _ _ _ (show q ≠ g by omega)]; exact hq, hn, hm, hs, ht⟩
theorem owns_base {W : World} {base base' n size : Nat} {v : Value} {xs : List Value} {t : TypeId} (h : W.ownsRow base t size v n xs) (hb : base' ≤ base) : W.ownsRow base' t size v n xs := by
  refine ⟨h.1, ?_⟩
  rcases h.2 with h0 | ⟨q, cap, cur, rfl, hB, hq, hn, hm, hs, ht⟩
  · exact .inl h0
  · exact .inr ⟨q, cap, cur, rfl, by omega, hq, hn, hm, hs, ht⟩
theorem own_set {W : World} {base g m n size : Nat} {v x : Value} {xs : List Value} {t : TypeId} (h : W.ownsRow base t size v n xs) (hg : g < base) : (W.setCell ⟨g, m, none⟩ x).ownsRow base t size v n xs := by
  refine ⟨h.1, ?_⟩
  rcases h.2 with h0 | ⟨q, cap, cur, rfl, hB, hq, hn, hm, hs, ht⟩
  · exact .inl h0
  · exact .inr ⟨q, cap, cur, rfl, hB, by rw [heap_setCell_other _ _ _ _ (show q ≠ g by omega)]; exact hq, hn, hm, hs, ht⟩
theorem own_far {base n size g : Nat} {t : TypeId} {v : Value} {xs : List Value} {w w' : World} (h : w.ownsRow base t size v n xs) (hg : w.grownBy w' (some g)) (hl : g < base) : w'.ownsRow base t size v n xs :=
  World.ownsRow.kept h hg (by
    cases hv : v.ownBlock with
    | none => exact .inl rfl
    | some k =>
      refine .inr (fun e => ?_)
      have h1 := (World.ownsRow.lt h k hv).1
      have : k = g := by simpa using e
      omega)
theorem cells5 {w : World} {g : Nat} {a b c d e : Value} {t : TypeId} (h : w.heap[g]? = some (.cells #[a, b, c, d, e] t (0, 0))) :
    w.cell? ⟨g, 0, none⟩ = some a ∧ w.cell? ⟨g, 1, none⟩ = some b ∧ w.cell? ⟨g, 2, none⟩ = some c ∧ w.cell? ⟨g, 3, none⟩ = some d ∧ w.cell? ⟨g, 4, none⟩ = some e ∧ ∀ j, w.frozen? ⟨g, j, none⟩ = false :=
  ⟨by rw [cell_of_row _ _ _ _ _ _ h]; rfl, by rw [cell_of_row _ _ _ _ _ _ h]; rfl, by rw [cell_of_row _ _ _ _ _ _ h]; rfl, by rw [cell_of_row _ _ _ _ _ _ h]; rfl, by rw [cell_of_row _ _ _ _ _ _ h]; rfl, fun j => frozen_of_row _ _ _ _ _ h⟩
/-- Only the blocks of these values may have been written. -/
structure GL (l : List Value) (w w' : World) : Prop where
  os : w'.os = w.os
  tape : w'.tape = w.tape
  output : w'.output = w.output
  size : w.heap.size ≤ w'.heap.size
  block : ∀ b, b < w.heap.size → (∀ v ∈ l, v.ownBlock ≠ some b) → w'.heap[b]? = w.heap[b]?
theorem GL.refl (l : List Value) (w : World) : GL l w w := ⟨rfl, rfl, rfl, Nat.le_refl _, fun _ _ _ => rfl⟩
theorem GL.trans {l : List Value} {a b c : World} (h : GL l a b) (k : GL l b c) : GL l a c :=
  ⟨k.os.trans h.os, k.tape.trans h.tape, k.output.trans h.output, Nat.le_trans h.size k.size, fun i hi hv => (k.block i (Nat.lt_of_lt_of_le hi h.size) hv).trans (h.block i hi hv)⟩
theorem GL.mono {l l' : List Value} {w w' : World} (h : GL l w w') (hs : ∀ v ∈ l, v ∈ l') : GL l' w w' := ⟨h.os, h.tape, h.output, h.size, fun b hb hv => h.block b hb (fun v hv' => hv v (hs v hv'))⟩
theorem GL.of {l : List Value} {v : Value} {w w' : World} (h : w.grownBy w' v.ownBlock) (hv : v ∈ l) : GL l w w' := ⟨h.os, h.tape, h.output, h.size, fun b hb hn => h.block b hb (fun e => hn v hv e.symm)⟩
theorem GL.alloc (l : List Value) (w : World) (o : Obj) : GL l w (w.alloc o) := ⟨rfl, rfl, rfl, by simp, fun b hb _ => heap_old _ _ _ hb⟩
theorem GL.below {l : List Value} {B : Nat} {w w' : World} (h : GL l w w') (hb : ∀ v ∈ l, ∀ b, v.ownBlock = some b → B ≤ b) (hB : B ≤ w.heap.size) : Below B w w' :=
  ⟨h.os, h.tape, h.output, h.size, fun k hk => h.block k (Nat.lt_of_lt_of_le hk hB) (fun v hv e => by have := hb v hv k e; omega)⟩
theorem GL.own {l : List Value} {w w' : World} {base n size : Nat} {t : TypeId} {u : Value} {xs : List Value} (h : GL l w w') (ho : w.ownsRow base t size u n xs) (hne : ∀ v ∈ l, u.ownBlock = none ∨ u.ownBlock ≠ v.ownBlock) : w'.ownsRow base t size u n xs := by
  refine ⟨ho.1, ?_⟩
  rcases ho.2 with h0 | ⟨q, cap, cur, rfl, hB, hq, rest⟩
  · exact .inl h0
  · refine .inr ⟨q, cap, cur, rfl, hB, (h.block q (Array.getElem?_eq_some_iff.1 hq).1 (fun v hv e => ?_)).trans hq, rest⟩
    rcases hne v hv with h1 | h1
    · simp [Value.ownBlock] at h1
    · exact h1 (by rw [e]; rfl)
end Go.Proofs.Ytpmaklbbkmghbaa

/-
  A number of 64 bits.
-/
namespace Go.Proofs.Ytpmaklbbkmghbaa
open Go.RowKit
def inI64 (x : Int) : Prop := -9223372036854775808 ≤ x ∧ x ≤ 9223372036854775807
end Go.Proofs.Ytpmaklbbkmghbaa

/-
  A fault as an error.
-/
namespace Go.Proofs.Ytpmaklbbkmghbaa
open Go.RowKit

def faultV (c : Int) : Value := .iface 161 (.agg #[.int .i64 c])
end Go.Proofs.Ytpmaklbbkmghbaa

/-
  Plain facts on numbers and lists: the CRC bit by bit.
-/
namespace Go.Proofs.Ytpmaklbbkmghbaa
open Go.RowKit

def crcBit (r : Nat) : Nat := if r % 2 = 1 then (r / 2) ^^^ 3988292384 else r / 2
def crcBits : Nat → Nat → Nat
  | 0, r => r
  | k + 1, r => crcBit (crcBits k r)
def crcByte (r : Nat) : Nat := crcBits 8 r
def crcL (r : Nat) (l : List UInt8) : Nat := l.foldl (fun r b => crcByte (r ^^^ b.toNat)) r

theorem crcBit_lt {r : Nat} (h : r < 4294967296) : crcBit r < 4294967296 := by
  unfold crcBit
  split
  · exact Nat.xor_lt_two_pow (n := 32) (by omega) (by omega)
  · omega
theorem crcBits_lt {r : Nat} (h : r < 4294967296) : ∀ k, crcBits k r < 4294967296
  | 0 => h
  | k + 1 => crcBit_lt (crcBits_lt h k)
theorem crcBits_succ (k r : Nat) : crcBits (k + 1) r = crcBit (crcBits k r) := rfl
theorem crcBits_odd {k r : Nat} (h : crcBits k r % 2 = 1) : crcBits (k + 1) r = (crcBits k r / 2) ^^^ 3988292384 := by
  rw [crcBits_succ, crcBit, if_pos h]
theorem crcBits_even {k r : Nat} (h : ¬ crcBits k r % 2 = 1) : crcBits (k + 1) r = crcBits k r / 2 := by
  rw [crcBits_succ, crcBit, if_neg h]
theorem crcByte_lt {r : Nat} (h : r < 4294967296) : crcByte r < 4294967296 := crcBits_lt h 8
theorem xor_byte_lt {r : Nat} (h : r < 4294967296) (b : UInt8) : r ^^^ b.toNat < 4294967296 :=
  Nat.xor_lt_two_pow (n := 32) (by omega) (by have := b.toNat_lt; omega)
theorem crcL_lt {r : Nat} (h : r < 4294967296) (l : List UInt8) : crcL r l < 4294967296 := by
  unfold crcL
  induction l generalizing r with
  | nil => exact h
  | cons b l ih => exact ih (crcByte_lt (xor_byte_lt h b))
theorem crcL_snoc (r : Nat) (l : List UInt8) (b : UInt8) : crcL r (l ++ [b]) = crcByte (crcL r l ^^^ b.toNat) := by
  simp [crcL]
theorem len_data (s : ByteArray) : s.data.toList.length = s.size := rfl
theorem take_snoc (s : ByteArray) (k : Nat) (h : k < s.size) : s.data.toList.take (k + 1) = s.data.toList.take k ++ [s[k]] := by
  rw [List.take_succ_eq_append_getElem (by simpa using h)]; rfl
theorem u32_and1 (X : Nat) (h : X < 4294967296) : bits .and .u32 (X : Int) 1 = ((X % 2 : Nat) : Int) := by
  have := u32_and_nat X 1 h (by omega)
  simpa [nat_mask1] using this
theorem u32_xorP (X : Nat) (h : X < 4294967296) : bits .xor .u32 ((X : Int) / 2) 3988292384 = (((X / 2) ^^^ 3988292384 : Nat) : Int) := by
  have := u32_xor_nat (X / 2) 3988292384 (by omega) (by omega)
  simpa using this
theorem u32_xorM (X : Nat) (h : X < 4294967296) : bits .xor .u32 (X : Int) 4294967295 = ((X ^^^ 4294967295 : Nat) : Int) :=
  u32_xor_nat X 4294967295 h (by omega)
theorem u32_notN (X : Nat) (h : X < 4294967296) : bits .xor .u32 IntKind.u32.max (X : Int) = ((X ^^^ 4294967295 : Nat) : Int) := by
  have e : IntKind.u32.max = ((4294967295 : Nat) : Int) := by decide
  rw [e, u32_xor_nat 4294967295 X (by omega) h, Nat.xor_comm]
theorem u32_xorB (X : Nat) (h : X < 4294967296) (b : UInt8) : bits .xor .u32 (X : Int) ((b.toNat : Int) % 4294967296) = ((X ^^^ b.toNat : Nat) : Int) := by
  have hb := b.toNat_lt
  rw [show ((b.toNat : Int) % 4294967296) = (b.toNat : Int) by omega]
  exact u32_xor_nat X b.toNat h (by omega)
theorem xorM (X : Nat) (h : X < 4294967296) : X ^^^ 4294967295 = 4294967295 - X := by
  have e : (BitVec.ofNat 32 X ^^^ BitVec.allOnes 32).toNat = 4294967295 - X := by
    rw [BitVec.xor_allOnes, BitVec.toNat_not, BitVec.toNat_ofNat, Nat.mod_eq_of_lt h]
  rw [BitVec.toNat_xor, BitVec.toNat_allOnes, BitVec.toNat_ofNat, Nat.mod_eq_of_lt h] at e
  exact e
theorem xorM_lt {X : Nat} (h : X < 4294967296) : X ^^^ 4294967295 < 4294967296 := Nat.xor_lt_two_pow (n := 32) (by omega) (by omega)
theorem xorM_xorM {X : Nat} (h : X < 4294967296) : (X ^^^ 4294967295) ^^^ 4294967295 = X := by
  rw [xorM _ (xorM_lt h), xorM _ h]; omega
theorem bcell {W w1 : World} (hb : Below W.heap.size W w1) : (∀ b o, b < W.heap.size → w1.cell? ⟨b, o, none⟩ = W.cell? ⟨b, o, none⟩) ∧ (∀ b o, b < W.heap.size → w1.frozen? ⟨b, o, none⟩ = W.frozen? ⟨b, o, none⟩) :=
  ⟨fun b o h => hb.cell (p := ⟨b, o, none⟩) h, fun b o h => hb.frozen (p := ⟨b, o, none⟩) h⟩
theorem ret_int {k : IntKind} {a b : Int} (h : a = b) : Ending.returned (.int k a) = .returned (.int k b) := by rw [h]
theorem ret_str {a b : ByteArray} (h : a = b) : Ending.returned (.string a) = .returned (.string b) := by rw [h]
theorem ret3n {a b a' b' : Int} {v v' : Value} (h1 : a = a') (h2 : b = b') (h3 : v = v') : Ending.returned (.tuple #[.int .i64 a, .int .i64 b, v]) = .returned (.tuple #[.int .i64 a', .int .i64 b', v']) := by rw [h1, h2, h3]
theorem ret_bool {a b : Bool} (h : a = b) : Ending.returned (.bool a) = .returned (.bool b) := by rw [h]
/-- the CRC that goes on from c over l -/
def crcMoreN (c : Nat) (l : List UInt8) : Nat := crcL (c ^^^ 4294967295) l ^^^ 4294967295
theorem crcMoreN_lt {c : Nat} (h : c < 4294967296) (l : List UInt8) : crcMoreN c l < 4294967296 := xorM_lt (crcL_lt (xorM_lt h) l)
theorem crcMoreN_append {c : Nat} (h : c < 4294967296) (l m : List UInt8) : crcMoreN (crcMoreN c l) m = crcMoreN c (l ++ m) := by
  unfold crcMoreN
  rw [xorM_xorM (crcL_lt (xorM_lt h) l)]
  simp [crcL]
end Go.Proofs.Ytpmaklbbkmghbaa

/-
  Contracts: the look at a text's length.
-/
namespace Go.Proofs.Ytpmaklbbkmghbaa
open Go.RowKit

theorem tooLong_no (s : ByteArray) (hs : s.size ≤ 20000) (w : World) :
    Calls Try.prog 62 #[.string s] w fun e w' => e = .returned (.bool false) ∧ w' = w := by
  have h1 : ¬ 20000 < (s.size : Int) := by omega
  go_enter Try.func62, Try.ntmps62
  go_wp2
  go_ret
  exact ⟨ret_bool (by simp), rfl⟩
theorem tooLong_yes (s : ByteArray) (hs : 20000 < s.size) (w : World) :
    Calls Try.prog 62 #[.string s] w fun e w' => e = .returned (.bool true) ∧ w' = w := by
  have h1 : 20000 < (s.size : Int) := by omega
  go_enter Try.func62, Try.ntmps62
  go_wp2
  go_ret
  exact ⟨ret_bool (by simp), rfl⟩
end Go.Proofs.Ytpmaklbbkmghbaa

/-
  A scope with three labels: 0 is jumped back to (a measure falls), 2 and 1 are jumped on to. Plain laws of the walk, no program.
-/
namespace Go.Proofs.Ytpmaklbbkmghbaa
open Go

def jumpAll (J : Nat → Act → World → Prop) (Q : Exit → Act → World → Prop) : Exit → Act → World → Prop
  | .goto l, a, w => J l a w
  | e, a, w => Q e a w
theorem wp_scope_all {P : Program} {a : Act} {w : World} {Q : Exit → Act → World → Prop} {c : Code} (rest : Nat → Code) (J : Nat → Act → World → Prop) (μ : Nat → Act → World → Nat)
    (hf : ∀ l a w, J l a w → findLabel c l = some (rest l)) (first : c.wp P (jumpAll J Q) a w)
    (pass : ∀ l a w, J l a w → (rest l).wp P (jumpAll (fun l' a' w' => J l' a' w' ∧ μ l' a' w' < μ l a w) Q) a w) : (Code.scope c).wp P Q a w := by
  intro b k cs
  have key : ∀ n l a w, μ l a w = n → J l a w → ∃ e a' w', Q e a' w' ∧ Arrives P (lone (b.at a (.code (rest l) :: .inScope c :: k)) cs w) b k cs e a' w' := by
    intro n
    induction n using Nat.strongRecOn with
    | _ n ih =>
      intro l a w hn hJ
      obtain ⟨e, a₁, w₁, hq, harr⟩ := pass l a w hJ b (.inScope c :: k) cs
      cases e with
      | normal => exact ⟨.normal, a₁, w₁, hq, Steps.trans harr (.one step_inScope)⟩
      | exit id => exact ⟨.exit id, a₁, w₁, hq, fun k' hk => harr k' (by simp [exitTo, hk])⟩
      | goto l' =>
        obtain ⟨hJ', hlt⟩ := hq
        have hg : gotoIn l' (.inScope c :: k) = some (.code (rest l') :: .inScope c :: k) := by simp [gotoIn, hf l' a₁ w₁ hJ']
        obtain ⟨e₂, a₂, w₂, hq₂, harr₂⟩ := ih _ (by omega) l' a₁ w₁ rfl hJ'
        exact ⟨e₂, a₂, w₂, hq₂, .of_steps (harr _ hg) harr₂⟩
      | ret => exact ⟨_, a₁, w₁, hq, harr⟩
      | panic ch => exact ⟨_, a₁, w₁, hq, harr⟩
      | outgrown => exact ⟨_, a₁, w₁, hq, harr⟩
  obtain ⟨e, a₁, w₁, hq, harr⟩ := first b (.inScope c :: k) cs
  cases e with
  | normal => exact ⟨.normal, a₁, w₁, hq, .head step_scope (Steps.trans harr (.one step_inScope))⟩
  | exit id => exact ⟨.exit id, a₁, w₁, hq, fun k' hk => .head step_scope (harr k' (by simp [exitTo, hk]))⟩
  | goto l' =>
    have hg : gotoIn l' (.inScope c :: k) = some (.code (rest l') :: .inScope c :: k) := by simp [gotoIn, hf l' a₁ w₁ hq]
    obtain ⟨e₂, a₂, w₂, hq₂, harr₂⟩ := key _ l' a₁ w₁ rfl hq
    exact ⟨e₂, a₂, w₂, hq₂, .of_steps (.head step_scope (harr _ hg)) harr₂⟩
  | ret => exact ⟨_, a₁, w₁, hq, .of_steps (.one step_scope) harr⟩
  | panic ch => exact ⟨_, a₁, w₁, hq, .of_steps (.one step_scope) harr⟩
  | outgrown => exact ⟨_, a₁, w₁, hq, .of_steps (.one step_scope) harr⟩

def jump3 (J0 J1 J2 : Act → World → Prop) (Q : Exit → Act → World → Prop) : Exit → Act → World → Prop
  | .goto 0, a, w => J0 a w
  | .goto 1, a, w => J1 a w
  | .goto 2, a, w => J2 a w
  | .goto _, _, _ => False
  | e, a, w => Q e a w
theorem jump3_0 {J0 J1 J2 Q a w} : jump3 J0 J1 J2 Q (.goto 0) a w = J0 a w := rfl
theorem jump3_1 {J0 J1 J2 Q a w} : jump3 J0 J1 J2 Q (.goto 1) a w = J1 a w := rfl
theorem jump3_2 {J0 J1 J2 Q a w} : jump3 J0 J1 J2 Q (.goto 2) a w = J2 a w := rfl
theorem jump3_ret {J0 J1 J2 Q a w} : jump3 J0 J1 J2 Q .ret a w = Q .ret a w := rfl

theorem wp_scope_three {P : Program} {a : Act} {w : World} {Q : Exit → Act → World → Prop} {c r0 r1 r2 : Code} (J0 J1 J2 : Act → World → Prop) (m : Act → World → Nat)
    (h0 : findLabel c 0 = some r0) (h1 : findLabel c 1 = some r1) (h2 : findLabel c 2 = some r2) (first : c.wp P (jump3 J0 J1 J2 Q) a w)
    (pass0 : ∀ a w, J0 a w → r0.wp P (jump3 (fun a' w' => J0 a' w' ∧ m a' w' < m a w) J1 J2 Q) a w)
    (pass2 : ∀ a w, J2 a w → r2.wp P (jump3 (fun _ _ => False) J1 (fun _ _ => False) Q) a w)
    (pass1 : ∀ a w, J1 a w → r1.wp P (jump3 (fun _ _ => False) (fun _ _ => False) (fun _ _ => False) Q) a w) : (Code.scope c).wp P Q a w := by
  refine wp_scope_all (fun l => if l = 0 then r0 else if l = 1 then r1 else r2) (fun l a w => (l = 0 ∧ J0 a w) ∨ (l = 1 ∧ J1 a w) ∨ (l = 2 ∧ J2 a w)) (fun l a w => if l = 0 then m a w + 2 else if l = 2 then 1 else 0) ?_ ?_ ?_
  · rintro l a w (⟨rfl, _⟩ | ⟨rfl, _⟩ | ⟨rfl, _⟩)
    · simpa using h0
    · simpa using h1
    · simpa using h2
  · refine Code.wp_mono ?_ first
    intro e a w h
    cases e with
    | goto l =>
      match l, h with
      | 0, h => exact .inl ⟨rfl, h⟩
      | 1, h => exact .inr (.inl ⟨rfl, h⟩)
      | 2, h => exact .inr (.inr ⟨rfl, h⟩)
    | _ => exact h
  · rintro l a w (⟨rfl, hJ⟩ | ⟨rfl, hJ⟩ | ⟨rfl, hJ⟩)
    · refine Code.wp_mono ?_ (pass0 a w hJ)
      intro e a' w' h
      cases e with
      | goto l =>
        match l, h with
        | 0, h => exact ⟨.inl ⟨rfl, h.1⟩, by simpa using h.2⟩
        | 1, h => exact ⟨.inr (.inl ⟨rfl, h⟩), by simp⟩
        | 2, h => exact ⟨.inr (.inr ⟨rfl, h⟩), by simp⟩
      | _ => exact h
    · refine Code.wp_mono ?_ (pass1 a w hJ)
      intro e a' w' h
      cases e with
      | goto l =>
        match l, h with
        | 0, h => exact h.elim
        | 1, h => exact h.elim
        | 2, h => exact h.elim
      | _ => exact h
    · refine Code.wp_mono ?_ (pass2 a w hJ)
      intro e a' w' h
      cases e with
      | goto l =>
        match l, h with
        | 0, h => exact h.elim
        | 1, h => exact ⟨.inr (.inl ⟨rfl, h⟩), by simp⟩
        | 2, h => exact h.elim
      | _ => exact h
end Go.Proofs.Ytpmaklbbkmghbaa

/-
  Plain facts: a number read from its bytes.
-/
namespace Go.Proofs.Ytpmaklbbkmghbaa
open Go.RowKit

def unz (u : Nat) : Int := if u % 2 = 1 then -((u / 2 : Nat) : Int) - 1 else ((u / 2 : Nat) : Int)
/-- The number, how many bytes it has, the code. -/
def rd (k u : Nat) : List UInt8 → Int × Nat × Nat
  | [] => (0, 0, 4)
  | b :: l =>
    if k = 9 ∧ 1 < b.toNat then (0, 0, 3)
    else if b.toNat < 128 then (if b.toNat = 0 ∧ 0 < k then (0, 0, 3) else (unz (u + b.toNat % 128 * 2 ^ (7 * k)), k + 1, 0))
    else rd (k + 1) (u + b.toNat % 128 * 2 ^ (7 * k)) l
def rdAt (l : List UInt8) (at' : Nat) : Int × Nat × Nat := rd 0 0 (l.drop at')
theorem drop_cons (s : ByteArray) (k : Nat) (h : k < s.size) : s.data.toList.drop k = s[k] :: s.data.toList.drop (k + 1) := by
  rw [List.drop_eq_getElem_cons (by simpa using h)]; rfl
theorem drop_none (s : ByteArray) (k : Nat) (h : s.size ≤ k) : s.data.toList.drop k = [] := List.drop_eq_nil_of_le (by simpa using h)
theorem rd_short (k u : Nat) : rd k u [] = (0, 0, 4) := rfl
theorem rd_big {k u : Nat} {b : UInt8} {l : List UInt8} (h : k = 9) (hb : 1 < b.toNat) : rd k u (b :: l) = (0, 0, 3) := by simp [rd, h, hb]
theorem rd_nought {k u : Nat} {b : UInt8} {l : List UInt8} (h : 0 < k) (hb : b.toNat = 0) : rd k u (b :: l) = (0, 0, 3) := by simp [rd, h, hb]
theorem rd_last {k u : Nat} {b : UInt8} {l : List UInt8} (h : ¬ (k = 9 ∧ 1 < b.toNat)) (hb : b.toNat < 128) (hz : ¬ (b.toNat = 0 ∧ 0 < k)) : rd k u (b :: l) = (unz (u + b.toNat % 128 * 2 ^ (7 * k)), k + 1, 0) := by
  simp only [rd, if_neg h, if_pos hb, if_neg hz]
theorem rd_more {k u : Nat} {b : UInt8} {l : List UInt8} (h : ¬ k = 9) (hb : ¬ b.toNat < 128) : rd k u (b :: l) = rd (k + 1) (u + b.toNat % 128 * 2 ^ (7 * k)) l := by
  have h' : ¬ (k = 9 ∧ 1 < b.toNat) := fun e => h e.1
  rw [rd, if_neg h', if_neg hb]
theorem u8_and127 (b : Nat) (h : b < 256) : bits .and .u8 (b : Int) 127 = ((b % 128 : Nat) : Int) := by
  have := u8_and_nat b 127 h (by omega)
  simpa [nat_mask7] using this
theorem next_lt {k u b : Nat} (hu : u < 2 ^ (7 * k)) : u + b % 128 * 2 ^ (7 * k) < 2 ^ (7 * (k + 1)) := by
  have e : 2 ^ (7 * (k + 1)) = 128 * 2 ^ (7 * k) := by rw [Nat.mul_add, Nat.pow_add, Nat.mul_comm]
  rw [e]
  have : b % 128 < 128 := Nat.mod_lt _ (by omega)
  have h2 : b % 128 * 2 ^ (7 * k) ≤ 127 * 2 ^ (7 * k) := Nat.mul_le_mul_right _ (by omega)
  omega
theorem pow_le {k : Nat} (h : k ≤ 9) : 2 ^ (7 * k) ≤ 9223372036854775808 := Nat.pow_le_pow_right (n := 2) (by omega) (show 7 * k ≤ 63 by omega)
theorem or_join {k u b : Nat} (hu : u < 2 ^ (7 * k)) : u ||| b * 2 ^ (7 * k) = u + b * 2 ^ (7 * k) := by
  rw [Nat.or_comm, nat_join (7 * k) (b * 2 ^ (7 * k)) u (by simp) hu, Nat.add_comm]
/-- The product fits: at the tenth byte it is 0 or 1. -/
theorem prod_lt {k b : Nat} (hk : k ≤ 9) (h : ¬ (k = 9 ∧ 1 < b)) : b % 128 * 2 ^ (7 * k) < 18446744073709551616 := by
  by_cases h9 : k = 9
  · subst h9
    have : b ≤ 1 := by
      rcases Nat.lt_or_ge 1 b with h1 | h1
      · exact absurd ⟨rfl, h1⟩ h
      · exact h1
    have : b % 128 ≤ 1 := by omega
    have : b % 128 * 2 ^ (7 * 9) ≤ 1 * 2 ^ (7 * 9) := Nat.mul_le_mul_right _ this
    omega
  · have h1 := pow_le (k := k + 1) (by omega)
    have h2 := next_lt (k := k) (u := 0) (b := b) (Nat.two_pow_pos _)
    omega
theorem or_u64 {k u b : Nat} (hu : u < 2 ^ (7 * k)) (hp : b % 128 * 2 ^ (7 * k) < 18446744073709551616) (hk : k ≤ 9) :
    bits .or .u64 (u : Int) (IntKind.u64.wrap ((b : Int) % 128 * 2 ^ (7 * k))) = ((u + b % 128 * 2 ^ (7 * k) : Nat) : Int) := by
  have e : (b : Int) % 128 * 2 ^ (7 * k) = ((b % 128 * 2 ^ (7 * k) : Nat) : Int) := by simp
  have hw : IntKind.u64.wrap ((b % 128 * 2 ^ (7 * k) : Nat) : Int) = ((b % 128 * 2 ^ (7 * k) : Nat) : Int) := by rw [IntKind.wrap_u64]; omega
  have hu2 : u < 18446744073709551616 := Nat.lt_of_lt_of_le hu (Nat.le_trans (pow_le hk) (by omega))
  rw [e, hw, u64_or_nat _ _ hu2 hp, or_join hu]
theorem u64_and1 (u : Nat) (hu : u < 18446744073709551616) : bits .and .u64 (u : Int) 1 = ((u % 2 : Nat) : Int) := by
  have := u64_and_nat u 1 hu (by omega)
  simpa [nat_mask1] using this
theorem i64_xor_neg (a : Nat) (ha : a < 9223372036854775808) : bits .xor .i64 (a : Int) (-1) = -(a : Int) - 1 := by
  show IntKind.i64.wrap ((BitVec.ofInt 64 (a : Int) ^^^ BitVec.ofInt 64 (-1)).toNat : Int) = _
  have h1 : BitVec.ofInt 64 (-1) = BitVec.allOnes 64 := by decide
  rw [h1, BitVec.xor_allOnes, BitVec.toNat_not, ofInt_u64 a (by omega)]
  simp [IntKind.wrap, IntKind.bits, IntKind.signed]
  omega
theorem i64_xor_zero (a : Nat) (ha : a < 9223372036854775808) : bits .xor .i64 (a : Int) 0 = (a : Int) := by
  show IntKind.i64.wrap ((BitVec.ofInt 64 (a : Int) ^^^ BitVec.ofInt 64 0).toNat : Int) = _
  have h1 : BitVec.ofInt 64 0 = 0#64 := by decide
  rw [h1, BitVec.xor_zero, ofInt_u64 a (by omega)]
  simp [IntKind.wrap, IntKind.bits, IntKind.signed]
  omega
theorem unz_odd {u : Nat} (hu : u < 18446744073709551616) (h : u % 2 = 1) : bits .xor .i64 ((u : Int) / 2) (-1) = unz u := by
  have := i64_xor_neg (u / 2) (by omega)
  rw [unz, if_pos h, ← this]; simp
theorem unz_even {u : Nat} (hu : u < 18446744073709551616) (h : ¬ u % 2 = 1) : bits .xor .i64 ((u : Int) / 2) 0 = unz u := by
  have := i64_xor_zero (u / 2) (by omega)
  rw [unz, if_neg h, ← this]; simp
theorem or_first (b : Nat) : bits .or .u64 0 ((b : Int) % 128) = ((b % 128 : Nat) : Int) := by
  have := u64_or_nat 0 (b % 128) (by omega) (by omega)
  simpa using this
theorem wrap_prod {k b : Nat} (hp : b % 128 * 2 ^ (7 * k) < 18446744073709551616) : IntKind.u64.wrap ((b : Int) % 128 * 2 ^ (7 * k)) = ((b % 128 * 2 ^ (7 * k) : Nat) : Int) := by
  have e : (b : Int) % 128 * 2 ^ (7 * k) = ((b % 128 * 2 ^ (7 * k) : Nat) : Int) := by simp
  rw [e, IntKind.wrap_u64]; omega
theorem sum_lt {k u b : Nat} (hk : k ≤ 9) (hu : u < 2 ^ (7 * k)) (hA : ¬ (k = 9 ∧ 1 < b)) : u + b % 128 * 2 ^ (7 * k) < 18446744073709551616 := by
  have := pow_le hk
  rcases Nat.lt_or_ge k 9 with h9 | h9
  · have := next_lt (b := b) hu
    have := pow_le (k := k + 1) (by omega)
    omega
  · obtain rfl : k = 9 := by omega
    have h1 : ¬ 1 < b := fun h => hA ⟨rfl, h⟩
    have : b % 128 ≤ 1 := by omega
    have : b % 128 * 2 ^ (7 * 9) ≤ 1 * 2 ^ (7 * 9) := Nat.mul_le_mul_right _ this
    omega
theorem unz_eq (u : Nat) : unz u = if u % 2 = 1 then -((u / 2 : Nat) : Int) - 1 else ((u / 2 : Nat) : Int) := rfl
end Go.Proofs.Ytpmaklbbkmghbaa

/-
  Contract: readNum.
-/
namespace Go.Proofs.Ytpmaklbbkmghbaa
open Go.RowKit

def errV (c : Nat) : Value := if c = 0 then .nilIface else faultV c
def behind (at' : Nat) (r : Int × Nat × Nat) : Int := if r.2.2 = 0 then ((at' + r.2.1 : Nat) : Int) else 0

def RJ0 (s : ByteArray) (p : Nat) (w : World) : Act → World → Prop := fun a' w' => w' = w ∧ ∃ (k u : Nat) (at' kk : Int) (u8 u10 u11 u12 u13 u14 u15 u16 u17 u18 u19 u20 u21 u22 u23 u24 u25 u26 u27 u28 u29 u30 u31 u32 u33 u34 u35 u36 u37 u38 : Value), a' = ⟨#[.string s, .int .i64 at', undef, undef, .int .i64 0, .int .i64 0, .nilIface, .int .u64 (u : Nat), u8, .int .i64 kk, u10, u11, u12, u13, u14, u15, u16, u17, u18, u19, u20, u21, u22, u23, u24, u25, u26, u27, u28, u29, u30, u31, u32, u33, u34, u35, u36, u37, u38, undef, undef, undef, undef, undef, undef, undef, undef, undef, undef, undef, undef, undef, undef, undef, undef, undef], []⟩ ∧ at' = (p : Int) + k ∧ kk = (k : Int) ∧ k ≤ 9 ∧ Hid (u < 2 ^ (7 * k)) ∧ Hid (rdAt s.data.toList p = rd k u (s.data.toList.drop (p + k)))
def RJ1 (s : ByteArray) (p : Nat) (w : World) : Act → World → Prop := fun a' w' => w' = w ∧ ∃ (u1 u2 u3 u4 u5 u6 u7 u8 u9 u10 u11 u12 u13 u14 u15 u16 u17 u18 u19 u20 u21 u22 u23 u24 u25 u26 u27 u28 u29 u30 u31 u32 u33 u34 u35 u36 u37 u38 u39 u40 u41 u42 u43 u44 u45 u46 u47 u48 u49 u50 u51 u52 u53 : Value), a' = ⟨#[.string s, u1, u2, u3, u4, u5, u6, u7, u8, u9, u10, u11, u12, u13, u14, u15, u16, u17, u18, u19, u20, u21, u22, u23, u24, u25, u26, u27, u28, u29, u30, u31, u32, u33, u34, u35, u36, u37, u38, u39, u40, u41, u42, u43, u44, u45, u46, u47, u48, u49, u50, u51, u52, u53, undef, undef], []⟩ ∧ Hid (rdAt s.data.toList p = (0, 0, 3))
def RJ2 (s : ByteArray) (p : Nat) (w : World) : Act → World → Prop := fun a' w' => w' = w ∧ ∃ (k u b : Nat) (at' kk : Int) (u10 u11 u12 u13 u14 u15 u16 u17 u18 u19 u20 u21 u22 u23 u24 u25 u26 u27 u28 u29 u30 u31 u32 u33 u34 u35 u36 u37 u38 : Value), a' = ⟨#[.string s, .int .i64 at', undef, undef, .int .i64 0, .int .i64 0, .nilIface, .int .u64 (u : Nat), .int .u8 (b : Nat), .int .i64 kk, u10, u11, u12, u13, u14, u15, u16, u17, u18, u19, u20, u21, u22, u23, u24, u25, u26, u27, u28, u29, u30, u31, u32, u33, u34, u35, u36, u37, u38, undef, undef, undef, undef, undef, undef, undef, undef, undef, undef, undef, undef, undef, undef, undef, undef, undef], []⟩ ∧ at' = (p : Int) + k + 1 ∧ kk = (k : Int) + 1 ∧ k ≤ 9 ∧ p + k + 1 ≤ s.size ∧ b < 128 ∧ Hid (u < 18446744073709551616) ∧ Hid (b = 0 ∧ 0 < k → rdAt s.data.toList p = (0, 0, 3)) ∧ Hid (¬ (b = 0 ∧ 0 < k) → rdAt s.data.toList p = (unz u, k + 1, 0))
set_option maxRecDepth 1000000 in
set_option maxHeartbeats 4000000 in
theorem readNum_big (s : ByteArray) (p : Nat) (hs : s.size ≤ 1048576) (w : World) :
    Calls Try.prog 125 #[.string s, .int .i64 p] w fun e w' => e = .returned (.tuple #[.int .i64 (rdAt s.data.toList p).1, .int .i64 (behind p (rdAt s.data.toList p)), errV (rdAt s.data.toList p).2.2]) ∧ w' = w := by
  go_enter Try.func125, Try.ntmps125
  go_wp2
  refine wp_scope_three (RJ0 s p w) (RJ1 s p w) (RJ2 s p w) (fun a' _ => 10 - (intOf (a'.tmps.getD 9 undef)).toNat) rfl rfl rfl ?_ ?_ ?_ ?_
  · by_cases hlt : p < s.size
    · have hbl : s[p].toNat < 256 := s[p].toNat_lt
      have hand := u8_and127 s[p].toNat hbl
      have hor := or_first s[p].toNat
      have HD : Hid (s.data.toList.drop p = s[p] :: s.data.toList.drop (p + 1)) := drop_cons s p hlt
      by_cases hb : s[p].toNat < 128
      · have HV : Hid (rdAt s.data.toList p = (unz (s[p].toNat % 128), 1, 0)) := by
          show rd 0 0 _ = _
          rw [HD.out, rd_last (by omega) hb (by omega)]; simp
        have hu2 : s[p].toNat % 128 < 18446744073709551616 := by omega
        have HU2 : Hid (s[p].toNat % 128 < 18446744073709551616) := hu2
        clear hu2
        generalize s[p].toNat % 128 = u2 at hor HV HU2
        go_wp2
        go_step3
        go_wp2
        go_step3
        show RJ2 s p w _ _
        exact ⟨rfl, 0, u2, s[p].toNat, _, _, _, _, _, _, _, _, _, _, _, _, _, _, _, _, _, _, _, _, _, _, _, _, _, _, _, _, _, _, _, rfl, by simp, by simp, by omega, by omega, hb, HU2, fun h => absurd h.2 (by omega), fun _ => HV.out⟩
      · have HV : Hid (rdAt s.data.toList p = rd 1 (s[p].toNat % 128) (s.data.toList.drop (p + 1))) := by
          show rd 0 0 _ = _
          rw [HD.out, rd_more (by omega) hb]; simp
        have HU2 : Hid (s[p].toNat % 128 < 2 ^ (7 * 1)) := by show _ < _; omega
        generalize s[p].toNat % 128 = u2 at hor HV HU2
        go_wp2
        go_step3
        go_wp2
        go_step3
        show RJ0 s p w _ _
        exact ⟨rfl, 1, u2, _, _, _, _, _, _, _, _, _, _, _, _, _, _, _, _, _, _, _, _, _, _, _, _, _, _, _, _, _, _, _, _, rfl, by simp, by simp, by omega, HU2, HV⟩
    · have HF : Hid (rdAt s.data.toList p = (0, 0, 4)) := by
        show rd 0 0 _ = _
        rw [drop_none _ _ (by omega), rd_short]
      go_wp2
      go_step3
      go_wp2
      rw [jump3_ret]
      go_ret3
      exact ⟨by rw [HF.out]; rfl, rfl⟩
  · rintro a' w' ⟨rfl, k, u, at', kk, u8, u10, u11, u12, u13, u14, u15, u16, u17, u18, u19, u20, u21, u22, u23, u24, u25, u26, u27, u28, u29, u30, u31, u32, u33, u34, u35, u36, u37, u38, rfl, rfl, rfl, hk, HU, HR⟩
    by_cases hlt : p + k < s.size
    · have hbl : s[p + k].toNat < 256 := s[p + k].toNat_lt
      have hand := u8_and127 s[p + k].toNat hbl
      have HD : Hid (s.data.toList.drop (p + k) = s[p + k] :: s.data.toList.drop (p + k + 1)) := drop_cons s (p + k) hlt
      by_cases hA : k = 9 ∧ 1 < s[p + k].toNat
      · have HF : Hid (rdAt s.data.toList p = (0, 0, 3)) := by
          show _ = _
          rw [HR.out, HD.out, rd_big hA.1 hA.2]
        have h9 : 9 ≤ k := by omega
        have h1 := hA.2
        clear hA HR HD HU
        go_wp2
        go_step3
        show RJ1 s p w' _ _
        exact ⟨rfl, _, _, _, _, _, _, _, _, _, _, _, _, _, _, _, _, _, _, _, _, _, _, _, _, _, _, _, _, _, _, _, _, _, _, _, _, _, _, _, _, _, _, _, _, _, _, _, _, _, _, _, _, _, rfl, HF⟩
      · have hpl := prod_lt hk hA
        have hor := or_u64 HU.out hpl hk
        by_cases hb : s[p + k].toNat < 128
        · have HZ : Hid (s[p + k].toNat = 0 ∧ 0 < k → rdAt s.data.toList p = (0, 0, 3)) := fun h => by rw [HR.out, HD.out, rd_nought h.2 h.1]
          have HV : Hid (¬ (s[p + k].toNat = 0 ∧ 0 < k) → rdAt s.data.toList p = (unz (u + s[p + k].toNat % 128 * 2 ^ (7 * k)), k + 1, 0)) := fun h => by rw [HR.out, HD.out, rd_last hA hb h]
          have HU2 : Hid (u + s[p + k].toNat % 128 * 2 ^ (7 * k) < 18446744073709551616) := by
            show _ < _
            have := pow_le hk
            have := HU.out
            rcases Nat.lt_or_ge k 9 with h9 | h9
            · have := next_lt (b := s[p + k].toNat) HU.out
              have := pow_le (k := k + 1) (by omega)
              omega
            · obtain rfl : k = 9 := by omega
              have h1 : ¬ 1 < s[p + 9].toNat := fun h => hA ⟨rfl, h⟩
              have : s[p + 9].toNat % 128 ≤ 1 := by omega
              have : s[p + 9].toNat % 128 * 2 ^ (7 * 9) ≤ 1 * 2 ^ (7 * 9) := Nat.mul_le_mul_right _ this
              omega
          generalize u + s[p + k].toNat % 128 * 2 ^ (7 * k) = u2 at hor HV HU2
          clear hpl HR HD HU
          have hA' : ((k : Int) + 1 == 10 && decide (1 < (s[p + k].toNat : Int))) = false := by
            rw [Bool.and_eq_false_iff]
            by_cases h9 : k = 9
            · right; have : ¬ 1 < s[p + k].toNat := fun h => hA ⟨h9, h⟩
              simp; omega
            · left; simp; omega
          rcases Nat.lt_or_ge k 9 with h9 | h9
          · go_wp2
            go_step3
            show RJ2 s p w' _ _
            exact ⟨rfl, k, u2, s[p + k].toNat, _, _, _, _, _, _, _, _, _, _, _, _, _, _, _, _, _, _, _, _, _, _, _, _, _, _, _, _, _, _, _, rfl, rfl, rfl, hk, by omega, hb, HU2, HZ, HV⟩
          · have h1 : ¬ 1 < s[p + k].toNat := fun h => hA ⟨by omega, h⟩
            clear hA' hA
            go_wp2
            go_step3
            show RJ2 s p w' _ _
            exact ⟨rfl, k, u2, s[p + k].toNat, _, _, _, _, _, _, _, _, _, _, _, _, _, _, _, _, _, _, _, _, _, _, _, _, _, _, _, _, _, _, _, rfl, by omega, by omega, hk, by omega, hb, HU2, HZ, HV⟩
        · have hk8 : k < 9 := by
            rcases Nat.lt_or_ge k 9 with h9 | h9
            · exact h9
            · exact absurd ⟨by omega, by omega⟩ hA
          have HU2 : Hid (u + s[p + k].toNat % 128 * 2 ^ (7 * k) < 2 ^ (7 * (k + 1))) := next_lt HU.out
          have HR2 : Hid (rdAt s.data.toList p = rd (k + 1) (u + s[p + k].toNat % 128 * 2 ^ (7 * k)) (s.data.toList.drop (p + (k + 1)))) := by
            show _ = _
            rw [HR.out, HD.out, rd_more (by omega) hb]; rfl
          generalize u + s[p + k].toNat % 128 * 2 ^ (7 * k) = u2 at hor HU2 HR2
          clear hpl HR HD HU hA
          go_wp2
          go_step3
          show RJ0 s p w' _ _ ∧ _
          exact ⟨⟨rfl, k + 1, u2, _, _, _, _, _, _, _, _, _, _, _, _, _, _, _, _, _, _, _, _, _, _, _, _, _, _, _, _, _, _, _, _, rfl, by omega, by omega, by omega, HU2, HR2⟩, by simp [intOf]; omega⟩
    · have HF : Hid (rdAt s.data.toList p = (0, 0, 4)) := by
        show _ = _
        rw [HR.out, drop_none _ _ (by omega), rd_short]
      go_wp2
      rw [jump3_ret]
      go_ret3
      exact ⟨by rw [HF.out]; rfl, rfl⟩
  · rintro a' w' ⟨rfl, k, u, b, at', kk, u10, u11, u12, u13, u14, u15, u16, u17, u18, u19, u20, u21, u22, u23, u24, u25, u26, u27, u28, u29, u30, u31, u32, u33, u34, u35, u36, u37, u38, rfl, rfl, rfl, hk, hle, hb, HU, HZ, HV⟩
    by_cases hz : b = 0 ∧ 0 < k
    · have HF : Hid (rdAt s.data.toList p = (0, 0, 3)) := HZ.out hz
      obtain ⟨rfl, hk0⟩ := hz
      clear HZ HV HU
      go_wp2
      go_step3
      show RJ1 s p w' _ _
      exact ⟨rfl, _, _, _, _, _, _, _, _, _, _, _, _, _, _, _, _, _, _, _, _, _, _, _, _, _, _, _, _, _, _, _, _, _, _, _, _, _, _, _, _, _, _, _, _, _, _, _, _, _, _, _, _, _, rfl, HF⟩
    · have HF : Hid (rdAt s.data.toList p = (unz u, k + 1, 0)) := HV.out hz
      have hu : u < 18446744073709551616 := HU.out
      have ha1 := u64_and1 u hu
      have hcon : ((b : Int) == 0 && decide (1 < (k : Int) + 1)) = false := by
        rw [Bool.and_eq_false_iff]
        by_cases hb0 : b = 0
        · right; have : ¬ 0 < k := fun h => hz ⟨hb0, h⟩
          simp; omega
        · left; simp; omega
      clear HZ HV HU
      rcases Nat.mod_two_eq_zero_or_one u with hm | hm
      · have HX : Hid (bits .xor .i64 ((u : Int) / 2) 0 = unz u) := unz_even hu (by omega)
        rw [hm] at ha1
        go_wp2
        all_goals
          rw [jump3_ret]
          go_ret3
          exact ⟨ret3n (by rw [HF.out]; exact HX.out) (by rw [HF.out]; simp [behind]; omega) (by rw [HF.out]; rfl), rfl⟩
      · have HX : Hid (bits .xor .i64 ((u : Int) / 2) (-1) = unz u) := unz_odd hu hm
        rw [hm] at ha1
        go_wp2
        all_goals
          rw [jump3_ret]
          go_ret3
          exact ⟨ret3n (by rw [HF.out]; exact HX.out) (by rw [HF.out]; simp [behind]; omega) (by rw [HF.out]; rfl), rfl⟩
  · rintro a' w' ⟨rfl, u1, u2, u3, u4, u5, u6, u7, u8, u9, u10, u11, u12, u13, u14, u15, u16, u17, u18, u19, u20, u21, u22, u23, u24, u25, u26, u27, u28, u29, u30, u31, u32, u33, u34, u35, u36, u37, u38, u39, u40, u41, u42, u43, u44, u45, u46, u47, u48, u49, u50, u51, u52, u53, rfl, HF⟩
    go_wp2
    rw [jump3_ret]
    go_ret3
    exact ⟨by rw [HF.out]; rfl, rfl⟩
theorem readNum_any (s : ByteArray) (p : Nat) (hs : s.size ≤ 20000) (w : World) :
    Calls Try.prog 125 #[.string s, .int .i64 p] w fun e w' => e = .returned (.tuple #[.int .i64 (rdAt s.data.toList p).1, .int .i64 (behind p (rdAt s.data.toList p)), errV (rdAt s.data.toList p).2.2]) ∧ w' = w := readNum_big s p (by omega) w
end Go.Proofs.Ytpmaklbbkmghbaa

/-
  Structs of three fields in a block of their own. Plain laws, no program.
-/
namespace Go.Proofs.Ytpmaklbbkmghbaa
open Go.RowKit

theorem set3 {W : World} {g : Nat} {a b c x y z : Value} {t : TypeId} (h : W.heap[g]? = some (.cells #[a, b, c] t (0, 0))) :
    (((W.setCell ⟨g, 0, none⟩ x).setCell ⟨g, 1, none⟩ y).setCell ⟨g, 2, none⟩ z).heap[g]? = some (.cells #[x, y, z] t (0, 0)) := by
  have h1 := heap_setCell_same W g 0 _ t x h
  have h2 := heap_setCell_same _ g 1 _ t y h1
  have h3 := heap_setCell_same _ g 2 _ t z h2
  simpa using h3
theorem below3 {B g : Nat} {w W : World} {x y z : Value} (h : Below B w W) (hg : B ≤ g) : Below B w (((W.setCell ⟨g, 0, none⟩ x).setCell ⟨g, 1, none⟩ y).setCell ⟨g, 2, none⟩ z) :=
  ((h.setCell hg _).setCell hg _).setCell hg _
theorem cells3 {W : World} {g : Nat} {a b c : Value} {t : TypeId} (h : W.heap[g]? = some (.cells #[a, b, c] t (0, 0))) :
    W.cell? ⟨g, 0, none⟩ = some a ∧ W.cell? ⟨g, 1, none⟩ = some b ∧ W.cell? ⟨g, 2, none⟩ = some c ∧ (∀ j, W.frozen? ⟨g, j, none⟩ = false) :=
  ⟨by rw [cell_of_row _ _ _ _ _ _ h]; rfl, by rw [cell_of_row _ _ _ _ _ _ h]; rfl, by rw [cell_of_row _ _ _ _ _ _ h]; rfl, fun j => frozen_of_row _ _ _ _ _ h⟩

end Go.Proofs.Ytpmaklbbkmghbaa

/-
  NumOut as a value, and as a result in its block.
-/
namespace Go.Proofs.Ytpmaklbbkmghbaa
open Go.RowKit

def nOut (n a c : Int) : Value := .agg #[.int .i64 n, .int .i64 a, .int .i64 c]
theorem resNum {fn : Func} {p : Tmp} (h : fn.results = #[.cell p 149]) (tmps : Array Value) (w : World) (g : Nat) (x y z : Value) (hp : tmps.getD p undef = .pointer (some ⟨g, 0, none⟩))
    (hg : w.heap[g]? = some (.cells #[x, y, z] 149 (0, 0))) : (results fn tmps).run Try.prog w = .ok (.agg #[x, y, z]) w :=
  results_cell_row h tmps w g 149 #[x, y, z] (0, 0) _ hp hg Try.underlying149 rfl (by kernel_rfl)
end Go.Proofs.Ytpmaklbbkmghbaa

/-
  What GetNum answers. Plain.
-/
namespace Go.Proofs.Ytpmaklbbkmghbaa
open Go.RowKit

/-- What GetNum answers: the number, the place behind it, the code. -/
def getNum3 (s : ByteArray) (a : Int) : Int × Int × Nat :=
  if 20000 < s.size then (0, 0, 2) else if a < 0 then (0, 0, 1) else ((rdAt s.data.toList a.toNat).1, behind a.toNat (rdAt s.data.toList a.toNat), (rdAt s.data.toList a.toNat).2.2)
def getNumV (s : ByteArray) (a : Int) : Value := nOut (getNum3 s a).1 (getNum3 s a).2.1 (getNum3 s a).2.2

end Go.Proofs.Ytpmaklbbkmghbaa

/-
  Bytes that a call itself made, turned into a text.
-/
namespace Go.Proofs.Ytpmaklbbkmghbaa
open Go.RowKit

theorem Try.infoU8 : (Try.prog.info? 5).map (fun i => (i.zero, i.size, i.bytes)) = some (some (.int .u8 0), 1, 1) := by kernel_rfl

theorem convOwn {W : World} {base n : Nat} {v : Value} {xs : List Int} (h : W.ownsRow base 5 1 v n (xs.map (Value.int .u8))) :
    (convert 82 9 v).run Try.prog W = .ok (.string (strOfNums xs)) W := by
  have hx : xs.length = n := by simpa using h.1
  rcases h.2 with ⟨rfl, rfl⟩ | ⟨g, cap, cur, rfl, hb, hg, hn, hm, hs, ht⟩
  · obtain rfl : xs = [] := List.eq_nil_of_length_eq_zero hx
    exact run_convert_bytes_nil _ 82 5 Try.underlying82 Try.underlying5 0 0 9 Try.underlying9
  · refine run_convert_bytes_arg _ 82 5 Try.underlying82 Try.underlying5 g 0 n cap xs hx (fun i hi => ?_) 9 Try.underlying9
    have hc := World.ownsRow.cellAt h i (by omega)
    rw [Nat.zero_add, hc]
    simp [List.getElem?_eq_getElem (show i < xs.length by omega)]
end Go.Proofs.Ytpmaklbbkmghbaa

/-
  Contracts: PutNum of the program and of the specification.
-/
namespace Go.Proofs.Ytpmaklbbkmghbaa
open Go.RowKit

/-- The number's bytes, seven bits each, the lowest first. -/
def putL : Nat → Nat → List Int
  | 0, u => [(u : Int)]
  | f + 1, u => if u < 128 then [(u : Int)] else ((u % 128 + 128 : Nat) : Int) :: putL f (u / 128)
def foldN (n : Int) : Nat := if n < 0 then (-2 * n - 1).toNat else (2 * n).toNat
theorem foldN_lt (n : Int) (h1 : -9223372036854775808 ≤ n) (h2 : n ≤ 9223372036854775807) : foldN n < 18446744073709551616 := by
  unfold foldN; split <;> omega

theorem fold_any (n : Int) (h1 : -9223372036854775808 ≤ n) (h2 : n ≤ 9223372036854775807) (w : World) :
    Calls Try.prog 92 #[.int .i64 n] w fun e w' => e = .returned (.int .u64 (foldN n : Nat)) ∧ w' = w := by
  by_cases h : n < 0
  · have H : Hid ((foldN n : Int) = -2 * n - 1) := by show _ = _; simp only [foldN, if_pos h]; omega
    go_enter Try.func92, Try.ntmps92
    go_wp2
    go_ret
    exact ⟨ret_int (by rw [H.out]; omega), rfl⟩
  · have H : Hid ((foldN n : Int) = 2 * n) := by show _ = _; simp only [foldN, if_neg h]; omega
    go_enter Try.func92, Try.ntmps92
    go_wp2
    go_ret
    exact ⟨ret_int (by rw [H.out]), rfl⟩

theorem u64_notN (X : Nat) (h : X < 18446744073709551616) : bits .xor .u64 (X : Int) 18446744073709551615 = ((18446744073709551615 - X : Nat) : Int) := by
  have := u64_xor_nat X 18446744073709551615 h (by omega)
  have e : (BitVec.ofNat 64 X ^^^ BitVec.allOnes 64).toNat = 18446744073709551615 - X := by
    rw [BitVec.xor_allOnes, BitVec.toNat_not, BitVec.toNat_ofNat, Nat.mod_eq_of_lt h]
  rw [BitVec.toNat_xor, BitVec.toNat_allOnes, BitVec.toNat_ofNat, Nat.mod_eq_of_lt h] at e
  have e' : X ^^^ 18446744073709551615 = 18446744073709551615 - X := e
  rw [e'] at this
  exact this
theorem u64_xor0 (X : Nat) (h : X < 18446744073709551616) : bits .xor .u64 (X : Int) 0 = (X : Int) := by
  have := u64_xor_nat X 0 h (by omega)
  simpa using this
theorem putFold (n : Int) (h1 : -9223372036854775808 ≤ n) (h2 : n ≤ 9223372036854775807) :
    bits .xor .u64 (IntKind.u64.wrap (IntKind.u64.wrap n * 2)) (IntKind.u64.wrap (n / 9223372036854775808)) = (foldN n : Nat) := by
  simp only [IntKind.wrap_u64]
  by_cases h : n < 0
  · have e1 : n % 18446744073709551616 * 2 % 18446744073709551616 = ((2 * n + 18446744073709551616).toNat : Int) := by omega
    have e2 : n / 9223372036854775808 % 18446744073709551616 = 18446744073709551615 := by omega
    rw [e1, e2, u64_notN _ (by omega)]
    simp only [foldN, if_pos h]; omega
  · have e1 : n % 18446744073709551616 * 2 % 18446744073709551616 = ((2 * n).toNat : Int) := by omega
    have e2 : n / 9223372036854775808 % 18446744073709551616 = 0 := by omega
    rw [e1, e2, u64_xor0 _ (by omega)]
    simp only [foldN, if_neg h]

theorem or128 : ∀ x : Fin 256, x.val ||| 128 = x.val % 128 + 128 := by decide +kernel
theorem u8_or128N (U : Nat) : bits .or .u8 ((U : Int) % 256) 128 = ((U % 128 + 128 : Nat) : Int) := by
  have h := u8_or_nat (U % 256) 128 (by omega) (by omega)
  rw [or128 ⟨U % 256, by omega⟩] at h
  have e : (((U % 256 : Nat)) : Int) = (U : Int) % 256 := by omega
  rw [e] at h
  simp only at h
  rw [show U % 256 % 128 = U % 128 by omega] at h
  exact h
theorem putL_small (f U : Nat) (h : U < 128) : putL f U = [(U : Int)] := by cases f <;> simp [putL, h]
theorem putL_big (f U : Nat) (h : ¬ U < 128) : putL (f + 1) U = ((U % 128 + 128 : Nat) : Int) :: putL f (U / 128) := by simp [putL, h]
theorem pow_step (k U : Nat) (hk : k < 9) (h : U < 2 ^ (64 - 7 * k)) : U / 128 < 2 ^ (64 - 7 * (k + 1)) := by
  have e : 64 - 7 * k = (64 - 7 * (k + 1)) + 7 := by omega
  rw [e, Nat.pow_add] at h
  exact Nat.div_lt_of_lt_mul (by rw [Nat.mul_comm]; exact h)
theorem lt_nine (k U : Nat) (hk : k ≤ 9) (h : U < 2 ^ (64 - 7 * k)) (hb : ¬ U < 128) : k < 9 := by
  rcases Nat.lt_or_ge k 9 with h9 | h9
  · exact h9
  · obtain rfl : k = 9 := by omega
    omega

theorem sliceArr10 (W : World) (g k : Nat) (hk : k ≤ 9) :
    (Instr.sliceAt 125 (.pointer (some ⟨g, 0, none⟩)) none (some (.int .i64 ((k : Int) + 1))) none).run Try.prog W = .ok (.slice (some ⟨g, 0, none⟩) (k + 1) 10) W := by
  have ht : Try.prog.underlying 125 = some (.array (Try.prog.arrayLen 125) (Try.prog.elem 125)) := by kernel_rfl
  have hl : Try.prog.arrayLen 125 = 10 := by kernel_rfl
  have hs : ∀ w, (sizeOf (Try.prog.elem 125)).run Try.prog w = .ok 1 w := fun w => by kernel_rfl
  rw [run_sliceAt_array_h W 125 _ ht .i64 ((k : Int) + 1) (by omega) (by rw [hl]; omega), hs, hl]
  have e : ((k : Int) + 1).toNat = k + 1 := by omega
  simp [Result.andThen, slicedAt, e, Addr.add]
set_option maxRecDepth 100000 in
theorem implPutNum_any (n : Int) (h1 : -9223372036854775808 ≤ n) (h2 : n ≤ 9223372036854775807) (w : World) :
    Calls Try.prog 55 #[.int .i64 n] w fun e w' => e = .returned (.string (strOfNums (putL 9 (foldN n)))) ∧ Below w.heap.size w w' := by
  go_enter Try.func55, Try.ntmps55
  go_wp2
  rw [putFold n h1 h2]
  have hf := foldN_lt n h1 h2
  generalize hF : foldN n = U0 at hf
  have HF : Hid (foldN n = U0) := hF
  clear h1 h2 hF
  generalize IntKind.u64.wrap (IntKind.u64.wrap n * 2) = q2
  generalize IntKind.u64.wrap n = q1
  generalize IntKind.u64.wrap (n / 9223372036854775808) = q3
  generalize n / 9223372036854775808 = q4
  go_loopw [3, 5] (fun u i wr => ∃ (k U : Nat) (arr : Array Value) (xs : List Int), k ≤ 9 ∧ Hid (U < 2 ^ (64 - 7 * k)) ∧ i = .int .i64 k ∧ u = .int .u64 U ∧ xs.length = k ∧ Hid (putL 9 U0 = xs ++ putL (9 - k) U) ∧
      arr.size = 10 ∧ wr.heap[w.heap.size]? = some (.cells arr 125 (0, 0)) ∧ (∀ j, j < k → arr[j]? = some (.int .u8 (xs.getD j 0))) ∧ Below w.heap.size w wr)
    (fun _ i _ => 9 - (intOf i).toNat)
  case atStart =>
    refine ⟨0, U0, _, [], by omega, hf, rfl, rfl, rfl, rfl, ?_, heap_alloc_new _ _, fun j hj => absurd hj (by omega), (Below.refl _ _).alloc (Nat.le_refl _) _⟩
    rfl
  case round =>
    obtain ⟨k, U, arr, xs, hk, HU, rfl, rfl, hxs, HP, hsz, hg, hcs, hb⟩ := hrel
    clear hf
    obtain ⟨old, hold⟩ : ∃ v, arr[k]? = some v := ⟨arr[k]'(by omega), Array.getElem?_eq_getElem (by omega)⟩
    have hcell : wr.cell? ⟨w.heap.size, k, none⟩ = some old := by rw [cell_of_row wr _ k arr _ _ hg, hold]
    have hfr : wr.frozen? ⟨w.heap.size, k, none⟩ = false := frozen_of_row wr _ k arr _ hg
    by_cases hlt : U < 128
    · have hsl : ∀ W, (Instr.sliceAt 125 (.pointer (some ⟨w.heap.size, 0, none⟩)) none (some (.int .i64 ((k : Int) + 1))) none).run Try.prog W = .ok (.slice (some ⟨w.heap.size, 0, none⟩) (k + 1) 10) W := fun W => sliceArr10 W _ k hk
      have hcv : (convert 82 9 (.slice (some ⟨w.heap.size, 0, none⟩) (k + 1) 10)).run Try.prog (wr.setCell ⟨w.heap.size, k, none⟩ (.int .u8 (U : Int))) = .ok (.string (strOfNums (xs ++ [(U : Int)]))) (wr.setCell ⟨w.heap.size, k, none⟩ (.int .u8 (U : Int))) := by
        refine run_convert_bytes_arg _ 82 5 Try.underlying82 Try.underlying5 w.heap.size 0 (k + 1) 10 (xs ++ [(U : Int)]) (by simp [hxs]) (fun i hi => ?_) 9 Try.underlying9
        rw [Nat.zero_add, cell_of_row _ w.heap.size i _ _ _ (heap_setCell_same wr w.heap.size k arr _ _ hg), Array.getElem?_setIfInBounds]
        by_cases e : k = i
        · subst e; simp [hsz, ← hxs]; omega
        · rw [if_neg e, hcs i (by omega)]
          simp [List.getElem?_append_left (show i < xs.length by omega)]
      have HE : Hid (putL 9 U0 = xs ++ [(U : Int)]) := by
        show _ = _
        rw [HP.out, putL_small _ _ hlt]
      have hb' := hb.setCell (p := ⟨w.heap.size, k, none⟩) (Nat.le_refl _) (.int .u8 (U : Int))
      clear HU HP hxs hsz hg hcs hold hb
      go_wp2
      go_ret
      exact ⟨ret_str (by rw [HF.out, HE.out]), hb'⟩
    · have hk9 := lt_nine k U hk HU.out hlt
      have hor := u8_or128N U
      have HU' : Hid (U / 128 < 2 ^ (64 - 7 * (k + 1))) := pow_step k U hk9 HU.out
      have HP' : Hid (putL 9 U0 = (xs ++ [((U % 128 + 128 : Nat) : Int)]) ++ putL (9 - (k + 1)) (U / 128)) := by
        show _ = _
        rw [HP.out, show 9 - k = (9 - (k + 1)) + 1 by omega, putL_big _ _ hlt]; simp
      have hg' := heap_setCell_same wr w.heap.size k arr _ (.int .u8 ((U % 128 + 128 : Nat) : Int)) hg
      have hb' := hb.setCell (p := ⟨w.heap.size, k, none⟩) (Nat.le_refl _) (.int .u8 ((U % 128 + 128 : Nat) : Int))
      have HG : Hid ((wr.setCell ⟨w.heap.size, k, none⟩ (.int .u8 ((U % 128 + 128 : Nat) : Int))).heap[w.heap.size]? = some (.cells (arr.setIfInBounds k (.int .u8 ((U % 128 + 128 : Nat) : Int))) 125 (0, 0))) := hg'
      have HC : Hid (∀ j, j < k + 1 → (arr.setIfInBounds k (.int .u8 ((U % 128 + 128 : Nat) : Int)))[j]? = some (.int .u8 ((xs ++ [((U % 128 + 128 : Nat) : Int)]).getD j 0))) := by
        intro j hj
        rw [Array.getElem?_setIfInBounds]
        by_cases e : k = j
        · subst e; simp [hsz, ← hxs]; omega
        · rw [if_neg e, hcs j (by omega)]
          simp [List.getElem?_append_left (show j < xs.length by omega)]
      clear HU HP hg hg' hcs hold hb
      go_wp2
      go_roundw
      case rel => exact ⟨k + 1, U / 128, _, xs ++ [((U % 128 + 128 : Nat) : Int)], by omega, HU'.out, by go_num, by go_num, by simp [hxs], HP'.out, by simp [hsz], HG.out, HC.out, hb'⟩
      case measure => simp [intOf]; omega

set_option maxRecDepth 100000 in
set_option maxHeartbeats 400000 in
theorem specPutNum_any (n : Int) (h1 : -9223372036854775808 ≤ n) (h2 : n ≤ 9223372036854775807) (w : World) :
    Calls Try.prog 50 #[.int .i64 n] w fun e w' => e = .returned (.string (strOfNums (putL 9 (foldN n)))) ∧ Below w.heap.size w w' := by
  obtain ⟨i0, hi, hz0, hz1, hz2⟩ := info_parts Try.infoU8
  go_enter Try.func50, Try.ntmps50
  go_wp2_with (go_at_call 92; refine (fold_any n h1 h2 _).mono ?_; rintro e w ⟨rfl, rfl⟩)
  have hf := foldN_lt n h1 h2
  generalize hF : foldN n = U0 at hf
  have HF : Hid (foldN n = U0) := hF
  clear h1 h2 hF
  go_loopw [3, 4] (fun u v wr => ∃ (k U : Nat) (xs : List Int), k ≤ 9 ∧ Hid (U < 2 ^ (64 - 7 * k)) ∧ u = .int .u64 U ∧ Hid (putL 9 U0 = xs ++ putL (9 - k) U) ∧
      wr.ownsRow w.heap.size 5 1 v k (xs.map (Value.int .u8)) ∧ Below w.heap.size w wr)
    (fun u _ _ => (intOf u).toNat)
  case atStart => exact ⟨0, U0, [], by omega, hf, rfl, rfl, ⟨rfl, .inr ⟨w.heap.size, 0, #[], rfl, Nat.le_refl _, heap_alloc_new _ _, Nat.le_refl _, Nat.zero_le _, rfl, rfl⟩⟩, (Below.refl _ _).alloc (Nat.le_refl _) _⟩
  case round =>
    obtain ⟨k, U, xs, hk, HU, rfl, HP, hown, hb⟩ := hrel
    clear hf
    have hB := hb.size
    by_cases hlt : U < 128
    · have HE : Hid (putL 9 U0 = xs ++ [(U : Int)]) := by
        show _ = _
        rw [HP.out, putL_small _ _ hlt]
      clear HU HP
      go_wp2_with (at_builtin; refine wpList_append_own _ rfl _ _ 82 rfl w.heap.size 5 i0 (.int .u8 0) 1 1 Try.underlying82 hi hz0 hz1 hz2 rfl (by decide) _ _ _ rfl (hown.alloc _) ⟨wr.heap.size, 0, none⟩ 1 1 [.int .u8 (U : Int)] rfl rfl ?c1 ?c2 ?c3 ?c4 ?c5 ?_)
      case c1 => exact cell_one_new _ _ _
      case c2 => intro u hu; simp at hu; subst hu; rfl
      case c3 => unfold maxLen; omega
      case c4 => omega
      case c5 => simp; omega
      · intro v' w1 hown' hgrow _
        have hcv := convOwn (xs := xs ++ [(U : Int)]) (by simpa using hown')
        have hb' := (hb.alloc hB _).grown hgrow (by simp; omega) (fun j hj => (hown.lt j hj).1)
        go_wp2
        go_ret
        exact ⟨ret_str (by rw [HF.out, HE.out]), hb'⟩
    · have hk9 := lt_nine k U hk HU.out hlt
      have HU' : Hid (U / 128 < 2 ^ (64 - 7 * (k + 1))) := pow_step k U hk9 HU.out
      have HP' : Hid (putL 9 U0 = (xs ++ [((U % 128 + 128 : Nat) : Int)]) ++ putL (9 - (k + 1)) (U / 128)) := by
        show _ = _
        rw [HP.out, show 9 - k = (9 - (k + 1)) + 1 by omega, putL_big _ _ hlt]; simp
      have hU64 : U < 18446744073709551616 := Nat.lt_of_lt_of_le HU.out (Nat.pow_le_pow_right (n := 2) (by omega) (show 64 - 7 * k ≤ 64 by omega))
      clear HU HP
      go_wp2_with (at_builtin; refine wpList_append_own _ rfl _ _ 82 rfl w.heap.size 5 i0 (.int .u8 0) 1 1 Try.underlying82 hi hz0 hz1 hz2 rfl (by decide) _ _ _ rfl (hown.alloc _) ⟨wr.heap.size, 0, none⟩ 1 1 [.int .u8 ((U % 128 + 128 : Nat) : Int)] rfl rfl ?d1 ?d2 ?d3 ?d4 ?d5 ?_)
      case d1 => exact cell_one_new _ _ _
      case d2 => intro u hu; simp at hu; subst hu; rfl
      case d3 => unfold maxLen; omega
      case d4 => omega
      case d5 => simp; omega
      · intro v' w1 hown' hgrow _
        have hb' := (hb.alloc hB _).grown hgrow (by simp; omega) (fun j hj => (hown.lt j hj).1)
        go_wp2
        go_roundw
        case rel => exact ⟨k + 1, U / 128, xs ++ [((U % 128 + 128 : Nat) : Int)], by omega, HU'.out, by go_num, HP'.out, by simpa using hown', hb'⟩
        case measure => simp [intOf]; omega

end Go.Proofs.Ytpmaklbbkmghbaa

/-
  Texts of bytes. Plain laws.
-/
namespace Go.Proofs.Ytpmaklbbkmghbaa
open Go.RowKit

def mkS (l : List UInt8) : ByteArray := ⟨l.toArray⟩
def bCell (b : UInt8) : Value := .int .u8 (b.toNat : Int)
theorem mkS_list (l : List UInt8) : (mkS l).data.toList = l := by simp [mkS]
theorem mkS_size (l : List UInt8) : (mkS l).size = l.length := by simp [mkS, ByteArray.size]
theorem mkS_data (s : ByteArray) : mkS s.data.toList = s := by simp [mkS]
theorem strOfNums_bytes (l : List UInt8) : strOfNums (l.map fun b => (b.toNat : Int)) = mkS l := by
  simp [strOfNums, mkS, Function.comp_def]
end Go.Proofs.Ytpmaklbbkmghbaa

/-
  Contracts: joinTexts.
-/
namespace Go.Proofs.Ytpmaklbbkmghbaa
open Go.RowKit

def catL (ss : List ByteArray) : List UInt8 := (ss.map fun s => s.data.toList).flatten
theorem catL_snoc (ss : List ByteArray) (k : Nat) (h : k < ss.length) : catL (ss.take (k + 1)) = catL (ss.take k) ++ (ss[k]).data.toList := by
  unfold catL; rw [List.take_succ_eq_append_getElem h, List.map_append, List.flatten_append]; simp
theorem catL_le (ss : List ByteArray) (k : Nat) : (catL (ss.take k)).length ≤ (catL ss).length := by
  have : catL ss = catL (ss.take k) ++ catL (ss.drop k) := by
    unfold catL; rw [← List.flatten_append, ← List.map_append, List.take_append_drop]
  rw [this]; simp

/-- What one round of the copying does, whatever the cut 'all[at:]' has come to. -/
theorem copyRound (wr : World) (g tot at' : Nat) (s : ByteArray) (cur : List Value) (hg : wr.heap[g]? = some (.cells cur.toArray 5 (0, 0))) (hl : cur.length = tot) (hat : at' + s.size ≤ tot) :
    ∃ (ad : Addr) (w1 : World) (new : List Value), (∀ W, (Instr.slice 82 (.slice (some ⟨g, 0, none⟩) tot tot) (some (.int .i64 (at' : Int))) none none).run Try.prog W = .ok (.slice (some ad) (tot - at') (tot - at')) W) ∧
      (∀ ty, (Builtin.copy_ #[82, 9] ty #[.slice (some ad) (tot - at') (tot - at'), .string s]).run Try.prog wr = .ok (goInt s.size) w1) ∧ w1.heap[g]? = some (.cells new.toArray 5 (0, 0)) ∧ (∀ B w0, Below B w0 wr → B ≤ g → Below B w0 w1) ∧
      new.length = tot ∧ new.take (at' + s.size) = cur.take at' ++ s.data.toList.map bCell := by
  have hs : (Try.prog.info? 5).map (·.size) = some 1 := by kernel_rfl
  have hsz : ∀ w, (sizeOf (Try.prog.elem 82)).run Try.prog w = .ok 1 w := fun w => by kernel_rfl
  have hu : Try.prog.underlying 82 = some (.slice (Try.prog.elem 82)) := by kernel_rfl
  have hslice : ∀ W, (Instr.slice 82 (.slice (some ⟨g, 0, none⟩) tot tot) (some (.int .i64 (at' : Int))) none none).run Try.prog W = .ok (sliced (some ⟨g, 0, none⟩) at' tot tot 1) W := by
    intro W
    rw [run_slice_l W 82 _ tot tot hu .i64 (at' : Int) (by omega) (by omega), hsz]
    simp [Result.andThen]
  have hsl : ∀ W, (Instr.slice 82 (.slice (some ⟨g, 0, none⟩) tot tot) (some (.int .i64 (at' : Int))) none none).run Try.prog W = .ok (.slice (some (if tot = at' then ⟨g, 0, none⟩ else ⟨g, at', none⟩)) (tot - at') (tot - at')) W := by
    intro W
    rw [hslice W]
    by_cases e : tot = at'
    · simp [sliced, e]
    · simp [sliced, e, Addr.add]; omega
  have hsd : s.data.toList.length = s.size := rfl
  by_cases h0 : s.size = 0
  · have e : s.data.toList = [] := List.eq_nil_of_length_eq_zero h0
    refine ⟨_, wr, cur, hsl, fun ty => ?_, hg, fun B w0 h _ => h, hl, by rw [e, h0]; simp⟩
    rw [Lib.run_copy_empty_string wr 82 9 ty 5 _ _ _ s Try.underlying82 (by rw [hs]; rfl) h0, h0]; rfl
  · rw [if_neg (by omega)] at hsl
    refine ⟨_, _, cur.take at' ++ s.data.toList.map bCell ++ cur.drop (at' + s.size), hsl, fun ty => Lib.run_copy_row_string wr 82 9 ty 5 g at' (tot - at') (tot - at') s cur.toArray _ Try.underlying82 hs hg (by omega) (by simp; omega), ?_, fun B w0 h hB => below_setRow h hB _, ?_, ?_⟩
    · rw [setRow_heap wr g _ _ _ _ hg]; rfl
    · simp only [List.length_append, List.length_take, List.length_map, List.length_drop, hsd]; omega
    · rw [List.take_append_of_le_length (by simp only [List.length_append, List.length_take, List.length_map, hsd]; omega)]
      exact List.take_of_length_le (by simp only [List.length_append, List.length_take, List.length_map, hsd]; omega)

set_option maxHeartbeats 400000 in
theorem join_any (ss : List ByteArray) (pb po cap : Nat) (w : World) (hb : (catL ss).length ≤ 1000000000) (hn : ss.length ≤ 1000000)
    (hc : ∀ j, j < ss.length → w.cell? ⟨pb, po + j, none⟩ = some (.string (ss.getD j ByteArray.empty))) :
    Calls Try.prog 56 #[.slice (some ⟨pb, po, none⟩) ss.length cap] w fun e w' => e = .returned (.string (mkS (catL ss))) ∧ Below w.heap.size w w' := by
  obtain ⟨i0, hi, hz0, hz1, hz2⟩ := info_parts Try.infoU8
  go_enter Try.func56, Try.ntmps56
  go_wp2
  go_loop [3, 12] (fun z i => ∃ k : Nat, k ≤ ss.length ∧ i = .int .i64 k ∧ z = .int .i64 ((catL (ss.take k)).length : Nat)) (fun _ i => ss.length - (intOf i).toNat)
  case atStart => exact ⟨0, Nat.zero_le _, rfl, by simp [catL]⟩
  case round =>
    obtain ⟨k, hk, rfl, rfl⟩ := hrel
    have hle := catL_le ss k
    by_cases hlt : k < ss.length
    · have hck := hc k hlt
      have HS : Hid ((catL (ss.take (k + 1))).length = (catL (ss.take k)).length + (ss.getD k ByteArray.empty).size) := by
        show _ = _
        rw [catL_snoc ss k hlt, List.length_append, len_data]; simp [List.getElem?_eq_getElem hlt]
      have hle2 := catL_le ss (k + 1)
      have hsb : (catL (ss.take k)).length + (ss.getD k ByteArray.empty).size ≤ 1000000000 := by rw [← HS.out]; omega
      generalize (catL (ss.take k)).length = z at *
      generalize ss.getD k ByteArray.empty = sk at *
      clear hc hle2
      go_wp2
      go_round
      case rel => exact ⟨k + 1, by omega, by go_num, by rw [HS.out]; go_num⟩
      case measure => simp [intOf]; omega
    · obtain rfl : k = ss.length := by omega
      rw [List.take_length]
      generalize hT : (catL ss).length = tot at *
      have HT : Hid ((catL ss).length = tot) := hT
      clear hT
      go_wp2_with (at_make; refine wpList_make_full _ rfl _ _ 82 rfl w.heap.size 5 i0 (.int .u8 0) 1 Try.underlying82 hi hz0 hz1 .i64 .i64 _ _ tot rfl rfl rfl rfl (by rw [hz2]; omega) (by unfold maxLen; omega) (Nat.le_refl _) ?_; intro w1 hown1 hgrow1)
      obtain ⟨cur0, hg0, hl0⟩ : ∃ cur : List Value, w1.heap[w.heap.size]? = some (.cells cur.toArray 5 (0, 0)) ∧ cur.length = tot := by
        rcases hown1.2 with ⟨h, _⟩ | ⟨g, cap', cur, hv, _, hg, _, _, hs, _⟩
        · simp at h
        · simp at hv
          obtain ⟨rfl, rfl⟩ := hv
          exact ⟨cur.toList, by simpa using hg, by simpa using hs⟩
      have hb1 : Below w.heap.size w w1 := (Below.refl _ _).grown hgrow1 (Nat.le_refl _) (fun j hj => by simp at hj)
      clear hown1 hgrow1
      go_loopw [7, 25] (fun z i wr => ∃ (k : Nat) (cur : List Value), k ≤ ss.length ∧ i = .int .i64 k ∧ z = .int .i64 ((catL (ss.take k)).length : Nat) ∧ cur.length = tot ∧
          wr.heap[w.heap.size]? = some (.cells cur.toArray 5 (0, 0)) ∧ Hid (cur.take (catL (ss.take k)).length = (catL (ss.take k)).map bCell) ∧ Below w.heap.size w wr) (fun _ i _ => ss.length - (intOf i).toNat)
      case atStart => exact ⟨0, cur0, Nat.zero_le _, rfl, by simp [catL], hl0, hg0, by show _ = _; simp [catL], hb1⟩
      case round =>
        obtain ⟨k, cur, hk, rfl, rfl, hlen, hg, HC, hbw⟩ := hrel
        clear hb1 hg0 hl0
        have hle2 := catL_le ss k
        rw [HT.out] at hle2
        by_cases hlt : k < ss.length
        · have hck : wr.cell? ⟨pb, po + k, none⟩ = some (.string (ss.getD k ByteArray.empty)) := by
            have h := hc k hlt
            rw [hbw.cell (p := ⟨pb, po + k, none⟩) (block_lt_of_cell h)]; exact h
          have HS : Hid (catL (ss.take (k + 1)) = catL (ss.take k) ++ (ss.getD k ByteArray.empty).data.toList) := by
            show _ = _
            rw [catL_snoc ss k hlt]; simp [List.getElem?_eq_getElem hlt]
          have hle3 := catL_le ss (k + 1)
          rw [HT.out, HS.out, List.length_append, len_data] at hle3
          generalize hZ : (catL (ss.take k)).length = z at *
          generalize hSK : ss.getD k ByteArray.empty = sk at *
          obtain ⟨ad, w2, new, hsl, hcp, hg2, hB2, hl2, ht2⟩ := copyRound wr w.heap.size tot z sk cur hg hlen hle3
          have hb2 := hB2 _ _ hbw (Nat.le_refl _)
          have HN : Hid (new.take (catL (ss.take (k + 1))).length = (catL (ss.take (k + 1))).map bCell) := by
            show _ = _
            rw [HS.out, List.length_append, hZ, len_data, ht2, HC.out, List.map_append]
          have HZ : Hid ((catL (ss.take (k + 1))).length = z + sk.size) := by
            show _ = _
            rw [HS.out, List.length_append, hZ, len_data]
          have HG : Hid (w2.heap[w.heap.size]? = some (.cells new.toArray 5 (0, 0))) := hg2
          clear hc hZ hSK hB2 ht2 hg hg2 hbw
          go_wp2
          go_roundw
          case rel => exact ⟨k + 1, new, by omega, by go_num, by rw [HZ.out]; go_num, hl2, HG.out, HN.out, hb2⟩
          case measure => simp [intOf]; omega
        · obtain rfl : k = ss.length := by omega
          have hcv : (convert 82 9 (.slice (some ⟨w.heap.size, 0, none⟩) tot tot)).run Try.prog wr = .ok (.string (mkS (catL ss))) wr := by
            have hcc := HC.out
            rw [List.take_length, HT.out, List.take_of_length_le (by omega)] at hcc
            rw [← strOfNums_bytes]
            refine run_convert_bytes_arg _ 82 5 Try.underlying82 Try.underlying5 w.heap.size 0 tot tot _ (by rw [List.length_map, HT.out]) (fun i hi => ?_) 9 Try.underlying9
            have hi2 : i < (catL ss).length := by rw [HT.out]; exact hi
            rw [Nat.zero_add, cell_of_row _ _ i _ _ _ hg, hcc]
            simp [bCell, List.getElem?_eq_getElem hi2]
          clear hc HC hg hlen
          go_wp2
          go_ret
          exact ⟨rfl, hbw⟩

theorem join2 (t s : ByteArray) (pb cap : Nat) (w : World) (hb : t.size + s.size ≤ 1000000000) (h0 : w.cell? ⟨pb, 0, none⟩ = some (.string t)) (h1 : w.cell? ⟨pb, 1, none⟩ = some (.string s)) :
    Calls Try.prog 56 #[.slice (some ⟨pb, 0, none⟩) 2 cap] w fun e w' => e = .returned (.string (mkS (t.data.toList ++ s.data.toList))) ∧ Below w.heap.size w w' := by
  have h := join_any [t, s] pb 0 cap w (by simp only [catL, List.map_cons, List.map_nil, List.flatten_cons, List.flatten_nil, List.append_nil, List.length_append, len_data]; exact hb) (by simp) (fun j hj => by
    match j, hj with
    | 0, _ => simpa using h0
    | 1, _ => simpa using h1)
  simpa [catL] using h
theorem join1 (s : ByteArray) (pb cap : Nat) (w : World) (hb : s.size ≤ 1000000000) (h0 : w.cell? ⟨pb, 0, none⟩ = some (.string s)) :
    Calls Try.prog 56 #[.slice (some ⟨pb, 0, none⟩) 1 cap] w fun e w' => e = .returned (.string s) ∧ Below w.heap.size w w' := by
  have h := join_any [s] pb 0 cap w (by simp only [catL, List.map_cons, List.map_nil, List.flatten_cons, List.flatten_nil, List.append_nil, len_data]; exact hb) (by simp) (fun j hj => by
    match j, hj with
    | 0, _ => simpa using h0)
  simpa [catL, mkS] using h
end Go.Proofs.Ytpmaklbbkmghbaa

/-
  Contracts: PutText of the program and of the specification.
-/
namespace Go.Proofs.Ytpmaklbbkmghbaa
open Go.RowKit

/-- PutText of a text: the empty text beyond MaxBytes. -/
def putT (s : ByteArray) : ByteArray := if s.size ≤ 20000 then mkS ((strOfNums (putL 9 (foldN s.size))).data.toList ++ s.data.toList) else ByteArray.empty
theorem putL_len : ∀ f u, (putL f u).length ≤ f + 1
  | 0, u => by simp [putL]
  | f + 1, u => by
    unfold putL
    split
    · simp
    · have := putL_len f (u / 128); simp; omega
theorem num_size (n : Int) : (strOfNums (putL 9 (foldN n))).size ≤ 10 := by
  rw [strOfNums_size]; exact putL_len 9 _

set_option maxHeartbeats 400000 in
theorem implPutText_any (s : ByteArray) (w : World) :
    Calls Try.prog 54 #[.string s] w fun e w' => e = .returned (.string (putT s)) ∧ Below w.heap.size w w' := by
  by_cases hs : s.size ≤ 20000
  · have HP : Hid (putT s = mkS ((strOfNums (putL 9 (foldN s.size))).data.toList ++ s.data.toList)) := if_pos hs
    have hn := num_size s.size
    go_enter Try.func54, Try.ntmps54
    go_wp2_with fail
    refine (tooLong_no _ hs _).mono ?_
    rintro e w0 ⟨rfl, rfl⟩
    go_wp2_with fail
    refine (implPutNum_any _ (by omega) (by omega) _).mono ?_
    rintro e w1 ⟨rfl, hb1⟩
    generalize strOfNums (putL 9 (foldN s.size)) = t at *
    go_wp2_with fail
    refine (join2 t s _ _ _ (by omega) (by simp) (by simp)).mono ?_
    rintro e w2 ⟨rfl, hb2⟩
    go_wp2
    go_ret
    exact ⟨ret_str (by rw [HP.out]), (hb1.alloc hb1.size _).trans (hb2.mono (by simp; have := hb1.size; omega))⟩
  · have HP : Hid (putT s = ByteArray.empty) := if_neg hs
    go_enter Try.func54, Try.ntmps54
    go_wp2_with (go_at_call 62; refine (tooLong_yes _ (by omega) _).mono ?_; rintro e w' ⟨rfl, rfl⟩)
    go_ret
    exact ⟨ret_str (by rw [HP.out]; rfl), Below.refl _ _⟩

theorem specPutText_any (s : ByteArray) (w : World) :
    Calls Try.prog 49 #[.string s] w fun e w' => e = .returned (.string (putT s)) ∧ Below w.heap.size w w' := by
  by_cases hs : s.size ≤ 20000
  · have HP : Hid (putT s = mkS ((strOfNums (putL 9 (foldN s.size))).data.toList ++ s.data.toList)) := if_pos hs
    have hn := num_size s.size
    go_enter Try.func49, Try.ntmps49
    go_wp2_with fail
    refine (specPutNum_any _ (by omega) (by omega) _).mono ?_
    rintro e w1 ⟨rfl, hb1⟩
    generalize strOfNums (putL 9 (foldN s.size)) = t at *
    go_wp2
    go_ret
    exact ⟨ret_str (by rw [HP.out]; rfl), hb1⟩
  · have HP : Hid (putT s = ByteArray.empty) := if_neg hs
    go_enter Try.func49, Try.ntmps49
    go_wp2
    go_ret
    exact ⟨ret_str (by rw [HP.out]; rfl), Below.refl _ _⟩

end Go.Proofs.Ytpmaklbbkmghbaa

/-
  Contracts: readText and GetText of the program.
-/
namespace Go.Proofs.Ytpmaklbbkmghbaa
open Go.RowKit

theorem rd_count : ∀ (l : List UInt8) (k u : Nat), (rd k u l).2.1 ≤ k + l.length
  | [], k, u => by simp [rd]
  | b :: l, k, u => by
    unfold rd
    split
    · simp
    · split
      · split
        · simp
        · simp
      · have := rd_count l (k + 1) (u + b.toNat % 128 * 2 ^ (7 * k)); simp; omega
/-- What is behind a number that is there lies within the text. -/
theorem behind_le (s : ByteArray) (p : Nat) (h : (rdAt s.data.toList p).2.2 = 0) : 0 ≤ behind p (rdAt s.data.toList p) ∧ behind p (rdAt s.data.toList p) ≤ s.size := by
  unfold behind
  rw [if_pos h]
  have hc := rd_count (s.data.toList.drop p) 0 0
  rw [List.length_drop, len_data] at hc
  have hp : p ≤ s.size := by
    rcases Nat.lt_or_ge s.size p with hlt | hge
    · unfold rdAt at h
      rw [drop_none _ _ (by omega)] at h
      simp [rd] at h
    · exact hge
  have hc' : (rdAt s.data.toList p).2.1 ≤ s.size - p := by unfold rdAt; omega
  omega

/-- The text that stands behind a number that was read: the text, the place behind it, the code. -/
def textOf (s : ByteArray) (n q : Int) (c : Nat) : ByteArray × Int × Nat :=
  if ¬ c = 0 then (ByteArray.empty, 0, c) else if n < 0 ∨ 20000 < n then (ByteArray.empty, 0, 3) else if (s.size : Int) - q < n then (ByteArray.empty, 0, 4)
  else (s.extract q.toNat (q + n).toNat, q + n, 0)

theorem ret3t {t t' : ByteArray} {b b' : Int} {v v' : Value} (h1 : t = t') (h2 : b = b') (h3 : v = v') : Ending.returned (.tuple #[.string t, .int .i64 b, v]) = .returned (.tuple #[.string t', .int .i64 b', v']) := by rw [h1, h2, h3]

set_option maxRecDepth 100000 in
set_option maxHeartbeats 2000000 in
theorem readText_big (s : ByteArray) (p : Nat) (hs : s.size ≤ 1048576) (n q : Int) (c : Nat) (hn : n = (rdAt s.data.toList p).1) (hq : q = behind p (rdAt s.data.toList p)) (hc : c = (rdAt s.data.toList p).2.2) (w : World) :
    Calls Try.prog 118 #[.string s, .int .i64 p] w fun e w' => e = .returned (.tuple #[.string (textOf s n q c).1, .int .i64 (textOf s n q c).2.1, errV (textOf s n q c).2.2]) ∧ Below w.heap.size w w' := by
  have hrd := readNum_big s p hs
  have hbl : c = 0 → 0 ≤ q ∧ q ≤ s.size := fun h => by rw [hq]; exact behind_le s p (by rw [← hc]; exact h)
  rw [← hn, ← hq, ← hc] at hrd
  have HR : Hid (∀ w, Calls Try.prog 125 #[.string s, .int .i64 p] w fun e w' => e = .returned (.tuple #[.int .i64 n, .int .i64 q, errV c]) ∧ w' = w) := hrd
  clear hrd hn hq hc
  by_cases h0 : c = 0
  · obtain ⟨hq0, hq1⟩ := hbl h0
    have HR0 : Hid (∀ w, Calls Try.prog 125 #[.string s, .int .i64 p] w fun e w' => e = .returned (.tuple #[.int .i64 n, .int .i64 q, .nilIface]) ∧ w' = w) := by
      have h := HR.out; rw [h0] at h; exact h
    clear HR hbl
    by_cases h1 : n < 0
    · have H : Hid (textOf s n q c = (ByteArray.empty, 0, 3)) := by show _ = _; unfold textOf; rw [if_neg (by simp [h0]), if_pos (Or.inl h1)]
      go_enter Try.func118, Try.ntmps118
      go_wp2_with fail
      refine (HR0.out _).mono ?_
      rintro e w0 ⟨rfl, rfl⟩
      go_wp2
      go_ret3
      exact ⟨by rw [H.out]; rfl, Below.refl _ _⟩
    by_cases h2 : 20000 < n
    · have H : Hid (textOf s n q c = (ByteArray.empty, 0, 3)) := by show _ = _; unfold textOf; rw [if_neg (by simp [h0]), if_pos (Or.inr h2)]
      go_enter Try.func118, Try.ntmps118
      go_wp2_with fail
      refine (HR0.out _).mono ?_
      rintro e w0 ⟨rfl, rfl⟩
      go_wp2
      go_ret3
      exact ⟨by rw [H.out]; rfl, Below.refl _ _⟩
    by_cases h3 : (s.size : Int) - q < n
    · have H : Hid (textOf s n q c = (ByteArray.empty, 0, 4)) := by show _ = _; unfold textOf; rw [if_neg (by simp [h0]), if_neg (by omega), if_pos h3]
      go_enter Try.func118, Try.ntmps118
      go_wp2_with fail
      refine (HR0.out _).mono ?_
      rintro e w0 ⟨rfl, rfl⟩
      go_wp2
      go_ret3
      exact ⟨by rw [H.out]; rfl, Below.refl _ _⟩
    have H : Hid (textOf s n q c = (s.extract q.toNat (q + n).toNat, q + n, 0)) := by show _ = _; unfold textOf; rw [if_neg (by simp [h0]), if_neg (by omega), if_neg h3]
    have hz : (s.extract q.toNat (q + n).toNat).size ≤ 20000 := by simp; omega
    have h4 : q ≤ q + n := by omega
    have h5 : q + n ≤ s.size := by omega
    clear h0
    go_enter Try.func118, Try.ntmps118
    go_wp2_with fail
    refine (HR0.out _).mono ?_
    rintro e w0 ⟨rfl, rfl⟩
    go_wp2_with fail
    refine (join1 (s.extract q.toNat (q + n).toNat) _ _ _ (by omega) (by simp)).mono ?_
    rintro e w2 ⟨rfl, hb2⟩
    go_wp2
    go_ret3
    exact ⟨by rw [H.out]; rfl, ((Below.refl _ _).alloc (Nat.le_refl _) _).trans (hb2.mono (by simp))⟩
  · have H : Hid (textOf s n q c = (ByteArray.empty, 0, c)) := if_pos h0
    have HR0 : Hid (∀ w, Calls Try.prog 125 #[.string s, .int .i64 p] w fun e w' => e = .returned (.tuple #[.int .i64 n, .int .i64 q, .iface 161 (.agg #[.int .i64 c])]) ∧ w' = w) := by
      have h := HR.out; unfold errV at h; rw [if_neg h0] at h; exact h
    have HE : Hid (errV c = .iface 161 (.agg #[.int .i64 c])) := if_neg h0
    clear HR hbl h0
    go_enter Try.func118, Try.ntmps118
    go_wp2_with fail
    refine (HR0.out _).mono ?_
    rintro e w0 ⟨rfl, rfl⟩
    go_wp2
    go_ret3
    exact ⟨ret3t (by rw [H.out]; rfl) (by rw [H.out]) (by rw [H.out]; exact HE.out.symm), Below.refl _ _⟩
theorem readText_any (s : ByteArray) (p : Nat) (hs : s.size ≤ 20000) (n q : Int) (c : Nat) (hn : n = (rdAt s.data.toList p).1) (hq : q = behind p (rdAt s.data.toList p)) (hc : c = (rdAt s.data.toList p).2.2) (w : World) :
    Calls Try.prog 118 #[.string s, .int .i64 p] w fun e w' => e = .returned (.tuple #[.string (textOf s n q c).1, .int .i64 (textOf s n q c).2.1, errV (textOf s n q c).2.2]) ∧ Below w.heap.size w w' := readText_big s p (by omega) n q c hn hq hc w
end Go.Proofs.Ytpmaklbbkmghbaa

/-
  TextOut as a value, and as a result in its block.
-/
namespace Go.Proofs.Ytpmaklbbkmghbaa
open Go.RowKit

def tOut (t : ByteArray) (at' code : Int) : Value := .agg #[.string t, .int .i64 at', .int .i64 code]
theorem resOutT {fn : Func} {p : Tmp} (h : fn.results = #[.cell p 146]) (tmps : Array Value) (w : World) (g : Nat) (x y z : Value) (hp : tmps.getD p undef = .pointer (some ⟨g, 0, none⟩))
    (hg : w.heap[g]? = some (.cells #[x, y, z] 146 (0, 0))) : (results fn tmps).run Try.prog w = .ok (.agg #[x, y, z]) w :=
  results_cell_row h tmps w g 146 #[x, y, z] (0, 0) _ hp hg Try.underlying146 rfl (by kernel_rfl)
end Go.Proofs.Ytpmaklbbkmghbaa

/-
  What GetText answers. Plain.
-/
namespace Go.Proofs.Ytpmaklbbkmghbaa
open Go.RowKit

/-- What GetText answers: the text, the place behind it, the code. -/
def getText3 (s : ByteArray) (a : Int) : ByteArray × Int × Nat := textOf s (getNum3 s a).1 (getNum3 s a).2.1 (getNum3 s a).2.2
def getTextV (s : ByteArray) (a : Int) : Value := tOut (getText3 s a).1 (getText3 s a).2.1 (getText3 s a).2.2

end Go.Proofs.Ytpmaklbbkmghbaa

/-
  The readers' state: plain.
-/
namespace Go.Proofs.Ytpmaklbbkmghbaa
open Go.RowKit
set_option maxRecDepth 100000

/-- Where the reading stands; none: something was wrong. -/
abbrev St := Option Nat
def rNum (s : ByteArray) : St → Int × St
  | none => (0, none)
  | some p => if (rdAt s.data.toList p).2.2 = 0 then ((rdAt s.data.toList p).1, some (p + (rdAt s.data.toList p).2.1)) else (0, none)
/-- What stands as a text at a place. -/
def txtAt (s : ByteArray) (p : Nat) : ByteArray × Int × Nat := textOf s (rdAt s.data.toList p).1 (behind p (rdAt s.data.toList p)) (rdAt s.data.toList p).2.2
def rTxt (s : ByteArray) : St → ByteArray × St
  | none => (ByteArray.empty, none)
  | some p => if (txtAt s p).2.2 = 0 then ((txtAt s p).1, some (txtAt s p).2.1.toNat) else (ByteArray.empty, none)
def rMany (s : ByteArray) (most : Int) (st : St) : Int × St := if (rNum s st).1 < 0 ∨ most < (rNum s st).1 then (0, none) else rNum s st
def rFlag (s : ByteArray) (st : St) : Bool × St := (decide ((rMany s 1 st).1 = 1), (rMany s 1 st).2)
def rRep {α : Type} (f : St → α × St) : Nat → St → List α × St
  | 0, st => ([], st)
  | k + 1, st => ((rRep f k st).1 ++ [(f (rRep f k st).2).1], (f (rRep f k st).2).2)
def rNums (s : ByteArray) (st : St) : List Int × St := rRep (rNum s) (rMany s 10 st).1.toNat (rMany s 10 st).2
theorem rRep_len {α : Type} (f : St → α × St) (st : St) : ∀ k, (rRep f k st).1.length = k
  | 0 => rfl
  | k + 1 => by simp [rRep, rRep_len f st k]
theorem unz_in (u : Nat) (h : u < 18446744073709551616) : inI64 (unz u) := by
  unfold inI64 unz; split <;> omega
theorem rd_in : ∀ (l : List UInt8) (k u : Nat), k ≤ 9 → u < 2 ^ (7 * k) → inI64 (rd k u l).1
  | [], k, u, _, _ => by simp [rd, inI64]
  | b :: l, k, u, hk, hu => by
    unfold rd
    split
    · simp [inI64]
    · rename_i hA
      split
      · split
        · simp [inI64]
        · exact unz_in _ (sum_lt hk hu hA)
      · rename_i hb
        by_cases h9 : k = 9
        · exact absurd ⟨h9, by omega⟩ hA
        · exact rd_in l (k + 1) _ (by omega) (next_lt hu)
theorem rNum_in (s : ByteArray) (st : St) : inI64 (rNum s st).1 := by
  cases st with
  | none => simp [rNum, inI64]
  | some p =>
    unfold rNum
    simp only
    split
    · exact rd_in _ 0 0 (by omega) (by simp)
    · simp [inI64]
theorem rMany_in (s : ByteArray) (most : Int) (st : St) (h : 0 ≤ most) : 0 ≤ (rMany s most st).1 ∧ (rMany s most st).1 ≤ most := by
  unfold rMany
  split
  · exact ⟨Int.le_refl _, h⟩
  · omega
theorem rNum_place (s : ByteArray) (st : St) (p' : Nat) (h : (rNum s st).2 = some p') : p' ≤ s.size := by
  cases st with
  | none => simp [rNum] at h
  | some p =>
    unfold rNum at h
    simp only at h
    split at h
    · rename_i h0
      simp only [Option.some.injEq] at h
      have := behind_le s p h0
      unfold behind at this
      rw [if_pos h0] at this
      omega
    · simp at h
theorem txt_place (s : ByteArray) (p : Nat) (h : (txtAt s p).2.2 = 0) : 0 ≤ (txtAt s p).2.1 ∧ (txtAt s p).2.1 ≤ s.size := by
  unfold txtAt textOf at *
  split at h
  · rename_i hc; exact absurd h hc
  · rename_i hc
    split at h
    · simp at h
    · split at h
      · simp at h
      · rename_i h1 h2
        rw [if_neg hc, if_neg h1, if_neg h2]
        have := behind_le s p (by simpa using hc)
        simp only
        omega
theorem rTxt_place (s : ByteArray) (st : St) (p' : Nat) (h : (rTxt s st).2 = some p') : p' ≤ s.size := by
  cases st with
  | none => simp [rTxt] at h
  | some p =>
    unfold rTxt at h
    simp only at h
    split at h
    · rename_i h0
      simp only [Option.some.injEq] at h
      have := txt_place s p h0
      omega
    · simp at h
end Go.Proofs.Ytpmaklbbkmghbaa

/-
  Frames: one block is written, and behind it all is new. Plain laws.
-/
namespace Go.Proofs.Ytpmaklbbkmghbaa
open Go.RowKit

theorem grown_setG {w W : World} {g m : Nat} {x : Value} (h : w.grownBy W (some g)) : w.grownBy (W.setCell ⟨g, m, none⟩ x) (some g) := by
  have hb : Below 0 W (W.setCell ⟨g, m, none⟩ x) := (Below.refl 0 W).setCell (Nat.zero_le _) x
  exact ⟨hb.os.trans h.os, hb.tape.trans h.tape, hb.output.trans h.output, Nat.le_trans h.size hb.size, fun k hk hne => (heap_setCell_other W ⟨g, m, none⟩ k x (fun e => hne (by rw [e]))).trans (h.block k hk hne)⟩
theorem grown_below {w W W' : World} {g : Nat} (h : w.grownBy W (some g)) (hb : Below W.heap.size W W') : w.grownBy W' (some g) :=
  ⟨hb.os.trans h.os, hb.tape.trans h.tape, hb.output.trans h.output, Nat.le_trans h.size hb.size, fun k hk hne => (hb.block k (Nat.lt_of_lt_of_le hk h.size)).trans (h.block k hk hne)⟩
theorem grown_refl (a : World) (r : Option Nat) : a.grownBy a r := ⟨rfl, rfl, rfl, Nat.le_refl _, fun _ _ _ => rfl⟩
end Go.Proofs.Ytpmaklbbkmghbaa

/-
  Regions that draw their order: an operation taken first, its slot named; a row of operations passed over whose guards say no.
-/
namespace Go.Proofs.Ytpmaklbbkmghbaa
open Go.RowKit

section
variable {P : Program} {ops : Array Oper} {Q : Exit → Act → World → Prop} {md : Region.Mode} {S : World → Prop}

theorem takeD (i d : Nat) {oi : Oper} {v : Value} {fuel : Nat} {listed : Array Bool} {a : Act} {w : World} (hi : ops[i]? = some oi) (hd : oi.dst = some d)
    (hs : Region.noSelect ops = true) (hf : Region.free md ops listed i = true) (hr : (Region.ready md ops listed).contains i = true)
    (hQ : ∀ c a w, Q (.panic c) (a.put oi.dst v) w → Q (.panic c) a w) (hw : Region.wanted oi (yielded ops a.tmps) = true) (hy : ∀ w, S w → (execOp a.eval oi).run P w = .ok (.value v) w) (hS : S w)
    (h : wpAnyH P md ops Q S fuel (listed.setIfInBounds i true) (a.put (some d) v) w) : wpAnyH P md ops Q S (fuel + 1) listed a w :=
  wpAnyH_take hi hs hf hr hQ (.inl ⟨hw, hy⟩) hS (by rw [hd]; exact h)
def putAll (a : Act) (l : List (Nat × Nat)) : Act := l.foldl (fun a p => a.put (some p.2) undef) a
def listAll (b : Array Bool) (l : List (Nat × Nat)) : Array Bool := l.foldl (fun b p => b.setIfInBounds p.1 true) b
/-- May these come up one behind the other, and do their guards all say no? -/
def skipOk (md : Region.Mode) (ops : Array Oper) : List (Nat × Nat) → Array Bool → Act → Bool
  | [], _, _ => true
  | (i, d) :: r, b, a => (match ops[i]? with | some o => (o.dst == some d) && !(Region.wanted o (yielded ops a.tmps)) | none => false) && Region.free md ops b i && (Region.ready md ops b).contains i && skipOk md ops r (b.setIfInBounds i true) (a.put (some d) undef)
theorem skipAll (l : List (Nat × Nat)) (hs : Region.noSelect ops = true) (hQ : ∀ c d v a w, Q (.panic c) (Act.put a d v) w → Q (.panic c) a w) {w : World} (hS : S w) :
    ∀ {fuel : Nat} {listed : Array Bool} {a : Act}, skipOk md ops l listed a = true → wpAnyH P md ops Q S fuel (listAll listed l) (putAll a l) w → wpAnyH P md ops Q S (fuel + l.length) listed a w := by
  induction l with
  | nil => intro fuel listed a _ h; exact h
  | cons p r ih =>
    intro fuel listed a hok h
    obtain ⟨i, d⟩ := p
    simp only [skipOk, Bool.and_eq_true] at hok
    obtain ⟨⟨⟨h1, h2⟩, h3⟩, h4⟩ := hok
    cases ho : ops[i]? with
    | none => rw [ho] at h1; cases h1
    | some o =>
      rw [ho] at h1
      simp only [Bool.and_eq_true, beq_iff_eq, Bool.not_eq_true'] at h1
      have := ih h4 h
      exact wpAnyH_take (i := i) (oi := o) (v := undef) ho hs h2 h3 (fun c a w => hQ c _ _ a w) (.inr ⟨h1.2, rfl⟩) hS (by rw [h1.1]; exact this)
end
end Go.Proofs.Ytpmaklbbkmghbaa

/-
  What the readers' walks share.
-/
namespace Go.Proofs.Ytpmaklbbkmghbaa
open Go.RowKit
set_option maxRecDepth 100000

theorem set12 {W : World} {g : Nat} {x a b y z : Value} {t : TypeId} (h : W.heap[g]? = some (.cells #[x, a, b] t (0, 0))) :
    ((W.setCell ⟨g, 1, none⟩ y).setCell ⟨g, 2, none⟩ z).heap[g]? = some (.cells #[x, y, z] t (0, 0)) := by
  have h1 := heap_setCell_same W g 1 _ t y h
  have h2 := heap_setCell_same _ g 2 _ t z h1
  simpa using h2
theorem setc2 {W : World} {g : Nat} {x a b z : Value} {t : TypeId} (h : W.heap[g]? = some (.cells #[x, a, b] t (0, 0))) :
    (W.setCell ⟨g, 2, none⟩ z).heap[g]? = some (.cells #[x, a, z] t (0, 0)) := by
  have h2 := heap_setCell_same W g 2 _ t z h
  simpa using h2
theorem grown_drew {w : World} {r : Option Nat} : w.grownBy w.drew r := grown_below' (grown_refl w r) ((Below.refl _ _).drew)
where grown_below' {w W W' : World} {r : Option Nat} (h : w.grownBy W r) (hb : Below W.heap.size W W') : w.grownBy W' r :=
  ⟨hb.os.trans h.os, hb.tape.trans h.tape, hb.output.trans h.output, Nat.le_trans h.size hb.size, fun k hk hne => (hb.block k (Nat.lt_of_lt_of_le hk h.size)).trans (h.block k hk hne)⟩
theorem rd_zero : ∀ (l : List UInt8) (k u : Nat), (rd k u l).2.2 ≠ 0 → (rd k u l).1 = 0
  | [], _, _, _ => rfl
  | b :: l, k, u, h => by
    unfold rd at *
    split
    · rfl
    · rename_i hA
      rw [if_neg hA] at h
      split
      · rename_i hb
        rw [if_pos hb] at h
        split
        · rfl
        · rename_i hz
          rw [if_neg hz] at h
          exact absurd rfl h
      · rename_i hb
        rw [if_neg hb] at h
        exact rd_zero l _ _ h
theorem txt_zero (s : ByteArray) (p : Nat) (h : (txtAt s p).2.2 ≠ 0) : (txtAt s p).1 = ByteArray.empty := by
  unfold txtAt textOf at *
  split
  · rfl
  · split
    · rfl
    · split
      · rfl
      · rename_i h1 h2 h3
        rw [if_neg h1, if_neg h2, if_neg h3] at h
        exact absurd rfl h
theorem grown_some {w w1 w2 : World} {g base : Nat} {v : Value} (h : w.grownBy w1 (some g)) (hg : w1.grownBy w2 v.ownBlock) (hb : w.heap.size ≤ base) (hv : ∀ k, v.ownBlock = some k → base ≤ k) : w.grownBy w2 (some g) :=
  ⟨hg.os.trans h.os, hg.tape.trans h.tape, hg.output.trans h.output, Nat.le_trans h.size hg.size, fun k hk hne => (hg.block k (Nat.lt_of_lt_of_le hk h.size) (fun e => by have := hv k e.symm; omega)).trans (h.block k hk hne)⟩
theorem grown_alloc' {w w1 : World} {g : Nat} (h : w.grownBy w1 (some g)) (o : Obj) : w.grownBy (w1.alloc o) (some g) := grown_below h ((Below.refl _ _).alloc (Nat.le_refl _) o)
/-- What a block that was made behind the start holds does not matter to the frame. -/
theorem grown_new {w w1 : World} {g R : Nat} (h : w.grownBy w1 (some g)) (hR : w.heap.size ≤ R) (m : Nat) (x : Value) : w.grownBy (w1.setCell ⟨R, m, none⟩ x) (some g) := by
  have hb : Below 0 w1 (w1.setCell ⟨R, m, none⟩ x) := (Below.refl 0 w1).setCell (Nat.zero_le _) x
  exact ⟨hb.os.trans h.os, hb.tape.trans h.tape, hb.output.trans h.output, Nat.le_trans h.size hb.size, fun k hk hne => (heap_setCell_other w1 ⟨R, m, none⟩ k x (show k ≠ R by omega)).trans (h.block k hk hne)⟩
end Go.Proofs.Ytpmaklbbkmghbaa
