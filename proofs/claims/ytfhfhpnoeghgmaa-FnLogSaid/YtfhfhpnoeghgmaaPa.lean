/-
  Contracts and plain laws, part 1 of 12: Plain, Src, Conv, DrawE, Draw2, DrawMake, Base, TrPlain, Out3, GrowG, TrRow, DkRow, Owns
-/
import Derived.WalkKit
import Derived.Laws.BitsAllLaws
import Derived.Test.YtfhfhpnoeghgmaaRows
import Derived.WalkLawsBesides
import Derived.Deep.RegionHeld3
import Derived.Deep.DrawnRows
import Derived.OpenShut
import Derived.Laws.BytesArg
import Derived.Maps.AppendAt
import Derived.OwnWalk
import Derived.Below
import Derived.Laws.AppendOwn

/-
  Plain facts on numbers and lists: the CRC bit by bit.
-/
namespace Go.Proofs.Ytfhfhpnoeghgmaa
open Go.RowKit

def crcBit (r : Nat) : Nat := if r % 2 = 1 then (r / 2) ^^^ 3988292384 else r / 2
def crcBits : Nat → Nat → Nat
  | 0, r => r
  | k + 1, r => crcBit (crcBits k r)
def crcByte (r : Nat) : Nat := crcBits 8 r
def crcL (r : Nat) (l : List UInt8) : Nat := l.foldl (fun r b => crcByte (r ^^^ b.toNat)) r

theorem crcBit_lt {r : Nat} (h : r < 4294967296) : crcBit r < 4294967296 := by
  unfold crcBit
  split
  · exact Nat.xor_lt_two_pow (n := 32) (by omega) (by omega)
  · omega
theorem crcBits_lt {r : Nat} (h : r < 4294967296) : ∀ k, crcBits k r < 4294967296
  | 0 => h
  | k + 1 => crcBit_lt (crcBits_lt h k)
theorem crcBits_succ (k r : Nat) : crcBits (k + 1) r = crcBit (crcBits k r) := rfl
theorem crcBits_odd {k r : Nat} (h : crcBits k r % 2 = 1) : crcBits (k + 1) r = (crcBits k r / 2) ^^^ 3988292384 := by
  rw [crcBits_succ, crcBit, if_pos h]
theorem crcBits_even {k r : Nat} (h : ¬ crcBits k r % 2 = 1) : crcBits (k + 1) r = crcBits k r / 2 := by
  rw [crcBits_succ, crcBit, if_neg h]
theorem crcByte_lt {r : Nat} (h : r < 4294967296) : crcByte r < 4294967296 := crcBits_lt h 8
theorem xor_byte_lt {r : Nat} (h : r < 4294967296) (b : UInt8) : r ^^^ b.toNat < 4294967296 :=
  Nat.xor_lt_two_pow (n := 32) (by omega) (by have := b.toNat_lt; omega)
theorem crcL_lt {r : Nat} (h : r < 4294967296) (l : List UInt8) : crcL r l < 4294967296 := by
  unfold crcL
  induction l generalizing r with
  | nil => exact h
  | cons b l ih => exact ih (crcByte_lt (xor_byte_lt h b))
theorem crcL_snoc (r : Nat) (l : List UInt8) (b : UInt8) : crcL r (l ++ [b]) = crcByte (crcL r l ^^^ b.toNat) := by
  simp [crcL]
theorem len_data (s : ByteArray) : s.data.toList.length = s.size := rfl
theorem take_snoc (s : ByteArray) (k : Nat) (h : k < s.size) : s.data.toList.take (k + 1) = s.data.toList.take k ++ [s[k]] := by
  rw [List.take_succ_eq_append_getElem (by simpa using h)]; rfl
theorem u32_and1 (X : Nat) (h : X < 4294967296) : bits .and .u32 (X : Int) 1 = ((X % 2 : Nat) : Int) := by
  have := u32_and_nat X 1 h (by omega)
  simpa [nat_mask1] using this
theorem u32_xorP (X : Nat) (h : X < 4294967296) : bits .xor .u32 ((X : Int) / 2) 3988292384 = (((X / 2) ^^^ 3988292384 : Nat) : Int) := by
  have := u32_xor_nat (X / 2) 3988292384 (by omega) (by omega)
  simpa using this
theorem u32_xorM (X : Nat) (h : X < 4294967296) : bits .xor .u32 (X : Int) 4294967295 = ((X ^^^ 4294967295 : Nat) : Int) :=
  u32_xor_nat X 4294967295 h (by omega)
theorem u32_notN (X : Nat) (h : X < 4294967296) : bits .xor .u32 IntKind.u32.max (X : Int) = ((X ^^^ 4294967295 : Nat) : Int) := by
  have e : IntKind.u32.max = ((4294967295 : Nat) : Int) := by decide
  rw [e, u32_xor_nat 4294967295 X (by omega) h, Nat.xor_comm]
theorem u32_xorB (X : Nat) (h : X < 4294967296) (b : UInt8) : bits .xor .u32 (X : Int) ((b.toNat : Int) % 4294967296) = ((X ^^^ b.toNat : Nat) : Int) := by
  have hb := b.toNat_lt
  rw [show ((b.toNat : Int) % 4294967296) = (b.toNat : Int) by omega]
  exact u32_xor_nat X b.toNat h (by omega)
theorem xorM (X : Nat) (h : X < 4294967296) : X ^^^ 4294967295 = 4294967295 - X := by
  have e : (BitVec.ofNat 32 X ^^^ BitVec.allOnes 32).toNat = 4294967295 - X := by
    rw [BitVec.xor_allOnes, BitVec.toNat_not, BitVec.toNat_ofNat, Nat.mod_eq_of_lt h]
  rw [BitVec.toNat_xor, BitVec.toNat_allOnes, BitVec.toNat_ofNat, Nat.mod_eq_of_lt h] at e
  exact e
theorem xorM_lt {X : Nat} (h : X < 4294967296) : X ^^^ 4294967295 < 4294967296 := Nat.xor_lt_two_pow (n := 32) (by omega) (by omega)
theorem xorM_xorM {X : Nat} (h : X < 4294967296) : (X ^^^ 4294967295) ^^^ 4294967295 = X := by
  rw [xorM _ (xorM_lt h), xorM _ h]; omega
theorem bcell {W w1 : World} (hb : Below W.heap.size W w1) : (∀ b o, b < W.heap.size → w1.cell? ⟨b, o, none⟩ = W.cell? ⟨b, o, none⟩) ∧ (∀ b o, b < W.heap.size → w1.frozen? ⟨b, o, none⟩ = W.frozen? ⟨b, o, none⟩) :=
  ⟨fun b o h => hb.cell (p := ⟨b, o, none⟩) h, fun b o h => hb.frozen (p := ⟨b, o, none⟩) h⟩
theorem ret_int {k : IntKind} {a b : Int} (h : a = b) : Ending.returned (.int k a) = .returned (.int k b) := by rw [h]
theorem ret_str {a b : ByteArray} (h : a = b) : Ending.returned (.string a) = .returned (.string b) := by rw [h]
theorem ret3n {a b a' b' : Int} {v v' : Value} (h1 : a = a') (h2 : b = b') (h3 : v = v') : Ending.returned (.tuple #[.int .i64 a, .int .i64 b, v]) = .returned (.tuple #[.int .i64 a', .int .i64 b', v']) := by rw [h1, h2, h3]
theorem ret_bool {a b : Bool} (h : a = b) : Ending.returned (.bool a) = .returned (.bool b) := by rw [h]
/-- the CRC that goes on from c over l -/
def crcMoreN (c : Nat) (l : List UInt8) : Nat := crcL (c ^^^ 4294967295) l ^^^ 4294967295
theorem crcMoreN_lt {c : Nat} (h : c < 4294967296) (l : List UInt8) : crcMoreN c l < 4294967296 := xorM_lt (crcL_lt (xorM_lt h) l)
theorem crcMoreN_append {c : Nat} (h : c < 4294967296) (l m : List UInt8) : crcMoreN (crcMoreN c l) m = crcMoreN c (l ++ m) := by
  unfold crcMoreN
  rw [xorM_xorM (crcL_lt (xorM_lt h) l)]
  simp [crcL]
end Go.Proofs.Ytfhfhpnoeghgmaa

/-
  Contracts: the source of draws (spec.l01Src): its state, and the number below a bound.
-/
namespace Go.Proofs.Ytfhfhpnoeghgmaa
open Go.RowKit

/-- A slice of bytes that can be read, below block B. -/
def ByteRow (w : World) (B : Nat) (ao : Option Addr) (len : Nat) (zs : List Int) : Prop :=
  (∀ i, 0 ≤ zs.getD i 0 ∧ zs.getD i 0 ≤ 255) ∧ (len = 0 ∨ ∃ b off, ao = some ⟨b, off, none⟩ ∧ b < B ∧ ∀ i, i < len → w.cell? ⟨b, off + i, none⟩ = some (.int .u8 (zs.getD i 0)))
/-- The source of draws at block g: what it reads lies below block B. -/
def Src (w : World) (B g : Nat) : Prop := ∃ (ao : Option Addr) (len cap : Nat) (zs : List Int) (p mix : Nat) (size : Int),
  w.heap[g]? = some (.cells #[.slice ao len cap, .int .i64 p, .int .u64 mix, .int .i64 size] 117 (0, 0)) ∧ mix < 18446744073709551616 ∧ p ≤ len ∧ len ≤ 1048576 ∧ 0 ≤ size ∧ size ≤ 12 ∧ ByteRow w B ao len zs

theorem byteRow_of {w : World} {a : Option Addr} {len cap : Nat} {zs : List Int} (h : (a = none ∧ len = 0 ∧ cap = 0 ∧ zs = []) ∨
    ∃ x, a = some x ∧ len ≤ cap ∧ cap ≤ maxLen ∧ zs.length = cap ∧ (∀ i, i < zs.length → w.cell? (x.add i) = some (.int .u8 (zs.getD i 0))) ∧ ∀ n ∈ zs, (Lit.int .u8 n).wf = true) : ByteRow w w.heap.size a len zs := by
  rcases h with ⟨rfl, rfl, rfl, rfl⟩ | ⟨x, rfl, hl, hm, hz, hc, hw⟩
  · exact ⟨fun i => by simp, .inl rfl⟩
  · refine ⟨fun i => ?_, ?_⟩
    · by_cases hi : i < zs.length
      · have := bounds_u8 (hw zs[i] (List.getElem_mem hi))
        simp [List.getElem?_eq_getElem hi]; omega
      · simp [List.getElem?_eq_none (show zs.length ≤ i by omega)]
    · by_cases h0 : len = 0
      · exact .inl h0
      · right
        obtain ⟨b, off, spot⟩ := x
        have h1 := hc 0 (by omega)
        have hspot : spot = none := by simpa [Addr.add] using World.cell?_spot h1
        subst hspot
        have hb := block_lt_of_cell h1
        refine ⟨b, off, rfl, by simpa [Addr.add] using hb, fun i hi => ?_⟩
        have hadd : (⟨b, off, none⟩ : Addr).add i = ⟨b, off + i, none⟩ := by unfold Addr.add; split <;> simp_all
        have := hc i (by omega)
        rwa [hadd] at this

theorem setCell_twice (w : World) (a : Addr) (v v' : Value) : (w.setCell a v).setCell a v' = w.setCell a v' := by
  unfold World.setCell
  congr 1
  apply Array.ext_getElem?
  intro i
  simp only [Array.getElem?_modify]
  by_cases h : a.block = i
  · simp only [h, if_true]
    cases w.heap[i]? with
    | none => rfl
    | some o => cases o <;> simp <;> split <;> simp [*]
  · simp [h]
theorem bits_u64 (op : BinOp) (x y : Int) : ∃ m : Nat, bits op .u64 x y = (m : Int) ∧ m < 18446744073709551616 := by
  have h := bounds_u64 (wf_bits op .u64 x y)
  exact ⟨(bits op .u64 x y).toNat, by omega, by omega⟩

attribute [local go_sem ↓] Go.wp_at_zero Go.wp_at_succ
set_option maxHeartbeats 1000000 in
theorem n_end (g : Nat) (most : Int) (h1 : 1 < most) (h2 : most ≤ 9223372036854775807) (w : World) (ao : Option Addr) (len cap p mix : Nat) (_hl : len ≤ 1048576) (hpl : len ≤ p) (hpm : p ≤ len)
    (c0 : w.cell? ⟨g, 0, none⟩ = some (.slice ao len cap)) (c1 : w.cell? ⟨g, 1, none⟩ = some (.int .i64 p)) (c2 : w.cell? ⟨g, 2, none⟩ = some (.int .u64 mix)) (cf : ∀ j, w.frozen? ⟨g, j, none⟩ = false) :
    Calls Try.prog 53 #[.pointer (some ⟨g, 0, none⟩), .int .i64 most] w fun e w' => ∃ (v : Int) (m : Nat) (n : Nat), e = .returned (.int .i64 v) ∧ 0 ≤ v ∧ v < most ∧ m < 18446744073709551616 ∧ w' = (w.setCell ⟨g, 2, none⟩ (.int .u64 m)).drewN n := by
  obtain ⟨m1, hm1, hl1⟩ := bits_u64 .xor (mix : Int) (IntKind.u64.wrap ((mix : Int) * 8192))
  obtain ⟨m2, hm2, hl2⟩ := bits_u64 .xor (m1 : Int) ((m1 : Int) / 128)
  obtain ⟨m3, hm3, hl3⟩ := bits_u64 .xor (m2 : Int) (IntKind.u64.wrap ((m2 : Int) * 131072))
  have hr0 := Int.emod_nonneg ((m3 : Int) / 1048576) (show most ≠ 0 by omega)
  have hr1 := Int.emod_lt_of_pos ((m3 : Int) / 1048576) (show 0 < most by omega)
  have hss := fun W v v' => setCell_twice W ⟨g, 2, none⟩ v v'
  go_enter Try.func53, Try.ntmps53
  go_wp2
  go_region
  go_wp2
  go_region
  go_wp2
  go_region
  go_wp2
  go_region
  go_wp2
  go_ret
  exact ⟨_, m3, 4, rfl, hr0, hr1, hl3, rfl⟩

set_option maxHeartbeats 1000000 in
theorem n_byte (g : Nat) (most : Int) (h1 : 1 < most) (h2 : most ≤ 9223372036854775807) (w : World) (b off len cap p mix : Nat) (z : Int) (hz0 : 0 ≤ z) (hz1 : z ≤ 255) (hl : len ≤ 1048576) (hpl : p < len) (_hne : ¬ b = g)
    (c0 : w.cell? ⟨g, 0, none⟩ = some (.slice (some ⟨b, off, none⟩) len cap)) (c1 : w.cell? ⟨g, 1, none⟩ = some (.int .i64 p)) (c2 : w.cell? ⟨g, 2, none⟩ = some (.int .u64 mix)) (cf : ∀ j, w.frozen? ⟨g, j, none⟩ = false)
    (cb : w.cell? ⟨b, off + p, none⟩ = some (.int .u8 z)) :
    Calls Try.prog 53 #[.pointer (some ⟨g, 0, none⟩), .int .i64 most] w fun e w' => ∃ (v : Int) (m : Nat) (n : Nat), e = .returned (.int .i64 v) ∧ 0 ≤ v ∧ v < most ∧ m < 18446744073709551616 ∧ w' = ((w.setCell ⟨g, 1, none⟩ (.int .i64 (p + 1 : Nat))).setCell ⟨g, 2, none⟩ (.int .u64 m)).drewN n := by
  obtain ⟨m1, hm1, hl1⟩ := bits_u64 .xor (mix : Int) (IntKind.u64.wrap ((mix : Int) * 8192))
  obtain ⟨m2, hm2, hl2⟩ := bits_u64 .xor (m1 : Int) ((m1 : Int) / 128)
  obtain ⟨m3, hm3, hl3⟩ := bits_u64 .xor (m2 : Int) (IntKind.u64.wrap ((m2 : Int) * 131072))
  have hr0 := Int.emod_nonneg (z + (m3 : Int) / 1048576) (show most ≠ 0 by omega)
  have hr1 := Int.emod_lt_of_pos (z + (m3 : Int) / 1048576) (show 0 < most by omega)
  have hss := fun W v v' => setCell_twice W ⟨g, 2, none⟩ v v'
  go_enter Try.func53, Try.ntmps53
  go_wp2
  go_region
  go_wp2
  go_region
  go_wp2
  go_region
  go_wp2
  go_region
  go_wp2
  go_region
  go_wp2
  go_ret
  exact ⟨_, m3, 5, rfl, hr0, hr1, hl3, rfl⟩

/-- A row of bytes stays readable where only blocks from B on were written. -/
theorem ByteRow.kept {w w' : World} {B : Nat} {ao : Option Addr} {len : Nat} {zs : List Int} (h : ByteRow w B ao len zs) (hb : Below B w w') : ByteRow w' B ao len zs := by
  refine ⟨h.1, ?_⟩
  rcases h.2 with h0 | ⟨b, off, e, hB, hc⟩
  · exact .inl h0
  · exact .inr ⟨b, off, e, hB, fun i hi => (hb.cell (p := ⟨b, off + i, none⟩) hB).trans (hc i hi)⟩
/-- The source stays where its own block stays and what it reads is untouched. -/
theorem Src.kept {w w' : World} {B g : Nat} (h : Src w B g) (hb : Below B w w') (hg : w'.heap[g]? = w.heap[g]?) : Src w' B g := by
  obtain ⟨ao, len, cap, zs, p, mix, size, h1, h2, h3, h4, h5, h6, h7⟩ := h
  exact ⟨ao, len, cap, zs, p, mix, size, hg.trans h1, h2, h3, h4, h5, h6, h7.kept hb⟩
theorem Src.lt {w : World} {B g : Nat} (h : Src w B g) : g < w.heap.size := by
  obtain ⟨ao, len, cap, zs, p, mix, size, h1, _⟩ := h
  exact (Array.getElem?_eq_some_iff.1 h1).1
theorem below_of_grown {w w' : World} {g B : Nat} (h : w.grownBy w' (some g)) (hg : B ≤ g) (hs : B ≤ w.heap.size) : Below B w w' :=
  (Below.refl B w).grown h hs (fun k hk => by simp at hk; omega)
theorem grown_set {w W : World} {g : Nat} (hs : W.heap.size = w.heap.size) (hos : W.os = w.os) (ht : W.tape = w.tape) (ho : W.output = w.output) (hk : ∀ k, k ≠ g → W.heap[k]? = w.heap[k]?) : w.grownBy W (some g) :=
  ⟨hos, ht, ho, by omega, fun k _ hn => hk k (fun e => hn (by rw [e]))⟩

theorem n_any (g B : Nat) (most : Int) (h1 : 1 ≤ most) (h2 : most ≤ 9223372036854775807) (w : World) (hs : Src w B g) (hB : B ≤ g) :
    Calls Try.prog 53 #[.pointer (some ⟨g, 0, none⟩), .int .i64 most] w fun e w' => ∃ v : Int, e = .returned (.int .i64 v) ∧ 0 ≤ v ∧ v < most ∧ Src w' B g ∧ w.grownBy w' (some g) ∧ w'.heap.size = w.heap.size := by
  by_cases h0 : most ≤ 1
  · go_enter Try.func53, Try.ntmps53
    go_wp2
    go_ret
    exact ⟨0, rfl, by omega, by omega, hs, grown_set rfl rfl rfl rfl (fun _ _ => rfl), rfl⟩
  · have hlt := hs.lt
    obtain ⟨ao, len, cap, zs, p, mix, size, hk, hm, hp, hl, hz0, hz1, hr⟩ := hs
    have c0 : w.cell? ⟨g, 0, none⟩ = some (.slice ao len cap) := by rw [cell_of_row _ _ _ _ _ _ hk]; rfl
    have c1 : w.cell? ⟨g, 1, none⟩ = some (.int .i64 p) := by rw [cell_of_row _ _ _ _ _ _ hk]; rfl
    have c2 : w.cell? ⟨g, 2, none⟩ = some (.int .u64 mix) := by rw [cell_of_row _ _ _ _ _ _ hk]; rfl
    have cf : ∀ j, w.frozen? ⟨g, j, none⟩ = false := fun j => frozen_of_row _ _ _ _ _ hk
    by_cases hpl : p < len
    · rcases hr.2 with h | ⟨b, off, rfl, hbB, hc⟩
      · omega
      · refine (n_byte g most (by omega) h2 w b off len cap p mix (zs.getD p 0) (hr.1 p).1 (hr.1 p).2 hl hpl (by omega) c0 c1 c2 cf (hc p hpl)).mono ?_
        rintro e w' ⟨v, m, n, rfl, hv0, hv1, hm', rfl⟩
        have hgr : w.grownBy (((w.setCell ⟨g, 1, none⟩ (.int .i64 (p + 1 : Nat))).setCell ⟨g, 2, none⟩ (.int .u64 m)).drewN n) (some g) :=
          grown_set (by show ((w.setCell _ _).setCell _ _).heap.size = _; simp) rfl rfl rfl (fun k hkg => by
            show ((w.setCell _ _).setCell _ _).heap[k]? = _
            rw [heap_setCell_other _ _ _ _ hkg, heap_setCell_other _ _ _ _ hkg])
        refine ⟨v, rfl, hv0, hv1, ⟨_, len, cap, zs, p + 1, m, size, ?_, hm', by omega, hl, hz0, hz1, hr.kept (below_of_grown hgr hB (by omega))⟩, hgr, by show ((w.setCell _ _).setCell _ _).heap.size = _; simp⟩
        have k1 := heap_setCell_same w g 1 _ _ (.int .i64 (p + 1 : Nat)) hk
        have k2 := heap_setCell_same _ g 2 _ _ (.int .u64 m) k1
        show ((w.setCell _ _).setCell _ _).heap[g]? = _
        rw [k2]; rfl
    · refine (n_end g most (by omega) h2 w ao len cap p mix hl (by omega) hp c0 c1 c2 cf).mono ?_
      rintro e w' ⟨v, m, n, rfl, hv0, hv1, hm', rfl⟩
      have hgr : w.grownBy ((w.setCell ⟨g, 2, none⟩ (.int .u64 m)).drewN n) (some g) :=
        grown_set (by show (w.setCell _ _).heap.size = _; simp) rfl rfl rfl (fun k hkg => by
          show (w.setCell _ _).heap[k]? = _
          rw [heap_setCell_other _ _ _ _ hkg])
      refine ⟨v, rfl, hv0, hv1, ⟨ao, len, cap, zs, p, m, size, ?_, hm', hp, hl, hz0, hz1, hr.kept (below_of_grown hgr hB (by omega))⟩, hgr, by show (w.setCell _ _).heap.size = _; simp⟩
      have k2 := heap_setCell_same w g 2 _ _ (.int .u64 m) hk
      show (w.setCell _ _).heap[g]? = _
      rw [k2]; rfl

theorem one_any (g B : Nat) (most : Int) (h1 : 1 ≤ most) (h2 : most ≤ 9223372036854775807) (w : World) (hs : Src w B g) (hB : B ≤ g) :
    Calls Try.prog 52 #[.pointer (some ⟨g, 0, none⟩), .int .i64 most] w fun e w' => ∃ b : Bool, e = .returned (.bool b) ∧ Src w' B g ∧ w.grownBy w' (some g) ∧ w'.heap.size = w.heap.size := by
  have HS : Hid (Src w B g) := hs
  clear hs
  go_enter Try.func52, Try.ntmps52
  go_wp2_with fail
  refine (n_any g B most h1 h2 _ HS.out hB).mono ?_
  rintro e w1 ⟨v, rfl, hv0, hv1, hs1, hg1, hz1⟩
  have H1 : Hid (Src w1 B g ∧ w.grownBy w1 (some g) ∧ w1.heap.size = w.heap.size) := ⟨hs1, hg1, hz1⟩
  clear hs1 hg1 hz1
  go_wp2
  go_ret
  exact ⟨_, rfl, H1.out⟩
end Go.Proofs.Ytfhfhpnoeghgmaa

/-
  Bytes that a call itself made, turned into a text.
-/
namespace Go.Proofs.Ytfhfhpnoeghgmaa
open Go.RowKit

theorem Try.infoU8 : (Try.prog.info? 5).map (fun i => (i.zero, i.size, i.bytes)) = some (some (.int .u8 0), 1, 1) := by kernel_rfl

theorem convOwn {W : World} {base n : Nat} {v : Value} {xs : List Int} (h : W.ownsRow base 5 1 v n (xs.map (Value.int .u8))) :
    (convert 22 9 v).run Try.prog W = .ok (.string (strOfNums xs)) W := by
  have hx : xs.length = n := by simpa using h.1
  rcases h.2 with ⟨rfl, rfl⟩ | ⟨g, cap, cur, rfl, hb, hg, hn, hm, hs, ht⟩
  · obtain rfl : xs = [] := List.eq_nil_of_length_eq_zero hx
    exact run_convert_bytes_nil _ 22 5 Try.underlying22 Try.underlying5 0 0 9 Try.underlying9
  · refine run_convert_bytes_arg _ 22 5 Try.underlying22 Try.underlying5 g 0 n cap xs hx (fun i hi => ?_) 9 Try.underlying9
    have hc := World.ownsRow.cellAt h i (by omega)
    rw [Nat.zero_add, hc]
    simp [List.getElem?_eq_getElem (show i < xs.length by omega)]
end Go.Proofs.Ytfhfhpnoeghgmaa

/-
  Contracts: a number at some limit.
-/
namespace Go.Proofs.Ytfhfhpnoeghgmaa
open Go.RowKit

theorem grown_trans {a b c : World} {g : Nat} {row : Option Nat} (h : a.grownBy b (some g)) (k : b.grownBy c row) (hr : ∀ j, row = some j → j = g ∨ a.heap.size ≤ j) : a.grownBy c (some g) :=
  ⟨k.os.trans h.os, k.tape.trans h.tape, k.output.trans h.output, Nat.le_trans h.size k.size, fun j hj hn => by
    have h1 : j < b.heap.size := Nat.lt_of_lt_of_le hj h.size
    have h2 : some j ≠ row := fun e => by
      rcases hr j e.symm with rfl | hle
      · exact hn rfl
      · omega
    rw [k.block j h1 h2, h.block j hj hn]⟩
theorem grown_alloc {a b : World} {g : Nat} (h : a.grownBy b (some g)) (o : Obj) : a.grownBy (b.alloc o) (some g) :=
  ⟨h.os, h.tape, h.output, by have := h.size; show a.heap.size ≤ (b.heap.push o).size; simp; omega, fun j hj hn => by
    rw [Below.heap_alloc b o j (Nat.lt_of_lt_of_le hj h.size), h.block j hj hn]⟩
theorem grown_self (a : World) (g : Nat) : a.grownBy a (some g) := ⟨rfl, rfl, rfl, Nat.le_refl _, fun _ _ _ => rfl⟩
theorem edge_any (g B : Nat) (w : World) (hs : Src w B g) (hB : B ≤ g) :
    Calls Try.prog 54 #[.pointer (some ⟨g, 0, none⟩)] w fun e w' => ∃ v : Int, e = .returned (.int .i64 v) ∧ -9223372036854775808 ≤ v ∧ v ≤ 9223372036854775807 ∧ Src w' B g ∧ w.grownBy w' (some g) := by
  have hlt := hs.lt
  have HS : Hid (Src w B g) := hs
  clear hs
  go_enter Try.func54, Try.ntmps54
  go_wp2_with fail
  refine (n_any g B 14 (by omega) (by omega) _ ((HS.out).kept ((Below.refl _ _).alloc (by omega) _) (Below.heap_alloc _ _ _ hlt)) hB).mono ?_
  rintro e w1 ⟨v, rfl, hv0, hv1, hs1, hg1, hz1⟩
  have hk := (hg1.block w.heap.size (by simp) (fun e => by simp at e; omega)).trans (heap_alloc_new w _)
  obtain ⟨r, rfl⟩ := Int.eq_ofNat_of_zero_le hv0
  have hc : ∃ x : Int, w1.cell? ⟨w.heap.size, r, none⟩ = some (.int .i64 x) ∧ -9223372036854775808 ≤ x ∧ x ≤ 9223372036854775807 := by
    rw [cell_of_row _ _ _ _ _ _ hk]
    have hr : r < 14 := by omega
    match r, hr with
    | 0, _ => exact ⟨_, rfl, by omega, by omega⟩
    | 1, _ => exact ⟨_, rfl, by omega, by omega⟩
    | 2, _ => exact ⟨_, rfl, by omega, by omega⟩
    | 3, _ => exact ⟨_, rfl, by omega, by omega⟩
    | 4, _ => exact ⟨_, rfl, by omega, by omega⟩
    | 5, _ => exact ⟨_, rfl, by omega, by omega⟩
    | 6, _ => exact ⟨_, rfl, by omega, by omega⟩
    | 7, _ => exact ⟨_, rfl, by omega, by omega⟩
    | 8, _ => exact ⟨_, rfl, by omega, by omega⟩
    | 9, _ => exact ⟨_, rfl, by omega, by omega⟩
    | 10, _ => exact ⟨_, rfl, by omega, by omega⟩
    | 11, _ => exact ⟨_, rfl, by omega, by omega⟩
    | 12, _ => exact ⟨_, rfl, by omega, by omega⟩
    | 13, _ => exact ⟨_, rfl, by omega, by omega⟩
  obtain ⟨x, hx, hx0, hx1⟩ := hc
  have HB : Hid (-9223372036854775808 ≤ x ∧ x ≤ 9223372036854775807) := ⟨hx0, hx1⟩
  clear hx0 hx1
  have H1 : Hid (Src w1 B g ∧ w.grownBy w1 (some g)) := ⟨hs1, grown_trans (grown_alloc (grown_self w g) _) hg1 (fun j hj => .inl (by simpa using hj.symm))⟩
  clear hs1 hg1 hk hz1
  go_wp2
  go_ret
  exact ⟨x, rfl, HB.out.1, HB.out.2, H1.out⟩

theorem wrap_u64_nat (x : Int) : ∃ m : Nat, IntKind.u64.wrap x = (m : Int) ∧ m < 18446744073709551616 := by
  rw [IntKind.wrap_u64]
  exact ⟨(x % 18446744073709551616).toNat, by omega, by omega⟩
end Go.Proofs.Ytfhfhpnoeghgmaa

/-
  Contracts: the source of draws is made of a slice of bytes.
-/
namespace Go.Proofs.Ytfhfhpnoeghgmaa
open Go.RowKit

theorem src_size {w wr : World} {B b off len cap mix : Nat} {zs : List Int} (z : Int) (h0 : 0 ≤ z) (h1 : z ≤ 12) (hl : len ≤ 1048576) (hm : mix < 18446744073709551616)
    (hk : wr.heap[w.heap.size]? = some (.cells #[.slice (some ⟨b, off, none⟩) len cap, .int .i64 0, .int .u64 mix, .int .i64 0] 117 (0, 0))) (hr : ByteRow wr B (some ⟨b, off, none⟩) len zs) (hB : B ≤ w.heap.size) (hb : Below w.heap.size w wr) :
    Src (wr.setCell ⟨w.heap.size, 3, none⟩ (.int .i64 z)) B w.heap.size ∧ Below w.heap.size w (wr.setCell ⟨w.heap.size, 3, none⟩ (.int .i64 z)) := by
  refine ⟨⟨_, len, cap, zs, 0, mix, z, ?_, hm, Nat.zero_le _, hl, h0, h1, hr.kept ((Below.refl B wr).setCell hB _)⟩, hb.setCell (Nat.le_refl _) _⟩
  rw [heap_setCell_same wr w.heap.size 3 _ _ (.int .i64 z) hk]; rfl
attribute [local go_sem ↓] Go.wp_at_zero Go.wp_at_succ
set_option maxHeartbeats 2000000 in
theorem source_row (B b off len cap : Nat) (zs : List Int) (w : World) (hB : B ≤ w.heap.size) (hl : len ≤ 1048576) (hbB : b < B) (hz : ∀ i, 0 ≤ zs.getD i 0 ∧ zs.getD i 0 ≤ 255)
    (hc : ∀ i, i < len → w.cell? ⟨b, off + i, none⟩ = some (.int .u8 (zs.getD i 0))) :
    Calls Try.prog 50 #[.slice (some ⟨b, off, none⟩) len cap] w fun e w' => ∃ g, e = .returned (.pointer (some ⟨g, 0, none⟩)) ∧ w.heap.size ≤ g ∧ Src w' B g ∧ Below w.heap.size w w' := by
  go_enter Try.func50, Try.ntmps50
  go_wp2
  go_loopw [4] (fun i wr => ∃ (k mix : Nat), k ≤ len ∧ i = .int .i64 k ∧ Hid (mix < 18446744073709551616) ∧ wr.heap[w.heap.size]? = some (.cells #[.slice (some ⟨b, off, none⟩) len cap, .int .i64 0, .int .u64 mix, .int .i64 0] 117 (0, 0)) ∧ Below w.heap.size w wr)
    (fun i _ => len - (intOf i).toNat)
  case atStart => exact ⟨0, 88172645463325252, by omega, rfl, by show _ < _; omega, heap_alloc_new _ _, (Below.refl _ _).alloc (Nat.le_refl _) _⟩
  case round =>
    obtain ⟨k, mix, hk, rfl, HM, hblk, hb⟩ := hrel
    have c2 : wr.cell? ⟨w.heap.size, 2, none⟩ = some (.int .u64 mix) := by rw [cell_of_row _ _ _ _ _ _ hblk]; rfl
    have c3 : wr.cell? ⟨w.heap.size, 3, none⟩ = some (.int .i64 0) := by rw [cell_of_row _ _ _ _ _ _ hblk]; rfl
    have cf : ∀ j, wr.frozen? ⟨w.heap.size, j, none⟩ = false := fun j => frozen_of_row _ _ _ _ _ hblk
    have HK : Hid (wr.heap[w.heap.size]? = some (.cells #[.slice (some ⟨b, off, none⟩) len cap, .int .i64 0, .int .u64 mix, .int .i64 0] 117 (0, 0))) := hblk
    clear hblk
    by_cases hkl : k < len ∧ k < 64
    · obtain ⟨hk1, hk2⟩ := hkl
      have cb : wr.cell? ⟨b, off + k, none⟩ = some (.int .u8 (zs.getD k 0)) := (hb.cell (p := ⟨b, off + k, none⟩) (by show b < _; omega)).trans (hc k hk1)
      have hzk := hz k
      obtain ⟨z, hzz⟩ : ∃ z, z = zs.getD k 0 := ⟨_, rfl⟩
      rw [← hzz] at cb hzk
      obtain ⟨m, hm, hml⟩ := wrap_u64_nat (bits .xor .u64 (mix : Int) z * 1099511628211)
      have HM2 : Hid (m < 18446744073709551616) := hml
      have hne : ¬ b = w.heap.size := by omega
      clear hzz hc hml hz HM
      go_wp2
      go_region
      have k2 := heap_setCell_same wr w.heap.size 2 _ _ (.int .u64 m) HK.out
      have HK2 : Hid ((wr.setCell ⟨w.heap.size, 2, none⟩ (.int .u64 m)).heap[w.heap.size]? = some (.cells #[.slice (some ⟨b, off, none⟩) len cap, .int .i64 0, .int .u64 m, .int .i64 0] 117 (0, 0))) := by
        show _ = _
        rw [k2]; rfl
      have hb2 := (hb.setCell (p := ⟨w.heap.size, 2, none⟩) (Nat.le_refl _) (.int .u64 m)).drew
      clear k2 HK hb
      go_wp2
      go_roundw
      case rel => exact ⟨k + 1, m, by omega, by go_num, HM2, HK2.out, hb2⟩
      case measure => simp [intOf]; omega
    · have hcon : (decide ((k : Int) < len) && decide ((k : Int) < 64)) = false := by
        rw [Bool.and_eq_false_iff]
        by_cases h : k < len
        · right; have : ¬ k < 64 := fun h2 => hkl ⟨h, h2⟩
          simp; omega
        · left; simp; omega
      have hrow : ByteRow w B (some ⟨b, off, none⟩) len zs := ⟨hz, .inr ⟨b, off, rfl, hbB, hc⟩⟩
      have HR : Hid (ByteRow wr B (some ⟨b, off, none⟩) len zs) := hrow.kept (hb.mono hB)
      clear hrow hz hc
      by_cases hq : 12 < len / 20
      · have hss := fun W v v' => setCell_twice W ⟨w.heap.size, 3, none⟩ v v'
        go_wp2
        all_goals
          go_ret
          exact ⟨w.heap.size, rfl, Nat.le_refl _, src_size 12 (by omega) (by omega) hl HM.out HK.out HR.out hB hb⟩
      · go_wp2
        all_goals
          go_ret
          exact ⟨w.heap.size, rfl, Nat.le_refl _, src_size _ (by omega) (by omega) hl HM.out HK.out HR.out hB hb⟩

/-- A source made of an empty slice, a nil one too. -/
theorem source_empty (B : Nat) (ao : Option Addr) (cap : Nat) (w : World) :
    Calls Try.prog 50 #[.slice ao 0 cap] w fun e w' => ∃ g, e = .returned (.pointer (some ⟨g, 0, none⟩)) ∧ w.heap.size ≤ g ∧ Src w' B g ∧ Below w.heap.size w w' := by
  go_enter Try.func50, Try.ntmps50
  go_wp2
  refine wp_loop_rounds 1 ?_
  rw [rounds_succ]
  go_wp2
  go_ret
  refine ⟨w.heap.size, rfl, Nat.le_refl _, ⟨ao, 0, cap, [], 0, 88172645463325252, 0, heap_alloc_new _ _, by omega, by omega, by omega, by omega, by omega, ⟨fun i => by simp, .inl rfl⟩⟩, (Below.refl _ _).alloc (Nat.le_refl _) _⟩

theorem source_any (B : Nat) (ao : Option Addr) (len cap : Nat) (zs : List Int) (w : World) (hB : B ≤ w.heap.size) (hl : len ≤ 1048576) (hr : ByteRow w B ao len zs) :
    Calls Try.prog 50 #[.slice ao len cap] w fun e w' => ∃ g, e = .returned (.pointer (some ⟨g, 0, none⟩)) ∧ w.heap.size ≤ g ∧ Src w' B g ∧ Below w.heap.size w w' := by
  rcases hr.2 with rfl | ⟨b, off, rfl, hbB, hc⟩
  · exact source_empty B ao cap w
  · exact source_row B b off len cap zs w hB hl hbB hr.1 hc
end Go.Proofs.Ytfhfhpnoeghgmaa

/-
  What draws share: what a source of their own leaves; bytes that were made, as a text.
-/
namespace Go.Proofs.Ytfhfhpnoeghgmaa
open Go.RowKit

theorem below_draw {w w1 w2 : World} {g : Nat} (h : Below w.heap.size w w1) (hg : w.heap.size ≤ g) (k : w1.grownBy w2 (some g)) : Below w.heap.size w w2 :=
  h.trans (below_of_grown k hg h.size)

theorem ownsStr {W : World} {base n : Nat} {g : Nat} {cs : List Value} (h : W.ownsRow base 5 1 (.slice (some ⟨g, 0, none⟩) n n) n cs) (hc : ∃ xs : List Int, cs = xs.map (Value.int .u8)) :
    ∃ t : ByteArray, t.size = n ∧ (convert 22 9 (.slice (some ⟨g, 0, none⟩) n n)).run Try.prog W = .ok (.string t) W := by
  obtain ⟨xs, rfl⟩ := hc
  exact ⟨strOfNums xs, by rw [strOfNums_size]; simpa using h.1, convOwn h⟩
theorem made_bytes (n : Nat) : ∃ xs : List Int, (madeCells (Value.int .u8 0).cells (n * 1)).toList = xs.map (Value.int .u8) := by
  refine ⟨(List.range (n * 1)).map (fun _ => 0), ?_⟩
  have hc : (Value.int .u8 0).cells = #[Value.int .u8 0] := rfl
  rw [hc]
  unfold madeCells
  rw [Array.toList_map, Array.toList_range, List.map_map]
  apply List.map_congr_left
  intro i _
  have : i % (#[Value.int .u8 0] : Array Value).size = 0 := Nat.mod_one i
  rw [this]; rfl

end Go.Proofs.Ytfhfhpnoeghgmaa

/-
  Plain facts that many texts share.
-/
namespace Go.Proofs.Ytfhfhpnoeghgmaa
open Go.RowKit

theorem hide {p : Prop} (h : p) : Hid p := h
/-- Does it hold at each place below n? -/
def upto (p : Nat → Bool) (n : Nat) : Bool := (List.range n).all p
theorem upto_zero (p : Nat → Bool) : upto p 0 = true := rfl
theorem upto_succ (p : Nat → Bool) (k : Nat) : upto p (k + 1) = (upto p k && p k) := by
  unfold upto; rw [List.range_succ, List.all_append]; simp
theorem upto_iff (p : Nat → Bool) (n : Nat) : upto p n = true ↔ ∀ i, i < n → p i = true := by
  unfold upto; simp
theorem upto_false {p : Nat → Bool} {k n : Nat} (hk : k < n) (h : p k = false) : upto p n = false := by
  rw [Bool.eq_false_iff]
  intro e
  have := (upto_iff p n).1 e k hk
  rw [h] at this; cases this
theorem getD_mem {α : Type} (l : List α) (d : α) (k : Nat) (hk : k < l.length) : l.getD k d ∈ l := by
  rw [List.getD_eq_getElem?_getD, List.getElem?_eq_getElem hk]; exact List.getElem_mem hk
theorem heap_far (W : World) (g m b : Nat) (v : Value) (h : b ≠ g) : (W.setCell ⟨g, m, none⟩ v).heap[b]? = W.heap[b]? := heap_setCell_other W ⟨g, m, none⟩ b v (by simpa using h)
theorem heap_old (w : World) (o : Obj) (k : Nat) (h : k < w.heap.size) : (w.alloc o).heap[k]? = w.heap[k]? := by
  unfold World.alloc; simp only [Array.getElem?_push]; rw [if_neg (by omega)]
theorem alloc3 (w : World) (o1 o2 o3 : Obj) : (((w.alloc o1).alloc o2).alloc o3).heap[w.heap.size]? = some o1 ∧ (((w.alloc o1).alloc o2).alloc o3).heap[w.heap.size + 1]? = some o2 ∧ (((w.alloc o1).alloc o2).alloc o3).heap[w.heap.size + 1 + 1]? = some o3 := by
  have s1 : (w.alloc o1).heap.size = w.heap.size + 1 := by simp
  have s2 : ((w.alloc o1).alloc o2).heap.size = w.heap.size + 1 + 1 := by simp
  refine ⟨?_, ?_, ?_⟩
  · rw [heap_old _ _ _ (by omega), heap_old _ _ _ (by omega), heap_alloc_new]
  · rw [heap_old _ _ _ (by omega), ← s1, heap_alloc_new]
  · rw [← s2, heap_alloc_new]
theorem two_allocs (w : World) (o1 o2 : Obj) : ((w.alloc o1).alloc o2).heap[w.heap.size]? = some o1 ∧ ((w.alloc o1).alloc o2).heap[w.heap.size + 1]? = some o2 ∧ ((w.alloc o1).alloc o2).heap.size = w.heap.size + 2 := by
  have s1 : (w.alloc o1).heap.size = w.heap.size + 1 := by simp
  refine ⟨?_, ?_, by simp⟩
  · rw [heap_old _ _ _ (by omega), heap_alloc_new]
  · rw [← s1, heap_alloc_new]
theorem setL_heap {W : World} {g m : Nat} {cur : List Value} {t : TypeId} {x : Value} (h : W.heap[g]? = some (.cells cur.toArray t (0, 0))) :
    (W.setCell ⟨g, m, none⟩ x).heap[g]? = some (.cells (cur.set m x).toArray t (0, 0)) := by
  have h1 := heap_setCell_same W g m _ t x h
  rw [h1]; simp
theorem take_set1 (cur : List Value) (k : Nat) (x : Value) (h : k < cur.length) : (cur.set k x).take (k + 1) = cur.take k ++ [x] := by
  have h' : k < (cur.set k x).length := by simpa using h
  rw [List.take_succ_eq_append_getElem h', List.take_set_of_le (Nat.le_refl _), List.getElem_set_self]
theorem cells4 {w : World} {g : Nat} {a b c d : Value} {t : TypeId} (h : w.heap[g]? = some (.cells #[a, b, c, d] t (0, 0))) :
    w.cell? ⟨g, 0, none⟩ = some a ∧ w.cell? ⟨g, 1, none⟩ = some b ∧ w.cell? ⟨g, 2, none⟩ = some c ∧ w.cell? ⟨g, 3, none⟩ = some d ∧ ∀ j, w.frozen? ⟨g, j, none⟩ = false :=
  ⟨by rw [cell_of_row _ _ _ _ _ _ h]; rfl, by rw [cell_of_row _ _ _ _ _ _ h]; rfl, by rw [cell_of_row _ _ _ _ _ _ h]; rfl, by rw [cell_of_row _ _ _ _ _ _ h]; rfl, fun j => frozen_of_row _ _ _ _ _ h⟩
theorem set2 {W : World} {g : Nat} {a b x y : Value} {t : TypeId} (h : W.heap[g]? = some (.cells #[a, b] t (0, 0))) :
    ((W.setCell ⟨g, 0, none⟩ x).setCell ⟨g, 1, none⟩ y).heap[g]? = some (.cells #[x, y] t (0, 0)) := by
  have h1 := heap_setCell_same W g 0 _ t x h
  have h2 := heap_setCell_same _ g 1 _ t y h1
  simpa using h2
theorem below2 {B g : Nat} {w W : World} {x y : Value} (h : Below B w W) (hg : B ≤ g) : Below B w ((W.setCell ⟨g, 0, none⟩ x).setCell ⟨g, 1, none⟩ y) := (h.setCell hg _).setCell hg _
theorem cells2 {W : World} {g : Nat} {a b : Value} {t : TypeId} (h : W.heap[g]? = some (.cells #[a, b] t (0, 0))) : W.cell? ⟨g, 0, none⟩ = some a ∧ W.cell? ⟨g, 1, none⟩ = some b ∧ (∀ j, W.frozen? ⟨g, j, none⟩ = false) :=
  ⟨by rw [cell_of_row _ _ _ _ _ _ h]; rfl, by rw [cell_of_row _ _ _ _ _ _ h]; rfl, fun j => frozen_of_row _ _ _ _ _ h⟩
theorem owns_set2 {W : World} {base g n : Nat} {v x y : Value} {xs : List Value} {t : TypeId} {size : Nat} (h : W.ownsRow base t size v n xs) (hg : g < base) : ((W.setCell ⟨g, 0, none⟩ x).setCell ⟨g, 1, none⟩ y).ownsRow base t size v n xs := by
  refine ⟨h.1, ?_⟩
  rcases h.2 with h0 | ⟨q, cap, cur, rfl, hB, hq, hn, hm, hs, ht⟩
  · exact .inl h0
  · exact .inr ⟨q, cap, cur, rfl, hB, by rw [heap_setCell_other _ _ _ _ (show q ≠ g by omega), heap_setCell_other _ _ _ _ (show q ≠ g by omega)]; exact hq, hn, hm, hs, ht⟩
theorem owns_base {W : World} {base base' n size : Nat} {v : Value} {xs : List Value} {t : TypeId} (h : W.ownsRow base t size v n xs) (hb : base' ≤ base) : W.ownsRow base' t size v n xs := by
  refine ⟨h.1, ?_⟩
  rcases h.2 with h0 | ⟨q, cap, cur, rfl, hB, hq, hn, hm, hs, ht⟩
  · exact .inl h0
  · exact .inr ⟨q, cap, cur, rfl, by omega, hq, hn, hm, hs, ht⟩
theorem own_set {W : World} {base g m n size : Nat} {v x : Value} {xs : List Value} {t : TypeId} (h : W.ownsRow base t size v n xs) (hg : g < base) : (W.setCell ⟨g, m, none⟩ x).ownsRow base t size v n xs := by
  refine ⟨h.1, ?_⟩
  rcases h.2 with h0 | ⟨q, cap, cur, rfl, hB, hq, hn, hm, hs, ht⟩
  · exact .inl h0
  · exact .inr ⟨q, cap, cur, rfl, hB, by rw [heap_setCell_other _ _ _ _ (show q ≠ g by omega)]; exact hq, hn, hm, hs, ht⟩
theorem own_far {base n size g : Nat} {t : TypeId} {v : Value} {xs : List Value} {w w' : World} (h : w.ownsRow base t size v n xs) (hg : w.grownBy w' (some g)) (hl : g < base) : w'.ownsRow base t size v n xs :=
  World.ownsRow.kept h hg (by
    cases hv : v.ownBlock with
    | none => exact .inl rfl
    | some k =>
      refine .inr (fun e => ?_)
      have h1 := (World.ownsRow.lt h k hv).1
      have : k = g := by simpa using e
      omega)
theorem cells5 {w : World} {g : Nat} {a b c d e : Value} {t : TypeId} (h : w.heap[g]? = some (.cells #[a, b, c, d, e] t (0, 0))) :
    w.cell? ⟨g, 0, none⟩ = some a ∧ w.cell? ⟨g, 1, none⟩ = some b ∧ w.cell? ⟨g, 2, none⟩ = some c ∧ w.cell? ⟨g, 3, none⟩ = some d ∧ w.cell? ⟨g, 4, none⟩ = some e ∧ ∀ j, w.frozen? ⟨g, j, none⟩ = false :=
  ⟨by rw [cell_of_row _ _ _ _ _ _ h]; rfl, by rw [cell_of_row _ _ _ _ _ _ h]; rfl, by rw [cell_of_row _ _ _ _ _ _ h]; rfl, by rw [cell_of_row _ _ _ _ _ _ h]; rfl, by rw [cell_of_row _ _ _ _ _ _ h]; rfl, fun j => frozen_of_row _ _ _ _ _ h⟩
/-- Only the blocks of these values may have been written. -/
structure GL (l : List Value) (w w' : World) : Prop where
  os : w'.os = w.os
  tape : w'.tape = w.tape
  output : w'.output = w.output
  size : w.heap.size ≤ w'.heap.size
  block : ∀ b, b < w.heap.size → (∀ v ∈ l, v.ownBlock ≠ some b) → w'.heap[b]? = w.heap[b]?
theorem GL.refl (l : List Value) (w : World) : GL l w w := ⟨rfl, rfl, rfl, Nat.le_refl _, fun _ _ _ => rfl⟩
theorem GL.trans {l : List Value} {a b c : World} (h : GL l a b) (k : GL l b c) : GL l a c :=
  ⟨k.os.trans h.os, k.tape.trans h.tape, k.output.trans h.output, Nat.le_trans h.size k.size, fun i hi hv => (k.block i (Nat.lt_of_lt_of_le hi h.size) hv).trans (h.block i hi hv)⟩
theorem GL.mono {l l' : List Value} {w w' : World} (h : GL l w w') (hs : ∀ v ∈ l, v ∈ l') : GL l' w w' := ⟨h.os, h.tape, h.output, h.size, fun b hb hv => h.block b hb (fun v hv' => hv v (hs v hv'))⟩
theorem GL.of {l : List Value} {v : Value} {w w' : World} (h : w.grownBy w' v.ownBlock) (hv : v ∈ l) : GL l w w' := ⟨h.os, h.tape, h.output, h.size, fun b hb hn => h.block b hb (fun e => hn v hv e.symm)⟩
theorem GL.alloc (l : List Value) (w : World) (o : Obj) : GL l w (w.alloc o) := ⟨rfl, rfl, rfl, by simp, fun b hb _ => heap_old _ _ _ hb⟩
theorem GL.below {l : List Value} {B : Nat} {w w' : World} (h : GL l w w') (hb : ∀ v ∈ l, ∀ b, v.ownBlock = some b → B ≤ b) (hB : B ≤ w.heap.size) : Below B w w' :=
  ⟨h.os, h.tape, h.output, h.size, fun k hk => h.block k (Nat.lt_of_lt_of_le hk hB) (fun v hv e => by have := hb v hv k e; omega)⟩
theorem GL.own {l : List Value} {w w' : World} {base n size : Nat} {t : TypeId} {u : Value} {xs : List Value} (h : GL l w w') (ho : w.ownsRow base t size u n xs) (hne : ∀ v ∈ l, u.ownBlock = none ∨ u.ownBlock ≠ v.ownBlock) : w'.ownsRow base t size u n xs := by
  refine ⟨ho.1, ?_⟩
  rcases ho.2 with h0 | ⟨q, cap, cur, rfl, hB, hq, rest⟩
  · exact .inl h0
  · refine .inr ⟨q, cap, cur, rfl, hB, (h.block q (Array.getElem?_eq_some_iff.1 hq).1 (fun v hv e => ?_)).trans hq, rest⟩
    rcases hne v hv with h1 | h1
    · simp [Value.ownBlock] at h1
    · exact h1 (by rw [e]; rfl)
end Go.Proofs.Ytfhfhpnoeghgmaa

/-
  Trees of keys: plain facts.
-/
namespace Go.Proofs.Ytfhfhpnoeghgmaa
open Go.RowKit

/-- A text stands ahead of another. -/
def lt' (a b : ByteArray) : Bool := Go.Op.bytesLess a.toList b.toList
theorem bl_trans : ∀ (a b c : List UInt8), Go.Op.bytesLess a b = true → Go.Op.bytesLess b c = true → Go.Op.bytesLess a c = true
  | _, [], _, h, _ => by simp [Go.Op.bytesLess] at h
  | _, _ :: _, [], _, h => by simp [Go.Op.bytesLess] at h
  | [], _ :: _, _ :: _, _, _ => by simp [Go.Op.bytesLess]
  | a :: x, b :: y, c :: z, h1, h2 => by
    simp only [Go.Op.bytesLess, Bool.or_eq_true, decide_eq_true_eq, Bool.and_eq_true, beq_iff_eq] at h1 h2 ⊢
    rcases h1 with h1 | ⟨rfl, h1⟩
    · rcases h2 with h2 | ⟨rfl, h2⟩
      · exact .inl (UInt8.lt_trans h1 h2)
      · exact .inl h1
    · rcases h2 with h2 | ⟨rfl, h2⟩
      · exact .inl h2
      · exact .inr ⟨rfl, bl_trans x y z h1 h2⟩
theorem bl_irr : ∀ a : List UInt8, Go.Op.bytesLess a a = false
  | [] => by simp [Go.Op.bytesLess]
  | a :: x => by simp [Go.Op.bytesLess, bl_irr x, UInt8.lt_irrefl]
theorem bl_tri : ∀ a b : List UInt8, Go.Op.bytesLess a b = false → Go.Op.bytesLess b a = false → a = b
  | [], [], _, _ => rfl
  | [], _ :: _, h, _ => by simp [Go.Op.bytesLess] at h
  | _ :: _, [], _, h => by simp [Go.Op.bytesLess] at h
  | a :: x, b :: y, h1, h2 => by
    simp only [Go.Op.bytesLess, Bool.or_eq_false_iff, decide_eq_false_iff_not, Bool.and_eq_false_iff, beq_eq_false_iff_ne] at h1 h2
    have hab : a = b := UInt8.le_antisymm (UInt8.not_lt.1 h2.1) (UInt8.not_lt.1 h1.1)
    subst hab
    rcases h1.2 with h | h
    · exact absurd rfl h
    · rcases h2.2 with h' | h'
      · exact absurd rfl h'
      · rw [bl_tri x y h h']
theorem lt_trans' {a b c : ByteArray} (h1 : lt' a b = true) (h2 : lt' b c = true) : lt' a c = true := bl_trans _ _ _ h1 h2
theorem lt_irr' (a : ByteArray) : lt' a a = false := bl_irr _
/-- Ahead of or the same: as the program asks it. -/
theorem le_not_lt (a b : ByteArray) : (Go.Op.bytesLess a.toList b.toList || a.toList == b.toList) = !lt' b a := by
  unfold lt'
  by_cases h : Go.Op.bytesLess b.toList a.toList = true
  · rw [h]
    have h1 : Go.Op.bytesLess a.toList b.toList = false := by
      rw [Bool.eq_false_iff]; intro e
      have := bl_trans _ _ _ h e
      rw [bl_irr] at this; cases this
    have h2 : (a.toList == b.toList) = false := by
      rw [Bool.eq_false_iff]; intro e
      rw [beq_iff_eq] at e
      rw [e, bl_irr] at h; cases h
    rw [h1, h2]; rfl
  · rw [Bool.not_eq_true] at h
    rw [h]
    by_cases h1 : Go.Op.bytesLess a.toList b.toList = true
    · rw [h1]; rfl
    · rw [Bool.not_eq_true] at h1
      have := bl_tri _ _ h1 h
      rw [h1, this]; simp

inductive Tr where
  | node (keys vals : List ByteArray) (kids : List Tr)
def Tr.keys : Tr → List ByteArray | .node k _ _ => k
def Tr.vals : Tr → List ByteArray | .node _ v _ => v
def Tr.kids : Tr → List Tr | .node _ _ c => c
def noTr : Tr := .node [] [] []

theorem upto_shift (p : Nat → Bool) (n : Nat) : upto p (n + 1) = (p 0 && upto (fun i => p (i + 1)) n) := by
  rw [Bool.eq_iff_iff, Bool.and_eq_true, upto_iff, upto_iff]
  constructor
  · intro h; exact ⟨h 0 (by omega), fun i hi => h (i + 1) (by omega)⟩
  · rintro ⟨h0, h1⟩ i hi
    cases i with
    | zero => exact h0
    | succ i => exact h1 i (by omega)

/-! What is right of one node: the program's look, and the specification's. -/
def short (s : ByteArray) : Bool := decide (s.size ≤ 20000)
def nodeOk (t : Tr) : Bool :=
  decide (1 ≤ t.keys.length) && decide (t.keys.length ≤ 3) && decide (t.vals.length = t.keys.length) && (decide (t.kids.length = 0) || decide (t.kids.length = t.keys.length + 1)) && t.keys.all short && t.vals.all short
def nodeS (root : Bool) (t : Tr) : Bool :=
  decide (t.keys.length ≤ 3) && (root || decide (1 ≤ t.keys.length)) && decide (t.vals.length = t.keys.length) && (decide (t.kids.length = 0) || (decide (t.kids.length = t.keys.length + 1) && decide (1 ≤ t.keys.length)))
/-- Kids that are all equally deep: how deep. -/
def sameL : List (Option Nat) → Option Nat
  | [] => some 0
  | none :: _ => none
  | some a :: r => if r.all (fun x => decide (x = some a)) then some a else none
/-- How many levels there are from a node on, if its shape is right and there are at most so many. -/
def lev : Nat → Tr → Option Nat
  | 0, _ => none
  | r + 1, t => if nodeOk t then (sameL (t.kids.map (lev r))).map (· + 1) else none
def weave : List ByteArray → List (List ByteArray) → List ByteArray
  | ks, [] => ks
  | [], c :: _ => c
  | k :: ks, c :: cs => c ++ k :: weave ks cs
def inord : Nat → Tr → List ByteArray
  | 0, _ => []
  | r + 1, t => weave t.keys (t.kids.map (inord r))
def rises : List ByteArray → Bool
  | a :: b :: l => lt' a b && rises (b :: l)
  | _ => true
/-- How many levels a right tree has (none: it is not right). -/
def trLev (t : Tr) : Option Nat :=
  if t.keys.length = 0 then (if t.vals.length = 0 ∧ t.kids.length = 0 then some 0 else none)
  else (lev 12 t).bind fun L => if rises (inord 12 t) then some L else none
/-- The way down by the first kids. -/
def dp : Nat → Tr → Nat
  | 0, _ => 1
  | f + 1, t => match t.kids with | [] => 1 | c :: _ => 1 + dp f c
def above (lo : Option ByteArray) (k : ByteArray) : Bool := match lo with | none => true | some a => lt' a k
def under (k : ByteArray) (hi : Option ByteArray) : Bool := match hi with | none => true | some a => lt' k a
def keyS (t : Tr) (lo hi : Option ByteArray) (i : Nat) : Bool :=
  short (t.keys.getD i ByteArray.empty) && short (t.vals.getD i ByteArray.empty) && (decide (i = 0) || lt' (t.keys.getD (i - 1) ByteArray.empty) (t.keys.getD i ByteArray.empty)) && above lo (t.keys.getD i ByteArray.empty) && under (t.keys.getD i ByteArray.empty) hi
def loB (lo : Option ByteArray) (ks : List ByteArray) (i : Nat) : Option ByteArray := if i = 0 then lo else some (ks.getD (i - 1) ByteArray.empty)
def hiB (hi : Option ByteArray) (ks : List ByteArray) (i : Nat) : Option ByteArray := if i < ks.length then some (ks.getD i ByteArray.empty) else hi
/-- The specification's look. -/
def okS : Nat → Bool → Tr → Option ByteArray → Option ByteArray → Bool
  | 0, _, _, _, _ => false
  | d + 1, root, t, lo, hi => nodeS root t && (decide (t.kids.length = 0) == decide (d = 0)) && upto (keyS t lo hi) t.keys.length && upto (fun i => okS d false (t.kids.getD i noTr) (loB lo t.keys i) (hiB hi t.keys i)) t.kids.length

/-! Both looks are one. -/
def srt (lo hi : Option ByteArray) : List ByteArray → Bool
  | [] => true
  | a :: l => above lo a && under a hi && srt (some a) hi l
theorem rises_srt : ∀ l : List ByteArray, rises l = srt none none l
  | [] => rfl
  | [a] => rfl
  | a :: b :: l => by
    have ih := rises_srt (b :: l)
    simp only [rises, srt, above, under, Bool.true_and] at ih ⊢
    rw [ih]
    simp
theorem above_trans {lo : Option ByteArray} {a k : ByteArray} (h : above lo a = true) (h2 : lt' a k = true) : above lo k = true := by
  cases lo with
  | none => rfl
  | some x => exact lt_trans' h h2
theorem under_trans {hi : Option ByteArray} {a k : ByteArray} (h : lt' a k = true) (h2 : under k hi = true) : under a hi = true := by
  cases hi with
  | none => rfl
  | some x => exact lt_trans' h h2
theorem srt_mid : ∀ (c : List ByteArray) (lo hi : Option ByteArray) (k : ByteArray) (r : List ByteArray), srt lo hi (c ++ k :: r) = true ↔ (srt lo (some k) c = true ∧ above lo k = true ∧ under k hi = true ∧ srt (some k) hi r = true)
  | [], lo, hi, k, r => by simp [srt, and_assoc]
  | a :: c, lo, hi, k, r => by
    have ih := srt_mid c (some a) hi k r
    simp only [List.cons_append, srt, Bool.and_eq_true] at ih ⊢
    rw [ih]
    constructor
    · rintro ⟨⟨h1, h2⟩, h3, h4, h5, h6⟩
      exact ⟨⟨⟨h1, h4⟩, h3⟩, above_trans h1 h4, h5, h6⟩
    · rintro ⟨⟨⟨h1, h4⟩, h3⟩, _, h5, h6⟩
      exact ⟨⟨h1, under_trans h4 h5⟩, h3, h4, h5, h6⟩
/-- Keys in order, each within the bounds: as the specification asks it, place by place. -/
def krow (lo hi : Option ByteArray) (ks : List ByteArray) (i : Nat) : Bool := (decide (i = 0) || lt' (ks.getD (i - 1) ByteArray.empty) (ks.getD i ByteArray.empty)) && above lo (ks.getD i ByteArray.empty) && under (ks.getD i ByteArray.empty) hi
theorem krow_srt : ∀ (ks : List ByteArray) (lo hi : Option ByteArray), upto (krow lo hi ks) ks.length = true ↔ srt lo hi ks = true
  | [], lo, hi => by simp [upto, srt]
  | k :: ks, lo, hi => by
    rw [List.length_cons, upto_shift]
    have ih := krow_srt ks (some k) hi
    simp only [srt, Bool.and_eq_true]
    rw [← ih]
    constructor
    · rintro ⟨h0, h1⟩
      have h0' : above lo k = true ∧ under k hi = true := by simpa [krow] using h0
      refine ⟨h0', ?_⟩
      rw [upto_iff] at h1 ⊢
      have hk : ∀ i, i < ks.length → lt' k (ks.getD i ByteArray.empty) = true := by
        intro i
        induction i with
        | zero => intro hi0; have := h1 0 hi0; simp only [krow, Bool.and_eq_true] at this; simpa using this.1.1
        | succ i ihk =>
          intro hi1
          have h2 := ihk (by omega)
          have h3 := h1 (i + 1) hi1
          simp only [krow, Bool.and_eq_true] at h3
          have h4 : lt' (ks.getD i ByteArray.empty) (ks.getD (i + 1) ByteArray.empty) = true := by simpa using h3.1.1
          exact lt_trans' h2 h4
      intro i hi'
      have h2 := h1 i hi'
      simp only [krow, Bool.and_eq_true] at h2 ⊢
      refine ⟨⟨?_, hk i hi'⟩, by simpa using h2.2⟩
      cases i with
      | zero => simp
      | succ i => simpa using h2.1.1
    · rintro ⟨⟨ha, hu⟩, h1⟩
      refine ⟨by simp [krow, ha, hu], ?_⟩
      rw [upto_iff] at h1 ⊢
      intro i hi'
      have h2 := h1 i hi'
      simp only [krow, Bool.and_eq_true] at h2 ⊢
      have hka : lt' k (ks.getD i ByteArray.empty) = true := h2.1.2
      refine ⟨⟨?_, ?_⟩, by simpa using h2.2⟩
      · cases i with
        | zero => simpa using hka
        | succ i => simpa using h2.1.1
      · have := above_trans (lo := lo) ha hka
        simpa using this
theorem srt_weave : ∀ (ks : List ByteArray) (cs : List (List ByteArray)) (lo hi : Option ByteArray), cs.length = ks.length + 1 →
    (srt lo hi (weave ks cs) = true ↔ (srt lo hi ks = true ∧ ∀ i, i < cs.length → srt (loB lo ks i) (hiB hi ks i) (cs.getD i []) = true))
  | [], [c], lo, hi, _ => by
    simp only [weave, srt, true_and, List.length_singleton]
    constructor
    · intro h i hi'
      obtain rfl : i = 0 := by omega
      simpa [loB, hiB] using h
    · intro h
      simpa [loB, hiB] using h 0 (by omega)
  | [], [], _, _, h => by simp at h
  | [], _ :: _ :: _, _, _, h => by simp at h
  | _ :: _, [], _, _, h => by simp at h
  | k :: ks, c :: cs, lo, hi, h => by
    have ih := srt_weave ks cs (some k) hi (by simpa using h)
    rw [weave, srt_mid, ih]
    simp only [srt, Bool.and_eq_true]
    constructor
    · rintro ⟨h1, h2, h3, h4, h5⟩
      refine ⟨⟨⟨h2, h3⟩, h4⟩, fun i hi' => ?_⟩
      cases i with
      | zero => simpa [loB, hiB] using h1
      | succ i =>
        have := h5 i (by simpa using hi')
        simp only [loB, hiB, List.length_cons, List.getD_cons_succ, Nat.add_sub_cancel, Nat.add_lt_add_iff_right] at this ⊢
        cases i with
        | zero => simpa using this
        | succ i => simpa using this
    · rintro ⟨⟨⟨h2, h3⟩, h4⟩, h5⟩
      refine ⟨by simpa [loB, hiB] using h5 0 (by simp), h2, h3, h4, fun i hi' => ?_⟩
      have := h5 (i + 1) (by simpa using hi')
      simp only [loB, hiB, List.length_cons, List.getD_cons_succ, Nat.add_sub_cancel, Nat.add_lt_add_iff_right] at this ⊢
      cases i with
      | zero => simpa using this
      | succ i => simpa using this
theorem all_getD {α : Type} (l : List α) (d : α) (p : α → Bool) : l.all p = true ↔ ∀ i, i < l.length → p (l.getD i d) = true := by
  rw [List.all_eq_true]
  constructor
  · intro h i hi
    rw [List.getD_eq_getElem?_getD, List.getElem?_eq_getElem hi]
    exact h _ (List.getElem_mem hi)
  · intro h x hx
    obtain ⟨i, hi, rfl⟩ := List.getElem_of_mem hx
    have := h i hi
    rw [List.getD_eq_getElem?_getD, List.getElem?_eq_getElem hi] at this
    exact this
theorem sameL_some {l : List (Option Nat)} {a : Nat} (hl : l ≠ []) : sameL l = some a ↔ ∀ x ∈ l, x = some a := by
  cases l with
  | nil => exact absurd rfl hl
  | cons x r =>
    cases x with
    | none => simp [sameL]
    | some b =>
      simp only [sameL]
      by_cases h : (r.all fun x => decide (x = some b)) = true
      · rw [if_pos h]
        rw [List.all_eq_true] at h
        simp only [decide_eq_true_eq] at h
        constructor
        · intro e y hy
          obtain rfl := Option.some.inj e
          rcases List.mem_cons.1 hy with rfl | hy
          · rfl
          · exact h y hy
        · intro h2; exact h2 _ (by simp)
      · rw [if_neg h]
        constructor
        · intro e; cases e
        · intro h2
          refine absurd ?_ h
          rw [List.all_eq_true]
          intro y hy
          have e1 := h2 (some b) (by simp)
          have e2 := h2 y (by simp [hy])
          rw [e2, ← e1]; simp
theorem nodeOk_nodeS {t : Tr} (h : nodeOk t = true) (root : Bool) : nodeS root t = true ∧ (∀ i, i < t.keys.length → short (t.keys.getD i ByteArray.empty) = true ∧ short (t.vals.getD i ByteArray.empty) = true) := by
  unfold nodeOk at h
  simp only [Bool.and_eq_true, decide_eq_true_eq, Bool.or_eq_true] at h
  obtain ⟨⟨⟨⟨⟨h1, h2⟩, h3⟩, h4⟩, h5⟩, h6⟩ := h
  refine ⟨?_, fun i hi => ⟨(all_getD _ ByteArray.empty _).1 h5 i hi, (all_getD _ ByteArray.empty _).1 h6 i (by omega)⟩⟩
  unfold nodeS
  simp only [Bool.and_eq_true, decide_eq_true_eq, Bool.or_eq_true]
  exact ⟨⟨⟨h2, .inr h1⟩, h3⟩, h4.imp id (fun e => ⟨e, h1⟩)⟩
theorem nodeS_nodeOk {t : Tr} {root : Bool} (h : nodeS root t = true) (h1 : 1 ≤ t.keys.length) (hs : ∀ i, i < t.keys.length → short (t.keys.getD i ByteArray.empty) = true ∧ short (t.vals.getD i ByteArray.empty) = true) : nodeOk t = true := by
  unfold nodeS at h
  simp only [Bool.and_eq_true, decide_eq_true_eq, Bool.or_eq_true] at h
  obtain ⟨⟨⟨h2, _⟩, h3⟩, h4⟩ := h
  unfold nodeOk
  simp only [Bool.and_eq_true, decide_eq_true_eq, Bool.or_eq_true]
  exact ⟨⟨⟨⟨⟨h1, h2⟩, h3⟩, h4.imp id And.left⟩, (all_getD _ ByteArray.empty _).2 fun i hi => (hs i hi).1⟩, (all_getD _ ByteArray.empty _).2 fun i hi => (hs i (by omega)).2⟩
theorem map_getD {α β : Type} (l : List α) (f : α → β) (i : Nat) (d : α) (e : β) (h : i < l.length) : (l.map f).getD i e = f (l.getD i d) := by
  simp [List.getD_eq_getElem?_getD, h]
/-- Of a right shape with d levels below so much room: both looks are one. -/
theorem ok_iff : ∀ (d r : Nat) (root : Bool) (t : Tr) (lo hi : Option ByteArray), d ≤ r → 1 ≤ t.keys.length →
    (okS d root t lo hi = true ↔ (lev r t = some d ∧ srt lo hi (inord r t) = true))
  | 0, r, root, t, lo, hi, _, _ => by
    constructor
    · intro h; simp [okS] at h
    · rintro ⟨h, _⟩
      cases r with
      | zero => simp [lev] at h
      | succ r =>
        simp only [lev] at h
        split at h
        · cases hs : sameL (t.kids.map (lev r)) <;> rw [hs] at h <;> simp at h
        · cases h
  | d + 1, 0, _, _, _, _, h, _ => by omega
  | d + 1, r + 1, root, t, lo, hi, hd, hk => by
    have hkeys : upto (keyS t lo hi) t.keys.length = true ↔ ((∀ i, i < t.keys.length → short (t.keys.getD i ByteArray.empty) = true ∧ short (t.vals.getD i ByteArray.empty) = true) ∧ srt lo hi t.keys = true) := by
      rw [← krow_srt, upto_iff, upto_iff]
      simp only [keyS, krow, Bool.and_eq_true]
      constructor
      · intro h; exact ⟨fun i hi' => ⟨(h i hi').1.1.1.1, (h i hi').1.1.1.2⟩, fun i hi' => ⟨⟨(h i hi').1.1.2, (h i hi').1.2⟩, (h i hi').2⟩⟩
      · rintro ⟨h1, h2⟩ i hi'; exact ⟨⟨⟨⟨(h1 i hi').1, (h1 i hi').2⟩, (h2 i hi').1.1⟩, (h2 i hi').1.2⟩, (h2 i hi').2⟩
    simp only [okS, Bool.and_eq_true, hkeys, lev, inord]
    constructor
    · rintro ⟨⟨⟨hn, hdd⟩, hs, hsrt⟩, hkid⟩
      have hok := nodeS_nodeOk hn hk hs
      rw [if_pos hok]
      have hn' := hn
      unfold nodeS at hn'
      simp only [Bool.and_eq_true, decide_eq_true_eq, Bool.or_eq_true] at hn'
      rw [beq_iff_eq, decide_eq_decide] at hdd
      rw [upto_iff] at hkid
      by_cases hc : t.kids.length = 0
      · obtain hc' := List.eq_nil_of_length_eq_zero hc
        have hd0 := hdd.1 hc
        subst hd0
        rw [hc']
        exact ⟨rfl, by simpa [weave] using hsrt⟩
      · have hcl : t.kids.length = t.keys.length + 1 := by
          rcases hn'.2 with h | h
          · exact absurd h hc
          · exact h.1
        have hkn : ∀ i, i < t.kids.length → 1 ≤ (t.kids.getD i noTr).keys.length := fun i hi' => by
          have := hkid i hi'
          cases d with
          | zero => simp [okS] at this
          | succ d =>
            simp only [okS, Bool.and_eq_true] at this
            have h2 := this.1.1.1
            unfold nodeS at h2
            simp only [Bool.and_eq_true, decide_eq_true_eq, Bool.or_eq_true] at h2
            rcases h2.1.1.2 with h3 | h3
            · cases h3
            · exact h3
        have hrec := fun i hi' => (ok_iff d r false (t.kids.getD i noTr) (loB lo t.keys i) (hiB hi t.keys i) (by omega) (hkn i hi')).1 (hkid i hi')
        refine ⟨?_, ?_⟩
        · have : sameL (t.kids.map (lev r)) = some d := by
            rw [sameL_some (by simp; intro e; rw [e] at hc; exact hc rfl)]
            intro x hx
            rw [List.mem_map] at hx
            obtain ⟨c, hc1, rfl⟩ := hx
            obtain ⟨i, hi', rfl⟩ := List.getElem_of_mem hc1
            have := (hrec i hi').1
            rw [List.getD_eq_getElem?_getD, List.getElem?_eq_getElem hi'] at this
            exact this
          rw [this]; rfl
        · rw [srt_weave _ _ _ _ (by simpa using hcl)]
          refine ⟨hsrt, fun i hi' => ?_⟩
          have hi2 : i < t.kids.length := by simpa using hi'
          rw [map_getD _ _ _ noTr _ hi2]
          exact (hrec i hi2).2
    · rintro ⟨hl, hs⟩
      by_cases hok : nodeOk t = true
      · rw [if_pos hok] at hl
        obtain ⟨hn, hsz⟩ := nodeOk_nodeS hok root
        have hn' := hok
        unfold nodeOk at hn'
        simp only [Bool.and_eq_true, decide_eq_true_eq, Bool.or_eq_true] at hn'
        by_cases hc : t.kids.length = 0
        · obtain hc' := List.eq_nil_of_length_eq_zero hc
          rw [hc'] at hl hs ⊢
          simp only [List.map_nil, sameL, Option.map_some, Option.some.injEq] at hl
          obtain rfl : d = 0 := by omega
          exact ⟨⟨⟨hn, by simp⟩, hsz, by simpa [weave] using hs⟩, by simp [upto]⟩
        · have hcl : t.kids.length = t.keys.length + 1 := by
            rcases hn'.1.1.2 with h | h
            · exact absurd h hc
            · exact h
          rw [srt_weave _ _ _ _ (by simpa using hcl)] at hs
          have hsm : sameL (t.kids.map (lev r)) = some d := by
            cases h : sameL (t.kids.map (lev r)) with
            | none => rw [h] at hl; cases hl
            | some a => rw [h] at hl; simp at hl; rw [hl]
          rw [sameL_some (by simp; intro e; rw [e] at hc; exact hc rfl)] at hsm
          have hlev : ∀ i, i < t.kids.length → lev r (t.kids.getD i noTr) = some d := fun i hi' => by
            rw [List.getD_eq_getElem?_getD, List.getElem?_eq_getElem hi']
            exact hsm _ (List.mem_map.2 ⟨_, List.getElem_mem hi', rfl⟩)
          have hkn : ∀ i, i < t.kids.length → 1 ≤ (t.kids.getD i noTr).keys.length := fun i hi' => by
            have := hlev i hi'
            cases r with
            | zero => simp [lev] at this
            | succ r =>
              simp only [lev] at this
              split at this
              · rename_i h2
                unfold nodeOk at h2
                simp only [Bool.and_eq_true, decide_eq_true_eq] at h2
                exact h2.1.1.1.1.1
              · cases this
          have hd0 : d ≠ 0 := fun e => by
            subst e
            have := (ok_iff 0 r false (t.kids.getD 0 noTr) none none (by omega) (hkn 0 (by omega)))
            have h3 := hlev 0 (by omega)
            cases r with
            | zero => simp [lev] at h3
            | succ r =>
              simp only [lev] at h3
              split at h3
              · cases hs2 : sameL ((t.kids.getD 0 noTr).kids.map (lev r)) <;> rw [hs2] at h3 <;> simp at h3
              · cases h3
          refine ⟨⟨⟨hn, by simp [hc, hd0]⟩, hsz, hs.1⟩, ?_⟩
          rw [upto_iff]
          intro i hi'
          refine (ok_iff d r false (t.kids.getD i noTr) (loB lo t.keys i) (hiB hi t.keys i) (by omega) (hkn i hi')).2 ⟨hlev i hi', ?_⟩
          have := hs.2 i (by simpa using hi')
          rw [map_getD _ _ _ noTr _ hi'] at this
          exact this
      · rw [if_neg hok] at hl; cases hl
theorem lev_dp : ∀ (r f : Nat) (t : Tr) (L : Nat), lev r t = some L → L ≤ f + 1 → 1 ≤ L ∧ L ≤ r ∧ dp f t = L
  | 0, _, _, _, h, _ => by simp [lev] at h
  | r + 1, f, t, L, h, hf => by
    simp only [lev] at h
    split at h
    · cases hs : sameL (t.kids.map (lev r)) with
      | none => rw [hs] at h; cases h
      | some a =>
        rw [hs] at h
        simp only [Option.map_some, Option.some.injEq] at h
        cases hk : t.kids with
        | nil =>
          rw [hk] at hs
          simp only [List.map_nil, sameL, Option.some.injEq] at hs
          refine ⟨by omega, by omega, ?_⟩
          cases f with
          | zero => simp [dp]; omega
          | succ f => simp [dp, hk]; omega
        | cons c cs =>
          rw [hk, sameL_some (by simp)] at hs
          have hc := hs (lev r c) (by simp)
          cases f with
          | zero =>
            obtain ⟨h1, _, _⟩ := lev_dp r a c a hc (by omega)
            omega
          | succ f =>
            obtain ⟨h1, h2, h3⟩ := lev_dp r f c a hc (by omega)
            refine ⟨by omega, by omega, ?_⟩
            simp only [dp, hk]
            omega
    · cases h
/-- What the specification's TreeRight tells: the program's levels. -/
theorem right_same (t : Tr) : (decide (dp 12 t ≤ 12) && okS (dp 12 t) true t none none) = (trLev t).isSome := by
  unfold trLev
  by_cases hk : t.keys.length = 0
  · rw [if_pos hk]
    by_cases hv : t.vals.length = 0 ∧ t.kids.length = 0
    · rw [if_pos hv]
      have hc := List.eq_nil_of_length_eq_zero hv.2
      have h1 : dp 12 t = 1 := by simp [dp, hc]
      rw [h1]
      simp [okS, nodeS, hk, hv.1, hc, upto]
    · rw [if_neg hv]
      have h0 : okS (dp 12 t) true t none none = false := by
        rw [Bool.eq_false_iff]
        intro h
        cases hd : dp 12 t with
        | zero => rw [hd] at h; simp [okS] at h
        | succ d =>
          rw [hd] at h
          simp only [okS, Bool.and_eq_true] at h
          have h2 := h.1.1.1
          unfold nodeS at h2
          simp only [Bool.and_eq_true, decide_eq_true_eq, Bool.or_eq_true] at h2
          refine hv ⟨by omega, ?_⟩
          rcases h2.2 with h3 | h3
          · exact h3
          · omega
      rw [h0]; simp
  · rw [if_neg hk]
    have hk1 : 1 ≤ t.keys.length := by omega
    rw [Bool.eq_iff_iff, Bool.and_eq_true, decide_eq_true_eq]
    constructor
    · rintro ⟨hd, ho⟩
      obtain ⟨h1, h2⟩ := (ok_iff (dp 12 t) 12 true t none none hd hk1).1 ho
      rw [h1, ← rises_srt] at *
      simp [h2]
    · intro h
      cases hl : lev 12 t with
      | none => rw [hl] at h; cases h
      | some L =>
        obtain ⟨h1, h2, h3⟩ := lev_dp 12 12 t L hl (by
          by_cases hL : L ≤ 13
          · exact hL
          · obtain ⟨_, h4, _⟩ := lev_dp 12 L t L hl (by omega)
            omega)
        rw [hl] at h
        by_cases hr : rises (inord 12 t) = true
        · rw [h3]
          refine ⟨by omega, (ok_iff L 12 true t none none (by omega) hk1).2 ⟨hl, ?_⟩⟩
          rw [← rises_srt]; exact hr
        · simp [hr] at h
theorem lev_deep (t : Tr) (L : Nat) (h : trLev t = some L) (hk : t.keys.length ≠ 0) : dp 12 t = L := by
  unfold trLev at h
  rw [if_neg hk] at h
  cases hl : lev 12 t with
  | none => rw [hl] at h; cases h
  | some M =>
    rw [hl] at h
    simp only [Option.bind_some] at h
    split at h
    · obtain rfl := Option.some.inj h
      by_cases hL : M ≤ 13
      · exact (lev_dp 12 12 t M hl hL).2.2
      · obtain ⟨_, h4, _⟩ := lev_dp 12 M t M hl (by omega)
        omega
    · cases h
end Go.Proofs.Ytfhfhpnoeghgmaa

/-
  Structs of three fields in a block of their own. Plain laws, no program.
-/
namespace Go.Proofs.Ytfhfhpnoeghgmaa
open Go.RowKit

theorem set3 {W : World} {g : Nat} {a b c x y z : Value} {t : TypeId} (h : W.heap[g]? = some (.cells #[a, b, c] t (0, 0))) :
    (((W.setCell ⟨g, 0, none⟩ x).setCell ⟨g, 1, none⟩ y).setCell ⟨g, 2, none⟩ z).heap[g]? = some (.cells #[x, y, z] t (0, 0)) := by
  have h1 := heap_setCell_same W g 0 _ t x h
  have h2 := heap_setCell_same _ g 1 _ t y h1
  have h3 := heap_setCell_same _ g 2 _ t z h2
  simpa using h3
theorem below3 {B g : Nat} {w W : World} {x y z : Value} (h : Below B w W) (hg : B ≤ g) : Below B w (((W.setCell ⟨g, 0, none⟩ x).setCell ⟨g, 1, none⟩ y).setCell ⟨g, 2, none⟩ z) :=
  ((h.setCell hg _).setCell hg _).setCell hg _
theorem cells3 {W : World} {g : Nat} {a b c : Value} {t : TypeId} (h : W.heap[g]? = some (.cells #[a, b, c] t (0, 0))) :
    W.cell? ⟨g, 0, none⟩ = some a ∧ W.cell? ⟨g, 1, none⟩ = some b ∧ W.cell? ⟨g, 2, none⟩ = some c ∧ (∀ j, W.frozen? ⟨g, j, none⟩ = false) :=
  ⟨by rw [cell_of_row _ _ _ _ _ _ h]; rfl, by rw [cell_of_row _ _ _ _ _ _ h]; rfl, by rw [cell_of_row _ _ _ _ _ _ h]; rfl, fun j => frozen_of_row _ _ _ _ _ h⟩

end Go.Proofs.Ytfhfhpnoeghgmaa

/-
  Frames: one block is written, and behind it all is new. Plain laws.
-/
namespace Go.Proofs.Ytfhfhpnoeghgmaa
open Go.RowKit

theorem grown_setG {w W : World} {g m : Nat} {x : Value} (h : w.grownBy W (some g)) : w.grownBy (W.setCell ⟨g, m, none⟩ x) (some g) := by
  have hb : Below 0 W (W.setCell ⟨g, m, none⟩ x) := (Below.refl 0 W).setCell (Nat.zero_le _) x
  exact ⟨hb.os.trans h.os, hb.tape.trans h.tape, hb.output.trans h.output, Nat.le_trans h.size hb.size, fun k hk hne => (heap_setCell_other W ⟨g, m, none⟩ k x (fun e => hne (by rw [e]))).trans (h.block k hk hne)⟩
theorem grown_below {w W W' : World} {g : Nat} (h : w.grownBy W (some g)) (hb : Below W.heap.size W W') : w.grownBy W' (some g) :=
  ⟨hb.os.trans h.os, hb.tape.trans h.tape, hb.output.trans h.output, Nat.le_trans h.size hb.size, fun k hk hne => (hb.block k (Nat.lt_of_lt_of_le hk h.size)).trans (h.block k hk hne)⟩
theorem grown_refl (a : World) (r : Option Nat) : a.grownBy a r := ⟨rfl, rfl, rfl, Nat.le_refl _, fun _ _ _ => rfl⟩
end Go.Proofs.Ytfhfhpnoeghgmaa

/-
  Trees as they lie in memory. Plain laws.
-/
namespace Go.Proofs.Ytfhfhpnoeghgmaa
open Go.RowKit

/-- Texts that lie one behind the other, in blocks from A on and below B. -/
def StrRow (w : World) (A B : Nat) (ao : Option Addr) (l : List ByteArray) : Prop :=
  (∀ s ∈ l, s.size ≤ maxLen) ∧ (l.length = 0 ∨ ∃ b off, ao = some ⟨b, off, none⟩ ∧ A ≤ b ∧ b < B ∧ ∀ i, i < l.length → w.cell? ⟨b, off + i, none⟩ = some (.string (l.getD i ByteArray.empty)))
theorem StrRow.kept {w w' : World} {A B : Nat} {ao : Option Addr} {l : List ByteArray} (h : StrRow w A B ao l) (hb : Below B w w') : StrRow w' A B ao l := by
  refine ⟨h.1, ?_⟩
  rcases h.2 with h0 | ⟨b, off, e, hA, hB, hc⟩
  · exact .inl h0
  · exact .inr ⟨b, off, e, hA, hB, fun i hi => (hb.cell (p := ⟨b, _, none⟩) hB).trans (hc i hi)⟩
theorem StrRow.mono {w : World} {A B A' C : Nat} {ao : Option Addr} {l : List ByteArray} (h : StrRow w A B ao l) (ha : A' ≤ A) (hc : B ≤ C) : StrRow w A' C ao l := by
  refine ⟨h.1, ?_⟩
  rcases h.2 with h0 | ⟨b, off, e, hA, hB, hc'⟩
  · exact .inl h0
  · exact .inr ⟨b, off, e, by omega, by omega, hc'⟩
theorem StrRow.at {w : World} {A B : Nat} {ao : Option Addr} {l : List ByteArray} (h : StrRow w A B ao l) (k : Nat) (hk : k < l.length) :
    ∃ b off x, ao = some ⟨b, off, none⟩ ∧ b < B ∧ l.getD k ByteArray.empty = x ∧ x.size ≤ maxLen ∧ w.cell? ⟨b, off + k, none⟩ = some (.string x) := by
  rcases h.2 with h0 | ⟨b, off, e, hA, hB, hc⟩
  · omega
  · exact ⟨b, off, _, e, hB, rfl, h.1 _ (getD_mem l _ k hk), hc k hk⟩
theorem StrRow.other {w : World} {A B : Nat} {ao : Option Addr} {l : List ByteArray} (h : StrRow w A B ao l) (g m : Nat) (v : Value) (hg : g < A) : StrRow (w.setCell ⟨g, m, none⟩ v) A B ao l := by
  refine ⟨h.1, ?_⟩
  rcases h.2 with h0 | ⟨b, off, e, hA, hB, hc⟩
  · exact .inl h0
  · refine .inr ⟨b, off, e, hA, hB, fun i hi => ?_⟩
    exact (World.cell?_setCell_other w ⟨g, m, none⟩ ⟨b, off + i, none⟩ v (fun e' => by have : g = b := congrArg Addr.block e'; omega)).trans (hc i hi)
def strsV (l : List ByteArray) : List Value := l.map Value.string
theorem strRow_of {w : World} {g : Nat} {cur : List Value} {t : TypeId} {f : Nat × Nat} {l : List ByteArray} (hg : w.heap[g]? = some (.cells cur.toArray t f)) (hc : cur.take l.length = strsV l) (ho : ∀ x ∈ l, x.size ≤ maxLen) :
    StrRow w g w.heap.size (some ⟨g, 0, none⟩) l := by
  have hlt : g < w.heap.size := (Array.getElem?_eq_some_iff.1 hg).1
  refine ⟨ho, .inr ⟨g, 0, rfl, Nat.le_refl _, hlt, fun i hi => ?_⟩⟩
  rw [cell_of_row _ _ _ _ _ _ hg, List.getElem?_toArray, Nat.zero_add]
  have : (cur.take l.length)[i]? = cur[i]? := List.getElem?_take_of_lt hi
  rw [← this, hc, strsV, List.getElem?_map, List.getD_eq_getElem?_getD, List.getElem?_eq_getElem hi]; rfl
theorem strs_step (cur : List Value) (l : List ByteArray) (k : Nat) (hk : k < l.length) (hl : cur.length = l.length) (hc : cur.take k = strsV (l.take k)) (x : ByteArray) (hx : l.getD k ByteArray.empty = x) :
    (cur.set k (.string x)).take (k + 1) = strsV (l.take (k + 1)) ∧ (cur.set k (.string x)).length = l.length := by
  refine ⟨?_, by simpa using hl⟩
  rw [take_set1 _ _ _ (by omega), hc, List.take_succ_eq_append_getElem hk]
  rw [List.getD_eq_getElem?_getD, List.getElem?_eq_getElem hk] at hx
  simp only [Option.getD_some] at hx
  unfold strsV
  rw [List.map_append, hx]; rfl
/-- Kids that lie one behind the other, three cells each. -/
def KidRow (w : World) (A B : Nat) (P : Tr → Option Addr → Option Addr → Option Addr → Prop) (xo : Option Addr) (cs : List Tr) : Prop :=
  cs.length = 0 ∨ ∃ b off, xo = some ⟨b, off, none⟩ ∧ A ≤ b ∧ b < B ∧ ∀ i, i < cs.length → ∃ ko kc vo vc yo yc,
    w.cell? ⟨b, off + i * 3, none⟩ = some (.slice ko (cs.getD i noTr).keys.length kc) ∧ w.cell? ⟨b, off + i * 3 + 1, none⟩ = some (.slice vo (cs.getD i noTr).vals.length vc) ∧ w.cell? ⟨b, off + i * 3 + 2, none⟩ = some (.slice yo (cs.getD i noTr).kids.length yc) ∧ P (cs.getD i noTr) ko vo yo
/-- A tree of at most n levels, all of it in blocks from A on and below B. -/
def TrRow (w : World) (A B : Nat) : Nat → Tr → Option Addr → Option Addr → Option Addr → Prop
  | 0, _, _, _, _ => False
  | n + 1, t, ko, vo, xo => (t.keys.length ≤ maxLen ∧ t.vals.length ≤ maxLen ∧ t.kids.length ≤ maxLen) ∧ StrRow w A B ko t.keys ∧ StrRow w A B vo t.vals ∧ KidRow w A B (TrRow w A B n) xo t.kids
theorem KidRow.kept {w w' : World} {A B : Nat} {P P' : Tr → Option Addr → Option Addr → Option Addr → Prop} {xo : Option Addr} {cs : List Tr} (h : KidRow w A B P xo cs) (hb : Below B w w') (hP : ∀ t a b c, P t a b c → P' t a b c) : KidRow w' A B P' xo cs := by
  rcases h with h0 | ⟨b, off, e, hA, hB, hc⟩
  · exact .inl h0
  · refine .inr ⟨b, off, e, hA, hB, fun i hi => ?_⟩
    obtain ⟨ko, kc, vo, vc, yo, yc, c0, c1, c2, hp⟩ := hc i hi
    exact ⟨ko, kc, vo, vc, yo, yc, (hb.cell (p := ⟨b, _, none⟩) hB).trans c0, (hb.cell (p := ⟨b, _, none⟩) hB).trans c1, (hb.cell (p := ⟨b, _, none⟩) hB).trans c2, hP _ _ _ _ hp⟩
theorem TrRow.kept {w w' : World} {A B : Nat} (hb : Below B w w') : ∀ (n : Nat) (t : Tr) (ko vo xo : Option Addr), TrRow w A B n t ko vo xo → TrRow w' A B n t ko vo xo
  | 0, _, _, _, _, h => h.elim
  | n + 1, _, _, _, _, ⟨hl, hk, hv, hx⟩ => ⟨hl, hk.kept hb, hv.kept hb, hx.kept hb (TrRow.kept hb n)⟩
theorem KidRow.mono {w : World} {A B A' C : Nat} {P P' : Tr → Option Addr → Option Addr → Option Addr → Prop} {xo : Option Addr} {cs : List Tr} (h : KidRow w A B P xo cs) (ha : A' ≤ A) (hc : B ≤ C) (hP : ∀ t a b c, P t a b c → P' t a b c) : KidRow w A' C P' xo cs := by
  rcases h with h0 | ⟨b, off, e, hA, hB, hc'⟩
  · exact .inl h0
  · refine .inr ⟨b, off, e, by omega, by omega, fun i hi => ?_⟩
    obtain ⟨ko, kc, vo, vc, yo, yc, c0, c1, c2, hp⟩ := hc' i hi
    exact ⟨ko, kc, vo, vc, yo, yc, c0, c1, c2, hP _ _ _ _ hp⟩
theorem TrRow.mono {w : World} {A B A' C : Nat} (ha : A' ≤ A) (hc : B ≤ C) : ∀ (n : Nat) (t : Tr) (ko vo xo : Option Addr), TrRow w A B n t ko vo xo → TrRow w A' C n t ko vo xo
  | 0, _, _, _, _, h => h.elim
  | n + 1, _, _, _, _, ⟨hl, hk, hv, hx⟩ => ⟨hl, hk.mono ha hc, hv.mono ha hc, hx.mono ha hc (TrRow.mono ha hc n)⟩
theorem KidRow.other {w : World} {A B : Nat} {P P' : Tr → Option Addr → Option Addr → Option Addr → Prop} {xo : Option Addr} {cs : List Tr} (h : KidRow w A B P xo cs) (g m : Nat) (v : Value) (hg : g < A) (hP : ∀ t a b c, P t a b c → P' t a b c) : KidRow (w.setCell ⟨g, m, none⟩ v) A B P' xo cs := by
  rcases h with h0 | ⟨b, off, e, hA, hB, hc⟩
  · exact .inl h0
  · refine .inr ⟨b, off, e, hA, hB, fun i hi => ?_⟩
    obtain ⟨ko, kc, vo, vc, yo, yc, c0, c1, c2, hp⟩ := hc i hi
    have ho := fun o => World.cell?_setCell_other w ⟨g, m, none⟩ ⟨b, o, none⟩ v (fun e' => by have : g = b := congrArg Addr.block e'; omega)
    exact ⟨ko, kc, vo, vc, yo, yc, (ho _).trans c0, (ho _).trans c1, (ho _).trans c2, hP _ _ _ _ hp⟩
theorem TrRow.other {w : World} {A B : Nat} (g m : Nat) (v : Value) (hg : g < A) : ∀ (n : Nat) (t : Tr) (ko vo xo : Option Addr), TrRow w A B n t ko vo xo → TrRow (w.setCell ⟨g, m, none⟩ v) A B n t ko vo xo
  | 0, _, _, _, _, h => h.elim
  | n + 1, _, _, _, _, ⟨hl, hk, hv, hx⟩ => ⟨hl, hk.other g m v hg, hv.other g m v hg, hx.other g m v hg (TrRow.other g m v hg n)⟩
theorem KidRow.at {w : World} {A B : Nat} {P : Tr → Option Addr → Option Addr → Option Addr → Prop} {xo : Option Addr} {cs : List Tr} (h : KidRow w A B P xo cs) (k : Nat) (hk : k < cs.length) :
    ∃ b off ko kc vo vc yo yc ks vs ds, xo = some ⟨b, off, none⟩ ∧ b < B ∧ cs.getD k noTr = .node ks vs ds ∧ P (.node ks vs ds) ko vo yo ∧ w.cell? ⟨b, off + k * 3, none⟩ = some (.slice ko ks.length kc) ∧ w.cell? ⟨b, off + k * 3 + 1, none⟩ = some (.slice vo vs.length vc) ∧ w.cell? ⟨b, off + k * 3 + 2, none⟩ = some (.slice yo ds.length yc) := by
  rcases h with h0 | ⟨b, off, e, hA, hB, hc⟩
  · omega
  · obtain ⟨ko, kc, vo, vc, yo, yc, c0, c1, c2, hp⟩ := hc k hk
    cases ht : cs.getD k noTr with
    | node ks vs ds =>
      rw [ht] at c0 c1 c2 hp
      exact ⟨b, off, ko, kc, vo, vc, yo, yc, ks, vs, ds, e, hB, rfl, hp, c0, c1, c2⟩
/-- A tree whose lists can be copied. -/
def trFits : Nat → Tr → Prop
  | 0, _ => True
  | n + 1, t => (t.keys.length ≤ 1048576 ∧ t.vals.length ≤ 1048576 ∧ t.kids.length ≤ 1048576) ∧ ∀ i, i < t.kids.length → trFits n (t.kids.getD i noTr)
end Go.Proofs.Ytfhfhpnoeghgmaa

/-
  Disks as they lie in memory. Plain laws.
-/
namespace Go.Proofs.Ytfhfhpnoeghgmaa
open Go.RowKit
set_option maxRecDepth 100000

structure Wr where
  pos : Int
  text : ByteArray
structure Dk where
  secs : List ByteArray
  cache : List Wr
def noWr : Wr := ⟨0, ByteArray.empty⟩
def wI64 (x : Int) : Prop := -9223372036854775808 ≤ x ∧ x ≤ 9223372036854775807
/-- Writes that lie one behind the other, two cells each. -/
def WrRow (w : World) (A B : Nat) (ao : Option Addr) (l : List Wr) : Prop :=
  (∀ x ∈ l, wI64 x.pos ∧ x.text.size ≤ maxLen) ∧ (l.length = 0 ∨ ∃ b off, ao = some ⟨b, off, none⟩ ∧ A ≤ b ∧ b < B ∧ ∀ i, i < l.length →
    w.cell? ⟨b, off + i * 2, none⟩ = some (.int .i64 (l.getD i noWr).pos) ∧ w.cell? ⟨b, off + i * 2 + 1, none⟩ = some (.string (l.getD i noWr).text))
theorem WrRow.kept {w w' : World} {A B : Nat} {ao : Option Addr} {l : List Wr} (h : WrRow w A B ao l) (hb : Below B w w') : WrRow w' A B ao l := by
  refine ⟨h.1, ?_⟩
  rcases h.2 with h0 | ⟨b, off, e, hA, hB, hc⟩
  · exact .inl h0
  · refine .inr ⟨b, off, e, hA, hB, fun i hi => ?_⟩
    obtain ⟨c0, c1⟩ := hc i hi
    exact ⟨(hb.cell (p := ⟨b, _, none⟩) hB).trans c0, (hb.cell (p := ⟨b, _, none⟩) hB).trans c1⟩
theorem WrRow.mono {w : World} {A B A' C : Nat} {ao : Option Addr} {l : List Wr} (h : WrRow w A B ao l) (ha : A' ≤ A) (hc : B ≤ C) : WrRow w A' C ao l := by
  refine ⟨h.1, ?_⟩
  rcases h.2 with h0 | ⟨b, off, e, hA, hB, hc'⟩
  · exact .inl h0
  · exact .inr ⟨b, off, e, by omega, by omega, hc'⟩
theorem WrRow.at {w : World} {A B : Nat} {ao : Option Addr} {l : List Wr} (h : WrRow w A B ao l) (k : Nat) (hk : k < l.length) :
    ∃ b off n t, ao = some ⟨b, off, none⟩ ∧ b < B ∧ l.getD k noWr = ⟨n, t⟩ ∧ t.size ≤ maxLen ∧ wI64 n ∧ w.cell? ⟨b, off + k * 2, none⟩ = some (.int .i64 n) ∧ w.cell? ⟨b, off + k * 2 + 1, none⟩ = some (.string t) := by
  rcases h.2 with h0 | ⟨b, off, e, hA, hB, hc⟩
  · omega
  · obtain ⟨c0, c1⟩ := hc k hk
    have hm := h.1 _ (getD_mem l noWr k hk)
    exact ⟨b, off, _, _, e, hB, rfl, hm.2, hm.1, c0, c1⟩
theorem WrRow.other {w : World} {A B : Nat} {ao : Option Addr} {l : List Wr} (h : WrRow w A B ao l) (g m : Nat) (v : Value) (hg : g < A) : WrRow (w.setCell ⟨g, m, none⟩ v) A B ao l := by
  refine ⟨h.1, ?_⟩
  rcases h.2 with h0 | ⟨b, off, e, hA, hB, hc⟩
  · exact .inl h0
  · refine .inr ⟨b, off, e, hA, hB, fun i hi => ?_⟩
    obtain ⟨c0, c1⟩ := hc i hi
    have ho := fun o => World.cell?_setCell_other w ⟨g, m, none⟩ ⟨b, o, none⟩ v (fun e' => by have : g = b := congrArg Addr.block e'; omega)
    exact ⟨(ho _).trans c0, (ho _).trans c1⟩
/-- A disk whose lists lie in blocks from A on and below B. -/
def DkRow (w : World) (A B : Nat) (so co : Option Addr) (d : Dk) : Prop :=
  (d.secs.length ≤ maxLen ∧ d.cache.length ≤ maxLen) ∧ StrRow w A B so d.secs ∧ WrRow w A B co d.cache
theorem DkRow.kept {w w' : World} {A B : Nat} {so co : Option Addr} {d : Dk} (h : DkRow w A B so co d) (hb : Below B w w') : DkRow w' A B so co d := ⟨h.1, h.2.1.kept hb, h.2.2.kept hb⟩
theorem DkRow.mono {w : World} {A B A' C : Nat} {so co : Option Addr} {d : Dk} (h : DkRow w A B so co d) (ha : A' ≤ A) (hc : B ≤ C) : DkRow w A' C so co d := ⟨h.1, h.2.1.mono ha hc, h.2.2.mono ha hc⟩
theorem DkRow.other {w : World} {A B : Nat} {so co : Option Addr} {d : Dk} (h : DkRow w A B so co d) (g m : Nat) (v : Value) (hg : g < A) : DkRow (w.setCell ⟨g, m, none⟩ v) A B so co d := ⟨h.1, h.2.1.other g m v hg, h.2.2.other g m v hg⟩
/-- A disk whose texts and numbers are in their bounds. -/
def dkIn (d : Dk) : Prop := (∀ s ∈ d.secs, s.size ≤ maxLen) ∧ (∀ x ∈ d.cache, wI64 x.pos ∧ x.text.size ≤ maxLen)
theorem DkRow.inn {w : World} {A B : Nat} {so co : Option Addr} {d : Dk} (h : DkRow w A B so co d) : dkIn d := ⟨h.2.1.1, h.2.2.1⟩
def dkFits (d : Dk) : Prop := d.secs.length ≤ 1048576 ∧ d.cache.length ≤ 1048576

def flatW (l : List Wr) : List Value := l.flatMap fun x => [.int .i64 x.pos, .string x.text]
theorem flatW_cons (x : Wr) (l : List Wr) : flatW (x :: l) = .int .i64 x.pos :: .string x.text :: flatW l := rfl
theorem flatW_append (a b : List Wr) : flatW (a ++ b) = flatW a ++ flatW b := by simp [flatW]
theorem flatW_snoc (l : List Wr) (x : Wr) : flatW (l ++ [x]) = flatW l ++ [.int .i64 x.pos, .string x.text] := by rw [flatW_append]; rfl
theorem flatW_len (l : List Wr) : (flatW l).length = l.length * 2 := by
  induction l with
  | nil => rfl
  | cons v r ih => rw [flatW_cons]; simp [ih]; omega
theorem flatW_get (l : List Wr) : ∀ i, i < l.length → (flatW l)[i * 2]? = some (.int .i64 (l.getD i noWr).pos) ∧ (flatW l)[i * 2 + 1]? = some (.string (l.getD i noWr).text) := by
  induction l with
  | nil => intro i h; simp at h
  | cons v r ih =>
    intro i h
    rw [flatW_cons]
    match i, h with
    | 0, _ => exact ⟨rfl, rfl⟩
    | i + 1, h =>
      obtain ⟨h0, h1⟩ := ih i (by simpa using h)
      have e : (i + 1) * 2 = i * 2 + 1 + 1 := by omega
      rw [e, List.getD_cons_succ]
      simp only [List.getElem?_cons_succ]
      exact ⟨h0, h1⟩
theorem flatW_at (l : List Wr) (j : Nat) (u : Value) (h : (flatW l)[j]? = some u) : ∃ i, i < l.length ∧ (j = i * 2 ∧ u = .int .i64 (l.getD i noWr).pos ∨ j = i * 2 + 1 ∧ u = .string (l.getD i noWr).text) := by
  have hl : j < (flatW l).length := (List.getElem?_eq_some_iff.1 h).1
  rw [flatW_len] at hl
  have hi : j / 2 < l.length := by omega
  obtain ⟨h0, h1⟩ := flatW_get l (j / 2) hi
  refine ⟨j / 2, hi, ?_⟩
  rcases (by omega : j % 2 = 0 ∨ j % 2 = 1) with e | e
  · have ej : j = j / 2 * 2 := by omega
    rw [← ej, h] at h0
    exact .inl ⟨ej, Option.some.inj h0⟩
  · have ej : j = j / 2 * 2 + 1 := by omega
    rw [← ej, h] at h1
    exact .inr ⟨ej, Option.some.inj h1⟩
theorem flatW_one (l : List Wr) : ∀ u ∈ flatW l, u.oneCell' = true := by
  intro u hu
  obtain ⟨j, hj⟩ := List.mem_iff_getElem?.1 hu
  obtain ⟨i, _, h⟩ := flatW_at l j u hj
  rcases h with ⟨_, rfl⟩ | ⟨_, rfl⟩ <;> rfl
theorem take_set2w (cur : List Value) (k : Nat) (x y : Value) (h : k + 2 ≤ cur.length) : ((cur.set k x).set (k + 1) y).take (k + 2) = cur.take k ++ [x, y] := by
  have h1 : k + 1 < (cur.set k x).length := by simp; omega
  rw [take_set1 (cur.set k x) (k + 1) y h1, take_set1 cur k x (by omega)]; simp
theorem flatW_step (cur : List Value) (l : List Wr) (k : Nat) (hk : k < l.length) (hl : cur.length = l.length * 2) (hc : cur.take (k * 2) = flatW (l.take k)) (a : Int) (t : ByteArray) (hv : l.getD k noWr = ⟨a, t⟩) :
    ((cur.set (k * 2) (.int .i64 a)).set (k * 2 + 1) (.string t)).take ((k + 1) * 2) = flatW (l.take (k + 1)) ∧ ((cur.set (k * 2) (.int .i64 a)).set (k * 2 + 1) (.string t)).length = l.length * 2 := by
  have e : (k + 1) * 2 = k * 2 + 2 := by omega
  rw [List.getD_eq_getElem?_getD, List.getElem?_eq_getElem hk] at hv
  simp only [Option.getD_some] at hv
  refine ⟨?_, by simpa using hl⟩
  rw [e, take_set2w _ _ _ _ (by omega), hc, List.take_succ_eq_append_getElem hk, flatW_append, hv]
  rfl
theorem wrRow_of {w : World} {g : Nat} {cur : List Value} {t : TypeId} {f : Nat × Nat} {l : List Wr} (hg : w.heap[g]? = some (.cells cur.toArray t f)) (hc : cur.take (l.length * 2) = flatW l) (ho : ∀ x ∈ l, wI64 x.pos ∧ x.text.size ≤ maxLen) :
    WrRow w g w.heap.size (some ⟨g, 0, none⟩) l := by
  have hlt : g < w.heap.size := (Array.getElem?_eq_some_iff.1 hg).1
  refine ⟨ho, .inr ⟨g, 0, rfl, Nat.le_refl _, hlt, fun i hi => ?_⟩⟩
  have hget : ∀ j, j < l.length * 2 → cur[j]? = (flatW l)[j]? := fun j hj => by rw [← hc, List.getElem?_take_of_lt hj]
  obtain ⟨h0, h1⟩ := flatW_get l i hi
  refine ⟨?_, ?_⟩
  · rw [cell_of_row _ _ _ _ _ _ hg, List.getElem?_toArray, Nat.zero_add, hget _ (by omega), h0]
  · rw [cell_of_row _ _ _ _ _ _ hg, List.getElem?_toArray, Nat.zero_add, hget _ (by omega), h1]
theorem wrRow_news {w : World} {A B : Nat} {ad : Addr} {l : List Wr} (h : WrRow w A B (some ad) l) : ∀ j u, (flatW l)[j]? = some u → w.cell? (ad.add j) = some u := by
  intro j u hj
  obtain ⟨i, hi, hu⟩ := flatW_at l j u hj
  rcases h.2 with h0 | ⟨b, off, e, _, _, hc⟩
  · omega
  · obtain rfl := Option.some.inj e
    obtain ⟨c0, c1⟩ := hc i hi
    have ha : ∀ j, (⟨b, off, none⟩ : Addr).add j = ⟨b, off + j, none⟩ := fun j => by unfold Addr.add; split <;> simp_all
    rcases hu with ⟨rfl, rfl⟩ | ⟨rfl, rfl⟩
    · rw [ha]; exact c0
    · rw [ha]; exact c1
theorem strRow_news {w : World} {A B : Nat} {ad : Addr} {l : List ByteArray} (h : StrRow w A B (some ad) l) : ∀ j u, (strsV l)[j]? = some u → w.cell? (ad.add j) = some u := by
  intro j u hj
  have hlt : j < l.length := by have := (List.getElem?_eq_some_iff.1 hj).1; simpa [strsV] using this
  obtain ⟨b, off, x, e, _, hx, _, hc⟩ := h.at j hlt
  obtain rfl := Option.some.inj e
  have ha : ∀ j, (⟨b, off, none⟩ : Addr).add j = ⟨b, off + j, none⟩ := fun j => by unfold Addr.add; split <;> simp_all
  rw [ha, hc, ← hx]
  rw [strsV, List.getElem?_map, List.getElem?_eq_getElem hlt] at hj
  rw [← hj, List.getD_eq_getElem?_getD, List.getElem?_eq_getElem hlt]; rfl
theorem strsV_one (l : List ByteArray) : ∀ u ∈ strsV l, u.oneCell' = true := by
  intro u hu
  unfold strsV at hu
  rw [List.mem_map] at hu
  obtain ⟨x, _, rfl⟩ := hu
  rfl
end Go.Proofs.Ytfhfhpnoeghgmaa

/-
  Rows of cells that a call has made, or that can be read. Plain laws.
-/
namespace Go.Proofs.Ytfhfhpnoeghgmaa
open Go.RowKit

/-- Cells that can be read one behind the other, below block B. -/
def CellRow (w : World) (B : Nat) (ao : Option Addr) (xs : List Value) : Prop :=
  xs.length = 0 ∨ ∃ b off, ao = some ⟨b, off, none⟩ ∧ b < B ∧ ∀ i (h : i < xs.length), w.cell? ⟨b, off + i, none⟩ = some xs[i]
theorem CellRow.kept {w w' : World} {B : Nat} {ao : Option Addr} {xs : List Value} (h : CellRow w B ao xs) (hb : Below B w w') : CellRow w' B ao xs := by
  rcases h with h0 | ⟨b, off, e, hB, hc⟩
  · exact .inl h0
  · exact .inr ⟨b, off, e, hB, fun i hi => (hb.cell (p := ⟨b, off + i, none⟩) hB).trans (hc i hi)⟩
theorem CellRow.mono {w : World} {B C : Nat} {ao : Option Addr} {xs : List Value} (h : CellRow w B ao xs) (hc : B ≤ C) : CellRow w C ao xs := by
  rcases h with h0 | ⟨b, off, e, hB, hc'⟩
  · exact .inl h0
  · exact .inr ⟨b, off, e, by omega, hc'⟩
theorem CellRow.at {w : World} {B : Nat} {ao : Option Addr} {xs : List Value} (h : CellRow w B ao xs) (k : Nat) (hk : k < xs.length) : ∃ b off, ao = some ⟨b, off, none⟩ ∧ b < B ∧ w.cell? ⟨b, off + k, none⟩ = some xs[k] := by
  rcases h with h0 | ⟨b, off, e, hB, hc⟩
  · omega
  · exact ⟨b, off, e, hB, hc k hk⟩
theorem cellRow_of_owns {w : World} {base n : Nat} {t : TypeId} {v : Value} {xs : List Value} (h : w.ownsRow base t 1 v n xs) : ∃ ao cap, v = .slice ao xs.length cap ∧ CellRow w w.heap.size ao xs := by
  have hx : xs.length = n := by simpa using h.1
  rcases h.2 with ⟨rfl, rfl⟩ | ⟨g, cap, cur, rfl, hb, hg, hn, hm, hs, ht⟩
  · obtain rfl : xs = [] := List.eq_nil_of_length_eq_zero hx
    exact ⟨none, 0, rfl, .inl rfl⟩
  · refine ⟨some ⟨g, 0, none⟩, cap, by rw [hx], .inr ⟨g, 0, rfl, (Array.getElem?_eq_some_iff.1 hg).1, fun i hi => ?_⟩⟩
    have hc := World.ownsRow.cellAt h i (by omega)
    rw [Nat.zero_add, hc, List.getElem?_eq_getElem hi]

theorem owns_below {w w' : World} {base n size : Nat} {t : TypeId} {v : Value} {xs : List Value} (h : w.ownsRow base t size v n xs) (hb : Below w.heap.size w w') : w'.ownsRow base t size v n xs := by
  refine ⟨h.1, ?_⟩
  rcases h.2 with h0 | ⟨g, cap, cur, rfl, hB, hg, hn, hm, hs, ht⟩
  · exact .inl h0
  · exact .inr ⟨g, cap, cur, rfl, hB, (hb.block _ (Array.getElem?_eq_some_iff.1 hg).1).trans hg, hn, hm, hs, ht⟩
theorem below_alloc {w w' : World} {o : Obj} (h : Below (w.alloc o).heap.size (w.alloc o) w') : Below w.heap.size w w' :=
  ((Below.refl _ _).alloc (Nat.le_refl _) o).trans (h.mono (by simp))
end Go.Proofs.Ytfhfhpnoeghgmaa
