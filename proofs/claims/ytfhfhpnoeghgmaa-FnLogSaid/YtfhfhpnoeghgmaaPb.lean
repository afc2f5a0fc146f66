/-
  Contracts and plain laws, part 2 of 12: OwnStr, OwnDk, MkS, OwnBytes, ConvOne, MarkT, TrMk, StrMk, DkMark, DkTo, StrSz, DkSz, DkTo2, DkMark2, DkMark3, DkMark4, DkMark5, DkOut, DkSec, DkRight
-/
import Derived.Test.YtfhfhpnoeghgmaaRows
import Derived.Deep.RegionHeld3
import Derived.OwnWalk
import Derived.WalkLawsBesides
import Derived.WalkKit
import Derived.Laws.BytesArg
import Derived.Maps.AppendAt
import Derived.Laws.ResultCell
import Derived.Lib.BufferWrite
import Derived.Deep.WholeRow
import Derived.Laws.CopyOwn
import Derived.Test.YtfhfhpnoeghgmaaPa

/-
  Texts in a row of their own: held against others.
-/
namespace Go.Proofs.Ytfhfhpnoeghgmaa
open Go.RowKit
set_option maxRecDepth 100000

theorem Try.infoStr' : (Try.prog.info? 9).map (fun i => (i.zero, i.size, i.bytes)) = some (some (.string ⟨#[]⟩), 1, 16) := by kernel_rfl
/-- Texts that a call has made, in a row of their own. -/
def OwnS (base : Nat) (v : Value) (l : List ByteArray) (w : World) : Prop := w.ownsRow base 9 1 v l.length (strsV l)
theorem strsV_len (l : List ByteArray) : (strsV l).length = l.length := by simp [strsV]
theorem ownS_row {base : Nat} {v : Value} {l : List ByteArray} {w : World} (h : OwnS base v l w) : ∃ ao cap, v = .slice ao l.length cap ∧ ∀ k, k < l.length → ∃ b off x, ao = some ⟨b, off, none⟩ ∧ b < w.heap.size ∧ l.getD k ByteArray.empty = x ∧ w.cell? ⟨b, off + k, none⟩ = some (.string x) := by
  obtain ⟨ao, cap, hv, hc⟩ := cellRow_of_owns h
  rw [strsV_len] at hv
  refine ⟨ao, cap, hv, fun k hk => ?_⟩
  obtain ⟨b, off, e, hb, hk'⟩ := hc.at k (by rw [strsV_len]; exact hk)
  refine ⟨b, off, _, e, hb, rfl, hk'.trans ?_⟩
  simp [strsV, List.getD_eq_getElem?_getD, hk]
set_option maxHeartbeats 2000000 in
theorem eqStringS_own (base base' : Nat) (v v' : Value) (l : List ByteArray) (w : World) (hl : l.length ≤ 1048576) (ha : OwnS base v l w) (hb : OwnS base' v' l w) :
    Calls Try.prog 71 #[v, v'] w fun e w' => e = .returned (.bool true) ∧ Below w.heap.size w w' := by
  obtain ⟨ao, cap, rfl, hka⟩ := ownS_row ha
  obtain ⟨bo, cp, rfl, hkb⟩ := ownS_row hb
  have HA := hide hka
  have HB := hide hkb
  clear ha hb hka hkb
  go_enter Try.func71, Try.ntmps71
  go_wp2
  go_loopw [5] (fun i wr => ∃ k : Nat, k ≤ l.length ∧ i = .int .i64 k ∧ Below w.heap.size w wr) (fun i _ => l.length - (intOf i).toNat)
  case atStart => exact ⟨0, Nat.zero_le _, rfl, Below.refl _ _⟩
  case round =>
    obtain ⟨k, hk, rfl, hbw⟩ := hrel
    by_cases hlt : k < l.length
    · obtain ⟨b, off, x, rfl, hbB, hv, d00⟩ := HA.out k hlt
      obtain ⟨b', off', x', rfl, hbB', hv', e00⟩ := HB.out k hlt
      rw [hv] at hv'
      subst hv'
      have d0 := (hbw.cell (p := ⟨b, off + k, none⟩) hbB).trans d00
      have e0 := (hbw.cell (p := ⟨b', off' + k, none⟩) hbB').trans e00
      have hi0 : (0 : Int) ≤ (k : Int) := by omega
      have hi1 : (k : Int) < (l.length : Int) := by omega
      have ht := (Int.toNat_natCast k)
      clear hv d00 e00
      go_wp2
      go_region_held3 (fun W => W.cell? ⟨b, off + k, none⟩ = some (.string x) ∧ W.cell? ⟨b', off' + k, none⟩ = some (.string x)) (go_keep) (fail)
      all_goals
        have hb2 : Below w.heap.size w _ := hbw.drew
        clear d0 e0 hbw
        go_wp2
        go_roundw
        case rel => exact ⟨k + 1, by omega, by go_num, hb2⟩
        case measure => simp [intOf]; omega
    · go_wp2
      go_ret
      exact ⟨rfl, hbw⟩
theorem ownS_block {base : Nat} {v : Value} {l : List ByteArray} {w : World} (h : OwnS base v l w) : ∀ b, v.ownBlock = some b → base ≤ b ∧ b < w.heap.size := fun b hb => World.ownsRow.lt h b hb
theorem ownS_grown {base : Nat} {v u : Value} {l : List ByteArray} {w w' : World} (h : OwnS base v l w) (hm : w.grownBy w' u.ownBlock) (ho : ∀ b, v.ownBlock = some b → u.ownBlock ≠ some b) : OwnS base v l w' := by
  refine ⟨h.1, ?_⟩
  rcases h.2 with h0 | ⟨g, cap, cur, rfl, hB, hg, hn, hq, hs, ht⟩
  · exact .inl h0
  · exact .inr ⟨g, cap, cur, rfl, hB, (hm.block g (Array.getElem?_eq_some_iff.1 hg).1 (ho g rfl).symm).trans hg, hn, hq, hs, ht⟩
theorem ownS_shape {base : Nat} {v : Value} {l : List ByteArray} {w : World} (h : OwnS base v l w) : ∃ ao cap, v = .slice ao l.length cap := by
  obtain ⟨ao, cap, e, _⟩ := ownS_row h
  exact ⟨ao, cap, e⟩
end Go.Proofs.Ytfhfhpnoeghgmaa

/-
  Disks in rows of their own.
-/
namespace Go.Proofs.Ytfhfhpnoeghgmaa
open Go.RowKit
set_option maxRecDepth 100000

theorem Try.infoWr : (Try.prog.info? 122).map (fun i => (i.zero, i.size, i.bytes)) = some (some (.agg #[.int .i64 0, .string ⟨#[]⟩]), 2, 24) := by kernel_rfl
def OwnW (base : Nat) (v : Value) (l : List Wr) (w : World) : Prop := w.ownsRow base 122 2 v l.length (flatW l)
theorem ownS_nil (base : Nat) (w : World) : OwnS base (.slice none 0 0) [] w := ⟨rfl, .inl ⟨rfl, rfl⟩⟩
theorem ownW_nil (base : Nat) (w : World) : OwnW base (.slice none 0 0) [] w := ⟨rfl, .inl ⟨rfl, rfl⟩⟩
theorem ownW_shape {base : Nat} {v : Value} {l : List Wr} {w : World} (h : OwnW base v l w) : ∃ ao cap, v = .slice ao l.length cap := by
  rcases h.2 with ⟨h1, h2⟩ | ⟨g, cap, cur, h1, _⟩
  · exact ⟨none, 0, by rw [h1, h2]⟩
  · exact ⟨_, _, h1⟩
theorem ownS_str {base : Nat} {v : Value} {l : List ByteArray} {w : World} (h : OwnS base v l w) (ho : ∀ s ∈ l, s.size ≤ maxLen) : ∃ ao cap, v = .slice ao l.length cap ∧ (l.length ≤ cap ∧ cap ≤ maxLen) ∧ StrRow w base w.heap.size ao l := by
  rcases h.2 with ⟨rfl, h0⟩ | ⟨g, cap, cur, rfl, hB, hq, hn', hm, hs, hc⟩
  · exact ⟨none, 0, by rw [h0], ⟨by omega, Nat.zero_le _⟩, ho, .inl h0⟩
  · exact ⟨_, _, rfl, ⟨hn', hm⟩, (strRow_of (cur := cur.toList) (by simpa using hq) (by simpa using hc) ho).mono hB (Nat.le_refl _)⟩
theorem ownW_row {base : Nat} {v : Value} {l : List Wr} {w : World} (h : OwnW base v l w) (ho : ∀ x ∈ l, wI64 x.pos ∧ x.text.size ≤ maxLen) : ∃ ao cap, v = .slice ao l.length cap ∧ (l.length ≤ cap ∧ cap ≤ maxLen) ∧ WrRow w base w.heap.size ao l := by
  rcases h.2 with ⟨rfl, h0⟩ | ⟨g, cap, cur, rfl, hB, hq, hn', hm, hs, hc⟩
  · exact ⟨none, 0, by rw [h0], ⟨by omega, Nat.zero_le _⟩, ho, .inl h0⟩
  · exact ⟨_, _, rfl, ⟨hn', hm⟩, (wrRow_of (cur := cur.toList) (by simpa using hq) (by simpa using hc) ho).mono hB (Nat.le_refl _)⟩
/-- A disk's two lists, each in a row of its own. -/
structure OwnD (base : Nat) (s c : Value) (d : Dk) (w : World) : Prop where
  secs : OwnS base s d.secs w
  cache : OwnW base c d.cache w
  apart : s.ownBlock = none ∨ s.ownBlock ≠ c.ownBlock
theorem OwnD.below {base : Nat} {s c : Value} {d : Dk} {w w' : World} (h : OwnD base s c d w) (hb : Below w.heap.size w w') : OwnD base s c d w' := ⟨owns_below h.secs hb, owns_below h.cache hb, h.apart⟩
theorem OwnD.base {base base' : Nat} {s c : Value} {d : Dk} {w : World} (h : OwnD base s c d w) (hb : base' ≤ base) : OwnD base' s c d w := ⟨owns_base h.secs hb, owns_base h.cache hb, h.apart⟩
theorem OwnD.set {base g m : Nat} {s c x : Value} {d : Dk} {w : World} (h : OwnD base s c d w) (hg : g < base) : OwnD base s c d (w.setCell ⟨g, m, none⟩ x) := ⟨own_set h.secs hg, own_set h.cache hg, h.apart⟩
theorem OwnD.row {base : Nat} {s c : Value} {d : Dk} {w : World} (h : OwnD base s c d w) (ho : dkIn d) : ∃ so p co q, s = .slice so d.secs.length p ∧ c = .slice co d.cache.length q ∧ DkRow w base w.heap.size so co d := by
  obtain ⟨so, p, e1, h1, h2⟩ := ownS_str h.secs ho.1
  obtain ⟨co, q, e2, h3, h4⟩ := ownW_row h.cache ho.2
  exact ⟨so, p, co, q, e1, e2, ⟨Nat.le_trans h1.1 h1.2, Nat.le_trans h3.1 h3.2⟩, h2, h4⟩
theorem OwnD.shape {base : Nat} {s c : Value} {d : Dk} {w : World} (h : OwnD base s c d w) : ∃ so p co q, s = .slice so d.secs.length p ∧ c = .slice co d.cache.length q := by
  obtain ⟨so, p, e1⟩ := ownS_shape h.secs
  obtain ⟨co, q, e2⟩ := ownW_shape h.cache
  exact ⟨so, p, co, q, e1, e2⟩
theorem OwnD.lt {base : Nat} {s c : Value} {d : Dk} {w : World} (h : OwnD base s c d w) : (∀ b, s.ownBlock = some b → base ≤ b ∧ b < w.heap.size) ∧ (∀ b, c.ownBlock = some b → base ≤ b ∧ b < w.heap.size) :=
  ⟨fun b hb => World.ownsRow.lt h.secs b hb, fun b hb => World.ownsRow.lt h.cache b hb⟩
end Go.Proofs.Ytfhfhpnoeghgmaa

/-
  Texts of bytes. Plain laws.
-/
namespace Go.Proofs.Ytfhfhpnoeghgmaa
open Go.RowKit

def mkS (l : List UInt8) : ByteArray := ⟨l.toArray⟩
def bCell (b : UInt8) : Value := .int .u8 (b.toNat : Int)
theorem mkS_list (l : List UInt8) : (mkS l).data.toList = l := by simp [mkS]
theorem mkS_size (l : List UInt8) : (mkS l).size = l.length := by simp [mkS, ByteArray.size]
theorem mkS_data (s : ByteArray) : mkS s.data.toList = s := by simp [mkS]
theorem strOfNums_bytes (l : List UInt8) : strOfNums (l.map fun b => (b.toNat : Int)) = mkS l := by
  simp [strOfNums, mkS, Function.comp_def]
end Go.Proofs.Ytfhfhpnoeghgmaa

/-
  A slice of bytes that the call has made.
-/
namespace Go.Proofs.Ytfhfhpnoeghgmaa
open Go.RowKit

def numsU (l : List UInt8) : List Int := l.map fun b => (b.toNat : Int)
theorem numsU_append (a b : List UInt8) : numsU (a ++ b) = numsU a ++ numsU b := by simp [numsU]
theorem numsU_len (l : List UInt8) : (numsU l).length = l.length := by simp [numsU]
/-- A slice of bytes that the call has made. -/
def OwnB (base : Nat) (v : Value) (l : List UInt8) (w : World) : Prop := w.ownsRow base 5 1 v l.length ((numsU l).map (Value.int .u8))
theorem OwnB.below {base : Nat} {v : Value} {l : List UInt8} {w w' : World} (h : OwnB base v l w) (hb : Below w.heap.size w w') : OwnB base v l w' := owns_below h hb
theorem ownB_of {base : Nat} {v : Value} {l : List UInt8} {w : World} {n : Nat} {xs : List Value} (h : w.ownsRow base 5 1 v n xs) (hn : n = l.length) (hx : xs = (numsU l).map (Value.int .u8)) : OwnB base v l w := by subst hn hx; exact h
theorem OwnB.conv {base : Nat} {v : Value} {l : List UInt8} {w : World} (h : OwnB base v l w) : (convert 22 9 v).run Try.prog w = .ok (.string (mkS l)) w := by
  have := convOwn h
  rwa [numsU, strOfNums_bytes] at this
theorem own_snoc {base : Nat} {v : Value} {l : List UInt8} {w : World} {x : Int} (c : UInt8) (h : w.ownsRow base 5 1 v (l.length + 1) ((numsU l).map (Value.int .u8) ++ [.int .u8 x])) (hx : x = (c.toNat : Int)) : OwnB base v (l ++ [c]) w := by
  subst hx
  exact ownB_of h (by simp) (by rw [numsU_append, List.map_append]; rfl)
theorem own_snoc2 {base : Nat} {v : Value} {l : List UInt8} {w : World} {x y : Int} (c d : UInt8) (h : w.ownsRow base 5 1 v (l.length + 2) ((numsU l).map (Value.int .u8) ++ [.int .u8 x, .int .u8 y])) (hx : x = (c.toNat : Int)) (hy : y = (d.toNat : Int)) : OwnB base v (l ++ [c, d]) w := by
  subst hx hy
  exact ownB_of h (by simp) (by rw [numsU_append, List.map_append]; rfl)
theorem cell_two_new (w : World) (x y : Value) (t : TypeId) : ∀ j u, [x, y][j]? = some u → (w.alloc (.cells #[x, y] t)).cell? ((⟨w.heap.size, 0, none⟩ : Addr).add j) = some u := by
  intro j u hj
  have hadd : (⟨w.heap.size, 0, none⟩ : Addr).add j = ⟨w.heap.size, j, none⟩ := by unfold Addr.add; split <;> simp_all
  rw [hadd, cell_of_row _ _ _ _ _ _ (heap_alloc_new w _)]
  simpa using hj
theorem one1 (k : IntKind) (x : Int) : ∀ u ∈ [Value.int k x], u.oneCell' = true := fun u hu => by simp at hu; subst hu; rfl
theorem one2 (k : IntKind) (x y : Int) : ∀ u ∈ [Value.int k x, Value.int k y], u.oneCell' = true := fun u hu => by
  simp at hu
  rcases hu with rfl | rfl <;> rfl
theorem size_alloc_le {B : Nat} {w : World} (o : Obj) (h : B ≤ w.heap.size) : B ≤ (w.alloc o).heap.size := by simp; omega
end Go.Proofs.Ytfhfhpnoeghgmaa

/-
  One byte, as a text.
-/
namespace Go.Proofs.Ytfhfhpnoeghgmaa
open Go.RowKit

theorem conv_one (W : World) (c : UInt8) (x : Int) (hx : x = (c.toNat : Int)) : (convert 22 9 (.slice (some ⟨W.heap.size, 0, none⟩) 1 1)).run Try.prog (W.alloc (.cells #[.int .u8 x] 5)) = .ok (.string (mkS [c])) (W.alloc (.cells #[.int .u8 x] 5)) := by
  subst hx
  exact OwnB.conv (base := W.heap.size) (l := [c]) ⟨rfl, .inr ⟨W.heap.size, 1, _, rfl, Nat.le_refl _, heap_alloc_new _ _, Nat.le_refl _, by decide, rfl, rfl⟩⟩
end Go.Proofs.Ytfhfhpnoeghgmaa

/-
  Contracts: marks.
-/
namespace Go.Proofs.Ytfhfhpnoeghgmaa
open Go.RowKit

/-- A number's figures, ahead of what stands there. -/
def figs (j : Nat) (o : ByteArray) : ByteArray := if _h : j = 0 then o else figs (j / 10) (mkS [UInt8.ofNat (48 + j % 10)] ++ o)
termination_by j
decreasing_by omega
theorem figs_zero (o : ByteArray) : figs 0 o = o := by rw [figs]; rfl
theorem figs_pos (j : Nat) (o : ByteArray) (h : 0 < j) : figs j o = figs (j / 10) (mkS [UInt8.ofNat (48 + j % 10)] ++ o) := by rw [figs, dif_neg (by omega)]
/-- A mark. -/
def markS (k : Nat) : ByteArray := "m".toUTF8 ++ figs k ⟨#[]⟩
theorem m_size (k : Nat) : markS k = ⟨#[109]⟩ ++ figs k ⟨#[]⟩ := rfl
set_option maxRecDepth 100000 in
set_option maxHeartbeats 4000000 in
theorem markText_pos (k : Nat) (h : 0 < k) (hk : k ≤ 10000000) (w : World) :
    Calls Try.prog 110 #[.int .i64 k] w fun e w' => e = .returned (.string (markS k)) ∧ Below w.heap.size w w' := by
  go_enter Try.func110, Try.ntmps110
  go_wp2
  go_loopw [0, 3] (fun i o wr => ∃ (j : Nat) (x : ByteArray), x.size + j ≤ 10000000 ∧ i = .int .i64 j ∧ o = .string x ∧ Hid (figs k ⟨#[]⟩ = figs j x) ∧ Below w.heap.size w wr) (fun i _ _ => (intOf i).toNat)
  case atStart => exact ⟨k, ⟨#[]⟩, by simpa [ByteArray.size] using hk, rfl, rfl, rfl, Below.refl _ _⟩
  case round =>
    obtain ⟨j, x, hj, rfl, rfl, HF, hb⟩ := hrel
    have hz := hb.size
    by_cases hj0 : j = 0
    · subst hj0
      have HM : Hid (markS k = ⟨#[109]⟩ ++ x) := by show _ = _; rw [m_size, HF.out, figs_zero]
      clear HF
      go_wp2
      go_ret
      exact ⟨ret_str HM.out.symm, hb⟩
    · have HF2 : Hid (figs k ⟨#[]⟩ = figs (j / 10) (mkS [UInt8.ofNat (48 + j % 10)] ++ x)) := by show _ = _; rw [HF.out, figs_pos j x (by omega)]
      have hr10 : j % 10 < 10 := Nat.mod_lt _ (by omega)
      have hcv := conv_one wr (UInt8.ofNat (48 + j % 10)) (48 + (j : Int) % 10) (by rw [UInt8.toNat_ofNat']; omega)
      have hms : (mkS [UInt8.ofNat (48 + j % 10)]).size = 1 := mkS_size _
      have hb2 := hb.alloc hz (.cells #[.int .u8 (48 + (j : Int) % 10)] 5)
      clear HF
      generalize mkS [UInt8.ofNat (48 + j % 10)] = c at *
      go_wp2
      go_roundw
      case rel => exact ⟨j / 10, c ++ x, by rw [ByteArray.size_append]; omega, by go_num, rfl, HF2, hb2⟩
      case measure => simp [intOf]; omega
end Go.Proofs.Ytfhfhpnoeghgmaa

/-
  Contracts: marks are written into texts that lie in a block of their own, and read again.
-/
namespace Go.Proofs.Ytfhfhpnoeghgmaa
open Go.RowKit
set_option maxRecDepth 100000

/-- A block that has room for n texts; its first k are marks, from k0 on. -/
def MkAt (g n k0 k : Nat) (w : World) : Prop := ∃ cur : List Value, w.heap[g]? = some (.cells cur.toArray 9 (0, 0)) ∧ n ≤ cur.length ∧ ∀ i, i < k → cur[i]? = some (.string (markS (k0 + i)))
theorem MkAt.lt {g n k0 k : Nat} {w : World} (h : MkAt g n k0 k w) : g < w.heap.size := by
  obtain ⟨cur, hg, _⟩ := h
  exact (Array.getElem?_eq_some_iff.1 hg).1
theorem MkAt.kept {g n k0 k B : Nat} {w w' : World} (h : MkAt g n k0 k w) (hb : Below B w w') (hg : g < B) : MkAt g n k0 k w' := by
  obtain ⟨cur, h1, h2⟩ := h
  exact ⟨cur, (hb.block g hg).trans h1, h2⟩
theorem MkAt.step {g n k0 k : Nat} {w : World} (h : MkAt g n k0 k w) (hk : k < n) : MkAt g n k0 (k + 1) (w.setCell ⟨g, k, none⟩ (.string (markS (k0 + k)))) := by
  obtain ⟨cur, h1, h2, h3⟩ := h
  refine ⟨_, setL_heap h1, by simpa using h2, fun i hi => ?_⟩
  by_cases e : i = k
  · subst e
    rw [List.getElem?_set_self (by omega)]
  · rw [List.getElem?_set_ne (by omega)]
    exact h3 i (by omega)
theorem MkAt.cell {g n k0 k : Nat} {w : World} (h : MkAt g n k0 n w) (hk : k < n) : w.cell? ⟨g, k, none⟩ = some (.string (markS (k0 + k))) := by
  obtain ⟨cur, h1, h2, h3⟩ := h
  rw [cell_of_row _ _ _ _ _ _ h1, List.getElem?_toArray, h3 k hk]
set_option maxHeartbeats 2000000 in
theorem markStringS_at (g n cap k0 : Nat) (w : World) (hn : n ≤ 1048576) (h0 : 0 < k0) (hk : k0 ≤ 5000000) (hw : MkAt g n k0 0 w) :
    Calls Try.prog 73 #[.slice (some ⟨g, 0, none⟩) n cap, .int .i64 k0] w fun e w' => e = .returned (.int .i64 ((k0 + n : Nat) : Int)) ∧ MkAt g n k0 n w' ∧ w.grownBy w' (some g) := by
  have HW := hide hw
  clear hw
  go_enter Try.func73, Try.ntmps73
  go_wp2
  go_loopw [1, 5] (fun q i wr => ∃ k : Nat, k ≤ n ∧ i = .int .i64 k ∧ q = .int .i64 ((k0 + k : Nat) : Int) ∧ Hid (MkAt g n k0 k wr) ∧ w.grownBy wr (some g)) (fun _ i _ => n - (intOf i).toNat)
  case atStart => exact ⟨0, Nat.zero_le _, rfl, rfl, HW, grown_refl _ _⟩
  case round =>
    obtain ⟨k, hk', rfl, rfl, HM, hb⟩ := hrel
    by_cases hlt : k < n
    · have hmt := hide (markText_pos (k0 + k) (by omega) (by omega) wr)
      go_wp2_with fail
      refine hmt.out.mono ?_
      rintro e w1 ⟨rfl, b1⟩
      have HM1 := hide (HM.out.kept b1 HM.out.lt)
      have hb1 := grown_below hb b1
      have HM2 := hide (HM1.out.step hlt)
      obtain ⟨cur, hg, hl, _⟩ := HM1.out
      obtain ⟨x0, hx0⟩ : ∃ v, cur[k]? = some v := ⟨_, List.getElem?_eq_getElem (by omega)⟩
      have e0 : w1.cell? ⟨g, k, none⟩ = some x0 := by rw [cell_of_row _ _ _ _ _ _ hg, List.getElem?_toArray, hx0]
      have ef : ∀ j, w1.frozen? ⟨g, j, none⟩ = false := fun j => frozen_of_row _ _ _ _ _ hg
      clear HM HM1 hg hl hx0 b1 hmt hb
      generalize markS (k0 + k) = T at *
      go_wp2
      go_roundw
      case rel => exact ⟨k + 1, by omega, by go_num, by go_num, HM2, grown_setG hb1⟩
      case measure => simp [intOf]; omega
    · obtain rfl : k = n := by omega
      go_wp2
      go_ret
      exact ⟨rfl, HM.out, hb⟩
set_option maxHeartbeats 2000000 in
theorem heldStringS_at (g n cap k0 : Nat) (w : World) (hn : n ≤ 1048576) (h0 : 0 < k0) (hk0 : k0 ≤ 5000000) (hw : MkAt g n k0 n w) :
    Calls Try.prog 75 #[.slice (some ⟨g, 0, none⟩) n cap, .int .i64 k0] w fun e w' => e = .returned (.int .i64 ((k0 + n : Nat) : Int)) ∧ Below w.heap.size w w' := by
  have hgs := hw.lt
  have HW : Hid (∀ W, Below w.heap.size w W → MkAt g n k0 n W) := fun W hb => hw.kept hb hgs
  clear hw
  go_enter Try.func75, Try.ntmps75
  go_wp2
  go_loopw [1, 5] (fun q i wr => ∃ k : Nat, k ≤ n ∧ i = .int .i64 k ∧ q = .int .i64 ((k0 + k : Nat) : Int) ∧ Below w.heap.size w wr) (fun _ i _ => n - (intOf i).toNat)
  case atStart => exact ⟨0, Nat.zero_le _, rfl, rfl, Below.refl _ _⟩
  case round =>
    obtain ⟨k, hk, rfl, rfl, hb⟩ := hrel
    have hz := hb.size
    by_cases hlt : k < n
    · have d0 := (HW.out _ hb).cell hlt
      have hi0 : (0 : Int) ≤ (k : Int) := by omega
      have hi1 : (k : Int) < (n : Int) := by omega
      have ht := (Int.toNat_natCast k)
      have hmt := fun W => markText_pos (k0 + k) (by omega) (by omega) W
      generalize markS (k0 + k) = T at *
      have hgr : g < wr.heap.size := by omega
      go_wp2
      go_region_held3 (fun W => W.cell? ⟨g, k, none⟩ = some (.string T)) (go_keep) (first | (go_at_call 110; refine (hmt _).mono ?_; rintro e w1 ⟨rfl, hb1⟩; have hb1' : Below wr.heap.size wr w1 := (Below.refl _ _).drew.trans hb1; obtain ⟨hc1, hf1⟩ := bcell hb1'))
      all_goals
        have hb2 := hb.trans (hb1'.mono hz)
        clear d0 hb1 hb1' hb hc1 hf1
        go_wp2
        go_roundw
        case rel => exact ⟨k + 1, by omega, by go_num, by go_num, hb2⟩
        case measure => simp [intOf]; omega
    · obtain rfl : k = n := by omega
      go_wp2
      go_ret
      exact ⟨rfl, hb⟩
end Go.Proofs.Ytfhfhpnoeghgmaa

/-
  Contracts: texts in a row of their own are marked, and looked at again.
-/
namespace Go.Proofs.Ytfhfhpnoeghgmaa
open Go.RowKit
set_option maxRecDepth 100000

/-- A slice of n texts that is marked. -/
def MarkedS (v : Value) (n : Nat) (w : World) : Prop := (v = .slice none 0 0 ∧ n = 0) ∨ ∃ g cap, v = .slice (some ⟨g, 0, none⟩) n cap ∧ MkAt g n 1 n w
theorem MarkedS.kept {v : Value} {n : Nat} {w w' : World} (h : MarkedS v n w) (hb : Below w.heap.size w w') : MarkedS v n w' := by
  rcases h with h | ⟨g, cap, rfl, h⟩
  · exact .inl h
  · exact .inr ⟨g, cap, rfl, h.kept hb h.lt⟩
theorem markStringS_nil (w : World) : Calls Try.prog 73 #[.slice none 0 0, .int .i64 1] w fun e w' => e = .returned (.int .i64 1) ∧ w' = w := by
  go_enter Try.func73, Try.ntmps73
  go_wp2
  go_loop [1, 5] (fun q i => i = .int .i64 0 ∧ q = .int .i64 1) (fun _ _ => 0)
  case atStart => exact ⟨rfl, rfl⟩
  case round =>
    obtain ⟨rfl, rfl⟩ := hrel
    go_wp2
    go_ret
    exact ⟨rfl, rfl⟩
theorem heldStringS_nil (w : World) : Calls Try.prog 75 #[.slice none 0 0, .int .i64 1] w fun e w' => e = .returned (.int .i64 1) ∧ w' = w := by
  go_enter Try.func75, Try.ntmps75
  go_wp2
  go_loop [1, 5] (fun q i => i = .int .i64 0 ∧ q = .int .i64 1) (fun _ _ => 0)
  case atStart => exact ⟨rfl, rfl⟩
  case round =>
    obtain ⟨rfl, rfl⟩ := hrel
    go_wp2
    go_ret
    exact ⟨rfl, rfl⟩
theorem markStringS_own (base : Nat) (v : Value) (l : List ByteArray) (w : World) (hn : l.length ≤ 1048576) (h : OwnS base v l w) :
    Calls Try.prog 73 #[v, .int .i64 1] w fun e w' => e = .returned (.int .i64 ((1 + l.length : Nat) : Int)) ∧ MarkedS v l.length w' ∧ w.grownBy w' v.ownBlock := by
  rcases h.2 with ⟨rfl, h0⟩ | ⟨g, cap, cur, rfl, hB, hq, hn', hm, hs, ht⟩
  · refine (markStringS_nil w).mono ?_
    rintro e w' ⟨rfl, rfl⟩
    rw [h0]
    exact ⟨rfl, .inl ⟨rfl, rfl⟩, grown_refl _ _⟩
  · refine (markStringS_at g l.length cap 1 w hn (by omega) (by omega) ⟨cur.toList, by simpa using hq, by simp; omega, fun i hi => by omega⟩).mono ?_
    rintro e w' ⟨rfl, hm', hb⟩
    exact ⟨rfl, .inr ⟨g, cap, rfl, hm'⟩, hb⟩
theorem heldStringS_own (v : Value) (n : Nat) (w : World) (hn : n ≤ 1048576) (h : MarkedS v n w) :
    Calls Try.prog 75 #[v, .int .i64 1] w fun e w' => e = .returned (.int .i64 ((1 + n : Nat) : Int)) ∧ Below w.heap.size w w' := by
  rcases h with ⟨rfl, rfl⟩ | ⟨g, cap, rfl, hm⟩
  · refine (heldStringS_nil w).mono ?_
    rintro e w' ⟨rfl, rfl⟩
    exact ⟨rfl, Below.refl _ _⟩
  · exact heldStringS_at g n cap 1 w hn (by omega) (by omega) hm
end Go.Proofs.Ytfhfhpnoeghgmaa

/-
  Contracts: marks are written into a disk's lists, and read again.
-/
namespace Go.Proofs.Ytfhfhpnoeghgmaa
open Go.RowKit
set_option maxRecDepth 100000

def mStrs (k0 n : Nat) : List ByteArray := (List.range n).map fun i => markS (k0 + i)
def mWr (k : Nat) : Wr := ⟨(k : Int), markS (k + 1)⟩
def mWrs (k0 n : Nat) : List Wr := (List.range n).map fun i => mWr (k0 + 2 * i)
theorem mStrs_succ (k0 k : Nat) : mStrs k0 (k + 1) = mStrs k0 k ++ [markS (k0 + k)] := by simp [mStrs, List.range_succ]
theorem mWrs_succ (k0 k : Nat) : mWrs k0 (k + 1) = mWrs k0 k ++ [mWr (k0 + 2 * k)] := by simp [mWrs, List.range_succ]
theorem mStrs_len (k0 n : Nat) : (mStrs k0 n).length = n := by simp [mStrs]
theorem mWrs_len (k0 n : Nat) : (mWrs k0 n).length = n := by simp [mWrs]
theorem mStrs_get (k0 n i : Nat) (h : i < n) : (mStrs k0 n).getD i ByteArray.empty = markS (k0 + i) := by simp [mStrs, List.getD_eq_getElem?_getD, h]
theorem mWrs_get (k0 n i : Nat) (h : i < n) : (mWrs k0 n).getD i noWr = mWr (k0 + 2 * i) := by simp [mWrs, List.getD_eq_getElem?_getD, h]
def SM (g m k0 k : Nat) (w : World) : Prop := ∃ cur : List Value, w.heap[g]? = some (.cells cur.toArray 9 (0, 0)) ∧ cur.length = m ∧ cur.take k = strsV (mStrs k0 k)
def WM (g m k0 k : Nat) (w : World) : Prop := ∃ cur : List Value, w.heap[g]? = some (.cells cur.toArray 122 (0, 0)) ∧ cur.length = m ∧ cur.take (k * 2) = flatW (mWrs k0 k)
set_option maxHeartbeats 2000000 in
theorem markStringS_cur (g n cap k0 m : Nat) (w : World) (hk0 : 0 < k0) (hk1 : k0 + n ≤ 5000000) (hl0 : n ≤ m) (hw : SM g m k0 0 w) :
    Calls Try.prog 73 #[.slice (some ⟨g, 0, none⟩) n cap, .int .i64 k0] w fun e w' => e = .returned (.int .i64 ((k0 + n : Nat) : Int)) ∧ SM g m k0 n w' ∧ w.grownBy w' (some g) := by
  have HW := hide hw
  clear hw
  go_enter Try.func73, Try.ntmps73
  go_wp2
  go_loopw [1, 5] (fun q i wr => ∃ k : Nat, k ≤ n ∧ i = .int .i64 k ∧ q = .int .i64 ((k0 + k : Nat) : Int) ∧ Hid (SM g m k0 k wr) ∧ w.grownBy wr (some g)) (fun _ i _ => n - (intOf i).toNat)
  case atStart => exact ⟨0, Nat.zero_le _, rfl, rfl, HW, grown_refl _ _⟩
  case round =>
    obtain ⟨k, hk', rfl, rfl, HM, hb⟩ := hrel
    by_cases hlt : k < n
    · have hmt := hide (markText_pos (k0 + k) (by omega) (by omega) wr)
      obtain ⟨cur, hg, hl, htk⟩ := HM.out
      have hgs : g < wr.heap.size := (Array.getElem?_eq_some_iff.1 hg).1
      have HG := hide hg
      have HL := hide htk
      have HS := hide (mStrs_succ k0 k)
      generalize markS (k0 + k) = T at *
      clear HM hg htk
      go_wp2_with fail
      refine hmt.out.mono ?_
      rintro e w1 ⟨rfl, b1⟩
      have hg1 := (b1.block g hgs).trans HG.out
      obtain ⟨x0, hx0⟩ : ∃ v, cur[k]? = some v := ⟨_, List.getElem?_eq_getElem (by omega)⟩
      have e0 : w1.cell? ⟨g, k, none⟩ = some x0 := by rw [cell_of_row _ _ _ _ _ _ hg1, List.getElem?_toArray, hx0]
      have ef : ∀ j, w1.frozen? ⟨g, j, none⟩ = false := fun j => frozen_of_row _ _ _ _ _ hg1
      have HM2 : Hid (SM g m k0 (k + 1) (w1.setCell ⟨g, k, none⟩ (.string T)) ∧ w.grownBy (w1.setCell ⟨g, k, none⟩ (.string T)) (some g)) := by
        refine ⟨⟨_, setL_heap hg1, by simpa using hl, ?_⟩, grown_setG (grown_below hb b1)⟩
        rw [take_set1 _ _ _ (by omega), HL.out, HS.out]
        simp [strsV]
      clear HG HL HS hg1 hx0 b1 hmt hb hgs hl
      go_wp2
      go_roundw
      case rel => exact ⟨k + 1, by omega, by go_num, by go_num, HM2.out.1, HM2.out.2⟩
      case measure => simp [intOf]; omega
    · obtain rfl : k = n := by omega
      go_wp2
      go_ret
      exact ⟨rfl, HM.out, hb⟩
theorem markStringS_nilK (k0 : Nat) (w : World) : Calls Try.prog 73 #[.slice none 0 0, .int .i64 k0] w fun e w' => e = .returned (.int .i64 k0) ∧ w' = w := by
  go_enter Try.func73, Try.ntmps73
  go_wp2
  go_loop [1, 5] (fun q i => i = .int .i64 0 ∧ q = .int .i64 k0) (fun _ _ => 0)
  case atStart => exact ⟨rfl, rfl⟩
  case round =>
    obtain ⟨rfl, rfl⟩ := hrel
    go_wp2
    go_ret
    exact ⟨rfl, rfl⟩
theorem markStringS_mk (base : Nat) (v : Value) (l : List ByteArray) (k0 : Nat) (w : World) (hk0 : 0 < k0) (hk1 : k0 + l.length ≤ 5000000) (h : OwnS base v l w) :
    Calls Try.prog 73 #[v, .int .i64 k0] w fun e w' => e = .returned (.int .i64 ((k0 + l.length : Nat) : Int)) ∧ OwnS base v (mStrs k0 l.length) w' ∧ w.grownBy w' v.ownBlock := by
  rcases h.2 with ⟨rfl, h0⟩ | ⟨g, cap, cur, rfl, hB, hq, hn', hm, hs, ht⟩
  · refine (markStringS_nilK k0 w).mono ?_
    rintro e w' ⟨rfl, rfl⟩
    rw [h0]
    exact ⟨rfl, ownS_nil _ _, grown_refl _ _⟩
  · refine (markStringS_cur g l.length cap k0 (cap * 1) w hk0 hk1 (by omega) ⟨cur.toList, by simpa using hq, by simpa using hs, by simp [mStrs, strsV]⟩).mono ?_
    rintro e w' ⟨rfl, ⟨cur', hg', hl', ht'⟩, hb⟩
    refine ⟨rfl, ⟨by simp [strsV], .inr ⟨g, cap, cur'.toArray, by rw [mStrs_len], hB, hg', by rw [mStrs_len]; exact hn', hm, by simpa using hl', ?_⟩⟩, hb⟩
    rw [mStrs_len]; simpa using ht'
set_option maxHeartbeats 4000000 in
theorem markWriteS_at (g n cap k0 m : Nat) (w : World) (hk0 : 0 < k0) (hk1 : k0 + 2 * n ≤ 5000000) (hl0 : n * 2 ≤ m) (hw : WM g m k0 0 w) :
    Calls Try.prog 74 #[.slice (some ⟨g, 0, none⟩) n cap, .int .i64 k0] w fun e w' => e = .returned (.int .i64 ((k0 + 2 * n : Nat) : Int)) ∧ WM g m k0 n w' ∧ w.grownBy w' (some g) := by
  have HW := hide hw
  clear hw
  go_enter Try.func74, Try.ntmps74
  go_wp2
  go_loopw [1, 5] (fun s i wr => ∃ k q : Nat, k ≤ n ∧ i = .int .i64 k ∧ s = .int .i64 q ∧ Hid (q = k0 + 2 * k) ∧ (0 < q ∧ q ≤ 5000000) ∧ Hid (WM g m k0 k wr) ∧ w.grownBy wr (some g)) (fun _ i _ => n - (intOf i).toNat)
  case atStart => exact ⟨0, k0, Nat.zero_le _, rfl, rfl, (by show _ = _; omega), ⟨hk0, by omega⟩, HW, grown_refl _ _⟩
  case round =>
    obtain ⟨k, q, hk, rfl, rfl, HQ, ⟨hq0, hq1⟩, HM, hb⟩ := hrel
    by_cases hlt : k < n
    · obtain ⟨cur, hg, hl, htk⟩ := HM.out
      have hgs : g < wr.heap.size := (Array.getElem?_eq_some_iff.1 hg).1
      have hmt := hide (fun W => markText_pos (q + 1) (by omega) (by omega) W)
      have hq3 : ((q + 1 : Nat) : Int) = (q : Int) + 1 := by omega
      rw [hq3] at hmt
      have HG := hide hg
      have HL := hide htk
      have hq2 : q + 2 ≤ 5000000 := by have := HQ.out; omega
      have HC : Hid (mWr (k0 + 2 * k) = ⟨(q : Int), markS (q + 1)⟩) := by show _ = _; rw [← HQ.out]; rfl
      generalize markS (q + 1) = T at *
      obtain ⟨x0, hx0⟩ : ∃ v, cur[k * 2]? = some v := ⟨_, List.getElem?_eq_getElem (by omega)⟩
      obtain ⟨x1, hx1⟩ : ∃ v, cur[k * 2 + 1]? = some v := ⟨_, List.getElem?_eq_getElem (by omega)⟩
      have d0 : wr.cell? ⟨g, k * 2, none⟩ = some x0 := by rw [cell_of_row _ _ _ _ _ _ hg, List.getElem?_toArray, hx0]
      have df : ∀ j, wr.frozen? ⟨g, j, none⟩ = false := fun j => frozen_of_row _ _ _ _ _ hg
      clear HM hg htk hq3
      go_wp2_with fail
      refine (hmt.out _).mono ?_
      rintro e w1 ⟨rfl, hb1⟩
      have hg1 := (hb1.block g (by simpa using hgs)).trans (setL_heap (m := k * 2) (x := .int .i64 (q : Int)) HG.out)
      have d1 : w1.cell? ⟨g, k * 2 + 1, none⟩ = some x1 := by rw [cell_of_row _ _ _ _ _ _ hg1, List.getElem?_toArray, List.getElem?_set_ne (by omega), hx1]
      have df1 : ∀ j, w1.frozen? ⟨g, j, none⟩ = false := fun j => frozen_of_row _ _ _ _ _ hg1
      have HM2 : Hid (WM g m k0 (k + 1) (w1.setCell ⟨g, k * 2 + 1, none⟩ (.string T)) ∧ w.grownBy (w1.setCell ⟨g, k * 2 + 1, none⟩ (.string T)) (some g)) := by
        refine ⟨⟨_, setL_heap hg1, by simpa using hl, ?_⟩, grown_setG (grown_below (grown_setG hb) hb1)⟩
        rw [show (k + 1) * 2 = k * 2 + 2 by omega, take_set2w _ _ _ _ (by omega), HL.out, mWrs_succ, flatW_append, HC.out]; rfl
      clear hmt HG HL HC hg1 hx0 hx1 hb1 hb d0 df
      go_wp2
      go_roundw
      case rel => exact ⟨k + 1, q + 2, by omega, by go_num, by go_num, (by show _ = _; have := HQ.out; omega), ⟨by omega, hq2⟩, HM2.out.1, HM2.out.2⟩
      case measure => simp [intOf]; omega
    · obtain rfl : k = n := by omega
      have HZ : Hid ((q : Int) = ((k0 + 2 * k : Nat) : Int)) := by show _ = _; rw [HQ.out]
      go_wp2
      go_ret
      exact ⟨by rw [HZ.out]; rfl, HM.out, hb⟩
theorem markWriteS_nil (k0 : Nat) (w : World) : Calls Try.prog 74 #[.slice none 0 0, .int .i64 k0] w fun e w' => e = .returned (.int .i64 k0) ∧ w' = w := by
  go_enter Try.func74, Try.ntmps74
  go_wp2
  go_loop [1, 5] (fun q i => i = .int .i64 0 ∧ q = .int .i64 k0) (fun _ _ => 0)
  case atStart => exact ⟨rfl, rfl⟩
  case round =>
    obtain ⟨rfl, rfl⟩ := hrel
    go_wp2
    go_ret
    exact ⟨rfl, rfl⟩
theorem markWriteS_mk (base : Nat) (v : Value) (l : List Wr) (k0 : Nat) (w : World) (hk0 : 0 < k0) (hk1 : k0 + 2 * l.length ≤ 5000000) (h : OwnW base v l w) :
    Calls Try.prog 74 #[v, .int .i64 k0] w fun e w' => e = .returned (.int .i64 ((k0 + 2 * l.length : Nat) : Int)) ∧ OwnW base v (mWrs k0 l.length) w' ∧ w.grownBy w' v.ownBlock := by
  rcases h.2 with ⟨rfl, h0⟩ | ⟨g, cap, cur, rfl, hB, hq, hn', hm, hs, ht⟩
  · refine (markWriteS_nil k0 w).mono ?_
    rintro e w' ⟨rfl, rfl⟩
    rw [h0]
    exact ⟨rfl, ownW_nil _ _, grown_refl _ _⟩
  · refine (markWriteS_at g l.length cap k0 (cap * 2) w hk0 hk1 (Nat.mul_le_mul_right 2 hn') ⟨cur.toList, by simpa using hq, by simpa using hs, by simp [mWrs, flatW]⟩).mono ?_
    rintro e w' ⟨rfl, ⟨cur', hg', hl', ht'⟩, hb⟩
    refine ⟨rfl, ⟨by rw [flatW_len], .inr ⟨g, cap, cur'.toArray, by rw [mWrs_len], hB, hg', by rw [mWrs_len]; exact hn', hm, by simpa using hl', ?_⟩⟩, hb⟩
    rw [mWrs_len]; simpa using ht'
end Go.Proofs.Ytfhfhpnoeghgmaa

/-
  Contracts: disks copied into rows of their own.
-/
namespace Go.Proofs.Ytfhfhpnoeghgmaa
open Go.RowKit
set_option maxRecDepth 100000

set_option maxHeartbeats 1000000 in
theorem toStringS_ownS (A B : Nat) (ao : Option Addr) (cap : Nat) (l : List ByteArray) (w : World) (hB : B ≤ w.heap.size) (hl : l.length ≤ 1048576) (hr : StrRow w A B ao l) :
    Calls Try.prog 80 #[.slice ao l.length cap] w fun e w' => ∃ v, e = .returned v ∧ OwnS w.heap.size v l w' ∧ Below w.heap.size w w' := by
  obtain ⟨i0, hi, hz0, hz1, hz2⟩ := info_parts Try.infoStr'
  have HR := hide hr
  clear hr
  go_enter Try.func80, Try.ntmps80
  go_wp2_with (at_make; refine wpList_make_full _ rfl _ _ 23 rfl w.heap.size 9 i0 (.string ⟨#[]⟩) 1 Try.underlying23 hi hz0 hz1 .i64 .i64 _ _ l.length rfl rfl rfl rfl (by rw [hz2]; omega) (by unfold maxLen; omega) (Nat.le_refl _) ?_; intro w1 hown1 hgrow1)
  obtain ⟨cur0, hg0, hl0⟩ : ∃ cur : List Value, w1.heap[w.heap.size]? = some (.cells cur.toArray 9 (0, 0)) ∧ cur.length = l.length := by
    rcases hown1.2 with ⟨h, _⟩ | ⟨g, cap', cur, hv, _, hg, _, _, hs, _⟩
    · simp at h
    · simp at hv
      obtain ⟨rfl, rfl⟩ := hv
      exact ⟨cur.toList, by simpa using hg, by simpa using hs⟩
  have hb1 : Below w.heap.size w w1 := (Below.refl _ _).grown hgrow1 (Nat.le_refl _) (fun j hj => by simp at hj)
  clear hown1 hgrow1
  go_loopw [4] (fun i wr => ∃ (k : Nat) (cur : List Value), k ≤ l.length ∧ i = .int .i64 k ∧ cur.length = l.length ∧ wr.heap[w.heap.size]? = some (.cells cur.toArray 9 (0, 0)) ∧ Hid (cur.take k = strsV (l.take k)) ∧ Below w.heap.size w wr) (fun i _ => l.length - (intOf i).toNat)
  case atStart => exact ⟨0, cur0, Nat.zero_le _, rfl, hl0, hg0, by show _ = _; simp [strsV], hb1⟩
  case round =>
    obtain ⟨k, cur, hk, rfl, hlen, hg, HC, hb⟩ := hrel
    clear hb1 hg0 hl0
    have hlt0 : w.heap.size < wr.heap.size := (Array.getElem?_eq_some_iff.1 hg).1
    by_cases hlt : k < l.length
    · obtain ⟨b, off, x, rfl, hbB, hv, hx, d0⟩ := (HR.out.kept (hb.mono hB)).at k hlt
      obtain ⟨HC2, hlen2⟩ := strs_step cur l k hlt hlen HC.out x hv
      have HC3 : Hid ((cur.set k (.string x)).take (k + 1) = strsV (l.take (k + 1))) := HC2
      clear hv HC HC2
      obtain ⟨x0, hx0⟩ : ∃ v, cur[k]? = some v := ⟨_, List.getElem?_eq_getElem (by omega)⟩
      have e0 : wr.cell? ⟨w.heap.size, k, none⟩ = some x0 := by rw [cell_of_row _ _ _ _ _ _ hg, List.getElem?_toArray, hx0]
      have ef : ∀ j, wr.frozen? ⟨w.heap.size, j, none⟩ = false := fun j => frozen_of_row _ _ _ _ _ hg
      have HG : Hid (wr.heap[w.heap.size]? = some (.cells cur.toArray 9 (0, 0))) := hg
      clear hx0 hg
      go_wp2
      go_roundw
      case rel => exact ⟨k + 1, _, by omega, by go_num, hlen2, (by rw [heap_setCell_same _ _ _ _ _ _ HG.out]; simp), HC3, hb.setCell (Nat.le_refl _) _⟩
      case measure => simp [intOf]; omega
    · obtain rfl : k = l.length := by omega
      have HF : Hid (OwnS w.heap.size (.slice (some ⟨w.heap.size, 0, none⟩) l.length l.length) l wr) := ⟨by simp [strsV], .inr ⟨w.heap.size, l.length, cur.toArray, rfl, Nat.le_refl _, hg, Nat.le_refl _, (by unfold maxLen; omega), (by simpa using hlen), (by have := HC.out; rw [List.take_length] at this; simpa using this)⟩⟩
      go_wp2
      go_ret
      exact ⟨_, rfl, HF.out, hb⟩
theorem toWrite_any (n : Int) (t : ByteArray) (w : World) :
    Calls Try.prog 112 #[.agg #[.int .i64 n, .string t]] w fun e w' => e = .returned (.agg #[.int .i64 n, .string t]) ∧ Below w.heap.size w w' := by
  go_enter Try.func112, Try.ntmps112
  go_wp2
  refine bodyPost_ret (v := .agg #[.int .i64 n, .string t]) (by simp [results, Try.results112, go_sem]) rfl ⟨rfl, ?_⟩
  exact (((Below.refl _ _).alloc (Nat.le_refl _) _).alloc (by simp) _).alloc (by simp; omega) _
theorem set2w_heap {W : World} {g m : Nat} {cur : List Value} {t : TypeId} {x y : Value} (h : W.heap[g]? = some (.cells cur.toArray t (0, 0))) :
    ((W.setCell ⟨g, m, none⟩ x).setCell ⟨g, m + 1, none⟩ y).heap[g]? = some (.cells ((cur.set m x).set (m + 1) y).toArray t (0, 0)) := setL_heap (setL_heap h)
set_option maxHeartbeats 1000000 in
theorem toWriteS_own (A B : Nat) (ao : Option Addr) (cap : Nat) (l : List Wr) (w : World) (hB : B ≤ w.heap.size) (hl : l.length ≤ 1048576) (hr : WrRow w A B ao l) :
    Calls Try.prog 81 #[.slice ao l.length cap] w fun e w' => ∃ v, e = .returned v ∧ OwnW w.heap.size v l w' ∧ Below w.heap.size w w' := by
  obtain ⟨i0, hi, hz0, hz1, hz2⟩ := info_parts Try.infoWr
  have HR := hide hr
  clear hr
  go_enter Try.func81, Try.ntmps81
  go_wp2_with (at_make; refine wpList_make_full _ rfl _ _ 24 rfl w.heap.size 122 i0 (.agg #[.int .i64 0, .string ⟨#[]⟩]) 2 Try.underlying24 hi hz0 hz1 .i64 .i64 _ _ l.length rfl rfl rfl rfl (by rw [hz2]; omega) (by unfold maxLen; omega) (Nat.le_refl _) ?_; intro w1 hown1 hgrow1)
  obtain ⟨cur0, hg0, hl0⟩ : ∃ cur : List Value, w1.heap[w.heap.size]? = some (.cells cur.toArray 122 (0, 0)) ∧ cur.length = l.length * 2 := by
    rcases hown1.2 with ⟨h, _⟩ | ⟨g, cap', cur, hv, _, hg, _, _, hs, _⟩
    · simp at h
    · simp at hv
      obtain ⟨rfl, rfl⟩ := hv
      exact ⟨cur.toList, by simpa using hg, by simpa using hs⟩
  have hb1 : Below w.heap.size w w1 := (Below.refl _ _).grown hgrow1 (Nat.le_refl _) (fun j hj => by simp at hj)
  clear hown1 hgrow1
  go_loopw [4] (fun i wr => ∃ (k : Nat) (cur : List Value), k ≤ l.length ∧ i = .int .i64 k ∧ cur.length = l.length * 2 ∧ wr.heap[w.heap.size]? = some (.cells cur.toArray 122 (0, 0)) ∧ Hid (cur.take (k * 2) = flatW (l.take k)) ∧ Below w.heap.size w wr) (fun i _ => l.length - (intOf i).toNat)
  case atStart => exact ⟨0, cur0, Nat.zero_le _, rfl, hl0, hg0, by show _ = _; simp [flatW], hb1⟩
  case round =>
    obtain ⟨k, cur, hk, rfl, hlen, hg, HC, hb⟩ := hrel
    clear hb1 hg0 hl0
    have hlt0 : w.heap.size < wr.heap.size := (Array.getElem?_eq_some_iff.1 hg).1
    by_cases hlt : k < l.length
    · obtain ⟨b, off, nn, tt, rfl, hbB, hv, htt, hki, d0, d1⟩ := (HR.out.kept (hb.mono hB)).at k hlt
      obtain ⟨HC2, hlen2⟩ := flatW_step cur l k hlt hlen HC.out nn tt hv
      have HC3 : Hid (((cur.set (k * 2) (.int .i64 nn)).set (k * 2 + 1) (.string tt)).take ((k + 1) * 2) = flatW (l.take (k + 1))) := HC2
      clear hv HC HC2 hki
      go_wp2_with fail
      refine (toWrite_any nn tt _).mono ?_
      rintro e w2 ⟨rfl, hb2⟩
      have hg2 : w2.heap[w.heap.size]? = some (.cells cur.toArray 122 (0, 0)) := (hb2.block _ hlt0).trans hg
      have hb3 := hb.trans (hb2.mono hb.size)
      obtain ⟨x0, hx0⟩ : ∃ v, cur[k * 2]? = some v := ⟨_, List.getElem?_eq_getElem (by omega)⟩
      obtain ⟨x1, hx1⟩ : ∃ v, cur[k * 2 + 1]? = some v := ⟨_, List.getElem?_eq_getElem (by omega)⟩
      have e0 : w2.cell? ⟨w.heap.size, k * 2, none⟩ = some x0 := by rw [cell_of_row _ _ _ _ _ _ hg2, List.getElem?_toArray, hx0]
      have e1 : w2.cell? ⟨w.heap.size, k * 2 + 1, none⟩ = some x1 := by rw [cell_of_row _ _ _ _ _ _ hg2, List.getElem?_toArray, hx1]
      have ef : ∀ j, w2.frozen? ⟨w.heap.size, j, none⟩ = false := fun j => frozen_of_row _ _ _ _ _ hg2
      have HG : Hid (w2.heap[w.heap.size]? = some (.cells cur.toArray 122 (0, 0))) := hg2
      clear hx0 hx1 hg2 hg d0 d1 hb hb2
      go_wp2
      go_roundw
      case rel => exact ⟨k + 1, _, by omega, by go_num, hlen2, set2w_heap HG.out, HC3, (hb3.setCell (Nat.le_refl _) _).setCell (Nat.le_refl _) _⟩
      case measure => simp [intOf]; omega
    · obtain rfl : k = l.length := by omega
      have HF : Hid (OwnW w.heap.size (.slice (some ⟨w.heap.size, 0, none⟩) l.length l.length) l wr) := ⟨(by rw [flatW_len]), .inr ⟨w.heap.size, l.length, cur.toArray, rfl, Nat.le_refl _, hg, Nat.le_refl _, (by unfold maxLen; omega), (by simpa using hlen), (by have := HC.out; rw [List.take_length] at this; simpa using this)⟩⟩
      go_wp2
      go_ret
      exact ⟨_, rfl, HF.out, hb⟩
end Go.Proofs.Ytfhfhpnoeghgmaa

/-
  Contract: the size of texts, as the laws count it.
-/
namespace Go.Proofs.Ytfhfhpnoeghgmaa
open Go.RowKit
set_option maxRecDepth 100000

set_option maxHeartbeats 1000000 in
theorem szStringS_any (A B : Nat) (ao : Option Addr) (cap : Nat) (l : List ByteArray) (left : Int) (w : World) (hB : B ≤ w.heap.size) (hl : l.length ≤ maxLen) (hr : StrRow w A B ao l) (h0 : 0 ≤ left) (h1 : left ≤ 1048576) :
    Calls Try.prog 77 #[.slice ao l.length cap, .int .i64 left] w fun e w' => ∃ r : Int, e = .returned (.int .i64 r) ∧ r ≤ left ∧ (r < 0 ∨ 0 ≤ r ∧ l.length ≤ 1048576) ∧ Below w.heap.size w w' := by
  unfold maxLen at hl
  by_cases hlong : left < l.length
  · go_enter Try.func77, Try.ntmps77
    go_wp2
    go_ret
    exact ⟨-1, rfl, by omega, .inl (by omega), Below.refl _ _⟩
  · have HR := hide hr
    clear hr
    go_enter Try.func77, Try.ntmps77
    go_wp2
    go_loopw [1, 5] (fun x i wr => ∃ (k : Nat) (r : Int), k ≤ l.length ∧ i = .int .i64 k ∧ x = .int .i64 r ∧ 0 ≤ r ∧ r ≤ left ∧ Below w.heap.size w wr) (fun _ i _ => l.length - (intOf i).toNat)
    case atStart => exact ⟨0, left - l.length, Nat.zero_le _, rfl, rfl, by omega, by omega, Below.refl _ _⟩
    case round =>
      obtain ⟨k, r, hk, rfl, rfl, hr0, hr1, hb⟩ := hrel
      by_cases hlt : k < l.length
      · obtain ⟨b, off, x, rfl, hbB, hv, hx, d0⟩ := (HR.out.kept (hb.mono hB)).at k hlt
        clear hv
        unfold maxLen at hx
        by_cases hs : r < x.size
        · go_wp2
          go_ret
          exact ⟨-1, rfl, by omega, .inl (by omega), hb⟩
        · go_wp2
          go_roundw
          case rel => exact ⟨k + 1, r - x.size, by omega, by go_num, by go_num, by omega, by omega, hb⟩
          case measure => simp [intOf]; omega
      · go_wp2
        go_ret
        exact ⟨r, rfl, hr1, .inr ⟨hr0, by omega⟩, hb⟩
end Go.Proofs.Ytfhfhpnoeghgmaa

/-
  Contracts: the sizes of disks, as the laws count them.
-/
namespace Go.Proofs.Ytfhfhpnoeghgmaa
open Go.RowKit
set_option maxRecDepth 100000

theorem szWrite_any (n : Int) (t : ByteArray) (left : Int) (h0 : 0 ≤ left) (h1 : left ≤ 1048576) (ht : t.size ≤ maxLen) (w : World) :
    Calls Try.prog 111 #[.agg #[.int .i64 n, .string t], .int .i64 left] w fun e w' => ∃ r : Int, e = .returned (.int .i64 r) ∧ r ≤ left ∧ Below w.heap.size w w' := by
  unfold maxLen at ht
  by_cases h : left < t.size
  · go_enter Try.func111, Try.ntmps111
    go_wp2
    go_ret
    exact ⟨-1, rfl, by omega, (Below.refl _ _).alloc (Nat.le_refl _) _⟩
  · go_enter Try.func111, Try.ntmps111
    go_wp2
    go_ret
    exact ⟨_, rfl, by omega, (Below.refl _ _).alloc (Nat.le_refl _) _⟩
set_option maxHeartbeats 1000000 in
theorem szWriteS_any (A B : Nat) (ao : Option Addr) (cap : Nat) (l : List Wr) (left : Int) (w : World) (hB : B ≤ w.heap.size) (hl : l.length ≤ maxLen) (hr : WrRow w A B ao l) (h0 : 0 ≤ left) (h1 : left ≤ 1048576) :
    Calls Try.prog 78 #[.slice ao l.length cap, .int .i64 left] w fun e w' => ∃ r : Int, e = .returned (.int .i64 r) ∧ r ≤ left ∧ (r < 0 ∨ 0 ≤ r ∧ l.length ≤ 1048576) ∧ Below w.heap.size w w' := by
  unfold maxLen at hl
  by_cases hlong : left < l.length
  · go_enter Try.func78, Try.ntmps78
    go_wp2
    go_ret
    exact ⟨-1, rfl, by omega, .inl (by omega), Below.refl _ _⟩
  · have HR := hide hr
    clear hr
    go_enter Try.func78, Try.ntmps78
    go_wp2
    go_loopw [1, 5] (fun x i wr => ∃ (k : Nat) (r : Int), k ≤ l.length ∧ i = .int .i64 k ∧ x = .int .i64 r ∧ 0 ≤ r ∧ r ≤ left ∧ Below w.heap.size w wr) (fun _ i _ => l.length - (intOf i).toNat)
    case atStart => exact ⟨0, left - l.length, Nat.zero_le _, rfl, rfl, by omega, by omega, Below.refl _ _⟩
    case round =>
      obtain ⟨k, r, hk, rfl, rfl, hr0, hr1, hb⟩ := hrel
      by_cases hlt : k < l.length
      · obtain ⟨b, off, nn, tt, rfl, hbB, hv, htt, hki, d0, d1⟩ := (HR.out.kept (hb.mono hB)).at k hlt
        clear hv hki
        go_wp2_with fail
        refine (szWrite_any nn tt r hr0 (by omega) htt _).mono ?_
        rintro e w1 ⟨q, rfl, hq, hb1⟩
        have hb2 := hb.trans (hb1.mono hb.size)
        clear hb hb1 d0 d1
        by_cases hs : q < 0
        · go_wp2
          go_ret
          exact ⟨-1, rfl, by omega, .inl (by omega), hb2⟩
        · go_wp2
          go_roundw
          case rel => exact ⟨k + 1, q, by omega, by go_num, rfl, by omega, by omega, hb2⟩
          case measure => simp [intOf]; omega
      · go_wp2
        go_ret
        exact ⟨r, rfl, hr1, .inr ⟨hr0, by omega⟩, hb⟩
set_option maxHeartbeats 1000000 in
theorem szDisk_any (A B : Nat) (so : Option Addr) (p : Nat) (co : Option Addr) (q : Nat) (d : Dk) (left : Int) (w : World) (hB : B ≤ w.heap.size) (hr : DkRow w A B so co d) (h0 : 0 ≤ left) (h1 : left ≤ 1048576) :
    Calls Try.prog 28 #[.agg #[.slice so d.secs.length p, .slice co d.cache.length q], .int .i64 left] w fun e w' => ∃ r : Int, e = .returned (.int .i64 r) ∧ r ≤ left ∧ (r < 0 ∨ 0 ≤ r ∧ dkFits d) ∧ Below w.heap.size w w' := by
  obtain ⟨ss, cs⟩ := d
  obtain ⟨⟨hl1, hl2⟩, hs, hc⟩ := hr
  simp only at *
  have C1 := hide (fun (W : World) (hW : Below w.heap.size w W) => szStringS_any A B so p ss left W (Nat.le_trans hB hW.size) hl1 (hs.kept (hW.mono hB)) h0 h1)
  have C2 := hide (fun (r : Int) (W : World) (hW : Below w.heap.size w W) (hr0 : 0 ≤ r) (hr1 : r ≤ 1048576) => szWriteS_any A B co q cs r W (Nat.le_trans hB hW.size) hl2 (hc.kept (hW.mono hB)) hr0 hr1)
  have X0 := hide (heap_alloc_new w (.cells #[.slice so ss.length p, .slice co cs.length q] 51))
  have B0 := hide ((Below.refl w.heap.size w).alloc (Nat.le_refl _) (.cells #[.slice so ss.length p, .slice co cs.length q] 51))
  have HZ : Hid ((w.alloc (.cells #[.slice so ss.length p, .slice co cs.length q] 51)).heap.size = w.heap.size + 1) := by show _ = _; simp
  clear hs hc hl1 hl2
  go_enter Try.func28, Try.ntmps28
  go_wp2_with fail
  refine (C1.out _ B0.out).mono ?_
  generalize w.alloc (.cells #[.slice so ss.length p, .slice co cs.length q] 51) = W0 at *
  rintro e w1 ⟨r1, rfl, hr1, hcase, hb1⟩
  have X1 := hide ((hb1.block w.heap.size (by rw [HZ.out]; omega)).trans X0.out)
  have B1 := hide (B0.out.trans (hb1.mono B0.out.size))
  clear hb1 X0 B0 C1
  rcases hcase with hs | ⟨hs, hf1⟩
  · go_wp2
    go_ret
    exact ⟨-1, rfl, by omega, .inl (by omega), B1.out⟩
  · obtain ⟨x0, x1, xf⟩ := cells2 X1.out
    go_wp2_with fail
    refine (C2.out r1 _ B1.out hs (by omega)).mono ?_
    rintro e w2 ⟨r2, rfl, hr2, hcase, hb2⟩
    have B2 := hide (B1.out.trans (hb2.mono B1.out.size))
    clear hb2 X1 B1 C2 x0 x1 xf
    rcases hcase with hs2 | ⟨hs2, hf2⟩
    · go_wp2
      go_ret
      exact ⟨-1, rfl, by omega, .inl (by omega), B2.out⟩
    · have HF : Hid (dkFits ⟨ss, cs⟩) := ⟨hf1, hf2⟩
      go_wp2
      go_ret
      exact ⟨r2, rfl, by omega, .inr ⟨hs2, HF.out⟩, B2.out⟩
end Go.Proofs.Ytfhfhpnoeghgmaa

/-
  Contract: a disk copied into rows of its own; two disks of the same parts are the same.
-/
namespace Go.Proofs.Ytfhfhpnoeghgmaa
open Go.RowKit
set_option maxRecDepth 100000

theorem apart_below {u v : Value} {m : Nat} (hu : ∀ b, u.ownBlock = some b → b < m) (hv : ∀ b, v.ownBlock = some b → m ≤ b) : u.ownBlock = none ∨ u.ownBlock ≠ v.ownBlock := by
  cases h : u.ownBlock with
  | none => exact .inl rfl
  | some b => exact .inr (fun e => by have h1 := hu b h; have h2 := hv b e.symm; omega)
set_option maxHeartbeats 1000000 in
theorem toDisk_own (A B : Nat) (so : Option Addr) (p : Nat) (co : Option Addr) (q : Nat) (d : Dk) (w : World) (hB : B ≤ w.heap.size) (hf : dkFits d) (hr : DkRow w A B so co d) :
    Calls Try.prog 30 #[.agg #[.slice so d.secs.length p, .slice co d.cache.length q]] w fun e w' => ∃ s c, e = .returned (.agg #[s, c]) ∧ OwnD w.heap.size s c d w' ∧ Below w.heap.size w w' := by
  have HR := hide hr
  have HF := hide hf
  clear hr hf
  obtain ⟨ss, cs⟩ := d
  simp only
  have HB0 : Hid (Below w.heap.size w (((w.alloc (.cells #[.slice so ss.length p, .slice co cs.length q] 51)).alloc (.cells #[.slice none 0 0, .slice none 0 0] 26)).alloc (.cells #[.slice none 0 0, .slice none 0 0] 26))) := (((Below.refl _ _).alloc (Nat.le_refl _) _).alloc (by simp) _).alloc (by simp; omega) _
  have X0 := hide (alloc3 w (.cells #[.slice so ss.length p, .slice co cs.length q] 51) (.cells #[.slice none 0 0, .slice none 0 0] 26) (.cells #[.slice none 0 0, .slice none 0 0] 26))
  have HZ : Hid ((((w.alloc (.cells #[.slice so ss.length p, .slice co cs.length q] 51)).alloc (.cells #[.slice none 0 0, .slice none 0 0] 26)).alloc (.cells #[.slice none 0 0, .slice none 0 0] 26)).heap.size = w.heap.size + 3) := by show _ = _; simp
  go_enter Try.func30, Try.ntmps30
  go_wp2_with fail
  refine (toStringS_ownS A w.heap.size so p ss _ HB0.out.size HF.out.1 ((HR.out.2.1.mono (Nat.le_refl _) hB).kept HB0.out)).mono ?_
  generalize ((w.alloc (.cells #[.slice so ss.length p, .slice co cs.length q] 51)).alloc (.cells #[.slice none 0 0, .slice none 0 0] 26)).alloc (.cells #[.slice none 0 0, .slice none 0 0] 26) = W0 at *
  rintro e w1 ⟨v, rfl, hr1, hb1⟩
  obtain ⟨so', p', rfl⟩ := ownS_shape hr1
  have hsz1 : w.heap.size + 3 ≤ w1.heap.size := by have := hb1.size; rw [HZ.out] at this; exact this
  have R1 : Hid (OwnS (w.heap.size + 3) (.slice so' ss.length p') ss w1) := owns_base hr1 (by rw [HZ.out]; omega)
  have M1 : Hid (∀ b, (Value.slice so' ss.length p').ownBlock = some b → b < w1.heap.size) := fun b hb => (World.ownsRow.lt hr1 b hb).2
  have B1 : Hid (Below w.heap.size w (w1.setCell ⟨w.heap.size + 1 + 1, 0, none⟩ (.slice so' ss.length p'))) := (HB0.out.trans (hb1.mono HB0.out.size)).setCell (by simp; omega) _
  have X1 := hide ((hb1.block w.heap.size (by rw [HZ.out]; omega)).trans X0.out.1)
  have Y1 := hide ((hb1.block (w.heap.size + 1) (by rw [HZ.out]; omega)).trans X0.out.2.1)
  have L1 := hide ((hb1.block (w.heap.size + 1 + 1) (by rw [HZ.out]; omega)).trans X0.out.2.2)
  obtain ⟨x0, x1, xf⟩ := cells2 X1.out
  obtain ⟨l0, l1, lf⟩ := cells2 L1.out
  clear hr1 hb1 X0 HZ
  go_wp2_with fail
  refine (toWriteS_own A w.heap.size co q cs _ B1.out.size HF.out.2 ((HR.out.2.2.mono (Nat.le_refl _) hB).kept B1.out)).mono ?_
  rintro e w2 ⟨v, rfl, hr2, hb2⟩
  obtain ⟨co', q', rfl⟩ := ownW_shape hr2
  have hsz2 : w1.heap.size ≤ w2.heap.size := by have := hb2.size; simpa using this
  have R2 : Hid (OwnW (w.heap.size + 3) (.slice co' cs.length q') cs w2) := owns_base hr2 (by simp; omega)
  have R12 : Hid (OwnS (w.heap.size + 3) (.slice so' ss.length p') ss w2) := owns_below (own_set R1.out (by omega)) hb2
  have HS : Hid (OwnD (w.heap.size + 3) (.slice so' ss.length p') (.slice co' cs.length q') ⟨ss, cs⟩ w2) := ⟨R12.out, R2.out, apart_below M1.out (fun b hb => by have := (World.ownsRow.lt hr2 b hb).1; simpa using this)⟩
  have B2 : Hid (Below w.heap.size w w2) := B1.out.trans (hb2.mono B1.out.size)
  have Y2 : Hid (w2.heap[w.heap.size + 1]? = some (.cells #[.slice none 0 0, .slice none 0 0] 26 (0, 0))) := ((hb2.block _ (by simp; omega)).trans (heap_far _ _ _ _ _ (by omega))).trans Y1.out
  have L2 : Hid (w2.heap[w.heap.size + 1 + 1]? = some (.cells #[.slice so' ss.length p', .slice none 0 0] 26 (0, 0))) := (hb2.block _ (by simp; omega)).trans (by simpa using heap_setCell_same _ _ 0 _ _ (.slice so' ss.length p') L1.out)
  clear x0 x1 xf l0 l1 lf
  obtain ⟨y0, y1, yf⟩ := cells2 Y2.out
  obtain ⟨l0, l1, lf⟩ := cells2 L2.out
  clear hr2 hb2 M1 R12 R2 R1 B1 HB0 HR HF X1 Y1 L1
  go_wp2
  refine bodyPost_ret (v := .agg #[.slice so' ss.length p', .slice co' cs.length q']) (by simp [results, Try.results30, go_sem, y0, y1]) rfl ⟨_, _, rfl, ?_, ?_⟩
  · exact (((HS.out.set (by omega)).set (by omega)).set (by omega)).base (by omega)
  · exact ((B2.out.setCell (by simp; omega) _).setCell (by simp) _).setCell (by simp) _
theorem eqWrite_same (n : Int) (t : ByteArray) (w : World) :
    Calls Try.prog 109 #[.agg #[.int .i64 n, .string t], .agg #[.int .i64 n, .string t]] w fun e w' => e = .returned (.bool true) ∧ Below w.heap.size w w' := by
  go_enter Try.func109, Try.ntmps109
  go_wp2
  go_ret
  exact ⟨rfl, ((Below.refl _ _).alloc (Nat.le_refl _) _).alloc (by simp) _⟩
theorem ownW_at {base : Nat} {v : Value} {l : List Wr} {w : World} (h : OwnW base v l w) : ∃ ao cap, v = .slice ao l.length cap ∧ ∀ k, k < l.length → ∃ b off n t, ao = some ⟨b, off, none⟩ ∧ b < w.heap.size ∧ l.getD k noWr = ⟨n, t⟩ ∧ w.cell? ⟨b, off + k * 2, none⟩ = some (.int .i64 n) ∧ w.cell? ⟨b, off + k * 2 + 1, none⟩ = some (.string t) := by
  rcases h.2 with ⟨rfl, h0⟩ | ⟨g, cap, cur, rfl, hB, hq, hn', hm, hs, hc⟩
  · exact ⟨none, 0, by rw [h0], fun k hk => by omega⟩
  · have hget : ∀ j, j < l.length * 2 → cur[j]? = (flatW l)[j]? := fun j hj => by
      have h1 : cur.toList.take (l.length * 2) = flatW l := by simpa using hc
      rw [← h1, List.getElem?_take_of_lt hj, Array.getElem?_toList]
    refine ⟨_, _, rfl, fun k hk => ⟨g, 0, (l.getD k noWr).pos, (l.getD k noWr).text, rfl, (Array.getElem?_eq_some_iff.1 hq).1, rfl, ?_, ?_⟩⟩
    · rw [cell_of_row _ _ _ _ _ _ hq, Nat.zero_add, hget _ (by omega), (flatW_get l k hk).1]
    · rw [cell_of_row _ _ _ _ _ _ hq, Nat.zero_add, hget _ (by omega), (flatW_get l k hk).2]
set_option maxHeartbeats 2000000 in
theorem eqWriteS_own (base base' : Nat) (v v' : Value) (l : List Wr) (w : World) (hl : l.length ≤ 1048576) (ha : OwnW base v l w) (hb : OwnW base' v' l w) :
    Calls Try.prog 72 #[v, v'] w fun e w' => e = .returned (.bool true) ∧ Below w.heap.size w w' := by
  obtain ⟨ao, cap, rfl, hka⟩ := ownW_at ha
  obtain ⟨bo, cp, rfl, hkb⟩ := ownW_at hb
  have HA := hide hka
  have HB := hide hkb
  clear ha hb hka hkb
  go_enter Try.func72, Try.ntmps72
  go_wp2
  go_loopw [5] (fun i wr => ∃ k : Nat, k ≤ l.length ∧ i = .int .i64 k ∧ Below w.heap.size w wr) (fun i _ => l.length - (intOf i).toNat)
  case atStart => exact ⟨0, Nat.zero_le _, rfl, Below.refl _ _⟩
  case round =>
    obtain ⟨k, hk, rfl, hbw⟩ := hrel
    by_cases hlt : k < l.length
    · obtain ⟨b, off, nn, tt, rfl, hbB, hv, d00, d01⟩ := HA.out k hlt
      obtain ⟨b', off', nn', tt', rfl, hbB', hv', e00, e01⟩ := HB.out k hlt
      rw [hv] at hv'
      simp only [Wr.mk.injEq] at hv'
      obtain ⟨rfl, rfl⟩ := hv'
      have hz := hbw.size
      have d0 := (hbw.cell (p := ⟨b, off + k * 2, none⟩) hbB).trans d00
      have d1 := (hbw.cell (p := ⟨b, off + k * 2 + 1, none⟩) hbB).trans d01
      have e0 := (hbw.cell (p := ⟨b', off' + k * 2, none⟩) hbB').trans e00
      have e1 := (hbw.cell (p := ⟨b', off' + k * 2 + 1, none⟩) hbB').trans e01
      have hi0 : (0 : Int) ≤ (k : Int) := by omega
      have hi1 : (k : Int) < (l.length : Int) := by omega
      have ht := (Int.toNat_natCast k)
      have hq1 : b < wr.heap.size := by omega
      have hq2 : b' < wr.heap.size := by omega
      clear hv d00 e00 d01 e01 hbB hbB'
      go_wp2
      go_region_held3 (fun W => W.cell? ⟨b, off + k * 2, none⟩ = some (.int .i64 nn) ∧ W.cell? ⟨b, off + k * 2 + 1, none⟩ = some (.string tt) ∧ W.cell? ⟨b', off' + k * 2, none⟩ = some (.int .i64 nn) ∧ W.cell? ⟨b', off' + k * 2 + 1, none⟩ = some (.string tt)) (go_keep) (first | (go_at_call 109; refine (eqWrite_same nn tt _).mono ?_; rintro e w1 ⟨rfl, hb1⟩; have hb1' : Below wr.heap.size wr w1 := (Below.refl _ _).drew.trans hb1; obtain ⟨hc1, hf1⟩ := bcell hb1'))
      all_goals
        have hb2 := hbw.trans (hb1'.mono hz)
        clear d0 d1 e0 e1 hb1 hb1' hbw hc1 hf1
        go_wp2
        go_roundw
        case rel => exact ⟨k + 1, by omega, by go_num, hb2⟩
        case measure => simp [intOf]; omega
    · go_wp2
      go_ret
      exact ⟨rfl, hbw⟩
set_option maxHeartbeats 2000000 in
theorem eqDisk_own (b1 b2 : Nat) (s c s' c' : Value) (d : Dk) (w : World) (hf : dkFits d) (h : OwnD b1 s c d w) (h' : OwnD b2 s' c' d w) :
    Calls Try.prog 25 #[.agg #[s, c], .agg #[s', c']] w fun e w' => e = .returned (.bool true) ∧ Below w.heap.size w w' := by
  have C1 := hide (fun (W : World) (hb : Below w.heap.size w W) => eqStringS_own _ _ _ _ d.secs W hf.1 (owns_below h.secs hb) (owns_below h'.secs hb))
  have C2 := hide (fun (W : World) (hb : Below w.heap.size w W) => eqWriteS_own _ _ _ _ d.cache W hf.2 (owns_below h.cache hb) (owns_below h'.cache hb))
  obtain ⟨so, p, co, q, rfl, rfl⟩ := h.shape
  obtain ⟨so', p', co', q', rfl, rfl⟩ := h'.shape
  obtain ⟨ss, cs⟩ := d
  simp only at *
  have HA := hide (two_allocs w (.cells #[.slice so ss.length p, .slice co cs.length q] 26) (.cells #[.slice so' ss.length p', .slice co' cs.length q'] 26))
  have B0 := hide (((Below.refl w.heap.size w).alloc (Nat.le_refl _) (.cells #[.slice so ss.length p, .slice co cs.length q] 26)).alloc (by simp) (.cells #[.slice so' ss.length p', .slice co' cs.length q'] 26))
  clear h h' hf
  go_enter Try.func25, Try.ntmps25
  go_wp2_with fail
  refine (C1.out _ B0.out).mono ?_
  generalize (w.alloc (.cells #[.slice so ss.length p, .slice co cs.length q] 26)).alloc (.cells #[.slice so' ss.length p', .slice co' cs.length q'] 26) = W0 at *
  rintro e w1 ⟨rfl, b1⟩
  obtain ⟨hx0, hy0, hz0⟩ := HA.out
  have X1 := hide ((b1.block w.heap.size (by omega)).trans hx0)
  have Y1 := hide ((b1.block (w.heap.size + 1) (by omega)).trans hy0)
  have B1 := hide (B0.out.trans (b1.mono B0.out.size))
  obtain ⟨x0, x1, xf⟩ := cells2 X1.out
  obtain ⟨y0, y1, yf⟩ := cells2 Y1.out
  clear b1 HA hx0 hy0 hz0 B0 C1
  go_wp2_with fail
  refine (C2.out _ B1.out).mono ?_
  rintro e w2 ⟨rfl, b2⟩
  have B2 := hide (B1.out.trans (b2.mono B1.out.size))
  clear b2 X1 Y1 B1 C2 x0 x1 xf y0 y1 yf
  go_wp2
  go_ret
  exact ⟨rfl, B2.out⟩
end Go.Proofs.Ytfhfhpnoeghgmaa

/-
  Contracts: a disk is marked, and looked at again.
-/
namespace Go.Proofs.Ytfhfhpnoeghgmaa
open Go.RowKit
set_option maxRecDepth 100000

set_option maxHeartbeats 2000000 in
theorem heldStringS_mk (base : Nat) (v : Value) (n k0 : Nat) (w : World) (hk0 : 0 < k0) (hk1 : k0 + n ≤ 5000000) (h : OwnS base v (mStrs k0 n) w) :
    Calls Try.prog 75 #[v, .int .i64 k0] w fun e w' => e = .returned (.int .i64 ((k0 + n : Nat) : Int)) ∧ Below w.heap.size w w' := by
  obtain ⟨ao, cap, rfl, hka⟩ := ownS_row h
  rw [mStrs_len] at hka ⊢
  have HA : Hid (∀ k, k < n → ∃ b off, ao = some ⟨b, off, none⟩ ∧ b < w.heap.size ∧ w.cell? ⟨b, off + k, none⟩ = some (.string (markS (k0 + k)))) := fun k hk => by
    obtain ⟨b, off, x, e, hb, hx, hc⟩ := hka k hk
    rw [mStrs_get _ _ _ hk] at hx
    subst hx
    exact ⟨b, off, e, hb, hc⟩
  clear h hka
  go_enter Try.func75, Try.ntmps75
  go_wp2
  go_loopw [1, 5] (fun q i wr => ∃ k : Nat, k ≤ n ∧ i = .int .i64 k ∧ q = .int .i64 ((k0 + k : Nat) : Int) ∧ Below w.heap.size w wr) (fun _ i _ => n - (intOf i).toNat)
  case atStart => exact ⟨0, Nat.zero_le _, rfl, rfl, Below.refl _ _⟩
  case round =>
    obtain ⟨k, hk, rfl, rfl, hb⟩ := hrel
    have hz := hb.size
    by_cases hlt : k < n
    · obtain ⟨b, off, rfl, hbB, d00⟩ := HA.out k hlt
      have d0 := (hb.cell (p := ⟨b, off + k, none⟩) hbB).trans d00
      have hi0 : (0 : Int) ≤ (k : Int) := by omega
      have hi1 : (k : Int) < (n : Int) := by omega
      have ht := (Int.toNat_natCast k)
      have hmt := fun W => markText_pos (k0 + k) (by omega) (by omega) W
      generalize markS (k0 + k) = T at *
      have hgr : b < wr.heap.size := by omega
      clear d00
      go_wp2
      go_region_held3 (fun W => W.cell? ⟨b, off + k, none⟩ = some (.string T)) (go_keep) (first | (go_at_call 110; refine (hmt _).mono ?_; rintro e w1 ⟨rfl, hb1⟩; have hb1' : Below wr.heap.size wr w1 := (Below.refl _ _).drew.trans hb1; obtain ⟨hc1, hf1⟩ := bcell hb1'))
      all_goals
        have hb2 := hb.trans (hb1'.mono hz)
        clear d0 hb1 hb1' hb hc1 hf1
        go_wp2
        go_roundw
        case rel => exact ⟨k + 1, by omega, by go_num, by go_num, hb2⟩
        case measure => simp [intOf]; omega
    · obtain rfl : k = n := by omega
      go_wp2
      go_ret
      exact ⟨rfl, hb⟩
end Go.Proofs.Ytfhfhpnoeghgmaa

/-
  Contract: marked writes are looked at again.
-/
namespace Go.Proofs.Ytfhfhpnoeghgmaa
open Go.RowKit
set_option maxRecDepth 100000

set_option maxHeartbeats 4000000 in
theorem heldWriteS_mk (base : Nat) (v : Value) (n k0 : Nat) (w : World) (hk0 : 0 < k0) (hk1 : k0 + 2 * n ≤ 5000000) (h : OwnW base v (mWrs k0 n) w) :
    Calls Try.prog 76 #[v, .int .i64 k0] w fun e w' => e = .returned (.int .i64 ((k0 + 2 * n : Nat) : Int)) ∧ Below w.heap.size w w' := by
  obtain ⟨ao, cap, rfl, hka⟩ := ownW_at h
  rw [mWrs_len] at hka ⊢
  have HA : Hid (∀ k, k < n → ∃ b off, ao = some ⟨b, off, none⟩ ∧ b < w.heap.size ∧ w.cell? ⟨b, off + k * 2, none⟩ = some (.int .i64 ((k0 + 2 * k : Nat) : Int)) ∧ w.cell? ⟨b, off + k * 2 + 1, none⟩ = some (.string (markS (k0 + 2 * k + 1)))) := fun k hk => by
    obtain ⟨b, off, x, t, e, hb, hx, hc, hc2⟩ := hka k hk
    rw [mWrs_get _ _ _ hk] at hx
    unfold mWr at hx
    simp only [Wr.mk.injEq] at hx
    obtain ⟨rfl, rfl⟩ := hx
    exact ⟨b, off, e, hb, hc, hc2⟩
  clear h hka
  go_enter Try.func76, Try.ntmps76
  go_wp2
  go_loopw [1, 5] (fun s i wr => ∃ k q : Nat, k ≤ n ∧ i = .int .i64 k ∧ s = .int .i64 q ∧ Hid (q = k0 + 2 * k) ∧ (0 < q ∧ q ≤ 5000000) ∧ Below w.heap.size w wr) (fun _ i _ => n - (intOf i).toNat)
  case atStart => exact ⟨0, k0, Nat.zero_le _, rfl, rfl, (by show _ = _; omega), ⟨hk0, by omega⟩, Below.refl _ _⟩
  case round =>
    obtain ⟨k, q, hk, rfl, rfl, HQ, ⟨hq0, hq1⟩, hb⟩ := hrel
    have hz := hb.size
    by_cases hlt : k < n
    · obtain ⟨b, off, rfl, hbB, d00, d01⟩ := HA.out k hlt
      rw [← HQ.out] at d00 d01
      have d0 := (hb.cell (p := ⟨b, off + k * 2, none⟩) hbB).trans d00
      have d1 := (hb.cell (p := ⟨b, off + k * 2 + 1, none⟩) hbB).trans d01
      have hi0 : (0 : Int) ≤ (k : Int) := by omega
      have hi1 : (k : Int) < (n : Int) := by omega
      have ht := (Int.toNat_natCast k)
      have hq2 : q + 2 ≤ 5000000 := by have := HQ.out; omega
      have hmt := fun W => markText_pos (q + 1) (by omega) (by omega) W
      have hq3 : ((q + 1 : Nat) : Int) = (q : Int) + 1 := by omega
      rw [hq3] at hmt
      generalize markS (q + 1) = T at *
      have hgr : b < wr.heap.size := by omega
      clear d00 d01 hq3
      go_wp2
      go_region_held3 (fun W => W.cell? ⟨b, off + k * 2 + 1, none⟩ = some (.string T)) (go_keep) (first | (go_at_call 110; refine (hmt _).mono ?_; rintro e w1 ⟨rfl, hb1⟩; have hb1' : Below wr.heap.size wr w1 := (Below.refl _ _).drew.trans hb1; obtain ⟨hc1, hf1⟩ := bcell hb1'))
      all_goals
        have hb2 := hb.trans (hb1'.mono hz)
        clear d0 d1 hb1 hb1' hb hc1 hf1
        go_wp2
        go_roundw
        case rel => exact ⟨k + 1, q + 2, by omega, by go_num, by go_num, (by show _ = _; have := HQ.out; omega), ⟨by omega, hq2⟩, hb2⟩
        case measure => simp [intOf]; omega
    · obtain rfl : k = n := by omega
      have HZ : Hid ((q : Int) = ((k0 + 2 * k : Nat) : Int)) := by show _ = _; rw [HQ.out]
      go_wp2
      go_ret
      exact ⟨by rw [HZ.out]; rfl, hb⟩
end Go.Proofs.Ytfhfhpnoeghgmaa

/-
  Contract: a disk is marked.
-/
namespace Go.Proofs.Ytfhfhpnoeghgmaa
open Go.RowKit
set_option maxRecDepth 100000

def mDk (d : Dk) : Dk := ⟨mStrs 1 d.secs.length, mWrs (1 + d.secs.length) d.cache.length⟩
def cntD (d : Dk) : Nat := 1 + d.secs.length + 2 * d.cache.length
theorem apart_ne {u v : Value} (h : u.ownBlock = none ∨ u.ownBlock ≠ v.ownBlock) : v.ownBlock = none ∨ v.ownBlock ≠ u.ownBlock := by
  rcases h with h | h
  · cases hv : v.ownBlock with
    | none => exact .inl rfl
    | some b => exact .inr (by rw [h]; simp)
  · exact .inr (fun e => h e.symm)
set_option maxHeartbeats 4000000 in
theorem markDisk_own (base : Nat) (s c : Value) (d : Dk) (w : World) (hc : dkFits d) (h : OwnD base s c d w) :
    Calls Try.prog 26 #[.agg #[s, c], .int .i64 1] w fun e w' => e = .returned (.int .i64 ((cntD d : Nat) : Int)) ∧ OwnD base s c (mDk d) w' ∧ GL [s, c] w w' := by
  have hc1 := hc.1
  have hc2 := hc.2
  obtain ⟨q1, hq1⟩ : ∃ q, q = 1 + d.secs.length := ⟨_, rfl⟩
  have HM : Hid (mDk d = ⟨mStrs 1 d.secs.length, mWrs q1 d.cache.length⟩ ∧ cntD d = q1 + 2 * d.cache.length) := by rw [hq1]; exact ⟨rfl, rfl⟩
  have HC1 := hide (fun (W : World) (hW : OwnS base s d.secs W) => show Calls Try.prog 73 #[s, .int .i64 1] W fun e w' => e = .returned (.int .i64 (q1 : Int)) ∧ OwnS base s (mStrs 1 d.secs.length) w' ∧ W.grownBy w' s.ownBlock by rw [hq1]; exact markStringS_mk base s d.secs 1 W (by omega) (by omega) hW)
  have HC2 := hide (fun (W : World) (hW : OwnW base c d.cache W) => markWriteS_mk base c d.cache q1 W (by omega) (by omega) hW)
  obtain ⟨so, p, co, q, rfl, rfl⟩ := h.shape
  obtain ⟨ss, cs⟩ := d
  simp only at *
  have HAP := hide h.apart
  have HL := hide h.lt
  have BA := (Below.refl w.heap.size w).alloc (Nat.le_refl _) (.cells #[.slice so ss.length p, .slice co cs.length q] 26)
  have HS0 := hide (h.below BA)
  have HX0 := hide (heap_alloc_new w (.cells #[.slice so ss.length p, .slice co cs.length q] 26))
  have B0 := hide (GL.alloc [.slice so ss.length p, .slice co cs.length q] w (.cells #[.slice so ss.length p, .slice co cs.length q] 26))
  have HZ : Hid ((w.alloc (.cells #[.slice so ss.length p, .slice co cs.length q] 26)).heap.size = w.heap.size + 1) := by show _ = _; simp
  clear h hc BA hq1 hc1 hc2
  go_enter Try.func26, Try.ntmps26
  go_wp2_with fail
  refine (HC1.out _ HS0.out.secs).mono ?_
  generalize w.alloc (.cells #[.slice so ss.length p, .slice co cs.length q] 26) = W0 at *
  rintro e w1 ⟨rfl, o1, g1⟩
  have HX1 := hide ((g1.block w.heap.size (by rw [HZ.out]; omega) (fun e => by have := (HL.out.1 _ e.symm).2; omega)).trans HX0.out)
  have K1 := hide (World.ownsRow.kept HS0.out.cache g1 (apart_ne HAP.out))
  have O1 := hide o1
  have B1 := hide (B0.out.trans (GL.of g1 (by simp)))
  clear o1 g1 HX0 B0 HS0 HC1 HZ
  obtain ⟨x0, x1, xf⟩ := cells2 HX1.out
  go_wp2_with fail
  refine (HC2.out _ K1.out).mono ?_
  rintro e w2 ⟨rfl, o2, g2⟩
  have O2 := hide (World.ownsRow.kept O1.out g2 HAP.out)
  have K2 := hide o2
  have B2 := hide (B1.out.trans (GL.of g2 (by simp)))
  have HO : Hid (OwnD base (.slice so ss.length p) (.slice co cs.length q) (mDk ⟨ss, cs⟩) w2) := by
    show OwnD _ _ _ _ _
    rw [HM.out.1]
    exact ⟨O2.out, K2.out, HAP.out⟩
  clear o2 g2 HX1 B1 K1 O1 HC2 x0 x1 xf
  have HCN := hide HM.out.2
  go_wp2
  go_ret
  exact ⟨by rw [HCN.out]; rfl, HO.out, B2.out⟩
end Go.Proofs.Ytfhfhpnoeghgmaa

/-
  Contract: a marked disk is looked at again.
-/
namespace Go.Proofs.Ytfhfhpnoeghgmaa
open Go.RowKit
set_option maxRecDepth 100000

set_option maxHeartbeats 4000000 in
theorem heldDisk_own (base : Nat) (s c : Value) (d : Dk) (w : World) (hc : dkFits d) (h : OwnD base s c (mDk d) w) :
    Calls Try.prog 27 #[.agg #[s, c], .int .i64 1] w fun e w' => e = .returned (.int .i64 ((cntD d : Nat) : Int)) ∧ Below w.heap.size w w' := by
  have hc1 := hc.1
  have hc2 := hc.2
  obtain ⟨q1, hq1⟩ : ∃ q, q = 1 + d.secs.length := ⟨_, rfl⟩
  have HM : Hid (cntD d = q1 + 2 * d.cache.length) := by rw [hq1]; rfl
  have h1 : OwnS base s (mStrs 1 d.secs.length) w := by have := h.secs; unfold mDk at this; exact this
  have h2 : OwnW base c (mWrs q1 d.cache.length) w := by have := h.cache; unfold mDk at this; rw [hq1]; exact this
  have HC1 := hide (fun (W : World) (hW : Below w.heap.size w W) => show Calls Try.prog 75 #[s, .int .i64 1] W fun e w' => e = .returned (.int .i64 (q1 : Int)) ∧ Below W.heap.size W w' by rw [hq1]; exact heldStringS_mk base s d.secs.length 1 W (by omega) (by omega) (owns_below h1 hW))
  have HC2 := hide (fun (W : World) (hW : Below w.heap.size w W) => heldWriteS_mk base c d.cache.length q1 W (by omega) (by omega) (owns_below h2 hW))
  obtain ⟨so, p, es⟩ := ownS_shape h1
  obtain ⟨co, q, ec⟩ := ownW_shape h2
  rw [mStrs_len] at es
  rw [mWrs_len] at ec
  subst es ec
  obtain ⟨ss, cs⟩ := d
  simp only at *
  have BA := hide ((Below.refl w.heap.size w).alloc (Nat.le_refl _) (.cells #[.slice so ss.length p, .slice co cs.length q] 26))
  have HX0 := hide (heap_alloc_new w (.cells #[.slice so ss.length p, .slice co cs.length q] 26))
  have HZ : Hid ((w.alloc (.cells #[.slice so ss.length p, .slice co cs.length q] 26)).heap.size = w.heap.size + 1) := by show _ = _; simp
  have hn1 : ¬ ((q1 : Int) < 0) := by omega
  have hn2 : ¬ (((q1 + 2 * cs.length : Nat) : Int) < 0) := by omega
  clear h h1 h2 hc hq1 hc1 hc2
  generalize q1 + 2 * cs.length = q2 at *
  go_enter Try.func27, Try.ntmps27
  go_wp2_with fail
  refine (HC1.out _ BA.out).mono ?_
  generalize w.alloc (.cells #[.slice so ss.length p, .slice co cs.length q] 26) = W0 at *
  rintro e w1 ⟨rfl, g1⟩
  have HX1 := hide ((g1.block w.heap.size (by rw [HZ.out]; omega)).trans HX0.out)
  have B1 := hide (BA.out.trans (g1.mono BA.out.size))
  clear g1 HX0 BA HC1 HZ
  obtain ⟨x0, x1, xf⟩ := cells2 HX1.out
  go_wp2_with fail
  refine (HC2.out _ B1.out).mono ?_
  rintro e w2 ⟨rfl, g2⟩
  have B2 := hide (B1.out.trans (g2.mono B1.out.size))
  clear g2 HX1 B1 HC2 x0 x1 xf
  go_wp2
  go_ret
  exact ⟨by rw [HM.out]; rfl, B2.out⟩
end Go.Proofs.Ytfhfhpnoeghgmaa

/-
  Contracts: what a disk's call tells, held against another, marked, looked at again.
-/
namespace Go.Proofs.Ytfhfhpnoeghgmaa
open Go.RowKit
set_option maxRecDepth 100000

theorem GL.ownD {l : List Value} {w w' : World} {b m n : Nat} {s c : Value} {d : Dk} (h : GL l w w') (ho : OwnD b s c d w) (hv : ∀ v ∈ l, ∀ b, v.ownBlock = some b → m ≤ b ∧ b < n) (hs : ∀ b, s.ownBlock = some b → b < m ∨ n ≤ b) (hc : ∀ b, c.ownBlock = some b → b < m ∨ n ≤ b) : OwnD b s c d w' := by
  have key : ∀ u : Value, (∀ b, u.ownBlock = some b → b < m ∨ n ≤ b) → ∀ v ∈ l, u.ownBlock = none ∨ u.ownBlock ≠ v.ownBlock := fun u hu v hl => by
    cases hq : u.ownBlock with
    | none => exact .inl rfl
    | some q =>
      refine .inr (fun e => ?_)
      have h1 := hu q hq
      have h2 := hv v hl q e.symm
      omega
  exact ⟨h.own ho.secs (key s hs), h.own ho.cache (key c hc), ho.apart⟩
theorem GL.blk {l : List Value} {w w' : World} {g m n : Nat} {o : Obj} (h : GL l w w') (hg : w.heap[g]? = some o) (hv : ∀ v ∈ l, ∀ b, v.ownBlock = some b → m ≤ b ∧ b < n) (hb : g < m ∨ n ≤ g) : w'.heap[g]? = some o :=
  (h.block g (Array.getElem?_eq_some_iff.1 hg).1 (fun v hl e => by have := hv v hl g e; omega)).trans hg
theorem GL.bel {l : List Value} {w w' : World} {B m n : Nat} (h : GL l w w') (hv : ∀ v ∈ l, ∀ b, v.ownBlock = some b → m ≤ b ∧ b < n) (hm : B ≤ m) (hB : B ≤ w.heap.size) : Below B w w' :=
  h.below (fun v hl b e => by have := hv v hl b e; omega) hB
theorem OwnD.two {b m n : Nat} {s c : Value} {d : Dk} {w : World} (h : OwnD b s c d w) (hm : m ≤ b) (hn : w.heap.size ≤ n) : ∀ v ∈ [s, c], ∀ b, v.ownBlock = some b → m ≤ b ∧ b < n := fun v hv k hk => by
  simp only [List.mem_cons, List.not_mem_nil, or_false] at hv
  rcases hv with rfl | rfl
  · have := h.lt.1 k hk; omega
  · have := h.lt.2 k hk; omega
theorem blk_lt {w : World} {g : Nat} {o : Obj} (h : w.heap[g]? = some o) : g < w.heap.size := (Array.getElem?_eq_some_iff.1 h).1
set_option maxHeartbeats 2000000 in
theorem eqDiskOut_own (b1 b2 : Nat) (s c s' c' : Value) (t : ByteArray) (k : Int) (d : Dk) (w : World) (hf : dkFits d) (h : OwnD b1 s c d w) (h' : OwnD b2 s' c' d w) :
    Calls Try.prog 32 #[.agg #[s, c, .string t, .int .i64 k], .agg #[s', c', .string t, .int .i64 k]] w fun e w' => e = .returned (.bool true) ∧ Below w.heap.size w w' := by
  have C1 := hide (fun (W : World) (hb : Below w.heap.size w W) => eqDisk_own _ _ _ _ _ _ d W hf (h.below hb) (h'.below hb))
  obtain ⟨so, p, co, q, rfl, rfl⟩ := h.shape
  obtain ⟨so', p', co', q', rfl, rfl⟩ := h'.shape
  obtain ⟨ss, cs⟩ := d
  simp only at *
  have HA := hide (two_allocs w (.cells #[.slice so ss.length p, .slice co cs.length q, .string t, .int .i64 k] 37) (.cells #[.slice so' ss.length p', .slice co' cs.length q', .string t, .int .i64 k] 37))
  have B0 := hide (((Below.refl w.heap.size w).alloc (Nat.le_refl _) (.cells #[.slice so ss.length p, .slice co cs.length q, .string t, .int .i64 k] 37)).alloc (by simp) (.cells #[.slice so' ss.length p', .slice co' cs.length q', .string t, .int .i64 k] 37))
  clear h h' hf
  go_enter Try.func32, Try.ntmps32
  go_wp2_with fail
  refine (C1.out _ B0.out).mono ?_
  generalize (w.alloc (.cells #[.slice so ss.length p, .slice co cs.length q, .string t, .int .i64 k] 37)).alloc (.cells #[.slice so' ss.length p', .slice co' cs.length q', .string t, .int .i64 k] 37) = W0 at *
  rintro e w1 ⟨rfl, b1⟩
  obtain ⟨hx0, hy0, hz0⟩ := HA.out
  obtain ⟨x0, x1, x2, x3, xf⟩ := cells4 ((b1.block w.heap.size (by omega)).trans hx0)
  obtain ⟨y0, y1, y2, y3, yf⟩ := cells4 ((b1.block (w.heap.size + 1) (by omega)).trans hy0)
  have B1 := hide (B0.out.trans (b1.mono B0.out.size))
  clear b1 HA hx0 hy0 hz0 B0 C1
  go_wp2
  go_ret
  exact ⟨rfl, B1.out⟩
set_option maxHeartbeats 2000000 in
theorem markDiskOut_own (base : Nat) (s c : Value) (t : ByteArray) (k : Int) (d : Dk) (w : World) (hf : dkFits d) (h : OwnD base s c d w) :
    Calls Try.prog 33 #[.agg #[s, c, .string t, .int .i64 k], .int .i64 1] w fun e w' => e = .returned (.int .i64 ((cntD d : Nat) : Int)) ∧ OwnD base s c (mDk d) w' ∧ GL [s, c] w w' := by
  have BA := (Below.refl w.heap.size w).alloc (Nat.le_refl _) (.cells #[s, c, .string t, .int .i64 k] 37)
  have HC := hide (markDisk_own base s c d _ hf (h.below BA))
  have B0 := hide (GL.alloc [s, c] w (.cells #[s, c, .string t, .int .i64 k] 37))
  obtain ⟨so, p, co, q, rfl, rfl⟩ := h.shape
  generalize mDk d = ms at *
  generalize cntD d = n at *
  obtain ⟨ss, cs⟩ := d
  simp only at *
  clear h hf BA
  go_enter Try.func33, Try.ntmps33
  go_wp2_with fail
  refine HC.out.mono ?_
  generalize w.alloc (.cells #[.slice so ss.length p, .slice co cs.length q, .string t, .int .i64 k] 37) = W0 at *
  rintro e w1 ⟨rfl, o1, g1⟩
  have O1 := hide o1
  have B1 := hide (B0.out.trans g1)
  clear o1 g1 HC B0
  go_wp2
  go_ret
  exact ⟨rfl, O1.out, B1.out⟩
set_option maxHeartbeats 2000000 in
theorem heldDiskOut_own (base : Nat) (s c : Value) (t : ByteArray) (k : Int) (d : Dk) (w : World) (hf : dkFits d) (h : OwnD base s c (mDk d) w) :
    Calls Try.prog 34 #[.agg #[s, c, .string t, .int .i64 k], .int .i64 1] w fun e w' => e = .returned (.int .i64 ((cntD d : Nat) : Int)) ∧ Below w.heap.size w w' := by
  have BA := (Below.refl w.heap.size w).alloc (Nat.le_refl _) (.cells #[s, c, .string t, .int .i64 k] 37)
  have HC := hide (heldDisk_own base s c d _ hf (h.below BA))
  have B0 := hide BA
  have h1 : OwnS base s (mStrs 1 d.secs.length) w := by have := h.secs; unfold mDk at this; exact this
  have h2 : OwnW base c (mWrs (1 + d.secs.length) d.cache.length) w := by have := h.cache; unfold mDk at this; exact this
  obtain ⟨so, p, es⟩ := ownS_shape h1
  obtain ⟨co, q, ec⟩ := ownW_shape h2
  rw [mStrs_len] at es
  rw [mWrs_len] at ec
  subst es ec
  generalize cntD d = n at *
  obtain ⟨ss, cs⟩ := d
  simp only at *
  clear h hf BA h1 h2
  have hn : ¬ ((n : Int) < 0) := by omega
  go_enter Try.func34, Try.ntmps34
  go_wp2_with fail
  refine HC.out.mono ?_
  generalize hW : w.alloc (.cells #[.slice so ss.length p, .slice co cs.length q, .string t, .int .i64 k] 37) = W0 at *
  rintro e w1 ⟨rfl, g1⟩
  have B1 := hide (B0.out.trans (g1.mono B0.out.size))
  clear g1 HC B0 hW
  go_wp2
  go_ret
  exact ⟨rfl, B1.out⟩
end Go.Proofs.Ytfhfhpnoeghgmaa

/-
  Contracts: a text's first 64 bytes as a sector; a sector as a text.
-/
namespace Go.Proofs.Ytfhfhpnoeghgmaa
open Go.RowKit
set_option maxRecDepth 100000

/-- A text's first 64 bytes, bytes 0 filling them up. -/
def pad (l : List UInt8) : List UInt8 := l.take 64 ++ List.replicate (64 - l.length) 0
/-- 64 bytes 0. -/
def zSec : List UInt8 := List.replicate 64 0
theorem zSec_len : zSec.length = 64 := by simp [zSec]
theorem pad_len (l : List UInt8) : (pad l).length = 64 := by simp [pad]; omega
theorem pad_full {l : List UInt8} (h : l.length = 64) : pad l = l := by unfold pad; rw [List.take_of_length_le (by omega), h]; simp
def secV (l : List UInt8) : Array Value := (Lib.byteCells l).toArray
theorem secV_size (l : List UInt8) : (secV l).size = l.length := by simp [secV, Lib.byteCells]
theorem secV_one (l : List UInt8) : (secV l).all (·.oneCell') = true := by
  rw [Array.all_eq_true_iff_forall_mem]
  intro v hv
  exact Lib.byteCells_one l v (by simpa [secV] using hv)
theorem byteCells_nums (l : List UInt8) : Lib.byteCells l = (numsU l).map (Value.int .u8) := by simp [Lib.byteCells, numsU, Function.comp_def]
theorem cells_zero (n : Nat) : Lib.byteCells (List.replicate n 0) = List.replicate n (Value.int .u8 0) := by simp [Lib.byteCells]
theorem cells_app (a b : List UInt8) : Lib.byteCells (a ++ b) = Lib.byteCells a ++ Lib.byteCells b := by simp [Lib.byteCells]
/-- 'copy(dst, s)' over 64 bytes 0. -/
theorem run_copy_pad {P : Program} (w : World) (dT sT elem : TypeId) (g : Nat) (s : ByteArray) (t : TypeId)
    (hu : P.underlying dT = some (.slice elem)) (hs : (P.info? elem).map (·.size) = some 1) (hg : w.heap[g]? = some (.cells (secV zSec) t (0, 0))) :
    ∃ n : Nat, ∀ ty, (Builtin.copy_ #[dT, sT] ty #[.slice (some ⟨g, 0, none⟩) 64 64, .string s]).run P w = .ok (goInt n) (w.setRow g (secV (pad s.data.toList))) := by
  have hds : s.data.toList.length = s.size := rfl
  by_cases h : s.size ≤ 64
  · refine ⟨s.size, fun ty => ?_⟩
    rw [Lib.run_copy_row_string w dT sT ty elem g 0 64 64 s _ t hu hs hg h (by rw [secV_size, zSec_len]; simpa using h)]
    congr 2
    have e1 : (secV zSec).toList = List.replicate 64 (Value.int .u8 0) := by unfold secV zSec; rw [cells_zero]
    rw [e1]
    unfold secV pad
    rw [cells_app, cells_zero, List.take_of_length_le (show s.data.toList.length ≤ 64 by rw [hds]; exact h), hds, List.take_zero, List.nil_append, Nat.zero_add, List.drop_replicate]
  · refine ⟨64, fun ty => ?_⟩
    have hst := run_storeCells_at P g 0 t (Lib.byteCells (s.data.toList.take 64)) 0 (secV zSec) w hg (by simp [Lib.byteCells, secV, zSec]; omega) (Lib.byteCells_one _)
    have hmin : Nat.min s.size 64 = 64 := Nat.min_eq_right (by omega)
    have hlen : (Lib.byteCells (s.data.toList.take 64)).length = 64 := by simp [Lib.byteCells]; omega
    rw [hlen] at hst
    simp only [Nat.add_zero, List.take_zero, List.nil_append, Nat.zero_add] at hst
    have hd : List.drop 64 (secV zSec).toList = [] := List.drop_eq_nil_of_le (by simp [secV, Lib.byteCells, zSec])
    rw [hd, List.append_nil] at hst
    have hp : secV (pad s.data.toList) = (Lib.byteCells (s.data.toList.take 64)).toArray := by
      unfold secV pad
      rw [show 64 - s.data.toList.length = 0 by omega]; simp
    cases hq : P.info? elem with
    | none => simp [hq] at hs
    | some i =>
      simp [Builtin.copy_, run_underlying hu, Builtin.lenOf, Builtin.firstCells, sizeOf, typeInfo, hq, hmin]
      have hst' : Sem.run P (storeCells ⟨g, 0, none⟩ (List.map (fun b : UInt8 => Value.int IntKind.u8 (b.toNat : Int)) (List.take 64 s.data.toList))) w = _ := hst
      rw [← List.map_take, hst', hp]
      simp [Result.andThen]
theorem Try.infoSec : (Try.prog.info? 92).map (fun i => (i.zero, i.size)) = some (some (.agg (secV zSec)), 64) := by kernel_rfl
set_option maxHeartbeats 1000000 in
theorem sectorText_any (l : List UInt8) (hl : l.length = 64) (w : World) :
    Calls Try.prog 70 #[.agg (secV l)] w fun e w' => e = .returned (.string (mkS l)) ∧ Below w.heap.size w w' := by
  have hrun : (convert 22 9 (.slice (some ⟨w.heap.size, 0, none⟩) 64 64)).run Try.prog (w.alloc (.cells (secV l) 92)) = .ok (.string (mkS l)) (w.alloc (.cells (secV l) 92)) := by
    rw [← strOfNums_bytes]
    refine run_convert_bytes_arg _ 22 5 Try.underlying22 Try.underlying5 w.heap.size 0 64 64 (l.map fun b => (b.toNat : Int)) (by simpa using hl) (fun i hi => ?_) 9 Try.underlying9
    rw [Nat.zero_add, cell_of_row _ _ _ _ _ _ (heap_alloc_new w _)]
    unfold secV Lib.byteCells
    rw [List.getElem?_toArray, List.getElem?_map, List.getElem?_eq_getElem (by omega)]
    simp [List.getElem?_eq_getElem (show i < l.length by omega)]
  have B0 := hide ((Below.refl w.heap.size w).alloc (Nat.le_refl _) (.cells (secV l) 92))
  go_enter Try.func70, Try.ntmps70
  go_wp2
  go_ret
  exact ⟨rfl, B0.out⟩
set_option maxHeartbeats 1000000 in
theorem sectorOf_any (s : ByteArray) (w : World) :
    Calls Try.prog 114 #[.string s] w fun e w' => e = .returned (.agg (secV (pad s.data.toList))) ∧ Below w.heap.size w w' := by
  have hz := zero_of_info Try.infoSec
  have hzz := hz.1
  have HS64 := hide hz.2
  have hs : (Try.prog.info? 5).map (·.size) = some 1 := by kernel_rfl
  have HA := two_allocs w (.cells (secV zSec) 92) (.cells (secV zSec) 92)
  have B0 := hide (((Below.refl w.heap.size w).alloc (Nat.le_refl _) (.cells (secV zSec) 92)).alloc (by simp) (.cells (secV zSec) 92))
  obtain ⟨n, w1, hcp, hg1, hr1, hb1⟩ : ∃ (n : Nat) (w1 : World), (∀ ty, (Builtin.copy_ #[22, 9] ty #[.slice (some ⟨w.heap.size + 1, 0, none⟩) 64 64, .string s]).run Try.prog ((w.alloc (.cells (secV zSec) 92)).alloc (.cells (secV zSec) 92)) = .ok (goInt n) w1) ∧ w1.heap[w.heap.size + 1]? = some (.cells (secV (pad s.data.toList)) 92 (0, 0)) ∧ w1.heap[w.heap.size]? = some (.cells (secV zSec) 92 (0, 0)) ∧ Below w.heap.size w w1 := by
    obtain ⟨n, h⟩ := run_copy_pad (P := Try.prog) ((w.alloc (.cells (secV zSec) 92)).alloc (.cells (secV zSec) 92)) 22 9 5 (w.heap.size + 1) s _ Try.underlying22 hs HA.2.1
    exact ⟨n, _, h, setRow_heap _ _ _ _ _ _ HA.2.1, (setRow_other _ _ _ _ (by omega)).trans HA.1, below_setRow B0.out (Nat.le_succ _) _⟩
  have HG1 := hide hg1
  have HR1 := hide hr1
  have B1 := hide hb1
  clear hz HA B0 hg1 hr1 hb1 hs
  go_enter Try.func114, Try.ntmps114
  go_wp2_with (first | (refine wpList_load_row rfl 92 _ rfl (w.heap.size + 1) rfl 92 _ (0, 0) _ HG1.out Try.underlying92 rfl (by rw [secV_size, pad_len]; exact HS64.out) ?_) | (refine wpList_store_row rfl 92 _ _ rfl w.heap.size _ rfl rfl 92 _ HR1.out (by rw [secV_size, pad_len]; exact HS64.out) (by rw [secV_size, secV_size, zSec_len, pad_len]) (secV_one _) ?_))
  refine bodyPost_ret (v := .agg (secV (pad s.data.toList))) (results_cell_row (p := 2) rfl _ _ w.heap.size 92 _ (0, 0) _ rfl (setRow_heap _ _ _ _ _ _ HR1.out) Try.underlying92 rfl (by rw [secV_size, pad_len]; exact HS64.out)) rfl ⟨rfl, below_setRow B1.out (Nat.le_refl _) _⟩
end Go.Proofs.Ytfhfhpnoeghgmaa

/-
  Is a disk right? Plain facts.
-/
namespace Go.Proofs.Ytfhfhpnoeghgmaa
open Go.RowKit
set_option maxRecDepth 100000

def secOk (d : Dk) (i : Nat) : Bool := decide ((d.secs.getD i ByteArray.empty).size = 64)
def wrOk (d : Dk) (i : Nat) : Bool := decide (0 ≤ (d.cache.getD i noWr).pos) && decide ((d.cache.getD i noWr).pos < (d.secs.length : Int)) && decide ((d.cache.getD i noWr).text.size = 64)
def dkRight (d : Dk) : Bool := decide (d.secs.length ≤ 700) && decide (d.cache.length ≤ 400) && upto (secOk d) d.secs.length && upto (wrOk d) d.cache.length
theorem dkRight_long {d : Dk} (h : 700 < d.secs.length ∨ 400 < d.cache.length) : dkRight d = false := by
  unfold dkRight
  rcases h with h | h
  · rw [show decide (d.secs.length ≤ 700) = false by simpa using h]; simp
  · rw [show decide (d.cache.length ≤ 400) = false by simpa using h]; simp
theorem dkRight_sec {d : Dk} {k : Nat} (hk : k < d.secs.length) (h : secOk d k = false) : dkRight d = false := by
  unfold dkRight; rw [upto_false hk h]; simp
theorem dkRight_wr {d : Dk} {k : Nat} (hk : k < d.cache.length) (h : wrOk d k = false) : dkRight d = false := by
  unfold dkRight; rw [upto_false hk h]; simp
theorem dkRight_yes {d : Dk} (h1 : d.secs.length ≤ 700) (h2 : d.cache.length ≤ 400) (h3 : upto (secOk d) d.secs.length = true) (h4 : upto (wrOk d) d.cache.length = true) : dkRight d = true := by
  unfold dkRight; rw [h3, h4]; simp [h1, h2]
theorem secOk_of {d : Dk} {i : Nat} {x : ByteArray} (hv : d.secs.getD i ByteArray.empty = x) : secOk d i = decide (x.size = 64) := by unfold secOk; rw [hv]
theorem wrOk_of {d : Dk} {i : Nat} {n : Int} {t : ByteArray} (hv : d.cache.getD i noWr = ⟨n, t⟩) : wrOk d i = (decide (0 ≤ n) && decide (n < (d.secs.length : Int)) && decide (t.size = 64)) := by unfold wrOk; rw [hv]
theorem upto_next {p : Nat → Bool} {k : Nat} (h : upto p k = true) (h' : p k = true) : upto p (k + 1) = true := by rw [upto_succ, h, h']; rfl

end Go.Proofs.Ytfhfhpnoeghgmaa
