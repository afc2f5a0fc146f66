/-
  Contracts and plain laws, part 3 of 9: MarkV, InfoV, OwnV, SCopy, OwnNum, RdC2, SCopy2, SCopy3, SOwn, SOwn2, RdRow
-/
import Derived.Deep.RegionHeld3
import Derived.Test.YtpmaklbbkmghbaaRows
import Derived.WalkKit
import Derived.Maps.AppendAt
import Derived.OwnWalk
import Derived.WalkLawsBesides
import Derived.Laws.ResultCell
import Derived.Deep.AppendLies
import Derived.Deep.RegionLaw
import Derived.Test.YtpmaklbbkmghbaaPb

/-
  Contracts: marks are written into values and read again.
-/
namespace Go.Proofs.Ytpmaklbbkmghbaa
open Go.RowKit

def markV (i : Nat) : Val := ⟨((1 + 3 * i : Nat) : Int), ((2 + 3 * i : Nat) : Int), markS (3 + 3 * i)⟩
def marks (n : Nat) : List Val := (List.range n).map markV
theorem marks_len (n : Nat) : (marks n).length = n := by simp [marks]
theorem marks_succ (n : Nat) : marks (n + 1) = marks n ++ [markV n] := by simp [marks, List.range_succ]
theorem marks_get (n k : Nat) (h : k < (marks n).length) : (marks n)[k] = markV k := by simp [marks]
/-- A slice of n values in a block of their own, of which the first k are marked. -/
def MarkAt (g n k : Nat) (w : World) : Prop := ∃ cur : List Value, w.heap[g]? = some (.cells cur.toArray 103 (0, 0)) ∧ n * 3 ≤ cur.length ∧ cur.take (k * 3) = flatV (marks k) ∧ (∀ i, i < n → ∃ a b t, cur[i * 3]? = some (.int .i64 a) ∧ cur[i * 3 + 1]? = some (.int .i64 b) ∧ cur[i * 3 + 2]? = some (.string t))
theorem mark_step {n k : Nat} {cur : List Value} (hlt : k < n) (hl : n * 3 ≤ cur.length) (ht : cur.take (k * 3) = flatV (marks k)) (hs : ∀ i, i < n → ∃ a b t, cur[i * 3]? = some (.int .i64 a) ∧ cur[i * 3 + 1]? = some (.int .i64 b) ∧ cur[i * 3 + 2]? = some (.string t)) (a b : Int) (t : ByteArray) (hv : markV k = ⟨a, b, t⟩) :
    n * 3 ≤ (((cur.set (k * 3) (.int .i64 a)).set (k * 3 + 1) (.int .i64 b)).set (k * 3 + 2) (.string t)).length ∧ (((cur.set (k * 3) (.int .i64 a)).set (k * 3 + 1) (.int .i64 b)).set (k * 3 + 2) (.string t)).take ((k + 1) * 3) = flatV (marks (k + 1)) ∧ (∀ i, i < n → ∃ a' b' t', (((cur.set (k * 3) (.int .i64 a)).set (k * 3 + 1) (.int .i64 b)).set (k * 3 + 2) (.string t))[i * 3]? = some (.int .i64 a') ∧ (((cur.set (k * 3) (.int .i64 a)).set (k * 3 + 1) (.int .i64 b)).set (k * 3 + 2) (.string t))[i * 3 + 1]? = some (.int .i64 b') ∧ (((cur.set (k * 3) (.int .i64 a)).set (k * 3 + 1) (.int .i64 b)).set (k * 3 + 2) (.string t))[i * 3 + 2]? = some (.string t')) := by
  obtain ⟨h1, h2⟩ := set3_take cur (k * 3) (.int .i64 a) (.int .i64 b) (.string t) (by omega)
  refine ⟨by rw [h2]; exact hl, ?_, fun i hi => ?_⟩
  · rw [show (k + 1) * 3 = k * 3 + 3 by omega, h1, ht, marks_succ, flatV_append, hv]; rfl
  · by_cases hik : i = k
    · subst hik
      refine ⟨a, b, t, ?_, ?_, ?_⟩
      · rw [List.getElem?_set_ne (by omega), List.getElem?_set_ne (by omega), List.getElem?_set_self (by omega)]
      · rw [List.getElem?_set_ne (by omega), List.getElem?_set_self (by simp; omega)]
      · rw [List.getElem?_set_self (by simp; omega)]
    · obtain ⟨a', b', t', c0, c1, c2⟩ := hs i hi
      refine ⟨a', b', t', ?_, ?_, ?_⟩
      · rw [List.getElem?_set_ne (by omega), List.getElem?_set_ne (by omega), List.getElem?_set_ne (by omega)]; exact c0
      · rw [List.getElem?_set_ne (by omega), List.getElem?_set_ne (by omega), List.getElem?_set_ne (by omega)]; exact c1
      · rw [List.getElem?_set_ne (by omega), List.getElem?_set_ne (by omega), List.getElem?_set_ne (by omega)]; exact c2
set_option maxRecDepth 100000 in
set_option maxHeartbeats 4000000 in
theorem markValueS_at (g n cap : Nat) (w : World) (hn : n ≤ 1048576) (hw : MarkAt g n 0 w) :
    Calls Try.prog 30 #[.slice (some ⟨g, 0, none⟩) n cap, .int .i64 1] w fun e w' => e = .returned (.int .i64 ((1 + 3 * n : Nat) : Int)) ∧ MarkAt g n n w' ∧ w.grownBy w' (some g) := by
  have HW : Hid (MarkAt g n 0 w) := hw
  clear hw
  go_enter Try.func30, Try.ntmps30
  go_wp2
  go_loopw [1, 5] (fun q i wr => ∃ k : Nat, k ≤ n ∧ i = .int .i64 k ∧ q = .int .i64 ((1 + 3 * k : Nat) : Int) ∧ Hid (MarkAt g n k wr) ∧ w.grownBy wr (some g)) (fun _ i _ => n - (intOf i).toNat)
  case atStart => exact ⟨0, Nat.zero_le _, rfl, rfl, HW, grown_refl _ _⟩
  case round =>
    obtain ⟨k, hk, rfl, rfl, HM, hb⟩ := hrel
    by_cases hlt : k < n
    · obtain ⟨cur, hg, hl, htk, hsh⟩ := HM.out
      obtain ⟨xa, xb, xt, h0, h1, h2⟩ := hsh k hlt
      have hgs : g < wr.heap.size := (Array.getElem?_eq_some_iff.1 hg).1
      have d0 : wr.cell? ⟨g, k * 3, none⟩ = some (.int .i64 xa) := by rw [cell_of_row _ _ _ _ _ _ hg, List.getElem?_toArray]; exact h0
      have d1 : wr.cell? ⟨g, k * 3 + 1, none⟩ = some (.int .i64 xb) := by rw [cell_of_row _ _ _ _ _ _ hg, List.getElem?_toArray]; exact h1
      have df : ∀ j, wr.frozen? ⟨g, j, none⟩ = false := fun j => frozen_of_row _ _ _ _ _ hg
      have HG : Hid (wr.heap[g]? = some (.cells cur.toArray 103 (0, 0))) := hg
      have HL : Hid (n * 3 ≤ cur.length ∧ cur.take (k * 3) = flatV (marks k) ∧ (∀ i, i < n → ∃ a b t, cur[i * 3]? = some (.int .i64 a) ∧ cur[i * 3 + 1]? = some (.int .i64 b) ∧ cur[i * 3 + 2]? = some (.string t)) ∧ cur[k * 3 + 2]? = some (.string xt)) := ⟨hl, htk, hsh, h2⟩
      have hi0 : (0 : Int) ≤ (k : Int) := by omega
      have hi1 : (k : Int) < (n : Int) := by omega
      have ht := (Int.toNat_natCast k)
      have hmt := fun W => markText_pos (3 + 3 * k) (by omega) (by omega) W
      have hm3 : ((3 + 3 * k : Nat) : Int) = 1 + 3 * (k : Int) + 1 + 1 := by omega
      rw [hm3] at hmt
      have HV : Hid (markV k = ⟨1 + 3 * (k : Int), 1 + 3 * (k : Int) + 1, markS (3 + 3 * k)⟩) := by
        show _ = _
        unfold markV
        rw [show ((1 + 3 * k : Nat) : Int) = 1 + 3 * (k : Int) by omega, show ((2 + 3 * k : Nat) : Int) = 1 + 3 * (k : Int) + 1 by omega]
      generalize markS (3 + 3 * k) = T at *
      clear hm3
      clear HM hg hl htk hsh h0 h1 h2
      go_wp2_with fail
      refine (hmt _).mono ?_
      rintro e w3 ⟨rfl, hb3⟩
      have hG3 := (hb3.block g (by simp; exact hgs)).trans (setL_heap (m := k * 3 + 1) (x := .int .i64 (1 + 3 * (k : Int) + 1)) (setL_heap (m := k * 3) (x := .int .i64 (1 + 3 * (k : Int))) HG.out))
      have d2 : w3.cell? ⟨g, k * 3 + 2, none⟩ = some (.string xt) := by
        rw [cell_of_row _ _ _ _ _ _ hG3, List.getElem?_toArray, List.getElem?_set_ne (by omega), List.getElem?_set_ne (by omega)]
        exact HL.out.2.2.2
      have df2 : ∀ j, w3.frozen? ⟨g, j, none⟩ = false := fun j => frozen_of_row _ _ _ _ _ hG3
      have HM2 : Hid (MarkAt g n (k + 1) (w3.setCell ⟨g, k * 3 + 2, none⟩ (.string T))) := by
        obtain ⟨l1, l2, l3⟩ := mark_step hlt HL.out.1 HL.out.2.1 HL.out.2.2.1 _ _ _ HV.out
        exact ⟨_, setL_heap hG3, l1, l2, l3⟩
      have hbB : w.grownBy (w3.setCell ⟨g, k * 3 + 2, none⟩ (.string T)) (some g) := grown_setG (grown_below (grown_setG (grown_setG hb)) hb3)
      clear hmt hb3 hG3 d0 d1 df HG HL HV hb
      go_wp2
      go_roundw
      case rel => exact ⟨k + 1, by omega, by go_num, by go_num, HM2, hbB⟩
      case measure => simp [intOf]; omega
    · obtain rfl : k = n := by omega
      go_wp2
      go_ret
      exact ⟨rfl, HM.out, hb⟩
end Go.Proofs.Ytpmaklbbkmghbaa

/-
  What a value's type is laid as.
-/
namespace Go.Proofs.Ytpmaklbbkmghbaa
open Go.RowKit
theorem Try.infoVal : (Try.prog.info? 103).map (fun i => (i.zero, i.size, i.bytes)) = some (some (.agg #[.int .i64 0, .int .i64 0, .string ⟨#[]⟩]), 3, 32) := by kernel_rfl
end Go.Proofs.Ytpmaklbbkmghbaa

/-
  Values that a call has made, in a row of their own. Plain laws.
-/
namespace Go.Proofs.Ytpmaklbbkmghbaa
open Go.RowKit

/-- Values that the call has made, in a row of its own. -/
def OwnV (base : Nat) (v : Value) (vs : List Val) (w : World) : Prop := w.ownsRow base 103 3 v vs.length (flatV vs)
theorem ownV_of {base : Nat} {v : Value} {vs : List Val} {w : World} {n : Nat} {xs : List Value} (h : w.ownsRow base 103 3 v n xs) (hn : n = vs.length) (hx : xs = flatV vs) : OwnV base v vs w := by subst hn hx; exact h
theorem cell_val_new (w : World) (k n : Int) (x : ByteArray) (t : TypeId) : ∀ j u, [Value.int .i64 k, Value.int .i64 n, Value.string x][j]? = some u → (w.alloc (.cells #[.int .i64 k, .int .i64 n, .string x] t)).cell? ((⟨w.heap.size, 0, none⟩ : Addr).add j) = some u := by
  intro j u hj
  have hadd : (⟨w.heap.size, 0, none⟩ : Addr).add j = ⟨w.heap.size, j, none⟩ := by unfold Addr.add; split <;> simp_all
  rw [hadd, cell_of_row _ _ _ _ _ _ (heap_alloc_new w _)]
  simpa using hj
theorem one_val (k n : Int) (x : ByteArray) : ∀ u ∈ [Value.int .i64 k, Value.int .i64 n, Value.string x], u.oneCell' = true := fun u hu => by
  simp at hu
  rcases hu with rfl | rfl | rfl <;> rfl
theorem ownV_shape {base : Nat} {v : Value} {vs : List Val} {w : World} (h : OwnV base v vs w) : ∃ ao cap, v = .slice ao vs.length cap := by
  rcases h.2 with ⟨h1, h2⟩ | ⟨g, cap, cur, h1, _⟩
  · exact ⟨none, 0, by rw [h1, h2]⟩
  · exact ⟨_, _, h1⟩
theorem valRow_own {base : Nat} {v : Value} {vs : List Val} {w : World} (h : OwnV base v vs w) (ho : ∀ x ∈ vs, x.ok) (ht : ∀ x ∈ vs, x.text.size ≤ maxLen) : ∃ ao cap, v = .slice ao vs.length cap ∧ ValRow w w.heap.size ao vs := by
  rcases h.2 with ⟨rfl, h0⟩ | ⟨g, cap, cur, rfl, hB, hq, hn', hm, hs, hc⟩
  · exact ⟨none, 0, by rw [h0], ho, ht, .inl h0⟩
  · exact ⟨_, _, rfl, valRow_of (cur := cur.toList) (by simpa using hq) hc ho ht⟩
end Go.Proofs.Ytpmaklbbkmghbaa

/-
  Contracts: numbers, columns and indexes copied into slices of their own.
-/
namespace Go.Proofs.Ytpmaklbbkmghbaa
open Go.RowKit
set_option maxRecDepth 100000

theorem Try.infoI64 : (Try.prog.info? 2).map (fun i => (i.zero, i.size, i.bytes)) = some (some (.int .i64 0), 1, 8) := by kernel_rfl
theorem Try.infoCol : (Try.prog.info? 67).map (fun i => (i.zero, i.size, i.bytes)) = some (some (.agg #[.string ⟨#[]⟩, .int .i64 0, .bool false]), 3, 32) := by kernel_rfl
theorem Try.infoIdx : (Try.prog.info? 69).map (fun i => (i.zero, i.size, i.bytes)) = some (some (.agg #[.slice none 0 0, .bool false]), 2, 32) := by kernel_rfl

def numsV (l : List Int) : List Value := l.map (Value.int .i64)
theorem intRow_of {w : World} {g : Nat} {cur : List Value} {t : TypeId} {f : Nat × Nat} {l : List Int} (hg : w.heap[g]? = some (.cells cur.toArray t f)) (hc : cur.take l.length = numsV l) (ho : ∀ x ∈ l, inI64 x) :
    IntRow w g w.heap.size (some ⟨g, 0, none⟩) l := by
  have hlt : g < w.heap.size := (Array.getElem?_eq_some_iff.1 hg).1
  refine ⟨ho, .inr ⟨g, 0, rfl, Nat.le_refl _, hlt, fun i hi => ?_⟩⟩
  rw [cell_of_row _ _ _ _ _ _ hg, List.getElem?_toArray, Nat.zero_add]
  have : (cur.take l.length)[i]? = cur[i]? := List.getElem?_take_of_lt hi
  rw [← this, hc, numsV, List.getElem?_map, List.getD_eq_getElem?_getD, List.getElem?_eq_getElem hi]; rfl
theorem nums_step (cur : List Value) (l : List Int) (k : Nat) (hk : k < l.length) (hl : cur.length = l.length) (hc : cur.take k = numsV (l.take k)) (x : Int) (hx : l.getD k 0 = x) :
    (cur.set k (.int .i64 x)).take (k + 1) = numsV (l.take (k + 1)) ∧ (cur.set k (.int .i64 x)).length = l.length := by
  refine ⟨?_, by simpa using hl⟩
  have hk' : k < (cur.set k (.int .i64 x)).length := by simp; omega
  rw [List.take_succ_eq_append_getElem hk', List.take_set_of_le (Nat.le_refl _), hc, List.getElem_set_self, List.take_succ_eq_append_getElem hk]
  rw [List.getD_eq_getElem?_getD, List.getElem?_eq_getElem hk] at hx
  simp only [Option.getD_some] at hx
  unfold numsV
  rw [List.map_append, hx]; rfl
set_option maxHeartbeats 1000000 in
theorem toInt64S_any (A B : Nat) (ao : Option Addr) (cap : Nat) (l : List Int) (w : World) (hB : B ≤ w.heap.size) (hl : l.length ≤ 1048576) (hr : IntRow w A B ao l) :
    Calls Try.prog 27 #[.slice ao l.length cap] w fun e w' => ∃ bo cp, e = .returned (.slice bo l.length cp) ∧ (l.length ≤ cp ∧ cp ≤ maxLen) ∧ IntRow w' w.heap.size w'.heap.size bo l ∧ Below w.heap.size w w' := by
  obtain ⟨i0, hi, hz0, hz1, hz2⟩ := info_parts Try.infoI64
  have HR : Hid (IntRow w A B ao l) := hr
  clear hr
  go_enter Try.func27, Try.ntmps27
  go_wp2_with (at_make; refine wpList_make_full _ rfl _ _ 23 rfl w.heap.size 2 i0 (.int .i64 0) 1 Try.underlying23 hi hz0 hz1 .i64 .i64 _ _ l.length rfl rfl rfl rfl (by rw [hz2]; omega) (by unfold maxLen; omega) (Nat.le_refl _) ?_; intro w1 hown1 hgrow1)
  obtain ⟨cur0, hg0, hl0⟩ : ∃ cur : List Value, w1.heap[w.heap.size]? = some (.cells cur.toArray 2 (0, 0)) ∧ cur.length = l.length := by
    rcases hown1.2 with ⟨h, _⟩ | ⟨g, cap', cur, hv, _, hg, _, _, hs, _⟩
    · simp at h
    · simp at hv
      obtain ⟨rfl, rfl⟩ := hv
      exact ⟨cur.toList, by simpa using hg, by simpa using hs⟩
  have hb1 : Below w.heap.size w w1 := (Below.refl _ _).grown hgrow1 (Nat.le_refl _) (fun j hj => by simp at hj)
  clear hown1 hgrow1
  go_loopw [4] (fun i wr => ∃ (k : Nat) (cur : List Value), k ≤ l.length ∧ i = .int .i64 k ∧ cur.length = l.length ∧ wr.heap[w.heap.size]? = some (.cells cur.toArray 2 (0, 0)) ∧ Hid (cur.take k = numsV (l.take k)) ∧ Below w.heap.size w wr) (fun i _ => l.length - (intOf i).toNat)
  case atStart => exact ⟨0, cur0, Nat.zero_le _, rfl, hl0, hg0, by show _ = _; simp [numsV], hb1⟩
  case round =>
    obtain ⟨k, cur, hk, rfl, hlen, hg, HC, hb⟩ := hrel
    clear hb1 hg0 hl0
    have hlt0 : w.heap.size < wr.heap.size := (Array.getElem?_eq_some_iff.1 hg).1
    by_cases hlt : k < l.length
    · obtain ⟨b, off, x, rfl, hbB, hv, hx, d0⟩ := (HR.out.kept (hb.mono hB)).at k hlt
      obtain ⟨HC2, hlen2⟩ := nums_step cur l k hlt hlen HC.out x hv
      have HC3 : Hid ((cur.set k (.int .i64 x)).take (k + 1) = numsV (l.take (k + 1))) := HC2
      clear hv HC HC2
      obtain ⟨x0, hx0⟩ : ∃ v, cur[k]? = some v := ⟨_, List.getElem?_eq_getElem (by omega)⟩
      have e0 : wr.cell? ⟨w.heap.size, k, none⟩ = some x0 := by rw [cell_of_row _ _ _ _ _ _ hg, List.getElem?_toArray, hx0]
      have ef : ∀ j, wr.frozen? ⟨w.heap.size, j, none⟩ = false := fun j => frozen_of_row _ _ _ _ _ hg
      have HG : Hid (wr.heap[w.heap.size]? = some (.cells cur.toArray 2 (0, 0))) := hg
      clear hx0 hg
      go_wp2
      go_roundw
      case rel => exact ⟨k + 1, _, by omega, by go_num, hlen2, (by rw [heap_setCell_same _ _ _ _ _ _ HG.out]; simp), HC3, hb.setCell (Nat.le_refl _) _⟩
      case measure => simp [intOf]; omega
    · obtain rfl : k = l.length := by omega
      have HF : Hid (IntRow wr w.heap.size wr.heap.size (some ⟨w.heap.size, 0, none⟩) l) := intRow_of hg (by rw [HC.out, List.take_length]) HR.out.1
      go_wp2
      go_ret
      exact ⟨_, _, rfl, ⟨Nat.le_refl _, by unfold maxLen; omega⟩, HF.out, hb⟩

theorem toColumn_any (t : ByteArray) (k : Int) (n : Bool) (w : World) :
    Calls Try.prog 84 #[.agg #[.string t, .int .i64 k, .bool n]] w fun e w' => e = .returned (.agg #[.string t, .int .i64 k, .bool n]) ∧ Below w.heap.size w w' := by
  go_enter Try.func84, Try.ntmps84
  go_wp2
  refine bodyPost_ret (v := .agg #[.string t, .int .i64 k, .bool n]) (by simp [results, Try.results84, go_sem]) rfl ⟨rfl, ?_⟩
  exact (((Below.refl _ _).alloc (Nat.le_refl _) _).alloc (by simp) _).alloc (by simp; omega) _
end Go.Proofs.Ytpmaklbbkmghbaa

/-
  Numbers in a row of their own; numbers marked.
-/
namespace Go.Proofs.Ytpmaklbbkmghbaa
open Go.RowKit
set_option maxRecDepth 100000

/-- Numbers that a call has made, in a row of their own. -/
def OwnN (base : Nat) (v : Value) (l : List Int) (w : World) : Prop := w.ownsRow base 2 1 v l.length (numsV l)
theorem ownN_shape {base : Nat} {v : Value} {l : List Int} {w : World} (h : OwnN base v l w) : ∃ ao cap, v = .slice ao l.length cap := by
  rcases h.2 with ⟨h1, h2⟩ | ⟨g, cap, cur, h1, _⟩
  · exact ⟨none, 0, by rw [h1, h2]⟩
  · exact ⟨_, _, h1⟩
theorem intRow_own {base : Nat} {v : Value} {l : List Int} {w : World} (h : OwnN base v l w) (ho : ∀ x ∈ l, inI64 x) : ∃ ao cap, v = .slice ao l.length cap ∧ IntRow w 0 w.heap.size ao l := by
  rcases h.2 with ⟨rfl, h0⟩ | ⟨g, cap, cur, rfl, hB, hq, hn', hm, hs, hc⟩
  · exact ⟨none, 0, by rw [h0], ho, .inl h0⟩
  · exact ⟨_, _, rfl, (intRow_of (cur := cur.toList) (by simpa using hq) (by simpa using hc) ho).mono (Nat.zero_le _) (Nat.le_refl _)⟩
/-- A row of n numbers in a block of its own, whatever they are. -/
def NumAt (g n : Nat) (w : World) : Prop := ∃ cur : List Value, w.heap[g]? = some (.cells cur.toArray 2 (0, 0)) ∧ n ≤ cur.length
set_option maxHeartbeats 1000000 in
theorem markInt64S_at (g n cap k0 : Nat) (w : World) (hn : n ≤ 1048576) (hk : k0 ≤ 10000000) (hw : NumAt g n w) :
    Calls Try.prog 31 #[.slice (some ⟨g, 0, none⟩) n cap, .int .i64 k0] w fun e w' => e = .returned (.int .i64 ((k0 + n : Nat) : Int)) ∧ w.grownBy w' (some g) := by
  have HW := hide hw
  clear hw
  go_enter Try.func31, Try.ntmps31
  go_wp2
  go_loopw [1, 5] (fun q i wr => ∃ k : Nat, k ≤ n ∧ i = .int .i64 k ∧ q = .int .i64 ((k0 + k : Nat) : Int) ∧ Hid (NumAt g n wr) ∧ w.grownBy wr (some g)) (fun _ i _ => n - (intOf i).toNat)
  case atStart => exact ⟨0, Nat.zero_le _, rfl, rfl, HW, grown_refl _ _⟩
  case round =>
    obtain ⟨k, hk', rfl, rfl, HM, hb⟩ := hrel
    by_cases hlt : k < n
    · obtain ⟨cur, hg, hl⟩ := HM.out
      obtain ⟨x0, hx0⟩ : ∃ v, cur[k]? = some v := ⟨_, List.getElem?_eq_getElem (by omega)⟩
      have e0 : wr.cell? ⟨g, k, none⟩ = some x0 := by rw [cell_of_row _ _ _ _ _ _ hg, List.getElem?_toArray, hx0]
      have ef : ∀ j, wr.frozen? ⟨g, j, none⟩ = false := fun j => frozen_of_row _ _ _ _ _ hg
      have HM2 : Hid (∀ x, NumAt g n (wr.setCell ⟨g, k, none⟩ x)) := fun x => ⟨_, setL_heap hg, by simpa using hl⟩
      clear HM hg hl hx0
      go_wp2
      go_roundw
      case rel => exact ⟨k + 1, by omega, by go_num, by go_num, HM2.out _, grown_setG hb⟩
      case measure => simp [intOf]; omega
    · obtain rfl : k = n := by omega
      go_wp2
      go_ret
      exact ⟨rfl, hb⟩
theorem markInt64S_nil (k0 : Nat) (w : World) : Calls Try.prog 31 #[.slice none 0 0, .int .i64 k0] w fun e w' => e = .returned (.int .i64 k0) ∧ w' = w := by
  go_enter Try.func31, Try.ntmps31
  go_wp2
  go_loop [1, 5] (fun q i => i = .int .i64 0 ∧ q = .int .i64 k0) (fun _ _ => 0)
  case atStart => exact ⟨rfl, rfl⟩
  case round =>
    obtain ⟨rfl, rfl⟩ := hrel
    go_wp2
    go_ret
    exact ⟨rfl, rfl⟩
theorem markInt64S_own (base : Nat) (v : Value) (l : List Int) (k0 : Nat) (w : World) (hn : l.length ≤ 1048576) (hk : k0 ≤ 10000000) (h : OwnN base v l w) :
    Calls Try.prog 31 #[v, .int .i64 k0] w fun e w' => e = .returned (.int .i64 ((k0 + l.length : Nat) : Int)) ∧ w.grownBy w' v.ownBlock := by
  rcases h.2 with ⟨rfl, h0⟩ | ⟨g, cap, cur, rfl, hB, hq, hn', hm, hs, ht⟩
  · refine (markInt64S_nil k0 w).mono ?_
    rintro e w' ⟨rfl, rfl⟩
    rw [h0]
    exact ⟨rfl, grown_refl _ _⟩
  · refine (markInt64S_at g l.length cap k0 w hn hk ⟨cur.toList, by simpa using hq, by simp; omega⟩).mono ?_
    rintro e w' ⟨rfl, hb⟩
    exact ⟨rfl, hb⟩
end Go.Proofs.Ytpmaklbbkmghbaa

/-
  Contracts: the program's reader of numbers, columns, indexes.
-/
namespace Go.Proofs.Ytpmaklbbkmghbaa
open Go.RowKit
set_option maxRecDepth 100000

theorem ownN_nil (base : Nat) (w : World) : OwnN base (.slice none 0 0) [] w := ⟨rfl, .inl ⟨rfl, rfl⟩⟩
theorem ownN_of {base : Nat} {v : Value} {l : List Int} {w : World} {n : Nat} {xs : List Value} (h : w.ownsRow base 2 1 v n xs) (hn : n = l.length) (hx : xs = numsV l) : OwnN base v l w := by subst hn hx; exact h
set_option maxHeartbeats 2000000 in
theorem places_any (g : Nat) (s : ByteArray) (st : St) (w : World) (h : CurAt g s st w) :
    Calls Try.prog 102 #[.pointer (some ⟨g, 0, none⟩)] w fun e w' => ∃ v, e = .returned v ∧ OwnN w.heap.size v (rNums s st).1 w' ∧ CurAt g s (rNums s st).2 w' ∧ w.grownBy w' (some g) := by
  obtain ⟨i0, hi, hz0, hz1, hz2⟩ := info_parts Try.infoI64
  have hgl := h.lt
  have HM := hide (curMany_any g s 10 st w h)
  have hmn := rMany_in s 10 st (by omega)
  have HR : Hid (rNums s st = rRep (rNum s) (rMany s 10 st).1.toNat (rMany s 10 st).2) := rfl
  generalize rMany s 10 st = r at *
  obtain ⟨n, st1⟩ := r
  simp only at HM HR hmn
  obtain ⟨m, rfl⟩ : ∃ m : Nat, n = (m : Int) := ⟨n.toNat, by omega⟩
  rw [Int.toNat_natCast] at HR
  clear h
  go_enter Try.func102, Try.ntmps102
  go_wp2_with fail
  refine HM.out.mono ?_
  rintro e w1 ⟨rfl, hc1, gr1⟩
  have HC1 := hide hc1
  clear hc1 HM
  go_wp2
  go_loopw [3, 8] (fun u i wr => ∃ k : Nat, k ≤ m ∧ i = .int .i64 k ∧ Hid (OwnN w.heap.size u (rRep (rNum s) k st1).1 wr) ∧ Hid (CurAt g s (rRep (rNum s) k st1).2 wr) ∧ w.grownBy wr (some g)) (fun _ i _ => m - (intOf i).toNat)
  case atStart => exact ⟨0, Nat.zero_le _, rfl, ownN_nil _ _, HC1, gr1⟩
  case round =>
    clear HC1 gr1
    obtain ⟨k, hk, rfl, HO, HC, gr⟩ := hrel
    by_cases hlt : k < m
    · have HN := hide (curNum_any g s _ _ HC.out)
      have hpl := rRep_len (rNum s) st1 k
      have HS : Hid ((rRep (rNum s) (k + 1) st1).1 = (rRep (rNum s) k st1).1 ++ [(rNum s (rRep (rNum s) k st1).2).1] ∧ (rRep (rNum s) (k + 1) st1).2 = (rNum s (rRep (rNum s) k st1).2).2) := ⟨rfl, rfl⟩
      obtain ⟨ao, cap, hu⟩ := ownN_shape HO.out
      rw [hpl] at hu
      rw [hu] at HO ⊢
      have HO2 : Hid (wr.ownsRow w.heap.size 2 1 (.slice ao k cap) k (numsV (rRep (rNum s) k st1).1)) := by have := HO.out; unfold OwnN at this; rw [hpl] at this; exact this
      have hz := gr.size
      generalize rRep (rNum s) k st1 = pr at *
      obtain ⟨pl, stk⟩ := pr
      simp only at *
      generalize rNum s stk = y at *
      obtain ⟨x, stx⟩ := y
      simp only at *
      clear hu HO HC
      have HPL := hide hpl
      clear hpl
      go_wp2_with fail
      refine HN.out.mono ?_
      rintro e w2 ⟨rfl, hc2, gr2⟩
      have HC2 := hide hc2
      have hown : w2.ownsRow w.heap.size 2 1 (.slice ao k cap) k (numsV pl) := own_far HO2.out gr2 hgl
      have gr02 := gr.trans gr2
      have hz2 := gr02.size
      clear hc2 gr2 gr HN HO2
      go_wp2_with (at_builtin; refine wpList_append_own _ rfl _ _ 23 rfl w.heap.size 2 i0 (.int .i64 0) 1 8 Try.underlying23 hi hz0 hz1 (by assumption) rfl (by decide) _ _ _ rfl (hown.alloc _) ⟨w2.heap.size, 0, none⟩ 1 1 [.int .i64 x] rfl rfl (cell_one_new _ _ _) (ints_oneCell .i64 [x]) (by unfold maxLen; omega) (by omega) (by simp; omega) ?_; intro v5 w5 hown5 hgrow5 _)
      have g5 : w.grownBy w5 (some g) := grown_some (grown_alloc' gr02 _) hgrow5 (Nat.le_refl _) (fun k hk => (World.ownsRow.lt hown k hk).1)
      have HO5 : Hid (OwnN w.heap.size v5 (rRep (rNum s) (k + 1) st1).1 w5) := by rw [HS.out.1]; exact ownN_of hown5 (by simp [HPL.out]) (by simp [numsV])
      have HC5 : Hid (CurAt g s (rRep (rNum s) (k + 1) st1).2 w5) := by
        rw [HS.out.2]
        refine (HC2.out.below ((Below.refl w2.heap.size w2).alloc (Nat.le_refl _) _) HC2.out.lt).kept hgrow5 (fun e => ?_)
        have := (World.ownsRow.lt hown g e).1
        omega
      clear hown5 hgrow5 hown gr02 HC2 HS
      go_wp2
      go_roundw
      case rel => exact ⟨k + 1, by omega, by go_num, HO5, HC5, g5⟩
      case measure => simp [intOf]; omega
    · obtain rfl : k = m := by omega
      go_wp2
      go_ret
      exact ⟨_, rfl, by rw [HR.out]; exact HO.out, by rw [HR.out]; exact HC.out, gr⟩
theorem resCol {fn : Func} {p : Tmp} (h : fn.results = #[.cell p 67]) (tmps : Array Value) (w : World) (g : Nat) (x y z : Value) (hp : tmps.getD p undef = .pointer (some ⟨g, 0, none⟩))
    (hg : w.heap[g]? = some (.cells #[x, y, z] 67 (0, 0))) : (results fn tmps).run Try.prog w = .ok (.agg #[x, y, z]) w :=
  results_cell_row h tmps w g 67 #[x, y, z] (0, 0) _ hp hg Try.underlying67 rfl (by kernel_rfl)
theorem resIdx {fn : Func} {p : Tmp} (h : fn.results = #[.cell p 69]) (tmps : Array Value) (w : World) (g : Nat) (x y : Value) (hp : tmps.getD p undef = .pointer (some ⟨g, 0, none⟩))
    (hg : w.heap[g]? = some (.cells #[x, y] 69 (0, 0))) : (results fn tmps).run Try.prog w = .ok (.agg #[x, y]) w :=
  results_cell_row h tmps w g 69 #[x, y] (0, 0) _ hp hg Try.underlying69 rfl (by kernel_rfl)
theorem CurAt.other {g R : Nat} {s : ByteArray} {st : St} {w : World} (h : CurAt g s st w) (hne : g ≠ R) (m : Nat) (x : Value) : CurAt g s st (w.setCell ⟨R, m, none⟩ x) := by
  obtain ⟨h1, a, e, h2, h3⟩ := h
  exact ⟨h1, a, e, (heap_setCell_other w ⟨R, m, none⟩ g x hne).trans h2, h3⟩
set_option maxHeartbeats 2000000 in
theorem column_any (g : Nat) (s : ByteArray) (st : St) (w : World) (h : CurAt g s st w) :
    Calls Try.prog 101 #[.pointer (some ⟨g, 0, none⟩)] w fun e w' => e = .returned (.agg #[.string (rCol s st).1.name, .int .i64 (rCol s st).1.kind, .bool (rCol s st).1.nul]) ∧ CurAt g s (rCol s st).2 w' ∧ w.grownBy w' (some g) := by
  have hgl := h.lt
  have HC0 : Hid (CurAt g s st (w.alloc (.cells #[.string ⟨#[]⟩, .int .i64 0, .bool false] 67)).drew) := h.below (((Below.refl w.heap.size w).alloc (Nat.le_refl _) _).drew) hgl
  have HK0 : Hid ((w.alloc (.cells #[.string ⟨#[]⟩, .int .i64 0, .bool false] 67)).drew.heap[w.heap.size]? = some (.cells #[.string ⟨#[]⟩, .int .i64 0, .bool false] 67 (0, 0))) := heap_alloc_new _ _
  have HG0 : Hid (w.grownBy (w.alloc (.cells #[.string ⟨#[]⟩, .int .i64 0, .bool false] 67)).drew (some g)) := grown_below (grown_refl w (some g)) (((Below.refl w.heap.size w).alloc (Nat.le_refl _) _).drew)
  have HZ0 : Hid ((w.alloc (.cells #[.string ⟨#[]⟩, .int .i64 0, .bool false] 67)).drew.heap.size = w.heap.size + 1) := by show _ = _; simp
  have H1 := hide (curWord_any g s st)
  have H2 := hide (curNum_any g s (rTxt s st).2)
  have H3 := hide (curFlag_any g s (rNum s (rTxt s st).2).2)
  have HR : Hid (rCol s st = (⟨(rTxt s st).1, (rNum s (rTxt s st).2).1, (rFlag s (rNum s (rTxt s st).2).2).1⟩, (rFlag s (rNum s (rTxt s st).2).2).2)) := rfl
  generalize rFlag s (rNum s (rTxt s st).2).2 = y3 at *
  generalize rNum s (rTxt s st).2 = y2 at *
  generalize rTxt s st = y1 at *
  obtain ⟨t1, s1⟩ := y1
  obtain ⟨t2, s2⟩ := y2
  obtain ⟨t3, s3⟩ := y3
  simp only at *
  clear h
  go_enter Try.func101, Try.ntmps101
  go_wp2
  go_region_held3 (fun _ => True) (trivial) (first
    | (go_at_call 99; refine (H1.out _ HC0.out).mono ?_; rintro e y1 ⟨rfl, k1, r1⟩; have K1 := hide k1; have R1 := hide (HG0.out.trans r1); have P1 := hide ((r1.block w.heap.size (by rw [HZ0.out]; omega) (fun e => by have : w.heap.size = g := (by simpa using e); omega)).trans HK0.out); have Z1 := hide (show w.heap.size + 1 ≤ y1.heap.size by rw [← HZ0.out]; exact r1.size); clear k1 r1)
    | (go_at_call 119; refine (H2.out _ K1.out).mono ?_; rintro e y2 ⟨rfl, k2, r2⟩; have K2 := hide k2; have R2 := hide (R1.out.trans r2); have P2 := hide ((r2.block w.heap.size (by have := Z1.out; omega) (fun e => by have : w.heap.size = g := (by simpa using e); omega)).trans P1.out); have Z2 := hide (Nat.le_trans Z1.out r2.size); clear k2 r2)
    | (go_at_call 121; refine (H3.out _ K2.out).mono ?_; rintro e y3 ⟨rfl, k3, r3⟩; have K3 := hide k3; have R3 := hide (R2.out.trans r3); have P3 := hide ((r3.block w.heap.size (by have := Z2.out; omega) (fun e => by have : w.heap.size = g := (by simpa using e); omega)).trans P2.out); obtain ⟨q0, q1, q2, qf⟩ := cells3 P3.out; clear k3 r3))
  all_goals
    go_wp2
    refine bodyPost_ret (v := .agg #[.string t1, .int .i64 t2, .bool t3]) (resCol Try.results101 _ _ w.heap.size _ _ _ rfl (set3 P3.out)) rfl ⟨by rw [HR.out], ?_, grown_new (grown_new (grown_new R3.out (Nat.le_refl _) _ _) (Nat.le_refl _) _ _) (Nat.le_refl _) _ _⟩
    rw [HR.out]
    exact ((K3.out.other (by omega) _ _).other (by omega) _ _).other (by omega) _ _
set_option maxHeartbeats 2000000 in
theorem index_rd (g : Nat) (s : ByteArray) (st : St) (w : World) (h : CurAt g s st w) :
    Calls Try.prog 103 #[.pointer (some ⟨g, 0, none⟩)] w fun e w' => ∃ v, e = .returned (.agg #[v, .bool (rIdx s st).1.uniq]) ∧ OwnN (w.heap.size + 1) v (rIdx s st).1.cols w' ∧ CurAt g s (rIdx s st).2 w' ∧ w.grownBy w' (some g) := by
  have hgl := h.lt
  have HC0 : Hid (CurAt g s st (w.alloc (.cells #[.slice none 0 0, .bool false] 69)).drew) := h.below (((Below.refl w.heap.size w).alloc (Nat.le_refl _) _).drew) hgl
  have HK0 : Hid ((w.alloc (.cells #[.slice none 0 0, .bool false] 69)).drew.heap[w.heap.size]? = some (.cells #[.slice none 0 0, .bool false] 69 (0, 0))) := heap_alloc_new _ _
  have HG0 : Hid (w.grownBy (w.alloc (.cells #[.slice none 0 0, .bool false] 69)).drew (some g)) := grown_below (grown_refl w (some g)) (((Below.refl w.heap.size w).alloc (Nat.le_refl _) _).drew)
  have HZ0 : Hid ((w.alloc (.cells #[.slice none 0 0, .bool false] 69)).drew.heap.size = w.heap.size + 1) := by show _ = _; simp
  have H1 := hide (places_any g s st)
  have H3 := hide (curFlag_any g s (rNums s st).2)
  have HR : Hid (rIdx s st = (⟨(rNums s st).1, (rFlag s (rNums s st).2).1⟩, (rFlag s (rNums s st).2).2)) := rfl
  generalize rFlag s (rNums s st).2 = y3 at *
  generalize rNums s st = y1 at *
  obtain ⟨t1, s1⟩ := y1
  obtain ⟨t3, s3⟩ := y3
  simp only at *
  clear h
  go_enter Try.func103, Try.ntmps103
  go_wp2
  go_region_held3 (fun _ => True) (trivial) (first
    | (go_at_call 102; refine (H1.out _ HC0.out).mono ?_; rintro e y1 ⟨v1, rfl, o1, k1, r1⟩; obtain ⟨ao, cap, rfl⟩ := ownN_shape o1; have O1 : Hid (OwnN (w.heap.size + 1) (.slice ao t1.length cap) t1 y1) := (by rw [HZ0.out] at o1; exact o1); have K1 := hide k1; have R1 := hide (HG0.out.trans r1); have P1 := hide ((r1.block w.heap.size (by rw [HZ0.out]; omega) (fun e => by have : w.heap.size = g := (by simpa using e); omega)).trans HK0.out); have Z1 := hide (show w.heap.size + 1 ≤ y1.heap.size by rw [← HZ0.out]; exact r1.size); clear k1 r1 o1)
    | (go_at_call 121; refine (H3.out _ K1.out).mono ?_; rintro e y3 ⟨rfl, k3, r3⟩; have K3 := hide k3; have O3 := hide (own_far O1.out r3 (by omega)); have R3 := hide (R1.out.trans r3); have P3 := hide ((r3.block w.heap.size (by have := Z1.out; omega) (fun e => by have : w.heap.size = g := (by simpa using e); omega)).trans P1.out); obtain ⟨q0, q1, qf⟩ := cells2 P3.out; clear k3 r3))
  all_goals
    go_wp2
    refine bodyPost_ret (v := .agg #[.slice ao t1.length cap, .bool t3]) (resIdx Try.results103 _ _ w.heap.size _ _ rfl (set2 P3.out)) rfl ⟨_, by rw [HR.out], ?_, ?_, grown_new (grown_new R3.out (Nat.le_refl _) _ _) (Nat.le_refl _) _ _⟩
    · rw [HR.out]; exact owns_set2 O3.out (by omega)
    · rw [HR.out]; exact (K3.out.other (by omega) _ _).other (by omega) _ _
end Go.Proofs.Ytpmaklbbkmghbaa

/-
  Contracts: columns, indexes and schemas copied.
-/
namespace Go.Proofs.Ytpmaklbbkmghbaa
open Go.RowKit
set_option maxRecDepth 100000

def cCells (c : Col) : List Value := [.string c.name, .int .i64 c.kind, .bool c.nul]
def flatC (cs : List Col) : List Value := cs.flatMap cCells
theorem flatC_cons (c : Col) (cs : List Col) : flatC (c :: cs) = .string c.name :: .int .i64 c.kind :: .bool c.nul :: flatC cs := rfl
theorem flatC_append (a b : List Col) : flatC (a ++ b) = flatC a ++ flatC b := by simp [flatC]
theorem flatC_len (cs : List Col) : (flatC cs).length = cs.length * 3 := by
  induction cs with
  | nil => rfl
  | cons v r ih => rw [flatC_cons]; simp [ih]; omega
theorem flatC_get (cs : List Col) : ∀ i, i < cs.length → (flatC cs)[i * 3]? = some (.string (cs.getD i noCol).name) ∧ (flatC cs)[i * 3 + 1]? = some (.int .i64 (cs.getD i noCol).kind) ∧ (flatC cs)[i * 3 + 2]? = some (.bool (cs.getD i noCol).nul) := by
  induction cs with
  | nil => intro i h; simp at h
  | cons v r ih =>
    intro i h
    rw [flatC_cons]
    match i, h with
    | 0, _ => exact ⟨rfl, rfl, rfl⟩
    | i + 1, h =>
      obtain ⟨h0, h1, h2⟩ := ih i (by simpa using h)
      have e : (i + 1) * 3 = i * 3 + 1 + 1 + 1 := by omega
      rw [e, List.getD_cons_succ]
      simp only [List.getElem?_cons_succ]
      exact ⟨h0, h1, h2⟩
theorem colRow_of {w : World} {g : Nat} {cur : List Value} {t : TypeId} {f : Nat × Nat} {cs : List Col} (hg : w.heap[g]? = some (.cells cur.toArray t f)) (hc : cur.take (cs.length * 3) = flatC cs) (ho : ∀ c ∈ cs, inI64 c.kind ∧ c.name.size ≤ maxLen) :
    ColRow w g w.heap.size (some ⟨g, 0, none⟩) cs := by
  have hlt : g < w.heap.size := (Array.getElem?_eq_some_iff.1 hg).1
  refine ⟨ho, .inr ⟨g, 0, rfl, Nat.le_refl _, hlt, fun i hi => ?_⟩⟩
  have hget : ∀ j, j < cs.length * 3 → cur[j]? = (flatC cs)[j]? := fun j hj => by rw [← hc, List.getElem?_take_of_lt hj]
  obtain ⟨h0, h1, h2⟩ := flatC_get cs i hi
  refine ⟨?_, ?_, ?_⟩
  · rw [cell_of_row _ _ _ _ _ _ hg, List.getElem?_toArray, Nat.zero_add, hget _ (by omega), h0]
  · rw [cell_of_row _ _ _ _ _ _ hg, List.getElem?_toArray, Nat.zero_add, hget _ (by omega), h1]
  · rw [cell_of_row _ _ _ _ _ _ hg, List.getElem?_toArray, Nat.zero_add, hget _ (by omega), h2]
theorem flatC_step (cur : List Value) (cs : List Col) (k : Nat) (hk : k < cs.length) (hl : cur.length = cs.length * 3) (hc : cur.take (k * 3) = flatC (cs.take k)) (a : ByteArray) (b : Int) (t : Bool) (hv : cs.getD k noCol = ⟨a, b, t⟩) :
    (((cur.set (k * 3) (.string a)).set (k * 3 + 1) (.int .i64 b)).set (k * 3 + 2) (.bool t)).take ((k + 1) * 3) = flatC (cs.take (k + 1)) ∧ (((cur.set (k * 3) (.string a)).set (k * 3 + 1) (.int .i64 b)).set (k * 3 + 2) (.bool t)).length = cs.length * 3 := by
  obtain ⟨h1, h2⟩ := set3_take cur (k * 3) (.string a) (.int .i64 b) (.bool t) (by omega)
  have e : (k + 1) * 3 = k * 3 + 3 := by omega
  rw [List.getD_eq_getElem?_getD, List.getElem?_eq_getElem hk] at hv
  simp only [Option.getD_some] at hv
  rw [e, h1, h2, hl, hc, List.take_succ_eq_append_getElem hk, flatC_append, hv]
  exact ⟨rfl, rfl⟩
set_option maxHeartbeats 1000000 in
theorem toColumnS_any (A B : Nat) (ao : Option Addr) (cap : Nat) (cs : List Col) (w : World) (hB : B ≤ w.heap.size) (hl : cs.length ≤ 1048576) (hr : ColRow w A B ao cs) :
    Calls Try.prog 44 #[.slice ao cs.length cap] w fun e w' => ∃ bo cp, e = .returned (.slice bo cs.length cp) ∧ ColRow w' w.heap.size w'.heap.size bo cs ∧ Below w.heap.size w w' := by
  obtain ⟨i0, hi, hz0, hz1, hz2⟩ := info_parts Try.infoCol
  have HR : Hid (ColRow w A B ao cs) := hr
  clear hr
  go_enter Try.func44, Try.ntmps44
  go_wp2_with (at_make; refine wpList_make_full _ rfl _ _ 29 rfl w.heap.size 67 i0 (.agg #[.string ⟨#[]⟩, .int .i64 0, .bool false]) 3 Try.underlying29 hi hz0 hz1 .i64 .i64 _ _ cs.length rfl rfl rfl rfl (by rw [hz2]; omega) (by unfold maxLen; omega) (Nat.le_refl _) ?_; intro w1 hown1 hgrow1)
  obtain ⟨cur0, hg0, hl0⟩ : ∃ cur : List Value, w1.heap[w.heap.size]? = some (.cells cur.toArray 67 (0, 0)) ∧ cur.length = cs.length * 3 := by
    rcases hown1.2 with ⟨h, _⟩ | ⟨g, cap', cur, hv, _, hg, _, _, hs, _⟩
    · simp at h
    · simp at hv
      obtain ⟨rfl, rfl⟩ := hv
      exact ⟨cur.toList, by simpa using hg, by simpa using hs⟩
  have hb1 : Below w.heap.size w w1 := (Below.refl _ _).grown hgrow1 (Nat.le_refl _) (fun j hj => by simp at hj)
  clear hown1 hgrow1
  go_loopw [4] (fun i wr => ∃ (k : Nat) (cur : List Value), k ≤ cs.length ∧ i = .int .i64 k ∧ cur.length = cs.length * 3 ∧ wr.heap[w.heap.size]? = some (.cells cur.toArray 67 (0, 0)) ∧ Hid (cur.take (k * 3) = flatC (cs.take k)) ∧ Below w.heap.size w wr) (fun i _ => cs.length - (intOf i).toNat)
  case atStart => exact ⟨0, cur0, Nat.zero_le _, rfl, hl0, hg0, by show _ = _; simp [flatC], hb1⟩
  case round =>
    obtain ⟨k, cur, hk, rfl, hlen, hg, HC, hb⟩ := hrel
    clear hb1 hg0 hl0
    have hlt0 : w.heap.size < wr.heap.size := (Array.getElem?_eq_some_iff.1 hg).1
    by_cases hlt : k < cs.length
    · obtain ⟨b, off, kk, nn, tt, rfl, hbB, hv, htt, hki, d0, d1, d2⟩ := (HR.out.kept (hb.mono hB)).at k hlt
      obtain ⟨HC2, hlen2⟩ := flatC_step cur cs k hlt hlen HC.out kk nn tt hv
      have HC3 : Hid ((((cur.set (k * 3) (.string kk)).set (k * 3 + 1) (.int .i64 nn)).set (k * 3 + 2) (.bool tt)).take ((k + 1) * 3) = flatC (cs.take (k + 1))) := HC2
      clear hv HC HC2 hki
      go_wp2_with fail
      refine (toColumn_any kk nn tt _).mono ?_
      rintro e w2 ⟨rfl, hb2⟩
      have hg2 : w2.heap[w.heap.size]? = some (.cells cur.toArray 67 (0, 0)) := (hb2.block _ hlt0).trans hg
      have hb3 := hb.trans (hb2.mono hb.size)
      obtain ⟨x0, hx0⟩ : ∃ v, cur[k * 3]? = some v := ⟨_, List.getElem?_eq_getElem (by omega)⟩
      obtain ⟨x1, hx1⟩ : ∃ v, cur[k * 3 + 1]? = some v := ⟨_, List.getElem?_eq_getElem (by omega)⟩
      obtain ⟨x2, hx2⟩ : ∃ v, cur[k * 3 + 2]? = some v := ⟨_, List.getElem?_eq_getElem (by omega)⟩
      have e0 : w2.cell? ⟨w.heap.size, k * 3, none⟩ = some x0 := by rw [cell_of_row _ _ _ _ _ _ hg2, List.getElem?_toArray, hx0]
      have e1 : w2.cell? ⟨w.heap.size, k * 3 + 1, none⟩ = some x1 := by rw [cell_of_row _ _ _ _ _ _ hg2, List.getElem?_toArray, hx1]
      have e2 : w2.cell? ⟨w.heap.size, k * 3 + 2, none⟩ = some x2 := by rw [cell_of_row _ _ _ _ _ _ hg2, List.getElem?_toArray, hx2]
      have ef : ∀ j, w2.frozen? ⟨w.heap.size, j, none⟩ = false := fun j => frozen_of_row _ _ _ _ _ hg2
      have HG : Hid (w2.heap[w.heap.size]? = some (.cells cur.toArray 67 (0, 0))) := hg2
      clear hx0 hx1 hx2 hg2 hg d0 d1 d2 hb hb2
      go_wp2
      go_roundw
      case rel => exact ⟨k + 1, _, by omega, by go_num, hlen2, set3_heap HG.out, HC3, ((hb3.setCell (Nat.le_refl _) _).setCell (Nat.le_refl _) _).setCell (Nat.le_refl _) _⟩
      case measure => simp [intOf]; omega
    · obtain rfl : k = cs.length := by omega
      have HF : Hid (ColRow wr w.heap.size wr.heap.size (some ⟨w.heap.size, 0, none⟩) cs) := colRow_of hg (by rw [HC.out, List.take_length]) HR.out.1
      go_wp2
      go_ret
      exact ⟨_, _, rfl, HF.out, hb⟩
set_option maxHeartbeats 1000000 in
theorem toIndex_any (A B : Nat) (io : Option Addr) (cap : Nat) (l : List Int) (u : Bool) (w : World) (hB : B ≤ w.heap.size) (hl : l.length ≤ 1048576) (hr : IntRow w A B io l) :
    Calls Try.prog 85 #[.agg #[.slice io l.length cap, .bool u]] w fun e w' => ∃ bo cp, e = .returned (.agg #[.slice bo l.length cp, .bool u]) ∧ (l.length ≤ cp ∧ cp ≤ maxLen) ∧ IntRow w' w.heap.size w'.heap.size bo l ∧ Below w.heap.size w w' := by
  have HR : Hid (IntRow w A B io l) := hr
  clear hr
  have hB0 : Below w.heap.size w (((w.alloc (.cells #[.slice io l.length cap, .bool u] 116)).alloc (.cells #[.slice none 0 0, .bool false] 69)).alloc (.cells #[.slice none 0 0, .bool false] 69)) := (((Below.refl _ _).alloc (Nat.le_refl _) _).alloc (by simp) _).alloc (by simp; omega) _
  go_enter Try.func85, Try.ntmps85
  go_wp2_with fail
  refine (toInt64S_any A w.heap.size io cap l _ hB0.size hl ((HR.out.mono (Nat.le_refl _) hB).kept hB0)).mono ?_
  rintro e w2 ⟨bo, cp, rfl, hcp, hr2, hb2⟩
  obtain ⟨hc, hf⟩ := bcell hb2
  have hsz := hb2.size
  simp at hsz
  have HR2 : Hid (IntRow w2 (w.heap.size + 3) w2.heap.size bo l) := hr2.mono (by simp) (Nat.le_refl _)
  clear hr2 hB0
  go_wp2
  refine bodyPost_ret (v := .agg #[.slice bo l.length cp, .bool u]) (by simp [results, Try.results85, go_sem, hc]) rfl ⟨bo, cp, rfl, hcp, ?_, ?_⟩
  · exact ((((HR2.out.other _ _ _ (by omega)).other _ _ _ (by omega)).other _ _ _ (by omega)).other _ _ _ (by omega)).mono (by omega) (by simp)
  · exact ((((((((Below.refl _ _).alloc (Nat.le_refl _) _).alloc (by simp) _).alloc (by simp; omega) _).trans (hb2.mono (by simp; omega))).setCell (by simp; omega) _).setCell (by simp; omega) _).setCell (by simp) _).setCell (by simp) _
end Go.Proofs.Ytpmaklbbkmghbaa

/-
  Contracts: indexes and schemas copied.
-/
namespace Go.Proofs.Ytpmaklbbkmghbaa
open Go.RowKit
set_option maxRecDepth 100000

/-- The first k indexes stand in a block's cells, their numbers in blocks behind it. -/
def IdxCur (w : World) (g : Nat) (cur : List Value) (xs : List Idx) (k : Nat) : Prop :=
  ∀ i, i < k → ∃ io cp, cur[i * 2]? = some (.slice io (xs.getD i noIdx).cols.length cp) ∧ cur[i * 2 + 1]? = some (.bool (xs.getD i noIdx).uniq) ∧ ((xs.getD i noIdx).cols.length ≤ cp ∧ cp ≤ maxLen) ∧ IntRow w (g + 1) w.heap.size io (xs.getD i noIdx).cols
theorem idxCur_step {w w' : World} {g : Nat} {cur : List Value} {xs : List Idx} {k : Nat} (h : IdxCur w g cur xs k) (hb : Below w.heap.size w w') (hl : k * 2 + 2 ≤ cur.length) {bo : Option Addr} {cp : Nat} {l : List Int} {u : Bool} (hx : xs.getD k noIdx = ⟨l, u⟩)
    (hcp : l.length ≤ cp ∧ cp ≤ maxLen) (hr : IntRow w' (g + 1) w'.heap.size bo l) : IdxCur ((w'.setCell ⟨g, k * 2, none⟩ (.slice bo l.length cp)).setCell ⟨g, k * 2 + 1, none⟩ (.bool u)) g ((cur.set (k * 2) (.slice bo l.length cp)).set (k * 2 + 1) (.bool u)) xs (k + 1) := by
  intro i hi
  by_cases he : i = k
  · subst he
    refine ⟨bo, cp, ?_, ?_, by rw [hx]; exact hcp, ?_⟩
    · rw [hx, List.getElem?_set_ne (by omega), List.getElem?_set_self (by omega)]
    · rw [hx, List.getElem?_set_self (by simp; omega)]
    · rw [hx]; exact ((hr.other _ _ _ (by omega)).other _ _ _ (by omega)).mono (Nat.le_refl _) (by simp)
  · obtain ⟨io, cq, c0, c1, hcq, hr0⟩ := h i (by omega)
    refine ⟨io, cq, ?_, ?_, hcq, ?_⟩
    · rw [List.getElem?_set_ne (by omega), List.getElem?_set_ne (by omega)]; exact c0
    · rw [List.getElem?_set_ne (by omega), List.getElem?_set_ne (by omega)]; exact c1
    · exact (((hr0.kept hb).other _ _ _ (by omega)).other _ _ _ (by omega)).mono (Nat.le_refl _) (by simpa using hb.size)
theorem idxRow_of {w : World} {g : Nat} {cur : List Value} {t : TypeId} {f : Nat × Nat} {xs : List Idx} (hg : w.heap[g]? = some (.cells cur.toArray t f)) (hc : IdxCur w g cur xs xs.length): IdxRow w g w.heap.size (some ⟨g, 0, none⟩) xs := by
  have hlt : g < w.heap.size := (Array.getElem?_eq_some_iff.1 hg).1
  refine .inr ⟨g, 0, rfl, Nat.le_refl _, hlt, fun i hi => ?_⟩
  obtain ⟨io, cp, c0, c1, hcp, hr⟩ := hc i hi
  refine ⟨io, cp, ?_, ?_, hcp, hr.mono (by omega) (Nat.le_refl _)⟩
  · rw [cell_of_row _ _ _ _ _ _ hg, List.getElem?_toArray, Nat.zero_add, c0]
  · rw [cell_of_row _ _ _ _ _ _ hg, List.getElem?_toArray, Nat.zero_add, c1]
theorem set2_heap {W : World} {g m : Nat} {cur : List Value} {t : TypeId} {x y : Value} (h : W.heap[g]? = some (.cells cur.toArray t (0, 0))) :
    ((W.setCell ⟨g, m, none⟩ x).setCell ⟨g, m + 1, none⟩ y).heap[g]? = some (.cells ((cur.set m x).set (m + 1) y).toArray t (0, 0)) := by
  have h1 := heap_setCell_same W g m _ t x h
  have h2 := heap_setCell_same _ g (m + 1) _ t y h1
  rw [h2]; simp
set_option maxHeartbeats 1000000 in
theorem toIndexS_any (A B : Nat) (ao : Option Addr) (cap : Nat) (xs : List Idx) (w : World) (hB : B ≤ w.heap.size) (hl : xs.length ≤ 1048576) (hxl : ∀ x ∈ xs, x.cols.length ≤ 1048576) (hr : IdxRow w A B ao xs) :
    Calls Try.prog 45 #[.slice ao xs.length cap] w fun e w' => ∃ bo cp, e = .returned (.slice bo xs.length cp) ∧ IdxRow w' w.heap.size w'.heap.size bo xs ∧ Below w.heap.size w w' := by
  obtain ⟨i0, hi, hz0, hz1, hz2⟩ := info_parts Try.infoIdx
  have HR : Hid (IdxRow w A B ao xs) := hr
  clear hr
  go_enter Try.func45, Try.ntmps45
  go_wp2_with (at_make; refine wpList_make_full _ rfl _ _ 30 rfl w.heap.size 69 i0 (.agg #[.slice none 0 0, .bool false]) 2 Try.underlying30 hi hz0 hz1 .i64 .i64 _ _ xs.length rfl rfl rfl rfl (by rw [hz2]; omega) (by unfold maxLen; omega) (Nat.le_refl _) ?_; intro w1 hown1 hgrow1)
  obtain ⟨cur0, hg0, hl0⟩ : ∃ cur : List Value, w1.heap[w.heap.size]? = some (.cells cur.toArray 69 (0, 0)) ∧ cur.length = xs.length * 2 := by
    rcases hown1.2 with ⟨h, _⟩ | ⟨g, cap', cur, hv, _, hg, _, _, hs, _⟩
    · simp at h
    · simp at hv
      obtain ⟨rfl, rfl⟩ := hv
      exact ⟨cur.toList, by simpa using hg, by simpa using hs⟩
  have hb1 : Below w.heap.size w w1 := (Below.refl _ _).grown hgrow1 (Nat.le_refl _) (fun j hj => by simp at hj)
  clear hown1 hgrow1
  go_loopw [4] (fun i wr => ∃ (k : Nat) (cur : List Value), k ≤ xs.length ∧ i = .int .i64 k ∧ cur.length = xs.length * 2 ∧ wr.heap[w.heap.size]? = some (.cells cur.toArray 69 (0, 0)) ∧ Hid (IdxCur wr w.heap.size cur xs k) ∧ Below w.heap.size w wr) (fun i _ => xs.length - (intOf i).toNat)
  case atStart => exact ⟨0, cur0, Nat.zero_le _, rfl, hl0, hg0, fun i hi => absurd hi (Nat.not_lt_zero _), hb1⟩
  case round =>
    obtain ⟨k, cur, hk, rfl, hlen, hg, HC, hb⟩ := hrel
    clear hb1 hg0 hl0
    have hlt0 : w.heap.size < wr.heap.size := (Array.getElem?_eq_some_iff.1 hg).1
    by_cases hlt : k < xs.length
    · obtain ⟨b, off, io, cp, l, u, rfl, hbB, hv, htt, hir, d0, d1⟩ := (HR.out.kept (hb.mono hB)).at k hlt
      have hll : l.length ≤ 1048576 := by have := hxl _ (getD_mem xs noIdx k hlt); rw [hv] at this; exact this
      have HV : Hid (xs.getD k noIdx = ⟨l, u⟩) := hv
      have HI : Hid (IntRow wr A B io l) := hir
      clear hv hir htt
      go_wp2_with fail
      refine (toIndex_any A B io cp l u _ (Nat.le_trans hB hb.size) hll HI.out).mono ?_
      rintro e w2 ⟨bo, cq, rfl, hcq, hr2, hb2⟩
      have hg2 : w2.heap[w.heap.size]? = some (.cells cur.toArray 69 (0, 0)) := (hb2.block _ hlt0).trans hg
      have HC3 : Hid (IdxCur ((w2.setCell ⟨w.heap.size, k * 2, none⟩ (.slice bo l.length cq)).setCell ⟨w.heap.size, k * 2 + 1, none⟩ (.bool u)) w.heap.size ((cur.set (k * 2) (.slice bo l.length cq)).set (k * 2 + 1) (.bool u)) xs (k + 1)) := idxCur_step HC.out hb2 (by omega) HV.out hcq (hr2.mono (by omega) (Nat.le_refl _))
      have hb3 := hb.trans (hb2.mono hb.size)
      obtain ⟨x0, hx0⟩ : ∃ v, cur[k * 2]? = some v := ⟨_, List.getElem?_eq_getElem (by omega)⟩
      obtain ⟨x1, hx1⟩ : ∃ v, cur[k * 2 + 1]? = some v := ⟨_, List.getElem?_eq_getElem (by omega)⟩
      have e0 : w2.cell? ⟨w.heap.size, k * 2, none⟩ = some x0 := by rw [cell_of_row _ _ _ _ _ _ hg2, List.getElem?_toArray, hx0]
      have e1 : w2.cell? ⟨w.heap.size, k * 2 + 1, none⟩ = some x1 := by rw [cell_of_row _ _ _ _ _ _ hg2, List.getElem?_toArray, hx1]
      have ef : ∀ j, w2.frozen? ⟨w.heap.size, j, none⟩ = false := fun j => frozen_of_row _ _ _ _ _ hg2
      have HG : Hid (w2.heap[w.heap.size]? = some (.cells cur.toArray 69 (0, 0))) := hg2
      have hlen2 : ((cur.set (k * 2) (.slice bo l.length cq)).set (k * 2 + 1) (.bool u)).length = xs.length * 2 := by simpa using hlen
      clear hx0 hx1 hg2 hg d0 d1 hb hb2 hr2 HC HI HV hcq
      go_wp2
      go_roundw
      case rel => exact ⟨k + 1, _, by omega, by go_num, hlen2, set2_heap HG.out, HC3, (hb3.setCell (Nat.le_refl _) _).setCell (Nat.le_refl _) _⟩
      case measure => simp [intOf]; omega
    · obtain rfl : k = xs.length := by omega
      have HF : Hid (IdxRow wr w.heap.size wr.heap.size (some ⟨w.heap.size, 0, none⟩) xs) := idxRow_of hg HC.out
      go_wp2
      go_ret
      exact ⟨_, _, rfl, HF.out, hb⟩
theorem resSch {fn : Func} {p : Tmp} (h : fn.results = #[.cell p 32]) (tmps : Array Value) (w : World) (g : Nat) (x y z u : Value) (hp : tmps.getD p undef = .pointer (some ⟨g, 0, none⟩))
    (hg : w.heap[g]? = some (.cells #[x, y, z, u] 32 (0, 0))) : (results fn tmps).run Try.prog w = .ok (.agg #[x, y, z, u]) w :=
  results_cell_row h tmps w g 32 #[x, y, z, u] (0, 0) _ hp hg Try.underlying32 rfl (by kernel_rfl)
/-- Do a schema's parts fit in? -/
def schFits (s : Sch) : Prop := s.cols.length ≤ 1048576 ∧ s.key.length ≤ 1048576 ∧ s.idx.length ≤ 1048576 ∧ ∀ x ∈ s.idx, x.cols.length ≤ 1048576
set_option maxHeartbeats 1000000 in
theorem toSchema_any (A B : Nat) (ao : Option Addr) (c1 : Nat) (ko : Option Addr) (c2 : Nat) (xo : Option Addr) (c3 : Nat) (s : Sch) (w : World) (hB : B ≤ w.heap.size) (hf : schFits s) (hr : SchRow w A B ao ko xo c2 s) :
    Calls Try.prog 11 #[.agg #[.string s.name, .slice ao s.cols.length c1, .slice ko s.key.length c2, .slice xo s.idx.length c3]] w fun e w' =>
      ∃ ao' c1' ko' c2' xo' c3', e = .returned (.agg #[.string s.name, .slice ao' s.cols.length c1', .slice ko' s.key.length c2', .slice xo' s.idx.length c3']) ∧ SchRow w' w.heap.size w'.heap.size ao' ko' xo' c2' s ∧ Below w.heap.size w w' := by
  have HR : Hid (SchRow w A B ao ko xo c2 s) := hr
  have HF : Hid (schFits s) := hf
  clear hr hf
  obtain ⟨nm, cs, ky, xs⟩ := s
  simp only
  have HB0 : Hid (Below w.heap.size w (((w.alloc (.cells #[.string nm, .slice ao cs.length c1, .slice ko ky.length c2, .slice xo xs.length c3] 26)).alloc (.cells #[.string ⟨#[]⟩, .slice none 0 0, .slice none 0 0, .slice none 0 0] 32)).alloc (.cells #[.string nm, .slice none 0 0, .slice none 0 0, .slice none 0 0] 32))) := (((Below.refl _ _).alloc (Nat.le_refl _) _).alloc (by simp) _).alloc (by simp; omega) _
  have X0 : Hid ((((w.alloc (.cells #[.string nm, .slice ao cs.length c1, .slice ko ky.length c2, .slice xo xs.length c3] 26)).alloc (.cells #[.string ⟨#[]⟩, .slice none 0 0, .slice none 0 0, .slice none 0 0] 32)).alloc (.cells #[.string nm, .slice none 0 0, .slice none 0 0, .slice none 0 0] 32)).heap[w.heap.size]? = some (.cells #[.string nm, .slice ao cs.length c1, .slice ko ky.length c2, .slice xo xs.length c3] 26 (0, 0))) := (alloc3 _ _ _ _).1
  have Y0 : Hid ((((w.alloc (.cells #[.string nm, .slice ao cs.length c1, .slice ko ky.length c2, .slice xo xs.length c3] 26)).alloc (.cells #[.string ⟨#[]⟩, .slice none 0 0, .slice none 0 0, .slice none 0 0] 32)).alloc (.cells #[.string nm, .slice none 0 0, .slice none 0 0, .slice none 0 0] 32)).heap[w.heap.size + 1]? = some (.cells #[.string ⟨#[]⟩, .slice none 0 0, .slice none 0 0, .slice none 0 0] 32 (0, 0))) := (alloc3 _ _ _ _).2.1
  have L0 : Hid ((((w.alloc (.cells #[.string nm, .slice ao cs.length c1, .slice ko ky.length c2, .slice xo xs.length c3] 26)).alloc (.cells #[.string ⟨#[]⟩, .slice none 0 0, .slice none 0 0, .slice none 0 0] 32)).alloc (.cells #[.string nm, .slice none 0 0, .slice none 0 0, .slice none 0 0] 32)).heap[w.heap.size + 1 + 1]? = some (.cells #[.string nm, .slice none 0 0, .slice none 0 0, .slice none 0 0] 32 (0, 0))) := (alloc3 _ _ _ _).2.2
  go_enter Try.func11, Try.ntmps11
  go_wp2_with fail
  refine (toColumnS_any A w.heap.size ao c1 cs _ HB0.out.size HF.out.1 ((HR.out.2.1.mono (Nat.le_refl _) hB).kept HB0.out)).mono ?_
  rintro e w1 ⟨ao', c1', rfl, hr1, hb1⟩
  have hsz1 := hb1.size
  simp at hsz1
  have R1 : Hid (ColRow w1 (w.heap.size + 3) w1.heap.size ao' cs) := hr1.mono (by simp) (Nat.le_refl _)
  have B1 : Hid (Below w.heap.size w (w1.setCell ⟨w.heap.size + 1 + 1, 1, none⟩ (.slice ao' cs.length c1'))) := (HB0.out.trans (hb1.mono HB0.out.size)).setCell (by simp; omega) _
  have Z1 : Hid (w.heap.size + 3 ≤ w1.heap.size) := by show _ ≤ _; omega
  have X1 : Hid (w1.heap[w.heap.size]? = some (.cells #[.string nm, .slice ao cs.length c1, .slice ko ky.length c2, .slice xo xs.length c3] 26 (0, 0))) := (hb1.block _ (by simp; omega)).trans X0.out
  have Y1 : Hid (w1.heap[w.heap.size + 1]? = some (.cells #[.string ⟨#[]⟩, .slice none 0 0, .slice none 0 0, .slice none 0 0] 32 (0, 0))) := (hb1.block _ (by simp)).trans Y0.out
  have L1 : Hid (w1.heap[w.heap.size + 1 + 1]? = some (.cells #[.string nm, .slice none 0 0, .slice none 0 0, .slice none 0 0] 32 (0, 0))) := (hb1.block _ (by simp)).trans L0.out
  obtain ⟨x0, x1, x2, x3, xf⟩ := cells4 X1.out
  obtain ⟨l0, l1, l2, l3, lf⟩ := cells4 L1.out
  clear hr1 hb1 X0 Y0 L0
  go_wp2_with fail
  refine (toInt64S_any A w.heap.size ko c2 ky _ B1.out.size HF.out.2.1 ((HR.out.2.2.1.mono (Nat.le_refl _) hB).kept B1.out)).mono ?_
  rintro e w2 ⟨ko', c2', rfl, hc2', hr2, hb2⟩
  have hsz2 := hb2.size
  simp at hsz2
  have R2 : Hid (IntRow w2 (w.heap.size + 3) w2.heap.size ko' ky) := hr2.mono (by simp; exact Z1.out) (Nat.le_refl _)
  have R12 : Hid (ColRow w2 (w.heap.size + 3) w2.heap.size ao' cs) := (((R1.out.other _ _ _ (by omega)).mono (Nat.le_refl _) (by simp)).kept hb2).mono (Nat.le_refl _) hb2.size
  have B2 : Hid (Below w.heap.size w (w2.setCell ⟨w.heap.size + 1 + 1, 2, none⟩ (.slice ko' ky.length c2'))) := (B1.out.trans (hb2.mono B1.out.size)).setCell (by simp; omega) _
  have Z2 : Hid (w.heap.size + 3 ≤ w2.heap.size) := by show _ ≤ _; omega
  have X2 : Hid (w2.heap[w.heap.size]? = some (.cells #[.string nm, .slice ao cs.length c1, .slice ko ky.length c2, .slice xo xs.length c3] 26 (0, 0))) := ((hb2.block _ (by simp; have := Z1.out; omega)).trans (heap_far _ _ _ _ _ (by omega))).trans X1.out
  have Y2 : Hid (w2.heap[w.heap.size + 1]? = some (.cells #[.string ⟨#[]⟩, .slice none 0 0, .slice none 0 0, .slice none 0 0] 32 (0, 0))) := ((hb2.block _ (by simp; have := Z1.out; omega)).trans (heap_far _ _ _ _ _ (by omega))).trans Y1.out
  have L2 : Hid (w2.heap[w.heap.size + 1 + 1]? = some (.cells #[.string nm, .slice ao' cs.length c1', .slice none 0 0, .slice none 0 0] 32 (0, 0))) := (hb2.block _ (by simp; have := Z1.out; omega)).trans (by simpa using heap_setCell_same _ _ 1 _ _ (.slice ao' cs.length c1') L1.out)
  clear x0 x1 x2 x3 xf l0 l1 l2 l3 lf
  obtain ⟨x0, x1, x2, x3, xf⟩ := cells4 X2.out
  obtain ⟨l0, l1, l2, l3, lf⟩ := cells4 L2.out
  have HC2 : Hid (ky.length ≤ c2' ∧ c2' ≤ maxLen) := hc2'
  clear hr2 hb2 R1 X1 Y1 L1 hc2'
  go_wp2_with fail
  refine (toIndexS_any A w.heap.size xo c3 xs _ B2.out.size HF.out.2.2.1 HF.out.2.2.2 ((HR.out.2.2.2.mono (Nat.le_refl _) hB).kept B2.out)).mono ?_
  rintro e w3 ⟨xo', c3', rfl, hr3, hb3⟩
  have hsz3 := hb3.size
  simp at hsz3
  have R3 : Hid (IdxRow w3 (w.heap.size + 3) w3.heap.size xo' xs) := hr3.mono (by simp; exact Z2.out) (Nat.le_refl _)
  have R13 : Hid (ColRow w3 (w.heap.size + 3) w3.heap.size ao' cs) := (((R12.out.other _ _ _ (by omega)).mono (Nat.le_refl _) (by simp)).kept hb3).mono (Nat.le_refl _) hb3.size
  have R23 : Hid (IntRow w3 (w.heap.size + 3) w3.heap.size ko' ky) := (((R2.out.other _ _ _ (by omega)).mono (Nat.le_refl _) (by simp)).kept hb3).mono (Nat.le_refl _) hb3.size
  have HS : Hid (SchRow w3 (w.heap.size + 3) w3.heap.size ao' ko' xo' c2' ⟨nm, cs, ky, xs⟩) := ⟨⟨HR.out.1.1, HR.out.1.2.1, HC2.out, HR.out.1.2.2.2⟩, R13.out, R23.out, R3.out⟩
  have B3 : Hid (Below w.heap.size w w3) := B2.out.trans (hb3.mono B2.out.size)
  have Y3 : Hid (w3.heap[w.heap.size + 1]? = some (.cells #[.string ⟨#[]⟩, .slice none 0 0, .slice none 0 0, .slice none 0 0] 32 (0, 0))) := ((hb3.block _ (by simp; have := Z2.out; omega)).trans (heap_far _ _ _ _ _ (by omega))).trans Y2.out
  have L3 : Hid (w3.heap[w.heap.size + 1 + 1]? = some (.cells #[.string nm, .slice ao' cs.length c1', .slice ko' ky.length c2', .slice none 0 0] 32 (0, 0))) := (hb3.block _ (by simp; have := Z2.out; omega)).trans (by simpa using heap_setCell_same _ _ 2 _ _ (.slice ko' ky.length c2') L2.out)
  clear x0 x1 x2 x3 xf l0 l1 l2 l3 lf
  obtain ⟨y0, y1, y2, y3, yf⟩ := cells4 Y3.out
  obtain ⟨l0, l1, l2, l3, lf⟩ := cells4 L3.out
  clear hr3 hb3 R12 R2 R3 R13 R23 B2 B1 HB0 HR HF X2 Y2 L2
  go_wp2
  refine bodyPost_ret (v := .agg #[.string nm, .slice ao' cs.length c1', .slice ko' ky.length c2', .slice xo' xs.length c3']) (by simp [results, Try.results11, go_sem, y0, y1, y2, y3]) rfl ⟨ao', c1', ko', c2', xo', c3', rfl, ?_, ?_⟩
  · exact (((((HS.out.other _ _ _ (by omega)).other _ _ _ (by omega)).other _ _ _ (by omega)).other _ _ _ (by omega)).other _ _ _ (by omega)).mono (by omega) (by simp)
  · exact ((((B3.out.setCell (by simp; omega) _).setCell (by simp) _).setCell (by simp) _).setCell (by simp) _).setCell (by simp) _
end Go.Proofs.Ytpmaklbbkmghbaa

/-
  A schema that a call has made: its rows are its own, no two in one block. Plain laws.
-/
namespace Go.Proofs.Ytpmaklbbkmghbaa
open Go.RowKit
set_option maxRecDepth 100000

def OwnC (base : Nat) (v : Value) (cs : List Col) (w : World) : Prop := w.ownsRow base 67 3 v cs.length (flatC cs)
def flatX (us : List Value) (xs : List Idx) : List Value := (us.zip xs).flatMap fun p => [p.1, .bool p.2.uniq]
def Apart (l : List Value) : Prop := l.Pairwise fun p q => p.ownBlock = none ∨ p.ownBlock ≠ q.ownBlock
/-- Indexes in a row of their own, the numbers of each in one of its own, too. -/
structure OwnX (base : Nat) (x : Value) (us : List Value) (xs : List Idx) (w : World) : Prop where
  len : us.length = xs.length
  row : w.ownsRow base 69 2 x xs.length (flatX us xs)
  inner : ∀ p ∈ us.zip xs, OwnN base p.1 p.2.cols w
structure SOwn (base : Nat) (a k x : Value) (us : List Value) (s : Sch) (w : World) : Prop where
  cols : OwnC base a s.cols w
  key : OwnN base k s.key w
  idx : OwnX base x us s.idx w
  apart : Apart (a :: k :: x :: us)
theorem ownC_nil (base : Nat) (w : World) : OwnC base (.slice none 0 0) [] w := ⟨rfl, .inl ⟨rfl, rfl⟩⟩
theorem ownX_nil (base : Nat) (w : World) : OwnX base (.slice none 0 0) [] [] w := ⟨rfl, ⟨rfl, .inl ⟨rfl, rfl⟩⟩, fun p hp => by simp at hp⟩
theorem ownC_shape {base : Nat} {v : Value} {cs : List Col} {w : World} (h : OwnC base v cs w) : ∃ ao cap, v = .slice ao cs.length cap := by
  rcases h.2 with ⟨h1, h2⟩ | ⟨g, cap, cur, h1, _⟩
  · exact ⟨none, 0, by rw [h1, h2]⟩
  · exact ⟨_, _, h1⟩
theorem ownX_shape {base : Nat} {v : Value} {us : List Value} {xs : List Idx} {w : World} (h : OwnX base v us xs w) : ∃ ao cap, v = .slice ao xs.length cap := by
  rcases h.row.2 with ⟨h1, h2⟩ | ⟨g, cap, cur, h1, _⟩
  · exact ⟨none, 0, by rw [h1, h2]⟩
  · exact ⟨_, _, h1⟩
theorem OwnX.below {base : Nat} {v : Value} {us : List Value} {xs : List Idx} {w w' : World} (h : OwnX base v us xs w) (hb : Below w.heap.size w w') : OwnX base v us xs w' :=
  ⟨h.len, owns_below h.row hb, fun p hp => owns_below (h.inner p hp) hb⟩
theorem OwnX.far {base g : Nat} {v : Value} {us : List Value} {xs : List Idx} {w w' : World} (h : OwnX base v us xs w) (hg : w.grownBy w' (some g)) (hl : g < base) : OwnX base v us xs w' :=
  ⟨h.len, own_far h.row hg hl, fun p hp => own_far (h.inner p hp) hg hl⟩
theorem SOwn.below {base : Nat} {a k x : Value} {us : List Value} {s : Sch} {w w' : World} (h : SOwn base a k x us s w) (hb : Below w.heap.size w w') : SOwn base a k x us s w' :=
  ⟨owns_below h.cols hb, owns_below h.key hb, h.idx.below hb, h.apart⟩
theorem cell_col_new (w : World) (t : ByteArray) (k : Int) (u : Bool) (ty : TypeId) : ∀ j v, [Value.string t, Value.int .i64 k, Value.bool u][j]? = some v → (w.alloc (.cells #[.string t, .int .i64 k, .bool u] ty)).cell? ((⟨w.heap.size, 0, none⟩ : Addr).add j) = some v := by
  intro j v hj
  have hadd : (⟨w.heap.size, 0, none⟩ : Addr).add j = ⟨w.heap.size, j, none⟩ := by unfold Addr.add; split <;> simp_all
  rw [hadd, cell_of_row _ _ _ _ _ _ (heap_alloc_new w _)]
  simpa using hj
theorem one_col (t : ByteArray) (k : Int) (u : Bool) : ∀ v ∈ [Value.string t, Value.int .i64 k, Value.bool u], v.oneCell' = true := fun v hv => by
  simp at hv
  rcases hv with rfl | rfl | rfl <;> rfl
def rSch (s : ByteArray) (st : St) : Sch × St :=
  let y1 := rTxt s st
  let y2 := rMany s 10 y1.2
  let y3 := rRep (rCol s) y2.1.toNat y2.2
  let y4 := rNums s y3.2
  let y5 := rMany s 4 y4.2
  let y6 := rRep (rIdx s) y5.1.toNat y5.2
  (⟨y1.1, y3.1, y4.1, y6.1⟩, y6.2)
/-- The reader's own variable in block L, and its result's in block R. -/
def LocAt (L R : Nat) (nm : ByteArray) (a k x : Value) (w : World) : Prop :=
  w.heap[L]? = some (.cells #[.string nm, a, k, x] 32 (0, 0)) ∧ w.heap[R]? = some (.cells #[.string ⟨#[]⟩, .slice none 0 0, .slice none 0 0, .slice none 0 0] 32 (0, 0))
theorem LocAt.grown {L R : Nat} {nm : ByteArray} {a k x : Value} {w w' : World} {r : Option Nat} (h : LocAt L R nm a k x w) (hg : w.grownBy w' r) (hL : r ≠ some L) (hR : r ≠ some R) : LocAt L R nm a k x w' :=
  ⟨(hg.block L (Array.getElem?_eq_some_iff.1 h.1).1 (fun e => hL e.symm)).trans h.1, (hg.block R (Array.getElem?_eq_some_iff.1 h.2).1 (fun e => hR e.symm)).trans h.2⟩
theorem OwnX.set {W : World} {base g m : Nat} {v x : Value} {us : List Value} {xs : List Idx} (h : OwnX base v us xs W) (hg : g < base) : OwnX base v us xs (W.setCell ⟨g, m, none⟩ x) :=
  ⟨h.len, own_set h.row hg, fun p hp => own_set (h.inner p hp) hg⟩
theorem locSet {L R m : Nat} {nm : ByteArray} {a k x y : Value} {w : World} (h : LocAt L R nm a k x w) (hne : L ≠ R) (hm : m = 1) : LocAt L R nm y k x (w.setCell ⟨L, m, none⟩ y) := by
  subst hm
  have h1 := heap_setCell_same w L 1 _ _ y h.1
  exact ⟨by simpa using h1, (heap_setCell_other w ⟨L, 1, none⟩ R y (fun e => hne e.symm)).trans h.2⟩
theorem locSet2 {L R m : Nat} {nm : ByteArray} {a k x y : Value} {w : World} (h : LocAt L R nm a k x w) (hne : L ≠ R) (hm : m = 2) : LocAt L R nm a y x (w.setCell ⟨L, m, none⟩ y) := by
  subst hm
  have h1 := heap_setCell_same w L 2 _ _ y h.1
  exact ⟨by simpa using h1, (heap_setCell_other w ⟨L, 2, none⟩ R y (fun e => hne e.symm)).trans h.2⟩
theorem locSet3 {L R m : Nat} {nm : ByteArray} {a k x y : Value} {w : World} (h : LocAt L R nm a k x w) (hne : L ≠ R) (hm : m = 3) : LocAt L R nm a k y (w.setCell ⟨L, m, none⟩ y) := by
  subst hm
  have h1 := heap_setCell_same w L 3 _ _ y h.1
  exact ⟨by simpa using h1, (heap_setCell_other w ⟨L, 3, none⟩ R y (fun e => hne e.symm)).trans h.2⟩
theorem apart_step {a k x x' u : Value} {us : List Value} {m H : Nat} (h : Apart (a :: k :: x :: us)) (hm : ∀ v ∈ a :: k :: x :: us, ∀ b, v.ownBlock = some b → b < m) (hu : ∀ b, u.ownBlock = some b → m ≤ b ∧ b < H) (hmH : m ≤ H) (hx : x'.ownBlock = x.ownBlock ∨ x'.ownBlock = some H) : Apart (a :: k :: x' :: (us ++ [u])) := by
  have old : ∀ v ∈ a :: k :: x :: us, v.ownBlock = none ∨ v.ownBlock ≠ u.ownBlock := fun v hv => by
    cases hb : v.ownBlock with
    | none => exact .inl rfl
    | some b =>
      refine .inr (fun e => ?_)
      have h1 := hm v hv b hb
      have h2 := (hu b e.symm).1
      omega
  have oldx : ∀ v ∈ a :: k :: x :: us, (v.ownBlock = none ∨ v.ownBlock ≠ x.ownBlock) → v.ownBlock = none ∨ v.ownBlock ≠ x'.ownBlock := fun v hv h0 => by
    rcases hx with e | e
    · rw [e]; exact h0
    · cases hb : v.ownBlock with
      | none => exact .inl rfl
      | some b =>
        refine .inr (fun e' => ?_)
        have h1 := hm v hv b hb
        rw [e] at e'
        simp only [Option.some.injEq] at e'
        omega
  have xu : x'.ownBlock = none ∨ x'.ownBlock ≠ u.ownBlock := by
    rcases hx with e | e
    · rw [e]; exact old x (by simp)
    · rw [e]
      refine .inr (fun e' => ?_)
      have := (hu H e'.symm).2
      omega
  have xold : ∀ v ∈ us, (x.ownBlock = none ∨ x.ownBlock ≠ v.ownBlock) → x'.ownBlock = none ∨ x'.ownBlock ≠ v.ownBlock := fun v hv h0 => by
    rcases hx with e | e
    · rw [e]; exact h0
    · rw [e]
      refine .inr (fun e' => ?_)
      have := hm v (by simp [hv]) H e'.symm
      omega
  unfold Apart at h ⊢
  simp only [List.pairwise_cons, List.mem_cons, forall_eq_or_imp, List.pairwise_append, List.mem_append, List.not_mem_nil, or_false, forall_eq] at h ⊢
  obtain ⟨⟨hak, hax, haus⟩, ⟨hkx, hkus⟩, hxus, hus⟩ := h
  refine ⟨⟨hak, oldx a (by simp) hax, fun v hv => ?_⟩, ⟨oldx k (by simp) hkx, fun v hv => ?_⟩, fun v hv => ?_, hus, ⟨fun _ h => h.elim, List.Pairwise.nil⟩, fun v hv => old v (by simp [hv])⟩
  · rcases hv with hv | rfl
    · exact haus v hv
    · exact old a (by simp)
  · rcases hv with hv | rfl
    · exact hkus v hv
    · exact old k (by simp)
  · rcases hv with hv | rfl
    · exact xold v hv (hxus v hv)
    · exact xu
theorem flatX_snoc (us : List Value) (xs : List Idx) (u : Value) (x : Idx) (h : us.length = xs.length) : flatX (us ++ [u]) (xs ++ [x]) = flatX us xs ++ [u, .bool x.uniq] := by
  unfold flatX
  rw [List.zip_append h, List.flatMap_append]; simp
theorem flatC_snoc (cs : List Col) (c : Col) : flatC (cs ++ [c]) = flatC cs ++ [.string c.name, .int .i64 c.kind, .bool c.nul] := by rw [flatC_append]; rfl
end Go.Proofs.Ytpmaklbbkmghbaa

/-
  A schema that a call has made, one index more. Plain laws.
-/
namespace Go.Proofs.Ytpmaklbbkmghbaa
open Go.RowKit
set_option maxRecDepth 100000

theorem grown_allocN (w : World) (o : Obj) : w.grownBy (w.alloc o) none := grown_drew.grown_below' (grown_refl w none) ((Below.refl w.heap.size w).alloc (Nat.le_refl _) o)
theorem cell_idx_new (w : World) (v : Value) (u : Bool) (ty : TypeId) : ∀ j x, [v, Value.bool u][j]? = some x → (w.alloc (.cells #[v, .bool u] ty)).cell? ((⟨w.heap.size, 0, none⟩ : Addr).add j) = some x := by
  intro j x hj
  have hadd : (⟨w.heap.size, 0, none⟩ : Addr).add j = ⟨w.heap.size, j, none⟩ := by unfold Addr.add; split <;> simp_all
  rw [hadd, cell_of_row _ _ _ _ _ _ (heap_alloc_new w _)]
  simpa using hj
theorem one_idx (ao : Option Addr) (n cap : Nat) (u : Bool) : ∀ v ∈ [Value.slice ao n cap, Value.bool u], v.oneCell' = true := fun v hv => by
  simp at hv
  rcases hv with rfl | rfl <;> rfl
theorem set4 {W : World} {g : Nat} {a b c d x y z u : Value} {t : TypeId} (h : W.heap[g]? = some (.cells #[a, b, c, d] t (0, 0))) :
    ((((W.setCell ⟨g, 0, none⟩ x).setCell ⟨g, 1, none⟩ y).setCell ⟨g, 2, none⟩ z).setCell ⟨g, 3, none⟩ u).heap[g]? = some (.cells #[x, y, z, u] t (0, 0)) := by
  have h0 := heap_setCell_same W g 0 _ t x h
  have h1 := heap_setCell_same _ g 1 _ t y h0
  have h2 := heap_setCell_same _ g 2 _ t z h1
  have h3 := heap_setCell_same _ g 3 _ t u h2
  simpa using h3
theorem SOwn.set {W : World} {base g m : Nat} {a k x y : Value} {us : List Value} {S : Sch} (h : SOwn base a k x us S W) (hg : g < base) : SOwn base a k x us S (W.setCell ⟨g, m, none⟩ y) :=
  ⟨own_set h.cols hg, own_set h.key hg, h.idx.set hg, h.apart⟩
theorem SOwn.base {W : World} {base base' : Nat} {a k x : Value} {us : List Value} {S : Sch} (h : SOwn base a k x us S W) (hb : base' ≤ base) : SOwn base' a k x us S W :=
  ⟨owns_base h.cols hb, owns_base h.key hb, ⟨h.idx.len, owns_base h.idx.row hb, fun p hp => owns_base (h.idx.inner p hp) hb⟩, h.apart⟩
/-- Behind a call that wrote only ahead of the rows. -/
theorem SOwn.far {base g : Nat} {a k x : Value} {us : List Value} {S : Sch} {w w' : World} (h : SOwn base a k x us S w) (hg : w.grownBy w' (some g)) (hl : g < base) : SOwn base a k x us S w' :=
  ⟨own_far h.cols hg hl, own_far h.key hg hl, h.idx.far hg hl, h.apart⟩
theorem mem_zip {us : List Value} {xs : List Idx} {v : Value} (hl : us.length = xs.length) (hv : v ∈ us) : ∃ x, (v, x) ∈ us.zip xs := by
  obtain ⟨j, hj, rfl⟩ := List.getElem_of_mem hv
  exact ⟨xs[j], List.mem_iff_getElem.2 ⟨j, by simp; omega, by simp⟩⟩
theorem SOwn.blocks {base : Nat} {a k x : Value} {us : List Value} {S : Sch} {w : World} (h : SOwn base a k x us S w) : ∀ v ∈ a :: k :: x :: us, ∀ b, v.ownBlock = some b → b < w.heap.size := by
  intro v hv b hb
  simp only [List.mem_cons] at hv
  rcases hv with rfl | rfl | rfl | hv
  · exact (World.ownsRow.lt h.cols b hb).2
  · exact (World.ownsRow.lt h.key b hb).2
  · exact (World.ownsRow.lt h.idx.row b hb).2
  · obtain ⟨y, hy⟩ := mem_zip h.idx.len hv
    exact (World.ownsRow.lt (h.idx.inner _ hy) b hb).2
theorem apart_x {a k x : Value} {us : List Value} (h : Apart (a :: k :: x :: us)) : (a.ownBlock = none ∨ a.ownBlock ≠ x.ownBlock) ∧ (k.ownBlock = none ∨ k.ownBlock ≠ x.ownBlock) ∧ ∀ v ∈ us, v.ownBlock = none ∨ v.ownBlock ≠ x.ownBlock := by
  unfold Apart at h
  simp only [List.pairwise_cons, List.mem_cons, forall_eq_or_imp] at h
  obtain ⟨⟨_, hax, _⟩, ⟨hkx, _⟩, hxus, _⟩ := h
  refine ⟨hax, hkx, fun v hv => ?_⟩
  rcases hxus v hv with h1 | h1
  · cases hb : v.ownBlock with
    | none => exact .inl rfl
    | some b => rw [h1]; exact .inr (by simp)
  · exact .inr (fun e => h1 e.symm)
theorem sown_step {base n m : Nat} {a k x x' vA : Value} {us : List Value} {nm : ByteArray} {cs : List Col} {ks : List Int} {xs : List Idx} {xc : List Int} {xu : Bool} {yA yB : World} {o : Obj}
    (hS : SOwn base a k x us ⟨nm, cs, ks, xs⟩ yA) (hm : ∀ v ∈ a :: k :: x :: us, ∀ b, v.ownBlock = some b → b < m) (hbm : base ≤ m) (hmy : m ≤ yA.heap.size) (oA : OwnN m vA xc yA)
    (ownB : yB.ownsRow base 69 2 x' (n + 1) (flatX us xs ++ [vA, .bool xu])) (hn : xs.length = n) (growB : (yA.alloc o).grownBy yB x.ownBlock)
    (hx : x'.ownBlock = x.ownBlock ∨ x'.ownBlock = some (yA.heap.size + 1)) : SOwn base a k x' (us ++ [vA]) ⟨nm, cs, ks, xs ++ [⟨xc, xu⟩]⟩ yB := by
  obtain ⟨h1, h2, h3⟩ := apart_x hS.apart
  have hA := World.ownsRow.lt oA
  refine ⟨(World.ownsRow.alloc hS.cols o).kept growB h1, (World.ownsRow.alloc hS.key o).kept growB h2, ⟨by simp [hS.idx.len], ?_, ?_⟩, apart_step hS.apart hm (fun b hb => ⟨(hA b hb).1, Nat.lt_succ_of_lt (hA b hb).2⟩) (Nat.le_succ_of_le hmy) hx⟩
  · show yB.ownsRow base 69 2 x' (xs ++ [(⟨xc, xu⟩ : Idx)]).length (flatX (us ++ [vA]) (xs ++ [⟨xc, xu⟩]))
    rw [flatX_snoc _ _ _ _ hS.idx.len, List.length_append, hn]
    exact ownB
  · intro p hp
    have hz : (us ++ [vA]).zip (xs ++ [(⟨xc, xu⟩ : Idx)]) = us.zip xs ++ [(vA, (⟨xc, xu⟩ : Idx))] := by rw [List.zip_append hS.idx.len]; rfl
    change p ∈ (us ++ [vA]).zip (xs ++ [(⟨xc, xu⟩ : Idx)]) at hp
    rw [hz, List.mem_append] at hp
    rcases hp with hp | hp
    · exact (World.ownsRow.alloc (hS.idx.inner p hp) o).kept growB (h3 p.1 (List.of_mem_zip hp).1)
    · obtain rfl : p = (vA, (⟨xc, xu⟩ : Idx)) := by simpa using hp
      refine owns_base ((World.ownsRow.alloc oA o).kept growB ?_) hbm
      cases hb : vA.ownBlock with
      | none => exact .inl rfl
      | some b =>
        refine .inr (fun e => ?_)
        have h5 := (hA b hb).1
        have h6 := hm x (by simp) b (by rw [← e])
        omega
theorem apart0 {a k : Value} {m : Nat} (ha : ∀ b, a.ownBlock = some b → b < m) (hk : ∀ b, k.ownBlock = some b → m ≤ b) : Apart (a :: k :: .slice none 0 0 :: []) := by
  have h0 : ∀ v : Value, v.ownBlock = none ∨ v.ownBlock ≠ (Value.slice none 0 0).ownBlock := fun v => by
    cases hb : v.ownBlock with
    | none => exact .inl rfl
    | some b => exact .inr (by simp [Value.ownBlock])
  unfold Apart
  simp only [List.pairwise_cons, List.mem_cons, forall_eq_or_imp, List.not_mem_nil, or_false, forall_eq]
  refine ⟨⟨?_, h0 a⟩, h0 k, fun _ h => h.elim, List.Pairwise.nil⟩
  cases hb : a.ownBlock with
  | none => exact .inl rfl
  | some b =>
    refine .inr (fun e => ?_)
    have h1 := ha b hb
    have h2 := hk b e.symm
    omega
end Go.Proofs.Ytpmaklbbkmghbaa

/-
  A schema that was read lies as a schema's parts lie. Plain laws.
-/
namespace Go.Proofs.Ytpmaklbbkmghbaa
open Go.RowKit
set_option maxRecDepth 100000

theorem ownN_row {base : Nat} {v : Value} {l : List Int} {w : World} (h : OwnN base v l w) (ho : ∀ x ∈ l, inI64 x) : ∃ ao cap, v = .slice ao l.length cap ∧ (l.length ≤ cap ∧ cap ≤ maxLen) ∧ IntRow w base w.heap.size ao l := by
  rcases h.2 with ⟨rfl, h0⟩ | ⟨g, cap, cur, rfl, hB, hq, hn', hm, hs, hc⟩
  · exact ⟨none, 0, by rw [h0], ⟨by omega, by unfold maxLen; omega⟩, ho, .inl h0⟩
  · exact ⟨_, _, rfl, ⟨hn', hm⟩, (intRow_of (cur := cur.toList) (by simpa using hq) (by simpa using hc) ho).mono hB (Nat.le_refl _)⟩
theorem ownC_row {base : Nat} {v : Value} {cs : List Col} {w : World} (h : OwnC base v cs w) (ho : ∀ c ∈ cs, inI64 c.kind ∧ c.name.size ≤ maxLen) : ∃ ao cap, v = .slice ao cs.length cap ∧ ColRow w base w.heap.size ao cs := by
  rcases h.2 with ⟨rfl, h0⟩ | ⟨g, cap, cur, rfl, hB, hq, hn', hm, hs, hc⟩
  · exact ⟨none, 0, by rw [h0], ho, .inl h0⟩
  · exact ⟨_, _, rfl, (colRow_of (cur := cur.toList) (by simpa using hq) (by simpa using hc) ho).mono hB (Nat.le_refl _)⟩
theorem flatX_get : ∀ (us : List Value) (xs : List Idx) (i : Nat), us.length = xs.length → i < xs.length → (flatX us xs)[i * 2]? = us[i]? ∧ (flatX us xs)[i * 2 + 1]? = some (.bool (xs.getD i noIdx).uniq)
  | [], xs, i, h, hi => by simp at h; omega
  | u :: us, [], i, h, hi => by simp at h
  | u :: us, x :: xs, 0, h, hi => by simp [flatX]
  | u :: us, x :: xs, i + 1, h, hi => by
    have ih := flatX_get us xs i (by simpa using h) (by simpa using hi)
    have e : flatX (u :: us) (x :: xs) = u :: .bool x.uniq :: flatX us xs := by simp [flatX]
    rw [e, show (i + 1) * 2 = i * 2 + 1 + 1 by omega]
    simpa using ih
theorem zip_at {us : List Value} {xs : List Idx} (i : Nat) (hl : us.length = xs.length) (hi : i < xs.length) : ∃ u, us[i]? = some u ∧ (u, xs.getD i noIdx) ∈ us.zip xs := by
  refine ⟨us[i]'(by omega), List.getElem?_eq_getElem (by omega), ?_⟩
  rw [List.getD_eq_getElem?_getD, List.getElem?_eq_getElem hi]
  exact List.mem_iff_getElem.2 ⟨i, by simp; omega, by simp⟩
theorem ownX_row {base : Nat} {v : Value} {us : List Value} {xs : List Idx} {w : World} (h : OwnX base v us xs w) (ho : ∀ x ∈ xs, ∀ y ∈ x.cols, inI64 y) : ∃ ao cap, v = .slice ao xs.length cap ∧ IdxRow w base w.heap.size ao xs := by
  rcases h.row.2 with ⟨rfl, h0⟩ | ⟨g, cap, cur, rfl, hB, hq, hn', hm, hs, hc⟩
  · exact ⟨none, 0, by rw [h0], .inl h0⟩
  · refine ⟨_, _, rfl, .inr ⟨g, 0, rfl, hB, (Array.getElem?_eq_some_iff.1 hq).1, fun i hi => ?_⟩⟩
    obtain ⟨f0, f1⟩ := flatX_get us xs i h.len hi
    obtain ⟨u, hu, hz⟩ := zip_at i h.len hi
    obtain ⟨io, cp, e, hcp, hr⟩ := ownN_row (h.inner _ hz) (ho _ (getD_mem xs noIdx i hi))
    have hget : ∀ j, j < xs.length * 2 → cur[j]? = (flatX us xs)[j]? := fun j hj => by rw [← hc, List.getElem?_take_of_lt hj]; simp
    refine ⟨io, cp, ?_, ?_, hcp, hr⟩
    · rw [cell_of_row _ _ _ _ _ _ hq, Nat.zero_add, hget _ (by omega), f0, hu]; exact congrArg some e
    · rw [cell_of_row _ _ _ _ _ _ hq, Nat.zero_add, hget _ (by omega), f1]
/-- A schema's numbers and texts are within bounds. -/
structure schIn (s : Sch) : Prop where
  name : s.name.size ≤ maxLen
  nc : s.cols.length ≤ 10
  nk : s.key.length ≤ 10
  nx : s.idx.length ≤ 4
  cols : ∀ c ∈ s.cols, inI64 c.kind ∧ c.name.size ≤ maxLen
  key : ∀ x ∈ s.key, inI64 x
  idx : ∀ x ∈ s.idx, x.cols.length ≤ 10 ∧ ∀ y ∈ x.cols, inI64 y
theorem schIn.fits {s : Sch} (h : schIn s) : schFits s := ⟨by have := h.nc; omega, by have := h.nk; omega, by have := h.nx; omega, fun x hx => by have := (h.idx x hx).1; omega⟩
theorem SOwn.row {base : Nat} {a k x : Value} {us : List Value} {s : Sch} {w : World} (h : SOwn base a k x us s w) (hs : schIn s) :
    ∃ ao c1 ko c2 xo c3, a = .slice ao s.cols.length c1 ∧ k = .slice ko s.key.length c2 ∧ x = .slice xo s.idx.length c3 ∧ SchRow w base w.heap.size ao ko xo c2 s := by
  obtain ⟨ao, c1, rfl, hr1⟩ := ownC_row h.cols hs.cols
  obtain ⟨ko, c2, rfl, hc2, hr2⟩ := ownN_row h.key hs.key
  obtain ⟨xo, c3, rfl, hr3⟩ := ownX_row h.idx (fun y hy => (hs.idx y hy).2)
  have h1 := hs.nc
  have h3 := hs.nx
  exact ⟨ao, c1, ko, c2, xo, c3, rfl, rfl, rfl, ⟨hs.name, by unfold maxLen; omega, hc2, by unfold maxLen; omega⟩, hr1, hr2, hr3⟩
theorem rRep_mem {α : Type} (f : St → α × St) (st : St) : ∀ (k : Nat) (x : α), x ∈ (rRep f k st).1 → ∃ q, x = (f q).1
  | 0, x, h => by simp [rRep] at h
  | k + 1, x, h => by
    simp only [rRep, List.mem_append, List.mem_singleton] at h
    rcases h with h | h
    · exact rRep_mem f st k x h
    · exact ⟨_, h⟩
theorem rTxt_size (s : ByteArray) (st : St) : (rTxt s st).1.size ≤ s.size := by
  cases st with
  | none => exact Nat.zero_le _
  | some p =>
    unfold rTxt
    simp only
    split
    · unfold txtAt textOf
      split
      · exact Nat.zero_le _
      · split
        · exact Nat.zero_le _
        · split
          · exact Nat.zero_le _
          · simp only [ByteArray.size_extract]; omega
    · exact Nat.zero_le _
theorem rMany_nat (s : ByteArray) (m : Nat) (st : St) : (rMany s m st).1.toNat ≤ m := by
  have := rMany_in s m st (by omega)
  omega
theorem rNums_in (s : ByteArray) (st : St) : (rNums s st).1.length ≤ 10 ∧ ∀ y ∈ (rNums s st).1, inI64 y := by
  unfold rNums
  refine ⟨by rw [rRep_len]; exact rMany_nat s 10 st, fun y hy => ?_⟩
  obtain ⟨q, rfl⟩ := rRep_mem _ _ _ _ hy
  exact rNum_in s q
theorem rSch_in (s : ByteArray) (st : St) (hs : s.size ≤ maxLen) : schIn (rSch s st).1 := by
  unfold rSch
  refine ⟨Nat.le_trans (rTxt_size s st) hs, by simp only [rRep_len]; exact rMany_nat s 10 _, (rNums_in s _).1, by simp only [rRep_len]; exact rMany_nat s 4 _, fun c hc => ?_, (rNums_in s _).2, fun x hx => ?_⟩
  · obtain ⟨q, rfl⟩ := rRep_mem _ _ _ _ hc
    exact ⟨rNum_in s _, Nat.le_trans (rTxt_size s _) hs⟩
  · obtain ⟨q, rfl⟩ := rRep_mem _ _ _ _ hx
    exact rNums_in s _
/-- The empty schema. -/
def noSch : Sch := ⟨⟨#[]⟩, [], [], []⟩
theorem noSch_in : schIn noSch := ⟨Nat.zero_le _, Nat.zero_le _, Nat.zero_le _, Nat.zero_le _, fun c h => by simp [noSch] at h, fun c h => by simp [noSch] at h, fun c h => by simp [noSch] at h⟩
theorem noSch_own (base : Nat) (w : World) : SOwn base (.slice none 0 0) (.slice none 0 0) (.slice none 0 0) [] noSch w :=
  ⟨ownC_nil _ _, ownN_nil _ _, ownX_nil _ _, apart0 (m := 0) (fun b h => by simp [Value.ownBlock] at h) (fun b h => by simp [Value.ownBlock] at h)⟩
/-- What is read of a text: the schema, and the code. -/
def readSch (s : ByteArray) : Sch × Int :=
  if 20000 < s.size then (noSch, 2) else if (rSch s (some 0)).2 = some s.size ∧ schRight (rSch s (some 0)).1 = true then ((rSch s (some 0)).1, 0) else (noSch, 3)
theorem readSch_in (s : ByteArray) : schIn (readSch s).1 := by
  unfold readSch
  split
  · exact noSch_in
  · split
    · exact rSch_in _ _ (by unfold maxLen; omega)
    · exact noSch_in
end Go.Proofs.Ytpmaklbbkmghbaa
