/-
  Contracts: values and numbers copied into rows of their own; numbers marked.
-/
import Derived.Test.YtojfffdbddbakaaPickC
import Derived.Test.YtojfffdbddbakaaMarkW
import Derived.Test.YtojfffdbddbakaaSCopy
import Derived.Test.YtojfffdbddbakaaVals2
namespace Go.Proofs.Ytojfffdbddbakaa
open Go.RowKit
set_option maxRecDepth 100000

/-- Numbers that a call has made, in a row of their own. -/
def OwnN (base : Nat) (v : Value) (l : List Int) (w : World) : Prop := w.ownsRow base 2 1 v l.length (numsV l)
theorem ownN_shape {base : Nat} {v : Value} {l : List Int} {w : World} (h : OwnN base v l w) : ∃ ao cap, v = .slice ao l.length cap := by
  rcases h.2 with ⟨h1, h2⟩ | ⟨g, cap, cur, h1, _⟩
  · exact ⟨none, 0, by rw [h1, h2]⟩
  · exact ⟨_, _, h1⟩
theorem intRow_own {base : Nat} {v : Value} {l : List Int} {w : World} (h : OwnN base v l w) (ho : ∀ x ∈ l, inI64 x) : ∃ ao cap, v = .slice ao l.length cap ∧ IntRow w 0 w.heap.size ao l := by
  rcases h.2 with ⟨rfl, h0⟩ | ⟨g, cap, cur, rfl, hB, hq, hn', hm, hs, hc⟩
  · exact ⟨none, 0, by rw [h0], ho, .inl h0⟩
  · exact ⟨_, _, rfl, (intRow_of (cur := cur.toList) (by simpa using hq) (by simpa using hc) ho).mono (Nat.zero_le _) (Nat.le_refl _)⟩
set_option maxHeartbeats 1000000 in
theorem toValueS_own (B : Nat) (ao : Option Addr) (cap : Nat) (vs : List Val) (w : World) (hB : B ≤ w.heap.size) (hl : vs.length ≤ 1048576) (hr : ValRow w B ao vs) :
    Calls Try.prog 31 #[.slice ao vs.length cap] w fun e w' => ∃ v, e = .returned v ∧ OwnV w.heap.size v vs w' ∧ Below w.heap.size w w' := by
  obtain ⟨i0, hi, hz0, hz1, hz2⟩ := info_parts Try.infoVal
  have HR : Hid (ValRow w B ao vs) := hr
  clear hr
  go_enter Try.func31, Try.ntmps31
  go_wp2_with (at_make; refine wpList_make_full _ rfl _ _ 28 rfl w.heap.size 99 i0 (.agg #[.int .i64 0, .int .i64 0, .string ⟨#[]⟩]) 3 Try.underlying28 hi hz0 hz1 .i64 .i64 _ _ vs.length rfl rfl rfl rfl (by rw [hz2]; omega) (by unfold maxLen; omega) (Nat.le_refl _) ?_; intro w1 hown1 hgrow1)
  obtain ⟨cur0, hg0, hl0⟩ : ∃ cur : List Value, w1.heap[w.heap.size]? = some (.cells cur.toArray 99 (0, 0)) ∧ cur.length = vs.length * 3 := by
    rcases hown1.2 with ⟨h, _⟩ | ⟨g, cap', cur, hv, _, hg, _, _, hs, _⟩
    · simp at h
    · simp at hv
      obtain ⟨rfl, rfl⟩ := hv
      exact ⟨cur.toList, by simpa using hg, by simpa using hs⟩
  have hb1 : Below w.heap.size w w1 := (Below.refl _ _).grown hgrow1 (Nat.le_refl _) (fun j hj => by simp at hj)
  clear hown1 hgrow1
  go_loopw [4] (fun i wr => ∃ (k : Nat) (cur : List Value), k ≤ vs.length ∧ i = .int .i64 k ∧ cur.length = vs.length * 3 ∧ wr.heap[w.heap.size]? = some (.cells cur.toArray 99 (0, 0)) ∧ Hid (cur.take (k * 3) = flatV (vs.take k)) ∧ Below w.heap.size w wr) (fun i _ => vs.length - (intOf i).toNat)
  case atStart => exact ⟨0, cur0, Nat.zero_le _, rfl, hl0, hg0, by show _ = _; simp [flatV], hb1⟩
  case round =>
    obtain ⟨k, cur, hk, rfl, hlen, hg, HC, hb⟩ := hrel
    clear hb1 hg0 hl0
    have hlt0 : w.heap.size < wr.heap.size := (Array.getElem?_eq_some_iff.1 hg).1
    by_cases hlt : k < vs.length
    · obtain ⟨b, off, kk, nn, tt, rfl, hbB, hv, htt, d0, d1, d2⟩ := (HR.out.kept (hb.mono hB)).at k hlt
      obtain ⟨HC2, hlen2⟩ := flatV_step cur vs k hlt hlen HC.out kk nn tt hv
      have HC3 : Hid ((((cur.set (k * 3) (.int .i64 kk)).set (k * 3 + 1) (.int .i64 nn)).set (k * 3 + 2) (.string tt)).take ((k + 1) * 3) = flatV (vs.take (k + 1))) := HC2
      clear hv HC HC2
      go_wp2_with fail
      refine (toValue_any kk nn tt _).mono ?_
      rintro e w2 ⟨rfl, hb2⟩
      have hg2 : w2.heap[w.heap.size]? = some (.cells cur.toArray 99 (0, 0)) := (hb2.block _ hlt0).trans hg
      have hb3 := hb.trans (hb2.mono hb.size)
      obtain ⟨x0, hx0⟩ : ∃ v, cur[k * 3]? = some v := ⟨_, List.getElem?_eq_getElem (by omega)⟩
      obtain ⟨x1, hx1⟩ : ∃ v, cur[k * 3 + 1]? = some v := ⟨_, List.getElem?_eq_getElem (by omega)⟩
      obtain ⟨x2, hx2⟩ : ∃ v, cur[k * 3 + 2]? = some v := ⟨_, List.getElem?_eq_getElem (by omega)⟩
      have e0 : w2.cell? ⟨w.heap.size, k * 3, none⟩ = some x0 := by rw [cell_of_row _ _ _ _ _ _ hg2, List.getElem?_toArray, hx0]
      have e1 : w2.cell? ⟨w.heap.size, k * 3 + 1, none⟩ = some x1 := by rw [cell_of_row _ _ _ _ _ _ hg2, List.getElem?_toArray, hx1]
      have e2 : w2.cell? ⟨w.heap.size, k * 3 + 2, none⟩ = some x2 := by rw [cell_of_row _ _ _ _ _ _ hg2, List.getElem?_toArray, hx2]
      have ef : ∀ j, w2.frozen? ⟨w.heap.size, j, none⟩ = false := fun j => frozen_of_row _ _ _ _ _ hg2
      have HG : Hid (w2.heap[w.heap.size]? = some (.cells cur.toArray 99 (0, 0))) := hg2
      clear hx0 hx1 hx2 hg2 hg d0 d1 d2 hb hb2
      go_wp2
      go_roundw
      case rel => exact ⟨k + 1, _, by omega, by go_num, hlen2, set3_heap HG.out, HC3, ((hb3.setCell (Nat.le_refl _) _).setCell (Nat.le_refl _) _).setCell (Nat.le_refl _) _⟩
      case measure => simp [intOf]; omega
    · obtain rfl : k = vs.length := by omega
      have HF : Hid (OwnV w.heap.size (.slice (some ⟨w.heap.size, 0, none⟩) vs.length vs.length) vs wr) := ⟨by rw [flatV_len], .inr ⟨w.heap.size, vs.length, cur.toArray, rfl, Nat.le_refl _, hg, Nat.le_refl _, by unfold maxLen; omega, by simpa using hlen, by have := HC.out; rw [List.take_length] at this; simpa using this⟩⟩
      go_wp2
      go_ret
      exact ⟨_, rfl, HF.out, hb⟩
set_option maxHeartbeats 1000000 in
theorem toInt64S_own (A B : Nat) (ao : Option Addr) (cap : Nat) (l : List Int) (w : World) (hB : B ≤ w.heap.size) (hl : l.length ≤ 1048576) (hr : IntRow w A B ao l) :
    Calls Try.prog 34 #[.slice ao l.length cap] w fun e w' => ∃ v, e = .returned v ∧ OwnN w.heap.size v l w' ∧ Below w.heap.size w w' := by
  obtain ⟨i0, hi, hz0, hz1, hz2⟩ := info_parts Try.infoI64
  have HR : Hid (IntRow w A B ao l) := hr
  clear hr
  go_enter Try.func34, Try.ntmps34
  go_wp2_with (at_make; refine wpList_make_full _ rfl _ _ 24 rfl w.heap.size 2 i0 (.int .i64 0) 1 Try.underlying24 hi hz0 hz1 .i64 .i64 _ _ l.length rfl rfl rfl rfl (by rw [hz2]; omega) (by unfold maxLen; omega) (Nat.le_refl _) ?_; intro w1 hown1 hgrow1)
  obtain ⟨cur0, hg0, hl0⟩ : ∃ cur : List Value, w1.heap[w.heap.size]? = some (.cells cur.toArray 2 (0, 0)) ∧ cur.length = l.length := by
    rcases hown1.2 with ⟨h, _⟩ | ⟨g, cap', cur, hv, _, hg, _, _, hs, _⟩
    · simp at h
    · simp at hv
      obtain ⟨rfl, rfl⟩ := hv
      exact ⟨cur.toList, by simpa using hg, by simpa using hs⟩
  have hb1 : Below w.heap.size w w1 := (Below.refl _ _).grown hgrow1 (Nat.le_refl _) (fun j hj => by simp at hj)
  clear hown1 hgrow1
  go_loopw [4] (fun i wr => ∃ (k : Nat) (cur : List Value), k ≤ l.length ∧ i = .int .i64 k ∧ cur.length = l.length ∧ wr.heap[w.heap.size]? = some (.cells cur.toArray 2 (0, 0)) ∧ Hid (cur.take k = numsV (l.take k)) ∧ Below w.heap.size w wr) (fun i _ => l.length - (intOf i).toNat)
  case atStart => exact ⟨0, cur0, Nat.zero_le _, rfl, hl0, hg0, by show _ = _; simp [numsV], hb1⟩
  case round =>
    obtain ⟨k, cur, hk, rfl, hlen, hg, HC, hb⟩ := hrel
    clear hb1 hg0 hl0
    have hlt0 : w.heap.size < wr.heap.size := (Array.getElem?_eq_some_iff.1 hg).1
    by_cases hlt : k < l.length
    · obtain ⟨b, off, x, rfl, hbB, hv, hx, d0⟩ := (HR.out.kept (hb.mono hB)).at k hlt
      obtain ⟨HC2, hlen2⟩ := nums_step cur l k hlt hlen HC.out x hv
      have HC3 : Hid ((cur.set k (.int .i64 x)).take (k + 1) = numsV (l.take (k + 1))) := HC2
      clear hv HC HC2
      obtain ⟨x0, hx0⟩ : ∃ v, cur[k]? = some v := ⟨_, List.getElem?_eq_getElem (by omega)⟩
      have e0 : wr.cell? ⟨w.heap.size, k, none⟩ = some x0 := by rw [cell_of_row _ _ _ _ _ _ hg, List.getElem?_toArray, hx0]
      have ef : ∀ j, wr.frozen? ⟨w.heap.size, j, none⟩ = false := fun j => frozen_of_row _ _ _ _ _ hg
      have HG : Hid (wr.heap[w.heap.size]? = some (.cells cur.toArray 2 (0, 0))) := hg
      clear hx0 hg
      go_wp2
      go_roundw
      case rel => exact ⟨k + 1, _, by omega, by go_num, hlen2, (by rw [heap_setCell_same _ _ _ _ _ _ HG.out]; simp), HC3, hb.setCell (Nat.le_refl _) _⟩
      case measure => simp [intOf]; omega
    · obtain rfl : k = l.length := by omega
      have HF : Hid (OwnN w.heap.size (.slice (some ⟨w.heap.size, 0, none⟩) l.length l.length) l wr) := ⟨by simp [numsV], .inr ⟨w.heap.size, l.length, cur.toArray, rfl, Nat.le_refl _, hg, Nat.le_refl _, by unfold maxLen; omega, by simpa using hlen, by have := HC.out; rw [List.take_length] at this; simpa using this⟩⟩
      go_wp2
      go_ret
      exact ⟨_, rfl, HF.out, hb⟩

/-- A row of n numbers in a block of its own, whatever they are. -/
def NumAt (g n : Nat) (w : World) : Prop := ∃ cur : List Value, w.heap[g]? = some (.cells cur.toArray 2 (0, 0)) ∧ n ≤ cur.length
set_option maxHeartbeats 1000000 in
theorem markInt64S_at (g n cap k0 : Nat) (w : World) (hn : n ≤ 1048576) (hk : k0 ≤ 10000000) (hw : NumAt g n w) :
    Calls Try.prog 37 #[.slice (some ⟨g, 0, none⟩) n cap, .int .i64 k0] w fun e w' => e = .returned (.int .i64 ((k0 + n : Nat) : Int)) ∧ w.grownBy w' (some g) := by
  have HW := hide hw
  clear hw
  go_enter Try.func37, Try.ntmps37
  go_wp2
  go_loopw [1, 5] (fun q i wr => ∃ k : Nat, k ≤ n ∧ i = .int .i64 k ∧ q = .int .i64 ((k0 + k : Nat) : Int) ∧ Hid (NumAt g n wr) ∧ w.grownBy wr (some g)) (fun _ i _ => n - (intOf i).toNat)
  case atStart => exact ⟨0, Nat.zero_le _, rfl, rfl, HW, grown_refl _ _⟩
  case round =>
    obtain ⟨k, hk', rfl, rfl, HM, hb⟩ := hrel
    by_cases hlt : k < n
    · obtain ⟨cur, hg, hl⟩ := HM.out
      obtain ⟨x0, hx0⟩ : ∃ v, cur[k]? = some v := ⟨_, List.getElem?_eq_getElem (by omega)⟩
      have e0 : wr.cell? ⟨g, k, none⟩ = some x0 := by rw [cell_of_row _ _ _ _ _ _ hg, List.getElem?_toArray, hx0]
      have ef : ∀ j, wr.frozen? ⟨g, j, none⟩ = false := fun j => frozen_of_row _ _ _ _ _ hg
      have HM2 : Hid (∀ x, NumAt g n (wr.setCell ⟨g, k, none⟩ x)) := fun x => ⟨_, setL_heap hg, by simpa using hl⟩
      clear HM hg hl hx0
      go_wp2
      go_roundw
      case rel => exact ⟨k + 1, by omega, by go_num, by go_num, HM2.out _, grown_setG hb⟩
      case measure => simp [intOf]; omega
    · obtain rfl : k = n := by omega
      go_wp2
      go_ret
      exact ⟨rfl, hb⟩
theorem markInt64S_nil (k0 : Nat) (w : World) : Calls Try.prog 37 #[.slice none 0 0, .int .i64 k0] w fun e w' => e = .returned (.int .i64 k0) ∧ w' = w := by
  go_enter Try.func37, Try.ntmps37
  go_wp2
  go_loop [1, 5] (fun q i => i = .int .i64 0 ∧ q = .int .i64 k0) (fun _ _ => 0)
  case atStart => exact ⟨rfl, rfl⟩
  case round =>
    obtain ⟨rfl, rfl⟩ := hrel
    go_wp2
    go_ret
    exact ⟨rfl, rfl⟩
theorem markInt64S_own (base : Nat) (v : Value) (l : List Int) (k0 : Nat) (w : World) (hn : l.length ≤ 1048576) (hk : k0 ≤ 10000000) (h : OwnN base v l w) :
    Calls Try.prog 37 #[v, .int .i64 k0] w fun e w' => e = .returned (.int .i64 ((k0 + l.length : Nat) : Int)) ∧ w.grownBy w' v.ownBlock := by
  rcases h.2 with ⟨rfl, h0⟩ | ⟨g, cap, cur, rfl, hB, hq, hn', hm, hs, ht⟩
  · refine (markInt64S_nil k0 w).mono ?_
    rintro e w' ⟨rfl, rfl⟩
    rw [h0]
    exact ⟨rfl, grown_refl _ _⟩
  · refine (markInt64S_at g l.length cap k0 w hn hk ⟨cur.toList, by simpa using hq, by simp; omega⟩).mono ?_
    rintro e w' ⟨rfl, hb⟩
    exact ⟨rfl, hb⟩
end Go.Proofs.Ytojfffdbddbakaa
