/-
  Contracts: a list of ops copied.
-/
import Derived.Test.YtpbbmmapbmgijaaBase
import Derived.Test.YtpbbmmapbmgijaaOpTo
namespace Go.Proofs.Ytpbbmmapbmgijaa
open Go.RowKit
set_option maxRecDepth 100000

theorem Try.infoOp : (Try.prog.info? 57).map (fun i => (i.zero, i.size, i.bytes)) = some (some (.agg #[.int .i64 0, .string ⟨#[]⟩, .string ⟨#[]⟩, .slice none 0 0, .slice none 0 0, .slice none 0 0, .slice none 0 0]), 7, 136) := by kernel_rfl
set_option maxHeartbeats 1000000 in
theorem toOpS_any (A B : Nat) (ao : Option Addr) (cap : Nat) (l : List Opn) (w : World) (hB : B ≤ w.heap.size) (hl : l.length ≤ 1048576) (hxl : ∀ i, i < l.length → opFits (l.getD i noOp)) (hr : OpRow w A B ao l) :
    Calls Try.prog 9 #[.slice ao l.length cap] w fun e w' => ∃ bo cp, e = .returned (.slice bo l.length cp) ∧ OpRow w' w.heap.size w'.heap.size bo l ∧ Below w.heap.size w w' := by
  obtain ⟨i0, hi, hz0, hz1, hz2⟩ := info_parts Try.infoOp
  have HR : Hid (OpRow w A B ao l) := hr
  clear hr
  go_enter Try.func9, Try.ntmps9
  go_wp2_with (at_make; refine wpList_make_full _ rfl _ _ 25 rfl w.heap.size 57 i0 (.agg #[.int .i64 0, .string ⟨#[]⟩, .string ⟨#[]⟩, .slice none 0 0, .slice none 0 0, .slice none 0 0, .slice none 0 0]) 7 Try.underlying25 hi hz0 hz1 .i64 .i64 _ _ l.length rfl rfl rfl rfl (by rw [hz2]; omega) (by unfold maxLen; omega) (Nat.le_refl _) ?_; intro w1 hown1 hgrow1)
  obtain ⟨cur0, hg0, hl0⟩ : ∃ cur : List Value, w1.heap[w.heap.size]? = some (.cells cur.toArray 57 (0, 0)) ∧ cur.length = l.length * 7 := by
    rcases hown1.2 with ⟨h, _⟩ | ⟨g, cap', cur, hv, _, hg, _, _, hs, _⟩
    · simp at h
    · simp at hv
      obtain ⟨rfl, rfl⟩ := hv
      exact ⟨cur.toList, by simpa using hg, by simpa using hs⟩
  have hb1 : Below w.heap.size w w1 := (Below.refl _ _).grown hgrow1 (Nat.le_refl _) (fun j hj => by simp at hj)
  clear hown1 hgrow1
  go_loopw [4] (fun i wr => ∃ (k : Nat) (cur : List Value), k ≤ l.length ∧ i = .int .i64 k ∧ cur.length = l.length * 7 ∧ wr.heap[w.heap.size]? = some (.cells cur.toArray 57 (0, 0)) ∧ Hid (OpCur wr w.heap.size cur l k) ∧ Below w.heap.size w wr) (fun i _ => l.length - (intOf i).toNat)
  case atStart => exact ⟨0, cur0, Nat.zero_le _, rfl, hl0, hg0, fun i hi => absurd hi (Nat.not_lt_zero _), hb1⟩
  case round =>
    obtain ⟨k, cur, hk, rfl, hlen, hg, HC, hb⟩ := hrel
    clear hb1 hg0 hl0
    have hlt0 : w.heap.size < wr.heap.size := (Array.getElem?_eq_some_iff.1 hg).1
    by_cases hlt : k < l.length
    · obtain ⟨b, off, o, a1, c1, a2, c2, a3, c3, a4, c4, rfl, hbB, hv, hok, hs, hva, d0, d1, d2, d3, d4, d5, d6⟩ := (HR.out.kept (hb.mono hB)).at k hlt
      have HV : Hid (l.getD k noOp = o) := hv
      have HT := hide (toOp_any A B o a1 c1 a2 c2 a3 c3 a4 c4 wr (Nat.le_trans hB hb.size) (hv ▸ hxl k hlt) hok hs hva)
      clear hv hok hs hva
      go_wp2_with fail
      refine HT.out.mono ?_
      rintro e w2 ⟨b1, q1, b2, q2, b3, q3, b4, q4, rfl, he2, hb2⟩
      have hg2 : w2.heap[w.heap.size]? = some (.cells cur.toArray 57 (0, 0)) := (hb2.block _ hlt0).trans hg
      have hk7 : k * 7 + 7 ≤ cur.length := by omega
      have HC3 : Hid (OpCur (set7 w2 w.heap.size (k * 7) (.int .i64 o.kind) (.string o.table) (.string o.sch.name) (.slice b1 o.sch.cols.length q1) (.slice b2 o.sch.key.length q2) (.slice b3 o.sch.idx.length q3) (.slice b4 o.row.length q4)) w.heap.size (lset7 cur (k * 7) (.int .i64 o.kind) (.string o.table) (.string o.sch.name) (.slice b1 o.sch.cols.length q1) (.slice b2 o.sch.key.length q2) (.slice b3 o.sch.idx.length q3) (.slice b4 o.row.length q4)) l (k + 1)) := opCur_step HC.out hb2 hk7 (by rw [HV.out]; exact he2.mono (by omega) (Nat.le_refl _))
      have hb3 := hb.trans (hb2.mono hb.size)
      have e0 : ∃ v, w2.cell? ⟨w.heap.size, k * 7, none⟩ = some v := ⟨_, by rw [cell_of_row _ _ _ _ _ _ hg2, List.getElem?_toArray]; exact List.getElem?_eq_getElem (by omega)⟩
      have e1 : ∃ v, w2.cell? ⟨w.heap.size, k * 7 + 1, none⟩ = some v := ⟨_, by rw [cell_of_row _ _ _ _ _ _ hg2, List.getElem?_toArray]; exact List.getElem?_eq_getElem (by omega)⟩
      have e2 : ∃ v, w2.cell? ⟨w.heap.size, k * 7 + 2, none⟩ = some v := ⟨_, by rw [cell_of_row _ _ _ _ _ _ hg2, List.getElem?_toArray]; exact List.getElem?_eq_getElem (by omega)⟩
      have e3 : ∃ v, w2.cell? ⟨w.heap.size, k * 7 + 3, none⟩ = some v := ⟨_, by rw [cell_of_row _ _ _ _ _ _ hg2, List.getElem?_toArray]; exact List.getElem?_eq_getElem (by omega)⟩
      have e4 : ∃ v, w2.cell? ⟨w.heap.size, k * 7 + 4, none⟩ = some v := ⟨_, by rw [cell_of_row _ _ _ _ _ _ hg2, List.getElem?_toArray]; exact List.getElem?_eq_getElem (by omega)⟩
      have e5 : ∃ v, w2.cell? ⟨w.heap.size, k * 7 + 5, none⟩ = some v := ⟨_, by rw [cell_of_row _ _ _ _ _ _ hg2, List.getElem?_toArray]; exact List.getElem?_eq_getElem (by omega)⟩
      have e6 : ∃ v, w2.cell? ⟨w.heap.size, k * 7 + 6, none⟩ = some v := ⟨_, by rw [cell_of_row _ _ _ _ _ _ hg2, List.getElem?_toArray]; exact List.getElem?_eq_getElem (by omega)⟩
      obtain ⟨u0, e0⟩ := e0
      obtain ⟨u1, e1⟩ := e1
      obtain ⟨u2, e2⟩ := e2
      obtain ⟨u3, e3⟩ := e3
      obtain ⟨u4, e4⟩ := e4
      obtain ⟨u5, e5⟩ := e5
      obtain ⟨u6, e6⟩ := e6
      have ef : ∀ j, w2.frozen? ⟨w.heap.size, j, none⟩ = false := fun j => frozen_of_row _ _ _ _ _ hg2
      have HG := hide (set7_heap (m := k * 7) (x0 := .int .i64 o.kind) (x1 := .string o.table) (x2 := .string o.sch.name) (x3 := .slice b1 o.sch.cols.length q1) (x4 := .slice b2 o.sch.key.length q2) (x5 := .slice b3 o.sch.idx.length q3) (x6 := .slice b4 o.row.length q4) hg2)
      have hlen2 : (lset7 cur (k * 7) (.int .i64 o.kind) (.string o.table) (.string o.sch.name) (.slice b1 o.sch.cols.length q1) (.slice b2 o.sch.key.length q2) (.slice b3 o.sch.idx.length q3) (.slice b4 o.row.length q4)).length = l.length * 7 := (lset7_len _ _ _ _ _ _ _ _ _).trans hlen
      have HB3 := hide (set7_below (m := k * 7) (x0 := .int .i64 o.kind) (x1 := .string o.table) (x2 := .string o.sch.name) (x3 := .slice b1 o.sch.cols.length q1) (x4 := .slice b2 o.sch.key.length q2) (x5 := .slice b3 o.sch.idx.length q3) (x6 := .slice b4 o.row.length q4) hb3 (Nat.le_refl _))
      clear hg2 hg d0 d1 d2 d3 d4 d5 d6 hb hb2 hb3 he2 HC HV HT hk7
      go_wp2
      go_roundw
      case rel => exact ⟨k + 1, lset7 cur (k * 7) (.int .i64 o.kind) (.string o.table) (.string o.sch.name) (.slice b1 o.sch.cols.length q1) (.slice b2 o.sch.key.length q2) (.slice b3 o.sch.idx.length q3) (.slice b4 o.row.length q4), by omega, by go_num, hlen2, HG.out, HC3, HB3.out⟩
      case measure => simp [intOf]; omega
    · obtain rfl : k = l.length := by omega
      have HF := hide (opRow_of hg HC.out)
      go_wp2
      go_ret
      exact ⟨_, _, rfl, HF.out, hb⟩
end Go.Proofs.Ytpbbmmapbmgijaa
