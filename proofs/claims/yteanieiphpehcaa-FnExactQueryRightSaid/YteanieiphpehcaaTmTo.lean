/-
  Contracts: Terms copied.
-/
import Derived.Test.YteanieiphpehcaaRows
import Derived.Test.YteanieiphpehcaaTmP
import Derived.Test.YteanieiphpehcaaFlatV
import Derived.Deep.RegionHeld3
import Derived.OwnWalk
import Derived.WalkLawsBesides
import Derived.Laws.ResultCell
import Derived.Deep.CutRange
import Derived.Test.YteanieiphpehcaaVal1
namespace Go.Proofs.Yteanieiphpehcaa
open Go.RowKit
set_option maxRecDepth 100000

theorem Try.infoTrm : (Try.prog.info? 52).map (fun i => (i.zero, i.size, i.bytes)) = some (some (.agg #[.string ⟨#[]⟩, .string ⟨#[]⟩, .int .i64 0, .int .i64 0, .string ⟨#[]⟩]), 5, 64) := by kernel_rfl

theorem cellsN5 {w : World} {g : Nat} {x0 x1 x2 x3 x4 : Value} {t : TypeId} (h : w.heap[g]? = some (.cells #[x0, x1, x2, x3, x4] t (0, 0))) :
    w.cell? ⟨g, 0, none⟩ = some x0 ∧ w.cell? ⟨g, 1, none⟩ = some x1 ∧ w.cell? ⟨g, 2, none⟩ = some x2 ∧ w.cell? ⟨g, 3, none⟩ = some x3 ∧ w.cell? ⟨g, 4, none⟩ = some x4 ∧ ∀ j, w.frozen? ⟨g, j, none⟩ = false := by
  refine ⟨?_, ?_, ?_, ?_, ?_, fun j => frozen_of_row _ _ _ _ _ h⟩ <;> (rw [cell_of_row _ _ _ _ _ _ h]; rfl)
theorem resTerm {fn : Func} {p : Tmp} (h : fn.results = #[.cell p 52]) (tmps : Array Value) (w : World) (g : Nat) (x0 x1 x2 x3 x4 : Value) (hp : tmps.getD p undef = .pointer (some ⟨g, 0, none⟩))
    (hg : w.heap[g]? = some (.cells #[x0, x1, x2, x3, x4] 52 (0, 0))) : (results fn tmps).run Try.prog w = .ok (.agg #[x0, x1, x2, x3, x4]) w :=
  results_cell_row h tmps w g 52 #[x0, x1, x2, x3, x4] (0, 0) _ hp hg Try.underlying52 rfl (by kernel_rfl)
set_option maxHeartbeats 4000000 in
theorem toTerm_any (col : ByteArray) (op : ByteArray) (kind : Int) (num : Int) (text : ByteArray) (w : World) :
    Calls Try.prog 44 #[.agg #[.string col, .string op, .int .i64 kind, .int .i64 num, .string text]] w fun e w' => e = .returned (.agg #[.string col, .string op, .int .i64 kind, .int .i64 num, .string text]) ∧ Below w.heap.size w w' := by
  have HV := hide (fun (W : World) (_ : Below w.heap.size w W) => toValue_any kind num text W)
  have X0 := hide (heap_alloc_new w (.cells #[.string col, .string op, .int .i64 kind, .int .i64 num, .string text] 74))
  have B0 := hide ((Below.refl w.heap.size w).alloc (Nat.le_refl _) (.cells #[.string col, .string op, .int .i64 kind, .int .i64 num, .string text] 74))
  have Z0 : Hid ((w.alloc (.cells #[.string col, .string op, .int .i64 kind, .int .i64 num, .string text] 74)).heap.size = w.heap.size + 1) := by show _ = _; simp
  have Y0 := hide (show ((w.alloc (.cells #[.string col, .string op, .int .i64 kind, .int .i64 num, .string text] 74)).alloc (.cells #[.string ⟨#[]⟩, .string ⟨#[]⟩, .int .i64 0, .int .i64 0, .string ⟨#[]⟩] 52)).heap[w.heap.size + 1]? = some (.cells #[.string ⟨#[]⟩, .string ⟨#[]⟩, .int .i64 0, .int .i64 0, .string ⟨#[]⟩] 52 (0, 0)) from by have := heap_alloc_new (w.alloc (.cells #[.string col, .string op, .int .i64 kind, .int .i64 num, .string text] 74)) (.cells #[.string ⟨#[]⟩, .string ⟨#[]⟩, .int .i64 0, .int .i64 0, .string ⟨#[]⟩] 52); rw [Z0.out] at this; exact this)
  have Z1 : Hid (((w.alloc (.cells #[.string col, .string op, .int .i64 kind, .int .i64 num, .string text] 74)).alloc (.cells #[.string ⟨#[]⟩, .string ⟨#[]⟩, .int .i64 0, .int .i64 0, .string ⟨#[]⟩] 52)).heap.size = w.heap.size + 2) := by show _ = _; simp
  have V0 := hide (show (((w.alloc (.cells #[.string col, .string op, .int .i64 kind, .int .i64 num, .string text] 74)).alloc (.cells #[.string ⟨#[]⟩, .string ⟨#[]⟩, .int .i64 0, .int .i64 0, .string ⟨#[]⟩] 52)).alloc (.cells #[.string ⟨#[]⟩, .string ⟨#[]⟩, .int .i64 0, .int .i64 0, .string ⟨#[]⟩] 52)).heap[w.heap.size + 2]? = some (.cells #[.string ⟨#[]⟩, .string ⟨#[]⟩, .int .i64 0, .int .i64 0, .string ⟨#[]⟩] 52 (0, 0)) from by have := heap_alloc_new ((w.alloc (.cells #[.string col, .string op, .int .i64 kind, .int .i64 num, .string text] 74)).alloc (.cells #[.string ⟨#[]⟩, .string ⟨#[]⟩, .int .i64 0, .int .i64 0, .string ⟨#[]⟩] 52)) (.cells #[.string ⟨#[]⟩, .string ⟨#[]⟩, .int .i64 0, .int .i64 0, .string ⟨#[]⟩] 52); rw [Z1.out] at this; exact this)
  have XA := hide ((heap_old ((w.alloc (.cells #[.string col, .string op, .int .i64 kind, .int .i64 num, .string text] 74)).alloc (.cells #[.string ⟨#[]⟩, .string ⟨#[]⟩, .int .i64 0, .int .i64 0, .string ⟨#[]⟩] 52)) (.cells #[.string ⟨#[]⟩, .string ⟨#[]⟩, .int .i64 0, .int .i64 0, .string ⟨#[]⟩] 52) w.heap.size (by rw [Z1.out]; omega)).trans ((heap_old (w.alloc (.cells #[.string col, .string op, .int .i64 kind, .int .i64 num, .string text] 74)) (.cells #[.string ⟨#[]⟩, .string ⟨#[]⟩, .int .i64 0, .int .i64 0, .string ⟨#[]⟩] 52) w.heap.size (by rw [Z0.out]; omega)).trans X0.out))
  have YA := hide ((heap_old ((w.alloc (.cells #[.string col, .string op, .int .i64 kind, .int .i64 num, .string text] 74)).alloc (.cells #[.string ⟨#[]⟩, .string ⟨#[]⟩, .int .i64 0, .int .i64 0, .string ⟨#[]⟩] 52)) (.cells #[.string ⟨#[]⟩, .string ⟨#[]⟩, .int .i64 0, .int .i64 0, .string ⟨#[]⟩] 52) (w.heap.size + 1) (by rw [Z1.out]; omega)).trans Y0.out)
  have BA := hide ((B0.out.alloc B0.out.size (.cells #[.string ⟨#[]⟩, .string ⟨#[]⟩, .int .i64 0, .int .i64 0, .string ⟨#[]⟩] 52)).alloc (Nat.le_trans B0.out.size (by simp)) (.cells #[.string ⟨#[]⟩, .string ⟨#[]⟩, .int .i64 0, .int .i64 0, .string ⟨#[]⟩] 52))
  clear X0 B0 Y0
  go_enter Try.func44, Try.ntmps44
  go_upto_region 2 with fail
  generalize ((w.alloc (.cells #[.string col, .string op, .int .i64 kind, .int .i64 num, .string text] 74)).alloc (.cells #[.string ⟨#[]⟩, .string ⟨#[]⟩, .int .i64 0, .int .i64 0, .string ⟨#[]⟩] 52)).alloc (.cells #[.string ⟨#[]⟩, .string ⟨#[]⟩, .int .i64 0, .int .i64 0, .string ⟨#[]⟩] 52) = U0 at *
  obtain ⟨g, hg⟩ : ∃ g, g = w.heap.size + 1 + 1 := ⟨_, rfl⟩
  have VA := hide (show U0.heap[g]? = some (.cells #[.string ⟨#[]⟩, .string ⟨#[]⟩, .int .i64 0, .int .i64 0, .string ⟨#[]⟩] 52 (0, 0)) from by rw [hg]; exact V0.out)
  have HG : Hid (w.heap.size + 1 < g) := by show _ < _; omega
  rw [← hg]
  clear hg V0 Z0 Z1
  have hgx' : ¬ w.heap.size = g := by have := HG.out; omega
  have hgx : ¬ g = w.heap.size := by have := HG.out; omega
  have hgy : ¬ w.heap.size + 1 = g := by have := HG.out; omega
  have hgy' : ¬ g = w.heap.size + 1 := by have := HG.out; omega
  have hgw : w.heap.size ≤ g := by have := HG.out; omega
  obtain ⟨x0, x1, x2, x3, x4, xf⟩ := cellsN5 XA.out
  obtain ⟨v0, v1, v2, v3, v4, vf⟩ := cellsN5 VA.out
  have BAs := hide ((BA.out.setCell (p := ⟨g, 0, none⟩) hgw (.string col)).setCell (p := ⟨g, 1, none⟩) hgw (.string op))
  have XAs := hide (show ((U0.setCell ⟨g, 0, none⟩ (.string col)).setCell ⟨g, 1, none⟩ (.string op)).heap[w.heap.size]? = some (.cells #[.string col, .string op, .int .i64 kind, .int .i64 num, .string text] 74 (0, 0)) from by rw [heap_setCell_other _ _ _ _ (show w.heap.size ≠ g from hgx'), heap_setCell_other _ _ _ _ (show w.heap.size ≠ g from hgx')]; exact XA.out)
  have YAs := hide (show ((U0.setCell ⟨g, 0, none⟩ (.string col)).setCell ⟨g, 1, none⟩ (.string op)).heap[w.heap.size + 1]? = some (.cells #[.string ⟨#[]⟩, .string ⟨#[]⟩, .int .i64 0, .int .i64 0, .string ⟨#[]⟩] 52 (0, 0)) from by rw [heap_setCell_other _ _ _ _ (show w.heap.size + 1 ≠ g from hgy), heap_setCell_other _ _ _ _ (show w.heap.size + 1 ≠ g from hgy)]; exact YA.out)
  have VAs : Hid (((U0.setCell ⟨g, 0, none⟩ (.string col)).setCell ⟨g, 1, none⟩ (.string op)).heap[g]? = some (.cells #[.string col, .string op, .int .i64 0, .int .i64 0, .string ⟨#[]⟩] 52 (0, 0))) := by
    have h0 := heap_setCell_same _ g 0 _ _ (.string col) VA.out
    have h1 := heap_setCell_same _ g 1 _ _ (.string op) h0
    show _ = _
    simpa using h1
  go_upto_region 4 with fail
  generalize (U0.setCell ⟨g, 0, none⟩ (.string col)).setCell ⟨g, 1, none⟩ (.string op) = U1 at *
  clear x0 x1 x2 x3 x4 xf v0 v1 v2 v3 v4 vf BA XA YA VA
  obtain ⟨x0, x1, x2, x3, x4, xf⟩ := cellsN5 XAs.out
  go_wp2_with fail
  refine (HV.out _ BAs.out).mono ?_
  rintro e U2 ⟨rfl, kb⟩
  have XAsc := hide ((kb.block _ (blkG XAs.out)).trans XAs.out)
  have YAsc := hide ((kb.block _ (blkG YAs.out)).trans YAs.out)
  have VAsc := hide ((kb.block _ (blkG VAs.out)).trans VAs.out)
  have GT1 : Hid (g < U1.heap.size) := blkG VAs.out
  have GW1 : Hid (w.heap.size ≤ U1.heap.size) := BAs.out.size
  have BAsc := hide (BAs.out.trans (kb.mono BAs.out.size))
  clear kb x0 x1 x2 x3 x4 xf BAs XAs YAs VAs
  obtain ⟨v0, v1, v2, v3, v4, vf⟩ := cellsN5 VAsc.out
  have BAscs := hide (((BAsc.out.setCell (p := ⟨g, 2, none⟩) hgw (.int .i64 kind)).setCell (p := ⟨g, 3, none⟩) hgw (.int .i64 num)).setCell (p := ⟨g, 4, none⟩) hgw (.string text))
  have XAscs := hide (show (((U2.setCell ⟨g, 2, none⟩ (.int .i64 kind)).setCell ⟨g, 3, none⟩ (.int .i64 num)).setCell ⟨g, 4, none⟩ (.string text)).heap[w.heap.size]? = some (.cells #[.string col, .string op, .int .i64 kind, .int .i64 num, .string text] 74 (0, 0)) from by rw [heap_setCell_other _ _ _ _ (show w.heap.size ≠ g from hgx'), heap_setCell_other _ _ _ _ (show w.heap.size ≠ g from hgx'), heap_setCell_other _ _ _ _ (show w.heap.size ≠ g from hgx')]; exact XAsc.out)
  have YAscs := hide (show (((U2.setCell ⟨g, 2, none⟩ (.int .i64 kind)).setCell ⟨g, 3, none⟩ (.int .i64 num)).setCell ⟨g, 4, none⟩ (.string text)).heap[w.heap.size + 1]? = some (.cells #[.string ⟨#[]⟩, .string ⟨#[]⟩, .int .i64 0, .int .i64 0, .string ⟨#[]⟩] 52 (0, 0)) from by rw [heap_setCell_other _ _ _ _ (show w.heap.size + 1 ≠ g from hgy), heap_setCell_other _ _ _ _ (show w.heap.size + 1 ≠ g from hgy), heap_setCell_other _ _ _ _ (show w.heap.size + 1 ≠ g from hgy)]; exact YAsc.out)
  have VAscs : Hid ((((U2.setCell ⟨g, 2, none⟩ (.int .i64 kind)).setCell ⟨g, 3, none⟩ (.int .i64 num)).setCell ⟨g, 4, none⟩ (.string text)).heap[g]? = some (.cells #[.string col, .string op, .int .i64 kind, .int .i64 num, .string text] 52 (0, 0))) := by
    have h0 := heap_setCell_same _ g 2 _ _ (.int .i64 kind) VAsc.out
    have h1 := heap_setCell_same _ g 3 _ _ (.int .i64 num) h0
    have h2 := heap_setCell_same _ g 4 _ _ (.string text) h1
    show _ = _
    simpa using h2
  go_upto_region 5 with fail
  generalize ((U2.setCell ⟨g, 2, none⟩ (.int .i64 kind)).setCell ⟨g, 3, none⟩ (.int .i64 num)).setCell ⟨g, 4, none⟩ (.string text) = U3 at *
  clear v0 v1 v2 v3 v4 vf BAsc XAsc YAsc VAsc
  obtain ⟨v0, v1, v2, v3, v4, vf⟩ := cellsN5 VAscs.out
  obtain ⟨y0, y1, y2, y3, y4, yf⟩ := cellsN5 YAscs.out
  have BF := hide (setL_below (g := w.heap.size + 1) (m := 0) [.string col, .string op, .int .i64 kind, .int .i64 num, .string text] BAscs.out (Nat.le_succ _))
  have YF := hide (setL_heapL (m := 0) [.string col, .string op, .int .i64 kind, .int .i64 num, .string text] (cur := [.string ⟨#[]⟩, .string ⟨#[]⟩, .int .i64 0, .int .i64 0, .string ⟨#[]⟩]) YAscs.out)
  go_wp2
  refine bodyPost_ret (v := .agg #[.string col, .string op, .int .i64 kind, .int .i64 num, .string text]) (resTerm Try.results44 _ _ (w.heap.size + 1) _ _ _ _ _ rfl YF.out) rfl ⟨rfl, BF.out⟩
set_option maxHeartbeats 2000000 in
theorem toTermS_any (A B : Nat) (ao : Option Addr) (cap : Nat) (l : List Trm) (w : World) (hB : B ≤ w.heap.size) (hl : l.length ≤ 1048576) (hr : TrmRow w A B ao l) :
    Calls Try.prog 27 #[.slice ao l.length cap] w fun e w' => ∃ bo cp, e = .returned (.slice bo l.length cp) ∧ TrmRow w' w.heap.size w'.heap.size bo l ∧ Below w.heap.size w w' := by
  obtain ⟨i0, hi, hz0, hz1, hz2⟩ := info_parts Try.infoTrm
  have HR : Hid (TrmRow w A B ao l) := hr
  clear hr
  go_enter Try.func27, Try.ntmps27
  go_wp2_with (at_make; refine wpList_make_full _ rfl _ _ 37 rfl w.heap.size 52 i0 (.agg #[.string ⟨#[]⟩, .string ⟨#[]⟩, .int .i64 0, .int .i64 0, .string ⟨#[]⟩]) 5 Try.underlying37 hi hz0 hz1 .i64 .i64 _ _ l.length rfl rfl rfl rfl (by rw [hz2]; omega) (by unfold maxLen; omega) (Nat.le_refl _) ?_; intro w1 hown1 hgrow1)
  obtain ⟨cur0, hg0, hl0⟩ : ∃ cur : List Value, w1.heap[w.heap.size]? = some (.cells cur.toArray 52 (0, 0)) ∧ cur.length = l.length * 5 := by
    rcases hown1.2 with ⟨h, _⟩ | ⟨g, cap', cur, hv, _, hg, _, _, hs, _⟩
    · simp at h
    · simp at hv
      obtain ⟨rfl, rfl⟩ := hv
      exact ⟨cur.toList, by simpa using hg, by simpa using hs⟩
  have hb1 : Below w.heap.size w w1 := (Below.refl _ _).grown hgrow1 (Nat.le_refl _) (fun j hj => by simp at hj)
  clear hown1 hgrow1
  go_loopw [4] (fun i wr => ∃ (k : Nat) (cur : List Value), k ≤ l.length ∧ i = .int .i64 k ∧ cur.length = l.length * 5 ∧ wr.heap[w.heap.size]? = some (.cells cur.toArray 52 (0, 0)) ∧ Hid (FCur tmCells noTrm 5 cur l k) ∧ Below w.heap.size w wr) (fun i _ => l.length - (intOf i).toNat)
  case atStart => exact ⟨0, cur0, Nat.zero_le _, rfl, hl0, hg0, FCur.zero _ _, hb1⟩
  case round =>
    obtain ⟨k, cur, hk, rfl, hlen, hg, HC, hb⟩ := hrel
    clear hb1 hg0 hl0
    have hlt0 : w.heap.size < wr.heap.size := (Array.getElem?_eq_some_iff.1 hg).1
    by_cases hlt : k < l.length
    · obtain ⟨b, off, col, op, kind, num, text, rfl, hbB, hv, hfit, d0, d1, d2, d3, d4⟩ := TrmRow.at (FRow.kept HR.out (hb.mono hB)) k hlt
      have HC2 := hide (FCur.step tmCells_len HC.out (show k * 5 + 5 ≤ cur.length by omega) (show tmCells (l.getD k noTrm) = [.string col, .string op, .int .i64 kind, .int .i64 num, .string text] by rw [hv]; rfl))
      clear hv HC hfit
      go_wp2_with fail
      refine (toTerm_any col op kind num text _).mono ?_
      rintro e w2 ⟨rfl, hb2⟩
      have hg2 : w2.heap[w.heap.size]? = some (.cells cur.toArray 52 (0, 0)) := (hb2.block _ hlt0).trans hg
      have hb3 := hb.trans (hb2.mono hb.size)
      obtain ⟨x0, hx0⟩ : ∃ v, cur[k * 5]? = some v := ⟨_, List.getElem?_eq_getElem (by omega)⟩
      have e0 : w2.cell? ⟨w.heap.size, k * 5, none⟩ = some x0 := by rw [cell_of_row _ _ _ _ _ _ hg2, List.getElem?_toArray, hx0]
      obtain ⟨x1, hx1⟩ : ∃ v, cur[k * 5 + 1]? = some v := ⟨_, List.getElem?_eq_getElem (by omega)⟩
      have e1 : w2.cell? ⟨w.heap.size, k * 5 + 1, none⟩ = some x1 := by rw [cell_of_row _ _ _ _ _ _ hg2, List.getElem?_toArray, hx1]
      obtain ⟨x2, hx2⟩ : ∃ v, cur[k * 5 + 2]? = some v := ⟨_, List.getElem?_eq_getElem (by omega)⟩
      have e2 : w2.cell? ⟨w.heap.size, k * 5 + 2, none⟩ = some x2 := by rw [cell_of_row _ _ _ _ _ _ hg2, List.getElem?_toArray, hx2]
      obtain ⟨x3, hx3⟩ : ∃ v, cur[k * 5 + 3]? = some v := ⟨_, List.getElem?_eq_getElem (by omega)⟩
      have e3 : w2.cell? ⟨w.heap.size, k * 5 + 3, none⟩ = some x3 := by rw [cell_of_row _ _ _ _ _ _ hg2, List.getElem?_toArray, hx3]
      obtain ⟨x4, hx4⟩ : ∃ v, cur[k * 5 + 4]? = some v := ⟨_, List.getElem?_eq_getElem (by omega)⟩
      have e4 : w2.cell? ⟨w.heap.size, k * 5 + 4, none⟩ = some x4 := by rw [cell_of_row _ _ _ _ _ _ hg2, List.getElem?_toArray, hx4]
      have ef : ∀ j, w2.frozen? ⟨w.heap.size, j, none⟩ = false := fun j => frozen_of_row _ _ _ _ _ hg2
      have HG : Hid (w2.heap[w.heap.size]? = some (.cells cur.toArray 52 (0, 0))) := hg2
      clear hx0 d0 hx1 d1 hx2 d2 hx3 d3 hx4 d4 hg2 hg hb hb2
      go_wp2
      go_roundw
      case rel => exact ⟨k + 1, _, by omega, by go_num, (lsetL_len _ _ _).trans hlen, setL_heapL [.string col, .string op, .int .i64 kind, .int .i64 num, .string text] HG.out, HC2, setL_below [.string col, .string op, .int .i64 kind, .int .i64 num, .string text] hb3 (Nat.le_refl _)⟩
      case measure => simp [intOf]; omega
    · obtain rfl : k = l.length := by omega
      have HF : Hid (TrmRow wr w.heap.size wr.heap.size (some ⟨w.heap.size, 0, none⟩) l) := fRow_of hg HR.out.1 HC.out
      go_wp2
      go_ret
      exact ⟨_, _, rfl, HF.out, hb⟩
end Go.Proofs.Yteanieiphpehcaa
