/-
  Contracts: indexes and schemas copied.
-/
import Derived.Test.YtkhklfnhninkjaaGreatBase
import Derived.Test.YtkhklfnhninkjaaGreatSCopy2
namespace Go.Proofs.YtkhklfnhninkjaaGreat
open Go.RowKit
set_option maxRecDepth 100000

/-- The first k indexes stand in a block's cells, their numbers in blocks behind it. -/
def IdxCur (w : World) (g : Nat) (cur : List Value) (xs : List Idx) (k : Nat) : Prop :=
  ∀ i, i < k → ∃ io cp, cur[i * 2]? = some (.slice io (xs.getD i noIdx).cols.length cp) ∧ cur[i * 2 + 1]? = some (.bool (xs.getD i noIdx).uniq) ∧ ((xs.getD i noIdx).cols.length ≤ cp ∧ cp ≤ maxLen) ∧ IntRow w (g + 1) w.heap.size io (xs.getD i noIdx).cols
theorem idxCur_step {w w' : World} {g : Nat} {cur : List Value} {xs : List Idx} {k : Nat} (h : IdxCur w g cur xs k) (hb : Below w.heap.size w w') (hl : k * 2 + 2 ≤ cur.length) {bo : Option Addr} {cp : Nat} {l : List Int} {u : Bool} (hx : xs.getD k noIdx = ⟨l, u⟩)
    (hcp : l.length ≤ cp ∧ cp ≤ maxLen) (hr : IntRow w' (g + 1) w'.heap.size bo l) : IdxCur ((w'.setCell ⟨g, k * 2, none⟩ (.slice bo l.length cp)).setCell ⟨g, k * 2 + 1, none⟩ (.bool u)) g ((cur.set (k * 2) (.slice bo l.length cp)).set (k * 2 + 1) (.bool u)) xs (k + 1) := by
  intro i hi
  by_cases he : i = k
  · subst he
    refine ⟨bo, cp, ?_, ?_, by rw [hx]; exact hcp, ?_⟩
    · rw [hx, List.getElem?_set_ne (by omega), List.getElem?_set_self (by omega)]
    · rw [hx, List.getElem?_set_self (by simp; omega)]
    · rw [hx]; exact ((hr.other _ _ _ (by omega)).other _ _ _ (by omega)).mono (Nat.le_refl _) (by simp)
  · obtain ⟨io, cq, c0, c1, hcq, hr0⟩ := h i (by omega)
    refine ⟨io, cq, ?_, ?_, hcq, ?_⟩
    · rw [List.getElem?_set_ne (by omega), List.getElem?_set_ne (by omega)]; exact c0
    · rw [List.getElem?_set_ne (by omega), List.getElem?_set_ne (by omega)]; exact c1
    · exact (((hr0.kept hb).other _ _ _ (by omega)).other _ _ _ (by omega)).mono (Nat.le_refl _) (by simpa using hb.size)
theorem idxRow_of {w : World} {g : Nat} {cur : List Value} {t : TypeId} {f : Nat × Nat} {xs : List Idx} (hg : w.heap[g]? = some (.cells cur.toArray t f)) (hc : IdxCur w g cur xs xs.length): IdxRow w g w.heap.size (some ⟨g, 0, none⟩) xs := by
  have hlt : g < w.heap.size := (Array.getElem?_eq_some_iff.1 hg).1
  refine .inr ⟨g, 0, rfl, Nat.le_refl _, hlt, fun i hi => ?_⟩
  obtain ⟨io, cp, c0, c1, hcp, hr⟩ := hc i hi
  refine ⟨io, cp, ?_, ?_, hcp, hr.mono (by omega) (Nat.le_refl _)⟩
  · rw [cell_of_row _ _ _ _ _ _ hg, List.getElem?_toArray, Nat.zero_add, c0]
  · rw [cell_of_row _ _ _ _ _ _ hg, List.getElem?_toArray, Nat.zero_add, c1]
theorem set2_heap {W : World} {g m : Nat} {cur : List Value} {t : TypeId} {x y : Value} (h : W.heap[g]? = some (.cells cur.toArray t (0, 0))) :
    ((W.setCell ⟨g, m, none⟩ x).setCell ⟨g, m + 1, none⟩ y).heap[g]? = some (.cells ((cur.set m x).set (m + 1) y).toArray t (0, 0)) := by
  have h1 := heap_setCell_same W g m _ t x h
  have h2 := heap_setCell_same _ g (m + 1) _ t y h1
  rw [h2]; simp
set_option maxHeartbeats 1000000 in
theorem toIndexS_any (A B : Nat) (ao : Option Addr) (cap : Nat) (xs : List Idx) (w : World) (hB : B ≤ w.heap.size) (hl : xs.length ≤ 1048576) (hxl : ∀ x ∈ xs, x.cols.length ≤ 1048576) (hr : IdxRow w A B ao xs) :
    Calls Tryz.prog 32 #[.slice ao xs.length cap] w fun e w' => ∃ bo cp, e = .returned (.slice bo xs.length cp) ∧ IdxRow w' w.heap.size w'.heap.size bo xs ∧ Below w.heap.size w w' := by
  obtain ⟨i0, hi, hz0, hz1, hz2⟩ := info_parts Tryz.infoIdx
  have HR : Hid (IdxRow w A B ao xs) := hr
  clear hr
  go_enter Tryz.func32, Tryz.ntmps32
  go_wp2_with (at_make; refine wpList_make_full _ rfl _ _ 33 rfl w.heap.size 69 i0 (.agg #[.slice none 0 0, .bool false]) 2 Tryz.underlying33 hi hz0 hz1 .i64 .i64 _ _ xs.length rfl rfl rfl rfl (by rw [hz2]; omega) (by unfold maxLen; omega) (Nat.le_refl _) ?_; intro w1 hown1 hgrow1)
  obtain ⟨cur0, hg0, hl0⟩ : ∃ cur : List Value, w1.heap[w.heap.size]? = some (.cells cur.toArray 69 (0, 0)) ∧ cur.length = xs.length * 2 := by
    rcases hown1.2 with ⟨h, _⟩ | ⟨g, cap', cur, hv, _, hg, _, _, hs, _⟩
    · simp at h
    · simp at hv
      obtain ⟨rfl, rfl⟩ := hv
      exact ⟨cur.toList, by simpa using hg, by simpa using hs⟩
  have hb1 : Below w.heap.size w w1 := (Below.refl _ _).grown hgrow1 (Nat.le_refl _) (fun j hj => by simp at hj)
  clear hown1 hgrow1
  go_loopw [4] (fun i wr => ∃ (k : Nat) (cur : List Value), k ≤ xs.length ∧ i = .int .i64 k ∧ cur.length = xs.length * 2 ∧ wr.heap[w.heap.size]? = some (.cells cur.toArray 69 (0, 0)) ∧ Hid (IdxCur wr w.heap.size cur xs k) ∧ Below w.heap.size w wr) (fun i _ => xs.length - (intOf i).toNat)
  case atStart => exact ⟨0, cur0, Nat.zero_le _, rfl, hl0, hg0, fun i hi => absurd hi (Nat.not_lt_zero _), hb1⟩
  case round =>
    obtain ⟨k, cur, hk, rfl, hlen, hg, HC, hb⟩ := hrel
    clear hb1 hg0 hl0
    have hlt0 : w.heap.size < wr.heap.size := (Array.getElem?_eq_some_iff.1 hg).1
    by_cases hlt : k < xs.length
    · obtain ⟨b, off, io, cp, l, u, rfl, hbB, hv, htt, hir, d0, d1⟩ := (HR.out.kept (hb.mono hB)).at k hlt
      have hll : l.length ≤ 1048576 := by have := hxl _ (getD_mem xs noIdx k hlt); rw [hv] at this; exact this
      have HV : Hid (xs.getD k noIdx = ⟨l, u⟩) := hv
      have HI : Hid (IntRow wr A B io l) := hir
      clear hv hir htt
      go_wp2_with fail
      refine (toIndex_any A B io cp l u _ (Nat.le_trans hB hb.size) hll HI.out).mono ?_
      rintro e w2 ⟨bo, cq, rfl, hcq, hr2, hb2⟩
      have hg2 : w2.heap[w.heap.size]? = some (.cells cur.toArray 69 (0, 0)) := (hb2.block _ hlt0).trans hg
      have HC3 : Hid (IdxCur ((w2.setCell ⟨w.heap.size, k * 2, none⟩ (.slice bo l.length cq)).setCell ⟨w.heap.size, k * 2 + 1, none⟩ (.bool u)) w.heap.size ((cur.set (k * 2) (.slice bo l.length cq)).set (k * 2 + 1) (.bool u)) xs (k + 1)) := idxCur_step HC.out hb2 (by omega) HV.out hcq (hr2.mono (by omega) (Nat.le_refl _))
      have hb3 := hb.trans (hb2.mono hb.size)
      obtain ⟨x0, hx0⟩ : ∃ v, cur[k * 2]? = some v := ⟨_, List.getElem?_eq_getElem (by omega)⟩
      obtain ⟨x1, hx1⟩ : ∃ v, cur[k * 2 + 1]? = some v := ⟨_, List.getElem?_eq_getElem (by omega)⟩
      have e0 : w2.cell? ⟨w.heap.size, k * 2, none⟩ = some x0 := by rw [cell_of_row _ _ _ _ _ _ hg2, List.getElem?_toArray, hx0]
      have e1 : w2.cell? ⟨w.heap.size, k * 2 + 1, none⟩ = some x1 := by rw [cell_of_row _ _ _ _ _ _ hg2, List.getElem?_toArray, hx1]
      have ef : ∀ j, w2.frozen? ⟨w.heap.size, j, none⟩ = false := fun j => frozen_of_row _ _ _ _ _ hg2
      have HG : Hid (w2.heap[w.heap.size]? = some (.cells cur.toArray 69 (0, 0))) := hg2
      have hlen2 : ((cur.set (k * 2) (.slice bo l.length cq)).set (k * 2 + 1) (.bool u)).length = xs.length * 2 := by simpa using hlen
      clear hx0 hx1 hg2 hg d0 d1 hb hb2 hr2 HC HI HV hcq
      go_wp2
      go_roundw
      case rel => exact ⟨k + 1, _, by omega, by go_num, hlen2, set2_heap HG.out, HC3, (hb3.setCell (Nat.le_refl _) _).setCell (Nat.le_refl _) _⟩
      case measure => simp [intOf]; omega
    · obtain rfl : k = xs.length := by omega
      have HF : Hid (IdxRow wr w.heap.size wr.heap.size (some ⟨w.heap.size, 0, none⟩) xs) := idxRow_of hg HC.out
      go_wp2
      go_ret
      exact ⟨_, _, rfl, HF.out, hb⟩
theorem resSch {fn : Func} {p : Tmp} (h : fn.results = #[.cell p 35]) (tmps : Array Value) (w : World) (g : Nat) (x y z u : Value) (hp : tmps.getD p undef = .pointer (some ⟨g, 0, none⟩))
    (hg : w.heap[g]? = some (.cells #[x, y, z, u] 35 (0, 0))) : (results fn tmps).run Tryz.prog w = .ok (.agg #[x, y, z, u]) w :=
  results_cell_row h tmps w g 35 #[x, y, z, u] (0, 0) _ hp hg Tryz.underlying35 rfl (by kernel_rfl)
/-- Do a schema's parts fit in? -/
def schFits (s : Sch) : Prop := s.cols.length ≤ 1048576 ∧ s.key.length ≤ 1048576 ∧ s.idx.length ≤ 1048576 ∧ ∀ x ∈ s.idx, x.cols.length ≤ 1048576
set_option maxHeartbeats 1000000 in
theorem toSchema_any (A B : Nat) (ao : Option Addr) (c1 : Nat) (ko : Option Addr) (c2 : Nat) (xo : Option Addr) (c3 : Nat) (s : Sch) (w : World) (hB : B ≤ w.heap.size) (hf : schFits s) (hr : SchRow w A B ao ko xo c2 s) :
    Calls Tryz.prog 16 #[.agg #[.string s.name, .slice ao s.cols.length c1, .slice ko s.key.length c2, .slice xo s.idx.length c3]] w fun e w' =>
      ∃ ao' c1' ko' c2' xo' c3', e = .returned (.agg #[.string s.name, .slice ao' s.cols.length c1', .slice ko' s.key.length c2', .slice xo' s.idx.length c3']) ∧ SchRow w' w.heap.size w'.heap.size ao' ko' xo' c2' s ∧ Below w.heap.size w w' := by
  have HR : Hid (SchRow w A B ao ko xo c2 s) := hr
  have HF : Hid (schFits s) := hf
  clear hr hf
  obtain ⟨nm, cs, ky, xs⟩ := s
  simp only
  have HB0 : Hid (Below w.heap.size w (((w.alloc (.cells #[.string nm, .slice ao cs.length c1, .slice ko ky.length c2, .slice xo xs.length c3] 26)).alloc (.cells #[.string ⟨#[]⟩, .slice none 0 0, .slice none 0 0, .slice none 0 0] 35)).alloc (.cells #[.string nm, .slice none 0 0, .slice none 0 0, .slice none 0 0] 35))) := (((Below.refl _ _).alloc (Nat.le_refl _) _).alloc (by simp) _).alloc (by simp; omega) _
  have X0 : Hid ((((w.alloc (.cells #[.string nm, .slice ao cs.length c1, .slice ko ky.length c2, .slice xo xs.length c3] 26)).alloc (.cells #[.string ⟨#[]⟩, .slice none 0 0, .slice none 0 0, .slice none 0 0] 35)).alloc (.cells #[.string nm, .slice none 0 0, .slice none 0 0, .slice none 0 0] 35)).heap[w.heap.size]? = some (.cells #[.string nm, .slice ao cs.length c1, .slice ko ky.length c2, .slice xo xs.length c3] 26 (0, 0))) := (alloc3 _ _ _ _).1
  have Y0 : Hid ((((w.alloc (.cells #[.string nm, .slice ao cs.length c1, .slice ko ky.length c2, .slice xo xs.length c3] 26)).alloc (.cells #[.string ⟨#[]⟩, .slice none 0 0, .slice none 0 0, .slice none 0 0] 35)).alloc (.cells #[.string nm, .slice none 0 0, .slice none 0 0, .slice none 0 0] 35)).heap[w.heap.size + 1]? = some (.cells #[.string ⟨#[]⟩, .slice none 0 0, .slice none 0 0, .slice none 0 0] 35 (0, 0))) := (alloc3 _ _ _ _).2.1
  have L0 : Hid ((((w.alloc (.cells #[.string nm, .slice ao cs.length c1, .slice ko ky.length c2, .slice xo xs.length c3] 26)).alloc (.cells #[.string ⟨#[]⟩, .slice none 0 0, .slice none 0 0, .slice none 0 0] 35)).alloc (.cells #[.string nm, .slice none 0 0, .slice none 0 0, .slice none 0 0] 35)).heap[w.heap.size + 1 + 1]? = some (.cells #[.string nm, .slice none 0 0, .slice none 0 0, .slice none 0 0] 35 (0, 0))) := (alloc3 _ _ _ _).2.2
  go_enter Tryz.func16, Tryz.ntmps16
  go_wp2_with fail
  refine (toColumnS_any A w.heap.size ao c1 cs _ HB0.out.size HF.out.1 ((HR.out.2.1.mono (Nat.le_refl _) hB).kept HB0.out)).mono ?_
  rintro e w1 ⟨ao', c1', rfl, hr1, hb1⟩
  have hsz1 := hb1.size
  simp at hsz1
  have R1 : Hid (ColRow w1 (w.heap.size + 3) w1.heap.size ao' cs) := hr1.mono (by simp) (Nat.le_refl _)
  have B1 : Hid (Below w.heap.size w (w1.setCell ⟨w.heap.size + 1 + 1, 1, none⟩ (.slice ao' cs.length c1'))) := (HB0.out.trans (hb1.mono HB0.out.size)).setCell (by simp; omega) _
  have Z1 : Hid (w.heap.size + 3 ≤ w1.heap.size) := by show _ ≤ _; omega
  have X1 : Hid (w1.heap[w.heap.size]? = some (.cells #[.string nm, .slice ao cs.length c1, .slice ko ky.length c2, .slice xo xs.length c3] 26 (0, 0))) := (hb1.block _ (by simp; omega)).trans X0.out
  have Y1 : Hid (w1.heap[w.heap.size + 1]? = some (.cells #[.string ⟨#[]⟩, .slice none 0 0, .slice none 0 0, .slice none 0 0] 35 (0, 0))) := (hb1.block _ (by simp)).trans Y0.out
  have L1 : Hid (w1.heap[w.heap.size + 1 + 1]? = some (.cells #[.string nm, .slice none 0 0, .slice none 0 0, .slice none 0 0] 35 (0, 0))) := (hb1.block _ (by simp)).trans L0.out
  obtain ⟨x0, x1, x2, x3, xf⟩ := cells4 X1.out
  obtain ⟨l0, l1, l2, l3, lf⟩ := cells4 L1.out
  clear hr1 hb1 X0 Y0 L0
  go_wp2_with fail
  refine (toInt64S_any A w.heap.size ko c2 ky _ B1.out.size HF.out.2.1 ((HR.out.2.2.1.mono (Nat.le_refl _) hB).kept B1.out)).mono ?_
  rintro e w2 ⟨ko', c2', rfl, hc2', hr2, hb2⟩
  have hsz2 := hb2.size
  simp at hsz2
  have R2 : Hid (IntRow w2 (w.heap.size + 3) w2.heap.size ko' ky) := hr2.mono (by simp; exact Z1.out) (Nat.le_refl _)
  have R12 : Hid (ColRow w2 (w.heap.size + 3) w2.heap.size ao' cs) := (((R1.out.other _ _ _ (by omega)).mono (Nat.le_refl _) (by simp)).kept hb2).mono (Nat.le_refl _) hb2.size
  have B2 : Hid (Below w.heap.size w (w2.setCell ⟨w.heap.size + 1 + 1, 2, none⟩ (.slice ko' ky.length c2'))) := (B1.out.trans (hb2.mono B1.out.size)).setCell (by simp; omega) _
  have Z2 : Hid (w.heap.size + 3 ≤ w2.heap.size) := by show _ ≤ _; omega
  have X2 : Hid (w2.heap[w.heap.size]? = some (.cells #[.string nm, .slice ao cs.length c1, .slice ko ky.length c2, .slice xo xs.length c3] 26 (0, 0))) := ((hb2.block _ (by simp; have := Z1.out; omega)).trans (heap_far _ _ _ _ _ (by omega))).trans X1.out
  have Y2 : Hid (w2.heap[w.heap.size + 1]? = some (.cells #[.string ⟨#[]⟩, .slice none 0 0, .slice none 0 0, .slice none 0 0] 35 (0, 0))) := ((hb2.block _ (by simp; have := Z1.out; omega)).trans (heap_far _ _ _ _ _ (by omega))).trans Y1.out
  have L2 : Hid (w2.heap[w.heap.size + 1 + 1]? = some (.cells #[.string nm, .slice ao' cs.length c1', .slice none 0 0, .slice none 0 0] 35 (0, 0))) := (hb2.block _ (by simp; have := Z1.out; omega)).trans (by simpa using heap_setCell_same _ _ 1 _ _ (.slice ao' cs.length c1') L1.out)
  clear x0 x1 x2 x3 xf l0 l1 l2 l3 lf
  obtain ⟨x0, x1, x2, x3, xf⟩ := cells4 X2.out
  obtain ⟨l0, l1, l2, l3, lf⟩ := cells4 L2.out
  have HC2 : Hid (ky.length ≤ c2' ∧ c2' ≤ maxLen) := hc2'
  clear hr2 hb2 R1 X1 Y1 L1 hc2'
  go_wp2_with fail
  refine (toIndexS_any A w.heap.size xo c3 xs _ B2.out.size HF.out.2.2.1 HF.out.2.2.2 ((HR.out.2.2.2.mono (Nat.le_refl _) hB).kept B2.out)).mono ?_
  rintro e w3 ⟨xo', c3', rfl, hr3, hb3⟩
  have hsz3 := hb3.size
  simp at hsz3
  have R3 : Hid (IdxRow w3 (w.heap.size + 3) w3.heap.size xo' xs) := hr3.mono (by simp; exact Z2.out) (Nat.le_refl _)
  have R13 : Hid (ColRow w3 (w.heap.size + 3) w3.heap.size ao' cs) := (((R12.out.other _ _ _ (by omega)).mono (Nat.le_refl _) (by simp)).kept hb3).mono (Nat.le_refl _) hb3.size
  have R23 : Hid (IntRow w3 (w.heap.size + 3) w3.heap.size ko' ky) := (((R2.out.other _ _ _ (by omega)).mono (Nat.le_refl _) (by simp)).kept hb3).mono (Nat.le_refl _) hb3.size
  have HS : Hid (SchRow w3 (w.heap.size + 3) w3.heap.size ao' ko' xo' c2' ⟨nm, cs, ky, xs⟩) := ⟨⟨HR.out.1.1, HR.out.1.2.1, HC2.out, HR.out.1.2.2.2⟩, R13.out, R23.out, R3.out⟩
  have B3 : Hid (Below w.heap.size w w3) := B2.out.trans (hb3.mono B2.out.size)
  have Y3 : Hid (w3.heap[w.heap.size + 1]? = some (.cells #[.string ⟨#[]⟩, .slice none 0 0, .slice none 0 0, .slice none 0 0] 35 (0, 0))) := ((hb3.block _ (by simp; have := Z2.out; omega)).trans (heap_far _ _ _ _ _ (by omega))).trans Y2.out
  have L3 : Hid (w3.heap[w.heap.size + 1 + 1]? = some (.cells #[.string nm, .slice ao' cs.length c1', .slice ko' ky.length c2', .slice none 0 0] 35 (0, 0))) := (hb3.block _ (by simp; have := Z2.out; omega)).trans (by simpa using heap_setCell_same _ _ 2 _ _ (.slice ko' ky.length c2') L2.out)
  clear x0 x1 x2 x3 xf l0 l1 l2 l3 lf
  obtain ⟨y0, y1, y2, y3, yf⟩ := cells4 Y3.out
  obtain ⟨l0, l1, l2, l3, lf⟩ := cells4 L3.out
  clear hr3 hb3 R12 R2 R3 R13 R23 B2 B1 HB0 HR HF X2 Y2 L2
  go_wp2
  refine bodyPost_ret (v := .agg #[.string nm, .slice ao' cs.length c1', .slice ko' ky.length c2', .slice xo' xs.length c3']) (by simp [results, Tryz.results16, go_sem, y0, y1, y2, y3]) rfl ⟨ao', c1', ko', c2', xo', c3', rfl, ?_, ?_⟩
  · exact (((((HS.out.other _ _ _ (by omega)).other _ _ _ (by omega)).other _ _ _ (by omega)).other _ _ _ (by omega)).other _ _ _ (by omega)).mono (by omega) (by simp)
  · exact ((((B3.out.setCell (by simp; omega) _).setCell (by simp) _).setCell (by simp) _).setCell (by simp) _).setCell (by simp) _
end Go.Proofs.YtkhklfnhninkjaaGreat
