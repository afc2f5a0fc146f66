/-
  Contracts: a drawn value, right or not.
-/
import Derived.Test.YtkkggbbpaflieaaGreatDoorKDraw
namespace Go.Proofs.YtkkggbbpaflieaaGreatDoor
open Go.RowKit

theorem stV_set {g B : Nat} {w wr : World} {vb i : Nat} {x : Value} (hgl : g < w.heap.size) (hB : B ≤ g) (h : StV g B w wr) (hvb : w.heap.size < vb) : StV g B w (wr.setCell ⟨vb, i, none⟩ x) := by
  have hb : Below (w.heap.size + 1) wr (wr.setCell ⟨vb, i, none⟩ x) := (Below.refl (w.heap.size + 1) wr).setCell (p := ⟨vb, i, none⟩) hvb x
  refine ⟨h.1.kept (hb.mono (by omega)) (hb.block g (by omega)), ⟨hb.os.trans h.2.1.os, hb.tape.trans h.2.1.tape, hb.output.trans h.2.1.output, Nat.le_trans h.2.1.size hb.size, fun k hk hn => ?_⟩, ?_⟩
  · exact (hb.block k (by omega)).trans (h.2.1.block k hk hn)
  · exact (hb.block w.heap.size (by omega)).trans h.2.2
/-- The same, with a value in a block of its own. -/
def StW (g B vb : Nat) (w wr : World) (x y z : Value) : Prop := StV g B w wr ∧ w.heap.size < vb ∧ wr.heap[vb]? = some (.cells #[x, y, z] 40 (0, 0))
theorem stW_start {g B : Nat} {w wr : World} (hgl : g < w.heap.size) (hB : B ≤ g) (h : StV g B w wr) (x y z : Value) : StW g B wr.heap.size w (wr.alloc (.cells #[x, y, z] 40)) x y z :=
  ⟨stV_below hgl hB h ((Below.refl _ _).alloc (Nat.le_refl _) _), (Array.getElem?_eq_some_iff.1 h.2.2).1, heap_alloc_new _ _⟩
theorem stW_step {g B vb : Nat} {w wr w1 : World} {x y z : Value} (hgl : g < w.heap.size) (h : StW g B vb w wr x y z) (hs : Src w1 B g) (hg : wr.grownBy w1 (some g)) : StW g B vb w w1 x y z :=
  ⟨stV_step hgl h.1 hs hg, h.2.1, (hg.block vb (Array.getElem?_eq_some_iff.1 h.2.2).1 (fun e => by have := h.2.1; simp at e; omega)).trans h.2.2⟩
theorem stW_below {g B vb : Nat} {w wr w1 : World} {x y z : Value} (hgl : g < w.heap.size) (hB : B ≤ g) (h : StW g B vb w wr x y z) (hb : Below wr.heap.size wr w1) : StW g B vb w w1 x y z :=
  ⟨stV_below hgl hB h.1 hb, h.2.1, (hb.block vb (Array.getElem?_eq_some_iff.1 h.2.2).1).trans h.2.2⟩
theorem stW_set0 {g B vb : Nat} {w wr : World} {x y z u : Value} (hgl : g < w.heap.size) (hB : B ≤ g) (h : StW g B vb w wr x y z) : StW g B vb w (wr.setCell ⟨vb, 0, none⟩ u) u y z :=
  ⟨stV_set hgl hB h.1 h.2.1, h.2.1, by simpa using heap_setCell_same wr vb 0 _ _ u h.2.2⟩
theorem stW_set1 {g B vb : Nat} {w wr : World} {x y z u : Value} (hgl : g < w.heap.size) (hB : B ≤ g) (h : StW g B vb w wr x y z) : StW g B vb w (wr.setCell ⟨vb, 1, none⟩ u) x u z :=
  ⟨stV_set hgl hB h.1 h.2.1, h.2.1, by simpa using heap_setCell_same wr vb 1 _ _ u h.2.2⟩
theorem stW_set2 {g B vb : Nat} {w wr : World} {x y z u : Value} (hgl : g < w.heap.size) (hB : B ≤ g) (h : StW g B vb w wr x y z) : StW g B vb w (wr.setCell ⟨vb, 2, none⟩ u) x y u :=
  ⟨stV_set hgl hB h.1 h.2.1, h.2.1, by simpa using heap_setCell_same wr vb 2 _ _ u h.2.2⟩
set_option maxRecDepth 100000 in
set_option maxHeartbeats 4000000 in
theorem drawV_any (g B : Nat) (w : World) (hs : Src w B g) (hB : B ≤ g) :
    Calls Tryz.prog 17 #[.pointer (some ⟨g, 0, none⟩)] w (DrawnV g B w) := by
  obtain ⟨i0, hi, hz0, hz1, hz2⟩ := info_parts Tryz.infoU8
  have hlt := hs.lt
  have HS : Hid (StV g B w (w.alloc (.cells #[.int .i64 0, .int .i64 0, .string ⟨#[]⟩] 40))) := stV_start hs hB
  clear hs
  go_enter Tryz.func17, Tryz.ntmps17
  go_wp2_with fail
  refine (n_any g B 4 (by omega) (by omega) _ HS.out.1 hB).mono ?_
  rintro e w1 ⟨k, rfl, hk0, hk1, hs1, hg1, hz1'⟩
  have H1 : Hid (StV g B w w1) := stV_step hlt HS.out hs1 hg1
  clear hs1 hg1 hz1' HS
  go_wp2_with fail
  refine (l02Of_any g B k _ (by omega) H1.out.1 hB).mono ?_
  rintro e w2 ⟨⟨vk, vn, vt⟩, rfl, hok, hts, hs2, hg2⟩
  have H2 : Hid (StV g B w w2) := stV_step hlt H1.out hs2 hg2
  have HV : Hid ((-9223372036854775808 ≤ vk ∧ vk ≤ 9223372036854775807) ∧ (-9223372036854775808 ≤ vn ∧ vn ≤ 9223372036854775807) ∧ vt.size ≤ 300) := ⟨⟨hok.1, hok.2.1⟩, ⟨hok.2.2.1, hok.2.2.2⟩, hts⟩
  clear hs2 hg2 H1 hok hts
  simp only
  go_wp2_with fail
  have H3 : Hid (StW g B w2.heap.size w (w2.alloc (.cells #[.int .i64 vk, .int .i64 vn, .string vt] 40)) (.int .i64 vk) (.int .i64 vn) (.string vt)) := stW_start hlt hB H2.out _ _ _
  generalize w2.alloc (.cells #[.int .i64 vk, .int .i64 vn, .string vt] 40) = w3 at *
  generalize w2.heap.size = vb at *
  clear H2
  refine (one_any g B 25 (by omega) (by omega) _ H3.out.1.1 hB).mono ?_
  rintro e w4 ⟨b, rfl, hs4, hg4, hz4⟩
  have H4 : Hid (StW g B vb w w4 (.int .i64 vk) (.int .i64 vn) (.string vt)) := stW_step hlt H3.out hs4 hg4
  clear hs4 hg4 hz4 H3
  cases b with
  | false =>
    obtain ⟨e0, e1, e2, ef⟩ := cellsThree H4.out.1.2.2
    obtain ⟨f0, f1, f2, ff⟩ := cellsThree H4.out.2.2
    have hvb := H4.out.2.1
    have hvl := (Array.getElem?_eq_some_iff.1 H4.out.2.2).1
    have hne : ¬ vb = w.heap.size := by omega
    go_wp2
    refine bodyPost_ret (v := .agg #[.int .i64 vk, .int .i64 vn, .string vt]) (resV3 Tryz.results17 _ _ w.heap.size _ _ _ rfl (setThree H4.out.1.2.2)) rfl (drawnV_mk vk vn vt rfl HV.out.1 HV.out.2.1 HV.out.2.2 (stV_end hlt hB H4.out.1 _ _ _))
  | true =>
    go_wp2_with fail
    refine (n_any g B 4 (by omega) (by omega) _ H4.out.1.1 hB).mono ?_
    rintro e w5 ⟨q, rfl, hq0, hq1, hs5, hg5, hz5⟩
    have H5 : Hid (StW g B vb w w5 (.int .i64 vk) (.int .i64 vn) (.string vt)) := stW_step hlt H4.out hs5 hg5
    clear hs5 hg5 hz5 H4
    have hq : q = 0 ∨ q = 1 ∨ q = 2 ∨ q = 3 := by omega
    rcases hq with rfl | rfl | rfl | rfl
    · go_wp2_with fail
      refine (n_any g B 6 (by omega) (by omega) _ H5.out.1.1 hB).mono ?_
      rintro e w6 ⟨r, rfl, hr0, hr1, hs6, hg6, hz6⟩
      have H6 : Hid (StW g B vb w w6 (.int .i64 vk) (.int .i64 vn) (.string vt)) := stW_step hlt H5.out hs6 hg6
      have H7 : Hid (StW g B vb w (w6.setCell ⟨vb, 0, none⟩ (.int .i64 (r - 1))) (.int .i64 (r - 1)) (.int .i64 vn) (.string vt)) := stW_set0 hlt hB H6.out
      obtain ⟨e0, e1, e2, ef⟩ := cellsThree H6.out.1.2.2
      obtain ⟨f0, f1, f2, ff⟩ := cellsThree H6.out.2.2
      have hvb := H6.out.2.1
      have hvl := (Array.getElem?_eq_some_iff.1 H6.out.2.2).1
      have hne : ¬ vb = w.heap.size := by omega
      clear hs6 hg6 hz6 H5
      go_wp2
      refine bodyPost_ret (v := .agg #[.int .i64 (r - 1), .int .i64 vn, .string vt]) (resV3 Tryz.results17 _ _ w.heap.size _ _ _ rfl (setThree H7.out.1.2.2)) rfl (drawnV_mk (r - 1) vn vt rfl (by omega) HV.out.2.1 HV.out.2.2 (stV_end hlt hB H7.out.1 _ _ _))
    · have H7 : Hid (StW g B vb w (w5.setCell ⟨vb, 1, none⟩ (.int .i64 2)) (.int .i64 vk) (.int .i64 2) (.string vt)) := stW_set1 hlt hB H5.out
      obtain ⟨e0, e1, e2, ef⟩ := cellsThree H5.out.1.2.2
      obtain ⟨f0, f1, f2, ff⟩ := cellsThree H5.out.2.2
      have hvb := H5.out.2.1
      have hvl := (Array.getElem?_eq_some_iff.1 H5.out.2.2).1
      have hne : ¬ vb = w.heap.size := by omega
      go_wp2
      refine bodyPost_ret (v := .agg #[.int .i64 vk, .int .i64 2, .string vt]) (resV3 Tryz.results17 _ _ w.heap.size _ _ _ rfl (setThree H7.out.1.2.2)) rfl (drawnV_mk vk 2 vt rfl HV.out.1 (by omega) HV.out.2.2 (stV_end hlt hB H7.out.1 _ _ _))
    · have H7 : Hid (StW g B vb w (w5.setCell ⟨vb, 2, none⟩ (.string ⟨#[120]⟩)) (.int .i64 vk) (.int .i64 vn) (.string ⟨#[120]⟩)) := stW_set2 hlt hB H5.out
      obtain ⟨e0, e1, e2, ef⟩ := cellsThree H5.out.1.2.2
      obtain ⟨f0, f1, f2, ff⟩ := cellsThree H5.out.2.2
      have hvb := H5.out.2.1
      have hvl := (Array.getElem?_eq_some_iff.1 H5.out.2.2).1
      have hne : ¬ vb = w.heap.size := by omega
      go_wp2
      refine bodyPost_ret (v := .agg #[.int .i64 vk, .int .i64 vn, .string ⟨#[120]⟩]) (resV3 Tryz.results17 _ _ w.heap.size _ _ _ rfl (setThree H7.out.1.2.2)) rfl (drawnV_mk vk vn ⟨#[120]⟩ rfl HV.out.1 HV.out.2.1 (by simp [ByteArray.size]) (stV_end hlt hB H7.out.1 _ _ _))
    · go_wp2_with fail
      refine (n_any g B 3 (by omega) (by omega) _ H5.out.1.1 hB).mono ?_
      rintro e w6 ⟨r, rfl, hr0, hr1, hs6, hg6, hz6⟩
      obtain ⟨m, rfl⟩ := Int.eq_ofNat_of_zero_le hr0
      have H6 : Hid (StW g B vb w w6 (.int .i64 vk) (.int .i64 vn) (.string vt)) := stW_step hlt H5.out hs6 hg6
      clear hs6 hg6 hz6 H5
      go_wp2_with (at_make; refine wpList_make_full _ rfl _ _ 22 rfl w6.heap.size 5 i0 (.int .u8 0) 1 Tryz.underlying22 hi hz0 hz1 .i64 .i64 _ _ (199 + m) rfl rfl (by omega) (by omega) (by rw [hz2]; omega) (by unfold maxLen; omega) (Nat.le_refl _) ?_; intro w7 hown7 hgrow7; obtain ⟨t, ht, hcv⟩ := ownsStr hown7 (made_bytes _))
      have H7 : Hid (StW g B vb w w7 (.int .i64 vk) (.int .i64 vn) (.string vt)) := stW_below hlt hB H6.out ((Below.refl _ _).grown hgrow7 (Nat.le_refl _) (fun j hj => by simp at hj))
      clear hown7 hgrow7 hcv H6
      refine (l02Text_any t _).mono ?_
      rintro e w8 ⟨rfl, hb8⟩
      have H8 : Hid (StW g B vb w w8 (.int .i64 vk) (.int .i64 vn) (.string vt)) := stW_below hlt hB H7.out hb8
      have H9 : Hid (StW g B vb w (((w8.setCell ⟨vb, 0, none⟩ (.int .i64 3)).setCell ⟨vb, 1, none⟩ (.int .i64 0)).setCell ⟨vb, 2, none⟩ (.string t)) (.int .i64 3) (.int .i64 0) (.string t)) := stW_set2 hlt hB (stW_set1 hlt hB (stW_set0 hlt hB H8.out))
      obtain ⟨e0, e1, e2, ef⟩ := cellsThree H8.out.1.2.2
      obtain ⟨f0, f1, f2, ff⟩ := cellsThree H8.out.2.2
      have hvb := H8.out.2.1
      have hvl := (Array.getElem?_eq_some_iff.1 H8.out.2.2).1
      have hne : ¬ vb = w.heap.size := by omega
      clear hb8 H7
      go_wp2
      refine bodyPost_ret (v := .agg #[.int .i64 3, .int .i64 0, .string t]) (resV3 Tryz.results17 _ _ w.heap.size _ _ _ rfl (setThree H9.out.1.2.2)) rfl (drawnV_mk 3 0 t rfl (by omega) (by omega) (by omega) (stV_end hlt hB H9.out.1 _ _ _))
end Go.Proofs.YtkkggbbpaflieaaGreatDoor
