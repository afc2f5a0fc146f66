/-
  Contracts: GetText of the specification.
-/
import Derived.Test.YtbainombjfginaaDoorGetNumS
import Derived.Test.YtbainombjfginaaDoorGetText2
import Derived.Deep.RegionHeld3
import Derived.Deep.DrawnRows
namespace Go.Proofs.YtbainombjfginaaDoor
open Go.RowKit
attribute [local go_sem ↓] Go.wp_at_zero Go.wp_at_succ

theorem getNum3_in (s : ByteArray) (a : Int) (h : (getNum3 s a).2.2 = 0) : 0 ≤ (getNum3 s a).2.1 ∧ (getNum3 s a).2.1 ≤ s.size ∧ s.size ≤ 20000 := by
  unfold getNum3 at *
  by_cases h1 : 20000 < s.size
  · rw [if_pos h1] at h; simp at h
  · rw [if_neg h1] at *
    by_cases h2 : a < 0
    · rw [if_pos h2] at h; simp at h
    · rw [if_neg h2] at *
      have := behind_le s a.toNat h
      exact ⟨this.1, this.2, by omega⟩
theorem set3a {W : World} {g : Nat} {a b c x y z : Value} {t : TypeId} (hlt : g < W.heap.size) (h : W.heap[g]? = some (.cells #[a, b, c] t (0, 0))) (o : Obj) :
    ((((W.setCell ⟨g, 0, none⟩ x).setCell ⟨g, 1, none⟩ y).setCell ⟨g, 2, none⟩ z).alloc o).heap[g]? = some (.cells #[x, y, z] t (0, 0)) :=
  (Below.heap_alloc _ _ _ (by simpa using hlt)).trans (set3 h)
theorem cell_new3 {W : World} {x y z : Value} {t : TypeId} {g : Nat} (hg : g = W.heap.size) : (W.alloc (.cells #[x, y, z] t)).drew.cell? ⟨g, 0, none⟩ = some x ∧ (W.alloc (.cells #[x, y, z] t)).drew.cell? ⟨g, 1, none⟩ = some y := by
  subst hg
  have h := heap_alloc_new W (.cells #[x, y, z] t)
  have h' : (W.alloc (.cells #[x, y, z] t)).drew.heap[W.heap.size]? = some (.cells #[x, y, z] t (0, 0)) := h
  exact ⟨(cells3 h').1, (cells3 h').2.1⟩
theorem retT {V : Value} {t t' : ByteArray} {b q : Int} {c : Int} {k : Int} (hV : V = tOut t' q k) (h1 : t = t') (h2 : b = q) (h3 : c = k) : Ending.returned (.agg #[.string t, .int .i64 b, .int .i64 c]) = .returned V := by rw [hV, h1, h2, h3]; rfl

set_option maxRecDepth 100000 in
set_option maxHeartbeats 4000000 in
theorem specGetText_any (s : ByteArray) (a : Int) (ha : a ≤ 9223372036854775807) (w : World) :
    Calls Tryd.prog 16 #[.string s, .int .i64 a] w fun e w' => e = .returned (getTextV s a) ∧ Below w.heap.size w w' := by
  have hsp := specGetNum_any s a ha
  have hin := getNum3_in s a
  have H : Hid (getTextV s a = tOut (textOf s (getNum3 s a).1 (getNum3 s a).2.1 (getNum3 s a).2.2).1 (textOf s (getNum3 s a).1 (getNum3 s a).2.1 (getNum3 s a).2.2).2.1 (textOf s (getNum3 s a).1 (getNum3 s a).2.1 (getNum3 s a).2.2).2.2) := rfl
  unfold getNumV at hsp
  generalize getNum3 s a = r at *
  obtain ⟨n, q, c⟩ := r
  have HS : Hid (∀ w, Calls Tryd.prog 14 #[.string s, .int .i64 a] w fun e w' => e = .returned (.agg #[.int .i64 n, .int .i64 q, .int .i64 c]) ∧ Below w.heap.size w w') := hsp
  clear hsp
  simp only at hin H
  by_cases h0 : c = 0
  · obtain ⟨hq0, hq1, hs⟩ := hin h0
    subst h0
    clear hin
    by_cases h1 : n < 0
    · have HT : Hid (textOf s n q 0 = (ByteArray.empty, 0, 3)) := by show _ = _; unfold textOf; rw [if_neg (by simp), if_pos (Or.inl h1)]
      go_enter Tryd.func16, Tryd.ntmps16
      go_wp2_with fail
      refine (HS.out _).mono ?_
      rintro e w1 ⟨rfl, hb1⟩
      have hz1 : w.heap.size < w1.heap.size := by (have := hb1.size; simp at this; omega)
      have hk : w1.heap[w.heap.size]? = some (.cells #[.string ⟨#[]⟩, .int .i64 0, .int .i64 0] 31 (0, 0)) := (hb1.block _ (by simp)).trans (heap_alloc_new w _)
      obtain ⟨c0, c1, c2, cf⟩ := cells3 hk
      have HK : Hid (w1.heap[w.heap.size]? = some (.cells #[.string ⟨#[]⟩, .int .i64 0, .int .i64 0] 31 (0, 0))) := hk
      clear hk
      go_wp2
      refine bodyPost_ret (v := .agg #[.string ⟨#[]⟩, .int .i64 0, .int .i64 3]) (resOut Tryd.results16 _ _ w.heap.size _ _ _ rfl (set3a hz1 HK.out _)) rfl ⟨by rw [H.out, HT.out]; rfl, ?_⟩
      exact (below3 (((Below.refl _ _).alloc (Nat.le_refl _) _).trans (hb1.mono (by simp))) (Nat.le_refl _)).alloc (by simp; omega) _
    by_cases h2 : 20000 < n
    · have HT : Hid (textOf s n q 0 = (ByteArray.empty, 0, 3)) := by show _ = _; unfold textOf; rw [if_neg (by simp), if_pos (Or.inr h2)]
      go_enter Tryd.func16, Tryd.ntmps16
      go_wp2_with fail
      refine (HS.out _).mono ?_
      rintro e w1 ⟨rfl, hb1⟩
      have hz1 : w.heap.size < w1.heap.size := by (have := hb1.size; simp at this; omega)
      have hk : w1.heap[w.heap.size]? = some (.cells #[.string ⟨#[]⟩, .int .i64 0, .int .i64 0] 31 (0, 0)) := (hb1.block _ (by simp)).trans (heap_alloc_new w _)
      obtain ⟨c0, c1, c2, cf⟩ := cells3 hk
      have HK : Hid (w1.heap[w.heap.size]? = some (.cells #[.string ⟨#[]⟩, .int .i64 0, .int .i64 0] 31 (0, 0))) := hk
      clear hk
      go_wp2
      refine bodyPost_ret (v := .agg #[.string ⟨#[]⟩, .int .i64 0, .int .i64 3]) (resOut Tryd.results16 _ _ w.heap.size _ _ _ rfl (set3a hz1 HK.out _)) rfl ⟨by rw [H.out, HT.out]; rfl, ?_⟩
      exact (below3 (((Below.refl _ _).alloc (Nat.le_refl _) _).trans (hb1.mono (by simp))) (Nat.le_refl _)).alloc (by simp; omega) _
    by_cases h3 : (s.size : Int) - q < n
    · have HT : Hid (textOf s n q 0 = (ByteArray.empty, 0, 4)) := by show _ = _; unfold textOf; rw [if_neg (by simp), if_neg (by omega), if_pos h3]
      have h3' : (s.size : Int) - n < q := by omega
      go_enter Tryd.func16, Tryd.ntmps16
      go_wp2_with fail
      refine (HS.out _).mono ?_
      rintro e w1 ⟨rfl, hb1⟩
      have hz1 : w.heap.size < w1.heap.size := by (have := hb1.size; simp at this; omega)
      have hk : w1.heap[w.heap.size]? = some (.cells #[.string ⟨#[]⟩, .int .i64 0, .int .i64 0] 31 (0, 0)) := (hb1.block _ (by simp)).trans (heap_alloc_new w _)
      obtain ⟨c0, c1, c2, cf⟩ := cells3 hk
      have HK : Hid (w1.heap[w.heap.size]? = some (.cells #[.string ⟨#[]⟩, .int .i64 0, .int .i64 0] 31 (0, 0))) := hk
      clear hk
      go_wp2
      refine bodyPost_ret (v := .agg #[.string ⟨#[]⟩, .int .i64 0, .int .i64 4]) (resOut Tryd.results16 _ _ w.heap.size _ _ _ rfl (set3a hz1 HK.out _)) rfl ⟨by rw [H.out, HT.out]; rfl, ?_⟩
      exact (below3 (((Below.refl _ _).alloc (Nat.le_refl _) _).trans (hb1.mono (by simp))) (Nat.le_refl _)).alloc (by simp; omega) _
    have HT : Hid (textOf s n q 0 = (s.extract q.toNat (q + n).toNat, q + n, 0)) := by show _ = _; unfold textOf; rw [if_neg (by simp), if_neg (by omega), if_neg h3]
    have h4 : q ≤ q + n := by omega
    have h5 : q + n ≤ s.size := by omega
    have h6 : IntKind.i64.wrap (q + n) = q + n := by rw [IntKind.wrap_i64]; omega
    go_enter Tryd.func16, Tryd.ntmps16
    go_wp2_with fail
    refine (HS.out _).mono ?_
    rintro e w1 ⟨rfl, hb1⟩
    have hz1 : w.heap.size < w1.heap.size := by (have := hb1.size; simp at this; omega)
    have hk : w1.heap[w.heap.size]? = some (.cells #[.string ⟨#[]⟩, .int .i64 0, .int .i64 0] 31 (0, 0)) := (hb1.block _ (by simp)).trans (heap_alloc_new w _)
    obtain ⟨c0, c1, c2, cf⟩ := cells3 hk
    have HK : Hid (w1.heap[w.heap.size]? = some (.cells #[.string ⟨#[]⟩, .int .i64 0, .int .i64 0] 31 (0, 0))) := hk
    clear hk
    go_wp2
    go_region_held3 (fun w' => w'.cell? ⟨w1.heap.size, 0, none⟩ = some (.int .i64 n) ∧ w'.cell? ⟨w1.heap.size, 1, none⟩ = some (.int .i64 q)) (first | exact cell_new3 (by simp) | go_keep) (fail)
    go_wp2
    refine bodyPost_ret (v := .agg #[.string (s.extract q.toNat (q + n).toNat), .int .i64 (q + n), .int .i64 0]) (resOut Tryd.results16 _ _ w.heap.size _ _ _ rfl (set3a hz1 HK.out _)) rfl ⟨by rw [H.out, HT.out]; rfl, ?_⟩
    exact ((below3 (((Below.refl _ _).alloc (Nat.le_refl _) _).trans (hb1.mono (by simp))) (Nat.le_refl _)).alloc (by simp; omega) _).drew
  · have HT : Hid (textOf s n q c = (ByteArray.empty, 0, c)) := if_pos h0
    have hc1 : ((c : Int) != 0) = true := by simp; omega
    clear hin
    go_enter Tryd.func16, Tryd.ntmps16
    go_wp2_with fail
    refine (HS.out _).mono ?_
    rintro e w1 ⟨rfl, hb1⟩
    have hz1 : w.heap.size < w1.heap.size := by (have := hb1.size; simp at this; omega)
    have hk : w1.heap[w.heap.size]? = some (.cells #[.string ⟨#[]⟩, .int .i64 0, .int .i64 0] 31 (0, 0)) := (hb1.block _ (by simp)).trans (heap_alloc_new w _)
    obtain ⟨c0, c1, c2, cf⟩ := cells3 hk
    have HK : Hid (w1.heap[w.heap.size]? = some (.cells #[.string ⟨#[]⟩, .int .i64 0, .int .i64 0] 31 (0, 0))) := hk
    clear hk
    go_wp2
    refine bodyPost_ret (v := .agg #[.string ⟨#[]⟩, .int .i64 0, .int .i64 c]) (resOut Tryd.results16 _ _ w.heap.size _ _ _ rfl (set3a hz1 HK.out _)) rfl ⟨by rw [H.out, HT.out]; rfl, ?_⟩
    exact (below3 (((Below.refl _ _).alloc (Nat.le_refl _) _).trans (hb1.mono (by simp))) (Nat.le_refl _)).alloc (by simp; omega) _
end Go.Proofs.YtbainombjfginaaDoor
