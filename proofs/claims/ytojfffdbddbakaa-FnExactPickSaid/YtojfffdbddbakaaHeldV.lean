/-
  Contracts: marks are read again.
-/
import Derived.Test.YtojfffdbddbakaaMarkV
namespace Go.Proofs.Ytojfffdbddbakaa
open Go.RowKit

theorem MarkAt.kept {g n k B : Nat} {w w' : World} (h : MarkAt g n k w) (hb : Below B w w') (hg : g < B) : MarkAt g n k w' := by
  obtain ⟨cur, h1, h2, h3, h4⟩ := h
  exact ⟨cur, (hb.block g hg).trans h1, h2, h3, h4⟩
theorem MarkAt.lt {g n k : Nat} {w : World} (h : MarkAt g n k w) : g < w.heap.size := by
  obtain ⟨cur, h1, _⟩ := h
  exact (Array.getElem?_eq_some_iff.1 h1).1
theorem MarkAt.cells {g n k : Nat} {w : World} (h : MarkAt g n n w) (hk : k < n) :
    w.cell? ⟨g, k * 3, none⟩ = some (.int .i64 ((1 + 3 * k : Nat) : Int)) ∧ w.cell? ⟨g, k * 3 + 1, none⟩ = some (.int .i64 ((2 + 3 * k : Nat) : Int)) ∧ w.cell? ⟨g, k * 3 + 2, none⟩ = some (.string (markS (3 + 3 * k))) := by
  obtain ⟨cur, hg, hl, hc, _⟩ := h
  have hget : ∀ j, j < n * 3 → cur[j]? = (flatV (marks n))[j]? := fun j hj => by rw [← hc, List.getElem?_take_of_lt hj]
  have hk' : k < (marks n).length := by rw [marks_len]; exact hk
  obtain ⟨h0, h1, h2⟩ := flatV_get (marks n) k hk'
  rw [marks_get] at h0 h1 h2
  refine ⟨?_, ?_, ?_⟩
  · rw [cell_of_row _ _ _ _ _ _ hg, List.getElem?_toArray, hget _ (by omega), h0]; rfl
  · rw [cell_of_row _ _ _ _ _ _ hg, List.getElem?_toArray, hget _ (by omega), h1]; rfl
  · rw [cell_of_row _ _ _ _ _ _ hg, List.getElem?_toArray, hget _ (by omega), h2]; rfl
set_option maxRecDepth 100000 in
set_option maxHeartbeats 4000000 in
theorem heldValueS_at (g n cap : Nat) (w : World) (hn : n ≤ 1048576) (hw : MarkAt g n n w) :
    Calls Try.prog 38 #[.slice (some ⟨g, 0, none⟩) n cap, .int .i64 1] w fun e w' => e = .returned (.int .i64 ((1 + 3 * n : Nat) : Int)) ∧ Below w.heap.size w w' := by
  have hgs := hw.lt
  have HW : Hid (∀ W, Below w.heap.size w W → MarkAt g n n W) := fun W hb => hw.kept hb hgs
  clear hw
  go_enter Try.func38, Try.ntmps38
  go_wp2
  go_loopw [1, 5] (fun q i wr => ∃ k : Nat, k ≤ n ∧ i = .int .i64 k ∧ q = .int .i64 ((1 + 3 * k : Nat) : Int) ∧ Below w.heap.size w wr) (fun _ i _ => n - (intOf i).toNat)
  case atStart => exact ⟨0, Nat.zero_le _, rfl, rfl, Below.refl _ _⟩
  case round =>
    obtain ⟨k, hk, rfl, rfl, hb⟩ := hrel
    have hz := hb.size
    by_cases hlt : k < n
    · obtain ⟨d0, d1, d2⟩ := (HW.out _ hb).cells hlt
      have hi0 : (0 : Int) ≤ (k : Int) := by omega
      have hi1 : (k : Int) < (n : Int) := by omega
      have ht := (Int.toNat_natCast k)
      have hmt := fun W => markText_pos (3 + 3 * k) (by omega) (by omega) W
      have hm1 : ((1 + 3 * k : Nat) : Int) = 1 + 3 * (k : Int) := by omega
      have hm2 : ((2 + 3 * k : Nat) : Int) = 1 + 3 * (k : Int) + 1 := by omega
      have hm3 : ((3 + 3 * k : Nat) : Int) = 1 + 3 * (k : Int) + 1 + 1 := by omega
      rw [hm3] at hmt
      rw [hm1] at d0
      rw [hm2] at d1
      generalize markS (3 + 3 * k) = T at *
      have hgr : g < wr.heap.size := by omega
      clear hm1 hm2 hm3
      go_wp2
      go_region_held3 (fun W => W.cell? ⟨g, k * 3 + 2, none⟩ = some (.string T)) (go_keep) (first | (go_at_call 81; refine (hmt _).mono ?_; rintro e w1 ⟨rfl, hb1⟩; have hb1' : Below wr.heap.size wr w1 := (Below.refl _ _).drew.trans hb1; obtain ⟨hc1, hf1⟩ := bcell hb1'))
      all_goals
        have hb2 := hb.trans (hb1'.mono hz)
        clear d0 d1 d2 hb1 hb1' hb hc1 hf1
        go_wp2
        go_roundw
        case rel => exact ⟨k + 1, by omega, by go_num, by go_num, hb2⟩
        case measure => simp [intOf]; omega
    · obtain rfl : k = n := by omega
      go_wp2
      go_ret
      exact ⟨rfl, hb⟩
end Go.Proofs.Ytojfffdbddbakaa
