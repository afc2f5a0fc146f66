/-
  Contracts: marks are written into texts that lie in a block of their own, and read again.
-/
import Derived.Test.YtgnegidgeegknaaMarkT
import Derived.Test.YtgnegidgeegknaaTrRow
import Derived.Deep.RegionHeld3
namespace Go.Proofs.Ytgnegidgeegknaa
open Go.RowKit
set_option maxRecDepth 100000

/-- A block that has room for n texts; its first k are marks, from k0 on. -/
def MkAt (g n k0 k : Nat) (w : World) : Prop := ∃ cur : List Value, w.heap[g]? = some (.cells cur.toArray 9 (0, 0)) ∧ n ≤ cur.length ∧ ∀ i, i < k → cur[i]? = some (.string (markS (k0 + i)))
theorem MkAt.lt {g n k0 k : Nat} {w : World} (h : MkAt g n k0 k w) : g < w.heap.size := by
  obtain ⟨cur, hg, _⟩ := h
  exact (Array.getElem?_eq_some_iff.1 hg).1
theorem MkAt.kept {g n k0 k B : Nat} {w w' : World} (h : MkAt g n k0 k w) (hb : Below B w w') (hg : g < B) : MkAt g n k0 k w' := by
  obtain ⟨cur, h1, h2⟩ := h
  exact ⟨cur, (hb.block g hg).trans h1, h2⟩
theorem MkAt.step {g n k0 k : Nat} {w : World} (h : MkAt g n k0 k w) (hk : k < n) : MkAt g n k0 (k + 1) (w.setCell ⟨g, k, none⟩ (.string (markS (k0 + k)))) := by
  obtain ⟨cur, h1, h2, h3⟩ := h
  refine ⟨_, setL_heap h1, by simpa using h2, fun i hi => ?_⟩
  by_cases e : i = k
  · subst e
    rw [List.getElem?_set_self (by omega)]
  · rw [List.getElem?_set_ne (by omega)]
    exact h3 i (by omega)
theorem MkAt.cell {g n k0 k : Nat} {w : World} (h : MkAt g n k0 n w) (hk : k < n) : w.cell? ⟨g, k, none⟩ = some (.string (markS (k0 + k))) := by
  obtain ⟨cur, h1, h2, h3⟩ := h
  rw [cell_of_row _ _ _ _ _ _ h1, List.getElem?_toArray, h3 k hk]
set_option maxHeartbeats 2000000 in
theorem markStringS_at (g n cap k0 : Nat) (w : World) (hn : n ≤ 1048576) (h0 : 0 < k0) (hk : k0 ≤ 5000000) (hw : MkAt g n k0 0 w) :
    Calls Try.prog 45 #[.slice (some ⟨g, 0, none⟩) n cap, .int .i64 k0] w fun e w' => e = .returned (.int .i64 ((k0 + n : Nat) : Int)) ∧ MkAt g n k0 n w' ∧ w.grownBy w' (some g) := by
  have HW := hide hw
  clear hw
  go_enter Try.func45, Try.ntmps45
  go_wp2
  go_loopw [1, 5] (fun q i wr => ∃ k : Nat, k ≤ n ∧ i = .int .i64 k ∧ q = .int .i64 ((k0 + k : Nat) : Int) ∧ Hid (MkAt g n k0 k wr) ∧ w.grownBy wr (some g)) (fun _ i _ => n - (intOf i).toNat)
  case atStart => exact ⟨0, Nat.zero_le _, rfl, rfl, HW, grown_refl _ _⟩
  case round =>
    obtain ⟨k, hk', rfl, rfl, HM, hb⟩ := hrel
    by_cases hlt : k < n
    · have hmt := hide (markText_pos (k0 + k) (by omega) (by omega) wr)
      go_wp2_with fail
      refine hmt.out.mono ?_
      rintro e w1 ⟨rfl, b1⟩
      have HM1 := hide (HM.out.kept b1 HM.out.lt)
      have hb1 := grown_below hb b1
      have HM2 := hide (HM1.out.step hlt)
      obtain ⟨cur, hg, hl, _⟩ := HM1.out
      obtain ⟨x0, hx0⟩ : ∃ v, cur[k]? = some v := ⟨_, List.getElem?_eq_getElem (by omega)⟩
      have e0 : w1.cell? ⟨g, k, none⟩ = some x0 := by rw [cell_of_row _ _ _ _ _ _ hg, List.getElem?_toArray, hx0]
      have ef : ∀ j, w1.frozen? ⟨g, j, none⟩ = false := fun j => frozen_of_row _ _ _ _ _ hg
      clear HM HM1 hg hl hx0 b1 hmt hb
      generalize markS (k0 + k) = T at *
      go_wp2
      go_roundw
      case rel => exact ⟨k + 1, by omega, by go_num, by go_num, HM2, grown_setG hb1⟩
      case measure => simp [intOf]; omega
    · obtain rfl : k = n := by omega
      go_wp2
      go_ret
      exact ⟨rfl, HM.out, hb⟩
set_option maxHeartbeats 2000000 in
theorem heldStringS_at (g n cap k0 : Nat) (w : World) (hn : n ≤ 1048576) (h0 : 0 < k0) (hk0 : k0 ≤ 5000000) (hw : MkAt g n k0 n w) :
    Calls Try.prog 47 #[.slice (some ⟨g, 0, none⟩) n cap, .int .i64 k0] w fun e w' => e = .returned (.int .i64 ((k0 + n : Nat) : Int)) ∧ Below w.heap.size w w' := by
  have hgs := hw.lt
  have HW : Hid (∀ W, Below w.heap.size w W → MkAt g n k0 n W) := fun W hb => hw.kept hb hgs
  clear hw
  go_enter Try.func47, Try.ntmps47
  go_wp2
  go_loopw [1, 5] (fun q i wr => ∃ k : Nat, k ≤ n ∧ i = .int .i64 k ∧ q = .int .i64 ((k0 + k : Nat) : Int) ∧ Below w.heap.size w wr) (fun _ i _ => n - (intOf i).toNat)
  case atStart => exact ⟨0, Nat.zero_le _, rfl, rfl, Below.refl _ _⟩
  case round =>
    obtain ⟨k, hk, rfl, rfl, hb⟩ := hrel
    have hz := hb.size
    by_cases hlt : k < n
    · have d0 := (HW.out _ hb).cell hlt
      have hi0 : (0 : Int) ≤ (k : Int) := by omega
      have hi1 : (k : Int) < (n : Int) := by omega
      have ht := (Int.toNat_natCast k)
      have hmt := fun W => markText_pos (k0 + k) (by omega) (by omega) W
      generalize markS (k0 + k) = T at *
      have hgr : g < wr.heap.size := by omega
      go_wp2
      go_region_held3 (fun W => W.cell? ⟨g, k, none⟩ = some (.string T)) (go_keep) (first | (go_at_call 73; refine (hmt _).mono ?_; rintro e w1 ⟨rfl, hb1⟩; have hb1' : Below wr.heap.size wr w1 := (Below.refl _ _).drew.trans hb1; obtain ⟨hc1, hf1⟩ := bcell hb1'))
      all_goals
        have hb2 := hb.trans (hb1'.mono hz)
        clear d0 hb1 hb1' hb hc1 hf1
        go_wp2
        go_roundw
        case rel => exact ⟨k + 1, by omega, by go_num, by go_num, hb2⟩
        case measure => simp [intOf]; omega
    · obtain rfl : k = n := by omega
      go_wp2
      go_ret
      exact ⟨rfl, hb⟩
end Go.Proofs.Ytgnegidgeegknaa
