/-
  Contracts: marks are written into values and read again.
-/
import Derived.Test.YtojfffdbddbakaaMarkT
import Derived.Test.YtojfffdbddbakaaGrowG
import Derived.Test.YtojfffdbddbakaaFlatV
import Derived.Deep.RegionHeld3
namespace Go.Proofs.Ytojfffdbddbakaa
open Go.RowKit

def markV (i : Nat) : Val := ⟨((1 + 3 * i : Nat) : Int), ((2 + 3 * i : Nat) : Int), markS (3 + 3 * i)⟩
def marks (n : Nat) : List Val := (List.range n).map markV
theorem marks_len (n : Nat) : (marks n).length = n := by simp [marks]
theorem marks_succ (n : Nat) : marks (n + 1) = marks n ++ [markV n] := by simp [marks, List.range_succ]
theorem marks_get (n k : Nat) (h : k < (marks n).length) : (marks n)[k] = markV k := by simp [marks]
/-- A slice of n values in a block of their own, of which the first k are marked. -/
def MarkAt (g n k : Nat) (w : World) : Prop := ∃ cur : List Value, w.heap[g]? = some (.cells cur.toArray 99 (0, 0)) ∧ n * 3 ≤ cur.length ∧ cur.take (k * 3) = flatV (marks k) ∧ (∀ i, i < n → ∃ a b t, cur[i * 3]? = some (.int .i64 a) ∧ cur[i * 3 + 1]? = some (.int .i64 b) ∧ cur[i * 3 + 2]? = some (.string t))
theorem mark_step {n k : Nat} {cur : List Value} (hlt : k < n) (hl : n * 3 ≤ cur.length) (ht : cur.take (k * 3) = flatV (marks k)) (hs : ∀ i, i < n → ∃ a b t, cur[i * 3]? = some (.int .i64 a) ∧ cur[i * 3 + 1]? = some (.int .i64 b) ∧ cur[i * 3 + 2]? = some (.string t)) (a b : Int) (t : ByteArray) (hv : markV k = ⟨a, b, t⟩) :
    n * 3 ≤ (((cur.set (k * 3) (.int .i64 a)).set (k * 3 + 1) (.int .i64 b)).set (k * 3 + 2) (.string t)).length ∧ (((cur.set (k * 3) (.int .i64 a)).set (k * 3 + 1) (.int .i64 b)).set (k * 3 + 2) (.string t)).take ((k + 1) * 3) = flatV (marks (k + 1)) ∧ (∀ i, i < n → ∃ a' b' t', (((cur.set (k * 3) (.int .i64 a)).set (k * 3 + 1) (.int .i64 b)).set (k * 3 + 2) (.string t))[i * 3]? = some (.int .i64 a') ∧ (((cur.set (k * 3) (.int .i64 a)).set (k * 3 + 1) (.int .i64 b)).set (k * 3 + 2) (.string t))[i * 3 + 1]? = some (.int .i64 b') ∧ (((cur.set (k * 3) (.int .i64 a)).set (k * 3 + 1) (.int .i64 b)).set (k * 3 + 2) (.string t))[i * 3 + 2]? = some (.string t')) := by
  obtain ⟨h1, h2⟩ := set3_take cur (k * 3) (.int .i64 a) (.int .i64 b) (.string t) (by omega)
  refine ⟨by rw [h2]; exact hl, ?_, fun i hi => ?_⟩
  · rw [show (k + 1) * 3 = k * 3 + 3 by omega, h1, ht, marks_succ, flatV_append, hv]; rfl
  · by_cases hik : i = k
    · subst hik
      refine ⟨a, b, t, ?_, ?_, ?_⟩
      · rw [List.getElem?_set_ne (by omega), List.getElem?_set_ne (by omega), List.getElem?_set_self (by omega)]
      · rw [List.getElem?_set_ne (by omega), List.getElem?_set_self (by simp; omega)]
      · rw [List.getElem?_set_self (by simp; omega)]
    · obtain ⟨a', b', t', c0, c1, c2⟩ := hs i hi
      refine ⟨a', b', t', ?_, ?_, ?_⟩
      · rw [List.getElem?_set_ne (by omega), List.getElem?_set_ne (by omega), List.getElem?_set_ne (by omega)]; exact c0
      · rw [List.getElem?_set_ne (by omega), List.getElem?_set_ne (by omega), List.getElem?_set_ne (by omega)]; exact c1
      · rw [List.getElem?_set_ne (by omega), List.getElem?_set_ne (by omega), List.getElem?_set_ne (by omega)]; exact c2
theorem setL_heap {W : World} {g m : Nat} {cur : List Value} {t : TypeId} {x : Value} (h : W.heap[g]? = some (.cells cur.toArray t (0, 0))) :
    (W.setCell ⟨g, m, none⟩ x).heap[g]? = some (.cells (cur.set m x).toArray t (0, 0)) := by
  have h1 := heap_setCell_same W g m _ t x h
  rw [h1]; simp
set_option maxRecDepth 100000 in
set_option maxHeartbeats 4000000 in
theorem markValueS_at (g n cap : Nat) (w : World) (hn : n ≤ 1048576) (hw : MarkAt g n 0 w) :
    Calls Try.prog 36 #[.slice (some ⟨g, 0, none⟩) n cap, .int .i64 1] w fun e w' => e = .returned (.int .i64 ((1 + 3 * n : Nat) : Int)) ∧ MarkAt g n n w' ∧ w.grownBy w' (some g) := by
  have HW : Hid (MarkAt g n 0 w) := hw
  clear hw
  go_enter Try.func36, Try.ntmps36
  go_wp2
  go_loopw [1, 5] (fun q i wr => ∃ k : Nat, k ≤ n ∧ i = .int .i64 k ∧ q = .int .i64 ((1 + 3 * k : Nat) : Int) ∧ Hid (MarkAt g n k wr) ∧ w.grownBy wr (some g)) (fun _ i _ => n - (intOf i).toNat)
  case atStart => exact ⟨0, Nat.zero_le _, rfl, rfl, HW, grown_refl _ _⟩
  case round =>
    obtain ⟨k, hk, rfl, rfl, HM, hb⟩ := hrel
    by_cases hlt : k < n
    · obtain ⟨cur, hg, hl, htk, hsh⟩ := HM.out
      obtain ⟨xa, xb, xt, h0, h1, h2⟩ := hsh k hlt
      have hgs : g < wr.heap.size := (Array.getElem?_eq_some_iff.1 hg).1
      have d0 : wr.cell? ⟨g, k * 3, none⟩ = some (.int .i64 xa) := by rw [cell_of_row _ _ _ _ _ _ hg, List.getElem?_toArray]; exact h0
      have d1 : wr.cell? ⟨g, k * 3 + 1, none⟩ = some (.int .i64 xb) := by rw [cell_of_row _ _ _ _ _ _ hg, List.getElem?_toArray]; exact h1
      have df : ∀ j, wr.frozen? ⟨g, j, none⟩ = false := fun j => frozen_of_row _ _ _ _ _ hg
      have HG : Hid (wr.heap[g]? = some (.cells cur.toArray 99 (0, 0))) := hg
      have HL : Hid (n * 3 ≤ cur.length ∧ cur.take (k * 3) = flatV (marks k) ∧ (∀ i, i < n → ∃ a b t, cur[i * 3]? = some (.int .i64 a) ∧ cur[i * 3 + 1]? = some (.int .i64 b) ∧ cur[i * 3 + 2]? = some (.string t)) ∧ cur[k * 3 + 2]? = some (.string xt)) := ⟨hl, htk, hsh, h2⟩
      have hi0 : (0 : Int) ≤ (k : Int) := by omega
      have hi1 : (k : Int) < (n : Int) := by omega
      have ht := (Int.toNat_natCast k)
      have hmt := fun W => markText_pos (3 + 3 * k) (by omega) (by omega) W
      have hm3 : ((3 + 3 * k : Nat) : Int) = 1 + 3 * (k : Int) + 1 + 1 := by omega
      rw [hm3] at hmt
      have HV : Hid (markV k = ⟨1 + 3 * (k : Int), 1 + 3 * (k : Int) + 1, markS (3 + 3 * k)⟩) := by
        show _ = _
        unfold markV
        rw [show ((1 + 3 * k : Nat) : Int) = 1 + 3 * (k : Int) by omega, show ((2 + 3 * k : Nat) : Int) = 1 + 3 * (k : Int) + 1 by omega]
      generalize markS (3 + 3 * k) = T at *
      clear hm3
      clear HM hg hl htk hsh h0 h1 h2
      go_wp2_with fail
      refine (hmt _).mono ?_
      rintro e w3 ⟨rfl, hb3⟩
      have hG3 := (hb3.block g (by simp; exact hgs)).trans (setL_heap (m := k * 3 + 1) (x := .int .i64 (1 + 3 * (k : Int) + 1)) (setL_heap (m := k * 3) (x := .int .i64 (1 + 3 * (k : Int))) HG.out))
      have d2 : w3.cell? ⟨g, k * 3 + 2, none⟩ = some (.string xt) := by
        rw [cell_of_row _ _ _ _ _ _ hG3, List.getElem?_toArray, List.getElem?_set_ne (by omega), List.getElem?_set_ne (by omega)]
        exact HL.out.2.2.2
      have df2 : ∀ j, w3.frozen? ⟨g, j, none⟩ = false := fun j => frozen_of_row _ _ _ _ _ hG3
      have HM2 : Hid (MarkAt g n (k + 1) (w3.setCell ⟨g, k * 3 + 2, none⟩ (.string T))) := by
        obtain ⟨l1, l2, l3⟩ := mark_step hlt HL.out.1 HL.out.2.1 HL.out.2.2.1 _ _ _ HV.out
        exact ⟨_, setL_heap hG3, l1, l2, l3⟩
      have hbB : w.grownBy (w3.setCell ⟨g, k * 3 + 2, none⟩ (.string T)) (some g) := grown_setG (grown_below (grown_setG (grown_setG hb)) hb3)
      clear hmt hb3 hG3 d0 d1 df HG HL HV hb
      go_wp2
      go_roundw
      case rel => exact ⟨k + 1, by omega, by go_num, by go_num, HM2, hbB⟩
      case measure => simp [intOf]; omega
    · obtain rfl : k = n := by omega
      go_wp2
      go_ret
      exact ⟨rfl, HM.out, hb⟩
end Go.Proofs.Ytojfffdbddbakaa
