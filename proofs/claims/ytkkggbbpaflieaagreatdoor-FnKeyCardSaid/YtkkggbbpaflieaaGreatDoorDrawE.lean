/-
  Contracts: a number at some limit.
-/
import Derived.Test.YtkkggbbpaflieaaGreatDoorSrc
import Derived.Test.YtkkggbbpaflieaaGreatDoorConv
namespace Go.Proofs.YtkkggbbpaflieaaGreatDoor
open Go.RowKit

theorem grown_trans {a b c : World} {g : Nat} {row : Option Nat} (h : a.grownBy b (some g)) (k : b.grownBy c row) (hr : ∀ j, row = some j → j = g ∨ a.heap.size ≤ j) : a.grownBy c (some g) :=
  ⟨k.os.trans h.os, k.tape.trans h.tape, k.output.trans h.output, Nat.le_trans h.size k.size, fun j hj hn => by
    have h1 : j < b.heap.size := Nat.lt_of_lt_of_le hj h.size
    have h2 : some j ≠ row := fun e => by
      rcases hr j e.symm with rfl | hle
      · exact hn rfl
      · omega
    rw [k.block j h1 h2, h.block j hj hn]⟩
theorem grown_alloc {a b : World} {g : Nat} (h : a.grownBy b (some g)) (o : Obj) : a.grownBy (b.alloc o) (some g) :=
  ⟨h.os, h.tape, h.output, by have := h.size; show a.heap.size ≤ (b.heap.push o).size; simp; omega, fun j hj hn => by
    rw [Below.heap_alloc b o j (Nat.lt_of_lt_of_le hj h.size), h.block j hj hn]⟩
theorem grown_self (a : World) (g : Nat) : a.grownBy a (some g) := ⟨rfl, rfl, rfl, Nat.le_refl _, fun _ _ _ => rfl⟩
theorem edge_any (g B : Nat) (w : World) (hs : Src w B g) (hB : B ≤ g) :
    Calls Tryz.prog 50 #[.pointer (some ⟨g, 0, none⟩)] w fun e w' => ∃ v : Int, e = .returned (.int .i64 v) ∧ -9223372036854775808 ≤ v ∧ v ≤ 9223372036854775807 ∧ Src w' B g ∧ w.grownBy w' (some g) := by
  have hlt := hs.lt
  have HS : Hid (Src w B g) := hs
  clear hs
  go_enter Tryz.func50, Tryz.ntmps50
  go_wp2_with fail
  refine (n_any g B 14 (by omega) (by omega) _ ((HS.out).kept ((Below.refl _ _).alloc (by omega) _) (Below.heap_alloc _ _ _ hlt)) hB).mono ?_
  rintro e w1 ⟨v, rfl, hv0, hv1, hs1, hg1, hz1⟩
  have hk := (hg1.block w.heap.size (by simp) (fun e => by simp at e; omega)).trans (heap_alloc_new w _)
  obtain ⟨r, rfl⟩ := Int.eq_ofNat_of_zero_le hv0
  have hc : ∃ x : Int, w1.cell? ⟨w.heap.size, r, none⟩ = some (.int .i64 x) ∧ -9223372036854775808 ≤ x ∧ x ≤ 9223372036854775807 := by
    rw [cell_of_row _ _ _ _ _ _ hk]
    have hr : r < 14 := by omega
    match r, hr with
    | 0, _ => exact ⟨_, rfl, by omega, by omega⟩
    | 1, _ => exact ⟨_, rfl, by omega, by omega⟩
    | 2, _ => exact ⟨_, rfl, by omega, by omega⟩
    | 3, _ => exact ⟨_, rfl, by omega, by omega⟩
    | 4, _ => exact ⟨_, rfl, by omega, by omega⟩
    | 5, _ => exact ⟨_, rfl, by omega, by omega⟩
    | 6, _ => exact ⟨_, rfl, by omega, by omega⟩
    | 7, _ => exact ⟨_, rfl, by omega, by omega⟩
    | 8, _ => exact ⟨_, rfl, by omega, by omega⟩
    | 9, _ => exact ⟨_, rfl, by omega, by omega⟩
    | 10, _ => exact ⟨_, rfl, by omega, by omega⟩
    | 11, _ => exact ⟨_, rfl, by omega, by omega⟩
    | 12, _ => exact ⟨_, rfl, by omega, by omega⟩
    | 13, _ => exact ⟨_, rfl, by omega, by omega⟩
  obtain ⟨x, hx, hx0, hx1⟩ := hc
  have HB : Hid (-9223372036854775808 ≤ x ∧ x ≤ 9223372036854775807) := ⟨hx0, hx1⟩
  clear hx0 hx1
  have H1 : Hid (Src w1 B g ∧ w.grownBy w1 (some g)) := ⟨hs1, grown_trans (grown_alloc (grown_self w g) _) hg1 (fun j hj => .inl (by simpa using hj.symm))⟩
  clear hs1 hg1 hk hz1
  go_wp2
  go_ret
  exact ⟨x, rfl, HB.out.1, HB.out.2, H1.out⟩

theorem wrap_u64_nat (x : Int) : ∃ m : Nat, IntKind.u64.wrap x = (m : Int) ∧ m < 18446744073709551616 := by
  rw [IntKind.wrap_u64]
  exact ⟨(x % 18446744073709551616).toNat, by omega, by omega⟩
end Go.Proofs.YtkkggbbpaflieaaGreatDoor
