/-
  Contracts: the source of draws is made of a slice of bytes.
-/
import Derived.Test.YtkkggbbpaflieaaGreatDoorDrawE
namespace Go.Proofs.YtkkggbbpaflieaaGreatDoor
open Go.RowKit

theorem src_size {w wr : World} {B b off len cap mix : Nat} {zs : List Int} (z : Int) (h0 : 0 ≤ z) (h1 : z ≤ 12) (hl : len ≤ 1048576) (hm : mix < 18446744073709551616)
    (hk : wr.heap[w.heap.size]? = some (.cells #[.slice (some ⟨b, off, none⟩) len cap, .int .i64 0, .int .u64 mix, .int .i64 0] 73 (0, 0))) (hr : ByteRow wr B (some ⟨b, off, none⟩) len zs) (hB : B ≤ w.heap.size) (hb : Below w.heap.size w wr) :
    Src (wr.setCell ⟨w.heap.size, 3, none⟩ (.int .i64 z)) B w.heap.size ∧ Below w.heap.size w (wr.setCell ⟨w.heap.size, 3, none⟩ (.int .i64 z)) := by
  refine ⟨⟨_, len, cap, zs, 0, mix, z, ?_, hm, Nat.zero_le _, hl, h0, h1, hr.kept ((Below.refl B wr).setCell hB _)⟩, hb.setCell (Nat.le_refl _) _⟩
  rw [heap_setCell_same wr w.heap.size 3 _ _ (.int .i64 z) hk]; rfl
attribute [local go_sem ↓] Go.wp_at_zero Go.wp_at_succ
set_option maxHeartbeats 2000000 in
theorem source_row (B b off len cap : Nat) (zs : List Int) (w : World) (hB : B ≤ w.heap.size) (hl : len ≤ 1048576) (hbB : b < B) (hz : ∀ i, 0 ≤ zs.getD i 0 ∧ zs.getD i 0 ≤ 255)
    (hc : ∀ i, i < len → w.cell? ⟨b, off + i, none⟩ = some (.int .u8 (zs.getD i 0))) :
    Calls Tryz.prog 14 #[.slice (some ⟨b, off, none⟩) len cap] w fun e w' => ∃ g, e = .returned (.pointer (some ⟨g, 0, none⟩)) ∧ w.heap.size ≤ g ∧ Src w' B g ∧ Below w.heap.size w w' := by
  go_enter Tryz.func14, Tryz.ntmps14
  go_wp2
  go_loopw [4] (fun i wr => ∃ (k mix : Nat), k ≤ len ∧ i = .int .i64 k ∧ Hid (mix < 18446744073709551616) ∧ wr.heap[w.heap.size]? = some (.cells #[.slice (some ⟨b, off, none⟩) len cap, .int .i64 0, .int .u64 mix, .int .i64 0] 73 (0, 0)) ∧ Below w.heap.size w wr)
    (fun i _ => len - (intOf i).toNat)
  case atStart => exact ⟨0, 88172645463325252, by omega, rfl, by show _ < _; omega, heap_alloc_new _ _, (Below.refl _ _).alloc (Nat.le_refl _) _⟩
  case round =>
    obtain ⟨k, mix, hk, rfl, HM, hblk, hb⟩ := hrel
    have c2 : wr.cell? ⟨w.heap.size, 2, none⟩ = some (.int .u64 mix) := by rw [cell_of_row _ _ _ _ _ _ hblk]; rfl
    have c3 : wr.cell? ⟨w.heap.size, 3, none⟩ = some (.int .i64 0) := by rw [cell_of_row _ _ _ _ _ _ hblk]; rfl
    have cf : ∀ j, wr.frozen? ⟨w.heap.size, j, none⟩ = false := fun j => frozen_of_row _ _ _ _ _ hblk
    have HK : Hid (wr.heap[w.heap.size]? = some (.cells #[.slice (some ⟨b, off, none⟩) len cap, .int .i64 0, .int .u64 mix, .int .i64 0] 73 (0, 0))) := hblk
    clear hblk
    by_cases hkl : k < len ∧ k < 64
    · obtain ⟨hk1, hk2⟩ := hkl
      have cb : wr.cell? ⟨b, off + k, none⟩ = some (.int .u8 (zs.getD k 0)) := (hb.cell (p := ⟨b, off + k, none⟩) (by show b < _; omega)).trans (hc k hk1)
      have hzk := hz k
      obtain ⟨z, hzz⟩ : ∃ z, z = zs.getD k 0 := ⟨_, rfl⟩
      rw [← hzz] at cb hzk
      obtain ⟨m, hm, hml⟩ := wrap_u64_nat (bits .xor .u64 (mix : Int) z * 1099511628211)
      have HM2 : Hid (m < 18446744073709551616) := hml
      have hne : ¬ b = w.heap.size := by omega
      clear hzz hc hml hz HM
      go_wp2
      go_region
      have k2 := heap_setCell_same wr w.heap.size 2 _ _ (.int .u64 m) HK.out
      have HK2 : Hid ((wr.setCell ⟨w.heap.size, 2, none⟩ (.int .u64 m)).heap[w.heap.size]? = some (.cells #[.slice (some ⟨b, off, none⟩) len cap, .int .i64 0, .int .u64 m, .int .i64 0] 73 (0, 0))) := by
        show _ = _
        rw [k2]; rfl
      have hb2 := (hb.setCell (p := ⟨w.heap.size, 2, none⟩) (Nat.le_refl _) (.int .u64 m)).drew
      clear k2 HK hb
      go_wp2
      go_roundw
      case rel => exact ⟨k + 1, m, by omega, by go_num, HM2, HK2.out, hb2⟩
      case measure => simp [intOf]; omega
    · have hcon : (decide ((k : Int) < len) && decide ((k : Int) < 64)) = false := by
        rw [Bool.and_eq_false_iff]
        by_cases h : k < len
        · right; have : ¬ k < 64 := fun h2 => hkl ⟨h, h2⟩
          simp; omega
        · left; simp; omega
      have hrow : ByteRow w B (some ⟨b, off, none⟩) len zs := ⟨hz, .inr ⟨b, off, rfl, hbB, hc⟩⟩
      have HR : Hid (ByteRow wr B (some ⟨b, off, none⟩) len zs) := hrow.kept (hb.mono hB)
      clear hrow hz hc
      by_cases hq : 12 < len / 20
      · have hss := fun W v v' => setCell_twice W ⟨w.heap.size, 3, none⟩ v v'
        go_wp2
        all_goals
          go_ret
          exact ⟨w.heap.size, rfl, Nat.le_refl _, src_size 12 (by omega) (by omega) hl HM.out HK.out HR.out hB hb⟩
      · go_wp2
        all_goals
          go_ret
          exact ⟨w.heap.size, rfl, Nat.le_refl _, src_size _ (by omega) (by omega) hl HM.out HK.out HR.out hB hb⟩

/-- A source made of an empty slice, a nil one too. -/
theorem source_empty (B : Nat) (ao : Option Addr) (cap : Nat) (w : World) :
    Calls Tryz.prog 14 #[.slice ao 0 cap] w fun e w' => ∃ g, e = .returned (.pointer (some ⟨g, 0, none⟩)) ∧ w.heap.size ≤ g ∧ Src w' B g ∧ Below w.heap.size w w' := by
  go_enter Tryz.func14, Tryz.ntmps14
  go_wp2
  refine wp_loop_rounds 1 ?_
  rw [rounds_succ]
  go_wp2
  go_ret
  refine ⟨w.heap.size, rfl, Nat.le_refl _, ⟨ao, 0, cap, [], 0, 88172645463325252, 0, heap_alloc_new _ _, by omega, by omega, by omega, by omega, by omega, ⟨fun i => by simp, .inl rfl⟩⟩, (Below.refl _ _).alloc (Nat.le_refl _) _⟩

theorem source_any (B : Nat) (ao : Option Addr) (len cap : Nat) (zs : List Int) (w : World) (hB : B ≤ w.heap.size) (hl : len ≤ 1048576) (hr : ByteRow w B ao len zs) :
    Calls Tryz.prog 14 #[.slice ao len cap] w fun e w' => ∃ g, e = .returned (.pointer (some ⟨g, 0, none⟩)) ∧ w.heap.size ≤ g ∧ Src w' B g ∧ Below w.heap.size w w' := by
  rcases hr.2 with rfl | ⟨b, off, rfl, hbB, hc⟩
  · exact source_empty B ao cap w
  · exact source_row B b off len cap zs w hB hl hbB hr.1 hc
end Go.Proofs.YtkkggbbpaflieaaGreatDoor
