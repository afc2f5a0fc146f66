/-
  Contracts: what the source of draws makes: bytes, a number at some limit, the source itself.
-/
import Derived.Test.YtbainombjfginaaSrc
import Derived.Test.YtbainombjfginaaConv
namespace Go.Proofs.Ytbainombjfginaa
open Go.RowKit

theorem grown_trans {a b c : World} {g : Nat} {row : Option Nat} (h : a.grownBy b (some g)) (k : b.grownBy c row) (hr : ∀ j, row = some j → j = g ∨ a.heap.size ≤ j) : a.grownBy c (some g) :=
  ⟨k.os.trans h.os, k.tape.trans h.tape, k.output.trans h.output, Nat.le_trans h.size k.size, fun j hj hn => by
    have h1 : j < b.heap.size := Nat.lt_of_lt_of_le hj h.size
    have h2 : some j ≠ row := fun e => by
      rcases hr j e.symm with rfl | hle
      · exact hn rfl
      · omega
    rw [k.block j h1 h2, h.block j hj hn]⟩
theorem grown_alloc {a b : World} {g : Nat} (h : a.grownBy b (some g)) (o : Obj) : a.grownBy (b.alloc o) (some g) :=
  ⟨h.os, h.tape, h.output, by have := h.size; show a.heap.size ≤ (b.heap.push o).size; simp; omega, fun j hj hn => by
    rw [Below.heap_alloc b o j (Nat.lt_of_lt_of_le hj h.size), h.block j hj hn]⟩
theorem grown_self (a : World) (g : Nat) : a.grownBy a (some g) := ⟨rfl, rfl, rfl, Nat.le_refl _, fun _ _ _ => rfl⟩

set_option maxHeartbeats 1000000 in
theorem bytes_any (g B n : Nat) (hn : n ≤ 1000000) (w : World) (hs : Src w B g) (hB : B ≤ g) :
    Calls Try.prog 32 #[.pointer (some ⟨g, 0, none⟩), .int .i64 n] w fun e w' => ∃ t : ByteArray, e = .returned (.string t) ∧ t.size = n ∧ Src w' B g ∧ w.grownBy w' (some g) := by
  obtain ⟨i0, hi, hz0, hz1, hz2⟩ := info_parts Try.infoU8
  have hlt := hs.lt
  have HS : Hid (Src w B g) := hs
  clear hs
  go_enter Try.func32, Try.ntmps32
  go_wp2
  go_loopw [5, 6] (fun v i wr => ∃ (k : Nat) (xs : List Int), k ≤ n ∧ i = .int .i64 k ∧ wr.ownsRow w.heap.size 5 1 v k (xs.map (Value.int .u8)) ∧ Hid (Src wr B g) ∧ w.grownBy wr (some g))
    (fun _ i _ => n - (intOf i).toNat)
  case atStart => exact ⟨0, [], by omega, rfl, ⟨rfl, .inr ⟨w.heap.size, 0, #[], rfl, Nat.le_refl _, heap_alloc_new _ _, Nat.le_refl _, Nat.zero_le _, rfl, rfl⟩⟩,
      (HS.out).kept ((Below.refl _ _).alloc (by omega) _) (Below.heap_alloc _ _ _ hlt), grown_alloc (grown_self _ _) _⟩
  case round =>
    obtain ⟨k, xs, hk, rfl, hown, HSr, hgr⟩ := hrel
    by_cases hkl : k < n
    · have hzr := hgr.size
      go_wp2_with fail
      refine (n_any g B 256 (by omega) (by omega) _ HSr.out hB).mono ?_
      rintro e w1 ⟨v, rfl, hv0, hv1, hs1, hg1, hz1'⟩
      have hown1 := hown.kept hg1 (.inr (fun e => by have := (hown.lt g e).1; omega))
      have hgr1 := grown_trans hgr hg1 (fun j hj => .inl (by simpa using hj.symm))
      have HS1 : Hid (Src w1 B g) := hs1
      have hzw := hgr1.size
      clear hs1 hown hgr hg1 HSr hz1'
      go_wp2_with (at_builtin; refine wpList_append_own _ rfl _ _ 22 rfl w.heap.size 5 i0 (.int .u8 0) 1 1 Try.underlying22 hi hz0 hz1 hz2 rfl (by decide) _ _ _ rfl (hown1.alloc _) ⟨w1.heap.size, 0, none⟩ 1 1 [.int .u8 v] rfl rfl ?c1 ?c2 ?c3 ?c4 ?c5 ?_)
      case c1 => exact cell_one_new _ _ _
      case c2 => intro u hu; simp at hu; subst hu; rfl
      case c3 => unfold maxLen; omega
      case c4 => omega
      case c5 => simp; omega
      · intro v' w2 hown' hgrow _
        have hgr2 := grown_trans (grown_alloc hgr1 (.cells #[.int .u8 v] 5)) hgrow (fun j hj => .inr (hown1.lt j hj).1)
        have hb2 : Below B w1 w2 := ((Below.refl B w1).alloc (by omega) _).grown hgrow (by simp; omega) (fun j hj => by have := (hown1.lt j hj).1; omega)
        have hkg : w2.heap[g]? = w1.heap[g]? := by
          rw [hgrow.block g (by simp; omega) (fun e => by have := (hown1.lt g e.symm).1; omega), Below.heap_alloc _ _ _ (by omega)]
        have HS2 : Hid (Src w2 B g) := (HS1.out).kept hb2 hkg
        clear hown1 hgr1 HS1 hgrow hb2 hkg
        go_wp2
        go_roundw
        case rel => exact ⟨k + 1, xs ++ [v], by omega, by go_num, by simpa using hown', HS2, hgr2⟩
        case measure => simp [intOf]; omega
    · obtain rfl : k = n := by omega
      have hcv := convOwn (xs := xs) hown
      have hx : xs.length = k := by simpa using hown.1
      go_wp2
      go_ret
      exact ⟨_, rfl, by rw [strOfNums_size]; exact hx, HSr.out, hgr⟩

theorem edge_any (g B : Nat) (w : World) (hs : Src w B g) (hB : B ≤ g) :
    Calls Try.prog 38 #[.pointer (some ⟨g, 0, none⟩)] w fun e w' => ∃ v : Int, e = .returned (.int .i64 v) ∧ -9223372036854775808 ≤ v ∧ v ≤ 9223372036854775807 ∧ Src w' B g ∧ w.grownBy w' (some g) := by
  have hlt := hs.lt
  have HS : Hid (Src w B g) := hs
  clear hs
  go_enter Try.func38, Try.ntmps38
  go_wp2_with fail
  refine (n_any g B 14 (by omega) (by omega) _ ((HS.out).kept ((Below.refl _ _).alloc (by omega) _) (Below.heap_alloc _ _ _ hlt)) hB).mono ?_
  rintro e w1 ⟨v, rfl, hv0, hv1, hs1, hg1, hz1⟩
  have hk := (hg1.block w.heap.size (by simp) (fun e => by simp at e; omega)).trans (heap_alloc_new w _)
  obtain ⟨r, rfl⟩ := Int.eq_ofNat_of_zero_le hv0
  have hc : ∃ x : Int, w1.cell? ⟨w.heap.size, r, none⟩ = some (.int .i64 x) ∧ -9223372036854775808 ≤ x ∧ x ≤ 9223372036854775807 := by
    rw [cell_of_row _ _ _ _ _ _ hk]
    have hr : r < 14 := by omega
    match r, hr with
    | 0, _ => exact ⟨_, rfl, by omega, by omega⟩
    | 1, _ => exact ⟨_, rfl, by omega, by omega⟩
    | 2, _ => exact ⟨_, rfl, by omega, by omega⟩
    | 3, _ => exact ⟨_, rfl, by omega, by omega⟩
    | 4, _ => exact ⟨_, rfl, by omega, by omega⟩
    | 5, _ => exact ⟨_, rfl, by omega, by omega⟩
    | 6, _ => exact ⟨_, rfl, by omega, by omega⟩
    | 7, _ => exact ⟨_, rfl, by omega, by omega⟩
    | 8, _ => exact ⟨_, rfl, by omega, by omega⟩
    | 9, _ => exact ⟨_, rfl, by omega, by omega⟩
    | 10, _ => exact ⟨_, rfl, by omega, by omega⟩
    | 11, _ => exact ⟨_, rfl, by omega, by omega⟩
    | 12, _ => exact ⟨_, rfl, by omega, by omega⟩
    | 13, _ => exact ⟨_, rfl, by omega, by omega⟩
  obtain ⟨x, hx, hx0, hx1⟩ := hc
  have HB : Hid (-9223372036854775808 ≤ x ∧ x ≤ 9223372036854775807) := ⟨hx0, hx1⟩
  clear hx0 hx1
  have H1 : Hid (Src w1 B g ∧ w.grownBy w1 (some g)) := ⟨hs1, grown_trans (grown_alloc (grown_self w g) _) hg1 (fun j hj => .inl (by simpa using hj.symm))⟩
  clear hs1 hg1 hk hz1
  go_wp2
  go_ret
  exact ⟨x, rfl, HB.out.1, HB.out.2, H1.out⟩

theorem wrap_u64_nat (x : Int) : ∃ m : Nat, IntKind.u64.wrap x = (m : Int) ∧ m < 18446744073709551616 := by
  rw [IntKind.wrap_u64]
  exact ⟨(x % 18446744073709551616).toNat, by omega, by omega⟩
end Go.Proofs.Ytbainombjfginaa
