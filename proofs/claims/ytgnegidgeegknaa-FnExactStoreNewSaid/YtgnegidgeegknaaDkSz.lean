/-
  Contracts: the sizes of disks, as the laws count them.
-/
import Derived.Test.YtgnegidgeegknaaStrSz
import Derived.Test.YtgnegidgeegknaaDkRow
namespace Go.Proofs.Ytgnegidgeegknaa
open Go.RowKit
set_option maxRecDepth 100000

theorem szWrite_any (n : Int) (t : ByteArray) (left : Int) (h0 : 0 ≤ left) (h1 : left ≤ 1048576) (ht : t.size ≤ maxLen) (w : World) :
    Calls Try.prog 74 #[.agg #[.int .i64 n, .string t], .int .i64 left] w fun e w' => ∃ r : Int, e = .returned (.int .i64 r) ∧ r ≤ left ∧ Below w.heap.size w w' := by
  unfold maxLen at ht
  by_cases h : left < t.size
  · go_enter Try.func74, Try.ntmps74
    go_wp2
    go_ret
    exact ⟨-1, rfl, by omega, (Below.refl _ _).alloc (Nat.le_refl _) _⟩
  · go_enter Try.func74, Try.ntmps74
    go_wp2
    go_ret
    exact ⟨_, rfl, by omega, (Below.refl _ _).alloc (Nat.le_refl _) _⟩
set_option maxHeartbeats 1000000 in
theorem szWriteS_any (A B : Nat) (ao : Option Addr) (cap : Nat) (l : List Wr) (left : Int) (w : World) (hB : B ≤ w.heap.size) (hl : l.length ≤ maxLen) (hr : WrRow w A B ao l) (h0 : 0 ≤ left) (h1 : left ≤ 1048576) :
    Calls Try.prog 50 #[.slice ao l.length cap, .int .i64 left] w fun e w' => ∃ r : Int, e = .returned (.int .i64 r) ∧ r ≤ left ∧ (r < 0 ∨ 0 ≤ r ∧ l.length ≤ 1048576) ∧ Below w.heap.size w w' := by
  unfold maxLen at hl
  by_cases hlong : left < l.length
  · go_enter Try.func50, Try.ntmps50
    go_wp2
    go_ret
    exact ⟨-1, rfl, by omega, .inl (by omega), Below.refl _ _⟩
  · have HR := hide hr
    clear hr
    go_enter Try.func50, Try.ntmps50
    go_wp2
    go_loopw [1, 5] (fun x i wr => ∃ (k : Nat) (r : Int), k ≤ l.length ∧ i = .int .i64 k ∧ x = .int .i64 r ∧ 0 ≤ r ∧ r ≤ left ∧ Below w.heap.size w wr) (fun _ i _ => l.length - (intOf i).toNat)
    case atStart => exact ⟨0, left - l.length, Nat.zero_le _, rfl, rfl, by omega, by omega, Below.refl _ _⟩
    case round =>
      obtain ⟨k, r, hk, rfl, rfl, hr0, hr1, hb⟩ := hrel
      by_cases hlt : k < l.length
      · obtain ⟨b, off, nn, tt, rfl, hbB, hv, htt, hki, d0, d1⟩ := (HR.out.kept (hb.mono hB)).at k hlt
        clear hv hki
        go_wp2_with fail
        refine (szWrite_any nn tt r hr0 (by omega) htt _).mono ?_
        rintro e w1 ⟨q, rfl, hq, hb1⟩
        have hb2 := hb.trans (hb1.mono hb.size)
        clear hb hb1 d0 d1
        by_cases hs : q < 0
        · go_wp2
          go_ret
          exact ⟨-1, rfl, by omega, .inl (by omega), hb2⟩
        · go_wp2
          go_roundw
          case rel => exact ⟨k + 1, q, by omega, by go_num, rfl, by omega, by omega, hb2⟩
          case measure => simp [intOf]; omega
      · go_wp2
        go_ret
        exact ⟨r, rfl, hr1, .inr ⟨hr0, by omega⟩, hb⟩
set_option maxHeartbeats 1000000 in
theorem szDisk_any (A B : Nat) (so : Option Addr) (p : Nat) (co : Option Addr) (q : Nat) (d : Dk) (left : Int) (w : World) (hB : B ≤ w.heap.size) (hr : DkRow w A B so co d) (h0 : 0 ≤ left) (h1 : left ≤ 1048576) :
    Calls Try.prog 20 #[.agg #[.slice so d.secs.length p, .slice co d.cache.length q], .int .i64 left] w fun e w' => ∃ r : Int, e = .returned (.int .i64 r) ∧ r ≤ left ∧ (r < 0 ∨ 0 ≤ r ∧ dkFits d) ∧ Below w.heap.size w w' := by
  obtain ⟨ss, cs⟩ := d
  obtain ⟨⟨hl1, hl2⟩, hs, hc⟩ := hr
  simp only at *
  have C1 := hide (fun (W : World) (hW : Below w.heap.size w W) => szStringS_any A B so p ss left W (Nat.le_trans hB hW.size) hl1 (hs.kept (hW.mono hB)) h0 h1)
  have C2 := hide (fun (r : Int) (W : World) (hW : Below w.heap.size w W) (hr0 : 0 ≤ r) (hr1 : r ≤ 1048576) => szWriteS_any A B co q cs r W (Nat.le_trans hB hW.size) hl2 (hc.kept (hW.mono hB)) hr0 hr1)
  have X0 := hide (heap_alloc_new w (.cells #[.slice so ss.length p, .slice co cs.length q] 41))
  have B0 := hide ((Below.refl w.heap.size w).alloc (Nat.le_refl _) (.cells #[.slice so ss.length p, .slice co cs.length q] 41))
  have HZ : Hid ((w.alloc (.cells #[.slice so ss.length p, .slice co cs.length q] 41)).heap.size = w.heap.size + 1) := by show _ = _; simp
  clear hs hc hl1 hl2
  go_enter Try.func20, Try.ntmps20
  go_wp2_with fail
  refine (C1.out _ B0.out).mono ?_
  generalize w.alloc (.cells #[.slice so ss.length p, .slice co cs.length q] 41) = W0 at *
  rintro e w1 ⟨r1, rfl, hr1, hcase, hb1⟩
  have X1 := hide ((hb1.block w.heap.size (by rw [HZ.out]; omega)).trans X0.out)
  have B1 := hide (B0.out.trans (hb1.mono B0.out.size))
  clear hb1 X0 B0 C1
  rcases hcase with hs | ⟨hs, hf1⟩
  · go_wp2
    go_ret
    exact ⟨-1, rfl, by omega, .inl (by omega), B1.out⟩
  · obtain ⟨x0, x1, xf⟩ := cells2 X1.out
    go_wp2_with fail
    refine (C2.out r1 _ B1.out hs (by omega)).mono ?_
    rintro e w2 ⟨r2, rfl, hr2, hcase, hb2⟩
    have B2 := hide (B1.out.trans (hb2.mono B1.out.size))
    clear hb2 X1 B1 C2 x0 x1 xf
    rcases hcase with hs2 | ⟨hs2, hf2⟩
    · go_wp2
      go_ret
      exact ⟨-1, rfl, by omega, .inl (by omega), B2.out⟩
    · have HF : Hid (dkFits ⟨ss, cs⟩) := ⟨hf1, hf2⟩
      go_wp2
      go_ret
      exact ⟨r2, rfl, by omega, .inr ⟨hs2, HF.out⟩, B2.out⟩
end Go.Proofs.Ytgnegidgeegknaa
