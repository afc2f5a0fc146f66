/-
  Contracts: the sizes of schemas, as the laws count them.
-/
import Derived.Test.YtnangmjcgjlndaaGreatSCopy3
namespace Go.Proofs.YtnangmjcgjlndaaGreat
open Go.RowKit
set_option maxRecDepth 100000

theorem szInt64S_any (ao : Option Addr) (cap : Nat) (n : Nat) (left : Int) (w : World) (hl : n ≤ maxLen) (h0 : 0 ≤ left) (h1 : left ≤ 1048576) :
    Calls Tryz.prog 40 #[.slice ao n cap, .int .i64 left] w fun e w' => ∃ r : Int, e = .returned (.int .i64 r) ∧ r ≤ left ∧ (r < 0 ∨ 0 ≤ r ∧ n ≤ 1048576) ∧ w' = w := by
  unfold maxLen at hl
  by_cases h : left < n
  · go_enter Tryz.func40, Tryz.ntmps40
    go_wp2
    go_ret
    exact ⟨-1, rfl, by omega, .inl (by omega), rfl⟩
  · go_enter Tryz.func40, Tryz.ntmps40
    go_wp2
    go_ret
    exact ⟨_, rfl, by omega, .inr ⟨by omega, by omega⟩, rfl⟩
theorem szColumn_any (t : ByteArray) (k : Int) (u : Bool) (left : Int) (h0 : 0 ≤ left) (h1 : left ≤ 1048576) (ht : t.size ≤ maxLen) (w : World) :
    Calls Tryz.prog 65 #[.agg #[.string t, .int .i64 k, .bool u], .int .i64 left] w fun e w' => ∃ r : Int, e = .returned (.int .i64 r) ∧ r ≤ left ∧ Below w.heap.size w w' := by
  unfold maxLen at ht
  by_cases h : left < t.size
  · go_enter Tryz.func65, Tryz.ntmps65
    go_wp2
    go_ret
    exact ⟨-1, rfl, by omega, (Below.refl _ _).alloc (Nat.le_refl _) _⟩
  · go_enter Tryz.func65, Tryz.ntmps65
    go_wp2
    go_ret
    exact ⟨_, rfl, by omega, (Below.refl _ _).alloc (Nat.le_refl _) _⟩
theorem szIndex_any (io : Option Addr) (cap n : Nat) (u : Bool) (left : Int) (hl : n ≤ maxLen) (h0 : 0 ≤ left) (h1 : left ≤ 1048576) (w : World) :
    Calls Tryz.prog 66 #[.agg #[.slice io n cap, .bool u], .int .i64 left] w fun e w' => ∃ r : Int, e = .returned (.int .i64 r) ∧ r ≤ left ∧ (r < 0 ∨ 0 ≤ r ∧ n ≤ 1048576) ∧ Below w.heap.size w w' := by
  go_enter Tryz.func66, Tryz.ntmps66
  go_wp2_with fail
  refine (szInt64S_any io cap n left _ hl h0 h1).mono ?_
  rintro e w1 ⟨r, rfl, hr, hc, rfl⟩
  rcases hc with hn | ⟨hp, hq⟩
  · go_wp2
    go_ret
    exact ⟨-1, rfl, by omega, .inl (by omega), (Below.refl _ _).alloc (Nat.le_refl _) _⟩
  · go_wp2
    go_ret
    exact ⟨_, rfl, by omega, .inr ⟨by omega, by omega⟩, (Below.refl _ _).alloc (Nat.le_refl _) _⟩
set_option maxHeartbeats 1000000 in
theorem szColumnS_any (A B : Nat) (ao : Option Addr) (cap : Nat) (cs : List Col) (left : Int) (w : World) (hB : B ≤ w.heap.size) (hl : cs.length ≤ maxLen) (hr : ColRow w A B ao cs) (h0 : 0 ≤ left) (h1 : left ≤ 1048576) :
    Calls Tryz.prog 39 #[.slice ao cs.length cap, .int .i64 left] w fun e w' => ∃ r : Int, e = .returned (.int .i64 r) ∧ r ≤ left ∧ (r < 0 ∨ 0 ≤ r ∧ cs.length ≤ 1048576) ∧ Below w.heap.size w w' := by
  unfold maxLen at hl
  by_cases hlong : left < cs.length
  · go_enter Tryz.func39, Tryz.ntmps39
    go_wp2
    go_ret
    exact ⟨-1, rfl, by omega, .inl (by omega), Below.refl _ _⟩
  · have HR : Hid (ColRow w A B ao cs) := hr
    clear hr
    go_enter Tryz.func39, Tryz.ntmps39
    go_wp2
    go_loopw [1, 5] (fun x i wr => ∃ (k : Nat) (r : Int), k ≤ cs.length ∧ i = .int .i64 k ∧ x = .int .i64 r ∧ 0 ≤ r ∧ r ≤ left ∧ Below w.heap.size w wr) (fun _ i _ => cs.length - (intOf i).toNat)
    case atStart => exact ⟨0, left - cs.length, Nat.zero_le _, rfl, rfl, by omega, by omega, Below.refl _ _⟩
    case round =>
      obtain ⟨k, r, hk, rfl, rfl, hr0, hr1, hb⟩ := hrel
      by_cases hlt : k < cs.length
      · obtain ⟨b, off, kk, nn, tt, rfl, hbB, hv, htt, hki, d0, d1, d2⟩ := (HR.out.kept (hb.mono hB)).at k hlt
        clear hv hki
        go_wp2_with fail
        refine (szColumn_any kk nn tt r hr0 (by omega) htt _).mono ?_
        rintro e w1 ⟨q, rfl, hq, hb1⟩
        have hb2 := hb.trans (hb1.mono hb.size)
        clear hb hb1 d0 d1 d2
        by_cases hs : q < 0
        · go_wp2
          go_ret
          exact ⟨-1, rfl, by omega, .inl (by omega), hb2⟩
        · go_wp2
          go_roundw
          case rel => exact ⟨k + 1, q, by omega, by go_num, rfl, by omega, by omega, hb2⟩
          case measure => simp [intOf]; omega
      · go_wp2
        go_ret
        exact ⟨r, rfl, hr1, .inr ⟨hr0, by omega⟩, hb⟩
set_option maxHeartbeats 1000000 in
theorem szIndexS_any (A B : Nat) (ao : Option Addr) (cap : Nat) (xs : List Idx) (left : Int) (w : World) (hB : B ≤ w.heap.size) (hl : xs.length ≤ maxLen) (hr : IdxRow w A B ao xs) (h0 : 0 ≤ left) (h1 : left ≤ 1048576) :
    Calls Tryz.prog 41 #[.slice ao xs.length cap, .int .i64 left] w fun e w' => ∃ r : Int, e = .returned (.int .i64 r) ∧ r ≤ left ∧ (r < 0 ∨ 0 ≤ r ∧ xs.length ≤ 1048576 ∧ ∀ i, i < xs.length → (xs.getD i noIdx).cols.length ≤ 1048576) ∧ Below w.heap.size w w' := by
  unfold maxLen at hl
  by_cases hlong : left < xs.length
  · go_enter Tryz.func41, Tryz.ntmps41
    go_wp2
    go_ret
    exact ⟨-1, rfl, by omega, .inl (by omega), Below.refl _ _⟩
  · have HR : Hid (IdxRow w A B ao xs) := hr
    clear hr
    go_enter Tryz.func41, Tryz.ntmps41
    go_wp2
    go_loopw [1, 5] (fun x i wr => ∃ (k : Nat) (r : Int), k ≤ xs.length ∧ i = .int .i64 k ∧ x = .int .i64 r ∧ 0 ≤ r ∧ r ≤ left ∧ Hid (∀ i, i < k → (xs.getD i noIdx).cols.length ≤ 1048576) ∧ Below w.heap.size w wr) (fun _ i _ => xs.length - (intOf i).toNat)
    case atStart => exact ⟨0, left - xs.length, Nat.zero_le _, rfl, rfl, by omega, by omega, fun i hi => absurd hi (Nat.not_lt_zero _), Below.refl _ _⟩
    case round =>
      obtain ⟨k, r, hk, rfl, rfl, hr0, hr1, HF, hb⟩ := hrel
      by_cases hlt : k < xs.length
      · obtain ⟨b, off, io, cp, l, u, rfl, hbB, hv, htt, hir, d0, d1⟩ := (HR.out.kept (hb.mono hB)).at k hlt
        have HV : Hid (xs.getD k noIdx = ⟨l, u⟩) := hv
        clear hv hir
        go_wp2_with fail
        refine (szIndex_any io cp l.length u r (Nat.le_trans htt.1 htt.2) hr0 (by omega) _).mono ?_
        rintro e w1 ⟨q, rfl, hq, hcase, hb1⟩
        have hb2 := hb.trans (hb1.mono hb.size)
        clear hb hb1 d0 d1
        rcases hcase with hs | ⟨hs, hll⟩
        · go_wp2
          go_ret
          exact ⟨-1, rfl, by omega, .inl (by omega), hb2⟩
        · have HF2 : Hid (∀ i, i < k + 1 → (xs.getD i noIdx).cols.length ≤ 1048576) := fun i hi => by
            by_cases e : i = k
            · subst e; rw [HV.out]; exact hll
            · exact HF.out i (by omega)
          clear HF HV hll
          go_wp2
          go_roundw
          case rel => exact ⟨k + 1, q, by omega, by go_num, rfl, by omega, by omega, HF2, hb2⟩
          case measure => simp [intOf]; omega
      · obtain rfl : k = xs.length := by omega
        go_wp2
        go_ret
        exact ⟨r, rfl, hr1, .inr ⟨hr0, by omega, HF.out⟩, hb⟩
set_option maxHeartbeats 1000000 in
theorem szSchema_any (A B : Nat) (ao : Option Addr) (c1 : Nat) (ko : Option Addr) (c2 : Nat) (xo : Option Addr) (c3 : Nat) (s : Sch) (left : Int) (w : World) (hB : B ≤ w.heap.size) (hr : SchRow w A B ao ko xo c2 s) (h0 : 0 ≤ left) (h1 : left ≤ 1048576) :
    Calls Tryz.prog 23 #[.agg #[.string s.name, .slice ao s.cols.length c1, .slice ko s.key.length c2, .slice xo s.idx.length c3], .int .i64 left] w fun e w' =>
      ∃ r : Int, e = .returned (.int .i64 r) ∧ r ≤ left ∧ (r < 0 ∨ 0 ≤ r ∧ schFits s) ∧ Below w.heap.size w w' := by
  obtain ⟨nm, cs, ky, xs⟩ := s
  simp only
  obtain ⟨⟨hn0, hn1, hn2', hn3⟩, hr1, hr2, hr3⟩ := hr
  have hn2 : ky.length ≤ maxLen := Nat.le_trans hn2'.1 hn2'.2
  clear hn2'
  simp only at hn0 hn1 hn2 hn3 hr1 hr2 hr3
  unfold maxLen at hn0
  have R1 : Hid (ColRow w A B ao cs) := hr1
  have R3 : Hid (IdxRow w A B xo xs) := hr3
  clear hr1 hr2 hr3
  by_cases hlong : left < nm.size
  · go_enter Tryz.func23, Tryz.ntmps23
    go_wp2
    go_ret
    exact ⟨-1, rfl, by omega, .inl (by omega), (Below.refl _ _).alloc (Nat.le_refl _) _⟩
  · have B0 : Hid (Below w.heap.size w (w.alloc (.cells #[.string nm, .slice ao cs.length c1, .slice ko ky.length c2, .slice xo xs.length c3] 34))) := (Below.refl _ _).alloc (Nat.le_refl _) _
    go_enter Tryz.func23, Tryz.ntmps23
    go_wp2_with fail
    refine (szColumnS_any A B ao c1 cs (left - nm.size) _ (Nat.le_trans hB B0.out.size) hn1 (R1.out.kept (B0.out.mono hB)) (by omega) (by omega)).mono ?_
    rintro e w1 ⟨r1, rfl, hr1, hc1, hb1⟩
    have X1 : Hid (w1.heap[w.heap.size]? = some (.cells #[.string nm, .slice ao cs.length c1, .slice ko ky.length c2, .slice xo xs.length c3] 34 (0, 0))) := (hb1.block _ (by simp)).trans (heap_alloc_new _ _)
    obtain ⟨x0, x1, x2, x3, xf⟩ := cells4 X1.out
    have B1 : Hid (Below w.heap.size w w1) := B0.out.trans (hb1.mono B0.out.size)
    clear hb1 B0
    rcases hc1 with hneg | ⟨hr10, hcl⟩
    · go_wp2
      go_ret
      exact ⟨-1, rfl, by omega, .inl (by omega), B1.out⟩
    · go_wp2_with fail
      refine (szInt64S_any ko c2 ky.length r1 _ hn2 hr10 (by omega)).mono ?_
      rintro e w2 ⟨r2, rfl, hr2, hc2, rfl⟩
      rcases hc2 with hneg | ⟨hr20, hkl⟩
      · go_wp2
        go_ret
        exact ⟨-1, rfl, by omega, .inl (by omega), B1.out⟩
      · go_wp2_with fail
        refine (szIndexS_any A B xo c3 xs r2 _ (Nat.le_trans hB B1.out.size) hn3 (R3.out.kept (B1.out.mono hB)) hr20 (by omega)).mono ?_
        rintro e w3 ⟨r3, rfl, hr3, hc3, hb3⟩
        have B3 : Hid (Below w.heap.size w w3) := B1.out.trans (hb3.mono B1.out.size)
        clear hb3 x0 x1 x2 x3 xf
        rcases hc3 with hneg | ⟨hr30, hxl, hxa⟩
        · go_wp2
          go_ret
          exact ⟨-1, rfl, by omega, .inl (by omega), B3.out⟩
        · have HF : Hid (schFits ⟨nm, cs, ky, xs⟩) := ⟨hcl, hkl, hxl, fun x hx => by
            obtain ⟨i, hi, rfl⟩ := List.getElem_of_mem hx
            have := hxa i hi
            rwa [List.getD_eq_getElem?_getD, List.getElem?_eq_getElem hi] at this⟩
          clear hxa
          go_wp2
          go_ret
          exact ⟨r3, rfl, by omega, .inr ⟨hr30, HF.out⟩, B3.out⟩
end Go.Proofs.YtnangmjcgjlndaaGreat
