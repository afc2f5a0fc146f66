/-
  Contracts and plain laws: RwSz, SSize, TvSz, RwEq, SEq, TvEq
-/
import Derived.Test.YtkhklfnhninkjaaGreatQa
import Derived.Test.YtkhklfnhninkjaaGreatVals1
import Derived.Test.YtkhklfnhninkjaaGreatSCopy3
import Derived.Test.YtkhklfnhninkjaaGreatQg
import Derived.Test.YtkhklfnhninkjaaGreatEqV
import Derived.Deep.RegionHeld3

/-
  Contract: the size of rows of values, as the laws count it.
-/
namespace Go.Proofs.YtkhklfnhninkjaaGreat
open Go.RowKit
set_option maxRecDepth 100000

set_option maxHeartbeats 1000000 in
theorem szValueSS_any (A B : Nat) (ao : Option Addr) (cap : Nat) (l : List (List Val)) (left : Int) (w : World) (hB : B ≤ w.heap.size) (hl : l.length ≤ maxLen) (hr : RwRow w A B ao l) (h0 : 0 ≤ left) (h1 : left ≤ 1048576) :
    Calls Tryz.prog 10 #[.slice ao l.length cap, .int .i64 left] w fun e w' => ∃ r : Int, e = .returned (.int .i64 r) ∧ r ≤ left ∧ (r < 0 ∨ 0 ≤ r ∧ l.length ≤ 1048576 ∧ ∀ i, i < l.length → (l.getD i []).length ≤ 1048576) ∧ Below w.heap.size w w' := by
  unfold maxLen at hl
  by_cases hlong : left < l.length
  · go_enter Tryz.func10, Tryz.ntmps10
    go_wp2
    go_ret
    exact ⟨-1, rfl, by omega, .inl (by omega), Below.refl _ _⟩
  · have HR : Hid (RwRow w A B ao l) := hr
    clear hr
    go_enter Tryz.func10, Tryz.ntmps10
    go_wp2
    go_loopw [1, 5] (fun x i wr => ∃ (k : Nat) (r : Int), k ≤ l.length ∧ i = .int .i64 k ∧ x = .int .i64 r ∧ 0 ≤ r ∧ r ≤ left ∧ Hid (∀ i, i < k → (l.getD i []).length ≤ 1048576) ∧ Below w.heap.size w wr) (fun _ i _ => l.length - (intOf i).toNat)
    case atStart => exact ⟨0, left - l.length, Nat.zero_le _, rfl, rfl, by omega, by omega, fun i hi => absurd hi (Nat.not_lt_zero _), Below.refl _ _⟩
    case round =>
      obtain ⟨k, r, hk, rfl, rfl, hr0, hr1, HF, hb⟩ := hrel
      by_cases hlt : k < l.length
      · obtain ⟨b, off, vs, vo, c, rfl, hbB, hv, hc, hva, d0⟩ := (HR.out.kept (hb.mono hB)).at k hlt
        have HS := hide (szValueS_any B vo c vs r wr (Nat.le_trans hB hb.size) (Nat.le_trans hc.1 hc.2) hva.1 hr0 (by omega))
        have HV := hide hv
        clear hv hva hc
        have HN : Hid (szFits r vs → vs.length ≤ 1048576) := fun h => by unfold szFits at h; omega
        generalize hvn : vs.length = vn at *
        go_wp2_with fail
        refine HS.out.mono ?_
        rintro e w1 ⟨q, rfl, hq, hcase, hb1⟩
        have hb2 := hb.trans (hb1.mono hb.size)
        clear hb hb1 d0 HS
        rcases hcase with hs | ⟨hs, hsm⟩
        · go_wp2
          go_ret
          exact ⟨-1, rfl, by omega, .inl (by omega), hb2⟩
        · have HF2 : Hid (∀ i, i < k + 1 → (l.getD i []).length ≤ 1048576) := fun i hi => by
            by_cases e : i = k
            · subst e
              rw [HV.out, hvn]
              exact HN.out hsm
            · exact HF.out i (by omega)
          clear HF HV HN hsm hvn
          go_wp2
          go_roundw
          case rel => exact ⟨k + 1, q, by omega, by go_num, rfl, by omega, by omega, HF2, hb2⟩
          case measure => simp [intOf]; omega
      · obtain rfl : k = l.length := by omega
        go_wp2
        go_ret
        exact ⟨r, rfl, hr1, .inr ⟨hr0, by omega, HF.out⟩, hb⟩
end Go.Proofs.YtkhklfnhninkjaaGreat

/-
  Contracts: the sizes of schemas, as the laws count them.
-/
namespace Go.Proofs.YtkhklfnhninkjaaGreat
open Go.RowKit
set_option maxRecDepth 100000

theorem szInt64S_any (ao : Option Addr) (cap : Nat) (n : Nat) (left : Int) (w : World) (hl : n ≤ maxLen) (h0 : 0 ≤ left) (h1 : left ≤ 1048576) :
    Calls Tryz.prog 22 #[.slice ao n cap, .int .i64 left] w fun e w' => ∃ r : Int, e = .returned (.int .i64 r) ∧ r ≤ left ∧ (r < 0 ∨ 0 ≤ r ∧ n ≤ 1048576) ∧ w' = w := by
  unfold maxLen at hl
  by_cases h : left < n
  · go_enter Tryz.func22, Tryz.ntmps22
    go_wp2
    go_ret
    exact ⟨-1, rfl, by omega, .inl (by omega), rfl⟩
  · go_enter Tryz.func22, Tryz.ntmps22
    go_wp2
    go_ret
    exact ⟨_, rfl, by omega, .inr ⟨by omega, by omega⟩, rfl⟩
theorem szColumn_any (t : ByteArray) (k : Int) (u : Bool) (left : Int) (h0 : 0 ≤ left) (h1 : left ≤ 1048576) (ht : t.size ≤ maxLen) (w : World) :
    Calls Tryz.prog 42 #[.agg #[.string t, .int .i64 k, .bool u], .int .i64 left] w fun e w' => ∃ r : Int, e = .returned (.int .i64 r) ∧ r ≤ left ∧ Below w.heap.size w w' := by
  unfold maxLen at ht
  by_cases h : left < t.size
  · go_enter Tryz.func42, Tryz.ntmps42
    go_wp2
    go_ret
    exact ⟨-1, rfl, by omega, (Below.refl _ _).alloc (Nat.le_refl _) _⟩
  · go_enter Tryz.func42, Tryz.ntmps42
    go_wp2
    go_ret
    exact ⟨_, rfl, by omega, (Below.refl _ _).alloc (Nat.le_refl _) _⟩
theorem szIndex_any (io : Option Addr) (cap n : Nat) (u : Bool) (left : Int) (hl : n ≤ maxLen) (h0 : 0 ≤ left) (h1 : left ≤ 1048576) (w : World) :
    Calls Tryz.prog 43 #[.agg #[.slice io n cap, .bool u], .int .i64 left] w fun e w' => ∃ r : Int, e = .returned (.int .i64 r) ∧ r ≤ left ∧ (r < 0 ∨ 0 ≤ r ∧ n ≤ 1048576) ∧ Below w.heap.size w w' := by
  go_enter Tryz.func43, Tryz.ntmps43
  go_wp2_with fail
  refine (szInt64S_any io cap n left _ hl h0 h1).mono ?_
  rintro e w1 ⟨r, rfl, hr, hc, rfl⟩
  rcases hc with hn | ⟨hp, hq⟩
  · go_wp2
    go_ret
    exact ⟨-1, rfl, by omega, .inl (by omega), (Below.refl _ _).alloc (Nat.le_refl _) _⟩
  · go_wp2
    go_ret
    exact ⟨_, rfl, by omega, .inr ⟨by omega, by omega⟩, (Below.refl _ _).alloc (Nat.le_refl _) _⟩
set_option maxHeartbeats 1000000 in
theorem szColumnS_any (A B : Nat) (ao : Option Addr) (cap : Nat) (cs : List Col) (left : Int) (w : World) (hB : B ≤ w.heap.size) (hl : cs.length ≤ maxLen) (hr : ColRow w A B ao cs) (h0 : 0 ≤ left) (h1 : left ≤ 1048576) :
    Calls Tryz.prog 21 #[.slice ao cs.length cap, .int .i64 left] w fun e w' => ∃ r : Int, e = .returned (.int .i64 r) ∧ r ≤ left ∧ (r < 0 ∨ 0 ≤ r ∧ cs.length ≤ 1048576) ∧ Below w.heap.size w w' := by
  unfold maxLen at hl
  by_cases hlong : left < cs.length
  · go_enter Tryz.func21, Tryz.ntmps21
    go_wp2
    go_ret
    exact ⟨-1, rfl, by omega, .inl (by omega), Below.refl _ _⟩
  · have HR : Hid (ColRow w A B ao cs) := hr
    clear hr
    go_enter Tryz.func21, Tryz.ntmps21
    go_wp2
    go_loopw [1, 5] (fun x i wr => ∃ (k : Nat) (r : Int), k ≤ cs.length ∧ i = .int .i64 k ∧ x = .int .i64 r ∧ 0 ≤ r ∧ r ≤ left ∧ Below w.heap.size w wr) (fun _ i _ => cs.length - (intOf i).toNat)
    case atStart => exact ⟨0, left - cs.length, Nat.zero_le _, rfl, rfl, by omega, by omega, Below.refl _ _⟩
    case round =>
      obtain ⟨k, r, hk, rfl, rfl, hr0, hr1, hb⟩ := hrel
      by_cases hlt : k < cs.length
      · obtain ⟨b, off, kk, nn, tt, rfl, hbB, hv, htt, hki, d0, d1, d2⟩ := (HR.out.kept (hb.mono hB)).at k hlt
        clear hv hki
        go_wp2_with fail
        refine (szColumn_any kk nn tt r hr0 (by omega) htt _).mono ?_
        rintro e w1 ⟨q, rfl, hq, hb1⟩
        have hb2 := hb.trans (hb1.mono hb.size)
        clear hb hb1 d0 d1 d2
        by_cases hs : q < 0
        · go_wp2
          go_ret
          exact ⟨-1, rfl, by omega, .inl (by omega), hb2⟩
        · go_wp2
          go_roundw
          case rel => exact ⟨k + 1, q, by omega, by go_num, rfl, by omega, by omega, hb2⟩
          case measure => simp [intOf]; omega
      · go_wp2
        go_ret
        exact ⟨r, rfl, hr1, .inr ⟨hr0, by omega⟩, hb⟩
set_option maxHeartbeats 1000000 in
theorem szIndexS_any (A B : Nat) (ao : Option Addr) (cap : Nat) (xs : List Idx) (left : Int) (w : World) (hB : B ≤ w.heap.size) (hl : xs.length ≤ maxLen) (hr : IdxRow w A B ao xs) (h0 : 0 ≤ left) (h1 : left ≤ 1048576) :
    Calls Tryz.prog 23 #[.slice ao xs.length cap, .int .i64 left] w fun e w' => ∃ r : Int, e = .returned (.int .i64 r) ∧ r ≤ left ∧ (r < 0 ∨ 0 ≤ r ∧ xs.length ≤ 1048576 ∧ ∀ i, i < xs.length → (xs.getD i noIdx).cols.length ≤ 1048576) ∧ Below w.heap.size w w' := by
  unfold maxLen at hl
  by_cases hlong : left < xs.length
  · go_enter Tryz.func23, Tryz.ntmps23
    go_wp2
    go_ret
    exact ⟨-1, rfl, by omega, .inl (by omega), Below.refl _ _⟩
  · have HR : Hid (IdxRow w A B ao xs) := hr
    clear hr
    go_enter Tryz.func23, Tryz.ntmps23
    go_wp2
    go_loopw [1, 5] (fun x i wr => ∃ (k : Nat) (r : Int), k ≤ xs.length ∧ i = .int .i64 k ∧ x = .int .i64 r ∧ 0 ≤ r ∧ r ≤ left ∧ Hid (∀ i, i < k → (xs.getD i noIdx).cols.length ≤ 1048576) ∧ Below w.heap.size w wr) (fun _ i _ => xs.length - (intOf i).toNat)
    case atStart => exact ⟨0, left - xs.length, Nat.zero_le _, rfl, rfl, by omega, by omega, fun i hi => absurd hi (Nat.not_lt_zero _), Below.refl _ _⟩
    case round =>
      obtain ⟨k, r, hk, rfl, rfl, hr0, hr1, HF, hb⟩ := hrel
      by_cases hlt : k < xs.length
      · obtain ⟨b, off, io, cp, l, u, rfl, hbB, hv, htt, hir, d0, d1⟩ := (HR.out.kept (hb.mono hB)).at k hlt
        have HV : Hid (xs.getD k noIdx = ⟨l, u⟩) := hv
        clear hv hir
        go_wp2_with fail
        refine (szIndex_any io cp l.length u r (Nat.le_trans htt.1 htt.2) hr0 (by omega) _).mono ?_
        rintro e w1 ⟨q, rfl, hq, hcase, hb1⟩
        have hb2 := hb.trans (hb1.mono hb.size)
        clear hb hb1 d0 d1
        rcases hcase with hs | ⟨hs, hll⟩
        · go_wp2
          go_ret
          exact ⟨-1, rfl, by omega, .inl (by omega), hb2⟩
        · have HF2 : Hid (∀ i, i < k + 1 → (xs.getD i noIdx).cols.length ≤ 1048576) := fun i hi => by
            by_cases e : i = k
            · subst e; rw [HV.out]; exact hll
            · exact HF.out i (by omega)
          clear HF HV hll
          go_wp2
          go_roundw
          case rel => exact ⟨k + 1, q, by omega, by go_num, rfl, by omega, by omega, HF2, hb2⟩
          case measure => simp [intOf]; omega
      · obtain rfl : k = xs.length := by omega
        go_wp2
        go_ret
        exact ⟨r, rfl, hr1, .inr ⟨hr0, by omega, HF.out⟩, hb⟩
set_option maxHeartbeats 1000000 in
theorem szSchema_any (A B : Nat) (ao : Option Addr) (c1 : Nat) (ko : Option Addr) (c2 : Nat) (xo : Option Addr) (c3 : Nat) (s : Sch) (left : Int) (w : World) (hB : B ≤ w.heap.size) (hr : SchRow w A B ao ko xo c2 s) (h0 : 0 ≤ left) (h1 : left ≤ 1048576) :
    Calls Tryz.prog 9 #[.agg #[.string s.name, .slice ao s.cols.length c1, .slice ko s.key.length c2, .slice xo s.idx.length c3], .int .i64 left] w fun e w' =>
      ∃ r : Int, e = .returned (.int .i64 r) ∧ r ≤ left ∧ (r < 0 ∨ 0 ≤ r ∧ schFits s) ∧ Below w.heap.size w w' := by
  obtain ⟨nm, cs, ky, xs⟩ := s
  simp only
  obtain ⟨⟨hn0, hn1, hn2', hn3⟩, hr1, hr2, hr3⟩ := hr
  have hn2 : ky.length ≤ maxLen := Nat.le_trans hn2'.1 hn2'.2
  clear hn2'
  simp only at hn0 hn1 hn2 hn3 hr1 hr2 hr3
  unfold maxLen at hn0
  have R1 : Hid (ColRow w A B ao cs) := hr1
  have R3 : Hid (IdxRow w A B xo xs) := hr3
  clear hr1 hr2 hr3
  by_cases hlong : left < nm.size
  · go_enter Tryz.func9, Tryz.ntmps9
    go_wp2
    go_ret
    exact ⟨-1, rfl, by omega, .inl (by omega), (Below.refl _ _).alloc (Nat.le_refl _) _⟩
  · have B0 : Hid (Below w.heap.size w (w.alloc (.cells #[.string nm, .slice ao cs.length c1, .slice ko ky.length c2, .slice xo xs.length c3] 26))) := (Below.refl _ _).alloc (Nat.le_refl _) _
    go_enter Tryz.func9, Tryz.ntmps9
    go_wp2_with fail
    refine (szColumnS_any A B ao c1 cs (left - nm.size) _ (Nat.le_trans hB B0.out.size) hn1 (R1.out.kept (B0.out.mono hB)) (by omega) (by omega)).mono ?_
    rintro e w1 ⟨r1, rfl, hr1, hc1, hb1⟩
    have X1 : Hid (w1.heap[w.heap.size]? = some (.cells #[.string nm, .slice ao cs.length c1, .slice ko ky.length c2, .slice xo xs.length c3] 26 (0, 0))) := (hb1.block _ (by simp)).trans (heap_alloc_new _ _)
    obtain ⟨x0, x1, x2, x3, xf⟩ := cells4 X1.out
    have B1 : Hid (Below w.heap.size w w1) := B0.out.trans (hb1.mono B0.out.size)
    clear hb1 B0
    rcases hc1 with hneg | ⟨hr10, hcl⟩
    · go_wp2
      go_ret
      exact ⟨-1, rfl, by omega, .inl (by omega), B1.out⟩
    · go_wp2_with fail
      refine (szInt64S_any ko c2 ky.length r1 _ hn2 hr10 (by omega)).mono ?_
      rintro e w2 ⟨r2, rfl, hr2, hc2, rfl⟩
      rcases hc2 with hneg | ⟨hr20, hkl⟩
      · go_wp2
        go_ret
        exact ⟨-1, rfl, by omega, .inl (by omega), B1.out⟩
      · go_wp2_with fail
        refine (szIndexS_any A B xo c3 xs r2 _ (Nat.le_trans hB B1.out.size) hn3 (R3.out.kept (B1.out.mono hB)) hr20 (by omega)).mono ?_
        rintro e w3 ⟨r3, rfl, hr3, hc3, hb3⟩
        have B3 : Hid (Below w.heap.size w w3) := B1.out.trans (hb3.mono B1.out.size)
        clear hb3 x0 x1 x2 x3 xf
        rcases hc3 with hneg | ⟨hr30, hxl, hxa⟩
        · go_wp2
          go_ret
          exact ⟨-1, rfl, by omega, .inl (by omega), B3.out⟩
        · have HF : Hid (schFits ⟨nm, cs, ky, xs⟩) := ⟨hcl, hkl, hxl, fun x hx => by
            obtain ⟨i, hi, rfl⟩ := List.getElem_of_mem hx
            have := hxa i hi
            rwa [List.getD_eq_getElem?_getD, List.getElem?_eq_getElem hi] at this⟩
          clear hxa
          go_wp2
          go_ret
          exact ⟨r3, rfl, by omega, .inr ⟨hr30, HF.out⟩, B3.out⟩
end Go.Proofs.YtkhklfnhninkjaaGreat

/-
  Contract: the size of a table, as the laws count it.
-/
namespace Go.Proofs.YtkhklfnhninkjaaGreat
open Go.RowKit
set_option maxRecDepth 100000

set_option maxHeartbeats 4000000 in
theorem szTable_any (A B : Nat) (s : Sch) (l : List (List Val)) (a1 : Option Addr) (c1 : Nat) (a2 : Option Addr) (c2 : Nat) (a3 : Option Addr) (c3 : Nat) (a4 : Option Addr) (c4 : Nat) (left : Int) (w : World) (hB : B ≤ w.heap.size) (hl : l.length ≤ maxLen) (h1 : SchRow w A B a1 a2 a3 c2 s) (h2 : RwRow w A B a4 l) (h0 : 0 ≤ left) (hm : left ≤ 1048576) :
    Calls Tryz.prog 4 #[.agg #[.string s.name, .slice a1 s.cols.length c1, .slice a2 s.key.length c2, .slice a3 s.idx.length c3, .slice a4 l.length c4], .int .i64 left] w fun e w' => ∃ r : Int, e = .returned (.int .i64 r) ∧ r ≤ left ∧ (r < 0 ∨ 0 ≤ r ∧ tFits s l) ∧ Below w.heap.size w w' := by
  have HSS := hide (fun (W : World) (hb : Below w.heap.size w W) => szSchema_any A B a1 c1 a2 c2 a3 c3 s left W (Nat.le_trans hB hb.size) (h1.kept (hb.mono hB)) h0 hm)
  have HSR := hide (fun (r : Int) (hr0 : 0 ≤ r) (hr1 : r ≤ 1048576) (W : World) (hb : Below w.heap.size w W) => szValueSS_any A B a4 c4 l r W (Nat.le_trans hB hb.size) hl (h2.kept (hb.mono hB)) hr0 hr1)
  have HFT := hide (fun (x : schFits s) (y : l.length ≤ 1048576 ∧ ∀ i, i < l.length → (l.getD i []).length ≤ 1048576) => show tFits s l from ⟨x, y⟩)
  clear h1 h2 hB hl
  generalize s.name = nm at *
  generalize s.cols.length = n1 at *
  generalize s.key.length = n2 at *
  generalize s.idx.length = n3 at *
  generalize l.length = n4 at *
  have B0 := hide ((Below.refl w.heap.size w).alloc (Nat.le_refl _) (.cells #[.string nm, .slice a1 n1 c1, .slice a2 n2 c2, .slice a3 n3 c3, .slice a4 n4 c4] 29))
  have X0 := hide (heap_alloc_new w (.cells #[.string nm, .slice a1 n1 c1, .slice a2 n2 c2, .slice a3 n3 c3, .slice a4 n4 c4] 29))
  go_enter Tryz.func4, Tryz.ntmps4
  go_upto_region 1 with fail
  generalize w.alloc (.cells #[.string nm, .slice a1 n1 c1, .slice a2 n2 c2, .slice a3 n3 c3, .slice a4 n4 c4] 29) = W0 at *
  obtain ⟨x0, x1, x2, x3, x4, xf⟩ := cellsN5 X0.out
  go_wp2_with fail
  refine (HSS.out _ B0.out).mono ?_
  rintro e w1 ⟨r1, rfl, hr1, hcase, k1⟩
  have X1 := hide ((k1.block _ (blkG X0.out)).trans X0.out)
  have B1 := hide (B0.out.trans (k1.mono B0.out.size))
  clear k1 X0 B0 HSS x0 x1 x2 x3 x4 xf
  rcases hcase with hneg | ⟨hr0, hfit⟩
  · go_wp2
    go_ret
    exact ⟨-1, rfl, by omega, .inl (by omega), B1.out⟩
  · have HF := hide hfit
    clear hfit
    obtain ⟨x0, x1, x2, x3, x4, xf⟩ := cellsN5 X1.out
    go_wp2_with fail
    refine (HSR.out r1 hr0 (by omega) _ B1.out).mono ?_
    rintro e w2 ⟨r2, rfl, hr2, hcase2, k2⟩
    have B2 := hide (B1.out.trans (k2.mono B1.out.size))
    clear k2 X1 B1 HSR x0 x1 x2 x3 x4 xf
    rcases hcase2 with hneg | ⟨hr20, hfit2⟩
    · go_wp2
      go_ret
      exact ⟨-1, rfl, by omega, .inl (by omega), B2.out⟩
    · have HF2 := hide (HFT.out HF.out hfit2)
      clear hfit2
      go_wp2
      go_ret
      exact ⟨r2, rfl, by omega, .inr ⟨hr20, HF2.out⟩, B2.out⟩
end Go.Proofs.YtkhklfnhninkjaaGreat

/-
  Contract: two rows of rows of the same values are the same.
-/
namespace Go.Proofs.YtkhklfnhninkjaaGreat
open Go.RowKit
set_option maxRecDepth 100000

set_option maxHeartbeats 4000000 in
theorem eqValueSS_same (A B A' B' : Nat) (ao : Option Addr) (cap : Nat) (bo : Option Addr) (cp : Nat) (l : List (List Val)) (w : World) (hB : B ≤ w.heap.size) (hB' : B' ≤ w.heap.size) (hl : l.length ≤ 1048576) (hx : ∀ i, i < l.length → (l.getD i []).length ≤ 1048576) (ha : RwRow w A B ao l) (hb : RwRow w A' B' bo l) :
    Calls Tryz.prog 20 #[.slice ao l.length cap, .slice bo l.length cp] w fun e w' => e = .returned (.bool true) ∧ Below w.heap.size w w' := by
  have HA : Hid (RwRow w A B ao l) := ha
  have HB : Hid (RwRow w A' B' bo l) := hb
  have HX := hide hx
  clear ha hb hx
  go_enter Tryz.func20, Tryz.ntmps20
  go_wp2
  go_loopw [5] (fun i wr => ∃ k : Nat, k ≤ l.length ∧ i = .int .i64 k ∧ Below w.heap.size w wr) (fun i _ => l.length - (intOf i).toNat)
  case atStart => exact ⟨0, Nat.zero_le _, rfl, Below.refl _ _⟩
  case round =>
    obtain ⟨k, hk, rfl, hbw⟩ := hrel
    by_cases hlt : k < l.length
    · obtain ⟨b, off, vs, vo, c, rfl, hbB, hv, hc, hva, d0⟩ := (HA.out.kept (hbw.mono hB)).at k hlt
      obtain ⟨b', off', vs', vo', c', rfl, hbB', hv', hc', hva', e0⟩ := (HB.out.kept (hbw.mono hB')).at k hlt
      rw [hv] at hv'
      subst hv'
      have hxl := HX.out k hlt
      rw [hv] at hxl
      have hz := hbw.size
      have HE := hide (fun (W : World) (hW : Below wr.heap.size wr W) => eqValueS_same vo c vo' c' vs W hxl ((hva.1.kept (hW.mono (Nat.le_trans hB hz))).mono (Nat.le_trans hB (Nat.le_trans hz hW.size))) ((hva'.1.kept (hW.mono (Nat.le_trans hB' hz))).mono (Nat.le_trans hB' (Nat.le_trans hz hW.size))))
      have hi0 : (0 : Int) ≤ (k : Int) := by omega
      have hi1 : (k : Int) < (l.length : Int) := by omega
      have ht := (Int.toNat_natCast k)
      have hq1 : b < wr.heap.size := by omega
      have hq2 : b' < wr.heap.size := by omega
      clear hv hc hc' hva hva' hxl
      generalize vs.length = vn at *
      go_wp2
      go_region_held3 (fun W => W.cell? ⟨b, off + k, none⟩ = some (.slice vo vn c) ∧ W.cell? ⟨b', off' + k, none⟩ = some (.slice vo' vn c')) (go_keep) (first | (go_at_call 41; refine (HE.out _ (Below.refl _ _).drew).mono ?_; rintro e w1 ⟨rfl, hb1⟩; have hb1' : Below wr.heap.size wr w1 := (Below.refl _ _).drew.trans hb1; obtain ⟨hc1, hf1⟩ := bcell hb1'))
      all_goals
        have hb2 := hbw.trans (hb1'.mono hz)
        clear d0 e0 hb1 hb1' hbw hc1 hf1 HE
        go_wp2
        go_roundw
        case rel => exact ⟨k + 1, by omega, by go_num, hb2⟩
        case measure => simp [intOf]; omega
    · go_wp2
      go_ret
      exact ⟨rfl, hbw⟩
end Go.Proofs.YtkhklfnhninkjaaGreat

/-
  Contracts: two schemas of the same parts are the same.
-/
namespace Go.Proofs.YtkhklfnhninkjaaGreat
open Go.RowKit
set_option maxRecDepth 100000

theorem eqColumn_same (t : ByteArray) (k : Int) (u : Bool) (w : World) :
    Calls Tryz.prog 53 #[.agg #[.string t, .int .i64 k, .bool u], .agg #[.string t, .int .i64 k, .bool u]] w fun e w' => e = .returned (.bool true) ∧ Below w.heap.size w w' := by
  go_enter Tryz.func53, Tryz.ntmps53
  go_wp2
  go_ret
  exact ⟨rfl, ((Below.refl _ _).alloc (Nat.le_refl _) _).alloc (by simp) _⟩
set_option maxHeartbeats 2000000 in
theorem eqColumnS_same (A B A' B' : Nat) (ao : Option Addr) (cap : Nat) (bo : Option Addr) (cp : Nat) (cs : List Col) (w : World) (hB : B ≤ w.heap.size) (hB' : B' ≤ w.heap.size) (hl : cs.length ≤ 1048576) (ha : ColRow w A B ao cs) (hb : ColRow w A' B' bo cs) :
    Calls Tryz.prog 38 #[.slice ao cs.length cap, .slice bo cs.length cp] w fun e w' => e = .returned (.bool true) ∧ Below w.heap.size w w' := by
  have HA : Hid (ColRow w A B ao cs) := ha
  have HB : Hid (ColRow w A' B' bo cs) := hb
  clear ha hb
  go_enter Tryz.func38, Tryz.ntmps38
  go_wp2
  go_loopw [5] (fun i wr => ∃ k : Nat, k ≤ cs.length ∧ i = .int .i64 k ∧ Below w.heap.size w wr) (fun i _ => cs.length - (intOf i).toNat)
  case atStart => exact ⟨0, Nat.zero_le _, rfl, Below.refl _ _⟩
  case round =>
    obtain ⟨k, hk, rfl, hbw⟩ := hrel
    by_cases hlt : k < cs.length
    · obtain ⟨b, off, kk, nn, tt, rfl, hbB, hv, htt, hki, d0, d1, d2⟩ := (HA.out.kept (hbw.mono hB)).at k hlt
      obtain ⟨b', off', kk', nn', tt', rfl, hbB', hv', htt', hki', e0, e1, e2⟩ := (HB.out.kept (hbw.mono hB')).at k hlt
      rw [hv] at hv'
      simp only [Col.mk.injEq] at hv'
      obtain ⟨rfl, rfl, rfl⟩ := hv'
      have hz := hbw.size
      have hi0 : (0 : Int) ≤ (k : Int) := by omega
      have hi1 : (k : Int) < (cs.length : Int) := by omega
      have ht := (Int.toNat_natCast k)
      have hq1 : b < wr.heap.size := by omega
      have hq2 : b' < wr.heap.size := by omega
      clear hv htt htt' hki hki'
      go_wp2
      go_region_held3 (fun W => W.cell? ⟨b, off + k * 3, none⟩ = some (.string kk) ∧ W.cell? ⟨b, off + k * 3 + 1, none⟩ = some (.int .i64 nn) ∧ W.cell? ⟨b, off + k * 3 + 2, none⟩ = some (.bool tt) ∧ W.cell? ⟨b', off' + k * 3, none⟩ = some (.string kk) ∧ W.cell? ⟨b', off' + k * 3 + 1, none⟩ = some (.int .i64 nn) ∧ W.cell? ⟨b', off' + k * 3 + 2, none⟩ = some (.bool tt)) (go_keep) (first | (go_at_call 53; refine (eqColumn_same kk nn tt _).mono ?_; rintro e w1 ⟨rfl, hb1⟩; have hb1' : Below wr.heap.size wr w1 := (Below.refl _ _).drew.trans hb1; obtain ⟨hc1, hf1⟩ := bcell hb1'))
      all_goals
        have hb2 := hbw.trans (hb1'.mono hz)
        clear d0 d1 d2 e0 e1 e2 hb1 hb1' hbw hc1 hf1
        go_wp2
        go_roundw
        case rel => exact ⟨k + 1, by omega, by go_num, hb2⟩
        case measure => simp [intOf]; omega
    · go_wp2
      go_ret
      exact ⟨rfl, hbw⟩
set_option maxHeartbeats 2000000 in
theorem eqInt64S_same (A B A' B' : Nat) (ao : Option Addr) (cap : Nat) (bo : Option Addr) (cp : Nat) (l : List Int) (w : World) (hB : B ≤ w.heap.size) (hB' : B' ≤ w.heap.size) (hl : l.length ≤ 1048576) (ha : IntRow w A B ao l) (hb : IntRow w A' B' bo l) :
    Calls Tryz.prog 39 #[.slice ao l.length cap, .slice bo l.length cp] w fun e w' => e = .returned (.bool true) ∧ Below w.heap.size w w' := by
  have HA : Hid (IntRow w A B ao l) := ha
  have HB : Hid (IntRow w A' B' bo l) := hb
  clear ha hb
  go_enter Tryz.func39, Tryz.ntmps39
  go_wp2
  go_loopw [5] (fun i wr => ∃ k : Nat, k ≤ l.length ∧ i = .int .i64 k ∧ Below w.heap.size w wr) (fun i _ => l.length - (intOf i).toNat)
  case atStart => exact ⟨0, Nat.zero_le _, rfl, Below.refl _ _⟩
  case round =>
    obtain ⟨k, hk, rfl, hbw⟩ := hrel
    by_cases hlt : k < l.length
    · obtain ⟨b, off, x, rfl, hbB, hv, hx, d0⟩ := (HA.out.kept (hbw.mono hB)).at k hlt
      obtain ⟨b', off', x', rfl, hbB', hv', hx', e0⟩ := (HB.out.kept (hbw.mono hB')).at k hlt
      rw [hv] at hv'
      subst hv'
      have hi0 : (0 : Int) ≤ (k : Int) := by omega
      have hi1 : (k : Int) < (l.length : Int) := by omega
      have ht := (Int.toNat_natCast k)
      clear hv hx hx'
      go_wp2
      go_region_held3 (fun W => W.cell? ⟨b, off + k, none⟩ = some (.int .i64 x) ∧ W.cell? ⟨b', off' + k, none⟩ = some (.int .i64 x)) (go_keep) (fail)
      all_goals
        have hb2 : Below w.heap.size w _ := hbw.drew
        clear d0 e0 hbw
        go_wp2
        go_roundw
        case rel => exact ⟨k + 1, by omega, by go_num, hb2⟩
        case measure => simp [intOf]; omega
    · go_wp2
      go_ret
      exact ⟨rfl, hbw⟩
set_option maxHeartbeats 1000000 in
theorem eqIndex_same (A B A' B' : Nat) (ao : Option Addr) (cap : Nat) (bo : Option Addr) (cp : Nat) (l : List Int) (u : Bool) (w : World) (hB : B ≤ w.heap.size) (hB' : B' ≤ w.heap.size) (hl : l.length ≤ 1048576) (ha : IntRow w A B ao l) (hb : IntRow w A' B' bo l) :
    Calls Tryz.prog 54 #[.agg #[.slice ao l.length cap, .bool u], .agg #[.slice bo l.length cp, .bool u]] w fun e w' => e = .returned (.bool true) ∧ Below w.heap.size w w' := by
  have HA : Hid (IntRow w A B ao l) := ha
  have HB : Hid (IntRow w A' B' bo l) := hb
  clear ha hb
  have B0 : Hid (Below w.heap.size w ((w.alloc (.cells #[.slice ao l.length cap, .bool u] 69)).alloc (.cells #[.slice bo l.length cp, .bool u] 69))) := ((Below.refl _ _).alloc (Nat.le_refl _) _).alloc (by simp) _
  go_enter Tryz.func54, Tryz.ntmps54
  go_wp2_with fail
  refine (eqInt64S_same A B A' B' ao cap bo cp l _ (Nat.le_trans hB B0.out.size) (Nat.le_trans hB' B0.out.size) hl (HA.out.kept (B0.out.mono hB)) (HB.out.kept (B0.out.mono hB'))).mono ?_
  rintro e w1 ⟨rfl, hb1⟩
  obtain ⟨hc1, hf1⟩ := bcell hb1
  have B1 : Hid (Below w.heap.size w w1) := B0.out.trans (hb1.mono B0.out.size)
  clear hb1
  go_wp2
  go_ret
  exact ⟨rfl, B1.out⟩
set_option maxHeartbeats 2000000 in
theorem eqIndexS_same (A B A' B' : Nat) (ao : Option Addr) (cap : Nat) (bo : Option Addr) (cp : Nat) (xs : List Idx) (w : World) (hB : B ≤ w.heap.size) (hB' : B' ≤ w.heap.size) (hl : xs.length ≤ 1048576) (hxl : ∀ x ∈ xs, x.cols.length ≤ 1048576) (ha : IdxRow w A B ao xs) (hb : IdxRow w A' B' bo xs) :
    Calls Tryz.prog 40 #[.slice ao xs.length cap, .slice bo xs.length cp] w fun e w' => e = .returned (.bool true) ∧ Below w.heap.size w w' := by
  have HA : Hid (IdxRow w A B ao xs) := ha
  have HB : Hid (IdxRow w A' B' bo xs) := hb
  clear ha hb
  go_enter Tryz.func40, Tryz.ntmps40
  go_wp2
  go_loopw [5] (fun i wr => ∃ k : Nat, k ≤ xs.length ∧ i = .int .i64 k ∧ Below w.heap.size w wr) (fun i _ => xs.length - (intOf i).toNat)
  case atStart => exact ⟨0, Nat.zero_le _, rfl, Below.refl _ _⟩
  case round =>
    obtain ⟨k, hk, rfl, hbw⟩ := hrel
    by_cases hlt : k < xs.length
    · obtain ⟨b, off, io, ca, l, u, rfl, hbB, hv, htt, hir, d0, d1⟩ := (HA.out.kept (hbw.mono hB)).at k hlt
      obtain ⟨b', off', io', ca', l', u', rfl, hbB', hv', htt', hir', e0, e1⟩ := (HB.out.kept (hbw.mono hB')).at k hlt
      rw [hv] at hv'
      simp only [Idx.mk.injEq] at hv'
      obtain ⟨rfl, rfl⟩ := hv'
      have hll : l.length ≤ 1048576 := by have := hxl _ (getD_mem xs noIdx k hlt); rw [hv] at this; exact this
      have hz := hbw.size
      have hi0 : (0 : Int) ≤ (k : Int) := by omega
      have hi1 : (k : Int) < (xs.length : Int) := by omega
      have ht := (Int.toNat_natCast k)
      have hq1 : b < wr.heap.size := by omega
      have hq2 : b' < wr.heap.size := by omega
      have HI : Hid (∀ W, Below wr.heap.size wr W → Calls Tryz.prog 54 #[.agg #[.slice io l.length ca, .bool u], .agg #[.slice io' l.length ca', .bool u]] W fun e w' => e = .returned (.bool true) ∧ Below W.heap.size W w') := fun W hbW =>
        eqIndex_same A B A' B' io ca io' ca' l u W (by have := hbW.size; omega) (by have := hbW.size; omega) hll (hir.kept (hbW.mono (by omega))) (hir'.kept (hbW.mono (by omega)))
      clear hv htt htt' hir hir'
      go_wp2
      go_region_held3 (fun W => W.cell? ⟨b, off + k * 2, none⟩ = some (.slice io l.length ca) ∧ W.cell? ⟨b, off + k * 2 + 1, none⟩ = some (.bool u) ∧ W.cell? ⟨b', off' + k * 2, none⟩ = some (.slice io' l.length ca') ∧ W.cell? ⟨b', off' + k * 2 + 1, none⟩ = some (.bool u)) (go_keep) (first | (go_at_call 54; refine (HI.out _ (Below.refl _ _).drew).mono ?_; rintro e w1 ⟨rfl, hb1⟩; have hb1' : Below wr.heap.size wr w1 := (Below.refl _ _).drew.trans hb1; obtain ⟨hc1, hf1⟩ := bcell hb1'))
      all_goals
        have hb2 := hbw.trans (hb1'.mono hz)
        clear d0 d1 e0 e1 hb1 hb1' hbw hc1 hf1 HI
        go_wp2
        go_roundw
        case rel => exact ⟨k + 1, by omega, by go_num, hb2⟩
        case measure => simp [intOf]; omega
    · go_wp2
      go_ret
      exact ⟨rfl, hbw⟩
set_option maxHeartbeats 1000000 in
theorem eqSchema_same (A B A' B' : Nat) (ao : Option Addr) (c1 : Nat) (ko : Option Addr) (c2 : Nat) (xo : Option Addr) (c3 : Nat) (ao' : Option Addr) (c1' : Nat) (ko' : Option Addr) (c2' : Nat) (xo' : Option Addr) (c3' : Nat) (s : Sch) (w : World)
    (hB : B ≤ w.heap.size) (hB' : B' ≤ w.heap.size) (hf : schFits s) (ha : SchRow w A B ao ko xo c2 s) (hb : SchRow w A' B' ao' ko' xo' c2' s) :
    Calls Tryz.prog 19 #[.agg #[.string s.name, .slice ao s.cols.length c1, .slice ko s.key.length c2, .slice xo s.idx.length c3], .agg #[.string s.name, .slice ao' s.cols.length c1', .slice ko' s.key.length c2', .slice xo' s.idx.length c3']] w fun e w' =>
      e = .returned (.bool true) ∧ Below w.heap.size w w' := by
  have HA : Hid (SchRow w A B ao ko xo c2 s) := ha
  have HB : Hid (SchRow w A' B' ao' ko' xo' c2' s) := hb
  have HF : Hid (schFits s) := hf
  clear ha hb hf
  obtain ⟨nm, cs, ky, xs⟩ := s
  simp only
  have B0 : Hid (Below w.heap.size w ((w.alloc (.cells #[.string nm, .slice ao cs.length c1, .slice ko ky.length c2, .slice xo xs.length c3] 35)).alloc (.cells #[.string nm, .slice ao' cs.length c1', .slice ko' ky.length c2', .slice xo' xs.length c3'] 35))) := ((Below.refl _ _).alloc (Nat.le_refl _) _).alloc (by simp) _
  go_enter Tryz.func19, Tryz.ntmps19
  go_wp2_with fail
  refine (eqColumnS_same A B A' B' ao c1 ao' c1' cs _ (Nat.le_trans hB B0.out.size) (Nat.le_trans hB' B0.out.size) HF.out.1 (HA.out.2.1.kept (B0.out.mono hB)) (HB.out.2.1.kept (B0.out.mono hB'))).mono ?_
  rintro e w1 ⟨rfl, hb1⟩
  have X1 : Hid (w1.heap[w.heap.size]? = some (.cells #[.string nm, .slice ao cs.length c1, .slice ko ky.length c2, .slice xo xs.length c3] 35 (0, 0))) := (hb1.block _ (by simp; omega)).trans (by rw [heap_old _ _ _ (by simp), heap_alloc_new])
  have Y1 : Hid (w1.heap[w.heap.size + 1]? = some (.cells #[.string nm, .slice ao' cs.length c1', .slice ko' ky.length c2', .slice xo' xs.length c3'] 35 (0, 0))) := (hb1.block _ (by simp)).trans (by have := heap_alloc_new (w.alloc (.cells #[.string nm, .slice ao cs.length c1, .slice ko ky.length c2, .slice xo xs.length c3] 35)) (.cells #[.string nm, .slice ao' cs.length c1', .slice ko' ky.length c2', .slice xo' xs.length c3'] 35 (0, 0)); simpa using this)
  have hlt1 : w.heap.size + 2 ≤ w1.heap.size := by have := hb1.size; simp at this; omega
  obtain ⟨x0, x1, x2, x3, xf⟩ := cells4 X1.out
  obtain ⟨y0, y1, y2, y3, yf⟩ := cells4 Y1.out
  have B1 : Hid (Below w.heap.size w w1) := B0.out.trans (hb1.mono B0.out.size)
  clear hb1 B0
  go_wp2_with fail
  refine (eqInt64S_same A B A' B' ko c2 ko' c2' ky _ (Nat.le_trans hB B1.out.size) (Nat.le_trans hB' B1.out.size) HF.out.2.1 (HA.out.2.2.1.kept (B1.out.mono hB)) (HB.out.2.2.1.kept (B1.out.mono hB'))).mono ?_
  rintro e w2 ⟨rfl, hb2⟩
  have X2 : Hid (w2.heap[w.heap.size]? = some (.cells #[.string nm, .slice ao cs.length c1, .slice ko ky.length c2, .slice xo xs.length c3] 35 (0, 0))) := (hb2.block _ (by omega)).trans X1.out
  have Y2 : Hid (w2.heap[w.heap.size + 1]? = some (.cells #[.string nm, .slice ao' cs.length c1', .slice ko' ky.length c2', .slice xo' xs.length c3'] 35 (0, 0))) := (hb2.block _ (by omega)).trans Y1.out
  clear x0 x1 x2 x3 xf y0 y1 y2 y3 yf
  obtain ⟨x0, x1, x2, x3, xf⟩ := cells4 X2.out
  obtain ⟨y0, y1, y2, y3, yf⟩ := cells4 Y2.out
  have B2 : Hid (Below w.heap.size w w2) := B1.out.trans (hb2.mono B1.out.size)
  clear hb2 B1 X1 Y1
  go_wp2_with fail
  refine (eqIndexS_same A B A' B' xo c3 xo' c3' xs _ (Nat.le_trans hB B2.out.size) (Nat.le_trans hB' B2.out.size) HF.out.2.2.1 HF.out.2.2.2 (HA.out.2.2.2.kept (B2.out.mono hB)) (HB.out.2.2.2.kept (B2.out.mono hB'))).mono ?_
  rintro e w3 ⟨rfl, hb3⟩
  have B3 : Hid (Below w.heap.size w w3) := B2.out.trans (hb3.mono B2.out.size)
  clear hb3 x0 x1 x2 x3 xf y0 y1 y2 y3 yf
  go_wp2
  go_ret
  exact ⟨rfl, B3.out⟩
end Go.Proofs.YtkhklfnhninkjaaGreat

/-
  Contract: two tables of the same parts are the same.
-/
namespace Go.Proofs.YtkhklfnhninkjaaGreat
open Go.RowKit
set_option maxRecDepth 100000

set_option maxHeartbeats 4000000 in
theorem eqTable_same (A B A' B' : Nat) (s : Sch) (l : List (List Val)) (a1 : Option Addr) (c1 : Nat) (a2 : Option Addr) (c2 : Nat) (a3 : Option Addr) (c3 : Nat) (a4 : Option Addr) (c4 : Nat) (b1 : Option Addr) (p1 : Nat) (b2 : Option Addr) (p2 : Nat) (b3 : Option Addr) (p3 : Nat) (b4 : Option Addr) (p4 : Nat) (w : World) (hB : B ≤ w.heap.size) (hB' : B' ≤ w.heap.size) (hf : tFits s l) (h1 : SchRow w A B a1 a2 a3 c2 s) (h2 : RwRow w A B a4 l) (k1 : SchRow w A' B' b1 b2 b3 p2 s) (k2 : RwRow w A' B' b4 l) :
    Calls Tryz.prog 8 #[.agg #[.string s.name, .slice a1 s.cols.length c1, .slice a2 s.key.length c2, .slice a3 s.idx.length c3, .slice a4 l.length c4], .agg #[.string s.name, .slice b1 s.cols.length p1, .slice b2 s.key.length p2, .slice b3 s.idx.length p3, .slice b4 l.length p4]] w fun e w' => e = .returned (.bool true) ∧ Below w.heap.size w w' := by
  have HES := hide (fun (W : World) (hb : Below w.heap.size w W) => eqSchema_same A B A' B' a1 c1 a2 c2 a3 c3 b1 p1 b2 p2 b3 p3 s W (Nat.le_trans hB hb.size) (Nat.le_trans hB' hb.size) hf.1 (h1.kept (hb.mono hB)) (k1.kept (hb.mono hB')))
  have HER := hide (fun (W : World) (hb : Below w.heap.size w W) => eqValueSS_same A B A' B' a4 c4 b4 p4 l W (Nat.le_trans hB hb.size) (Nat.le_trans hB' hb.size) hf.2.1 hf.2.2 (h2.kept (hb.mono hB)) (k2.kept (hb.mono hB')))
  clear h1 h2 k1 k2 hB hB' hf
  generalize s.name = nm at *
  generalize s.cols.length = n1 at *
  generalize s.key.length = n2 at *
  generalize s.idx.length = n3 at *
  generalize l.length = n4 at *
  have B0 := hide (((Below.refl w.heap.size w).alloc (Nat.le_refl _) (.cells #[.string nm, .slice a1 n1 c1, .slice a2 n2 c2, .slice a3 n3 c3, .slice a4 n4 c4] 38)).alloc (by simp) (.cells #[.string nm, .slice b1 n1 p1, .slice b2 n2 p2, .slice b3 n3 p3, .slice b4 n4 p4] 38))
  have X0 := hide ((heap_old (w.alloc (.cells #[.string nm, .slice a1 n1 c1, .slice a2 n2 c2, .slice a3 n3 c3, .slice a4 n4 c4] 38)) (.cells #[.string nm, .slice b1 n1 p1, .slice b2 n2 p2, .slice b3 n3 p3, .slice b4 n4 p4] 38) w.heap.size (by simp)).trans (heap_alloc_new w (.cells #[.string nm, .slice a1 n1 c1, .slice a2 n2 c2, .slice a3 n3 c3, .slice a4 n4 c4] 38)))
  have Y0 := hide (show ((w.alloc (.cells #[.string nm, .slice a1 n1 c1, .slice a2 n2 c2, .slice a3 n3 c3, .slice a4 n4 c4] 38)).alloc (.cells #[.string nm, .slice b1 n1 p1, .slice b2 n2 p2, .slice b3 n3 p3, .slice b4 n4 p4] 38)).heap[w.heap.size + 1]? = some (.cells #[.string nm, .slice b1 n1 p1, .slice b2 n2 p2, .slice b3 n3 p3, .slice b4 n4 p4] 38 (0, 0)) from by have := heap_alloc_new (w.alloc (.cells #[.string nm, .slice a1 n1 c1, .slice a2 n2 c2, .slice a3 n3 c3, .slice a4 n4 c4] 38)) (.cells #[.string nm, .slice b1 n1 p1, .slice b2 n2 p2, .slice b3 n3 p3, .slice b4 n4 p4] 38); simpa using this)
  go_enter Tryz.func8, Tryz.ntmps8
  go_upto_region 1 with fail
  generalize (w.alloc (.cells #[.string nm, .slice a1 n1 c1, .slice a2 n2 c2, .slice a3 n3 c3, .slice a4 n4 c4] 38)).alloc (.cells #[.string nm, .slice b1 n1 p1, .slice b2 n2 p2, .slice b3 n3 p3, .slice b4 n4 p4] 38) = W0 at *
  obtain ⟨x0, x1, x2, x3, x4, xf⟩ := cellsN5 X0.out
  obtain ⟨y0, y1, y2, y3, y4, yf⟩ := cellsN5 Y0.out
  go_wp2_with fail
  refine (HES.out _ B0.out).mono ?_
  rintro e w1 ⟨rfl, hb1⟩
  have X1 := hide ((hb1.block _ (blkG X0.out)).trans X0.out)
  have Y1 := hide ((hb1.block _ (blkG Y0.out)).trans Y0.out)
  have B1 := hide (B0.out.trans (hb1.mono B0.out.size))
  clear hb1 x0 x1 x2 x3 x4 xf y0 y1 y2 y3 y4 yf X0 Y0 B0 HES
  obtain ⟨x0, x1, x2, x3, x4, xf⟩ := cellsN5 X1.out
  obtain ⟨y0, y1, y2, y3, y4, yf⟩ := cellsN5 Y1.out
  go_wp2_with fail
  refine (HER.out _ B1.out).mono ?_
  rintro e w2 ⟨rfl, hb2⟩
  have B2 := hide (B1.out.trans (hb2.mono B1.out.size))
  clear hb2 x0 x1 x2 x3 x4 xf y0 y1 y2 y3 y4 yf X1 Y1 B1 HER
  go_wp2
  go_ret
  exact ⟨rfl, B2.out⟩
end Go.Proofs.YtkhklfnhninkjaaGreat
