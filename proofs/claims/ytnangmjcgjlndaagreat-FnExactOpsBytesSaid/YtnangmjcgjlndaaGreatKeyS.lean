/-
  Contracts: KeyBytes of the specification.
-/
import Derived.Test.YtnangmjcgjlndaaGreatKeyB
import Derived.Test.YtnangmjcgjlndaaGreatOwnBytes
namespace Go.Proofs.YtnangmjcgjlndaaGreat
open Go.RowKit

theorem esc_take (t : ByteArray) (j : Nat) (h : j < t.size) : esc (t.data.toList.take (j + 1)) = esc (t.data.toList.take j) ++ (if t[j] = 0 then [0, 255] else [t[j]]) := by
  rw [take_snoc t j h, esc_append]
  by_cases hz : t[j] = 0 <;> simp [esc, hz]
theorem esc_take_le (t : ByteArray) (j : Nat) (h : t.size ≤ 200) : (esc (t.data.toList.take j)).length ≤ 400 := by
  have h1 := esc_len (t.data.toList.take j)
  have h2 : (t.data.toList.take j).length ≤ t.data.toList.length := List.length_take_le' ..
  rw [← ba_size] at h2
  omega
theorem be_take (U j : Nat) (h : j < 8) : (be 8 U).take (j + 1) = (be 8 U).take j ++ [UInt8.ofNat (U / 2 ^ (56 - 8 * j))] := by
  have hl := be_len 8 U
  have := be8_at U j h
  rw [List.getElem?_eq_getElem (by omega)] at this
  rw [List.take_succ_eq_append_getElem (by omega)]
  simp only [Option.some.injEq] at this
  rw [this]
set_option maxRecDepth 100000 in
set_option maxHeartbeats 4000000 in
theorem l02Key_any (ao : Option Addr) (cap : Nat) (vs : List Val) (w : World) (hv : vsRight vs = true) (ha : ValRow w w.heap.size ao vs) :
    Calls Tryz.prog 14 #[.slice ao vs.length cap] w fun e w' => e = .returned (.string (mkS (keyL vs))) ∧ Below w.heap.size w w' := by
  obtain ⟨i0, hi, hz0, hz1, hz2⟩ := info_parts Tryz.infoU8
  obtain ⟨hl, hva⟩ := vsRight_len hv
  have HVA : Hid (vs.all vRight = true) := hva
  have HA : Hid (ValRow w w.heap.size ao vs) := ha
  clear ha hv hva
  go_enter Tryz.func14, Tryz.ntmps14
  go_wp2
  go_loopw [3, 4] (fun v i wr => ∃ k : Nat, k ≤ vs.length ∧ i = .int .i64 k ∧ Hid (OwnB w.heap.size v (keyL (vs.take k)) wr) ∧ Below w.heap.size w wr) (fun _ i _ => vs.length - (intOf i).toNat)
  case atStart => exact ⟨0, Nat.zero_le _, rfl, ⟨rfl, .inr ⟨w.heap.size, 0, #[], rfl, Nat.le_refl _, heap_alloc_new _ _, Nat.le_refl _, Nat.zero_le _, rfl, rfl⟩⟩, (Below.refl _ _).alloc (Nat.le_refl _) _⟩
  case round =>
    obtain ⟨k, hk, rfl, HO, hbw⟩ := hrel
    have hz := hbw.size
    have hkl := keyL_le vs k HVA.out hl
    by_cases hlt : k < vs.length
    · have hvr : vRight vs[k] = true := List.all_eq_true.1 HVA.out _ (List.getElem_mem hlt)
      have hstep := keyL_take vs k hlt hvr
      have hkl2 := keyL_le vs (k + 1) HVA.out hl
      obtain ⟨b, off, kk, n, t, rfl, hbB, hv, htt, d0, d1, d2⟩ := (HA.out.kept hbw).at k hlt
      rw [hv] at hstep hvr
      have hrk := right_kind hvr
      have hok := HA.out.1 _ (List.getElem_mem hlt)
      rw [hv] at hok
      obtain ⟨_, _, hn1, hn2⟩ := hok
      have HST : Hid (keyL (vs.take (k + 1)) = keyL (vs.take k) ++ [UInt8.ofNat kk.toNat] ++ keyTail ⟨kk, n, t⟩) := hstep
      clear hstep hv htt
      simp only at hn1 hn2 hrk
      have hown := HO.out
      unfold OwnB at hown
      rcases hrk with rfl | rfl | rfl | rfl
      · go_wp2_with (at_builtin; refine wpList_append_own _ rfl _ _ 52 rfl w.heap.size 5 i0 (.int .u8 0) 1 1 Tryz.underlying52 hi hz0 hz1 hz2 rfl (by decide) _ _ _ rfl (hown.alloc _) ⟨wr.heap.size, 0, none⟩ 1 1 [.int .u8 0] rfl rfl (cell_one_new _ _ _) (one1 _ _) (by unfold maxLen; omega) (by omega) (size_alloc_le _ hz) ?_)
        intro v' w2 hown2 hgrow2 _
        have b2 := (hbw.alloc hz _).grown hgrow2 (size_alloc_le _ hz) (fun j hj => (hown.lt j hj).1)
        have HO2 : Hid (OwnB w.heap.size v' (keyL (vs.take k) ++ [UInt8.ofNat 0]) w2) := ownB_of hown2 (by simp) (by rw [numsU_append, List.map_append]; rfl)
        have hzz := b2.size
        have g0 := (b2.cell (p := ⟨b, off + k * 3, none⟩) (show b < _ from hbB)).trans ((hbw.cell (p := ⟨b, off + k * 3, none⟩) (show b < _ from hbB)).symm.trans d0)
        have g1 := (b2.cell (p := ⟨b, off + k * 3 + 1, none⟩) (show b < _ from hbB)).trans ((hbw.cell (p := ⟨b, off + k * 3 + 1, none⟩) (show b < _ from hbB)).symm.trans d1)
        have g2 := (b2.cell (p := ⟨b, off + k * 3 + 2, none⟩) (show b < _ from hbB)).trans ((hbw.cell (p := ⟨b, off + k * 3 + 2, none⟩) (show b < _ from hbB)).symm.trans d2)
        have hnl : (keyL (vs.take k) ++ [UInt8.ofNat 0]).length ≤ 4837 := by simp; omega
        clear hown2 hgrow2 hown HO hbw d0 d1 d2
        have HO3 : Hid (OwnB w.heap.size v' (keyL (vs.take (k + 1))) w2) := by show OwnB ..; rw [HST.out]; simpa [keyTail, keyV] using HO2.out
        clear HO2
        go_wp2
        go_roundw
        case rel => exact ⟨k + 1, by omega, by go_num, HO3, b2⟩
        case measure => simp [intOf]; omega
      · go_wp2_with (at_builtin; refine wpList_append_own _ rfl _ _ 52 rfl w.heap.size 5 i0 (.int .u8 0) 1 1 Tryz.underlying52 hi hz0 hz1 hz2 rfl (by decide) _ _ _ rfl (hown.alloc _) ⟨wr.heap.size, 0, none⟩ 1 1 [.int .u8 1] rfl rfl (cell_one_new _ _ _) (one1 _ _) (by unfold maxLen; omega) (by omega) (size_alloc_le _ hz) ?_)
        intro v' w2 hown2 hgrow2 _
        have b2 := (hbw.alloc hz _).grown hgrow2 (size_alloc_le _ hz) (fun j hj => (hown.lt j hj).1)
        have HO2 : Hid (OwnB w.heap.size v' (keyL (vs.take k) ++ [UInt8.ofNat 1]) w2) := ownB_of hown2 (by simp) (by rw [numsU_append, List.map_append]; rfl)
        have hzz := b2.size
        have g0 := (b2.cell (p := ⟨b, off + k * 3, none⟩) (show b < _ from hbB)).trans ((hbw.cell (p := ⟨b, off + k * 3, none⟩) (show b < _ from hbB)).symm.trans d0)
        have g1 := (b2.cell (p := ⟨b, off + k * 3 + 1, none⟩) (show b < _ from hbB)).trans ((hbw.cell (p := ⟨b, off + k * 3 + 1, none⟩) (show b < _ from hbB)).symm.trans d1)
        have g2 := (b2.cell (p := ⟨b, off + k * 3 + 2, none⟩) (show b < _ from hbB)).trans ((hbw.cell (p := ⟨b, off + k * 3 + 2, none⟩) (show b < _ from hbB)).symm.trans d2)
        have hnl : (keyL (vs.take k) ++ [UInt8.ofNat 1]).length ≤ 4837 := by simp; omega
        clear hown2 hgrow2 hown HO hbw d0 d1 d2
        have hn : n = 0 ∨ n = 1 := (of_decide_eq_true (show decide ((n = 0 ∨ n = 1) ∧ t.size = 0) = true from hvr)).1
        have hwr : IntKind.u8.wrap n = n := by rcases hn with rfl | rfl <;> rfl
        have hnb : n = ((UInt8.ofNat n.toNat).toNat : Int) := by rcases hn with rfl | rfl <;> rfl
        have HNB : Hid (n = ((UInt8.ofNat n.toNat).toNat : Int)) := hnb
        have HT : Hid (keyL (vs.take (k + 1)) = (keyL (vs.take k) ++ [UInt8.ofNat 1]) ++ [UInt8.ofNat n.toNat]) := HST.out
        have hown2 := HO2.out
        unfold OwnB at hown2
        clear hnb HST HO2
        generalize keyL (vs.take k) ++ [UInt8.ofNat 1] = LL at *
        go_wp2_with (at_builtin; refine wpList_append_own _ rfl _ _ 52 rfl w.heap.size 5 i0 (.int .u8 0) 1 1 Tryz.underlying52 hi hz0 hz1 hz2 rfl (by decide) _ _ _ rfl (hown2.alloc _) ⟨w2.heap.size, 0, none⟩ 1 1 [.int .u8 n] rfl rfl (cell_one_new _ _ _) (one1 _ _) (by unfold maxLen; omega) (by omega) (size_alloc_le _ hzz) ?_)
        intro v3 w3 hown3 hgrow3 _
        have b3 := (b2.alloc hzz _).grown hgrow3 (size_alloc_le _ hzz) (fun j hj => (hown2.lt j hj).1)
        have HO3 : Hid (OwnB w.heap.size v3 (keyL (vs.take (k + 1))) w3) := by show OwnB ..; rw [HT.out]; exact own_snoc _ hown3 HNB.out
        clear hown3 hgrow3 hown2 b2 g0 g1 g2
        go_wp2
        go_roundw
        case rel => exact ⟨k + 1, by omega, by go_num, HO3, b3⟩
        case measure => simp [intOf]; omega
      · go_wp2_with (at_builtin; refine wpList_append_own _ rfl _ _ 52 rfl w.heap.size 5 i0 (.int .u8 0) 1 1 Tryz.underlying52 hi hz0 hz1 hz2 rfl (by decide) _ _ _ rfl (hown.alloc _) ⟨wr.heap.size, 0, none⟩ 1 1 [.int .u8 2] rfl rfl (cell_one_new _ _ _) (one1 _ _) (by unfold maxLen; omega) (by omega) (size_alloc_le _ hz) ?_)
        intro v' w2 hown2 hgrow2 _
        have b2 := (hbw.alloc hz _).grown hgrow2 (size_alloc_le _ hz) (fun j hj => (hown.lt j hj).1)
        have HO2 : Hid (OwnB w.heap.size v' (keyL (vs.take k) ++ [UInt8.ofNat 2]) w2) := ownB_of hown2 (by simp) (by rw [numsU_append, List.map_append]; rfl)
        have hzz := b2.size
        have g0 := (b2.cell (p := ⟨b, off + k * 3, none⟩) (show b < _ from hbB)).trans ((hbw.cell (p := ⟨b, off + k * 3, none⟩) (show b < _ from hbB)).symm.trans d0)
        have g1 := (b2.cell (p := ⟨b, off + k * 3 + 1, none⟩) (show b < _ from hbB)).trans ((hbw.cell (p := ⟨b, off + k * 3 + 1, none⟩) (show b < _ from hbB)).symm.trans d1)
        have g2 := (b2.cell (p := ⟨b, off + k * 3 + 2, none⟩) (show b < _ from hbB)).trans ((hbw.cell (p := ⟨b, off + k * 3 + 2, none⟩) (show b < _ from hbB)).symm.trans d2)
        have hnl : (keyL (vs.take k) ++ [UInt8.ofNat 2]).length ≤ 4837 := by simp; omega
        clear hown2 hgrow2 hown HO hbw d0 d1 d2
        have HT : Hid (keyL (vs.take (k + 1)) = (keyL (vs.take k) ++ [UInt8.ofNat 2]) ++ be 8 (n + 9223372036854775808).toNat) := HST.out
        clear HST
        have HT0 : Hid (OwnB w.heap.size v' ((keyL (vs.take k) ++ [UInt8.ofNat 2]) ++ (be 8 (n + 9223372036854775808).toNat).take 0) w2) := by show OwnB ..; rw [List.take_zero, List.append_nil]; exact HO2.out
        clear HO2
        generalize keyL (vs.take k) ++ [UInt8.ofNat 2] = LL at *
        go_wp2
        rw [turnBit n hn1 hn2]
        have hu : (n + 9223372036854775808).toNat < 18446744073709551616 := by omega
        generalize (n + 9223372036854775808).toNat = U at hu HT HT0 ⊢
        have HE : Hid (∀ j, j < 8 → (be 8 U)[j]? = some (UInt8.ofNat (U / 2 ^ (56 - 8 * j)))) := fun j hj => be8_at U j hj
        have HE8 : Hid ((be 8 U).length = 8) := be_len 8 U
        go_loopw [3, 6] (fun v kk wq => ∃ (j : Nat) (c : Int), j ≤ 8 ∧ kk = .int .i64 c ∧ Hid (c = 56 - 8 * (j : Int)) ∧ Hid (OwnB w.heap.size v (LL ++ (be 8 U).take j) wq) ∧ Below w.heap.size w wq) (fun _ kk _ => (intOf kk + 8).toNat)
        case atStart => exact ⟨0, 56, by omega, rfl, rfl, HT0, b2⟩
        case round =>
          obtain ⟨j, c, hj, rfl, HCc, HOj, bq⟩ := hrel
          have hzq := bq.size
          have hownq := HOj.out
          unfold OwnB at hownq
          have hLj : (LL ++ (be 8 U).take j).length ≤ 4845 := by
            rw [List.length_append, List.length_take, HE8.out]; omega
          by_cases hj8 : j < 8
          · have HBT : Hid ((be 8 U).take (j + 1) = (be 8 U).take j ++ [UInt8.ofNat (U / 2 ^ (56 - 8 * j))]) := be_take U j hj8
            have hcc := HCc.out
            clear HCc HT0 HOj g0 g1 g2 b2
            match j, hj8 with
            | 0, _ =>
              obtain rfl : c = 56 := hcc
              have HBU : Hid (LL ++ (be 8 U).take 1 = (LL ++ (be 8 U).take 0) ++ [UInt8.ofNat (U / 72057594037927936)]) := by show _ = _; rw [List.append_assoc]; exact congrArg (LL ++ ·) HBT.out
              generalize LL ++ (be 8 U).take 0 = M at *
              clear HBT
              go_wp2_with (at_builtin; refine wpList_append_own _ rfl _ _ 52 rfl w.heap.size 5 i0 (.int .u8 0) 1 1 Tryz.underlying52 hi hz0 hz1 hz2 rfl (by decide) _ _ _ rfl (hownq.alloc _) ⟨wr.heap.size, 0, none⟩ 1 1 [.int .u8 ((U : Int) / 72057594037927936)] rfl rfl (cell_one_new _ _ _) (one1 _ _) (by unfold maxLen; omega) (by omega) (size_alloc_le _ hzq) ?_)
              intro v3 w3 hown3 hgrow3 _
              have b3 := (bq.alloc hzq _).grown hgrow3 (size_alloc_le _ hzq) (fun j hj => (hownq.lt j hj).1)
              have HO3 : Hid (OwnB w.heap.size v3 (LL ++ (be 8 U).take 1) w3) := by show OwnB ..; rw [HBU.out]; exact own_snoc _ hown3 (by rw [UInt8.toNat_ofNat']; omega)
              clear hown3 hgrow3 hownq bq HBU
              go_wp2
              go_roundw
              case rel => exact ⟨1, 48, by omega, rfl, rfl, HO3, b3⟩
              case measure => simp [intOf]
            | 1, _ =>
              obtain rfl : c = 48 := hcc
              have HBU : Hid (LL ++ (be 8 U).take 2 = (LL ++ (be 8 U).take 1) ++ [UInt8.ofNat (U / 281474976710656)]) := by show _ = _; rw [List.append_assoc]; exact congrArg (LL ++ ·) HBT.out
              generalize LL ++ (be 8 U).take 1 = M at *
              clear HBT
              go_wp2_with (at_builtin; refine wpList_append_own _ rfl _ _ 52 rfl w.heap.size 5 i0 (.int .u8 0) 1 1 Tryz.underlying52 hi hz0 hz1 hz2 rfl (by decide) _ _ _ rfl (hownq.alloc _) ⟨wr.heap.size, 0, none⟩ 1 1 [.int .u8 ((U : Int) / 281474976710656 % 256)] rfl rfl (cell_one_new _ _ _) (one1 _ _) (by unfold maxLen; omega) (by omega) (size_alloc_le _ hzq) ?_)
              intro v3 w3 hown3 hgrow3 _
              have b3 := (bq.alloc hzq _).grown hgrow3 (size_alloc_le _ hzq) (fun j hj => (hownq.lt j hj).1)
              have HO3 : Hid (OwnB w.heap.size v3 (LL ++ (be 8 U).take 2) w3) := by show OwnB ..; rw [HBU.out]; exact own_snoc _ hown3 (by rw [UInt8.toNat_ofNat']; omega)
              clear hown3 hgrow3 hownq bq HBU
              go_wp2
              go_roundw
              case rel => exact ⟨2, 40, by omega, rfl, rfl, HO3, b3⟩
              case measure => simp [intOf]
            | 2, _ =>
              obtain rfl : c = 40 := hcc
              have HBU : Hid (LL ++ (be 8 U).take 3 = (LL ++ (be 8 U).take 2) ++ [UInt8.ofNat (U / 1099511627776)]) := by show _ = _; rw [List.append_assoc]; exact congrArg (LL ++ ·) HBT.out
              generalize LL ++ (be 8 U).take 2 = M at *
              clear HBT
              go_wp2_with (at_builtin; refine wpList_append_own _ rfl _ _ 52 rfl w.heap.size 5 i0 (.int .u8 0) 1 1 Tryz.underlying52 hi hz0 hz1 hz2 rfl (by decide) _ _ _ rfl (hownq.alloc _) ⟨wr.heap.size, 0, none⟩ 1 1 [.int .u8 ((U : Int) / 1099511627776 % 256)] rfl rfl (cell_one_new _ _ _) (one1 _ _) (by unfold maxLen; omega) (by omega) (size_alloc_le _ hzq) ?_)
              intro v3 w3 hown3 hgrow3 _
              have b3 := (bq.alloc hzq _).grown hgrow3 (size_alloc_le _ hzq) (fun j hj => (hownq.lt j hj).1)
              have HO3 : Hid (OwnB w.heap.size v3 (LL ++ (be 8 U).take 3) w3) := by show OwnB ..; rw [HBU.out]; exact own_snoc _ hown3 (by rw [UInt8.toNat_ofNat']; omega)
              clear hown3 hgrow3 hownq bq HBU
              go_wp2
              go_roundw
              case rel => exact ⟨3, 32, by omega, rfl, rfl, HO3, b3⟩
              case measure => simp [intOf]
            | 3, _ =>
              obtain rfl : c = 32 := hcc
              have HBU : Hid (LL ++ (be 8 U).take 4 = (LL ++ (be 8 U).take 3) ++ [UInt8.ofNat (U / 4294967296)]) := by show _ = _; rw [List.append_assoc]; exact congrArg (LL ++ ·) HBT.out
              generalize LL ++ (be 8 U).take 3 = M at *
              clear HBT
              go_wp2_with (at_builtin; refine wpList_append_own _ rfl _ _ 52 rfl w.heap.size 5 i0 (.int .u8 0) 1 1 Tryz.underlying52 hi hz0 hz1 hz2 rfl (by decide) _ _ _ rfl (hownq.alloc _) ⟨wr.heap.size, 0, none⟩ 1 1 [.int .u8 ((U : Int) / 4294967296 % 256)] rfl rfl (cell_one_new _ _ _) (one1 _ _) (by unfold maxLen; omega) (by omega) (size_alloc_le _ hzq) ?_)
              intro v3 w3 hown3 hgrow3 _
              have b3 := (bq.alloc hzq _).grown hgrow3 (size_alloc_le _ hzq) (fun j hj => (hownq.lt j hj).1)
              have HO3 : Hid (OwnB w.heap.size v3 (LL ++ (be 8 U).take 4) w3) := by show OwnB ..; rw [HBU.out]; exact own_snoc _ hown3 (by rw [UInt8.toNat_ofNat']; omega)
              clear hown3 hgrow3 hownq bq HBU
              go_wp2
              go_roundw
              case rel => exact ⟨4, 24, by omega, rfl, rfl, HO3, b3⟩
              case measure => simp [intOf]
            | 4, _ =>
              obtain rfl : c = 24 := hcc
              have HBU : Hid (LL ++ (be 8 U).take 5 = (LL ++ (be 8 U).take 4) ++ [UInt8.ofNat (U / 16777216)]) := by show _ = _; rw [List.append_assoc]; exact congrArg (LL ++ ·) HBT.out
              generalize LL ++ (be 8 U).take 4 = M at *
              clear HBT
              go_wp2_with (at_builtin; refine wpList_append_own _ rfl _ _ 52 rfl w.heap.size 5 i0 (.int .u8 0) 1 1 Tryz.underlying52 hi hz0 hz1 hz2 rfl (by decide) _ _ _ rfl (hownq.alloc _) ⟨wr.heap.size, 0, none⟩ 1 1 [.int .u8 ((U : Int) / 16777216 % 256)] rfl rfl (cell_one_new _ _ _) (one1 _ _) (by unfold maxLen; omega) (by omega) (size_alloc_le _ hzq) ?_)
              intro v3 w3 hown3 hgrow3 _
              have b3 := (bq.alloc hzq _).grown hgrow3 (size_alloc_le _ hzq) (fun j hj => (hownq.lt j hj).1)
              have HO3 : Hid (OwnB w.heap.size v3 (LL ++ (be 8 U).take 5) w3) := by show OwnB ..; rw [HBU.out]; exact own_snoc _ hown3 (by rw [UInt8.toNat_ofNat']; omega)
              clear hown3 hgrow3 hownq bq HBU
              go_wp2
              go_roundw
              case rel => exact ⟨5, 16, by omega, rfl, rfl, HO3, b3⟩
              case measure => simp [intOf]
            | 5, _ =>
              obtain rfl : c = 16 := hcc
              have HBU : Hid (LL ++ (be 8 U).take 6 = (LL ++ (be 8 U).take 5) ++ [UInt8.ofNat (U / 65536)]) := by show _ = _; rw [List.append_assoc]; exact congrArg (LL ++ ·) HBT.out
              generalize LL ++ (be 8 U).take 5 = M at *
              clear HBT
              go_wp2_with (at_builtin; refine wpList_append_own _ rfl _ _ 52 rfl w.heap.size 5 i0 (.int .u8 0) 1 1 Tryz.underlying52 hi hz0 hz1 hz2 rfl (by decide) _ _ _ rfl (hownq.alloc _) ⟨wr.heap.size, 0, none⟩ 1 1 [.int .u8 ((U : Int) / 65536 % 256)] rfl rfl (cell_one_new _ _ _) (one1 _ _) (by unfold maxLen; omega) (by omega) (size_alloc_le _ hzq) ?_)
              intro v3 w3 hown3 hgrow3 _
              have b3 := (bq.alloc hzq _).grown hgrow3 (size_alloc_le _ hzq) (fun j hj => (hownq.lt j hj).1)
              have HO3 : Hid (OwnB w.heap.size v3 (LL ++ (be 8 U).take 6) w3) := by show OwnB ..; rw [HBU.out]; exact own_snoc _ hown3 (by rw [UInt8.toNat_ofNat']; omega)
              clear hown3 hgrow3 hownq bq HBU
              go_wp2
              go_roundw
              case rel => exact ⟨6, 8, by omega, rfl, rfl, HO3, b3⟩
              case measure => simp [intOf]
            | 6, _ =>
              obtain rfl : c = 8 := hcc
              have HBU : Hid (LL ++ (be 8 U).take 7 = (LL ++ (be 8 U).take 6) ++ [UInt8.ofNat (U / 256)]) := by show _ = _; rw [List.append_assoc]; exact congrArg (LL ++ ·) HBT.out
              generalize LL ++ (be 8 U).take 6 = M at *
              clear HBT
              go_wp2_with (at_builtin; refine wpList_append_own _ rfl _ _ 52 rfl w.heap.size 5 i0 (.int .u8 0) 1 1 Tryz.underlying52 hi hz0 hz1 hz2 rfl (by decide) _ _ _ rfl (hownq.alloc _) ⟨wr.heap.size, 0, none⟩ 1 1 [.int .u8 ((U : Int) / 256 % 256)] rfl rfl (cell_one_new _ _ _) (one1 _ _) (by unfold maxLen; omega) (by omega) (size_alloc_le _ hzq) ?_)
              intro v3 w3 hown3 hgrow3 _
              have b3 := (bq.alloc hzq _).grown hgrow3 (size_alloc_le _ hzq) (fun j hj => (hownq.lt j hj).1)
              have HO3 : Hid (OwnB w.heap.size v3 (LL ++ (be 8 U).take 7) w3) := by show OwnB ..; rw [HBU.out]; exact own_snoc _ hown3 (by rw [UInt8.toNat_ofNat']; omega)
              clear hown3 hgrow3 hownq bq HBU
              go_wp2
              go_roundw
              case rel => exact ⟨7, 0, by omega, rfl, rfl, HO3, b3⟩
              case measure => simp [intOf]
            | 7, _ =>
              obtain rfl : c = 0 := hcc
              have HBU : Hid (LL ++ (be 8 U).take 8 = (LL ++ (be 8 U).take 7) ++ [UInt8.ofNat (U / 1)]) := by show _ = _; rw [List.append_assoc]; exact congrArg (LL ++ ·) HBT.out
              generalize LL ++ (be 8 U).take 7 = M at *
              clear HBT
              go_wp2_with (at_builtin; refine wpList_append_own _ rfl _ _ 52 rfl w.heap.size 5 i0 (.int .u8 0) 1 1 Tryz.underlying52 hi hz0 hz1 hz2 rfl (by decide) _ _ _ rfl (hownq.alloc _) ⟨wr.heap.size, 0, none⟩ 1 1 [.int .u8 ((U : Int) % 256)] rfl rfl (cell_one_new _ _ _) (one1 _ _) (by unfold maxLen; omega) (by omega) (size_alloc_le _ hzq) ?_)
              intro v3 w3 hown3 hgrow3 _
              have b3 := (bq.alloc hzq _).grown hgrow3 (size_alloc_le _ hzq) (fun j hj => (hownq.lt j hj).1)
              have HO3 : Hid (OwnB w.heap.size v3 (LL ++ (be 8 U).take 8) w3) := by show OwnB ..; rw [HBU.out]; exact own_snoc _ hown3 (by rw [UInt8.toNat_ofNat']; omega)
              clear hown3 hgrow3 hownq bq HBU
              go_wp2
              go_roundw
              case rel => exact ⟨8, -8, by omega, rfl, rfl, HO3, b3⟩
              case measure => simp [intOf]
          · obtain rfl : j = 8 := by omega
            obtain rfl : c = -8 := HCc.out
            have HO3 : Hid (OwnB w.heap.size u3 (keyL (vs.take (k + 1))) wr) := by
              show OwnB ..
              have h := HOj.out
              rw [List.take_of_length_le (by rw [HE8.out]; omega)] at h
              rw [HT.out]; exact h
            clear HOj hownq HT0 g0 g1 g2 b2
            go_wp2
            go_roundw
            case rel => exact ⟨k + 1, by omega, by go_num, HO3, bq⟩
            case measure => simp [intOf]; omega
      · go_wp2_with (at_builtin; refine wpList_append_own _ rfl _ _ 52 rfl w.heap.size 5 i0 (.int .u8 0) 1 1 Tryz.underlying52 hi hz0 hz1 hz2 rfl (by decide) _ _ _ rfl (hown.alloc _) ⟨wr.heap.size, 0, none⟩ 1 1 [.int .u8 3] rfl rfl (cell_one_new _ _ _) (one1 _ _) (by unfold maxLen; omega) (by omega) (size_alloc_le _ hz) ?_)
        intro v' w2 hown2 hgrow2 _
        have b2 := (hbw.alloc hz _).grown hgrow2 (size_alloc_le _ hz) (fun j hj => (hown.lt j hj).1)
        have HO2 : Hid (OwnB w.heap.size v' (keyL (vs.take k) ++ [UInt8.ofNat 3]) w2) := ownB_of hown2 (by simp) (by rw [numsU_append, List.map_append]; rfl)
        have hzz := b2.size
        have g0 := (b2.cell (p := ⟨b, off + k * 3, none⟩) (show b < _ from hbB)).trans ((hbw.cell (p := ⟨b, off + k * 3, none⟩) (show b < _ from hbB)).symm.trans d0)
        have g1 := (b2.cell (p := ⟨b, off + k * 3 + 1, none⟩) (show b < _ from hbB)).trans ((hbw.cell (p := ⟨b, off + k * 3 + 1, none⟩) (show b < _ from hbB)).symm.trans d1)
        have g2 := (b2.cell (p := ⟨b, off + k * 3 + 2, none⟩) (show b < _ from hbB)).trans ((hbw.cell (p := ⟨b, off + k * 3 + 2, none⟩) (show b < _ from hbB)).symm.trans d2)
        have hnl : (keyL (vs.take k) ++ [UInt8.ofNat 3]).length ≤ 4837 := by simp; omega
        clear hown2 hgrow2 hown HO hbw d0 d1 d2
        have ht : t.size ≤ 200 := (of_decide_eq_true (show decide (n = 0 ∧ t.size ≤ 200) = true from hvr)).2
        have HT : Hid (keyL (vs.take (k + 1)) = (keyL (vs.take k) ++ [UInt8.ofNat 3]) ++ (esc t.data.toList ++ [0, 0])) := HST.out
        clear HST
        have HT0 : Hid (OwnB w.heap.size v' ((keyL (vs.take k) ++ [UInt8.ofNat 3]) ++ esc (t.data.toList.take 0)) w2) := by show OwnB ..; rw [List.take_zero, esc, List.append_nil]; exact HO2.out
        have GC : Hid (∀ W, Below w.heap.size w W → W.cell? ⟨b, off + k * 3 + 2, none⟩ = some (.string t)) := fun W hW => (hW.cell (p := ⟨b, off + k * 3 + 2, none⟩) (show b < _ from hbB)).trans ((b2.cell (p := ⟨b, off + k * 3 + 2, none⟩) (show b < _ from hbB)).symm.trans g2)
        clear HO2
        generalize keyL (vs.take k) ++ [UInt8.ofNat 3] = LL at *
        go_wp2
        go_loopw [3, 7] (fun v ii wq => ∃ j : Nat, j ≤ t.size ∧ ii = .int .i64 j ∧ Hid (OwnB w.heap.size v (LL ++ esc (t.data.toList.take j)) wq) ∧ Below w.heap.size w wq) (fun _ ii _ => t.size - (intOf ii).toNat)
        case atStart => exact ⟨0, by omega, rfl, HT0, b2⟩
        case round =>
          obtain ⟨j, hj, rfl, HOj, bq⟩ := hrel
          have hzq := bq.size
          have hownq := HOj.out
          unfold OwnB at hownq
          have hLj : (LL ++ esc (t.data.toList.take j)).length ≤ 5237 := by
            have := esc_take_le t j ht
            rw [List.length_append]; omega
          have q2 := GC.out wr bq
          clear HT0 HOj g0 g1 g2 b2
          by_cases hjt : j < t.size
          · have HES : Hid (LL ++ esc (t.data.toList.take (j + 1)) = (LL ++ esc (t.data.toList.take j)) ++ (if t[j] = 0 then [0, 255] else [t[j]])) := by show _ = _; rw [esc_take t j hjt, List.append_assoc]
            generalize LL ++ esc (t.data.toList.take j) = M at *
            go_wp2_with (at_builtin; refine wpList_append_own _ rfl _ _ 52 rfl w.heap.size 5 i0 (.int .u8 0) 1 1 Tryz.underlying52 hi hz0 hz1 hz2 rfl (by decide) _ _ _ rfl (hownq.alloc _) ⟨wr.heap.size, 0, none⟩ 1 1 [.int .u8 (t[j].toNat : Int)] rfl rfl (cell_one_new _ _ _) (one1 _ _) (by unfold maxLen; omega) (by omega) (size_alloc_le _ hzq) ?_)
            intro v3 w3 hown3 hgrow3 _
            have b3 := (bq.alloc hzq _).grown hgrow3 (size_alloc_le _ hzq) (fun j hj => (hownq.lt j hj).1)
            have hz3 := b3.size
            have HO3 : Hid (OwnB w.heap.size v3 (M ++ [t[j]]) w3) := own_snoc _ hown3 rfl
            have q3 := GC.out w3 b3
            clear hown3 hgrow3 hownq bq q2
            by_cases hz9 : t[j] = 0
            · have HE2 : Hid (LL ++ esc (t.data.toList.take (j + 1)) = (M ++ [t[j]]) ++ [255]) := by show _ = _; rw [HES.out, if_pos hz9, hz9]; simp
              have hb0 : t[j].toNat = 0 := by rw [hz9]; rfl
              have hML : (M ++ [t[j]]).length ≤ 5238 := by simp; omega
              have hown4 := HO3.out
              unfold OwnB at hown4
              generalize M ++ [t[j]] = M2 at *
              clear HO3 HES hz9
              go_wp2_with (at_builtin; refine wpList_append_own _ rfl _ _ 52 rfl w.heap.size 5 i0 (.int .u8 0) 1 1 Tryz.underlying52 hi hz0 hz1 hz2 rfl (by decide) _ _ _ rfl (hown4.alloc _) ⟨w3.heap.size, 0, none⟩ 1 1 [.int .u8 255] rfl rfl (cell_one_new _ _ _) (one1 _ _) (by unfold maxLen; omega) (by omega) (size_alloc_le _ hz3) ?_)
              intro v5 w5 hown5 hgrow5 _
              have b5 := (b3.alloc hz3 _).grown hgrow5 (size_alloc_le _ hz3) (fun j hj => (hown4.lt j hj).1)
              have HO5 : Hid (OwnB w.heap.size v5 (LL ++ esc (t.data.toList.take (j + 1))) w5) := by show OwnB ..; rw [HE2.out]; exact own_snoc _ hown5 rfl
              clear hown5 hgrow5 hown4 b3 HE2 q3
              go_wp2
              go_roundw
              case rel => exact ⟨j + 1, by omega, by go_num, HO5, b5⟩
              case measure => simp [intOf]; omega
            · have HO5 : Hid (OwnB w.heap.size v3 (LL ++ esc (t.data.toList.take (j + 1))) w3) := by show OwnB ..; rw [HES.out, if_neg hz9]; exact HO3.out
              have hb0 : ¬ t[j].toNat = 0 := fun e => hz9 (UInt8.toNat_inj.1 e)
              clear HO3 HES hz9
              go_wp2
              go_roundw
              case rel => exact ⟨j + 1, by omega, by go_num, HO5, b3⟩
              case measure => simp [intOf]; omega
          · obtain rfl : j = t.size := by omega
            have HES : Hid (LL ++ esc (t.data.toList.take t.size) = LL ++ esc t.data.toList) := by show _ = _; rw [List.take_of_length_le (by rw [← ba_size]; omega)]
            rw [HES.out] at hownq hLj
            have HT2 : Hid (keyL (vs.take (k + 1)) = (LL ++ esc t.data.toList) ++ [0, 0]) := by show _ = _; rw [HT.out, List.append_assoc]
            generalize LL ++ esc t.data.toList = M at *
            go_wp2_with (at_builtin; refine wpList_append_own _ rfl _ _ 52 rfl w.heap.size 5 i0 (.int .u8 0) 1 1 Tryz.underlying52 hi hz0 hz1 hz2 rfl (by decide) _ _ _ rfl (hownq.alloc _) ⟨wr.heap.size, 0, none⟩ 2 2 [.int .u8 0, .int .u8 0] rfl rfl (cell_two_new _ _ _ _) (one2 _ _ _) (by unfold maxLen; omega) (by omega) (size_alloc_le _ hzq) ?_)
            intro v3 w3 hown3 hgrow3 _
            have b3 := (bq.alloc hzq _).grown hgrow3 (size_alloc_le _ hzq) (fun j hj => (hownq.lt j hj).1)
            have HO3 : Hid (OwnB w.heap.size v3 (keyL (vs.take (k + 1))) w3) := by show OwnB ..; rw [HT2.out]; exact own_snoc2 _ _ hown3 rfl rfl
            clear hown3 hgrow3 hownq bq HT2 HES q2
            go_wp2
            go_roundw
            case rel => exact ⟨k + 1, by omega, by go_num, HO3, b3⟩
            case measure => simp [intOf]; omega
    · obtain rfl : k = vs.length := by omega
      have hcv := HO.out.conv
      go_wp2
      go_ret
      exact ⟨rfl, hbw⟩
end Go.Proofs.YtnangmjcgjlndaaGreat
