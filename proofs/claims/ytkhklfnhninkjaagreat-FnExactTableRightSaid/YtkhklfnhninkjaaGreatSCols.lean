/-
  Contracts: are numbers columns, of so many? The program's answer and the specification's.
-/
import Derived.Test.YtkhklfnhninkjaaGreatSRow
import Derived.Test.YtkhklfnhninkjaaGreatRows
import Derived.WalkKit
import Derived.WalkLawsBesides
import Derived.Deep.RegionHeld3
namespace Go.Proofs.YtkhklfnhninkjaaGreat
open Go.RowKit
set_option maxRecDepth 100000

set_option maxHeartbeats 1000000 in
theorem index_any (A B : Nat) (ao : Option Addr) (cap : Nat) (l : List Int) (k : Nat) (x : Int) (w : World) (hk : k ≤ l.length) (hl : l.length ≤ maxLen) (hr : IntRow w A B ao l) :
    Calls Tryz.prog 77 #[.slice ao k cap, .int .i64 x] w fun e w' => ∃ r : Int, e = .returned (.int .i64 r) ∧ (0 ≤ r ∧ x ∈ l.take k ∨ r < 0 ∧ x ∉ l.take k) ∧ w' = w := by
  unfold maxLen at hl
  have HR : Hid (IntRow w A B ao l) := hr
  clear hr
  go_enter Tryz.func77, Tryz.ntmps77
  go_wp2
  go_loop [8] (fun i => ∃ j : Nat, j ≤ k ∧ i = .int .i64 j ∧ Hid (x ∉ l.take j)) (fun i => k - (intOf i).toNat)
  case atStart => exact ⟨0, Nat.zero_le _, rfl, by show _ ∉ _; simp⟩
  case round =>
    obtain ⟨j, hj, rfl, HN⟩ := hrel
    by_cases hlt : j < k
    · obtain ⟨b, off, y, rfl, hbB, hv, hy, d0⟩ := HR.out.at j (by omega)
      have HV : Hid (l.getD j 0 = y) := hv
      clear hv hy
      by_cases hxy : x = y
      · subst hxy
        have HM : Hid (x ∈ l.take k) := by
          have h1 : x ∈ l.take (j + 1) := (mem_take_succ l x j (by omega)).2 (.inr HV.out.symm)
          exact (List.take_subset_take_left l (by omega : j + 1 ≤ k)) h1
        clear HV
        go_wp2
        go_ret
        exact ⟨j, rfl, .inl ⟨by omega, HM.out⟩, rfl⟩
      · have HN2 : Hid (x ∉ l.take (j + 1)) := fun h => by
          rcases (mem_take_succ l x j (by omega)).1 h with h | h
          · exact HN.out h
          · exact hxy (h.trans HV.out)
        clear HV
        go_wp2
        go_round
        case rel => exact ⟨j + 1, by omega, by go_num, HN2⟩
        case measure => simp [intOf]; omega
    · obtain rfl : j = k := by omega
      go_wp2
      go_ret
      exact ⟨-1, rfl, .inr ⟨by omega, HN.out⟩, rfl⟩
theorem contains_any (A B : Nat) (ao : Option Addr) (cap : Nat) (l : List Int) (k : Nat) (x : Int) (w : World) (hk : k ≤ l.length) (hl : l.length ≤ maxLen) (hr : IntRow w A B ao l) :
    Calls Tryz.prog 73 #[.slice ao k cap, .int .i64 x] w fun e w' => e = .returned (.bool (decide (x ∈ l.take k))) ∧ w' = w := by
  go_enter Tryz.func73, Tryz.ntmps73
  go_wp2_with fail
  refine (index_any A B ao cap l k x _ hk hl hr).mono ?_
  rintro e w1 ⟨r, rfl, hc, rfl⟩
  rcases hc with ⟨h0, hm⟩ | ⟨h0, hm⟩
  · have HM : Hid (x ∈ l.take k) := hm
    clear hm
    go_wp2
    go_ret
    exact ⟨ret_bool (by rw [decide_eq_true HM.out]), rfl⟩
  · have HM : Hid (x ∉ l.take k) := hm
    clear hm
    go_wp2
    go_ret
    exact ⟨ret_bool (by rw [decide_eq_false HM.out]; simp; omega), rfl⟩
theorem plOk_true {m : Nat} {l : List Int} {i : Nat} {x : Int} (hv : l.getD i 0 = x) (h0 : 0 ≤ x) (h1 : x < m) (h2 : x ∉ l.take i) : plOk m l i = true := by
  unfold plOk; rw [hv]; simp [h0, h1, h2]
theorem plOk_low {m : Nat} {l : List Int} {i : Nat} {x : Int} (hv : l.getD i 0 = x) (h0 : x < 0) : plOk m l i = false := by
  unfold plOk; rw [hv]; simp [show ¬ (0 ≤ x) by omega]
theorem plOk_high {m : Nat} {l : List Int} {i : Nat} {x : Int} (hv : l.getD i 0 = x) (h0 : (m : Int) ≤ x) : plOk m l i = false := by
  unfold plOk; rw [hv]; simp [show ¬ (x < m) by omega]
theorem plOk_seen {m : Nat} {l : List Int} {i : Nat} {x : Int} (hv : l.getD i 0 = x) (h0 : x ∈ l.take i) : plOk m l i = false := by
  unfold plOk; rw [hv]; simp [h0]
theorem isCols_upto {m : Nat} {l : List Int} (h : 1 ≤ l.length) : isCols m l = upto (plOk m l) l.length := by
  unfold isCols; simp [h]
set_option maxHeartbeats 2000000 in
theorem areColumns_any (A B : Nat) (ao : Option Addr) (cap : Nat) (l : List Int) (m : Nat) (w : World) (hl : l.length ≤ cap) (hc : cap ≤ maxLen) (hr : IntRow w A B ao l) :
    Calls Tryz.prog 70 #[.slice ao l.length cap, .int .i64 m] w fun e w' => e = .returned (.bool (isCols m l)) ∧ w' = w := by
  unfold maxLen at hc
  by_cases h1 : l.length < 1
  · have HV : Hid (isCols m l = false) := isCols_not (.inl h1)
    go_enter Tryz.func70, Tryz.ntmps70
    go_wp2
    go_ret
    exact ⟨ret_bool HV.out.symm, rfl⟩
  · by_cases h2 : m < l.length
    · have HV : Hid (isCols m l = false) := isCols_not (.inr h2)
      go_enter Tryz.func70, Tryz.ntmps70
      go_wp2
      go_ret
      exact ⟨ret_bool HV.out.symm, rfl⟩
    · have HV : Hid (isCols m l = upto (plOk m l) l.length) := isCols_upto (by omega)
      have HR : Hid (IntRow w A B ao l) := hr
      clear hr
      go_enter Tryz.func70, Tryz.ntmps70
      go_wp2
      go_loop [18] (fun i => ∃ j : Nat, j ≤ l.length ∧ i = .int .i64 j ∧ Hid (upto (plOk m l) j = true)) (fun i => l.length - (intOf i).toNat)
      case atStart => exact ⟨0, Nat.zero_le _, rfl, rfl⟩
      case round =>
        obtain ⟨j, hj, rfl, HU⟩ := hrel
        by_cases hlt : j < l.length
        · obtain ⟨b, off, x, rfl, hbB, hv, hx, d0⟩ := HR.out.at j hlt
          have HX : Hid (l.getD j 0 = x) := hv
          clear hv hx
          by_cases hx0 : x < 0
          · have HF : Hid (isCols m l = false) := by show _ = _; rw [HV.out]; exact upto_false hlt (plOk_low HX.out hx0)
            clear HX HU HV
            go_wp2
            go_ret
            exact ⟨ret_bool HF.out.symm, rfl⟩
          · by_cases hx1 : (m : Int) ≤ x
            · have HF : Hid (isCols m l = false) := by show _ = _; rw [HV.out]; exact upto_false hlt (plOk_high HX.out hx1)
              clear HX HU HV
              go_wp2
              go_ret
              exact ⟨ret_bool HF.out.symm, rfl⟩
            · have hc0 := contains_any A B (some ⟨b, off, none⟩) cap l j x w hj (by unfold maxLen; omega) HR.out
              by_cases hsn : x ∈ l.take j
              · rw [decide_eq_true hsn] at hc0
                have HC : Hid (Calls Tryz.prog 73 #[.slice (some ⟨b, off, none⟩) j cap, .int .i64 x] w fun e w' => e = .returned (.bool true) ∧ w' = w) := hc0
                have HF : Hid (isCols m l = false) := by show _ = _; rw [HV.out]; exact upto_false hlt (plOk_seen HX.out hsn)
                clear HX HU HV hc0 hsn
                go_wp2_with (go_at_call 73; refine (HC.out).mono ?_; rintro e w1 ⟨rfl, rfl⟩)
                go_ret
                exact ⟨ret_bool HF.out.symm, rfl⟩
              · rw [decide_eq_false hsn] at hc0
                have HC : Hid (Calls Tryz.prog 73 #[.slice (some ⟨b, off, none⟩) j cap, .int .i64 x] w fun e w' => e = .returned (.bool false) ∧ w' = w) := hc0
                have HU2 : Hid (upto (plOk m l) (j + 1) = true) := by show _ = _; rw [upto_succ, HU.out, plOk_true HX.out (by omega) (by omega) hsn]; rfl
                clear HX HU hc0 hsn
                go_wp2_with (go_at_call 73; refine (HC.out).mono ?_; rintro e w1 ⟨rfl, rfl⟩)
                go_round
                case rel => exact ⟨j + 1, by omega, by go_num, HU2⟩
                case measure => simp [intOf]; omega
        · obtain rfl : j = l.length := by omega
          have HF : Hid (isCols m l = true) := by show _ = _; rw [HV.out]; exact HU.out
          go_wp2
          go_ret
          exact ⟨ret_bool HF.out.symm, rfl⟩
set_option maxHeartbeats 2000000 in
theorem specColumns_any (A B : Nat) (ao : Option Addr) (cap : Nat) (l : List Int) (m : Nat) (w : World) (hB : B ≤ w.heap.size) (hl : l.length ≤ maxLen) (hr : IntRow w A B ao l) :
    Calls Tryz.prog 26 #[.slice ao l.length cap, .int .i64 m] w fun e w' => e = .returned (.bool (isCols m l)) ∧ Below w.heap.size w w' := by
  unfold maxLen at hl
  by_cases h1 : l.length < 1
  · have HV : Hid (isCols m l = false) := isCols_not (.inl h1)
    go_enter Tryz.func26, Tryz.ntmps26
    go_wp2
    go_ret
    exact ⟨ret_bool HV.out.symm, Below.refl _ _⟩
  · have HV : Hid (isCols m l = upto (plOk m l) l.length) := isCols_upto (by omega)
    have HR : Hid (IntRow w A B ao l) := hr
    clear hr
    go_enter Tryz.func26, Tryz.ntmps26
    go_wp2
    go_loopw [5] (fun i wr => ∃ j : Nat, j ≤ l.length ∧ i = .int .i64 j ∧ Hid (upto (plOk m l) j = true) ∧ Below w.heap.size w wr) (fun i _ => l.length - (intOf i).toNat)
    case atStart => exact ⟨0, Nat.zero_le _, rfl, rfl, Below.refl _ _⟩
    case round =>
      obtain ⟨j, hj, rfl, HU, hb⟩ := hrel
      by_cases hlt : j < l.length
      · obtain ⟨b, off, x, rfl, hbB, hv, hx, d0⟩ := (HR.out.kept (hb.mono hB)).at j hlt
        have HX : Hid (l.getD j 0 = x) := hv
        clear hv hx
        by_cases hx0 : x < 0
        · have HF : Hid (isCols m l = false) := by show _ = _; rw [HV.out]; exact upto_false hlt (plOk_low HX.out hx0)
          clear HX HU HV
          go_wp2
          go_ret
          exact ⟨ret_bool HF.out.symm, hb⟩
        · by_cases hx1 : (m : Int) ≤ x
          · have HF : Hid (isCols m l = false) := by show _ = _; rw [HV.out]; exact upto_false hlt (plOk_high HX.out hx1)
            clear HX HU HV
            go_wp2
            go_ret
            exact ⟨ret_bool HF.out.symm, hb⟩
          · go_wp2
            have HB : Hid (Below w.heap.size w wr) := hb
            clear hb
            go_loopw [6] (fun i wi => ∃ k : Nat, k ≤ j ∧ i = .int .i64 k ∧ Hid (x ∉ l.take k) ∧ Below w.heap.size w wi) (fun i _ => j - (intOf i).toNat)
            case atStart => exact ⟨0, Nat.zero_le _, rfl, by show _ ∉ _; simp, HB.out⟩
            case round =>
              obtain ⟨k, hk, rfl, HN, hb⟩ := hrel
              by_cases hki : k < j
              · obtain ⟨b1, off1, y, he1, _, hv1, _, d1⟩ := (HR.out.kept (hb.mono hB)).at k (by omega)
                obtain ⟨b2, off2, x2, he2, _, hv2, _, d2⟩ := (HR.out.kept (hb.mono hB)).at j hlt
                simp only [Option.some.injEq, Addr.mk.injEq, and_true] at he1 he2
                obtain ⟨rfl, rfl⟩ := he1
                obtain ⟨rfl, rfl⟩ := he2
                obtain rfl : x = x2 := HX.out.symm.trans hv2
                have HY : Hid (l.getD k 0 = y) := hv1
                have hi0 : (0 : Int) ≤ (k : Int) := by omega
                have hi1 : (k : Int) < (l.length : Int) := by omega
                have hi2 : (0 : Int) ≤ (j : Int) := by omega
                have hi3 : (j : Int) < (l.length : Int) := by omega
                have ht := (Int.toNat_natCast k)
                have ht2 := (Int.toNat_natCast j)
                clear hv1 hv2 d0
                by_cases hxy : y = x
                · subst hxy
                  have HF : Hid (isCols m l = false) := by
                    show _ = _
                    rw [HV.out]
                    refine upto_false hlt (plOk_seen HX.out ?_)
                    exact (List.take_subset_take_left l (by omega : k + 1 ≤ j)) ((mem_take_succ l y k (by omega)).2 (.inr HY.out.symm))
                  clear HX HY HU HV HN
                  go_wp2
                  go_region_held3 (fun W => W.cell? ⟨b, off + k, none⟩ = some (.int .i64 y) ∧ W.cell? ⟨b, off + j, none⟩ = some (.int .i64 y)) (go_keep) (fail)
                  all_goals
                    have hb2 : Below w.heap.size w _ := hb.drew
                    go_wp2
                    go_ret
                    exact ⟨ret_bool HF.out.symm, hb2⟩
                · have HN2 : Hid (x ∉ l.take (k + 1)) := fun h => by
                    rcases (mem_take_succ l x k (by omega)).1 h with h | h
                    · exact HN.out h
                    · exact hxy (h.trans HY.out).symm
                  clear HY HN
                  go_wp2
                  go_region_held3 (fun W => W.cell? ⟨b, off + k, none⟩ = some (.int .i64 y) ∧ W.cell? ⟨b, off + j, none⟩ = some (.int .i64 x)) (go_keep) (fail)
                  all_goals
                    have hb2 : Below w.heap.size w _ := hb.drew
                    clear hb d1 d2
                    go_wp2
                    go_roundw
                    case rel => exact ⟨k + 1, by omega, by go_num, HN2, hb2⟩
                    case measure => simp [intOf]; omega
              · obtain rfl : k = j := by omega
                have HU2 : Hid (upto (plOk m l) (k + 1) = true) := by show _ = _; rw [upto_succ, HU.out, plOk_true HX.out (by omega) (by omega) HN.out]; rfl
                clear HX HN HU
                go_wp2
                go_roundw
                case rel => exact ⟨k + 1, by omega, by go_num, HU2, hb⟩
                case measure => simp [intOf]; omega
      · obtain rfl : j = l.length := by omega
        have HF : Hid (isCols m l = true) := by show _ = _; rw [HV.out]; exact HU.out
        go_wp2
        go_ret
        exact ⟨ret_bool HF.out.symm, hb⟩
end Go.Proofs.YtkhklfnhninkjaaGreat
