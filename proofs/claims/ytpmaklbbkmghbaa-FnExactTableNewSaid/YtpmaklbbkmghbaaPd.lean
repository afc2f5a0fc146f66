/-
  Contracts and plain laws, part 4 of 9: SCols, SMap, SRight, SSpec, TbP, SToO, SMark
-/
import Derived.Test.YtpmaklbbkmghbaaRows
import Derived.WalkKit
import Derived.WalkLawsBesides
import Derived.Deep.RegionHeld3
import Derived.Maps.OwnOps
import Derived.Maps.OwnSet
import Derived.Maps.Views
import Derived.Test.YtpmaklbbkmghbaaPc

/-
  Contracts: are numbers columns, of so many? The program's answer and the specification's.
-/
namespace Go.Proofs.Ytpmaklbbkmghbaa
open Go.RowKit
set_option maxRecDepth 100000

set_option maxHeartbeats 1000000 in
theorem index_any (A B : Nat) (ao : Option Addr) (cap : Nat) (l : List Int) (k : Nat) (x : Int) (w : World) (hk : k ≤ l.length) (hl : l.length ≤ maxLen) (hr : IntRow w A B ao l) :
    Calls Try.prog 128 #[.slice ao k cap, .int .i64 x] w fun e w' => ∃ r : Int, e = .returned (.int .i64 r) ∧ (0 ≤ r ∧ x ∈ l.take k ∨ r < 0 ∧ x ∉ l.take k) ∧ w' = w := by
  unfold maxLen at hl
  have HR : Hid (IntRow w A B ao l) := hr
  clear hr
  go_enter Try.func128, Try.ntmps128
  go_wp2
  go_loop [8] (fun i => ∃ j : Nat, j ≤ k ∧ i = .int .i64 j ∧ Hid (x ∉ l.take j)) (fun i => k - (intOf i).toNat)
  case atStart => exact ⟨0, Nat.zero_le _, rfl, by show _ ∉ _; simp⟩
  case round =>
    obtain ⟨j, hj, rfl, HN⟩ := hrel
    by_cases hlt : j < k
    · obtain ⟨b, off, y, rfl, hbB, hv, hy, d0⟩ := HR.out.at j (by omega)
      have HV : Hid (l.getD j 0 = y) := hv
      clear hv hy
      by_cases hxy : x = y
      · subst hxy
        have HM : Hid (x ∈ l.take k) := by
          have h1 : x ∈ l.take (j + 1) := (mem_take_succ l x j (by omega)).2 (.inr HV.out.symm)
          exact (List.take_subset_take_left l (by omega : j + 1 ≤ k)) h1
        clear HV
        go_wp2
        go_ret
        exact ⟨j, rfl, .inl ⟨by omega, HM.out⟩, rfl⟩
      · have HN2 : Hid (x ∉ l.take (j + 1)) := fun h => by
          rcases (mem_take_succ l x j (by omega)).1 h with h | h
          · exact HN.out h
          · exact hxy (h.trans HV.out)
        clear HV
        go_wp2
        go_round
        case rel => exact ⟨j + 1, by omega, by go_num, HN2⟩
        case measure => simp [intOf]; omega
    · obtain rfl : j = k := by omega
      go_wp2
      go_ret
      exact ⟨-1, rfl, .inr ⟨by omega, HN.out⟩, rfl⟩
theorem contains_any (A B : Nat) (ao : Option Addr) (cap : Nat) (l : List Int) (k : Nat) (x : Int) (w : World) (hk : k ≤ l.length) (hl : l.length ≤ maxLen) (hr : IntRow w A B ao l) :
    Calls Try.prog 124 #[.slice ao k cap, .int .i64 x] w fun e w' => e = .returned (.bool (decide (x ∈ l.take k))) ∧ w' = w := by
  go_enter Try.func124, Try.ntmps124
  go_wp2_with fail
  refine (index_any A B ao cap l k x _ hk hl hr).mono ?_
  rintro e w1 ⟨r, rfl, hc, rfl⟩
  rcases hc with ⟨h0, hm⟩ | ⟨h0, hm⟩
  · have HM : Hid (x ∈ l.take k) := hm
    clear hm
    go_wp2
    go_ret
    exact ⟨ret_bool (by rw [decide_eq_true HM.out]), rfl⟩
  · have HM : Hid (x ∉ l.take k) := hm
    clear hm
    go_wp2
    go_ret
    exact ⟨ret_bool (by rw [decide_eq_false HM.out]; simp; omega), rfl⟩
theorem plOk_true {m : Nat} {l : List Int} {i : Nat} {x : Int} (hv : l.getD i 0 = x) (h0 : 0 ≤ x) (h1 : x < m) (h2 : x ∉ l.take i) : plOk m l i = true := by
  unfold plOk; rw [hv]; simp [h0, h1, h2]
theorem plOk_low {m : Nat} {l : List Int} {i : Nat} {x : Int} (hv : l.getD i 0 = x) (h0 : x < 0) : plOk m l i = false := by
  unfold plOk; rw [hv]; simp [show ¬ (0 ≤ x) by omega]
theorem plOk_high {m : Nat} {l : List Int} {i : Nat} {x : Int} (hv : l.getD i 0 = x) (h0 : (m : Int) ≤ x) : plOk m l i = false := by
  unfold plOk; rw [hv]; simp [show ¬ (x < m) by omega]
theorem plOk_seen {m : Nat} {l : List Int} {i : Nat} {x : Int} (hv : l.getD i 0 = x) (h0 : x ∈ l.take i) : plOk m l i = false := by
  unfold plOk; rw [hv]; simp [h0]
theorem isCols_upto {m : Nat} {l : List Int} (h : 1 ≤ l.length) : isCols m l = upto (plOk m l) l.length := by
  unfold isCols; simp [h]
set_option maxHeartbeats 2000000 in
theorem areColumns_any (A B : Nat) (ao : Option Addr) (cap : Nat) (l : List Int) (m : Nat) (w : World) (hl : l.length ≤ cap) (hc : cap ≤ maxLen) (hr : IntRow w A B ao l) :
    Calls Try.prog 114 #[.slice ao l.length cap, .int .i64 m] w fun e w' => e = .returned (.bool (isCols m l)) ∧ w' = w := by
  unfold maxLen at hc
  by_cases h1 : l.length < 1
  · have HV : Hid (isCols m l = false) := isCols_not (.inl h1)
    go_enter Try.func114, Try.ntmps114
    go_wp2
    go_ret
    exact ⟨ret_bool HV.out.symm, rfl⟩
  · by_cases h2 : m < l.length
    · have HV : Hid (isCols m l = false) := isCols_not (.inr h2)
      go_enter Try.func114, Try.ntmps114
      go_wp2
      go_ret
      exact ⟨ret_bool HV.out.symm, rfl⟩
    · have HV : Hid (isCols m l = upto (plOk m l) l.length) := isCols_upto (by omega)
      have HR : Hid (IntRow w A B ao l) := hr
      clear hr
      go_enter Try.func114, Try.ntmps114
      go_wp2
      go_loop [18] (fun i => ∃ j : Nat, j ≤ l.length ∧ i = .int .i64 j ∧ Hid (upto (plOk m l) j = true)) (fun i => l.length - (intOf i).toNat)
      case atStart => exact ⟨0, Nat.zero_le _, rfl, rfl⟩
      case round =>
        obtain ⟨j, hj, rfl, HU⟩ := hrel
        by_cases hlt : j < l.length
        · obtain ⟨b, off, x, rfl, hbB, hv, hx, d0⟩ := HR.out.at j hlt
          have HX : Hid (l.getD j 0 = x) := hv
          clear hv hx
          by_cases hx0 : x < 0
          · have HF : Hid (isCols m l = false) := by show _ = _; rw [HV.out]; exact upto_false hlt (plOk_low HX.out hx0)
            clear HX HU HV
            go_wp2
            go_ret
            exact ⟨ret_bool HF.out.symm, rfl⟩
          · by_cases hx1 : (m : Int) ≤ x
            · have HF : Hid (isCols m l = false) := by show _ = _; rw [HV.out]; exact upto_false hlt (plOk_high HX.out hx1)
              clear HX HU HV
              go_wp2
              go_ret
              exact ⟨ret_bool HF.out.symm, rfl⟩
            · have hc0 := contains_any A B (some ⟨b, off, none⟩) cap l j x w hj (by unfold maxLen; omega) HR.out
              by_cases hsn : x ∈ l.take j
              · rw [decide_eq_true hsn] at hc0
                have HC : Hid (Calls Try.prog 124 #[.slice (some ⟨b, off, none⟩) j cap, .int .i64 x] w fun e w' => e = .returned (.bool true) ∧ w' = w) := hc0
                have HF : Hid (isCols m l = false) := by show _ = _; rw [HV.out]; exact upto_false hlt (plOk_seen HX.out hsn)
                clear HX HU HV hc0 hsn
                go_wp2_with (go_at_call 124; refine (HC.out).mono ?_; rintro e w1 ⟨rfl, rfl⟩)
                go_ret
                exact ⟨ret_bool HF.out.symm, rfl⟩
              · rw [decide_eq_false hsn] at hc0
                have HC : Hid (Calls Try.prog 124 #[.slice (some ⟨b, off, none⟩) j cap, .int .i64 x] w fun e w' => e = .returned (.bool false) ∧ w' = w) := hc0
                have HU2 : Hid (upto (plOk m l) (j + 1) = true) := by show _ = _; rw [upto_succ, HU.out, plOk_true HX.out (by omega) (by omega) hsn]; rfl
                clear HX HU hc0 hsn
                go_wp2_with (go_at_call 124; refine (HC.out).mono ?_; rintro e w1 ⟨rfl, rfl⟩)
                go_round
                case rel => exact ⟨j + 1, by omega, by go_num, HU2⟩
                case measure => simp [intOf]; omega
        · obtain rfl : j = l.length := by omega
          have HF : Hid (isCols m l = true) := by show _ = _; rw [HV.out]; exact HU.out
          go_wp2
          go_ret
          exact ⟨ret_bool HF.out.symm, rfl⟩
set_option maxHeartbeats 2000000 in
theorem specColumns_any (A B : Nat) (ao : Option Addr) (cap : Nat) (l : List Int) (m : Nat) (w : World) (hB : B ≤ w.heap.size) (hl : l.length ≤ maxLen) (hr : IntRow w A B ao l) :
    Calls Try.prog 43 #[.slice ao l.length cap, .int .i64 m] w fun e w' => e = .returned (.bool (isCols m l)) ∧ Below w.heap.size w w' := by
  unfold maxLen at hl
  by_cases h1 : l.length < 1
  · have HV : Hid (isCols m l = false) := isCols_not (.inl h1)
    go_enter Try.func43, Try.ntmps43
    go_wp2
    go_ret
    exact ⟨ret_bool HV.out.symm, Below.refl _ _⟩
  · have HV : Hid (isCols m l = upto (plOk m l) l.length) := isCols_upto (by omega)
    have HR : Hid (IntRow w A B ao l) := hr
    clear hr
    go_enter Try.func43, Try.ntmps43
    go_wp2
    go_loopw [5] (fun i wr => ∃ j : Nat, j ≤ l.length ∧ i = .int .i64 j ∧ Hid (upto (plOk m l) j = true) ∧ Below w.heap.size w wr) (fun i _ => l.length - (intOf i).toNat)
    case atStart => exact ⟨0, Nat.zero_le _, rfl, rfl, Below.refl _ _⟩
    case round =>
      obtain ⟨j, hj, rfl, HU, hb⟩ := hrel
      by_cases hlt : j < l.length
      · obtain ⟨b, off, x, rfl, hbB, hv, hx, d0⟩ := (HR.out.kept (hb.mono hB)).at j hlt
        have HX : Hid (l.getD j 0 = x) := hv
        clear hv hx
        by_cases hx0 : x < 0
        · have HF : Hid (isCols m l = false) := by show _ = _; rw [HV.out]; exact upto_false hlt (plOk_low HX.out hx0)
          clear HX HU HV
          go_wp2
          go_ret
          exact ⟨ret_bool HF.out.symm, hb⟩
        · by_cases hx1 : (m : Int) ≤ x
          · have HF : Hid (isCols m l = false) := by show _ = _; rw [HV.out]; exact upto_false hlt (plOk_high HX.out hx1)
            clear HX HU HV
            go_wp2
            go_ret
            exact ⟨ret_bool HF.out.symm, hb⟩
          · go_wp2
            have HB : Hid (Below w.heap.size w wr) := hb
            clear hb
            go_loopw [6] (fun i wi => ∃ k : Nat, k ≤ j ∧ i = .int .i64 k ∧ Hid (x ∉ l.take k) ∧ Below w.heap.size w wi) (fun i _ => j - (intOf i).toNat)
            case atStart => exact ⟨0, Nat.zero_le _, rfl, by show _ ∉ _; simp, HB.out⟩
            case round =>
              obtain ⟨k, hk, rfl, HN, hb⟩ := hrel
              by_cases hki : k < j
              · obtain ⟨b1, off1, y, he1, _, hv1, _, d1⟩ := (HR.out.kept (hb.mono hB)).at k (by omega)
                obtain ⟨b2, off2, x2, he2, _, hv2, _, d2⟩ := (HR.out.kept (hb.mono hB)).at j hlt
                simp only [Option.some.injEq, Addr.mk.injEq, and_true] at he1 he2
                obtain ⟨rfl, rfl⟩ := he1
                obtain ⟨rfl, rfl⟩ := he2
                obtain rfl : x = x2 := HX.out.symm.trans hv2
                have HY : Hid (l.getD k 0 = y) := hv1
                have hi0 : (0 : Int) ≤ (k : Int) := by omega
                have hi1 : (k : Int) < (l.length : Int) := by omega
                have hi2 : (0 : Int) ≤ (j : Int) := by omega
                have hi3 : (j : Int) < (l.length : Int) := by omega
                have ht := (Int.toNat_natCast k)
                have ht2 := (Int.toNat_natCast j)
                clear hv1 hv2 d0
                by_cases hxy : y = x
                · subst hxy
                  have HF : Hid (isCols m l = false) := by
                    show _ = _
                    rw [HV.out]
                    refine upto_false hlt (plOk_seen HX.out ?_)
                    exact (List.take_subset_take_left l (by omega : k + 1 ≤ j)) ((mem_take_succ l y k (by omega)).2 (.inr HY.out.symm))
                  clear HX HY HU HV HN
                  go_wp2
                  go_region_held3 (fun W => W.cell? ⟨b, off + k, none⟩ = some (.int .i64 y) ∧ W.cell? ⟨b, off + j, none⟩ = some (.int .i64 y)) (go_keep) (fail)
                  all_goals
                    have hb2 : Below w.heap.size w _ := hb.drew
                    go_wp2
                    go_ret
                    exact ⟨ret_bool HF.out.symm, hb2⟩
                · have HN2 : Hid (x ∉ l.take (k + 1)) := fun h => by
                    rcases (mem_take_succ l x k (by omega)).1 h with h | h
                    · exact HN.out h
                    · exact hxy (h.trans HY.out).symm
                  clear HY HN
                  go_wp2
                  go_region_held3 (fun W => W.cell? ⟨b, off + k, none⟩ = some (.int .i64 y) ∧ W.cell? ⟨b, off + j, none⟩ = some (.int .i64 x)) (go_keep) (fail)
                  all_goals
                    have hb2 : Below w.heap.size w _ := hb.drew
                    clear hb d1 d2
                    go_wp2
                    go_roundw
                    case rel => exact ⟨k + 1, by omega, by go_num, HN2, hb2⟩
                    case measure => simp [intOf]; omega
              · obtain rfl : k = j := by omega
                have HU2 : Hid (upto (plOk m l) (k + 1) = true) := by show _ = _; rw [upto_succ, HU.out, plOk_true HX.out (by omega) (by omega) HN.out]; rfl
                clear HX HN HU
                go_wp2
                go_roundw
                case rel => exact ⟨k + 1, by omega, by go_num, HU2, hb⟩
                case measure => simp [intOf]; omega
      · obtain rfl : j = l.length := by omega
        have HF : Hid (isCols m l = true) := by show _ = _; rw [HV.out]; exact HU.out
        go_wp2
        go_ret
        exact ⟨ret_bool HF.out.symm, hb⟩
end Go.Proofs.Ytpmaklbbkmghbaa

/-
  Contracts: the numbers of columns by their names, of the program.
-/
namespace Go.Proofs.Ytpmaklbbkmghbaa
open Go.RowKit Go.Maps Go.WideMaps
set_option maxRecDepth 100000

theorem run_makeMapN (n : Int) (w : World) : (Instr.makeMap 72 (some (.int .i64 n))).run Try.prog w = .ok (.map (some w.heap.size)) (w.alloc (.map #[] 0)) := by
  simp [Instr.makeMap, run_underlying Try.underlying72, asInt, newObj, Result.andThen]
  rfl
theorem keyLaw : Keyed Try.prog 9 := string_keyed Try.underlying9
theorem zeroI (w : World) : (zeroValue 2).run Try.prog w = .ok (.int .i64 0) w := by kernel_rfl

/-- A map, whichever, and a word. -/
def MapRes (e : Ending) (b : Bool) : Prop := ∃ mo, e = .returned (.tuple #[.map mo, .bool b])
def colsOk (cs : List Col) : Bool := manyOk cs.length && upto (colOk cs) cs.length
/-- The map has just the names of the first k columns. -/
def Named (D : DataW Unit) (cs : List Col) (k : Nat) : Prop := IsMap D ∧ ∀ x : ByteArray, Maps.has D (.string x.data.toList) = (cs.take k).any (fun c => decide (c.name = x))
theorem named_zero (cs : List Col) : Named (.map []) cs 0 := ⟨isMap_empty, fun _ => rfl⟩
theorem ba_extS {a b : ByteArray} (h : a.data.toList = b.data.toList) : a = b := by
  cases a; cases b; simp only [ByteArray.mk.injEq]; exact Array.toList_inj.1 h
theorem isMap_put {D : DataW Unit} (h : IsMap D) (k : Lit) (d : DataW Unit) : IsMap (D.put k d) := by
  obtain ⟨es, rfl⟩ := h; exact ⟨_, rfl⟩
theorem named_succ {D : DataW Unit} {cs : List Col} {k : Nat} (h : Named D cs k) (hk : k < cs.length) {nm : ByteArray} (hn : (cs.getD k noCol).name = nm) (d : DataW Unit) : Named (D.put (.string nm.data.toList) d) cs (k + 1) := by
  refine ⟨isMap_put h.1 _ _, fun x => ?_⟩
  rw [seen_succ cs x k hk, hn]
  by_cases e : nm = x
  · subst e
    rw [has_put_same h.1 (by trivial)]; simp
  · rw [has_put_other (fun e' => e (ba_extS (by injection e' with e'; exact e'.symm))), h.2 x]; simp [e]
theorem colOk_true {cs : List Col} {i : Nat} {nm : ByteArray} {kd : Int} {nu : Bool} (hv : cs.getD i noCol = ⟨nm, kd, nu⟩) (h0 : nameOk nm.data.toList = true) (h1 : 1 ≤ kd) (h2 : kd ≤ 3) (h3 : (cs.take i).any (fun c => decide (c.name = nm)) = false) : colOk cs i = true := by
  unfold colOk; rw [hv]; simp only; rw [h0, h3]; simp [h1, h2]
theorem colOk_seen {cs : List Col} {i : Nat} {nm : ByteArray} {kd : Int} {nu : Bool} (hv : cs.getD i noCol = ⟨nm, kd, nu⟩) (h3 : (cs.take i).any (fun c => decide (c.name = nm)) = true) : colOk cs i = false := by
  unfold colOk; rw [hv]; simp only; rw [h3]; simp
theorem colOk_name {cs : List Col} {i : Nat} {nm : ByteArray} {kd : Int} {nu : Bool} (hv : cs.getD i noCol = ⟨nm, kd, nu⟩) (h0 : nameOk nm.data.toList = false) : colOk cs i = false := by
  unfold colOk; rw [hv]; simp only; rw [h0]; simp
theorem colOk_kind {cs : List Col} {i : Nat} {nm : ByteArray} {kd : Int} {nu : Bool} (hv : cs.getD i noCol = ⟨nm, kd, nu⟩) (h : kd ≤ 0 ∨ 3 < kd) : colOk cs i = false := by
  unfold colOk; rw [hv]; simp only
  rcases h with h | h
  · simp [show ¬ (1 ≤ kd) by omega]
  · simp [show ¬ (kd ≤ 3) by omega]
set_option maxHeartbeats 2000000 in
theorem numbersByName_any (A B : Nat) (ao : Option Addr) (cap : Nat) (cs : List Col) (w : World) (hB : B ≤ w.heap.size) (hl : cs.length ≤ maxLen) (hr : ColRow w A B ao cs) :
    Calls Try.prog 86 #[.slice ao cs.length cap] w fun e w' => MapRes e (colsOk cs) ∧ Below w.heap.size w w' := by
  unfold maxLen at hl
  by_cases h1 : cs.length < 1
  · have HV : Hid (colsOk cs = false) := by show _ = _; unfold colsOk manyOk; simp [show ¬ (1 ≤ cs.length) by omega]
    go_enter Try.func86, Try.ntmps86
    go_wp2
    go_ret2
    exact ⟨⟨none, by rw [HV.out]; rfl⟩, Below.refl _ _⟩
  · by_cases h2 : 10 < cs.length
    · have HV : Hid (colsOk cs = false) := by show _ = _; unfold colsOk manyOk; simp [show ¬ (cs.length ≤ 10) by omega]
      go_enter Try.func86, Try.ntmps86
      go_wp2
      go_ret2
      exact ⟨⟨none, by rw [HV.out]; rfl⟩, Below.refl _ _⟩
    · have HV : Hid (colsOk cs = upto (colOk cs) cs.length) := by show _ = _; unfold colsOk manyOk; simp [show 1 ≤ cs.length by omega, show cs.length ≤ 10 by omega]
      have HR : Hid (ColRow w A B ao cs) := hr
      clear hr
      have hmm := run_makeMapN
      go_enter Try.func86, Try.ntmps86
      go_wp2
      clear hmm
      go_loopw [22] (fun i wr => ∃ (j : Nat) (D : DataW Unit), j ≤ cs.length ∧ i = .int .i64 j ∧ wr.ownsMap Try.prog 9 (plainElem Try.prog 2) w.heap.size j D ∧ Hid (Named D cs j) ∧ Hid (upto (colOk cs) j = true) ∧ Below w.heap.size w wr) (fun i _ => cs.length - (intOf i).toNat)
      case atStart => exact ⟨0, _, Nat.zero_le _, rfl, World.ownsMap_made _ _ _ _, named_zero cs, rfl, (Below.refl _ _).alloc (Nat.le_refl _) _⟩
      case round =>
        obtain ⟨j, D, hj, rfl, hown, HN, HU, hb⟩ := hrel
        by_cases hlt : j < cs.length
        · obtain ⟨b, off, nm, kd, nu, rfl, hbB, hv, htt, hki, d0, d1, d2⟩ := (HR.out.kept (hb.mono hB)).at j hlt
          have HX : Hid (cs.getD j noCol = ⟨nm, kd, nu⟩) := hv
          have hkey : keyOf Try.prog 9 (.string nm) = some (.string nm.data.toList) := keyOf_string_mk Try.underlying9 htt
          have hhas := HN.out.2 nm
          clear hv hki
          by_cases hsn : (cs.take j).any (fun c => decide (c.name = nm)) = true
          · rw [hsn] at hhas
            have HF : Hid (colsOk cs = false) := by show _ = _; rw [HV.out]; exact upto_false hlt (colOk_seen HX.out hsn)
            clear HX HU HV hsn HN
            go_wp2_with (first
              | (at_lookup; refine wpList_lookup_own_ok_int _ rfl _ _ 72 rfl 9 2 .i64 keyLaw Try.underlying72 Try.underlying2 (zeroI _) w.heap.size j D rfl (hown.alloc _) _ _ rfl hkey ?_; intro c hat hwc; rw [hhas])
              | go_in)
            go_ret2
            exact ⟨⟨_, by rw [HF.out]; rfl⟩, hb.alloc hb.size _⟩
          · rw [Bool.not_eq_true] at hsn
            rw [hsn] at hhas
            cases hnm : nameOk nm.data.toList with
            | false =>
              have HF : Hid (colsOk cs = false) := by show _ = _; rw [HV.out]; exact upto_false hlt (colOk_name HX.out hnm)
              have hc0 := fun w => implName_any nm w
              rw [hnm] at hc0
              have HC : Hid (∀ w, Calls Try.prog 87 #[.string nm] w fun e w' => e = .returned (.bool false) ∧ w' = w) := hc0
              clear HX HU HV hsn HN hnm hc0
              go_wp2_with (first
                | (at_lookup; refine wpList_lookup_own_ok_int _ rfl _ _ 72 rfl 9 2 .i64 keyLaw Try.underlying72 Try.underlying2 (zeroI _) w.heap.size j D rfl (hown.alloc _) _ _ rfl hkey ?_; intro c hat hwc; rw [hhas])
                | (go_at_call 87; refine (HC.out _).mono ?_; rintro e w1 ⟨rfl, rfl⟩)
                | go_in)
              go_ret2
              exact ⟨⟨_, by rw [HF.out]; rfl⟩, hb.alloc hb.size _⟩
            | true =>
              have hc0 := fun w => implName_any nm w
              rw [hnm] at hc0
              have HC : Hid (∀ w, Calls Try.prog 87 #[.string nm] w fun e w' => e = .returned (.bool true) ∧ w' = w) := hc0
              clear hc0
              by_cases hkd : kd ≤ 0 ∨ 3 < kd
              · have HF : Hid (colsOk cs = false) := by show _ = _; rw [HV.out]; exact upto_false hlt (colOk_kind HX.out hkd)
                clear HX HU HV hsn HN hnm
                rcases hkd with hkd | hkd
                all_goals
                  go_wp2_with (first
                    | (at_lookup; refine wpList_lookup_own_ok_int _ rfl _ _ 72 rfl 9 2 .i64 keyLaw Try.underlying72 Try.underlying2 (zeroI _) w.heap.size j D rfl (hown.alloc _) _ _ rfl hkey ?_; intro c hat hwc; rw [hhas])
                    | (go_at_call 87; refine (HC.out _).mono ?_; rintro e w1 ⟨rfl, rfl⟩)
                    | go_in)
                  go_ret2
                  exact ⟨⟨_, by rw [HF.out]; rfl⟩, hb.alloc hb.size _⟩
              · have hk1 : 1 ≤ kd := by omega
                have hk2 : kd ≤ 3 := by omega
                have HU2 : Hid (upto (colOk cs) (j + 1) = true) := by show _ = _; rw [upto_succ, HU.out, colOk_true HX.out hnm hk1 hk2 hsn]; rfl
                have HN2 : Hid (Named (D.put (.string nm.data.toList) (.lit (.int .i64 j))) cs (j + 1)) := named_succ HN.out hlt (by rw [HX.out]) _
                clear HX HU hsn HN hnm hkd
                go_wp2_with (first
                  | (at_lookup; refine wpList_lookup_own_ok_int _ rfl _ _ 72 rfl 9 2 .i64 keyLaw Try.underlying72 Try.underlying2 (zeroI _) w.heap.size j D rfl (hown.alloc _) _ _ rfl hkey ?_; intro c hat hwc; rw [hhas])
                  | (go_at_call 87; refine (HC.out _).mono ?_; rintro e w1 ⟨rfl, rfl⟩)
                  | (at_mapUpdate; refine wpList_mapUpdate_own _ rfl _ _ _ 72 rfl 9 2 keyLaw Try.underlying72 _ w.heap.size j _ rfl (hown.alloc _) (by unfold maxLen; omega) _ _ _ rfl rfl hkey _ [] (plainElem_int Try.underlying2 (WalkArith.wf_i64 (by omega))) ?_; intro w1 hown1 hgrow1)
                  | go_in)
                have hb2 := (hb.alloc hb.size _).grown hgrow1 (by have := hb.size; simp; omega) (fun j hj => by cases hj; exact Nat.le_refl _)
                clear hgrow1 hown hb d0 d1 d2
                go_wp2
                go_roundw
                case rel => exact ⟨j + 1, _, by omega, by go_num, hown1, HN2, HU2, hb2⟩
                case measure => simp [intOf]; omega
        · obtain rfl : j = cs.length := by omega
          have HF : Hid (colsOk cs = true) := by show _ = _; rw [HV.out]; exact HU.out
          go_wp2
          go_ret2
          exact ⟨⟨_, by rw [HF.out]; rfl⟩, hb⟩
end Go.Proofs.Ytpmaklbbkmghbaa

/-
  Contracts: is a schema right? The program's answer.
-/
namespace Go.Proofs.Ytpmaklbbkmghbaa
open Go.RowKit
set_option maxRecDepth 100000

def keyOk (s : Sch) : Bool := isCols s.cols.length s.key && upto (keyAt s) s.key.length
def idxOk (s : Sch) : Bool := decide (s.idx.length ≤ 4) && upto (idxAt s) s.idx.length
theorem and7 : ∀ a b c d e f g : Bool, (a && b && c && d && e && f && g) = ((b && e) && a && (c && f) && (d && g)) := by decide
theorem schRight_eq (s : Sch) : schRight s = (colsOk s.cols && nameOk s.name.data.toList && keyOk s && idxOk s) := by
  unfold schRight colsOk keyOk idxOk; exact and7 _ _ _ _ _ _ _
theorem cells4a (w : World) (a b c d : Value) (t : TypeId) : (w.alloc (.cells #[a, b, c, d] t)).cell? ⟨w.heap.size, 0, none⟩ = some a ∧ (w.alloc (.cells #[a, b, c, d] t)).cell? ⟨w.heap.size, 1, none⟩ = some b ∧ (w.alloc (.cells #[a, b, c, d] t)).cell? ⟨w.heap.size, 2, none⟩ = some c ∧ (w.alloc (.cells #[a, b, c, d] t)).cell? ⟨w.heap.size, 3, none⟩ = some d := by
  have h := heap_alloc_new w (.cells #[a, b, c, d] t)
  exact ⟨by rw [cell_of_row _ _ _ _ _ _ h]; rfl, by rw [cell_of_row _ _ _ _ _ _ h]; rfl, by rw [cell_of_row _ _ _ _ _ _ h]; rfl, by rw [cell_of_row _ _ _ _ _ _ h]; rfl⟩
set_option maxHeartbeats 2000000 in
theorem keyRight_any (A B : Nat) (ao : Option Addr) (c1 : Nat) (ko : Option Addr) (c2 : Nat) (xo : Option Addr) (c3 : Nat) (s : Sch) (w : World) (hB : B ≤ w.heap.size) (hr : SchRow w A B ao ko xo c2 s) :
    Calls Try.prog 88 #[.agg #[.string s.name, .slice ao s.cols.length c1, .slice ko s.key.length c2, .slice xo s.idx.length c3]] w fun e w' => e = .returned (.bool (keyOk s)) ∧ Below w.heap.size w w' := by
  obtain ⟨nm, cs, ky, xs⟩ := s
  simp only
  obtain ⟨⟨hn0, hn1, hn2, hn3⟩, hr1, hr2, hr3⟩ := hr
  simp only at hn0 hn1 hn2 hn3 hr1 hr2 hr3
  obtain ⟨hk1, hk2⟩ := hn2
  have B0 : Hid (Below w.heap.size w (w.alloc (.cells #[.string nm, .slice ao cs.length c1, .slice ko ky.length c2, .slice xo xs.length c3] 32))) := (Below.refl _ _).alloc (Nat.le_refl _) _
  have R1 : Hid (ColRow (w.alloc (.cells #[.string nm, .slice ao cs.length c1, .slice ko ky.length c2, .slice xo xs.length c3] 32)) A B ao cs) := hr1.kept (B0.out.mono hB)
  have R2 : Hid (IntRow (w.alloc (.cells #[.string nm, .slice ao cs.length c1, .slice ko ky.length c2, .slice xo xs.length c3] 32)) A B ko ky) := hr2.kept (B0.out.mono hB)
  have hca := areColumns_any A B ko c2 ky cs.length _ hk1 hk2 R2.out
  clear hr1 hr2 hr3 hn0 hn3
  unfold maxLen at hn1 hk2
  cases hic : isCols cs.length ky with
  | false =>
    rw [hic] at hca
    have HC : Hid (Calls Try.prog 114 #[.slice ko ky.length c2, .int .i64 cs.length] (w.alloc (.cells #[.string nm, .slice ao cs.length c1, .slice ko ky.length c2, .slice xo xs.length c3] 32)) fun e w' => e = .returned (.bool false) ∧ w' = (w.alloc (.cells #[.string nm, .slice ao cs.length c1, .slice ko ky.length c2, .slice xo xs.length c3] 32))) := hca
    have HF : Hid (keyOk ⟨nm, cs, ky, xs⟩ = false) := by show _ = _; unfold keyOk; simp only; rw [hic]; rfl
    clear hca hic R1 R2
    go_enter Try.func88, Try.ntmps88
    go_wp2_with fail
    refine HC.out.mono ?_
    rintro e w1 ⟨rfl, rfl⟩
    go_wp2
    go_ret
    exact ⟨ret_bool HF.out.symm, B0.out⟩
  | true =>
    rw [hic] at hca
    have HC : Hid (Calls Try.prog 114 #[.slice ko ky.length c2, .int .i64 cs.length] (w.alloc (.cells #[.string nm, .slice ao cs.length c1, .slice ko ky.length c2, .slice xo xs.length c3] 32)) fun e w' => e = .returned (.bool true) ∧ w' = (w.alloc (.cells #[.string nm, .slice ao cs.length c1, .slice ko ky.length c2, .slice xo xs.length c3] 32))) := hca
    have HI : Hid (isCols cs.length ky = true) := hic
    have HV : Hid (keyOk ⟨nm, cs, ky, xs⟩ = upto (keyAt ⟨nm, cs, ky, xs⟩) ky.length) := by show _ = _; unfold keyOk; simp only; rw [hic]; rfl
    clear hca hic
    obtain ⟨x0, x1, x2, x3⟩ := cells4a w (.string nm) (.slice ao cs.length c1) (.slice ko ky.length c2) (.slice xo xs.length c3) 32
    go_enter Try.func88, Try.ntmps88
    go_wp2_with fail
    refine HC.out.mono ?_
    rintro e w1 ⟨rfl, rfl⟩
    clear HC
    go_wp2
    generalize w.alloc (.cells #[.string nm, .slice ao cs.length c1, .slice ko ky.length c2, .slice xo xs.length c3] 32) = W0 at *
    go_loop [15] (fun i => ∃ j : Nat, j ≤ ky.length ∧ i = .int .i64 j ∧ Hid (upto (keyAt ⟨nm, cs, ky, xs⟩) j = true)) (fun i => ky.length - (intOf i).toNat)
    case atStart => exact ⟨0, Nat.zero_le _, rfl, rfl⟩
    case round =>
      obtain ⟨j, hj, rfl, HU⟩ := hrel
      by_cases hlt : j < ky.length
      · obtain ⟨b, off, x, rfl, hbB, hv, hx, d0⟩ := R2.out.at j hlt
        have hxr := isCols_at HI.out j hlt
        rw [hv] at hxr
        obtain ⟨m, rfl⟩ : ∃ m : Nat, x = (m : Int) := ⟨x.toNat, by omega⟩
        have hm : m < cs.length := by omega
        obtain ⟨b1, off1, n1, kd, nu, rfl, hbB1, hv1, htt, hki, e0, e1, e2⟩ := R1.out.at m hm
        have HK : Hid (keyAt ⟨nm, cs, ky, xs⟩ j = !nu) := by
          show _ = _
          unfold keyAt; simp only; rw [hv, Int.toNat_natCast, hv1]
        clear hv hx hxr hv1 hki htt
        cases nu with
        | true =>
          have HF : Hid (keyOk ⟨nm, cs, ky, xs⟩ = false) := by show _ = _; rw [HV.out]; exact upto_false hlt HK.out
          clear HV HK HU
          go_wp2
          go_ret
          exact ⟨ret_bool HF.out.symm, B0.out⟩
        | false =>
          have HU2 : Hid (upto (keyAt ⟨nm, cs, ky, xs⟩) (j + 1) = true) := by show _ = _; rw [upto_succ, HU.out, HK.out]; rfl
          clear HK HU
          go_wp2
          go_round
          case rel => exact ⟨j + 1, by omega, by go_num, HU2⟩
          case measure => simp [intOf]; omega
      · obtain rfl : j = ky.length := by omega
        have HF : Hid (keyOk ⟨nm, cs, ky, xs⟩ = true) := by show _ = _; rw [HV.out]; exact HU.out
        go_wp2
        go_ret
        exact ⟨ret_bool HF.out.symm, B0.out⟩
set_option maxHeartbeats 2000000 in
theorem indexesRight_any (A B : Nat) (ao : Option Addr) (c1 : Nat) (ko : Option Addr) (c2 : Nat) (xo : Option Addr) (c3 : Nat) (s : Sch) (w : World) (hB : B ≤ w.heap.size) (hr : SchRow w A B ao ko xo c2 s) :
    Calls Try.prog 89 #[.agg #[.string s.name, .slice ao s.cols.length c1, .slice ko s.key.length c2, .slice xo s.idx.length c3]] w fun e w' => e = .returned (.bool (idxOk s)) ∧ Below w.heap.size w w' := by
  obtain ⟨nm, cs, ky, xs⟩ := s
  simp only
  obtain ⟨⟨hn0, hn1, hn2, hn3⟩, hr1, hr2, hr3⟩ := hr
  simp only at hn0 hn1 hn2 hn3 hr1 hr2 hr3
  have B0 : Hid (Below w.heap.size w (w.alloc (.cells #[.string nm, .slice ao cs.length c1, .slice ko ky.length c2, .slice xo xs.length c3] 32))) := (Below.refl _ _).alloc (Nat.le_refl _) _
  have R3 : Hid (IdxRow (w.alloc (.cells #[.string nm, .slice ao cs.length c1, .slice ko ky.length c2, .slice xo xs.length c3] 32)) A B xo xs) := hr3.kept (B0.out.mono hB)
  clear hr1 hr2 hr3 hn0 hn2
  unfold maxLen at hn1 hn3
  by_cases h4 : 4 < xs.length
  · have HF : Hid (idxOk ⟨nm, cs, ky, xs⟩ = false) := by show _ = _; unfold idxOk; simp [show ¬ (xs.length ≤ 4) by omega]
    go_enter Try.func89, Try.ntmps89
    go_wp2
    go_ret
    exact ⟨ret_bool HF.out.symm, B0.out⟩
  · have HV : Hid (idxOk ⟨nm, cs, ky, xs⟩ = upto (idxAt ⟨nm, cs, ky, xs⟩) xs.length) := by show _ = _; unfold idxOk; simp [show xs.length ≤ 4 by omega]
    obtain ⟨x0, x1, x2, x3⟩ := cells4a w (.string nm) (.slice ao cs.length c1) (.slice ko ky.length c2) (.slice xo xs.length c3) 32
    have hs0 : w.heap.size < (w.alloc (.cells #[.string nm, .slice ao cs.length c1, .slice ko ky.length c2, .slice xo xs.length c3] 32)).heap.size := by simp
    go_enter Try.func89, Try.ntmps89
    go_wp2
    generalize w.alloc (.cells #[.string nm, .slice ao cs.length c1, .slice ko ky.length c2, .slice xo xs.length c3] 32) = W0 at *
    go_loopw [12] (fun i wr => ∃ j : Nat, j ≤ xs.length ∧ i = .int .i64 j ∧ Hid (upto (idxAt ⟨nm, cs, ky, xs⟩) j = true) ∧ Below W0.heap.size W0 wr) (fun i _ => xs.length - (intOf i).toNat)
    case atStart => exact ⟨0, Nat.zero_le _, rfl, rfl, Below.refl _ _⟩
    case round =>
      obtain ⟨j, hj, rfl, HU, hb⟩ := hrel
      have y1 : wr.cell? ⟨w.heap.size, 1, none⟩ = some (.slice ao cs.length c1) := (hb.cell (p := ⟨_, _, none⟩) hs0).trans x1
      have hz := hb.size
      have hzz : w.heap.size < wr.heap.size := by omega
      have hzn : ¬ (w.heap.size = wr.heap.size) := by omega
      by_cases hlt : j < xs.length
      · obtain ⟨b, off, io, cp, l, u, rfl, hbB, hv, hcp, hir, d0, d1⟩ := (R3.out.kept (hb.mono (Nat.le_trans hB B0.out.size))).at j hlt
        have HK : Hid (idxAt ⟨nm, cs, ky, xs⟩ j = isCols cs.length l) := by show _ = _; unfold idxAt; simp only; rw [hv]
        have hca := areColumns_any A B io cp l cs.length (wr.alloc (.cells #[.slice io l.length cp, .bool u] 69)) hcp.1 hcp.2 (hir.kept ((Below.refl _ _).alloc (by have := B0.out.size; omega) _))
        clear hv hir hcp
        cases hic : isCols cs.length l with
        | false =>
          rw [hic] at hca
          have HC : Hid (Calls Try.prog 114 #[.slice io l.length cp, .int .i64 cs.length] (wr.alloc (.cells #[.slice io l.length cp, .bool u] 69)) fun e w' => e = .returned (.bool false) ∧ w' = (wr.alloc (.cells #[.slice io l.length cp, .bool u] 69))) := hca
          have HF : Hid (idxOk ⟨nm, cs, ky, xs⟩ = false) := by show _ = _; rw [HV.out]; exact upto_false hlt (HK.out.trans hic)
          have B2 : Hid (Below w.heap.size w (wr.alloc (.cells #[.slice io l.length cp, .bool u] 69))) := (B0.out.trans (hb.mono B0.out.size)).alloc (by omega) _
          clear hca hic HV HK HU
          go_wp2_with fail
          refine HC.out.mono ?_
          rintro e w1 ⟨rfl, rfl⟩
          go_wp2
          go_ret
          exact ⟨ret_bool HF.out.symm, B2.out⟩
        | true =>
          rw [hic] at hca
          have HC : Hid (Calls Try.prog 114 #[.slice io l.length cp, .int .i64 cs.length] (wr.alloc (.cells #[.slice io l.length cp, .bool u] 69)) fun e w' => e = .returned (.bool true) ∧ w' = (wr.alloc (.cells #[.slice io l.length cp, .bool u] 69))) := hca
          have HU2 : Hid (upto (idxAt ⟨nm, cs, ky, xs⟩) (j + 1) = true) := by show _ = _; rw [upto_succ, HU.out, HK.out, hic]; rfl
          have B2 : Hid (Below W0.heap.size W0 (wr.alloc (.cells #[.slice io l.length cp, .bool u] 69))) := hb.alloc hb.size _
          clear hca hic HK HU
          go_wp2_with fail
          refine HC.out.mono ?_
          rintro e w1 ⟨rfl, rfl⟩
          clear hb y1 d0 d1 HC hz hzz hzn
          go_wp2
          go_roundw
          case rel => exact ⟨j + 1, by omega, by go_num, HU2, B2.out⟩
          case measure => simp [intOf]; omega
      · obtain rfl : j = xs.length := by omega
        have HF : Hid (idxOk ⟨nm, cs, ky, xs⟩ = true) := by show _ = _; rw [HV.out]; exact HU.out
        go_wp2
        go_ret
        exact ⟨ret_bool HF.out.symm, B0.out.trans (hb.mono B0.out.size)⟩
set_option maxHeartbeats 2000000 in
theorem schemaNumbers_any (A B : Nat) (ao : Option Addr) (c1 : Nat) (ko : Option Addr) (c2 : Nat) (xo : Option Addr) (c3 : Nat) (s : Sch) (w : World) (hB : B ≤ w.heap.size) (hr : SchRow w A B ao ko xo c2 s) :
    Calls Try.prog 46 #[.agg #[.string s.name, .slice ao s.cols.length c1, .slice ko s.key.length c2, .slice xo s.idx.length c3]] w fun e w' => MapRes e (schRight s) ∧ Below w.heap.size w w' := by
  have HR : Hid (SchRow w A B ao ko xo c2 s) := hr
  have HS : Hid (schRight s = (colsOk s.cols && nameOk s.name.data.toList && keyOk s && idxOk s)) := schRight_eq s
  have hkr := fun (W : World) (hb : Below w.heap.size w W) => keyRight_any A B ao c1 ko c2 xo c3 s W (Nat.le_trans hB hb.size) (hr.kept (hb.mono hB))
  have hir := fun (W : World) (hb : Below w.heap.size w W) => indexesRight_any A B ao c1 ko c2 xo c3 s W (Nat.le_trans hB hb.size) (hr.kept (hb.mono hB))
  have hnr := fun (W : World) => implName_any s.name W
  have hnb := fun (W : World) (hb : Below w.heap.size w W) => numbersByName_any A B ao c1 s.cols W (Nat.le_trans hB hb.size) hr.1.2.1 (hr.2.1.kept (hb.mono hB))
  generalize keyOk s = qk at *
  generalize idxOk s = qi at *
  generalize nameOk s.name.data.toList = qn at *
  generalize colsOk s.cols = qc at *
  generalize schRight s = q at *
  obtain ⟨nm, cs, ky, xs⟩ := s
  simp only at hkr hir hnr hnb ⊢
  have HK : Hid (∀ (W : World), Below w.heap.size w W → Calls Try.prog 88 #[.agg #[.string nm, .slice ao cs.length c1, .slice ko ky.length c2, .slice xo xs.length c3]] W fun e w' => e = .returned (.bool qk) ∧ Below W.heap.size W w') := hkr
  have HI : Hid (∀ (W : World), Below w.heap.size w W → Calls Try.prog 89 #[.agg #[.string nm, .slice ao cs.length c1, .slice ko ky.length c2, .slice xo xs.length c3]] W fun e w' => e = .returned (.bool qi) ∧ Below W.heap.size W w') := hir
  have HN : Hid (∀ (W : World), Calls Try.prog 87 #[.string nm] W fun e w' => e = .returned (.bool qn) ∧ w' = W) := hnr
  have B0 : Hid (Below w.heap.size w (w.alloc (.cells #[.string nm, .slice ao cs.length c1, .slice ko ky.length c2, .slice xo xs.length c3] 32))) := (Below.refl _ _).alloc (Nat.le_refl _) _
  have HB : Hid (∀ (W : World), Below w.heap.size w W → Calls Try.prog 86 #[.slice ao cs.length c1] W fun e w' => MapRes e qc ∧ Below W.heap.size W w') := hnb
  clear hkr hir hnr hnb hr HR
  go_enter Try.func46, Try.ntmps46
  go_wp2_with fail
  refine (HB.out _ B0.out).mono ?_
  rintro e w1 ⟨⟨mo, rfl⟩, hb1⟩
  have X1 : Hid (w1.heap[w.heap.size]? = some (.cells #[.string nm, .slice ao cs.length c1, .slice ko ky.length c2, .slice xo xs.length c3] 32 (0, 0))) := (hb1.block _ (by simp)).trans (heap_alloc_new _ _)
  obtain ⟨x0, x1, x2, x3, xf⟩ := cells4 X1.out
  have hs1 : w.heap.size < w1.heap.size := by have := hb1.size; simp at this; omega
  have B1 : Hid (Below w.heap.size w w1) := B0.out.trans (hb1.mono B0.out.size)
  clear hb1 B0 HB
  cases qc with
  | false =>
    have HF : Hid (q = false) := by show _ = _; rw [HS.out]; rfl
    clear HS
    go_wp2
    go_ret2
    exact ⟨⟨none, by rw [HF.out]; rfl⟩, B1.out⟩
  | true =>
    cases qn with
    | false =>
      have HF : Hid (q = false) := by show _ = _; rw [HS.out]; rfl
      clear HS
      go_wp2_with (go_at_call 87; refine (HN.out _).mono ?_; rintro e w2 ⟨rfl, rfl⟩)
      go_ret2
      exact ⟨⟨none, by rw [HF.out]; rfl⟩, B1.out⟩
    | true =>
      cases qk with
      | false =>
        have HF : Hid (q = false) := by show _ = _; rw [HS.out]; rfl
        clear HS
        go_wp2_with (first | (go_at_call 87; refine (HN.out _).mono ?_; rintro e w2 ⟨rfl, rfl⟩) | (go_at_call 88; refine (HK.out _ B1.out).mono ?_; rintro e w3 ⟨rfl, hb3⟩))
        go_ret2
        exact ⟨⟨none, by rw [HF.out]; rfl⟩, B1.out.trans (hb3.mono B1.out.size)⟩
      | true =>
        cases qi with
        | false =>
          have HF : Hid (q = false) := by show _ = _; rw [HS.out]; rfl
          clear HS
          go_wp2_with (first | (go_at_call 87; refine (HN.out _).mono ?_; rintro e w2 ⟨rfl, rfl⟩) | (go_at_call 88; refine (HK.out _ B1.out).mono ?_; rintro e w3 ⟨rfl, hb3⟩; obtain ⟨hc3, hf3⟩ := bcell hb3; have B3 : Hid (Below w.heap.size w w3) := B1.out.trans (hb3.mono B1.out.size)) | (go_at_call 89; refine (HI.out _ B3.out).mono ?_; rintro e w4 ⟨rfl, hb4⟩))
          go_ret2
          exact ⟨⟨none, by rw [HF.out]; rfl⟩, B3.out.trans (hb4.mono B3.out.size)⟩
        | true =>
          have HF : Hid (q = true) := by show _ = _; rw [HS.out]; rfl
          clear HS
          go_wp2_with (first | (go_at_call 87; refine (HN.out _).mono ?_; rintro e w2 ⟨rfl, rfl⟩) | (go_at_call 88; refine (HK.out _ B1.out).mono ?_; rintro e w3 ⟨rfl, hb3⟩; obtain ⟨hc3, hf3⟩ := bcell hb3; have B3 : Hid (Below w.heap.size w w3) := B1.out.trans (hb3.mono B1.out.size)) | (go_at_call 89; refine (HI.out _ B3.out).mono ?_; rintro e w4 ⟨rfl, hb4⟩))
          go_ret2
          exact ⟨⟨_, by rw [HF.out]; rfl⟩, B3.out.trans (hb4.mono B3.out.size)⟩
theorem implSchemaRight_any (A B : Nat) (ao : Option Addr) (c1 : Nat) (ko : Option Addr) (c2 : Nat) (xo : Option Addr) (c3 : Nat) (s : Sch) (w : World) (hB : B ≤ w.heap.size) (hr : SchRow w A B ao ko xo c2 s) :
    Calls Try.prog 12 #[.agg #[.string s.name, .slice ao s.cols.length c1, .slice ko s.key.length c2, .slice xo s.idx.length c3]] w fun e w' => e = .returned (.bool (schRight s)) ∧ Below w.heap.size w w' := by
  have B0 : Hid (Below w.heap.size w (w.alloc (.cells #[.string s.name, .slice ao s.cols.length c1, .slice ko s.key.length c2, .slice xo s.idx.length c3] 32))) := (Below.refl _ _).alloc (Nat.le_refl _) _
  have hsn := schemaNumbers_any A B ao c1 ko c2 xo c3 s _ (Nat.le_trans hB B0.out.size) (hr.kept (B0.out.mono hB))
  generalize schRight s = q at *
  obtain ⟨nm, cs, ky, xs⟩ := s
  simp only at *
  have HSN : Hid (Calls Try.prog 46 #[.agg #[.string nm, .slice ao cs.length c1, .slice ko ky.length c2, .slice xo xs.length c3]] (w.alloc (.cells #[.string nm, .slice ao cs.length c1, .slice ko ky.length c2, .slice xo xs.length c3] 32)) fun e w' => MapRes e q ∧ Below (w.alloc (.cells #[.string nm, .slice ao cs.length c1, .slice ko ky.length c2, .slice xo xs.length c3] 32)).heap.size (w.alloc (.cells #[.string nm, .slice ao cs.length c1, .slice ko ky.length c2, .slice xo xs.length c3] 32)) w') := hsn
  clear hsn hr
  go_enter Try.func12, Try.ntmps12
  go_wp2_with fail
  refine HSN.out.mono ?_
  rintro e w1 ⟨⟨mo, rfl⟩, hb1⟩
  have B1 : Hid (Below w.heap.size w w1) := B0.out.trans (hb1.mono B0.out.size)
  clear hb1 HSN B0
  go_wp2
  go_ret
  exact ⟨rfl, B1.out⟩
end Go.Proofs.Ytpmaklbbkmghbaa

/-
  Contracts: is a schema right? The specification's answer.
-/
namespace Go.Proofs.Ytpmaklbbkmghbaa
open Go.RowKit
set_option maxRecDepth 100000

theorem and7f : ∀ a b c d e f g : Bool, (a = false ∨ b = false ∨ c = false ∨ d = false ∨ e = false ∨ f = false ∨ g = false) → (a && b && c && d && e && f && g) = false := by
  intro a b c d e f g h
  rcases h with rfl | rfl | rfl | rfl | rfl | rfl | rfl <;> simp
theorem str_ne {a b : ByteArray} (h : a ≠ b) : (a.toList == b.toList) = false := by
  rw [Bool.eq_false_iff]
  intro e
  rw [beq_iff_eq, ByteArray.toList_eq, ByteArray.toList_eq] at e
  exact h (ba_extS e)
set_option maxHeartbeats 4000000 in
theorem specSchemaRight_any (A B : Nat) (ao : Option Addr) (c1 : Nat) (ko : Option Addr) (c2 : Nat) (xo : Option Addr) (c3 : Nat) (s : Sch) (w : World) (hB : B ≤ w.heap.size) (hr : SchRow w A B ao ko xo c2 s) :
    Calls Try.prog 10 #[.agg #[.string s.name, .slice ao s.cols.length c1, .slice ko s.key.length c2, .slice xo s.idx.length c3]] w fun e w' => e = .returned (.bool (schRight s)) ∧ Below w.heap.size w w' := by
  have hkr := fun (W : World) (hb : Below w.heap.size w W) => specColumns_any A B ko c2 s.key s.cols.length W (Nat.le_trans hB hb.size) (Nat.le_trans hr.1.2.2.1.1 hr.1.2.2.1.2) (hr.2.2.1.kept (hb.mono hB))
  have hnr := fun (W : World) => specName_any s.name W
  obtain ⟨⟨hn0, hn1, hn2, hn3⟩, hr1, hr2, hr3⟩ := hr
  have HS : Hid (schRight s = (nameOk s.name.data.toList && manyOk s.cols.length && isCols s.cols.length s.key && decide (s.idx.length ≤ 4) && upto (colOk s.cols) s.cols.length && upto (keyAt s) s.key.length && upto (idxAt s) s.idx.length)) := rfl
  have HI : Hid (isCols s.cols.length s.key = isCols s.cols.length s.key) := rfl
  generalize nameOk s.name.data.toList = qn at *
  generalize hqk : isCols s.cols.length s.key = qk at *
  generalize hq : schRight s = q at *
  obtain ⟨nm, cs, ky, xs⟩ := s
  simp only at *
  have HN : Hid (∀ (W : World), Calls Try.prog 42 #[.string nm] W fun e w' => e = .returned (.bool qn) ∧ w' = W) := hnr
  have HC : Hid (∀ (W : World), Below w.heap.size w W → Calls Try.prog 43 #[.slice ko ky.length c2, .int .i64 cs.length] W fun e w' => e = .returned (.bool qk) ∧ Below W.heap.size W w') := hkr
  have HQ : Hid (isCols cs.length ky = qk) := hqk
  have R1 : Hid (ColRow w A B ao cs) := hr1
  have R2 : Hid (IntRow w A B ko ky) := hr2
  have R3 : Hid (IdxRow w A B xo xs) := hr3
  have B0 : Hid (Below w.heap.size w (w.alloc (.cells #[.string nm, .slice ao cs.length c1, .slice ko ky.length c2, .slice xo xs.length c3] 32))) := (Below.refl _ _).alloc (Nat.le_refl _) _
  clear hr1 hr2 hr3 hkr hnr hqk hq HI
  obtain ⟨hk1, hk2⟩ := hn2
  unfold maxLen at hn0 hn1 hk2 hn3
  cases qn with
  | false =>
    have HF : Hid (q = false) := by show _ = _; rw [HS.out]; exact and7f _ _ _ _ _ _ _ (.inl rfl)
    clear HS
    go_enter Try.func10, Try.ntmps10
    go_wp2_with (go_at_call 42; refine (HN.out _).mono ?_; rintro e w2 ⟨rfl, rfl⟩)
    go_ret
    exact ⟨ret_bool HF.out.symm, B0.out⟩
  | true =>
    by_cases h1 : cs.length < 1
    · have HF : Hid (q = false) := by show _ = _; rw [HS.out]; exact and7f _ _ _ _ _ _ _ (.inr (.inl (by unfold manyOk; simp [show ¬ (1 ≤ cs.length) by omega])))
      clear HS
      go_enter Try.func10, Try.ntmps10
      go_wp2_with (go_at_call 42; refine (HN.out _).mono ?_; rintro e w2 ⟨rfl, rfl⟩)
      go_ret
      exact ⟨ret_bool HF.out.symm, B0.out⟩
    · by_cases h2 : 10 < cs.length
      · have HF : Hid (q = false) := by show _ = _; rw [HS.out]; exact and7f _ _ _ _ _ _ _ (.inr (.inl (by unfold manyOk; simp [show ¬ (cs.length ≤ 10) by omega])))
        clear HS
        go_enter Try.func10, Try.ntmps10
        go_wp2_with (go_at_call 42; refine (HN.out _).mono ?_; rintro e w2 ⟨rfl, rfl⟩)
        go_ret
        exact ⟨ret_bool HF.out.symm, B0.out⟩
      · cases qk with
        | false =>
          have HF : Hid (q = false) := by show _ = _; rw [HS.out]; exact and7f _ _ _ _ _ _ _ (.inr (.inr (.inl rfl)))
          clear HS
          go_enter Try.func10, Try.ntmps10
          go_wp2_with (first | (go_at_call 42; refine (HN.out _).mono ?_; rintro e w2 ⟨rfl, rfl⟩) | (go_at_call 43; refine (HC.out _ B0.out).mono ?_; rintro e w3 ⟨rfl, hb3⟩))
          go_ret
          exact ⟨ret_bool HF.out.symm, B0.out.trans (hb3.mono B0.out.size)⟩
        | true =>
          by_cases h4 : 4 < xs.length
          · have HF : Hid (q = false) := by show _ = _; rw [HS.out]; exact and7f _ _ _ _ _ _ _ (.inr (.inr (.inr (.inl (by simp [show ¬ (xs.length ≤ 4) by omega])))))
            clear HS
            go_enter Try.func10, Try.ntmps10
            go_wp2_with (first | (go_at_call 42; refine (HN.out _).mono ?_; rintro e w2 ⟨rfl, rfl⟩) | (go_at_call 43; refine (HC.out _ B0.out).mono ?_; rintro e w3 ⟨rfl, hb3⟩; obtain ⟨hc3, hf3⟩ := bcell hb3))
            go_ret
            exact ⟨ret_bool HF.out.symm, B0.out.trans (hb3.mono B0.out.size)⟩
          · have HV : Hid (q = (upto (colOk cs) cs.length && upto (keyAt ⟨nm, cs, ky, xs⟩) ky.length && upto (idxAt ⟨nm, cs, ky, xs⟩) xs.length)) := by
              show _ = _
              rw [HS.out]
              unfold manyOk
              simp [show 1 ≤ cs.length by omega, show cs.length ≤ 10 by omega, show xs.length ≤ 4 by omega]
            clear HS
            go_enter Try.func10, Try.ntmps10
            go_wp2_with (first | (go_at_call 42; refine (HN.out _).mono ?_; rintro e w2 ⟨rfl, rfl⟩) | (go_at_call 43; refine (HC.out _ B0.out).mono ?_; rintro e w3 ⟨rfl, hb3⟩; obtain ⟨hc3, hf3⟩ := bcell hb3))
            have X3 : Hid (w3.heap[w.heap.size]? = some (.cells #[.string nm, .slice ao cs.length c1, .slice ko ky.length c2, .slice xo xs.length c3] 32 (0, 0))) := (hb3.block _ (by simp)).trans (heap_alloc_new _ _)
            have B3 : Hid (Below w.heap.size w w3) := B0.out.trans (hb3.mono B0.out.size)
            have hs3 : w.heap.size < w3.heap.size := by have := hb3.size; simp at this; omega
            clear hc3 hf3 hb3 B0 HN HC
            go_loopw [4] (fun i wr => ∃ j : Nat, j ≤ cs.length ∧ i = .int .i64 j ∧ Hid (upto (colOk cs) j = true) ∧ Below w3.heap.size w3 wr) (fun i _ => cs.length - (intOf i).toNat)
            case atStart => exact ⟨0, Nat.zero_le _, rfl, rfl, Below.refl _ _⟩
            case round =>
              obtain ⟨j, hj, rfl, HU, hb⟩ := hrel
              obtain ⟨x0, x1, x2, x3, xf⟩ := cells4 ((hb.block _ hs3).trans X3.out)
              have hz : w.heap.size < wr.heap.size := by have := hb.size; omega
              by_cases hlt : j < cs.length
              · obtain ⟨b, off, cn, kd, nu, rfl, hbB, hv, htt, hki, d0, d1, d2⟩ := (R1.out.kept ((B3.out.trans (hb.mono B3.out.size)).mono hB)).at j hlt
                have HX : Hid (cs.getD j noCol = ⟨cn, kd, nu⟩) := hv
                have hc0 := fun w => specName_any cn w
                clear hv hki htt x0 x2 x3 xf
                cases hnm : nameOk cn.data.toList with
                | false =>
                  rw [hnm] at hc0
                  have HCn : Hid (∀ w, Calls Try.prog 42 #[.string cn] w fun e w' => e = .returned (.bool false) ∧ w' = w) := hc0
                  have HF : Hid (q = false) := by show _ = _; rw [HV.out, upto_false hlt (colOk_name HX.out hnm)]; rfl
                  have BF : Hid (Below w.heap.size w (wr.alloc (.cells #[.string cn, .int .i64 kd, .bool nu] 67))) := (B3.out.trans (hb.mono B3.out.size)).alloc (by omega) _
                  clear hc0 hnm HV HX HU
                  go_wp2_with (go_at_call 42; refine (HCn.out _).mono ?_; rintro e w4 ⟨rfl, rfl⟩)
                  go_ret
                  exact ⟨ret_bool HF.out.symm, BF.out⟩
                | true =>
                  rw [hnm] at hc0
                  have HCn : Hid (∀ w, Calls Try.prog 42 #[.string cn] w fun e w' => e = .returned (.bool true) ∧ w' = w) := hc0
                  clear hc0
                  by_cases hkd : kd ≤ 0 ∨ 3 < kd
                  · have HF : Hid (q = false) := by show _ = _; rw [HV.out, upto_false hlt (colOk_kind HX.out hkd)]; rfl
                    have BF : Hid (Below w.heap.size w (wr.alloc (.cells #[.string cn, .int .i64 kd, .bool nu] 67))) := (B3.out.trans (hb.mono B3.out.size)).alloc (by omega) _
                    clear hnm HV HX HU
                    rcases hkd with hkd | hkd
                    all_goals
                      go_wp2_with (go_at_call 42; refine (HCn.out _).mono ?_; rintro e w4 ⟨rfl, rfl⟩)
                      go_ret
                      exact ⟨ret_bool HF.out.symm, BF.out⟩
                  · have hk1' : 1 ≤ kd := by omega
                    have hk2' : kd ≤ 3 := by omega
                    have B2 : Below w3.heap.size w3 (wr.alloc (.cells #[.string cn, .int .i64 kd, .bool nu] 67)) := hb.alloc hb.size _
                    have hcc : (wr.alloc (.cells #[.string cn, .int .i64 kd, .bool nu] 67)).cell? ⟨wr.heap.size, 0, none⟩ = some (.string cn) := by rw [cell_of_row _ _ _ _ _ _ (heap_alloc_new _ _)]; rfl
                    have hss : wr.heap.size < (wr.alloc (.cells #[.string cn, .int .i64 kd, .bool nu] 67)).heap.size := by simp
                    have HB2 : Hid (Below w3.heap.size w3 (wr.alloc (.cells #[.string cn, .int .i64 kd, .bool nu] 67))) := B2
                    have HCC : Hid ((wr.alloc (.cells #[.string cn, .int .i64 kd, .bool nu] 67)).cell? ⟨wr.heap.size, 0, none⟩ = some (.string cn)) := hcc
                    have HSS : Hid (wr.heap.size < (wr.alloc (.cells #[.string cn, .int .i64 kd, .bool nu] 67)).heap.size) := hss
                    clear B2 hcc hss hkd
                    go_wp2_with (go_at_call 42; refine (HCn.out _).mono ?_; rintro e w4 ⟨rfl, rfl⟩)
                    clear hb HCn d0 d1 d2 x1 hz
                    generalize wr.alloc (.cells #[.string cn, .int .i64 kd, .bool nu] 67) = W2 at *
                    generalize wr.heap.size = g at *
                    go_loopw [6] (fun i wi => ∃ k : Nat, k ≤ j ∧ i = .int .i64 k ∧ Hid ((cs.take k).any (fun c => decide (c.name = cn)) = false) ∧ Below W2.heap.size W2 wi) (fun i _ => j - (intOf i).toNat)
                    case atStart => exact ⟨0, Nat.zero_le _, rfl, rfl, Below.refl _ _⟩
                    case round =>
                      obtain ⟨k, hk, rfl, HA, hbi⟩ := hrel
                      have hbj := HB2.out.trans (hbi.mono HB2.out.size)
                      by_cases hki : k < j
                      · obtain ⟨x0, x1, x2, x3, xf⟩ := cells4 ((hbj.block _ hs3).trans X3.out)
                        have hcn := (hbi.cell (p := ⟨g, 0, none⟩) HSS.out).trans HCC.out
                        obtain ⟨b1, off1, nk, kk, uk, he1, _, hv1, _, _, e0, e1, e2⟩ := (R1.out.kept ((B3.out.trans (hbj.mono B3.out.size)).mono hB)).at k (by omega)
                        simp only [Option.some.injEq, Addr.mk.injEq, and_true] at he1
                        obtain ⟨rfl, rfl⟩ := he1
                        have HY : Hid ((cs.getD k noCol).name = nk) := by show _ = _; rw [hv1]
                        have hi0 : (0 : Int) ≤ (k : Int) := by omega
                        have hi1 : (k : Int) < (cs.length : Int) := by omega
                        have ht := (Int.toNat_natCast k)
                        clear hv1 e1 e2 x0 x2 x3 xf
                        by_cases hxy : nk = cn
                        · subst hxy
                          have HF : Hid (q = false) := by
                            show _ = _
                            rw [HV.out, upto_false hlt (colOk_seen HX.out ?_)]
                            · rfl
                            · have h1 : (cs.take (k + 1)).any (fun c => decide (c.name = nk)) = true := by rw [seen_succ cs nk k (by omega), HY.out]; simp
                              rw [List.any_eq_true] at h1 ⊢
                              obtain ⟨c, hc, hd⟩ := h1
                              exact ⟨c, (List.take_subset_take_left cs (by omega : k + 1 ≤ j)) hc, hd⟩
                          clear HV HX HU HA HY hnm
                          go_wp2
                          go_region_held3 (fun W => W.cell? ⟨w.heap.size, 1, none⟩ = some (.slice (some ⟨b, off, none⟩) cs.length c1) ∧ W.cell? ⟨b, off + k * 3, none⟩ = some (.string nk) ∧ W.cell? ⟨g, 0, none⟩ = some (.string nk)) (go_keep) (fail)
                          all_goals
                            have hb2 : Below w.heap.size w _ := (B3.out.trans (hbj.mono B3.out.size)).drew
                            go_wp2
                            go_ret
                            exact ⟨ret_bool HF.out.symm, hb2⟩
                        · have HA2 : Hid ((cs.take (k + 1)).any (fun c => decide (c.name = cn)) = false) := by show _ = _; rw [seen_succ cs cn k (by omega), HA.out, HY.out]; simp [hxy]
                          have hne := str_ne hxy
                          clear HA HY hxy
                          go_wp2
                          go_region_held3 (fun W => W.cell? ⟨w.heap.size, 1, none⟩ = some (.slice (some ⟨b, off, none⟩) cs.length c1) ∧ W.cell? ⟨b, off + k * 3, none⟩ = some (.string nk) ∧ W.cell? ⟨g, 0, none⟩ = some (.string cn)) (go_keep) (fail)
                          all_goals
                            have hb2 : Below W2.heap.size W2 _ := hbi.drew
                            clear hbi hbj e0 x1 hcn hne
                            go_wp2
                            go_roundw
                            case rel => exact ⟨k + 1, by omega, by go_num, HA2, hb2⟩
                            case measure => simp [intOf]; omega
                      · obtain rfl : k = j := by omega
                        have HU2 : Hid (upto (colOk cs) (k + 1) = true) := by show _ = _; rw [upto_succ, HU.out, colOk_true HX.out hnm hk1' hk2' HA.out]; rfl
                        clear HX HA HU hnm
                        go_wp2
                        go_roundw
                        case rel => exact ⟨k + 1, by omega, by go_num, HU2, hbj⟩
                        case measure => simp [intOf]; omega
              · obtain rfl : j = cs.length := by omega
                have HV2 : Hid (q = (upto (keyAt ⟨nm, cs, ky, xs⟩) ky.length && upto (idxAt ⟨nm, cs, ky, xs⟩) xs.length)) := by show _ = _; rw [HV.out, HU.out]; rfl
                clear HV HU
                go_wp2
                clear x0 x1 x2 x3 xf
                go_loopw [7] (fun i wr2 => ∃ j : Nat, j ≤ ky.length ∧ i = .int .i64 j ∧ Hid (upto (keyAt ⟨nm, cs, ky, xs⟩) j = true) ∧ Below w3.heap.size w3 wr2) (fun i _ => ky.length - (intOf i).toNat)
                case atStart => exact ⟨0, Nat.zero_le _, rfl, rfl, hb⟩
                case round =>
                  clear hb hz
                  obtain ⟨j, hj, rfl, HU, hb⟩ := hrel
                  obtain ⟨x0, x1, x2, x3, xf⟩ := cells4 ((hb.block _ hs3).trans X3.out)
                  by_cases hlt : j < ky.length
                  · obtain ⟨b, off, x, rfl, hbB, hv, hx, d0⟩ := (R2.out.kept ((B3.out.trans (hb.mono B3.out.size)).mono hB)).at j hlt
                    have hxr := isCols_at HQ.out j hlt
                    rw [hv] at hxr
                    obtain ⟨m, rfl⟩ : ∃ m : Nat, x = (m : Int) := ⟨x.toNat, by omega⟩
                    have hm : m < cs.length := by omega
                    obtain ⟨b1, off1, n1, kd, nu, rfl, hbB1, hv1, htt, hki, e0, e1, e2⟩ := (R1.out.kept ((B3.out.trans (hb.mono B3.out.size)).mono hB)).at m hm
                    have HK : Hid (keyAt ⟨nm, cs, ky, xs⟩ j = !nu) := by
                      show _ = _
                      unfold keyAt; simp only; rw [hv, Int.toNat_natCast, hv1]
                    have hi0 : (0 : Int) ≤ (j : Int) := by omega
                    have hi1 : (j : Int) < (ky.length : Int) := by omega
                    have hi2 : (0 : Int) ≤ (m : Int) := by omega
                    have hi3 : (m : Int) < (cs.length : Int) := by omega
                    have ht := (Int.toNat_natCast j)
                    have ht2 := (Int.toNat_natCast m)
                    clear hv hx hxr hv1 hki htt e0 e1 xf x0 x3
                    cases nu with
                    | true =>
                      have HF : Hid (q = false) := by show _ = _; rw [HV2.out, upto_false hlt HK.out]; rfl
                      clear HV2 HK HU
                      go_wp2
                      go_region_held3 (fun W => W.cell? ⟨w.heap.size, 1, none⟩ = some (.slice (some ⟨b1, off1, none⟩) cs.length c1) ∧ W.cell? ⟨w.heap.size, 2, none⟩ = some (.slice (some ⟨b, off, none⟩) ky.length c2) ∧ W.cell? ⟨b, off + j, none⟩ = some (.int .i64 m) ∧ W.cell? ⟨b1, off1 + m * 3 + 2, none⟩ = some (.bool true)) (go_keep) (fail)
                      all_goals
                        have hb2 : Below w.heap.size w _ := (B3.out.trans (hb.mono B3.out.size)).drew
                        go_wp2
                        go_ret
                        exact ⟨ret_bool HF.out.symm, hb2⟩
                    | false =>
                      have HU2 : Hid (upto (keyAt ⟨nm, cs, ky, xs⟩) (j + 1) = true) := by show _ = _; rw [upto_succ, HU.out, HK.out]; rfl
                      clear HK HU
                      go_wp2
                      go_region_held3 (fun W => W.cell? ⟨w.heap.size, 1, none⟩ = some (.slice (some ⟨b1, off1, none⟩) cs.length c1) ∧ W.cell? ⟨w.heap.size, 2, none⟩ = some (.slice (some ⟨b, off, none⟩) ky.length c2) ∧ W.cell? ⟨b, off + j, none⟩ = some (.int .i64 m) ∧ W.cell? ⟨b1, off1 + m * 3 + 2, none⟩ = some (.bool false)) (go_keep) (fail)
                      all_goals
                        have hb2 : Below w3.heap.size w3 _ := hb.drew
                        clear hb d0 e2 x1 x2
                        go_wp2
                        go_roundw
                        case rel => exact ⟨j + 1, by omega, by go_num, HU2, hb2⟩
                        case measure => simp [intOf]; omega
                  · obtain rfl : j = ky.length := by omega
                    have HV3 : Hid (q = upto (idxAt ⟨nm, cs, ky, xs⟩) xs.length) := by show _ = _; rw [HV2.out, HU.out]; rfl
                    clear HV2 HU
                    go_wp2
                    clear x0 x1 x2 x3 xf
                    go_loopw [8] (fun i wr3 => ∃ j : Nat, j ≤ xs.length ∧ i = .int .i64 j ∧ Hid (upto (idxAt ⟨nm, cs, ky, xs⟩) j = true) ∧ Below w3.heap.size w3 wr3) (fun i _ => xs.length - (intOf i).toNat)
                    case atStart => exact ⟨0, Nat.zero_le _, rfl, rfl, hb⟩
                    case round =>
                      clear hb
                      obtain ⟨j, hj, rfl, HU, hb⟩ := hrel
                      obtain ⟨x0, x1, x2, x3, xf⟩ := cells4 ((hb.block _ hs3).trans X3.out)
                      have hbw := B3.out.trans (hb.mono B3.out.size)
                      by_cases hlt : j < xs.length
                      · obtain ⟨b, off, io, cp, l, u, rfl, hbB, hv, hcp, hir, d0, d1⟩ := (R3.out.kept (hbw.mono hB)).at j hlt
                        have HK : Hid (idxAt ⟨nm, cs, ky, xs⟩ j = isCols cs.length l) := by show _ = _; unfold idxAt; simp only; rw [hv]
                        have hca := specColumns_any A B io cp l cs.length _ (Nat.le_trans hB hbw.size) (Nat.le_trans hcp.1 hcp.2) hir
                        generalize isCols cs.length l = qi at *
                        have HC : Hid (Calls Try.prog 43 #[.slice io l.length cp, .int .i64 cs.length] _ fun e w' => e = .returned (.bool qi) ∧ Below _ _ w') := hca
                        clear hv hir hcp hca
                        go_wp2_with fail
                        refine HC.out.mono ?_
                        rintro e w5 ⟨rfl, hb5⟩
                        have hb6 : Below w3.heap.size w3 w5 := hb.trans (hb5.mono hb.size)
                        clear HC hb5 hb hbw x0 x1 x2 x3 xf d0 d1
                        cases qi with
                        | false =>
                          have HF : Hid (q = false) := by show _ = _; rw [HV3.out, upto_false hlt HK.out]
                          clear HV3 HK HU
                          go_wp2
                          go_ret
                          exact ⟨ret_bool HF.out.symm, B3.out.trans (hb6.mono B3.out.size)⟩
                        | true =>
                          have HU2 : Hid (upto (idxAt ⟨nm, cs, ky, xs⟩) (j + 1) = true) := by show _ = _; rw [upto_succ, HU.out, HK.out]; rfl
                          clear HK HU
                          go_wp2
                          go_roundw
                          case rel => exact ⟨j + 1, by omega, by go_num, HU2, hb6⟩
                          case measure => simp [intOf]; omega
                      · obtain rfl : j = xs.length := by omega
                        have HF : Hid (q = true) := by show _ = _; rw [HV3.out, HU.out]
                        clear HV3 HU
                        go_wp2
                        go_ret
                        exact ⟨ret_bool HF.out.symm, hbw⟩
end Go.Proofs.Ytpmaklbbkmghbaa

/-
  New tables: plain facts of right schemas, and of schemas in rows of their own.
-/
namespace Go.Proofs.Ytpmaklbbkmghbaa
open Go.RowKit
set_option maxRecDepth 100000

/-- A schema's texts and numbers are within bounds, and its lists not too long. -/
structure schWide (s : Sch) : Prop where
  fits : schFits s
  name : s.name.size ≤ maxLen
  cols : ∀ c ∈ s.cols, inI64 c.kind ∧ c.name.size ≤ maxLen
  key : ∀ x ∈ s.key, inI64 x
  idx : ∀ x ∈ s.idx, ∀ y ∈ x.cols, inI64 y
theorem wide_of {w : World} {A B c2 : Nat} {ao ko xo : Option Addr} {s : Sch} (h : SchRow w A B ao ko xo c2 s) (hf : schFits s) : schWide s := by
  refine ⟨hf, h.1.1, h.2.1.1, h.2.2.1.1, fun x hx => ?_⟩
  obtain ⟨i, hi, rfl⟩ := List.getElem_of_mem hx
  rcases h.2.2.2 with h0 | ⟨b, off, _, _, _, hc⟩
  · omega
  · obtain ⟨io, cp, _, _, _, hr⟩ := hc i hi
    have e : s.idx.getD i noIdx = s.idx[i] := by rw [List.getD_eq_getElem?_getD, List.getElem?_eq_getElem hi]; rfl
    rw [e] at hr
    exact hr.1
theorem SOwn.rowW {base : Nat} {a k x : Value} {us : List Value} {s : Sch} {w : World} (h : SOwn base a k x us s w) (hs : schWide s) :
    ∃ ao c1 ko c2 xo c3, a = .slice ao s.cols.length c1 ∧ k = .slice ko s.key.length c2 ∧ x = .slice xo s.idx.length c3 ∧ SchRow w base w.heap.size ao ko xo c2 s := by
  obtain ⟨ao, c1, rfl, hr1⟩ := ownC_row h.cols hs.cols
  obtain ⟨ko, c2, rfl, hc2, hr2⟩ := ownN_row h.key hs.key
  obtain ⟨xo, c3, rfl, hr3⟩ := ownX_row h.idx hs.idx
  have h1 := hs.fits.1
  have h3 := hs.fits.2.2.1
  exact ⟨ao, c1, ko, c2, xo, c3, rfl, rfl, rfl, ⟨hs.name, by unfold maxLen; omega, hc2, by unfold maxLen; omega⟩, hr1, hr2, hr3⟩
theorem right_parts {s : Sch} (h : schRight s = true) : (1 ≤ s.cols.length ∧ s.cols.length ≤ 10) ∧ (1 ≤ s.key.length ∧ s.key.length ≤ s.cols.length) ∧ s.idx.length ≤ 4 ∧ ∀ x ∈ s.idx, 1 ≤ x.cols.length ∧ x.cols.length ≤ s.cols.length := by
  unfold schRight at h
  simp only [Bool.and_eq_true, manyOk, decide_eq_true_eq] at h
  obtain ⟨⟨⟨⟨⟨⟨_, hm⟩, hk⟩, h4⟩, _⟩, _⟩, hx⟩ := h
  refine ⟨hm, isCols_len hk, h4, fun x hx' => ?_⟩
  obtain ⟨i, hi, rfl⟩ := List.getElem_of_mem hx'
  have h9 := (upto_iff _ _).1 hx i hi
  unfold idxAt at h9
  have e : s.idx.getD i noIdx = s.idx[i] := by rw [List.getD_eq_getElem?_getD, List.getElem?_eq_getElem hi]; rfl
  rw [e] at h9
  exact isCols_len h9
theorem right_in {s : Sch} (hw : schWide s) (h : schRight s = true) : schIn s := by
  obtain ⟨h1, h2, h3, h4⟩ := right_parts h
  exact ⟨hw.name, h1.2, by omega, h3, hw.cols, hw.key, fun x hx => ⟨by have := (h4 x hx).2; omega, hw.idx x hx⟩⟩
/-- The schema of a new table. -/
def tnSch (s : Sch) : Sch := if schRight s = true then s else noSch
theorem tnSch_in {s : Sch} (hw : schWide s) : schIn (tnSch s) := by
  unfold tnSch
  split
  · rename_i h; exact right_in hw h
  · exact noSch_in
end Go.Proofs.Ytpmaklbbkmghbaa

/-
  Contracts: numbers and columns copied into rows of their own.
-/
namespace Go.Proofs.Ytpmaklbbkmghbaa
open Go.RowKit
set_option maxRecDepth 100000

set_option maxHeartbeats 1000000 in
theorem toInt64S_own (A B : Nat) (ao : Option Addr) (cap : Nat) (l : List Int) (w : World) (hB : B ≤ w.heap.size) (hl : l.length ≤ 1048576) (hr : IntRow w A B ao l) :
    Calls Try.prog 27 #[.slice ao l.length cap] w fun e w' => ∃ v, e = .returned v ∧ OwnN w.heap.size v l w' ∧ Below w.heap.size w w' := by
  obtain ⟨i0, hi, hz0, hz1, hz2⟩ := info_parts Try.infoI64
  have HR : Hid (IntRow w A B ao l) := hr
  clear hr
  go_enter Try.func27, Try.ntmps27
  go_wp2_with (at_make; refine wpList_make_full _ rfl _ _ 23 rfl w.heap.size 2 i0 (.int .i64 0) 1 Try.underlying23 hi hz0 hz1 .i64 .i64 _ _ l.length rfl rfl rfl rfl (by rw [hz2]; omega) (by unfold maxLen; omega) (Nat.le_refl _) ?_; intro w1 hown1 hgrow1)
  obtain ⟨cur0, hg0, hl0⟩ : ∃ cur : List Value, w1.heap[w.heap.size]? = some (.cells cur.toArray 2 (0, 0)) ∧ cur.length = l.length := by
    rcases hown1.2 with ⟨h, _⟩ | ⟨g, cap', cur, hv, _, hg, _, _, hs, _⟩
    · simp at h
    · simp at hv
      obtain ⟨rfl, rfl⟩ := hv
      exact ⟨cur.toList, by simpa using hg, by simpa using hs⟩
  have hb1 : Below w.heap.size w w1 := (Below.refl _ _).grown hgrow1 (Nat.le_refl _) (fun j hj => by simp at hj)
  clear hown1 hgrow1
  go_loopw [4] (fun i wr => ∃ (k : Nat) (cur : List Value), k ≤ l.length ∧ i = .int .i64 k ∧ cur.length = l.length ∧ wr.heap[w.heap.size]? = some (.cells cur.toArray 2 (0, 0)) ∧ Hid (cur.take k = numsV (l.take k)) ∧ Below w.heap.size w wr) (fun i _ => l.length - (intOf i).toNat)
  case atStart => exact ⟨0, cur0, Nat.zero_le _, rfl, hl0, hg0, by show _ = _; simp [numsV], hb1⟩
  case round =>
    obtain ⟨k, cur, hk, rfl, hlen, hg, HC, hb⟩ := hrel
    clear hb1 hg0 hl0
    have hlt0 : w.heap.size < wr.heap.size := (Array.getElem?_eq_some_iff.1 hg).1
    by_cases hlt : k < l.length
    · obtain ⟨b, off, x, rfl, hbB, hv, hx, d0⟩ := (HR.out.kept (hb.mono hB)).at k hlt
      obtain ⟨HC2, hlen2⟩ := nums_step cur l k hlt hlen HC.out x hv
      have HC3 : Hid ((cur.set k (.int .i64 x)).take (k + 1) = numsV (l.take (k + 1))) := HC2
      clear hv HC HC2
      obtain ⟨x0, hx0⟩ : ∃ v, cur[k]? = some v := ⟨_, List.getElem?_eq_getElem (by omega)⟩
      have e0 : wr.cell? ⟨w.heap.size, k, none⟩ = some x0 := by rw [cell_of_row _ _ _ _ _ _ hg, List.getElem?_toArray, hx0]
      have ef : ∀ j, wr.frozen? ⟨w.heap.size, j, none⟩ = false := fun j => frozen_of_row _ _ _ _ _ hg
      have HG : Hid (wr.heap[w.heap.size]? = some (.cells cur.toArray 2 (0, 0))) := hg
      clear hx0 hg
      go_wp2
      go_roundw
      case rel => exact ⟨k + 1, _, by omega, by go_num, hlen2, (by rw [heap_setCell_same _ _ _ _ _ _ HG.out]; simp), HC3, hb.setCell (Nat.le_refl _) _⟩
      case measure => simp [intOf]; omega
    · obtain rfl : k = l.length := by omega
      have HF : Hid (OwnN w.heap.size (.slice (some ⟨w.heap.size, 0, none⟩) l.length l.length) l wr) := ⟨by simp [numsV], .inr ⟨w.heap.size, l.length, cur.toArray, rfl, Nat.le_refl _, hg, Nat.le_refl _, (by unfold maxLen; omega), (by simpa using hlen), (by have := HC.out; rw [List.take_length] at this; simpa using this)⟩⟩
      go_wp2
      go_ret
      exact ⟨_, rfl, HF.out, hb⟩

set_option maxHeartbeats 1000000 in
theorem toColumnS_own (A B : Nat) (ao : Option Addr) (cap : Nat) (cs : List Col) (w : World) (hB : B ≤ w.heap.size) (hl : cs.length ≤ 1048576) (hr : ColRow w A B ao cs) :
    Calls Try.prog 44 #[.slice ao cs.length cap] w fun e w' => ∃ v, e = .returned v ∧ OwnC w.heap.size v cs w' ∧ Below w.heap.size w w' := by
  obtain ⟨i0, hi, hz0, hz1, hz2⟩ := info_parts Try.infoCol
  have HR : Hid (ColRow w A B ao cs) := hr
  clear hr
  go_enter Try.func44, Try.ntmps44
  go_wp2_with (at_make; refine wpList_make_full _ rfl _ _ 29 rfl w.heap.size 67 i0 (.agg #[.string ⟨#[]⟩, .int .i64 0, .bool false]) 3 Try.underlying29 hi hz0 hz1 .i64 .i64 _ _ cs.length rfl rfl rfl rfl (by rw [hz2]; omega) (by unfold maxLen; omega) (Nat.le_refl _) ?_; intro w1 hown1 hgrow1)
  obtain ⟨cur0, hg0, hl0⟩ : ∃ cur : List Value, w1.heap[w.heap.size]? = some (.cells cur.toArray 67 (0, 0)) ∧ cur.length = cs.length * 3 := by
    rcases hown1.2 with ⟨h, _⟩ | ⟨g, cap', cur, hv, _, hg, _, _, hs, _⟩
    · simp at h
    · simp at hv
      obtain ⟨rfl, rfl⟩ := hv
      exact ⟨cur.toList, by simpa using hg, by simpa using hs⟩
  have hb1 : Below w.heap.size w w1 := (Below.refl _ _).grown hgrow1 (Nat.le_refl _) (fun j hj => by simp at hj)
  clear hown1 hgrow1
  go_loopw [4] (fun i wr => ∃ (k : Nat) (cur : List Value), k ≤ cs.length ∧ i = .int .i64 k ∧ cur.length = cs.length * 3 ∧ wr.heap[w.heap.size]? = some (.cells cur.toArray 67 (0, 0)) ∧ Hid (cur.take (k * 3) = flatC (cs.take k)) ∧ Below w.heap.size w wr) (fun i _ => cs.length - (intOf i).toNat)
  case atStart => exact ⟨0, cur0, Nat.zero_le _, rfl, hl0, hg0, by show _ = _; simp [flatC], hb1⟩
  case round =>
    obtain ⟨k, cur, hk, rfl, hlen, hg, HC, hb⟩ := hrel
    clear hb1 hg0 hl0
    have hlt0 : w.heap.size < wr.heap.size := (Array.getElem?_eq_some_iff.1 hg).1
    by_cases hlt : k < cs.length
    · obtain ⟨b, off, kk, nn, tt, rfl, hbB, hv, htt, hki, d0, d1, d2⟩ := (HR.out.kept (hb.mono hB)).at k hlt
      obtain ⟨HC2, hlen2⟩ := flatC_step cur cs k hlt hlen HC.out kk nn tt hv
      have HC3 : Hid ((((cur.set (k * 3) (.string kk)).set (k * 3 + 1) (.int .i64 nn)).set (k * 3 + 2) (.bool tt)).take ((k + 1) * 3) = flatC (cs.take (k + 1))) := HC2
      clear hv HC HC2 hki
      go_wp2_with fail
      refine (toColumn_any kk nn tt _).mono ?_
      rintro e w2 ⟨rfl, hb2⟩
      have hg2 : w2.heap[w.heap.size]? = some (.cells cur.toArray 67 (0, 0)) := (hb2.block _ hlt0).trans hg
      have hb3 := hb.trans (hb2.mono hb.size)
      obtain ⟨x0, hx0⟩ : ∃ v, cur[k * 3]? = some v := ⟨_, List.getElem?_eq_getElem (by omega)⟩
      obtain ⟨x1, hx1⟩ : ∃ v, cur[k * 3 + 1]? = some v := ⟨_, List.getElem?_eq_getElem (by omega)⟩
      obtain ⟨x2, hx2⟩ : ∃ v, cur[k * 3 + 2]? = some v := ⟨_, List.getElem?_eq_getElem (by omega)⟩
      have e0 : w2.cell? ⟨w.heap.size, k * 3, none⟩ = some x0 := by rw [cell_of_row _ _ _ _ _ _ hg2, List.getElem?_toArray, hx0]
      have e1 : w2.cell? ⟨w.heap.size, k * 3 + 1, none⟩ = some x1 := by rw [cell_of_row _ _ _ _ _ _ hg2, List.getElem?_toArray, hx1]
      have e2 : w2.cell? ⟨w.heap.size, k * 3 + 2, none⟩ = some x2 := by rw [cell_of_row _ _ _ _ _ _ hg2, List.getElem?_toArray, hx2]
      have ef : ∀ j, w2.frozen? ⟨w.heap.size, j, none⟩ = false := fun j => frozen_of_row _ _ _ _ _ hg2
      have HG : Hid (w2.heap[w.heap.size]? = some (.cells cur.toArray 67 (0, 0))) := hg2
      clear hx0 hx1 hx2 hg2 hg d0 d1 d2 hb hb2
      go_wp2
      go_roundw
      case rel => exact ⟨k + 1, _, by omega, by go_num, hlen2, set3_heap HG.out, HC3, ((hb3.setCell (Nat.le_refl _) _).setCell (Nat.le_refl _) _).setCell (Nat.le_refl _) _⟩
      case measure => simp [intOf]; omega
    · obtain rfl : k = cs.length := by omega
      have HF : Hid (OwnC w.heap.size (.slice (some ⟨w.heap.size, 0, none⟩) cs.length cs.length) cs wr) := ⟨(by rw [flatC_len]), .inr ⟨w.heap.size, cs.length, cur.toArray, rfl, Nat.le_refl _, hg, Nat.le_refl _, (by unfold maxLen; omega), (by simpa using hlen), (by have := HC.out; rw [List.take_length] at this; simpa using this)⟩⟩
      go_wp2
      go_ret
      exact ⟨_, rfl, HF.out, hb⟩
end Go.Proofs.Ytpmaklbbkmghbaa

/-
  Contracts: marks are written into a schema's columns and numbers, and read again.
-/
namespace Go.Proofs.Ytpmaklbbkmghbaa
open Go.RowKit
set_option maxRecDepth 100000

def mCol (k : Nat) : Col := ⟨markS k, (k : Int) + 1, decide (((k : Int) + 2) % 3 = 0)⟩
def mCols (k0 n : Nat) : List Col := (List.range n).map fun i => mCol (k0 + 3 * i)
def mNums (k0 n : Nat) : List Int := (List.range n).map fun i => ((k0 + i : Nat) : Int)
theorem mCols_succ (k0 k : Nat) : mCols k0 (k + 1) = mCols k0 k ++ [mCol (k0 + 3 * k)] := by simp [mCols, List.range_succ]
theorem mNums_succ (k0 k : Nat) : mNums k0 (k + 1) = mNums k0 k ++ [((k0 + k : Nat) : Int)] := by simp [mNums, List.range_succ]
theorem mCols_len (k0 n : Nat) : (mCols k0 n).length = n := by simp [mCols]
theorem mNums_len (k0 n : Nat) : (mNums k0 n).length = n := by simp [mNums]
theorem mCols_get (k0 n i : Nat) (h : i < n) : (mCols k0 n).getD i noCol = mCol (k0 + 3 * i) := by simp [mCols, List.getD_eq_getElem?_getD, h]
theorem mNums_get (k0 n i : Nat) (h : i < n) : (mNums k0 n).getD i 0 = ((k0 + i : Nat) : Int) := by simp [mNums, List.getD_eq_getElem?_getD, h]
/-- The first k columns of a block are marked. -/
def CM (g m k0 k : Nat) (w : World) : Prop := ∃ cur : List Value, w.heap[g]? = some (.cells cur.toArray 67 (0, 0)) ∧ cur.length = m ∧ cur.take (k * 3) = flatC (mCols k0 k)
def NM (g m k0 k : Nat) (w : World) : Prop := ∃ cur : List Value, w.heap[g]? = some (.cells cur.toArray 2 (0, 0)) ∧ cur.length = m ∧ cur.take k = numsV (mNums k0 k)
set_option maxHeartbeats 4000000 in
theorem markColumnS_at (g n cap k0 m : Nat) (w : World) (hk0 : 0 < k0) (hk1 : k0 + 3 * n ≤ 5000000) (hl0 : n * 3 ≤ m) (hw : CM g m k0 0 w) :
    Calls Try.prog 78 #[.slice (some ⟨g, 0, none⟩) n cap, .int .i64 k0] w fun e w' => e = .returned (.int .i64 ((k0 + 3 * n : Nat) : Int)) ∧ CM g m k0 n w' ∧ w.grownBy w' (some g) := by
  have HW := hide hw
  clear hw
  go_enter Try.func78, Try.ntmps78
  go_wp2
  go_loopw [1, 5] (fun s i wr => ∃ k q : Nat, k ≤ n ∧ i = .int .i64 k ∧ s = .int .i64 q ∧ Hid (q = k0 + 3 * k) ∧ (0 < q ∧ q ≤ 5000000) ∧ Hid (CM g m k0 k wr) ∧ w.grownBy wr (some g)) (fun _ i _ => n - (intOf i).toNat)
  case atStart => exact ⟨0, k0, Nat.zero_le _, rfl, rfl, (by show _ = _; omega), ⟨hk0, by omega⟩, HW, grown_refl _ _⟩
  case round =>
    obtain ⟨k, q, hk, rfl, rfl, HQ, ⟨hq0, hq1⟩, HM, hb⟩ := hrel
    by_cases hlt : k < n
    · obtain ⟨cur, hg, hl, htk⟩ := HM.out
      have hgs : g < wr.heap.size := (Array.getElem?_eq_some_iff.1 hg).1
      have hmt := hide (fun W => markText_pos q hq0 (by omega) W)
      have HG := hide hg
      have HL := hide htk
      have hq2 : q + 3 ≤ 5000000 := by have := HQ.out; omega
      have HC : Hid (mCol (k0 + 3 * k) = ⟨markS q, (q : Int) + 1, decide (((q : Int) + 2) % 3 = 0)⟩) := by show _ = _; rw [← HQ.out]; rfl
      generalize markS q = T at *
      clear HM hg htk
      go_wp2_with fail
      refine (hmt.out _).mono ?_
      rintro e w1 ⟨rfl, hb1⟩
      have hg1 := (hb1.block g hgs).trans HG.out
      obtain ⟨x0, hx0⟩ : ∃ v, cur[k * 3]? = some v := ⟨_, List.getElem?_eq_getElem (by omega)⟩
      obtain ⟨x1, hx1⟩ : ∃ v, cur[k * 3 + 1]? = some v := ⟨_, List.getElem?_eq_getElem (by omega)⟩
      obtain ⟨x2, hx2⟩ : ∃ v, cur[k * 3 + 2]? = some v := ⟨_, List.getElem?_eq_getElem (by omega)⟩
      have d0 : w1.cell? ⟨g, k * 3, none⟩ = some x0 := by rw [cell_of_row _ _ _ _ _ _ hg1, List.getElem?_toArray, hx0]
      have d1 : w1.cell? ⟨g, k * 3 + 1, none⟩ = some x1 := by rw [cell_of_row _ _ _ _ _ _ hg1, List.getElem?_toArray, hx1]
      have d2 : w1.cell? ⟨g, k * 3 + 2, none⟩ = some x2 := by rw [cell_of_row _ _ _ _ _ _ hg1, List.getElem?_toArray, hx2]
      have df : ∀ j, w1.frozen? ⟨g, j, none⟩ = false := fun j => frozen_of_row _ _ _ _ _ hg1
      have HM2 : Hid (∀ (a b : Value), a = .int .i64 ((q : Int) + 1) → b = .bool (decide (((q : Int) + 2) % 3 = 0)) → CM g m k0 (k + 1) (((w1.setCell ⟨g, k * 3, none⟩ (.string T)).setCell ⟨g, k * 3 + 1, none⟩ a).setCell ⟨g, k * 3 + 2, none⟩ b) ∧ w.grownBy (((w1.setCell ⟨g, k * 3, none⟩ (.string T)).setCell ⟨g, k * 3 + 1, none⟩ a).setCell ⟨g, k * 3 + 2, none⟩ b) (some g)) := fun a b ha hbb => by
        obtain ⟨t1, t2⟩ := set3_take cur (k * 3) (.string T) a b (by omega)
        refine ⟨⟨_, setL_heap (setL_heap (setL_heap hg1)), by simpa using hl, ?_⟩, grown_setG (grown_setG (grown_setG (grown_below hb hb1)))⟩
        rw [show (k + 1) * 3 = k * 3 + 3 by omega, t1, HL.out, mCols_succ, flatC_append, HC.out, ha, hbb]; rfl
      clear hmt HG HL HC hg1 hx0 hx1 hx2 hb1 hb
      go_wp2
      go_roundw
      case rel => exact ⟨k + 1, q + 3, by omega, by go_num, by go_num, (by show _ = _; have := HQ.out; omega), ⟨by omega, hq2⟩, (HM2.out _ _ rfl (by go_num)).1, (HM2.out _ _ rfl (by go_num)).2⟩
      case measure => simp [intOf]; omega
    · obtain rfl : k = n := by omega
      have HZ : Hid ((q : Int) = ((k0 + 3 * k : Nat) : Int)) := by show _ = _; rw [HQ.out]
      go_wp2
      go_ret
      exact ⟨by rw [HZ.out]; rfl, HM.out, hb⟩
set_option maxHeartbeats 2000000 in
theorem markInt64S_cur (g n cap k0 m : Nat) (w : World) (hk1 : k0 + n ≤ 5000000) (hl0 : n ≤ m) (hw : NM g m k0 0 w) :
    Calls Try.prog 31 #[.slice (some ⟨g, 0, none⟩) n cap, .int .i64 k0] w fun e w' => e = .returned (.int .i64 ((k0 + n : Nat) : Int)) ∧ NM g m k0 n w' ∧ w.grownBy w' (some g) := by
  have HW := hide hw
  clear hw
  go_enter Try.func31, Try.ntmps31
  go_wp2
  go_loopw [1, 5] (fun s i wr => ∃ k : Nat, k ≤ n ∧ i = .int .i64 k ∧ s = .int .i64 ((k0 + k : Nat) : Int) ∧ Hid (NM g m k0 k wr) ∧ w.grownBy wr (some g)) (fun _ i _ => n - (intOf i).toNat)
  case atStart => exact ⟨0, Nat.zero_le _, rfl, rfl, HW, grown_refl _ _⟩
  case round =>
    obtain ⟨k, hk', rfl, rfl, HM, hb⟩ := hrel
    by_cases hlt : k < n
    · obtain ⟨cur, hg, hl, htk⟩ := HM.out
      obtain ⟨x0, hx0⟩ : ∃ v, cur[k]? = some v := ⟨_, List.getElem?_eq_getElem (by omega)⟩
      have e0 : wr.cell? ⟨g, k, none⟩ = some x0 := by rw [cell_of_row _ _ _ _ _ _ hg, List.getElem?_toArray, hx0]
      have ef : ∀ j, wr.frozen? ⟨g, j, none⟩ = false := fun j => frozen_of_row _ _ _ _ _ hg
      have HM2 : Hid (∀ x, x = .int .i64 ((k0 + k : Nat) : Int) → NM g m k0 (k + 1) (wr.setCell ⟨g, k, none⟩ x)) := fun x hx => by
        refine ⟨_, setL_heap hg, by simpa using hl, ?_⟩
        rw [take_set1 _ _ _ (by omega), htk, mNums_succ, hx]
        simp [numsV]
      clear HM hg hl hx0 htk
      go_wp2
      go_roundw
      case rel => exact ⟨k + 1, by omega, by go_num, by go_num, HM2.out _ (by go_num), grown_setG hb⟩
      case measure => simp [intOf]; omega
    · obtain rfl : k = n := by omega
      go_wp2
      go_ret
      exact ⟨rfl, HM.out, hb⟩
theorem markColumnS_nil (k0 : Nat) (w : World) : Calls Try.prog 78 #[.slice none 0 0, .int .i64 k0] w fun e w' => e = .returned (.int .i64 k0) ∧ w' = w := by
  go_enter Try.func78, Try.ntmps78
  go_wp2
  go_loop [1, 5] (fun q i => i = .int .i64 0 ∧ q = .int .i64 k0) (fun _ _ => 0)
  case atStart => exact ⟨rfl, rfl⟩
  case round =>
    obtain ⟨rfl, rfl⟩ := hrel
    go_wp2
    go_ret
    exact ⟨rfl, rfl⟩
theorem markColumnS_own (base : Nat) (v : Value) (cs : List Col) (k0 : Nat) (w : World) (hk0 : 0 < k0) (hk1 : k0 + 3 * cs.length ≤ 5000000) (h : OwnC base v cs w) :
    Calls Try.prog 78 #[v, .int .i64 k0] w fun e w' => e = .returned (.int .i64 ((k0 + 3 * cs.length : Nat) : Int)) ∧ OwnC base v (mCols k0 cs.length) w' ∧ w.grownBy w' v.ownBlock := by
  rcases h.2 with ⟨rfl, h0⟩ | ⟨g, cap, cur, rfl, hB, hq, hn', hm, hs, ht⟩
  · refine (markColumnS_nil k0 w).mono ?_
    rintro e w' ⟨rfl, rfl⟩
    rw [h0]
    exact ⟨rfl, ownC_nil _ _, grown_refl _ _⟩
  · refine (markColumnS_at g cs.length cap k0 (cap * 3) w hk0 hk1 (Nat.mul_le_mul_right 3 hn') ⟨cur.toList, by simpa using hq, by simpa using hs, by simp [mCols, flatC]⟩).mono ?_
    rintro e w' ⟨rfl, ⟨cur', hg', hl', ht'⟩, hb⟩
    refine ⟨rfl, ⟨by rw [flatC_len], .inr ⟨g, cap, cur'.toArray, by rw [mCols_len], hB, hg', by rw [mCols_len]; exact hn', hm, by simpa using hl', ?_⟩⟩, hb⟩
    rw [mCols_len]; simpa using ht'
theorem markInt64S_mk (base : Nat) (v : Value) (l : List Int) (k0 : Nat) (w : World) (hk1 : k0 + l.length ≤ 5000000) (h : OwnN base v l w) :
    Calls Try.prog 31 #[v, .int .i64 k0] w fun e w' => e = .returned (.int .i64 ((k0 + l.length : Nat) : Int)) ∧ OwnN base v (mNums k0 l.length) w' ∧ w.grownBy w' v.ownBlock := by
  rcases h.2 with ⟨rfl, h0⟩ | ⟨g, cap, cur, rfl, hB, hq, hn', hm, hs, ht⟩
  · refine (markInt64S_nil k0 w).mono ?_
    rintro e w' ⟨rfl, rfl⟩
    rw [h0]
    exact ⟨rfl, ownN_nil _ _, grown_refl _ _⟩
  · refine (markInt64S_cur g l.length cap k0 (cap * 1) w hk1 (by omega) ⟨cur.toList, by simpa using hq, by simpa using hs, by simp [mNums, numsV]⟩).mono ?_
    rintro e w' ⟨rfl, ⟨cur', hg', hl', ht'⟩, hb⟩
    refine ⟨rfl, ⟨by simp [numsV], .inr ⟨g, cap, cur'.toArray, by rw [mNums_len], hB, hg', by rw [mNums_len]; exact hn', hm, by simpa using hl', ?_⟩⟩, hb⟩
    rw [mNums_len]; simpa using ht'
set_option maxHeartbeats 4000000 in
theorem heldColumnS_any (A B : Nat) (ao : Option Addr) (n cap k0 : Nat) (w : World) (hB : B ≤ w.heap.size) (hn : n ≤ 10) (hk0 : 0 < k0) (hk1 : k0 ≤ 1000) (hr : ColRow w A B ao (mCols k0 n)) :
    Calls Try.prog 104 #[.slice ao n cap, .int .i64 k0] w fun e w' => e = .returned (.int .i64 ((k0 + 3 * n : Nat) : Int)) ∧ Below w.heap.size w w' := by
  have HR := hide hr
  clear hr
  go_enter Try.func104, Try.ntmps104
  go_wp2
  go_loopw [1, 5] (fun s i wr => ∃ k q : Nat, k ≤ n ∧ i = .int .i64 k ∧ s = .int .i64 q ∧ Hid (q = k0 + 3 * k) ∧ (0 < q ∧ q ≤ 2000) ∧ Below w.heap.size w wr) (fun _ i _ => n - (intOf i).toNat)
  case atStart => exact ⟨0, k0, Nat.zero_le _, rfl, rfl, (by show _ = _; omega), ⟨hk0, by omega⟩, Below.refl _ _⟩
  case round =>
    obtain ⟨k, q, hk, rfl, rfl, HQ, ⟨hq0, hq1⟩, hb⟩ := hrel
    have hz := hb.size
    by_cases hlt : k < n
    · obtain ⟨b, off, nm, kd, nu, rfl, hbB, hv, hnm, hkd, d0, d1, d2⟩ := (HR.out.kept (hb.mono hB)).at k (by rw [mCols_len]; exact hlt)
      rw [mCols_get _ _ _ hlt, ← HQ.out] at hv
      unfold mCol at hv
      simp only [Col.mk.injEq] at hv
      obtain ⟨rfl, rfl, rfl⟩ := hv
      have hq2 : q + 3 ≤ 2000 := by have := HQ.out; omega
      have hi0 : (0 : Int) ≤ (k : Int) := by omega
      have hi1 : (k : Int) < (n : Int) := by omega
      have ht := (Int.toNat_natCast k)
      have hmt := hide (fun W => markText_pos q hq0 (by omega) W)
      have hbr : b < wr.heap.size := by omega
      have h32 : (q : Int) + 1 + 1 = (q : Int) + 2 := by omega
      generalize markS q = T at *
      clear hnm hkd
      go_wp2
      go_region_held3 (fun W => W.cell? ⟨b, off + k * 3, none⟩ = some (.string T)) (go_keep) (first | (go_at_call 74; refine (hmt.out _).mono ?_; rintro e w1 ⟨rfl, hb1⟩; have hb1' : Below wr.heap.size wr w1 := (Below.refl _ _).drew.trans hb1; obtain ⟨hc1, hf1⟩ := bcell hb1'))
      all_goals
        have hb2 := hb.trans (hb1'.mono hz)
        have f1 : w1.cell? ⟨b, off + k * 3 + 1, none⟩ = some (.int .i64 ((q : Int) + 1)) := (hb1'.cell (p := ⟨b, _, none⟩) hbr).trans d1
        have f2 : w1.cell? ⟨b, off + k * 3 + 2, none⟩ = some (.bool (decide (((q : Int) + 2) % 3 = 0))) := (hb1'.cell (p := ⟨b, _, none⟩) hbr).trans d2
        clear d0 d1 d2 hb1 hb1' hb hc1 hf1
        by_cases h3 : ((q : Int) + 2) % 3 = 0
        · go_wp2
          go_roundw
          case rel => exact ⟨k + 1, q + 3, by omega, by go_num, by go_num, (by show _ = _; have := HQ.out; omega), ⟨by omega, hq2⟩, hb2⟩
          case measure => simp [intOf]; omega
        · go_wp2
          go_roundw
          case rel => exact ⟨k + 1, q + 3, by omega, by go_num, by go_num, (by show _ = _; have := HQ.out; omega), ⟨by omega, hq2⟩, hb2⟩
          case measure => simp [intOf]; omega
    · obtain rfl : k = n := by omega
      have HZ : Hid ((q : Int) = ((k0 + 3 * k : Nat) : Int)) := by show _ = _; rw [HQ.out]
      go_wp2
      go_ret
      exact ⟨by rw [HZ.out]; rfl, hb⟩
set_option maxHeartbeats 2000000 in
theorem heldInt64S_any (A B : Nat) (ao : Option Addr) (n cap k0 : Nat) (w : World) (hB : B ≤ w.heap.size) (hn : n ≤ 10) (hk1 : k0 ≤ 1000) (hr : IntRow w A B ao (mNums k0 n)) :
    Calls Try.prog 105 #[.slice ao n cap, .int .i64 k0] w fun e w' => e = .returned (.int .i64 ((k0 + n : Nat) : Int)) ∧ Below w.heap.size w w' := by
  have HR := hide hr
  clear hr
  go_enter Try.func105, Try.ntmps105
  go_wp2
  go_loopw [1, 5] (fun s i wr => ∃ k : Nat, k ≤ n ∧ i = .int .i64 k ∧ s = .int .i64 ((k0 + k : Nat) : Int) ∧ Below w.heap.size w wr) (fun _ i _ => n - (intOf i).toNat)
  case atStart => exact ⟨0, Nat.zero_le _, rfl, rfl, Below.refl _ _⟩
  case round =>
    obtain ⟨k, hk, rfl, rfl, hb⟩ := hrel
    by_cases hlt : k < n
    · obtain ⟨b, off, x, rfl, hbB, hv, hx, d0⟩ := (HR.out.kept (hb.mono hB)).at k (by rw [mNums_len]; exact hlt)
      rw [mNums_get _ _ _ hlt] at hv
      subst hv
      clear hx
      go_wp2
      go_roundw
      case rel => exact ⟨k + 1, by omega, by go_num, by go_num, hb⟩
      case measure => simp [intOf]; omega
    · obtain rfl : k = n := by omega
      go_wp2
      go_ret
      exact ⟨rfl, hb⟩
end Go.Proofs.Ytpmaklbbkmghbaa
