/-
  Contracts: the numbers of columns by their names, of the program.
-/
import Derived.Test.YtkhklfnhninkjaaGreatSCols
import Derived.Test.YtkhklfnhninkjaaGreatName
import Derived.Maps.OwnOps
import Derived.Maps.OwnSet
import Derived.Maps.Views
namespace Go.Proofs.YtkhklfnhninkjaaGreat
open Go.RowKit Go.Maps Go.WideMaps
set_option maxRecDepth 100000

theorem run_makeMapN (n : Int) (w : World) : (Instr.makeMap 96 (some (.int .i64 n))).run Tryz.prog w = .ok (.map (some w.heap.size)) (w.alloc (.map #[] 0)) := by
  simp [Instr.makeMap, run_underlying Tryz.underlying96, asInt, newObj, Result.andThen]
  rfl
theorem keyLaw : Keyed Tryz.prog 9 := string_keyed Tryz.underlying9
theorem zeroI (w : World) : (zeroValue 2).run Tryz.prog w = .ok (.int .i64 0) w := by kernel_rfl

/-- A map, whichever, and a word. -/
def MapRes (e : Ending) (b : Bool) : Prop := ∃ mo, e = .returned (.tuple #[.map mo, .bool b])
def colsOk (cs : List Col) : Bool := manyOk cs.length && upto (colOk cs) cs.length
/-- The map has just the names of the first k columns. -/
def Named (D : DataW Unit) (cs : List Col) (k : Nat) : Prop := IsMap D ∧ ∀ x : ByteArray, Maps.has D (.string x.data.toList) = (cs.take k).any (fun c => decide (c.name = x))
theorem named_zero (cs : List Col) : Named (.map []) cs 0 := ⟨isMap_empty, fun _ => rfl⟩
theorem ba_extS {a b : ByteArray} (h : a.data.toList = b.data.toList) : a = b := by
  cases a; cases b; simp only [ByteArray.mk.injEq]; exact Array.toList_inj.1 h
theorem isMap_put {D : DataW Unit} (h : IsMap D) (k : Lit) (d : DataW Unit) : IsMap (D.put k d) := by
  obtain ⟨es, rfl⟩ := h; exact ⟨_, rfl⟩
theorem named_succ {D : DataW Unit} {cs : List Col} {k : Nat} (h : Named D cs k) (hk : k < cs.length) {nm : ByteArray} (hn : (cs.getD k noCol).name = nm) (d : DataW Unit) : Named (D.put (.string nm.data.toList) d) cs (k + 1) := by
  refine ⟨isMap_put h.1 _ _, fun x => ?_⟩
  rw [seen_succ cs x k hk, hn]
  by_cases e : nm = x
  · subst e
    rw [has_put_same h.1 (by trivial)]; simp
  · rw [has_put_other (fun e' => e (ba_extS (by injection e' with e'; exact e'.symm))), h.2 x]; simp [e]
theorem colOk_true {cs : List Col} {i : Nat} {nm : ByteArray} {kd : Int} {nu : Bool} (hv : cs.getD i noCol = ⟨nm, kd, nu⟩) (h0 : nameOk nm.data.toList = true) (h1 : 1 ≤ kd) (h2 : kd ≤ 3) (h3 : (cs.take i).any (fun c => decide (c.name = nm)) = false) : colOk cs i = true := by
  unfold colOk; rw [hv]; simp only; rw [h0, h3]; simp [h1, h2]
theorem colOk_seen {cs : List Col} {i : Nat} {nm : ByteArray} {kd : Int} {nu : Bool} (hv : cs.getD i noCol = ⟨nm, kd, nu⟩) (h3 : (cs.take i).any (fun c => decide (c.name = nm)) = true) : colOk cs i = false := by
  unfold colOk; rw [hv]; simp only; rw [h3]; simp
theorem colOk_name {cs : List Col} {i : Nat} {nm : ByteArray} {kd : Int} {nu : Bool} (hv : cs.getD i noCol = ⟨nm, kd, nu⟩) (h0 : nameOk nm.data.toList = false) : colOk cs i = false := by
  unfold colOk; rw [hv]; simp only; rw [h0]; simp
theorem colOk_kind {cs : List Col} {i : Nat} {nm : ByteArray} {kd : Int} {nu : Bool} (hv : cs.getD i noCol = ⟨nm, kd, nu⟩) (h : kd ≤ 0 ∨ 3 < kd) : colOk cs i = false := by
  unfold colOk; rw [hv]; simp only
  rcases h with h | h
  · simp [show ¬ (1 ≤ kd) by omega]
  · simp [show ¬ (kd ≤ 3) by omega]
set_option maxHeartbeats 2000000 in
theorem numbersByName_any (A B : Nat) (ao : Option Addr) (cap : Nat) (cs : List Col) (w : World) (hB : B ≤ w.heap.size) (hl : cs.length ≤ maxLen) (hr : ColRow w A B ao cs) :
    Calls Tryz.prog 56 #[.slice ao cs.length cap] w fun e w' => MapRes e (colsOk cs) ∧ Below w.heap.size w w' := by
  unfold maxLen at hl
  by_cases h1 : cs.length < 1
  · have HV : Hid (colsOk cs = false) := by show _ = _; unfold colsOk manyOk; simp [show ¬ (1 ≤ cs.length) by omega]
    go_enter Tryz.func56, Tryz.ntmps56
    go_wp2
    go_ret2
    exact ⟨⟨none, by rw [HV.out]; rfl⟩, Below.refl _ _⟩
  · by_cases h2 : 10 < cs.length
    · have HV : Hid (colsOk cs = false) := by show _ = _; unfold colsOk manyOk; simp [show ¬ (cs.length ≤ 10) by omega]
      go_enter Tryz.func56, Tryz.ntmps56
      go_wp2
      go_ret2
      exact ⟨⟨none, by rw [HV.out]; rfl⟩, Below.refl _ _⟩
    · have HV : Hid (colsOk cs = upto (colOk cs) cs.length) := by show _ = _; unfold colsOk manyOk; simp [show 1 ≤ cs.length by omega, show cs.length ≤ 10 by omega]
      have HR : Hid (ColRow w A B ao cs) := hr
      clear hr
      have hmm := run_makeMapN
      go_enter Tryz.func56, Tryz.ntmps56
      go_wp2
      clear hmm
      go_loopw [22] (fun i wr => ∃ (j : Nat) (D : DataW Unit), j ≤ cs.length ∧ i = .int .i64 j ∧ wr.ownsMap Tryz.prog 9 (plainElem Tryz.prog 2) w.heap.size j D ∧ Hid (Named D cs j) ∧ Hid (upto (colOk cs) j = true) ∧ Below w.heap.size w wr) (fun i _ => cs.length - (intOf i).toNat)
      case atStart => exact ⟨0, _, Nat.zero_le _, rfl, World.ownsMap_made _ _ _ _, named_zero cs, rfl, (Below.refl _ _).alloc (Nat.le_refl _) _⟩
      case round =>
        obtain ⟨j, D, hj, rfl, hown, HN, HU, hb⟩ := hrel
        by_cases hlt : j < cs.length
        · obtain ⟨b, off, nm, kd, nu, rfl, hbB, hv, htt, hki, d0, d1, d2⟩ := (HR.out.kept (hb.mono hB)).at j hlt
          have HX : Hid (cs.getD j noCol = ⟨nm, kd, nu⟩) := hv
          have hkey : keyOf Tryz.prog 9 (.string nm) = some (.string nm.data.toList) := keyOf_string_mk Tryz.underlying9 htt
          have hhas := HN.out.2 nm
          clear hv hki
          by_cases hsn : (cs.take j).any (fun c => decide (c.name = nm)) = true
          · rw [hsn] at hhas
            have HF : Hid (colsOk cs = false) := by show _ = _; rw [HV.out]; exact upto_false hlt (colOk_seen HX.out hsn)
            clear HX HU HV hsn HN
            go_wp2_with (first
              | (at_lookup; refine wpList_lookup_own_ok_int _ rfl _ _ 96 rfl 9 2 .i64 keyLaw Tryz.underlying96 Tryz.underlying2 (zeroI _) w.heap.size j D rfl (hown.alloc _) _ _ rfl hkey ?_; intro c hat hwc; rw [hhas])
              | go_in)
            go_ret2
            exact ⟨⟨_, by rw [HF.out]; rfl⟩, hb.alloc hb.size _⟩
          · rw [Bool.not_eq_true] at hsn
            rw [hsn] at hhas
            cases hnm : nameOk nm.data.toList with
            | false =>
              have HF : Hid (colsOk cs = false) := by show _ = _; rw [HV.out]; exact upto_false hlt (colOk_name HX.out hnm)
              have hc0 := fun w => implName_any nm w
              rw [hnm] at hc0
              have HC : Hid (∀ w, Calls Tryz.prog 57 #[.string nm] w fun e w' => e = .returned (.bool false) ∧ w' = w) := hc0
              clear HX HU HV hsn HN hnm hc0
              go_wp2_with (first
                | (at_lookup; refine wpList_lookup_own_ok_int _ rfl _ _ 96 rfl 9 2 .i64 keyLaw Tryz.underlying96 Tryz.underlying2 (zeroI _) w.heap.size j D rfl (hown.alloc _) _ _ rfl hkey ?_; intro c hat hwc; rw [hhas])
                | (go_at_call 57; refine (HC.out _).mono ?_; rintro e w1 ⟨rfl, rfl⟩)
                | go_in)
              go_ret2
              exact ⟨⟨_, by rw [HF.out]; rfl⟩, hb.alloc hb.size _⟩
            | true =>
              have hc0 := fun w => implName_any nm w
              rw [hnm] at hc0
              have HC : Hid (∀ w, Calls Tryz.prog 57 #[.string nm] w fun e w' => e = .returned (.bool true) ∧ w' = w) := hc0
              clear hc0
              by_cases hkd : kd ≤ 0 ∨ 3 < kd
              · have HF : Hid (colsOk cs = false) := by show _ = _; rw [HV.out]; exact upto_false hlt (colOk_kind HX.out hkd)
                clear HX HU HV hsn HN hnm
                rcases hkd with hkd | hkd
                all_goals
                  go_wp2_with (first
                    | (at_lookup; refine wpList_lookup_own_ok_int _ rfl _ _ 96 rfl 9 2 .i64 keyLaw Tryz.underlying96 Tryz.underlying2 (zeroI _) w.heap.size j D rfl (hown.alloc _) _ _ rfl hkey ?_; intro c hat hwc; rw [hhas])
                    | (go_at_call 57; refine (HC.out _).mono ?_; rintro e w1 ⟨rfl, rfl⟩)
                    | go_in)
                  go_ret2
                  exact ⟨⟨_, by rw [HF.out]; rfl⟩, hb.alloc hb.size _⟩
              · have hk1 : 1 ≤ kd := by omega
                have hk2 : kd ≤ 3 := by omega
                have HU2 : Hid (upto (colOk cs) (j + 1) = true) := by show _ = _; rw [upto_succ, HU.out, colOk_true HX.out hnm hk1 hk2 hsn]; rfl
                have HN2 : Hid (Named (D.put (.string nm.data.toList) (.lit (.int .i64 j))) cs (j + 1)) := named_succ HN.out hlt (by rw [HX.out]) _
                clear HX HU hsn HN hnm hkd
                go_wp2_with (first
                  | (at_lookup; refine wpList_lookup_own_ok_int _ rfl _ _ 96 rfl 9 2 .i64 keyLaw Tryz.underlying96 Tryz.underlying2 (zeroI _) w.heap.size j D rfl (hown.alloc _) _ _ rfl hkey ?_; intro c hat hwc; rw [hhas])
                  | (go_at_call 57; refine (HC.out _).mono ?_; rintro e w1 ⟨rfl, rfl⟩)
                  | (at_mapUpdate; refine wpList_mapUpdate_own _ rfl _ _ _ 96 rfl 9 2 keyLaw Tryz.underlying96 _ w.heap.size j _ rfl (hown.alloc _) (by unfold maxLen; omega) _ _ _ rfl rfl hkey _ [] (plainElem_int Tryz.underlying2 (WalkArith.wf_i64 (by omega))) ?_; intro w1 hown1 hgrow1)
                  | go_in)
                have hb2 := (hb.alloc hb.size _).grown hgrow1 (by have := hb.size; simp; omega) (fun j hj => by cases hj; exact Nat.le_refl _)
                clear hgrow1 hown hb d0 d1 d2
                go_wp2
                go_roundw
                case rel => exact ⟨j + 1, _, by omega, by go_num, hown1, HN2, HU2, hb2⟩
                case measure => simp [intOf]; omega
        · obtain rfl : j = cs.length := by omega
          have HF : Hid (colsOk cs = true) := by show _ = _; rw [HV.out]; exact HU.out
          go_wp2
          go_ret2
          exact ⟨⟨_, by rw [HF.out]; rfl⟩, hb⟩
end Go.Proofs.YtkhklfnhninkjaaGreat
