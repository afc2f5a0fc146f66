/-
  Contracts: terms and items, as the program asks of them.
-/
import Derived.Test.YteanieiphpehcaaQI2
namespace Go.Proofs.Yteanieiphpehcaa
open Go.RowKit
set_option maxRecDepth 100000

theorem term_impl (x : Trm) : termOk x = (colOk x.col && ((op6 x.op || isIs x.op) && takesB x.op ⟨x.kind, x.num, x.text⟩)) := by
  unfold termOk takesB
  cases h : isIs x.op with
  | true => simp
  | false => simp
set_option maxHeartbeats 4000000 in
theorem implWhere_any (A B : Nat) (ao : Option Addr) (cap : Nat) (l : List Trm) (m : Int) (w : World) (hB : B ≤ w.heap.size) (hl : l.length ≤ 1048576) (hsm : ∀ i, i < l.length → (l.getD i noTrm).small) (hr : TrmRow w A B ao l) (hm : MaxL m w) :
    Calls Try.prog 30 #[.slice ao l.length cap] w fun e w' => e = .returned (.bool (whereOk l)) ∧ Below w.heap.size w w' := by
  have HQ : Hid (whereOk l = (decide (l.length ≤ 20) && upto (fun i => termOk (l.getD i noTrm)) l.length)) := rfl
  generalize whereOk l = q at *
  by_cases h20 : 20 < l.length
  · have HF : Hid (q = false) := by show _ = _; rw [HQ.out, decide_eq_false (show ¬ l.length ≤ 20 by omega)]; simp
    clear HQ hr hsm
    go_enter Try.func30, Try.ntmps30
    go_wp2
    go_ret
    exact ⟨ret_bool HF.out.symm, Below.refl _ _⟩
  · have HV : Hid (q = upto (fun i => termOk (l.getD i noTrm)) l.length) := by show _ = _; rw [HQ.out, decide_eq_true (show l.length ≤ 20 by omega)]; rfl
    clear HQ
    have HR : Hid (TrmRow w A B ao l) := hr
    have HSM := hide hsm
    have HM := hide hm
    clear hr hsm hm
    go_enter Try.func30, Try.ntmps30
    go_wp2
    go_loopw [10] (fun i wr => ∃ k : Nat, k ≤ l.length ∧ i = .int .i64 k ∧ Hid (upto (fun i => termOk (l.getD i noTrm)) k = true) ∧ Below w.heap.size w wr) (fun i _ => l.length - (intOf i).toNat)
    case atStart => exact ⟨0, Nat.zero_le _, rfl, rfl, Below.refl _ _⟩
    case round =>
      obtain ⟨k, hk, rfl, HU, hb⟩ := hrel
      by_cases hlt : k < l.length
      · obtain ⟨b, off, c, o, kd, n, t, rfl, hbB, hv, hfit, d0, d1, d2, d3, d4⟩ := TrmRow.at (FRow.kept HR.out (hb.mono hB)) k hlt
        have hz := hb.size
        have HX : Hid (l.getD k noTrm = ⟨c, o, kd, n, t⟩) := hv
        have hs := HSM.out k hlt
        rw [hv] at hs
        have HC := hide (fun (W : World) (hbW : Below wr.heap.size wr W) => implCol_any c m W hs.1 ((HM.out.kept hb).kept hbW))
        have HO := hide (fun (W : World) => implOp6_any o W)
        have HT := hide (fun (W : World) => implTakes_any o ⟨kd, n, t⟩ W hfit.2.2.2.2)
        have HE : Hid (termOk (l.getD k noTrm) = (colOk c && ((op6 o || isIs o) && takesB o ⟨kd, n, t⟩))) := by show _ = _; rw [hv, term_impl]
        have HA := hide ((Below.refl wr.heap.size wr).alloc (Nat.le_refl _) (.cells #[.string c, .string o, .int .i64 kd, .int .i64 n, .string t] 52))
        clear hv hfit hs HX
        simp only at HT
        have HP := hide (upto_succ (fun i => termOk (l.getD i noTrm)) k)
        have HNF : Hid (termOk (l.getD k noTrm) = false → q = false) := fun h => by rw [HV.out]; exact upto_false hlt h
        have HNT : Hid (termOk (l.getD k noTrm) = true → upto (fun i => termOk (l.getD i noTrm)) (k + 1) = true) := fun h => by rw [HP.out, HU.out]; exact h
        clear HP HU HV HSM HM
        generalize colOk c = x1 at *
        generalize (op6 o || isIs o) = x2 at *
        generalize takesB o ⟨kd, n, t⟩ = x3 at *
        have HBX : Hid (∀ W, Below wr.heap.size wr W → Below w.heap.size w W) := fun W h => hb.trans (h.mono hz)
        cases x1 with
        | false =>
          have HF := hide (HNF.out HE.out)
          clear HNF HNT HE HO HT
          go_wp2_with (go_at_call 45; refine (HC.out _ HA.out).mono ?_; rintro e w1 ⟨rfl, hb1⟩; have B1 := hide (HA.out.trans (hb1.mono HA.out.size)); obtain ⟨hc1, hf1⟩ := bcell hb1; clear hb1)
          go_ret
          exact ⟨ret_bool HF.out.symm, HBX.out _ B1.out⟩
        | true =>
          cases x2 with
          | false =>
            have HF := hide (HNF.out HE.out)
            clear HNF HNT HE HT
            go_wp2_with (first | (go_at_call 45; refine (HC.out _ HA.out).mono ?_; rintro e w1 ⟨rfl, hb1⟩; have B1 := hide (HA.out.trans (hb1.mono HA.out.size)); obtain ⟨hc1, hf1⟩ := bcell hb1; clear hb1) | (go_at_call 46; refine (HO.out _).mono ?_; rintro e w2 ⟨rfl, rfl⟩))
            go_ret
            exact ⟨ret_bool HF.out.symm, HBX.out _ B1.out⟩
          | true =>
            cases x3 with
            | false =>
              have HF := hide (HNF.out HE.out)
              clear HNF HNT HE
              go_wp2_with (first | (go_at_call 45; refine (HC.out _ HA.out).mono ?_; rintro e w1 ⟨rfl, hb1⟩; have B1 := hide (HA.out.trans (hb1.mono HA.out.size)); obtain ⟨hc1, hf1⟩ := bcell hb1; clear hb1) | (go_at_call 46; refine (HO.out _).mono ?_; rintro e w2 ⟨rfl, rfl⟩) | (go_at_call 47; refine (HT.out _).mono ?_; rintro e w3 ⟨rfl, hb3⟩; have B3 := hide (B1.out.trans (hb3.mono B1.out.size)); clear hb3))
              go_ret
              exact ⟨ret_bool HF.out.symm, HBX.out _ B3.out⟩
            | true =>
              have HU2 := hide (HNT.out HE.out)
              clear HNF HNT HE
              go_wp2_with (first | (go_at_call 45; refine (HC.out _ HA.out).mono ?_; rintro e w1 ⟨rfl, hb1⟩; have B1 := hide (HA.out.trans (hb1.mono HA.out.size)); obtain ⟨hc1, hf1⟩ := bcell hb1; clear hb1) | (go_at_call 46; refine (HO.out _).mono ?_; rintro e w2 ⟨rfl, rfl⟩) | (go_at_call 47; refine (HT.out _).mono ?_; rintro e w3 ⟨rfl, hb3⟩; have B3 := hide (B1.out.trans (hb3.mono B1.out.size)); clear hb3))
              have BX := hide (HBX.out _ B3.out)
              clear hb hz HC HO HT d0 d1 d2 d3 d4 B1 B3 HBX
              go_roundw
              case rel => exact ⟨k + 1, by omega, by go_num, HU2, BX.out⟩
              case measure => simp [intOf]; omega
      · obtain rfl : k = l.length := by omega
        have HF : Hid (q = true) := by show _ = _; rw [HV.out]; exact HU.out
        clear HV HU
        go_wp2
        go_ret
        exact ⟨ret_bool HF.out.symm, hb⟩
set_option maxHeartbeats 4000000 in
theorem implItems_any (A B : Nat) (ao : Option Addr) (cap : Nat) (l : List Itm) (m : Int) (w : World) (hB : B ≤ w.heap.size) (hl : l.length ≤ 1048576) (hsm : ∀ i, i < l.length → (l.getD i noItm).small) (hr : ItmRow w A B ao l) (hm : MaxL m w) :
    Calls Try.prog 28 #[.slice ao l.length cap] w fun e w' => e = .returned (.bool (itemsOk l)) ∧ Below w.heap.size w w' := by
  have HQ : Hid (itemsOk l = (decide (1 ≤ l.length) && decide (l.length ≤ 10) && upto (fun i => itemOk (l.getD i noItm)) l.length)) := rfl
  generalize itemsOk l = q at *
  by_cases h1 : l.length < 1
  · have HF : Hid (q = false) := by show _ = _; rw [HQ.out, decide_eq_false (by omega)]; rfl
    clear HQ hr hsm
    go_enter Try.func28, Try.ntmps28
    go_wp2
    go_ret
    exact ⟨ret_bool HF.out.symm, Below.refl _ _⟩
  by_cases h10 : 10 < l.length
  · have HF : Hid (q = false) := by show _ = _; rw [HQ.out, decide_eq_false (show ¬ l.length ≤ 10 by omega)]; simp
    clear HQ hr hsm
    go_enter Try.func28, Try.ntmps28
    go_wp2
    go_ret
    exact ⟨ret_bool HF.out.symm, Below.refl _ _⟩
  · have HV : Hid (q = upto (fun i => itemOk (l.getD i noItm)) l.length) := by show _ = _; rw [HQ.out, decide_eq_true (show 1 ≤ l.length by omega), decide_eq_true (show l.length ≤ 10 by omega)]; rfl
    clear HQ
    have HR : Hid (ItmRow w A B ao l) := hr
    have HSM := hide hsm
    have HM := hide hm
    clear hr hsm hm
    go_enter Try.func28, Try.ntmps28
    go_wp2
    go_loopw [15] (fun i wr => ∃ k : Nat, k ≤ l.length ∧ i = .int .i64 k ∧ Hid (upto (fun i => itemOk (l.getD i noItm)) k = true) ∧ Below w.heap.size w wr) (fun i _ => l.length - (intOf i).toNat)
    case atStart => exact ⟨0, Nat.zero_le _, rfl, rfl, Below.refl _ _⟩
    case round =>
      obtain ⟨k, hk, rfl, HU, hb⟩ := hrel
      by_cases hlt : k < l.length
      · obtain ⟨b, off, ag, c, rfl, hbB, hv, hfit, d0, d1⟩ := ItmRow.at (FRow.kept HR.out (hb.mono hB)) k hlt
        have hz := hb.size
        have hs := HSM.out k hlt
        rw [hv] at hs
        have HC := hide (fun (W : World) (hbW : Below wr.heap.size wr W) => implCol_any c m W hs ((HM.out.kept hb).kept hbW))
        have HE : Hid (itemOk (l.getD k noItm) = (decide (0 ≤ ag) && decide (ag ≤ 4) && (if ag = 1 then decide (c.size = 0) else colOk c))) := by show _ = _; rw [hv]; rfl
        have HA := hide ((Below.refl wr.heap.size wr).alloc (Nat.le_refl _) (.cells #[.int .i64 ag, .string c] 75))
        clear hv hfit hs
        have HP := hide (upto_succ (fun i => itemOk (l.getD i noItm)) k)
        have HNF : Hid (itemOk (l.getD k noItm) = false → q = false) := fun h => by rw [HV.out]; exact upto_false hlt h
        have HNT : Hid (itemOk (l.getD k noItm) = true → upto (fun i => itemOk (l.getD i noItm)) (k + 1) = true) := fun h => by rw [HP.out, HU.out]; exact h
        clear HP HU HV HSM HM
        generalize colOk c = x1 at *
        have HBX : Hid (∀ W, Below wr.heap.size wr W → Below w.heap.size w W) := fun W h => hb.trans (h.mono hz)
        by_cases g0 : ag < 0
        · have HF := hide (HNF.out (by rw [HE.out, decide_eq_false (by omega)]; rfl))
          clear HNF HNT HE HC
          go_wp2
          go_ret
          exact ⟨ret_bool HF.out.symm, HBX.out _ HA.out⟩
        by_cases g4 : 4 < ag
        · have HF := hide (HNF.out (by rw [HE.out, decide_eq_false (show ¬ ag ≤ 4 by omega)]; simp))
          clear HNF HNT HE HC
          go_wp2
          go_ret
          exact ⟨ret_bool HF.out.symm, HBX.out _ HA.out⟩
        have HE2 : Hid (itemOk (l.getD k noItm) = if ag = 1 then decide (c.size = 0) else x1) := by show _ = _; rw [HE.out, decide_eq_true (by omega), decide_eq_true (show ag ≤ 4 by omega)]; rfl
        clear HE
        by_cases g1 : ag = 1
        · subst g1
          by_cases gc : c.size = 0
          · obtain rfl := ba_empty gc
            have HU2 := hide (HNT.out (by rw [HE2.out]; rfl))
            clear HNF HNT HE2 HC
            go_wp2
            have BX := hide (HBX.out _ HA.out)
            clear hb hz d0 d1 HBX
            go_roundw
            case rel => exact ⟨k + 1, by omega, by go_num, HU2, BX.out⟩
            case measure => simp [intOf]; omega
          · have HF := hide (HNF.out (by rw [HE2.out, if_pos rfl, decide_eq_false gc]))
            have hne : c.toList.isEmpty = false := by rw [tl_empty, decide_eq_false gc]
            clear HNF HNT HE2 HC
            go_wp2
            go_ret
            exact ⟨ret_bool HF.out.symm, HBX.out _ HA.out⟩
        · have hkb : (ag != 1) = true := by simp; exact g1
          cases x1 with
          | false =>
            have HF := hide (HNF.out (by rw [HE2.out, if_neg g1]))
            clear HNF HNT HE2
            go_wp2_with (go_at_call 45; refine (HC.out _ HA.out).mono ?_; rintro e w1 ⟨rfl, hb1⟩; have B1 := hide (HA.out.trans (hb1.mono HA.out.size)); obtain ⟨hc1, hf1⟩ := bcell hb1; clear hb1)
            go_ret
            exact ⟨ret_bool HF.out.symm, HBX.out _ B1.out⟩
          | true =>
            have HU2 := hide (HNT.out (by rw [HE2.out, if_neg g1]))
            clear HNF HNT HE2
            go_wp2_with (go_at_call 45; refine (HC.out _ HA.out).mono ?_; rintro e w1 ⟨rfl, hb1⟩; have B1 := hide (HA.out.trans (hb1.mono HA.out.size)); obtain ⟨hc1, hf1⟩ := bcell hb1; clear hb1)
            have BX := hide (HBX.out _ B1.out)
            clear hb hz HC d0 d1 B1 HBX
            go_roundw
            case rel => exact ⟨k + 1, by omega, by go_num, HU2, BX.out⟩
            case measure => simp [intOf]; omega
      · obtain rfl : k = l.length := by omega
        have HF : Hid (q = true) := by show _ = _; rw [HV.out]; exact HU.out
        clear HV HU
        go_wp2
        go_ret
        exact ⟨ret_bool HF.out.symm, hb⟩
end Go.Proofs.Yteanieiphpehcaa
