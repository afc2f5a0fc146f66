/-
  Contracts: Compare of the specification.
-/
import Derived.Test.YtkkggbbpaflieaaGreatDoorCmp2
namespace Go.Proofs.YtkkggbbpaflieaaGreatDoor
open Go.RowKit

theorem drop_at {α : Type} (l : List α) (k : Nat) (h : k < l.length) : l.drop k = l[k] :: l.drop (k + 1) := List.drop_eq_getElem_cons h
theorem cmpL_step (vs ws : List Val) (k : Nat) (h : k < vs.length) (h' : k < ws.length) (hc : cmpV vs[k] ws[k] = 0) : cmpL (vs.drop k) (ws.drop k) = cmpL (vs.drop (k + 1)) (ws.drop (k + 1)) := by
  rw [drop_at vs k h, drop_at ws k h', cmpL, if_pos hc]
theorem cmpL_stop (vs ws : List Val) (k : Nat) (h : k < vs.length) (h' : k < ws.length) (hc : ¬ cmpV vs[k] ws[k] = 0) : cmpL (vs.drop k) (ws.drop k) = cmpV vs[k] ws[k] := by
  rw [drop_at vs k h, drop_at ws k h', cmpL, if_neg hc]
theorem cmpL_end (vs ws : List Val) (k : Nat) (h : k ≤ vs.length) (h' : k ≤ ws.length) (he : k = vs.length ∨ k = ws.length) : cmpL (vs.drop k) (ws.drop k) = cmpI vs.length ws.length := by
  unfold cmpI
  by_cases hv : k < vs.length
  · have e : ws.drop k = [] := List.drop_eq_nil_of_le (by omega)
    rw [drop_at vs k hv, e, if_neg (by omega), if_pos (by omega)]; rfl
  · have e : vs.drop k = [] := List.drop_eq_nil_of_le (by omega)
    rw [e]
    by_cases hw : k < ws.length
    · rw [drop_at ws k hw, if_pos (by omega)]; rfl
    · have e2 : ws.drop k = [] := List.drop_eq_nil_of_le (by omega)
      rw [e2, if_neg (by omega), if_neg (by omega)]; rfl
set_option maxHeartbeats 4000000 in
theorem l02Compare_any (ao : Option Addr) (cap : Nat) (vs : List Val) (bo : Option Addr) (cp : Nat) (ws : List Val) (w : World) (hl : vs.length ≤ 400) (_hm : ws.length ≤ 400) (ha : ValRow w w.heap.size ao vs) (hb : ValRow w w.heap.size bo ws) :
    Calls Tryz.prog 25 #[.slice ao vs.length cap, .slice bo ws.length cp] w fun e w' => e = .returned (.int .i64 (cmpL vs ws)) ∧ Below w.heap.size w w' := by
  have HA : Hid (ValRow w w.heap.size ao vs) := ha
  have HB : Hid (ValRow w w.heap.size bo ws) := hb
  clear ha hb
  go_enter Tryz.func25, Tryz.ntmps25
  go_wp2
  go_loopw [5] (fun i wr => ∃ k : Nat, k ≤ vs.length ∧ k ≤ ws.length ∧ i = .int .i64 k ∧ Hid (cmpL vs ws = cmpL (vs.drop k) (ws.drop k)) ∧ Below w.heap.size w wr) (fun i _ => vs.length - (intOf i).toNat)
  case atStart => exact ⟨0, Nat.zero_le _, Nat.zero_le _, rfl, rfl, Below.refl _ _⟩
  case round =>
    obtain ⟨k, hk, hk', rfl, HC, hbw⟩ := hrel
    by_cases hlt : k < vs.length ∧ k < ws.length
    · obtain ⟨h1, h2⟩ := hlt
      obtain ⟨b, off, kk, nn, tt, rfl, hbB, hv, htt, d0, d1, d2⟩ := (HA.out.kept hbw).at k h1
      obtain ⟨b', off', kk', nn', tt', rfl, hbB', hv', htt', e0, e1, e2⟩ := (HB.out.kept hbw).at k h2
      have hz := hbw.size
      have hi0 : (0 : Int) ≤ (k : Int) := by omega
      have hi1 : (k : Int) < (vs.length : Int) := by omega
      have hi2 : (k : Int) < (ws.length : Int) := by omega
      have hq1 : b < wr.heap.size := by omega
      have hq2 : b' < wr.heap.size := by omega
      have hc := fun w => l02One_any kk nn kk' nn' tt tt' w
      by_cases hz0 : cmpV ⟨kk, nn, tt⟩ ⟨kk', nn', tt'⟩ = 0
      · have HC2 : Hid (cmpL vs ws = cmpL (vs.drop (k + 1)) (ws.drop (k + 1))) := by show _ = _; rw [HC.out, cmpL_step vs ws k h1 h2 (by rw [hv, hv']; exact hz0)]
        rw [hz0] at hc
        clear hz0 HC hv hv' htt htt'
        go_wp2
        go_region_held3 (fun W => W.cell? ⟨b, off + k * 3, none⟩ = some (.int .i64 kk) ∧ W.cell? ⟨b, off + k * 3 + 1, none⟩ = some (.int .i64 nn) ∧ W.cell? ⟨b, off + k * 3 + 2, none⟩ = some (.string tt) ∧ W.cell? ⟨b', off' + k * 3, none⟩ = some (.int .i64 kk') ∧ W.cell? ⟨b', off' + k * 3 + 1, none⟩ = some (.int .i64 nn') ∧ W.cell? ⟨b', off' + k * 3 + 2, none⟩ = some (.string tt')) (go_keep) (first | (go_at_call 42; refine (hc _).mono ?_; rintro e w1 ⟨rfl, hb1⟩; have hb1' : Below wr.heap.size wr w1 := (Below.refl _ _).drew.trans hb1; obtain ⟨hc1, hf1⟩ := bcell hb1'))
        all_goals
          have hb2 := hbw.trans (hb1'.mono hz)
          clear d0 d1 d2 e0 e1 e2 hb1 hb1' hbw hc1 hf1 hc
          go_wp2
          go_roundw
          case rel => exact ⟨k + 1, by omega, by omega, by go_num, HC2, hb2⟩
          case measure => simp [intOf]; omega
      · have HC2 : Hid (cmpL vs ws = cmpV ⟨kk, nn, tt⟩ ⟨kk', nn', tt'⟩) := by show _ = _; rw [HC.out, cmpL_stop vs ws k h1 h2 (by rw [hv, hv']; exact hz0), hv, hv']
        generalize cmpV ⟨kk, nn, tt⟩ ⟨kk', nn', tt'⟩ = r at hc hz0 HC2
        clear HC hv hv' htt htt'
        go_wp2
        go_region_held3 (fun W => W.cell? ⟨b, off + k * 3, none⟩ = some (.int .i64 kk) ∧ W.cell? ⟨b, off + k * 3 + 1, none⟩ = some (.int .i64 nn) ∧ W.cell? ⟨b, off + k * 3 + 2, none⟩ = some (.string tt) ∧ W.cell? ⟨b', off' + k * 3, none⟩ = some (.int .i64 kk') ∧ W.cell? ⟨b', off' + k * 3 + 1, none⟩ = some (.int .i64 nn') ∧ W.cell? ⟨b', off' + k * 3 + 2, none⟩ = some (.string tt')) (go_keep) (first | (go_at_call 42; refine (hc _).mono ?_; rintro e w1 ⟨rfl, hb1⟩; have hb1' : Below wr.heap.size wr w1 := (Below.refl _ _).drew.trans hb1; obtain ⟨hc1, hf1⟩ := bcell hb1'))
        all_goals
          have hb2 := hbw.trans (hb1'.mono hz)
          clear d0 d1 d2 e0 e1 e2 hb1 hb1' hbw hc1 hf1 hc
          go_wp2
          go_ret
          exact ⟨ret_int (by rw [HC2.out]), hb2⟩
    · have HE : Hid (cmpL vs ws = cmpI vs.length ws.length) := by show _ = _; rw [HC.out, cmpL_end vs ws k hk hk' (by omega)]
      have hcon : (decide ((k : Int) < vs.length) && decide ((k : Int) < ws.length)) = false := by
        rw [Bool.and_eq_false_iff]
        by_cases h : k < vs.length
        · right; simp; omega
        · left; simp; omega
      clear HC
      by_cases hL : (vs.length : Int) < ws.length
      · have HF : Hid (cmpL vs ws = -1) := by show _ = _; rw [HE.out]; exact if_pos hL
        go_wp2
        all_goals
          go_ret
          exact ⟨ret_int (by rw [HF.out]), hbw⟩
      by_cases hG : (ws.length : Int) < vs.length
      · have HF : Hid (cmpL vs ws = 1) := by show _ = _; rw [HE.out]; unfold cmpI; rw [if_neg hL, if_pos hG]
        go_wp2
        all_goals
          go_ret
          exact ⟨ret_int (by rw [HF.out]), hbw⟩
      · have HF : Hid (cmpL vs ws = 0) := by show _ = _; rw [HE.out]; unfold cmpI; rw [if_neg hL, if_neg hG]
        go_wp2
        all_goals
          go_ret
          exact ⟨ret_int (by rw [HF.out]), hbw⟩
end Go.Proofs.YtkkggbbpaflieaaGreatDoor
