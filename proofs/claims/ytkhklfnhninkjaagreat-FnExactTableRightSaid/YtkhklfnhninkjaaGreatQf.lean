/-
  Contracts and plain laws: CmpO, Cmp3, TbSK, TbSC
-/
import Derived.Test.YtkhklfnhninkjaaGreatRows
import Derived.Test.YtkhklfnhninkjaaGreatQc
import Derived.WalkKit
import Derived.Deep.RegionHeld3
import Derived.OwnWalk
import Derived.Test.YtkhklfnhninkjaaGreatQa
import Derived.BigQuiet
import Derived.Deep.CutRange

/-
  Contract: two values held against each other by the specification.
-/
namespace Go.Proofs.YtkhklfnhninkjaaGreat
open Go.RowKit

set_option maxHeartbeats 2000000 in
theorem l02One_any (k n k' n' : Int) (t t' : ByteArray) (w : World) :
    Calls Tryz.prog 28 #[.agg #[.int .i64 k, .int .i64 n, .string t], .agg #[.int .i64 k', .int .i64 n', .string t']] w fun e w' => e = .returned (.int .i64 (cmpV ⟨k, n, t⟩ ⟨k', n', t'⟩)) ∧ Below w.heap.size w w' := by
  by_cases h1 : k < k'
  · have HC : Hid (cmpV ⟨k, n, t⟩ ⟨k', n', t'⟩ = -1) := if_pos h1
    go_enter Tryz.func28, Tryz.ntmps28
    go_wp2
    go_ret
    exact ⟨ret_int (by rw [HC.out]), ((Below.refl _ _).alloc (Nat.le_refl _) _).alloc (by simp) _⟩
  by_cases h2 : k' < k
  · have HC : Hid (cmpV ⟨k, n, t⟩ ⟨k', n', t'⟩ = 1) := by show _ = _; unfold cmpV; rw [if_neg h1, if_pos h2]
    have hne : ¬ k = k' := by omega
    go_enter Tryz.func28, Tryz.ntmps28
    go_wp2
    go_ret
    exact ⟨ret_int (by rw [HC.out]), ((Below.refl _ _).alloc (Nat.le_refl _) _).alloc (by simp) _⟩
  obtain rfl : k = k' := by omega
  by_cases h3 : n < n'
  · have HC : Hid (cmpV ⟨k, n, t⟩ ⟨k, n', t'⟩ = -1) := by show _ = _; unfold cmpV; rw [if_neg h1, if_neg h2, if_pos h3]
    go_enter Tryz.func28, Tryz.ntmps28
    go_wp2
    go_ret
    exact ⟨ret_int (by rw [HC.out]), ((Below.refl _ _).alloc (Nat.le_refl _) _).alloc (by simp) _⟩
  by_cases h4 : n' < n
  · have HC : Hid (cmpV ⟨k, n, t⟩ ⟨k, n', t'⟩ = 1) := by show _ = _; unfold cmpV; rw [if_neg h1, if_neg h2, if_neg h3, if_pos h4]
    have hne : ¬ n = n' := by omega
    go_enter Tryz.func28, Tryz.ntmps28
    go_wp2
    go_ret
    exact ⟨ret_int (by rw [HC.out]), ((Below.refl _ _).alloc (Nat.le_refl _) _).alloc (by simp) _⟩
  obtain rfl : n = n' := by omega
  have HV : Hid (cmpV ⟨k, n, t⟩ ⟨k, n, t'⟩ = cmpB t.data.toList t'.data.toList) := by show _ = _; unfold cmpV; rw [if_neg h1, if_neg h2, if_neg h3, if_neg h4]
  have hl := less_iff t t'
  have he := eq_iff t t'
  rcases cmpB_three t.data.toList t'.data.toList with h | h | h
  · have HC : Hid (cmpV ⟨k, n, t⟩ ⟨k, n, t'⟩ = 0) := by show _ = _; rw [HV.out, h]
    rw [h, decide_eq_false (by omega)] at hl
    obtain rfl := ba_ext (cmpB_zero _ _ h)
    clear h he
    go_enter Tryz.func28, Tryz.ntmps28
    go_wp2
    go_ret
    exact ⟨ret_int (by rw [HC.out]), ((Below.refl _ _).alloc (Nat.le_refl _) _).alloc (by simp) _⟩
  · have HC : Hid (cmpV ⟨k, n, t⟩ ⟨k, n, t'⟩ = -1) := by show _ = _; rw [HV.out, h]
    rw [h, decide_eq_true rfl] at hl
    clear h he
    go_enter Tryz.func28, Tryz.ntmps28
    go_wp2
    go_ret
    exact ⟨ret_int (by rw [HC.out]), ((Below.refl _ _).alloc (Nat.le_refl _) _).alloc (by simp) _⟩
  · have HC : Hid (cmpV ⟨k, n, t⟩ ⟨k, n, t'⟩ = 1) := by show _ = _; rw [HV.out, h]
    rw [h, decide_eq_false (by omega)] at hl
    rw [h, decide_eq_false (by omega)] at he
    have he' : ¬ t.toList = t'.toList := by simpa using he
    clear h he
    go_enter Tryz.func28, Tryz.ntmps28
    go_wp2
    go_ret
    exact ⟨ret_int (by rw [HC.out]), ((Below.refl _ _).alloc (Nat.le_refl _) _).alloc (by simp) _⟩
end Go.Proofs.YtkhklfnhninkjaaGreat

/-
  Contracts: Compare of the specification.
-/
namespace Go.Proofs.YtkhklfnhninkjaaGreat
open Go.RowKit

theorem drop_at {α : Type} (l : List α) (k : Nat) (h : k < l.length) : l.drop k = l[k] :: l.drop (k + 1) := List.drop_eq_getElem_cons h
theorem cmpL_step (vs ws : List Val) (k : Nat) (h : k < vs.length) (h' : k < ws.length) (hc : cmpV vs[k] ws[k] = 0) : cmpL (vs.drop k) (ws.drop k) = cmpL (vs.drop (k + 1)) (ws.drop (k + 1)) := by
  rw [drop_at vs k h, drop_at ws k h', cmpL, if_pos hc]
theorem cmpL_stop (vs ws : List Val) (k : Nat) (h : k < vs.length) (h' : k < ws.length) (hc : ¬ cmpV vs[k] ws[k] = 0) : cmpL (vs.drop k) (ws.drop k) = cmpV vs[k] ws[k] := by
  rw [drop_at vs k h, drop_at ws k h', cmpL, if_neg hc]
theorem cmpL_end (vs ws : List Val) (k : Nat) (h : k ≤ vs.length) (h' : k ≤ ws.length) (he : k = vs.length ∨ k = ws.length) : cmpL (vs.drop k) (ws.drop k) = cmpI vs.length ws.length := by
  unfold cmpI
  by_cases hv : k < vs.length
  · have e : ws.drop k = [] := List.drop_eq_nil_of_le (by omega)
    rw [drop_at vs k hv, e, if_neg (by omega), if_pos (by omega)]; rfl
  · have e : vs.drop k = [] := List.drop_eq_nil_of_le (by omega)
    rw [e]
    by_cases hw : k < ws.length
    · rw [drop_at ws k hw, if_pos (by omega)]; rfl
    · have e2 : ws.drop k = [] := List.drop_eq_nil_of_le (by omega)
      rw [e2, if_neg (by omega), if_neg (by omega)]; rfl
set_option maxHeartbeats 4000000 in
theorem l02Compare_any (ao : Option Addr) (cap : Nat) (vs : List Val) (bo : Option Addr) (cp : Nat) (ws : List Val) (w : World) (hl : vs.length ≤ 400) (_hm : ws.length ≤ 400) (ha : ValRow w w.heap.size ao vs) (hb : ValRow w w.heap.size bo ws) :
    Calls Tryz.prog 13 #[.slice ao vs.length cap, .slice bo ws.length cp] w fun e w' => e = .returned (.int .i64 (cmpL vs ws)) ∧ Below w.heap.size w w' := by
  have HA : Hid (ValRow w w.heap.size ao vs) := ha
  have HB : Hid (ValRow w w.heap.size bo ws) := hb
  clear ha hb
  go_enter Tryz.func13, Tryz.ntmps13
  go_wp2
  go_loopw [5] (fun i wr => ∃ k : Nat, k ≤ vs.length ∧ k ≤ ws.length ∧ i = .int .i64 k ∧ Hid (cmpL vs ws = cmpL (vs.drop k) (ws.drop k)) ∧ Below w.heap.size w wr) (fun i _ => vs.length - (intOf i).toNat)
  case atStart => exact ⟨0, Nat.zero_le _, Nat.zero_le _, rfl, rfl, Below.refl _ _⟩
  case round =>
    obtain ⟨k, hk, hk', rfl, HC, hbw⟩ := hrel
    by_cases hlt : k < vs.length ∧ k < ws.length
    · obtain ⟨h1, h2⟩ := hlt
      obtain ⟨b, off, kk, nn, tt, rfl, hbB, hv, htt, d0, d1, d2⟩ := (HA.out.kept hbw).at k h1
      obtain ⟨b', off', kk', nn', tt', rfl, hbB', hv', htt', e0, e1, e2⟩ := (HB.out.kept hbw).at k h2
      have hz := hbw.size
      have hi0 : (0 : Int) ≤ (k : Int) := by omega
      have hi1 : (k : Int) < (vs.length : Int) := by omega
      have hi2 : (k : Int) < (ws.length : Int) := by omega
      have hq1 : b < wr.heap.size := by omega
      have hq2 : b' < wr.heap.size := by omega
      have hc := fun w => l02One_any kk nn kk' nn' tt tt' w
      by_cases hz0 : cmpV ⟨kk, nn, tt⟩ ⟨kk', nn', tt'⟩ = 0
      · have HC2 : Hid (cmpL vs ws = cmpL (vs.drop (k + 1)) (ws.drop (k + 1))) := by show _ = _; rw [HC.out, cmpL_step vs ws k h1 h2 (by rw [hv, hv']; exact hz0)]
        rw [hz0] at hc
        clear hz0 HC hv hv' htt htt'
        go_wp2
        go_region_held3 (fun W => W.cell? ⟨b, off + k * 3, none⟩ = some (.int .i64 kk) ∧ W.cell? ⟨b, off + k * 3 + 1, none⟩ = some (.int .i64 nn) ∧ W.cell? ⟨b, off + k * 3 + 2, none⟩ = some (.string tt) ∧ W.cell? ⟨b', off' + k * 3, none⟩ = some (.int .i64 kk') ∧ W.cell? ⟨b', off' + k * 3 + 1, none⟩ = some (.int .i64 nn') ∧ W.cell? ⟨b', off' + k * 3 + 2, none⟩ = some (.string tt')) (go_keep) (first | (go_at_call 28; refine (hc _).mono ?_; rintro e w1 ⟨rfl, hb1⟩; have hb1' : Below wr.heap.size wr w1 := (Below.refl _ _).drew.trans hb1; obtain ⟨hc1, hf1⟩ := bcell hb1'))
        all_goals
          have hb2 := hbw.trans (hb1'.mono hz)
          clear d0 d1 d2 e0 e1 e2 hb1 hb1' hbw hc1 hf1 hc
          go_wp2
          go_roundw
          case rel => exact ⟨k + 1, by omega, by omega, by go_num, HC2, hb2⟩
          case measure => simp [intOf]; omega
      · have HC2 : Hid (cmpL vs ws = cmpV ⟨kk, nn, tt⟩ ⟨kk', nn', tt'⟩) := by show _ = _; rw [HC.out, cmpL_stop vs ws k h1 h2 (by rw [hv, hv']; exact hz0), hv, hv']
        generalize cmpV ⟨kk, nn, tt⟩ ⟨kk', nn', tt'⟩ = r at hc hz0 HC2
        clear HC hv hv' htt htt'
        go_wp2
        go_region_held3 (fun W => W.cell? ⟨b, off + k * 3, none⟩ = some (.int .i64 kk) ∧ W.cell? ⟨b, off + k * 3 + 1, none⟩ = some (.int .i64 nn) ∧ W.cell? ⟨b, off + k * 3 + 2, none⟩ = some (.string tt) ∧ W.cell? ⟨b', off' + k * 3, none⟩ = some (.int .i64 kk') ∧ W.cell? ⟨b', off' + k * 3 + 1, none⟩ = some (.int .i64 nn') ∧ W.cell? ⟨b', off' + k * 3 + 2, none⟩ = some (.string tt')) (go_keep) (first | (go_at_call 28; refine (hc _).mono ?_; rintro e w1 ⟨rfl, hb1⟩; have hb1' : Below wr.heap.size wr w1 := (Below.refl _ _).drew.trans hb1; obtain ⟨hc1, hf1⟩ := bcell hb1'))
        all_goals
          have hb2 := hbw.trans (hb1'.mono hz)
          clear d0 d1 d2 e0 e1 e2 hb1 hb1' hbw hc1 hf1 hc
          go_wp2
          go_ret
          exact ⟨ret_int (by rw [HC2.out]), hb2⟩
    · have HE : Hid (cmpL vs ws = cmpI vs.length ws.length) := by show _ = _; rw [HC.out, cmpL_end vs ws k hk hk' (by omega)]
      have hcon : (decide ((k : Int) < vs.length) && decide ((k : Int) < ws.length)) = false := by
        rw [Bool.and_eq_false_iff]
        by_cases h : k < vs.length
        · right; simp; omega
        · left; simp; omega
      clear HC
      by_cases hL : (vs.length : Int) < ws.length
      · have HF : Hid (cmpL vs ws = -1) := by show _ = _; rw [HE.out]; exact if_pos hL
        go_wp2
        all_goals
          go_ret
          exact ⟨ret_int (by rw [HF.out]), hbw⟩
      by_cases hG : (ws.length : Int) < vs.length
      · have HF : Hid (cmpL vs ws = 1) := by show _ = _; rw [HE.out]; unfold cmpI; rw [if_neg hL, if_pos hG]
        go_wp2
        all_goals
          go_ret
          exact ⟨ret_int (by rw [HF.out]), hbw⟩
      · have HF : Hid (cmpL vs ws = 0) := by show _ = _; rw [HE.out]; unfold cmpI; rw [if_neg hL, if_neg hG]
        go_wp2
        all_goals
          go_ret
          exact ⟨ret_int (by rw [HF.out]), hbw⟩
end Go.Proofs.YtkhklfnhninkjaaGreat

/-
  Contracts: a row's key, and clashes, of the specification.
-/
namespace Go.Proofs.YtkhklfnhninkjaaGreat
open Go.RowKit
set_option maxRecDepth 100000

theorem cells4b {w : World} {g : Nat} {a b c d : Value} {t : TypeId} (h : w.heap[g]? = some (.cells #[a, b, c, d] t (0, 0))) : w.cell? ⟨g, 0, none⟩ = some a ∧ w.cell? ⟨g, 1, none⟩ = some b ∧ w.cell? ⟨g, 2, none⟩ = some c ∧ w.cell? ⟨g, 3, none⟩ = some d := ⟨(cells4 h).1, (cells4 h).2.1, (cells4 h).2.2.1, (cells4 h).2.2.2.1⟩
set_option maxHeartbeats 2000000 in
theorem specKey_any (A B B' : Nat) (ao : Option Addr) (c1 : Nat) (ko : Option Addr) (c2 : Nat) (xo : Option Addr) (c3 : Nat) (vo : Option Addr) (c4 : Nat) (s : Sch) (vs : List Val) (w : World) (hB : B ≤ w.heap.size) (hB' : B' ≤ w.heap.size) (hs : schRight s = true) (hv : rowOk s.cols vs = true) (hr : SchRow w A B ao ko xo c2 s) (hvr : ValRow w B' vo vs) :
    Calls Tryz.prog 14 #[.agg #[.string s.name, .slice ao s.cols.length c1, .slice ko s.key.length c2, .slice xo s.idx.length c3], .slice vo vs.length c4] w fun e w' => ∃ v, e = .returned v ∧ OwnV w.heap.size v (keyL' s vs) w' ∧ Below w.heap.size w w' := by
  have h1 := schRight_len hs
  have h3 := isCols_len (right_key hs)
  have HP := hide (fun (W : World) (hb : Below w.heap.size w W) => specPick0_any A B B' vo c4 ko c2 vs s.key W (Nat.le_trans hB hb.size) (Nat.le_trans hB' hb.size) (by omega) (cols_in (right_key hs) (row_len hv)) (hr.2.2.1.kept (hb.mono hB)) (hvr.kept (hb.mono hB')))
  have HQ : Hid (keyL' s vs = pickL vs s.key s.key.length) := rfl
  clear hr hvr hv hs h1 h3
  generalize keyL' s vs = kl at *
  generalize pickL vs s.key s.key.length = pl at *
  generalize s.name = nm at *
  generalize s.cols.length = n1 at *
  generalize s.key.length = n2 at *
  generalize s.idx.length = n3 at *
  generalize vs.length = n4 at *
  have B0 := hide ((Below.refl w.heap.size w).alloc (Nat.le_refl _) (.cells #[.string nm, .slice ao n1 c1, .slice ko n2 c2, .slice xo n3 c3] 35))
  go_enter Tryz.func14, Tryz.ntmps14
  go_wp2_with fail
  refine (HP.out _ B0.out).mono ?_
  rintro e w1 ⟨v, rfl, ho, hb1⟩
  have HO := hide (show OwnV w.heap.size v kl w1 by rw [HQ.out]; exact owns_base ho B0.out.size)
  have B1 := hide (B0.out.trans (hb1.mono B0.out.size))
  clear hb1 ho B0 HP
  go_wp2
  go_ret
  exact ⟨v, rfl, HO.out, B1.out⟩
end Go.Proofs.YtkhklfnhninkjaaGreat

/-
  Contract: clashes, of the specification.
-/
namespace Go.Proofs.YtkhklfnhninkjaaGreat
open Go.RowKit
set_option maxRecDepth 100000

theorem blkCs {W : World} {g : Nat} {o : Obj} (h : W.heap[g]? = some o) : g < W.heap.size := (Array.getElem?_eq_some_iff.1 h).1
def nzAt (p : List Val) (i : Nat) : Bool := decide ((p.getD i noVal).kind ≠ 0)
theorem specPickRow (A B B' : Nat) (vo : Option Addr) (c4 : Nat) (no : Option Addr) (c5 : Nat) (vs : List Val) (ns : List Int) (w : World) (hB : B ≤ w.heap.size) (hB' : B' ≤ w.heap.size) (hnl : ns.length ≤ 10) (hin : upto (inAt vs ns) ns.length = true) (hn : IntRow w A B no ns) (hv : ValRow w B' vo vs) :
    Calls Tryz.prog 29 #[.slice vo vs.length c4, .slice no ns.length c5] w fun e w' => ∃ po pc, e = .returned (.slice po (pickL vs ns ns.length).length pc) ∧ ValRow w' w'.heap.size po (pickL vs ns ns.length) ∧ Below w.heap.size w w' := by
  refine (specPick0_any A B B' vo c4 no c5 vs ns w hB hB' hnl hin hn hv).mono ?_
  rintro e w' ⟨v, rfl, ho, hb⟩
  obtain ⟨po, pc, rfl, hpr⟩ := valRow_own ho (fun x hx => hv.1 x (pick_mem hin (Nat.le_refl _) x hx)) (fun x hx => hv.2.1 x (pick_mem hin (Nat.le_refl _) x hx))
  exact ⟨po, pc, rfl, hpr, hb⟩
set_option maxHeartbeats 4000000 in
theorem specClash_any (A B Ba Bb : Nat) (ao : Option Addr) (c1 : Nat) (ko : Option Addr) (c2 : Nat) (xo : Option Addr) (c3 : Nat) (s : Sch) (va : Option Addr) (c4 : Nat) (a : List Val) (vb : Option Addr) (c5 : Nat) (b : List Val) (w : World) (hB : B ≤ w.heap.size) (ha : Ba ≤ w.heap.size) (hb : Bb ≤ w.heap.size) (hs : schRight s = true) (hla : rowOk s.cols a = true) (hlb : rowOk s.cols b = true) (hr : SchRow w A B ao ko xo c2 s) (hra : ValRow w Ba va a) (hrb : ValRow w Bb vb b) :
    Calls Tryz.prog 15 #[.agg #[.string s.name, .slice ao s.cols.length c1, .slice ko s.key.length c2, .slice xo s.idx.length c3], .slice va a.length c4, .slice vb b.length c5] w fun e w' => e = .returned (.bool (clashB s a b)) ∧ Below w.heap.size w w' := by
  have HQ : Hid (clashB s a b = !upto (fun i => !clashAt s a b i) s.idx.length) := rfl
  obtain ⟨hx4, hxi⟩ := right_idx hs
  have h10 := schRight_len hs
  have HR : Hid (IdxRow w A B xo s.idx) := hr.2.2.2
  obtain ⟨PA, PB, HPA, HPB, HCA, HLP⟩ : ∃ PA PB : Nat → List Val,
      Hid (∀ (W : World) (io : Option Addr) (cp : Nat) (k : Nat), k < s.idx.length → Below w.heap.size w W → IntRow W A B io (s.idx.getD k noIdx).cols → Calls Tryz.prog 29 #[.slice va a.length c4, .slice io (s.idx.getD k noIdx).cols.length cp] W fun e w' => ∃ po pc, e = .returned (.slice po (PA k).length pc) ∧ ValRow w' w'.heap.size po (PA k) ∧ Below W.heap.size W w') ∧
      Hid (∀ (W : World) (io : Option Addr) (cp : Nat) (k : Nat), k < s.idx.length → Below w.heap.size w W → IntRow W A B io (s.idx.getD k noIdx).cols → Calls Tryz.prog 29 #[.slice vb b.length c5, .slice io (s.idx.getD k noIdx).cols.length cp] W fun e w' => ∃ po pc, e = .returned (.slice po (PB k).length pc) ∧ ValRow w' w'.heap.size po (PB k) ∧ Below W.heap.size W w') ∧
      Hid (∀ k, clashAt s a b k = ((s.idx.getD k noIdx).uniq && (upto (nzAt (PA k)) (PA k).length && decide (cmpL (PA k) (PB k) = 0)))) ∧
      Hid (∀ k, k < s.idx.length → (PA k).length ≤ 10 ∧ (PB k).length ≤ 10) := by
    refine ⟨fun k => pickL a (s.idx.getD k noIdx).cols (s.idx.getD k noIdx).cols.length, fun k => pickL b (s.idx.getD k noIdx).cols (s.idx.getD k noIdx).cols.length, fun W io cp k hk hW hio => ?_, fun W io cp k hk hW hio => ?_, fun k => ?_, fun k hk => ?_⟩
    · exact specPickRow A B Ba va c4 io cp a _ W (Nat.le_trans hB hW.size) (Nat.le_trans ha hW.size) (by have := isCols_len (hxi k hk); omega) (cols_in (hxi k hk) (row_len hla)) hio (hra.kept (hW.mono ha))
    · exact specPickRow A B Bb vb c5 io cp b _ W (Nat.le_trans hB hW.size) (Nat.le_trans hb hW.size) (by have := isCols_len (hxi k hk); omega) (cols_in (hxi k hk) (row_len hlb)) hio (hrb.kept (hW.mono hb))
    · rw [pickL_len a _ _ (Nat.le_refl _)]
      unfold clashAt
      rw [same_eq]
      rfl
    · rw [pickL_len a _ _ (Nat.le_refl _), pickL_len b _ _ (Nat.le_refl _)]
      have := isCols_len (hxi k hk)
      omega
  clear hr hra hrb hs hla hlb hxi h10
  generalize clashB s a b = q at *
  generalize clashAt s a b = CA at *
  generalize s.idx = xs at *
  generalize s.name = nm at *
  generalize s.cols.length = n1 at *
  generalize s.key.length = n2 at *
  generalize a.length = na at *
  generalize b.length = nb at *
  have B0 := hide ((Below.refl w.heap.size w).alloc (Nat.le_refl _) (.cells #[.string nm, .slice ao n1 c1, .slice ko n2 c2, .slice xo xs.length c3] 35))
  have X0 := hide (heap_alloc_new w (.cells #[.string nm, .slice ao n1 c1, .slice ko n2 c2, .slice xo xs.length c3] 35))
  have Z0 : Hid (w.heap.size < (w.alloc (.cells #[.string nm, .slice ao n1 c1, .slice ko n2 c2, .slice xo xs.length c3] 35)).heap.size) := by show _ < _; simp
  go_enter Tryz.func15, Tryz.ntmps15
  go_upto_region 1 with fail
  generalize w.alloc (.cells #[.string nm, .slice ao n1 c1, .slice ko n2 c2, .slice xo xs.length c3] 35) = W0 at *
  obtain ⟨z0, z1, z2, z3⟩ := cells4b X0.out
  go_wp2
  go_loopw [7] (fun i wr => ∃ k : Nat, k ≤ xs.length ∧ i = .int .i64 k ∧ Hid (upto (fun i => !CA i) k = true) ∧ Below W0.heap.size W0 wr) (fun i _ => xs.length - (intOf i).toNat)
  case atStart => exact ⟨0, Nat.zero_le _, rfl, rfl, Below.refl _ _⟩
  case round =>
    obtain ⟨k, hk, rfl, HU, hbw⟩ := hrel
    clear z0 z1 z2 z3
    obtain ⟨y0, y1, y2, y3⟩ := cells4b ((hbw.block _ (blkCs X0.out)).trans X0.out)
    have BW := hide hbw
    by_cases hlt : k < xs.length
    · have hz := hbw.size
      have hbb := B0.out.trans (hbw.mono B0.out.size)
      obtain ⟨b0, o0, io, cp, l, u, rfl, hb0, hx, hcp, hio, d0, d1⟩ := (HR.out.kept (hbb.mono hB)).at k hlt
      have HE : Hid (CA k = (u && (upto (nzAt (PA k)) (PA k).length && decide (cmpL (PA k) (PB k) = 0)))) := by show _ = _; rw [HCA.out, hx]
      have HP := hide (upto_succ (fun i => !CA i) k)
      have HNF : Hid (CA k = true → q = true) := fun h => by rw [HQ.out, upto_false hlt (by show (!CA k) = false; rw [h]; rfl)]; rfl
      have HNT : Hid (CA k = false → upto (fun i => !CA i) (k + 1) = true) := fun h => by rw [HP.out, HU.out]; show (true && !CA k) = true; rw [h]; rfl
      have HA1 := hide (fun (W : World) (hW : Below wr.heap.size wr W) => HPA.out W io cp k hlt (hbb.trans (hW.mono hbb.size)) (by rw [hx]; exact hio.kept (hW.mono (Nat.le_trans hB hbb.size))))
      have HA2 := hide (fun (W : World) (hW : Below wr.heap.size wr W) => HPB.out W io cp k hlt (hbb.trans (hW.mono hbb.size)) (by rw [hx]; exact hio.kept (hW.mono (Nat.le_trans hB hbb.size))))
      rw [hx] at HA1 HA2
      have hl10 := HLP.out k hlt
      simp only at HA1 HA2
      clear hx hio hcp HP HU HCA HPA HPB HLP hbb
      generalize PA k = p at *
      generalize PB k = p2 at *
      generalize l.length = nl at *
      cases u with
      | false =>
        have HU2 := hide (HNT.out HE.out)
        clear HNF HNT HE HA1 HA2
        go_wp2
        clear hbw hz d0 d1 y0 y1 y2 y3
        go_roundw
        case rel => exact ⟨k + 1, by omega, by go_num, HU2, BW.out⟩
        case measure => simp [intOf]; omega
      | true =>
        go_upto_region 6 with (go_at_call 29; refine (HA1.out _ (Below.refl _ _)).mono ?_; rintro e w1 ⟨po, pc, rfl, hpr, k1⟩)
        have hwz : w.heap.size < wr.heap.size := Nat.lt_of_lt_of_le Z0.out hz
        have hbz : b0 < wr.heap.size := by have := B0.out.size; omega
        have HX1 := hide (show ∀ W, Below w1.heap.size w1 W → W.cell? ⟨w.heap.size, 3, none⟩ = some (.slice (some ⟨b0, o0, none⟩) xs.length c3) ∧ W.cell? ⟨b0, o0 + k * 2, none⟩ = some (.slice io nl cp) from fun W hW =>
          ⟨((k1.trans (hW.mono k1.size)).cell (p := ⟨w.heap.size, 3, none⟩) hwz).trans y3, ((k1.trans (hW.mono k1.size)).cell (p := ⟨b0, o0 + k * 2, none⟩) hbz).trans d0⟩)
        have HA3 := hide (fun (W : World) (hW : Below w1.heap.size w1 W) => HA2.out W (k1.trans (hW.mono k1.size)))
        have BW1 := hide (BW.out.trans (k1.mono BW.out.size))
        have HRow := hide hpr
        clear hpr k1 hbw hz y0 y1 y2 y3 d0 d1 HA1 HA2 BW hwz hbz
        go_wp2
        go_loopw [9, 10] (fun nv i wi => ∃ (j : Nat) (n : Bool), j ≤ p.length ∧ i = .int .i64 j ∧ nv = .bool n ∧ Hid (n = !upto (nzAt p) j) ∧ Below w1.heap.size w1 wi) (fun _ i _ => p.length - (intOf i).toNat)
        case atStart => exact ⟨0, false, Nat.zero_le _, rfl, rfl, rfl, Below.refl _ _⟩
        case round =>
          obtain ⟨j, n, hj, rfl, rfl, HN, hbi⟩ := hrel
          by_cases hjl : j < p.length
          · have HPJ := hide (upto_succ (nzAt p) j)
            cases n with
            | true =>
              have HN2 : Hid (true = !upto (nzAt p) (j + 1)) := by
                show _ = _
                have := HN.out
                rw [HPJ.out]
                cases hq : upto (nzAt p) j with
                | false => rfl
                | true => rw [hq] at this; cases this
              clear HPJ HN
              go_wp2
              go_roundw
              case rel => exact ⟨j + 1, _, by omega, by go_num, rfl, HN2, hbi⟩
              case measure => simp [intOf]; omega
            | false =>
              obtain ⟨bb, oo, kk, nn, tt, rfl, hbB, hv, ht, e0, e1, e2⟩ := (HRow.out.kept hbi).at j hjl
              have HN2 : Hid (decide (kk = 0) = !upto (nzAt p) (j + 1)) := by
                show _ = _
                have := HN.out
                rw [HPJ.out]
                cases hq : upto (nzAt p) j with
                | false => rw [hq] at this; cases this
                | true =>
                  unfold nzAt
                  rw [List.getD_eq_getElem?_getD, List.getElem?_eq_getElem hjl, Option.getD_some, hv]
                  simp
              clear HPJ HN hv ht e1 e2
              go_wp2
              go_roundw
              case rel => exact ⟨j + 1, _, by omega, by go_num, rfl, HN2, hbi⟩
              case measure => simp [intOf]; omega
          · obtain rfl : j = p.length := by omega
            have BW2 := hide (BW1.out.trans (hbi.mono BW1.out.size))
            cases n with
            | true =>
              have HU2 := hide (HNT.out (by rw [HE.out, show upto (nzAt p) p.length = false from by have := HN.out; cases hq : upto (nzAt p) p.length with
                | false => rfl
                | true => rw [hq] at this; cases this]; rfl))
              clear HNF HNT HE HA3 HX1 HN
              go_wp2
              go_roundw
              case rel => exact ⟨k + 1, by omega, by go_num, HU2, BW2.out⟩
              case measure => simp [intOf]; omega
            | false =>
              have hup : upto (nzAt p) p.length = true := by
                have := HN.out
                cases hq : upto (nzAt p) p.length with
                | false => rw [hq] at this; cases this
                | true => rfl
              obtain ⟨f0, f1⟩ := HX1.out _ hbi
              have HA4 := hide (HA3.out _ hbi)
              have HR4 := hide (HRow.out.kept hbi)
              have hrz := hbi.size
              clear HA3 HX1 HRow HN BW1
              go_wp2_with fail
              refine HA4.out.mono ?_
              rintro e w2 ⟨po2, pc2, rfl, hp2, k2⟩
              have HCM := hide (l02Compare_any po pc p po2 pc2 p2 w2 (by omega) (by omega) ((HR4.out.kept (k2.mono hrz)).mono (Nat.le_trans hrz k2.size)) hp2)
              have BW3 := hide (BW2.out.trans (k2.mono BW2.out.size))
              have HUP := hide hup
              clear hp2 k2 HR4 HA4 f0 f1 hup hrz hbi
              by_cases hc : cmpL p p2 = 0
              · have HF := hide (HNF.out (by rw [HE.out, HUP.out, decide_eq_true hc]; rfl))
                rw [hc] at HCM
                clear HNF HNT HE HUP hc
                go_wp2_with fail
                refine HCM.out.mono ?_
                rintro e w3 ⟨rfl, k3⟩
                have BW4 := hide (BW3.out.trans (k3.mono BW3.out.size))
                clear k3
                go_wp2
                go_ret
                exact ⟨ret_bool HF.out.symm, B0.out.trans (BW4.out.mono B0.out.size)⟩
              · have HU2 := hide (HNT.out (by rw [HE.out, HUP.out, decide_eq_false hc]; rfl))
                clear HNF HNT HE HUP
                generalize cmpL p p2 = cz at *
                go_wp2_with fail
                refine HCM.out.mono ?_
                rintro e w3 ⟨rfl, k3⟩
                have BW4 := hide (BW3.out.trans (k3.mono BW3.out.size))
                clear k3 HCM BW3 BW2
                go_wp2
                clear hc
                go_roundw
                case rel => exact ⟨k + 1, by omega, by go_num, HU2, BW4.out⟩
                case measure => simp [intOf]; omega
    · obtain rfl : k = xs.length := by omega
      have HF : Hid (q = false) := by show _ = _; rw [HQ.out, HU.out]; rfl
      go_wp2
      go_ret
      exact ⟨ret_bool HF.out.symm, B0.out.trans (hbw.mono B0.out.size)⟩
end Go.Proofs.YtkhklfnhninkjaaGreat
