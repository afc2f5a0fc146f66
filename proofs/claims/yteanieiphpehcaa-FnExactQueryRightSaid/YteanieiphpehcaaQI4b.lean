/-
  Contracts: a query's join and order, as the program asks of them.
-/
import Derived.Test.YteanieiphpehcaaQI4
namespace Go.Proofs.Yteanieiphpehcaa
open Go.RowKit
set_option maxRecDepth 100000

set_option maxHeartbeats 8000000 in
theorem implJoin_any (q : Qry) (a1 : Option Addr) (c1 : Nat) (a2 : Option Addr) (c2 : Nat) (m : Int) (w : World) (hs : q.small) (hm : MaxL m w) :
    Calls Try.prog 29 #[.agg #[.slice a1 q.items.length c1, .string q.table, .string q.join, .string q.left, .string q.right, .slice a2 q.wh.length c2, .string q.group, .string q.order, .bool q.down, .int .i64 q.limit]] w fun e w' => e = .returned (.bool (joinOk q)) ∧ Below w.heap.size w w' := by
  have HQ : Hid (joinOk q = if q.join.size = 0 then decide (q.left.size = 0) && decide (q.right.size = 0) else decide (q.join ≠ q.table) && (nameOk q.join.data.toList && (colOk q.left && colOk q.right))) := rfl
  have HL := hide (fun (W : World) (hb : Below w.heap.size w W) => implCol_any q.left m W hs.2.2.2.2.1 (hm.kept hb))
  have HR := hide (fun (W : World) (hb : Below w.heap.size w W) => implCol_any q.right m W hs.2.2.2.2.2.1 (hm.kept hb))
  have HN := hide (fun (W : World) => implName_any q.join W)
  clear hs hm
  generalize joinOk q = r at *
  generalize q.table = qt at *
  generalize q.join = qj at *
  generalize q.left = ql at *
  generalize q.right = qr at *
  generalize q.group = qg at *
  generalize q.order = qo at *
  generalize q.down = qd at *
  generalize q.limit = qm at *
  generalize q.items.length = n1 at *
  generalize q.wh.length = n2 at *
  have B0 := hide ((Below.refl w.heap.size w).alloc (Nat.le_refl _) (.cells #[.slice a1 n1 c1, .string qt, .string qj, .string ql, .string qr, .slice a2 n2 c2, .string qg, .string qo, .bool qd, .int .i64 qm] 39))
  by_cases hj : qj.size = 0
  · have hje := emp_tl hj
    have HV : Hid (r = (decide (ql.size = 0) && decide (qr.size = 0))) := by show _ = _; rw [HQ.out, if_pos hj]
    clear HQ HL HR HN
    by_cases hl : ql.size = 0
    · have hle := emp_tl hl
      by_cases hr : qr.size = 0
      · have hre := emp_tl hr
        have HF : Hid (r = true) := by show _ = _; rw [HV.out, decide_eq_true hl, decide_eq_true hr]; rfl
        go_enter Try.func29, Try.ntmps29
        go_wp2
        go_ret
        exact ⟨ret_bool HF.out.symm, B0.out⟩
      · have hre := emp_ne hr
        have HF : Hid (r = false) := by show _ = _; rw [HV.out, decide_eq_false hr]; simp
        go_enter Try.func29, Try.ntmps29
        go_wp2
        go_ret
        exact ⟨ret_bool HF.out.symm, B0.out⟩
    · have hle := emp_ne hl
      have HF : Hid (r = false) := by show _ = _; rw [HV.out, decide_eq_false hl]; rfl
      go_enter Try.func29, Try.ntmps29
      go_wp2
      go_ret
      exact ⟨ret_bool HF.out.symm, B0.out⟩
  · have hje := emp_ne hj
    have HV : Hid (r = (decide (qj ≠ qt) && (nameOk qj.data.toList && (colOk ql && colOk qr)))) := by show _ = _; rw [HQ.out, if_neg hj]
    clear HQ
    generalize nameOk qj.data.toList = x1 at *
    generalize colOk ql = x2 at *
    generalize colOk qr = x3 at *
    by_cases ht : qj = qt
    · subst ht
      have HF : Hid (r = false) := by show _ = _; rw [HV.out, decide_eq_false (fun h => h rfl)]; rfl
      clear HV HL HR HN
      go_enter Try.func29, Try.ntmps29
      go_wp2
      go_ret
      exact ⟨ret_bool HF.out.symm, B0.out⟩
    · have hte := str_ne ht
      have HV2 : Hid (r = (x1 && (x2 && x3))) := by show _ = _; rw [HV.out, decide_eq_true ht]; rfl
      clear HV
      cases x1 with
      | false =>
        go_enter Try.func29, Try.ntmps29
        go_wp2_with (go_at_call 7; refine (HN.out _).mono ?_; rintro e wn ⟨rfl, rfl⟩)
        go_ret
        exact ⟨ret_bool (by rw [HV2.out]; rfl), B0.out⟩
      | true =>
        cases x2 with
        | false =>
          go_enter Try.func29, Try.ntmps29
          go_wp2_with (first | (go_at_call 7; refine (HN.out _).mono ?_; rintro e wn ⟨rfl, rfl⟩) | (go_at_call 45; refine (HL.out _ B0.out).mono ?_; rintro e w1 ⟨rfl, hw1⟩; have B1 := hide (B0.out.trans (hw1.mono B0.out.size)); obtain ⟨cw1, fw1⟩ := bcell hw1; clear hw1))
          go_ret
          exact ⟨ret_bool (by rw [HV2.out]; rfl), B1.out⟩
        | true =>
          go_enter Try.func29, Try.ntmps29
          go_wp2_with (first | (go_at_call 7; refine (HN.out _).mono ?_; rintro e wn ⟨rfl, rfl⟩) | (have hh := B1; go_at_call 45; refine (HR.out _ B1.out).mono ?_; rintro e w2 ⟨rfl, hw2⟩; have B2 := hide (B1.out.trans (hw2.mono B1.out.size)); clear hw2) | (go_at_call 45; refine (HL.out _ B0.out).mono ?_; rintro e w1 ⟨rfl, hw1⟩; have B1 := hide (B0.out.trans (hw1.mono B0.out.size)); obtain ⟨cw1, fw1⟩ := bcell hw1; clear hw1))
          go_ret
          exact ⟨ret_bool (by rw [HV2.out]; rfl), B2.out⟩
set_option maxHeartbeats 4000000 in
theorem implOrder_any (q : Qry) (a1 : Option Addr) (c1 : Nat) (a2 : Option Addr) (c2 : Nat) (m : Int) (w : World) (hs : q.small) (hm : MaxL m w) :
    Calls Try.prog 32 #[.agg #[.slice a1 q.items.length c1, .string q.table, .string q.join, .string q.left, .string q.right, .slice a2 q.wh.length c2, .string q.group, .string q.order, .bool q.down, .int .i64 q.limit]] w fun e w' => e = .returned (.bool (orderOk q)) ∧ Below w.heap.size w w' := by
  have HQ : Hid (orderOk q = (colNone q.order && (decide (q.order.size ≠ 0) || !q.down))) := rfl
  have HO := hide (fun (W : World) (hb : Below w.heap.size w W) => implColNone_any q.order m W hs.2.2.2.2.2.2.2.1 (hm.kept hb))
  clear hs hm
  generalize orderOk q = r at *
  generalize q.table = qt at *
  generalize q.join = qj at *
  generalize q.left = ql at *
  generalize q.right = qr at *
  generalize q.group = qg at *
  generalize q.order = qo at *
  generalize q.down = qd at *
  generalize q.limit = qm at *
  generalize q.items.length = n1 at *
  generalize q.wh.length = n2 at *
  have B0 := hide ((Below.refl w.heap.size w).alloc (Nat.le_refl _) (.cells #[.slice a1 n1 c1, .string qt, .string qj, .string ql, .string qr, .slice a2 n2 c2, .string qg, .string qo, .bool qd, .int .i64 qm] 39))
  generalize colNone qo = x1 at *
  cases x1 with
  | false =>
    have HF : Hid (r = false) := by show _ = _; rw [HQ.out]; rfl
    go_enter Try.func32, Try.ntmps32
    go_wp2_with (go_at_call 48; refine (HO.out _ B0.out).mono ?_; rintro e w1 ⟨rfl, hw1⟩; have B1 := hide (B0.out.trans (hw1.mono B0.out.size)); obtain ⟨cw1, fw1⟩ := bcell hw1; clear hw1)
    go_ret
    exact ⟨ret_bool HF.out.symm, B1.out⟩
  | true =>
    by_cases ho : qo.size = 0
    · have hoe := emp_tl ho
      have HF : Hid (r = !qd) := by show _ = _; rw [HQ.out]; simp [ho]
      cases qd with
      | false =>
        go_enter Try.func32, Try.ntmps32
        go_wp2_with (go_at_call 48; refine (HO.out _ B0.out).mono ?_; rintro e w1 ⟨rfl, hw1⟩; have B1 := hide (B0.out.trans (hw1.mono B0.out.size)); obtain ⟨cw1, fw1⟩ := bcell hw1; clear hw1)
        go_ret
        exact ⟨ret_bool HF.out.symm, B1.out⟩
      | true =>
        go_enter Try.func32, Try.ntmps32
        go_wp2_with (go_at_call 48; refine (HO.out _ B0.out).mono ?_; rintro e w1 ⟨rfl, hw1⟩; have B1 := hide (B0.out.trans (hw1.mono B0.out.size)); obtain ⟨cw1, fw1⟩ := bcell hw1; clear hw1)
        go_ret
        exact ⟨ret_bool HF.out.symm, B1.out⟩
    · have hoe := emp_ne ho
      have HF : Hid (r = true) := by show _ = _; rw [HQ.out]; simp [ho]
      go_enter Try.func32, Try.ntmps32
      go_wp2_with (go_at_call 48; refine (HO.out _ B0.out).mono ?_; rintro e w1 ⟨rfl, hw1⟩; have B1 := hide (B0.out.trans (hw1.mono B0.out.size)); obtain ⟨cw1, fw1⟩ := bcell hw1; clear hw1)
      go_ret
      exact ⟨ret_bool HF.out.symm, B1.out⟩
end Go.Proofs.Yteanieiphpehcaa
