/-
  Contracts: what the specification asks of an Op, a value, a term.
-/
import Derived.Test.YteanieiphpehcaaQSp
import Derived.Test.YteanieiphpehcaaQWd
import Derived.Test.YteanieiphpehcaaVal0
namespace Go.Proofs.Yteanieiphpehcaa
open Go.RowKit
set_option maxRecDepth 100000

theorem eq_of_listS {s : ByteArray} {l : List UInt8} (h : s.toList = l) : s = ⟨l.toArray⟩ := by
  apply ba_ext
  rw [ByteArray.toList_eq] at h
  simpa using h
set_option maxHeartbeats 1000000 in
theorem specOp6_any (s : ByteArray) (w : World) :
    Calls Try.prog 41 #[.string s] w fun e w' => e = .returned (.bool (op6 s)) ∧ w' = w := by
  have key : ∀ l : List UInt8, s = ⟨l.toArray⟩ ∨ ¬ s = ⟨l.toArray⟩ ∧ (s.toList == l) = false := fun l => by
    by_cases h : s.toList = l
    · exact .inl (eq_of_listS h)
    · refine .inr ⟨fun e => h (by rw [e, ByteArray.toList_eq]), beq_eq_false_iff_ne.2 h⟩
  rcases key [61] with rfl | ⟨a1, b1⟩
  · go_enter Try.func41, Try.ntmps41
    go_wp2
    go_ret
    exact ⟨ret_bool rfl, rfl⟩
  rcases key [33, 61] with rfl | ⟨a2, b2⟩
  · go_enter Try.func41, Try.ntmps41
    go_wp2
    go_ret
    exact ⟨ret_bool rfl, rfl⟩
  rcases key [60] with rfl | ⟨a3, b3⟩
  · go_enter Try.func41, Try.ntmps41
    go_wp2
    go_ret
    exact ⟨ret_bool rfl, rfl⟩
  rcases key [60, 61] with rfl | ⟨a4, b4⟩
  · go_enter Try.func41, Try.ntmps41
    go_wp2
    go_ret
    exact ⟨ret_bool rfl, rfl⟩
  rcases key [62] with rfl | ⟨a5, b5⟩
  · go_enter Try.func41, Try.ntmps41
    go_wp2
    go_ret
    exact ⟨ret_bool rfl, rfl⟩
  rcases key [62, 61] with rfl | ⟨a6, b6⟩
  · go_enter Try.func41, Try.ntmps41
    go_wp2
    go_ret
    exact ⟨ret_bool rfl, rfl⟩
  have HF : Hid (op6 s = false) := by
    show _ = _
    unfold op6
    rw [decide_eq_false (by rintro (h | h | h | h | h | h) <;> contradiction)]
  clear key a1 a2 a3 a4 a5 a6
  go_enter Try.func41, Try.ntmps41
  go_wp2
  go_ret
  exact ⟨ret_bool HF.out.symm, rfl⟩
set_option maxHeartbeats 2000000 in
theorem specVal10_any (v : Val) (w : World) (hs : v.text.size ≤ maxLen) :
    Calls Try.prog 42 #[.agg #[.int .i64 v.kind, .int .i64 v.num, .string v.text]] w fun e w' => e = .returned (.bool (valOk v)) ∧ Below w.heap.size w w' := by
  have HV := hide (fun (W : World) => specValueRight_any v.kind v.num v.text W)
  have HW := hide (fun (W : World) => specWord_any v.text W hs)
  have HQ : Hid (valOk v = (vRight v && (decide (v.kind ≠ 0) && (decide (v.kind ≠ 3) || wordOk v.text) && (decide (v.num < 1000000000000000000) && decide (v.num > -1000000000000000000))))) := rfl
  obtain ⟨k, n, t⟩ := v
  simp only at *
  have B0 := hide ((Below.refl w.heap.size w).alloc (Nat.le_refl _) (.cells #[.int .i64 k, .int .i64 n, .string t] 27))
  generalize valOk ⟨k, n, t⟩ = q at *
  generalize vRight ⟨k, n, t⟩ = q1 at *
  generalize wordOk t = q2 at *
  clear hs
  cases q1 with
  | false =>
    have HF : Hid (q = false) := by show _ = _; rw [HQ.out]; rfl
    clear HQ HW
    go_enter Try.func42, Try.ntmps42
    go_wp2_with (go_at_call 9; refine (HV.out _).mono ?_; rintro e w1 ⟨rfl, hb1⟩; obtain ⟨hc1, hf1⟩ := bcell hb1)
    go_ret
    exact ⟨ret_bool HF.out.symm, B0.out.trans (hb1.mono B0.out.size)⟩
  | true =>
    by_cases hk : k = 0
    · subst hk
      have HF : Hid (q = false) := by show _ = _; rw [HQ.out]; rfl
      clear HQ HW
      go_enter Try.func42, Try.ntmps42
      go_wp2_with (go_at_call 9; refine (HV.out _).mono ?_; rintro e w1 ⟨rfl, hb1⟩; obtain ⟨hc1, hf1⟩ := bcell hb1)
      go_ret
      exact ⟨ret_bool HF.out.symm, B0.out.trans (hb1.mono B0.out.size)⟩
    · have HQ1 : Hid (q = ((decide (k ≠ 3) || q2) && (decide (n < 1000000000000000000) && decide (n > -1000000000000000000)))) := by show _ = _; rw [HQ.out, decide_eq_true hk]; simp
      clear HQ
      by_cases h3 : k = 3
      · subst h3
        cases q2 with
        | false =>
          have HF : Hid (q = false) := by show _ = _; rw [HQ1.out]; rfl
          go_enter Try.func42, Try.ntmps42
          go_wp2_with (first | (go_at_call 9; refine (HV.out _).mono ?_; rintro e w1 ⟨rfl, hb1⟩; obtain ⟨hc1, hf1⟩ := bcell hb1) | (go_at_call 52; refine (HW.out _).mono ?_; rintro e w2 ⟨rfl, rfl⟩))
          go_ret
          exact ⟨ret_bool HF.out.symm, B0.out.trans (hb1.mono B0.out.size)⟩
        | true =>
          have HF : Hid (q = (decide (n < 1000000000000000000) && decide (n > -1000000000000000000))) := by show _ = _; rw [HQ1.out]; rfl
          clear HQ1
          by_cases n1 : n < 1000000000000000000
          · by_cases n2 : n > -1000000000000000000
            · have HG : Hid (q = true) := by show _ = _; rw [HF.out, decide_eq_true n1, decide_eq_true n2]; rfl
              go_enter Try.func42, Try.ntmps42
              go_wp2_with (first | (go_at_call 9; refine (HV.out _).mono ?_; rintro e w1 ⟨rfl, hb1⟩; obtain ⟨hc1, hf1⟩ := bcell hb1) | (go_at_call 52; refine (HW.out _).mono ?_; rintro e w2 ⟨rfl, rfl⟩))
              go_ret
              exact ⟨ret_bool HG.out.symm, B0.out.trans (hb1.mono B0.out.size)⟩
            · have HG : Hid (q = false) := by show _ = _; rw [HF.out, decide_eq_false n2]; simp
              go_enter Try.func42, Try.ntmps42
              go_wp2_with (first | (go_at_call 9; refine (HV.out _).mono ?_; rintro e w1 ⟨rfl, hb1⟩; obtain ⟨hc1, hf1⟩ := bcell hb1) | (go_at_call 52; refine (HW.out _).mono ?_; rintro e w2 ⟨rfl, rfl⟩))
              go_ret
              exact ⟨ret_bool (by rw [HG.out]; exact decide_eq_false (by omega)), B0.out.trans (hb1.mono B0.out.size)⟩
          · have HG : Hid (q = false) := by show _ = _; rw [HF.out, decide_eq_false n1]; simp
            go_enter Try.func42, Try.ntmps42
            go_wp2_with (first | (go_at_call 9; refine (HV.out _).mono ?_; rintro e w1 ⟨rfl, hb1⟩; obtain ⟨hc1, hf1⟩ := bcell hb1) | (go_at_call 52; refine (HW.out _).mono ?_; rintro e w2 ⟨rfl, rfl⟩))
            go_ret
            exact ⟨ret_bool (by rw [HG.out]), B0.out.trans (hb1.mono B0.out.size)⟩
      · have HF : Hid (q = (decide (n < 1000000000000000000) && decide (n > -1000000000000000000))) := by show _ = _; rw [HQ1.out, decide_eq_true h3]; rfl
        have hkb : (k != 0) = true := by simp; exact hk
        clear HQ1 HW
        by_cases n1 : n < 1000000000000000000
        · by_cases n2 : n > -1000000000000000000
          · have HG : Hid (q = true) := by show _ = _; rw [HF.out, decide_eq_true n1, decide_eq_true n2]; rfl
            go_enter Try.func42, Try.ntmps42
            go_wp2_with (go_at_call 9; refine (HV.out _).mono ?_; rintro e w1 ⟨rfl, hb1⟩; obtain ⟨hc1, hf1⟩ := bcell hb1)
            go_ret
            exact ⟨ret_bool HG.out.symm, B0.out.trans (hb1.mono B0.out.size)⟩
          · have HG : Hid (q = false) := by show _ = _; rw [HF.out, decide_eq_false n2]; simp
            go_enter Try.func42, Try.ntmps42
            go_wp2_with (go_at_call 9; refine (HV.out _).mono ?_; rintro e w1 ⟨rfl, hb1⟩; obtain ⟨hc1, hf1⟩ := bcell hb1)
            go_ret
            exact ⟨ret_bool (by rw [HG.out]; exact decide_eq_false (by omega)), B0.out.trans (hb1.mono B0.out.size)⟩
        · have HG : Hid (q = false) := by show _ = _; rw [HF.out, decide_eq_false n1]; simp
          go_enter Try.func42, Try.ntmps42
          go_wp2_with (go_at_call 9; refine (HV.out _).mono ?_; rintro e w1 ⟨rfl, hb1⟩; obtain ⟨hc1, hf1⟩ := bcell hb1)
          go_ret
          exact ⟨ret_bool (by rw [HG.out]), B0.out.trans (hb1.mono B0.out.size)⟩
theorem is_neS {op : ByteArray} (h : isIs op = false) : (op.toList == [105, 115]) = false := by
  rw [beq_eq_false_iff_ne]
  intro e
  rw [eq_of_listS e] at h
  revert h
  decide
theorem val_eq0S (k n : Int) (t : ByteArray) (W : World) : (binOp .eql 27 (.agg #[.int .i64 k, .int .i64 n, .string t]) (.agg #[.int .i64 0, .int .i64 0, .string ⟨#[]⟩])).run Try.prog W = .ok (.bool (noVal ⟨k, n, t⟩)) W := by
  by_cases h1 : k = 0
  · by_cases h2 : n = 0
    · by_cases h3 : t.size = 0
      · obtain rfl := ba_empty h3
        subst h1 h2
        go_simp
        rfl
      · have h4 : t.toList.isEmpty = false := by rw [tl_empty, decide_eq_false h3]
        have e : noVal ⟨k, n, t⟩ = false := decide_eq_false (fun h => h3 h.2.2)
        rw [e]
        subst h1 h2
        go_simp
    · have e : noVal ⟨k, n, t⟩ = false := decide_eq_false (fun h => h2 h.2.1)
      rw [e]
      go_simp
  · have e : noVal ⟨k, n, t⟩ = false := decide_eq_false (fun h => h1 h.1)
    rw [e]
    go_simp
set_option maxHeartbeats 4000000 in
theorem specTerm_any (x : Trm) (w : World) (hf : x.fits) (hs : x.small) :
    Calls Try.prog 24 #[.agg #[.string x.col, .string x.op, .int .i64 x.kind, .int .i64 x.num, .string x.text]] w fun e w' => e = .returned (.bool (termOk x)) ∧ Below w.heap.size w w' := by
  have HC := hide (fun (W : World) => specCol_any x.col W hs.1)
  have HO := hide (fun (W : World) => specOp6_any x.op W)
  have HV := hide (fun (W : World) => specVal10_any ⟨x.kind, x.num, x.text⟩ W hf.2.2.2.2)
  have HE := hide (fun (W : World) => val_eq0S x.kind x.num x.text W)
  have HQ : Hid (termOk x = (colOk x.col && (if isIs x.op then noVal ⟨x.kind, x.num, x.text⟩ else op6 x.op && valOk ⟨x.kind, x.num, x.text⟩))) := rfl
  obtain ⟨c, o, k, n, t⟩ := x
  simp only at *
  clear hf hs
  have B0 := hide ((Below.refl w.heap.size w).alloc (Nat.le_refl _) (.cells #[.string c, .string o, .int .i64 k, .int .i64 n, .string t] 52))
  generalize termOk ⟨c, o, k, n, t⟩ = q at *
  generalize colOk c = q1 at *
  generalize op6 o = q2 at *
  generalize valOk ⟨k, n, t⟩ = q3 at *
  have HE2 := HE.out
  generalize noVal ⟨k, n, t⟩ = q4 at *
  clear HE
  cases q1 with
  | false =>
    have HF : Hid (q = false) := by show _ = _; rw [HQ.out]; rfl
    clear HQ HE2
    go_enter Try.func24, Try.ntmps24
    go_wp2_with (go_at_call 23; refine (HC.out _).mono ?_; rintro e w1 ⟨rfl, hb1⟩; obtain ⟨hc1, hf1⟩ := bcell hb1)
    go_ret
    exact ⟨ret_bool HF.out.symm, B0.out.trans (hb1.mono B0.out.size)⟩
  | true =>
    cases hi : isIs o with
    | true =>
      have HF : Hid (q = q4) := by show _ = _; rw [HQ.out, hi]; rfl
      obtain rfl : o = ⟨#[105, 115]⟩ := of_decide_eq_true hi
      clear HQ HO HV hi
      go_enter Try.func24, Try.ntmps24
      go_wp2_with (go_at_call 23; refine (HC.out _).mono ?_; rintro e w1 ⟨rfl, hb1⟩; obtain ⟨hc1, hf1⟩ := bcell hb1)
      go_ret
      exact ⟨ret_bool HF.out.symm, B0.out.trans (hb1.mono B0.out.size)⟩
    | false =>
      have HF : Hid (q = (q2 && q3)) := by show _ = _; rw [HQ.out, hi]; rfl
      have hne := is_neS hi
      clear HQ HE2 hi
      cases q2 with
      | false =>
        go_enter Try.func24, Try.ntmps24
        go_wp2_with (first | (go_at_call 23; refine (HC.out _).mono ?_; rintro e w1 ⟨rfl, hb1⟩; obtain ⟨hc1, hf1⟩ := bcell hb1) | (go_at_call 41; refine (HO.out _).mono ?_; rintro e w2 ⟨rfl, rfl⟩))
        go_ret
        exact ⟨ret_bool (by rw [HF.out]; rfl), B0.out.trans (hb1.mono B0.out.size)⟩
      | true =>
        go_enter Try.func24, Try.ntmps24
        go_wp2_with (first | (go_at_call 23; refine (HC.out _).mono ?_; rintro e w1 ⟨rfl, hb1⟩; obtain ⟨hc1, hf1⟩ := bcell hb1) | (go_at_call 41; refine (HO.out _).mono ?_; rintro e w2 ⟨rfl, rfl⟩) | (go_at_call 42; refine (HV.out _).mono ?_; rintro e w3 ⟨rfl, hb3⟩))
        go_ret
        exact ⟨ret_bool (by rw [HF.out]; rfl), (B0.out.trans (hb1.mono B0.out.size)).trans (hb3.mono (B0.out.trans (hb1.mono B0.out.size)).size)⟩
end Go.Proofs.Yteanieiphpehcaa
