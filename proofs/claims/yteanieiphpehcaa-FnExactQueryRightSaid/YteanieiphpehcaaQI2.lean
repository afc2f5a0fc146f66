/-
  Contracts: what the program asks of a value behind an Op, of terms and items.
-/
import Derived.Test.YteanieiphpehcaaQI1
import Derived.Test.YteanieiphpehcaaQWd
import Derived.Deep.RegionHeld3
import Derived.OwnWalk
namespace Go.Proofs.Yteanieiphpehcaa
open Go.RowKit
set_option maxRecDepth 100000

def hasW (v : Val) : Bool := if v.kind = 2 then decide (v.num < 1000000000000000000) && decide (v.num > -1000000000000000000) else if v.kind = 3 then wordOk v.text else true
theorem valOk_eq (v : Val) : valOk v = (decide (v.kind ≠ 0) && (vRight v && hasW v)) := by
  obtain ⟨k, n, t⟩ := v
  cases hv : vRight ⟨k, n, t⟩ with
  | false => simp [valOk, hv]
  | true =>
    have hk := right_kind hv
    simp only at hk
    rcases hk with rfl | rfl | rfl | rfl
    · simp [valOk]
    · have h' : decide ((n = 0 ∨ n = 1) ∧ t.size = 0) = true := hv
      obtain ⟨h1, h2⟩ := of_decide_eq_true h'
      rcases h1 with rfl | rfl <;> simp [valOk, hasW, hv]
    · simp [valOk, hasW, hv]
    · have h' : decide (n = 0 ∧ t.size ≤ 200) = true := hv
      obtain ⟨rfl, h2⟩ := of_decide_eq_true h'
      simp [valOk, hasW, hv]
set_option maxHeartbeats 1000000 in
theorem implHas_any (v : Val) (w : World) (hs : v.text.size ≤ maxLen) :
    Calls Try.prog 54 #[.agg #[.int .i64 v.kind, .int .i64 v.num, .string v.text]] w fun e w' => e = .returned (.bool (hasW v)) ∧ Below w.heap.size w w' := by
  obtain ⟨k, n, t⟩ := v
  have HD := hide (fun (W : World) => implDigits_any n W)
  have HW := hide (fun (W : World) => implQuoted_any t W hs)
  have HQ : Hid (hasW ⟨k, n, t⟩ = if k = 2 then decide (n < 1000000000000000000) && decide (n > -1000000000000000000) else if k = 3 then wordOk t else true) := rfl
  simp only
  generalize hasW ⟨k, n, t⟩ = q at *
  generalize (decide (n < 1000000000000000000) && decide (n > -1000000000000000000)) = qd at *
  generalize wordOk t = qw at *
  clear hs
  have B0 := hide ((Below.refl w.heap.size w).alloc (Nat.le_refl _) (.cells #[.int .i64 k, .int .i64 n, .string t] 27))
  by_cases h2 : k = 2
  · subst h2
    have HF : Hid (q = qd) := by show _ = _; rw [HQ.out, if_pos rfl]
    clear HQ HW
    go_enter Try.func54, Try.ntmps54
    go_wp2_with (go_at_call 57; refine (HD.out _).mono ?_; rintro e w1 ⟨rfl, rfl⟩)
    go_ret
    exact ⟨ret_bool HF.out.symm, B0.out⟩
  · by_cases h3 : k = 3
    · subst h3
      have HF : Hid (q = qw) := by show _ = _; rw [HQ.out, if_neg (by decide), if_pos rfl]
      clear HQ HD
      go_enter Try.func54, Try.ntmps54
      go_wp2_with (go_at_call 58; refine (HW.out _).mono ?_; rintro e w1 ⟨rfl, rfl⟩)
      go_ret
      exact ⟨ret_bool HF.out.symm, B0.out⟩
    · have HF : Hid (q = true) := by show _ = _; rw [HQ.out, if_neg h2, if_neg h3]
      clear HQ HD HW
      go_enter Try.func54, Try.ntmps54
      go_wp2
      go_ret
      exact ⟨ret_bool HF.out.symm, B0.out⟩
theorem is_ne {op : ByteArray} (h : isIs op = false) : (op.toList == [105, 115]) = false := by
  rw [beq_eq_false_iff_ne]
  intro e
  rw [eq_of_list e] at h
  revert h
  decide
theorem is_eq {op : ByteArray} (h : isIs op = true) : op = ⟨#[105, 115]⟩ := of_decide_eq_true h
theorem val_eq0 (k n : Int) (t : ByteArray) (W : World) : (binOp .eql 27 (.agg #[.int .i64 k, .int .i64 n, .string t]) (.agg #[.int .i64 0, .int .i64 0, .string ⟨#[]⟩])).run Try.prog W = .ok (.bool (noVal ⟨k, n, t⟩)) W := by
  by_cases h1 : k = 0
  · by_cases h2 : n = 0
    · by_cases h3 : t.size = 0
      · obtain rfl := ba_empty h3
        subst h1 h2
        go_simp
        rfl
      · have h4 : t.toList.isEmpty = false := by rw [tl_empty, decide_eq_false h3]
        have e : noVal ⟨k, n, t⟩ = false := decide_eq_false (fun h => h3 h.2.2)
        rw [e]
        subst h1 h2
        go_simp
    · have e : noVal ⟨k, n, t⟩ = false := decide_eq_false (fun h => h2 h.2.1)
      rw [e]
      go_simp
  · have e : noVal ⟨k, n, t⟩ = false := decide_eq_false (fun h => h1 h.1)
    rw [e]
    go_simp
set_option maxHeartbeats 2000000 in
theorem implTakes_any (op : ByteArray) (v : Val) (w : World) (hs : v.text.size ≤ maxLen) :
    Calls Try.prog 47 #[.string op, .agg #[.int .i64 v.kind, .int .i64 v.num, .string v.text]] w fun e w' => e = .returned (.bool (takesB op v)) ∧ Below w.heap.size w w' := by
  have HV := hide (fun (W : World) => implValueRight_any v W)
  have HH := hide (fun (W : World) => implHas_any v W hs)
  have HE := hide (fun (W : World) => val_eq0 v.kind v.num v.text W)
  have HO := valOk_eq v
  obtain ⟨k, n, t⟩ := v
  simp only at *
  have B0 := hide ((Below.refl w.heap.size w).alloc (Nat.le_refl _) (.cells #[.int .i64 k, .int .i64 n, .string t] 27))
  unfold takesB
  cases hi : isIs op with
  | true =>
    obtain rfl := is_eq hi
    rw [if_pos rfl]
    have he := HE.out
    generalize noVal ⟨k, n, t⟩ = q at *
    clear HV HH HO hi
    go_enter Try.func47, Try.ntmps47
    go_wp2
    go_ret
    exact ⟨ret_bool rfl, B0.out⟩
  | false =>
    have hne := is_ne hi
    rw [if_neg (by decide), HO]
    generalize vRight ⟨k, n, t⟩ = q1 at *
    generalize hasW ⟨k, n, t⟩ = q2 at *
    clear HE HO hi
    by_cases hk : k = 0
    · subst hk
      go_enter Try.func47, Try.ntmps47
      go_wp2
      go_ret
      exact ⟨ret_bool rfl, B0.out⟩
    · have hkd : decide (k ≠ 0) = true := decide_eq_true hk
      have hkb : (k != 0) = true := by simp; exact hk
      rw [hkd]
      cases q1 with
      | false =>
        go_enter Try.func47, Try.ntmps47
        go_wp2_with (go_at_call 11; refine (HV.out _).mono ?_; rintro e w1 ⟨rfl, hb1⟩; obtain ⟨hc1, hf1⟩ := bcell hb1)
        go_ret
        exact ⟨ret_bool rfl, B0.out.trans (hb1.mono B0.out.size)⟩
      | true =>
        go_enter Try.func47, Try.ntmps47
        go_wp2_with (first | (go_at_call 11; refine (HV.out _).mono ?_; rintro e w1 ⟨rfl, hb1⟩; obtain ⟨hc1, hf1⟩ := bcell hb1) | (go_at_call 54; refine (HH.out _).mono ?_; rintro e w2 ⟨rfl, hb2⟩))
        go_ret
        exact ⟨ret_bool rfl, (B0.out.trans (hb1.mono B0.out.size)).trans (hb2.mono (B0.out.trans (hb1.mono B0.out.size)).size)⟩
end Go.Proofs.Yteanieiphpehcaa
