/-
  Contracts: what the program asks of a column's name, an Op, a value.
-/
import Derived.Test.YteanieiphpehcaaQPl
import Derived.Test.YteanieiphpehcaaShelf
import Derived.Test.YteanieiphpehcaaInnerR
import Derived.Shelf.Vars
import Derived.WalkLawsBesides
namespace Go.Proofs.Yteanieiphpehcaa
open Go.RowKit
set_option maxRecDepth 100000

/-- What the variable internal/bytealg.MaxLen holds: whatever. -/
def MaxL (m : Int) (w : World) : Prop := w.cell? ⟨0, 0, none⟩ = some (.int .i64 m)
theorem maxLen_someQ {w : World} (hsh : w.ShapedOpen Try.prog) : ∃ m, MaxL m w :=
  cell_of_shapedOpen_int (g := 0) (t := 3) (zero := #[.int .i64 0]) hsh (of_decide_eq_true (by kernel_rfl)) (by kernel_rfl) rfl (by kernel_rfl) (by kernel_rfl) Try.underlying3
theorem MaxL.below {m : Int} {w w' : World} {B : Nat} (h : MaxL m w) (hb : Below B w w') (hB : w.heap.size ≤ B) : MaxL m w' :=
  (hb.cell (p := ⟨0, 0, none⟩) (Nat.lt_of_lt_of_le (block_lt_of_cell h) hB)).trans h
theorem MaxL.kept {m : Int} {w w' : World} (h : MaxL m w) (hb : Below w.heap.size w w') : MaxL m w' := h.below hb (Nat.le_refl _)
theorem below_drewN (n : Nat) (w : World) : Below w.heap.size w (w.drewN n) := ⟨rfl, rfl, rfl, Nat.le_refl _, fun _ _ => rfl⟩
set_option maxHeartbeats 1000000 in
theorem implCol_any (s : ByteArray) (m : Int) (w : World) (hs : s.size ≤ 1048576) (hm : MaxL m w) :
    Calls Try.prog 45 #[.string s] w fun e w' => e = .returned (.bool (colOk s)) ∧ Below w.heap.size w w' := by
  have HC := hide (Try.strings_Cut s ⟨#[46]⟩ m w (by omega) hm)
  have HQ : Hid (colOk s = ((Lib.cut s.data.toList [46]).2.2 && (nameOk (Lib.cut s.data.toList [46]).1 && nameOk (Lib.cut s.data.toList [46]).2.1))) := rfl
  have HC2 : Hid (Calls Try.prog 53 #[.string s, .string ⟨#[46]⟩] w fun e w' => e = .returned (.tuple #[.string ⟨(Lib.cut s.data.toList [46]).1.toArray⟩, .string ⟨(Lib.cut s.data.toList [46]).2.1.toArray⟩, .bool (Lib.cut s.data.toList [46]).2.2]) ∧ ∃ n, w' = w.drewN n) := HC.out
  clear HC hm
  generalize colOk s = q at *
  generalize Lib.cut s.data.toList [46] = c at *
  obtain ⟨t, u, f⟩ := c
  simp only at HC2 HQ
  have HN1 := hide (fun (W : World) => implName_any ⟨t.toArray⟩ W)
  have HN2 := hide (fun (W : World) => implName_any ⟨u.toArray⟩ W)
  have e1 : (⟨t.toArray⟩ : ByteArray).data.toList = t := by simp
  have e2 : (⟨u.toArray⟩ : ByteArray).data.toList = u := by simp
  rw [e1] at HN1
  rw [e2] at HN2
  clear e1 e2
  generalize nameOk t = n1 at *
  generalize nameOk u = n2 at *
  generalize (⟨t.toArray⟩ : ByteArray) = tb at *
  generalize (⟨u.toArray⟩ : ByteArray) = ub at *
  cases f with
  | false =>
    have HF : Hid (q = false) := by show _ = _; rw [HQ.out]; rfl
    go_enter Try.func45, Try.ntmps45
    go_wp2_with (go_at_call 53; refine HC2.out.mono ?_; rintro e w1 ⟨rfl, n, rfl⟩)
    go_ret
    exact ⟨ret_bool HF.out.symm, below_drewN _ _⟩
  | true =>
    cases n1 with
    | false =>
      have HF : Hid (q = false) := by show _ = _; rw [HQ.out]; rfl
      go_enter Try.func45, Try.ntmps45
      go_wp2_with (first | (go_at_call 53; refine HC2.out.mono ?_; rintro e w1 ⟨rfl, n, rfl⟩) | (go_at_call 7; refine (HN1.out _).mono ?_; rintro e w2 ⟨rfl, rfl⟩))
      go_ret
      exact ⟨ret_bool HF.out.symm, below_drewN _ _⟩
    | true =>
      have HF : Hid (q = n2) := by show _ = _; rw [HQ.out]; rfl
      go_enter Try.func45, Try.ntmps45
      go_wp2_with (first | (go_at_call 53; refine HC2.out.mono ?_; rintro e w1 ⟨rfl, n, rfl⟩; have hfst := HF) | (clear hfst; go_at_call 7; refine (HN1.out _).mono ?_; rintro e w2 ⟨rfl, rfl⟩) | (go_at_call 7; refine (HN2.out _).mono ?_; rintro e w3 ⟨rfl, rfl⟩))
      go_ret
      exact ⟨ret_bool HF.out.symm, below_drewN _ _⟩
theorem eq_of_list {s : ByteArray} {l : List UInt8} (h : s.toList = l) : s = ⟨l.toArray⟩ := by
  apply ba_ext
  rw [ByteArray.toList_eq] at h
  simpa using h
set_option maxHeartbeats 1000000 in
theorem implOp6_any (s : ByteArray) (w : World) :
    Calls Try.prog 46 #[.string s] w fun e w' => e = .returned (.bool (op6 s || isIs s)) ∧ w' = w := by
  have key : ∀ l : List UInt8, s = ⟨l.toArray⟩ ∨ ¬ s = ⟨l.toArray⟩ ∧ (s.toList == l) = false := fun l => by
    by_cases h : s.toList = l
    · exact .inl (eq_of_list h)
    · refine .inr ⟨fun e => h (by rw [e, ByteArray.toList_eq]), beq_eq_false_iff_ne.2 h⟩
  rcases key [61] with rfl | ⟨a1, b1⟩
  · go_enter Try.func46, Try.ntmps46
    go_wp2
    go_ret
    exact ⟨ret_bool rfl, rfl⟩
  rcases key [33, 61] with rfl | ⟨a2, b2⟩
  · go_enter Try.func46, Try.ntmps46
    go_wp2
    go_ret
    exact ⟨ret_bool rfl, rfl⟩
  rcases key [60] with rfl | ⟨a3, b3⟩
  · go_enter Try.func46, Try.ntmps46
    go_wp2
    go_ret
    exact ⟨ret_bool rfl, rfl⟩
  rcases key [60, 61] with rfl | ⟨a4, b4⟩
  · go_enter Try.func46, Try.ntmps46
    go_wp2
    go_ret
    exact ⟨ret_bool rfl, rfl⟩
  rcases key [62] with rfl | ⟨a5, b5⟩
  · go_enter Try.func46, Try.ntmps46
    go_wp2
    go_ret
    exact ⟨ret_bool rfl, rfl⟩
  rcases key [62, 61] with rfl | ⟨a6, b6⟩
  · go_enter Try.func46, Try.ntmps46
    go_wp2
    go_ret
    exact ⟨ret_bool rfl, rfl⟩
  rcases key [105, 115] with rfl | ⟨a7, b7⟩
  · go_enter Try.func46, Try.ntmps46
    go_wp2
    go_ret
    exact ⟨ret_bool rfl, rfl⟩
  have HF : Hid ((op6 s || isIs s) = false) := by
    show _ = _
    unfold op6 isIs
    rw [decide_eq_false (by rintro (h | h | h | h | h | h) <;> contradiction), decide_eq_false a7]
    rfl
  clear key a1 a2 a3 a4 a5 a6 a7
  go_enter Try.func46, Try.ntmps46
  go_wp2
  go_ret
  exact ⟨ret_bool HF.out.symm, rfl⟩
theorem implDigits_any (n : Int) (w : World) :
    Calls Try.prog 57 #[.int .i64 n] w fun e w' => e = .returned (.bool (decide (n < 1000000000000000000) && decide (n > -1000000000000000000))) ∧ w' = w := by
  by_cases h1 : n > -1000000000000000000
  · by_cases h2 : n < 1000000000000000000
    · have HF : Hid ((decide (n < 1000000000000000000) && decide (n > -1000000000000000000)) = true) := by show _ = _; rw [decide_eq_true h1, decide_eq_true h2]; rfl
      go_enter Try.func57, Try.ntmps57
      go_wp2
      go_ret
      exact ⟨ret_bool (by rw [HF.out]), rfl⟩
    · have HF : Hid ((decide (n < 1000000000000000000) && decide (n > -1000000000000000000)) = false) := by show _ = _; rw [decide_eq_false h2]; rfl
      go_enter Try.func57, Try.ntmps57
      go_wp2
      go_ret
      exact ⟨ret_bool (decide_eq_false (by omega)).symm, rfl⟩
  · have HF : Hid ((decide (n < 1000000000000000000) && decide (n > -1000000000000000000)) = false) := by show _ = _; rw [decide_eq_false h1]; simp
    go_enter Try.func57, Try.ntmps57
    go_wp2
    go_ret
    exact ⟨ret_bool (by rw [HF.out]), rfl⟩
theorem implLimit_any (n : Int) (w : World) :
    Calls Try.prog 33 #[.int .i64 n] w fun e w' => e = .returned (.bool (limitOk n)) ∧ w' = w := by
  by_cases h1 : -1 ≤ n
  · by_cases h2 : n ≤ 1000
    · have HF : Hid (limitOk n = true) := by show _ = _; unfold limitOk; rw [decide_eq_true h1, decide_eq_true h2]; rfl
      go_enter Try.func33, Try.ntmps33
      go_wp2
      go_ret
      exact ⟨ret_bool HF.out.symm, rfl⟩
    · have HF : Hid (limitOk n = false) := by show _ = _; unfold limitOk; rw [decide_eq_false h2]; simp
      go_enter Try.func33, Try.ntmps33
      go_wp2
      go_ret
      exact ⟨ret_bool HF.out.symm, rfl⟩
  · have HF : Hid (limitOk n = false) := by show _ = _; unfold limitOk; rw [decide_eq_false h1]; rfl
    go_enter Try.func33, Try.ntmps33
    go_wp2
    go_ret
    exact ⟨ret_bool HF.out.symm, rfl⟩
theorem implColNone_any (s : ByteArray) (m : Int) (w : World) (hs : s.size ≤ 1048576) (hm : MaxL m w) :
    Calls Try.prog 48 #[.string s] w fun e w' => e = .returned (.bool (colNone s)) ∧ Below w.heap.size w w' := by
  by_cases h : s.size = 0
  · obtain rfl := ba_empty h
    go_enter Try.func48, Try.ntmps48
    go_wp2
    go_ret
    exact ⟨ret_bool rfl, Below.refl _ _⟩
  · have HC := hide (implCol_any s m w hs hm)
    have HF : Hid (colNone s = colOk s) := by show _ = _; unfold colNone; rw [decide_eq_false h]; rfl
    have hne : s.toList.isEmpty = false := by rw [tl_empty, decide_eq_false h]
    go_enter Try.func48, Try.ntmps48
    go_wp2_with (go_at_call 45; refine HC.out.mono ?_; rintro e w1 ⟨rfl, hb1⟩)
    go_ret
    exact ⟨ret_bool (by rw [HF.out]), hb1⟩
end Go.Proofs.Yteanieiphpehcaa
