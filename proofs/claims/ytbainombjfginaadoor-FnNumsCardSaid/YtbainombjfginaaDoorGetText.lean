/-
  Contracts: readText and GetText of the program.
-/
import Derived.Test.YtbainombjfginaaDoorGetNum
import Derived.Test.YtbainombjfginaaDoorJoin
namespace Go.Proofs.YtbainombjfginaaDoor
open Go.RowKit

theorem rd_count : ∀ (l : List UInt8) (k u : Nat), (rd k u l).2.1 ≤ k + l.length
  | [], k, u => by simp [rd]
  | b :: l, k, u => by
    unfold rd
    split
    · simp
    · split
      · split
        · simp
        · simp
      · have := rd_count l (k + 1) (u + b.toNat % 128 * 2 ^ (7 * k)); simp; omega
/-- What is behind a number that is there lies within the text. -/
theorem behind_le (s : ByteArray) (p : Nat) (h : (rdAt s.data.toList p).2.2 = 0) : 0 ≤ behind p (rdAt s.data.toList p) ∧ behind p (rdAt s.data.toList p) ≤ s.size := by
  unfold behind
  rw [if_pos h]
  have hc := rd_count (s.data.toList.drop p) 0 0
  rw [List.length_drop, len_data] at hc
  have hp : p ≤ s.size := by
    rcases Nat.lt_or_ge s.size p with hlt | hge
    · unfold rdAt at h
      rw [drop_none _ _ (by omega)] at h
      simp [rd] at h
    · exact hge
  have hc' : (rdAt s.data.toList p).2.1 ≤ s.size - p := by unfold rdAt; omega
  omega

/-- The text that stands behind a number that was read: the text, the place behind it, the code. -/
def textOf (s : ByteArray) (n q : Int) (c : Nat) : ByteArray × Int × Nat :=
  if ¬ c = 0 then (ByteArray.empty, 0, c) else if n < 0 ∨ 20000 < n then (ByteArray.empty, 0, 3) else if (s.size : Int) - q < n then (ByteArray.empty, 0, 4)
  else (s.extract q.toNat (q + n).toNat, q + n, 0)

theorem ret3t {t t' : ByteArray} {b b' : Int} {v v' : Value} (h1 : t = t') (h2 : b = b') (h3 : v = v') : Ending.returned (.tuple #[.string t, .int .i64 b, v]) = .returned (.tuple #[.string t', .int .i64 b', v']) := by rw [h1, h2, h3]

set_option maxRecDepth 100000 in
set_option maxHeartbeats 2000000 in
theorem readText_any (s : ByteArray) (p : Nat) (hs : s.size ≤ 20000) (n q : Int) (c : Nat) (hn : n = (rdAt s.data.toList p).1) (hq : q = behind p (rdAt s.data.toList p)) (hc : c = (rdAt s.data.toList p).2.2) (w : World) :
    Calls Tryd.prog 29 #[.string s, .int .i64 p] w fun e w' => e = .returned (.tuple #[.string (textOf s n q c).1, .int .i64 (textOf s n q c).2.1, errV (textOf s n q c).2.2]) ∧ Below w.heap.size w w' := by
  have hrd := readNum_any s p hs
  have hbl : c = 0 → 0 ≤ q ∧ q ≤ s.size := fun h => by rw [hq]; exact behind_le s p (by rw [← hc]; exact h)
  rw [← hn, ← hq, ← hc] at hrd
  have HR : Hid (∀ w, Calls Tryd.prog 23 #[.string s, .int .i64 p] w fun e w' => e = .returned (.tuple #[.int .i64 n, .int .i64 q, errV c]) ∧ w' = w) := hrd
  clear hrd hn hq hc
  by_cases h0 : c = 0
  · obtain ⟨hq0, hq1⟩ := hbl h0
    have HR0 : Hid (∀ w, Calls Tryd.prog 23 #[.string s, .int .i64 p] w fun e w' => e = .returned (.tuple #[.int .i64 n, .int .i64 q, .nilIface]) ∧ w' = w) := by
      have h := HR.out; rw [h0] at h; exact h
    clear HR hbl
    by_cases h1 : n < 0
    · have H : Hid (textOf s n q c = (ByteArray.empty, 0, 3)) := by show _ = _; unfold textOf; rw [if_neg (by simp [h0]), if_pos (Or.inl h1)]
      go_enter Tryd.func29, Tryd.ntmps29
      go_wp2_with fail
      refine (HR0.out _).mono ?_
      rintro e w0 ⟨rfl, rfl⟩
      go_wp2
      go_ret3
      exact ⟨by rw [H.out]; rfl, Below.refl _ _⟩
    by_cases h2 : 20000 < n
    · have H : Hid (textOf s n q c = (ByteArray.empty, 0, 3)) := by show _ = _; unfold textOf; rw [if_neg (by simp [h0]), if_pos (Or.inr h2)]
      go_enter Tryd.func29, Tryd.ntmps29
      go_wp2_with fail
      refine (HR0.out _).mono ?_
      rintro e w0 ⟨rfl, rfl⟩
      go_wp2
      go_ret3
      exact ⟨by rw [H.out]; rfl, Below.refl _ _⟩
    by_cases h3 : (s.size : Int) - q < n
    · have H : Hid (textOf s n q c = (ByteArray.empty, 0, 4)) := by show _ = _; unfold textOf; rw [if_neg (by simp [h0]), if_neg (by omega), if_pos h3]
      go_enter Tryd.func29, Tryd.ntmps29
      go_wp2_with fail
      refine (HR0.out _).mono ?_
      rintro e w0 ⟨rfl, rfl⟩
      go_wp2
      go_ret3
      exact ⟨by rw [H.out]; rfl, Below.refl _ _⟩
    have H : Hid (textOf s n q c = (s.extract q.toNat (q + n).toNat, q + n, 0)) := by show _ = _; unfold textOf; rw [if_neg (by simp [h0]), if_neg (by omega), if_neg h3]
    have hz : (s.extract q.toNat (q + n).toNat).size ≤ 20000 := by simp; omega
    have h4 : q ≤ q + n := by omega
    have h5 : q + n ≤ s.size := by omega
    clear h0
    go_enter Tryd.func29, Tryd.ntmps29
    go_wp2_with fail
    refine (HR0.out _).mono ?_
    rintro e w0 ⟨rfl, rfl⟩
    go_wp2_with fail
    refine (join1 (s.extract q.toNat (q + n).toNat) _ _ _ (by omega) (by simp)).mono ?_
    rintro e w2 ⟨rfl, hb2⟩
    go_wp2
    go_ret3
    exact ⟨by rw [H.out]; rfl, ((Below.refl _ _).alloc (Nat.le_refl _) _).trans (hb2.mono (by simp))⟩
  · have H : Hid (textOf s n q c = (ByteArray.empty, 0, c)) := if_pos h0
    have HR0 : Hid (∀ w, Calls Tryd.prog 23 #[.string s, .int .i64 p] w fun e w' => e = .returned (.tuple #[.int .i64 n, .int .i64 q, .iface 59 (.agg #[.int .i64 c])]) ∧ w' = w) := by
      have h := HR.out; unfold errV at h; rw [if_neg h0] at h; exact h
    have HE : Hid (errV c = .iface 59 (.agg #[.int .i64 c])) := if_neg h0
    clear HR hbl h0
    go_enter Tryd.func29, Tryd.ntmps29
    go_wp2_with fail
    refine (HR0.out _).mono ?_
    rintro e w0 ⟨rfl, rfl⟩
    go_wp2
    go_ret3
    exact ⟨ret3t (by rw [H.out]; rfl) (by rw [H.out]) (by rw [H.out]; exact HE.out.symm), Below.refl _ _⟩
end Go.Proofs.YtbainombjfginaaDoor
