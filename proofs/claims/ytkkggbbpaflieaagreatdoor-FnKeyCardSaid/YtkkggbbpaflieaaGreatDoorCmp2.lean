/-
  Contracts: two lists of values held against each other.
-/
import Derived.Test.YtkkggbbpaflieaaGreatDoorCmp
namespace Go.Proofs.YtkkggbbpaflieaaGreatDoor
open Go.RowKit

set_option maxRecDepth 100000 in
set_option maxHeartbeats 2000000 in
theorem compareInner_any (a b : Val) (ha : vRight a = true) (hb : vRight b = true) (w : World) :
    Calls Tryz.prog 23 #[innerV a, innerV b] w fun e w' => e = .returned (.int .i64 (cmpV a b)) ∧ Below w.heap.size w w' := by
  have HO : Hid (or3 (cmpI a.kind b.kind) (cmpI a.num b.num) (cmpB a.text.data.toList b.text.data.toList) = cmpV a b) := or3_cmpV a b
  have h1 := fun w => fromInner_right a ha w
  have h2 := fun w => fromInner_right b hb w
  obtain ⟨k, n, t⟩ := a
  obtain ⟨k', n', t'⟩ := b
  simp only at h1 h2 HO
  generalize innerV ⟨k, n, t⟩ = x at *
  generalize innerV ⟨k', n', t'⟩ = y at *
  generalize cmpV ⟨k, n, t⟩ ⟨k', n', t'⟩ = r at *
  clear ha hb
  have H1 : Hid (∀ w, Calls Tryz.prog 30 #[x] w fun e w' => e = .returned (.agg #[.int .i64 k, .int .i64 n, .string t]) ∧ Below w.heap.size w w') := h1
  have H2 : Hid (∀ w, Calls Tryz.prog 30 #[y] w fun e w' => e = .returned (.agg #[.int .i64 k', .int .i64 n', .string t']) ∧ Below w.heap.size w w') := h2
  clear h1 h2
  go_enter Tryz.func23, Tryz.ntmps23
  go_wp2_with fail
  refine (H1.out _).mono ?_
  rintro e w1 ⟨rfl, hb1⟩
  go_wp2_with fail
  refine (H2.out _).mono ?_
  rintro e w2 ⟨rfl, hb2⟩
  have hb3 := hb1.trans (hb2.mono hb1.size)
  have hz := hb3.size
  clear hb1 hb2 H1 H2
  go_wp2
  go_region_held3 (fun W => W.cell? ⟨w2.heap.size, 0, none⟩ = some (.int .i64 k) ∧ W.cell? ⟨w2.heap.size, 1, none⟩ = some (.int .i64 n) ∧ W.cell? ⟨w2.heap.size, 2, none⟩ = some (.string t) ∧ W.cell? ⟨w2.heap.size + 1, 0, none⟩ = some (.int .i64 k') ∧ W.cell? ⟨w2.heap.size + 1, 1, none⟩ = some (.int .i64 n') ∧ W.cell? ⟨w2.heap.size + 1, 2, none⟩ = some (.string t')) (go_keep) (first | (go_at_call 39; refine (cmpInt64_any _ _ _).mono ?_; rintro e w3 ⟨rfl, rfl⟩) | (go_at_call 40; refine (cmpString_any _ _ _).mono ?_; rintro e w3 ⟨rfl, rfl⟩) | (go_at_call 38; refine (or_any _ (cmpI k k') (cmpI n n') (cmpB t.data.toList t'.data.toList) _ ?q0 ?q1 ?q2).mono ?_; (case q0 => go_simp); (case q1 => go_simp); (case q2 => go_simp); rintro e w3 ⟨rfl, rfl⟩))
  all_goals
    go_wp2
    go_ret
    exact ⟨ret_int HO.out, (((hb3.alloc hz _).alloc (by simp; omega) _).drew).alloc (by simp; omega) _⟩
end Go.Proofs.YtkkggbbpaflieaaGreatDoor
