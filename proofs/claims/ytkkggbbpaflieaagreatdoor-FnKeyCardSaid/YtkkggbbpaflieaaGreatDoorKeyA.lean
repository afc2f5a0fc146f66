/-
  KeyBytes at all values, and the law on it.
-/
import Derived.Test.YtkkggbbpaflieaaGreatDoorKeyS
import Derived.Shelf.Vars
namespace Go.Proofs.YtkkggbbpaflieaaGreatDoor
open Go.RowKit

theorem maxLen_some {w : World} (hsh : w.ShapedOpen Tryz.prog) : ∃ m, w.cell? ⟨1, 0, none⟩ = some (.int .i64 m) :=
  cell_of_shapedOpen_int (g := 1) (t := 3) (zero := #[.int .i64 0]) hsh (of_decide_eq_true (by kernel_rfl)) (by kernel_rfl) rfl (by kernel_rfl) (by kernel_rfl) Tryz.underlying3
theorem implKeyBytes_any (ao : Option Addr) (cap : Nat) (vs : List Val) (w : World) (hl : vs.length ≤ maxLen) (ha : ValRow w w.heap.size ao vs) (m : Int) (hm : w.cell? ⟨1, 0, none⟩ = some (.int .i64 m)) :
    Calls Tryz.prog 5 #[.slice ao vs.length cap] w fun e w' => e = .returned (.string (keyOf vs)) ∧ Below w.heap.size w w' := by
  cases hv : vsRight vs with
  | true =>
    have e : keyOf vs = mkS (keyL vs) := if_pos hv
    rw [e]
    exact implKeyBytes_right ao cap vs w hv ha m hm
  | false =>
    have HF : Hid (keyOf vs = ByteArray.empty) := if_neg (by rw [hv]; simp)
    have HA : Hid (ValRow w w.heap.size ao vs) := ha
    clear ha hm
    go_enter Tryz.func5, Tryz.ntmps5
    go_wp2_with fail
    refine (toInners_all w.heap.size ao cap vs _ (Nat.le_refl _) hl HA.out).mono ?_
    rw [hv]
    rintro e w1 ⟨hb1, b1, n1, c1, rfl⟩
    go_wp2
    go_ret
    exact ⟨ret_str (by rw [HF.out]; rfl), hb1⟩
theorem specKeyBytes_any (ao : Option Addr) (cap : Nat) (vs : List Val) (w : World) (hl : vs.length ≤ maxLen) (ha : ValRow w w.heap.size ao vs) :
    Calls Tryz.prog 6 #[.slice ao vs.length cap] w fun e w' => e = .returned (.string (keyOf vs)) ∧ Below w.heap.size w w' := by
  have hl' := hl
  unfold maxLen at hl'
  have HA : Hid (ValRow w w.heap.size ao vs) := ha
  clear ha
  by_cases h4 : 400 < vs.length
  · have HF : Hid (keyOf vs = ByteArray.empty) := if_neg (fun h => by have := (vsRight_len h).1; omega)
    go_enter Tryz.func6, Tryz.ntmps6
    go_wp2
    go_ret
    exact ⟨ret_str (by rw [HF.out]; rfl), Below.refl _ _⟩
  cases hv : vsRight vs with
  | false =>
    have HF : Hid (keyOf vs = ByteArray.empty) := if_neg (by rw [hv]; simp)
    go_enter Tryz.func6, Tryz.ntmps6
    go_wp2_with fail
    refine (specValuesRight_any w.heap.size ao cap vs _ (Nat.le_refl _) hl HA.out).mono ?_
    rw [hv]
    rintro e w1 ⟨rfl, hb1⟩
    go_wp2
    go_ret
    exact ⟨ret_str (by rw [HF.out]; rfl), hb1⟩
  | true =>
    have HF : Hid (keyOf vs = mkS (keyL vs)) := if_pos hv
    go_enter Tryz.func6, Tryz.ntmps6
    go_wp2_with fail
    refine (specValuesRight_any w.heap.size ao cap vs _ (Nat.le_refl _) hl HA.out).mono ?_
    rw [hv]
    rintro e w1 ⟨rfl, hb1⟩
    have R1 : Hid (ValRow w1 w1.heap.size ao vs) := (HA.out.kept hb1).mono hb1.size
    go_wp2_with fail
    refine (l02Key_any ao cap vs _ hv R1.out).mono ?_
    rintro e w2 ⟨rfl, hb2⟩
    go_wp2
    go_ret
    exact ⟨ret_str (by rw [HF.out]), hb1.trans (hb2.mono hb1.size)⟩
end Go.Proofs.YtkkggbbpaflieaaGreatDoor
