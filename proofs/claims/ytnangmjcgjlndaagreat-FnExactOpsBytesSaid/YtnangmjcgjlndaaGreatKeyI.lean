/-
  KeyBytes of the program, at all values.
-/
import Derived.Test.YtnangmjcgjlndaaGreatKeyB
import Derived.Shelf.Vars
namespace Go.Proofs.YtnangmjcgjlndaaGreat
open Go.RowKit

theorem maxLen_some {w : World} (hsh : w.ShapedOpen Tryz.prog) : ∃ m, w.cell? ⟨0, 0, none⟩ = some (.int .i64 m) :=
  cell_of_shapedOpen_int (g := 0) (t := 3) (zero := #[.int .i64 0]) hsh (of_decide_eq_true (by kernel_rfl)) (by kernel_rfl) rfl (by kernel_rfl) (by kernel_rfl) Tryz.underlying3
theorem implKeyBytes_any (ao : Option Addr) (cap : Nat) (vs : List Val) (w : World) (hl : vs.length ≤ maxLen) (ha : ValRow w w.heap.size ao vs) (m : Int) (hm : w.cell? ⟨0, 0, none⟩ = some (.int .i64 m)) :
    Calls Tryz.prog 36 #[.slice ao vs.length cap] w fun e w' => e = .returned (.string (keyOf vs)) ∧ Below w.heap.size w w' := by
  cases hv : vsRight vs with
  | true =>
    have e : keyOf vs = mkS (keyL vs) := if_pos hv
    rw [e]
    exact implKeyBytes_right ao cap vs w hv ha m hm
  | false =>
    have HF : Hid (keyOf vs = ByteArray.empty) := if_neg (by rw [hv]; simp)
    have HA : Hid (ValRow w w.heap.size ao vs) := ha
    clear ha hm
    go_enter Tryz.func36, Tryz.ntmps36
    go_wp2_with fail
    refine (toInners_all w.heap.size ao cap vs _ (Nat.le_refl _) hl HA.out).mono ?_
    rw [hv]
    rintro e w1 ⟨hb1, b1, n1, c1, rfl⟩
    go_wp2
    go_ret
    exact ⟨ret_str (by rw [HF.out]; rfl), hb1⟩
end Go.Proofs.YtnangmjcgjlndaaGreat
