/-
  KeyBytes at all values, and the law on it.
-/
import Derived.Test.YtffpjklceekijaaKeyS
import Derived.Shelf.Vars
namespace Go.Proofs.Ytffpjklceekijaa
open Go.RowKit

theorem maxLen_some {w : World} (hsh : w.ShapedOpen Try.prog) : ∃ m, w.cell? ⟨0, 0, none⟩ = some (.int .i64 m) :=
  cell_of_shapedOpen_int (g := 0) (t := 3) (zero := #[.int .i64 0]) hsh (of_decide_eq_true (by kernel_rfl)) (by kernel_rfl) rfl (by kernel_rfl) (by kernel_rfl) Try.underlying3
theorem implKeyBytes_any (ao : Option Addr) (cap : Nat) (vs : List Val) (w : World) (hl : vs.length ≤ maxLen) (ha : ValRow w w.heap.size ao vs) (m : Int) (hm : w.cell? ⟨0, 0, none⟩ = some (.int .i64 m)) :
    Calls Try.prog 19 #[.slice ao vs.length cap] w fun e w' => e = .returned (.string (keyOf vs)) ∧ Below w.heap.size w w' := by
  cases hv : vsRight vs with
  | true =>
    have e : keyOf vs = mkS (keyL vs) := if_pos hv
    rw [e]
    exact implKeyBytes_right ao cap vs w hv ha m hm
  | false =>
    have HF : Hid (keyOf vs = ByteArray.empty) := if_neg (by rw [hv]; simp)
    have HA : Hid (ValRow w w.heap.size ao vs) := ha
    clear ha hm
    go_enter Try.func19, Try.ntmps19
    go_wp2_with fail
    refine (toInners_all w.heap.size ao cap vs _ (Nat.le_refl _) hl HA.out).mono ?_
    rw [hv]
    rintro e w1 ⟨hb1, b1, n1, c1, rfl⟩
    go_wp2
    go_ret
    exact ⟨ret_str (by rw [HF.out]; rfl), hb1⟩
theorem specKeyBytes_any (ao : Option Addr) (cap : Nat) (vs : List Val) (w : World) (hl : vs.length ≤ maxLen) (ha : ValRow w w.heap.size ao vs) :
    Calls Try.prog 18 #[.slice ao vs.length cap] w fun e w' => e = .returned (.string (keyOf vs)) ∧ Below w.heap.size w w' := by
  have hl' := hl
  unfold maxLen at hl'
  have HA : Hid (ValRow w w.heap.size ao vs) := ha
  clear ha
  by_cases h4 : 400 < vs.length
  · have HF : Hid (keyOf vs = ByteArray.empty) := if_neg (fun h => by have := (vsRight_len h).1; omega)
    go_enter Try.func18, Try.ntmps18
    go_wp2
    go_ret
    exact ⟨ret_str (by rw [HF.out]; rfl), Below.refl _ _⟩
  cases hv : vsRight vs with
  | false =>
    have HF : Hid (keyOf vs = ByteArray.empty) := if_neg (by rw [hv]; simp)
    go_enter Try.func18, Try.ntmps18
    go_wp2_with fail
    refine (specValuesRight_any w.heap.size ao cap vs _ (Nat.le_refl _) hl HA.out).mono ?_
    rw [hv]
    rintro e w1 ⟨rfl, hb1⟩
    go_wp2
    go_ret
    exact ⟨ret_str (by rw [HF.out]; rfl), hb1⟩
  | true =>
    have HF : Hid (keyOf vs = mkS (keyL vs)) := if_pos hv
    go_enter Try.func18, Try.ntmps18
    go_wp2_with fail
    refine (specValuesRight_any w.heap.size ao cap vs _ (Nat.le_refl _) hl HA.out).mono ?_
    rw [hv]
    rintro e w1 ⟨rfl, hb1⟩
    have R1 : Hid (ValRow w1 w1.heap.size ao vs) := (HA.out.kept hb1).mono hb1.size
    go_wp2_with fail
    refine (l02Key_any ao cap vs _ hv R1.out).mono ?_
    rintro e w2 ⟨rfl, hb2⟩
    go_wp2
    go_ret
    exact ⟨ret_str (by rw [HF.out]), hb1.trans (hb2.mono hb1.size)⟩
set_option maxHeartbeats 1000000 in
theorem lawKeyBytes (v0 : Value) (w : World) (h0 : IsVals w v0) (hsh : w.ShapedOpen Try.prog) :
    Calls Try.prog 6 #[v0] w fun e w' => e = .returned (.bool true) ∧ Below w.heap.size w w' := by
  obtain ⟨m, hm⟩ : ∃ m, w.cell? ⟨0, 0, none⟩ = some (.int .i64 m) := maxLen_some hsh
  have hlt : 0 < w.heap.size := block_lt_of_cell hm
  have HM : Hid (∀ W, Below w.heap.size w W → W.cell? ⟨0, 0, none⟩ = some (.int .i64 m)) := fun W hb => (hb.cell (p := ⟨0, 0, none⟩) hlt).trans hm
  obtain ⟨ao, cap, vs, rfl, hl, hr⟩ := h0
  have HR : Hid (ValRow w w.heap.size ao vs) := hr
  clear hr hm hsh
  go_enter Try.func6, Try.ntmps6
  go_wp2_with fail
  refine (szValueS_any w.heap.size ao cap vs 1048576 _ (Nat.le_refl _) hl HR.out (by omega) (by omega)).mono ?_
  rintro e w1 ⟨r, rfl, hr1, hcase, hb1⟩
  have B1 : Hid (Below w.heap.size w w1) := hb1
  clear hb1
  rcases hcase with hneg | ⟨hr0, hf⟩
  · go_wp2
    go_ret
    exact ⟨rfl, B1.out⟩
  · have hn : vs.length ≤ 1048576 := by unfold szFits at hf; omega
    clear hf
    go_wp2_with fail
    refine (toValueS_any w.heap.size ao cap vs _ (B1.out).size hn ((HR.out).kept B1.out)).mono ?_
    rintro e w2 ⟨b2, c2, rfl, hr2, hb2⟩
    have B2 : Hid (Below w.heap.size w w2) := (B1.out).trans (hb2.mono (B1.out).size)
    have R2 : Hid (ValRow w2 w2.heap.size b2 vs) := hr2
    clear hr2 hb2 B1
    go_wp2_with fail
    refine (specKeyBytes_any b2 c2 vs _ hl R2.out).mono ?_
    rintro e w3 ⟨rfl, hb3⟩
    have B3 : Hid (Below w.heap.size w w3) := (B2.out).trans (hb3.mono (B2.out).size)
    clear hb3 B2 R2
    go_wp2_with fail
    refine (toValueS_any w.heap.size ao cap vs _ (B3.out).size hn ((HR.out).kept B3.out)).mono ?_
    rintro e w4 ⟨b4, c4, rfl, hr4, hb4⟩
    have B4 : Hid (Below w.heap.size w w4) := (B3.out).trans (hb4.mono (B3.out).size)
    have R4 : Hid (ValRow w4 w4.heap.size b4 vs) := hr4
    clear hr4 hb4 B3
    go_wp2_with fail
    refine (implKeyBytes_any b4 c4 vs _ hl R4.out m (HM.out _ B4.out)).mono ?_
    rintro e w5 ⟨rfl, hb5⟩
    have B5 : Hid (Below w.heap.size w w5) := (B4.out).trans (hb5.mono (B4.out).size)
    have R5 : Hid (ValRow w5 w5.heap.size b4 vs) := ((R4.out).kept hb5).mono hb5.size
    clear hb5 B4 R4
    generalize keyOf vs = q
    go_wp2_with fail
    refine (toValueS_any w.heap.size ao cap vs _ (B5.out).size hn ((HR.out).kept B5.out)).mono ?_
    rintro e w6 ⟨b6, c6, rfl, hr6, hb6⟩
    have B6 : Hid (Below w.heap.size w w6) := (B5.out).trans (hb6.mono (B5.out).size)
    have R6 : Hid (ValRow w6 w6.heap.size b6 vs) := hr6
    have R46 : Hid (ValRow w6 w6.heap.size b4 vs) := ((R5.out).kept hb6).mono hb6.size
    clear hr6 hb6 B5 R5
    go_wp2_with fail
    refine (eqValueS_same b4 c4 b6 c6 vs _ hn R46.out R6.out).mono ?_
    rintro e w7 ⟨rfl, hb7⟩
    have B7 : Hid (Below w.heap.size w w7) := (B6.out).trans (hb7.mono (B6.out).size)
    clear hb7
    go_wp2
    go_ret
    exact ⟨rfl, B7.out⟩
end Go.Proofs.Ytffpjklceekijaa
