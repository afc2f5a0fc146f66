/-
  A value: held against another; and as it came in.
-/
import Derived.Test.YteanieiphpehcaaRdSl
import Derived.Test.YteanieiphpehcaaKeyPlain
import Derived.WalkLawsBesides
namespace Go.Proofs.Yteanieiphpehcaa
open Go.RowKit Go.ChangeShapes Go.WideShapes
set_option maxRecDepth 100000

theorem eqValue_sameQ (k n : Int) (t : ByteArray) (w : World) :
    Calls Try.prog 55 #[.agg #[.int .i64 k, .int .i64 n, .string t], .agg #[.int .i64 k, .int .i64 n, .string t]] w fun e w' => e = .returned (.bool true) ∧ Below w.heap.size w w' := by
  go_enter Try.func55, Try.ntmps55
  go_wp2
  go_ret
  exact ⟨rfl, ((Below.refl _ _).alloc (Nat.le_refl _) _).alloc (by simp) _⟩
section
variable {H : Type} {enc : TypeId × Value → H} {W : World}
theorem trodValQ {base : Nat} {spare : Nat → Bool} {held : Bool} {fuel : Nat} {cs : List Value} {y : DataW H × List MemPlace} (h : DataW.trod enc Try.prog W base spare held fuel 24 cs = some y) :
    ∃ x : Val, cs = [.int .i64 x.kind, .int .i64 x.num, .string x.text] ∧ x.ok ∧ x.text.size ≤ maxLen := by
  obtain ⟨y0, y1, y2, n, _, hl, h0, h1, h2⟩ := Deep.trod_struct3 Try.underlying24 h
  have hC : Try.prog.cellsOf 24 = 3 := by kernel_rfl
  rw [hC] at hl
  match cs, hl with
  | [c0, c1, c2], _ =>
    have cI : Try.prog.cellsOf 2 = 1 := by kernel_rfl
    have cS : Try.prog.cellsOf 9 = 1 := by kernel_rfl
    have e0 : (([c0, c1, c2] : List Value).drop 0).take (Try.prog.cellsOf 2) = [c0] := by rw [cI]; rfl
    have e1 : (([c0, c1, c2] : List Value).drop 1).take (Try.prog.cellsOf 2) = [c1] := by rw [cI]; rfl
    have e2 : (([c0, c1, c2] : List Value).drop 2).take (Try.prog.cellsOf 9) = [c2] := by rw [cS]; rfl
    have h0' : DataW.trod enc Try.prog W base spare held n 2 [c0] = some y0 := by rw [← e0]; exact h0
    have h1' : DataW.trod enc Try.prog W base spare held n 2 [c1] = some y1 := by rw [← e1]; exact h1
    have h2' : DataW.trod enc Try.prog W base spare held n 9 [c2] = some y2 := by rw [← e2]; exact h2
    obtain ⟨a, ea, _, wa⟩ := DataW.trod_int Try.underlying2 h0'
    obtain ⟨b, eb, _, wb⟩ := DataW.trod_int Try.underlying2 h1'
    obtain ⟨t, et, _, wt⟩ := DataW.trod_string Try.underlying9 h2'
    simp only [List.cons.injEq, and_true] at ea eb et
    subst ea eb et
    exact ⟨⟨a, b, t⟩, rfl, ⟨(bounds_i64 wa).1, (bounds_i64 wa).2, (bounds_i64 wb).1, (bounds_i64 wb).2⟩, wt⟩
end
end Go.Proofs.Yteanieiphpehcaa
