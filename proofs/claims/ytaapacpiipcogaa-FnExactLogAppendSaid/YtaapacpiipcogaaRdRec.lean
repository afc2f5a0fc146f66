/-
  A law's argument that is a record; its size; it as the program's own.
-/
import Derived.Test.YtaapacpiipcogaaDkRead
import Derived.Test.YtaapacpiipcogaaRdInt
import Derived.Test.YtaapacpiipcogaaRecP
namespace Go.Proofs.Ytaapacpiipcogaa
open Go.RowKit Go.ChangeShapes Go.WideShapes
set_option maxRecDepth 100000

section
variable {H : Type} {enc : TypeId × Value → H} {W : World}
theorem rdRec {base : Nat} {v : Value} {d : DataW H} {p : List MemPlace} (hv : Value.okWide Try.prog W .any base 40 v) (h : DataW.Trod enc Try.prog W 0 (fun _ => true) true 40 v d p) : ∃ (q : Int) (t : ByteArray), v = .agg #[.int .i64 q, .string t] ∧ wI64 q ∧ t.size ≤ maxLen := by
  obtain ⟨fuel, hf⟩ := h
  obtain ⟨cs, rfl, _⟩ := okWide_struct Try.underlying40 hv
  have hcv : (Value.agg cs).cells.toList = cs.toList := by simp [Value.cells]
  rw [hcv] at hf
  obtain ⟨ys, n, hfu, _, hl, hlen, hx⟩ := DataW.trod_struct Try.underlying40 hf
  have hC : Try.prog.cellsOf 40 = 2 := by kernel_rfl
  rw [hC] at hl
  obtain ⟨cl, rfl⟩ : ∃ cl : List Value, cs = cl.toArray := ⟨cs.toList, by simp⟩
  simp only at hl hx
  match ys, hlen, cl, hl with
  | [y0, y1], _, [c0, c1], _ =>
    have h0 := hx 0 _ rfl
    have h1 := hx 1 _ rfl
    have cI : Try.prog.cellsOf 2 = 1 := by kernel_rfl
    have cS : Try.prog.cellsOf 9 = 1 := by kernel_rfl
    have e0 : (([c0, c1] : List Value).drop 0).take (Try.prog.cellsOf 2) = [c0] := by rw [cI]; rfl
    have e1 : (([c0, c1] : List Value).drop 1).take (Try.prog.cellsOf 9) = [c1] := by rw [cS]; rfl
    have h0' : DataW.trod enc Try.prog W 0 (fun _ => true) true n 2 [c0] = some y0 := by rw [← e0]; exact h0
    have h1' : DataW.trod enc Try.prog W 0 (fun _ => true) true n 9 [c1] = some y1 := by rw [← e1]; exact h1
    obtain ⟨a, ea, _, wa⟩ := DataW.trod_int Try.underlying2 h0'
    obtain ⟨t, et, _, wt⟩ := DataW.trod_string Try.underlying9 h1'
    simp only [List.cons.injEq, and_true] at ea et
    subst ea et
    exact ⟨a, t, rfl, bounds_i64 wa, wt⟩
end
def szRec (t : ByteArray) (left : Int) : Int := if left - t.size < 0 then -1 else left - t.size
theorem szRecord_any (q : Int) (t : ByteArray) (left : Int) (ht : t.size ≤ maxLen) (h0 : -1 ≤ left) (h1 : left ≤ 1048576) (w : World) :
    Calls Try.prog 17 #[.agg #[.int .i64 q, .string t], .int .i64 left] w fun e w' => e = .returned (.int .i64 (szRec t left)) ∧ Below w.heap.size w w' := by
  have B0 := hide ((Below.refl w.heap.size w).alloc (Nat.le_refl _) (.cells #[.int .i64 q, .string t] 40))
  obtain ⟨x0, x1, xf⟩ := cells2 (heap_alloc_new w (.cells #[.int .i64 q, .string t] 40))
  have ht' : t.size ≤ 9223372036854775807 := by unfold maxLen at ht; omega
  clear ht
  by_cases hn : left - t.size < 0
  · have HR : Hid (szRec t left = -1) := if_pos hn
    go_enter Try.func17, Try.ntmps17
    go_wp2
    go_ret
    exact ⟨ret_int (by rw [HR.out]), B0.out⟩
  · have HR : Hid (szRec t left = left - t.size) := if_neg hn
    go_enter Try.func17, Try.ntmps17
    go_wp2
    go_ret
    exact ⟨ret_int (by rw [HR.out]), B0.out⟩
theorem toRecord_any (q : Int) (t : ByteArray) (w : World) :
    Calls Try.prog 19 #[.agg #[.int .i64 q, .string t]] w fun e w' => e = .returned (.agg #[.int .i64 q, .string t]) ∧ Below w.heap.size w w' := by
  go_enter Try.func19, Try.ntmps19
  go_wp2
  refine bodyPost_ret (v := .agg #[.int .i64 q, .string t]) (by simp [results, Try.results19, go_sem]) rfl ⟨rfl, ?_⟩
  exact (((Below.refl _ _).alloc (Nat.le_refl _) _).alloc (by simp) _).alloc (by simp; omega) _
end Go.Proofs.Ytaapacpiipcogaa
