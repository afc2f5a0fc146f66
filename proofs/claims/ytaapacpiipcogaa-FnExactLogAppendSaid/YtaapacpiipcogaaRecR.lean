/-
  Contracts: is a record right, of both; the bytes of a record, of both.
-/
import Derived.Test.YtaapacpiipcogaaRecP
import Derived.Test.YtaapacpiipcogaaBase
import Derived.Deep.RegionHeld3
import Derived.Deep.DrawnRows
namespace Go.Proofs.Ytaapacpiipcogaa
open Go.RowKit
set_option maxRecDepth 100000

theorem blk_lt {W : World} {g : Nat} {o : Obj} (h : W.heap[g]? = some o) : g < W.heap.size := (Array.getElem?_eq_some_iff.1 h).1
theorem seqRight_any (q : Int) (w : World) : Calls Try.prog 46 #[.int .i64 q] w fun e w' => e = .returned (.bool (seqOk q)) ∧ w' = w := by
  by_cases h1 : 1 ≤ q
  · go_enter Try.func46, Try.ntmps46
    go_wp2
    go_ret
    exact ⟨ret_bool (by simp [seqOk, h1]), rfl⟩
  · go_enter Try.func46, Try.ntmps46
    go_wp2
    go_ret
    exact ⟨ret_bool (by simp [seqOk]; intros; omega), rfl⟩
theorem l08Seq_any (q : Int) (w : World) : Calls Try.prog 45 #[.int .i64 q] w fun e w' => e = .returned (.bool (seqOk q)) ∧ w' = w := by
  by_cases h1 : 1 ≤ q
  · go_enter Try.func45, Try.ntmps45
    go_wp2
    go_ret
    exact ⟨ret_bool (by simp [seqOk, h1]), rfl⟩
  · go_enter Try.func45, Try.ntmps45
    go_wp2
    go_ret
    exact ⟨ret_bool (by simp [seqOk]; intros; omega), rfl⟩
theorem implRecordRight_any (q : Int) (t : ByteArray) (w : World) : Calls Try.prog 20 #[.agg #[.int .i64 q, .string t]] w fun e w' => e = .returned (.bool (recRight q t)) ∧ Below w.heap.size w w' := by
  have B0 := hide ((Below.refl w.heap.size w).alloc (Nat.le_refl _) (.cells #[.int .i64 q, .string t] 43))
  have X0 := hide (heap_alloc_new w (.cells #[.int .i64 q, .string t] 43))
  obtain ⟨x0, x1, xf⟩ := cells2 X0.out
  have HS := hide (seqRight_any q)
  have HR : Hid (recRight q t = (seqOk q && decide (t.size ≤ 6000))) := rfl
  cases hs : seqOk q with
  | false =>
    rw [hs] at HS HR
    go_enter Try.func20, Try.ntmps20
    go_wp2_with (go_at_call 46; refine (HS.out _).mono ?_; rintro e w1 ⟨rfl, rfl⟩)
    go_ret
    exact ⟨ret_bool (by rw [HR.out]; rfl), B0.out⟩
  | true =>
    rw [hs] at HS HR
    go_enter Try.func20, Try.ntmps20
    go_wp2_with (go_at_call 46; refine (HS.out _).mono ?_; rintro e w1 ⟨rfl, rfl⟩)
    go_ret
    exact ⟨ret_bool (by rw [HR.out]; simp; omega), B0.out⟩
theorem specRecordRight_any (q : Int) (t : ByteArray) (w : World) : Calls Try.prog 18 #[.agg #[.int .i64 q, .string t]] w fun e w' => e = .returned (.bool (recRight q t)) ∧ Below w.heap.size w w' := by
  have B0 := hide ((Below.refl w.heap.size w).alloc (Nat.le_refl _) (.cells #[.int .i64 q, .string t] 43))
  have X0 := hide (heap_alloc_new w (.cells #[.int .i64 q, .string t] 43))
  obtain ⟨x0, x1, xf⟩ := cells2 X0.out
  have HS := hide (l08Seq_any q)
  have HR : Hid (recRight q t = (seqOk q && decide (t.size ≤ 6000))) := rfl
  cases hs : seqOk q with
  | false =>
    rw [hs] at HS HR
    go_enter Try.func18, Try.ntmps18
    go_wp2_with (go_at_call 45; refine (HS.out _).mono ?_; rintro e w1 ⟨rfl, rfl⟩)
    go_ret
    exact ⟨ret_bool (by rw [HR.out]; rfl), B0.out⟩
  | true =>
    rw [hs] at HS HR
    go_enter Try.func18, Try.ntmps18
    go_wp2_with (go_at_call 45; refine (HS.out _).mono ?_; rintro e w1 ⟨rfl, rfl⟩)
    go_ret
    exact ⟨ret_bool (by rw [HR.out]; simp; omega), B0.out⟩
end Go.Proofs.Ytaapacpiipcogaa
