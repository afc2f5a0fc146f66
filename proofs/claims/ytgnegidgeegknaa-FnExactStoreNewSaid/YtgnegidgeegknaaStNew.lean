/-
  Contracts: a new store, and how stores without tables are compared and marked.
-/
import Derived.Test.YtgnegidgeegknaaDkNew
import Derived.Test.YtgnegidgeegknaaDkMark5
namespace Go.Proofs.Ytgnegidgeegknaa
open Go.RowKit
set_option maxRecDepth 100000

theorem eqTableS_nil (w : World) : Calls Try.prog 68 #[.slice none 0 0, .slice none 0 0] w fun e w' => e = .returned (.bool true) ∧ w' = w := by
  go_enter Try.func68, Try.ntmps68
  go_wp2
  go_loop [5] (fun i => i = .int .i64 0) (fun _ => 0)
  case atStart => rfl
  case round =>
    subst hrel
    go_wp2
    go_ret
    exact ⟨rfl, rfl⟩
theorem markTableS_nil (k0 : Nat) (w : World) : Calls Try.prog 69 #[.slice none 0 0, .int .i64 k0] w fun e w' => e = .returned (.int .i64 k0) ∧ w' = w := by
  go_enter Try.func69, Try.ntmps69
  go_wp2
  go_loop [1, 5] (fun q i => i = .int .i64 0 ∧ q = .int .i64 k0) (fun _ _ => 0)
  case atStart => exact ⟨rfl, rfl⟩
  case round =>
    obtain ⟨rfl, rfl⟩ := hrel
    go_wp2
    go_ret
    exact ⟨rfl, rfl⟩
theorem heldTableS_nil (k0 : Nat) (w : World) : Calls Try.prog 70 #[.slice none 0 0, .int .i64 k0] w fun e w' => e = .returned (.int .i64 k0) ∧ w' = w := by
  go_enter Try.func70, Try.ntmps70
  go_wp2
  go_loop [1, 5] (fun q i => i = .int .i64 0 ∧ q = .int .i64 k0) (fun _ _ => 0)
  case atStart => exact ⟨rfl, rfl⟩
  case round =>
    obtain ⟨rfl, rfl⟩ := hrel
    go_wp2
    go_ret
    exact ⟨rfl, rfl⟩
set_option maxHeartbeats 2000000 in
theorem eqDb_nil (w : World) : Calls Try.prog 38 #[.agg #[.slice none 0 0], .agg #[.slice none 0 0]] w fun e w' => e = .returned (.bool true) ∧ Below w.heap.size w w' := by
  have B0 := hide (((Below.refl w.heap.size w).alloc (Nat.le_refl _) (.cells #[.slice none 0 0] 28)).alloc (by simp) (.cells #[.slice none 0 0] 28))
  go_enter Try.func38, Try.ntmps38
  go_wp2_with (go_at_call 68; refine (eqTableS_nil _).mono ?_; rintro e w1 ⟨rfl, hw⟩; rw [hw]; clear hw w1)
  go_ret
  exact ⟨rfl, B0.out⟩
set_option maxHeartbeats 2000000 in
theorem markDb_nil (k0 : Nat) (w : World) : Calls Try.prog 39 #[.agg #[.slice none 0 0], .int .i64 k0] w fun e w' => e = .returned (.int .i64 k0) ∧ Below w.heap.size w w' := by
  have B0 := hide ((Below.refl w.heap.size w).alloc (Nat.le_refl _) (.cells #[.slice none 0 0] 28))
  go_enter Try.func39, Try.ntmps39
  go_wp2_with (go_at_call 69; refine (markTableS_nil k0 _).mono ?_; rintro e w1 ⟨rfl, hw⟩; rw [hw]; clear hw w1)
  go_ret
  exact ⟨rfl, B0.out⟩
set_option maxHeartbeats 2000000 in
theorem heldDb_nil (k0 : Nat) (w : World) : Calls Try.prog 40 #[.agg #[.slice none 0 0], .int .i64 k0] w fun e w' => e = .returned (.int .i64 k0) ∧ Below w.heap.size w w' := by
  have B0 := hide ((Below.refl w.heap.size w).alloc (Nat.le_refl _) (.cells #[.slice none 0 0] 28))
  have hn : ¬ ((k0 : Int) < 0) := by omega
  go_enter Try.func40, Try.ntmps40
  go_wp2_with (go_at_call 70; refine (heldTableS_nil k0 _).mono ?_; rintro e w1 ⟨rfl, hw⟩; rw [hw]; clear hw w1)
  go_ret
  exact ⟨rfl, B0.out⟩
theorem set5 {W : World} {g : Nat} {a b c d e x y z u v : Value} {t : TypeId} (h : W.heap[g]? = some (.cells #[a, b, c, d, e] t (0, 0))) :
    (((((W.setCell ⟨g, 0, none⟩ x).setCell ⟨g, 1, none⟩ y).setCell ⟨g, 2, none⟩ z).setCell ⟨g, 3, none⟩ u).setCell ⟨g, 4, none⟩ v).heap[g]? = some (.cells #[x, y, z, u, v] t (0, 0)) := by
  have h1 := heap_setCell_same W g 0 _ t x h
  have h2 := heap_setCell_same _ g 1 _ t y h1
  have h3 := heap_setCell_same _ g 2 _ t z h2
  have h4 := heap_setCell_same _ g 3 _ t u h3
  have h5 := heap_setCell_same _ g 4 _ t v h4
  simpa using h5
theorem res5 {fn : Func} {p : Tmp} (h : fn.results = #[.cell p 30]) (tmps : Array Value) (w : World) (g : Nat) (a b c d e : Value) (hp : tmps.getD p undef = .pointer (some ⟨g, 0, none⟩))
    (hg : w.heap[g]? = some (.cells #[a, b, c, d, e] 30 (0, 0))) : (results fn tmps).run Try.prog w = .ok (.agg #[a, b, c, d, e]) w :=
  results_cell_row h tmps w g 30 #[a, b, c, d, e] (0, 0) _ hp hg Try.underlying30 rfl (by kernel_rfl)
abbrev zStore : Obj := .cells #[.slice none 0 0, .slice none 0 0, .slice none 0 0, .int .i64 0, .int .i64 0] 30
set_option maxHeartbeats 4000000 in
theorem specStoreNew_any (w : World) :
    Calls Try.prog 10 #[] w fun e w' => ∃ s c, e = .returned (.agg #[s, c, .slice none 0 0, .int .i64 1, .int .i64 200]) ∧ OwnD w.heap.size s c (dkNew 700) w' ∧ Below w.heap.size w w' := by
  have HSP := hide (fun (W : World) => specDiskNew_any 700 W)
  have HX := hide (heap_alloc_new w zStore)
  have HB := hide ((Below.refl w.heap.size w).alloc (Nat.le_refl _) zStore)
  have HZ : Hid ((w.alloc zStore).heap.size = w.heap.size + 1) := by show _ = _; simp
  generalize dkNew 700 = d at *
  go_enter Try.func10, Try.ntmps10
  go_wp2_with fail
  refine (HSP.out _).mono ?_
  generalize w.alloc zStore = W0 at *
  rintro e w1 ⟨s1, c1, rfl, o1, b1⟩
  obtain ⟨so1, p1, co1, q1, rfl, rfl⟩ := o1.shape
  have X1 := hide ((b1.block w.heap.size (by rw [HZ.out]; omega)).trans HX.out)
  have O1 := hide o1
  have B1 := hide (HB.out.trans (b1.mono HB.out.size))
  have Z0 := hide (HZ.out)
  obtain ⟨x0, x1, x2, x3, x4, xf⟩ := cells5 X1.out
  clear o1 b1 HX HB
  go_wp2
  refine bodyPost_ret (v := .agg #[_, _, .slice none 0 0, .int .i64 1, .int .i64 200]) (res5 Try.results10 _ _ w.heap.size _ _ _ _ _ rfl (set5 X1.out)) rfl ⟨_, _, rfl, ?_, ?_⟩
  · exact (((((O1.out.set (by rw [Z0.out]; omega)).set (by rw [Z0.out]; omega)).set (by rw [Z0.out]; omega)).set (by rw [Z0.out]; omega)).set (by rw [Z0.out]; omega)).base (by rw [Z0.out]; omega)
  · exact ((((B1.out.setCell (by simp) _).setCell (by simp) _).setCell (by simp) _).setCell (by simp) _).setCell (by simp) _
set_option maxHeartbeats 4000000 in
theorem implStoreNew_any (w : World) :
    Calls Try.prog 11 #[] w fun e w' => ∃ s c, e = .returned (.agg #[s, c, .slice none 0 0, .int .i64 1, .int .i64 200]) ∧ OwnD w.heap.size s c (dkNew 700) w' ∧ Below w.heap.size w w' := by
  have HSP := hide (fun (W : World) => implDiskNew_any 700 W)
  have HX := hide (heap_alloc_new w zStore)
  have HB := hide ((Below.refl w.heap.size w).alloc (Nat.le_refl _) zStore)
  have HZ : Hid ((w.alloc zStore).heap.size = w.heap.size + 1) := by show _ = _; simp
  generalize dkNew 700 = d at *
  go_enter Try.func11, Try.ntmps11
  go_wp2_with fail
  refine (HSP.out _).mono ?_
  generalize w.alloc zStore = W0 at *
  rintro e w1 ⟨s1, c1, rfl, o1, b1⟩
  obtain ⟨so1, p1, co1, q1, rfl, rfl⟩ := o1.shape
  have X1 := hide ((b1.block w.heap.size (by rw [HZ.out]; omega)).trans HX.out)
  have O1 := hide o1
  have B1 := hide (HB.out.trans (b1.mono HB.out.size))
  have Z0 := hide (HZ.out)
  obtain ⟨x0, x1, x2, x3, x4, xf⟩ := cells5 X1.out
  clear o1 b1 HX HB
  go_wp2
  refine bodyPost_ret (v := .agg #[_, _, .slice none 0 0, .int .i64 1, .int .i64 200]) (res5 Try.results11 _ _ w.heap.size _ _ _ _ _ rfl (set5 X1.out)) rfl ⟨_, _, rfl, ?_, ?_⟩
  · exact (((((O1.out.set (by rw [Z0.out]; omega)).set (by rw [Z0.out]; omega)).set (by rw [Z0.out]; omega)).set (by rw [Z0.out]; omega)).set (by rw [Z0.out]; omega)).base (by rw [Z0.out]; omega)
  · exact ((((B1.out.setCell (by simp) _).setCell (by simp) _).setCell (by simp) _).setCell (by simp) _).setCell (by simp) _
end Go.Proofs.Ytgnegidgeegknaa
