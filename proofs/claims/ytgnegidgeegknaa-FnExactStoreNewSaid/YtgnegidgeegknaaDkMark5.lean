/-
  Contract: a marked disk is looked at again.
-/
import Derived.Test.YtgnegidgeegknaaDkMark2
import Derived.Test.YtgnegidgeegknaaDkMark3
import Derived.Test.YtgnegidgeegknaaDkMark4
namespace Go.Proofs.Ytgnegidgeegknaa
open Go.RowKit
set_option maxRecDepth 100000

set_option maxHeartbeats 4000000 in
theorem heldDisk_own (base : Nat) (s c : Value) (d : Dk) (w : World) (hc : dkFits d) (h : OwnD base s c (mDk d) w) :
    Calls Try.prog 19 #[.agg #[s, c], .int .i64 1] w fun e w' => e = .returned (.int .i64 ((cntD d : Nat) : Int)) ∧ Below w.heap.size w w' := by
  have hc1 := hc.1
  have hc2 := hc.2
  obtain ⟨q1, hq1⟩ : ∃ q, q = 1 + d.secs.length := ⟨_, rfl⟩
  have HM : Hid (cntD d = q1 + 2 * d.cache.length) := by rw [hq1]; rfl
  have h1 : OwnS base s (mStrs 1 d.secs.length) w := by have := h.secs; unfold mDk at this; exact this
  have h2 : OwnW base c (mWrs q1 d.cache.length) w := by have := h.cache; unfold mDk at this; rw [hq1]; exact this
  have HC1 := hide (fun (W : World) (hW : Below w.heap.size w W) => show Calls Try.prog 47 #[s, .int .i64 1] W fun e w' => e = .returned (.int .i64 (q1 : Int)) ∧ Below W.heap.size W w' by rw [hq1]; exact heldStringS_mk base s d.secs.length 1 W (by omega) (by omega) (owns_below h1 hW))
  have HC2 := hide (fun (W : World) (hW : Below w.heap.size w W) => heldWriteS_mk base c d.cache.length q1 W (by omega) (by omega) (owns_below h2 hW))
  obtain ⟨so, p, es⟩ := ownS_shape h1
  obtain ⟨co, q, ec⟩ := ownW_shape h2
  rw [mStrs_len] at es
  rw [mWrs_len] at ec
  subst es ec
  obtain ⟨ss, cs⟩ := d
  simp only at *
  have BA := hide ((Below.refl w.heap.size w).alloc (Nat.le_refl _) (.cells #[.slice so ss.length p, .slice co cs.length q] 25))
  have HX0 := hide (heap_alloc_new w (.cells #[.slice so ss.length p, .slice co cs.length q] 25))
  have HZ : Hid ((w.alloc (.cells #[.slice so ss.length p, .slice co cs.length q] 25)).heap.size = w.heap.size + 1) := by show _ = _; simp
  have hn1 : ¬ ((q1 : Int) < 0) := by omega
  have hn2 : ¬ (((q1 + 2 * cs.length : Nat) : Int) < 0) := by omega
  clear h h1 h2 hc hq1 hc1 hc2
  generalize q1 + 2 * cs.length = q2 at *
  go_enter Try.func19, Try.ntmps19
  go_wp2_with fail
  refine (HC1.out _ BA.out).mono ?_
  generalize w.alloc (.cells #[.slice so ss.length p, .slice co cs.length q] 25) = W0 at *
  rintro e w1 ⟨rfl, g1⟩
  have HX1 := hide ((g1.block w.heap.size (by rw [HZ.out]; omega)).trans HX0.out)
  have B1 := hide (BA.out.trans (g1.mono BA.out.size))
  clear g1 HX0 BA HC1 HZ
  obtain ⟨x0, x1, xf⟩ := cells2 HX1.out
  go_wp2_with fail
  refine (HC2.out _ B1.out).mono ?_
  rintro e w2 ⟨rfl, g2⟩
  have B2 := hide (B1.out.trans (g2.mono B1.out.size))
  clear g2 HX1 B1 HC2 x0 x1 xf
  go_wp2
  go_ret
  exact ⟨by rw [HM.out]; rfl, B2.out⟩
end Go.Proofs.Ytgnegidgeegknaa
