/-
  Contract: a disk is marked.
-/
import Derived.Test.YtgnegidgeegknaaDkMark
import Derived.Test.YtgnegidgeegknaaDkTo2
namespace Go.Proofs.Ytgnegidgeegknaa
open Go.RowKit
set_option maxRecDepth 100000

def mDk (d : Dk) : Dk := ⟨mStrs 1 d.secs.length, mWrs (1 + d.secs.length) d.cache.length⟩
def cntD (d : Dk) : Nat := 1 + d.secs.length + 2 * d.cache.length
theorem apart_ne {u v : Value} (h : u.ownBlock = none ∨ u.ownBlock ≠ v.ownBlock) : v.ownBlock = none ∨ v.ownBlock ≠ u.ownBlock := by
  rcases h with h | h
  · cases hv : v.ownBlock with
    | none => exact .inl rfl
    | some b => exact .inr (by rw [h]; simp)
  · exact .inr (fun e => h e.symm)
set_option maxHeartbeats 4000000 in
theorem markDisk_own (base : Nat) (s c : Value) (d : Dk) (w : World) (hc : dkFits d) (h : OwnD base s c d w) :
    Calls Try.prog 18 #[.agg #[s, c], .int .i64 1] w fun e w' => e = .returned (.int .i64 ((cntD d : Nat) : Int)) ∧ OwnD base s c (mDk d) w' ∧ GL [s, c] w w' := by
  have hc1 := hc.1
  have hc2 := hc.2
  obtain ⟨q1, hq1⟩ : ∃ q, q = 1 + d.secs.length := ⟨_, rfl⟩
  have HM : Hid (mDk d = ⟨mStrs 1 d.secs.length, mWrs q1 d.cache.length⟩ ∧ cntD d = q1 + 2 * d.cache.length) := by rw [hq1]; exact ⟨rfl, rfl⟩
  have HC1 := hide (fun (W : World) (hW : OwnS base s d.secs W) => show Calls Try.prog 45 #[s, .int .i64 1] W fun e w' => e = .returned (.int .i64 (q1 : Int)) ∧ OwnS base s (mStrs 1 d.secs.length) w' ∧ W.grownBy w' s.ownBlock by rw [hq1]; exact markStringS_mk base s d.secs 1 W (by omega) (by omega) hW)
  have HC2 := hide (fun (W : World) (hW : OwnW base c d.cache W) => markWriteS_mk base c d.cache q1 W (by omega) (by omega) hW)
  obtain ⟨so, p, co, q, rfl, rfl⟩ := h.shape
  obtain ⟨ss, cs⟩ := d
  simp only at *
  have HAP := hide h.apart
  have HL := hide h.lt
  have BA := (Below.refl w.heap.size w).alloc (Nat.le_refl _) (.cells #[.slice so ss.length p, .slice co cs.length q] 25)
  have HS0 := hide (h.below BA)
  have HX0 := hide (heap_alloc_new w (.cells #[.slice so ss.length p, .slice co cs.length q] 25))
  have B0 := hide (GL.alloc [.slice so ss.length p, .slice co cs.length q] w (.cells #[.slice so ss.length p, .slice co cs.length q] 25))
  have HZ : Hid ((w.alloc (.cells #[.slice so ss.length p, .slice co cs.length q] 25)).heap.size = w.heap.size + 1) := by show _ = _; simp
  clear h hc BA hq1 hc1 hc2
  go_enter Try.func18, Try.ntmps18
  go_wp2_with fail
  refine (HC1.out _ HS0.out.secs).mono ?_
  generalize w.alloc (.cells #[.slice so ss.length p, .slice co cs.length q] 25) = W0 at *
  rintro e w1 ⟨rfl, o1, g1⟩
  have HX1 := hide ((g1.block w.heap.size (by rw [HZ.out]; omega) (fun e => by have := (HL.out.1 _ e.symm).2; omega)).trans HX0.out)
  have K1 := hide (World.ownsRow.kept HS0.out.cache g1 (apart_ne HAP.out))
  have O1 := hide o1
  have B1 := hide (B0.out.trans (GL.of g1 (by simp)))
  clear o1 g1 HX0 B0 HS0 HC1 HZ
  obtain ⟨x0, x1, xf⟩ := cells2 HX1.out
  go_wp2_with fail
  refine (HC2.out _ K1.out).mono ?_
  rintro e w2 ⟨rfl, o2, g2⟩
  have O2 := hide (World.ownsRow.kept O1.out g2 HAP.out)
  have K2 := hide o2
  have B2 := hide (B1.out.trans (GL.of g2 (by simp)))
  have HO : Hid (OwnD base (.slice so ss.length p) (.slice co cs.length q) (mDk ⟨ss, cs⟩) w2) := by
    show OwnD _ _ _ _ _
    rw [HM.out.1]
    exact ⟨O2.out, K2.out, HAP.out⟩
  clear o2 g2 HX1 B1 K1 O1 HC2 x0 x1 xf
  have HCN := hide HM.out.2
  go_wp2
  go_ret
  exact ⟨by rw [HCN.out]; rfl, HO.out, B2.out⟩
end Go.Proofs.Ytgnegidgeegknaa
