/-
  Contracts: the way down by the first kids.
-/
import Derived.Test.YtffgobkgkhmeoaaTrSz
namespace Go.Proofs.Ytffgobkgkhmeoaa
open Go.RowKit
set_option maxRecDepth 100000

/-- A box that holds a tree of the rows. -/
def BoxT (w : World) (A B : Nat) (g : Nat) (t : Tr) : Prop := ∃ n ko kc vo vc xo xc, w.heap[g]? = some (.cells #[.slice ko t.keys.length kc, .slice vo t.vals.length vc, .slice xo t.kids.length xc] 30 (0, 0)) ∧ TrRow w A B n t ko vo xo
set_option maxHeartbeats 2000000 in
theorem deep_any (A B n : Nat) (ko : Option Addr) (kc : Nat) (vo : Option Addr) (vc : Nat) (xo : Option Addr) (xc : Nat) (t : Tr) (w : World) (hB : B ≤ w.heap.size) (hr : TrRow w A B n t ko vo xo) :
    Calls Try.prog 24 #[.agg #[.slice ko t.keys.length kc, .slice vo t.vals.length vc, .slice xo t.kids.length xc]] w fun e w' => e = .returned (.int .i64 ((dp 12 t : Nat) : Int)) ∧ Below w.heap.size w w' := by
  have B0 := hide ((Below.refl w.heap.size w).alloc (Nat.le_refl _) (.cells #[.slice ko t.keys.length kc, .slice vo t.vals.length vc, .slice xo t.kids.length xc] 30))
  have BX : Hid (BoxT (w.alloc (.cells #[.slice ko t.keys.length kc, .slice vo t.vals.length vc, .slice xo t.kids.length xc] 30)) A B w.heap.size t) := ⟨n, ko, kc, vo, vc, xo, xc, heap_alloc_new _ _, TrRow.kept (B0.out.mono hB) n _ _ _ _ hr⟩
  obtain ⟨D, hD⟩ : ∃ D, dp 12 t = D := ⟨_, rfl⟩
  have HD := hide hD
  rw [hD]
  clear hr hD
  go_enter Try.func24, Try.ntmps24
  go_wp2
  generalize w.alloc (.cells #[.slice ko t.keys.length kc, .slice vo t.vals.length vc, .slice xo t.kids.length xc] 30) = W0 at *
  go_loopw [3] (fun i wr => ∃ (c f : Nat) (s : Tr), i = .int .i64 c ∧ 1 ≤ c ∧ c ≤ 13 ∧ Hid (c + f = 13 ∧ D + 1 = c + dp f s) ∧ Hid (BoxT wr A B w.heap.size s) ∧ Hid (Below w.heap.size w wr)) (fun i _ => 13 - (intOf i).toNat)
  case atStart => exact ⟨1, 12, t, rfl, by omega, by omega, ⟨rfl, by rw [← HD.out]; omega⟩, BX, B0⟩
  case round =>
    clear BX B0
    obtain ⟨c, f, s, rfl, hc1, hc2, HF, HX, HB⟩ := hrel
    obtain ⟨m, ko', kc', vo', vc', xo', xc', hg, hrow⟩ := HX.out
    obtain ⟨x0, x1, x2, xf⟩ := cells3 hg
    have HG := hide hg
    have hgs : w.heap.size < wr.heap.size := (Array.getElem?_eq_some_iff.1 hg).1
    clear HX hg
    by_cases h0 : s.kids.length = 0
    · have HE : Hid (D = c) := by
        show _ = _
        have h1 := HF.out.2
        have h2 : dp f s = 1 := by
          have := List.eq_nil_of_length_eq_zero h0
          cases f with
          | zero => rfl
          | succ f => simp [dp, this]
        omega
      have e0 : ¬ 0 < (s.kids.length : Int) := by omega
      have HZ := hide h0
      clear hrow h0
      go_wp2
      go_ret
      exact ⟨by rw [HE.out]; rfl, HB.out⟩
    · have e0 : 0 < (s.kids.length : Int) := by omega
      by_cases h13 : c < 13
      · have e1 : (c : Int) < 13 := by omega
        cases m with
        | zero => exact hrow.elim
        | succ m =>
          obtain ⟨b, off, ko2, kc2, vo2, vc2, yo, yc, ks, vs, ds, rfl, hbB, hv, hp, d0, d1, d2⟩ := hrow.2.2.2.at 0 (by omega)
          simp only [Nat.zero_mul, Nat.add_zero] at d0 d1 d2
          have hbb : b < w.heap.size := by omega
          have HF2 : Hid (c + 1 + (f - 1) = 13 ∧ D + 1 = c + 1 + dp (f - 1) (.node ks vs ds)) := by
            obtain ⟨h1, h2⟩ := HF.out
            refine ⟨by omega, ?_⟩
            obtain ⟨f', rfl⟩ : ∃ f', f = f' + 1 := ⟨f - 1, by omega⟩
            cases hk : s.kids with
            | nil => rw [hk] at h0; exact absurd rfl h0
            | cons a r =>
              have hva : a = .node ks vs ds := by rw [hk] at hv; simpa using hv
              rw [h2]
              simp only [dp, hk, hva, Nat.add_sub_cancel]
              omega
          have HP := hide hp
          clear hrow hv HF hp
          have HM2 : Hid (BoxT (((wr.setCell ⟨w.heap.size, 0, none⟩ (.slice ko2 ks.length kc2)).setCell ⟨w.heap.size, 1, none⟩ (.slice vo2 vs.length vc2)).setCell ⟨w.heap.size, 2, none⟩ (.slice yo ds.length yc)) A B w.heap.size (.node ks vs ds)) := ⟨m, ko2, kc2, vo2, vc2, yo, yc, set3 HG.out, TrRow.kept (below3 (Below.refl B wr) hB) m _ _ _ _ HP.out⟩
          have HB2 := hide (below3 (x := .slice ko2 ks.length kc2) (y := .slice vo2 vs.length vc2) (z := .slice yo ds.length yc) HB.out (Nat.le_refl _))
          clear HP HB HG
          go_wp2
          go_roundw
          case rel => exact ⟨c + 1, f - 1, .node ks vs ds, by go_num, by omega, by omega, HF2, HM2, HB2⟩
          case measure => simp [intOf]; omega
      · have HE : Hid (D = c) := by
          show _ = _
          obtain ⟨h1, h2⟩ := HF.out
          obtain rfl : f = 0 := by omega
          simp only [dp] at h2
          omega
        have e1 : ¬ (c : Int) < 13 := by omega
        clear hrow
        go_wp2
        go_ret
        exact ⟨by rw [HE.out]; rfl, HB.out⟩
end Go.Proofs.Ytffgobkgkhmeoaa
