/-
  The law on KeyRead, out of the contracts.
-/
import Derived.Test.YtffpjklceekijaaDoorMarkO
import Derived.OpenShut
namespace Go.Proofs.YtffpjklceekijaaDoor
open Go.RowKit

theorem keyRd_facts (s : ByteArray) : (keyRd s).1.length ≤ 12 ∧ (∀ x ∈ (keyRd s).1, x.ok) ∧ (∀ x ∈ (keyRd s).1, x.text.size ≤ maxLen) := by
  unfold keyRd
  by_cases hs : 20000 < s.size
  · rw [if_pos hs]; simp
  · rw [if_neg hs]
    cases h : readN 12 s.data.toList with
    | none => simp
    | some vs =>
      obtain ⟨h1, h2, h3, _⟩ := key_readN _ _ _ h
      refine ⟨h1, h3, fun x hx => ?_⟩
      have hv := List.all_eq_true.1 h2 x hx
      have : x.text.size ≤ 200 := by
        unfold vRight at hv
        by_cases k0 : x.kind = 0
        · rw [if_pos k0] at hv; have := of_decide_eq_true hv; omega
        rw [if_neg k0] at hv
        by_cases k1 : x.kind = 1
        · rw [if_pos k1] at hv; have := of_decide_eq_true hv; omega
        rw [if_neg k1] at hv
        by_cases k2 : x.kind = 2
        · rw [if_pos k2] at hv; have := of_decide_eq_true hv; omega
        rw [if_neg k2] at hv
        by_cases k3 : x.kind = 3
        · rw [if_pos k3] at hv; have := of_decide_eq_true hv; omega
        rw [if_neg k3] at hv; exact absurd hv (by simp)
      unfold maxLen; omega
set_option maxRecDepth 100000 in
set_option maxHeartbeats 4000000 in
theorem lawKeyRead (a0 : ByteArray) (w0 : a0.size ≤ maxLen) (w : World) (hg : w.cell? ⟨0, 0, none⟩ = some errTypeV) :
    Calls Tryd.prog 3 #[.string a0] w fun e w' => e = .returned (.bool true) ∧ Below w.heap.size w w' := by
  have hlt0 : (0 : Nat) < w.heap.size := block_lt_of_cell hg
  have HG : Hid (∀ W, Below w.heap.size w W → W.cell? ⟨0, 0, none⟩ = some errTypeV) := fun W hb => (hb.cell (p := ⟨0, 0, none⟩) hlt0).trans hg
  clear hg
  by_cases hs : a0.size ≤ 1048576
  · have HS : Hid (∀ W, Calls Tryd.prog 4 #[.string a0] W fun e w' => ∃ v, e = .returned (.agg #[v, .int .i64 (keyRd a0).2]) ∧ OwnV W.heap.size v (keyRd a0).1 w' ∧ Below W.heap.size W w') := specKeyRead_any a0 w0
    have HI : Hid (∀ W, Below w.heap.size w W → Calls Tryd.prog 5 #[.string a0] W fun e w' => ∃ v, e = .returned (.agg #[v, .int .i64 (keyRd a0).2]) ∧ OwnV W.heap.size v (keyRd a0).1 w' ∧ Below W.heap.size W w') := fun W hb => implKeyRead_any a0 w0 W (HG.out W hb)
    have HK : Hid ((keyRd a0).1.length ≤ 12 ∧ (∀ x ∈ (keyRd a0).1, x.ok) ∧ (∀ x ∈ (keyRd a0).1, x.text.size ≤ maxLen)) := keyRd_facts a0
    generalize (keyRd a0).1 = vs at *
    generalize ((keyRd a0).2 : Int) = c at *
    go_enter Tryd.func3, Tryd.ntmps3
    go_wp2_with fail
    refine (HS.out _).mono ?_
    rintro e w1 ⟨v0, rfl, ho0, hb1⟩
    obtain ⟨ao, cap, rfl⟩ := ownV_shape ho0
    go_wp2_with fail
    have k1 := hb1.alloc hb1.size (.cells #[.slice ao vs.length cap, .int .i64 c] 24)
    have O1 : Hid (OwnV w.heap.size (.slice ao vs.length cap) vs (w1.alloc (.cells #[.slice ao vs.length cap, .int .i64 c] 24))) := World.ownsRow.alloc ho0 _
    have P1 : Hid ((w1.alloc (.cells #[.slice ao vs.length cap, .int .i64 c] 24)).heap[w1.heap.size]? = some (.cells #[.slice ao vs.length cap, .int .i64 c] 24 (0, 0))) := heap_alloc_new _ _
    have D1 : Hid (∀ k, (Value.slice ao vs.length cap).ownBlock = some k → k < w1.heap.size) := fun k hk => (World.ownsRow.lt ho0 k hk).2
    have Z1 : w.heap.size ≤ w1.heap.size := hb1.size
    have hsz1 : (w1.alloc (.cells #[.slice ao vs.length cap, .int .i64 c] 24)).heap.size = w1.heap.size + 1 := by simp
    clear ho0 hb1
    refine (HI.out _ k1).mono ?_
    rintro e w2 ⟨v1, rfl, ho1, hb2⟩
    obtain ⟨bo, cp, rfl⟩ := ownV_shape ho1
    have Z2 : w1.heap.size + 1 ≤ w2.heap.size := by have := hb2.size; omega
    have k2 := (k1.trans (hb2.mono (by omega))).alloc (by omega) (.cells #[.slice bo vs.length cp, .int .i64 c] 24)
    have O2 : Hid (OwnV w.heap.size (.slice ao vs.length cap) vs (w2.alloc (.cells #[.slice bo vs.length cp, .int .i64 c] 24))) := World.ownsRow.alloc (owns_below O1.out hb2) _
    have P2 : Hid ((w2.alloc (.cells #[.slice bo vs.length cp, .int .i64 c] 24)).heap[w1.heap.size]? = some (.cells #[.slice ao vs.length cap, .int .i64 c] 24 (0, 0))) := by
      show _ = _
      rw [Below.heap_alloc _ _ _ (by omega)]
      exact (hb2.block w1.heap.size (by omega)).trans P1.out
    have Q2 : Hid ((w2.alloc (.cells #[.slice bo vs.length cp, .int .i64 c] 24)).heap[w2.heap.size]? = some (.cells #[.slice bo vs.length cp, .int .i64 c] 24 (0, 0))) := heap_alloc_new _ _
    have R2 : Hid (OwnV (w1.heap.size + 1) (.slice bo vs.length cp) vs (w2.alloc (.cells #[.slice bo vs.length cp, .int .i64 c] 24))) := World.ownsRow.alloc (by rw [hsz1] at ho1; exact ho1) _
    have E2 : Hid (∀ k, (Value.slice bo vs.length cp).ownBlock = some k → w1.heap.size + 1 ≤ k ∧ k < w2.heap.size) := fun k hk => by
      have := World.ownsRow.lt ho1 k hk
      omega
    obtain ⟨c0, c1, _⟩ := cells2 P2.out
    clear hsz1 ho1 hb2 O1 P1 k1
    go_wp2_with fail
    refine (eqValuesOut_same _ _ _ _ c vs _ HK.out.1 HK.out.2.1 HK.out.2.2 R2.out O2.out).mono ?_
    rintro e w3 ⟨rfl, hb3⟩
    have hsz2 : (w2.alloc (.cells #[.slice bo vs.length cp, .int .i64 c] 24)).heap.size = w2.heap.size + 1 := by simp
    have Z3 : w2.heap.size + 1 ≤ w3.heap.size := by have := hb3.size; omega
    have k3 := k2.trans (hb3.mono (by omega))
    have O3 : Hid (OwnV w.heap.size (.slice ao vs.length cap) vs w3) := owns_below O2.out hb3
    have P3 : Hid (w3.heap[w1.heap.size]? = some (.cells #[.slice ao vs.length cap, .int .i64 c] 24 (0, 0))) := (hb3.block w1.heap.size (by omega)).trans P2.out
    have Q3 : Hid (w3.heap[w2.heap.size]? = some (.cells #[.slice bo vs.length cp, .int .i64 c] 24 (0, 0))) := (hb3.block w2.heap.size (by omega)).trans Q2.out
    have R3 : Hid (OwnV (w1.heap.size + 1) (.slice bo vs.length cp) vs w3) := owns_below R2.out hb3
    obtain ⟨d0, d1, _⟩ := cells2 Q3.out
    clear hsz2 hb3 c0 c1 k2 O2 P2 Q2 R2
    go_wp2_with fail
    refine (markValuesOut_own _ _ c vs _ HK.out.1 R3.out).mono ?_
    rintro e w4 ⟨rfl, hm4, hg4⟩
    have M4 : Hid (Marked (.slice bo vs.length cp) vs.length w4) := hm4
    have Z4 : w3.heap.size ≤ w4.heap.size := hg4.size
    have k4 := k3.grown hg4 (by omega) (fun k e => by have := (E2.out k e).1; omega)
    have O4 : Hid (OwnV w.heap.size (.slice ao vs.length cap) vs w4) := World.ownsRow.kept O3.out hg4 (by
      cases h : (Value.slice ao vs.length cap).ownBlock with
      | none => exact .inl rfl
      | some k =>
        refine .inr (fun e => ?_)
        have h1 := D1.out k h
        have h2 := (E2.out k e.symm).1
        omega)
    have P4 : Hid (w4.heap[w1.heap.size]? = some (.cells #[.slice ao vs.length cap, .int .i64 c] 24 (0, 0))) := (hg4.block w1.heap.size (by omega) (fun e => by have := (E2.out _ e.symm).1; omega)).trans P3.out
    have Q4 : Hid (w4.heap[w2.heap.size]? = some (.cells #[.slice bo vs.length cp, .int .i64 c] 24 (0, 0))) := (hg4.block w2.heap.size (by omega) (fun e => by have := (E2.out _ e.symm).2; omega)).trans Q3.out
    obtain ⟨e0, e1, _⟩ := cells2 Q4.out
    clear hm4 hg4 d0 d1 k3 O3 P3 Q3 R3
    go_wp2_with fail
    refine (heldValuesOut_own _ c vs.length _ HK.out.1 M4.out).mono ?_
    rintro e w5 ⟨rfl, hb5⟩
    have Z5 : w4.heap.size ≤ w5.heap.size := hb5.size
    have k5 := k4.trans (hb5.mono (by omega))
    have M5 : Hid (Marked (.slice bo vs.length cp) vs.length w5) := M4.out.kept hb5
    have O5 : Hid (OwnV w.heap.size (.slice ao vs.length cap) vs w5) := owns_below O4.out hb5
    have P5 : Hid (w5.heap[w1.heap.size]? = some (.cells #[.slice ao vs.length cap, .int .i64 c] 24 (0, 0))) := (hb5.block w1.heap.size (by omega)).trans P4.out
    have Q5 : Hid (w5.heap[w2.heap.size]? = some (.cells #[.slice bo vs.length cp, .int .i64 c] 24 (0, 0))) := (hb5.block w2.heap.size (by omega)).trans Q4.out
    clear hb5 e0 e1 k4 O4 P4 Q4 M4
    go_wp2_with fail
    refine (HI.out _ k5).mono ?_
    rintro e w6 ⟨v2, rfl, ho6, hb6⟩
    obtain ⟨co, cq, rfl⟩ := ownV_shape ho6
    have Z6 : w5.heap.size ≤ w6.heap.size := hb6.size
    have k6 := (k5.trans (hb6.mono (by omega))).alloc (by omega) (.cells #[.slice co vs.length cq, .int .i64 c] 24)
    have M6 : Hid (Marked (.slice bo vs.length cp) vs.length (w6.alloc (.cells #[.slice co vs.length cq, .int .i64 c] 24))) := (M5.out.kept hb6).kept ((Below.refl _ _).alloc (Nat.le_refl _) _)
    have O6 : Hid (OwnV w.heap.size (.slice ao vs.length cap) vs (w6.alloc (.cells #[.slice co vs.length cq, .int .i64 c] 24))) := World.ownsRow.alloc (owns_below O5.out hb6) _
    have S6 : Hid (OwnV w5.heap.size (.slice co vs.length cq) vs (w6.alloc (.cells #[.slice co vs.length cq, .int .i64 c] 24))) := World.ownsRow.alloc ho6 _
    have P6 : Hid ((w6.alloc (.cells #[.slice co vs.length cq, .int .i64 c] 24)).heap[w1.heap.size]? = some (.cells #[.slice ao vs.length cap, .int .i64 c] 24 (0, 0))) := by
      show _ = _
      rw [Below.heap_alloc _ _ _ (by omega)]
      exact (hb6.block w1.heap.size (by omega)).trans P5.out
    have Q6 : Hid ((w6.alloc (.cells #[.slice co vs.length cq, .int .i64 c] 24)).heap[w2.heap.size]? = some (.cells #[.slice bo vs.length cp, .int .i64 c] 24 (0, 0))) := by
      show _ = _
      rw [Below.heap_alloc _ _ _ (by omega)]
      exact (hb6.block w2.heap.size (by omega)).trans Q5.out
    obtain ⟨f0, f1, _⟩ := cells2 P6.out
    clear ho6 hb6 k5 M5 O5 P5 Q5
    go_wp2_with fail
    refine (eqValuesOut_same _ _ _ _ c vs _ HK.out.1 HK.out.2.1 HK.out.2.2 S6.out O6.out).mono ?_
    rintro e w7 ⟨rfl, hb7⟩
    have hsz6 : (w6.alloc (.cells #[.slice co vs.length cq, .int .i64 c] 24)).heap.size = w6.heap.size + 1 := by simp
    have Z7 : w6.heap.size + 1 ≤ w7.heap.size := by have := hb7.size; omega
    have k7 := k6.trans (hb7.mono (by omega))
    have M7 : Hid (Marked (.slice bo vs.length cp) vs.length w7) := M6.out.kept hb7
    have Q7 : Hid (w7.heap[w2.heap.size]? = some (.cells #[.slice bo vs.length cp, .int .i64 c] 24 (0, 0))) := (hb7.block w2.heap.size (by omega)).trans Q6.out
    obtain ⟨g0, g1, _⟩ := cells2 Q7.out
    clear hb7 f0 f1 k6 M6 O6 S6 P6 Q6 hsz6
    go_wp2_with fail
    refine (heldValuesOut_own _ c vs.length _ HK.out.1 M7.out).mono ?_
    rintro e w8 ⟨rfl, hb8⟩
    have k8 := k7.trans (hb8.mono (by omega))
    clear hb8 g0 g1 k7 M7 Q7
    go_wp2
    go_ret
    exact ⟨rfl, k8⟩
  · go_enter Tryd.func3, Tryd.ntmps3
    go_wp2
    go_ret
    exact ⟨rfl, Below.refl _ _⟩
end Go.Proofs.YtffpjklceekijaaDoor
