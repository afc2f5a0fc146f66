/-
  The law on DiskNew, out of the contracts.
-/
import Derived.Test.YtmladjahkhhpkaaDkRead
import Derived.Test.YtmladjahkhhpkaaDkNew
import Derived.Test.YtmladjahkhhpkaaDkMark5
namespace Go.Proofs.Ytmladjahkhhpkaa
open Go.RowKit
set_option maxRecDepth 100000

theorem rdInt {H : Type} {enc : TypeId × Value → H} {W : World} {base : Nat} {v : Value} {d : DataW H} {p : List MemPlace} (hv : Value.okWide Try.prog W .any base 2 v) (h : DataW.Trod enc Try.prog W 0 (fun _ => true) true 2 v d p) : ∃ n : Int, v = .int .i64 n ∧ wI64 n := by
  obtain ⟨n, e, _, _, hw⟩ := Go.ChangeShapes.open_int Try.underlying2 hv h
  exact ⟨n, e, bounds_i64 hw⟩
theorem dkNew_fits (n : Int) : dkFits (dkNew n) := by
  unfold dkNew dkFits
  split <;> simp
  omega
set_option maxHeartbeats 8000000 in
theorem lawDiskNew (v0 : Value) (w : World) (h0 : ∃ n : Int, v0 = .int .i64 n ∧ wI64 n) :
    Calls Try.prog 3 #[v0] w fun e w' => e = .returned (.bool true) ∧ Below w.heap.size w w' := by
  obtain ⟨n, rfl, _⟩ := h0
  have HSP := hide (fun (W : World) => specDiskNew_any n W)
  have HIM := hide (fun (W : World) => implDiskNew_any n W)
  have HF := hide (dkNew_fits n)
  generalize dkNew n = d at *
  have hcd : (cntD d : Int) > 0 := by unfold cntD; omega
  have HEQ := hide (fun (b1 b2 : Nat) (s c s' c' : Value) (W : World) (h : OwnD b1 s c d W) (h' : OwnD b2 s' c' d W) => eqDisk_own b1 b2 s c s' c' d W HF.out h h')
  have HMK := hide (fun (b : Nat) (s c : Value) (W : World) (h : OwnD b s c d W) => markDisk_own b s c d W HF.out h)
  have HHL := hide (fun (b : Nat) (s c : Value) (W : World) (h : OwnD b s c (mDk d) W) => heldDisk_own b s c d W HF.out h)
  obtain ⟨n1, hn1⟩ : ∃ n, n = d.secs.length := ⟨_, rfl⟩
  obtain ⟨n2, hn2⟩ : ∃ n, n = d.cache.length := ⟨_, rfl⟩
  have HN := hide (And.intro hn1 hn2)
  generalize hcc : cntD d = m at *
  have hneg : ¬ (m : Int) < 0 := by omega
  clear hn1 hn2 hcc hcd
  go_enter Try.func3, Try.ntmps3
  go_wp2_with fail
  refine (HSP.out _).mono ?_
  rintro e w1 ⟨s1, c1, rfl, o1, b1⟩
  obtain ⟨so1, p1, co1, q1, rfl, rfl⟩ := o1.shape
  rw [← HN.out.1, ← HN.out.2] at o1 ⊢
  have BA := (Below.refl w1.heap.size w1).alloc (Nat.le_refl _) (.cells #[.slice so1 n1 p1, .slice co1 n2 q1] 25)
  have O1 := hide (o1.below BA)
  have L1 := hide o1.lt
  have B1 := hide (b1.trans (BA.mono b1.size))
  have X1 := hide (heap_alloc_new w1 (.cells #[.slice so1 n1 p1, .slice co1 n2 q1] 25))
  have z1 := hide b1.size
  have Z1 : Hid ((w1.alloc (.cells #[.slice so1 n1 p1, .slice co1 n2 q1] 25)).heap.size = w1.heap.size + 1) := by show _ = _; simp
  clear o1 b1 BA HSP
  go_wp2_with fail
  refine (HIM.out _).mono ?_
  generalize w1.alloc (.cells #[.slice so1 n1 p1, .slice co1 n2 q1] 25) = W1 at *
  generalize w1.heap.size = g1 at *
  rintro e w2 ⟨s2, c2, rfl, o2, b2⟩
  obtain ⟨so2, p2, co2, q2, rfl, rfl⟩ := o2.shape
  rw [← HN.out.1, ← HN.out.2] at o2 ⊢
  have BA := (Below.refl w2.heap.size w2).alloc (Nat.le_refl _) (.cells #[.slice so2 n1 p2, .slice co2 n2 q2] 25)
  have z2 : g1 + 1 ≤ w2.heap.size := by have := b2.size; rw [Z1.out] at this; exact this
  have O2 := hide (o2.below BA)
  have L2 : Hid (∀ v ∈ [(.slice so2 n1 p2 : Value), .slice co2 n2 q2], ∀ b, v.ownBlock = some b → g1 + 1 ≤ b ∧ b < w2.heap.size) := fun v hv b hb => by
    rw [Z1.out] at o2
    simp only [List.mem_cons, List.not_mem_nil, or_false] at hv
    rcases hv with rfl | rfl
    · exact o2.lt.1 b hb
    · exact o2.lt.2 b hb
  have X2 := hide ((BA.block g1 (by omega)).trans ((b2.block g1 (by rw [Z1.out]; omega)).trans X1.out))
  have Y2 := hide (heap_alloc_new w2 (.cells #[.slice so2 n1 p2, .slice co2 n2 q2] 25))
  have O12 := hide ((O1.out.below b2).below BA)
  have B2 := hide ((B1.out.trans (b2.mono B1.out.size)).trans (BA.mono (by have := B1.out.size; rw [Z1.out] at this; omega)))
  have Z2 : Hid ((w2.alloc (.cells #[.slice so2 n1 p2, .slice co2 n2 q2] 25)).heap.size = w2.heap.size + 1) := by show _ = _; simp
  have C2 := hide (HEQ.out _ _ _ _ _ _ _ O2.out O12.out)
  obtain ⟨x0, x1, xf⟩ := cells2 X2.out
  clear o2 b2 BA O1 X1 B1 Z1
  go_wp2_with fail
  refine C2.out.mono ?_
  generalize w2.alloc (.cells #[.slice so2 n1 p2, .slice co2 n2 q2] 25) = W2 at *
  generalize w2.heap.size = g2 at *
  rintro e w3 ⟨rfl, b3⟩
  have z3 : g2 + 1 ≤ w3.heap.size := by have := b3.size; rw [Z2.out] at this; exact this
  have O3 := hide (O2.out.below b3)
  have O13 := hide (O12.out.below b3)
  have X3 := hide ((b3.block g1 (by rw [Z2.out]; omega)).trans X2.out)
  have Y3 := hide ((b3.block g2 (by rw [Z2.out]; omega)).trans Y2.out)
  have B3 := hide (B2.out.trans (b3.mono B2.out.size))
  have C3 := hide (HMK.out _ _ _ _ O3.out)
  obtain ⟨y0, y1, yf⟩ := cells2 Y3.out
  clear b3 x0 x1 xf X2 Y2 B2 O2 O12 C2 Z2
  go_wp2_with fail
  refine C3.out.mono ?_
  rintro e w4 ⟨rfl, o4, l4⟩
  have AP : Hid (∀ u : Value, (∀ b, u.ownBlock = some b → b < g1) → ∀ v ∈ [(.slice so2 n1 p2 : Value), .slice co2 n2 q2], u.ownBlock = none ∨ u.ownBlock ≠ v.ownBlock) := fun u hu v hv => apart_below hu (fun b hb => by have := L2.out v hv b hb; omega)
  have z4 := l4.size
  have O4 := hide o4
  have O14 : Hid (OwnD w.heap.size (.slice so1 n1 p1) (.slice co1 n2 q1) d w4) := ⟨l4.own O13.out.secs (AP.out _ (fun b hb => (L1.out.1 b hb).2)), l4.own O13.out.cache (AP.out _ (fun b hb => (L1.out.2 b hb).2)), O13.out.apart⟩
  have X4 := hide ((l4.block g1 (by omega) (fun v hv e => by have := (L2.out v hv g1 e).1; omega)).trans X3.out)
  have Y4 := hide ((l4.block g2 (by omega) (fun v hv e => by have := (L2.out v hv g2 e).2; omega)).trans Y3.out)
  have B4 := hide (B3.out.trans (l4.below (fun v hv b hb => by have h1 := (L2.out v hv b hb).1; have h2 := z1.out; omega) B3.out.size))
  have C4 := hide (HHL.out _ _ _ _ O4.out)
  clear o4 l4 y0 y1 yf O3 O13 X3 Y3 B3 C3 AP
  obtain ⟨y0, y1, yf⟩ := cells2 Y4.out
  go_wp2_with fail
  refine C4.out.mono ?_
  rintro e w5 ⟨rfl, b5⟩
  have z5 := b5.size
  have O5 := hide (O4.out.below b5)
  have O15 := hide (O14.out.below b5)
  have X5 := hide ((b5.block g1 (by omega)).trans X4.out)
  have Y5 := hide ((b5.block g2 (by omega)).trans Y4.out)
  have B5 := hide (B4.out.trans (b5.mono B4.out.size))
  clear b5 y0 y1 yf O4 O14 X4 Y4 B4 C4
  go_wp2_with fail
  refine (HIM.out _).mono ?_
  rintro e w6 ⟨s6, c6, rfl, o6, b6⟩
  obtain ⟨so6, p6, co6, q6, rfl, rfl⟩ := o6.shape
  rw [← HN.out.1, ← HN.out.2] at o6 ⊢
  have BA := (Below.refl w6.heap.size w6).alloc (Nat.le_refl _) (.cells #[.slice so6 n1 p6, .slice co6 n2 q6] 25)
  have z6 := b6.size
  have O6 := hide (o6.below BA)
  have O56 := hide ((O5.out.below b6).below BA)
  have O16 := hide ((O15.out.below b6).below BA)
  have X6 := hide ((BA.block g1 (by omega)).trans ((b6.block g1 (by omega)).trans X5.out))
  have Y6 := hide ((BA.block g2 (by omega)).trans ((b6.block g2 (by omega)).trans Y5.out))
  have B6 := hide ((B5.out.trans (b6.mono B5.out.size)).trans (BA.mono (by have := B5.out.size; omega)))
  have Z6 : Hid ((w6.alloc (.cells #[.slice so6 n1 p6, .slice co6 n2 q6] 25)).heap.size = w6.heap.size + 1) := by show _ = _; simp
  have C6 := hide (HEQ.out _ _ _ _ _ _ _ O6.out O16.out)
  obtain ⟨x0, x1, xf⟩ := cells2 X6.out
  clear o6 b6 BA O5 O15 X5 Y5 B5 HIM
  go_wp2_with fail
  refine C6.out.mono ?_
  generalize w6.alloc (.cells #[.slice so6 n1 p6, .slice co6 n2 q6] 25) = W6 at *
  rintro e w7 ⟨rfl, b7⟩
  have z7 := b7.size
  rw [Z6.out] at z7
  have O7 := hide (O56.out.below b7)
  have Y7 := hide ((b7.block g2 (by rw [Z6.out]; omega)).trans Y6.out)
  have B7 := hide (B6.out.trans (b7.mono B6.out.size))
  have C7 := hide (HHL.out _ _ _ _ O7.out)
  clear b7 x0 x1 xf O6 O56 O16 X6 Y6 B6 C6 Z6
  obtain ⟨y0, y1, yf⟩ := cells2 Y7.out
  go_wp2_with fail
  refine C7.out.mono ?_
  rintro e w8 ⟨rfl, b8⟩
  have B8 := hide (B7.out.trans (b8.mono B7.out.size))
  clear b8 y0 y1 yf O7 Y7 B7 C7
  go_wp2
  go_ret
  exact ⟨rfl, B8.out⟩
end Go.Proofs.Ytmladjahkhhpkaa
