/-
  The law on StoreNew, out of the contracts.
-/
import Derived.Test.YtgnegidgeegknaaStNew
namespace Go.Proofs.Ytgnegidgeegknaa
open Go.RowKit
set_option maxRecDepth 100000

theorem blkSt {W : World} {g : Nat} {o : Obj} (h : W.heap[g]? = some o) : g < W.heap.size := (Array.getElem?_eq_some_iff.1 h).1
theorem gl_belowSt {l : List Value} {w w' : World} (b : Below w.heap.size w w') : GL l w w' := ⟨b.os, b.tape, b.output, b.size, fun k hk _ => b.block k hk⟩
theorem dkNew_fitsS (n : Int) : dkFits (dkNew n) := by
  unfold dkNew dkFits
  split <;> simp
  omega
set_option maxHeartbeats 4000000 in
theorem eqStore_nil (b1 b2 : Nat) (s c s' c' : Value) (d : Dk) (w : World) (hf : dkFits d) (h : OwnD b1 s c d w) (h' : OwnD b2 s' c' d w) :
    Calls Try.prog 12 #[.agg #[s, c, .slice none 0 0, .int .i64 1, .int .i64 200], .agg #[s', c', .slice none 0 0, .int .i64 1, .int .i64 200]] w fun e w' => e = .returned (.bool true) ∧ Below w.heap.size w w' := by
  have C1 := hide (fun (W : World) (hb : Below w.heap.size w W) => eqDisk_own _ _ _ _ _ _ d W hf (h.below hb) (h'.below hb))
  obtain ⟨so, p, co, q, rfl, rfl⟩ := h.shape
  obtain ⟨so', p', co', q', rfl, rfl⟩ := h'.shape
  obtain ⟨n1, hn1⟩ : ∃ n, n = d.secs.length := ⟨_, rfl⟩
  obtain ⟨n2, hn2⟩ : ∃ n, n = d.cache.length := ⟨_, rfl⟩
  rw [← hn1, ← hn2] at C1 ⊢
  have HA := hide (two_allocs w (.cells #[.slice so n1 p, .slice co n2 q, .slice none 0 0, .int .i64 1, .int .i64 200] 30) (.cells #[.slice so' n1 p', .slice co' n2 q', .slice none 0 0, .int .i64 1, .int .i64 200] 30))
  have B0 := hide (((Below.refl w.heap.size w).alloc (Nat.le_refl _) (.cells #[.slice so n1 p, .slice co n2 q, .slice none 0 0, .int .i64 1, .int .i64 200] 30)).alloc (by simp) (.cells #[.slice so' n1 p', .slice co' n2 q', .slice none 0 0, .int .i64 1, .int .i64 200] 30))
  clear h h' hf hn1 hn2
  go_enter Try.func12, Try.ntmps12
  go_wp2_with fail
  refine (C1.out _ B0.out).mono ?_
  generalize (w.alloc (.cells #[.slice so n1 p, .slice co n2 q, .slice none 0 0, .int .i64 1, .int .i64 200] 30)).alloc (.cells #[.slice so' n1 p', .slice co' n2 q', .slice none 0 0, .int .i64 1, .int .i64 200] 30) = W0 at *
  rintro e w1 ⟨rfl, b1⟩
  obtain ⟨hx0, hy0, hz0⟩ := HA.out
  have X1 := hide ((b1.block w.heap.size (by omega)).trans hx0)
  have Y1 := hide ((b1.block (w.heap.size + 1) (by omega)).trans hy0)
  have B1 := hide (B0.out.trans (b1.mono B0.out.size))
  obtain ⟨x0, x1, x2, x3, x4, xf⟩ := cells5 X1.out
  obtain ⟨y0, y1, y2, y3, y4, yf⟩ := cells5 Y1.out
  clear b1 HA hx0 hy0 hz0 B0 C1
  go_wp2_with fail
  refine (eqDb_nil _).mono ?_
  rintro e w2 ⟨rfl, b2⟩
  have X2 := hide ((b2.block _ (blkSt X1.out)).trans X1.out)
  have Y2 := hide ((b2.block _ (blkSt Y1.out)).trans Y1.out)
  have B2 := hide (B1.out.trans (b2.mono B1.out.size))
  clear b2 X1 Y1 B1 x0 x1 x2 x3 x4 xf y0 y1 y2 y3 y4 yf
  obtain ⟨x0, x1, x2, x3, x4, xf⟩ := cells5 X2.out
  obtain ⟨y0, y1, y2, y3, y4, yf⟩ := cells5 Y2.out
  go_wp2
  go_ret
  exact ⟨rfl, B2.out⟩
set_option maxHeartbeats 4000000 in
theorem markStore_nil (base : Nat) (s c : Value) (d : Dk) (w : World) (hc : dkFits d) (h : OwnD base s c d w) :
    Calls Try.prog 13 #[.agg #[s, c, .slice none 0 0, .int .i64 1, .int .i64 200], .int .i64 1] w fun e w' => e = .returned (.int .i64 ((cntD d : Nat) : Int)) ∧ OwnD base s c (mDk d) w' ∧ GL [s, c] w w' := by
  have HC := hide (fun (W : World) (hW : OwnD base s c d W) => markDisk_own base s c d W hc hW)
  obtain ⟨so, p, co, q, rfl, rfl⟩ := h.shape
  obtain ⟨n1, hn1⟩ : ∃ n, n = d.secs.length := ⟨_, rfl⟩
  obtain ⟨n2, hn2⟩ : ∃ n, n = d.cache.length := ⟨_, rfl⟩
  rw [← hn1, ← hn2] at h HC ⊢
  have HL := hide h.lt
  have BA := (Below.refl w.heap.size w).alloc (Nat.le_refl _) (.cells #[.slice so n1 p, .slice co n2 q, .slice none 0 0, .int .i64 1, .int .i64 200] 30)
  have HS0 := hide (h.below BA)
  have HX0 := hide (heap_alloc_new w (.cells #[.slice so n1 p, .slice co n2 q, .slice none 0 0, .int .i64 1, .int .i64 200] 30))
  have B0 := hide (GL.alloc [.slice so n1 p, .slice co n2 q] w (.cells #[.slice so n1 p, .slice co n2 q, .slice none 0 0, .int .i64 1, .int .i64 200] 30))
  have HZ : Hid ((w.alloc (.cells #[.slice so n1 p, .slice co n2 q, .slice none 0 0, .int .i64 1, .int .i64 200] 30)).heap.size = w.heap.size + 1) := by show _ = _; simp
  generalize cntD d = m at *
  clear h hc BA hn1 hn2
  go_enter Try.func13, Try.ntmps13
  go_wp2_with fail
  refine (HC.out _ HS0.out).mono ?_
  generalize w.alloc (.cells #[.slice so n1 p, .slice co n2 q, .slice none 0 0, .int .i64 1, .int .i64 200] 30) = W0 at *
  rintro e w1 ⟨rfl, o1, g1⟩
  have HX1 := hide ((g1.block w.heap.size (by rw [HZ.out]; omega) (fun v hv e => by
    simp only [List.mem_cons, List.not_mem_nil, or_false] at hv
    rcases hv with rfl | rfl
    · have := (HL.out.1 _ e).2; omega
    · have := (HL.out.2 _ e).2; omega)).trans HX0.out)
  have O1 := hide o1
  have B1 := hide (B0.out.trans g1)
  clear o1 g1 HX0 B0 HS0 HC HZ HL
  obtain ⟨x0, x1, x2, x3, x4, xf⟩ := cells5 HX1.out
  go_wp2_with fail
  refine (markDb_nil m _).mono ?_
  rintro e w2 ⟨rfl, b2⟩
  have O2 := hide (O1.out.below b2)
  have B2 := hide (B1.out.trans (gl_belowSt b2))
  clear b2 HX1 B1 O1 x0 x1 x2 x3 x4 xf
  go_wp2
  go_ret
  exact ⟨rfl, O2.out, B2.out⟩
set_option maxHeartbeats 4000000 in
theorem heldStore_nil (base : Nat) (s c : Value) (d : Dk) (w : World) (hc : dkFits d) (h : OwnD base s c (mDk d) w) :
    Calls Try.prog 14 #[.agg #[s, c, .slice none 0 0, .int .i64 1, .int .i64 200], .int .i64 1] w fun e w' => e = .returned (.int .i64 ((cntD d : Nat) : Int)) ∧ Below w.heap.size w w' := by
  have HC := hide (fun (W : World) (hW : Below w.heap.size w W) => heldDisk_own base s c d W hc (h.below hW))
  obtain ⟨so, p, co, q, rfl, rfl⟩ := h.shape
  generalize (mDk d).secs.length = n1 at *
  generalize (mDk d).cache.length = n2 at *
  have BA := hide ((Below.refl w.heap.size w).alloc (Nat.le_refl _) (.cells #[.slice so n1 p, .slice co n2 q, .slice none 0 0, .int .i64 1, .int .i64 200] 30))
  have HX0 := hide (heap_alloc_new w (.cells #[.slice so n1 p, .slice co n2 q, .slice none 0 0, .int .i64 1, .int .i64 200] 30))
  generalize cntD d = m at *
  have hn : ¬ ((m : Int) < 0) := by omega
  clear h hc
  go_enter Try.func14, Try.ntmps14
  go_wp2_with fail
  refine (HC.out _ BA.out).mono ?_
  generalize w.alloc (.cells #[.slice so n1 p, .slice co n2 q, .slice none 0 0, .int .i64 1, .int .i64 200] 30) = W0 at *
  rintro e w1 ⟨rfl, b1⟩
  have HX1 := hide ((b1.block _ (blkSt HX0.out)).trans HX0.out)
  have B1 := hide (BA.out.trans (b1.mono BA.out.size))
  clear b1 HX0 BA HC
  obtain ⟨x0, x1, x2, x3, x4, xf⟩ := cells5 HX1.out
  go_wp2_with fail
  refine (heldDb_nil m _).mono ?_
  rintro e w2 ⟨rfl, b2⟩
  have B2 := hide (B1.out.trans (b2.mono B1.out.size))
  clear b2 HX1 B1 x0 x1 x2 x3 x4 xf
  go_wp2
  go_ret
  exact ⟨rfl, B2.out⟩
set_option maxHeartbeats 8000000 in
theorem lawStoreNew (w : World) :
    Calls Try.prog 3 #[] w fun e w' => e = .returned (.bool true) ∧ Below w.heap.size w w' := by
  have HSP := hide (fun (W : World) => specStoreNew_any W)
  have HIM := hide (fun (W : World) => implStoreNew_any W)
  have HF := hide (dkNew_fitsS 700)
  generalize dkNew 700 = d at *
  have hcd : (cntD d : Int) > 0 := by unfold cntD; omega
  have HEQ := hide (fun (b1 b2 : Nat) (s c s' c' : Value) (W : World) (h : OwnD b1 s c d W) (h' : OwnD b2 s' c' d W) => eqStore_nil b1 b2 s c s' c' d W HF.out h h')
  have HMK := hide (fun (b : Nat) (s c : Value) (W : World) (h : OwnD b s c d W) => markStore_nil b s c d W HF.out h)
  have HHL := hide (fun (b : Nat) (s c : Value) (W : World) (h : OwnD b s c (mDk d) W) => heldStore_nil b s c d W HF.out h)
  obtain ⟨n1, hn1⟩ : ∃ n, n = d.secs.length := ⟨_, rfl⟩
  obtain ⟨n2, hn2⟩ : ∃ n, n = d.cache.length := ⟨_, rfl⟩
  have HN := hide (And.intro hn1 hn2)
  generalize hcc : cntD d = m at *
  have hneg : ¬ (m : Int) < 0 := by omega
  clear hn1 hn2 hcc hcd
  go_enter Try.func3, Try.ntmps3
  go_wp2_with fail
  refine (HSP.out _).mono ?_
  rintro e w1 ⟨s1, c1, rfl, o1, b1⟩
  obtain ⟨so1, p1, co1, q1, rfl, rfl⟩ := o1.shape
  rw [← HN.out.1, ← HN.out.2] at o1 ⊢
  have BA := (Below.refl w1.heap.size w1).alloc (Nat.le_refl _) (.cells #[.slice so1 n1 p1, .slice co1 n2 q1, .slice none 0 0, .int .i64 1, .int .i64 200] 30)
  have O1 := hide (o1.below BA)
  have L1 := hide o1.lt
  have B1 := hide (b1.trans (BA.mono b1.size))
  have X1 := hide (heap_alloc_new w1 (.cells #[.slice so1 n1 p1, .slice co1 n2 q1, .slice none 0 0, .int .i64 1, .int .i64 200] 30))
  have z1 := hide b1.size
  have Z1 : Hid ((w1.alloc (.cells #[.slice so1 n1 p1, .slice co1 n2 q1, .slice none 0 0, .int .i64 1, .int .i64 200] 30)).heap.size = w1.heap.size + 1) := by show _ = _; simp
  clear o1 b1 BA HSP
  go_wp2_with fail
  refine (HIM.out _).mono ?_
  generalize w1.alloc (.cells #[.slice so1 n1 p1, .slice co1 n2 q1, .slice none 0 0, .int .i64 1, .int .i64 200] 30) = W1 at *
  generalize w1.heap.size = g1 at *
  rintro e w2 ⟨s2, c2, rfl, o2, b2⟩
  obtain ⟨so2, p2, co2, q2, rfl, rfl⟩ := o2.shape
  rw [← HN.out.1, ← HN.out.2] at o2 ⊢
  have BA := (Below.refl w2.heap.size w2).alloc (Nat.le_refl _) (.cells #[.slice so2 n1 p2, .slice co2 n2 q2, .slice none 0 0, .int .i64 1, .int .i64 200] 30)
  have z2 : g1 + 1 ≤ w2.heap.size := by have := b2.size; rw [Z1.out] at this; exact this
  have O2 := hide (o2.below BA)
  have L2 : Hid (∀ v ∈ [(.slice so2 n1 p2 : Value), .slice co2 n2 q2], ∀ b, v.ownBlock = some b → g1 + 1 ≤ b ∧ b < w2.heap.size) := fun v hv b hb => by
    rw [Z1.out] at o2
    simp only [List.mem_cons, List.not_mem_nil, or_false] at hv
    rcases hv with rfl | rfl
    · exact o2.lt.1 b hb
    · exact o2.lt.2 b hb
  have X2 := hide ((BA.block g1 (by omega)).trans ((b2.block g1 (by rw [Z1.out]; omega)).trans X1.out))
  have Y2 := hide (heap_alloc_new w2 (.cells #[.slice so2 n1 p2, .slice co2 n2 q2, .slice none 0 0, .int .i64 1, .int .i64 200] 30))
  have O12 := hide ((O1.out.below b2).below BA)
  have B2 := hide ((B1.out.trans (b2.mono B1.out.size)).trans (BA.mono (by have := B1.out.size; rw [Z1.out] at this; omega)))
  have Z2 : Hid ((w2.alloc (.cells #[.slice so2 n1 p2, .slice co2 n2 q2, .slice none 0 0, .int .i64 1, .int .i64 200] 30)).heap.size = w2.heap.size + 1) := by show _ = _; simp
  have C2 := hide (HEQ.out _ _ _ _ _ _ _ O2.out O12.out)
  obtain ⟨x0, x1, x2, x3, x4, xf⟩ := cells5 X2.out
  clear o2 b2 BA O1 X1 B1 Z1
  go_wp2_with fail
  refine C2.out.mono ?_
  generalize w2.alloc (.cells #[.slice so2 n1 p2, .slice co2 n2 q2, .slice none 0 0, .int .i64 1, .int .i64 200] 30) = W2 at *
  generalize w2.heap.size = g2 at *
  rintro e w3 ⟨rfl, b3⟩
  have z3 : g2 + 1 ≤ w3.heap.size := by have := b3.size; rw [Z2.out] at this; exact this
  have O3 := hide (O2.out.below b3)
  have O13 := hide (O12.out.below b3)
  have X3 := hide ((b3.block g1 (by rw [Z2.out]; omega)).trans X2.out)
  have Y3 := hide ((b3.block g2 (by rw [Z2.out]; omega)).trans Y2.out)
  have B3 := hide (B2.out.trans (b3.mono B2.out.size))
  have C3 := hide (HMK.out _ _ _ _ O3.out)
  obtain ⟨y0, y1, y2, y3, y4, yf⟩ := cells5 Y3.out
  clear b3 x0 x1 x2 x3 x4 xf X2 Y2 B2 O2 O12 C2 Z2
  go_wp2_with fail
  refine C3.out.mono ?_
  rintro e w4 ⟨rfl, o4, l4⟩
  have AP : Hid (∀ u : Value, (∀ b, u.ownBlock = some b → b < g1) → ∀ v ∈ [(.slice so2 n1 p2 : Value), .slice co2 n2 q2], u.ownBlock = none ∨ u.ownBlock ≠ v.ownBlock) := fun u hu v hv => apart_below hu (fun b hb => by have := L2.out v hv b hb; omega)
  have z4 := l4.size
  have O4 := hide o4
  have O14 : Hid (OwnD w.heap.size (.slice so1 n1 p1) (.slice co1 n2 q1) d w4) := ⟨l4.own O13.out.secs (AP.out _ (fun b hb => (L1.out.1 b hb).2)), l4.own O13.out.cache (AP.out _ (fun b hb => (L1.out.2 b hb).2)), O13.out.apart⟩
  have X4 := hide ((l4.block g1 (by omega) (fun v hv e => by have := (L2.out v hv g1 e).1; omega)).trans X3.out)
  have Y4 := hide ((l4.block g2 (by omega) (fun v hv e => by have := (L2.out v hv g2 e).2; omega)).trans Y3.out)
  have B4 := hide (B3.out.trans (l4.below (fun v hv b hb => by have h1 := (L2.out v hv b hb).1; have h2 := z1.out; omega) B3.out.size))
  have C4 := hide (HHL.out _ _ _ _ O4.out)
  clear o4 l4 y0 y1 y2 y3 y4 yf O3 O13 X3 Y3 B3 C3 AP
  obtain ⟨y0, y1, y2, y3, y4, yf⟩ := cells5 Y4.out
  go_wp2_with fail
  refine C4.out.mono ?_
  rintro e w5 ⟨rfl, b5⟩
  have z5 := b5.size
  have O5 := hide (O4.out.below b5)
  have O15 := hide (O14.out.below b5)
  have X5 := hide ((b5.block g1 (by omega)).trans X4.out)
  have Y5 := hide ((b5.block g2 (by omega)).trans Y4.out)
  have B5 := hide (B4.out.trans (b5.mono B4.out.size))
  clear b5 y0 y1 y2 y3 y4 yf O4 O14 X4 Y4 B4 C4
  go_wp2_with fail
  refine (HIM.out _).mono ?_
  rintro e w6 ⟨s6, c6, rfl, o6, b6⟩
  obtain ⟨so6, p6, co6, q6, rfl, rfl⟩ := o6.shape
  rw [← HN.out.1, ← HN.out.2] at o6 ⊢
  have BA := (Below.refl w6.heap.size w6).alloc (Nat.le_refl _) (.cells #[.slice so6 n1 p6, .slice co6 n2 q6, .slice none 0 0, .int .i64 1, .int .i64 200] 30)
  have z6 := b6.size
  have O6 := hide (o6.below BA)
  have O56 := hide ((O5.out.below b6).below BA)
  have O16 := hide ((O15.out.below b6).below BA)
  have X6 := hide ((BA.block g1 (by omega)).trans ((b6.block g1 (by omega)).trans X5.out))
  have Y6 := hide ((BA.block g2 (by omega)).trans ((b6.block g2 (by omega)).trans Y5.out))
  have B6 := hide ((B5.out.trans (b6.mono B5.out.size)).trans (BA.mono (by have := B5.out.size; omega)))
  have Z6 : Hid ((w6.alloc (.cells #[.slice so6 n1 p6, .slice co6 n2 q6, .slice none 0 0, .int .i64 1, .int .i64 200] 30)).heap.size = w6.heap.size + 1) := by show _ = _; simp
  have C6 := hide (HEQ.out _ _ _ _ _ _ _ O6.out O16.out)
  obtain ⟨x0, x1, x2, x3, x4, xf⟩ := cells5 X6.out
  clear o6 b6 BA O5 O15 X5 Y5 B5 HIM
  go_wp2_with fail
  refine C6.out.mono ?_
  generalize w6.alloc (.cells #[.slice so6 n1 p6, .slice co6 n2 q6, .slice none 0 0, .int .i64 1, .int .i64 200] 30) = W6 at *
  rintro e w7 ⟨rfl, b7⟩
  have z7 := b7.size
  rw [Z6.out] at z7
  have O7 := hide (O56.out.below b7)
  have Y7 := hide ((b7.block g2 (by rw [Z6.out]; omega)).trans Y6.out)
  have B7 := hide (B6.out.trans (b7.mono B6.out.size))
  have C7 := hide (HHL.out _ _ _ _ O7.out)
  clear b7 x0 x1 x2 x3 x4 xf O6 O56 O16 X6 Y6 B6 C6 Z6
  obtain ⟨y0, y1, y2, y3, y4, yf⟩ := cells5 Y7.out
  go_wp2_with fail
  refine C7.out.mono ?_
  rintro e w8 ⟨rfl, b8⟩
  have B8 := hide (B7.out.trans (b8.mono B7.out.size))
  clear b8 y0 y1 y2 y3 y4 yf O7 Y7 B7 C7
  go_wp2
  go_ret
  exact ⟨rfl, B8.out⟩
end Go.Proofs.Ytgnegidgeegknaa
