/-
  Contracts: what a disk's call tells, held against another, marked, looked at again.
-/
import Derived.Test.YthglidcfbdigiaaDkMark5
namespace Go.Proofs.Ythglidcfbdigiaa
open Go.RowKit
set_option maxRecDepth 100000

theorem GL.ownD {l : List Value} {w w' : World} {b m n : Nat} {s c : Value} {d : Dk} (h : GL l w w') (ho : OwnD b s c d w) (hv : ∀ v ∈ l, ∀ b, v.ownBlock = some b → m ≤ b ∧ b < n) (hs : ∀ b, s.ownBlock = some b → b < m ∨ n ≤ b) (hc : ∀ b, c.ownBlock = some b → b < m ∨ n ≤ b) : OwnD b s c d w' := by
  have key : ∀ u : Value, (∀ b, u.ownBlock = some b → b < m ∨ n ≤ b) → ∀ v ∈ l, u.ownBlock = none ∨ u.ownBlock ≠ v.ownBlock := fun u hu v hl => by
    cases hq : u.ownBlock with
    | none => exact .inl rfl
    | some q =>
      refine .inr (fun e => ?_)
      have h1 := hu q hq
      have h2 := hv v hl q e.symm
      omega
  exact ⟨h.own ho.secs (key s hs), h.own ho.cache (key c hc), ho.apart⟩
theorem GL.blk {l : List Value} {w w' : World} {g m n : Nat} {o : Obj} (h : GL l w w') (hg : w.heap[g]? = some o) (hv : ∀ v ∈ l, ∀ b, v.ownBlock = some b → m ≤ b ∧ b < n) (hb : g < m ∨ n ≤ g) : w'.heap[g]? = some o :=
  (h.block g (Array.getElem?_eq_some_iff.1 hg).1 (fun v hl e => by have := hv v hl g e; omega)).trans hg
theorem GL.bel {l : List Value} {w w' : World} {B m n : Nat} (h : GL l w w') (hv : ∀ v ∈ l, ∀ b, v.ownBlock = some b → m ≤ b ∧ b < n) (hm : B ≤ m) (hB : B ≤ w.heap.size) : Below B w w' :=
  h.below (fun v hl b e => by have := hv v hl b e; omega) hB
theorem OwnD.two {b m n : Nat} {s c : Value} {d : Dk} {w : World} (h : OwnD b s c d w) (hm : m ≤ b) (hn : w.heap.size ≤ n) : ∀ v ∈ [s, c], ∀ b, v.ownBlock = some b → m ≤ b ∧ b < n := fun v hv k hk => by
  simp only [List.mem_cons, List.not_mem_nil, or_false] at hv
  rcases hv with rfl | rfl
  · have := h.lt.1 k hk; omega
  · have := h.lt.2 k hk; omega
theorem blk_lt {w : World} {g : Nat} {o : Obj} (h : w.heap[g]? = some o) : g < w.heap.size := (Array.getElem?_eq_some_iff.1 h).1
set_option maxHeartbeats 2000000 in
theorem eqDiskOut_own (b1 b2 : Nat) (s c s' c' : Value) (t : ByteArray) (k : Int) (d : Dk) (w : World) (hf : dkFits d) (h : OwnD b1 s c d w) (h' : OwnD b2 s' c' d w) :
    Calls Try.prog 25 #[.agg #[s, c, .string t, .int .i64 k], .agg #[s', c', .string t, .int .i64 k]] w fun e w' => e = .returned (.bool true) ∧ Below w.heap.size w w' := by
  have C1 := hide (fun (W : World) (hb : Below w.heap.size w W) => eqDisk_own _ _ _ _ _ _ d W hf (h.below hb) (h'.below hb))
  obtain ⟨so, p, co, q, rfl, rfl⟩ := h.shape
  obtain ⟨so', p', co', q', rfl, rfl⟩ := h'.shape
  obtain ⟨ss, cs⟩ := d
  simp only at *
  have HA := hide (two_allocs w (.cells #[.slice so ss.length p, .slice co cs.length q, .string t, .int .i64 k] 30) (.cells #[.slice so' ss.length p', .slice co' cs.length q', .string t, .int .i64 k] 30))
  have B0 := hide (((Below.refl w.heap.size w).alloc (Nat.le_refl _) (.cells #[.slice so ss.length p, .slice co cs.length q, .string t, .int .i64 k] 30)).alloc (by simp) (.cells #[.slice so' ss.length p', .slice co' cs.length q', .string t, .int .i64 k] 30))
  clear h h' hf
  go_enter Try.func25, Try.ntmps25
  go_wp2_with fail
  refine (C1.out _ B0.out).mono ?_
  generalize (w.alloc (.cells #[.slice so ss.length p, .slice co cs.length q, .string t, .int .i64 k] 30)).alloc (.cells #[.slice so' ss.length p', .slice co' cs.length q', .string t, .int .i64 k] 30) = W0 at *
  rintro e w1 ⟨rfl, b1⟩
  obtain ⟨hx0, hy0, hz0⟩ := HA.out
  obtain ⟨x0, x1, x2, x3, xf⟩ := cells4 ((b1.block w.heap.size (by omega)).trans hx0)
  obtain ⟨y0, y1, y2, y3, yf⟩ := cells4 ((b1.block (w.heap.size + 1) (by omega)).trans hy0)
  have B1 := hide (B0.out.trans (b1.mono B0.out.size))
  clear b1 HA hx0 hy0 hz0 B0 C1
  go_wp2
  go_ret
  exact ⟨rfl, B1.out⟩
set_option maxHeartbeats 2000000 in
theorem markDiskOut_own (base : Nat) (s c : Value) (t : ByteArray) (k : Int) (d : Dk) (w : World) (hf : dkFits d) (h : OwnD base s c d w) :
    Calls Try.prog 26 #[.agg #[s, c, .string t, .int .i64 k], .int .i64 1] w fun e w' => e = .returned (.int .i64 ((cntD d : Nat) : Int)) ∧ OwnD base s c (mDk d) w' ∧ GL [s, c] w w' := by
  have BA := (Below.refl w.heap.size w).alloc (Nat.le_refl _) (.cells #[s, c, .string t, .int .i64 k] 30)
  have HC := hide (markDisk_own base s c d _ hf (h.below BA))
  have B0 := hide (GL.alloc [s, c] w (.cells #[s, c, .string t, .int .i64 k] 30))
  obtain ⟨so, p, co, q, rfl, rfl⟩ := h.shape
  generalize mDk d = ms at *
  generalize cntD d = n at *
  obtain ⟨ss, cs⟩ := d
  simp only at *
  clear h hf BA
  go_enter Try.func26, Try.ntmps26
  go_wp2_with fail
  refine HC.out.mono ?_
  generalize w.alloc (.cells #[.slice so ss.length p, .slice co cs.length q, .string t, .int .i64 k] 30) = W0 at *
  rintro e w1 ⟨rfl, o1, g1⟩
  have O1 := hide o1
  have B1 := hide (B0.out.trans g1)
  clear o1 g1 HC B0
  go_wp2
  go_ret
  exact ⟨rfl, O1.out, B1.out⟩
set_option maxHeartbeats 2000000 in
theorem heldDiskOut_own (base : Nat) (s c : Value) (t : ByteArray) (k : Int) (d : Dk) (w : World) (hf : dkFits d) (h : OwnD base s c (mDk d) w) :
    Calls Try.prog 27 #[.agg #[s, c, .string t, .int .i64 k], .int .i64 1] w fun e w' => e = .returned (.int .i64 ((cntD d : Nat) : Int)) ∧ Below w.heap.size w w' := by
  have BA := (Below.refl w.heap.size w).alloc (Nat.le_refl _) (.cells #[s, c, .string t, .int .i64 k] 30)
  have HC := hide (heldDisk_own base s c d _ hf (h.below BA))
  have B0 := hide BA
  have h1 : OwnS base s (mStrs 1 d.secs.length) w := by have := h.secs; unfold mDk at this; exact this
  have h2 : OwnW base c (mWrs (1 + d.secs.length) d.cache.length) w := by have := h.cache; unfold mDk at this; exact this
  obtain ⟨so, p, es⟩ := ownS_shape h1
  obtain ⟨co, q, ec⟩ := ownW_shape h2
  rw [mStrs_len] at es
  rw [mWrs_len] at ec
  subst es ec
  generalize cntD d = n at *
  obtain ⟨ss, cs⟩ := d
  simp only at *
  clear h hf BA h1 h2
  have hn : ¬ ((n : Int) < 0) := by omega
  go_enter Try.func27, Try.ntmps27
  go_wp2_with fail
  refine HC.out.mono ?_
  generalize hW : w.alloc (.cells #[.slice so ss.length p, .slice co cs.length q, .string t, .int .i64 k] 30) = W0 at *
  rintro e w1 ⟨rfl, g1⟩
  have B1 := hide (B0.out.trans (g1.mono B0.out.size))
  clear g1 HC B0 hW
  go_wp2
  go_ret
  exact ⟨rfl, B1.out⟩
end Go.Proofs.Ythglidcfbdigiaa
