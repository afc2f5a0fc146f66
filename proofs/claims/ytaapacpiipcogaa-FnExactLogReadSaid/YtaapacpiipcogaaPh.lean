/-
  Contracts and plain laws, part 8 of 8: DkMark4, DkMark5, DkOut, DkOutAt, LgRdI, LgOut, StrRead, DkRead, RdInt, LgRLaw
-/
import Derived.RangeFuncBox
import Derived.Maps.AppendAt
import Derived.Scope
import Derived.Test.YtaapacpiipcogaaRows
import Derived.WalkKit
import Derived.ProofKit
import Derived.Deep.Slices
import Derived.Deep.Strs
import Derived.OpenShut
import Derived.ChangeSame
import Derived.ChangeMaps5
import Derived.Test.YtaapacpiipcogaaPg

/-
  Contract: a disk is marked.
-/
namespace Go.Proofs.Ytaapacpiipcogaa
open Go.RowKit
set_option maxRecDepth 100000

def mDk (d : Dk) : Dk := ⟨mStrs 1 d.secs.length, mWrs (1 + d.secs.length) d.cache.length⟩
def cntD (d : Dk) : Nat := 1 + d.secs.length + 2 * d.cache.length
theorem apart_ne {u v : Value} (h : u.ownBlock = none ∨ u.ownBlock ≠ v.ownBlock) : v.ownBlock = none ∨ v.ownBlock ≠ u.ownBlock := by
  rcases h with h | h
  · cases hv : v.ownBlock with
    | none => exact .inl rfl
    | some b => exact .inr (by rw [h]; simp)
  · exact .inr (fun e => h e.symm)
set_option maxHeartbeats 4000000 in
theorem markDisk_own (base : Nat) (s c : Value) (d : Dk) (w : World) (hc : dkFits d) (h : OwnD base s c d w) :
    Calls Try.prog 14 #[.agg #[s, c], .int .i64 1] w fun e w' => e = .returned (.int .i64 ((cntD d : Nat) : Int)) ∧ OwnD base s c (mDk d) w' ∧ GL [s, c] w w' := by
  have hc1 := hc.1
  have hc2 := hc.2
  obtain ⟨q1, hq1⟩ : ∃ q, q = 1 + d.secs.length := ⟨_, rfl⟩
  have HM : Hid (mDk d = ⟨mStrs 1 d.secs.length, mWrs q1 d.cache.length⟩ ∧ cntD d = q1 + 2 * d.cache.length) := by rw [hq1]; exact ⟨rfl, rfl⟩
  have HC1 := hide (fun (W : World) (hW : OwnS base s d.secs W) => show Calls Try.prog 42 #[s, .int .i64 1] W fun e w' => e = .returned (.int .i64 (q1 : Int)) ∧ OwnS base s (mStrs 1 d.secs.length) w' ∧ W.grownBy w' s.ownBlock by rw [hq1]; exact markStringS_mk base s d.secs 1 W (by omega) (by omega) hW)
  have HC2 := hide (fun (W : World) (hW : OwnW base c d.cache W) => markWriteS_mk base c d.cache q1 W (by omega) (by omega) hW)
  obtain ⟨so, p, co, q, rfl, rfl⟩ := h.shape
  obtain ⟨ss, cs⟩ := d
  simp only at *
  have HAP := hide h.apart
  have HL := hide h.lt
  have BA := (Below.refl w.heap.size w).alloc (Nat.le_refl _) (.cells #[.slice so ss.length p, .slice co cs.length q] 29)
  have HS0 := hide (h.below BA)
  have HX0 := hide (heap_alloc_new w (.cells #[.slice so ss.length p, .slice co cs.length q] 29))
  have B0 := hide (GL.alloc [.slice so ss.length p, .slice co cs.length q] w (.cells #[.slice so ss.length p, .slice co cs.length q] 29))
  have HZ : Hid ((w.alloc (.cells #[.slice so ss.length p, .slice co cs.length q] 29)).heap.size = w.heap.size + 1) := by show _ = _; simp
  clear h hc BA hq1 hc1 hc2
  go_enter Try.func14, Try.ntmps14
  go_wp2_with fail
  refine (HC1.out _ HS0.out.secs).mono ?_
  generalize w.alloc (.cells #[.slice so ss.length p, .slice co cs.length q] 29) = W0 at *
  rintro e w1 ⟨rfl, o1, g1⟩
  have HX1 := hide ((g1.block w.heap.size (by rw [HZ.out]; omega) (fun e => by have := (HL.out.1 _ e.symm).2; omega)).trans HX0.out)
  have K1 := hide (World.ownsRow.kept HS0.out.cache g1 (apart_ne HAP.out))
  have O1 := hide o1
  have B1 := hide (B0.out.trans (GL.of g1 (by simp)))
  clear o1 g1 HX0 B0 HS0 HC1 HZ
  obtain ⟨x0, x1, xf⟩ := cells2 HX1.out
  go_wp2_with fail
  refine (HC2.out _ K1.out).mono ?_
  rintro e w2 ⟨rfl, o2, g2⟩
  have O2 := hide (World.ownsRow.kept O1.out g2 HAP.out)
  have K2 := hide o2
  have B2 := hide (B1.out.trans (GL.of g2 (by simp)))
  have HO : Hid (OwnD base (.slice so ss.length p) (.slice co cs.length q) (mDk ⟨ss, cs⟩) w2) := by
    show OwnD _ _ _ _ _
    rw [HM.out.1]
    exact ⟨O2.out, K2.out, HAP.out⟩
  clear o2 g2 HX1 B1 K1 O1 HC2 x0 x1 xf
  have HCN := hide HM.out.2
  go_wp2
  go_ret
  exact ⟨by rw [HCN.out]; rfl, HO.out, B2.out⟩
end Go.Proofs.Ytaapacpiipcogaa

/-
  Contract: a marked disk is looked at again.
-/
namespace Go.Proofs.Ytaapacpiipcogaa
open Go.RowKit
set_option maxRecDepth 100000

set_option maxHeartbeats 4000000 in
theorem heldDisk_own (base : Nat) (s c : Value) (d : Dk) (w : World) (hc : dkFits d) (h : OwnD base s c (mDk d) w) :
    Calls Try.prog 44 #[.agg #[s, c], .int .i64 1] w fun e w' => e = .returned (.int .i64 ((cntD d : Nat) : Int)) ∧ Below w.heap.size w w' := by
  have hc1 := hc.1
  have hc2 := hc.2
  obtain ⟨q1, hq1⟩ : ∃ q, q = 1 + d.secs.length := ⟨_, rfl⟩
  have HM : Hid (cntD d = q1 + 2 * d.cache.length) := by rw [hq1]; rfl
  have h1 : OwnS base s (mStrs 1 d.secs.length) w := by have := h.secs; unfold mDk at this; exact this
  have h2 : OwnW base c (mWrs q1 d.cache.length) w := by have := h.cache; unfold mDk at this; rw [hq1]; exact this
  have HC1 := hide (fun (W : World) (hW : Below w.heap.size w W) => show Calls Try.prog 70 #[s, .int .i64 1] W fun e w' => e = .returned (.int .i64 (q1 : Int)) ∧ Below W.heap.size W w' by rw [hq1]; exact heldStringS_mk base s d.secs.length 1 W (by omega) (by omega) (owns_below h1 hW))
  have HC2 := hide (fun (W : World) (hW : Below w.heap.size w W) => heldWriteS_mk base c d.cache.length q1 W (by omega) (by omega) (owns_below h2 hW))
  obtain ⟨so, p, es⟩ := ownS_shape h1
  obtain ⟨co, q, ec⟩ := ownW_shape h2
  rw [mStrs_len] at es
  rw [mWrs_len] at ec
  subst es ec
  obtain ⟨ss, cs⟩ := d
  simp only at *
  have BA := hide ((Below.refl w.heap.size w).alloc (Nat.le_refl _) (.cells #[.slice so ss.length p, .slice co cs.length q] 29))
  have HX0 := hide (heap_alloc_new w (.cells #[.slice so ss.length p, .slice co cs.length q] 29))
  have HZ : Hid ((w.alloc (.cells #[.slice so ss.length p, .slice co cs.length q] 29)).heap.size = w.heap.size + 1) := by show _ = _; simp
  have hn1 : ¬ ((q1 : Int) < 0) := by omega
  have hn2 : ¬ (((q1 + 2 * cs.length : Nat) : Int) < 0) := by omega
  clear h h1 h2 hc hq1 hc1 hc2
  generalize q1 + 2 * cs.length = q2 at *
  go_enter Try.func44, Try.ntmps44
  go_wp2_with fail
  refine (HC1.out _ BA.out).mono ?_
  generalize w.alloc (.cells #[.slice so ss.length p, .slice co cs.length q] 29) = W0 at *
  rintro e w1 ⟨rfl, g1⟩
  have HX1 := hide ((g1.block w.heap.size (by rw [HZ.out]; omega)).trans HX0.out)
  have B1 := hide (BA.out.trans (g1.mono BA.out.size))
  clear g1 HX0 BA HC1 HZ
  obtain ⟨x0, x1, xf⟩ := cells2 HX1.out
  go_wp2_with fail
  refine (HC2.out _ B1.out).mono ?_
  rintro e w2 ⟨rfl, g2⟩
  have B2 := hide (B1.out.trans (g2.mono B1.out.size))
  clear g2 HX1 B1 HC2 x0 x1 xf
  go_wp2
  go_ret
  exact ⟨by rw [HM.out]; rfl, B2.out⟩
end Go.Proofs.Ytaapacpiipcogaa

/-
  Contracts: what a disk's call tells, held against another, marked, looked at again.
-/
namespace Go.Proofs.Ytaapacpiipcogaa
open Go.RowKit
set_option maxRecDepth 100000

theorem GL.ownD {l : List Value} {w w' : World} {b m n : Nat} {s c : Value} {d : Dk} (h : GL l w w') (ho : OwnD b s c d w) (hv : ∀ v ∈ l, ∀ b, v.ownBlock = some b → m ≤ b ∧ b < n) (hs : ∀ b, s.ownBlock = some b → b < m ∨ n ≤ b) (hc : ∀ b, c.ownBlock = some b → b < m ∨ n ≤ b) : OwnD b s c d w' := by
  have key : ∀ u : Value, (∀ b, u.ownBlock = some b → b < m ∨ n ≤ b) → ∀ v ∈ l, u.ownBlock = none ∨ u.ownBlock ≠ v.ownBlock := fun u hu v hl => by
    cases hq : u.ownBlock with
    | none => exact .inl rfl
    | some q =>
      refine .inr (fun e => ?_)
      have h1 := hu q hq
      have h2 := hv v hl q e.symm
      omega
  exact ⟨h.own ho.secs (key s hs), h.own ho.cache (key c hc), ho.apart⟩
theorem GL.blk {l : List Value} {w w' : World} {g m n : Nat} {o : Obj} (h : GL l w w') (hg : w.heap[g]? = some o) (hv : ∀ v ∈ l, ∀ b, v.ownBlock = some b → m ≤ b ∧ b < n) (hb : g < m ∨ n ≤ g) : w'.heap[g]? = some o :=
  (h.block g (Array.getElem?_eq_some_iff.1 hg).1 (fun v hl e => by have := hv v hl g e; omega)).trans hg
theorem GL.bel {l : List Value} {w w' : World} {B m n : Nat} (h : GL l w w') (hv : ∀ v ∈ l, ∀ b, v.ownBlock = some b → m ≤ b ∧ b < n) (hm : B ≤ m) (hB : B ≤ w.heap.size) : Below B w w' :=
  h.below (fun v hl b e => by have := hv v hl b e; omega) hB
theorem OwnD.two {b m n : Nat} {s c : Value} {d : Dk} {w : World} (h : OwnD b s c d w) (hm : m ≤ b) (hn : w.heap.size ≤ n) : ∀ v ∈ [s, c], ∀ b, v.ownBlock = some b → m ≤ b ∧ b < n := fun v hv k hk => by
  simp only [List.mem_cons, List.not_mem_nil, or_false] at hv
  rcases hv with rfl | rfl
  · have := h.lt.1 k hk; omega
  · have := h.lt.2 k hk; omega
theorem blk_lt {w : World} {g : Nat} {o : Obj} (h : w.heap[g]? = some o) : g < w.heap.size := (Array.getElem?_eq_some_iff.1 h).1
set_option maxHeartbeats 2000000 in
theorem eqDiskOut_own (b1 b2 : Nat) (s c s' c' : Value) (t : ByteArray) (k : Int) (d : Dk) (w : World) (hf : dkFits d) (h : OwnD b1 s c d w) (h' : OwnD b2 s' c' d w) :
    Calls Try.prog 12 #[.agg #[s, c, .string t, .int .i64 k], .agg #[s', c', .string t, .int .i64 k]] w fun e w' => e = .returned (.bool true) ∧ Below w.heap.size w w' := by
  have C1 := hide (fun (W : World) (hb : Below w.heap.size w W) => eqDisk_own _ _ _ _ _ _ d W hf (h.below hb) (h'.below hb))
  obtain ⟨so, p, co, q, rfl, rfl⟩ := h.shape
  obtain ⟨so', p', co', q', rfl, rfl⟩ := h'.shape
  obtain ⟨ss, cs⟩ := d
  simp only at *
  have HA := hide (two_allocs w (.cells #[.slice so ss.length p, .slice co cs.length q, .string t, .int .i64 k] 31) (.cells #[.slice so' ss.length p', .slice co' cs.length q', .string t, .int .i64 k] 31))
  have B0 := hide (((Below.refl w.heap.size w).alloc (Nat.le_refl _) (.cells #[.slice so ss.length p, .slice co cs.length q, .string t, .int .i64 k] 31)).alloc (by simp) (.cells #[.slice so' ss.length p', .slice co' cs.length q', .string t, .int .i64 k] 31))
  clear h h' hf
  go_enter Try.func12, Try.ntmps12
  go_wp2_with fail
  refine (C1.out _ B0.out).mono ?_
  generalize (w.alloc (.cells #[.slice so ss.length p, .slice co cs.length q, .string t, .int .i64 k] 31)).alloc (.cells #[.slice so' ss.length p', .slice co' cs.length q', .string t, .int .i64 k] 31) = W0 at *
  rintro e w1 ⟨rfl, b1⟩
  obtain ⟨hx0, hy0, hz0⟩ := HA.out
  obtain ⟨x0, x1, x2, x3, xf⟩ := cells4 ((b1.block w.heap.size (by omega)).trans hx0)
  obtain ⟨y0, y1, y2, y3, yf⟩ := cells4 ((b1.block (w.heap.size + 1) (by omega)).trans hy0)
  have B1 := hide (B0.out.trans (b1.mono B0.out.size))
  clear b1 HA hx0 hy0 hz0 B0 C1
  go_wp2
  go_ret
  exact ⟨rfl, B1.out⟩
set_option maxHeartbeats 2000000 in
theorem markDiskOut_own (base : Nat) (s c : Value) (t : ByteArray) (k : Int) (d : Dk) (w : World) (hf : dkFits d) (h : OwnD base s c d w) :
    Calls Try.prog 15 #[.agg #[s, c, .string t, .int .i64 k], .int .i64 1] w fun e w' => e = .returned (.int .i64 ((cntD d : Nat) : Int)) ∧ OwnD base s c (mDk d) w' ∧ GL [s, c] w w' := by
  have BA := (Below.refl w.heap.size w).alloc (Nat.le_refl _) (.cells #[s, c, .string t, .int .i64 k] 31)
  have HC := hide (markDisk_own base s c d _ hf (h.below BA))
  have B0 := hide (GL.alloc [s, c] w (.cells #[s, c, .string t, .int .i64 k] 31))
  obtain ⟨so, p, co, q, rfl, rfl⟩ := h.shape
  generalize mDk d = ms at *
  generalize cntD d = n at *
  obtain ⟨ss, cs⟩ := d
  simp only at *
  clear h hf BA
  go_enter Try.func15, Try.ntmps15
  go_wp2_with fail
  refine HC.out.mono ?_
  generalize w.alloc (.cells #[.slice so ss.length p, .slice co cs.length q, .string t, .int .i64 k] 31) = W0 at *
  rintro e w1 ⟨rfl, o1, g1⟩
  have O1 := hide o1
  have B1 := hide (B0.out.trans g1)
  clear o1 g1 HC B0
  go_wp2
  go_ret
  exact ⟨rfl, O1.out, B1.out⟩
set_option maxHeartbeats 2000000 in
theorem heldDiskOut_own (base : Nat) (s c : Value) (t : ByteArray) (k : Int) (d : Dk) (w : World) (hf : dkFits d) (h : OwnD base s c (mDk d) w) :
    Calls Try.prog 16 #[.agg #[s, c, .string t, .int .i64 k], .int .i64 1] w fun e w' => e = .returned (.int .i64 ((cntD d : Nat) : Int)) ∧ Below w.heap.size w w' := by
  have BA := (Below.refl w.heap.size w).alloc (Nat.le_refl _) (.cells #[s, c, .string t, .int .i64 k] 31)
  have HC := hide (heldDisk_own base s c d _ hf (h.below BA))
  have B0 := hide BA
  have h1 : OwnS base s (mStrs 1 d.secs.length) w := by have := h.secs; unfold mDk at this; exact this
  have h2 : OwnW base c (mWrs (1 + d.secs.length) d.cache.length) w := by have := h.cache; unfold mDk at this; exact this
  obtain ⟨so, p, es⟩ := ownS_shape h1
  obtain ⟨co, q, ec⟩ := ownW_shape h2
  rw [mStrs_len] at es
  rw [mWrs_len] at ec
  subst es ec
  generalize cntD d = n at *
  obtain ⟨ss, cs⟩ := d
  simp only at *
  clear h hf BA h1 h2
  have hn : ¬ ((n : Int) < 0) := by omega
  go_enter Try.func16, Try.ntmps16
  go_wp2_with fail
  refine HC.out.mono ?_
  generalize hW : w.alloc (.cells #[.slice so ss.length p, .slice co cs.length q, .string t, .int .i64 k] 31) = W0 at *
  rintro e w1 ⟨rfl, g1⟩
  have B1 := hide (B0.out.trans (g1.mono B0.out.size))
  clear g1 HC B0 hW
  go_wp2
  go_ret
  exact ⟨rfl, B1.out⟩
end Go.Proofs.Ytaapacpiipcogaa

/-
  A disk's answer in a box, its lists in rows of their own; a region cut behind its last operation.
-/
namespace Go.Proofs.Ytaapacpiipcogaa
open Go.RowKit
set_option maxRecDepth 100000

/-- A region's end, said of what it has written into the slots. -/
theorem wp_cutA {P : Program} {c : Code} {Q : Exit → Act → World → Prop} {a : Act} {w : World} {β : Type} (T : Act → β → Act) (J : β → World → Prop)
    (h : c.wp P (Exit.then (fun a' w' => ∃ x, a' = T a x ∧ J x w') (fun _ _ _ => False)) a w) (hq : ∀ x w', J x w' → Q .normal (T a x) w') : c.wp P Q a w := by
  refine wp_mono h ?_
  intro e a' w' he
  cases e with
  | normal => obtain ⟨x, rfl, hx⟩ := he; exact hq x w' hx
  | ret => exact he.elim
  | exit => exact he.elim
  | goto => exact he.elim
  | panic => exact he.elim
  | outgrown => exact he.elim
def putA (a : Act) (i : Nat) (v : Value) : Act := { a with tmps := a.tmps.setIfInBounds i v }
def zOut : Obj := .cells #[.slice none 0 0, .slice none 0 0, .string ⟨#[]⟩, .int .i64 0] 31
def setO (W : World) (g : Nat) (s c : Value) (t : ByteArray) (K : Int) : World := (((W.setCell ⟨g, 0, none⟩ s).setCell ⟨g, 1, none⟩ c).setCell ⟨g, 2, none⟩ (.string t)).setCell ⟨g, 3, none⟩ (.int .i64 K)
structure OutAt (lo g : Nat) (s c : Value) (t : ByteArray) (K : Int) (D : Dk) (W : World) : Prop where
  box : W.heap[g]? = some (.cells #[s, c, .string t, .int .i64 K] 31 (0, 0))
  own : OwnD lo s c D W
  far : ∀ v ∈ [s, c], ∀ b, v.ownBlock = some b → b ≠ g
  low : lo ≤ g
theorem OutAt.below {lo g : Nat} {s c : Value} {t : ByteArray} {K : Int} {D : Dk} {W W' : World} (h : OutAt lo g s c t K D W) (hb : Below W.heap.size W W') : OutAt lo g s c t K D W' :=
  ⟨(hb.block g (blk_lt' h.box)).trans h.box, h.own.below hb, h.far, h.low⟩
theorem own_setF {W : World} {base g m n size : Nat} {v x : Value} {xs : List Value} {t : TypeId} (h : W.ownsRow base t size v n xs) (hg : ∀ b, v.ownBlock = some b → b ≠ g) : (W.setCell ⟨g, m, none⟩ x).ownsRow base t size v n xs := by
  refine ⟨h.1, ?_⟩
  rcases h.2 with h0 | ⟨q, cap, cur, rfl, hB, hq, hn, hm, hs, ht⟩
  · exact .inl h0
  · exact .inr ⟨q, cap, cur, rfl, hB, by rw [heap_setCell_other _ _ _ _ (show q ≠ g from hg q rfl)]; exact hq, hn, hm, hs, ht⟩
theorem OwnD.setF {base g m : Nat} {s c x : Value} {d : Dk} {w : World} (h : OwnD base s c d w) (hg : ∀ v ∈ [s, c], ∀ b, v.ownBlock = some b → b ≠ g) : OwnD base s c d (w.setCell ⟨g, m, none⟩ x) :=
  ⟨own_setF h.secs (hg s (by simp)), own_setF h.cache (hg c (by simp)), h.apart⟩
theorem outAt_early {lo base z : Nat} {s c : Value} {t : ByteArray} {K : Int} {D : Dk} {W : World} {a0 a1 a2 a3 : Value} (hz : W.heap[z]? = some (.cells #[a0, a1, a2, a3] 31 (0, 0))) (ho : OwnD base s c D W) (hlt : z < base) (hlo : lo ≤ z) : OutAt lo z s c t K D (setO W z s c t K) := by
  have hf : ∀ v ∈ [s, c], ∀ b, v.ownBlock = some b → b ≠ z := fun v hv b hb => by
    simp at hv
    rcases hv with rfl | rfl
    · have := (ho.lt.1 b hb).1; omega
    · have := (ho.lt.2 b hb).1; omega
  exact ⟨set4w hz, ((((ho.setF hf).setF hf).setF hf).setF hf).base (by omega), hf, hlo⟩
theorem outAt_late {lo : Nat} {s c : Value} {t : ByteArray} {K : Int} {D : Dk} {W : World} (ho : OwnD lo s c D W) (hlo : lo ≤ W.heap.size) : OutAt lo W.heap.size s c t K D (W.alloc (.cells #[s, c, .string t, .int .i64 K] 31)) := by
  have hf : ∀ v ∈ [s, c], ∀ b, v.ownBlock = some b → b ≠ W.heap.size := fun v hv b hb => by
    simp at hv
    rcases hv with rfl | rfl
    · have := (ho.lt.1 b hb).2; omega
    · have := (ho.lt.2 b hb).2; omega
  exact ⟨heap_alloc_new W _, ho.below ((Below.refl W.heap.size W).alloc (Nat.le_refl _) _), hf, hlo⟩
theorem setO_below {B g : Nat} {W0 W : World} {s c : Value} {t : ByteArray} {K : Int} (h : Below B W0 W) (hg : B ≤ g) : Below B W0 (setO W g s c t K) :=
  (((h.setCell (p := ⟨g, 0, none⟩) hg _).setCell (p := ⟨g, 1, none⟩) hg _).setCell (p := ⟨g, 2, none⟩) hg _).setCell (p := ⟨g, 3, none⟩) hg _
theorem OutAt.lts {lo g : Nat} {s c : Value} {t : ByteArray} {K : Int} {D : Dk} {W : World} (h : OutAt lo g s c t K D W) : ∀ v ∈ [s, c], ∀ b, v.ownBlock = some b → lo ≤ b ∧ b < W.heap.size := fun v hv b hb => by
  simp at hv
  rcases hv with rfl | rfl
  · exact h.own.lt.1 b hb
  · exact h.own.lt.2 b hb
/-- Behind marks of other lists. -/
theorem OutAt.gl {lo g m n : Nat} {s c : Value} {t : ByteArray} {K : Int} {D : Dk} {W W' : World} {l : List Value} (h : OutAt lo g s c t K D W) (k : GL l W W') (hv : ∀ v ∈ l, ∀ b, v.ownBlock = some b → m ≤ b ∧ b < n) (hs : ∀ v ∈ [s, c], ∀ b, v.ownBlock = some b → b < m ∨ n ≤ b) (hg : g < m ∨ n ≤ g) : OutAt lo g s c t K D W' :=
  ⟨k.blk h.box hv hg, k.ownD h.own hv (hs s (by simp)) (hs c (by simp)), h.far, h.low⟩
/-- Behind the marks of its own lists. -/
theorem OutAt.marked {lo g : Nat} {s c : Value} {t : ByteArray} {K : Int} {D D' : Dk} {W W' : World} (h : OutAt lo g s c t K D W) (k : GL [s, c] W W') (ho : OwnD lo s c D' W') : OutAt lo g s c t K D' W' :=
  ⟨(k.block g (blk_lt' h.box) (fun v hv e => h.far v hv g e rfl)).trans h.box, ho, h.far, h.low⟩
end Go.Proofs.Ytaapacpiipcogaa

/-
  Contract: LogRead of the program.
-/
namespace Go.Proofs.Ytaapacpiipcogaa
open Go.RowKit Go.Shelf
attribute [local go_sem] Oper.semAt_some
set_option maxRecDepth 100000

theorem cell_two_newL (w : World) (x y : Value) (t : TypeId) : ∀ j u, [x, y][j]? = some u → (w.alloc (.cells #[x, y] t)).cell? ((⟨w.heap.size, 0, none⟩ : Addr).add j) = some u := by
  intro j u hj
  have hadd : (⟨w.heap.size, 0, none⟩ : Addr).add j = ⟨w.heap.size, j, none⟩ := by unfold Addr.add; split <;> simp_all
  rw [hadd, cell_of_row _ _ _ _ _ _ (heap_alloc_new w _)]
  simpa using hj
theorem own_abides {base n size : Nat} {t : TypeId} {v : Value} {xs : List Value} {W W' : World} {row : Option Nat} (h : W.ownsRow base t size v n xs) (hg : W.grownBy W' row) (hr : ∀ r, row = some r → ∃ o : Obj, W.heap[r]? = some o ∧ o.isCells = false) : W'.ownsRow base t size v n xs := by
  refine World.ownsRow.kept h hg ?_
  rcases h.2 with ⟨rfl, _⟩ | ⟨g, cap, cur, rfl, _, hgb, _⟩
  · exact .inl rfl
  · refine .inr (fun e => ?_)
    obtain ⟨o, ho, hc⟩ := hr g (by simpa [Value.ownBlock] using e.symm)
    rw [hgb] at ho; cases ho; cases hc
theorem cells_abides {g : Nat} {cs : Array Value} {t : TypeId} {W W' : World} {row : Option Nat} (h : W.heap[g]? = some (.cells cs t (0, 0))) (hg : W.grownBy W' row) (hr : ∀ r, row = some r → ∃ o : Obj, W.heap[r]? = some o ∧ o.isCells = false) : W'.heap[g]? = some (.cells cs t (0, 0)) := by
  refine (hg.block g (Array.getElem?_eq_some_iff.1 h).1 (fun e => ?_)).trans h
  obtain ⟨o, ho, hc⟩ := hr g e.symm
  rw [h] at ho; cases ho; cases hc
/-- What the variable holds when these have come. -/
structure LgI (g7 k0 : Nat) (W2 : World) (pre : List El) (W : World) : Prop where
  out : ∃ v, W.heap[g7]? = some (.cells #[v, .int .i64 ((k0 + (pre.map El.many).sum : Nat) : Int), .int .i64 0] 49 (0, 0)) ∧ OwnR (g7 + 1) v (pre.map elWr) W
  pos : ∀ x ∈ pre, 0 < x.many
  bel : Below g7 W2 W
theorem LgI.abides {g7 k0 : Nat} {W2 : World} {pre : List El} {W W' : World} {row : Option Nat} (h : LgI g7 k0 W2 pre W) (hs : g7 ≤ W2.heap.size) (hg : W.grownBy W' row) (hr : ∀ r, row = some r → W2.heap.size ≤ r ∧ ∃ o : Obj, W.heap[r]? = some o ∧ o.isCells = false) : LgI g7 k0 W2 pre W' := by
  obtain ⟨v, h1, h2⟩ := h.out
  exact ⟨⟨v, cells_abides h1 hg (fun r e => (hr r e).2), own_abides h2 hg (fun r e => (hr r e).2)⟩, h.pos, h.bel.grown hg (Nat.le_trans hs h.bel.size) (fun r e => Nat.le_trans hs (hr r e).1)⟩
theorem sum_le700 : ∀ pre : List El, (pre.map El.many).sum ≤ pre.length * 700
  | [] => by simp
  | x :: l => by
    have := sum_le700 l
    have := x.le
    simp only [List.map_cons, List.sum_cons, List.length_cons]
    omega
theorem app_frame {W w5 : World} {g7 n size : Nat} {t e : TypeId} {v : Value} {xs : List Value} {tmp : Obj} {a b c : Value} (ho : W.ownsRow (g7 + 1) e size v n xs) (hv : W.heap[g7]? = some (.cells #[a, b, c] t (0, 0))) (hgrow : (W.alloc tmp).grownBy w5 v.ownBlock) :
    w5.heap[g7]? = some (.cells #[a, b, c] t (0, 0)) ∧ KeepsOthers W w5 ∧ Below g7 W w5 := by
  have hl := blkR hv
  have hown : ∀ j, v.ownBlock = some j → g7 + 1 ≤ j := fun j hj => (World.ownsRow.lt ho j hj).1
  refine ⟨?_, ?_, ?_⟩
  · exact (hgrow.block g7 (by rw [World.size_alloc]; omega) (fun e => by have := hown g7 e.symm; omega)).trans ((heap_old W tmp _ hl).trans hv)
  · refine (KeepsOthers.alloc W tmp).trans (KeepsOthers.of_grownBy hgrow fun j o ej hj => ?_)
    rcases (ho.alloc tmp).2 with ⟨rfl, _⟩ | ⟨g, cap, cur, rfl, _, hgb, _⟩
    · simp [Value.ownBlock] at ej
    · obtain rfl : g = j := by simpa [Value.ownBlock] using ej
      rw [hgb] at hj; cases hj; rfl
  · exact ((Below.refl g7 W).alloc (by omega) tmp).grown hgrow (by rw [World.size_alloc]; omega) (fun j ej => by have := hown j ej; omega)
theorem set01 {W : World} {g : Nat} {a b c x y : Value} {t : TypeId} (h : W.heap[g]? = some (.cells #[a, b, c] t (0, 0))) : ((W.setCell ⟨g, 0, none⟩ x).setCell ⟨g, 1, none⟩ y).heap[g]? = some (.cells #[x, y, c] t (0, 0)) := by
  have h1 := heap_setCell_same W g 0 _ t x h
  have h2 := heap_setCell_same _ g 1 _ t y h1
  simpa using h2
theorem logR_stop {fl : List ByteArray} (h64 : ∀ i, i < fl.length → (fl.getD i ByteArray.empty).size = 64) {k0 : Nat} {q0 : Int} {p pre : List El} {x : El} (h : StopAt fl k0 q0 p) (hp : p = pre ++ [x]) (hx : x.many = 0) (hk0 : k0 ≤ fl.length) : logR fl (fl.length - k0 + 1) k0 q0 = (pre.map elWr, k0 + (pre.map El.many).sum) := by
  obtain ⟨pre', k, q, x', ht, hp', hn⟩ := h
  rw [hp] at hp'
  obtain ⟨h1, h2⟩ := List.append_inj' hp' rfl
  simp only [List.cons.injEq, and_true] at h2
  subst h1 h2
  exact ht.stop h64 hk0 (hn hx)
theorem wpIn_scopeF {F : Fence} {n : Nat} {P : Program} {c : Code} {Q : Exit → Act → World → Prop} {a : Act} {w : World} (hF : F = Fence.wide) (h : c.wpIn F n P (Exit.noGoto Q) a w) : (Code.scope c).wpIn F n P Q a w := by
  subst hF
  exact wpIn_wide.2 (wp_scope_straight (wpIn_wide.1 h))
set_option maxHeartbeats 8000000 in
theorem recordsFrom_in (F : Fence) (n : Nat) (hf : F.fn 55) (hro : F.round = none) (s c : Value) (a q : Int) (w : World) :
    CallsIn F n Try.prog 55 #[.agg #[s, c], .int .i64 a, .int .i64 q] w fun e w' => e = .returned (.func (.func 78) #[] #[.pointer (some ⟨w.heap.size, 0, none⟩), .pointer (some ⟨w.heap.size + 1, 0, none⟩), .pointer (some ⟨w.heap.size + 1 + 1, 0, none⟩)]) ∧ w' = ((w.alloc (.cells #[s, c] 29)).alloc (.cells #[.int .i64 a] 2)).alloc (.cells #[.int .i64 q] 2) := by
  refine callsIn_of_wp Try.func55 rfl hf ?_ hro
  simp only [Try.ntmps55, List.size_toArray, List.length_cons, List.length_nil, Nat.reduceAdd, Nat.reduceSub, Array.replicate_succ, Array.replicate_zero, List.push_toArray, List.append_toArray, List.nil_append, List.cons_append]
  gi_wp2
  go_ret
  exact ⟨rfl, rfl⟩
set_option maxHeartbeats 8000000 in
theorem implLogRead_in (F : Fence) (hF : F = Fence.wide) (n : Nat) (hn : 4 ≤ n) (b0 : Nat) (so : Option Addr) (p : Nat) (co : Option Addr) (z : Nat) (d : Dk) (k0 : Nat) (q0 : Int) (w : World) (hR : dkRight d = true) (hk0 : k0 < d.secs.length) (hq0 : 1 ≤ q0 ∧ q0 ≤ 1000000000) (hs : seqOk q0 = true)
    (hr : DkRow w b0 w.heap.size so co d) :
    CallsIn F n Try.prog 24 #[.agg #[.slice so d.secs.length p, .slice co d.cache.length z], .int .i64 (k0 : Int), .int .i64 q0] w fun e w' => ∃ v, e = .returned (.agg #[v, .int .i64 ((logR (flushL d.secs d.cache) (d.secs.length - k0 + 1) k0 q0).2 : Int), .int .i64 0]) ∧ OwnR w.heap.size v (logR (flushL d.secs d.cache) (d.secs.length - k0 + 1) k0 q0).1 w' ∧ Below w.heap.size w w' := by
  have h1 : 1 ≤ n := by omega
  have hf : F.fn 24 := by rw [hF]; trivial
  have hf0 : F.fn 36 := by rw [hF]; trivial
  have hf3 : F.fn 46 := by rw [hF]; trivial
  have hf1 : F.fn 55 := by rw [hF]; trivial
  have hf2 : F.fn 78 := by rw [hF]; trivial
  have hro : F.round = none := by rw [hF]; rfl
  have hd : F.depth = none := by rw [hF]; rfl
  have hdd : ∀ k : Nat, (F.depth.isSome = true → 1 ≤ k) := fun k h => by rw [hd] at h; cases h
  have HF := hide hF
  have HIM := hide (fun (m : Nat) (W : World) (hb : Below w.heap.size w W) => show CallsIn F m Try.prog 36 #[.agg #[.slice so d.secs.length p, .slice co d.cache.length z]] W fun e w' => e = .returned (.bool true) ∧ Below W.heap.size W w' by
    have h := implDiskRight_any b0 w.heap.size so p co z d W hb.size (hr.kept hb)
    rw [hR] at h
    rw [hF]; exact callsIn_wide.2 h)
  have HSQ := hide (fun (m : Nat) (W : World) => show CallsIn F m Try.prog 46 #[.int .i64 q0] W fun e w' => e = .returned (.bool true) ∧ w' = W by
    have h := seqRight_any q0 W
    rw [hs] at h
    rw [hF]; exact callsIn_wide.2 h)
  have HRF := hide (fun (m : Nat) (W : World) => recordsFrom_in F m hf1 hro (.slice so d.secs.length p) (.slice co d.cache.length z) k0 q0 W)
  have H64 := hide (flush64 hR)
  have hfl : (flushL d.secs d.cache).length = d.secs.length := flushL_len d.cache d.secs
  have HLS := hide (fun (p pre : List El) (x : El) (h : StopAt (flushL d.secs d.cache) k0 q0 p) (hp : p = pre ++ [x]) (hx : x.many = 0) => logR_stop H64.out h hp hx (by omega))
  rw [hfl] at HLS
  have HRE := hide (fun (m n₀ b1 b2 b3 : Nat) (W : World) (hb : Below w.heap.size w W) h1 h2 h3 => recs_ends F hF m n₀ b0 w.heap.size b1 b2 b3 so p co z d k0 q0 W hb.size (hr.kept hb) hR hk0 hq0 h1 h2 h3)
  have hbd := (dkRight_bounds hR).1
  have HA := two_allocs w (.cells #[.slice so d.secs.length p, .slice co d.cache.length z] 29) (.cells #[.slice none 0 0, .int .i64 0, .int .i64 0] 49)
  have B0 := hide (((Below.refl w.heap.size w).alloc (Nat.le_refl _) (.cells #[.slice so d.secs.length p, .slice co d.cache.length z] 29)).alloc (by simp) (.cells #[.slice none 0 0, .int .i64 0, .int .i64 0] 49))
  have X0 := hide HA.1
  have Y0 := hide HA.2.1
  clear HA hF hR hs hr hfl
  obtain ⟨n1, hn1⟩ : ∃ n, n = d.secs.length := ⟨_, rfl⟩
  obtain ⟨n2, hn2⟩ : ∃ n, n = d.cache.length := ⟨_, rfl⟩
  rw [← hn1, ← hn2] at HIM HRF HRE X0 Y0 B0 ⊢
  rw [← hn1] at HLS hbd hk0
  generalize flushL d.secs d.cache = fl at *
  obtain ⟨tot, htot⟩ : ∃ tot, tot = logR fl (n1 - k0 + 1) k0 q0 := ⟨_, rfl⟩
  rw [← htot]
  rw [← htot] at HLS
  clear hn1 hn2 htot
  obtain ⟨x0, x1, xf⟩ := cells2 X0.out
  refine callsIn_of_wp_marks Try.func24 rfl hf ?_ hro
  simp only [Try.ntmps24, List.size_toArray, List.length_cons, List.length_nil, Nat.reduceAdd, Nat.reduceSub, Array.replicate_succ, Array.replicate_zero, List.push_toArray, List.append_toArray, List.nil_append, List.cons_append]
  gi_wp2
  refine wpIn_scopeF HF.out ?_
  gi_wp2_with (first
    | ((try refine ⟨hdd _, ?_⟩); gi_at_call 36; refine (HIM.out _ _ B0.out).mono ?_; rintro e w1 ⟨rfl, b1⟩; have X1 := hide ((b1.block w.heap.size (blkR X0.out)).trans X0.out); have Y1 := hide ((b1.block (w.heap.size + 1) (blkR Y0.out)).trans Y0.out); have B1 := hide (B0.out.trans (b1.mono B0.out.size)); have L1 : Hid (w.heap.size + 1 < w1.heap.size) := blkR Y1.out; clear b1 x0 x1 xf; obtain ⟨x0, x1, xf⟩ := cells2 X1.out)
    | ((try refine ⟨hdd _, ?_⟩); gi_at_call 46; refine (HSQ.out _ _).mono ?_; rintro e w2 ⟨rfl, rfl⟩; have B2a := hide (B1.out.alloc B1.out.size (.cells #[.slice none 0 0, .int .i64 (k0 : Int), .int .i64 0] 49)); have X2 := hide ((heap_old w2 (.cells #[.slice none 0 0, .int .i64 (k0 : Int), .int .i64 0] 49) w.heap.size (blkR X1.out)).trans X1.out); obtain ⟨x20, x21, x2f⟩ := cells2 X2.out)
    | ((try refine ⟨hdd _, ?_⟩); gi_at_call 55; refine (HRF.out _ _).mono ?_; rintro e w3 ⟨rfl, hw3⟩))
  refine wpIn_label ?_
  gi_wp2_with (first
    | ((try refine ⟨hdd _, ?_⟩); gi_at_call 55; refine (HRF.out _ _).mono ?_; rintro e w3 ⟨rfl, hw3⟩))
  have Z2 : Hid ((w2.alloc (.cells #[.slice none 0 0, .int .i64 (k0 : Int), .int .i64 0] 49)).heap.size = w2.heap.size + 1) := by show _ = _; simp
  have G2 := hide (heap_alloc_new w2 (.cells #[.slice none 0 0, .int .i64 (k0 : Int), .int .i64 0] 49))
  have Y2 := hide ((heap_old w2 (.cells #[.slice none 0 0, .int .i64 (k0 : Int), .int .i64 0] 49) _ (blkR Y1.out)).trans Y1.out)
  have ZL : Hid (w.heap.size ≤ w2.heap.size) := B1.out.size
  clear X1 Y1 B1 x0 x1 xf X2 x20 x21 x2f HIM HSQ HRF B0 X0 Y0
  generalize hW2 : w2.alloc (.cells #[.slice none 0 0, .int .i64 (k0 : Int), .int .i64 0] 49) = W2 at *
  clear hW2
  have HA4 := alloc3 W2 (.cells #[.slice so n1 p, .slice co n2 z] 29) (.cells #[.int .i64 (k0 : Int)] 2) (.cells #[.int .i64 q0] 2)
  have BW := (((Below.refl W2.heap.size W2).alloc (Nat.le_refl _) (.cells #[.slice so n1 p, .slice co n2 z] 29)).alloc (by simp) (.cells #[.int .i64 (k0 : Int)] 2)).alloc (by simp; omega) (.cells #[.int .i64 q0] 2)
  rw [← hw3] at HA4 BW ⊢
  rw [Z2.out] at HA4 BW
  have B3 := hide (B2a.out.trans (BW.mono (by have := ZL.out; omega)))
  have G3 := hide ((BW.block w2.heap.size (by omega)).trans G2.out)
  have Y3 := hide ((BW.block (w.heap.size + 1) (by have := L1.out; omega)).trans Y2.out)
  have hz3 : w2.heap.size + 4 ≤ w3.heap.size := by have := blkR HA4.2.2; omega
  have HST := HRE.out (n - 1) w2.heap.size _ _ _ w3 B3.out HA4.1 HA4.2.1 HA4.2.2
  clear hw3 HA4 BW Z2 G2 Y2 B2a HRE
  have HI0 : LgI w2.heap.size k0 w3 [] w3 := ⟨⟨_, by simpa using G3.out, ownR_nil _ _⟩, fun x hx => by simp at hx, Below.refl _ _⟩
  obtain ⟨j0, hj, hy0, hy1, hy2⟩ := info_parts Try.infoRc
  refine wpIn_rangeFunc_tillT (fun a' (x : El) (rb : Nat) => putA (putA (putA (putA { a' with defers := [] } 36 (.agg #[.int .i64 x.seq, .string x.text])) 37 (.int .i64 (x.many : Int))) 8 (.pointer (some ⟨rb, 0, none⟩))) 9 (.int .i64 (x.many : Int))) hro h1 (gf := 78)
    (lb := #[.pointer (some ⟨w2.heap.size + 1, 0, none⟩), .pointer (some ⟨w2.heap.size + 1 + 1, 0, none⟩), .pointer (some ⟨w2.heap.size + 1 + 1 + 1, 0, none⟩)]) rfl hf2 (enters_of Try.func78 (by kernel_rfl) rfl)
    HST (by omega) (fun _ => rfl) (LgI w2.heap.size k0 w3) (fun p W => ∃ pre x, p = pre ++ [x] ∧ x.many = 0 ∧ LgI w2.heap.size k0 w3 pre W) 0
    (fun s A B row hs hg hr => hs.abides (by omega) hg hr) (fun s A B row hs hg hr => by obtain ⟨pre, x, e1, e2, h⟩ := hs; exact ⟨pre, x, e1, e2, h.abides (by omega) hg hr⟩) (fun s W h => h.pos) HI0
    (fun pre x rb W => LgI w2.heap.size k0 w3 pre W ∧ W.heap[rb]? = some (.cells #[.int .i64 x.seq, .string x.text] 43 (0, 0)))
    (fun x rb s A B row hs hg hr => ⟨hs.1.abides (by omega) hg hr, cells_abides hs.2 hg (fun r e => (hr r e).2)⟩) ?assign ?body ?stop
  case assign =>
    intro l pre x W K hi hK
    have hz := hi.bel.size
    have hh := hK W.heap.size _ (KeepsOthers.alloc W (.cells #[.int .i64 x.seq, .string x.text] 43)) ((Below.refl _ W).alloc (by omega) _) ⟨hi.abides (by omega) (World.grownBy_alloc W _ none) (fun r e => by cases e), heap_alloc_new W _⟩
    simp only [putA, List.setIfInBounds_toArray, List.set_cons_succ, List.set_cons_zero] at hh
    have HH := hide hh
    clear hh hK
    simp only [encEl]
    gi_wp2
    exact HH.out
  case body =>
    rintro l pre x rb W ⟨hi, hrb⟩ hlen
    obtain ⟨v, hv, ho⟩ := hi.out
    have hpos := hi.pos
    have hbel := hi.bel
    obtain ⟨v0, v1, v2, vf⟩ := cells3g hv
    obtain ⟨r0, r1, rf⟩ := cells2 hrb
    simp only [putA, List.setIfInBounds_toArray, List.set_cons_succ, List.set_cons_zero]
    by_cases hm : x.many = 0
    · have HP : Hid (x.many = 0 ∧ LgI w2.heap.size k0 w3 pre W) := ⟨hm, hi⟩
      rw [hm]
      clear hi hv ho hpos hbel hm hrb HST
      gi_wp2
      exact ⟨KeepsOthers.refl _, pre, x, ⟨rfl, rfl⟩, HP.out.1, HP.out.2⟩
    · have hbz := hbel.size
      have hsum := sum_le700 pre
      have hxle := x.le
      have hmi : ¬ ((x.many : Int) = 0) := by omega
      have HN2 : Hid (k0 + ((pre ++ [x]).map El.many).sum = k0 + (pre.map El.many).sum + x.many) := by show _ = _; simp; omega
      have HPOS : Hid (∀ y ∈ pre ++ [x], 0 < y.many) := fun y hy => by
        rcases List.mem_append.1 hy with h | h
        · exact hpos y h
        · simp at h; subst h; omega
      have HMP : Hid ((pre ++ [x]).map elWr = pre.map elWr ++ [⟨x.seq, x.text⟩]) := by show _ = _; simp [elWr]
      have hS : k0 + (pre.map El.many).sum ≤ 1000000 := by omega
      have hlm : (pre.map elWr).length ≤ 701 := by simp; omega
      generalize k0 + (pre.map El.many).sum = S at *
      generalize pre.map elWr = L at *
      obtain ⟨vo, vc, rfl⟩ := ownR_shape ho
      have HO := hide ho
      have HV := hide hv
      have HB := hide hbel
      clear hi hv ho hpos hbel hm hrb HST hsum
      gi_wp2_with (gi_at_builtin; refine wpListIn_append_own _ rfl _ _ 47 rfl (w2.heap.size + 1) 43 j0 (.agg #[.int .i64 0, .string ⟨#[]⟩]) 2 24 Try.underlying47 hj hy0 hy1 hy2 rfl (by decide) _ _ _ rfl (HO.out.alloc _) ⟨W.heap.size, 0, none⟩ 1 1 [.int .i64 x.seq, .string x.text] rfl rfl (cell_two_newL _ _ _ _) (wr_one _ _) (by unfold maxLen; omega) (by omega) (by rw [World.size_alloc]; omega) ?_; intro v' w5 hown hgrow _; obtain ⟨g', cap', rfl⟩ := ownsRow_succ hown; have hfr := app_frame HO.out HV.out hgrow; have G5 := hide hfr.1; have K5 := hide hfr.2.1; have B5 := hide hfr.2.2; have O5 := hide (ownR_snoc hown rfl); clear hown hgrow hfr; obtain ⟨u0, u1, u2, uf⟩ := cells3g G5.out)
      refine ⟨(K5.out.trans (KeepsOthers.setCell _ _ _)).trans (KeepsOthers.setCell _ _ _), (B5.out.setCell (p := ⟨w2.heap.size, 0, none⟩) (Nat.le_refl _) _).setCell (p := ⟨w2.heap.size, 1, none⟩) (Nat.le_refl _) _, ⟨⟨.slice (some ⟨g', 0, none⟩) (L.length + 1) cap', ?_, ?_⟩, HPOS.out, HB.out.trans ((B5.out.setCell (p := ⟨w2.heap.size, 0, none⟩) (Nat.le_refl _) _).setCell (p := ⟨w2.heap.size, 1, none⟩) (Nat.le_refl _) _)⟩⟩
      · rw [HN2.out, Int.natCast_add]
        exact set01 G5.out
      · rw [HMP.out]
        exact ownR_set (ownR_set O5.out (Nat.lt_succ_self _)) (Nat.lt_succ_self _)
  case stop =>
    rintro D p' W hD hsp ⟨pre, x, hp, hx, hi⟩ hK
    have HTOT := hide (HLS.out _ _ _ hsp hp hx)
    obtain ⟨v, hv, ho⟩ := hi.out
    have HBW := hide (B3.out.trans (hi.bel.mono ZL.out))
    have hyw := (hi.bel.block (w.heap.size + 1) L1.out).trans Y3.out
    obtain ⟨v0, v1, v2, vf⟩ := cells3g hv
    obtain ⟨t0, t1, t2, tf⟩ := cells3g hyw
    generalize k0 + (pre.map El.many).sum = S at *
    generalize pre.map elWr = L at *
    obtain ⟨vo, vc, rfl⟩ := ownR_shape ho
    have HO := hide ho
    have HY := hide hyw
    clear hi hv ho hsp hp hx hyw HST HLS
    gi_wp2
    have hDD : w.heap.size + 1 ≠ D := by have := L1.out; omega
    have hDB : w.heap.size ≤ D := by have := L1.out; omega
    have hK' := (((KeepsOthers.setCell W ⟨w.heap.size + 1, 0, none⟩ (.slice vo L.length vc)).trans (KeepsOthers.setCell _ ⟨w.heap.size + 1, 1, none⟩ (.int .i64 (S : Int)))).trans (KeepsOthers.setCell _ ⟨w.heap.size + 1, 2, none⟩ (.int .i64 0))).same D _ hK rfl
    have HH := HTOT.out
    subst HH
    rw [Exit.noGoto_ret]
    refine ⟨by simp, .inl ⟨_, _, rfl, run_takeDeferred hK', ?_⟩⟩
    refine ⟨.agg #[.slice vo L.length vc, .int .i64 (S : Int), .int .i64 0], resLg Try.results24 _ _ (w.heap.size + 1) _ _ _ rfl ((World.putObj_heap_other hDD).trans (set3g HY.out)), _, rfl, ?_, ?_⟩
    · have hb : w.heap.size + 1 < w2.heap.size + 1 := by have := L1.out; omega
      exact owns_base (ownsRow_putObj (ownR_set (ownR_set (ownR_set HO.out hb) hb) hb) _ hK' rfl) (by have := L1.out; omega)
    · exact (((HBW.out.setCell (p := ⟨w.heap.size + 1, 0, none⟩) (Nat.le_succ _) _).setCell (p := ⟨w.heap.size + 1, 1, none⟩) (Nat.le_succ _) _).setCell (p := ⟨w.heap.size + 1, 2, none⟩) (Nat.le_succ _) _).trans (belowK_b (w := w) (Nat.le_refl _) _ D _ _ hDB hK' rfl rfl)
set_option maxHeartbeats 8000000 in
theorem implLogRead_any (b0 : Nat) (s c : Value) (d : Dk) (a q : Int) (w : World) (hi : dkIn d) (hf : dkFits d) (ha : wI64 a) (h : OwnD b0 s c d w) :
    Calls Try.prog 24 #[.agg #[s, c], .int .i64 a, .int .i64 q] w fun e w' => ∃ v, e = .returned (.agg #[v, .int .i64 (dkLog d a q).2.1, .int .i64 (dkLog d a q).2.2]) ∧ OwnR w.heap.size v (dkLog d a q).1 w' ∧ Below w.heap.size w w' := by
  obtain ⟨so, p, co, z, rfl, rfl, hr⟩ := h.row hi
  obtain ⟨n1, hn1⟩ : ∃ n, n = d.secs.length := ⟨_, rfl⟩
  obtain ⟨n2, hn2⟩ : ∃ n, n = d.cache.length := ⟨_, rfl⟩
  have hn1' : n1 ≤ 1048576 := by rw [hn1]; exact hf.1
  obtain ⟨ha0, ha1⟩ := ha
  have HA := two_allocs w (.cells #[.slice so n1 p, .slice co n2 z] 29) (.cells #[.slice none 0 0, .int .i64 0, .int .i64 0] 49)
  have B0 := hide (((Below.refl w.heap.size w).alloc (Nat.le_refl _) (.cells #[.slice so n1 p, .slice co n2 z] 29)).alloc (by simp) (.cells #[.slice none 0 0, .int .i64 0, .int .i64 0] 49))
  have X0 := hide HA.1
  have Y0 := hide HA.2.1
  have HSP := hide (fun (W : World) (hb : Below w.heap.size w W) => implDiskRight_any _ _ so p co z d W hb.size (hr.kept hb))
  have HSQ := hide (fun W => seqRight_any q W)
  rw [← hn1, ← hn2] at h HSP ⊢
  obtain ⟨x0, x1, xf⟩ := cells2 X0.out
  clear HA
  cases hdr : dkRight d with
  | false =>
    rw [dkLog_bad (.inl hdr)]
    rw [hdr] at HSP
    clear hi hf h hr hn1 hn2 hdr
    go_enter Try.func24, Try.ntmps24
    go_wp2
    refine wp_scope_straight ?_
    go_wp2_with (first | (go_at_call 36; refine (HSP.out _ B0.out).mono ?_; rintro e w1 ⟨rfl, b1⟩; have Y1 := hide ((b1.block (w.heap.size + 1) (blkR Y0.out)).trans Y0.out); have X1 := hide ((b1.block w.heap.size (blkR X0.out)).trans X0.out); have B1 := hide (B0.out.trans (b1.mono B0.out.size)); clear b1 x0 x1 xf; obtain ⟨x0, x1, xf⟩ := cells2 X1.out; obtain ⟨y0, y1, y2, yf⟩ := cells3g Y1.out))
    rw [Exit.noGoto_ret]
    refine bodyPost_ret (v := .agg #[.slice none 0 0, .int .i64 0, .int .i64 1]) (resLg Try.results24 _ _ (w.heap.size + 1) _ _ _ rfl (set3g Y1.out)) rfl ⟨_, rfl, ownR_nil _ _, ?_⟩
    exact ((B1.out.setCell (by simp) _).setCell (by simp) _).setCell (by simp) _
  | true =>
    rw [hdr] at HSP
    by_cases c1 : a < 0
    · rw [dkLog_bad (.inr (.inl c1))]
      clear hi hf h hr hn1 hn2 hdr
      go_enter Try.func24, Try.ntmps24
      go_wp2
      refine wp_scope_straight ?_
      go_wp2_with (first | (go_at_call 36; refine (HSP.out _ B0.out).mono ?_; rintro e w1 ⟨rfl, b1⟩; have Y1 := hide ((b1.block (w.heap.size + 1) (blkR Y0.out)).trans Y0.out); have X1 := hide ((b1.block w.heap.size (blkR X0.out)).trans X0.out); have B1 := hide (B0.out.trans (b1.mono B0.out.size)); clear b1 x0 x1 xf; obtain ⟨x0, x1, xf⟩ := cells2 X1.out; obtain ⟨y0, y1, y2, yf⟩ := cells3g Y1.out))
      rw [Exit.noGoto_ret]
      refine bodyPost_ret (v := .agg #[.slice none 0 0, .int .i64 0, .int .i64 1]) (resLg Try.results24 _ _ (w.heap.size + 1) _ _ _ rfl (set3g Y1.out)) rfl ⟨_, rfl, ownR_nil _ _, ?_⟩
      exact ((B1.out.setCell (by simp) _).setCell (by simp) _).setCell (by simp) _
    · by_cases c2 : (n1 : Int) ≤ a
      · rw [dkLog_bad (.inr (.inr (.inl (by rw [← hn1]; exact c2))))]
        clear hi hf h hr hn1 hn2 hdr
        go_enter Try.func24, Try.ntmps24
        go_wp2
        refine wp_scope_straight ?_
        go_wp2_with (first | (go_at_call 36; refine (HSP.out _ B0.out).mono ?_; rintro e w1 ⟨rfl, b1⟩; have Y1 := hide ((b1.block (w.heap.size + 1) (blkR Y0.out)).trans Y0.out); have X1 := hide ((b1.block w.heap.size (blkR X0.out)).trans X0.out); have B1 := hide (B0.out.trans (b1.mono B0.out.size)); clear b1 x0 x1 xf; obtain ⟨x0, x1, xf⟩ := cells2 X1.out; obtain ⟨y0, y1, y2, yf⟩ := cells3g Y1.out))
        rw [Exit.noGoto_ret]
        refine bodyPost_ret (v := .agg #[.slice none 0 0, .int .i64 0, .int .i64 1]) (resLg Try.results24 _ _ (w.heap.size + 1) _ _ _ rfl (set3g Y1.out)) rfl ⟨_, rfl, ownR_nil _ _, ?_⟩
        exact ((B1.out.setCell (by simp) _).setCell (by simp) _).setCell (by simp) _
      · cases hs : seqOk q with
        | false =>
          rw [dkLog_bad (.inr (.inr (.inr hs)))]
          rw [hs] at HSQ
          clear hi hf h hr hn1 hn2 hdr hs
          go_enter Try.func24, Try.ntmps24
          go_wp2
          refine wp_scope_straight ?_
          go_wp2_with (first | (go_at_call 36; refine (HSP.out _ B0.out).mono ?_; rintro e w1 ⟨rfl, b1⟩; have Y1 := hide ((b1.block (w.heap.size + 1) (blkR Y0.out)).trans Y0.out); have X1 := hide ((b1.block w.heap.size (blkR X0.out)).trans X0.out); have B1 := hide (B0.out.trans (b1.mono B0.out.size)); clear b1 x0 x1 xf; obtain ⟨x0, x1, xf⟩ := cells2 X1.out; obtain ⟨y0, y1, y2, yf⟩ := cells3g Y1.out) | (go_at_call 46; refine (HSQ.out _).mono ?_; rintro e w2 ⟨rfl, rfl⟩))
          rw [Exit.noGoto_ret]
          refine bodyPost_ret (v := .agg #[.slice none 0 0, .int .i64 0, .int .i64 1]) (resLg Try.results24 _ _ (w.heap.size + 1) _ _ _ rfl (set3g Y1.out)) rfl ⟨_, rfl, ownR_nil _ _, ?_⟩
          exact ((B1.out.setCell (by simp) _).setCell (by simp) _).setCell (by simp) _
        | true =>
          have hq : 1 ≤ q ∧ q ≤ 1000000000 := by simpa [seqOk] using hs
          have hng : ¬ lgBad d a q := by
            unfold lgBad
            rw [hdr, hs, ← hn1]
            simp
            omega
          rw [dkLog_ok hng]
          obtain ⟨k, rfl⟩ : ∃ k : Nat, a = (k : Int) := ⟨a.toNat, by omega⟩
          rw [Int.toNat_natCast, hn1, hn2]
          exact callsIn_wide.1 (implLogRead_in Fence.wide rfl 4 (Nat.le_refl _) b0 so p co z d k q w hdr (by rw [← hn1]; omega) hq hs hr)
end Go.Proofs.Ytaapacpiipcogaa

/-
  A log's answer: compared, marked, looked at again.
-/
namespace Go.Proofs.Ytaapacpiipcogaa
open Go.RowKit
set_option maxRecDepth 100000

theorem GL.ownR {l : List Value} {w w' : World} {b m n : Nat} {u : Value} {L : List Wr} (h : GL l w w') (ho : OwnR b u L w) (hv : ∀ v ∈ l, ∀ b, v.ownBlock = some b → m ≤ b ∧ b < n) (hs : ∀ b, u.ownBlock = some b → b < m ∨ n ≤ b) : OwnR b u L w' := by
  refine GL.own h ho (fun v hv' => ?_)
  cases hu : u.ownBlock with
  | none => exact .inl rfl
  | some j =>
    refine .inr (fun e => ?_)
    have h1 := hv v hv' j e.symm
    have h2 := hs j hu
    omega
theorem OwnR.one {b m n : Nat} {v : Value} {L : List Wr} {w : World} (h : OwnR b v L w) (hm : m ≤ b) (hn : w.heap.size ≤ n) : ∀ u ∈ [v], ∀ j, u.ownBlock = some j → m ≤ j ∧ j < n := fun u hu j hj => by
  simp at hu; subst hu
  have := World.ownsRow.lt h j hj
  omega
theorem OwnR.below {base : Nat} {v : Value} {l : List Wr} {w w' : World} (h : OwnR base v l w) (hb : Below w.heap.size w w') : OwnR base v l w' := owns_below h hb
theorem OwnR.base {base base' : Nat} {v : Value} {l : List Wr} {w : World} (h : OwnR base v l w) (hb : base' ≤ base) : OwnR base' v l w := owns_base h hb
def cntR (L : List Wr) : Nat := 1 + 2 * L.length
def mRc (L : List Wr) : List Wr := mWrs 1 L.length
theorem dkLog_len {d : Dk} (hd : d.secs.length ≤ 1048576) (a q : Int) : (dkLog d a q).1.length ≤ 1048576 := by
  by_cases hb : lgBad d a q
  · rw [dkLog_bad hb]; simp
  · rw [dkLog_ok hb]
    have hR : dkRight d = true := by
      cases h : dkRight d with
      | true => rfl
      | false => exact absurd (.inl h) hb
    have ha : a.toNat ≤ (flushL d.secs d.cache).length := by
      rw [flushL_len]
      by_cases h : (d.secs.length : Int) ≤ a
      · exact absurd (.inr (.inr (.inl h))) hb
      · omega
    have := logR_len (flush64 hR) (d.secs.length - a.toNat + 1) a.toNat q ha
    rw [flushL_len] at this
    simp only
    omega
set_option maxHeartbeats 2000000 in
theorem eqLogOut_own (b1 b2 : Nat) (v v' : Value) (nx k : Int) (L : List Wr) (w : World) (hf : L.length ≤ 1048576) (h : OwnR b1 v L w) (h' : OwnR b2 v' L w) :
    Calls Try.prog 25 #[.agg #[v, .int .i64 nx, .int .i64 k], .agg #[v', .int .i64 nx, .int .i64 k]] w fun e w' => e = .returned (.bool true) ∧ Below w.heap.size w w' := by
  have C1 := hide (fun (W : World) (hb : Below w.heap.size w W) => eqRecordS_own _ _ _ _ L W hf (h.below hb) (h'.below hb))
  obtain ⟨ao, p, rfl⟩ := ownR_shape h
  obtain ⟨ao', p', rfl⟩ := ownR_shape h'
  have HA := hide (two_allocs w (.cells #[.slice ao L.length p, .int .i64 nx, .int .i64 k] 49) (.cells #[.slice ao' L.length p', .int .i64 nx, .int .i64 k] 49))
  have B0 := hide (((Below.refl w.heap.size w).alloc (Nat.le_refl _) (.cells #[.slice ao L.length p, .int .i64 nx, .int .i64 k] 49)).alloc (by simp) (.cells #[.slice ao' L.length p', .int .i64 nx, .int .i64 k] 49))
  clear h h' hf
  go_enter Try.func25, Try.ntmps25
  go_wp2_with fail
  refine (C1.out _ B0.out).mono ?_
  generalize (w.alloc (.cells #[.slice ao L.length p, .int .i64 nx, .int .i64 k] 49)).alloc (.cells #[.slice ao' L.length p', .int .i64 nx, .int .i64 k] 49) = W0 at *
  rintro e w1 ⟨rfl, b1⟩
  obtain ⟨hx0, hy0, hz0⟩ := HA.out
  obtain ⟨x0, x1, x2, xf⟩ := cells3g ((b1.block w.heap.size (by omega)).trans hx0)
  obtain ⟨y0, y1, y2, yf⟩ := cells3g ((b1.block (w.heap.size + 1) (by omega)).trans hy0)
  have B1 := hide (B0.out.trans (b1.mono B0.out.size))
  clear b1 HA hx0 hy0 hz0 B0 C1
  go_wp2
  go_ret
  exact ⟨rfl, B1.out⟩
set_option maxHeartbeats 2000000 in
theorem markLogOut_own (base : Nat) (v : Value) (nx k : Int) (L : List Wr) (w : World) (hf : L.length ≤ 1048576) (h : OwnR base v L w) :
    Calls Try.prog 26 #[.agg #[v, .int .i64 nx, .int .i64 k], .int .i64 1] w fun e w' => e = .returned (.int .i64 ((cntR L : Nat) : Int)) ∧ OwnR base v (mRc L) w' ∧ GL [v] w w' := by
  have BA := (Below.refl w.heap.size w).alloc (Nat.le_refl _) (.cells #[v, .int .i64 nx, .int .i64 k] 49)
  have HC := hide (markRecordS_mk base v L 1 _ (by omega) (by omega) (h.below BA))
  have B0 := hide (GL.alloc [v] w (.cells #[v, .int .i64 nx, .int .i64 k] 49))
  obtain ⟨ao, p, rfl⟩ := ownR_shape h
  have HE : Hid (cntR L = 1 + 2 * L.length ∧ mRc L = mWrs 1 L.length) := ⟨rfl, rfl⟩
  generalize cntR L = n at *
  generalize mRc L = ms at *
  clear h hf BA
  go_enter Try.func26, Try.ntmps26
  go_wp2_with fail
  refine HC.out.mono ?_
  generalize w.alloc (.cells #[.slice ao L.length p, .int .i64 nx, .int .i64 k] 49) = W0 at *
  rintro e w1 ⟨rfl, o1, g1⟩
  have O1 := hide o1
  have B1 := hide (B0.out.trans (GL.of g1 (by simp)))
  clear o1 g1 HC B0
  rw [← HE.out.1]
  go_wp2
  go_ret
  exact ⟨rfl, by rw [HE.out.2]; exact O1.out, B1.out⟩
set_option maxHeartbeats 2000000 in
theorem heldLogOut_own (base : Nat) (v : Value) (nx k : Int) (L : List Wr) (w : World) (hf : L.length ≤ 1048576) (h : OwnR base v (mRc L) w) :
    Calls Try.prog 27 #[.agg #[v, .int .i64 nx, .int .i64 k], .int .i64 1] w fun e w' => e = .returned (.int .i64 ((cntR L : Nat) : Int)) ∧ Below w.heap.size w w' := by
  have BA := (Below.refl w.heap.size w).alloc (Nat.le_refl _) (.cells #[v, .int .i64 nx, .int .i64 k] 49)
  have HC := hide (heldRecordS_mk base v L.length 1 _ (by omega) (by omega) (h.below BA))
  have B0 := hide BA
  have HE : Hid (cntR L = 1 + 2 * L.length) := rfl
  obtain ⟨ao, p, es⟩ := ownR_shape h
  unfold mRc at es
  rw [mWrs_len] at es
  subst es
  generalize cntR L = n at *
  clear h hf BA
  have hn : ¬ ((n : Int) < 0) := by omega
  go_enter Try.func27, Try.ntmps27
  go_wp2_with fail
  refine HC.out.mono ?_
  generalize hW : w.alloc (.cells #[.slice ao L.length p, .int .i64 nx, .int .i64 k] 49) = W0 at *
  rintro e w1 ⟨rfl, g1⟩
  have B1 := hide (B0.out.trans (g1.mono B0.out.size))
  clear g1 HC B0 hW
  rw [← HE.out]
  go_wp2
  go_ret
  exact ⟨rfl, B1.out⟩
end Go.Proofs.Ytaapacpiipcogaa

/-
  What came in as an argument: a slice; texts.
-/
namespace Go.Proofs.Ytaapacpiipcogaa
open Go.RowKit Go.ChangeShapes Go.WideShapes
set_option maxRecDepth 100000

section
variable {H : Type} {enc : TypeId × Value → H} {W : World}

theorem addOffT (b off : Nat) (k : Nat) : (⟨b, off, none⟩ : Addr).add k = ⟨b, off + k, none⟩ := by unfold Addr.add; split <;> simp_all
theorem listOfT {α : Type} {n : Nat} {p : Nat → α → Prop} (h : ∀ i, i < n → ∃ x, p i x) : ∃ l : List α, l.length = n ∧ ∀ i (hi : i < l.length), p i l[i] := by
  induction n with
  | zero => exact ⟨[], rfl, fun i hi => by simp at hi⟩
  | succ n ih =>
    obtain ⟨l, hl, hp⟩ := ih (fun i hi => h i (by omega))
    obtain ⟨x, hx⟩ := h n (by omega)
    refine ⟨l ++ [x], by simp [hl], fun i hi => ?_⟩
    by_cases hi' : i < l.length
    · rw [List.getElem_append_left hi']; exact hp i hi'
    · have e : i = n := by simp at hi; omega
      subst e
      rw [List.getElem_append_right (by omega)]
      simpa [hl] using hx
/-- A slice whose elements can each be read as a thing, each by less fuel. -/
theorem readSliceF {α : Type} {t e : TypeId} {n : Nat} (hn : 1 ≤ n) (ht : Try.prog.underlying t = some (.slice e)) (hC : Try.prog.cellsOf e = n) (p : List Value → α → Prop) {base : Nat} {spare : Nat → Bool} {held : Bool}
    {fuel : Nat} {cs : List Value} {y : DataW H × List MemPlace} (he : ∀ m, m < fuel → ∀ cs y, DataW.trod enc Try.prog W base spare held m e cs = some y → ∃ x, p cs x) (h : DataW.trod enc Try.prog W base spare held fuel t cs = some y) :
    ∃ ao cap l, cs = [.slice ao (List.length l) cap] ∧ (l.length ≤ cap ∧ cap ≤ maxLen) ∧ (l.length = 0 ∨ ∃ b off, ao = some ⟨b, off, none⟩ ∧ b < W.heap.size) ∧
      ∀ b off, ao = some ⟨b, off, none⟩ → ∀ i (hi : i < l.length), ∃ cs', p cs' l[i] ∧ cs'.length = n ∧ ∀ j (hj : j < cs'.length), W.cell? ⟨b, off + i * n + j, none⟩ = some cs'[j] := by
  rcases DataW.trod_slice ht h with ⟨hcs, _⟩ | ⟨a, len', cap', elems, rest, m, hfu, hcs, _, _, hl, hm, hel, hx, _, _⟩
  · exact ⟨none, 0, [], by simpa using hcs, ⟨Nat.le_refl _, Nat.zero_le _⟩, .inl rfl, fun b off e => by cases e⟩
  · rw [hC] at hx
    obtain ⟨l, hvl, hvp⟩ := listOfT (n := len') (p := fun i (x : α) => ∃ cs', p cs' x ∧ cs'.length = n ∧ ∀ j (hj : j < cs'.length), W.cell? ((a.add (i * n)).add j) = some cs'[j]) (fun i hi => by
      have key := hx i hi
      rw [List.getElem?_eq_getElem (by omega)] at key
      obtain ⟨cs', h1, h2⟩ := Option.bind_eq_some_iff.1 key
      obtain ⟨x, hp⟩ := he m (by omega) _ _ h2
      obtain ⟨_, hlen, hc⟩ := World.cells?_some h1
      exact ⟨x, cs', hp, hlen, fun j hj => (hc j (by omega)).trans (List.getElem?_eq_getElem hj)⟩)
    subst hvl
    obtain ⟨b, off, spot⟩ := a
    refine ⟨_, cap', l, hcs, ⟨hl, hm⟩, ?_, ?_⟩
    · by_cases h0 : l.length = 0
      · exact .inl h0
      · obtain ⟨cs', _, hlen, hc⟩ := hvp 0 (by omega)
        have h1 := hc 0 (by omega)
        have hspot : spot = none := by simpa [Addr.add] using World.cell?_spot h1
        subst hspot
        simp only [addOffT] at h1
        exact .inr ⟨b, off, rfl, by simpa using block_lt_of_cell h1⟩
    · intro b' off' e i hi
      cases e
      obtain ⟨cs', hp, hlen, hc⟩ := hvp i hi
      exact ⟨cs', hp, hlen, fun j hj => by have := hc j hj; simpa only [addOffT] using this⟩
theorem getD_ofT {α : Type} (l : List α) (d : α) (i : Nat) (h : i < l.length) : l.getD i d = l[i] := by
  rw [List.getD_eq_getElem?_getD, List.getElem?_eq_getElem h]; rfl
theorem readStrs {base : Nat} {spare : Nat → Bool} {held : Bool} {fuel : Nat} {cs : List Value} {y : DataW H × List MemPlace} (h : DataW.trod enc Try.prog W base spare held fuel 22 cs = some y) :
    ∃ ao cap l, cs = [.slice ao (List.length l) cap] ∧ (l.length ≤ cap ∧ cap ≤ maxLen) ∧ StrRow W 0 W.heap.size ao l := by
  obtain ⟨ao, cap, l, rfl, hc, hb, hx⟩ := readSliceF (n := 1) (Nat.le_refl _) Try.underlying22 (by kernel_rfl) (fun cs (x : ByteArray) => cs = [.string x] ∧ x.size ≤ maxLen) (fun m _ cs y h => by
    obtain ⟨a, ea, _, wa⟩ := DataW.trod_string Try.underlying9 h
    exact ⟨a, ea, wa⟩) h
  refine ⟨ao, cap, l, rfl, hc, fun x hx' => ?_, ?_⟩
  · obtain ⟨i, hi, rfl⟩ := List.getElem_of_mem hx'
    rcases hb with h0 | ⟨b, off, e, _⟩
    · omega
    · obtain ⟨_, hp, _⟩ := hx b off e i hi
      exact hp.2
  · rcases hb with h0 | ⟨b, off, e, hlt⟩
    · exact .inl h0
    · refine .inr ⟨b, off, e, Nat.zero_le _, hlt, fun i hi => ?_⟩
      obtain ⟨cs', ⟨rfl, _⟩, _, hcell⟩ := hx b off e i hi
      have := hcell 0 (by simp)
      rw [getD_ofT l _ i hi]; simpa using this
end
end Go.Proofs.Ytaapacpiipcogaa

/-
  What came in as an argument: a disk.
-/
namespace Go.Proofs.Ytaapacpiipcogaa
open Go.RowKit Go.ChangeShapes Go.WideShapes
set_option maxRecDepth 100000

def IsDisk (w : World) (v : Value) : Prop := ∃ so p co q d, v = .agg #[.slice so (Dk.secs d).length p, .slice co d.cache.length q] ∧ DkRow w 0 w.heap.size so co d
section
variable {H : Type} {enc : TypeId × Value → H} {W : World}

theorem readWr {base : Nat} {spare : Nat → Bool} {held : Bool} {fuel : Nat} {cs : List Value} {y : DataW H × List MemPlace} (h : DataW.trod enc Try.prog W base spare held fuel 84 cs = some y) :
    ∃ x : Wr, cs = [.int .i64 x.pos, .string x.text] ∧ wI64 x.pos ∧ x.text.size ≤ maxLen := by
  obtain ⟨ys, n, hfu, _, hl, hlen, hx⟩ := DataW.trod_struct Try.underlying84 h
  have hC : Try.prog.cellsOf 84 = 2 := by kernel_rfl
  rw [hC] at hl
  match ys, hlen, cs, hl with
  | [y0, y1], _, [c0, c1], _ =>
    have h0 := hx 0 _ rfl
    have h1 := hx 1 _ rfl
    have cI : Try.prog.cellsOf 2 = 1 := by kernel_rfl
    have cS : Try.prog.cellsOf 9 = 1 := by kernel_rfl
    have e0 : (([c0, c1] : List Value).drop 0).take (Try.prog.cellsOf 2) = [c0] := by rw [cI]; rfl
    have e1 : (([c0, c1] : List Value).drop 1).take (Try.prog.cellsOf 9) = [c1] := by rw [cS]; rfl
    have h0' : DataW.trod enc Try.prog W base spare held n 2 [c0] = some y0 := by rw [← e0]; exact h0
    have h1' : DataW.trod enc Try.prog W base spare held n 9 [c1] = some y1 := by rw [← e1]; exact h1
    obtain ⟨a, ea, _, wa⟩ := DataW.trod_int Try.underlying2 h0'
    obtain ⟨t, et, _, wt⟩ := DataW.trod_string Try.underlying9 h1'
    simp only [List.cons.injEq, and_true] at ea et
    subst ea et
    exact ⟨⟨a, t⟩, rfl, bounds_i64 wa, wt⟩
theorem readWrs {base : Nat} {spare : Nat → Bool} {held : Bool} {fuel : Nat} {cs : List Value} {y : DataW H × List MemPlace} (h : DataW.trod enc Try.prog W base spare held fuel 23 cs = some y) :
    ∃ ao cap l, cs = [.slice ao (List.length l) cap] ∧ (l.length ≤ cap ∧ cap ≤ maxLen) ∧ WrRow W 0 W.heap.size ao l := by
  obtain ⟨ao, cap, l, rfl, hc, hb, hx⟩ := readSliceF (n := 2) (by omega) Try.underlying23 (by kernel_rfl) (fun cs (x : Wr) => cs = [.int .i64 x.pos, .string x.text] ∧ wI64 x.pos ∧ x.text.size ≤ maxLen) (fun m _ cs y h => readWr h) h
  refine ⟨ao, cap, l, rfl, hc, fun x hx' => ?_, ?_⟩
  · obtain ⟨i, hi, rfl⟩ := List.getElem_of_mem hx'
    rcases hb with h0 | ⟨b, off, e, _⟩
    · omega
    · obtain ⟨_, hp, _⟩ := hx b off e i hi
      exact hp.2
  · rcases hb with h0 | ⟨b, off, e, hlt⟩
    · exact .inl h0
    · refine .inr ⟨b, off, e, Nat.zero_le _, hlt, fun i hi => ?_⟩
      obtain ⟨cs', ⟨rfl, _⟩, _, hcell⟩ := hx b off e i hi
      rw [getD_ofT l noWr i hi]
      exact ⟨by simpa using hcell 0 (by simp), by simpa using hcell 1 (by simp)⟩
theorem rdDisk {base : Nat} {v : Value} {d : DataW H} {p : List MemPlace} (hv : Value.okWide Try.prog W .any base 25 v) (h : DataW.Trod enc Try.prog W 0 (fun _ => true) true 25 v d p) : IsDisk W v := by
  obtain ⟨fuel, hf⟩ := h
  obtain ⟨cs, rfl, _⟩ := okWide_struct Try.underlying25 hv
  have hcv : (Value.agg cs).cells.toList = cs.toList := by simp [Value.cells]
  rw [hcv] at hf
  obtain ⟨ys, n, hfu, _, hl, hlen, hx⟩ := DataW.trod_struct Try.underlying25 hf
  have hC : Try.prog.cellsOf 25 = 2 := by kernel_rfl
  rw [hC] at hl
  obtain ⟨cl, rfl⟩ : ∃ cl : List Value, cs = cl.toArray := ⟨cs.toList, by simp⟩
  simp only at hl hx
  match ys, hlen, cl, hl with
  | [y0, y1], _, [c0, c1], _ =>
    have h0 := hx 0 _ rfl
    have h1 := hx 1 _ rfl
    have cS : Try.prog.cellsOf 22 = 1 := by kernel_rfl
    have cW : Try.prog.cellsOf 23 = 1 := by kernel_rfl
    have e0 : (([c0, c1] : List Value).drop 0).take (Try.prog.cellsOf 22) = [c0] := by rw [cS]; rfl
    have e1 : (([c0, c1] : List Value).drop 1).take (Try.prog.cellsOf 23) = [c1] := by rw [cW]; rfl
    have h0' : DataW.trod enc Try.prog W 0 (fun _ => true) true n 22 [c0] = some y0 := by rw [← e0]; exact h0
    have h1' : DataW.trod enc Try.prog W 0 (fun _ => true) true n 23 [c1] = some y1 := by rw [← e1]; exact h1
    obtain ⟨so, p, ss, es, hs1, hrs⟩ := readStrs h0'
    obtain ⟨co, q, ws, ew, hw1, hrw⟩ := readWrs h1'
    simp only [List.cons.injEq, and_true] at es ew
    subst es ew
    exact ⟨so, p, co, q, ⟨ss, ws⟩, rfl, ⟨Nat.le_trans hs1.1 hs1.2, Nat.le_trans hw1.1 hw1.2⟩, hrs, hrw⟩
end
end Go.Proofs.Ytaapacpiipcogaa

/-
  A law's argument that is a number.
-/
namespace Go.Proofs.Ytaapacpiipcogaa
open Go.RowKit
set_option maxRecDepth 100000

theorem rdInt {H : Type} {enc : TypeId × Value → H} {W : World} {base : Nat} {v : Value} {d : DataW H} {p : List MemPlace} (hv : Value.okWide Try.prog W .any base 2 v) (h : DataW.Trod enc Try.prog W 0 (fun _ => true) true 2 v d p) : ∃ n : Int, v = .int .i64 n ∧ wI64 n := by
  obtain ⟨n, e, _, _, hw⟩ := Go.ChangeShapes.open_int Try.underlying2 hv h
  exact ⟨n, e, bounds_i64 hw⟩
end Go.Proofs.Ytaapacpiipcogaa

/-
  The law on LogRead, out of the contracts.
-/
namespace Go.Proofs.Ytaapacpiipcogaa
open Go.RowKit
set_option maxRecDepth 100000
set_option maxHeartbeats 8000000 in
theorem lawLogRead (v0 : Value) (v1 v2 : Value) (w : World) (h0 : IsDisk w v0) (h1 : ∃ n : Int, v1 = .int .i64 n ∧ wI64 n) (h2 : ∃ n : Int, v2 = .int .i64 n ∧ wI64 n) :
    Calls Try.prog 6 #[v0, v1, v2] w fun e w' => e = .returned (.bool true) ∧ Below w.heap.size w w' := by
  obtain ⟨so, p, co, q, d, rfl, hr⟩ := h0
  obtain ⟨a, rfl, ha⟩ := h1
  obtain ⟨m, rfl, _⟩ := h2
  have HIN := hide hr.inn
  have HSZ := hide (fun (W : World) (hb : Below w.heap.size w W) => szDisk_any 0 w.heap.size so p co q d 1048576 W hb.size (hr.kept hb) (by omega) (by omega))
  have HTO := hide (fun (hf : dkFits d) (W : World) (hb : Below w.heap.size w W) => toDisk_own 0 w.heap.size so p co q d W hb.size hf (hr.kept hb))
  obtain ⟨n1, hn1⟩ : ∃ n, n = d.secs.length := ⟨_, rfl⟩
  obtain ⟨n2, hn2⟩ : ∃ n, n = d.cache.length := ⟨_, rfl⟩
  have HN := hide (And.intro hn1 hn2)
  rw [← hn1, ← hn2] at HSZ HTO ⊢
  have X0 := hide (heap_alloc_new w (.cells #[.slice so n1 p, .slice co n2 q] 25))
  have B0 := hide ((Below.refl w.heap.size w).alloc (Nat.le_refl _) (.cells #[.slice so n1 p, .slice co n2 q] 25))
  clear hr hn1 hn2
  go_enter Try.func6, Try.ntmps6
  go_wp2_with fail
  refine (HSZ.out _ B0.out).mono ?_
  generalize hW : w.alloc (.cells #[.slice so n1 p, .slice co n2 q] 25) = W0 at *
  clear hW
  rintro e w1 ⟨r, rfl, hr1, hcase, b1⟩
  have X1 := hide ((b1.block w.heap.size (blk_lt X0.out)).trans X0.out)
  have B1 := hide (B0.out.trans (b1.mono B0.out.size))
  clear b1 X0 B0 HSZ
  obtain ⟨x0, x1, xf⟩ := cells2 X1.out
  rcases hcase with hneg | ⟨hr0, hfit⟩
  · go_wp2
    go_ret
    exact ⟨rfl, B1.out⟩
  have HFIT := hfit
  have HTOF := hide (fun (W : World) (hb : Below w.heap.size w W) => HTO.out hfit W hb)
  have HSP := hide (fun (b : Nat) (s c : Value) (W : World) (h : OwnD b s c d W) => specLogRead_any _ _ _ d a m W HIN.out HFIT ha h)
  have HIM := hide (fun (b : Nat) (s c : Value) (W : World) (h : OwnD b s c d W) => implLogRead_any _ _ _ d a m W HIN.out HFIT ha h)
  have HF2 : (dkLog d a m).1.length ≤ 1048576 := dkLog_len HFIT.1 a m
  have HEQD := hide (fun (b1 b2 : Nat) (s c s' c' : Value) (W : World) (h : OwnD b1 s c d W) (h' : OwnD b2 s' c' d W) => eqDisk_own b1 b2 s c s' c' d W hfit h h')
  have HMKD := hide (fun (b : Nat) (s c : Value) (W : World) (h : OwnD b s c d W) => markDisk_own b s c d W hfit h)
  generalize (dkLog d a m) = R at *
  obtain ⟨L, NX, K⟩ := R
  simp only at HF2 HSP HIM
  have HEQ := hide (fun (b1 b2 : Nat) (v v' : Value) (W : World) (h : OwnR b1 v L W) (h' : OwnR b2 v' L W) => eqLogOut_own b1 b2 v v' NX K L W HF2 h h')
  have HMK := hide (fun (b : Nat) (v : Value) (W : World) (h : OwnR b v L W) => markLogOut_own b v NX K L W HF2 h)
  have HHL := hide (fun (b : Nat) (v : Value) (W : World) (h : OwnR b v (mRc L) W) => heldLogOut_own b v NX K L W HF2 h)
  obtain ⟨k1, hk1⟩ : ∃ n, n = L.length := ⟨_, rfl⟩
  have HK := hide hk1
  generalize hcd : cntD d = cd at *
  generalize hcD : cntR L = cD at *
  have hcd0 : ¬ (cd : Int) < 0 := by omega
  have hcD0 : ¬ (cD : Int) < 0 := by omega
  clear hfit HFIT HTO hk1 hcd hcD HF2 HIN
  have X_1 := X1
  have B_1 := B1
  clear X1 B1
  go_wp2_with fail
  refine (HTOF.out _ B_1.out).mono ?_
  rintro e w2 ⟨s2, c2, rfl, oa, b⟩
  obtain ⟨so2, p2, co2, q2, rfl, rfl⟩ := oa.shape
  rw [← HN.out.1, ← HN.out.2] at oa ⊢
  have X_2 := hide ((b.block _ (blk_lt X_1.out)).trans X_1.out)
  have B_2 := hide (B_1.out.trans (b.mono B_1.out.size))
  have A_2 := hide oa
  clear X_1 B_1 oa b x0 x1 xf
  go_wp2_with fail
  refine (HSP.out _ _ _ _ A_2.out).mono ?_
  rintro e w3 ⟨u3, rfl, o3, b⟩
  obtain ⟨so3, p3, rfl⟩ := ownR_shape o3
  rw [← HK.out] at o3 ⊢
  have BA := (Below.refl w3.heap.size w3).alloc (Nat.le_refl _) (.cells #[.slice so3 k1 p3, .int .i64 NX, .int .i64 K] 49)
  have hLW : ∀ v ∈ [(.slice so3 k1 p3 : Value)], ∀ b, v.ownBlock = some b → 0 ≤ b ∧ b < w3.heap.size := o3.one (Nat.zero_le _) (Nat.le_refl _)
  have LW := hide hLW
  clear hLW
  have b' := b
  have bt : Below w2.heap.size w2 (w3.alloc _) := b'.trans (BA.mono b'.size)
  have X_3 := hide ((bt.block _ (blk_lt X_2.out)).trans X_2.out)
  have B_3 := hide (B_2.out.trans (bt.mono B_2.out.size))
  have OW_3 := hide ((o3.below BA).base (Nat.zero_le _))
  have BW_3 := hide (heap_alloc_new w3 (.cells #[.slice so3 k1 p3, .int .i64 NX, .int .i64 K] 49))
  have ZX : Hid (w.heap.size < w3.heap.size + 1) := by have h1 := blk_lt X_2.out; have h2 := b'.size; show _ < _; omega
  have Z : Hid (w3.heap.size < (w3.alloc (.cells #[.slice so3 k1 p3, .int .i64 NX, .int .i64 K] 49)).heap.size) := by show _ < _; simp
  clear X_2 A_2 B_2 b b' bt BA o3 HSP
  obtain ⟨x0, x1, xf⟩ := cells2 X_3.out
  go_wp2_with fail
  refine (HTOF.out _ B_3.out).mono ?_
  generalize w3.alloc (.cells #[.slice so3 k1 p3, .int .i64 NX, .int .i64 K] 49) = W3 at *
  generalize w3.heap.size = g8 at *
  rintro e w4 ⟨s4, c4, rfl, o4, b⟩
  obtain ⟨so4, p4, co4, q4, rfl, rfl⟩ := o4.shape
  rw [← HN.out.1, ← HN.out.2] at o4 ⊢
  have BA := (Below.refl w4.heap.size w4).alloc (Nat.le_refl _) (.cells #[.slice so4 n1 p4, .slice co4 n2 q4] 29)
  have LX := hide (o4.two (show g8 + 1 ≤ _ from Z.out) (Nat.le_refl _))
  have b' := b
  have bt : Below W3.heap.size W3 (w4.alloc _) := b'.trans (BA.mono b'.size)
  have X_4 := hide ((bt.block _ (blk_lt X_3.out)).trans X_3.out)
  have BW_4 := hide ((bt.block _ (blk_lt BW_3.out)).trans BW_3.out)
  have OW_4 := hide (OW_3.out.below bt)
  have B_4 := hide (B_3.out.trans (bt.mono B_3.out.size))
  have OX_4 := hide ((o4.below BA).base (Nat.zero_le _))
  have BX_4 := hide (heap_alloc_new w4 (.cells #[.slice so4 n1 p4, .slice co4 n2 q4] 29))
  have Z4 : Hid (g8 < w4.heap.size) := Nat.lt_of_lt_of_le Z.out b'.size
  have Z5 : Hid (w4.heap.size < (w4.alloc (.cells #[.slice so4 n1 p4, .slice co4 n2 q4] 29)).heap.size) := by show _ < _; simp
  clear X_3 BW_3 OW_3 B_3 b b' bt BA o4 Z x0 x1 xf
  have C := hide (HIM.out _ _ _ _ OX_4.out)
  obtain ⟨y0, y1, yf⟩ := cells2 BX_4.out
  go_wp2_with fail
  refine C.out.mono ?_
  clear C
  generalize w4.alloc (.cells #[.slice so4 n1 p4, .slice co4 n2 q4] 29) = W4 at *
  generalize w4.heap.size = g9 at *
  rintro e w5 ⟨u5, rfl, o5, b⟩
  obtain ⟨so5, p5, rfl⟩ := ownR_shape o5
  rw [← HK.out] at o5 ⊢
  have BA := (Below.refl w5.heap.size w5).alloc (Nat.le_refl _) (.cells #[.slice so5 k1 p5, .int .i64 NX, .int .i64 K] 49)
  have LG := hide (o5.one (show g9 + 1 ≤ _ from Z5.out) (Nat.le_refl _))
  have b' := b
  have bt : Below W4.heap.size W4 (w5.alloc _) := b'.trans (BA.mono b'.size)
  have X_5 := hide ((bt.block _ (blk_lt X_4.out)).trans X_4.out)
  have BW_5 := hide ((bt.block _ (blk_lt BW_4.out)).trans BW_4.out)
  have BX_5 := hide ((bt.block _ (blk_lt BX_4.out)).trans BX_4.out)
  have OW_5 := hide (OW_4.out.below bt)
  have OX_5 := hide (OX_4.out.below bt)
  have B_5 := hide (B_4.out.trans (bt.mono B_4.out.size))
  have OG_5 := hide ((o5.below BA).base (Nat.zero_le _))
  have BG_5 := hide (heap_alloc_new w5 (.cells #[.slice so5 k1 p5, .int .i64 NX, .int .i64 K] 49))
  have Z6 : Hid (g9 < w5.heap.size) := Nat.lt_of_lt_of_le Z5.out b'.size
  clear X_4 BW_4 BX_4 OW_4 OX_4 B_4 b b' bt BA o5 Z5 y0 y1 yf
  have C := hide (HEQ.out _ _ _ _ _ OG_5.out OW_5.out)
  obtain ⟨y0, y1, y2, yf⟩ := cells3g BW_5.out
  go_wp2_with fail
  refine C.out.mono ?_
  clear C
  generalize w5.alloc (.cells #[.slice so5 k1 p5, .int .i64 NX, .int .i64 K] 49) = W5 at *
  generalize w5.heap.size = g10 at *
  rintro e w6 ⟨rfl, b⟩
  have X_6 := hide ((b.block _ (blk_lt X_5.out)).trans X_5.out)
  have BW_6 := hide ((b.block _ (blk_lt BW_5.out)).trans BW_5.out)
  have BX_6 := hide ((b.block _ (blk_lt BX_5.out)).trans BX_5.out)
  have BG_6 := hide ((b.block _ (blk_lt BG_5.out)).trans BG_5.out)
  have OW_6 := hide (OW_5.out.below b)
  have OX_6 := hide (OX_5.out.below b)
  have OG_6 := hide (OG_5.out.below b)
  have B_6 := hide (B_5.out.trans (b.mono B_5.out.size))
  clear X_5 BW_5 BX_5 BG_5 OW_5 OX_5 OG_5 B_5 b y0 y1 y2 yf
  obtain ⟨x0, x1, xf⟩ := cells2 X_6.out
  obtain ⟨y0, y1, yf⟩ := cells2 BX_6.out
  have zx := hide (blk_lt X_6.out)
  have zb := hide (blk_lt BX_6.out)
  have zx' : w.heap.size < w6.heap.size := zx.out
  have zb' : g9 < w6.heap.size := zb.out
  have HEQR := hide (fun (s' c' : Value) (b2 : Nat) (W : World) (hb : Below w6.heap.size w6 W) (h' : OwnD b2 s' c' d W) => HEQD.out _ _ _ _ s' c' W (OX_6.out.below hb) h')
  clear xf yf
  go_wp2
  go_region_held3 (fun W => (W.cell? ⟨g9, 0, none⟩ = some (.slice so4 n1 p4) ∧ W.cell? ⟨g9, 1, none⟩ = some (.slice co4 n2 q4)) ∧ W.cell? ⟨w.heap.size, 0, none⟩ = some (.slice so n1 p) ∧ W.cell? ⟨w.heap.size, 1, none⟩ = some (.slice co n2 q)) (go_keep) (first | (go_at_call 10; refine (HTOF.out _ B_6.out.drew).mono ?_; rintro e w7 ⟨s7, c7, rfl, o7, hb7⟩; obtain ⟨so7, p7, co7, q7, rfl, rfl⟩ := o7.shape; rw [← HN.out.1, ← HN.out.2] at o7 ⊢; have hb7' : Below w6.heap.size w6 w7 := (Below.refl _ _).drew.trans hb7; obtain ⟨hc7, hf7⟩ := bcell hb7') | (go_at_call 13; refine (HEQR.out _ _ _ _ hb7' o7).mono ?_; rintro e w8 ⟨rfl, hb8⟩; have b : Below w6.heap.size w6 w8 := hb7'.trans (hb8.mono hb7'.size); obtain ⟨hc8, hf8⟩ := bcell b))
  all_goals
    have X_8 := hide ((b.block _ (blk_lt X_6.out)).trans X_6.out)
    have BW_8 := hide ((b.block _ (blk_lt BW_6.out)).trans BW_6.out)
    have BX_8 := hide ((b.block _ (blk_lt BX_6.out)).trans BX_6.out)
    have BG_8 := hide ((b.block _ (blk_lt BG_6.out)).trans BG_6.out)
    have OW_8 := hide (OW_6.out.below b)
    have OX_8 := hide (OX_6.out.below b)
    have OG_8 := hide (OG_6.out.below b)
    have B_8 := hide (B_6.out.trans (b.mono B_6.out.size))
    clear X_6 BW_6 BX_6 BG_6 OW_6 OX_6 OG_6 B_6 b hb7 hb7' hc7 hf7 hb8 hc8 hf8 x0 x1 y0 y1 o7 HEQR HEQD zx zb zx' zb'
    have C := hide (HMKD.out _ _ _ _ OX_8.out)
    obtain ⟨y0, y1, yf⟩ := cells2 BX_8.out
    go_wp2_with fail
    refine C.out.mono ?_
    rintro e w9 ⟨rfl, o, l⟩
    have Z8 := Z4.out
    have Z9 := Z6.out
    have X_9 := hide (l.blk X_8.out LX.out (.inl ZX.out))
    have BW_9 := hide (l.blk BW_8.out LX.out (.inl (Nat.lt_succ_self _)))
    have BG_9 := hide (l.blk BG_8.out LX.out (.inr (by omega)))
    have OW_9 := hide (l.ownR OW_8.out LX.out (fun b hb => .inl (by have := (LW.out _ (by simp) b hb).2; omega)))
    have OG_9 := hide (l.ownR OG_8.out LX.out (fun b hb => .inr (by have := (LG.out _ (by simp) b hb).1; omega)))
    have B_9 := hide (B_8.out.trans (l.bel LX.out (Nat.le_of_lt ZX.out) B_8.out.size))
    clear X_8 BW_8 BX_8 BG_8 OW_8 OX_8 OG_8 B_8 o l C y0 y1 yf
    have C := hide (HEQ.out _ _ _ _ _ OG_9.out OW_9.out)
    obtain ⟨y0, y1, y2, yf⟩ := cells3g BW_9.out
    obtain ⟨z0, z1, z2, zf⟩ := cells3g BG_9.out
    go_wp2_with fail
    refine C.out.mono ?_
    rintro e w10 ⟨rfl, b⟩
    clear C
    have X_10 := hide ((b.block _ (blk_lt X_9.out)).trans X_9.out)
    have BW_10 := hide ((b.block _ (blk_lt BW_9.out)).trans BW_9.out)
    have BG_10 := hide ((b.block _ (blk_lt BG_9.out)).trans BG_9.out)
    have OW_10 := hide (OW_9.out.below b)
    have OG_10 := hide (OG_9.out.below b)
    have B_10 := hide (B_9.out.trans (b.mono B_9.out.size))
    clear X_9 BW_9 BG_9 OW_9 OG_9 B_9 b y0 y1 y2 yf z0 z1 z2 zf
    have C := hide (HMK.out _ _ _ OG_10.out)
    obtain ⟨z0, z1, z2, zf⟩ := cells3g BG_10.out
    go_wp2_with fail
    refine C.out.mono ?_
    rintro e w11 ⟨rfl, o, l⟩
    clear C
    have X_11 := hide (l.blk X_10.out LG.out (.inl (by have := ZX.out; omega)))
    have BW_11 := hide (l.blk BW_10.out LG.out (.inl (by omega)))
    have BG_11 := hide (l.blk BG_10.out LG.out (.inr (Nat.le_refl _)))
    have OW_11 := hide (l.ownR OW_10.out LG.out (fun b hb => .inl (by have := (LW.out _ (by simp) b hb).2; omega)))
    have OG_11 := hide o
    have B_11 := hide (B_10.out.trans (l.bel LG.out (by have := ZX.out; omega) B_10.out.size))
    clear X_10 BW_10 BG_10 OW_10 OG_10 B_10 o l z0 z1 z2 zf
    have C := hide (HHL.out _ _ _ OG_11.out)
    obtain ⟨z0, z1, z2, zf⟩ := cells3g BG_11.out
    go_wp2_with fail
    refine C.out.mono ?_
    rintro e w12 ⟨rfl, b⟩
    clear C
    have X_12 := hide ((b.block _ (blk_lt X_11.out)).trans X_11.out)
    have BW_12 := hide ((b.block _ (blk_lt BW_11.out)).trans BW_11.out)
    have BG_12 := hide ((b.block _ (blk_lt BG_11.out)).trans BG_11.out)
    have OW_12 := hide (OW_11.out.below b)
    have OG_12 := hide (OG_11.out.below b)
    have B_12 := hide (B_11.out.trans (b.mono B_11.out.size))
    clear X_11 BW_11 BG_11 OW_11 OG_11 B_11 b z0 z1 z2 zf
    obtain ⟨x0, x1, xf⟩ := cells2 X_12.out
    go_wp2_with fail
    refine (HTOF.out _ B_12.out).mono ?_
    rintro e w13 ⟨s13, c13, rfl, oa, b⟩
    obtain ⟨so13, p13, co13, q13, rfl, rfl⟩ := oa.shape
    rw [← HN.out.1, ← HN.out.2] at oa ⊢
    have X_13 := hide ((b.block _ (blk_lt X_12.out)).trans X_12.out)
    have BW_13 := hide ((b.block _ (blk_lt BW_12.out)).trans BW_12.out)
    have BG_13 := hide ((b.block _ (blk_lt BG_12.out)).trans BG_12.out)
    have OW_13 := hide (OW_12.out.below b)
    have OG_13 := hide (OG_12.out.below b)
    have B_13 := hide (B_12.out.trans (b.mono B_12.out.size))
    have C := hide (HIM.out _ _ _ _ oa)
    clear X_12 BW_12 BG_12 OW_12 OG_12 B_12 oa b x0 x1 xf
    go_wp2_with fail
    refine C.out.mono ?_
    rintro e w14 ⟨u14, rfl, o14, b⟩
    clear C
    obtain ⟨so14, p14, rfl⟩ := ownR_shape o14
    rw [← HK.out] at o14 ⊢
    have BA := (Below.refl w14.heap.size w14).alloc (Nat.le_refl _) (.cells #[.slice so14 k1 p14, .int .i64 NX, .int .i64 K] 49)
    have b' := b
    have bt : Below w13.heap.size w13 (w14.alloc _) := b'.trans (BA.mono b'.size)
    have X_14 := hide ((bt.block _ (blk_lt X_13.out)).trans X_13.out)
    have BW_14 := hide ((bt.block _ (blk_lt BW_13.out)).trans BW_13.out)
    have BG_14 := hide ((bt.block _ (blk_lt BG_13.out)).trans BG_13.out)
    have OW_14 := hide (OW_13.out.below bt)
    have OG_14 := hide (OG_13.out.below bt)
    have B_14 := hide (B_13.out.trans (bt.mono B_13.out.size))
    have C := hide (HEQ.out _ _ _ _ _ (o14.below BA) OW_14.out)
    clear X_13 BW_13 BG_13 OW_13 OG_13 B_13 b b' bt BA o14
    obtain ⟨y0, y1, y2, yf⟩ := cells3g BW_14.out
    go_wp2_with fail
    refine C.out.mono ?_
    generalize w14.alloc (.cells #[.slice so14 k1 p14, .int .i64 NX, .int .i64 K] 49) = W14 at *
    rintro e w15 ⟨rfl, b⟩
    clear C
    have BG_15 := hide ((b.block _ (blk_lt BG_14.out)).trans BG_14.out)
    have OG_15 := hide (OG_14.out.below b)
    have B_15 := hide (B_14.out.trans (b.mono B_14.out.size))
    clear X_14 BW_14 BG_14 OW_14 OG_14 B_14 b y0 y1 y2 yf
    have C := hide (HHL.out _ _ _ OG_15.out)
    obtain ⟨z0, z1, z2, zf⟩ := cells3g BG_15.out
    go_wp2_with fail
    refine C.out.mono ?_
    rintro e w16 ⟨rfl, b⟩
    clear C
    have B_16 := hide (B_15.out.trans (b.mono B_15.out.size))
    clear BG_15 OG_15 B_15 b z0 z1 z2 zf
    go_wp2
    go_ret
    exact ⟨rfl, B_16.out⟩
end Go.Proofs.Ytaapacpiipcogaa
