/-
  Contracts and plain laws, part 9 of 9: SMark4, TbMark, SSize, SCnt, ReadSch, TbLaw
-/
import Derived.Test.YtpmaklbbkmghbaaRows
import Derived.WalkKit
import Derived.ProofKit
import Derived.Deep.Slices
import Derived.Deep.Strs
import Derived.OpenShut
import Derived.ChangeSame
import Derived.Test.YtpmaklbbkmghbaaPh

/-
  Contracts: what was read is marked, held and compared.
-/
namespace Go.Proofs.Ytpmaklbbkmghbaa
open Go.RowKit
set_option maxRecDepth 100000

set_option maxHeartbeats 2000000 in
theorem eqSchemaOut_own (b1 b2 : Nat) (a k x a' k' x' : Value) (us us' : List Value) (s : Sch) (c : Int) (w : World) (hs : schIn s) (h : SOwn b1 a k x us s w) (h' : SOwn b2 a' k' x' us' s w) :
    Calls Try.prog 18 #[.agg #[.string s.name, a, k, x, .int .i64 c], .agg #[.string s.name, a', k', x', .int .i64 c]] w fun e w' => e = .returned (.bool true) ∧ Below w.heap.size w w' := by
  obtain ⟨ao, p1, ko, p2, xo, p3, rfl, rfl, rfl, hr⟩ := h.row hs
  obtain ⟨ao', p1', ko', p2', xo', p3', rfl, rfl, rfl, hr'⟩ := h'.row hs
  have HEQ := hide (fun (W : World) (hW : Below w.heap.size w W) => eqSchema_same _ _ _ _ ao p1 ko p2 xo p3 ao' p1' ko' p2' xo' p3' s W hW.size hW.size hs.fits (hr.kept hW) (hr'.kept hW))
  obtain ⟨nm, cs, ky, xs⟩ := s
  simp only at *
  clear h h' hs hr hr'
  have B0 := hide (((Below.refl w.heap.size w).alloc (Nat.le_refl _) (.cells #[.string nm, .slice ao cs.length p1, .slice ko ky.length p2, .slice xo xs.length p3, .int .i64 c] 38)).alloc (by simp) (.cells #[.string nm, .slice ao' cs.length p1', .slice ko' ky.length p2', .slice xo' xs.length p3', .int .i64 c] 38))
  have HT := hide (two_allocs w (.cells #[.string nm, .slice ao cs.length p1, .slice ko ky.length p2, .slice xo xs.length p3, .int .i64 c] 38) (.cells #[.string nm, .slice ao' cs.length p1', .slice ko' ky.length p2', .slice xo' xs.length p3', .int .i64 c] 38))
  go_enter Try.func18, Try.ntmps18
  go_wp2_with fail
  refine (HEQ.out _ B0.out).mono ?_
  generalize (w.alloc (.cells #[.string nm, .slice ao cs.length p1, .slice ko ky.length p2, .slice xo xs.length p3, .int .i64 c] 38)).alloc (.cells #[.string nm, .slice ao' cs.length p1', .slice ko' ky.length p2', .slice xo' xs.length p3', .int .i64 c] 38) = W0 at *
  rintro e w1 ⟨rfl, g1⟩
  obtain ⟨hx, hy, hz⟩ := HT.out
  obtain ⟨x0, x1, x2, x3, x4, xf⟩ := cells5 ((g1.block w.heap.size (by omega)).trans hx)
  obtain ⟨y0, y1, y2, y3, y4, yf⟩ := cells5 ((g1.block (w.heap.size + 1) (by omega)).trans hy)
  have B1 := hide (B0.out.trans (g1.mono (by omega)))
  clear g1 hx hy hz HT B0 HEQ
  go_wp2
  go_ret
  exact ⟨rfl, B1.out⟩
set_option maxHeartbeats 2000000 in
theorem markSchemaOut_own (base : Nat) (a k x : Value) (us : List Value) (s : Sch) (c : Int) (w : World) (hs : schIn s) (h : SOwn base a k x us s w) :
    Calls Try.prog 19 #[.agg #[.string s.name, a, k, x, .int .i64 c], .int .i64 1] w fun e w' => e = .returned (.int .i64 ((cntS s : Nat) : Int)) ∧ SOwn base a k x us (mSch s) w' ∧ GL (a :: k :: x :: us) w w' := by
  have BA := (Below.refl w.heap.size w).alloc (Nat.le_refl _) (.cells #[.string s.name, a, k, x, .int .i64 c] 38)
  have HC := hide (markSchema_own base a k x us s _ hs (h.below BA))
  have B0 := hide (GL.alloc (a :: k :: x :: us) w (.cells #[.string s.name, a, k, x, .int .i64 c] 38))
  obtain ⟨ao, p1, rfl⟩ := ownC_shape h.cols
  obtain ⟨ko, p2, rfl⟩ := ownN_shape h.key
  obtain ⟨xo, p3, rfl⟩ := ownX_shape h.idx
  generalize mSch s = ms at *
  generalize cntS s = n at *
  obtain ⟨nm, cs, ky, xs⟩ := s
  simp only at *
  clear h hs BA
  go_enter Try.func19, Try.ntmps19
  go_wp2_with fail
  refine HC.out.mono ?_
  generalize w.alloc (.cells #[.string nm, .slice ao cs.length p1, .slice ko ky.length p2, .slice xo xs.length p3, .int .i64 c] 38) = W0 at *
  rintro e w1 ⟨rfl, o1, g1⟩
  have O1 := hide o1
  have B1 := hide (B0.out.trans g1)
  clear o1 g1 HC B0
  go_wp2
  go_ret
  exact ⟨rfl, O1.out, B1.out⟩
set_option maxHeartbeats 2000000 in
theorem heldSchemaOut_own (base : Nat) (a k x : Value) (us : List Value) (s : Sch) (c : Int) (w : World) (hs : schIn s) (h : SOwn base a k x us (mSch s) w) :
    Calls Try.prog 20 #[.agg #[.string s.name, a, k, x, .int .i64 c], .int .i64 1] w fun e w' => e = .returned (.int .i64 ((cntS s : Nat) : Int)) ∧ Below w.heap.size w w' := by
  obtain ⟨ao, p1, ko, p2, xo, p3, rfl, rfl, rfl, hr⟩ := h.row (mSch_in hs)
  have BA := (Below.refl w.heap.size w).alloc (Nat.le_refl _) (.cells #[.string s.name, .slice ao s.cols.length p1, .slice ko s.key.length p2, .slice xo s.idx.length p3, .int .i64 c] 38)
  have HC := hide (heldSchema_any _ _ ao p1 ko p2 xo p3 s _ BA.size hs (hr.kept BA))
  have B0 := hide BA
  have e1 : (mSch s).cols.length = s.cols.length := mCols_len _ _
  have e2 : (mSch s).key.length = s.key.length := mNums_len _ _
  have e3 : (mSch s).idx.length = s.idx.length := mIdx_len _ _
  rw [e1, e2, e3]
  generalize cntS s = n at *
  obtain ⟨nm, cs, ky, xs⟩ := s
  simp only at *
  clear h hs BA hr e1 e2 e3
  have hn : ¬ ((n : Int) < 0) := by omega
  go_enter Try.func20, Try.ntmps20
  go_wp2_with fail
  refine HC.out.mono ?_
  generalize hW : w.alloc (.cells #[.string nm, .slice ao cs.length p1, .slice ko ky.length p2, .slice xo xs.length p3, .int .i64 c] 38) = W0 at *
  rintro e w1 ⟨rfl, g1⟩
  have B1 := hide (B0.out.trans (g1.mono B0.out.size))
  clear g1 HC B0 hW
  go_wp2
  go_ret
  exact ⟨rfl, B1.out⟩
end Go.Proofs.Ytpmaklbbkmghbaa

/-
  Contracts: new tables are compared, marked, and looked at again.
-/
namespace Go.Proofs.Ytpmaklbbkmghbaa
open Go.RowKit
set_option maxRecDepth 100000

theorem eqValueSS_nil (w : World) : Calls Try.prog 77 #[.slice none 0 0, .slice none 0 0] w fun e w' => e = .returned (.bool true) ∧ w' = w := by
  go_enter Try.func77, Try.ntmps77
  go_wp2
  go_loop [5] (fun i => i = .int .i64 0) (fun _ => 0)
  case atStart => rfl
  case round =>
    subst hrel
    go_wp2
    go_ret
    exact ⟨rfl, rfl⟩
theorem markValueSS_nil (k0 : Nat) (w : World) : Calls Try.prog 80 #[.slice none 0 0, .int .i64 k0] w fun e w' => e = .returned (.int .i64 k0) ∧ w' = w := by
  go_enter Try.func80, Try.ntmps80
  go_wp2
  go_loop [1, 5] (fun q i => i = .int .i64 0 ∧ q = .int .i64 k0) (fun _ _ => 0)
  case atStart => exact ⟨rfl, rfl⟩
  case round =>
    obtain ⟨rfl, rfl⟩ := hrel
    go_wp2
    go_ret
    exact ⟨rfl, rfl⟩
theorem heldValueSS_nil (k0 : Nat) (w : World) : Calls Try.prog 81 #[.slice none 0 0, .int .i64 k0] w fun e w' => e = .returned (.int .i64 k0) ∧ w' = w := by
  go_enter Try.func81, Try.ntmps81
  go_wp2
  go_loop [1, 5] (fun q i => i = .int .i64 0 ∧ q = .int .i64 k0) (fun _ _ => 0)
  case atStart => exact ⟨rfl, rfl⟩
  case round =>
    obtain ⟨rfl, rfl⟩ := hrel
    go_wp2
    go_ret
    exact ⟨rfl, rfl⟩
theorem eqSchema_wide (b1 b2 : Nat) (a k x a' k' x' : Value) (us us' : List Value) (s : Sch) (w : World) (hs : schWide s) (h : SOwn b1 a k x us s w) (h' : SOwn b2 a' k' x' us' s w) :
    Calls Try.prog 13 #[.agg #[.string s.name, a, k, x], .agg #[.string s.name, a', k', x']] w fun e w' => e = .returned (.bool true) ∧ Below w.heap.size w w' := by
  obtain ⟨ao, p1, ko, p2, xo, p3, rfl, rfl, rfl, hr⟩ := h.rowW hs
  obtain ⟨ao', p1', ko', p2', xo', p3', rfl, rfl, rfl, hr'⟩ := h'.rowW hs
  exact eqSchema_same _ _ _ _ ao p1 ko p2 xo p3 ao' p1' ko' p2' xo' p3' s w (Nat.le_refl _) (Nat.le_refl _) hs.fits hr hr'
set_option maxHeartbeats 2000000 in
theorem eqTable_own (b1 b2 : Nat) (a k x a' k' x' : Value) (us us' : List Value) (s : Sch) (w : World) (hs : schIn s) (h : SOwn b1 a k x us s w) (h' : SOwn b2 a' k' x' us' s w) :
    Calls Try.prog 35 #[.agg #[.string s.name, a, k, x, .slice none 0 0], .agg #[.string s.name, a', k', x', .slice none 0 0]] w fun e w' => e = .returned (.bool true) ∧ Below w.heap.size w w' := by
  obtain ⟨ao, p1, ko, p2, xo, p3, rfl, rfl, rfl, hr⟩ := h.row hs
  obtain ⟨ao', p1', ko', p2', xo', p3', rfl, rfl, rfl, hr'⟩ := h'.row hs
  have HEQ := hide (fun (W : World) (hW : Below w.heap.size w W) => eqSchema_same _ _ _ _ ao p1 ko p2 xo p3 ao' p1' ko' p2' xo' p3' s W hW.size hW.size hs.fits (hr.kept hW) (hr'.kept hW))
  obtain ⟨nm, cs, ky, xs⟩ := s
  simp only at *
  clear h h' hs hr hr'
  have B0 := hide (((Below.refl w.heap.size w).alloc (Nat.le_refl _) (.cells #[.string nm, .slice ao cs.length p1, .slice ko ky.length p2, .slice xo xs.length p3, .slice none 0 0] 58)).alloc (by simp) (.cells #[.string nm, .slice ao' cs.length p1', .slice ko' ky.length p2', .slice xo' xs.length p3', .slice none 0 0] 58))
  have HT := hide (two_allocs w (.cells #[.string nm, .slice ao cs.length p1, .slice ko ky.length p2, .slice xo xs.length p3, .slice none 0 0] 58) (.cells #[.string nm, .slice ao' cs.length p1', .slice ko' ky.length p2', .slice xo' xs.length p3', .slice none 0 0] 58))
  go_enter Try.func35, Try.ntmps35
  go_wp2_with fail
  refine (HEQ.out _ B0.out).mono ?_
  generalize (w.alloc (.cells #[.string nm, .slice ao cs.length p1, .slice ko ky.length p2, .slice xo xs.length p3, .slice none 0 0] 58)).alloc (.cells #[.string nm, .slice ao' cs.length p1', .slice ko' ky.length p2', .slice xo' xs.length p3', .slice none 0 0] 58) = W0 at *
  rintro e w1 ⟨rfl, g1⟩
  obtain ⟨hx, hy, hz⟩ := HT.out
  obtain ⟨x0, x1, x2, x3, x4, xf⟩ := cells5 ((g1.block w.heap.size (by omega)).trans hx)
  obtain ⟨y0, y1, y2, y3, y4, yf⟩ := cells5 ((g1.block (w.heap.size + 1) (by omega)).trans hy)
  have B1 := hide (B0.out.trans (g1.mono (by omega)))
  clear g1 hx hy hz HT B0 HEQ
  go_wp2_with (go_at_call 77; refine (eqValueSS_nil _).mono ?_; rintro e w2 ⟨rfl, hw⟩; rw [hw]; clear hw w2)
  go_ret
  exact ⟨rfl, B1.out⟩
set_option maxHeartbeats 2000000 in
theorem markTable_own (base : Nat) (a k x : Value) (us : List Value) (s : Sch) (w : World) (hs : schIn s) (h : SOwn base a k x us s w) :
    Calls Try.prog 37 #[.agg #[.string s.name, a, k, x, .slice none 0 0], .int .i64 1] w fun e w' => e = .returned (.int .i64 ((cntS s : Nat) : Int)) ∧ SOwn base a k x us (mSch s) w' ∧ GL (a :: k :: x :: us) w w' := by
  have BA := (Below.refl w.heap.size w).alloc (Nat.le_refl _) (.cells #[.string s.name, a, k, x, .slice none 0 0] 58)
  have HC := hide (markSchema_own base a k x us s _ hs (h.below BA))
  have HBL := hide h.blocks
  have B0 := hide (GL.alloc (a :: k :: x :: us) w (.cells #[.string s.name, a, k, x, .slice none 0 0] 58))
  obtain ⟨ao, p1, rfl⟩ := ownC_shape h.cols
  obtain ⟨ko, p2, rfl⟩ := ownN_shape h.key
  obtain ⟨xo, p3, rfl⟩ := ownX_shape h.idx
  generalize mSch s = ms at *
  generalize cntS s = n at *
  obtain ⟨nm, cs, ky, xs⟩ := s
  simp only at *
  clear h hs BA
  go_enter Try.func37, Try.ntmps37
  go_wp2_with fail
  refine HC.out.mono ?_
  have TX := hide (heap_alloc_new w (.cells #[.string nm, .slice ao cs.length p1, .slice ko ky.length p2, .slice xo xs.length p3, .slice none 0 0] 58))
  have TZ : Hid ((w.alloc (.cells #[.string nm, .slice ao cs.length p1, .slice ko ky.length p2, .slice xo xs.length p3, .slice none 0 0] 58)).heap.size = w.heap.size + 1) := by show _ = _; simp
  generalize w.alloc (.cells #[.string nm, .slice ao cs.length p1, .slice ko ky.length p2, .slice xo xs.length p3, .slice none 0 0] 58) = W0 at *
  rintro e w1 ⟨rfl, o1, g1⟩
  have TX1 := hide ((g1.block w.heap.size (by rw [TZ.out]; omega) (fun v hv e => Nat.lt_irrefl _ (HBL.out v hv _ e))).trans TX.out)
  have O1 := hide o1
  have B1 := hide (B0.out.trans g1)
  clear o1 g1 HC B0
  obtain ⟨y0, y1, y2, y3, y4, yf⟩ := cells5 TX1.out
  go_wp2_with (go_at_call 80; refine (markValueSS_nil n _).mono ?_; rintro e w2 ⟨rfl, hw⟩; rw [hw]; clear hw w2)
  go_ret
  exact ⟨rfl, O1.out, B1.out⟩
set_option maxHeartbeats 2000000 in
theorem heldTable_own (base : Nat) (a k x : Value) (us : List Value) (s : Sch) (w : World) (hs : schIn s) (h : SOwn base a k x us (mSch s) w) :
    Calls Try.prog 38 #[.agg #[.string s.name, a, k, x, .slice none 0 0], .int .i64 1] w fun e w' => e = .returned (.int .i64 ((cntS s : Nat) : Int)) ∧ Below w.heap.size w w' := by
  obtain ⟨ao, p1, ko, p2, xo, p3, rfl, rfl, rfl, hr⟩ := h.row (mSch_in hs)
  have BA := (Below.refl w.heap.size w).alloc (Nat.le_refl _) (.cells #[.string s.name, .slice ao s.cols.length p1, .slice ko s.key.length p2, .slice xo s.idx.length p3, .slice none 0 0] 58)
  have HC := hide (heldSchema_any _ _ ao p1 ko p2 xo p3 s _ BA.size hs (hr.kept BA))
  have B0 := hide BA
  have e1 : (mSch s).cols.length = s.cols.length := mCols_len _ _
  have e2 : (mSch s).key.length = s.key.length := mNums_len _ _
  have e3 : (mSch s).idx.length = s.idx.length := mIdx_len _ _
  rw [e1, e2, e3]
  generalize cntS s = n at *
  obtain ⟨nm, cs, ky, xs⟩ := s
  simp only at *
  clear h hs BA hr e1 e2 e3
  have hn : ¬ ((n : Int) < 0) := by omega
  go_enter Try.func38, Try.ntmps38
  go_wp2_with fail
  refine HC.out.mono ?_
  have TX := hide (heap_alloc_new w (.cells #[.string nm, .slice ao cs.length p1, .slice ko ky.length p2, .slice xo xs.length p3, .slice none 0 0] 58))
  generalize hW : w.alloc (.cells #[.string nm, .slice ao cs.length p1, .slice ko ky.length p2, .slice xo xs.length p3, .slice none 0 0] 58) = W0 at *
  rintro e w1 ⟨rfl, g1⟩
  have B1 := hide (B0.out.trans (g1.mono B0.out.size))
  have TX1 := hide ((g1.block _ (blkT TX.out)).trans TX.out)
  clear g1 HC B0 hW
  obtain ⟨y0, y1, y2, y3, y4, yf⟩ := cells5 TX1.out
  go_wp2_with (go_at_call 81; refine (heldValueSS_nil n _).mono ?_; rintro e w2 ⟨rfl, hw⟩; rw [hw]; clear hw w2)
  go_ret
  exact ⟨rfl, B1.out⟩
end Go.Proofs.Ytpmaklbbkmghbaa

/-
  Contracts: the sizes of schemas, as the laws count them.
-/
namespace Go.Proofs.Ytpmaklbbkmghbaa
open Go.RowKit
set_option maxRecDepth 100000

theorem szInt64S_any (ao : Option Addr) (cap : Nat) (n : Nat) (left : Int) (w : World) (hl : n ≤ maxLen) (h0 : 0 ≤ left) (h1 : left ≤ 1048576) :
    Calls Try.prog 40 #[.slice ao n cap, .int .i64 left] w fun e w' => ∃ r : Int, e = .returned (.int .i64 r) ∧ r ≤ left ∧ (r < 0 ∨ 0 ≤ r ∧ n ≤ 1048576) ∧ w' = w := by
  unfold maxLen at hl
  by_cases h : left < n
  · go_enter Try.func40, Try.ntmps40
    go_wp2
    go_ret
    exact ⟨-1, rfl, by omega, .inl (by omega), rfl⟩
  · go_enter Try.func40, Try.ntmps40
    go_wp2
    go_ret
    exact ⟨_, rfl, by omega, .inr ⟨by omega, by omega⟩, rfl⟩
theorem szColumn_any (t : ByteArray) (k : Int) (u : Bool) (left : Int) (h0 : 0 ≤ left) (h1 : left ≤ 1048576) (ht : t.size ≤ maxLen) (w : World) :
    Calls Try.prog 82 #[.agg #[.string t, .int .i64 k, .bool u], .int .i64 left] w fun e w' => ∃ r : Int, e = .returned (.int .i64 r) ∧ r ≤ left ∧ Below w.heap.size w w' := by
  unfold maxLen at ht
  by_cases h : left < t.size
  · go_enter Try.func82, Try.ntmps82
    go_wp2
    go_ret
    exact ⟨-1, rfl, by omega, (Below.refl _ _).alloc (Nat.le_refl _) _⟩
  · go_enter Try.func82, Try.ntmps82
    go_wp2
    go_ret
    exact ⟨_, rfl, by omega, (Below.refl _ _).alloc (Nat.le_refl _) _⟩
theorem szIndex_any (io : Option Addr) (cap n : Nat) (u : Bool) (left : Int) (hl : n ≤ maxLen) (h0 : 0 ≤ left) (h1 : left ≤ 1048576) (w : World) :
    Calls Try.prog 83 #[.agg #[.slice io n cap, .bool u], .int .i64 left] w fun e w' => ∃ r : Int, e = .returned (.int .i64 r) ∧ r ≤ left ∧ (r < 0 ∨ 0 ≤ r ∧ n ≤ 1048576) ∧ Below w.heap.size w w' := by
  go_enter Try.func83, Try.ntmps83
  go_wp2_with fail
  refine (szInt64S_any io cap n left _ hl h0 h1).mono ?_
  rintro e w1 ⟨r, rfl, hr, hc, rfl⟩
  rcases hc with hn | ⟨hp, hq⟩
  · go_wp2
    go_ret
    exact ⟨-1, rfl, by omega, .inl (by omega), (Below.refl _ _).alloc (Nat.le_refl _) _⟩
  · go_wp2
    go_ret
    exact ⟨_, rfl, by omega, .inr ⟨by omega, by omega⟩, (Below.refl _ _).alloc (Nat.le_refl _) _⟩
set_option maxHeartbeats 1000000 in
theorem szColumnS_any (A B : Nat) (ao : Option Addr) (cap : Nat) (cs : List Col) (left : Int) (w : World) (hB : B ≤ w.heap.size) (hl : cs.length ≤ maxLen) (hr : ColRow w A B ao cs) (h0 : 0 ≤ left) (h1 : left ≤ 1048576) :
    Calls Try.prog 39 #[.slice ao cs.length cap, .int .i64 left] w fun e w' => ∃ r : Int, e = .returned (.int .i64 r) ∧ r ≤ left ∧ (r < 0 ∨ 0 ≤ r ∧ cs.length ≤ 1048576) ∧ Below w.heap.size w w' := by
  unfold maxLen at hl
  by_cases hlong : left < cs.length
  · go_enter Try.func39, Try.ntmps39
    go_wp2
    go_ret
    exact ⟨-1, rfl, by omega, .inl (by omega), Below.refl _ _⟩
  · have HR : Hid (ColRow w A B ao cs) := hr
    clear hr
    go_enter Try.func39, Try.ntmps39
    go_wp2
    go_loopw [1, 5] (fun x i wr => ∃ (k : Nat) (r : Int), k ≤ cs.length ∧ i = .int .i64 k ∧ x = .int .i64 r ∧ 0 ≤ r ∧ r ≤ left ∧ Below w.heap.size w wr) (fun _ i _ => cs.length - (intOf i).toNat)
    case atStart => exact ⟨0, left - cs.length, Nat.zero_le _, rfl, rfl, by omega, by omega, Below.refl _ _⟩
    case round =>
      obtain ⟨k, r, hk, rfl, rfl, hr0, hr1, hb⟩ := hrel
      by_cases hlt : k < cs.length
      · obtain ⟨b, off, kk, nn, tt, rfl, hbB, hv, htt, hki, d0, d1, d2⟩ := (HR.out.kept (hb.mono hB)).at k hlt
        clear hv hki
        go_wp2_with fail
        refine (szColumn_any kk nn tt r hr0 (by omega) htt _).mono ?_
        rintro e w1 ⟨q, rfl, hq, hb1⟩
        have hb2 := hb.trans (hb1.mono hb.size)
        clear hb hb1 d0 d1 d2
        by_cases hs : q < 0
        · go_wp2
          go_ret
          exact ⟨-1, rfl, by omega, .inl (by omega), hb2⟩
        · go_wp2
          go_roundw
          case rel => exact ⟨k + 1, q, by omega, by go_num, rfl, by omega, by omega, hb2⟩
          case measure => simp [intOf]; omega
      · go_wp2
        go_ret
        exact ⟨r, rfl, hr1, .inr ⟨hr0, by omega⟩, hb⟩
set_option maxHeartbeats 1000000 in
theorem szIndexS_any (A B : Nat) (ao : Option Addr) (cap : Nat) (xs : List Idx) (left : Int) (w : World) (hB : B ≤ w.heap.size) (hl : xs.length ≤ maxLen) (hr : IdxRow w A B ao xs) (h0 : 0 ≤ left) (h1 : left ≤ 1048576) :
    Calls Try.prog 41 #[.slice ao xs.length cap, .int .i64 left] w fun e w' => ∃ r : Int, e = .returned (.int .i64 r) ∧ r ≤ left ∧ (r < 0 ∨ 0 ≤ r ∧ xs.length ≤ 1048576 ∧ ∀ i, i < xs.length → (xs.getD i noIdx).cols.length ≤ 1048576) ∧ Below w.heap.size w w' := by
  unfold maxLen at hl
  by_cases hlong : left < xs.length
  · go_enter Try.func41, Try.ntmps41
    go_wp2
    go_ret
    exact ⟨-1, rfl, by omega, .inl (by omega), Below.refl _ _⟩
  · have HR : Hid (IdxRow w A B ao xs) := hr
    clear hr
    go_enter Try.func41, Try.ntmps41
    go_wp2
    go_loopw [1, 5] (fun x i wr => ∃ (k : Nat) (r : Int), k ≤ xs.length ∧ i = .int .i64 k ∧ x = .int .i64 r ∧ 0 ≤ r ∧ r ≤ left ∧ Hid (∀ i, i < k → (xs.getD i noIdx).cols.length ≤ 1048576) ∧ Below w.heap.size w wr) (fun _ i _ => xs.length - (intOf i).toNat)
    case atStart => exact ⟨0, left - xs.length, Nat.zero_le _, rfl, rfl, by omega, by omega, fun i hi => absurd hi (Nat.not_lt_zero _), Below.refl _ _⟩
    case round =>
      obtain ⟨k, r, hk, rfl, rfl, hr0, hr1, HF, hb⟩ := hrel
      by_cases hlt : k < xs.length
      · obtain ⟨b, off, io, cp, l, u, rfl, hbB, hv, htt, hir, d0, d1⟩ := (HR.out.kept (hb.mono hB)).at k hlt
        have HV : Hid (xs.getD k noIdx = ⟨l, u⟩) := hv
        clear hv hir
        go_wp2_with fail
        refine (szIndex_any io cp l.length u r (Nat.le_trans htt.1 htt.2) hr0 (by omega) _).mono ?_
        rintro e w1 ⟨q, rfl, hq, hcase, hb1⟩
        have hb2 := hb.trans (hb1.mono hb.size)
        clear hb hb1 d0 d1
        rcases hcase with hs | ⟨hs, hll⟩
        · go_wp2
          go_ret
          exact ⟨-1, rfl, by omega, .inl (by omega), hb2⟩
        · have HF2 : Hid (∀ i, i < k + 1 → (xs.getD i noIdx).cols.length ≤ 1048576) := fun i hi => by
            by_cases e : i = k
            · subst e; rw [HV.out]; exact hll
            · exact HF.out i (by omega)
          clear HF HV hll
          go_wp2
          go_roundw
          case rel => exact ⟨k + 1, q, by omega, by go_num, rfl, by omega, by omega, HF2, hb2⟩
          case measure => simp [intOf]; omega
      · obtain rfl : k = xs.length := by omega
        go_wp2
        go_ret
        exact ⟨r, rfl, hr1, .inr ⟨hr0, by omega, HF.out⟩, hb⟩
set_option maxHeartbeats 1000000 in
theorem szSchema_any (A B : Nat) (ao : Option Addr) (c1 : Nat) (ko : Option Addr) (c2 : Nat) (xo : Option Addr) (c3 : Nat) (s : Sch) (left : Int) (w : World) (hB : B ≤ w.heap.size) (hr : SchRow w A B ao ko xo c2 s) (h0 : 0 ≤ left) (h1 : left ≤ 1048576) :
    Calls Try.prog 9 #[.agg #[.string s.name, .slice ao s.cols.length c1, .slice ko s.key.length c2, .slice xo s.idx.length c3], .int .i64 left] w fun e w' =>
      ∃ r : Int, e = .returned (.int .i64 r) ∧ r ≤ left ∧ (r < 0 ∨ 0 ≤ r ∧ schFits s) ∧ Below w.heap.size w w' := by
  obtain ⟨nm, cs, ky, xs⟩ := s
  simp only
  obtain ⟨⟨hn0, hn1, hn2', hn3⟩, hr1, hr2, hr3⟩ := hr
  have hn2 : ky.length ≤ maxLen := Nat.le_trans hn2'.1 hn2'.2
  clear hn2'
  simp only at hn0 hn1 hn2 hn3 hr1 hr2 hr3
  unfold maxLen at hn0
  have R1 : Hid (ColRow w A B ao cs) := hr1
  have R3 : Hid (IdxRow w A B xo xs) := hr3
  clear hr1 hr2 hr3
  by_cases hlong : left < nm.size
  · go_enter Try.func9, Try.ntmps9
    go_wp2
    go_ret
    exact ⟨-1, rfl, by omega, .inl (by omega), (Below.refl _ _).alloc (Nat.le_refl _) _⟩
  · have B0 : Hid (Below w.heap.size w (w.alloc (.cells #[.string nm, .slice ao cs.length c1, .slice ko ky.length c2, .slice xo xs.length c3] 26))) := (Below.refl _ _).alloc (Nat.le_refl _) _
    go_enter Try.func9, Try.ntmps9
    go_wp2_with fail
    refine (szColumnS_any A B ao c1 cs (left - nm.size) _ (Nat.le_trans hB B0.out.size) hn1 (R1.out.kept (B0.out.mono hB)) (by omega) (by omega)).mono ?_
    rintro e w1 ⟨r1, rfl, hr1, hc1, hb1⟩
    have X1 : Hid (w1.heap[w.heap.size]? = some (.cells #[.string nm, .slice ao cs.length c1, .slice ko ky.length c2, .slice xo xs.length c3] 26 (0, 0))) := (hb1.block _ (by simp)).trans (heap_alloc_new _ _)
    obtain ⟨x0, x1, x2, x3, xf⟩ := cells4 X1.out
    have B1 : Hid (Below w.heap.size w w1) := B0.out.trans (hb1.mono B0.out.size)
    clear hb1 B0
    rcases hc1 with hneg | ⟨hr10, hcl⟩
    · go_wp2
      go_ret
      exact ⟨-1, rfl, by omega, .inl (by omega), B1.out⟩
    · go_wp2_with fail
      refine (szInt64S_any ko c2 ky.length r1 _ hn2 hr10 (by omega)).mono ?_
      rintro e w2 ⟨r2, rfl, hr2, hc2, rfl⟩
      rcases hc2 with hneg | ⟨hr20, hkl⟩
      · go_wp2
        go_ret
        exact ⟨-1, rfl, by omega, .inl (by omega), B1.out⟩
      · go_wp2_with fail
        refine (szIndexS_any A B xo c3 xs r2 _ (Nat.le_trans hB B1.out.size) hn3 (R3.out.kept (B1.out.mono hB)) hr20 (by omega)).mono ?_
        rintro e w3 ⟨r3, rfl, hr3, hc3, hb3⟩
        have B3 : Hid (Below w.heap.size w w3) := B1.out.trans (hb3.mono B1.out.size)
        clear hb3 x0 x1 x2 x3 xf
        rcases hc3 with hneg | ⟨hr30, hxl, hxa⟩
        · go_wp2
          go_ret
          exact ⟨-1, rfl, by omega, .inl (by omega), B3.out⟩
        · have HF : Hid (schFits ⟨nm, cs, ky, xs⟩) := ⟨hcl, hkl, hxl, fun x hx => by
            obtain ⟨i, hi, rfl⟩ := List.getElem_of_mem hx
            have := hxa i hi
            rwa [List.getD_eq_getElem?_getD, List.getElem?_eq_getElem hi] at this⟩
          clear hxa
          go_wp2
          go_ret
          exact ⟨r3, rfl, by omega, .inr ⟨hr30, HF.out⟩, B3.out⟩
end Go.Proofs.Ytpmaklbbkmghbaa

/-
  Contracts: the sizes of schemas, as the laws count them, with the number of marks that a schema takes.
-/
namespace Go.Proofs.Ytpmaklbbkmghbaa
open Go.RowKit
set_option maxRecDepth 100000

theorem nI_mem : ∀ (xs : List Idx) (x : Idx), x ∈ xs → x.cols.length ≤ nI xs
  | [], x, h => by simp at h
  | y :: r, x, h => by
    simp only [nI]
    rcases List.mem_cons.1 h with rfl | h
    · omega
    · have := nI_mem r x h; omega
theorem szInt64S_cnt (ao : Option Addr) (cap : Nat) (n : Nat) (left : Int) (w : World) (hl : n ≤ maxLen) (h0 : 0 ≤ left) (h1 : left ≤ 1048576) :
    Calls Try.prog 40 #[.slice ao n cap, .int .i64 left] w fun e w' => ∃ r : Int, e = .returned (.int .i64 r) ∧ r ≤ left ∧ (r < 0 ∨ 0 ≤ r ∧ r + n ≤ left) ∧ w' = w := by
  unfold maxLen at hl
  by_cases h : left < n
  · go_enter Try.func40, Try.ntmps40
    go_wp2
    go_ret
    exact ⟨-1, rfl, by omega, .inl (by omega), rfl⟩
  · go_enter Try.func40, Try.ntmps40
    go_wp2
    go_ret
    exact ⟨_, rfl, by omega, .inr ⟨by omega, by omega⟩, rfl⟩
theorem szIndex_cnt (io : Option Addr) (cap n : Nat) (u : Bool) (left : Int) (hl : n ≤ maxLen) (h0 : 0 ≤ left) (h1 : left ≤ 1048576) (w : World) :
    Calls Try.prog 83 #[.agg #[.slice io n cap, .bool u], .int .i64 left] w fun e w' => ∃ r : Int, e = .returned (.int .i64 r) ∧ r ≤ left ∧ (r < 0 ∨ 0 ≤ r ∧ r + n ≤ left) ∧ Below w.heap.size w w' := by
  go_enter Try.func83, Try.ntmps83
  go_wp2_with fail
  refine (szInt64S_cnt io cap n left _ hl h0 h1).mono ?_
  rintro e w1 ⟨r, rfl, hr, hc, rfl⟩
  rcases hc with hn | ⟨hp, hq⟩
  · go_wp2
    go_ret
    exact ⟨-1, rfl, by omega, .inl (by omega), (Below.refl _ _).alloc (Nat.le_refl _) _⟩
  · go_wp2
    go_ret
    exact ⟨_, rfl, by omega, .inr ⟨by omega, by omega⟩, (Below.refl _ _).alloc (Nat.le_refl _) _⟩
set_option maxHeartbeats 1000000 in
theorem szColumnS_cnt (A B : Nat) (ao : Option Addr) (cap : Nat) (cs : List Col) (left : Int) (w : World) (hB : B ≤ w.heap.size) (hl : cs.length ≤ maxLen) (hr : ColRow w A B ao cs) (h0 : 0 ≤ left) (h1 : left ≤ 1048576) :
    Calls Try.prog 39 #[.slice ao cs.length cap, .int .i64 left] w fun e w' => ∃ r : Int, e = .returned (.int .i64 r) ∧ r ≤ left ∧ (r < 0 ∨ 0 ≤ r ∧ r + cs.length ≤ left) ∧ Below w.heap.size w w' := by
  unfold maxLen at hl
  by_cases hlong : left < cs.length
  · go_enter Try.func39, Try.ntmps39
    go_wp2
    go_ret
    exact ⟨-1, rfl, by omega, .inl (by omega), Below.refl _ _⟩
  · have HR : Hid (ColRow w A B ao cs) := hr
    clear hr
    go_enter Try.func39, Try.ntmps39
    go_wp2
    go_loopw [1, 5] (fun x i wr => ∃ (k : Nat) (r : Int), k ≤ cs.length ∧ i = .int .i64 k ∧ x = .int .i64 r ∧ 0 ≤ r ∧ r + cs.length ≤ left ∧ Below w.heap.size w wr) (fun _ i _ => cs.length - (intOf i).toNat)
    case atStart => exact ⟨0, left - cs.length, Nat.zero_le _, rfl, rfl, by omega, by omega, Below.refl _ _⟩
    case round =>
      obtain ⟨k, r, hk, rfl, rfl, hr0, hr1, hb⟩ := hrel
      by_cases hlt : k < cs.length
      · obtain ⟨b, off, kk, nn, tt, rfl, hbB, hv, htt, hki, d0, d1, d2⟩ := (HR.out.kept (hb.mono hB)).at k hlt
        clear hv hki
        go_wp2_with fail
        refine (szColumn_any kk nn tt r hr0 (by omega) htt _).mono ?_
        rintro e w1 ⟨q, rfl, hq, hb1⟩
        have hb2 := hb.trans (hb1.mono hb.size)
        clear hb hb1 d0 d1 d2
        by_cases hs : q < 0
        · go_wp2
          go_ret
          exact ⟨-1, rfl, by omega, .inl (by omega), hb2⟩
        · go_wp2
          go_roundw
          case rel => exact ⟨k + 1, q, by omega, by go_num, rfl, by omega, by omega, hb2⟩
          case measure => simp [intOf]; omega
      · go_wp2
        go_ret
        exact ⟨r, rfl, by omega, .inr ⟨hr0, hr1⟩, hb⟩
set_option maxHeartbeats 1000000 in
theorem szIndexS_cnt (A B : Nat) (ao : Option Addr) (cap : Nat) (xs : List Idx) (left : Int) (w : World) (hB : B ≤ w.heap.size) (hl : xs.length ≤ maxLen) (hr : IdxRow w A B ao xs) (h0 : 0 ≤ left) (h1 : left ≤ 1048576) :
    Calls Try.prog 41 #[.slice ao xs.length cap, .int .i64 left] w fun e w' => ∃ r : Int, e = .returned (.int .i64 r) ∧ r ≤ left ∧ (r < 0 ∨ 0 ≤ r ∧ r + nI xs ≤ left) ∧ Below w.heap.size w w' := by
  unfold maxLen at hl
  by_cases hlong : left < xs.length
  · go_enter Try.func41, Try.ntmps41
    go_wp2
    go_ret
    exact ⟨-1, rfl, by omega, .inl (by omega), Below.refl _ _⟩
  · have HR : Hid (IdxRow w A B ao xs) := hr
    clear hr
    go_enter Try.func41, Try.ntmps41
    go_wp2
    go_loopw [1, 5] (fun x i wr => ∃ (k : Nat) (r : Int), k ≤ xs.length ∧ i = .int .i64 k ∧ x = .int .i64 r ∧ 0 ≤ r ∧ r ≤ left ∧ Hid (r + nI (xs.take k) + (xs.length - k : Nat) ≤ left) ∧ Below w.heap.size w wr) (fun _ i _ => xs.length - (intOf i).toNat)
    case atStart => exact ⟨0, left - xs.length, Nat.zero_le _, rfl, rfl, by omega, by omega, (by show _ ≤ _; simp [nI]), Below.refl _ _⟩
    case round =>
      obtain ⟨k, r, hk, rfl, rfl, hr0, hr1, HF, hb⟩ := hrel
      by_cases hlt : k < xs.length
      · obtain ⟨b, off, io, cp, l, u, rfl, hbB, hv, htt, hir, d0, d1⟩ := (HR.out.kept (hb.mono hB)).at k hlt
        have HV : Hid (xs.getD k noIdx = ⟨l, u⟩) := hv
        clear hv hir
        go_wp2_with fail
        refine (szIndex_cnt io cp l.length u r (Nat.le_trans htt.1 htt.2) hr0 (by omega) _).mono ?_
        rintro e w1 ⟨q, rfl, hq, hcase, hb1⟩
        have hb2 := hb.trans (hb1.mono hb.size)
        clear hb hb1 d0 d1
        rcases hcase with hs | ⟨hs, hll⟩
        · go_wp2
          go_ret
          exact ⟨-1, rfl, by omega, .inl (by omega), hb2⟩
        · have HF2 : Hid (q + nI (xs.take (k + 1)) + (xs.length - (k + 1) : Nat) ≤ left) := by
            show _ ≤ _
            rw [take_snocX xs k hlt, nI_snoc, HV.out]
            have := HF.out
            simp only
            omega
          clear HF HV hll
          go_wp2
          go_roundw
          case rel => exact ⟨k + 1, q, by omega, by go_num, rfl, by omega, by omega, HF2, hb2⟩
          case measure => simp [intOf]; omega
      · obtain rfl : k = xs.length := by omega
        go_wp2
        go_ret
        exact ⟨r, rfl, hr1, .inr ⟨hr0, (by have := HF.out; rw [List.take_length] at this; omega)⟩, hb⟩
set_option maxHeartbeats 1000000 in
theorem szSchema_cnt (A B : Nat) (ao : Option Addr) (c1 : Nat) (ko : Option Addr) (c2 : Nat) (xo : Option Addr) (c3 : Nat) (s : Sch) (left : Int) (w : World) (hB : B ≤ w.heap.size) (hr : SchRow w A B ao ko xo c2 s) (h0 : 0 ≤ left) (h1 : left ≤ 1048576) :
    Calls Try.prog 9 #[.agg #[.string s.name, .slice ao s.cols.length c1, .slice ko s.key.length c2, .slice xo s.idx.length c3], .int .i64 left] w fun e w' =>
      ∃ r : Int, e = .returned (.int .i64 r) ∧ r ≤ left ∧ (r < 0 ∨ 0 ≤ r ∧ schFits s ∧ cntS s ≤ 5000000) ∧ Below w.heap.size w w' := by
  obtain ⟨nm, cs, ky, xs⟩ := s
  simp only
  obtain ⟨⟨hn0, hn1, hn2', hn3⟩, hr1, hr2, hr3⟩ := hr
  have hn2 : ky.length ≤ maxLen := Nat.le_trans hn2'.1 hn2'.2
  clear hn2'
  simp only at hn0 hn1 hn2 hn3 hr1 hr2 hr3
  unfold maxLen at hn0
  have R1 : Hid (ColRow w A B ao cs) := hr1
  have R3 : Hid (IdxRow w A B xo xs) := hr3
  clear hr1 hr2 hr3
  by_cases hlong : left < nm.size
  · go_enter Try.func9, Try.ntmps9
    go_wp2
    go_ret
    exact ⟨-1, rfl, by omega, .inl (by omega), (Below.refl _ _).alloc (Nat.le_refl _) _⟩
  · have B0 : Hid (Below w.heap.size w (w.alloc (.cells #[.string nm, .slice ao cs.length c1, .slice ko ky.length c2, .slice xo xs.length c3] 26))) := (Below.refl _ _).alloc (Nat.le_refl _) _
    go_enter Try.func9, Try.ntmps9
    go_wp2_with fail
    refine (szColumnS_cnt A B ao c1 cs (left - nm.size) _ (Nat.le_trans hB B0.out.size) hn1 (R1.out.kept (B0.out.mono hB)) (by omega) (by omega)).mono ?_
    rintro e w1 ⟨r1, rfl, hr1, hc1, hb1⟩
    have X1 : Hid (w1.heap[w.heap.size]? = some (.cells #[.string nm, .slice ao cs.length c1, .slice ko ky.length c2, .slice xo xs.length c3] 26 (0, 0))) := (hb1.block _ (by simp)).trans (heap_alloc_new _ _)
    obtain ⟨x0, x1, x2, x3, xf⟩ := cells4 X1.out
    have B1 : Hid (Below w.heap.size w w1) := B0.out.trans (hb1.mono B0.out.size)
    clear hb1 B0
    rcases hc1 with hneg | ⟨hr10, hcl⟩
    · go_wp2
      go_ret
      exact ⟨-1, rfl, by omega, .inl (by omega), B1.out⟩
    · go_wp2_with fail
      refine (szInt64S_cnt ko c2 ky.length r1 _ hn2 hr10 (by omega)).mono ?_
      rintro e w2 ⟨r2, rfl, hr2, hc2, rfl⟩
      rcases hc2 with hneg | ⟨hr20, hkl⟩
      · go_wp2
        go_ret
        exact ⟨-1, rfl, by omega, .inl (by omega), B1.out⟩
      · go_wp2_with fail
        refine (szIndexS_cnt A B xo c3 xs r2 _ (Nat.le_trans hB B1.out.size) hn3 (R3.out.kept (B1.out.mono hB)) hr20 (by omega)).mono ?_
        rintro e w3 ⟨r3, rfl, hr3, hc3, hb3⟩
        have B3 : Hid (Below w.heap.size w w3) := B1.out.trans (hb3.mono B1.out.size)
        clear hb3 x0 x1 x2 x3 xf
        rcases hc3 with hneg | ⟨hr30, hxl⟩
        · go_wp2
          go_ret
          exact ⟨-1, rfl, by omega, .inl (by omega), B3.out⟩
        · have HF : Hid (schFits ⟨nm, cs, ky, xs⟩ ∧ cntS ⟨nm, cs, ky, xs⟩ ≤ 5000000) := by
            have hge := nI_ge xs
            refine ⟨⟨by simp only; omega, by simp only; omega, by simp only; omega, fun x hx => by have := nI_mem xs x hx; omega⟩, ?_⟩
            unfold cntS
            simp only
            omega
          go_wp2
          go_ret
          exact ⟨r3, rfl, by omega, .inr ⟨hr30, HF.out.1, HF.out.2⟩, B3.out⟩
end Go.Proofs.Ytpmaklbbkmghbaa

/-
  What came in as an argument: numbers; a schema.
-/
namespace Go.Proofs.Ytpmaklbbkmghbaa
open Go.RowKit Go.ChangeShapes Go.WideShapes
set_option maxRecDepth 100000

def IsNums (w : World) (v : Value) : Prop := ∃ ao cap l, v = .slice ao l.length cap ∧ (l.length ≤ cap ∧ cap ≤ maxLen) ∧ IntRow w 0 w.heap.size ao l
def IsSch (w : World) (v : Value) : Prop := ∃ ao c1 ko c2 xo c3 s, v = .agg #[.string s.name, .slice ao s.cols.length c1, .slice ko s.key.length c2, .slice xo s.idx.length c3] ∧ SchRow w 0 w.heap.size ao ko xo c2 s

section
variable {H : Type} {enc : TypeId × Value → H} {W : World}

theorem addOffS (b off : Nat) (k : Nat) : (⟨b, off, none⟩ : Addr).add k = ⟨b, off + k, none⟩ := by unfold Addr.add; split <;> simp_all
theorem listOf {α : Type} {n : Nat} {p : Nat → α → Prop} (h : ∀ i, i < n → ∃ x, p i x) : ∃ l : List α, l.length = n ∧ ∀ i (hi : i < l.length), p i l[i] := by
  induction n with
  | zero => exact ⟨[], rfl, fun i hi => by simp at hi⟩
  | succ n ih =>
    obtain ⟨l, hl, hp⟩ := ih (fun i hi => h i (by omega))
    obtain ⟨x, hx⟩ := h n (by omega)
    refine ⟨l ++ [x], by simp [hl], fun i hi => ?_⟩
    by_cases hi' : i < l.length
    · rw [List.getElem_append_left hi']; exact hp i hi'
    · have e : i = n := by simp at hi; omega
      subst e
      rw [List.getElem_append_right (by omega)]
      simpa [hl] using hx
/-- A slice whose elements can each be read as a thing. -/
theorem readSlice {α : Type} {t e : TypeId} {n : Nat} (hn : 1 ≤ n) (ht : Try.prog.underlying t = some (.slice e)) (hC : Try.prog.cellsOf e = n) (p : List Value → α → Prop) {base : Nat} {spare : Nat → Bool} {held : Bool}
    (he : ∀ fuel cs y, DataW.trod enc Try.prog W base spare held fuel e cs = some y → ∃ x, p cs x) {fuel : Nat} {cs : List Value} {y : DataW H × List MemPlace} (h : DataW.trod enc Try.prog W base spare held fuel t cs = some y) :
    ∃ ao cap l, cs = [.slice ao (List.length l) cap] ∧ (l.length ≤ cap ∧ cap ≤ maxLen) ∧ (l.length = 0 ∨ ∃ b off, ao = some ⟨b, off, none⟩ ∧ b < W.heap.size) ∧
      ∀ b off, ao = some ⟨b, off, none⟩ → ∀ i (hi : i < l.length), ∃ cs', p cs' l[i] ∧ cs'.length = n ∧ ∀ j (hj : j < cs'.length), W.cell? ⟨b, off + i * n + j, none⟩ = some cs'[j] := by
  rcases Deep.open_slice ht h with ⟨hcs, _⟩ | ⟨a, len', cap', m, n', D, Pl, hcs, _, hl, hm, hmm, _, hx⟩
  · exact ⟨none, 0, [], by simpa using hcs, ⟨Nat.le_refl _, Nat.zero_le _⟩, .inl rfl, fun b off e => by cases e⟩
  · rw [hC] at hx
    have hlm : len' ≤ m := by rw [hmm]; split <;> omega
    obtain ⟨l, hvl, hvp⟩ := listOf (n := len') (p := fun i (x : α) => ∃ cs', p cs' x ∧ cs'.length = n ∧ ∀ j (hj : j < cs'.length), W.cell? ((a.add (i * n)).add j) = some cs'[j]) (fun i hi => by
      obtain ⟨cs', h1, h2⟩ := hx i (by omega)
      obtain ⟨x, hp⟩ := he _ _ _ h2
      obtain ⟨_, hlen, hc⟩ := World.cells?_some h1
      exact ⟨x, cs', hp, hlen, fun j hj => (hc j (by omega)).trans (List.getElem?_eq_getElem hj)⟩)
    subst hvl
    obtain ⟨b, off, spot⟩ := a
    refine ⟨_, cap', l, hcs, ⟨hl, hm⟩, ?_, ?_⟩
    · by_cases h0 : l.length = 0
      · exact .inl h0
      · obtain ⟨cs', _, hlen, hc⟩ := hvp 0 (by omega)
        have h1 := hc 0 (by omega)
        have hspot : spot = none := by simpa [Addr.add] using World.cell?_spot h1
        subst hspot
        simp only [addOffS] at h1
        exact .inr ⟨b, off, rfl, by simpa using block_lt_of_cell h1⟩
    · intro b' off' e i hi
      cases e
      obtain ⟨cs', hp, hlen, hc⟩ := hvp i hi
      exact ⟨cs', hp, hlen, fun j hj => by have := hc j hj; simpa only [addOffS] using this⟩
theorem getD_of {α : Type} (l : List α) (d : α) (i : Nat) (h : i < l.length) : l.getD i d = l[i] := by
  rw [List.getD_eq_getElem?_getD, List.getElem?_eq_getElem h]; rfl
theorem readNums {base : Nat} {spare : Nat → Bool} {held : Bool} {fuel : Nat} {cs : List Value} {y : DataW H × List MemPlace} (h : DataW.trod enc Try.prog W base spare held fuel 23 cs = some y) :
    ∃ ao cap l, cs = [.slice ao (List.length l) cap] ∧ (l.length ≤ cap ∧ cap ≤ maxLen) ∧ IntRow W 0 W.heap.size ao l := by
  obtain ⟨ao, cap, l, rfl, hc, hb, hx⟩ := readSlice (n := 1) (Nat.le_refl _) Try.underlying23 (by kernel_rfl) (fun cs (x : Int) => cs = [.int .i64 x] ∧ inI64 x) (fun fuel cs y h => by
    obtain ⟨a, ea, _, wa⟩ := DataW.trod_int Try.underlying2 h
    exact ⟨a, ea, bounds_i64 wa⟩) h
  refine ⟨ao, cap, l, rfl, hc, fun x hx' => ?_, ?_⟩
  · obtain ⟨i, hi, rfl⟩ := List.getElem_of_mem hx'
    rcases hb with h0 | ⟨b, off, e, _⟩
    · omega
    · obtain ⟨_, hp, _⟩ := hx b off e i hi
      exact hp.2
  · rcases hb with h0 | ⟨b, off, e, hlt⟩
    · exact .inl h0
    · refine .inr ⟨b, off, e, Nat.zero_le _, hlt, fun i hi => ?_⟩
      obtain ⟨cs', ⟨rfl, _⟩, _, hcell⟩ := hx b off e i hi
      have := hcell 0 (by simp)
      rw [getD_of l 0 i hi]; simpa using this
theorem readCol {base : Nat} {spare : Nat → Bool} {held : Bool} {fuel : Nat} {cs : List Value} {y : DataW H × List MemPlace} (h : DataW.trod enc Try.prog W base spare held fuel 114 cs = some y) :
    ∃ c : Col, cs = [.string c.name, .int .i64 c.kind, .bool c.nul] ∧ inI64 c.kind ∧ c.name.size ≤ maxLen := by
  obtain ⟨y0, y1, y2, n, _, hl, h0, h1, h2⟩ := Deep.trod_struct3 Try.underlying114 h
  have hC : Try.prog.cellsOf 114 = 3 := by kernel_rfl
  rw [hC] at hl
  match cs, hl with
  | [c0, c1, c2], _ =>
    have cI : Try.prog.cellsOf 2 = 1 := by kernel_rfl
    have cS : Try.prog.cellsOf 9 = 1 := by kernel_rfl
    have cB : Try.prog.cellsOf 4 = 1 := by kernel_rfl
    have e0 : (([c0, c1, c2] : List Value).drop 0).take (Try.prog.cellsOf 9) = [c0] := by rw [cS]; rfl
    have e1 : (([c0, c1, c2] : List Value).drop 1).take (Try.prog.cellsOf 2) = [c1] := by rw [cI]; rfl
    have e2 : (([c0, c1, c2] : List Value).drop 2).take (Try.prog.cellsOf 4) = [c2] := by rw [cB]; rfl
    have h0' : DataW.trod enc Try.prog W base spare held n 9 [c0] = some y0 := by rw [← e0]; exact h0
    have h1' : DataW.trod enc Try.prog W base spare held n 2 [c1] = some y1 := by rw [← e1]; exact h1
    have h2' : DataW.trod enc Try.prog W base spare held n 4 [c2] = some y2 := by rw [← e2]; exact h2
    obtain ⟨t, et, _, wt⟩ := DataW.trod_string Try.underlying9 h0'
    obtain ⟨a, ea, _, wa⟩ := DataW.trod_int Try.underlying2 h1'
    obtain ⟨u, eu, _⟩ := DataW.trod_bool Try.underlying4 h2'
    simp only [List.cons.injEq, and_true] at ea eu et
    subst ea eu et
    exact ⟨⟨t, a, u⟩, rfl, bounds_i64 wa, wt⟩
theorem readCols {base : Nat} {spare : Nat → Bool} {held : Bool} {fuel : Nat} {cs : List Value} {y : DataW H × List MemPlace} (h : DataW.trod enc Try.prog W base spare held fuel 22 cs = some y) :
    ∃ ao cap l, cs = [.slice ao (List.length l) cap] ∧ (l.length ≤ cap ∧ cap ≤ maxLen) ∧ ColRow W 0 W.heap.size ao l := by
  obtain ⟨ao, cap, l, rfl, hc, hb, hx⟩ := readSlice (n := 3) (by omega) Try.underlying22 (by kernel_rfl) (fun cs (c : Col) => cs = [.string c.name, .int .i64 c.kind, .bool c.nul] ∧ inI64 c.kind ∧ c.name.size ≤ maxLen) (fun fuel cs y h => readCol h) h
  refine ⟨ao, cap, l, rfl, hc, fun x hx' => ?_, ?_⟩
  · obtain ⟨i, hi, rfl⟩ := List.getElem_of_mem hx'
    rcases hb with h0 | ⟨b, off, e, _⟩
    · omega
    · obtain ⟨_, hp, _⟩ := hx b off e i hi
      exact hp.2
  · rcases hb with h0 | ⟨b, off, e, hlt⟩
    · exact .inl h0
    · refine .inr ⟨b, off, e, Nat.zero_le _, hlt, fun i hi => ?_⟩
      obtain ⟨cs', ⟨rfl, _⟩, _, hcell⟩ := hx b off e i hi
      rw [getD_of l noCol i hi]
      exact ⟨by simpa using hcell 0 (by simp), by simpa using hcell 1 (by simp), by simpa using hcell 2 (by simp)⟩
theorem readIdx {base : Nat} {spare : Nat → Bool} {held : Bool} {fuel : Nat} {cs : List Value} {y : DataW H × List MemPlace} (h : DataW.trod enc Try.prog W base spare held fuel 116 cs = some y) :
    ∃ x : Idx, ∃ io cp, cs = [.slice io x.cols.length cp, .bool x.uniq] ∧ (x.cols.length ≤ cp ∧ cp ≤ maxLen) ∧ IntRow W 0 W.heap.size io x.cols := by
  obtain ⟨y0, y1, n, _, hl, h0, h1⟩ := trod_struct2 Try.underlying116 h
  have hC : Try.prog.cellsOf 116 = 2 := by kernel_rfl
  rw [hC] at hl
  match cs, hl with
  | [c0, c1], _ =>
    have cI : Try.prog.cellsOf 23 = 1 := by kernel_rfl
    have cB : Try.prog.cellsOf 4 = 1 := by kernel_rfl
    have e0 : (([c0, c1] : List Value).drop 0).take (Try.prog.cellsOf 23) = [c0] := by rw [cI]; rfl
    have e1 : (([c0, c1] : List Value).drop 1).take (Try.prog.cellsOf 4) = [c1] := by rw [cB]; rfl
    have h0' : DataW.trod enc Try.prog W base spare held n 23 [c0] = some y0 := by rw [← e0]; exact h0
    have h1' : DataW.trod enc Try.prog W base spare held n 4 [c1] = some y1 := by rw [← e1]; exact h1
    obtain ⟨io, cp, l, et, hcp, hr⟩ := readNums h0'
    obtain ⟨u, eu, _⟩ := DataW.trod_bool Try.underlying4 h1'
    simp only [List.cons.injEq, and_true] at eu et
    subst eu et
    exact ⟨⟨l, u⟩, io, cp, rfl, hcp, hr⟩
theorem readIdxs {base : Nat} {spare : Nat → Bool} {held : Bool} {fuel : Nat} {cs : List Value} {y : DataW H × List MemPlace} (h : DataW.trod enc Try.prog W base spare held fuel 24 cs = some y) :
    ∃ ao cap l, cs = [.slice ao (List.length l) cap] ∧ (l.length ≤ cap ∧ cap ≤ maxLen) ∧ IdxRow W 0 W.heap.size ao l := by
  obtain ⟨ao, cap, l, rfl, hc, hb, hx⟩ := readSlice (n := 2) (by omega) Try.underlying24 (by kernel_rfl) (fun cs (x : Idx) => ∃ io cp, cs = [.slice io x.cols.length cp, .bool x.uniq] ∧ (x.cols.length ≤ cp ∧ cp ≤ maxLen) ∧ IntRow W 0 W.heap.size io x.cols) (fun fuel cs y h => readIdx h) h
  refine ⟨ao, cap, l, rfl, hc, ?_⟩
  rcases hb with h0 | ⟨b, off, e, hlt⟩
  · exact .inl h0
  · refine .inr ⟨b, off, e, Nat.zero_le _, hlt, fun i hi => ?_⟩
    obtain ⟨cs', ⟨io, cp, rfl, hcp, hr⟩, _, hcell⟩ := hx b off e i hi
    rw [getD_of l noIdx i hi]
    exact ⟨io, cp, by simpa using hcell 0 (by simp), by simpa using hcell 1 (by simp), hcp, hr⟩
theorem rdNums {base : Nat} {v : Value} {d : DataW H} {p : List MemPlace} (hv : Value.okWide Try.prog W .any base 23 v) (h : DataW.Trod enc Try.prog W 0 (fun _ => true) true 23 v d p) : IsNums W v := by
  obtain ⟨ao, len, cap, rfl⟩ := okWide_slice Try.underlying23 hv
  obtain ⟨fuel, hf⟩ := h
  obtain ⟨ao', cap', l, hcs, hc, hr⟩ := readNums hf
  simp [Value.cells] at hcs
  obtain ⟨rfl, rfl, rfl⟩ := hcs
  exact ⟨ao, cap, l, rfl, hc, hr⟩
theorem rdSch {base : Nat} {v : Value} {d : DataW H} {p : List MemPlace} (hv : Value.okWide Try.prog W .any base 26 v) (h : DataW.Trod enc Try.prog W 0 (fun _ => true) true 26 v d p) : IsSch W v := by
  obtain ⟨fuel, hf⟩ := h
  obtain ⟨cs, rfl, _⟩ := okWide_struct Try.underlying26 hv
  obtain ⟨ys, n, _, _, hl, hlen, hx⟩ := DataW.trod_struct Try.underlying26 hf
  have hC : Try.prog.cellsOf 26 = 4 := by kernel_rfl
  rw [hC] at hl
  match ys, hlen with
  | [y0, y1, y2, y3], _ =>
    have h0 := hx 0 _ rfl
    have h1 := hx 1 _ rfl
    have h2 := hx 2 _ rfl
    have h3 := hx 3 _ rfl
    obtain ⟨c0, c1, c2, c3, hcs⟩ : ∃ c0 c1 c2 c3, cs.toList = [c0, c1, c2, c3] := by
      have hl' : cs.toList.length = 4 := by simpa [Value.cells] using hl
      match hcl : cs.toList, hl' with
      | [c0, c1, c2, c3], _ => exact ⟨c0, c1, c2, c3, rfl⟩
    have hcv : (Value.agg cs).cells.toList = [c0, c1, c2, c3] := by simpa [Value.cells] using hcs
    rw [hcv] at h0 h1 h2 h3
    have cS : Try.prog.cellsOf 9 = 1 := by kernel_rfl
    have cC : Try.prog.cellsOf 22 = 1 := by kernel_rfl
    have cN : Try.prog.cellsOf 23 = 1 := by kernel_rfl
    have cX : Try.prog.cellsOf 24 = 1 := by kernel_rfl
    have e0 : (([c0, c1, c2, c3] : List Value).drop 0).take (Try.prog.cellsOf 9) = [c0] := by rw [cS]; rfl
    have e1 : (([c0, c1, c2, c3] : List Value).drop 1).take (Try.prog.cellsOf 22) = [c1] := by rw [cC]; rfl
    have e2 : (([c0, c1, c2, c3] : List Value).drop 2).take (Try.prog.cellsOf 23) = [c2] := by rw [cN]; rfl
    have e3 : (([c0, c1, c2, c3] : List Value).drop 3).take (Try.prog.cellsOf 24) = [c3] := by rw [cX]; rfl
    have h0' : DataW.trod enc Try.prog W 0 (fun _ => true) true n 9 [c0] = some y0 := by rw [← e0]; exact h0
    have h1' : DataW.trod enc Try.prog W 0 (fun _ => true) true n 22 [c1] = some y1 := by rw [← e1]; exact h1
    have h2' : DataW.trod enc Try.prog W 0 (fun _ => true) true n 23 [c2] = some y2 := by rw [← e2]; exact h2
    have h3' : DataW.trod enc Try.prog W 0 (fun _ => true) true n 24 [c3] = some y3 := by rw [← e3]; exact h3
    obtain ⟨t, et, _, wt⟩ := DataW.trod_string Try.underlying9 h0'
    obtain ⟨ao, k1, lc, ec, hk1, hrc⟩ := readCols h1'
    obtain ⟨ko, k2, ln, en, hk2, hrn⟩ := readNums h2'
    obtain ⟨xo, k3, lx, ex, hk3, hrx⟩ := readIdxs h3'
    simp only [List.cons.injEq, and_true] at et ec en ex
    subst et ec en ex
    refine ⟨ao, k1, ko, k2, xo, k3, ⟨t, lc, ln, lx⟩, ?_, ⟨wt, Nat.le_trans hk1.1 hk1.2, hk2, Nat.le_trans hk3.1 hk3.2⟩, hrc, hrn, hrx⟩
    rw [← Array.toArray_toList (xs := cs), hcs]
end
end Go.Proofs.Ytpmaklbbkmghbaa

/-
  The law on TableNew, out of the contracts.
-/
namespace Go.Proofs.Ytpmaklbbkmghbaa
open Go.RowKit
set_option maxRecDepth 100000

theorem implTN_own (b : Nat) (a k x : Value) (us : List Value) (s : Sch) (w : World) (hw : schWide s) (h : SOwn b a k x us s w) :
    Calls Try.prog 34 #[.agg #[.string s.name, a, k, x]] w fun e w' => ∃ a' k' x' us', e = .returned (.agg #[.string (tnSch s).name, a', k', x', .slice none 0 0]) ∧ SOwn w.heap.size a' k' x' us' (tnSch s) w' ∧ Below w.heap.size w w' := by
  obtain ⟨ao, c1, ko, c2, xo, c3, rfl, rfl, rfl, hr⟩ := h.rowW hw
  exact implTableNew_own b w.heap.size ao c1 ko c2 xo c3 s w (Nat.le_refl _) hw hr
theorem rows_keepB {w w' : World} {B base n size : Nat} {t : TypeId} {v : Value} {xs : List Value} (h : w.ownsRow base t size v n xs) (hb : Below B w w') (hlt : ∀ b, v.ownBlock = some b → b < B) : w'.ownsRow base t size v n xs := by
  refine ⟨h.1, ?_⟩
  rcases h.2 with h0 | ⟨g, cap, cur, rfl, hB, hg, rest⟩
  · exact .inl h0
  · exact .inr ⟨g, cap, cur, rfl, hB, (hb.block _ (hlt g rfl)).trans hg, rest⟩
theorem sown_keepB {base B : Nat} {a k x : Value} {us : List Value} {S : Sch} {w w' : World} (h : SOwn base a k x us S w) (hb : Below B w w') (hlt : ∀ v ∈ a :: k :: x :: us, ∀ b, v.ownBlock = some b → b < B) : SOwn base a k x us S w' :=
  ⟨rows_keepB h.cols hb (hlt _ (by simp)), rows_keepB h.key hb (hlt _ (by simp)), ⟨h.idx.len, rows_keepB h.idx.row hb (hlt _ (by simp)), fun p hp => rows_keepB (h.idx.inner p hp) hb (hlt _ (by simp [(List.of_mem_zip hp).1]))⟩, h.apart⟩
theorem sown_from {base : Nat} {a k x : Value} {us : List Value} {S : Sch} {w : World} (h : SOwn base a k x us S w) : ∀ v ∈ a :: k :: x :: us, ∀ b, v.ownBlock = some b → base ≤ b := by
  intro v hv b hb
  simp only [List.mem_cons] at hv
  rcases hv with rfl | rfl | rfl | hv
  · exact (World.ownsRow.lt h.cols b hb).1
  · exact (World.ownsRow.lt h.key b hb).1
  · exact (World.ownsRow.lt h.idx.row b hb).1
  · obtain ⟨y, hy⟩ := mem_zip h.idx.len hv
    exact (World.ownsRow.lt (h.idx.inner _ hy) b hb).1
theorem sown_gl {base : Nat} {a k x : Value} {us l : List Value} {S : Sch} {w w' : World} (h : SOwn base a k x us S w) (gl : GL l w w') (hne : ∀ u ∈ a :: k :: x :: us, ∀ v ∈ l, u.ownBlock = none ∨ u.ownBlock ≠ v.ownBlock) : SOwn base a k x us S w' :=
  ⟨gl.own h.cols (hne _ (by simp)), gl.own h.key (hne _ (by simp)), ⟨h.idx.len, gl.own h.idx.row (hne _ (by simp)), fun p hp => gl.own (h.idx.inner p hp) (hne _ (by simp [(List.of_mem_zip hp).1]))⟩, h.apart⟩
/-- A new table in a variable of block g, its rows behind 'base'. -/
structure TbAt (g base : Nat) (a k x : Value) (us : List Value) (nm : ByteArray) (S : Sch) (w : World) : Prop where
  own : SOwn base a k x us S w
  at' : w.heap[g]? = some (.cells #[.string nm, a, k, x, .slice none 0 0] 58 (0, 0))
theorem TbAt.below {g base : Nat} {a k x : Value} {us : List Value} {nm : ByteArray} {S : Sch} {w w' : World} (h : TbAt g base a k x us nm S w) (hb : Below w.heap.size w w') : TbAt g base a k x us nm S w' :=
  ⟨h.own.below hb, (hb.block g (blkT h.at')).trans h.at'⟩
theorem TbAt.keepB {g base B : Nat} {a k x : Value} {us : List Value} {nm : ByteArray} {S : Sch} {w w' : World} (h : TbAt g base a k x us nm S w) (hb : Below B w w') (hg : g < B) (hlt : ∀ v ∈ a :: k :: x :: us, ∀ b, v.ownBlock = some b → b < g) : TbAt g base a k x us nm S w' :=
  ⟨sown_keepB h.own hb (fun v hv b e => Nat.lt_trans (hlt v hv b e) hg), (hb.block g hg).trans h.at'⟩
theorem TbAt.new {base : Nat} {a k x : Value} {us : List Value} {nm : ByteArray} {S : Sch} {w : World} (h : SOwn base a k x us S w) : TbAt w.heap.size base a k x us nm S (w.alloc (.cells #[.string nm, a, k, x, .slice none 0 0] 58)) :=
  ⟨h.below ((Below.refl _ _).alloc (Nat.le_refl _) _), heap_alloc_new _ _⟩
set_option maxHeartbeats 8000000 in
theorem lawTableNew (v0 : Value) (w : World) (h0 : IsSch w v0) :
    Calls Try.prog 8 #[v0] w fun e w' => e = .returned (.bool true) ∧ Below w.heap.size w w' := by
  obtain ⟨ao, c1, ko, c2, xo, c3, s, rfl, hr⟩ := h0
  have HSZ := hide (fun (W : World) (hb : Below w.heap.size w W) => szSchema_cnt 0 w.heap.size ao c1 ko c2 xo c3 s 1048576 W hb.size (hr.kept hb) (by omega) (by omega))
  have HTO := hide (fun (hf : schFits s) (W : World) (hb : Below w.heap.size w W) => toSchema_own 0 w.heap.size ao c1 ko c2 xo c3 s W hb.size hf (hr.kept hb))
  have HWD := hide (fun (hf : schFits s) => wide_of hr hf)
  have HSP := hide (fun (hw : schWide s) (b : Nat) (a k x : Value) (us : List Value) (W : World) (h : SOwn b a k x us s W) => specTN_own b a k x us s W hw h)
  have HIM := hide (fun (hw : schWide s) (b : Nat) (a k x : Value) (us : List Value) (W : World) (h : SOwn b a k x us s W) => implTN_own b a k x us s W hw h)
  have HES := hide (fun (hw : schWide s) (b1 b2 : Nat) (a k x a' k' x' : Value) (us us' : List Value) (W : World) (h : SOwn b1 a k x us s W) (h' : SOwn b2 a' k' x' us' s W) => eqSchema_wide b1 b2 a k x a' k' x' us us' s W hw h h')
  have HMS := hide (fun (hc : cntS s ≤ 5000000) (b : Nat) (a k x : Value) (us : List Value) (W : World) (h : SOwn b a k x us s W) => markSchema_cnt b a k x us s W hc h)
  have HEQ := hide (fun (hw : schWide s) (b1 b2 : Nat) (a k x a' k' x' : Value) (us us' : List Value) (W : World) => eqTable_own b1 b2 a k x a' k' x' us us' (tnSch s) W (tnSch_in hw))
  have HMK := hide (fun (hw : schWide s) (b : Nat) (a k x : Value) (us : List Value) (W : World) => markTable_own b a k x us (tnSch s) W (tnSch_in hw))
  have HHD := hide (fun (hw : schWide s) (b : Nat) (a k x : Value) (us : List Value) (W : World) => heldTable_own b a k x us (tnSch s) W (tnSch_in hw))
  have HSH := hide (fun (base : Nat) (a k x : Value) (us : List Value) (W : World) (h : SOwn base a k x us s W) => show ∃ ao p1 ko p2 xo p3, a = .slice ao s.cols.length p1 ∧ k = .slice ko s.key.length p2 ∧ x = .slice xo s.idx.length p3 from by
    obtain ⟨ao, p1, rfl⟩ := ownC_shape h.cols
    obtain ⟨ko, p2, rfl⟩ := ownN_shape h.key
    obtain ⟨xo, p3, rfl⟩ := ownX_shape h.idx
    exact ⟨ao, p1, ko, p2, xo, p3, rfl, rfl, rfl⟩)
  have HTH := hide (fun (base : Nat) (a k x : Value) (us : List Value) (W : World) (h : SOwn base a k x us (tnSch s) W) => show ∃ ao p1 ko p2 xo p3, a = .slice ao (tnSch s).cols.length p1 ∧ k = .slice ko (tnSch s).key.length p2 ∧ x = .slice xo (tnSch s).idx.length p3 from by
    obtain ⟨ao, p1, rfl⟩ := ownC_shape h.cols
    obtain ⟨ko, p2, rfl⟩ := ownN_shape h.key
    obtain ⟨xo, p3, rfl⟩ := ownX_shape h.idx
    exact ⟨ao, p1, ko, p2, xo, p3, rfl, rfl, rfl⟩)
  generalize mSch (tnSch s) = TM at *
  generalize hTN : cntS (tnSch s) = TC at *
  generalize (tnSch s).name = tm at *
  generalize (tnSch s).cols.length = t1 at *
  generalize (tnSch s).key.length = t2 at *
  generalize (tnSch s).idx.length = t3 at *
  generalize tnSch s = T at *
  clear hTN hr
  obtain ⟨SC, hSC⟩ : ∃ c, c = cntS s := ⟨_, rfl⟩
  rw [← hSC] at HSZ HMS
  generalize s.name = nm at *
  generalize s.cols.length = n1 at *
  generalize s.key.length = n2 at *
  generalize s.idx.length = n3 at *
  clear hSC
  have hnT : ¬ ((TC : Int) < 0) := by omega
  have hnS : ¬ ((SC : Int) < 0) := by omega
  have hnSd : decide ((SC : Int) < 0) = false := by simp
  have X0 := hide (heap_alloc_new w (.cells #[.string nm, .slice ao n1 c1, .slice ko n2 c2, .slice xo n3 c3] 26))
  have B0 := hide ((Below.refl w.heap.size w).alloc (Nat.le_refl _) (.cells #[.string nm, .slice ao n1 c1, .slice ko n2 c2, .slice xo n3 c3] 26))
  go_enter Try.func8, Try.ntmps8
  go_wp2_with fail
  refine (HSZ.out _ B0.out).mono ?_
  generalize w.alloc (.cells #[.string nm, .slice ao n1 c1, .slice ko n2 c2, .slice xo n3 c3] 26) = W0 at *
  rintro e w1 ⟨r, rfl, hr1, hcase, b1⟩
  have X1 := hide ((b1.block _ (blkT X0.out)).trans X0.out)
  have B1 := hide (B0.out.trans (b1.mono B0.out.size))
  clear b1 X0 B0 HSZ
  rcases hcase with hneg | ⟨hr0, hf, hcnt⟩
  · go_wp2
    go_ret
    exact ⟨rfl, B1.out⟩
  · have HT1 := hide (HTO.out hf)
    have hw := HWD.out hf
    have HS1 := hide (HSP.out hw)
    have HI1 := hide (HIM.out hw)
    have HE1 := hide (HES.out hw)
    have HQ1 := hide (HEQ.out hw)
    have HK1 := hide (HMK.out hw)
    have HD1 := hide (HHD.out hw)
    have HM1 := hide (HMS.out hcnt)
    clear HTO HSP HIM HES HEQ HMK HHD HMS HWD hf hw hcnt
    obtain ⟨x0, x1, x2, x3, xf⟩ := cells4 X1.out
    go_wp2_with fail
    refine (HT1.out _ B1.out).mono ?_
    rintro e w2 ⟨a2, k2, i2, us2, rfl, o2, b2⟩
    have X2 := hide ((b2.block _ (blkT X1.out)).trans X1.out)
    have B2 := hide (B1.out.trans (b2.mono B1.out.size))
    have O2 := hide o2
    obtain ⟨ao2, p21, ko2, p22, io2, p23, rfl, rfl, rfl⟩ := HSH.out _ _ _ _ _ _ o2
    clear b2 o2 X1 B1 x0 x1 x2 x3 xf
    obtain ⟨x0, x1, x2, x3, xf⟩ := cells4 X2.out
    go_wp2_with fail
    refine (HS1.out _ _ _ _ _ _ O2.out).mono ?_
    rintro e w3 ⟨a3, k3, i3, us3, rfl, o3, b3⟩
    obtain ⟨ao3, p31, ko3, p32, io3, p33, rfl, rfl, rfl⟩ := HTH.out _ _ _ _ _ _ o3
    have ba := (Below.refl w3.heap.size w3).alloc (Nat.le_refl _) (.cells #[.string tm, .slice ao3 t1 p31, .slice ko3 t2 p32, .slice io3 t3 p33, .slice none 0 0] 58)
    have bb := b3.trans (ba.mono b3.size)
    have X4 := hide ((bb.block _ (blkT X2.out)).trans X2.out)
    have B4 := hide (B2.out.trans (bb.mono B2.out.size))
    have R4 := hide (TbAt.new (nm := tm) o3)
    have L4 := hide o3.blocks
    have Z4 : Hid ((w3.alloc (.cells #[.string tm, .slice ao3 t1 p31, .slice ko3 t2 p32, .slice io3 t3 p33, .slice none 0 0] 58)).heap.size = w3.heap.size + 1) := by show _ = _; simp
    have Y4 : Hid (w.heap.size < w3.heap.size) := Nat.lt_of_lt_of_le (blkT X2.out) b3.size
    clear o3 b3 ba bb X2 B2 O2 HS1 x0 x1 x2 x3 xf
    go_upto_region 6 with fail
    generalize w3.alloc (.cells #[.string tm, .slice ao3 t1 p31, .slice ko3 t2 p32, .slice io3 t3 p33, .slice none 0 0] 58) = W4 at *
    generalize w3.heap.size = g4 at *
    obtain ⟨x0, x1, x2, x3, xf⟩ := cells4 X4.out
    go_wp2_with fail
    refine (HT1.out _ B4.out).mono ?_
    rintro e w5 ⟨a5, k5, i5, us5, rfl, o5, b5⟩
    obtain ⟨ao5, p51, ko5, p52, io5, p53, rfl, rfl, rfl⟩ := HSH.out _ _ _ _ _ _ o5
    have ba := (Below.refl w5.heap.size w5).alloc (Nat.le_refl _) (.cells #[.string nm, .slice ao5 n1 p51, .slice ko5 n2 p52, .slice io5 n3 p53] 32)
    have bb := b5.trans (ba.mono b5.size)
    have X6 := hide ((bb.block _ (blkT X4.out)).trans X4.out)
    have B6 := hide (B4.out.trans (bb.mono B4.out.size))
    have R6 := hide (R4.out.below bb)
    have O6 := hide (o5.below ba)
    have L6 := hide o5.blocks
    have F6 := hide (fun v hv b e => show g4 + 1 ≤ b by have := sown_from o5 v hv b e; rw [Z4.out] at this; exact this)
    have V6 := hide (heap_alloc_new w5 (.cells #[.string nm, .slice ao5 n1 p51, .slice ko5 n2 p52, .slice io5 n3 p53] 32))
    have Z6 : Hid ((w5.alloc (.cells #[.string nm, .slice ao5 n1 p51, .slice ko5 n2 p52, .slice io5 n3 p53] 32)).heap.size = w5.heap.size + 1) := by show _ = _; simp
    have Y6 : Hid (g4 + 1 ≤ w5.heap.size) := by have := b5.size; rw [Z4.out] at this; exact this
    clear o5 b5 ba bb X4 B4 R4 x0 x1 x2 x3 xf Z4
    go_upto_region 7 with fail
    generalize w5.alloc (.cells #[.string nm, .slice ao5 n1 p51, .slice ko5 n2 p52, .slice io5 n3 p53] 32) = W6 at *
    generalize w5.heap.size = g5 at *
    obtain ⟨v0, v1, v2, v3, vf⟩ := cells4 V6.out
    go_wp2_with fail
    refine (HI1.out _ _ _ _ _ _ O6.out).mono ?_
    rintro e w7 ⟨a7, k7, i7, us7, rfl, o7, b7⟩
    obtain ⟨ao7, p71, ko7, p72, io7, p73, rfl, rfl, rfl⟩ := HTH.out _ _ _ _ _ _ o7
    have ba := (Below.refl w7.heap.size w7).alloc (Nat.le_refl _) (.cells #[.string tm, .slice ao7 t1 p71, .slice ko7 t2 p72, .slice io7 t3 p73, .slice none 0 0] 58)
    have bb := b7.trans (ba.mono b7.size)
    have X8 := hide ((bb.block _ (blkT X6.out)).trans X6.out)
    have B8 := hide (B6.out.trans (bb.mono B6.out.size))
    have R8 := hide (R6.out.below bb)
    have O8 := hide (O6.out.below bb)
    have V8 := hide ((bb.block _ (blkT V6.out)).trans V6.out)
    have Q8 := hide (TbAt.new (nm := tm) o7)
    have L8 := hide o7.blocks
    have F8 := hide (fun v hv b e => show g5 + 1 ≤ b by have := sown_from o7 v hv b e; rw [Z6.out] at this; exact this)
    have Y8 : Hid (g5 + 1 ≤ w7.heap.size) := by have := b7.size; rw [Z6.out] at this; exact this
    clear o7 b7 ba bb X6 B6 R6 O6 V6 v0 v1 v2 v3 vf Z6
    go_upto_region 8 with fail
    generalize w7.alloc (.cells #[.string tm, .slice ao7 t1 p71, .slice ko7 t2 p72, .slice io7 t3 p73, .slice none 0 0] 58) = W8 at *
    generalize w7.heap.size = g6 at *
    obtain ⟨y0, y1, y2, y3, y4, yf⟩ := cells5 R8.out.at'
    obtain ⟨z0, z1, z2, z3, z4, zf⟩ := cells5 Q8.out.at'
    go_wp2_with fail
    refine (HQ1.out _ _ _ _ _ _ _ _ _ _ _ Q8.out.own R8.out.own).mono ?_
    rintro e w9 ⟨rfl, b9⟩
    have X9 := hide ((b9.block _ (blkT X8.out)).trans X8.out)
    have B9 := hide (B8.out.trans (b9.mono B8.out.size))
    have R9 := hide (R8.out.below b9)
    have O9 := hide (O8.out.below b9)
    have V9 := hide ((b9.block _ (blkT V8.out)).trans V8.out)
    have Q9 := hide (Q8.out.below b9)
    clear b9 X8 B8 R8 O8 V8 Q8 y0 y1 y2 y3 y4 yf z0 z1 z2 z3 z4 zf
    go_upto_region 10 with fail
    obtain ⟨x0, x1, x2, x3, xf⟩ := cells4 X9.out
    obtain ⟨v0, v1, v2, v3, vf⟩ := cells4 V9.out
    have BD := hide (B9.out.drew)
    have dd := (Below.refl w9.heap.size w9).drew
    have XD := hide ((dd.block _ (blkT X9.out)).trans X9.out)
    have RD := hide (R9.out.below dd)
    have OD := hide (O9.out.below dd)
    have VD := hide ((dd.block _ (blkT V9.out)).trans V9.out)
    have QD := hide (Q9.out.below dd)
    clear dd B9 X9 R9 O9 V9 Q9
    go_region_held3 (fun W => (W.cell? ⟨w.heap.size, 0, none⟩ = some (.string nm) ∧ W.cell? ⟨w.heap.size, 1, none⟩ = some (.slice ao n1 c1) ∧ W.cell? ⟨w.heap.size, 2, none⟩ = some (.slice ko n2 c2) ∧ W.cell? ⟨w.heap.size, 3, none⟩ = some (.slice xo n3 c3)) ∧ (W.cell? ⟨g5, 0, none⟩ = some (.string nm) ∧ W.cell? ⟨g5, 1, none⟩ = some (.slice ao5 n1 p51) ∧ W.cell? ⟨g5, 2, none⟩ = some (.slice ko5 n2 p52) ∧ W.cell? ⟨g5, 3, none⟩ = some (.slice io5 n3 p53))) (go_keep) (first
      | (go_at_call 11; refine (HT1.out _ BD.out).mono ?_; rintro e wa ⟨aA, kA, iA, usA, rfl, oA, bA⟩; obtain ⟨aoA, pA1, koA, pA2, ioA, pA3, rfl, rfl, rfl⟩ := HSH.out _ _ _ _ _ _ oA; have BA := hide (BD.out.trans (bA.mono BD.out.size)); have XA := hide ((bA.block _ (blkT XD.out)).trans XD.out); have RA := hide (RD.out.below bA); have OA := hide (OD.out.below bA); have VA := hide ((bA.block _ (blkT VD.out)).trans VD.out); have QA := hide (QD.out.below bA); have PA := hide oA; clear bA oA BD XD RD OD VD QD x0 x1 x2 x3 xf v0 v1 v2 v3 vf; obtain ⟨x0, x1, x2, x3, xf⟩ := cells4 XA.out; obtain ⟨v0, v1, v2, v3, vf⟩ := cells4 VA.out)
      | (go_at_call 13; refine (HE1.out _ _ _ _ _ _ _ _ _ _ _ OA.out PA.out).mono ?_; rintro e wb ⟨rfl, bB⟩; have BB := hide (BA.out.trans (bB.mono BA.out.size)); have XB := hide ((bB.block _ (blkT XA.out)).trans XA.out); have RB := hide (RA.out.below bB); have OB := hide (OA.out.below bB); have VB := hide ((bB.block _ (blkT VA.out)).trans VA.out); have QB := hide (QA.out.below bB); clear bB BA XA RA OA VA QA PA x0 x1 x2 x3 xf v0 v1 v2 v3 vf; obtain ⟨x0, x1, x2, x3, xf⟩ := cells4 XB.out; obtain ⟨v0, v1, v2, v3, vf⟩ := cells4 VB.out))
    all_goals
      go_wp2_with fail
      refine (HM1.out _ _ _ _ _ _ OB.out).mono ?_
      rintro e wc ⟨rfl, oC, gl⟩
      have hb4 : Below (g4 + 1) wb wc := gl.below (fun v hv b e => F6.out v hv b e) (by have := QB.out.at'; have := blkT this; have := Y6.out; have := Y8.out; omega)
      have XC := hide ((hb4.block _ (by have := Y4.out; omega)).trans XB.out)
      have BC := hide (BB.out.trans (hb4.mono (by have := Y4.out; omega)))
      have RC := hide (RB.out.keepB hb4 (Nat.lt_succ_self _) L4.out)
      have QC : Hid (TbAt g6 _ (.slice ao7 t1 p71) (.slice ko7 t2 p72) (.slice io7 t3 p73) us7 tm T wc) := ⟨sown_gl QB.out.own gl (fun u hu v hv => by
          cases hub : u.ownBlock with
          | none => exact .inl rfl
          | some b => refine .inr (fun e => ?_); have h1 := F8.out u hu b hub; have h2 := L6.out v hv b e.symm; omega),
        (gl.block g6 (blkT QB.out.at') (fun v hv e => by have h2 := L6.out v hv g6 (by first | exact e | exact e.symm); have := Y8.out; omega)).trans QB.out.at'⟩
      clear oC gl hb4 XB BB RB OB VB QB x0 x1 x2 x3 xf v0 v1 v2 v3 vf HM1 HE1
      obtain ⟨y0, y1, y2, y3, y4, yf⟩ := cells5 RC.out.at'
      obtain ⟨z0, z1, z2, z3, z4, zf⟩ := cells5 QC.out.at'
      go_upto_region 17 with (go_at_call 35; refine (HQ1.out _ _ _ _ _ _ _ _ _ _ _ QC.out.own RC.out.own).mono ?_; rintro e wd ⟨rfl, bD⟩; have XE := hide ((bD.block _ (blkT XC.out)).trans XC.out); have BE := hide (BC.out.trans (bD.mono BC.out.size)); have RE := hide (RC.out.below bD); have QE := hide (QC.out.below bD); clear bD XC BC RC QC y0 y1 y2 y3 y4 yf z0 z1 z2 z3 z4 zf)
      obtain ⟨z0, z1, z2, z3, z4, zf⟩ := cells5 QE.out.at'
      go_wp2_with fail
      refine (HK1.out _ _ _ _ _ _ QE.out.own).mono ?_
      rintro e we ⟨rfl, oF, gl⟩
      have hb5 : Below (g5 + 1) wd we := gl.below (fun v hv b e => F8.out v hv b e) (by have := blkT QE.out.at'; have := Y8.out; omega)
      have XF := hide ((hb5.block _ (by have := Y4.out; have := Y6.out; omega)).trans XE.out)
      have BF := hide (BE.out.trans (hb5.mono (by have := Y4.out; have := Y6.out; omega)))
      have RF := hide (RE.out.keepB hb5 (by have := Y6.out; omega) L4.out)
      have QF : Hid (TbAt g6 _ (.slice ao7 t1 p71) (.slice ko7 t2 p72) (.slice io7 t3 p73) us7 tm TM we) := ⟨oF, (gl.block g6 (blkT QE.out.at') (fun v hv e => Nat.lt_irrefl _ (L8.out v hv g6 (by first | exact e | exact e.symm)))).trans QE.out.at'⟩
      clear oF gl hb5 XE BE RE QE z0 z1 z2 z3 z4 zf HK1
      obtain ⟨z0, z1, z2, z3, z4, zf⟩ := cells5 QF.out.at'
      go_wp2_with fail
      refine (HD1.out _ _ _ _ _ _ QF.out.own).mono ?_
      rintro e wf ⟨rfl, bG⟩
      have XG := hide ((bG.block _ (blkT XF.out)).trans XF.out)
      have BG := hide (BF.out.trans (bG.mono BF.out.size))
      have RG := hide (RF.out.below bG)
      have QG := hide (QF.out.below bG)
      clear bG XF BF RF QF z0 z1 z2 z3 z4 zf
      go_upto_region 24 with fail
      obtain ⟨x0, x1, x2, x3, xf⟩ := cells4 XG.out
      go_wp2_with fail
      refine (HT1.out _ BG.out).mono ?_
      rintro e wh ⟨aH, kH, iH, usH, rfl, oH, bH⟩
      obtain ⟨aoH, pH1, koH, pH2, ioH, pH3, rfl, rfl, rfl⟩ := HSH.out _ _ _ _ _ _ oH
      have BH := hide (BG.out.trans (bH.mono BG.out.size))
      have RH := hide (RG.out.below bH)
      have QH := hide (QG.out.below bH)
      have OH := hide oH
      clear oH bH XG BG RG QG x0 x1 x2 x3 xf
      go_wp2_with fail
      refine (HI1.out _ _ _ _ _ _ OH.out).mono ?_
      rintro e wi ⟨aI, kI, iI, usI, rfl, oI, bI⟩
      obtain ⟨aoI, pI1, koI, pI2, ioI, pI3, rfl, rfl, rfl⟩ := HTH.out _ _ _ _ _ _ oI
      have ba := (Below.refl wi.heap.size wi).alloc (Nat.le_refl _) (.cells #[.string tm, .slice aoI t1 pI1, .slice koI t2 pI2, .slice ioI t3 pI3, .slice none 0 0] 58)
      have bb := bI.trans (ba.mono bI.size)
      have BI := hide (BH.out.trans (bb.mono BH.out.size))
      have RI := hide (RH.out.below bb)
      have QI := hide (QH.out.below bb)
      have NI := hide (TbAt.new (nm := tm) oI)
      clear oI bI ba bb BH RH QH OH
      go_upto_region 25 with fail
      generalize wi.alloc (.cells #[.string tm, .slice aoI t1 pI1, .slice koI t2 pI2, .slice ioI t3 pI3, .slice none 0 0] 58) = WI at *
      generalize wi.heap.size = g10 at *
      obtain ⟨y0, y1, y2, y3, y4, yf⟩ := cells5 RI.out.at'
      obtain ⟨z0, z1, z2, z3, z4, zf⟩ := cells5 NI.out.at'
      go_wp2_with fail
      refine (HQ1.out _ _ _ _ _ _ _ _ _ _ _ NI.out.own RI.out.own).mono ?_
      rintro e wj ⟨rfl, bJ⟩
      have BJ := hide (BI.out.trans (bJ.mono BI.out.size))
      have QJ := hide (QI.out.below bJ)
      clear bJ BI RI QI NI y0 y1 y2 y3 y4 yf z0 z1 z2 z3 z4 zf
      obtain ⟨z0, z1, z2, z3, z4, zf⟩ := cells5 QJ.out.at'
      go_wp2_with fail
      refine (HD1.out _ _ _ _ _ _ QJ.out.own).mono ?_
      rintro e wk ⟨rfl, bK⟩
      have BK := hide (BJ.out.trans (bK.mono BJ.out.size))
      clear bK BJ QJ z0 z1 z2 z3 z4 zf
      go_wp2
      go_ret
      exact ⟨rfl, BK.out⟩
end Go.Proofs.Ytpmaklbbkmghbaa
