/-
  Contracts and plain laws, part 7 of 9: TbNew, SMark2, SEq, RdC3, GetNumS, GetTextS
-/
import Derived.Deep.RegionHeld3
import Derived.Deep.DrawnRows
import Derived.Test.YtpmaklbbkmghbaaPf

/-
  Contracts: new tables, of the program and of the specification.
-/
namespace Go.Proofs.Ytpmaklbbkmghbaa
open Go.RowKit
set_option maxRecDepth 100000

theorem blkT {W : World} {g : Nat} {o : Obj} (h : W.heap[g]? = some o) : g < W.heap.size := (Array.getElem?_eq_some_iff.1 h).1
theorem set5T {W : World} {g : Nat} {a b c d e x y z u v : Value} {t : TypeId} (h : W.heap[g]? = some (.cells #[a, b, c, d, e] t (0, 0))) :
    (((((W.setCell ⟨g, 0, none⟩ x).setCell ⟨g, 1, none⟩ y).setCell ⟨g, 2, none⟩ z).setCell ⟨g, 3, none⟩ u).setCell ⟨g, 4, none⟩ v).heap[g]? = some (.cells #[x, y, z, u, v] t (0, 0)) := by
  have h1 := heap_setCell_same W g 0 _ t x h
  have h2 := heap_setCell_same _ g 1 _ t y h1
  have h3 := heap_setCell_same _ g 2 _ t z h2
  have h4 := heap_setCell_same _ g 3 _ t u h3
  have h5 := heap_setCell_same _ g 4 _ t v h4
  simpa using h5
theorem resTb {fn : Func} {p : Tmp} (h : fn.results = #[.cell p 58]) (tmps : Array Value) (w : World) (g : Nat) (a b c d e : Value) (hp : tmps.getD p undef = .pointer (some ⟨g, 0, none⟩))
    (hg : w.heap[g]? = some (.cells #[a, b, c, d, e] 58 (0, 0))) : (results fn tmps).run Try.prog w = .ok (.agg #[a, b, c, d, e]) w :=
  results_cell_row h tmps w g 58 #[a, b, c, d, e] (0, 0) _ hp hg Try.underlying58 rfl (by kernel_rfl)
set_option maxHeartbeats 4000000 in
theorem implTableNew_own (A B : Nat) (ao : Option Addr) (c1 : Nat) (ko : Option Addr) (c2 : Nat) (xo : Option Addr) (c3 : Nat) (s : Sch) (w : World) (hB : B ≤ w.heap.size) (hw : schWide s) (hr : SchRow w A B ao ko xo c2 s) :
    Calls Try.prog 34 #[.agg #[.string s.name, .slice ao s.cols.length c1, .slice ko s.key.length c2, .slice xo s.idx.length c3]] w fun e w' =>
      ∃ a k x us, e = .returned (.agg #[.string (tnSch s).name, a, k, x, .slice none 0 0]) ∧ SOwn w.heap.size a k x us (tnSch s) w' ∧ Below w.heap.size w w' := by
  have HSR := hide (fun (W : World) (hb : Below w.heap.size w W) => implSchemaRight_any A B ao c1 ko c2 xo c3 s W (Nat.le_trans hB hb.size) (hr.kept (hb.mono hB)))
  have HCP := hide (fun (hs : schRight s = true) (W : World) (hb : Below w.heap.size w W) => copySchema_own A B ao c1 ko c2 xo c3 s W (Nat.le_trans hB hb.size) hw.fits (hr.kept (hb.mono hB)))
  have HYES := hide (fun (hs : schRight s = true) => show tnSch s = s from if_pos hs)
  have HNO := hide (fun (hs : ¬ schRight s = true) => show tnSch s = noSch from if_neg hs)
  by_cases hs : schRight s = true
  · have HCQ := hide (HCP.out hs)
    rw [HYES.out hs]
    rw [hs] at HSR
    clear HYES HNO HCP hr hw hs hB
    obtain ⟨n1, hn1⟩ : ∃ n, n = s.cols.length := ⟨_, rfl⟩
    obtain ⟨n2, hn2⟩ : ∃ n, n = s.key.length := ⟨_, rfl⟩
    obtain ⟨n3, hn3⟩ : ∃ n, n = s.idx.length := ⟨_, rfl⟩
    obtain ⟨nm, hnm⟩ : ∃ n, n = s.name := ⟨_, rfl⟩
    rw [← hn1, ← hn2, ← hn3, ← hnm] at HSR HCQ ⊢
    clear hn1 hn2 hn3 hnm
    have HA := two_allocs w (.cells #[.string nm, .slice ao n1 c1, .slice ko n2 c2, .slice xo n3 c3] 32) (.cells #[.string ⟨#[]⟩, .slice none 0 0, .slice none 0 0, .slice none 0 0, .slice none 0 0] 58)
    have B0 := hide (((Below.refl w.heap.size w).alloc (Nat.le_refl _) (.cells #[.string nm, .slice ao n1 c1, .slice ko n2 c2, .slice xo n3 c3] 32)).alloc (by simp) (.cells #[.string ⟨#[]⟩, .slice none 0 0, .slice none 0 0, .slice none 0 0, .slice none 0 0] 58))
    have X0 := hide HA.1
    have Y0 := hide HA.2.1
    clear HA
    go_enter Try.func34, Try.ntmps34
    go_wp2_with fail
    refine (HSR.out _ B0.out).mono ?_
    generalize (w.alloc (.cells #[.string nm, .slice ao n1 c1, .slice ko n2 c2, .slice xo n3 c3] 32)).alloc (.cells #[.string ⟨#[]⟩, .slice none 0 0, .slice none 0 0, .slice none 0 0, .slice none 0 0] 58) = W0 at *
    rintro e w1 ⟨rfl, b1⟩
    have X1 := hide ((b1.block _ (blkT X0.out)).trans X0.out)
    have Y1 := hide ((b1.block _ (blkT Y0.out)).trans Y0.out)
    have B1 := hide (B0.out.trans (b1.mono B0.out.size))
    have Z1 := hide (blkT Y1.out)
    clear b1 X0 Y0 B0 HSR
    obtain ⟨x0, x1, x2, x3, xf⟩ := cells4 X1.out
    go_wp2_with fail
    refine (HCQ.out _ B1.out).mono ?_
    rintro e w2 ⟨a, k, x, us, rfl, o2, b2⟩
    obtain ⟨ao2, p1, hp1⟩ := ownC_shape o2.cols
    obtain ⟨ko2, p2, hp2⟩ := ownN_shape o2.key
    obtain ⟨xo2, p3, hp3⟩ := ownX_shape o2.idx
    generalize s.cols.length = m1 at hp1
    generalize s.key.length = m2 at hp2
    generalize s.idx.length = m3 at hp3
    subst hp1 hp2 hp3
    have Y2 := hide ((b2.block _ (blkT Y1.out)).trans Y1.out)
    have B2 := hide (B1.out.trans (b2.mono B1.out.size))
    have O2 := hide o2
    clear b2 o2 X1 Y1 B1 HCQ x0 x1 x2 x3 xf
    obtain ⟨y0, y1, y2, y3, y4, yf⟩ := cells5 Y2.out
    go_wp2
    refine bodyPost_ret (v := .agg #[.string nm, _, _, _, .slice none 0 0]) (resTb Try.results34 _ _ (w.heap.size + 1) _ _ _ _ _ rfl (set5T Y2.out)) rfl ⟨_, _, _, us, rfl, ?_, ?_⟩
    · exact (((((O2.out.set Z1.out).set Z1.out).set Z1.out).set Z1.out).set Z1.out).base (Nat.le_of_lt (Nat.lt_of_succ_lt Z1.out))
    · exact ((((B2.out.setCell (by simp) _).setCell (by simp) _).setCell (by simp) _).setCell (by simp) _).setCell (by simp) _
  · rw [HNO.out hs]
    have hsf : schRight s = false := by simpa using hs
    rw [hsf] at HSR
    clear HYES HNO HCP hr hw hs hB hsf
    obtain ⟨n1, hn1⟩ : ∃ n, n = s.cols.length := ⟨_, rfl⟩
    obtain ⟨n2, hn2⟩ : ∃ n, n = s.key.length := ⟨_, rfl⟩
    obtain ⟨n3, hn3⟩ : ∃ n, n = s.idx.length := ⟨_, rfl⟩
    obtain ⟨nm, hnm⟩ : ∃ n, n = s.name := ⟨_, rfl⟩
    rw [← hn1, ← hn2, ← hn3, ← hnm] at HSR ⊢
    clear hn1 hn2 hn3 hnm
    have HA := two_allocs w (.cells #[.string nm, .slice ao n1 c1, .slice ko n2 c2, .slice xo n3 c3] 32) (.cells #[.string ⟨#[]⟩, .slice none 0 0, .slice none 0 0, .slice none 0 0, .slice none 0 0] 58)
    have B0 := hide (((Below.refl w.heap.size w).alloc (Nat.le_refl _) (.cells #[.string nm, .slice ao n1 c1, .slice ko n2 c2, .slice xo n3 c3] 32)).alloc (by simp) (.cells #[.string ⟨#[]⟩, .slice none 0 0, .slice none 0 0, .slice none 0 0, .slice none 0 0] 58))
    have Y0 := hide HA.2.1
    clear HA
    go_enter Try.func34, Try.ntmps34
    go_wp2_with fail
    refine (HSR.out _ B0.out).mono ?_
    generalize (w.alloc (.cells #[.string nm, .slice ao n1 c1, .slice ko n2 c2, .slice xo n3 c3] 32)).alloc (.cells #[.string ⟨#[]⟩, .slice none 0 0, .slice none 0 0, .slice none 0 0, .slice none 0 0] 58) = W0 at *
    rintro e w1 ⟨rfl, b1⟩
    have Y1 := hide ((b1.block _ (blkT Y0.out)).trans Y0.out)
    have B1 := hide (B0.out.trans (b1.mono B0.out.size))
    clear b1 Y0 B0 HSR
    obtain ⟨y0, y1, y2, y3, y4, yf⟩ := cells5 Y1.out
    go_wp2
    refine bodyPost_ret (v := .agg #[.string ⟨#[]⟩, .slice none 0 0, .slice none 0 0, .slice none 0 0, .slice none 0 0]) (resTb Try.results34 _ _ (w.heap.size + 1) _ _ _ _ _ rfl (set5T Y1.out)) rfl ⟨_, _, _, [], rfl, noSch_own _ _, ?_⟩
    exact ((((B1.out.setCell (by simp) _).setCell (by simp) _).setCell (by simp) _).setCell (by simp) _).setCell (by simp) _
set_option maxHeartbeats 4000000 in
theorem specTN_own (b : Nat) (a k x : Value) (us : List Value) (s : Sch) (w : World) (hw : schWide s) (h : SOwn b a k x us s w) :
    Calls Try.prog 33 #[.agg #[.string s.name, a, k, x]] w fun e w' => ∃ a' k' x' us', e = .returned (.agg #[.string (tnSch s).name, a', k', x', .slice none 0 0]) ∧ SOwn w.heap.size a' k' x' us' (tnSch s) w' ∧ Below w.heap.size w w' := by
  obtain ⟨ao, c1, ko, c2, xo, c3, rfl, rfl, rfl, hr⟩ := h.rowW hw
  have HSR := hide (fun (W : World) (hb : Below w.heap.size w W) => specSchemaRight_any b w.heap.size ao c1 ko c2 xo c3 s W hb.size (hr.kept hb))
  have HCP := hide (fun (_ : schRight s = true) (W : World) (hb : Below w.heap.size w W) => l05Copy_own b _ _ _ us s W hw.fits (h.below hb))
  have HYES := hide (fun (hs : schRight s = true) => show tnSch s = s from if_pos hs)
  have HNO := hide (fun (hs : ¬ schRight s = true) => show tnSch s = noSch from if_neg hs)
  by_cases hs : schRight s = true
  · have HCQ := hide (HCP.out hs)
    rw [HYES.out hs]
    rw [hs] at HSR
    clear HYES HNO HCP hr hw hs h
    obtain ⟨n1, hn1⟩ : ∃ n, n = s.cols.length := ⟨_, rfl⟩
    obtain ⟨n2, hn2⟩ : ∃ n, n = s.key.length := ⟨_, rfl⟩
    obtain ⟨n3, hn3⟩ : ∃ n, n = s.idx.length := ⟨_, rfl⟩
    obtain ⟨nm, hnm⟩ : ∃ n, n = s.name := ⟨_, rfl⟩
    rw [← hn1, ← hn2, ← hn3, ← hnm] at HSR HCQ ⊢
    clear hn1 hn2 hn3 hnm
    have HA := two_allocs w (.cells #[.string nm, .slice ao n1 c1, .slice ko n2 c2, .slice xo n3 c3] 32) (.cells #[.string ⟨#[]⟩, .slice none 0 0, .slice none 0 0, .slice none 0 0, .slice none 0 0] 58)
    have B0 := hide (((Below.refl w.heap.size w).alloc (Nat.le_refl _) (.cells #[.string nm, .slice ao n1 c1, .slice ko n2 c2, .slice xo n3 c3] 32)).alloc (by simp) (.cells #[.string ⟨#[]⟩, .slice none 0 0, .slice none 0 0, .slice none 0 0, .slice none 0 0] 58))
    have X0 := hide HA.1
    have Y0 := hide HA.2.1
    clear HA
    go_enter Try.func33, Try.ntmps33
    go_wp2_with fail
    refine (HSR.out _ B0.out).mono ?_
    generalize (w.alloc (.cells #[.string nm, .slice ao n1 c1, .slice ko n2 c2, .slice xo n3 c3] 32)).alloc (.cells #[.string ⟨#[]⟩, .slice none 0 0, .slice none 0 0, .slice none 0 0, .slice none 0 0] 58) = W0 at *
    rintro e w1 ⟨rfl, b1⟩
    have X1 := hide ((b1.block _ (blkT X0.out)).trans X0.out)
    have Y1 := hide ((b1.block _ (blkT Y0.out)).trans Y0.out)
    have B1 := hide (B0.out.trans (b1.mono B0.out.size))
    have Z1 := hide (blkT Y1.out)
    clear b1 X0 Y0 B0 HSR
    obtain ⟨x0, x1, x2, x3, xf⟩ := cells4 X1.out
    go_wp2_with fail
    refine (HCQ.out _ B1.out).mono ?_
    rintro e w2 ⟨a, k, x, us', rfl, o2, b2⟩
    obtain ⟨ao2, p1, hp1⟩ := ownC_shape o2.cols
    obtain ⟨ko2, p2, hp2⟩ := ownN_shape o2.key
    obtain ⟨xo2, p3, hp3⟩ := ownX_shape o2.idx
    generalize s.cols.length = m1 at hp1
    generalize s.key.length = m2 at hp2
    generalize s.idx.length = m3 at hp3
    subst hp1 hp2 hp3
    have Y2 := hide ((b2.block _ (blkT Y1.out)).trans Y1.out)
    have B2 := hide (B1.out.trans (b2.mono B1.out.size))
    have O2 := hide o2
    clear b2 o2 X1 Y1 B1 HCQ x0 x1 x2 x3 xf
    obtain ⟨y0, y1, y2, y3, y4, yf⟩ := cells5 Y2.out
    go_wp2
    refine bodyPost_ret (v := .agg #[.string nm, _, _, _, .slice none 0 0]) (resTb Try.results33 _ _ (w.heap.size + 1) _ _ _ _ _ rfl (set5T Y2.out)) rfl ⟨_, _, _, us', rfl, ?_, ?_⟩
    · exact (((((O2.out.set Z1.out).set Z1.out).set Z1.out).set Z1.out).set Z1.out).base (Nat.le_of_lt (Nat.lt_of_succ_lt Z1.out))
    · exact ((((B2.out.setCell (by simp) _).setCell (by simp) _).setCell (by simp) _).setCell (by simp) _).setCell (by simp) _
  · rw [HNO.out hs]
    have hsf : schRight s = false := by simpa using hs
    rw [hsf] at HSR
    clear HYES HNO HCP hr hw hs h hsf
    obtain ⟨n1, hn1⟩ : ∃ n, n = s.cols.length := ⟨_, rfl⟩
    obtain ⟨n2, hn2⟩ : ∃ n, n = s.key.length := ⟨_, rfl⟩
    obtain ⟨n3, hn3⟩ : ∃ n, n = s.idx.length := ⟨_, rfl⟩
    obtain ⟨nm, hnm⟩ : ∃ n, n = s.name := ⟨_, rfl⟩
    rw [← hn1, ← hn2, ← hn3, ← hnm] at HSR ⊢
    clear hn1 hn2 hn3 hnm
    have HA := two_allocs w (.cells #[.string nm, .slice ao n1 c1, .slice ko n2 c2, .slice xo n3 c3] 32) (.cells #[.string ⟨#[]⟩, .slice none 0 0, .slice none 0 0, .slice none 0 0, .slice none 0 0] 58)
    have B0 := hide (((Below.refl w.heap.size w).alloc (Nat.le_refl _) (.cells #[.string nm, .slice ao n1 c1, .slice ko n2 c2, .slice xo n3 c3] 32)).alloc (by simp) (.cells #[.string ⟨#[]⟩, .slice none 0 0, .slice none 0 0, .slice none 0 0, .slice none 0 0] 58))
    have Y0 := hide HA.2.1
    clear HA
    go_enter Try.func33, Try.ntmps33
    go_wp2_with fail
    refine (HSR.out _ B0.out).mono ?_
    generalize (w.alloc (.cells #[.string nm, .slice ao n1 c1, .slice ko n2 c2, .slice xo n3 c3] 32)).alloc (.cells #[.string ⟨#[]⟩, .slice none 0 0, .slice none 0 0, .slice none 0 0, .slice none 0 0] 58) = W0 at *
    rintro e w1 ⟨rfl, b1⟩
    have Y1 := hide ((b1.block _ (blkT Y0.out)).trans Y0.out)
    have B1 := hide (B0.out.trans (b1.mono B0.out.size))
    clear b1 Y0 B0 HSR
    obtain ⟨y0, y1, y2, y3, y4, yf⟩ := cells5 Y1.out
    go_wp2
    refine bodyPost_ret (v := .agg #[.string ⟨#[]⟩, .slice none 0 0, .slice none 0 0, .slice none 0 0, .slice none 0 0]) (resTb Try.results33 _ _ (w.heap.size + 1) _ _ _ _ _ rfl (set5T Y1.out)) rfl ⟨_, _, _, [], rfl, noSch_own _ _, ?_⟩
    exact ((((B1.out.setCell (by simp) _).setCell (by simp) _).setCell (by simp) _).setCell (by simp) _).setCell (by simp) _
end Go.Proofs.Ytpmaklbbkmghbaa

/-
  Contracts: marks are written into a schema's indexes, and read again.
-/
namespace Go.Proofs.Ytpmaklbbkmghbaa
open Go.RowKit
set_option maxRecDepth 100000

def mI (q : Nat) (x : Idx) : Idx := ⟨mNums q x.cols.length, decide (((q + x.cols.length : Nat) : Int) % 3 = 0)⟩
def nI : List Idx → Nat
  | [] => 0
  | x :: r => x.cols.length + 1 + nI r
def mIdx (q : Nat) : List Idx → List Idx
  | [] => []
  | x :: r => mI q x :: mIdx (q + (x.cols.length + 1)) r
theorem mIdx_len : ∀ (xs : List Idx) (q : Nat), (mIdx q xs).length = xs.length
  | [], _ => rfl
  | x :: r, q => by simp [mIdx, mIdx_len r]
theorem nI_snoc : ∀ (a : List Idx) (x : Idx), nI (a ++ [x]) = nI a + (x.cols.length + 1)
  | [], x => by simp [nI]
  | y :: r, x => by simp [nI, nI_snoc r x]; omega
theorem mIdx_snoc : ∀ (a : List Idx) (q : Nat) (x : Idx), mIdx q (a ++ [x]) = mIdx q a ++ [mI (q + nI a) x]
  | [], q, x => by simp [mIdx, nI]
  | y :: r, q, x => by simp [mIdx, nI, mIdx_snoc r, Nat.add_assoc]
theorem nI_le : ∀ (xs : List Idx), (∀ x ∈ xs, x.cols.length ≤ 10) → nI xs ≤ 11 * xs.length
  | [], _ => by simp [nI]
  | x :: r, h => by
    have h1 := nI_le r (fun y hy => h y (by simp [hy]))
    have h2 := h x (by simp)
    simp only [nI, List.length_cons]; omega
theorem mIdx_get : ∀ (xs : List Idx) (q i : Nat), i < xs.length → (mIdx q xs).getD i noIdx = mI (q + nI (xs.take i)) (xs.getD i noIdx)
  | [], q, i, h => by simp at h
  | x :: r, q, 0, h => by simp [mIdx, nI]
  | x :: r, q, i + 1, h => by
    have := mIdx_get r (q + (x.cols.length + 1)) i (by simpa using h)
    simp only [mIdx, List.getD_cons_succ, List.take_succ_cons, nI]
    rw [this, show q + (x.cols.length + 1) + nI (r.take i) = q + (x.cols.length + 1 + nI (r.take i)) by omega]
/-- The first i indexes are marked. -/
def mid (q i : Nat) (xs : List Idx) : List Idx := mIdx q (xs.take i) ++ xs.drop i
theorem mid_zero (q : Nat) (xs : List Idx) : mid q 0 xs = xs := by simp [mid, mIdx]
theorem mid_all (q : Nat) (xs : List Idx) : mid q xs.length xs = mIdx q xs := by simp [mid]
theorem mid_len (q i : Nat) (xs : List Idx) (h : i ≤ xs.length) : (mid q i xs).length = xs.length := by simp [mid, mIdx_len]; omega
theorem take_snocX (xs : List Idx) (i : Nat) (h : i < xs.length) : xs.take (i + 1) = xs.take i ++ [xs.getD i noIdx] := by
  rw [List.take_succ_eq_append_getElem h, List.getD_eq_getElem?_getD, List.getElem?_eq_getElem h]; rfl
theorem mid_succ (q i : Nat) (xs : List Idx) (h : i < xs.length) : mid q (i + 1) xs = (mid q i xs).set i (mI (q + nI (xs.take i)) (xs.getD i noIdx)) := by
  unfold mid
  rw [take_snocX xs i h, mIdx_snoc, List.set_append_right _ _ (by rw [mIdx_len]; simp; omega), mIdx_len]
  rw [show i - (xs.take i).length = 0 by simp; omega]
  have hd : xs.drop i = xs.getD i noIdx :: xs.drop (i + 1) := by rw [List.drop_eq_getElem_cons h, List.getD_eq_getElem?_getD, List.getElem?_eq_getElem h]; rfl
  rw [hd]
  simp only [List.set_cons_zero, List.append_assoc, List.cons_append, List.nil_append]
theorem mid_at (q i : Nat) (xs : List Idx) (h : i < xs.length) : (mid q i xs).getD i noIdx = xs.getD i noIdx := by
  unfold mid
  rw [List.getD_eq_getElem?_getD, List.getElem?_append_right (by rw [mIdx_len]; simp; omega), mIdx_len, show i - (xs.take i).length = 0 by simp; omega, List.getElem?_drop, List.getD_eq_getElem?_getD]
  rfl
theorem flatX_set : ∀ (us : List Value) (ys : List Idx) (i : Nat) (y : Idx), us.length = ys.length → i < ys.length → flatX us (ys.set i y) = (flatX us ys).set (i * 2 + 1) (.bool y.uniq)
  | [], ys, i, y, h, hi => by simp at h; omega
  | u :: us, [], i, y, h, hi => by simp at h
  | u :: us, x :: ys, 0, y, h, hi => by simp [flatX]
  | u :: us, x :: ys, i + 1, y, h, hi => by
    have ih := flatX_set us ys i y (by simpa using h) (by simpa using hi)
    have e : ∀ z zs, flatX (u :: us) (z :: zs) = u :: .bool z.uniq :: flatX us zs := fun z zs => by simp [flatX]
    rw [List.set_cons_succ, e, e, ih, show (i + 1) * 2 + 1 = i * 2 + 1 + 1 + 1 by omega, List.set_cons_succ, List.set_cons_succ]
theorem apart_head {v : Value} {us : List Value} (h : Apart (v :: us)) : ∀ u ∈ us, v.ownBlock = none ∨ v.ownBlock ≠ u.ownBlock := by
  unfold Apart at h
  rw [List.pairwise_cons] at h
  exact h.1
theorem ne_symm {a b : Value} (h : a.ownBlock = none ∨ a.ownBlock ≠ b.ownBlock) : b.ownBlock = none ∨ b.ownBlock ≠ a.ownBlock := by
  rcases h with h | h
  · cases hb : b.ownBlock with
    | none => exact .inl rfl
    | some x => rw [h]; exact .inr (by simp)
  · exact .inr (fun e => h e.symm)
theorem apart_two {us : List Value} (h : Apart us) {i j : Nat} {u v : Value} (hi : us[i]? = some u) (hj : us[j]? = some v) (hne : i ≠ j) : u.ownBlock = none ∨ u.ownBlock ≠ v.ownBlock := by
  unfold Apart at h
  obtain ⟨hi1, hi2⟩ := List.getElem?_eq_some_iff.1 hi
  obtain ⟨hj1, hj2⟩ := List.getElem?_eq_some_iff.1 hj
  rcases Nat.lt_or_gt_of_ne hne with hl | hl
  · have := List.pairwise_iff_getElem.1 h i j hi1 hj1 hl
    rw [hi2, hj2] at this; exact this
  · have := List.pairwise_iff_getElem.1 h j i hj1 hi1 hl
    rw [hi2, hj2] at this; exact ne_symm this
theorem OwnX.setI {base g n cap i : Nat} {us : List Value} {ys : List Idx} {u : Value} {c : List Int} {b : Bool} {w w1 : World} (h : OwnX base (.slice (some ⟨g, 0, none⟩) n cap) us ys w) (hap : Apart (.slice (some ⟨g, 0, none⟩) n cap :: us)) (hu : us[i]? = some u) (hi : i < ys.length)
    (hg : w.grownBy w1 u.ownBlock) (ho : OwnN base u c w1) : OwnX base (.slice (some ⟨g, 0, none⟩) n cap) us (ys.set i ⟨c, b⟩) (w1.setCell ⟨g, i * 2 + 1, none⟩ (.bool b)) := by
  have hum : u ∈ us := List.mem_of_getElem? hu
  have hvu := apart_head hap u hum
  have hset : w1.grownBy (w1.setCell ⟨g, i * 2 + 1, none⟩ (.bool b)) (some g) := grown_setG (grown_refl w1 (some g))
  have hapu : Apart us := by unfold Apart at hap ⊢; rw [List.pairwise_cons] at hap; exact hap.2
  have hng : ∀ v ∈ us, v.ownBlock = none ∨ v.ownBlock ≠ some g := fun v hv => ne_symm (apart_head hap v hv)
  refine ⟨by rw [List.length_set]; exact h.len, ?_, fun p hp => ?_⟩
  · have hr := World.ownsRow.kept h.row hg hvu
    rcases hr.2 with ⟨h0, _⟩ | ⟨q, cp, cur, e, hB, hq, hn', hm, hs, hc⟩
    · simp at h0
    · simp only [Value.slice.injEq, Option.some.injEq, Addr.mk.injEq, and_true] at e
      obtain ⟨rfl, hn, rfl⟩ := e
      refine ⟨by rw [flatX_set _ _ _ _ h.len hi, List.length_set, List.length_set]; exact hr.1, .inr ⟨g, cap, _, by rw [List.length_set, hn], hB, setL_heap (cur := cur.toList) (by simpa using hq), by rw [List.length_set]; exact hn', hm, by simpa using hs, ?_⟩⟩
      rw [flatX_set _ _ _ _ h.len hi, List.length_set]
      simp only
      rw [List.take_set, hc]
  · obtain ⟨j, hj⟩ := List.mem_iff_getElem?.1 hp
    rw [List.getElem?_zip_eq_some] at hj
    obtain ⟨hj1, hj2⟩ := hj
    have hpm : p.1 ∈ us := List.mem_of_getElem? hj1
    by_cases hji : j = i
    · subst hji
      rw [hu] at hj1
      rw [List.getElem?_set_self hi] at hj2
      obtain rfl := Option.some.inj hj1
      rw [← Option.some.inj hj2]
      exact World.ownsRow.kept ho hset (hng _ hpm)
    · rw [List.getElem?_set_ne (fun e => hji e.symm)] at hj2
      have hin := h.inner p (List.mem_iff_getElem?.2 ⟨j, List.getElem?_zip_eq_some.2 ⟨hj1, hj2⟩⟩)
      exact World.ownsRow.kept (World.ownsRow.kept hin hg (apart_two hapu hj1 hu hji)) hset (hng _ hpm)
theorem nI_ge : ∀ (xs : List Idx), xs.length ≤ nI xs
  | [] => by simp [nI]
  | x :: r => by have := nI_ge r; simp only [nI, List.length_cons]; omega
theorem nI_take : ∀ (xs : List Idx) (k : Nat), nI (xs.take k) ≤ nI xs
  | [], k => by simp
  | x :: r, 0 => by simp [nI]
  | x :: r, k + 1 => by have := nI_take r k; simp only [List.take_succ_cons, nI]; omega
set_option maxHeartbeats 4000000 in
theorem markIndexS_at (base g n cap k0 : Nat) (us : List Value) (xs : List Idx) (w : World) (hxn : xs.length = n) (hkc : k0 + nI xs ≤ 5000000) (hap : Apart (.slice (some ⟨g, 0, none⟩) n cap :: us)) (hw : OwnX base (.slice (some ⟨g, 0, none⟩) n cap) us xs w) :
    Calls Try.prog 79 #[.slice (some ⟨g, 0, none⟩) n cap, .int .i64 k0] w fun e w' => e = .returned (.int .i64 ((k0 + nI xs : Nat) : Int)) ∧ OwnX base (.slice (some ⟨g, 0, none⟩) n cap) us (mIdx k0 xs) w' ∧ GL (.slice (some ⟨g, 0, none⟩) n cap :: us) w w' := by
  have HW := hide (show OwnX base (.slice (some ⟨g, 0, none⟩) n cap) us (mid k0 0 xs) w by rw [mid_zero]; exact hw)
  have HX := hide hxn
  have hn : n ≤ 5000000 := by have := nI_ge xs; omega
  have hk1 : k0 ≤ 5000000 := by omega
  have HKC := hide hkc
  have HAP := hide hap
  clear hw hxn hkc hap
  go_enter Try.func79, Try.ntmps79
  go_wp2
  go_loopw [1, 5] (fun s i wr => ∃ k q : Nat, k ≤ n ∧ i = .int .i64 k ∧ s = .int .i64 q ∧ Hid (q = k0 + nI (xs.take k)) ∧ q ≤ 5000000 ∧ Hid (OwnX base (.slice (some ⟨g, 0, none⟩) n cap) us (mid k0 k xs) wr) ∧ Hid (GL (.slice (some ⟨g, 0, none⟩) n cap :: us) w wr)) (fun _ i _ => n - (intOf i).toNat)
  case atStart => exact ⟨0, k0, Nat.zero_le _, rfl, rfl, (by show _ = _; simp [nI]), by omega, HW, GL.refl _ _⟩
  case round =>
    clear HW
    obtain ⟨k, q, hk, rfl, rfl, HQ, hq1, HO, HG⟩ := hrel
    by_cases hlt : k < n
    · have hkx : k < xs.length := by rw [HX.out]; exact hlt
      have hmk : k < (mid k0 k xs).length := by rw [mid_len _ _ _ (by omega)]; exact hkx
      obtain ⟨u, hu, hz⟩ := zip_at k HO.out.len hmk
      rw [mid_at _ _ _ hkx] at hz
      have hin := HO.out.inner _ hz
      have hq2 : k0 + nI (xs.take (k + 1)) ≤ 5000000 := by
        have := nI_take xs (k + 1)
        have := HKC.out
        omega
      rw [take_snocX xs k hkx, nI_snoc] at hq2
      have HQ2 : Hid (k0 + nI (xs.take (k + 1)) = q + (xs.getD k noIdx).cols.length + 1) := by show _ = _; rw [take_snocX xs k hkx, nI_snoc, HQ.out]; omega
      have HMS : Hid (mid k0 (k + 1) xs = (mid k0 k xs).set k ⟨mNums q (xs.getD k noIdx).cols.length, decide (((q + (xs.getD k noIdx).cols.length : Nat) : Int) % 3 = 0)⟩) := by show _ = _; rw [mid_succ _ _ _ hkx, ← HQ.out]; rfl
      have hq3 : q + (xs.getD k noIdx).cols.length + 1 ≤ 5000000 := by have := HQ.out; omega
      have HIN := hide hin
      clear hq2
      generalize (xs.getD k noIdx).cols = l at *
      obtain ⟨io, ic, rfl⟩ := ownN_shape hin
      obtain ⟨d0, d1, df⟩ : wr.cell? ⟨g, k * 2, none⟩ = some (.slice io l.length ic) ∧ (∃ z, wr.cell? ⟨g, k * 2 + 1, none⟩ = some z) ∧ ∀ j, wr.frozen? ⟨g, j, none⟩ = false := by
        rcases HO.out.row.2 with ⟨h0, _⟩ | ⟨q', cp, cur, e, hB, hq, hn', hm, hs, hc⟩
        · simp at h0
        · simp only [Value.slice.injEq, Option.some.injEq, Addr.mk.injEq, and_true] at e
          obtain ⟨rfl, _, rfl⟩ := e
          have hget : ∀ j, j < (mid k0 k xs).length * 2 → cur[j]? = (flatX us (mid k0 k xs))[j]? := fun j hj => by rw [← hc, List.getElem?_take_of_lt hj]; simp
          obtain ⟨f0, f1⟩ := flatX_get us (mid k0 k xs) k HO.out.len hmk
          exact ⟨by rw [cell_of_row _ _ _ _ _ _ hq, hget _ (by omega), f0, hu], ⟨_, by rw [cell_of_row _ _ _ _ _ _ hq, hget _ (by omega), f1]⟩, fun j => frozen_of_row _ _ _ _ _ hq⟩
      have HC := hide (fun (W : World) (hW : OwnN base (.slice io l.length ic) l W) => markInt64S_mk base (.slice io l.length ic) l q W (by omega) hW)
      have HU := hide hu
      have hne := apart_head HAP.out _ (List.mem_of_getElem? hu)
      have hum := List.mem_of_getElem? hu
      clear hin hz hu hmk hkx
      go_wp2_with fail
      refine (HC.out _ HIN.out).mono ?_
      rintro e w1 ⟨rfl, o1, g1⟩
      have hng : some g ≠ (Value.slice io l.length ic).ownBlock := by
        rcases hne with h | h
        · simp [Value.ownBlock] at h
        · exact h
      obtain ⟨z, hz⟩ := d1
      have hgs : g < wr.heap.size := World.block_lt_of_cell? _ _ hz
      have e1 : w1.cell? ⟨g, k * 2 + 1, none⟩ = some z := (World.cell?_of_block (w := wr) (g1.block g hgs hng)).trans hz
      have ef : ∀ j, w1.frozen? ⟨g, j, none⟩ = false := fun j => (World.frozen?_of_block (w := wr) (a := ⟨g, j, none⟩) (g1.block g hgs hng)).trans (df j)
      have HM2 : Hid (∀ (x : Value), x = .bool (decide (((q + l.length : Nat) : Int) % 3 = 0)) → OwnX base (.slice (some ⟨g, 0, none⟩) n cap) us (mid k0 (k + 1) xs) (w1.setCell ⟨g, k * 2 + 1, none⟩ x) ∧ GL (.slice (some ⟨g, 0, none⟩) n cap :: us) w (w1.setCell ⟨g, k * 2 + 1, none⟩ x)) := fun x hx => by
        rw [HMS.out, hx]
        refine ⟨HO.out.setI HAP.out HU.out (by rw [mid_len _ _ _ (by rw [HX.out]; omega), HX.out]; exact hlt) g1 o1, HG.out.trans ((GL.of g1 (by simp [hum])).trans (GL.of (v := .slice (some ⟨g, 0, none⟩) n cap) (grown_setG (grown_refl w1 (some g))) (by simp)))⟩
      clear o1 g1 d0 df HIN HC HU hz hng hne hum HMS HO HG
      generalize l.length = m at *
      go_wp2
      go_roundw
      case rel => exact ⟨k + 1, q + m + 1, by omega, by go_num, by go_num, (by show _ = _; exact HQ2.out.symm), hq3, (HM2.out _ (by go_num)).1, (HM2.out _ (by go_num)).2⟩
      case measure => simp [intOf]; omega
    · obtain rfl : k = n := by omega
      have HZ : Hid ((q : Int) = ((k0 + nI xs : Nat) : Int)) := by show _ = _; rw [HQ.out, ← HX.out, List.take_length]
      have HO2 := hide (show OwnX base (.slice (some ⟨g, 0, none⟩) k cap) us (mIdx k0 xs) wr by rw [← mid_all, HX.out]; exact HO.out)
      go_wp2
      go_ret
      exact ⟨by rw [HZ.out]; rfl, HO2.out, HG.out⟩
theorem markIndexS_nil (k0 : Nat) (w : World) : Calls Try.prog 79 #[.slice none 0 0, .int .i64 k0] w fun e w' => e = .returned (.int .i64 k0) ∧ w' = w := by
  go_enter Try.func79, Try.ntmps79
  go_wp2
  go_loop [1, 5] (fun q i => i = .int .i64 0 ∧ q = .int .i64 k0) (fun _ _ => 0)
  case atStart => exact ⟨rfl, rfl⟩
  case round =>
    obtain ⟨rfl, rfl⟩ := hrel
    go_wp2
    go_ret
    exact ⟨rfl, rfl⟩
theorem markIndexS_own (base : Nat) (v : Value) (us : List Value) (xs : List Idx) (k0 : Nat) (w : World) (hkc : k0 + nI xs ≤ 5000000) (hap : Apart (v :: us)) (h : OwnX base v us xs w) :
    Calls Try.prog 79 #[v, .int .i64 k0] w fun e w' => e = .returned (.int .i64 ((k0 + nI xs : Nat) : Int)) ∧ OwnX base v us (mIdx k0 xs) w' ∧ GL (v :: us) w w' := by
  rcases h.row.2 with ⟨rfl, h0⟩ | ⟨g, cap, cur, rfl, hB, hq, hn', hm, hs, ht⟩
  · obtain rfl := List.eq_nil_of_length_eq_zero h0
    obtain rfl := List.eq_nil_of_length_eq_zero h.len
    refine (markIndexS_nil k0 w).mono ?_
    rintro e w' ⟨rfl, rfl⟩
    exact ⟨rfl, ownX_nil _ _, GL.refl _ _⟩
  · exact markIndexS_at base g xs.length cap k0 us xs w rfl hkc hap h
set_option maxHeartbeats 4000000 in
theorem heldIndexS_any (A B : Nat) (ao : Option Addr) (xs : List Idx) (n cap k0 : Nat) (w : World) (hB : B ≤ w.heap.size) (hxn : xs.length = n) (hn : n ≤ 4) (hk1 : k0 ≤ 500) (hxl : ∀ x ∈ xs, x.cols.length ≤ 10) (hr : IdxRow w A B ao (mIdx k0 xs)) :
    Calls Try.prog 106 #[.slice ao n cap, .int .i64 k0] w fun e w' => e = .returned (.int .i64 ((k0 + nI xs : Nat) : Int)) ∧ Below w.heap.size w w' := by
  have HR := hide hr
  have HX := hide hxn
  have HXL := hide hxl
  clear hr hxn hxl
  go_enter Try.func106, Try.ntmps106
  go_wp2
  go_loopw [1, 5] (fun s i wr => ∃ k q : Nat, k ≤ n ∧ i = .int .i64 k ∧ s = .int .i64 q ∧ Hid (q = k0 + nI (xs.take k)) ∧ q ≤ 1000 ∧ Below w.heap.size w wr) (fun _ i _ => n - (intOf i).toNat)
  case atStart => exact ⟨0, k0, Nat.zero_le _, rfl, rfl, (by show _ = _; simp [nI]), by omega, Below.refl _ _⟩
  case round =>
    obtain ⟨k, q, hk, rfl, rfl, HQ, hq1, hb⟩ := hrel
    have hz := hb.size
    by_cases hlt : k < n
    · have hkx : k < xs.length := by rw [HX.out]; exact hlt
      obtain ⟨b, off, io, cp, l, u, rfl, hbB, hv, ⟨hl1, hl2⟩, hir, d0, d1⟩ := (HR.out.kept (hb.mono hB)).at k (by rw [mIdx_len]; exact hkx)
      rw [mIdx_get _ _ _ hkx, ← HQ.out] at hv
      unfold mI at hv
      simp only [Idx.mk.injEq] at hv
      obtain ⟨rfl, rfl⟩ := hv
      have hcl := HXL.out _ (getD_mem xs noIdx k hkx)
      have hq2 : k0 + nI (xs.take (k + 1)) ≤ 1000 := by
        have := nI_le (xs.take (k + 1)) (fun x hx => HXL.out x (List.mem_of_mem_take hx))
        have h2 : (xs.take (k + 1)).length ≤ 4 := by simp; omega
        omega
      rw [take_snocX xs k hkx, nI_snoc] at hq2
      have HQ2 : Hid (k0 + nI (xs.take (k + 1)) = q + (xs.getD k noIdx).cols.length + 1) := by show _ = _; rw [take_snocX xs k hkx, nI_snoc, HQ.out]; omega
      have hq3 : q + (xs.getD k noIdx).cols.length + 1 ≤ 1000 := by have := HQ.out; omega
      rw [mNums_len] at d0 hl1
      clear hq2
      generalize (xs.getD k noIdx).cols.length = m at *
      have HC := hide (fun (W : World) (hW : Below wr.heap.size wr W) => heldInt64S_any A B io m cp q W (by have := hW.size; omega) hcl hq1 (hir.kept (hW.mono (by omega))))
      have hbr : b < wr.heap.size := by omega
      clear hir hl1 hl2 hkx
      go_wp2_with fail
      refine (HC.out _ (Below.refl _ _)).mono ?_
      rintro e w1 ⟨rfl, hb1⟩
      have f1 : w1.cell? ⟨b, off + k * 2 + 1, none⟩ = some (.bool (decide (((q + m : Nat) : Int) % 3 = 0))) := (hb1.cell (p := ⟨b, _, none⟩) hbr).trans d1
      have hb2 := hb.trans (hb1.mono hz)
      have hmm : ((q + m : Nat) : Int) = (q : Int) + (m : Int) := by omega
      rw [hmm] at f1
      have HB2 := hide hb2
      clear d0 d1 hb1 hb HC hb2 hmm
      by_cases h3 : ((q : Int) + (m : Int)) % 3 = 0
      · rw [decide_eq_true h3] at f1
        go_wp2
        go_roundw
        case rel => exact ⟨k + 1, q + m + 1, by omega, by go_num, by go_num, (by show _ = _; exact HQ2.out.symm), hq3, HB2.out⟩
        case measure => simp [intOf]; omega
      · rw [decide_eq_false h3] at f1
        go_wp2
        go_roundw
        case rel => exact ⟨k + 1, q + m + 1, by omega, by go_num, by go_num, (by show _ = _; exact HQ2.out.symm), hq3, HB2.out⟩
        case measure => simp [intOf]; omega
    · obtain rfl : k = n := by omega
      have HZ : Hid ((q : Int) = ((k0 + nI xs : Nat) : Int)) := by show _ = _; rw [HQ.out, ← HX.out, List.take_length]
      go_wp2
      go_ret
      exact ⟨by rw [HZ.out]; rfl, hb⟩
end Go.Proofs.Ytpmaklbbkmghbaa

/-
  Contracts: two schemas of the same parts are the same.
-/
namespace Go.Proofs.Ytpmaklbbkmghbaa
open Go.RowKit
set_option maxRecDepth 100000

theorem eqColumn_same (t : ByteArray) (k : Int) (u : Bool) (w : World) :
    Calls Try.prog 90 #[.agg #[.string t, .int .i64 k, .bool u], .agg #[.string t, .int .i64 k, .bool u]] w fun e w' => e = .returned (.bool true) ∧ Below w.heap.size w w' := by
  go_enter Try.func90, Try.ntmps90
  go_wp2
  go_ret
  exact ⟨rfl, ((Below.refl _ _).alloc (Nat.le_refl _) _).alloc (by simp) _⟩
set_option maxHeartbeats 2000000 in
theorem eqColumnS_same (A B A' B' : Nat) (ao : Option Addr) (cap : Nat) (bo : Option Addr) (cp : Nat) (cs : List Col) (w : World) (hB : B ≤ w.heap.size) (hB' : B' ≤ w.heap.size) (hl : cs.length ≤ 1048576) (ha : ColRow w A B ao cs) (hb : ColRow w A' B' bo cs) :
    Calls Try.prog 47 #[.slice ao cs.length cap, .slice bo cs.length cp] w fun e w' => e = .returned (.bool true) ∧ Below w.heap.size w w' := by
  have HA : Hid (ColRow w A B ao cs) := ha
  have HB : Hid (ColRow w A' B' bo cs) := hb
  clear ha hb
  go_enter Try.func47, Try.ntmps47
  go_wp2
  go_loopw [5] (fun i wr => ∃ k : Nat, k ≤ cs.length ∧ i = .int .i64 k ∧ Below w.heap.size w wr) (fun i _ => cs.length - (intOf i).toNat)
  case atStart => exact ⟨0, Nat.zero_le _, rfl, Below.refl _ _⟩
  case round =>
    obtain ⟨k, hk, rfl, hbw⟩ := hrel
    by_cases hlt : k < cs.length
    · obtain ⟨b, off, kk, nn, tt, rfl, hbB, hv, htt, hki, d0, d1, d2⟩ := (HA.out.kept (hbw.mono hB)).at k hlt
      obtain ⟨b', off', kk', nn', tt', rfl, hbB', hv', htt', hki', e0, e1, e2⟩ := (HB.out.kept (hbw.mono hB')).at k hlt
      rw [hv] at hv'
      simp only [Col.mk.injEq] at hv'
      obtain ⟨rfl, rfl, rfl⟩ := hv'
      have hz := hbw.size
      have hi0 : (0 : Int) ≤ (k : Int) := by omega
      have hi1 : (k : Int) < (cs.length : Int) := by omega
      have ht := (Int.toNat_natCast k)
      have hq1 : b < wr.heap.size := by omega
      have hq2 : b' < wr.heap.size := by omega
      clear hv htt htt' hki hki'
      go_wp2
      go_region_held3 (fun W => W.cell? ⟨b, off + k * 3, none⟩ = some (.string kk) ∧ W.cell? ⟨b, off + k * 3 + 1, none⟩ = some (.int .i64 nn) ∧ W.cell? ⟨b, off + k * 3 + 2, none⟩ = some (.bool tt) ∧ W.cell? ⟨b', off' + k * 3, none⟩ = some (.string kk) ∧ W.cell? ⟨b', off' + k * 3 + 1, none⟩ = some (.int .i64 nn) ∧ W.cell? ⟨b', off' + k * 3 + 2, none⟩ = some (.bool tt)) (go_keep) (first | (go_at_call 90; refine (eqColumn_same kk nn tt _).mono ?_; rintro e w1 ⟨rfl, hb1⟩; have hb1' : Below wr.heap.size wr w1 := (Below.refl _ _).drew.trans hb1; obtain ⟨hc1, hf1⟩ := bcell hb1'))
      all_goals
        have hb2 := hbw.trans (hb1'.mono hz)
        clear d0 d1 d2 e0 e1 e2 hb1 hb1' hbw hc1 hf1
        go_wp2
        go_roundw
        case rel => exact ⟨k + 1, by omega, by go_num, hb2⟩
        case measure => simp [intOf]; omega
    · go_wp2
      go_ret
      exact ⟨rfl, hbw⟩
set_option maxHeartbeats 2000000 in
theorem eqInt64S_same (A B A' B' : Nat) (ao : Option Addr) (cap : Nat) (bo : Option Addr) (cp : Nat) (l : List Int) (w : World) (hB : B ≤ w.heap.size) (hB' : B' ≤ w.heap.size) (hl : l.length ≤ 1048576) (ha : IntRow w A B ao l) (hb : IntRow w A' B' bo l) :
    Calls Try.prog 29 #[.slice ao l.length cap, .slice bo l.length cp] w fun e w' => e = .returned (.bool true) ∧ Below w.heap.size w w' := by
  have HA : Hid (IntRow w A B ao l) := ha
  have HB : Hid (IntRow w A' B' bo l) := hb
  clear ha hb
  go_enter Try.func29, Try.ntmps29
  go_wp2
  go_loopw [5] (fun i wr => ∃ k : Nat, k ≤ l.length ∧ i = .int .i64 k ∧ Below w.heap.size w wr) (fun i _ => l.length - (intOf i).toNat)
  case atStart => exact ⟨0, Nat.zero_le _, rfl, Below.refl _ _⟩
  case round =>
    obtain ⟨k, hk, rfl, hbw⟩ := hrel
    by_cases hlt : k < l.length
    · obtain ⟨b, off, x, rfl, hbB, hv, hx, d0⟩ := (HA.out.kept (hbw.mono hB)).at k hlt
      obtain ⟨b', off', x', rfl, hbB', hv', hx', e0⟩ := (HB.out.kept (hbw.mono hB')).at k hlt
      rw [hv] at hv'
      subst hv'
      have hi0 : (0 : Int) ≤ (k : Int) := by omega
      have hi1 : (k : Int) < (l.length : Int) := by omega
      have ht := (Int.toNat_natCast k)
      clear hv hx hx'
      go_wp2
      go_region_held3 (fun W => W.cell? ⟨b, off + k, none⟩ = some (.int .i64 x) ∧ W.cell? ⟨b', off' + k, none⟩ = some (.int .i64 x)) (go_keep) (fail)
      all_goals
        have hb2 : Below w.heap.size w _ := hbw.drew
        clear d0 e0 hbw
        go_wp2
        go_roundw
        case rel => exact ⟨k + 1, by omega, by go_num, hb2⟩
        case measure => simp [intOf]; omega
    · go_wp2
      go_ret
      exact ⟨rfl, hbw⟩
set_option maxHeartbeats 1000000 in
theorem eqIndex_same (A B A' B' : Nat) (ao : Option Addr) (cap : Nat) (bo : Option Addr) (cp : Nat) (l : List Int) (u : Bool) (w : World) (hB : B ≤ w.heap.size) (hB' : B' ≤ w.heap.size) (hl : l.length ≤ 1048576) (ha : IntRow w A B ao l) (hb : IntRow w A' B' bo l) :
    Calls Try.prog 91 #[.agg #[.slice ao l.length cap, .bool u], .agg #[.slice bo l.length cp, .bool u]] w fun e w' => e = .returned (.bool true) ∧ Below w.heap.size w w' := by
  have HA : Hid (IntRow w A B ao l) := ha
  have HB : Hid (IntRow w A' B' bo l) := hb
  clear ha hb
  have B0 : Hid (Below w.heap.size w ((w.alloc (.cells #[.slice ao l.length cap, .bool u] 69)).alloc (.cells #[.slice bo l.length cp, .bool u] 69))) := ((Below.refl _ _).alloc (Nat.le_refl _) _).alloc (by simp) _
  go_enter Try.func91, Try.ntmps91
  go_wp2_with fail
  refine (eqInt64S_same A B A' B' ao cap bo cp l _ (Nat.le_trans hB B0.out.size) (Nat.le_trans hB' B0.out.size) hl (HA.out.kept (B0.out.mono hB)) (HB.out.kept (B0.out.mono hB'))).mono ?_
  rintro e w1 ⟨rfl, hb1⟩
  obtain ⟨hc1, hf1⟩ := bcell hb1
  have B1 : Hid (Below w.heap.size w w1) := B0.out.trans (hb1.mono B0.out.size)
  clear hb1
  go_wp2
  go_ret
  exact ⟨rfl, B1.out⟩
set_option maxHeartbeats 2000000 in
theorem eqIndexS_same (A B A' B' : Nat) (ao : Option Addr) (cap : Nat) (bo : Option Addr) (cp : Nat) (xs : List Idx) (w : World) (hB : B ≤ w.heap.size) (hB' : B' ≤ w.heap.size) (hl : xs.length ≤ 1048576) (hxl : ∀ x ∈ xs, x.cols.length ≤ 1048576) (ha : IdxRow w A B ao xs) (hb : IdxRow w A' B' bo xs) :
    Calls Try.prog 48 #[.slice ao xs.length cap, .slice bo xs.length cp] w fun e w' => e = .returned (.bool true) ∧ Below w.heap.size w w' := by
  have HA : Hid (IdxRow w A B ao xs) := ha
  have HB : Hid (IdxRow w A' B' bo xs) := hb
  clear ha hb
  go_enter Try.func48, Try.ntmps48
  go_wp2
  go_loopw [5] (fun i wr => ∃ k : Nat, k ≤ xs.length ∧ i = .int .i64 k ∧ Below w.heap.size w wr) (fun i _ => xs.length - (intOf i).toNat)
  case atStart => exact ⟨0, Nat.zero_le _, rfl, Below.refl _ _⟩
  case round =>
    obtain ⟨k, hk, rfl, hbw⟩ := hrel
    by_cases hlt : k < xs.length
    · obtain ⟨b, off, io, ca, l, u, rfl, hbB, hv, htt, hir, d0, d1⟩ := (HA.out.kept (hbw.mono hB)).at k hlt
      obtain ⟨b', off', io', ca', l', u', rfl, hbB', hv', htt', hir', e0, e1⟩ := (HB.out.kept (hbw.mono hB')).at k hlt
      rw [hv] at hv'
      simp only [Idx.mk.injEq] at hv'
      obtain ⟨rfl, rfl⟩ := hv'
      have hll : l.length ≤ 1048576 := by have := hxl _ (getD_mem xs noIdx k hlt); rw [hv] at this; exact this
      have hz := hbw.size
      have hi0 : (0 : Int) ≤ (k : Int) := by omega
      have hi1 : (k : Int) < (xs.length : Int) := by omega
      have ht := (Int.toNat_natCast k)
      have hq1 : b < wr.heap.size := by omega
      have hq2 : b' < wr.heap.size := by omega
      have HI : Hid (∀ W, Below wr.heap.size wr W → Calls Try.prog 91 #[.agg #[.slice io l.length ca, .bool u], .agg #[.slice io' l.length ca', .bool u]] W fun e w' => e = .returned (.bool true) ∧ Below W.heap.size W w') := fun W hbW =>
        eqIndex_same A B A' B' io ca io' ca' l u W (by have := hbW.size; omega) (by have := hbW.size; omega) hll (hir.kept (hbW.mono (by omega))) (hir'.kept (hbW.mono (by omega)))
      clear hv htt htt' hir hir'
      go_wp2
      go_region_held3 (fun W => W.cell? ⟨b, off + k * 2, none⟩ = some (.slice io l.length ca) ∧ W.cell? ⟨b, off + k * 2 + 1, none⟩ = some (.bool u) ∧ W.cell? ⟨b', off' + k * 2, none⟩ = some (.slice io' l.length ca') ∧ W.cell? ⟨b', off' + k * 2 + 1, none⟩ = some (.bool u)) (go_keep) (first | (go_at_call 91; refine (HI.out _ (Below.refl _ _).drew).mono ?_; rintro e w1 ⟨rfl, hb1⟩; have hb1' : Below wr.heap.size wr w1 := (Below.refl _ _).drew.trans hb1; obtain ⟨hc1, hf1⟩ := bcell hb1'))
      all_goals
        have hb2 := hbw.trans (hb1'.mono hz)
        clear d0 d1 e0 e1 hb1 hb1' hbw hc1 hf1 HI
        go_wp2
        go_roundw
        case rel => exact ⟨k + 1, by omega, by go_num, hb2⟩
        case measure => simp [intOf]; omega
    · go_wp2
      go_ret
      exact ⟨rfl, hbw⟩
set_option maxHeartbeats 1000000 in
theorem eqSchema_same (A B A' B' : Nat) (ao : Option Addr) (c1 : Nat) (ko : Option Addr) (c2 : Nat) (xo : Option Addr) (c3 : Nat) (ao' : Option Addr) (c1' : Nat) (ko' : Option Addr) (c2' : Nat) (xo' : Option Addr) (c3' : Nat) (s : Sch) (w : World)
    (hB : B ≤ w.heap.size) (hB' : B' ≤ w.heap.size) (hf : schFits s) (ha : SchRow w A B ao ko xo c2 s) (hb : SchRow w A' B' ao' ko' xo' c2' s) :
    Calls Try.prog 13 #[.agg #[.string s.name, .slice ao s.cols.length c1, .slice ko s.key.length c2, .slice xo s.idx.length c3], .agg #[.string s.name, .slice ao' s.cols.length c1', .slice ko' s.key.length c2', .slice xo' s.idx.length c3']] w fun e w' =>
      e = .returned (.bool true) ∧ Below w.heap.size w w' := by
  have HA : Hid (SchRow w A B ao ko xo c2 s) := ha
  have HB : Hid (SchRow w A' B' ao' ko' xo' c2' s) := hb
  have HF : Hid (schFits s) := hf
  clear ha hb hf
  obtain ⟨nm, cs, ky, xs⟩ := s
  simp only
  have B0 : Hid (Below w.heap.size w ((w.alloc (.cells #[.string nm, .slice ao cs.length c1, .slice ko ky.length c2, .slice xo xs.length c3] 32)).alloc (.cells #[.string nm, .slice ao' cs.length c1', .slice ko' ky.length c2', .slice xo' xs.length c3'] 32))) := ((Below.refl _ _).alloc (Nat.le_refl _) _).alloc (by simp) _
  go_enter Try.func13, Try.ntmps13
  go_wp2_with fail
  refine (eqColumnS_same A B A' B' ao c1 ao' c1' cs _ (Nat.le_trans hB B0.out.size) (Nat.le_trans hB' B0.out.size) HF.out.1 (HA.out.2.1.kept (B0.out.mono hB)) (HB.out.2.1.kept (B0.out.mono hB'))).mono ?_
  rintro e w1 ⟨rfl, hb1⟩
  have X1 : Hid (w1.heap[w.heap.size]? = some (.cells #[.string nm, .slice ao cs.length c1, .slice ko ky.length c2, .slice xo xs.length c3] 32 (0, 0))) := (hb1.block _ (by simp; omega)).trans (by rw [heap_old _ _ _ (by simp), heap_alloc_new])
  have Y1 : Hid (w1.heap[w.heap.size + 1]? = some (.cells #[.string nm, .slice ao' cs.length c1', .slice ko' ky.length c2', .slice xo' xs.length c3'] 32 (0, 0))) := (hb1.block _ (by simp)).trans (by have := heap_alloc_new (w.alloc (.cells #[.string nm, .slice ao cs.length c1, .slice ko ky.length c2, .slice xo xs.length c3] 32)) (.cells #[.string nm, .slice ao' cs.length c1', .slice ko' ky.length c2', .slice xo' xs.length c3'] 32 (0, 0)); simpa using this)
  have hlt1 : w.heap.size + 2 ≤ w1.heap.size := by have := hb1.size; simp at this; omega
  obtain ⟨x0, x1, x2, x3, xf⟩ := cells4 X1.out
  obtain ⟨y0, y1, y2, y3, yf⟩ := cells4 Y1.out
  have B1 : Hid (Below w.heap.size w w1) := B0.out.trans (hb1.mono B0.out.size)
  clear hb1 B0
  go_wp2_with fail
  refine (eqInt64S_same A B A' B' ko c2 ko' c2' ky _ (Nat.le_trans hB B1.out.size) (Nat.le_trans hB' B1.out.size) HF.out.2.1 (HA.out.2.2.1.kept (B1.out.mono hB)) (HB.out.2.2.1.kept (B1.out.mono hB'))).mono ?_
  rintro e w2 ⟨rfl, hb2⟩
  have X2 : Hid (w2.heap[w.heap.size]? = some (.cells #[.string nm, .slice ao cs.length c1, .slice ko ky.length c2, .slice xo xs.length c3] 32 (0, 0))) := (hb2.block _ (by omega)).trans X1.out
  have Y2 : Hid (w2.heap[w.heap.size + 1]? = some (.cells #[.string nm, .slice ao' cs.length c1', .slice ko' ky.length c2', .slice xo' xs.length c3'] 32 (0, 0))) := (hb2.block _ (by omega)).trans Y1.out
  clear x0 x1 x2 x3 xf y0 y1 y2 y3 yf
  obtain ⟨x0, x1, x2, x3, xf⟩ := cells4 X2.out
  obtain ⟨y0, y1, y2, y3, yf⟩ := cells4 Y2.out
  have B2 : Hid (Below w.heap.size w w2) := B1.out.trans (hb2.mono B1.out.size)
  clear hb2 B1 X1 Y1
  go_wp2_with fail
  refine (eqIndexS_same A B A' B' xo c3 xo' c3' xs _ (Nat.le_trans hB B2.out.size) (Nat.le_trans hB' B2.out.size) HF.out.2.2.1 HF.out.2.2.2 (HA.out.2.2.2.kept (B2.out.mono hB)) (HB.out.2.2.2.kept (B2.out.mono hB'))).mono ?_
  rintro e w3 ⟨rfl, hb3⟩
  have B3 : Hid (Below w.heap.size w w3) := B2.out.trans (hb3.mono B2.out.size)
  clear hb3 x0 x1 x2 x3 xf y0 y1 y2 y3 yf
  go_wp2
  go_ret
  exact ⟨rfl, B3.out⟩
end Go.Proofs.Ytpmaklbbkmghbaa

/-
  Contracts: the program's reader of a schema.
-/
namespace Go.Proofs.Ytpmaklbbkmghbaa
open Go.RowKit
set_option maxRecDepth 100000

/-- How the reading stands while columns come in. -/
def Lp1 (w : World) (g L R base : Nat) (s nm : ByteArray) (a : Value) (cs : List Col) (st : St) (wr : World) : Prop :=
  LocAt L R nm a (.slice none 0 0) (.slice none 0 0) wr ∧ OwnC base a cs wr ∧ CurAt g s st wr ∧ w.grownBy wr (some g) ∧ base ≤ wr.heap.size
/-- .. while indexes come in. -/
def Lp2 (w : World) (g L R base : Nat) (s : ByteArray) (a k x : Value) (us : List Value) (S : Sch) (st : St) (wr : World) : Prop :=
  LocAt L R S.name a k x wr ∧ SOwn base a k x us S wr ∧ CurAt g s st wr ∧ w.grownBy wr (some g) ∧ base ≤ wr.heap.size
set_option maxHeartbeats 4000000 in
theorem schema_rd (g : Nat) (s : ByteArray) (st : St) (w : World) (h : CurAt g s st w) :
    Calls Try.prog 63 #[.pointer (some ⟨g, 0, none⟩)] w fun e w' => ∃ a k x us, e = .returned (.agg #[.string (rSch s st).1.name, a, k, x]) ∧ SOwn (w.heap.size + 1) a k x us (rSch s st).1 w' ∧ CurAt g s (rSch s st).2 w' ∧ w.grownBy w' (some g) := by
  obtain ⟨i0, hi, hz0, hz1, hz2⟩ := info_parts Try.infoCol
  obtain ⟨j0, hj, hy0, hy1, hy2⟩ := info_parts Try.infoIdx
  have hgl := h.lt
  have HC0 : Hid (CurAt g s st (w.alloc (.cells #[.string ⟨#[]⟩, .slice none 0 0, .slice none 0 0, .slice none 0 0] 32))) := h.below ((Below.refl w.heap.size w).alloc (Nat.le_refl _) _) hgl
  have HK0 : Hid ((w.alloc (.cells #[.string ⟨#[]⟩, .slice none 0 0, .slice none 0 0, .slice none 0 0] 32)).heap[w.heap.size]? = some (.cells #[.string ⟨#[]⟩, .slice none 0 0, .slice none 0 0, .slice none 0 0] 32 (0, 0))) := heap_alloc_new _ _
  have HG0 : Hid (w.grownBy (w.alloc (.cells #[.string ⟨#[]⟩, .slice none 0 0, .slice none 0 0, .slice none 0 0] 32)) (some g)) := grown_below (grown_refl w (some g)) ((Below.refl w.heap.size w).alloc (Nat.le_refl _) _)
  have HZ0 : Hid ((w.alloc (.cells #[.string ⟨#[]⟩, .slice none 0 0, .slice none 0 0, .slice none 0 0] 32)).heap.size = w.heap.size + 1) := by show _ = _; simp
  have HR : Hid (rSch s st = (⟨(rTxt s st).1, (rRep (rCol s) (rMany s 10 (rTxt s st).2).1.toNat (rMany s 10 (rTxt s st).2).2).1, (rNums s (rRep (rCol s) (rMany s 10 (rTxt s st).2).1.toNat (rMany s 10 (rTxt s st).2).2).2).1, (rRep (rIdx s) (rMany s 4 (rNums s (rRep (rCol s) (rMany s 10 (rTxt s st).2).1.toNat (rMany s 10 (rTxt s st).2).2).2).2).1.toNat (rMany s 4 (rNums s (rRep (rCol s) (rMany s 10 (rTxt s st).2).1.toNat (rMany s 10 (rTxt s st).2).2).2).2).2).1⟩, (rRep (rIdx s) (rMany s 4 (rNums s (rRep (rCol s) (rMany s 10 (rTxt s st).2).1.toNat (rMany s 10 (rTxt s st).2).2).2).2).1.toNat (rMany s 4 (rNums s (rRep (rCol s) (rMany s 10 (rTxt s st).2).1.toNat (rMany s 10 (rTxt s st).2).2).2).2).2).2)) := rfl
  have H1 := hide (curWord_any g s st)
  generalize rTxt s st = y1 at *
  obtain ⟨t1, s1⟩ := y1
  simp only at HR H1
  have H2 := hide (curMany_any g s 10 s1)
  have hm2 := rMany_in s 10 s1 (by omega)
  generalize rMany s 10 s1 = y2 at *
  obtain ⟨n2, s2⟩ := y2
  simp only at HR H2 hm2
  obtain ⟨m, rfl⟩ : ∃ m : Nat, n2 = (m : Int) := ⟨n2.toNat, by omega⟩
  rw [Int.toNat_natCast] at HR
  clear h
  go_enter Try.func63, Try.ntmps63
  go_wp2_with fail
  refine (H1.out _ HC0.out).mono ?_
  rintro e w1 ⟨rfl, k1, r1⟩
  have hne : w.heap.size ≠ g := by omega
  have P1 := hide ((r1.block w.heap.size (by rw [HZ0.out]; omega) (fun e => hne (by simpa using e))).trans HK0.out)
  have Z1 : w.heap.size + 1 ≤ w1.heap.size := by rw [← HZ0.out]; exact r1.size
  have G1 := hide (grown_alloc' (HG0.out.trans r1) (.cells #[.string t1, .slice none 0 0, .slice none 0 0, .slice none 0 0] 32))
  have K1 := hide (k1.below ((Below.refl w1.heap.size w1).alloc (Nat.le_refl _) (.cells #[.string t1, .slice none 0 0, .slice none 0 0, .slice none 0 0] 32)) k1.lt)
  have L1 : Hid (LocAt w1.heap.size w.heap.size t1 (.slice none 0 0) (.slice none 0 0) (.slice none 0 0) (w1.alloc (.cells #[.string t1, .slice none 0 0, .slice none 0 0, .slice none 0 0] 32))) := ⟨heap_alloc_new _ _, (heap_old _ _ _ (by omega)).trans P1.out⟩
  have ZA : Hid ((w1.alloc (.cells #[.string t1, .slice none 0 0, .slice none 0 0, .slice none 0 0] 32)).heap.size = w1.heap.size + 1) := by show _ = _; simp
  clear k1 r1 HC0 HK0 HG0 HZ0 P1 H1
  go_wp2_with fail
  refine (H2.out _ K1.out).mono ?_
  generalize w1.alloc (.cells #[.string t1, .slice none 0 0, .slice none 0 0, .slice none 0 0] 32) = W1 at *
  generalize w1.heap.size = L at *
  rintro e w2 ⟨rfl, k2, r2⟩
  have hLg : L ≠ g := by omega
  have hgL : g < L := by omega
  have I2 : Hid (Lp1 w g L w.heap.size (L + 1) s t1 (.slice none 0 0) [] s2 w2) := ⟨L1.out.grown r2 (by simpa using hLg.symm) (by simpa using hne.symm), ownC_nil _ _, k2, G1.out.trans r2, by rw [← ZA.out]; exact r2.size⟩
  clear k2 r2 K1 L1 G1 H2 ZA
  go_wp2
  go_loopw [13] (fun i wr => ∃ (k : Nat) (a : Value), k ≤ m ∧ i = .int .i64 k ∧ Hid (Lp1 w g L w.heap.size (L + 1) s t1 a (rRep (rCol s) k s2).1 (rRep (rCol s) k s2).2 wr)) (fun i _ => m - (intOf i).toNat)
  case atStart => exact ⟨0, _, Nat.zero_le _, rfl, I2⟩
  case round =>
    clear I2
    obtain ⟨k, a, hk, rfl, HL⟩ := hrel
    by_cases hlt : k < m
    · obtain ⟨hloc, hown, hcur, hgr, hzb⟩ := HL.out
      have hcl := rRep_len (rCol s) s2 k
      have HS : Hid ((rRep (rCol s) (k + 1) s2).1 = (rRep (rCol s) k s2).1 ++ [(rCol s (rRep (rCol s) k s2).2).1] ∧ (rRep (rCol s) (k + 1) s2).2 = (rCol s (rRep (rCol s) k s2).2).2) := ⟨rfl, rfl⟩
      have HCA := hide (column_any g s (rRep (rCol s) k s2).2)
      obtain ⟨ao, cap, rfl⟩ := ownC_shape hown
      rw [hcl] at hloc hown
      have HO : Hid (wr.ownsRow (L + 1) 67 3 (.slice ao k cap) k (flatC (rRep (rCol s) k s2).1)) := by have := hown; unfold OwnC at this; rw [hcl] at this; exact this
      have HCU : Hid (CurAt g s (rRep (rCol s) k s2).2 wr.drew) := hcur.below ((Below.refl wr.heap.size wr).drew) hcur.lt
      have HLC : Hid (LocAt L w.heap.size t1 (.slice ao k cap) (.slice none 0 0) (.slice none 0 0) wr.drew) := hloc
      have HGR : Hid (w.grownBy wr.drew (some g)) := hgr.trans grown_drew
      obtain ⟨x0, x1, x2, x3, xf⟩ := cells4 hloc.1
      clear hloc hown hcur hgr HL
      generalize rRep (rCol s) k s2 = pr at *
      obtain ⟨pl, stk⟩ := pr
      simp only at *
      generalize rCol s stk = y at *
      obtain ⟨⟨cn, kd, nu⟩, stx⟩ := y
      simp only at *
      have HPL := hide hcl
      clear hcl
      go_wp2
      go_region_law (first
        | (go_simp; go_at_call 101; refine (HCA.out _ HCU.out).mono ?_; rintro e yA ⟨rfl, kA, rA⟩; have KA := hide kA; have OA := hide (own_far HO.out (grown_drew.trans rA) (by omega)); have LA := hide (HLC.out.grown rA (by simpa using hLg.symm) (by simpa using hne.symm)); have GA := hide (HGR.out.trans rA); have ZB := hide (show L + 1 ≤ yA.heap.size from Nat.le_trans hzb rA.size); obtain ⟨p0, p1, p2, p3, pf⟩ := cells4 LA.out.1; have L0 : Hid (LocAt L w.heap.size t1 (.slice ao k cap) (.slice none 0 0) (.slice none 0 0) (yA.alloc (.cells #[.string cn, .int .i64 kd, .bool nu] 67))) := LA.out.grown (r := none) (grown_allocN yA (.cells #[.string cn, .int .i64 kd, .bool nu] 67)) nofun nofun; obtain ⟨r0, r1, r2, r3, rf⟩ := cells4 L0.out.1; clear kA rA; dsimp only)
        | (have e1 := hide (OA.out.alloc (.cells #[.string cn, .int .i64 kd, .bool nu] 67)); have e2 : Hid (k + 1 ≤ maxLen) := (by show _ ≤ _; unfold maxLen; omega); have e3 : Hid ((k + 1) * 32 ≤ 140737488355328) := (by show _ ≤ _; omega); have e5 : Hid ((yA.alloc (.cells #[.string cn, .int .i64 kd, .bool nu] 67)).heap.size = yA.heap.size + 1) := (by show _ = _; simp); have e4 : Hid (L + 1 ≤ (yA.alloc (.cells #[.string cn, .int .i64 kd, .bool nu] 67)).heap.size) := (by show _ ≤ _; rw [e5.out]; exact Nat.le_trans ZB.out (Nat.le_succ _)); have e6 : ∀ b, (Value.slice ao k cap).ownBlock = some b → L + 1 ≤ b := (fun b e => (World.ownsRow.lt OA.out b e).1); have n1 : (Value.slice ao k cap).ownBlock ≠ some L := (fun e => Nat.not_succ_le_self L (e6 _ e)); have n2 : (Value.slice ao k cap).ownBlock ≠ some w.heap.size := (fun e => (by have := e6 _ e; omega)); refine step_append_lies (yA.alloc (.cells #[.string cn, .int .i64 kd, .bool nu] 67)) (by rfl) (.tmp 16) (.tmp 19) 29 (by rfl) (L + 1) 67 i0 (.agg #[.string ⟨#[]⟩, .int .i64 0, .bool false]) 3 32 Try.underlying29 hi hz0 hz1 hz2 rfl (by decide) (.slice ao k cap) k (flatC pl) (by rfl) e1.out ⟨yA.heap.size, 0, none⟩ 1 1 [.string cn, .int .i64 kd, .bool nu] (by rfl) rfl (cell_col_new yA cn kd nu 67) (one_col cn kd nu) (by decide) e2.out e3.out e4.out (yA.heap.size + 1) e5.out ?_; intro gg cp yB ownB growB atB ltB; have LB := hide (L0.out.grown growB n1 n2); obtain ⟨q0, q1, q2, q3, qf⟩ := cells4 LB.out.1))
      all_goals
        have WB : Hid (Lp1 w g L w.heap.size (L + 1) s t1 (.slice (some ⟨gg, 0, none⟩) (k + 1) cp) (rRep (rCol s) (k + 1) s2).1 (rRep (rCol s) (k + 1) s2).2 (yB.setCell ⟨L, 1, none⟩ (.slice (some ⟨gg, 0, none⟩) (k + 1) cp))) := by
          refine ⟨locSet LB.out (by omega) rfl, ?_, ?_, ?_, ?_⟩
          · rw [HS.out.1]
            unfold OwnC
            rw [flatC_snoc, List.length_append, HPL.out]
            exact own_set ownB (Nat.lt_succ_self L)
          · rw [HS.out.2]
            exact ((KA.out.below ((Below.refl yA.heap.size yA).alloc (Nat.le_refl _) (.cells #[.string cn, .int .i64 kd, .bool nu] 67)) KA.out.lt).kept growB (fun e => by have := e6 g e; omega)).other (fun e => hLg e.symm) 1 _
          · exact grown_new (grown_some (grown_alloc' GA.out (.cells #[.string cn, .int .i64 kd, .bool nu] 67)) growB (by omega) e6) (by omega) 1 _
          · have h1 := growB.size
            rw [e5.out] at h1
            have h2 := ZB.out
            simp
            omega
        clear LB ownB growB atB ltB KA GA ZB e1 e2 e3 e4 e5 e6 L0 LA OA n1 n2 HS HCA HO HCU HLC HGR
        go_wp2
        go_roundw
        case rel => exact ⟨k + 1, _, by omega, by go_num, WB⟩
        case measure => simp [intOf]; omega
    · obtain rfl : m = k := by omega
      obtain ⟨hloc, hown, hcur, hgr, hzb⟩ := HL.out
      obtain ⟨aoc, capc, rfl⟩ := ownC_shape hown
      generalize rRep (rCol s) _ s2 = y3 at *
      obtain ⟨cs, s3⟩ := y3
      simp only at hloc hown hcur HR
      have HP := hide (places_any g s s3 wr hcur)
      generalize rNums s s3 = y4 at *
      obtain ⟨ks, s4⟩ := y4
      simp only at HR HP
      have H5 := hide (curMany_any g s 4 s4)
      have hm5 := rMany_in s 4 s4 (by omega)
      generalize rMany s 4 s4 = y5 at *
      obtain ⟨n5, s5⟩ := y5
      simp only at HR H5 hm5
      obtain ⟨n, rfl⟩ : ∃ n : Nat, n5 = (n : Int) := ⟨n5.toNat, by omega⟩
      rw [Int.toNat_natCast] at HR
      have HOC := hide hown
      have HLO := hide hloc
      have HGW := hide hgr
      have HCW := hide hcur
      clear hloc hown hgr hcur HL
      go_wp2_with fail
      refine HP.out.mono ?_
      rintro e w3 ⟨v3, rfl, o3, k3, r3⟩
      obtain ⟨ao3, cap3, rfl⟩ := ownN_shape o3
      have L3 := hide (HLO.out.grown r3 (by simpa using hLg.symm) (by simpa using hne.symm))
      obtain ⟨x0, x1, x2, x3, xf⟩ := cells4 L3.out.1
      have I3 : Hid (Lp2 w g L w.heap.size (L + 1) s (.slice aoc cs.length capc) (.slice ao3 ks.length cap3) (.slice none 0 0) [] ⟨t1, cs, ks, []⟩ s4 (w3.setCell ⟨L, 2, none⟩ (.slice ao3 ks.length cap3))) := by
        refine ⟨locSet2 L3.out (by omega) rfl, ⟨own_set (own_far HOC.out r3 (by omega)) (Nat.lt_succ_self L), own_set (owns_base o3 hzb) (Nat.lt_succ_self L), ownX_nil _ _, apart0 (fun b hb => (World.ownsRow.lt HOC.out b hb).2) (fun b hb => (World.ownsRow.lt o3 b hb).1)⟩, k3.other (fun e => hLg e.symm) 2 _, grown_new (HGW.out.trans r3) (by omega) 2 _, ?_⟩
        have := r3.size
        simp
        omega
      clear o3 k3 r3 L3 HOC HLO HGW HCW HP
      go_wp2_with fail
      refine (H5.out _ I3.out.2.2.1).mono ?_
      rintro e w4 ⟨rfl, k4, r4⟩
      have I4 : Hid (Lp2 w g L w.heap.size (L + 1) s (.slice aoc cs.length capc) (.slice ao3 ks.length cap3) (.slice none 0 0) [] ⟨t1, cs, ks, []⟩ s5 w4) := by
        obtain ⟨a1, a2, a3, a4, a5⟩ := I3.out
        exact ⟨a1.grown r4 (by simpa using hLg.symm) (by simpa using hne.symm), a2.far r4 (by omega), k4, a4.trans r4, Nat.le_trans a5 r4.size⟩
      clear k4 r4 I3 H5 x0 x1 x2 x3 xf
      go_wp2
      go_loopw [30] (fun i wq => ∃ (k : Nat) (x : Value) (us : List Value), k ≤ n ∧ i = .int .i64 k ∧ Hid (Lp2 w g L w.heap.size (L + 1) s (.slice aoc cs.length capc) (.slice ao3 ks.length cap3) x us ⟨t1, cs, ks, (rRep (rIdx s) k s5).1⟩ (rRep (rIdx s) k s5).2 wq)) (fun i _ => n - (intOf i).toNat)
      case atStart => exact ⟨0, _, _, Nat.zero_le _, rfl, I4⟩
      case round =>
        clear I4
        obtain ⟨k, x, us, hk, rfl, HL⟩ := hrel
        by_cases hlt : k < n
        · obtain ⟨hloc, hown, hcur, hgr, hzb⟩ := HL.out
          have hcl := rRep_len (rIdx s) s5 k
          have HS : Hid ((rRep (rIdx s) (k + 1) s5).1 = (rRep (rIdx s) k s5).1 ++ [(rIdx s (rRep (rIdx s) k s5).2).1] ∧ (rRep (rIdx s) (k + 1) s5).2 = (rIdx s (rRep (rIdx s) k s5).2).2) := ⟨rfl, rfl⟩
          have HXA := hide (index_rd g s (rRep (rIdx s) k s5).2)
          obtain ⟨ao, cap, rfl⟩ := ownX_shape hown.idx
          simp only [hcl] at hloc hown
          have HBL := hide hown.blocks
          have HO : Hid (SOwn (L + 1) (.slice aoc cs.length capc) (.slice ao3 ks.length cap3) (.slice ao k cap) us ⟨t1, cs, ks, (rRep (rIdx s) k s5).1⟩ wr) := hown
          have HCU : Hid (CurAt g s (rRep (rIdx s) k s5).2 wr.drew) := hcur.below ((Below.refl wr.heap.size wr).drew) hcur.lt
          have HLC : Hid (LocAt L w.heap.size t1 (.slice aoc cs.length capc) (.slice ao3 ks.length cap3) (.slice ao k cap) wr.drew) := hloc
          have HGR : Hid (w.grownBy wr.drew (some g)) := hgr.trans grown_drew
          obtain ⟨x0, x1, x2, x3, xf⟩ := cells4 hloc.1
          clear hloc hown hcur hgr HL
          generalize rRep (rIdx s) k s5 = pr at *
          obtain ⟨pl, stk⟩ := pr
          simp only at hcl HS HXA HO HCU
          generalize rIdx s stk = y at *
          obtain ⟨⟨xc, xu⟩, stx⟩ := y
          simp only at HS HXA
          have HPL := hide hcl
          clear hcl
          go_wp2
          go_region_law (first
            | (go_simp; go_at_call 103; refine (HXA.out _ HCU.out).mono ?_; rintro e yA ⟨vA, rfl, oA, kA, rA⟩; obtain ⟨aoA, capA, rfl⟩ := ownN_shape oA; have NA : Hid (OwnN wr.heap.size (.slice aoA xc.length capA) xc yA) := owns_base oA (Nat.le_succ _); have KA := hide kA; have OA := hide (HO.out.far (grown_drew.trans rA) (Nat.lt_succ_of_lt hgL)); have LA := hide (HLC.out.grown rA (fun e => hLg (Option.some.inj e).symm) (fun e => hne (Option.some.inj e).symm)); have GA := hide (HGR.out.trans rA); have YA := hide (show wr.heap.size ≤ yA.heap.size from rA.size); have ZB := hide (show L + 1 ≤ yA.heap.size from Nat.le_trans hzb rA.size); obtain ⟨p0, p1, p2, p3, pf⟩ := cells4 LA.out.1; have L0 : Hid (LocAt L w.heap.size t1 (.slice aoc cs.length capc) (.slice ao3 ks.length cap3) (.slice ao k cap) (yA.alloc (.cells #[.slice aoA xc.length capA, .bool xu] 69))) := LA.out.grown (r := none) (grown_allocN yA (.cells #[.slice aoA xc.length capA, .bool xu] 69)) nofun nofun; obtain ⟨r0, r1, r2, r3, rf⟩ := cells4 L0.out.1; clear kA rA oA; dsimp only)
            | (have e1 : Hid ((yA.alloc (.cells #[.slice aoA xc.length capA, .bool xu] 69)).ownsRow (L + 1) 69 2 (.slice ao k cap) k (flatX us pl)) := World.ownsRow.alloc (by have := OA.out.idx.row; simp only [HPL.out] at this; exact this) (.cells #[.slice aoA xc.length capA, .bool xu] 69); have e2 : Hid (k + 1 ≤ maxLen) := (by show _ ≤ _; unfold maxLen; omega); have e3 : Hid ((k + 1) * 32 ≤ 140737488355328) := (by show _ ≤ _; omega); have e5 : Hid ((yA.alloc (.cells #[.slice aoA xc.length capA, .bool xu] 69)).heap.size = yA.heap.size + 1) := (by show _ = _; simp); have e4 : Hid (L + 1 ≤ (yA.alloc (.cells #[.slice aoA xc.length capA, .bool xu] 69)).heap.size) := (by show _ ≤ _; rw [e5.out]; exact Nat.le_trans ZB.out (Nat.le_succ _)); have e6 : ∀ b, (Value.slice ao k cap).ownBlock = some b → L + 1 ≤ b := (fun b e => (World.ownsRow.lt e1.out b e).1); have n1 : (Value.slice ao k cap).ownBlock ≠ some L := (fun e => Nat.not_succ_le_self L (e6 _ e)); have n2 : (Value.slice ao k cap).ownBlock ≠ some w.heap.size := (fun e => (by have := e6 _ e; omega)); refine step_append_lies (yA.alloc (.cells #[.slice aoA xc.length capA, .bool xu] 69)) (by rfl) (.tmp 33) (.tmp 36) 30 (by rfl) (L + 1) 69 j0 (.agg #[.slice none 0 0, .bool false]) 2 32 Try.underlying30 hj hy0 hy1 hy2 rfl (by decide) (.slice ao k cap) k (flatX us pl) (by rfl) e1.out ⟨yA.heap.size, 0, none⟩ 1 1 [.slice aoA xc.length capA, .bool xu] (by rfl) rfl (cell_idx_new yA (.slice aoA xc.length capA) xu 69) (one_idx aoA xc.length capA xu) (by decide) e2.out e3.out e4.out (yA.heap.size + 1) e5.out ?_; intro gg cp yB ownB growB atB ltB; have LB := hide (L0.out.grown growB n1 n2); obtain ⟨q0, q1, q2, q3, qf⟩ := cells4 LB.out.1))
          all_goals
            have WB : Hid (Lp2 w g L w.heap.size (L + 1) s (.slice aoc cs.length capc) (.slice ao3 ks.length cap3) (.slice (some ⟨gg, 0, none⟩) (k + 1) cp) (us ++ [.slice aoA xc.length capA]) ⟨t1, cs, ks, (rRep (rIdx s) (k + 1) s5).1⟩ (rRep (rIdx s) (k + 1) s5).2 (yB.setCell ⟨L, 3, none⟩ (.slice (some ⟨gg, 0, none⟩) (k + 1) cp))) := by
              refine ⟨locSet3 LB.out (by omega) rfl, ?_, ?_, ?_, ?_⟩
              · rw [HS.out.1]
                refine (sown_step (m := wr.heap.size) OA.out HBL.out hzb YA.out NA.out ownB HPL.out growB ?_).set (Nat.lt_succ_self L)
                rcases atB with h1 | h1
                · exact .inl (by rw [h1]; rfl)
                · exact .inr (by rw [h1]; rfl)
              · rw [HS.out.2]
                exact ((KA.out.below ((Below.refl yA.heap.size yA).alloc (Nat.le_refl _) (.cells #[.slice aoA xc.length capA, .bool xu] 69)) KA.out.lt).kept growB (fun e => by have := e6 g e; omega)).other (fun e => hLg e.symm) 3 _
              · exact grown_new (grown_some (grown_alloc' GA.out (.cells #[.slice aoA xc.length capA, .bool xu] 69)) growB (by omega) e6) (by omega) 3 _
              · have h1 := growB.size
                rw [e5.out] at h1
                have h2 := ZB.out
                simp
                omega
            clear LB ownB growB atB ltB KA GA ZB e1 e2 e3 e4 e5 e6 L0 LA OA n1 n2 HS HXA HO HCU HLC HGR NA YA HBL
            go_wp2
            go_roundw
            case rel => exact ⟨k + 1, _, _, by omega, by go_num, WB⟩
            case measure => simp [intOf]; omega
        · obtain rfl : n = k := by omega
          obtain ⟨hloc, hown, hcur, hgr, hzb⟩ := HL.out
          obtain ⟨ao, cap, rfl⟩ := ownX_shape hown.idx
          generalize rRep (rIdx s) _ s5 = y6 at *
          obtain ⟨xs, s6⟩ := y6
          simp only at hloc hown hcur HR
          have HO := hide hown
          have HCU := hide hcur
          have HGR := hide hgr
          have HLO := hide hloc
          obtain ⟨x0, x1, x2, x3, xf⟩ := cells4 hloc.1
          obtain ⟨z0, z1, z2, z3, zf⟩ := cells4 hloc.2
          clear hloc hown hcur hgr HL
          go_wp2
          refine bodyPost_ret (v := .agg #[.string t1, (.slice aoc cs.length capc), (.slice ao3 ks.length cap3), .slice ao xs.length cap]) (resSch Try.results63 _ _ w.heap.size _ _ _ _ rfl (set4 HLO.out.2)) rfl ⟨_, _, _, us, by rw [HR.out], ?_, ?_, ?_⟩
          · rw [HR.out]
            exact ((((HO.out.set (by omega)).set (by omega)).set (by omega)).set (by omega)).base (by omega)
          · rw [HR.out]
            exact (((HCU.out.other (by omega) _ _).other (by omega) _ _).other (by omega) _ _).other (by omega) _ _
          · exact grown_new (grown_new (grown_new (grown_new HGR.out (Nat.le_refl _) _ _) (Nat.le_refl _) _ _) (Nat.le_refl _) _ _) (Nat.le_refl _) _ _
end Go.Proofs.Ytpmaklbbkmghbaa

/-
  Contracts: GetNum of the specification.
-/
namespace Go.Proofs.Ytpmaklbbkmghbaa
open Go.RowKit

theorem prod9 (b k : Nat) (h : k = 9) : (b : Int) % 128 * 9223372036854775808 = ((b % 128 * 2 ^ (7 * k) : Nat) : Int) := by subst h; simp
theorem retN {V : Value} {a b n q : Int} (hV : V = nOut n q 0) (h1 : a = n) (h2 : b = q) : Ending.returned (.agg #[.int .i64 a, .int .i64 b, .int .i64 0]) = .returned V := by rw [hV, h1, h2]; rfl

set_option maxRecDepth 100000 in
set_option maxHeartbeats 4000000 in
theorem specGetNum_any (s : ByteArray) (a : Int) (ha : a ≤ 9223372036854775807) (w : World) :
    Calls Try.prog 117 #[.string s, .int .i64 a] w fun e w' => e = .returned (getNumV s a) ∧ Below w.heap.size w w' := by
  by_cases h1 : 20000 < s.size
  · have H : Hid (getNumV s a = nOut 0 0 2) := by show _ = _; unfold getNumV getNum3; rw [if_pos h1]; rfl
    go_enter Try.func117, Try.ntmps117
    go_wp2
    refine bodyPost_ret (v := nOut 0 0 2) (resNum Try.results117 _ _ w.heap.size _ _ _ rfl (heap_alloc_new _ _)) rfl ⟨by rw [H.out], (Below.refl _ _).alloc (Nat.le_refl _) _⟩
  by_cases h2 : a < 0
  · have H : Hid (getNumV s a = nOut 0 0 1) := by show _ = _; unfold getNumV getNum3; rw [if_neg h1, if_pos h2]; rfl
    go_enter Try.func117, Try.ntmps117
    go_wp2
    refine bodyPost_ret (v := nOut 0 0 1) (resNum Try.results117 _ _ w.heap.size _ _ _ rfl (heap_alloc_new _ _)) rfl ⟨by rw [H.out], (Below.refl _ _).alloc (Nat.le_refl _) _⟩
  obtain ⟨p, rfl⟩ := Int.eq_ofNat_of_zero_le (show 0 ≤ a by omega)
  have H : Hid (getNumV s p = nOut (rdAt s.data.toList p).1 (behind p (rdAt s.data.toList p)) (rdAt s.data.toList p).2.2) := by
    show _ = _; unfold getNumV getNum3; rw [if_neg h1, if_neg (by omega), Int.toNat_natCast]
  go_enter Try.func117, Try.ntmps117
  go_wp2
  go_loop [5, 6] (fun x i => ∃ k u : Nat, k ≤ 9 ∧ i = .int .i64 k ∧ x = .int .u64 u ∧ Hid (u < 2 ^ (7 * k)) ∧ Hid (rdAt s.data.toList p = rd k u (s.data.toList.drop (p + k)))) (fun _ i => 10 - (intOf i).toNat)
  case atStart => exact ⟨0, 0, by omega, rfl, rfl, by show _ < _; omega, rfl⟩
  case round =>
    obtain ⟨k, u, hk, rfl, rfl, HU, HR⟩ := hrel
    by_cases hlt : p + k < s.size
    · have hbl : s[p + k].toNat < 256 := s[p + k].toNat_lt
      have HD : Hid (s.data.toList.drop (p + k) = s[p + k] :: s.data.toList.drop (p + k + 1)) := drop_cons s (p + k) hlt
      by_cases hA : k = 9 ∧ 1 < s[p + k].toNat
      · have HF : Hid (rdAt s.data.toList p = (0, 0, 3)) := by
          show _ = _
          rw [HR.out, HD.out, rd_big hA.1 hA.2]
        have h9 : 9 ≤ k := by omega
        have hb1 := hA.2
        clear hA HR HD HU
        go_wp2
        refine bodyPost_ret (v := nOut 0 0 3) (resNum Try.results117 _ _ w.heap.size _ _ _ rfl (heap_alloc_new _ _)) rfl ⟨by rw [H.out, HF.out]; rfl, (Below.refl _ _).alloc (Nat.le_refl _) _⟩
      · by_cases hb : s[p + k].toNat < 128
        · by_cases hz : s[p + k].toNat = 0 ∧ 0 < k
          · have HF : Hid (rdAt s.data.toList p = (0, 0, 3)) := by
              show _ = _
              rw [HR.out, HD.out, rd_nought hz.2 hz.1]
            have hz1 : s[p + k].toNat < 1 := by omega
            have hz2 := hz.2
            clear hz HR HD HU hA
            go_wp2
            all_goals refine bodyPost_ret (v := nOut 0 0 3) (resNum Try.results117 _ _ w.heap.size _ _ _ rfl (heap_alloc_new _ _)) rfl ⟨by rw [H.out, HF.out]; rfl, (Below.refl _ _).alloc (Nat.le_refl _) _⟩
          · have HF : Hid (rdAt s.data.toList p = (unz (u + s[p + k].toNat % 128 * 2 ^ (7 * k)), k + 1, 0)) := by
              show _ = _
              rw [HR.out, HD.out, rd_last hA hb hz]
            have hpl := prod_lt hk hA
            have hsl := sum_lt hk HU.out hA
            rcases Nat.lt_or_ge k 9 with h9 | h9
            · have hwp := wrap_prod hpl
              generalize s[p + k].toNat % 128 * 2 ^ (7 * k) = pr at *
              clear HR HD HU hpl
              rcases Nat.mod_two_eq_zero_or_one (u + pr) with hm | hm
              · have HX : Hid (unz (u + pr) = (((u + pr) / 2 : Nat) : Int)) := if_neg (by omega)
                go_wp2
                all_goals refine bodyPost_ret (v := .agg #[.int .i64 _, .int .i64 _, .int .i64 0]) (resNum Try.results117 _ _ w.heap.size _ _ _ rfl (heap_alloc_new _ _)) rfl ⟨retN (by rw [H.out, HF.out]; rfl) (by rw [HX.out]; omega) (by simp [behind]; omega), (Below.refl _ _).alloc (Nat.le_refl _) _⟩
              · have HX : Hid (unz (u + pr) = -(((u + pr) / 2 : Nat) : Int) - 1) := if_pos hm
                go_wp2
                all_goals refine bodyPost_ret (v := .agg #[.int .i64 _, .int .i64 _, .int .i64 0]) (resNum Try.results117 _ _ w.heap.size _ _ _ rfl (heap_alloc_new _ _)) rfl ⟨retN (by rw [H.out, HF.out]; rfl) (by rw [HX.out]; omega) (by simp [behind]; omega), (Below.refl _ _).alloc (Nat.le_refl _) _⟩
            · have h9p : (s[p + k].toNat : Int) % 128 * 9223372036854775808 = ((s[p + k].toNat % 128 * 2 ^ (7 * k) : Nat) : Int) := prod9 _ k (by omega)
              have hb1 : ¬ 1 < s[p + k].toNat := fun h => hA ⟨by omega, h⟩
              generalize s[p + k].toNat % 128 * 2 ^ (7 * k) = pr at *
              clear HR HD HU hpl hA
              rcases Nat.mod_two_eq_zero_or_one (u + pr) with hm | hm
              · have HX : Hid (unz (u + pr) = (((u + pr) / 2 : Nat) : Int)) := if_neg (by omega)
                go_wp2
                all_goals refine bodyPost_ret (v := .agg #[.int .i64 _, .int .i64 _, .int .i64 0]) (resNum Try.results117 _ _ w.heap.size _ _ _ rfl (heap_alloc_new _ _)) rfl ⟨retN (by rw [H.out, HF.out]; rfl) (by rw [HX.out]; omega) (by simp [behind]; omega), (Below.refl _ _).alloc (Nat.le_refl _) _⟩
              · have HX : Hid (unz (u + pr) = -(((u + pr) / 2 : Nat) : Int) - 1) := if_pos hm
                go_wp2
                all_goals refine bodyPost_ret (v := .agg #[.int .i64 _, .int .i64 _, .int .i64 0]) (resNum Try.results117 _ _ w.heap.size _ _ _ rfl (heap_alloc_new _ _)) rfl ⟨retN (by rw [H.out, HF.out]; rfl) (by rw [HX.out]; omega) (by simp [behind]; omega), (Below.refl _ _).alloc (Nat.le_refl _) _⟩
        · have hk8 : k < 9 := by
            rcases Nat.lt_or_ge k 9 with h9 | h9
            · exact h9
            · exact absurd ⟨by omega, by omega⟩ hA
          have hpl := prod_lt hk hA
          have hwp := wrap_prod hpl
          have hsl := sum_lt hk HU.out hA
          have HU2 : Hid (u + s[p + k].toNat % 128 * 2 ^ (7 * k) < 2 ^ (7 * (k + 1))) := next_lt HU.out
          have HR2 : Hid (rdAt s.data.toList p = rd (k + 1) (u + s[p + k].toNat % 128 * 2 ^ (7 * k)) (s.data.toList.drop (p + (k + 1)))) := by
            show _ = _
            rw [HR.out, HD.out, rd_more (by omega) hb]; rfl
          generalize s[p + k].toNat % 128 * 2 ^ (7 * k) = pr at *
          clear HR HD HU hpl hA
          go_wp2
          go_round
          case rel => exact ⟨k + 1, u + pr, by omega, by go_num, by go_num, HU2, HR2⟩
          case measure => simp [intOf]; omega
    · have HF : Hid (rdAt s.data.toList p = (0, 0, 4)) := by
        show _ = _
        rw [HR.out, drop_none _ _ (by omega), rd_short]
      clear HR HU
      go_wp2
      refine bodyPost_ret (v := nOut 0 0 4) (resNum Try.results117 _ _ w.heap.size _ _ _ rfl (heap_alloc_new _ _)) rfl ⟨by rw [H.out, HF.out]; rfl, (Below.refl _ _).alloc (Nat.le_refl _) _⟩
end Go.Proofs.Ytpmaklbbkmghbaa

/-
  Contracts: GetText of the specification.
-/
namespace Go.Proofs.Ytpmaklbbkmghbaa
open Go.RowKit
attribute [local go_sem ↓] Go.wp_at_zero Go.wp_at_succ

theorem getNum3_in (s : ByteArray) (a : Int) (h : (getNum3 s a).2.2 = 0) : 0 ≤ (getNum3 s a).2.1 ∧ (getNum3 s a).2.1 ≤ s.size ∧ s.size ≤ 20000 := by
  unfold getNum3 at *
  by_cases h1 : 20000 < s.size
  · rw [if_pos h1] at h; simp at h
  · rw [if_neg h1] at *
    by_cases h2 : a < 0
    · rw [if_pos h2] at h; simp at h
    · rw [if_neg h2] at *
      have := behind_le s a.toNat h
      exact ⟨this.1, this.2, by omega⟩
theorem set3a {W : World} {g : Nat} {a b c x y z : Value} {t : TypeId} (hlt : g < W.heap.size) (h : W.heap[g]? = some (.cells #[a, b, c] t (0, 0))) (o : Obj) :
    ((((W.setCell ⟨g, 0, none⟩ x).setCell ⟨g, 1, none⟩ y).setCell ⟨g, 2, none⟩ z).alloc o).heap[g]? = some (.cells #[x, y, z] t (0, 0)) :=
  (Below.heap_alloc _ _ _ (by simpa using hlt)).trans (set3 h)
theorem cell_new3 {W : World} {x y z : Value} {t : TypeId} {g : Nat} (hg : g = W.heap.size) : (W.alloc (.cells #[x, y, z] t)).drew.cell? ⟨g, 0, none⟩ = some x ∧ (W.alloc (.cells #[x, y, z] t)).drew.cell? ⟨g, 1, none⟩ = some y := by
  subst hg
  have h := heap_alloc_new W (.cells #[x, y, z] t)
  have h' : (W.alloc (.cells #[x, y, z] t)).drew.heap[W.heap.size]? = some (.cells #[x, y, z] t (0, 0)) := h
  exact ⟨(cells3 h').1, (cells3 h').2.1⟩
theorem retT {V : Value} {t t' : ByteArray} {b q : Int} {c : Int} {k : Int} (hV : V = tOut t' q k) (h1 : t = t') (h2 : b = q) (h3 : c = k) : Ending.returned (.agg #[.string t, .int .i64 b, .int .i64 c]) = .returned V := by rw [hV, h1, h2, h3]; rfl

set_option maxRecDepth 100000 in
set_option maxHeartbeats 4000000 in
theorem specGetText_any (s : ByteArray) (a : Int) (ha : a ≤ 9223372036854775807) (w : World) :
    Calls Try.prog 116 #[.string s, .int .i64 a] w fun e w' => e = .returned (getTextV s a) ∧ Below w.heap.size w w' := by
  have hsp := specGetNum_any s a ha
  have hin := getNum3_in s a
  have H : Hid (getTextV s a = tOut (textOf s (getNum3 s a).1 (getNum3 s a).2.1 (getNum3 s a).2.2).1 (textOf s (getNum3 s a).1 (getNum3 s a).2.1 (getNum3 s a).2.2).2.1 (textOf s (getNum3 s a).1 (getNum3 s a).2.1 (getNum3 s a).2.2).2.2) := rfl
  unfold getNumV at hsp
  generalize getNum3 s a = r at *
  obtain ⟨n, q, c⟩ := r
  have HS : Hid (∀ w, Calls Try.prog 117 #[.string s, .int .i64 a] w fun e w' => e = .returned (.agg #[.int .i64 n, .int .i64 q, .int .i64 c]) ∧ Below w.heap.size w w') := hsp
  clear hsp
  simp only at hin H
  by_cases h0 : c = 0
  · obtain ⟨hq0, hq1, hs⟩ := hin h0
    subst h0
    clear hin
    by_cases h1 : n < 0
    · have HT : Hid (textOf s n q 0 = (ByteArray.empty, 0, 3)) := by show _ = _; unfold textOf; rw [if_neg (by simp), if_pos (Or.inl h1)]
      go_enter Try.func116, Try.ntmps116
      go_wp2_with fail
      refine (HS.out _).mono ?_
      rintro e w1 ⟨rfl, hb1⟩
      have hz1 : w.heap.size < w1.heap.size := by (have := hb1.size; simp at this; omega)
      have hk : w1.heap[w.heap.size]? = some (.cells #[.string ⟨#[]⟩, .int .i64 0, .int .i64 0] 146 (0, 0)) := (hb1.block _ (by simp)).trans (heap_alloc_new w _)
      obtain ⟨c0, c1, c2, cf⟩ := cells3 hk
      have HK : Hid (w1.heap[w.heap.size]? = some (.cells #[.string ⟨#[]⟩, .int .i64 0, .int .i64 0] 146 (0, 0))) := hk
      clear hk
      go_wp2
      refine bodyPost_ret (v := .agg #[.string ⟨#[]⟩, .int .i64 0, .int .i64 3]) (resOutT Try.results116 _ _ w.heap.size _ _ _ rfl (set3a hz1 HK.out _)) rfl ⟨by rw [H.out, HT.out]; rfl, ?_⟩
      exact (below3 (((Below.refl _ _).alloc (Nat.le_refl _) _).trans (hb1.mono (by simp))) (Nat.le_refl _)).alloc (by simp; omega) _
    by_cases h2 : 20000 < n
    · have HT : Hid (textOf s n q 0 = (ByteArray.empty, 0, 3)) := by show _ = _; unfold textOf; rw [if_neg (by simp), if_pos (Or.inr h2)]
      go_enter Try.func116, Try.ntmps116
      go_wp2_with fail
      refine (HS.out _).mono ?_
      rintro e w1 ⟨rfl, hb1⟩
      have hz1 : w.heap.size < w1.heap.size := by (have := hb1.size; simp at this; omega)
      have hk : w1.heap[w.heap.size]? = some (.cells #[.string ⟨#[]⟩, .int .i64 0, .int .i64 0] 146 (0, 0)) := (hb1.block _ (by simp)).trans (heap_alloc_new w _)
      obtain ⟨c0, c1, c2, cf⟩ := cells3 hk
      have HK : Hid (w1.heap[w.heap.size]? = some (.cells #[.string ⟨#[]⟩, .int .i64 0, .int .i64 0] 146 (0, 0))) := hk
      clear hk
      go_wp2
      refine bodyPost_ret (v := .agg #[.string ⟨#[]⟩, .int .i64 0, .int .i64 3]) (resOutT Try.results116 _ _ w.heap.size _ _ _ rfl (set3a hz1 HK.out _)) rfl ⟨by rw [H.out, HT.out]; rfl, ?_⟩
      exact (below3 (((Below.refl _ _).alloc (Nat.le_refl _) _).trans (hb1.mono (by simp))) (Nat.le_refl _)).alloc (by simp; omega) _
    by_cases h3 : (s.size : Int) - q < n
    · have HT : Hid (textOf s n q 0 = (ByteArray.empty, 0, 4)) := by show _ = _; unfold textOf; rw [if_neg (by simp), if_neg (by omega), if_pos h3]
      have h3' : (s.size : Int) - n < q := by omega
      go_enter Try.func116, Try.ntmps116
      go_wp2_with fail
      refine (HS.out _).mono ?_
      rintro e w1 ⟨rfl, hb1⟩
      have hz1 : w.heap.size < w1.heap.size := by (have := hb1.size; simp at this; omega)
      have hk : w1.heap[w.heap.size]? = some (.cells #[.string ⟨#[]⟩, .int .i64 0, .int .i64 0] 146 (0, 0)) := (hb1.block _ (by simp)).trans (heap_alloc_new w _)
      obtain ⟨c0, c1, c2, cf⟩ := cells3 hk
      have HK : Hid (w1.heap[w.heap.size]? = some (.cells #[.string ⟨#[]⟩, .int .i64 0, .int .i64 0] 146 (0, 0))) := hk
      clear hk
      go_wp2
      refine bodyPost_ret (v := .agg #[.string ⟨#[]⟩, .int .i64 0, .int .i64 4]) (resOutT Try.results116 _ _ w.heap.size _ _ _ rfl (set3a hz1 HK.out _)) rfl ⟨by rw [H.out, HT.out]; rfl, ?_⟩
      exact (below3 (((Below.refl _ _).alloc (Nat.le_refl _) _).trans (hb1.mono (by simp))) (Nat.le_refl _)).alloc (by simp; omega) _
    have HT : Hid (textOf s n q 0 = (s.extract q.toNat (q + n).toNat, q + n, 0)) := by show _ = _; unfold textOf; rw [if_neg (by simp), if_neg (by omega), if_neg h3]
    have h4 : q ≤ q + n := by omega
    have h5 : q + n ≤ s.size := by omega
    have h6 : IntKind.i64.wrap (q + n) = q + n := by rw [IntKind.wrap_i64]; omega
    go_enter Try.func116, Try.ntmps116
    go_wp2_with fail
    refine (HS.out _).mono ?_
    rintro e w1 ⟨rfl, hb1⟩
    have hz1 : w.heap.size < w1.heap.size := by (have := hb1.size; simp at this; omega)
    have hk : w1.heap[w.heap.size]? = some (.cells #[.string ⟨#[]⟩, .int .i64 0, .int .i64 0] 146 (0, 0)) := (hb1.block _ (by simp)).trans (heap_alloc_new w _)
    obtain ⟨c0, c1, c2, cf⟩ := cells3 hk
    have HK : Hid (w1.heap[w.heap.size]? = some (.cells #[.string ⟨#[]⟩, .int .i64 0, .int .i64 0] 146 (0, 0))) := hk
    clear hk
    go_wp2
    go_region_held3 (fun w' => w'.cell? ⟨w1.heap.size, 0, none⟩ = some (.int .i64 n) ∧ w'.cell? ⟨w1.heap.size, 1, none⟩ = some (.int .i64 q)) (first | exact cell_new3 (by simp) | go_keep) (fail)
    go_wp2
    refine bodyPost_ret (v := .agg #[.string (s.extract q.toNat (q + n).toNat), .int .i64 (q + n), .int .i64 0]) (resOutT Try.results116 _ _ w.heap.size _ _ _ rfl (set3a hz1 HK.out _)) rfl ⟨by rw [H.out, HT.out]; rfl, ?_⟩
    exact ((below3 (((Below.refl _ _).alloc (Nat.le_refl _) _).trans (hb1.mono (by simp))) (Nat.le_refl _)).alloc (by simp; omega) _).drew
  · have HT : Hid (textOf s n q c = (ByteArray.empty, 0, c)) := if_pos h0
    have hc1 : ((c : Int) != 0) = true := by simp; omega
    clear hin
    go_enter Try.func116, Try.ntmps116
    go_wp2_with fail
    refine (HS.out _).mono ?_
    rintro e w1 ⟨rfl, hb1⟩
    have hz1 : w.heap.size < w1.heap.size := by (have := hb1.size; simp at this; omega)
    have hk : w1.heap[w.heap.size]? = some (.cells #[.string ⟨#[]⟩, .int .i64 0, .int .i64 0] 146 (0, 0)) := (hb1.block _ (by simp)).trans (heap_alloc_new w _)
    obtain ⟨c0, c1, c2, cf⟩ := cells3 hk
    have HK : Hid (w1.heap[w.heap.size]? = some (.cells #[.string ⟨#[]⟩, .int .i64 0, .int .i64 0] 146 (0, 0))) := hk
    clear hk
    go_wp2
    refine bodyPost_ret (v := .agg #[.string ⟨#[]⟩, .int .i64 0, .int .i64 c]) (resOutT Try.results116 _ _ w.heap.size _ _ _ rfl (set3a hz1 HK.out _)) rfl ⟨by rw [H.out, HT.out]; rfl, ?_⟩
    exact (below3 (((Below.refl _ _).alloc (Nat.le_refl _) _).trans (hb1.mono (by simp))) (Nat.le_refl _)).alloc (by simp; omega) _
end Go.Proofs.Ytpmaklbbkmghbaa
