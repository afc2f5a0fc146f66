/-
  Contracts and plain laws, part 3 of 5: DkSz, DkRight, DkWrP, Skips, DkCl, DkGI, DkRightI, DkWrI, DkCpS, DkRightS, DkWrS, DkWrS2
-/
import Derived.Test.YtfhfhpnoeghgmaaRows
import Derived.WalkKit
import Derived.WalkLawsBesides
import Derived.Deep.RegionHeld3
import Derived.Lib.SliceRun
import Derived.Deep.CutRange
import Derived.Test.YtfhfhpnoeghgmaaPb

/-
  Contracts: the sizes of disks, as the laws count them.
-/
namespace Go.Proofs.Ytfhfhpnoeghgmaa
open Go.RowKit
set_option maxRecDepth 100000

theorem szWrite_any (n : Int) (t : ByteArray) (left : Int) (h0 : 0 ≤ left) (h1 : left ≤ 1048576) (ht : t.size ≤ maxLen) (w : World) :
    Calls Try.prog 111 #[.agg #[.int .i64 n, .string t], .int .i64 left] w fun e w' => ∃ r : Int, e = .returned (.int .i64 r) ∧ r ≤ left ∧ Below w.heap.size w w' := by
  unfold maxLen at ht
  by_cases h : left < t.size
  · go_enter Try.func111, Try.ntmps111
    go_wp2
    go_ret
    exact ⟨-1, rfl, by omega, (Below.refl _ _).alloc (Nat.le_refl _) _⟩
  · go_enter Try.func111, Try.ntmps111
    go_wp2
    go_ret
    exact ⟨_, rfl, by omega, (Below.refl _ _).alloc (Nat.le_refl _) _⟩
set_option maxHeartbeats 1000000 in
theorem szWriteS_any (A B : Nat) (ao : Option Addr) (cap : Nat) (l : List Wr) (left : Int) (w : World) (hB : B ≤ w.heap.size) (hl : l.length ≤ maxLen) (hr : WrRow w A B ao l) (h0 : 0 ≤ left) (h1 : left ≤ 1048576) :
    Calls Try.prog 78 #[.slice ao l.length cap, .int .i64 left] w fun e w' => ∃ r : Int, e = .returned (.int .i64 r) ∧ r ≤ left ∧ (r < 0 ∨ 0 ≤ r ∧ l.length ≤ 1048576) ∧ Below w.heap.size w w' := by
  unfold maxLen at hl
  by_cases hlong : left < l.length
  · go_enter Try.func78, Try.ntmps78
    go_wp2
    go_ret
    exact ⟨-1, rfl, by omega, .inl (by omega), Below.refl _ _⟩
  · have HR := hide hr
    clear hr
    go_enter Try.func78, Try.ntmps78
    go_wp2
    go_loopw [1, 5] (fun x i wr => ∃ (k : Nat) (r : Int), k ≤ l.length ∧ i = .int .i64 k ∧ x = .int .i64 r ∧ 0 ≤ r ∧ r ≤ left ∧ Below w.heap.size w wr) (fun _ i _ => l.length - (intOf i).toNat)
    case atStart => exact ⟨0, left - l.length, Nat.zero_le _, rfl, rfl, by omega, by omega, Below.refl _ _⟩
    case round =>
      obtain ⟨k, r, hk, rfl, rfl, hr0, hr1, hb⟩ := hrel
      by_cases hlt : k < l.length
      · obtain ⟨b, off, nn, tt, rfl, hbB, hv, htt, hki, d0, d1⟩ := (HR.out.kept (hb.mono hB)).at k hlt
        clear hv hki
        go_wp2_with fail
        refine (szWrite_any nn tt r hr0 (by omega) htt _).mono ?_
        rintro e w1 ⟨q, rfl, hq, hb1⟩
        have hb2 := hb.trans (hb1.mono hb.size)
        clear hb hb1 d0 d1
        by_cases hs : q < 0
        · go_wp2
          go_ret
          exact ⟨-1, rfl, by omega, .inl (by omega), hb2⟩
        · go_wp2
          go_roundw
          case rel => exact ⟨k + 1, q, by omega, by go_num, rfl, by omega, by omega, hb2⟩
          case measure => simp [intOf]; omega
      · go_wp2
        go_ret
        exact ⟨r, rfl, hr1, .inr ⟨hr0, by omega⟩, hb⟩
set_option maxHeartbeats 1000000 in
theorem szDisk_any (A B : Nat) (so : Option Addr) (p : Nat) (co : Option Addr) (q : Nat) (d : Dk) (left : Int) (w : World) (hB : B ≤ w.heap.size) (hr : DkRow w A B so co d) (h0 : 0 ≤ left) (h1 : left ≤ 1048576) :
    Calls Try.prog 28 #[.agg #[.slice so d.secs.length p, .slice co d.cache.length q], .int .i64 left] w fun e w' => ∃ r : Int, e = .returned (.int .i64 r) ∧ r ≤ left ∧ (r < 0 ∨ 0 ≤ r ∧ dkFits d) ∧ Below w.heap.size w w' := by
  obtain ⟨ss, cs⟩ := d
  obtain ⟨⟨hl1, hl2⟩, hs, hc⟩ := hr
  simp only at *
  have C1 := hide (fun (W : World) (hW : Below w.heap.size w W) => szStringS_any A B so p ss left W (Nat.le_trans hB hW.size) hl1 (hs.kept (hW.mono hB)) h0 h1)
  have C2 := hide (fun (r : Int) (W : World) (hW : Below w.heap.size w W) (hr0 : 0 ≤ r) (hr1 : r ≤ 1048576) => szWriteS_any A B co q cs r W (Nat.le_trans hB hW.size) hl2 (hc.kept (hW.mono hB)) hr0 hr1)
  have X0 := hide (heap_alloc_new w (.cells #[.slice so ss.length p, .slice co cs.length q] 51))
  have B0 := hide ((Below.refl w.heap.size w).alloc (Nat.le_refl _) (.cells #[.slice so ss.length p, .slice co cs.length q] 51))
  have HZ : Hid ((w.alloc (.cells #[.slice so ss.length p, .slice co cs.length q] 51)).heap.size = w.heap.size + 1) := by show _ = _; simp
  clear hs hc hl1 hl2
  go_enter Try.func28, Try.ntmps28
  go_wp2_with fail
  refine (C1.out _ B0.out).mono ?_
  generalize w.alloc (.cells #[.slice so ss.length p, .slice co cs.length q] 51) = W0 at *
  rintro e w1 ⟨r1, rfl, hr1, hcase, hb1⟩
  have X1 := hide ((hb1.block w.heap.size (by rw [HZ.out]; omega)).trans X0.out)
  have B1 := hide (B0.out.trans (hb1.mono B0.out.size))
  clear hb1 X0 B0 C1
  rcases hcase with hs | ⟨hs, hf1⟩
  · go_wp2
    go_ret
    exact ⟨-1, rfl, by omega, .inl (by omega), B1.out⟩
  · obtain ⟨x0, x1, xf⟩ := cells2 X1.out
    go_wp2_with fail
    refine (C2.out r1 _ B1.out hs (by omega)).mono ?_
    rintro e w2 ⟨r2, rfl, hr2, hcase, hb2⟩
    have B2 := hide (B1.out.trans (hb2.mono B1.out.size))
    clear hb2 X1 B1 C2 x0 x1 xf
    rcases hcase with hs2 | ⟨hs2, hf2⟩
    · go_wp2
      go_ret
      exact ⟨-1, rfl, by omega, .inl (by omega), B2.out⟩
    · have HF : Hid (dkFits ⟨ss, cs⟩) := ⟨hf1, hf2⟩
      go_wp2
      go_ret
      exact ⟨r2, rfl, by omega, .inr ⟨hs2, HF.out⟩, B2.out⟩
end Go.Proofs.Ytfhfhpnoeghgmaa

/-
  Is a disk right? Plain facts.
-/
namespace Go.Proofs.Ytfhfhpnoeghgmaa
open Go.RowKit
set_option maxRecDepth 100000

def secOk (d : Dk) (i : Nat) : Bool := decide ((d.secs.getD i ByteArray.empty).size = 64)
def wrOk (d : Dk) (i : Nat) : Bool := decide (0 ≤ (d.cache.getD i noWr).pos) && decide ((d.cache.getD i noWr).pos < (d.secs.length : Int)) && decide ((d.cache.getD i noWr).text.size = 64)
def dkRight (d : Dk) : Bool := decide (d.secs.length ≤ 700) && decide (d.cache.length ≤ 400) && upto (secOk d) d.secs.length && upto (wrOk d) d.cache.length
theorem dkRight_long {d : Dk} (h : 700 < d.secs.length ∨ 400 < d.cache.length) : dkRight d = false := by
  unfold dkRight
  rcases h with h | h
  · rw [show decide (d.secs.length ≤ 700) = false by simpa using h]; simp
  · rw [show decide (d.cache.length ≤ 400) = false by simpa using h]; simp
theorem dkRight_sec {d : Dk} {k : Nat} (hk : k < d.secs.length) (h : secOk d k = false) : dkRight d = false := by
  unfold dkRight; rw [upto_false hk h]; simp
theorem dkRight_wr {d : Dk} {k : Nat} (hk : k < d.cache.length) (h : wrOk d k = false) : dkRight d = false := by
  unfold dkRight; rw [upto_false hk h]; simp
theorem dkRight_yes {d : Dk} (h1 : d.secs.length ≤ 700) (h2 : d.cache.length ≤ 400) (h3 : upto (secOk d) d.secs.length = true) (h4 : upto (wrOk d) d.cache.length = true) : dkRight d = true := by
  unfold dkRight; rw [h3, h4]; simp [h1, h2]
theorem secOk_of {d : Dk} {i : Nat} {x : ByteArray} (hv : d.secs.getD i ByteArray.empty = x) : secOk d i = decide (x.size = 64) := by unfold secOk; rw [hv]
theorem wrOk_of {d : Dk} {i : Nat} {n : Int} {t : ByteArray} (hv : d.cache.getD i noWr = ⟨n, t⟩) : wrOk d i = (decide (0 ≤ n) && decide (n < (d.secs.length : Int)) && decide (t.size = 64)) := by unfold wrOk; rw [hv]
theorem upto_next {p : Nat → Bool} {k : Nat} (h : upto p k = true) (h' : p k = true) : upto p (k + 1) = true := by rw [upto_succ, h, h']; rfl

end Go.Proofs.Ytfhfhpnoeghgmaa

/-
  What a write to a disk comes to. Plain facts.
-/
namespace Go.Proofs.Ytfhfhpnoeghgmaa
open Go.RowKit
set_option maxRecDepth 100000

def dkWrite (d : Dk) (a : Int) (t : ByteArray) : Dk × Int :=
  if 20000 < t.size then (⟨[], []⟩, 2) else if dkRight d = false then (⟨[], []⟩, 1) else if a < 0 ∨ (d.secs.length : Int) - (many t : Int) < a then (⟨[], []⟩, 9)
  else if 400 < d.cache.length + many t then (⟨[], []⟩, 11) else (⟨d.secs, d.cache ++ wrsOf a t (many t)⟩, 0)
theorem dkWrite_2 {d : Dk} {a : Int} {t : ByteArray} (h : 20000 < t.size) : dkWrite d a t = (⟨[], []⟩, 2) := if_pos h
theorem dkWrite_1 {d : Dk} {a : Int} {t : ByteArray} (h : ¬ 20000 < t.size) (hr : dkRight d = false) : dkWrite d a t = (⟨[], []⟩, 1) := by unfold dkWrite; rw [if_neg h, if_pos hr]
theorem dkWrite_9 {d : Dk} {a : Int} {t : ByteArray} (h : ¬ 20000 < t.size) (hr : dkRight d = true) (h9 : a < 0 ∨ (d.secs.length : Int) - (many t : Int) < a) : dkWrite d a t = (⟨[], []⟩, 9) := by unfold dkWrite; rw [if_neg h, if_neg (by rw [hr]; simp), if_pos h9]
theorem dkWrite_11 {d : Dk} {a : Int} {t : ByteArray} (h : ¬ 20000 < t.size) (hr : dkRight d = true) (h9 : ¬ (a < 0 ∨ (d.secs.length : Int) - (many t : Int) < a)) (hf : 400 < d.cache.length + many t) : dkWrite d a t = (⟨[], []⟩, 11) := by unfold dkWrite; rw [if_neg h, if_neg (by rw [hr]; simp), if_neg h9, if_pos hf]
theorem dkWrite_0 {d : Dk} {a : Int} {t : ByteArray} (h : ¬ 20000 < t.size) (hr : dkRight d = true) (h9 : ¬ (a < 0 ∨ (d.secs.length : Int) - (many t : Int) < a)) (hf : ¬ 400 < d.cache.length + many t) : dkWrite d a t = (⟨d.secs, d.cache ++ wrsOf a t (many t)⟩, 0) := by unfold dkWrite; rw [if_neg h, if_neg (by rw [hr]; simp), if_neg h9, if_neg hf]
theorem dkRight_bounds {d : Dk} (h : dkRight d = true) : d.secs.length ≤ 700 ∧ d.cache.length ≤ 400 := by
  unfold dkRight at h
  simp only [Bool.and_eq_true, decide_eq_true_eq] at h
  exact ⟨h.1.1.1, h.1.1.2⟩
theorem ownD_emp (base : Nat) (w : World) : OwnD base (.slice none 0 0) (.slice none 0 0) ⟨[], []⟩ w := ⟨ownS_nil _ _, ownW_nil _ _, .inl rfl⟩
theorem resOut {fn : Func} {p : Tmp} (h : fn.results = #[.cell p 37]) (tmps : Array Value) (w : World) (g : Nat) (a b c d : Value) (hp : tmps.getD p undef = .pointer (some ⟨g, 0, none⟩))
    (hg : w.heap[g]? = some (.cells #[a, b, c, d] 37 (0, 0))) : (results fn tmps).run Try.prog w = .ok (.agg #[a, b, c, d]) w :=
  results_cell_row h tmps w g 37 #[a, b, c, d] (0, 0) _ hp hg Try.underlying37 rfl (by kernel_rfl)
theorem set4w {W : World} {g : Nat} {a b c d x y z u : Value} {t : TypeId} (h : W.heap[g]? = some (.cells #[a, b, c, d] t (0, 0))) :
    ((((W.setCell ⟨g, 0, none⟩ x).setCell ⟨g, 1, none⟩ y).setCell ⟨g, 2, none⟩ z).setCell ⟨g, 3, none⟩ u).heap[g]? = some (.cells #[x, y, z, u] t (0, 0)) := by
  have h1 := heap_setCell_same W g 0 _ t x h
  have h2 := heap_setCell_same _ g 1 _ t y h1
  have h3 := heap_setCell_same _ g 2 _ t z h2
  have h4 := heap_setCell_same _ g 3 _ t u h3
  simpa using h4
end Go.Proofs.Ytfhfhpnoeghgmaa

/-
  Regions that draw their order: an operation taken first, its slot named; a row of operations passed over whose guards say no.
-/
namespace Go.Proofs.Ytfhfhpnoeghgmaa
open Go.RowKit

section
variable {P : Program} {ops : Array Oper} {Q : Exit → Act → World → Prop} {md : Region.Mode} {S : World → Prop}

theorem takeD (i d : Nat) {oi : Oper} {v : Value} {fuel : Nat} {listed : Array Bool} {a : Act} {w : World} (hi : ops[i]? = some oi) (hd : oi.dst = some d)
    (hs : Region.noSelect ops = true) (hf : Region.free md ops listed i = true) (hr : (Region.ready md ops listed).contains i = true)
    (hQ : ∀ c a w, Q (.panic c) (a.put oi.dst v) w → Q (.panic c) a w) (hw : Region.wanted oi (yielded ops a.tmps) = true) (hy : ∀ w, S w → (execOp a.eval oi).run P w = .ok (.value v) w) (hS : S w)
    (h : wpAnyH P md ops Q S fuel (listed.setIfInBounds i true) (a.put (some d) v) w) : wpAnyH P md ops Q S (fuel + 1) listed a w :=
  wpAnyH_take hi hs hf hr hQ (.inl ⟨hw, hy⟩) hS (by rw [hd]; exact h)
def putAll (a : Act) (l : List (Nat × Nat)) : Act := l.foldl (fun a p => a.put (some p.2) undef) a
def listAll (b : Array Bool) (l : List (Nat × Nat)) : Array Bool := l.foldl (fun b p => b.setIfInBounds p.1 true) b
/-- May these come up one behind the other, and do their guards all say no? -/
def skipOk (md : Region.Mode) (ops : Array Oper) : List (Nat × Nat) → Array Bool → Act → Bool
  | [], _, _ => true
  | (i, d) :: r, b, a => (match ops[i]? with | some o => (o.dst == some d) && !(Region.wanted o (yielded ops a.tmps)) | none => false) && Region.free md ops b i && (Region.ready md ops b).contains i && skipOk md ops r (b.setIfInBounds i true) (a.put (some d) undef)
theorem skipAll (l : List (Nat × Nat)) (hs : Region.noSelect ops = true) (hQ : ∀ c d v a w, Q (.panic c) (Act.put a d v) w → Q (.panic c) a w) {w : World} (hS : S w) :
    ∀ {fuel : Nat} {listed : Array Bool} {a : Act}, skipOk md ops l listed a = true → wpAnyH P md ops Q S fuel (listAll listed l) (putAll a l) w → wpAnyH P md ops Q S (fuel + l.length) listed a w := by
  induction l with
  | nil => intro fuel listed a _ h; exact h
  | cons p r ih =>
    intro fuel listed a hok h
    obtain ⟨i, d⟩ := p
    simp only [skipOk, Bool.and_eq_true] at hok
    obtain ⟨⟨⟨h1, h2⟩, h3⟩, h4⟩ := hok
    cases ho : ops[i]? with
    | none => rw [ho] at h1; cases h1
    | some o =>
      rw [ho] at h1
      simp only [Bool.and_eq_true, beq_iff_eq, Bool.not_eq_true'] at h1
      have := ih h4 h
      exact wpAnyH_take (i := i) (oi := o) (v := undef) ho hs h2 h3 (fun c a w => hQ c _ _ a w) (.inr ⟨h1.2, rfl⟩) hS (by rw [h1.1]; exact this)
end
end Go.Proofs.Ytfhfhpnoeghgmaa

/-
  Contracts: slices.Clone of texts and of writes: rows of their own.
-/
namespace Go.Proofs.Ytfhfhpnoeghgmaa
open Go.RowKit
set_option maxRecDepth 100000

set_option maxHeartbeats 2000000 in
theorem cloneStr_own (b : Nat) (v : Value) (l : List ByteArray) (w : World) (hl : l.length ≤ 1048576) (h : OwnS b v l w) :
    Calls Try.prog 106 #[v] w fun e w' => ∃ v', e = .returned v' ∧ OwnS w.heap.size v' l w' ∧ Below w.heap.size w w' := by
  obtain ⟨i0, hi, hz0, hz1, hz2⟩ := info_parts Try.infoStr'
  have qn : ∀ (w : World) (a : Option Addr) (n c n' c' : Nat), (binOp .eql 23 (.slice a n c) (.slice none n' c')).run Try.prog w = .ok (.bool a.isNone) w := fun w a n c n' c' => Lib.run_eql_slice_nil w _ _ a n c n' c' Try.underlying23
  rcases h.2 with ⟨rfl, h0⟩ | ⟨g, cap, cur, rfl, _⟩
  · obtain rfl : l = [] := List.eq_nil_of_length_eq_zero h0
    go_enter Try.func106, Try.ntmps106
    go_wp2
    go_ret
    exact ⟨_, rfl, ownS_nil _ _, Below.refl _ _⟩
  · have BA := (Below.refl w.heap.size w).alloc (Nat.le_refl _) (.cells #[] 9)
    have hown : (w.alloc (.cells #[] 9)).ownsRow w.heap.size 9 1 (.slice (some ⟨w.heap.size, 0, none⟩) 0 0) 0 [] := own_empty (heap_alloc_new _ _) (Nat.le_refl _)
    have HS := hide (owns_below h BA)
    have HB := hide BA
    have HB63 : Hid (0 + l.length ≤ maxLen ∧ (0 + l.length) * 16 ≤ 140737488355328) := by show _ ∧ _; unfold maxLen; omega
    clear h BA
    go_enter Try.func106, Try.ntmps106
    go_wp2_with (at_builtin; refine wpList_app_own rfl _ _ 23 rfl w.heap.size b 9 i0 (.string ⟨#[]⟩) 1 16 Try.underlying23 hi hz0 hz1 hz2 rfl (by decide) _ 0 [] rfl hown _ _ _ rfl HS.out (strsV_one _) HB63.out.1 HB63.out.2 (by simp) ?_; intro v5 w5 o5 g5 l5)
    have O5 : Hid (OwnS w.heap.size v5 l w5) := by show OwnS _ _ _ _; simpa [OwnS] using o5
    have B5 := hide (HB.out.grown g5 (by simp) (fun j hj => Nat.le_of_eq (Option.some.inj (show some w.heap.size = some j from hj))))
    clear o5 g5 l5 hown
    obtain ⟨ao, cp, rfl⟩ := ownS_shape O5.out
    go_wp2
    go_ret
    exact ⟨_, rfl, O5.out, B5.out⟩
set_option maxHeartbeats 2000000 in
theorem cloneWrs_own (b : Nat) (v : Value) (l : List Wr) (w : World) (hl : l.length ≤ 1048576) (h : OwnW b v l w) :
    Calls Try.prog 107 #[v] w fun e w' => ∃ v', e = .returned v' ∧ OwnW w.heap.size v' l w' ∧ Below w.heap.size w w' := by
  obtain ⟨i0, hi, hz0, hz1, hz2⟩ := info_parts Try.infoWr
  have qn : ∀ (w : World) (a : Option Addr) (n c n' c' : Nat), (binOp .eql 24 (.slice a n c) (.slice none n' c')).run Try.prog w = .ok (.bool a.isNone) w := fun w a n c n' c' => Lib.run_eql_slice_nil w _ _ a n c n' c' Try.underlying24
  rcases h.2 with ⟨rfl, h0⟩ | ⟨g, cap, cur, rfl, _⟩
  · obtain rfl : l = [] := List.eq_nil_of_length_eq_zero h0
    go_enter Try.func107, Try.ntmps107
    go_wp2
    go_ret
    exact ⟨_, rfl, ownW_nil _ _, Below.refl _ _⟩
  · have BA := (Below.refl w.heap.size w).alloc (Nat.le_refl _) (.cells #[] 122)
    have hown : (w.alloc (.cells #[] 122)).ownsRow w.heap.size 122 2 (.slice (some ⟨w.heap.size, 0, none⟩) 0 0) 0 [] := own_empty (heap_alloc_new _ _) (Nat.le_refl _)
    have HS := hide (owns_below h BA)
    have HB := hide BA
    have HB63 : Hid (0 + l.length ≤ maxLen ∧ (0 + l.length) * 24 ≤ 140737488355328) := by show _ ∧ _; unfold maxLen; omega
    clear h BA
    go_enter Try.func107, Try.ntmps107
    go_wp2_with (at_builtin; refine wpList_app_own rfl _ _ 24 rfl w.heap.size b 122 i0 (.agg #[.int .i64 0, .string ⟨#[]⟩]) 2 24 Try.underlying24 hi hz0 hz1 hz2 rfl (by decide) _ 0 [] rfl hown _ _ _ rfl HS.out (flatW_one _) HB63.out.1 HB63.out.2 (by simp) ?_; intro v5 w5 o5 g5 l5)
    have O5 : Hid (OwnW w.heap.size v5 l w5) := by show OwnW _ _ _ _; simpa [OwnW] using o5
    have B5 := hide (HB.out.grown g5 (by simp) (fun j hj => Nat.le_of_eq (Option.some.inj (show some w.heap.size = some j from hj))))
    clear o5 g5 l5 hown
    obtain ⟨ao, cp, rfl⟩ := ownW_shape O5.out
    go_wp2
    go_ret
    exact ⟨_, rfl, O5.out, B5.out⟩
set_option maxHeartbeats 4000000 in
theorem copyDisk_own (b : Nat) (s c : Value) (d : Dk) (w : World) (hf : dkFits d) (h : OwnD b s c d w) :
    Calls Try.prog 67 #[.agg #[s, c]] w fun e w' => ∃ s' c', e = .returned (.agg #[s', c']) ∧ OwnD w.heap.size s' c' d w' ∧ Below w.heap.size w w' := by
  have HSC := hide (fun W (hb : Below w.heap.size w W) => cloneStr_own b s d.secs W hf.1 (owns_below h.secs hb))
  have HWC := hide (fun W (hb : Below w.heap.size w W) => cloneWrs_own b c d.cache W hf.2 (owns_below h.cache hb))
  obtain ⟨so, p, co, q, rfl, rfl⟩ := h.shape
  obtain ⟨ss, cs⟩ := d
  simp only at *
  have C0 := hide (CI.start w (.slice so ss.length p) (.slice co cs.length q))
  clear h hf
  obtain ⟨x0, x1, xf⟩ := cells2 C0.out.par
  obtain ⟨y0, y1, yf⟩ := cells2 C0.out.res
  go_enter Try.func67, Try.ntmps67
  go_wp2
  have C1 := hide C0.out.drew
  clear C0 x0 x1 xf y0 y1 yf
  generalize (w.alloc (.cells #[.slice so ss.length p, .slice co cs.length q] 26)).alloc (.cells #[.slice none 0 0, .slice none 0 0] 26) = W0 at *
  refine wp_region_noPanic ?_
  refine wp_region_held_drew (S := fun W => W.heap[w.heap.size]? = some (.cells #[.slice so ss.length p, .slice co cs.length q] 26 (0, 0))) (by kernel_rfl) C1.out.par (fun hS1 => ?_)
  generalize W0.drew = W1 at *
  refine takeD 0 3 (v := ?v1) rfl rfl (by kernel_rfl) (by kernel_rfl) (by kernel_rfl) (fun _ _ _ h => h) (by kernel_rfl) ?hy1 (by assumption) ?r1
  case hy1 => (intro W hSw; obtain ⟨x0, x1, xf⟩ := cells2 (hSw); go_simp; try with_reducible rfl)
  simp only [Act.put, List.setIfInBounds_toArray, List.set_cons_zero, List.set_cons_succ]
  refine takeD 1 4 (v := ?v2) rfl rfl (by kernel_rfl) (by kernel_rfl) (by kernel_rfl) (fun _ _ _ h => h) (by kernel_rfl) ?hy2 (by assumption) ?r2
  case hy2 => (intro W hSw; obtain ⟨x0, x1, xf⟩ := cells2 (hSw); go_simp; try with_reducible rfl)
  simp only [Act.put, List.setIfInBounds_toArray, List.set_cons_zero, List.set_cons_succ]
  refine takeD 3 6 (v := ?v3) rfl rfl (by kernel_rfl) (by kernel_rfl) (by kernel_rfl) (fun _ _ _ h => h) (by kernel_rfl) ?hy3 (by assumption) ?r3
  case hy3 => (intro W hSw; obtain ⟨x0, x1, xf⟩ := cells2 (hSw); go_simp; try with_reducible rfl)
  simp only [Act.put, List.setIfInBounds_toArray, List.set_cons_zero, List.set_cons_succ]
  refine takeD 4 7 (v := ?v4) rfl rfl (by kernel_rfl) (by kernel_rfl) (by kernel_rfl) (fun _ _ _ h => h) (by kernel_rfl) ?hy4 (by assumption) ?r4
  case hy4 => (intro W hSw; obtain ⟨x0, x1, xf⟩ := cells2 (hSw); go_simp; try with_reducible rfl)
  simp only [Act.put, List.setIfInBounds_toArray, List.set_cons_zero, List.set_cons_succ]
  refine wpAnyH_ready (rs := [2]) (by kernel_rfl) (by simp) ?_
  refine AllReadyH.cons (o := _) rfl (fun K hK => ?_) AllReadyH.nil
  go_simp
  go_at_call 106
  refine (HSC.out _ C1.out.below).mono ?_
  rintro e W2 ⟨v2, rfl, o2, b2⟩
  have C2 := hide (C1.out.cloneS o2 b2)
  obtain ⟨so', p', hs'⟩ := ownS_shape o2
  subst hs'
  clear o2 b2
  go_wp2_with fail
  refine hK.out _ _ C2.out.par (fun hS2 => ?_)
  clear hK K
  refine wpAnyH_ready (rs := [5]) (by kernel_rfl) (by simp) ?_
  refine AllReadyH.cons (o := _) rfl (fun K hK => ?_) AllReadyH.nil
  go_simp
  go_at_call 107
  refine (HWC.out _ C2.out.below).mono ?_
  rintro e W3 ⟨v3, rfl, o3, b3⟩
  have C3 := hide (C2.out.cloneW o3 b3)
  obtain ⟨co', q', hc'⟩ := ownW_shape o3
  subst hc'
  clear o3 b3
  go_wp2_with fail
  refine hK.out _ _ C3.out.par (fun hS3 => ?_)
  clear hK K
  refine takeD 6 9 (v := ?v5) rfl rfl (by kernel_rfl) (by kernel_rfl) (by kernel_rfl) (fun _ _ _ h => h) (by kernel_rfl) ?hy5 (by assumption) ?r5
  case hy5 => (intro W hSw; go_simp; try with_reducible rfl)
  simp only [Act.put, List.setIfInBounds_toArray, List.set_cons_zero, List.set_cons_succ]
  refine wpAnyH_ready (rs := [7]) (by kernel_rfl) (by simp) ?_
  refine AllReadyH.cons (o := _) rfl (fun K hK => ?_) AllReadyH.nil
  obtain ⟨y0, y1, yf⟩ := cells2 C3.out.res
  go_simp
  refine hK.out _ _ C3.out.par2 (fun hS => ?_)
  clear hK K
  refine wpAnyH_done (by kernel_rfl) ?_ _
  refine NoPanic.normal ?_
  go_wp2
  exact bodyPost_ret (v := .agg #[.slice so' ss.length p', .slice co' cs.length q']) (resDisk Try.results67 _ _ (w.heap.size + 1) _ _ rfl (set2 C3.out.res)) rfl ⟨_, _, rfl, C3.out.out2.1, C3.out.out2.2⟩
end Go.Proofs.Ytfhfhpnoeghgmaa

/-
  A disk's variable whose cache is appended to. Plain laws.
-/
namespace Go.Proofs.Ytfhfhpnoeghgmaa
open Go.RowKit
set_option maxRecDepth 100000

theorem own_shape' {base n size : Nat} {t : TypeId} {v : Value} {xs : List Value} {w : World} (h : w.ownsRow base t size v n xs) : ∃ ao cap, v = .slice ao n cap := by
  rcases h.2 with ⟨h1, h2⟩ | ⟨g, cap, cur, h1, _⟩
  · exact ⟨none, 0, by rw [h1, h2]⟩
  · exact ⟨_, _, h1⟩
/-- The variable lies in block g, the result's in block w.heap.size + 1; the variable's lists are its own, in blocks below g at first. -/
structure GI (w : World) (g : Nat) (s c c0 : Value) (n2 : Nat) (d : Dk) (W : World) : Prop where
  below : Below w.heap.size w W
  var : W.heap[g]? = some (.cells #[s, c0] 26 (0, 0))
  res : W.heap[w.heap.size + 1]? = some (.cells #[.slice none 0 0, .slice none 0 0, .string ⟨#[]⟩, .int .i64 0] 37 (0, 0))
  own : OwnD (w.heap.size + 2) s c d W
  num : n2 = d.cache.length
  far : (∀ b, s.ownBlock = some b → b ≠ g) ∧ (∀ b, c.ownBlock = some b → b ≠ g)
  gap : w.heap.size + 2 ≤ g
section
variable {w w2 w3 W W' : World} {g n2 m : Nat} {s c c0 v : Value} {d : Dk} {k : List Wr}
theorem GI.lt (h : GI w g s c c0 n2 d W) : w.heap.size + 2 ≤ W.heap.size := by have := (Array.getElem?_eq_some_iff.1 h.var).1; have := h.gap; omega
theorem GI.start (hb : Below w.heap.size w w2) (hl : w.heap.size + 1 < w2.heap.size) (hy : w2.heap[w.heap.size + 1]? = some (.cells #[.slice none 0 0, .slice none 0 0, .string ⟨#[]⟩, .int .i64 0] 37 (0, 0)))
    (ho : OwnD w2.heap.size s c d w3) (h3 : Below w2.heap.size w2 w3) (hn : n2 = d.cache.length) : GI w w3.heap.size s c c n2 d (w3.alloc (.cells #[s, c] 26)) := by
  have hz := h3.size
  have hk := (Below.refl w3.heap.size w3).alloc (Nat.le_refl _) (.cells #[s, c] 26)
  exact ⟨(hb.trans (h3.mono hb.size)).trans (hk.mono (by omega)), heap_alloc_new _ _, (heap_old _ _ _ (by omega)).trans ((h3.block _ hl).trans hy), (ho.below hk).base (by omega), hn, ⟨fun b hb => by have := (ho.lt.1 b hb).2; omega, fun b hb => by have := (ho.lt.2 b hb).2; omega⟩, by omega⟩
theorem GI.keep (h : GI w g s c c0 n2 d W) (hb : Below W.heap.size W W') : GI w g s c c0 n2 d W' :=
  ⟨h.below.trans (hb.mono h.below.size), (hb.block _ (Array.getElem?_eq_some_iff.1 h.var).1).trans h.var, (hb.block _ (Array.getElem?_eq_some_iff.1 h.res).1).trans h.res, h.own.below hb, h.num, h.far, h.gap⟩
theorem GI.drew (h : GI w g s c c0 n2 d W) : GI w g s c c0 n2 d W.drew := h.keep (Below.refl _ _).drew
theorem GI.cacheN (h : GI w g s c c0 n2 d W) : W.ownsRow (w.heap.size + 2) 122 2 c n2 (flatW d.cache) := by
  have := h.own.cache
  unfold OwnW at this
  rwa [← h.num] at this
theorem GI.app (h : GI w g s c c0 n2 d W) (ho : W'.ownsRow (w.heap.size + 2) 122 2 v (n2 + m) (flatW d.cache ++ flatW k)) (hg : W.grownBy W' c.ownBlock) (hl : v.ownBlock = c.ownBlock ∨ v.ownBlock = some W.heap.size) (hn : n2 = d.cache.length) (hk : k.length = m) :
    GI w g s v c0 (n2 + m) ⟨d.secs, d.cache ++ k⟩ W' := by
  have hgv := (Array.getElem?_eq_some_iff.1 h.var).1
  have hgr := (Array.getElem?_eq_some_iff.1 h.res).1
  refine ⟨h.below.grown hg h.below.size (fun b hb => by have := (h.own.lt.2 b hb).1; omega), (hg.block g hgv (fun e => h.far.2 g e.symm rfl)).trans h.var, (hg.block _ hgr (fun e => by have := (h.own.lt.2 _ e.symm).1; omega)).trans h.res, ⟨World.ownsRow.kept h.own.secs hg h.own.apart, ?_, ?_⟩, by simp [hn, hk], ⟨h.far.1, fun b hb => ?_⟩, h.gap⟩
  · unfold OwnW
    rw [flatW_append, List.length_append, ← hn, hk]
    exact ho
  · rcases hl with e | e
    · rw [e]; exact h.own.apart
    · rw [e]; exact .inr (fun e' => ne_new (fun b hb => (h.own.lt.1 b hb).2) e')
  · rcases hl with e | e
    · rw [e] at hb; exact h.far.2 b hb
    · rw [e] at hb
      have := Option.some.inj hb
      omega
theorem own_ne {W : World} {base g m n size : Nat} {v x : Value} {xs : List Value} {t : TypeId} (h : W.ownsRow base t size v n xs) (hg : ∀ b, v.ownBlock = some b → b ≠ g) : (W.setCell ⟨g, m, none⟩ x).ownsRow base t size v n xs := by
  refine ⟨h.1, ?_⟩
  rcases h.2 with h0 | ⟨q, cap, cur, rfl, hB, hq, hn, hm, hs, ht⟩
  · exact .inl h0
  · exact .inr ⟨q, cap, cur, rfl, hB, by rw [heap_setCell_other _ _ _ _ (show q ≠ g from hg q rfl)]; exact hq, hn, hm, hs, ht⟩
theorem GI.set (h : GI w g s c c0 n2 d W) : (W.setCell ⟨g, 1, none⟩ c).heap[g]? = some (.cells #[s, c] 26 (0, 0)) ∧ (W.setCell ⟨g, 1, none⟩ c).heap[w.heap.size + 1]? = some (.cells #[.slice none 0 0, .slice none 0 0, .string ⟨#[]⟩, .int .i64 0] 37 (0, 0)) ∧ OwnD (w.heap.size + 2) s c d (W.setCell ⟨g, 1, none⟩ c) ∧ Below w.heap.size w (W.setCell ⟨g, 1, none⟩ c) := by
  have hgap := h.gap
  refine ⟨?_, (heap_far _ _ _ _ _ (by omega)).trans h.res, ⟨own_ne h.own.secs h.far.1, own_ne h.own.cache h.far.2, h.own.apart⟩, h.below.setCell (by simp; omega) _⟩
  have := heap_setCell_same W g 1 _ _ c h.var
  simpa using this
theorem GI.put (h : GI w g s c c0 n2 d W) : GI w g s c c n2 d (W.setCell ⟨g, 1, none⟩ c) :=
  ⟨h.set.2.2.2, h.set.1, h.set.2.1, h.set.2.2.1, h.num, h.far, h.gap⟩
end
end Go.Proofs.Ytfhfhpnoeghgmaa

/-
  Contract: is a disk right? The program's answer.
-/
namespace Go.Proofs.Ytfhfhpnoeghgmaa
open Go.RowKit
set_option maxRecDepth 100000

theorem writeRight_any (n : Int) (t : ByteArray) (m : Int) (w : World) :
    Calls Try.prog 99 #[.agg #[.int .i64 n, .string t], .int .i64 m] w fun e w' => e = .returned (.bool (decide (0 ≤ n) && decide (n < m) && decide (t.size = 64))) ∧ Below w.heap.size w w' := by
  have B0 := hide ((Below.refl w.heap.size w).alloc (Nat.le_refl _) (.cells #[.int .i64 n, .string t] 122))
  by_cases h0 : 0 ≤ n
  · by_cases h1 : n < m
    · by_cases h2 : t.size = 64
      · have h2' : (t.size : Int) = 64 := by omega
        go_enter Try.func99, Try.ntmps99
        go_wp2
        go_ret
        exact ⟨ret_bool (by simp [h0, h1, h2]), B0.out⟩
      · have h2' : ¬ (t.size : Int) = 64 := by omega
        go_enter Try.func99, Try.ntmps99
        go_wp2
        go_ret
        exact ⟨ret_bool (by simp [h0, h1, h2, h2']), B0.out⟩
    · go_enter Try.func99, Try.ntmps99
      go_wp2
      go_ret
      exact ⟨ret_bool (by simp; intros; omega), B0.out⟩
  · go_enter Try.func99, Try.ntmps99
    go_wp2
    go_ret
    exact ⟨ret_bool (by simp; intros; omega), B0.out⟩
set_option maxHeartbeats 4000000 in
theorem implDiskRight_any (A B : Nat) (so : Option Addr) (p : Nat) (co : Option Addr) (q : Nat) (d : Dk) (w : World) (hB : B ≤ w.heap.size) (hr : DkRow w A B so co d) :
    Calls Try.prog 55 #[.agg #[.slice so d.secs.length p, .slice co d.cache.length q]] w fun e w' => e = .returned (.bool (dkRight d)) ∧ Below w.heap.size w w' := by
  have HL := hide (fun h => dkRight_long (d := d) h)
  have HSN := hide (fun k (x : ByteArray) (hk : k < d.secs.length) (hv : d.secs.getD k ByteArray.empty = x) (hx : ¬ x.size = 64) => dkRight_sec hk (by rw [secOk_of hv]; simpa using hx))
  have HSY := hide (fun k (x : ByteArray) (h : upto (secOk d) k = true) (hv : d.secs.getD k ByteArray.empty = x) (hx : x.size = 64) => upto_next h (by rw [secOk_of hv]; simpa using hx))
  have HWN := hide (fun k (n : Int) (t : ByteArray) (hk : k < d.cache.length) (hv : d.cache.getD k noWr = ⟨n, t⟩) (hx : n < 0 ∨ (d.secs.length : Int) ≤ n ∨ ¬ t.size = 64) => dkRight_wr hk (by rw [wrOk_of hv]; rcases hx with h | h | h <;> simp <;> omega))
  have HWY := hide (fun k (n : Int) (t : ByteArray) (h : upto (wrOk d) k = true) (hv : d.cache.getD k noWr = ⟨n, t⟩) (h0 : 0 ≤ n) (h1 : n < (d.secs.length : Int)) (hx : t.size = 64) => upto_next h (by rw [wrOk_of hv]; simp [h0, h1, hx]))
  have HYES := hide (fun h1 h2 h3 h4 => dkRight_yes (d := d) h1 h2 h3 h4)
  have HU1 : Hid (upto (secOk d) 0 = true) := rfl
  have HU2 : Hid (upto (wrOk d) 0 = true) := rfl
  generalize dkRight d = R at *
  generalize secOk d = SO at *
  generalize wrOk d = WO at *
  obtain ⟨ss, cs⟩ := d
  obtain ⟨⟨hl1, hl2⟩, hs, hc⟩ := hr
  simp only at *
  have HS := hide hs
  have HC := hide hc
  clear hs hc
  unfold maxLen at hl1 hl2
  have B0 := hide ((Below.refl w.heap.size w).alloc (Nat.le_refl _) (.cells #[.slice so ss.length p, .slice co cs.length q] 26))
  have X0 := hide (heap_alloc_new w (.cells #[.slice so ss.length p, .slice co cs.length q] 26))
  by_cases hlong : 700 < ss.length ∨ 400 < cs.length
  · have HF := hide (HL.out hlong)
    clear HSN HSY HWN HWY HYES HL HU1 HU2 X0
    rcases hlong with h | h
    · go_enter Try.func55, Try.ntmps55
      go_wp2
      go_ret
      exact ⟨ret_bool HF.out.symm, B0.out⟩
    · by_cases h1 : 700 < ss.length
      · go_enter Try.func55, Try.ntmps55
        go_wp2
        go_ret
        exact ⟨ret_bool HF.out.symm, B0.out⟩
      · go_enter Try.func55, Try.ntmps55
        go_wp2
        go_ret
        exact ⟨ret_bool HF.out.symm, B0.out⟩
  · have h1 : ¬ 700 < ss.length := by omega
    have h2 : ¬ 400 < cs.length := by omega
    clear hlong HL
    go_enter Try.func55, Try.ntmps55
    go_wp2
    have Z0 : Hid ((w.alloc (.cells #[.slice so ss.length p, .slice co cs.length q] 26)).heap.size = w.heap.size + 1) := by show _ = _; simp
    generalize w.alloc (.cells #[.slice so ss.length p, .slice co cs.length q] 26) = W0 at *
    obtain ⟨x0, x1, xf⟩ := cells2 X0.out
    go_loop [20] (fun i => ∃ k : Nat, k ≤ ss.length ∧ i = .int .i64 k ∧ Hid (upto SO k = true)) (fun i => ss.length - (intOf i).toNat)
    case atStart => exact ⟨0, Nat.zero_le _, rfl, HU1⟩
    case round =>
      obtain ⟨k, hk, rfl, HU⟩ := hrel
      by_cases hlt : k < ss.length
      · obtain ⟨b, off, x, rfl, hbB, hv, hx, d0⟩ := (HS.out.kept (B0.out.mono hB)).at k hlt
        unfold maxLen at hx
        by_cases h64 : x.size = 64
        · have HU2' := hide (HSY.out k x HU.out hv h64)
          have h64' : (x.size : Int) = 64 := by omega
          clear hv HSN HSY HWN HWY HYES HU HU1 HU2 h64
          go_wp2
          go_round
          case rel => exact ⟨k + 1, by omega, by go_num, HU2'⟩
          case measure => simp [intOf]; omega
        · have HF := hide (HSN.out k x hlt hv h64)
          have h64' : ¬ (x.size : Int) = 64 := by omega
          clear hv HSN HSY HWN HWY HYES HU HU1 HU2 h64
          go_wp2
          go_ret
          exact ⟨ret_bool HF.out.symm, B0.out⟩
      · obtain rfl : k = ss.length := by omega
        have HUS := HU
        clear HU HSN HSY HU1 HS
        go_wp2
        go_loopw [31] (fun i wr => ∃ k : Nat, k ≤ cs.length ∧ i = .int .i64 k ∧ Hid (upto WO k = true) ∧ Below W0.heap.size W0 wr) (fun i _ => cs.length - (intOf i).toNat)
        case atStart => exact ⟨0, Nat.zero_le _, rfl, HU2, Below.refl _ _⟩
        case round =>
          obtain ⟨k, hk, rfl, HU, hb⟩ := hrel
          have X1 := hide ((hb.block w.heap.size (by rw [Z0.out]; omega)).trans X0.out)
          have B1 := hide (B0.out.trans (hb.mono B0.out.size))
          obtain ⟨x0, x1, xf⟩ := cells2 X1.out
          by_cases hlt : k < cs.length
          · obtain ⟨b, off, nn, tt, rfl, hbB, hv, htt, hki, d0, d1⟩ := (HC.out.kept (B1.out.mono hB)).at k hlt
            have hq1 : b < wr.heap.size := by have := B1.out.size; omega
            have hz1 : w.heap.size < wr.heap.size := by have := hb.size; have := Z0.out; omega
            unfold maxLen at htt
            unfold wI64 at hki
            have B2 := hide ((hb.alloc hb.size (.cells #[.int .i64 nn, .string tt] 122)))
            have B3 := hide (B0.out.trans (B2.out.mono B0.out.size))
            have hql : ((ss.length : Nat) : Int) ≤ maxLen := by unfold maxLen; omega
            have HC2 := hide (fun W => writeRight_any nn tt ss.length W)
            by_cases hbad : nn < 0 ∨ (ss.length : Int) ≤ nn ∨ ¬ tt.size = 64
            · have HF := hide (HWN.out k nn tt hlt hv hbad)
              have HCB : Hid ((decide (0 ≤ nn) && decide (nn < (ss.length : Int)) && decide (tt.size = 64)) = false) := by show _ = _; rcases hbad with h | h | h <;> simp <;> intros <;> omega
              rw [HCB.out] at HC2
              clear hv HWN HWY HYES HU HU2 B1 hb HUS hbad HCB
              go_wp2_with (go_at_call 99; refine (HC2.out _).mono ?_; rintro e w2 ⟨rfl, hb2⟩; have B4 := hide (B3.out.trans (hb2.mono B3.out.size)))
              go_ret
              exact ⟨ret_bool HF.out.symm, B4.out⟩
            · have HU3 := hide (HWY.out k nn tt HU.out hv (by omega) (by omega) (by omega))
              have HCB : Hid ((decide (0 ≤ nn) && decide (nn < (ss.length : Int)) && decide (tt.size = 64)) = true) := by show _ = _; simp; omega
              rw [HCB.out] at HC2
              clear hv HWN HWY HYES HU HU2 B1 hb HUS hbad HCB
              go_wp2_with (go_at_call 99; refine (HC2.out _).mono ?_; rintro e w2 ⟨rfl, hb2⟩; have B4 := hide (B2.out.trans (hb2.mono B2.out.size)))
              go_roundw
              case rel => exact ⟨k + 1, by omega, by go_num, HU3, B4.out⟩
              case measure => simp [intOf]; omega
          · obtain rfl : k = cs.length := by omega
            have HF := hide (HYES.out (by omega) (by omega) HUS.out HU.out)
            clear HWN HWY HYES HU HU2 hb HUS
            go_wp2
            go_ret
            exact ⟨ret_bool HF.out.symm, B1.out⟩
end Go.Proofs.Ytfhfhpnoeghgmaa

/-
  Contract: DiskWrite of the program.
-/
namespace Go.Proofs.Ytfhfhpnoeghgmaa
open Go.RowKit
set_option maxRecDepth 100000

theorem areThere_any (so : Option Addr) (p n1 : Nat) (co : Option Addr) (q n2 : Nat) (a m : Int) (h1 : n1 ≤ 700) (h2 : 0 ≤ m) (h3 : m ≤ 100000) (w : World) :
    Calls Try.prog 84 #[.agg #[.slice so n1 p, .slice co n2 q], .int .i64 a, .int .i64 m] w fun e w' => e = .returned (.bool (decide (0 ≤ a) && decide (a ≤ (n1 : Int) - m))) ∧ Below w.heap.size w w' := by
  have B0 := hide ((Below.refl w.heap.size w).alloc (Nat.le_refl _) (.cells #[.slice so n1 p, .slice co n2 q] 26))
  by_cases h0 : 0 ≤ a
  · go_enter Try.func84, Try.ntmps84
    go_wp2
    go_ret
    exact ⟨ret_bool (by simp [h0]), B0.out⟩
  · go_enter Try.func84, Try.ntmps84
    go_wp2
    go_ret
    exact ⟨ret_bool (by simp; intros; omega), B0.out⟩
set_option maxHeartbeats 8000000 in
theorem implDiskWrite_any (b : Nat) (s c : Value) (d : Dk) (a : Int) (t : ByteArray) (w : World) (hi : dkIn d) (hf : dkFits d) (ht : t.size ≤ 1048576) (h : OwnD b s c d w) :
    Calls Try.prog 31 #[.agg #[s, c], .int .i64 a, .string t] w fun e w' => ∃ s' c', e = .returned (.agg #[s', c', .string ⟨#[]⟩, .int .i64 (dkWrite d a t).2]) ∧ OwnD w.heap.size s' c' (dkWrite d a t).1 w' ∧ Below w.heap.size w w' := by
  obtain ⟨so, p, co, q, rfl, rfl, hr⟩ := h.row hi
  obtain ⟨n1, hn1⟩ : ∃ n, n = d.secs.length := ⟨_, rfl⟩
  obtain ⟨n2, hn2⟩ : ∃ n, n = d.cache.length := ⟨_, rfl⟩
  have HN := hide (And.intro hn1 hn2)
  have HP := hide (fun W => piecesOf_any t ht W)
  have HA := two_allocs w (.cells #[.slice so n1 p, .slice co n2 q] 26) (.cells #[.slice none 0 0, .slice none 0 0, .string ⟨#[]⟩, .int .i64 0] 37)
  have B0 := hide (((Below.refl w.heap.size w).alloc (Nat.le_refl _) (.cells #[.slice so n1 p, .slice co n2 q] 26)).alloc (by simp) (.cells #[.slice none 0 0, .slice none 0 0, .string ⟨#[]⟩, .int .i64 0] 37))
  have X0 := hide HA.1
  have Y0 := hide HA.2.1
  have Z0 := hide HA.2.2
  rw [← hn1, ← hn2] at h ⊢
  have HIM := hide (fun (W : World) (hb : Below w.heap.size w W) => implDiskRight_any _ _ so p co q d W hb.size (hr.kept hb))
  rw [← hn1, ← hn2] at HIM
  clear HA hn1 hn2
  by_cases hl : 20000 < t.size
  · have HY := hide (fun W => tooLong_yes t hl W)
    rw [dkWrite_2 hl]
    clear HIM hi hf ht h hr hl
    go_enter Try.func31, Try.ntmps31
    go_wp2_with (first | (go_at_call 82; refine (HP.out _).mono ?_; rintro e w1 ⟨rfl, hw⟩; rw [hw]; clear hw w1) | (go_at_call 83; refine (HY.out _).mono ?_; rintro e w1 ⟨rfl, hw⟩; rw [hw]; clear hw w1))
    refine bodyPost_ret (v := .agg #[.slice none 0 0, .slice none 0 0, .string ⟨#[]⟩, .int .i64 2]) (by simp [results, Try.results31, go_sem]) rfl ⟨_, _, rfl, ownD_emp _ _, ?_⟩
    exact ((Below.refl _ _).alloc (Nat.le_refl _) _).alloc (by simp) _
  · have HNO := hide (fun W => tooLong_no t (by omega) W)
    have hm : many t ≤ 313 := by unfold many; omega
    have HM0 := hide (Nat.zero_le (many t))
    obtain ⟨x0, x1, xf⟩ := cells2 X0.out
    cases hdr : dkRight d with
    | false =>
      rw [dkWrite_1 hl hdr]
      rw [hdr] at HIM
      clear hi hf ht h hr hl hm hdr
      generalize many t = m at *
      go_enter Try.func31, Try.ntmps31
      go_wp2_with (first | (go_at_call 82; refine (HP.out _).mono ?_; rintro e w1 ⟨rfl, hw⟩; rw [hw]; clear hw w1) | (go_at_call 83; refine (HNO.out _).mono ?_; rintro e w1 ⟨rfl, hw⟩; rw [hw]; clear hw w1) | (go_at_call 55; refine (HIM.out _ B0.out).mono ?_; rintro e w1 ⟨rfl, b1⟩; have Y1 := hide ((b1.block (w.heap.size + 1) (by simp)).trans Y0.out); have B1 := hide (B0.out.trans (b1.mono B0.out.size)); obtain ⟨y0, y1, y2, y3, yf⟩ := cells4 Y1.out; clear b1))
      refine bodyPost_ret (v := .agg #[.slice none 0 0, .slice none 0 0, .string ⟨#[]⟩, .int .i64 1]) (resOut Try.results31 _ _ (w.heap.size + 1) _ _ _ _ rfl (set4w Y1.out)) rfl ⟨_, _, rfl, ownD_emp _ _, ?_⟩
      exact (((B1.out.setCell (by simp) _).setCell (by simp) _).setCell (by simp) _).setCell (by simp) _
    | true =>
      have hbd := dkRight_bounds hdr
      rw [← HN.out.1, ← HN.out.2] at hbd
      obtain ⟨hb1, hb2⟩ := hbd
      rw [hdr] at HIM
      have HAT := hide (fun W => areThere_any so p n1 co q n2 a (many t : Int) hb1 (by omega) (by omega) W)
      by_cases h9 : a < 0 ∨ (n1 : Int) - (many t : Int) < a
      · rw [dkWrite_9 hl hdr (by rw [← HN.out.1]; exact h9)]
        have hab : (decide (0 ≤ a) && decide (a ≤ (n1 : Int) - (many t : Int))) = false := by rcases h9 with h | h <;> simp <;> intros <;> omega
        rw [hab] at HAT
        clear hi hf ht h hr hl hm hdr h9 hab
        generalize many t = m at *
        go_enter Try.func31, Try.ntmps31
        go_wp2_with (first | (go_at_call 82; refine (HP.out _).mono ?_; rintro e w1 ⟨rfl, hw⟩; rw [hw]; clear hw w1) | (go_at_call 83; refine (HNO.out _).mono ?_; rintro e w1 ⟨rfl, hw⟩; rw [hw]; clear hw w1) | (go_at_call 55; refine (HIM.out _ B0.out).mono ?_; rintro e w1 ⟨rfl, b1⟩; have Y1 := hide ((b1.block (w.heap.size + 1) (by simp)).trans Y0.out); have X1 := hide ((b1.block w.heap.size (by simp; omega)).trans X0.out); have B1 := hide (B0.out.trans (b1.mono B0.out.size)); clear b1 x0 x1 xf; obtain ⟨x0, x1, xf⟩ := cells2 X1.out) | (go_at_call 84; refine (HAT.out _).mono ?_; rintro e w2 ⟨rfl, b2⟩; have Y2 := hide ((b2.block (w.heap.size + 1) (Array.getElem?_eq_some_iff.1 Y1.out).1).trans Y1.out); have B2 := hide (B1.out.trans (b2.mono B1.out.size)); obtain ⟨y0, y1, y2, y3, yf⟩ := cells4 Y2.out; clear b2))
        refine bodyPost_ret (v := .agg #[.slice none 0 0, .slice none 0 0, .string ⟨#[]⟩, .int .i64 9]) (resOut Try.results31 _ _ (w.heap.size + 1) _ _ _ _ rfl (set4w Y2.out)) rfl ⟨_, _, rfl, ownD_emp _ _, ?_⟩
        exact (((B2.out.setCell (by simp) _).setCell (by simp) _).setCell (by simp) _).setCell (by simp) _
      · have hab : (decide (0 ≤ a) && decide (a ≤ (n1 : Int) - (many t : Int))) = true := by simp; omega
        rw [hab] at HAT
        by_cases hfull : 400 < n2 + many t
        · rw [dkWrite_11 hl hdr (by rw [← HN.out.1]; exact h9) (by rw [← HN.out.2]; exact hfull)]
          clear hi hf ht h hr hl hdr h9 hab
          generalize many t = m at *
          go_enter Try.func31, Try.ntmps31
          go_wp2_with (first | (go_at_call 82; refine (HP.out _).mono ?_; rintro e w1 ⟨rfl, hw⟩; rw [hw]; clear hw w1) | (go_at_call 83; refine (HNO.out _).mono ?_; rintro e w1 ⟨rfl, hw⟩; rw [hw]; clear hw w1) | (go_at_call 55; refine (HIM.out _ B0.out).mono ?_; rintro e w1 ⟨rfl, b1⟩; have Y1 := hide ((b1.block (w.heap.size + 1) (by simp)).trans Y0.out); have X1 := hide ((b1.block w.heap.size (by simp; omega)).trans X0.out); have B1 := hide (B0.out.trans (b1.mono B0.out.size)); clear b1 x0 x1 xf; obtain ⟨x0, x1, xf⟩ := cells2 X1.out) | (go_at_call 84; refine (HAT.out _).mono ?_; rintro e w2 ⟨rfl, b2⟩; have Y2 := hide ((b2.block (w.heap.size + 1) (Array.getElem?_eq_some_iff.1 Y1.out).1).trans Y1.out); have X2 := hide ((b2.block w.heap.size (Array.getElem?_eq_some_iff.1 X1.out).1).trans X1.out); have B2 := hide (B1.out.trans (b2.mono B1.out.size)); clear x0 x1 xf; obtain ⟨x0, x1, xf⟩ := cells2 X2.out; obtain ⟨y0, y1, y2, y3, yf⟩ := cells4 Y2.out; clear b2))
          refine bodyPost_ret (v := .agg #[.slice none 0 0, .slice none 0 0, .string ⟨#[]⟩, .int .i64 11]) (resOut Try.results31 _ _ (w.heap.size + 1) _ _ _ _ rfl (set4w Y2.out)) rfl ⟨_, _, rfl, ownD_emp _ _, ?_⟩
          exact (((B2.out.setCell (by simp) _).setCell (by simp) _).setCell (by simp) _).setCell (by simp) _
        · rw [dkWrite_0 hl hdr (by rw [← HN.out.1]; exact h9) (by rw [← HN.out.2]; exact hfull)]
          obtain ⟨j0, hj, hy0, hy1, hy2⟩ := info_parts Try.infoWr
          have HCP := hide (fun (W : World) (hb : Below w.heap.size w W) => copyDisk_own _ _ _ d W hf (h.below hb))
          have HWR := hide (fun (W : World) => writesOf_any a t (by omega) (by omega) (by omega) W)
          have HLEN := hide (fun k => wrsOf_len a t k)
          have HB63 : Hid (n2 + many t ≤ maxLen ∧ (n2 + many t) * 24 ≤ 140737488355328) := by show _ ∧ _; unfold maxLen; omega
          clear hi hf ht h hr hl hdr h9 hab
          generalize many t = m at *
          go_enter Try.func31, Try.ntmps31
          go_wp2_with (first | (go_at_call 82; refine (HP.out _).mono ?_; rintro e w1 ⟨rfl, hw⟩; rw [hw]; clear hw w1) | (go_at_call 83; refine (HNO.out _).mono ?_; rintro e w1 ⟨rfl, hw⟩; rw [hw]; clear hw w1) | (go_at_call 55; refine (HIM.out _ B0.out).mono ?_; rintro e w1 ⟨rfl, b1⟩; have Y1 := hide ((b1.block (w.heap.size + 1) (by simp)).trans Y0.out); have X1 := hide ((b1.block w.heap.size (by simp; omega)).trans X0.out); have B1 := hide (B0.out.trans (b1.mono B0.out.size)); clear b1 x0 x1 xf; obtain ⟨x0, x1, xf⟩ := cells2 X1.out) | (go_at_call 84; refine (HAT.out _).mono ?_; rintro e w2 ⟨rfl, b2⟩; have Y2 := hide ((b2.block (w.heap.size + 1) (Array.getElem?_eq_some_iff.1 Y1.out).1).trans Y1.out); have X2 := hide ((b2.block w.heap.size (Array.getElem?_eq_some_iff.1 X1.out).1).trans X1.out); have B2 := hide (B1.out.trans (b2.mono B1.out.size)); clear x0 x1 xf; obtain ⟨x0, x1, xf⟩ := cells2 X2.out; clear b2) | (go_at_call 67; refine (HCP.out _ B2.out).mono ?_; rintro e w3 ⟨s3, c3, rfl, o3, b3⟩; obtain ⟨so3, p3, co3, q3, rfl, rfl⟩ := o3.shape; rw [← HN.out.1, ← HN.out.2] at o3 ⊢; have G3 := hide (GI.start B2.out (Array.getElem?_eq_some_iff.1 Y2.out).1 Y2.out o3 b3 HN.out.2); clear o3 b3 x0 x1 xf))
          have G4 := hide G3.out.drew
          clear G3
          generalize w3.alloc (.cells #[.slice so3 n1 p3, .slice co3 n2 q3] 26) = W3 at *
          refine wp_region_noPanic ?_
          refine wp_region_held_drew (S := fun _ => True) (by kernel_rfl) trivial (fun hS1 => ?_)
          generalize W3.drew = W4 at *
          clear hS1
          refine takeD 0 37 (v := ?v1) rfl rfl (by kernel_rfl) (by kernel_rfl) (by kernel_rfl) (fun _ _ _ h => h) (by kernel_rfl) ?hy1 trivial ?r1
          case hy1 => (intro W hSw; go_simp; try with_reducible rfl)
          simp only [Act.put, List.setIfInBounds_toArray, List.set_cons_zero, List.set_cons_succ]
          refine takeD 2 39 (v := ?v2) rfl rfl (by kernel_rfl) (by kernel_rfl) (by kernel_rfl) (fun _ _ _ h => h) (by kernel_rfl) ?hy2 trivial ?r2
          case hy2 => (intro W hSw; go_simp; try with_reducible rfl)
          simp only [Act.put, List.setIfInBounds_toArray, List.set_cons_zero, List.set_cons_succ]
          refine takeD 3 40 (v := ?v3) rfl rfl (by kernel_rfl) (by kernel_rfl) (by kernel_rfl) (fun _ _ _ h => h) (by kernel_rfl) ?hy3 trivial ?r3
          case hy3 => (intro W hSw; go_simp; try with_reducible rfl)
          simp only [Act.put, List.setIfInBounds_toArray, List.set_cons_zero, List.set_cons_succ]
          refine wpAnyH_ready (rs := [1, 4]) (by kernel_rfl) (by simp) ?_
          refine AllReadyH.cons (o := _) rfl (fun K hK => ?_) (AllReadyH.cons (o := _) rfl (fun K hK => ?_) AllReadyH.nil)
          · skip
            obtain ⟨g0, g1', gf⟩ := cells2 G4.out.var
            go_simp
            refine hK.out _ _ trivial (fun _ => ?_)
            clear hK K g0 g1' gf
            try simp only [Act.put, List.setIfInBounds_toArray, List.set_cons_zero, List.set_cons_succ]
            refine wpAnyH_ready (rs := [4]) (by kernel_rfl) (by simp) ?_
            refine AllReadyH.cons (o := _) rfl (fun K hK => ?_) AllReadyH.nil
            go_simp
            go_at_call 85
            refine (HWR.out _).mono ?_
            rintro e W5 ⟨v5, rfl, o5, b5⟩
            have O5 := hide o5
            have G5 := hide (G4.out.keep b5)
            obtain ⟨ao5, cp5, hv5⟩ := ownW_shape o5
            rw [HLEN.out] at hv5
            subst hv5
            clear o5 b5
            go_wp2_with fail
            refine hK.out _ _ trivial (fun _ => ?_)
            clear hK K
            try simp only [Act.put, List.setIfInBounds_toArray, List.set_cons_zero, List.set_cons_succ]
            refine wpAnyH_ready (rs := [5]) (by kernel_rfl) (by simp) ?_
            refine AllReadyH.cons (o := _) rfl (fun K hK => ?_) AllReadyH.nil
            have o5 := O5.out
            unfold OwnW at o5
            rw [HLEN.out] at o5
            refine step_app_own rfl (.tmp 38) (.tmp 41) 24 rfl (w.heap.size + 2) _ 122 j0 (.agg #[.int .i64 0, .string ⟨#[]⟩]) 2 24 Try.underlying24 hj hy0 hy1 hy2 rfl (by decide) _ n2 _ rfl G5.out.cacheN _ m _ rfl o5 (flatW_one _) HB63.out.1 HB63.out.2 G5.out.lt ?_
            intro v6 W6 o6 g6 l6
            have G6 := hide (G5.out.app o6 g6 l6 HN.out.2 (HLEN.out m))
            have V6 := hide (own_shape' o6)
            clear o6 g6 l6 o5
            refine hK.out _ _ trivial (fun _ => ?_)
            clear hK K
            simp only [List.getElem_toArray, List.getElem_cons_succ, List.getElem_cons_zero, Act.put, List.setIfInBounds_toArray, List.set_cons_zero, List.set_cons_succ]
            refine takeD 6 43 (v := ?v4) rfl rfl (by kernel_rfl) (by kernel_rfl) (by kernel_rfl) (fun _ _ _ h => h) (by kernel_rfl) ?hy4 trivial ?r4
            case hy4 => (intro W hSw; go_simp; try with_reducible rfl)
            simp only [Act.put, List.setIfInBounds_toArray, List.set_cons_zero, List.set_cons_succ]
            refine wpAnyH_ready (rs := [7]) (by kernel_rfl) (by simp) ?_
            refine AllReadyH.cons (o := _) rfl (fun K hK => ?_) AllReadyH.nil
            obtain ⟨ao6, cp6, hv6⟩ := V6.out
            subst hv6
            obtain ⟨g0, g1', gf⟩ := cells2 G6.out.var
            go_simp
            have G7 := hide (G6.out.set)
            refine hK.out _ _ trivial (fun _ => ?_)
            clear hK K g0 g1' gf G6 G5
            refine wpAnyH_done (by kernel_rfl) ?_ _
            refine NoPanic.normal ?_
            obtain ⟨g0, g1', gf⟩ := cells2 G7.out.1
            obtain ⟨y0, y1, y2, y3, yf⟩ := cells4 G7.out.2.1
            have O7 := hide G7.out.2.2.1
            have B7 := hide G7.out.2.2.2
            go_wp2
            refine bodyPost_ret (v := .agg #[.slice so3 n1 p3, .slice ao6 (n2 + m) cp6, .string ⟨#[]⟩, .int .i64 0]) (resOut Try.results31 _ _ (w.heap.size + 1) _ _ _ _ rfl (set4w G7.out.2.1)) rfl ⟨_, _, rfl, ?_, ?_⟩
            · exact ((((O7.out.set (by omega)).set (by omega)).set (by omega)).set (by omega)).base (by omega)
            · exact (((B7.out.setCell (by simp) _).setCell (by simp) _).setCell (by simp) _).setCell (by simp) _
          · skip
            go_simp
            go_at_call 85
            refine (HWR.out _).mono ?_
            rintro e W5 ⟨v5, rfl, o5, b5⟩
            have O5 := hide o5
            have G5 := hide (G4.out.keep b5)
            obtain ⟨ao5, cp5, hv5⟩ := ownW_shape o5
            rw [HLEN.out] at hv5
            subst hv5
            clear o5 b5
            go_wp2_with fail
            refine hK.out _ _ trivial (fun _ => ?_)
            clear hK K
            try simp only [Act.put, List.setIfInBounds_toArray, List.set_cons_zero, List.set_cons_succ]
            refine wpAnyH_ready (rs := [1]) (by kernel_rfl) (by simp) ?_
            refine AllReadyH.cons (o := _) rfl (fun K hK => ?_) AllReadyH.nil
            obtain ⟨g0, g1', gf⟩ := cells2 G5.out.var
            go_simp
            refine hK.out _ _ trivial (fun _ => ?_)
            clear hK K g0 g1' gf
            try simp only [Act.put, List.setIfInBounds_toArray, List.set_cons_zero, List.set_cons_succ]
            refine wpAnyH_ready (rs := [5]) (by kernel_rfl) (by simp) ?_
            refine AllReadyH.cons (o := _) rfl (fun K hK => ?_) AllReadyH.nil
            have o5 := O5.out
            unfold OwnW at o5
            rw [HLEN.out] at o5
            refine step_app_own rfl (.tmp 38) (.tmp 41) 24 rfl (w.heap.size + 2) _ 122 j0 (.agg #[.int .i64 0, .string ⟨#[]⟩]) 2 24 Try.underlying24 hj hy0 hy1 hy2 rfl (by decide) _ n2 _ rfl G5.out.cacheN _ m _ rfl o5 (flatW_one _) HB63.out.1 HB63.out.2 G5.out.lt ?_
            intro v6 W6 o6 g6 l6
            have G6 := hide (G5.out.app o6 g6 l6 HN.out.2 (HLEN.out m))
            have V6 := hide (own_shape' o6)
            clear o6 g6 l6 o5
            refine hK.out _ _ trivial (fun _ => ?_)
            clear hK K
            simp only [List.getElem_toArray, List.getElem_cons_succ, List.getElem_cons_zero, Act.put, List.setIfInBounds_toArray, List.set_cons_zero, List.set_cons_succ]
            refine takeD 6 43 (v := ?v5) rfl rfl (by kernel_rfl) (by kernel_rfl) (by kernel_rfl) (fun _ _ _ h => h) (by kernel_rfl) ?hy5 trivial ?r5
            case hy5 => (intro W hSw; go_simp; try with_reducible rfl)
            simp only [Act.put, List.setIfInBounds_toArray, List.set_cons_zero, List.set_cons_succ]
            refine wpAnyH_ready (rs := [7]) (by kernel_rfl) (by simp) ?_
            refine AllReadyH.cons (o := _) rfl (fun K hK => ?_) AllReadyH.nil
            obtain ⟨ao6, cp6, hv6⟩ := V6.out
            subst hv6
            obtain ⟨g0, g1', gf⟩ := cells2 G6.out.var
            go_simp
            have G7 := hide (G6.out.set)
            refine hK.out _ _ trivial (fun _ => ?_)
            clear hK K g0 g1' gf G6 G5
            refine wpAnyH_done (by kernel_rfl) ?_ _
            refine NoPanic.normal ?_
            obtain ⟨g0, g1', gf⟩ := cells2 G7.out.1
            obtain ⟨y0, y1, y2, y3, yf⟩ := cells4 G7.out.2.1
            have O7 := hide G7.out.2.2.1
            have B7 := hide G7.out.2.2.2
            go_wp2
            refine bodyPost_ret (v := .agg #[.slice so3 n1 p3, .slice ao6 (n2 + m) cp6, .string ⟨#[]⟩, .int .i64 0]) (resOut Try.results31 _ _ (w.heap.size + 1) _ _ _ _ rfl (set4w G7.out.2.1)) rfl ⟨_, _, rfl, ?_, ?_⟩
            · exact ((((O7.out.set (by omega)).set (by omega)).set (by omega)).set (by omega)).base (by omega)
            · exact (((B7.out.setCell (by simp) _).setCell (by simp) _).setCell (by simp) _).setCell (by simp) _
end Go.Proofs.Ytfhfhpnoeghgmaa

/-
  Contract: the specification's copy of a disk lies in rows of its own.
-/
namespace Go.Proofs.Ytfhfhpnoeghgmaa
open Go.RowKit
set_option maxRecDepth 100000

set_option maxHeartbeats 8000000 in
theorem l07Copy_own (b : Nat) (s c : Value) (d : Dk) (w : World) (hf : dkFits d) (h : OwnD b s c d w) :
    Calls Try.prog 62 #[.agg #[s, c]] w fun e w' => ∃ s' c', e = .returned (.agg #[s', c']) ∧ OwnD w.heap.size s' c' d w' ∧ Below w.heap.size w w' := by
  obtain ⟨i0, hi, hz0, hz1, hz2⟩ := info_parts Try.infoStr'
  obtain ⟨j0, hj, hy0, hy1, hy2⟩ := info_parts Try.infoWr
  obtain ⟨so, p, co, q, rfl, rfl⟩ := h.shape
  obtain ⟨ss, cs⟩ := d
  simp only at *
  have SRC := hide (And.intro h.secs h.cache)
  have HBS : Hid (0 + ss.length ≤ maxLen ∧ (0 + ss.length) * 16 ≤ 140737488355328) := by have := hf.1; simp only at this; show _ ∧ _; unfold maxLen; omega
  have HBW : Hid (0 + cs.length ≤ maxLen ∧ (0 + cs.length) * 24 ≤ 140737488355328) := by have := hf.2; simp only at this; show _ ∧ _; unfold maxLen; omega
  have C0 := hide (CI.start w (.slice so ss.length p) (.slice co cs.length q))
  clear h hf
  go_enter Try.func62, Try.ntmps62
  go_wp2
  have C1 := hide C0.out.drew
  clear C0
  generalize (w.alloc (.cells #[.slice so ss.length p, .slice co cs.length q] 26)).alloc (.cells #[.slice none 0 0, .slice none 0 0] 26) = W0 at *
  refine wp_region_noPanic ?_
  refine wp_region_held_drew (S := fun W => W.heap[w.heap.size]? = some (.cells #[.slice so ss.length p, .slice co cs.length q] 26 (0, 0))) (by kernel_rfl) C1.out.par (fun hS1 => ?_)
  generalize W0.drew = W1 at *
  refine takeD 1 4 (v := ?v1) rfl rfl (by kernel_rfl) (by kernel_rfl) (by kernel_rfl) (fun _ _ _ h => h) (by kernel_rfl) ?hy1 (by assumption) ?r1
  case hy1 => (intro W hSw; obtain ⟨x0, x1, xf⟩ := cells2 (hSw); go_simp; try with_reducible rfl)
  simp only [Act.put, List.setIfInBounds_toArray, List.set_cons_zero, List.set_cons_succ]
  refine takeD 2 5 (v := ?v2) rfl rfl (by kernel_rfl) (by kernel_rfl) (by kernel_rfl) (fun _ _ _ h => h) (by kernel_rfl) ?hy2 (by assumption) ?r2
  case hy2 => (intro W hSw; obtain ⟨x0, x1, xf⟩ := cells2 (hSw); go_simp; try with_reducible rfl)
  simp only [Act.put, List.setIfInBounds_toArray, List.set_cons_zero, List.set_cons_succ]
  refine takeD 5 8 (v := ?v3) rfl rfl (by kernel_rfl) (by kernel_rfl) (by kernel_rfl) (fun _ _ _ h => h) (by kernel_rfl) ?hy3 (by assumption) ?r3
  case hy3 => (intro W hSw; obtain ⟨x0, x1, xf⟩ := cells2 (hSw); go_simp; try with_reducible rfl)
  simp only [Act.put, List.setIfInBounds_toArray, List.set_cons_zero, List.set_cons_succ]
  refine takeD 6 9 (v := ?v4) rfl rfl (by kernel_rfl) (by kernel_rfl) (by kernel_rfl) (fun _ _ _ h => h) (by kernel_rfl) ?hy4 (by assumption) ?r4
  case hy4 => (intro W hSw; obtain ⟨x0, x1, xf⟩ := cells2 (hSw); go_simp; try with_reducible rfl)
  simp only [Act.put, List.setIfInBounds_toArray, List.set_cons_zero, List.set_cons_succ]
  refine wpAnyH_ready (rs := [0, 4]) (by kernel_rfl) (by simp) ?_
  refine AllReadyH.cons (o := _) rfl (fun K hK => ?_) (AllReadyH.cons (o := _) rfl (fun K hK => ?_) AllReadyH.nil)
  · skip
    go_simp
    have C2 := hide (C1.out.buildS)
    refine hK.out _ _ C2.out.par (fun hS2 => ?_)
    clear hK K
    generalize W1.alloc (.cells #[] 9) = W2 at *
    generalize W1.heap.size = e2 at *
    try simp only [Act.put, List.setIfInBounds_toArray, List.set_cons_zero, List.set_cons_succ]
    refine wpAnyH_ready (rs := [3, 4]) (by kernel_rfl) (by simp) ?_
    refine AllReadyH.cons (o := _) rfl (fun K hK => ?_) (AllReadyH.cons (o := _) rfl (fun K hK => ?_) AllReadyH.nil)
    · skip
      refine step_app_own rfl (.tmp 3) (.tmp 5) 23 rfl (w.heap.size + 2) b 9 i0 (.string ⟨#[]⟩) 1 16 Try.underlying23 hi hz0 hz1 hz2 rfl (by decide) _ 0 [] rfl C2.out.secs _ _ _ rfl (owns_below SRC.out.1 C2.out.below) (strsV_one _) HBS.out.1 HBS.out.2 C2.out.lt ?_
      intro v3 W3 o3 g3 l3
      have C3 := hide (C2.out.appS o3 g3 l3)
      clear o3 g3 l3
      refine hK.out _ _ C3.out.par (fun hS3 => ?_)
      clear hK K
      simp only [List.getElem_toArray, List.getElem_cons_succ, List.getElem_cons_zero, Act.put, List.setIfInBounds_toArray, List.set_cons_zero, List.set_cons_succ]
      refine wpAnyH_ready (rs := [4]) (by kernel_rfl) (by simp) ?_
      refine AllReadyH.cons (o := _) rfl (fun K hK => ?_) AllReadyH.nil
      · skip
        go_simp
        have C4 := hide (C3.out.buildW)
        refine hK.out _ _ C4.out.par (fun hS4 => ?_)
        clear hK K
        generalize W3.alloc (.cells #[] 122) = W4 at *
        generalize W3.heap.size = e4 at *
        try simp only [Act.put, List.setIfInBounds_toArray, List.set_cons_zero, List.set_cons_succ]
        refine wpAnyH_ready (rs := [7]) (by kernel_rfl) (by simp) ?_
        refine AllReadyH.cons (o := _) rfl (fun K hK => ?_) AllReadyH.nil
        · skip
          refine step_app_own rfl (.tmp 7) (.tmp 9) 24 rfl (w.heap.size + 2) b 122 j0 (.agg #[.int .i64 0, .string ⟨#[]⟩]) 2 24 Try.underlying24 hj hy0 hy1 hy2 rfl (by decide) _ 0 [] rfl C4.out.cache _ _ _ rfl (owns_below SRC.out.2 C4.out.below) (flatW_one _) HBW.out.1 HBW.out.2 C4.out.lt ?_
          intro v5 W5 o5 g5 l5
          have C5 := hide (C4.out.appW o5 g5 l5)
          clear o5 g5 l5
          refine hK.out _ _ C5.out.par (fun hS5 => ?_)
          clear hK K
          simp only [List.getElem_toArray, List.getElem_cons_succ, List.getElem_cons_zero, Act.put, List.setIfInBounds_toArray, List.set_cons_zero, List.set_cons_succ]
          obtain ⟨so', p', hs'⟩ := ownS_shape C5.out.secs
          obtain ⟨co', q', hc'⟩ := ownW_shape C5.out.cache
          subst hs' hc'
          refine takeD 8 11 (v := ?v5) rfl rfl (by kernel_rfl) (by kernel_rfl) (by kernel_rfl) (fun _ _ _ h => h) (by kernel_rfl) ?hy5 (by assumption) ?r5
          case hy5 => (intro W hSw; go_simp; try with_reducible rfl)
          simp only [Act.put, List.setIfInBounds_toArray, List.set_cons_zero, List.set_cons_succ]
          refine wpAnyH_ready (rs := [9]) (by kernel_rfl) (by simp) ?_
          refine AllReadyH.cons (o := _) rfl (fun K hK => ?_) AllReadyH.nil
          obtain ⟨y0, y1, yf⟩ := cells2 C5.out.res
          go_simp
          refine hK.out _ _ C5.out.par2 (fun hS => ?_)
          clear hK K
          refine wpAnyH_done (by kernel_rfl) ?_ _
          refine NoPanic.normal ?_
          go_wp2
          exact bodyPost_ret (v := .agg #[.slice so' ss.length p', .slice co' cs.length q']) (resDisk Try.results62 _ _ (w.heap.size + 1) _ _ rfl (set2 C5.out.res)) rfl ⟨_, _, rfl, C5.out.out2.1, C5.out.out2.2⟩
    · skip
      go_simp
      have C3 := hide (C2.out.buildW)
      refine hK.out _ _ C3.out.par (fun hS3 => ?_)
      clear hK K
      generalize W2.alloc (.cells #[] 122) = W3 at *
      generalize W2.heap.size = e3 at *
      try simp only [Act.put, List.setIfInBounds_toArray, List.set_cons_zero, List.set_cons_succ]
      refine wpAnyH_ready (rs := [3]) (by kernel_rfl) (by simp) ?_
      refine AllReadyH.cons (o := _) rfl (fun K hK => ?_) AllReadyH.nil
      · skip
        refine step_app_own rfl (.tmp 3) (.tmp 5) 23 rfl (w.heap.size + 2) b 9 i0 (.string ⟨#[]⟩) 1 16 Try.underlying23 hi hz0 hz1 hz2 rfl (by decide) _ 0 [] rfl C3.out.secs _ _ _ rfl (owns_below SRC.out.1 C3.out.below) (strsV_one _) HBS.out.1 HBS.out.2 C3.out.lt ?_
        intro v4 W4 o4 g4 l4
        have C4 := hide (C3.out.appS o4 g4 l4)
        clear o4 g4 l4
        refine hK.out _ _ C4.out.par (fun hS4 => ?_)
        clear hK K
        simp only [List.getElem_toArray, List.getElem_cons_succ, List.getElem_cons_zero, Act.put, List.setIfInBounds_toArray, List.set_cons_zero, List.set_cons_succ]
        refine wpAnyH_ready (rs := [7]) (by kernel_rfl) (by simp) ?_
        refine AllReadyH.cons (o := _) rfl (fun K hK => ?_) AllReadyH.nil
        · skip
          refine step_app_own rfl (.tmp 7) (.tmp 9) 24 rfl (w.heap.size + 2) b 122 j0 (.agg #[.int .i64 0, .string ⟨#[]⟩]) 2 24 Try.underlying24 hj hy0 hy1 hy2 rfl (by decide) _ 0 [] rfl C4.out.cache _ _ _ rfl (owns_below SRC.out.2 C4.out.below) (flatW_one _) HBW.out.1 HBW.out.2 C4.out.lt ?_
          intro v5 W5 o5 g5 l5
          have C5 := hide (C4.out.appW o5 g5 l5)
          clear o5 g5 l5
          refine hK.out _ _ C5.out.par (fun hS5 => ?_)
          clear hK K
          simp only [List.getElem_toArray, List.getElem_cons_succ, List.getElem_cons_zero, Act.put, List.setIfInBounds_toArray, List.set_cons_zero, List.set_cons_succ]
          obtain ⟨so', p', hs'⟩ := ownS_shape C5.out.secs
          obtain ⟨co', q', hc'⟩ := ownW_shape C5.out.cache
          subst hs' hc'
          refine takeD 8 11 (v := ?v6) rfl rfl (by kernel_rfl) (by kernel_rfl) (by kernel_rfl) (fun _ _ _ h => h) (by kernel_rfl) ?hy6 (by assumption) ?r6
          case hy6 => (intro W hSw; go_simp; try with_reducible rfl)
          simp only [Act.put, List.setIfInBounds_toArray, List.set_cons_zero, List.set_cons_succ]
          refine wpAnyH_ready (rs := [9]) (by kernel_rfl) (by simp) ?_
          refine AllReadyH.cons (o := _) rfl (fun K hK => ?_) AllReadyH.nil
          obtain ⟨y0, y1, yf⟩ := cells2 C5.out.res
          go_simp
          refine hK.out _ _ C5.out.par2 (fun hS => ?_)
          clear hK K
          refine wpAnyH_done (by kernel_rfl) ?_ _
          refine NoPanic.normal ?_
          go_wp2
          exact bodyPost_ret (v := .agg #[.slice so' ss.length p', .slice co' cs.length q']) (resDisk Try.results62 _ _ (w.heap.size + 1) _ _ rfl (set2 C5.out.res)) rfl ⟨_, _, rfl, C5.out.out2.1, C5.out.out2.2⟩
  · skip
    go_simp
    have C2 := hide (C1.out.buildW)
    refine hK.out _ _ C2.out.par (fun hS2 => ?_)
    clear hK K
    generalize W1.alloc (.cells #[] 122) = W2 at *
    generalize W1.heap.size = e2 at *
    try simp only [Act.put, List.setIfInBounds_toArray, List.set_cons_zero, List.set_cons_succ]
    refine wpAnyH_ready (rs := [0]) (by kernel_rfl) (by simp) ?_
    refine AllReadyH.cons (o := _) rfl (fun K hK => ?_) AllReadyH.nil
    · skip
      go_simp
      have C3 := hide (C2.out.buildS)
      refine hK.out _ _ C3.out.par (fun hS3 => ?_)
      clear hK K
      generalize W2.alloc (.cells #[] 9) = W3 at *
      generalize W2.heap.size = e3 at *
      try simp only [Act.put, List.setIfInBounds_toArray, List.set_cons_zero, List.set_cons_succ]
      refine wpAnyH_ready (rs := [3]) (by kernel_rfl) (by simp) ?_
      refine AllReadyH.cons (o := _) rfl (fun K hK => ?_) AllReadyH.nil
      · skip
        refine step_app_own rfl (.tmp 3) (.tmp 5) 23 rfl (w.heap.size + 2) b 9 i0 (.string ⟨#[]⟩) 1 16 Try.underlying23 hi hz0 hz1 hz2 rfl (by decide) _ 0 [] rfl C3.out.secs _ _ _ rfl (owns_below SRC.out.1 C3.out.below) (strsV_one _) HBS.out.1 HBS.out.2 C3.out.lt ?_
        intro v4 W4 o4 g4 l4
        have C4 := hide (C3.out.appS o4 g4 l4)
        clear o4 g4 l4
        refine hK.out _ _ C4.out.par (fun hS4 => ?_)
        clear hK K
        simp only [List.getElem_toArray, List.getElem_cons_succ, List.getElem_cons_zero, Act.put, List.setIfInBounds_toArray, List.set_cons_zero, List.set_cons_succ]
        refine wpAnyH_ready (rs := [7]) (by kernel_rfl) (by simp) ?_
        refine AllReadyH.cons (o := _) rfl (fun K hK => ?_) AllReadyH.nil
        · skip
          refine step_app_own rfl (.tmp 7) (.tmp 9) 24 rfl (w.heap.size + 2) b 122 j0 (.agg #[.int .i64 0, .string ⟨#[]⟩]) 2 24 Try.underlying24 hj hy0 hy1 hy2 rfl (by decide) _ 0 [] rfl C4.out.cache _ _ _ rfl (owns_below SRC.out.2 C4.out.below) (flatW_one _) HBW.out.1 HBW.out.2 C4.out.lt ?_
          intro v5 W5 o5 g5 l5
          have C5 := hide (C4.out.appW o5 g5 l5)
          clear o5 g5 l5
          refine hK.out _ _ C5.out.par (fun hS5 => ?_)
          clear hK K
          simp only [List.getElem_toArray, List.getElem_cons_succ, List.getElem_cons_zero, Act.put, List.setIfInBounds_toArray, List.set_cons_zero, List.set_cons_succ]
          obtain ⟨so', p', hs'⟩ := ownS_shape C5.out.secs
          obtain ⟨co', q', hc'⟩ := ownW_shape C5.out.cache
          subst hs' hc'
          refine takeD 8 11 (v := ?v7) rfl rfl (by kernel_rfl) (by kernel_rfl) (by kernel_rfl) (fun _ _ _ h => h) (by kernel_rfl) ?hy7 (by assumption) ?r7
          case hy7 => (intro W hSw; go_simp; try with_reducible rfl)
          simp only [Act.put, List.setIfInBounds_toArray, List.set_cons_zero, List.set_cons_succ]
          refine wpAnyH_ready (rs := [9]) (by kernel_rfl) (by simp) ?_
          refine AllReadyH.cons (o := _) rfl (fun K hK => ?_) AllReadyH.nil
          obtain ⟨y0, y1, yf⟩ := cells2 C5.out.res
          go_simp
          refine hK.out _ _ C5.out.par2 (fun hS => ?_)
          clear hK K
          refine wpAnyH_done (by kernel_rfl) ?_ _
          refine NoPanic.normal ?_
          go_wp2
          exact bodyPost_ret (v := .agg #[.slice so' ss.length p', .slice co' cs.length q']) (resDisk Try.results62 _ _ (w.heap.size + 1) _ _ rfl (set2 C5.out.res)) rfl ⟨_, _, rfl, C5.out.out2.1, C5.out.out2.2⟩
end Go.Proofs.Ytfhfhpnoeghgmaa

/-
  Contract: is a disk right? The specification's answer.
-/
namespace Go.Proofs.Ytfhfhpnoeghgmaa
open Go.RowKit
set_option maxRecDepth 100000

set_option maxHeartbeats 4000000 in
theorem specDiskRight_any (A B : Nat) (so : Option Addr) (p : Nat) (co : Option Addr) (q : Nat) (d : Dk) (w : World) (hB : B ≤ w.heap.size) (hr : DkRow w A B so co d) :
    Calls Try.prog 58 #[.agg #[.slice so d.secs.length p, .slice co d.cache.length q]] w fun e w' => e = .returned (.bool (dkRight d)) ∧ Below w.heap.size w w' := by
  have HL := hide (fun h => dkRight_long (d := d) h)
  have HSN := hide (fun k (x : ByteArray) (hk : k < d.secs.length) (hv : d.secs.getD k ByteArray.empty = x) (hx : ¬ x.size = 64) => dkRight_sec hk (by rw [secOk_of hv]; simpa using hx))
  have HSY := hide (fun k (x : ByteArray) (h : upto (secOk d) k = true) (hv : d.secs.getD k ByteArray.empty = x) (hx : x.size = 64) => upto_next h (by rw [secOk_of hv]; simpa using hx))
  have HWN := hide (fun k (n : Int) (t : ByteArray) (hk : k < d.cache.length) (hv : d.cache.getD k noWr = ⟨n, t⟩) (hx : n < 0 ∨ (d.secs.length : Int) ≤ n ∨ ¬ t.size = 64) => dkRight_wr hk (by rw [wrOk_of hv]; rcases hx with h | h | h <;> simp <;> omega))
  have HWY := hide (fun k (n : Int) (t : ByteArray) (h : upto (wrOk d) k = true) (hv : d.cache.getD k noWr = ⟨n, t⟩) (h0 : 0 ≤ n) (h1 : n < (d.secs.length : Int)) (hx : t.size = 64) => upto_next h (by rw [wrOk_of hv]; simp [h0, h1, hx]))
  have HYES := hide (fun h1 h2 h3 h4 => dkRight_yes (d := d) h1 h2 h3 h4)
  have HU1 : Hid (upto (secOk d) 0 = true) := rfl
  have HU2 : Hid (upto (wrOk d) 0 = true) := rfl
  generalize dkRight d = R at *
  generalize secOk d = SO at *
  generalize wrOk d = WO at *
  obtain ⟨ss, cs⟩ := d
  obtain ⟨⟨hl1, hl2⟩, hs, hc⟩ := hr
  simp only at *
  have HS := hide hs
  have HC := hide hc
  clear hs hc
  unfold maxLen at hl1 hl2
  have B0 := hide ((Below.refl w.heap.size w).alloc (Nat.le_refl _) (.cells #[.slice so ss.length p, .slice co cs.length q] 26))
  have X0 := hide (heap_alloc_new w (.cells #[.slice so ss.length p, .slice co cs.length q] 26))
  by_cases hlong : 700 < ss.length ∨ 400 < cs.length
  · have HF := hide (HL.out hlong)
    clear HSN HSY HWN HWY HYES HL HU1 HU2 X0
    rcases hlong with h | h
    · go_enter Try.func58, Try.ntmps58
      go_wp2
      go_ret
      exact ⟨ret_bool HF.out.symm, B0.out⟩
    · by_cases h1 : 700 < ss.length
      · go_enter Try.func58, Try.ntmps58
        go_wp2
        go_ret
        exact ⟨ret_bool HF.out.symm, B0.out⟩
      · go_enter Try.func58, Try.ntmps58
        go_wp2
        go_ret
        exact ⟨ret_bool HF.out.symm, B0.out⟩
  · have h1 : ¬ 700 < ss.length := by omega
    have h2 : ¬ 400 < cs.length := by omega
    clear hlong HL
    go_enter Try.func58, Try.ntmps58
    go_wp2
    have Z0 : Hid ((w.alloc (.cells #[.slice so ss.length p, .slice co cs.length q] 26)).heap.size = w.heap.size + 1) := by show _ = _; simp
    generalize w.alloc (.cells #[.slice so ss.length p, .slice co cs.length q] 26) = W0 at *
    obtain ⟨x0, x1, xf⟩ := cells2 X0.out
    go_loop [3] (fun i => ∃ k : Nat, k ≤ ss.length ∧ i = .int .i64 k ∧ Hid (upto SO k = true)) (fun i => ss.length - (intOf i).toNat)
    case atStart => exact ⟨0, Nat.zero_le _, rfl, HU1⟩
    case round =>
      obtain ⟨k, hk, rfl, HU⟩ := hrel
      by_cases hlt : k < ss.length
      · obtain ⟨b, off, x, rfl, hbB, hv, hx, d0⟩ := (HS.out.kept (B0.out.mono hB)).at k hlt
        unfold maxLen at hx
        by_cases h64 : x.size = 64
        · have HU2' := hide (HSY.out k x HU.out hv h64)
          have h64' : (x.size : Int) = 64 := by omega
          clear hv HSN HSY HWN HWY HYES HU HU1 HU2 h64
          go_wp2
          go_round
          case rel => exact ⟨k + 1, by omega, by go_num, HU2'⟩
          case measure => simp [intOf]; omega
        · have HF := hide (HSN.out k x hlt hv h64)
          have h64' : ¬ (x.size : Int) = 64 := by omega
          clear hv HSN HSY HWN HWY HYES HU HU1 HU2 h64
          go_wp2
          go_ret
          exact ⟨ret_bool HF.out.symm, B0.out⟩
      · obtain rfl : k = ss.length := by omega
        have HUS := HU
        clear HU HSN HSY HU1 HS
        go_wp2
        go_loopw [4] (fun i wr => ∃ k : Nat, k ≤ cs.length ∧ i = .int .i64 k ∧ Hid (upto WO k = true) ∧ Below W0.heap.size W0 wr) (fun i _ => cs.length - (intOf i).toNat)
        case atStart => exact ⟨0, Nat.zero_le _, rfl, HU2, Below.refl _ _⟩
        case round =>
          obtain ⟨k, hk, rfl, HU, hb⟩ := hrel
          have X1 := hide ((hb.block w.heap.size (by rw [Z0.out]; omega)).trans X0.out)
          have B1 := hide (B0.out.trans (hb.mono B0.out.size))
          obtain ⟨x0, x1, xf⟩ := cells2 X1.out
          by_cases hlt : k < cs.length
          · obtain ⟨b, off, nn, tt, rfl, hbB, hv, htt, hki, d0, d1⟩ := (HC.out.kept (B1.out.mono hB)).at k hlt
            have hq1 : b < wr.heap.size := by have := B1.out.size; omega
            have hz1 : w.heap.size < wr.heap.size := by have := hb.size; have := Z0.out; omega
            unfold maxLen at htt
            unfold wI64 at hki
            have B2 := hide ((hb.alloc hb.size (.cells #[.int .i64 nn, .string tt] 122)))
            have B3 := hide (B0.out.trans (B2.out.mono B0.out.size))
            by_cases hbad : nn < 0 ∨ (ss.length : Int) ≤ nn ∨ ¬ tt.size = 64
            · have HF := hide (HWN.out k nn tt hlt hv hbad)
              clear hv HWN HWY HYES HU HU2 B1 hb B2 HUS
              by_cases h0 : nn < 0
              · go_wp2
                go_ret
                exact ⟨ret_bool HF.out.symm, B3.out⟩
              by_cases h1' : (ss.length : Int) ≤ nn
              · go_wp2
                go_ret
                exact ⟨ret_bool HF.out.symm, B3.out⟩
              · have h64 : ¬ (tt.size : Int) = 64 := by omega
                clear hbad
                go_wp2
                go_ret
                exact ⟨ret_bool HF.out.symm, B3.out⟩
            · have h0 : ¬ nn < 0 := by omega
              have h1' : ¬ (ss.length : Int) ≤ nn := by omega
              have h64 : (tt.size : Int) = 64 := by omega
              have HU3 := hide (HWY.out k nn tt HU.out hv (by omega) (by omega) (by omega))
              clear hv HWN HWY HYES HU HU2 B1 hb B3 HUS hbad
              go_wp2
              go_roundw
              case rel => exact ⟨k + 1, by omega, by go_num, HU3, B2.out⟩
              case measure => simp [intOf]; omega
          · obtain rfl : k = cs.length := by omega
            have HF := hide (HYES.out (by omega) (by omega) HUS.out HU.out)
            clear HWN HWY HYES HU HU2 hb HUS
            go_wp2
            go_ret
            exact ⟨ret_bool HF.out.symm, B1.out⟩
end Go.Proofs.Ytfhfhpnoeghgmaa

/-
  Contract: DiskWrite of the specification.
-/
namespace Go.Proofs.Ytfhfhpnoeghgmaa
open Go.RowKit
set_option maxRecDepth 100000

theorem own_succ' {w : World} {base n size : Nat} {t : TypeId} {v : Value} {xs : List Value} (h : w.ownsRow base t size v (n + 1) xs) : ∃ g cap, v = .slice (some ⟨g, 0, none⟩) (n + 1) cap := by
  rcases h.2 with ⟨_, h0⟩ | ⟨g, cap, cur, h1, _⟩
  · omega
  · exact ⟨g, cap, h1⟩
theorem made_secV {w1 : World} {base g : Nat} (h : w1.ownsRow base 5 1 (.slice (some ⟨g, 0, none⟩) 64 64) 64 ((numsU zSec).map (Value.int .u8))) : w1.heap[g]? = some (.cells (secV zSec) 5 (0, 0)) := by
  rcases h.2 with ⟨h, _⟩ | ⟨g', cap', cur, hv, _, hg, _, _, hs, ht⟩
  · simp at h
  · simp at hv
    obtain ⟨rfl, rfl⟩ := hv
    rw [hg]
    congr 2
    rw [List.take_of_length_le (by simp [hs])] at ht
    unfold secV
    rw [byteCells_nums, ← ht]
theorem conv_sec {W : World} {g : Nat} {l : List UInt8} {t : TypeId} (hg : W.heap[g]? = some (.cells (secV l) t (0, 0))) (hl : l.length = 64) :
    (convert 22 9 (.slice (some ⟨g, 0, none⟩) 64 64)).run Try.prog W = .ok (.string (mkS l)) W := by
  rw [← strOfNums_bytes]
  refine run_convert_bytes_arg _ 22 5 Try.underlying22 Try.underlying5 g 0 64 64 (l.map fun b => (b.toNat : Int)) (by simpa using hl) (fun i hi => ?_) 9 Try.underlying9
  rw [Nat.zero_add, cell_of_row _ _ _ _ _ _ hg]
  unfold secV Lib.byteCells
  rw [List.getElem?_toArray, List.getElem?_map, List.getElem?_eq_getElem (by omega)]
  simp [List.getElem?_eq_getElem (show i < l.length by omega)]
set_option maxHeartbeats 8000000 in
theorem l07Write_any (b : Nat) (s c : Value) (d : Dk) (a : Int) (t : ByteArray) (w : World) (hf : dkFits d) (hdr : dkRight d = true) (ha : wI64 a) (hl : ¬ 20000 < t.size) (h : OwnD b s c d w) :
    Calls Try.prog 79 #[.agg #[s, c], .int .i64 a, .string t] w fun e w' => ∃ s' c', e = .returned (.agg #[s', c', .string ⟨#[]⟩, .int .i64 (dkWrite d a t).2]) ∧ OwnD w.heap.size s' c' (dkWrite d a t).1 w' ∧ Below w.heap.size w w' := by
  obtain ⟨so, p, co, q, rfl, rfl⟩ := h.shape
  obtain ⟨n1, hn1⟩ : ∃ n, n = d.secs.length := ⟨_, rfl⟩
  obtain ⟨n2, hn2⟩ : ∃ n, n = d.cache.length := ⟨_, rfl⟩
  have HN := hide (And.intro hn1 hn2)
  have HA := two_allocs w (.cells #[.slice so n1 p, .slice co n2 q] 26) (.cells #[.slice none 0 0, .slice none 0 0, .string ⟨#[]⟩, .int .i64 0] 37)
  have B0 := hide (((Below.refl w.heap.size w).alloc (Nat.le_refl _) (.cells #[.slice so n1 p, .slice co n2 q] 26)).alloc (by simp) (.cells #[.slice none 0 0, .slice none 0 0, .string ⟨#[]⟩, .int .i64 0] 37))
  have X0 := hide HA.1
  have Y0 := hide HA.2.1
  have Z0 := hide HA.2.2
  rw [← hn1, ← hn2] at h ⊢
  clear HA hn1 hn2
  have hm : many t ≤ 313 := by unfold many; omega
  have HE1 : Hid (((t.size : Int) + 64 - 1) / 64 = (many t : Int)) := by show _ = _; unfold many; omega
  have hbd := dkRight_bounds hdr
  rw [← HN.out.1, ← HN.out.2] at hbd
  obtain ⟨hb1, hb2⟩ := hbd
  unfold wI64 at ha
  by_cases h9 : a < 0 ∨ (n1 : Int) - (many t : Int) < a
  · rw [dkWrite_9 hl hdr (by rw [← HN.out.1]; exact h9)]
    obtain ⟨x0, x1, xf⟩ := cells2 X0.out
    clear hf hdr h
    generalize many t = m at *
    by_cases h0 : a < 0
    · go_enter Try.func79, Try.ntmps79
      go_upto_region 2 with fail
      rw [HE1.out]
      go_wp2
      refine bodyPost_ret (v := .agg #[.slice none 0 0, .slice none 0 0, .string ⟨#[]⟩, .int .i64 9]) (by simp [results, Try.results79, go_sem]) rfl ⟨_, _, rfl, ownD_emp _ _, ?_⟩
      exact ((Below.refl _ _).alloc (Nat.le_refl _) _).alloc (by simp) _
    · have h9' : (n1 : Int) - (m : Int) < a := by omega
      clear h9
      go_enter Try.func79, Try.ntmps79
      go_upto_region 2 with fail
      rw [HE1.out]
      go_wp2
      refine bodyPost_ret (v := .agg #[.slice none 0 0, .slice none 0 0, .string ⟨#[]⟩, .int .i64 9]) (by simp [results, Try.results79, go_sem]) rfl ⟨_, _, rfl, ownD_emp _ _, ?_⟩
      exact ((Below.refl _ _).alloc (Nat.le_refl _) _).alloc (by simp) _
  · have h9a : ¬ a < 0 := by omega
    have h9b : ¬ (n1 : Int) - (many t : Int) < a := by omega
    by_cases hfull : 400 < n2 + many t
    · rw [dkWrite_11 hl hdr (by rw [← HN.out.1]; exact h9) (by rw [← HN.out.2]; exact hfull)]
      obtain ⟨x0, x1, xf⟩ := cells2 X0.out
      clear hf hdr h h9
      generalize many t = m at *
      have hfull' : 400 < (n2 : Int) + (m : Int) := by omega
      go_enter Try.func79, Try.ntmps79
      go_upto_region 2 with fail
      rw [HE1.out]
      go_wp2
      refine bodyPost_ret (v := .agg #[.slice none 0 0, .slice none 0 0, .string ⟨#[]⟩, .int .i64 11]) (by simp [results, Try.results79, go_sem]) rfl ⟨_, _, rfl, ownD_emp _ _, ?_⟩
      exact ((Below.refl _ _).alloc (Nat.le_refl _) _).alloc (by simp) _
    · rw [dkWrite_0 hl hdr (by rw [← HN.out.1]; exact h9) (by rw [← HN.out.2]; exact hfull)]
      obtain ⟨j0, hj, hy0, hy1, hy2⟩ := info_parts Try.infoWr
      obtain ⟨i0, hi, hz0, hz1, hz2⟩ := info_parts Try.infoU8
      have HCZ : Hid ((madeCells (Value.int .u8 0).cells (64 * 1)).toList = (numsU zSec).map (Value.int .u8)) := by show _ = _; kernel_rfl
      have HU : Hid ((Try.prog.info? 5).map (·.size) = some 1) := by show _ = _; kernel_rfl
      have HCP := hide (fun (W : World) (hb : Below w.heap.size w W) => l07Copy_own _ _ _ d W hf (h.below hb))
      have HSUCC := hide (fun k => wrsOf_succ a t k)
      have HLEN := hide (fun k => wrsOf_len a t k)
      have HM2 : Hid (∀ k, k < many t → k * 64 < t.size) := fun k hk => by unfold many at hk; omega
      have HPC : Hid (∀ k, mkS (pad (t.extract (k * 64) t.size).data.toList) = piece t k) := fun k => by rw [drop_extract]; rfl
      obtain ⟨x0, x1, xf⟩ := cells2 X0.out
      have hfull' : ¬ 400 < (n2 : Int) + (many t : Int) := by omega
      clear hf hdr h h9
      generalize many t = m at *
      go_enter Try.func79, Try.ntmps79
      go_upto_region 2 with fail
      rw [HE1.out]
      go_wp2_with (go_at_call 62; refine (HCP.out _ B0.out).mono ?_; rintro e w3 ⟨s3, c3, rfl, o3, b3⟩; obtain ⟨so3, p3, co3, q3, rfl, rfl⟩ := o3.shape; rw [← HN.out.1, ← HN.out.2] at o3 ⊢; have G3 := hide (GI.start B0.out (by simp) Y0.out o3 b3 HN.out.2); clear o3 b3 x0 x1 xf)
      have G3' : Hid (GI w w3.heap.size (.slice so3 n1 p3) (.slice co3 n2 q3) (.slice co3 n2 q3) (n2 + 0) ⟨d.secs, d.cache ++ wrsOf a t 0⟩ (w3.alloc (.cells #[.slice so3 n1 p3, .slice co3 n2 q3] 26))) := by
        show GI _ _ _ _ _ _ _ _
        rw [wrsOf_zero, List.append_nil]
        exact G3.out
      clear G3 HCP B0 X0 Y0 Z0
      generalize w3.alloc (.cells #[.slice so3 n1 p3, .slice co3 n2 q3] 26) = W3 at *
      generalize w3.heap.size = g at *
      go_loopw [9] (fun i wr => ∃ (k : Nat) (v : Value), k ≤ m ∧ i = .int .i64 k ∧ Hid (GI w g (.slice so3 n1 p3) v v (n2 + k) ⟨d.secs, d.cache ++ wrsOf a t k⟩ wr)) (fun i _ => m - (intOf i).toNat)
      case atStart => exact ⟨0, _, Nat.zero_le _, rfl, G3'⟩
      case round =>
        obtain ⟨k, v, hk, rfl, G⟩ := hrel
        clear G3'
        obtain ⟨ao, cap, hv⟩ := own_shape' G.out.cacheN
        subst hv
        by_cases hlt : k < m
        · have h64 := HM2.out k hlt
          have hk64 : ((k : Int) * 64).toNat = k * 64 := by omega
          have hc1 := HPC.out k
          go_wp2_with (first | (at_make; refine wpList_make_full _ rfl _ _ 22 rfl 0 5 i0 (.int .u8 0) 1 Try.underlying22 hi hz0 hz1 .i64 .i64 _ _ 64 rfl rfl rfl rfl (by rw [hz2]; omega) (by unfold maxLen; omega) (Nat.zero_le _) ?_; intro w4 hown hgrow; rw [HCZ.out] at hown; have X4 := hide (made_secV hown); have B4 := hide ((Below.refl wr.heap.size wr).grown hgrow (Nat.le_refl _) (fun j hj => by simp at hj)); clear hown hgrow; obtain ⟨nn, w5, hcp, X5, B5⟩ : ∃ (nn : Nat) (w5 : World), (∀ ty, (Builtin.copy_ #[22, 9] ty #[.slice (some ⟨wr.heap.size, 0, none⟩) 64 64, .string (t.extract (k * 64) t.size)]).run Try.prog w4 = .ok (goInt nn) w5) ∧ Hid (w5.heap[wr.heap.size]? = some (.cells (secV (pad (t.extract (k * 64) t.size).data.toList)) 5 (0, 0))) ∧ Hid (Below wr.heap.size wr w5) := (run_copy_pad (P := Try.prog) w4 22 9 5 wr.heap.size (t.extract (k * 64) t.size) _ Try.underlying22 HU.out X4.out).elim fun nn h => ⟨nn, _, h, setRow_heap _ _ _ _ _ _ X4.out, below_setRow B4.out (Nat.le_refl _) _⟩; have hcv := conv_sec X5.out (pad_len _); rw [hc1] at hcv; have G5 := hide (G.out.keep B5.out); obtain ⟨g0, g1, gf⟩ := cells2 G5.out.var; have G6 := hide (G5.out.keep ((Below.refl w5.heap.size w5).alloc (Nat.le_refl _) (.cells #[.int .i64 (a + (k : Int)), .string (piece t k)] 122))); have S6 := hide (own_wr_one w5 (a + (k : Int)) (piece t k)); have Z6 := hide G6.out.lt; clear X4 B4 X5 B5) | (at_builtin; refine wpList_app_own rfl _ _ 24 rfl (w.heap.size + 2) w5.heap.size 122 j0 (.agg #[.int .i64 0, .string ⟨#[]⟩]) 2 24 Try.underlying24 hj hy0 hy1 hy2 rfl (by decide) _ (n2 + k) _ rfl G6.out.cacheN _ 1 _ rfl S6.out (wr_one _ _) (by unfold maxLen; omega) (by omega) Z6.out ?_; intro v7 w7 o7 g7 l7; have G7 := hide (G6.out.app (k := [⟨a + (k : Int), piece t k⟩]) (m := 1) o7 g7 l7 G6.out.num rfl); obtain ⟨g5', c5', hv7⟩ := own_succ' o7; subst hv7; clear g0 g1 gf; obtain ⟨g0, g1, gf⟩ := cells2 G7.out.var; clear o7 g7 l7))
          have G8 := hide G7.out.put
          simp only [List.append_assoc] at G8
          rw [← HSUCC.out] at G8
          clear G5 G6 S6 Z6 G7 g0 g1 gf hcp hcv hc1
          go_roundw
          case rel => exact ⟨k + 1, _, by omega, by go_num, G8⟩
          case measure => simp [intOf]; omega
        · obtain rfl : k = m := by omega
          obtain ⟨g0, g1, gf⟩ := cells2 G.out.var
          obtain ⟨y0, y1, y2, y3, yf⟩ := cells4 G.out.res
          go_wp2
          refine bodyPost_ret (v := .agg #[.slice so3 n1 p3, .slice ao (n2 + k) cap, .string ⟨#[]⟩, .int .i64 0]) (resOut Try.results79 _ _ (w.heap.size + 1) _ _ _ _ rfl (set4w G.out.res)) rfl ⟨_, _, rfl, ?_, ?_⟩
          · exact ((((G.out.own.set (by omega)).set (by omega)).set (by omega)).set (by omega)).base (by omega)
          · exact (((G.out.below.setCell (by simp) _).setCell (by simp) _).setCell (by simp) _).setCell (by simp) _
end Go.Proofs.Ytfhfhpnoeghgmaa

/-
  Contract: DiskWrite of the specification, as a whole; how great what is written is.
-/
namespace Go.Proofs.Ytfhfhpnoeghgmaa
open Go.RowKit
set_option maxRecDepth 100000

theorem dkWrite_fits {d : Dk} (a : Int) (t : ByteArray) (h : dkFits d) : dkFits (dkWrite d a t).1 := by
  unfold dkWrite dkFits
  have h1 := h.1
  have h2 := h.2
  split
  · simp
  split
  · simp
  split
  · simp
  split
  · simp
  · rename_i hq
    simp only [List.length_append, wrsOf_len]
    exact ⟨h1, by omega⟩
set_option maxHeartbeats 4000000 in
theorem specDiskWrite_any (b : Nat) (s c : Value) (d : Dk) (a : Int) (t : ByteArray) (w : World) (hi : dkIn d) (hf : dkFits d) (ha : wI64 a) (h : OwnD b s c d w) :
    Calls Try.prog 29 #[.agg #[s, c], .int .i64 a, .string t] w fun e w' => ∃ s' c', e = .returned (.agg #[s', c', .string ⟨#[]⟩, .int .i64 (dkWrite d a t).2]) ∧ OwnD w.heap.size s' c' (dkWrite d a t).1 w' ∧ Below w.heap.size w w' := by
  obtain ⟨so, p, co, q, rfl, rfl, hr⟩ := h.row hi
  obtain ⟨n1, hn1⟩ : ∃ n, n = d.secs.length := ⟨_, rfl⟩
  obtain ⟨n2, hn2⟩ : ∃ n, n = d.cache.length := ⟨_, rfl⟩
  have HN := hide (And.intro hn1 hn2)
  have HA := two_allocs w (.cells #[.slice so n1 p, .slice co n2 q] 26) (.cells #[.slice none 0 0, .slice none 0 0, .string ⟨#[]⟩, .int .i64 0] 37)
  have B0 := hide (((Below.refl w.heap.size w).alloc (Nat.le_refl _) (.cells #[.slice so n1 p, .slice co n2 q] 26)).alloc (by simp) (.cells #[.slice none 0 0, .slice none 0 0, .string ⟨#[]⟩, .int .i64 0] 37))
  have X0 := hide HA.1
  have Y0 := hide HA.2.1
  have HSP := hide (fun (W : World) (hb : Below w.heap.size w W) => specDiskRight_any _ _ so p co q d W hb.size (hr.kept hb))
  rw [← hn1, ← hn2] at h HSP ⊢
  clear HA hn1 hn2
  by_cases hl : 20000 < t.size
  · rw [dkWrite_2 hl]
    clear HSP hi hf ha h hr
    go_enter Try.func29, Try.ntmps29
    go_wp2
    refine bodyPost_ret (v := .agg #[.slice none 0 0, .slice none 0 0, .string ⟨#[]⟩, .int .i64 2]) (by simp [results, Try.results29, go_sem]) rfl ⟨_, _, rfl, ownD_emp _ _, ?_⟩
    exact ((Below.refl _ _).alloc (Nat.le_refl _) _).alloc (by simp) _
  · obtain ⟨x0, x1, xf⟩ := cells2 X0.out
    cases hdr : dkRight d with
    | false =>
      rw [dkWrite_1 hl hdr]
      rw [hdr] at HSP
      clear hi hf ha h hr hdr
      go_enter Try.func29, Try.ntmps29
      go_wp2_with (go_at_call 58; refine (HSP.out _ B0.out).mono ?_; rintro e w1 ⟨rfl, b1⟩; have Y1 := hide ((b1.block (w.heap.size + 1) (by simp)).trans Y0.out); have B1 := hide (B0.out.trans (b1.mono B0.out.size)); obtain ⟨y0, y1, y2, y3, yf⟩ := cells4 Y1.out; clear b1)
      refine bodyPost_ret (v := .agg #[.slice none 0 0, .slice none 0 0, .string ⟨#[]⟩, .int .i64 1]) (resOut Try.results29 _ _ (w.heap.size + 1) _ _ _ _ rfl (set4w Y1.out)) rfl ⟨_, _, rfl, ownD_emp _ _, ?_⟩
      exact (((B1.out.setCell (by simp) _).setCell (by simp) _).setCell (by simp) _).setCell (by simp) _
    | true =>
      have HWR := hide (fun (W : World) (hb : Below w.heap.size w W) => l07Write_any _ _ _ d a t W hf hdr ha hl (h.below hb))
      rw [hdr] at HSP
      generalize dkWrite d a t = R at *
      obtain ⟨D, K⟩ := R
      simp only at *
      clear hi hf ha h hr hdr
      go_enter Try.func29, Try.ntmps29
      go_wp2_with (first | (go_at_call 58; refine (HSP.out _ B0.out).mono ?_; rintro e w1 ⟨rfl, b1⟩; have Y1 := hide ((b1.block (w.heap.size + 1) (by simp)).trans Y0.out); have X1 := hide ((b1.block w.heap.size (by simp; omega)).trans X0.out); have B1 := hide (B0.out.trans (b1.mono B0.out.size)); clear x0 x1 xf; obtain ⟨x0, x1, xf⟩ := cells2 X1.out; clear b1) | (go_at_call 79; refine (HWR.out _ B1.out).mono ?_; rintro e w2 ⟨s2, c2, rfl, o2, b2⟩; have Y2 := hide ((b2.block (w.heap.size + 1) (Array.getElem?_eq_some_iff.1 Y1.out).1).trans Y1.out); have B2 := hide (B1.out.trans (b2.mono B1.out.size)); have O2 := hide (o2.base (show w.heap.size + 2 ≤ _ from (Array.getElem?_eq_some_iff.1 Y1.out).1)); obtain ⟨so2, p2, co2, q2, rfl, rfl⟩ := o2.shape; obtain ⟨y0, y1, y2, y3, yf⟩ := cells4 Y2.out; clear b2 o2))
      refine bodyPost_ret (v := .agg #[.slice so2 D.secs.length p2, .slice co2 D.cache.length q2, .string ⟨#[]⟩, .int .i64 K]) (resOut Try.results29 _ _ (w.heap.size + 1) _ _ _ _ rfl (set4w Y2.out)) rfl ⟨_, _, rfl, ?_, ?_⟩
      · exact ((((O2.out.set (by omega)).set (by omega)).set (by omega)).set (by omega)).base (by omega)
      · exact (((B2.out.setCell (by simp) _).setCell (by simp) _).setCell (by simp) _).setCell (by simp) _
end Go.Proofs.Ytfhfhpnoeghgmaa
