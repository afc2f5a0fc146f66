/-
  Contracts and plain laws, part 5 of 9: SToO2, SToO3, SClone, SCpI, AppOwn, SCpJ
-/
import Derived.Lib.SliceRun
import Derived.Deep.RegionHeldLaw
import Derived.Deep.CutRange
import Derived.Laws.OwnMore
import Derived.Laws.AppendOwnNone
import Derived.Maps.AppendAt
import Derived.RegionTactic
import Derived.Test.YtpmaklbbkmghbaaPd

/-
  Contracts: indexes copied into rows of their own.
-/
namespace Go.Proofs.Ytpmaklbbkmghbaa
open Go.RowKit
set_option maxRecDepth 100000

/-- The first k indexes stand in a block's cells, their numbers in rows of their own behind it. -/
def IdxOwn (w : World) (g : Nat) (cur : List Value) (xs : List Idx) (k : Nat) : Prop :=
  ∃ us : List Value, us.length = (xs.take k).length ∧ cur.take (k * 2) = flatX us (xs.take k) ∧ (∀ p ∈ us.zip (xs.take k), OwnN (g + 1) p.1 p.2.cols w) ∧ Apart us
theorem idxOwn_zero (w : World) (g : Nat) (cur : List Value) (xs : List Idx) : IdxOwn w g cur xs 0 := ⟨[], rfl, by simp [flatX], fun p hp => by simp at hp, List.Pairwise.nil⟩
theorem take_set2 (cur : List Value) (k : Nat) (x y : Value) (h : k + 2 ≤ cur.length) : ((cur.set k x).set (k + 1) y).take (k + 2) = cur.take k ++ [x, y] := by
  have h1 : k + 1 < (cur.set k x).length := by simp; omega
  rw [take_set1 (cur.set k x) (k + 1) y h1, take_set1 cur k x (by omega)]; simp
theorem idxOwn_step {w w' : World} {g : Nat} {cur : List Value} {xs : List Idx} {k : Nat} (h : IdxOwn w g cur xs k) (hb : Below w.heap.size w w') (hgw : g < w.heap.size) (hl : k * 2 + 2 ≤ cur.length) (hk : k < xs.length) {bo : Option Addr} {cp : Nat} {l : List Int} {u : Bool} (hx : xs.getD k noIdx = ⟨l, u⟩)
    (hr : OwnN w.heap.size (.slice bo l.length cp) l w') : IdxOwn ((w'.setCell ⟨g, k * 2, none⟩ (.slice bo l.length cp)).setCell ⟨g, k * 2 + 1, none⟩ (.bool u)) g ((cur.set (k * 2) (.slice bo l.length cp)).set (k * 2 + 1) (.bool u)) xs (k + 1) := by
  obtain ⟨us, hlen, hc, hin, hap⟩ := h
  have ht : xs.take (k + 1) = xs.take k ++ [⟨l, u⟩] := by rw [List.take_succ_eq_append_getElem hk]; rw [List.getD_eq_getElem?_getD, List.getElem?_eq_getElem hk] at hx; simp only [Option.getD_some] at hx; rw [hx]
  refine ⟨us ++ [.slice bo l.length cp], by rw [ht]; simp only [List.length_append, hlen, List.length_cons, List.length_nil], ?_, ?_, ?_⟩
  · rw [show (k + 1) * 2 = k * 2 + 2 by omega, take_set2 _ _ _ _ hl, hc, ht, flatX_snoc _ _ _ _ hlen]
  · intro p hp
    rw [ht, List.zip_append hlen, List.mem_append] at hp
    rcases hp with hp | hp
    · exact own_set (own_set (owns_below (hin p hp) hb) (Nat.lt_succ_self g)) (Nat.lt_succ_self g)
    · obtain rfl : p = (.slice bo l.length cp, (⟨l, u⟩ : Idx)) := by simpa using hp
      exact own_set (own_set (owns_base hr hgw) (Nat.lt_succ_self g)) (Nat.lt_succ_self g)
  · unfold Apart at hap ⊢
    rw [List.pairwise_append]
    refine ⟨hap, by simp, fun a ha b hb' => ?_⟩
    obtain rfl : b = .slice bo l.length cp := by simpa using hb'
    obtain ⟨y, hy⟩ := mem_zip hlen ha
    cases hbl : a.ownBlock with
    | none => exact .inl rfl
    | some q =>
      refine .inr (fun e => ?_)
      have h1 := (World.ownsRow.lt (hin _ hy) q hbl).2
      have h2 := (World.ownsRow.lt hr q e.symm).1
      omega
theorem idxOwn_all {w : World} {g : Nat} {cur : List Value} {xs : List Idx} (hg : w.heap[g]? = some (.cells cur.toArray 69 (0, 0))) (hlen : cur.length = xs.length * 2) (hl : xs.length ≤ 1048576) (h : IdxOwn w g cur xs xs.length) :
    ∃ us, Hid (OwnX g (.slice (some ⟨g, 0, none⟩) xs.length xs.length) us xs w) ∧ Hid (Apart (.slice (some ⟨g, 0, none⟩) xs.length xs.length :: us)) := by
  obtain ⟨us, hul, hc, hin, hap⟩ := h
  rw [List.take_length] at hul hc hin
  have hfl : (flatX us xs).length = xs.length * 2 := by rw [← hc, List.length_take]; omega
  refine ⟨us, ⟨hul, ⟨hfl, .inr ⟨g, xs.length, cur.toArray, rfl, Nat.le_refl _, hg, Nat.le_refl _, (by unfold maxLen; omega), (by simpa using hlen), (by simpa using hc)⟩⟩, fun p hp => owns_base (hin p hp) (Nat.le_succ g)⟩, ?_⟩
  show Apart _
  unfold Apart at hap ⊢
  rw [List.pairwise_cons]
  refine ⟨fun a ha => .inr (fun e => ?_), hap⟩
  obtain ⟨y, hy⟩ := mem_zip hul ha
  have h1 := (World.ownsRow.lt (hin _ hy) g (by rw [← e]; rfl)).1
  omega
set_option maxHeartbeats 1000000 in
theorem toIndex_own (A B : Nat) (io : Option Addr) (cap : Nat) (l : List Int) (u : Bool) (w : World) (hB : B ≤ w.heap.size) (hl : l.length ≤ 1048576) (hr : IntRow w A B io l) :
    Calls Try.prog 85 #[.agg #[.slice io l.length cap, .bool u]] w fun e w' => ∃ bo cp, e = .returned (.agg #[.slice bo l.length cp, .bool u]) ∧ OwnN w.heap.size (.slice bo l.length cp) l w' ∧ Below w.heap.size w w' := by
  have HR : Hid (IntRow w A B io l) := hr
  clear hr
  have hB0 : Below w.heap.size w (((w.alloc (.cells #[.slice io l.length cap, .bool u] 116)).alloc (.cells #[.slice none 0 0, .bool false] 69)).alloc (.cells #[.slice none 0 0, .bool false] 69)) := (((Below.refl _ _).alloc (Nat.le_refl _) _).alloc (by simp) _).alloc (by simp; omega) _
  go_enter Try.func85, Try.ntmps85
  go_wp2_with fail
  refine (toInt64S_own A w.heap.size io cap l _ hB0.size hl ((HR.out.mono (Nat.le_refl _) hB).kept hB0)).mono ?_
  rintro e w2 ⟨v, rfl, hr2, hb2⟩
  obtain ⟨bo, cp, rfl⟩ := ownN_shape hr2
  obtain ⟨hc, hf⟩ := bcell hb2
  have hsz := hb2.size
  simp at hsz
  have HR2 : Hid (OwnN (w.heap.size + 3) (.slice bo l.length cp) l w2) := owns_base hr2 (by simp)
  clear hr2 hB0
  go_wp2
  refine bodyPost_ret (v := .agg #[.slice bo l.length cp, .bool u]) (by simp [results, Try.results85, go_sem, hc]) rfl ⟨bo, cp, rfl, ?_, ?_⟩
  · exact owns_base (own_set (own_set (own_set (own_set HR2.out (by omega)) (by omega)) (by omega)) (by omega)) (by omega)
  · exact ((((((((Below.refl _ _).alloc (Nat.le_refl _) _).alloc (by simp) _).alloc (by simp; omega) _).trans (hb2.mono (by simp; omega))).setCell (by simp; omega) _).setCell (by simp; omega) _).setCell (by simp) _).setCell (by simp) _
set_option maxHeartbeats 1000000 in
theorem toIndexS_own (A B : Nat) (ao : Option Addr) (cap : Nat) (xs : List Idx) (w : World) (hB : B ≤ w.heap.size) (hl : xs.length ≤ 1048576) (hxl : ∀ x ∈ xs, x.cols.length ≤ 1048576) (hr : IdxRow w A B ao xs) :
    Calls Try.prog 45 #[.slice ao xs.length cap] w fun e w' => ∃ x us, e = .returned x ∧ OwnX w.heap.size x us xs w' ∧ Apart (x :: us) ∧ Below w.heap.size w w' := by
  obtain ⟨i0, hi, hz0, hz1, hz2⟩ := info_parts Try.infoIdx
  have HR : Hid (IdxRow w A B ao xs) := hr
  clear hr
  go_enter Try.func45, Try.ntmps45
  go_wp2_with (at_make; refine wpList_make_full _ rfl _ _ 30 rfl w.heap.size 69 i0 (.agg #[.slice none 0 0, .bool false]) 2 Try.underlying30 hi hz0 hz1 .i64 .i64 _ _ xs.length rfl rfl rfl rfl (by rw [hz2]; omega) (by unfold maxLen; omega) (Nat.le_refl _) ?_; intro w1 hown1 hgrow1)
  obtain ⟨cur0, hg0, hl0⟩ : ∃ cur : List Value, w1.heap[w.heap.size]? = some (.cells cur.toArray 69 (0, 0)) ∧ cur.length = xs.length * 2 := by
    rcases hown1.2 with ⟨h, _⟩ | ⟨g, cap', cur, hv, _, hg, _, _, hs, _⟩
    · simp at h
    · simp at hv
      obtain ⟨rfl, rfl⟩ := hv
      exact ⟨cur.toList, by simpa using hg, by simpa using hs⟩
  have hb1 : Below w.heap.size w w1 := (Below.refl _ _).grown hgrow1 (Nat.le_refl _) (fun j hj => by simp at hj)
  clear hown1 hgrow1
  go_loopw [4] (fun i wr => ∃ (k : Nat) (cur : List Value), k ≤ xs.length ∧ i = .int .i64 k ∧ cur.length = xs.length * 2 ∧ wr.heap[w.heap.size]? = some (.cells cur.toArray 69 (0, 0)) ∧ Hid (IdxOwn wr w.heap.size cur xs k) ∧ Below w.heap.size w wr) (fun i _ => xs.length - (intOf i).toNat)
  case atStart => exact ⟨0, cur0, Nat.zero_le _, rfl, hl0, hg0, idxOwn_zero _ _ _ _, hb1⟩
  case round =>
    obtain ⟨k, cur, hk, rfl, hlen, hg, HC, hb⟩ := hrel
    clear hb1 hg0 hl0
    have hlt0 : w.heap.size < wr.heap.size := (Array.getElem?_eq_some_iff.1 hg).1
    by_cases hlt : k < xs.length
    · obtain ⟨b, off, io, cp, l, u, rfl, hbB, hv, htt, hir, d0, d1⟩ := (HR.out.kept (hb.mono hB)).at k hlt
      have hll : l.length ≤ 1048576 := by have := hxl _ (getD_mem xs noIdx k hlt); rw [hv] at this; exact this
      have HV : Hid (xs.getD k noIdx = ⟨l, u⟩) := hv
      have HI : Hid (IntRow wr A B io l) := hir
      clear hv hir htt
      go_wp2_with fail
      refine (toIndex_own A B io cp l u _ (Nat.le_trans hB hb.size) hll HI.out).mono ?_
      rintro e w2 ⟨bo, cq, rfl, hr2, hb2⟩
      have hg2 : w2.heap[w.heap.size]? = some (.cells cur.toArray 69 (0, 0)) := (hb2.block _ hlt0).trans hg
      have HC3 : Hid (IdxOwn ((w2.setCell ⟨w.heap.size, k * 2, none⟩ (.slice bo l.length cq)).setCell ⟨w.heap.size, k * 2 + 1, none⟩ (.bool u)) w.heap.size ((cur.set (k * 2) (.slice bo l.length cq)).set (k * 2 + 1) (.bool u)) xs (k + 1)) := idxOwn_step HC.out hb2 hlt0 (by omega) hlt HV.out hr2
      have hb3 := hb.trans (hb2.mono hb.size)
      obtain ⟨x0, hx0⟩ : ∃ v, cur[k * 2]? = some v := ⟨_, List.getElem?_eq_getElem (by omega)⟩
      obtain ⟨x1, hx1⟩ : ∃ v, cur[k * 2 + 1]? = some v := ⟨_, List.getElem?_eq_getElem (by omega)⟩
      have e0 : w2.cell? ⟨w.heap.size, k * 2, none⟩ = some x0 := by rw [cell_of_row _ _ _ _ _ _ hg2, List.getElem?_toArray, hx0]
      have e1 : w2.cell? ⟨w.heap.size, k * 2 + 1, none⟩ = some x1 := by rw [cell_of_row _ _ _ _ _ _ hg2, List.getElem?_toArray, hx1]
      have ef : ∀ j, w2.frozen? ⟨w.heap.size, j, none⟩ = false := fun j => frozen_of_row _ _ _ _ _ hg2
      have HG : Hid (w2.heap[w.heap.size]? = some (.cells cur.toArray 69 (0, 0))) := hg2
      have hlen2 : ((cur.set (k * 2) (.slice bo l.length cq)).set (k * 2 + 1) (.bool u)).length = xs.length * 2 := by simpa using hlen
      clear hx0 hx1 hg2 hg d0 d1 hb hb2 hr2 HC HI HV
      go_wp2
      go_roundw
      case rel => exact ⟨k + 1, _, by omega, by go_num, hlen2, set2_heap HG.out, HC3, (hb3.setCell (Nat.le_refl _) _).setCell (Nat.le_refl _) _⟩
      case measure => simp [intOf]; omega
    · obtain rfl : k = xs.length := by omega
      obtain ⟨us, HF, HA⟩ := idxOwn_all hg hlen hl HC.out
      go_wp2
      go_ret
      exact ⟨_, us, rfl, HF.out, HA.out, hb⟩
end Go.Proofs.Ytpmaklbbkmghbaa

/-
  Contract: a schema copied into rows of its own.
-/
namespace Go.Proofs.Ytpmaklbbkmghbaa
open Go.RowKit
set_option maxRecDepth 100000

theorem OwnX.base {W : World} {base base' : Nat} {x : Value} {us : List Value} {xs : List Idx} (h : OwnX base x us xs W) (hb : base' ≤ base) : OwnX base' x us xs W := ⟨h.len, owns_base h.row hb, fun p hp => owns_base (h.inner p hp) hb⟩
theorem OwnX.from_base {W : World} {base : Nat} {x : Value} {us : List Value} {xs : List Idx} (h : OwnX base x us xs W) : ∀ v ∈ x :: us, ∀ b, v.ownBlock = some b → base ≤ b := fun v hv b hb => by
  rcases List.mem_cons.1 hv with rfl | hv
  · exact (World.ownsRow.lt h.row b hb).1
  · obtain ⟨y, hy⟩ := mem_zip h.len hv
    exact (World.ownsRow.lt (h.inner _ hy) b hb).1
theorem apart_lt {u v : Value} {m : Nat} (hu : ∀ b, u.ownBlock = some b → b < m) (hv : ∀ b, v.ownBlock = some b → m ≤ b) : u.ownBlock = none ∨ u.ownBlock ≠ v.ownBlock := by
  cases h : u.ownBlock with
  | none => exact .inl rfl
  | some b => exact .inr (fun e => by have h1 := hu b h; have h2 := hv b e.symm; omega)
theorem apart_of {a k x : Value} {us : List Value} {m1 m2 : Nat} (ha : ∀ b, a.ownBlock = some b → b < m1) (hk : ∀ b, k.ownBlock = some b → m1 ≤ b ∧ b < m2) (hx : ∀ v ∈ x :: us, ∀ b, v.ownBlock = some b → m2 ≤ b) (hm : m1 ≤ m2) (hap : Apart (x :: us)) : Apart (a :: k :: x :: us) := by
  unfold Apart at hap ⊢
  rw [List.pairwise_cons, List.pairwise_cons]
  refine ⟨fun v hv => ?_, fun v hv => apart_lt (fun b hb => (hk b hb).2) (hx v hv), hap⟩
  rcases List.mem_cons.1 hv with rfl | hv
  · exact apart_lt ha (fun b hb => (hk b hb).1)
  · exact apart_lt ha (fun b hb => Nat.le_trans hm (hx v hv b hb))
set_option maxHeartbeats 1000000 in
theorem toSchema_own (A B : Nat) (ao : Option Addr) (c1 : Nat) (ko : Option Addr) (c2 : Nat) (xo : Option Addr) (c3 : Nat) (s : Sch) (w : World) (hB : B ≤ w.heap.size) (hf : schFits s) (hr : SchRow w A B ao ko xo c2 s) :
    Calls Try.prog 11 #[.agg #[.string s.name, .slice ao s.cols.length c1, .slice ko s.key.length c2, .slice xo s.idx.length c3]] w fun e w' =>
      ∃ a k x us, e = .returned (.agg #[.string s.name, a, k, x]) ∧ SOwn w.heap.size a k x us s w' ∧ Below w.heap.size w w' := by
  have HR : Hid (SchRow w A B ao ko xo c2 s) := hr
  have HF : Hid (schFits s) := hf
  clear hr hf
  obtain ⟨nm, cs, ky, xs⟩ := s
  simp only
  have HB0 : Hid (Below w.heap.size w (((w.alloc (.cells #[.string nm, .slice ao cs.length c1, .slice ko ky.length c2, .slice xo xs.length c3] 26)).alloc (.cells #[.string ⟨#[]⟩, .slice none 0 0, .slice none 0 0, .slice none 0 0] 32)).alloc (.cells #[.string nm, .slice none 0 0, .slice none 0 0, .slice none 0 0] 32))) := (((Below.refl _ _).alloc (Nat.le_refl _) _).alloc (by simp) _).alloc (by simp; omega) _
  have X0 : Hid ((((w.alloc (.cells #[.string nm, .slice ao cs.length c1, .slice ko ky.length c2, .slice xo xs.length c3] 26)).alloc (.cells #[.string ⟨#[]⟩, .slice none 0 0, .slice none 0 0, .slice none 0 0] 32)).alloc (.cells #[.string nm, .slice none 0 0, .slice none 0 0, .slice none 0 0] 32)).heap[w.heap.size]? = some (.cells #[.string nm, .slice ao cs.length c1, .slice ko ky.length c2, .slice xo xs.length c3] 26 (0, 0))) := (alloc3 _ _ _ _).1
  have Y0 : Hid ((((w.alloc (.cells #[.string nm, .slice ao cs.length c1, .slice ko ky.length c2, .slice xo xs.length c3] 26)).alloc (.cells #[.string ⟨#[]⟩, .slice none 0 0, .slice none 0 0, .slice none 0 0] 32)).alloc (.cells #[.string nm, .slice none 0 0, .slice none 0 0, .slice none 0 0] 32)).heap[w.heap.size + 1]? = some (.cells #[.string ⟨#[]⟩, .slice none 0 0, .slice none 0 0, .slice none 0 0] 32 (0, 0))) := (alloc3 _ _ _ _).2.1
  have L0 : Hid ((((w.alloc (.cells #[.string nm, .slice ao cs.length c1, .slice ko ky.length c2, .slice xo xs.length c3] 26)).alloc (.cells #[.string ⟨#[]⟩, .slice none 0 0, .slice none 0 0, .slice none 0 0] 32)).alloc (.cells #[.string nm, .slice none 0 0, .slice none 0 0, .slice none 0 0] 32)).heap[w.heap.size + 1 + 1]? = some (.cells #[.string nm, .slice none 0 0, .slice none 0 0, .slice none 0 0] 32 (0, 0))) := (alloc3 _ _ _ _).2.2
  go_enter Try.func11, Try.ntmps11
  go_wp2_with fail
  refine (toColumnS_own A w.heap.size ao c1 cs _ HB0.out.size HF.out.1 ((HR.out.2.1.mono (Nat.le_refl _) hB).kept HB0.out)).mono ?_
  rintro e w1 ⟨av, rfl, hr1, hb1⟩
  obtain ⟨ao', c1', rfl⟩ := ownC_shape hr1
  have hsz1 := hb1.size
  simp at hsz1
  have R1 : Hid (OwnC (w.heap.size + 3) (.slice ao' cs.length c1') cs w1) := owns_base hr1 (by simp)
  have M1 : Hid (∀ b, (Value.slice ao' cs.length c1').ownBlock = some b → b < w1.heap.size) := fun b hb => (World.ownsRow.lt hr1 b hb).2
  have B1 : Hid (Below w.heap.size w (w1.setCell ⟨w.heap.size + 1 + 1, 1, none⟩ (.slice ao' cs.length c1'))) := (HB0.out.trans (hb1.mono HB0.out.size)).setCell (by simp; omega) _
  have Z1 : Hid (w.heap.size + 3 ≤ w1.heap.size) := by show _ ≤ _; omega
  have X1 : Hid (w1.heap[w.heap.size]? = some (.cells #[.string nm, .slice ao cs.length c1, .slice ko ky.length c2, .slice xo xs.length c3] 26 (0, 0))) := (hb1.block _ (by simp; omega)).trans X0.out
  have Y1 : Hid (w1.heap[w.heap.size + 1]? = some (.cells #[.string ⟨#[]⟩, .slice none 0 0, .slice none 0 0, .slice none 0 0] 32 (0, 0))) := (hb1.block _ (by simp)).trans Y0.out
  have L1 : Hid (w1.heap[w.heap.size + 1 + 1]? = some (.cells #[.string nm, .slice none 0 0, .slice none 0 0, .slice none 0 0] 32 (0, 0))) := (hb1.block _ (by simp)).trans L0.out
  obtain ⟨x0, x1, x2, x3, xf⟩ := cells4 X1.out
  obtain ⟨l0, l1, l2, l3, lf⟩ := cells4 L1.out
  clear hr1 hb1 X0 Y0 L0
  go_wp2_with fail
  refine (toInt64S_own A w.heap.size ko c2 ky _ B1.out.size HF.out.2.1 ((HR.out.2.2.1.mono (Nat.le_refl _) hB).kept B1.out)).mono ?_
  rintro e w2 ⟨kv, rfl, hr2, hb2⟩
  obtain ⟨ko', c2', rfl⟩ := ownN_shape hr2
  have hsz2 := hb2.size
  simp at hsz2
  have R2 : Hid (OwnN (w.heap.size + 3) (.slice ko' ky.length c2') ky w2) := owns_base hr2 (by simp; exact Z1.out)
  have M2 : Hid (∀ b, (Value.slice ko' ky.length c2').ownBlock = some b → w1.heap.size ≤ b ∧ b < w2.heap.size) := fun b hb => by have := World.ownsRow.lt hr2 b hb; simp at this; exact this
  have R12 : Hid (OwnC (w.heap.size + 3) (.slice ao' cs.length c1') cs w2) := owns_below (own_set R1.out (by omega)) hb2
  have B2 : Hid (Below w.heap.size w (w2.setCell ⟨w.heap.size + 1 + 1, 2, none⟩ (.slice ko' ky.length c2'))) := (B1.out.trans (hb2.mono B1.out.size)).setCell (by simp; omega) _
  have Z2 : Hid (w.heap.size + 3 ≤ w2.heap.size) := by show _ ≤ _; omega
  have X2 : Hid (w2.heap[w.heap.size]? = some (.cells #[.string nm, .slice ao cs.length c1, .slice ko ky.length c2, .slice xo xs.length c3] 26 (0, 0))) := ((hb2.block _ (by simp; have := Z1.out; omega)).trans (heap_far _ _ _ _ _ (by omega))).trans X1.out
  have Y2 : Hid (w2.heap[w.heap.size + 1]? = some (.cells #[.string ⟨#[]⟩, .slice none 0 0, .slice none 0 0, .slice none 0 0] 32 (0, 0))) := ((hb2.block _ (by simp; have := Z1.out; omega)).trans (heap_far _ _ _ _ _ (by omega))).trans Y1.out
  have L2 : Hid (w2.heap[w.heap.size + 1 + 1]? = some (.cells #[.string nm, .slice ao' cs.length c1', .slice none 0 0, .slice none 0 0] 32 (0, 0))) := (hb2.block _ (by simp; have := Z1.out; omega)).trans (by simpa using heap_setCell_same _ _ 1 _ _ (.slice ao' cs.length c1') L1.out)
  clear x0 x1 x2 x3 xf l0 l1 l2 l3 lf
  obtain ⟨x0, x1, x2, x3, xf⟩ := cells4 X2.out
  obtain ⟨l0, l1, l2, l3, lf⟩ := cells4 L2.out
  clear hr2 hb2 R1 X1 Y1 L1
  go_wp2_with fail
  refine (toIndexS_own A w.heap.size xo c3 xs _ B2.out.size HF.out.2.2.1 HF.out.2.2.2 ((HR.out.2.2.2.mono (Nat.le_refl _) hB).kept B2.out)).mono ?_
  rintro e w3 ⟨xv, us, rfl, hr3, hap3, hb3⟩
  obtain ⟨xo', c3', rfl⟩ := ownX_shape hr3
  have hsz3 := hb3.size
  simp at hsz3
  have R3 : Hid (OwnX (w.heap.size + 3) (.slice xo' xs.length c3') us xs w3) := hr3.base (by simp; exact Z2.out)
  have M3 : Hid (∀ v ∈ Value.slice xo' xs.length c3' :: us, ∀ b, v.ownBlock = some b → w2.heap.size ≤ b) := fun v hv b hb => by have := hr3.from_base v hv b hb; simp at this; exact this
  have R13 : Hid (OwnC (w.heap.size + 3) (.slice ao' cs.length c1') cs w3) := owns_below (own_set R12.out (by omega)) hb3
  have R23 : Hid (OwnN (w.heap.size + 3) (.slice ko' ky.length c2') ky w3) := owns_below (own_set R2.out (by omega)) hb3
  have HS : Hid (SOwn (w.heap.size + 3) (.slice ao' cs.length c1') (.slice ko' ky.length c2') (.slice xo' xs.length c3') us ⟨nm, cs, ky, xs⟩ w3) := ⟨R13.out, R23.out, R3.out, apart_of M1.out M2.out M3.out (by omega) hap3⟩
  have B3 : Hid (Below w.heap.size w w3) := B2.out.trans (hb3.mono B2.out.size)
  have Y3 : Hid (w3.heap[w.heap.size + 1]? = some (.cells #[.string ⟨#[]⟩, .slice none 0 0, .slice none 0 0, .slice none 0 0] 32 (0, 0))) := ((hb3.block _ (by simp; have := Z2.out; omega)).trans (heap_far _ _ _ _ _ (by omega))).trans Y2.out
  have L3 : Hid (w3.heap[w.heap.size + 1 + 1]? = some (.cells #[.string nm, .slice ao' cs.length c1', .slice ko' ky.length c2', .slice none 0 0] 32 (0, 0))) := (hb3.block _ (by simp; have := Z2.out; omega)).trans (by simpa using heap_setCell_same _ _ 2 _ _ (.slice ko' ky.length c2') L2.out)
  clear x0 x1 x2 x3 xf l0 l1 l2 l3 lf
  obtain ⟨y0, y1, y2, y3, yf⟩ := cells4 Y3.out
  obtain ⟨l0, l1, l2, l3, lf⟩ := cells4 L3.out
  clear hr3 hb3 hap3 M1 M2 M3 R12 R2 R3 R13 R23 B2 B1 HB0 HR HF X2 Y2 L2
  go_wp2
  refine bodyPost_ret (v := .agg #[.string nm, .slice ao' cs.length c1', .slice ko' ky.length c2', .slice xo' xs.length c3']) (by simp [results, Try.results11, go_sem, y0, y1, y2, y3]) rfl ⟨_, _, _, us, rfl, ?_, ?_⟩
  · exact (((((HS.out.set (by omega)).set (by omega)).set (by omega)).set (by omega)).set (by omega)).base (by omega)
  · exact ((((B3.out.setCell (by simp; omega) _).setCell (by simp) _).setCell (by simp) _).setCell (by simp) _).setCell (by simp) _
end Go.Proofs.Ytpmaklbbkmghbaa

/-
  Contracts: slices.Clone of numbers and of columns: rows of their own.
-/
namespace Go.Proofs.Ytpmaklbbkmghbaa
open Go.RowKit
set_option maxRecDepth 100000

theorem addr_add (b o j : Nat) : (⟨b, o, none⟩ : Addr).add j = ⟨b, o + j, none⟩ := by unfold Addr.add; split <;> simp_all
theorem intRow_news {w : World} {A B : Nat} {ad : Addr} {l : List Int} (h : IntRow w A B (some ad) l) : ∀ j u, (numsV l)[j]? = some u → w.cell? (ad.add j) = some u := by
  intro j u hj
  have hlt : j < l.length := by have := (List.getElem?_eq_some_iff.1 hj).1; simpa [numsV] using this
  obtain ⟨b, off, x, e, _, hx, _, hc⟩ := h.at j hlt
  obtain rfl := Option.some.inj e
  rw [addr_add, hc, ← hx]
  rw [numsV, List.getElem?_map, List.getElem?_eq_getElem hlt] at hj
  rw [← hj, List.getD_eq_getElem?_getD, List.getElem?_eq_getElem hlt]; rfl
theorem flatC_at (cs : List Col) (j : Nat) (u : Value) (h : (flatC cs)[j]? = some u) : ∃ i, i < cs.length ∧ (j = i * 3 ∧ u = .string (cs.getD i noCol).name ∨ j = i * 3 + 1 ∧ u = .int .i64 (cs.getD i noCol).kind ∨ j = i * 3 + 2 ∧ u = .bool (cs.getD i noCol).nul) := by
  have hl : j < (flatC cs).length := (List.getElem?_eq_some_iff.1 h).1
  rw [flatC_len] at hl
  have hi : j / 3 < cs.length := by omega
  obtain ⟨h0, h1, h2⟩ := flatC_get cs (j / 3) hi
  refine ⟨j / 3, hi, ?_⟩
  have h3 : j % 3 < 3 := Nat.mod_lt _ (by omega)
  rcases (by omega : j % 3 = 0 ∨ j % 3 = 1 ∨ j % 3 = 2) with e | e | e
  · have ej : j = j / 3 * 3 := by omega
    rw [← ej, h] at h0
    exact .inl ⟨ej, Option.some.inj h0⟩
  · have ej : j = j / 3 * 3 + 1 := by omega
    rw [← ej, h] at h1
    exact .inr (.inl ⟨ej, Option.some.inj h1⟩)
  · have ej : j = j / 3 * 3 + 2 := by omega
    rw [← ej, h] at h2
    exact .inr (.inr ⟨ej, Option.some.inj h2⟩)
theorem colRow_news {w : World} {A B : Nat} {ad : Addr} {cs : List Col} (h : ColRow w A B (some ad) cs) : ∀ j u, (flatC cs)[j]? = some u → w.cell? (ad.add j) = some u := by
  intro j u hj
  obtain ⟨i, hi, hu⟩ := flatC_at cs j u hj
  rcases h.2 with h0 | ⟨b, off, e, _, _, hc⟩
  · omega
  · obtain rfl := Option.some.inj e
    obtain ⟨c0, c1, c2⟩ := hc i hi
    rcases hu with ⟨rfl, rfl⟩ | ⟨rfl, rfl⟩ | ⟨rfl, rfl⟩
    · rw [addr_add]; exact c0
    · rw [addr_add]; exact c1
    · rw [addr_add]; exact c2
theorem flatC_one (cs : List Col) : ∀ u ∈ flatC cs, u.oneCell' = true := by
  intro u hu
  obtain ⟨j, hj⟩ := List.mem_iff_getElem?.1 hu
  obtain ⟨i, _, h⟩ := flatC_at cs j u hj
  rcases h with ⟨_, rfl⟩ | ⟨_, rfl⟩ | ⟨_, rfl⟩ <;> rfl
set_option maxHeartbeats 2000000 in
theorem cloneNums_own (A B : Nat) (ao : Option Addr) (cap : Nat) (l : List Int) (w : World) (hB : B ≤ w.heap.size) (hl : l.length ≤ 1048576) (hr : IntRow w A B ao l) :
    Calls Try.prog 111 #[.slice ao l.length cap] w fun e w' => ∃ v, e = .returned v ∧ OwnN w.heap.size v l w' ∧ Below w.heap.size w w' := by
  obtain ⟨i0, hi, hz0, hz1, hz2⟩ := info_parts Try.infoI64
  have qn : ∀ (w : World) (a : Option Addr) (n c n' c' : Nat), (binOp .eql 23 (.slice a n c) (.slice none n' c')).run Try.prog w = .ok (.bool a.isNone) w := fun w a n c n' c' => Lib.run_eql_slice_nil w _ _ a n c n' c' Try.underlying23
  cases ao with
  | none =>
    have h0 : l = [] := by
      rcases hr.2 with h0 | ⟨b, off, e, _⟩
      · exact List.eq_nil_of_length_eq_zero h0
      · cases e
    subst h0
    clear hr
    go_enter Try.func111, Try.ntmps111
    go_wp2
    go_ret
    exact ⟨_, rfl, ownN_nil _ _, Below.refl _ _⟩
  | some ad =>
    have hown : (w.alloc (.cells #[] 2)).ownsRow w.heap.size 2 1 (.slice (some ⟨w.heap.size, 0, none⟩) 0 0) 0 (numsV []) := ⟨rfl, .inr ⟨w.heap.size, 0, #[], rfl, Nat.le_refl _, heap_alloc_new _ _, Nat.le_refl _, Nat.zero_le _, rfl, rfl⟩⟩
    have hnews := hide (intRow_news (hr.kept (((Below.refl B w).alloc hB (.cells #[] 2)))))
    have HL : Hid ((numsV l).length = l.length * 1) := by show _ = _; simp [numsV]
    clear hr
    generalize hn : l.length = n at *
    go_enter Try.func111, Try.ntmps111
    go_wp2_with (at_builtin; refine wpList_append_own _ rfl _ _ 23 rfl w.heap.size 2 i0 (.int .i64 0) 1 8 Try.underlying23 hi hz0 hz1 hz2 rfl (by decide) _ _ _ rfl hown ad n cap (numsV l) rfl HL.out hnews.out (ints_oneCell .i64 l) (by unfold maxLen; omega) (by omega) (size_alloc_le _ (Nat.le_refl _)) ?_; intro v5 w5 hown5 hgrow5 hnn5)
    have k5 : Below w.heap.size w w5 := ((Below.refl w.heap.size w).alloc (Nat.le_refl _) _).grown hgrow5 (size_alloc_le _ (Nat.le_refl _)) (fun j hj => Nat.le_of_eq (Option.some.inj (show some w.heap.size = some j from hj)))
    have O5 : Hid (OwnN w.heap.size v5 l w5) := by show OwnN _ _ _ _; unfold OwnN; rw [hn]; simpa [numsV] using hown5
    clear hown5 hgrow5 hnn5 hnews hown HL hn
    go_wp2
    go_ret
    exact ⟨_, rfl, O5.out, k5⟩
set_option maxHeartbeats 2000000 in
theorem cloneCols_own (A B : Nat) (ao : Option Addr) (cap : Nat) (cs : List Col) (w : World) (hB : B ≤ w.heap.size) (hl : cs.length ≤ 1048576) (hr : ColRow w A B ao cs) :
    Calls Try.prog 110 #[.slice ao cs.length cap] w fun e w' => ∃ v, e = .returned v ∧ OwnC w.heap.size v cs w' ∧ Below w.heap.size w w' := by
  obtain ⟨i0, hi, hz0, hz1, hz2⟩ := info_parts Try.infoCol
  have qn : ∀ (w : World) (a : Option Addr) (n c n' c' : Nat), (binOp .eql 29 (.slice a n c) (.slice none n' c')).run Try.prog w = .ok (.bool a.isNone) w := fun w a n c n' c' => Lib.run_eql_slice_nil w _ _ a n c n' c' Try.underlying29
  cases ao with
  | none =>
    have h0 : cs = [] := by
      rcases hr.2 with h0 | ⟨b, off, e, _⟩
      · exact List.eq_nil_of_length_eq_zero h0
      · cases e
    subst h0
    clear hr
    go_enter Try.func110, Try.ntmps110
    go_wp2
    go_ret
    exact ⟨_, rfl, ownC_nil _ _, Below.refl _ _⟩
  | some ad =>
    have hown : (w.alloc (.cells #[] 67)).ownsRow w.heap.size 67 3 (.slice (some ⟨w.heap.size, 0, none⟩) 0 0) 0 (flatC []) := ⟨rfl, .inr ⟨w.heap.size, 0, #[], rfl, Nat.le_refl _, heap_alloc_new _ _, Nat.le_refl _, Nat.zero_le _, rfl, rfl⟩⟩
    have hnews := hide (colRow_news (hr.kept (((Below.refl B w).alloc hB (.cells #[] 67)))))
    have HL := hide (flatC_len cs)
    clear hr
    generalize hn : cs.length = n at *
    go_enter Try.func110, Try.ntmps110
    go_wp2_with (at_builtin; refine wpList_append_own _ rfl _ _ 29 rfl w.heap.size 67 i0 (.agg #[.string ⟨#[]⟩, .int .i64 0, .bool false]) 3 32 Try.underlying29 hi hz0 hz1 hz2 rfl (by decide) _ _ _ rfl hown ad n cap (flatC cs) rfl HL.out hnews.out (flatC_one cs) (by unfold maxLen; omega) (by omega) (size_alloc_le _ (Nat.le_refl _)) ?_; intro v5 w5 hown5 hgrow5 hnn5)
    have k5 : Below w.heap.size w w5 := ((Below.refl w.heap.size w).alloc (Nat.le_refl _) _).grown hgrow5 (size_alloc_le _ (Nat.le_refl _)) (fun j hj => Nat.le_of_eq (Option.some.inj (show some w.heap.size = some j from hj)))
    have O5 : Hid (OwnC w.heap.size v5 cs w5) := by show OwnC _ _ _ _; unfold OwnC; rw [hn]; simpa [flatC] using hown5
    clear hown5 hgrow5 hnn5 hnews hown HL hn
    go_wp2
    go_ret
    exact ⟨_, rfl, O5.out, k5⟩
end Go.Proofs.Ytpmaklbbkmghbaa

/-
  Contract: the program's copy of a schema lies in rows of its own.
-/
namespace Go.Proofs.Ytpmaklbbkmghbaa
open Go.RowKit
set_option maxRecDepth 100000

/-- The box of the schema that was handed in, and the result's variable, lie where they lay. -/
def CpS (w : World) (box Z : List Value) (W : World) : Prop := Below w.heap.size w W ∧ W.heap[w.heap.size]? = some (.cells box.toArray 32 (0, 0)) ∧ W.heap[w.heap.size + 1]? = some (.cells Z.toArray 32 (0, 0))
theorem CpS.lt {w W : World} {box Z : List Value} (h : CpS w box Z W) : w.heap.size + 1 < W.heap.size := (Array.getElem?_eq_some_iff.1 h.2.2).1
theorem CpS.below {w W W' : World} {box Z : List Value} (h : CpS w box Z W) (hb : Below W.heap.size W W') : CpS w box Z W' := by
  have hl := h.lt
  exact ⟨h.1.trans (hb.mono h.1.size), (hb.block _ (by omega)).trans h.2.1, (hb.block _ hl).trans h.2.2⟩
theorem CpS.cells {w W : World} {v0 v1 v2 v3 : Value} {Z : List Value} (h : CpS w [v0, v1, v2, v3] Z W) : CpS w [v0, v1, v2, v3] Z W ∧ W.cell? ⟨w.heap.size, 0, none⟩ = some v0 ∧ W.cell? ⟨w.heap.size, 1, none⟩ = some v1 ∧ W.cell? ⟨w.heap.size, 2, none⟩ = some v2 := by
  obtain ⟨c0, c1, c2, _, _⟩ := cells4 (show W.heap[w.heap.size]? = some (.cells #[v0, v1, v2, v3] 32 (0, 0)) from h.2.1)
  exact ⟨h, c0, c1, c2⟩
theorem cpS_keep {w W W' : World} {v0 v1 v2 v3 : Value} {Z : List Value} {p : Prop} (h : CpS w [v0, v1, v2, v3] Z W ∧ p) (hb : Below W.heap.size W W') : CpS w [v0, v1, v2, v3] Z W' ∧ W'.cell? ⟨w.heap.size, 0, none⟩ = some v0 ∧ W'.cell? ⟨w.heap.size, 1, none⟩ = some v1 ∧ W'.cell? ⟨w.heap.size, 2, none⟩ = some v2 := (h.1.below hb).cells
theorem below_allocW (W : World) (o : Obj) : Below W.heap.size W (W.alloc o) := (Below.refl _ _).alloc (Nat.le_refl _) o
theorem cpS_col {w W : World} {A B : Nat} {ao : Option Addr} {cs : List Col} {box Z : List Value} {p : Prop} (hr : ColRow w A B ao cs) (hB : B ≤ w.heap.size) (h : CpS w box Z W ∧ p) : ColRow W A w.heap.size ao cs := (hr.mono (Nat.le_refl _) hB).kept h.1.1
theorem cpS_int {w W : World} {A B : Nat} {ao : Option Addr} {l : List Int} {box Z : List Value} {p : Prop} (hr : IntRow w A B ao l) (hB : B ≤ w.heap.size) (h : CpS w box Z W ∧ p) : IntRow W A w.heap.size ao l := (hr.mono (Nat.le_refl _) hB).kept h.1.1
theorem cpS_size {w W : World} {box Z : List Value} {p : Prop} (h : CpS w box Z W ∧ p) : w.heap.size ≤ W.heap.size := h.1.1.size
theorem cpS_start (w : World) (o : List Value) (z : List Value) : CpS w o z ((w.alloc (.cells o.toArray 32)).alloc (.cells z.toArray 32)) := by
  refine ⟨((Below.refl _ _).alloc (Nat.le_refl _) _).alloc (by simp) _, (heap_old _ _ _ (by simp)).trans (heap_alloc_new _ _), ?_⟩
  have := heap_alloc_new (w.alloc (.cells o.toArray 32)) (.cells z.toArray 32)
  simpa using this
theorem CpS.set {w W : World} {box Z : List Value} {L j : Nat} {v : Value} (h : CpS w box Z W) (hL : w.heap.size + 1 < L) : CpS w box Z (W.setCell ⟨L, j, none⟩ v) :=
  ⟨h.1.setCell (by simp; omega) _, (heap_far _ _ _ _ _ (by omega)).trans h.2.1, (heap_far _ _ _ _ _ (by omega)).trans h.2.2⟩
theorem cpS_set4 {w W : World} {v0 v1 v2 v3 : Value} {Z : List Value} {p : Prop} {L : Nat} {x y z u : Value} (h : CpS w [v0, v1, v2, v3] Z W ∧ p) (hL : w.heap.size + 1 < L) : CpS w [v0, v1, v2, v3] Z ((((W.setCell ⟨L, 0, none⟩ x).setCell ⟨L, 1, none⟩ y).setCell ⟨L, 2, none⟩ z).setCell ⟨L, 3, none⟩ u) ∧ ((((W.setCell ⟨L, 0, none⟩ x).setCell ⟨L, 1, none⟩ y).setCell ⟨L, 2, none⟩ z).setCell ⟨L, 3, none⟩ u).cell? ⟨w.heap.size, 0, none⟩ = some v0 ∧ ((((W.setCell ⟨L, 0, none⟩ x).setCell ⟨L, 1, none⟩ y).setCell ⟨L, 2, none⟩ z).setCell ⟨L, 3, none⟩ u).cell? ⟨w.heap.size, 1, none⟩ = some v1 ∧ ((((W.setCell ⟨L, 0, none⟩ x).setCell ⟨L, 1, none⟩ y).setCell ⟨L, 2, none⟩ z).setCell ⟨L, 3, none⟩ u).cell? ⟨w.heap.size, 2, none⟩ = some v2 := ((((h.1.set hL).set hL).set hL).set hL).cells
/-- The copy in block L, with the first indexes. -/
def CpI (w : World) (L : Nat) (a k x : Value) (us : List Value) (S : Sch) (box Z : List Value) (W : World) : Prop :=
  CpS w box Z W ∧ w.heap.size + 1 < L ∧ W.heap[L]? = some (.cells #[.string S.name, a, k, x] 32 (0, 0)) ∧ SOwn (w.heap.size + 2) a k x us S W ∧ ∀ v ∈ a :: k :: x :: us, v.ownBlock ≠ some L
theorem own_setNe {W : World} {base g m n size : Nat} {v x : Value} {xs : List Value} {t : TypeId} (h : W.ownsRow base t size v n xs) (hg : v.ownBlock ≠ some g) : (W.setCell ⟨g, m, none⟩ x).ownsRow base t size v n xs := by
  refine ⟨h.1, ?_⟩
  rcases h.2 with h0 | ⟨q, cap, cur, rfl, hB, hq, hn, hm, hs, ht⟩
  · exact .inl h0
  · exact .inr ⟨q, cap, cur, rfl, hB, by rw [heap_setCell_other _ _ _ _ (show q ≠ g from fun e => hg (by rw [e]; rfl))]; exact hq, hn, hm, hs, ht⟩
theorem SOwn.setNe {W : World} {base g m : Nat} {a k x y : Value} {us : List Value} {S : Sch} (h : SOwn base a k x us S W) (hg : ∀ v ∈ a :: k :: x :: us, v.ownBlock ≠ some g) : SOwn base a k x us S (W.setCell ⟨g, m, none⟩ y) :=
  ⟨own_setNe h.cols (hg _ (by simp)), own_setNe h.key (hg _ (by simp)), ⟨h.idx.len, own_setNe h.idx.row (hg _ (by simp)), fun p hp => own_setNe (h.idx.inner p hp) (hg _ (by simp [(List.of_mem_zip hp).1]))⟩, h.apart⟩
theorem cpI_of {w F : World} {L b1 b2 m : Nat} {a k : Value} {nm : ByteArray} {cs : List Col} {ky : List Int} {box Z : List Value} (hS : CpS w box Z F) (hL : w.heap.size + 1 < L) (hv : F.heap[L]? = some (.cells #[.string nm, a, k, .slice none 0 0] 32 (0, 0)))
    (hc : OwnC b1 a cs F) (hk : OwnN b2 k ky F) (h1 : w.heap.size + 2 ≤ b1) (h2 : w.heap.size + 2 ≤ b2) (ha : ∀ b, a.ownBlock = some b → b < m ∧ b ≠ L) (hb : ∀ b, k.ownBlock = some b → m ≤ b ∧ b ≠ L) : CpI w L a k (.slice none 0 0) [] ⟨nm, cs, ky, []⟩ box Z F := by
  refine ⟨hS, hL, hv, ⟨owns_base hc h1, owns_base hk h2, ownX_nil _ _, apart0 (m := m) (fun b h => (ha b h).1) (fun b h => (hb b h).1)⟩, ?_⟩
  intro v hv
  simp only [List.mem_cons, List.not_mem_nil, or_false] at hv
  rcases hv with rfl | rfl | rfl
  · exact fun e => (ha L e).2 rfl
  · exact fun e => (hb L e).2 rfl
  · simp [Value.ownBlock]
theorem CpS.grown {w W W' : World} {box Z : List Value} {r : Option Nat} (h : CpS w box Z W) (hg : W.grownBy W' r) (hr : ∀ b, r = some b → w.heap.size + 2 ≤ b) : CpS w box Z W' := by
  have hl := h.lt
  exact ⟨h.1.grown hg h.1.size (fun b hb => by have := hr b hb; omega), (hg.block _ (by omega) (fun e => by have := hr _ e.symm; omega)).trans h.2.1, (hg.block _ hl (fun e => by have := hr _ e.symm; omega)).trans h.2.2⟩
theorem takeX_snoc {xs : List Idx} {j : Nat} {l : List Int} {u : Bool} (hj : j < xs.length) (hx : xs.getD j noIdx = ⟨l, u⟩) : xs.take (j + 1) = xs.take j ++ [⟨l, u⟩] := by
  rw [List.take_succ_eq_append_getElem hj]; rw [List.getD_eq_getElem?_getD, List.getElem?_eq_getElem hj] at hx; simp only [Option.getD_some] at hx; rw [hx]
set_option maxHeartbeats 4000000 in
theorem copySchema_own (A B : Nat) (ao : Option Addr) (c1 : Nat) (ko : Option Addr) (c2 : Nat) (xo : Option Addr) (c3 : Nat) (s : Sch) (w : World) (hB : B ≤ w.heap.size) (hf : schFits s) (hr : SchRow w A B ao ko xo c2 s) :
    Calls Try.prog 76 #[.agg #[.string s.name, .slice ao s.cols.length c1, .slice ko s.key.length c2, .slice xo s.idx.length c3]] w fun e w' =>
      ∃ a k x us, e = .returned (.agg #[.string s.name, a, k, x]) ∧ SOwn w.heap.size a k x us s w' ∧ Below w.heap.size w w' := by
  have HR : Hid (SchRow w A B ao ko xo c2 s) := hr
  have HF : Hid (schFits s) := hf
  clear hr hf
  obtain ⟨nm, cs, ky, xs⟩ := s
  simp only
  have H0 := hide (cpS_start w [.string nm, .slice ao cs.length c1, .slice ko ky.length c2, .slice xo xs.length c3] [.string ⟨#[]⟩, .slice none 0 0, .slice none 0 0, .slice none 0 0])
  go_enter Try.func76, Try.ntmps76
  go_upto_region 1 with fail
  go_cut [3] from 6 to 14 (fun p W => ∃ L a k, p = .pointer (some ⟨L, 0, none⟩) ∧ Hid (CpI w L a k (.slice none 0 0) [] ⟨nm, cs, ky, []⟩ [.string nm, .slice ao cs.length c1, .slice ko ky.length c2, .slice xo xs.length c3] [.string ⟨#[]⟩, .slice none 0 0, .slice none 0 0, .slice none 0 0] W))
  case first =>
    go_region_held_law (fun W => CpS w [.string nm, .slice ao cs.length c1, .slice ko ky.length c2, .slice xo xs.length c3] [.string ⟨#[]⟩, .slice none 0 0, .slice none 0 0, .slice none 0 0] W ∧ W.cell? ⟨w.heap.size, 0, none⟩ = some (.string nm) ∧ W.cell? ⟨w.heap.size, 1, none⟩ = some (.slice ao cs.length c1) ∧ W.cell? ⟨w.heap.size, 2, none⟩ = some (.slice ko ky.length c2)) (first | exact (H0.out.below ((Below.refl _ _).drew)).cells | exact cpS_keep (by assumption) (below_allocW _ _) | exact cpS_keep (by assumption) kC | exact cpS_keep (by assumption) kK | exact cpS_keep ⟨SC.out, trivial⟩ (below_allocW _ _) | exact cpS_keep ⟨SK.out, trivial⟩ (below_allocW _ _) | exact cpS_set4 (by assumption) ZC.out | exact cpS_set4 (by assumption) ZK.out | exact cpS_set4 (by assumption) (Nat.lt_succ_self _)) (first
      | (go_simp; go_at_call 110; refine (cloneCols_own A w.heap.size ao c1 cs _ (cpS_size (by assumption)) HF.out.1 (cpS_col HR.out.2.1 hB (by assumption))).mono ?_; rintro e yC ⟨vC, rfl, oC, kC⟩; obtain ⟨aoC, capC, rfl⟩ := ownC_shape oC; have OC := hide oC; have SC := hide (cpS_keep (v3 := .slice xo xs.length c3) (Z := [.string ⟨#[]⟩, .slice none 0 0, .slice none 0 0, .slice none 0 0]) (by assumption) kC).1; have ZC := hide SC.out.lt; have BC := hide (World.ownsRow.lt oC); obtain ⟨hcC, hfC⟩ := bcell kC; (try (have hlC : w.heap.size + 1 + 1 < yC.heap.size := by (have h := kC.size; simp at h; omega))); clear oC; dsimp only)
      | (go_simp; go_at_call 111; refine (cloneNums_own A w.heap.size ko c2 ky _ (cpS_size (by assumption)) HF.out.2.1 (cpS_int HR.out.2.2.1 hB (by assumption))).mono ?_; rintro e yK ⟨vK, rfl, oK, kK⟩; obtain ⟨aoK, capK, rfl⟩ := ownN_shape oK; have OK := hide oK; have SK := hide (cpS_keep (v3 := .slice xo xs.length c3) (Z := [.string ⟨#[]⟩, .slice none 0 0, .slice none 0 0, .slice none 0 0]) (by assumption) kK).1; have ZK := hide SK.out.lt; have BK := hide (World.ownsRow.lt oK); obtain ⟨hcK, hfK⟩ := bcell kK; (try (have hlK : w.heap.size + 1 + 1 < yK.heap.size := by (have h := kK.size; simp at h; omega))); clear oK; dsimp only))
    · go_wp2_with fail
      go_meet
      refine ⟨yK.heap.size, _, _, rfl, hide (cpI_of (b1 := w.heap.size + 2) (b2 := yC.heap.size) (m := yC.heap.size) (SK.out.below (below_allocW _ _)) ZK.out (heap_alloc_new _ _) ?_ ?_ (Nat.le_refl _) ZC.out ?_ ?_)⟩
      · exact World.ownsRow.alloc (owns_below (owns_base OC.out (by simp)) kK) _
      · exact World.ownsRow.alloc OK.out _
      · intro b hb; have h1 := BC.out b hb; have h2 := kK.size; omega
      · intro b hb; have h1 := BK.out b hb; omega
    · go_wp2_with fail
      go_meet
      have hz := kK.size
      simp at hz
      refine ⟨yC.heap.size, _, _, rfl, hide (cpI_of (b1 := w.heap.size + 2) (b2 := yC.heap.size + 1) (m := yC.heap.size) ((((SK.out.set ZC.out).set ZC.out).set ZC.out).set ZC.out) ZC.out (set4 ((kK.block _ (by simp)).trans (heap_alloc_new _ _))) ?_ ?_ (Nat.le_refl _) (Nat.le_succ_of_le ZC.out) ?_ ?_)⟩
      · have hne : (Value.slice aoC cs.length capC).ownBlock ≠ some yC.heap.size := fun e => Nat.lt_irrefl _ (BC.out _ e).2
        exact own_setNe (own_setNe (own_setNe (own_setNe (owns_below (World.ownsRow.alloc (owns_base OC.out (by simp)) _) kK) hne) hne) hne) hne
      · exact own_set (own_set (own_set (own_set (owns_base OK.out (by simp)) (Nat.lt_succ_self _)) (Nat.lt_succ_self _)) (Nat.lt_succ_self _)) (Nat.lt_succ_self _)
      · intro b hb; have h1 := BC.out b hb; omega
      · intro b hb; have h1 := BK.out b hb; simp at h1; omega
    · go_wp2_with fail
      go_meet
      refine ⟨w.heap.size + 1 + 1, _, _, rfl, hide (cpI_of (b1 := w.heap.size + 3) (b2 := yC.heap.size) (m := yC.heap.size) ((((SK.out.set (Nat.lt_succ_self _)).set (Nat.lt_succ_self _)).set (Nat.lt_succ_self _)).set (Nat.lt_succ_self _)) (Nat.lt_succ_self _) (set4 (a := .string ⟨#[]⟩) (b := .slice none 0 0) (c := .slice none 0 0) (d := .slice none 0 0) ((kK.block _ hlC).trans ((kC.block _ (by simp)).trans ?_))) ?_ ?_ (Nat.le_succ _) ZC.out ?_ ?_)⟩
      · have h0 := heap_alloc_new ((w.alloc (.cells #[.string nm, .slice ao cs.length c1, .slice ko ky.length c2, .slice xo xs.length c3] 32)).alloc (.cells #[.string ⟨#[]⟩, .slice none 0 0, .slice none 0 0, .slice none 0 0] 32)).drew (.cells #[.string ⟨#[]⟩, .slice none 0 0, .slice none 0 0, .slice none 0 0] 32)
        have hs0 : ((w.alloc (.cells #[.string nm, .slice ao cs.length c1, .slice ko ky.length c2, .slice xo xs.length c3] 32)).alloc (.cells #[.string ⟨#[]⟩, .slice none 0 0, .slice none 0 0, .slice none 0 0] 32)).drew.heap.size = w.heap.size + 1 + 1 := by simp
        rw [hs0] at h0
        exact h0
      · exact own_set (own_set (own_set (own_set (owns_below (owns_base OC.out (by simp)) kK) (by omega)) (by omega)) (by omega)) (by omega)
      · exact own_set (own_set (own_set (own_set OK.out hlC) hlC) hlC) hlC
      · intro b hb; have h1 := BC.out b hb; simp at h1; omega
      · intro b hb; have h1 := BK.out b hb; omega
  case rest =>
    obtain ⟨L, a, k, rfl, HI⟩ := hcut
    obtain ⟨x0, x1, x2, x3, xf⟩ := cells4 (show wc.heap[w.heap.size]? = some (.cells #[.string nm, .slice ao cs.length c1, .slice ko ky.length c2, .slice xo xs.length c3] 32 (0, 0)) from HI.out.1.2.1)
    clear H0
    go_wp2
    go_loopw [18] (fun i wr => ∃ (j : Nat) (x : Value) (us : List Value), j ≤ xs.length ∧ i = .int .i64 j ∧ Hid (CpI w L a k x us ⟨nm, cs, ky, xs.take j⟩ [.string nm, .slice ao cs.length c1, .slice ko ky.length c2, .slice xo xs.length c3] [.string ⟨#[]⟩, .slice none 0 0, .slice none 0 0, .slice none 0 0] wr)) (fun i _ => xs.length - (intOf i).toNat)
    case atStart => exact ⟨0, _, _, Nat.zero_le _, rfl, HI⟩
    case round =>
      obtain ⟨j, x, us, hj, rfl, HL⟩ := hrel
      clear HI x0 x1 x2 x3 xf
      have hxl : xs.length ≤ 1048576 := HF.out.2.2.1
      by_cases hlt : j < xs.length
      · obtain ⟨hS, hLw, hloc, hown, hnb⟩ := HL.out
        obtain ⟨b, off, io, cp, l, u, rfl, hbB, hv, htt, hir, d0, d1⟩ := ((HR.out.2.2.2.mono (Nat.le_refl _) hB).kept hS.1).at j hlt
        have hll : l.length ≤ 1048576 := by have := HF.out.2.2.2 _ (getD_mem xs noIdx j hlt); rw [hv] at this; exact this
        have HV := hide (takeX_snoc hlt hv)
        have hlen : (xs.take j).length = j := by rw [List.length_take]; omega
        obtain ⟨aox, capx, rfl⟩ := ownX_shape hown.idx
        simp only [hlen] at hloc hown hnb
        have HLN := hide hlen
        have HBL := hide hown.blocks
        have HO : Hid (SOwn (w.heap.size + 2) a k (.slice aox j capx) us ⟨nm, cs, ky, xs.take j⟩ wr) := hown
        have HN := hide hnb
        have HS := hide hS
        have hL2 : L < wr.heap.size := (Array.getElem?_eq_some_iff.1 hloc).1
        have HLO := hide hloc
        have hz1 : w.heap.size + 2 ≤ wr.heap.size := hS.lt
        have HI2 : Hid (IntRow (wr.alloc (.cells #[.slice io l.length cp, .bool u] 69)).drew A w.heap.size io l) := hir.kept ((((Below.refl _ _).alloc (by omega) _)).drew)
        obtain ⟨i0, hi, hz0, hz1', hz2⟩ := info_parts Try.infoIdx
        obtain ⟨x0, x1, x2, x3, xf⟩ := cells4 hloc
        have L1 := hide ((heap_old wr (.cells #[.slice io l.length cp, .bool u] 69) _ hL2).trans hloc)
        obtain ⟨y0, y1, y2, y3, yf⟩ := cells4 L1.out
        clear hlen hown hnb hS hloc hir hv htt HL
        go_wp2
        go_region_law (first
          | (go_simp; go_at_call 111; refine (cloneNums_own A w.heap.size io cp l _ (by simp; omega) hll HI2.out).mono ?_; rintro e yA ⟨vA, rfl, oA, kA⟩; obtain ⟨aoA, capA, rfl⟩ := ownN_shape oA; have K0 : Hid (Below wr.heap.size wr yA) := ((below_allocW wr (.cells #[.slice io l.length cp, .bool u] 69)).drew).trans (kA.mono (by simp)); have NA : Hid (OwnN wr.heap.size (.slice aoA l.length capA) l yA) := owns_base oA (by simp); have OA := hide (HO.out.below K0.out); have PA := hide ((K0.out.block _ hL2).trans HLO.out); have SA := hide (HS.out.below K0.out); have YA := hide K0.out.size; have YL : L < yA.heap.size := Nat.lt_of_lt_of_le hL2 YA.out; have YX : wr.heap.size < yA.heap.size := (by have h := kA.size; simp at h; omega); have XA : Hid (yA.heap[wr.heap.size]? = some (.cells #[.slice io l.length cp, .bool u] 69 (0, 0))) := (kA.block _ (by simp)).trans (heap_alloc_new wr (.cells #[.slice io l.length cp, .bool u] 69)); obtain ⟨s0, s1, sf⟩ := cells2 XA.out; obtain ⟨p0, p1, p2, p3, pf⟩ := cells4 PA.out; have L0 := hide ((heap_old yA (.cells #[.slice aoA l.length capA, .bool u] 69) _ YL).trans PA.out); obtain ⟨r0, r1, r2, r3, rf⟩ := cells4 L0.out; clear kA oA; dsimp only)
          | (have e1 : Hid ((yA.alloc (.cells #[.slice aoA l.length capA, .bool u] 69)).ownsRow (w.heap.size + 2) 69 2 (.slice aox j capx) j (flatX us (xs.take j))) := World.ownsRow.alloc (by have := OA.out.idx.row; simp only [HLN.out] at this; exact this) (.cells #[.slice aoA l.length capA, .bool u] 69); have e2 : Hid (j + 1 ≤ maxLen) := (by show _ ≤ _; unfold maxLen; omega); have e3 : Hid ((j + 1) * 32 ≤ 140737488355328) := (by show _ ≤ _; omega); have e5 : Hid ((yA.alloc (.cells #[.slice aoA l.length capA, .bool u] 69)).heap.size = yA.heap.size + 1) := (by show _ = _; simp); have e4 : Hid (w.heap.size + 2 ≤ (yA.alloc (.cells #[.slice aoA l.length capA, .bool u] 69)).heap.size) := (by show _ ≤ _; rw [e5.out]; exact Nat.le_trans hz1 (Nat.le_succ_of_le YA.out)); have e6 : ∀ b, (Value.slice aox j capx).ownBlock = some b → w.heap.size + 2 ≤ b := (fun b e => (World.ownsRow.lt e1.out b e).1); have n1 : (Value.slice aox j capx).ownBlock ≠ some L := HN.out _ (by simp); refine step_append_lies (yA.alloc (.cells #[.slice aoA l.length capA, .bool u] 69)) (by rfl) (.tmp 23) (.tmp 30) 30 (by rfl) (w.heap.size + 2) 69 i0 (.agg #[.slice none 0 0, .bool false]) 2 32 Try.underlying30 hi hz0 hz1' hz2 rfl (by decide) (.slice aox j capx) j (flatX us (xs.take j)) (by rfl) e1.out ⟨yA.heap.size, 0, none⟩ 1 1 [.slice aoA l.length capA, .bool u] (by rfl) rfl (cell_idx_new yA (.slice aoA l.length capA) u 69) (one_idx aoA l.length capA u) (by decide) e2.out e3.out e4.out (yA.heap.size + 1) e5.out ?_; intro gg cpB yB ownB growB atB ltB; have LB := hide ((growB.block L (by rw [e5.out]; exact Nat.lt_succ_of_lt YL) (fun e => n1 e.symm)).trans L0.out); obtain ⟨q0, q1, q2, q3, qf⟩ := cells4 LB.out))
        all_goals
          have WB : Hid (CpI w L a k (.slice (some ⟨gg, 0, none⟩) (j + 1) cpB) (us ++ [.slice aoA l.length capA]) ⟨nm, cs, ky, xs.take (j + 1)⟩ [.string nm, .slice ao cs.length c1, .slice ko ky.length c2, .slice (some ⟨b, off, none⟩) xs.length c3] [.string ⟨#[]⟩, .slice none 0 0, .slice none 0 0, .slice none 0 0] (yB.setCell ⟨L, 3, none⟩ (.slice (some ⟨gg, 0, none⟩) (j + 1) cpB))) := by
            have hnn : ∀ v ∈ a :: k :: (Value.slice (some ⟨gg, 0, none⟩) (j + 1) cpB) :: (us ++ [.slice aoA l.length capA]), v.ownBlock ≠ some L := by
              intro v hv
              simp only [List.mem_cons, List.mem_append, List.not_mem_nil, or_false] at hv
              rcases hv with rfl | rfl | rfl | hv | rfl
              · exact HN.out _ (by simp)
              · exact HN.out _ (by simp)
              · rcases atB with h1 | h1
                · exact fun e => n1 (h1.trans (show some gg = some L from e))
                · intro e
                  have := Option.some.inj (show some gg = some L from e)
                  omega
              · exact HN.out _ (by simp [hv])
              · intro e
                have := (World.ownsRow.lt NA.out _ e).1
                omega
            refine ⟨((SA.out.below (below_allocW _ _)).grown growB e6).set hLw, hLw, ?_, ?_, hnn⟩
            · have h1 := heap_setCell_same yB L 3 _ _ (.slice (some ⟨gg, 0, none⟩) (j + 1) cpB) LB.out
              simpa using h1
            · rw [HV.out]
              refine (sown_step (m := wr.heap.size) OA.out HBL.out hz1 YA.out NA.out ownB HLN.out growB ?_).setNe hnn
              rcases atB with h1 | h1
              · exact .inl (by rw [h1]; rfl)
              · exact .inr (by rw [h1]; rfl)
          clear LB ownB growB atB ltB K0 NA OA PA SA YA XA L0 e1 e2 e3 e4 e5 e6 n1 HV HLN HBL HO HN HS HLO HI2 L1
          go_wp2
          go_roundw
          case rel => exact ⟨j + 1, _, _, by omega, by go_num, WB⟩
          case measure => simp [intOf]; omega
      · obtain rfl : j = xs.length := by omega
        obtain ⟨hS, hLw, hloc, hown, hnb⟩ := HL.out
        rw [List.take_length] at hown hloc
        obtain ⟨aox, capx, rfl⟩ := ownX_shape hown.idx
        simp only at hloc hown
        have HO := hide hown
        have HS := hide hS
        have HZ := hide (show wr.heap[w.heap.size + 1]? = some (.cells #[.string ⟨#[]⟩, .slice none 0 0, .slice none 0 0, .slice none 0 0] 32 (0, 0)) from hS.2.2)
        obtain ⟨x0, x1, x2, x3, xf⟩ := cells4 hloc
        obtain ⟨z0, z1, z2, z3, zf⟩ := cells4 HZ.out
        obtain ⟨aoa, capa, rfl⟩ := ownC_shape hown.cols
        obtain ⟨aok, capk, rfl⟩ := ownN_shape hown.key
        clear hloc hown hS hnb HL HR HF
        go_wp2
        refine bodyPost_ret (v := .agg #[.string nm, (.slice aoa cs.length capa), (.slice aok ky.length capk), .slice aox xs.length capx]) (resSch Try.results76 _ _ (w.heap.size + 1) _ _ _ _ rfl (set4 HZ.out)) rfl ⟨_, _, _, rfl, ⟨us, ?_⟩, ?_⟩
        · exact ((((HO.out.set (by omega)).set (by omega)).set (by omega)).set (by omega)).base (by omega)
        · exact (((HS.out.1.setCell (by simp) _).setCell (by simp) _).setCell (by simp) _).setCell (by simp) _
end Go.Proofs.Ytpmaklbbkmghbaa

/-
  What a call owns appended to what it owns, wherever the source lies.
-/
namespace Go.Proofs.Ytpmaklbbkmghbaa
open Go.RowKit

theorem run_app_own {P : Program} (w : World) (base b0 : Nat) (t ty e : TypeId) (i : TypeInfo) (z : Value) (size bytes : Nat) (ht : P.underlying t = some (.slice e)) (hi : P.info? e = some i) (hz : i.zero = some z)
    (hsize : i.size = size) (hby : i.bytes = bytes) (hzs : z.cells.size = size) (hsz : 0 < size)
    (v : Value) (n : Nat) (xs : List Value) (hown : w.ownsRow base e size v n xs) (x : Value) (m : Nat) (ys : List Value) (src : w.ownsRow b0 e size x m ys) (h1 : ∀ u ∈ ys, u.oneCell' = true)
    (h63 : n + m ≤ maxLen) (hbytes : (n + m) * bytes ≤ 140737488355328) (hbase : base ≤ w.heap.size) :
    ∃ v' w', (Builtin.append_ #[t, t] ty #[v, x]).run P w = .ok v' w' ∧ w'.ownsRow base e size v' (n + m) (xs ++ ys) ∧ w.grownBy w' v.ownBlock ∧ (v'.ownBlock = v.ownBlock ∨ v'.ownBlock = some w.heap.size) := by
  rcases src.2 with ⟨rfl, rfl⟩ | ⟨g, cap, cur, rfl, hB, hg, hnc, hm, hs, htk⟩
  · have hy : ys = [] := List.eq_nil_of_length_eq_zero (by have := src.1; simpa using this)
    subst hy
    refine ⟨v, w, run_append_owned_none (w := w) base t ty e i size ht hi v n xs hown, ?_, ⟨rfl, rfl, rfl, Nat.le_refl _, fun _ _ _ => rfl⟩, .inl rfl⟩
    simpa using hown
  · have hnews : ∀ j u, ys[j]? = some u → w.cell? ((⟨g, 0, none⟩ : Addr).add j) = some u := fun j u hj => by
      have ha : (⟨g, 0, none⟩ : Addr).add j = ⟨g, j, none⟩ := by unfold Addr.add; split <;> simp_all
      have hlt := (List.getElem?_eq_some_iff.1 hj).1
      rw [src.1] at hlt
      rw [ha, World.ownsRow.cellAt src j hlt, hj]
    obtain ⟨v', w', hr, h2, h3, _, h5⟩ := run_append_own_at (P := P) w base t ty e i z size bytes ht hi hz hsize hby hzs hsz v n xs hown ⟨g, 0, none⟩ m cap ys src.1 hnews h1 h63 hbytes hbase
    exact ⟨v', w', hr, h2, h3, h5⟩
theorem wp_app_own {P : Program} {w : World} {o : Oper} {a : Act} {K : Act → World → Prop} {Q : Exit → Act → World → Prop} (s x : Operand) (t : TypeId)
    (ho : o.op = .call { callee := .builtin .append, args := #[s, x], argTypes := #[t, t] })
    (base b0 : Nat) (e : TypeId) (i : TypeInfo) (z : Value) (size bytes : Nat) (ht : P.underlying t = some (.slice e)) (hi : P.info? e = some i) (hz : i.zero = some z)
    (hsize : i.size = size) (hby : i.bytes = bytes) (hzs : z.cells.size = size) (hsz : 0 < size)
    (v : Value) (n : Nat) (xs : List Value) (hs : a.eval s = v) (hown : w.ownsRow base e size v n xs) (y : Value) (m : Nat) (ys : List Value) (hx : a.eval x = y) (src : w.ownsRow b0 e size y m ys) (h1 : ∀ u ∈ ys, u.oneCell' = true)
    (h63 : n + m ≤ maxLen) (hbytes : (n + m) * bytes ≤ 140737488355328) (hbase : base ≤ w.heap.size)
    (h : ∀ v' w', w'.ownsRow base e size v' (n + m) (xs ++ ys) → w.grownBy w' v.ownBlock → (v'.ownBlock = v.ownBlock ∨ v'.ownBlock = some w.heap.size) → K (a.put o.dst v') w') : o.wp P a w K Q := by
  obtain ⟨v', w', hr, h2, h3, h4⟩ := run_app_own (P := P) w base b0 t o.type e i z size bytes ht hi hz hsize hby hzs hsz v n xs hown y m ys src h1 h63 hbytes hbase
  unfold Oper.wp execOp
  simp only [ho, resolve, invoke, builtin, Sem.run_bind, Sem.run_pure, Result.andThen_ok, List.map_toArray, List.map_cons, List.map_nil, hs, hx, hr]
  exact h v' w' h2 h3 h4
theorem wpList_app_own {P : Program} {w : World} {ops : Array Oper} {rest : List Oper} {o : Oper} {a : Act} {Q : Exit → Act → World → Prop} (hgd : o.guard = none) (s x : Operand) (t : TypeId)
    (ho : o.op = .call { callee := .builtin .append, args := #[s, x], argTypes := #[t, t] })
    (base b0 : Nat) (e : TypeId) (i : TypeInfo) (z : Value) (size bytes : Nat) (ht : P.underlying t = some (.slice e)) (hi : P.info? e = some i) (hz : i.zero = some z)
    (hsize : i.size = size) (hby : i.bytes = bytes) (hzs : z.cells.size = size) (hsz : 0 < size)
    (v : Value) (n : Nat) (xs : List Value) (hs : a.eval s = v) (hown : w.ownsRow base e size v n xs) (y : Value) (m : Nat) (ys : List Value) (hx : a.eval x = y) (src : w.ownsRow b0 e size y m ys) (h1 : ∀ u ∈ ys, u.oneCell' = true)
    (h63 : n + m ≤ maxLen) (hbytes : (n + m) * bytes ≤ 140737488355328) (hbase : base ≤ w.heap.size)
    (h : ∀ v' w', w'.ownsRow base e size v' (n + m) (xs ++ ys) → w.grownBy w' v.ownBlock → (v'.ownBlock = v.ownBlock ∨ v'.ownBlock = some w.heap.size) → wpList P ops Q rest (a.put o.dst v') w') : wpList P ops Q (o :: rest) a w :=
  wpList_plain hgd fun _ hK => wp_app_own s x t ho base b0 e i z size bytes ht hi hz hsize hby hzs hsz v n xs hs hown y m ys hx src h1 h63 hbytes hbase (fun v' w' g1 g2 g3 => hK _ _ (h v' w' g1 g2 g3))
theorem step_app_own {P : Program} {w : World} {ops : Array Oper} {o : Oper} {a : Act} {K : Act → World → Prop} {Q : Exit → Act → World → Prop} {E : Prop} (hgd : o.guard = none) (s x : Operand) (t : TypeId)
    (ho : o.op = .call { callee := .builtin .append, args := #[s, x], argTypes := #[t, t] })
    (base b0 : Nat) (e : TypeId) (i : TypeInfo) (z : Value) (size bytes : Nat) (ht : P.underlying t = some (.slice e)) (hi : P.info? e = some i) (hz : i.zero = some z)
    (hsize : i.size = size) (hby : i.bytes = bytes) (hzs : z.cells.size = size) (hsz : 0 < size)
    (v : Value) (n : Nat) (xs : List Value) (hs : a.eval s = v) (hown : w.ownsRow base e size v n xs) (y : Value) (m : Nat) (ys : List Value) (hx : a.eval x = y) (src : w.ownsRow b0 e size y m ys) (h1 : ∀ u ∈ ys, u.oneCell' = true)
    (h63 : n + m ≤ maxLen) (hbytes : (n + m) * bytes ≤ 140737488355328) (hbase : base ≤ w.heap.size)
    (h : ∀ v' w', w'.ownsRow base e size v' (n + m) (xs ++ ys) → w.grownBy w' v.ownBlock → (v'.ownBlock = v.ownBlock ∨ v'.ownBlock = some w.heap.size) → K (a.put o.dst v') w') :
    if Region.wanted o (yielded ops a.tmps) = true then Oper.wp P o a w K Q else E := by
  have hw : Region.wanted o (yielded ops a.tmps) = true := by simp [Region.wanted, hgd]
  rw [if_pos hw]
  exact wp_app_own s x t ho base b0 e i z size bytes ht hi hz hsize hby hzs hsz v n xs hs hown y m ys hx src h1 h63 hbytes hbase h
end Go.Proofs.Ytpmaklbbkmghbaa

/-
  The specification's copy of a schema: its two first lists in the making. Plain laws.
-/
namespace Go.Proofs.Ytpmaklbbkmghbaa
open Go.RowKit
set_option maxRecDepth 100000

theorem own_emptyJ {W : World} {base e size : Nat} {t : TypeId} (he : W.heap[e]? = some (.cells #[] t (0, 0))) (hb : base ≤ e) : W.ownsRow base t size (.slice (some ⟨e, 0, none⟩) 0 0) 0 [] := ⟨by simp, .inr ⟨e, 0, #[], rfl, hb, he, Nat.le_refl _, Nat.zero_le _, by simp, by simp⟩⟩
theorem ne_newJ {v : Value} {n : Nat} (h : ∀ b, v.ownBlock = some b → b < n) : v.ownBlock ≠ some n := fun e => by have := h _ e; omega
theorem numsV_one1 (l : List Int) : ∀ u ∈ numsV l, u.oneCell' = true := fun u hu => by
  unfold numsV at hu
  obtain ⟨x, _, rfl⟩ := List.mem_map.1 hu
  rfl
/-- The box that came in, the result's variable; the columns and the key so far, in rows of their own. -/
structure CJ (w : World) (box Z : List Value) (cv kv : Value) (cl : List Col) (kl : List Int) (W : World) : Prop where
  cps : CpS w box Z W
  cols : OwnC (w.heap.size + 2) cv cl W
  key : OwnN (w.heap.size + 2) kv kl W
  apart : cv.ownBlock = none ∨ cv.ownBlock ≠ kv.ownBlock
section
variable {w W W' : World} {box Z : List Value} {cv kv cv' kv' : Value} {cl l : List Col} {kl k : List Int} {L : Nat}
theorem CJ.lt (h : CJ w box Z cv kv cl kl W) : w.heap.size + 2 ≤ W.heap.size := h.cps.lt
theorem CJ.keep (h : CJ w box Z cv kv cl kl W) (hb : Below W.heap.size W W') : CJ w box Z cv kv cl kl W' := ⟨h.cps.below hb, owns_below h.cols hb, owns_below h.key hb, h.apart⟩
theorem CJ.ltc (h : CJ w box Z cv kv cl kl W) : ∀ b, cv.ownBlock = some b → b < W.heap.size := fun b hb => (World.ownsRow.lt h.cols b hb).2
theorem CJ.ltk (h : CJ w box Z cv kv cl kl W) : ∀ b, kv.ownBlock = some b → b < W.heap.size := fun b hb => (World.ownsRow.lt h.key b hb).2
theorem CJ.buildC (h : CJ w box Z cv kv [] kl W) : CJ w box Z (.slice (some ⟨W.heap.size, 0, none⟩) 0 0) kv [] kl (W.alloc (.cells #[] 67)) := by
  have hk := h.keep ((Below.refl W.heap.size W).alloc (Nat.le_refl _) (.cells #[] 67))
  exact ⟨hk.cps, own_emptyJ (heap_alloc_new _ _) h.lt, hk.key, .inr (fun e => ne_newJ h.ltk e.symm)⟩
theorem CJ.buildK (h : CJ w box Z cv kv cl [] W) : CJ w box Z cv (.slice (some ⟨W.heap.size, 0, none⟩) 0 0) cl [] (W.alloc (.cells #[] 2)) := by
  have hk := h.keep ((Below.refl W.heap.size W).alloc (Nat.le_refl _) (.cells #[] 2))
  exact ⟨hk.cps, hk.cols, own_emptyJ (heap_alloc_new _ _) h.lt, .inr (fun e => ne_newJ h.ltc e)⟩
theorem CJ.appC (h : CJ w box Z cv kv [] kl W) (ho : W'.ownsRow (w.heap.size + 2) 67 3 cv' (0 + l.length) ([] ++ flatC l)) (hg : W.grownBy W' cv.ownBlock) (hl : cv'.ownBlock = cv.ownBlock ∨ cv'.ownBlock = some W.heap.size) : CJ w box Z cv' kv l kl W' := by
  refine ⟨h.cps.grown hg (fun b hb => (World.ownsRow.lt h.cols b hb).1), by simpa [OwnC] using ho, World.ownsRow.kept h.key hg ?_, ?_⟩
  · rcases h.apart with e | e
    · cases hc : kv.ownBlock with
      | none => exact .inl rfl
      | some b => exact .inr (by rw [e]; simp)
    · exact .inr (fun e' => e e'.symm)
  · rcases hl with e | e
    · rw [e]; exact h.apart
    · rw [e]; exact .inr (fun e' => ne_newJ h.ltk e'.symm)
theorem CJ.appK (h : CJ w box Z cv kv cl [] W) (ho : W'.ownsRow (w.heap.size + 2) 2 1 kv' (0 + k.length) ([] ++ numsV k)) (hg : W.grownBy W' kv.ownBlock) (hl : kv'.ownBlock = kv.ownBlock ∨ kv'.ownBlock = some W.heap.size) : CJ w box Z cv kv' cl k W' := by
  refine ⟨h.cps.grown hg (fun b hb => (World.ownsRow.lt h.key b hb).1), World.ownsRow.kept h.cols hg h.apart, by simpa [OwnN] using ho, ?_⟩
  rcases hl with e | e
  · rw [e]; exact h.apart
  · rw [e]; exact .inr (fun e' => ne_newJ h.ltc e')
theorem CJ.fin (h : CJ w box Z cv kv cl kl W) {nm : ByteArray} {a0 a1 a2 a3 : Value} (hz : W.heap[L]? = some (.cells #[a0, a1, a2, a3] 32 (0, 0))) (hL : w.heap.size + 1 < L) (hc : cv.ownBlock ≠ some L) (hk : kv.ownBlock ≠ some L) :
    CpI w L cv kv (.slice none 0 0) [] ⟨nm, cl, kl, []⟩ box Z ((((W.setCell ⟨L, 0, none⟩ (.string nm)).setCell ⟨L, 1, none⟩ cv).setCell ⟨L, 2, none⟩ kv).setCell ⟨L, 3, none⟩ (.slice none 0 0)) := by
  have hne : ∀ v ∈ [cv, kv, .slice none 0 0], v.ownBlock ≠ some L := fun v hv => by
    simp only [List.mem_cons, List.not_mem_nil, or_false] at hv
    rcases hv with rfl | rfl | rfl
    · exact hc
    · exact hk
    · simp [Value.ownBlock]
  have hap : Apart [cv, kv, .slice none 0 0] := by
    unfold Apart
    simp only [List.pairwise_cons, List.mem_cons, List.not_mem_nil, or_false, List.Pairwise.nil, and_true]
    refine ⟨fun v hv => ?_, fun v hv => ?_, fun v hv => hv.elim⟩
    · rcases hv with rfl | rfl
      · exact h.apart
      · cases hcb : cv.ownBlock with
        | none => exact .inl rfl
        | some b => exact .inr (by simp [Value.ownBlock])
    · subst hv
      cases hkb : kv.ownBlock with
      | none => exact .inl rfl
      | some b => exact .inr (by simp [Value.ownBlock])
  have hS : SOwn (w.heap.size + 2) cv kv (.slice none 0 0) [] ⟨nm, cl, kl, []⟩ W := ⟨h.cols, h.key, ownX_nil _ _, hap⟩
  exact ⟨(((h.cps.set hL).set hL).set hL).set hL, hL, set4 hz, (((hS.setNe hne).setNe hne).setNe hne).setNe hne, hne⟩
end
end Go.Proofs.Ytpmaklbbkmghbaa
