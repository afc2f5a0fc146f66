/-
  Contracts and plain laws, part 3 of 12: DkMap, Skips, DkDrv, AppOwn, DkCp, DkWr, DkWrP, DkOutAt, DkHas, DkHas2, DkFI
-/
import Derived.Maps.OwnSet
import Derived.Maps.Views
import Derived.RegionTactic
import Derived.Test.YtfhfhpnoeghgmaaRows
import Derived.WalkKit
import Derived.WalkLawsBesides
import Derived.Deep.RegionHeld3
import Derived.Laws.OwnMore
import Derived.Laws.AppendOwnNone
import Derived.Maps.AppendAt
import Derived.Laws.ResultCell
import Derived.Test.YtfhfhpnoeghgmaaPb

/-
  What sectors have, by a map of the last writes, and by doing the writes one behind the other. Plain facts.
-/
namespace Go.Proofs.Ytfhfhpnoeghgmaa
open Go.RowKit Go.Maps Go.ChangeMaps Go.MapKept
set_option maxRecDepth 100000

theorem secV_inj {a b : List UInt8} (h : secV a = secV b) : a = b := by
  unfold secV at h
  have h1 : Lib.byteCells a = Lib.byteCells b := by
    have := congrArg Array.toList h
    simpa using this
  unfold Lib.byteCells at h1
  refine (List.map_inj_right (fun x y e => ?_)).1 h1
  injection e with _ e2
  exact UInt8.toNat_inj.1 (by omega)
open Classical in
/-- How a sector in a map reads. -/
noncomputable def secR (v : Value) : Option (DataW Unit × List MemPlace) := if h : ∃ l, v = .agg (secV l) then some (.lit (.string h.choose), []) else none
theorem secR_mk (l : List UInt8) : secR (.agg (secV l)) = some (.lit (.string l), []) := by
  unfold secR
  have h : ∃ l', Value.agg (secV l) = .agg (secV l') := ⟨l, rfl⟩
  rw [dif_pos h]
  have hc : l = h.choose := secV_inj (by injection h.choose_spec)
  exact congrArg (fun l' => some (DataW.lit (.string l'), [])) hc.symm
theorem secR_inv {v : Value} {z : DataW Unit × List MemPlace} (h : secR v = some z) : ∃ l, v = .agg (secV l) ∧ z = (.lit (.string l), []) := by
  unfold secR at h
  split at h
  · rename_i hx
    obtain ⟨l, hl⟩ := hx
    refine ⟨l, hl, ?_⟩
    subst hl
    have h2 := secR_mk l
    unfold secR at h2
    rw [dif_pos ⟨l, rfl⟩] at h2
    simp only [Option.some.injEq] at h h2
    rw [← h, h2]
  · cases h
noncomputable def cacheStep (D : DataW Unit) (x : Wr) : DataW Unit := D.put (.int .i64 x.pos) (.lit (.string (pad x.text.data.toList)))
noncomputable def cacheD (l : List Wr) : DataW Unit := l.foldl cacheStep (.map [])
def flushL (ss : List ByteArray) (l : List Wr) : List ByteArray := l.foldl (fun s x => s.set x.pos.toNat x.text) ss
theorem cacheD_snoc (l : List Wr) (x : Wr) : cacheD (l ++ [x]) = (cacheD l).put (.int .i64 x.pos) (.lit (.string (pad x.text.data.toList))) := by simp [cacheD, cacheStep]
theorem flushL_snoc (ss : List ByteArray) (l : List Wr) (x : Wr) : flushL ss (l ++ [x]) = (flushL ss l).set x.pos.toNat x.text := by simp [flushL]
theorem flushL_len (l : List Wr) : ∀ ss, (flushL ss l).length = ss.length := by
  induction l with
  | nil => intro ss; rfl
  | cons x r ih => intro ss; show (flushL (ss.set x.pos.toNat x.text) r).length = _; rw [ih]; simp
theorem keyLit (n : Int) : WideAt.IsKeyLit (.int .i64 n) := by unfold WideAt.IsKeyLit; trivial
theorem look_inv (l : List Wr) : ∀ (D : DataW Unit) (ss s0 : List ByteArray), IsMap D → ss.length = s0.length → (∀ x ∈ l, 0 ≤ x.pos ∧ x.pos < (s0.length : Int) ∧ x.text.size = 64) →
    (∀ i, i < s0.length → (Maps.has D (.int .i64 (i : Int)) = true → ∀ z, D.atKey (.int .i64 (i : Int)) z = .lit (.string (ss.getD i ByteArray.empty).data.toList)) ∧ (Maps.has D (.int .i64 (i : Int)) = false → ss.getD i ByteArray.empty = s0.getD i ByteArray.empty)) →
    ∀ i, i < s0.length → (Maps.has (l.foldl cacheStep D) (.int .i64 (i : Int)) = true → ∀ z, (l.foldl cacheStep D).atKey (.int .i64 (i : Int)) z = .lit (.string ((flushL ss l).getD i ByteArray.empty).data.toList)) ∧ (Maps.has (l.foldl cacheStep D) (.int .i64 (i : Int)) = false → (flushL ss l).getD i ByteArray.empty = s0.getD i ByteArray.empty) := by
  induction l with
  | nil => intro D ss s0 _ _ _ h i hi; exact h i hi
  | cons x r ih =>
    intro D ss s0 hD hl hx h
    obtain ⟨hx0, hx1, hx2⟩ := hx x (by simp)
    refine ih (cacheStep D x) (ss.set x.pos.toNat x.text) s0 (hD.put _ _) (by simpa using hl) (fun y hy => hx y (by simp [hy])) (fun i hi => ?_)
    have hpf : pad x.text.data.toList = x.text.data.toList := pad_full hx2
    by_cases e : (i : Int) = x.pos
    · have hk : x.pos.toNat = i := by omega
      have hs : (ss.set i x.text).getD i ByteArray.empty = x.text := by
        rw [List.getD_eq_getElem?_getD, List.getElem?_set_self (by omega)]; rfl
      unfold cacheStep
      rw [e, hk, hpf]
      refine ⟨fun _ z => ?_, fun hn => ?_⟩
      · rw [atKey_put_same hD (keyLit _), hs]
      · rw [has_put_same hD (keyLit _)] at hn; cases hn
    · have hne : (Lit.int .i64 (i : Int)) ≠ .int .i64 x.pos := fun e' => e (by injection e')
      have hs : (ss.set x.pos.toNat x.text).getD i ByteArray.empty = ss.getD i ByteArray.empty := by
        rw [List.getD_eq_getElem?_getD, List.getElem?_set_ne (by omega), ← List.getD_eq_getElem?_getD]
      unfold cacheStep
      rw [has_put_other hne, hs]
      exact ⟨fun h1 z => by rw [atKey_put_other hne]; exact (h i hi).1 h1 z, (h i hi).2⟩
theorem cache_look {d : Dk} (hx : ∀ x ∈ d.cache, 0 ≤ x.pos ∧ x.pos < (d.secs.length : Int) ∧ x.text.size = 64) (i : Nat) (hi : i < d.secs.length) :
    (Maps.has (cacheD d.cache) (.int .i64 (i : Int)) = true → ∀ z, (cacheD d.cache).atKey (.int .i64 (i : Int)) z = .lit (.string ((flushL d.secs d.cache).getD i ByteArray.empty).data.toList)) ∧ (Maps.has (cacheD d.cache) (.int .i64 (i : Int)) = false → (flushL d.secs d.cache).getD i ByteArray.empty = d.secs.getD i ByteArray.empty) :=
  look_inv d.cache (.map []) d.secs d.secs isMap_empty rfl hx (fun i _ => ⟨fun h => by simp [Maps.has] at h, fun _ => rfl⟩) i hi
theorem dkRight_cache {d : Dk} (h : dkRight d = true) : ∀ x ∈ d.cache, 0 ≤ x.pos ∧ x.pos < (d.secs.length : Int) ∧ x.text.size = 64 := by
  intro x hx
  obtain ⟨i, hi, rfl⟩ := List.getElem_of_mem hx
  unfold dkRight at h
  simp only [Bool.and_eq_true] at h
  have := (upto_iff _ _).1 h.2 i hi
  unfold wrOk at this
  rw [List.getD_eq_getElem?_getD, List.getElem?_eq_getElem hi] at this
  simp only [Option.getD_some, Bool.and_eq_true, decide_eq_true_eq] at this
  exact ⟨this.1.1, this.1.2, this.2⟩
theorem dkRight_secs {d : Dk} (h : dkRight d = true) : ∀ i, i < d.secs.length → (d.secs.getD i ByteArray.empty).size = 64 := by
  intro i hi
  unfold dkRight at h
  simp only [Bool.and_eq_true] at h
  have := (upto_iff _ _).1 h.1.2 i hi
  unfold secOk at this
  simpa using this
theorem flush_sizes (l : List Wr) : ∀ (ss : List ByteArray), (∀ x ∈ l, x.text.size = 64) → (∀ i, i < ss.length → (ss.getD i ByteArray.empty).size = 64) → ∀ i, i < ss.length → ((flushL ss l).getD i ByteArray.empty).size = 64 := by
  induction l with
  | nil => intro ss _ h i hi; exact h i hi
  | cons x r ih =>
    intro ss hx h i hi
    refine ih (ss.set x.pos.toNat x.text) (fun y hy => hx y (by simp [hy])) (fun j hj => ?_) i (by simpa using hi)
    rw [List.length_set] at hj
    by_cases e : j = x.pos.toNat
    · subst e
      rw [List.getD_eq_getElem?_getD, List.getElem?_set_self hj]
      exact hx x (by simp)
    · rw [List.getD_eq_getElem?_getD, List.getElem?_set_ne (by omega), ← List.getD_eq_getElem?_getD]
      exact h j hj
theorem step_mapUpd {H : Type} {P : Program} {w : World} {ops : Array Oper} {o : Oper} {a : Act} {K' : Act → World → Prop} {Q : Exit → Act → World → Prop} {E : Prop} (hg : o.guard = none) (m x v : Operand) (t : TypeId) (hop : o.op = Op.mapUpdate t m x v)
    (k e : TypeId) (K : Keyed P k) (ht : P.underlying t = some (.map k e)) (R : Value → Option (DataW H × List MemPlace)) (b n : Nat) (D : DataW H)
    (hm : a.eval m = .map (some b)) (hown : w.ownsMap P k R b n D) (hn : n < maxLen) (key val : Value) (kl : Lit) (hx : a.eval x = key) (hv : a.eval v = val) (hkey : keyOf P k key = some kl)
    (d : DataW H) (ps : List MemPlace) (hval : R val = some (d, ps))
    (h : ∀ w', w'.ownsMap P k R b (n + 1) (D.put kl d) → w.grownBy w' (some b) → K' (a.put o.dst undef) w') :
    if Region.wanted o (yielded ops a.tmps) = true then Oper.wp P o a w K' Q else E := by
  have hw : Region.wanted o (yielded ops a.tmps) = true := by simp [Region.wanted, hg]
  rw [if_pos hw]
  obtain ⟨w', hrun, r1, r2⟩ := hown.update K ht hn hkey hval
  unfold Oper.wp
  simp [execOp, hop, hm, hx, hv, hrun, Result.andThen]
  exact h w' r1 r2
end Go.Proofs.Ytfhfhpnoeghgmaa

/-
  Regions that draw their order: an operation taken first, its slot named; a row of operations passed over whose guards say no.
-/
namespace Go.Proofs.Ytfhfhpnoeghgmaa
open Go.RowKit

section
variable {P : Program} {ops : Array Oper} {Q : Exit → Act → World → Prop} {md : Region.Mode} {S : World → Prop}

theorem takeD (i d : Nat) {oi : Oper} {v : Value} {fuel : Nat} {listed : Array Bool} {a : Act} {w : World} (hi : ops[i]? = some oi) (hd : oi.dst = some d)
    (hs : Region.noSelect ops = true) (hf : Region.free md ops listed i = true) (hr : (Region.ready md ops listed).contains i = true)
    (hQ : ∀ c a w, Q (.panic c) (a.put oi.dst v) w → Q (.panic c) a w) (hw : Region.wanted oi (yielded ops a.tmps) = true) (hy : ∀ w, S w → (execOp a.eval oi).run P w = .ok (.value v) w) (hS : S w)
    (h : wpAnyH P md ops Q S fuel (listed.setIfInBounds i true) (a.put (some d) v) w) : wpAnyH P md ops Q S (fuel + 1) listed a w :=
  wpAnyH_take hi hs hf hr hQ (.inl ⟨hw, hy⟩) hS (by rw [hd]; exact h)
def putAll (a : Act) (l : List (Nat × Nat)) : Act := l.foldl (fun a p => a.put (some p.2) undef) a
def listAll (b : Array Bool) (l : List (Nat × Nat)) : Array Bool := l.foldl (fun b p => b.setIfInBounds p.1 true) b
/-- May these come up one behind the other, and do their guards all say no? -/
def skipOk (md : Region.Mode) (ops : Array Oper) : List (Nat × Nat) → Array Bool → Act → Bool
  | [], _, _ => true
  | (i, d) :: r, b, a => (match ops[i]? with | some o => (o.dst == some d) && !(Region.wanted o (yielded ops a.tmps)) | none => false) && Region.free md ops b i && (Region.ready md ops b).contains i && skipOk md ops r (b.setIfInBounds i true) (a.put (some d) undef)
theorem skipAll (l : List (Nat × Nat)) (hs : Region.noSelect ops = true) (hQ : ∀ c d v a w, Q (.panic c) (Act.put a d v) w → Q (.panic c) a w) {w : World} (hS : S w) :
    ∀ {fuel : Nat} {listed : Array Bool} {a : Act}, skipOk md ops l listed a = true → wpAnyH P md ops Q S fuel (listAll listed l) (putAll a l) w → wpAnyH P md ops Q S (fuel + l.length) listed a w := by
  induction l with
  | nil => intro fuel listed a _ h; exact h
  | cons p r ih =>
    intro fuel listed a hok h
    obtain ⟨i, d⟩ := p
    simp only [skipOk, Bool.and_eq_true] at hok
    obtain ⟨⟨⟨h1, h2⟩, h3⟩, h4⟩ := hok
    cases ho : ops[i]? with
    | none => rw [ho] at h1; cases h1
    | some o =>
      rw [ho] at h1
      simp only [Bool.and_eq_true, beq_iff_eq, Bool.not_eq_true'] at h1
      have := ih h4 h
      exact wpAnyH_take (i := i) (oi := o) (v := undef) ho hs h2 h3 (fun c a w => hQ c _ _ a w) (.inr ⟨h1.2, rfl⟩) hS (by rw [h1.1]; exact this)
end
end Go.Proofs.Ytfhfhpnoeghgmaa

/-
  Contracts: a disk taken in: the last writes of its sectors in a map; what lies on a sector.
-/
namespace Go.Proofs.Ytfhfhpnoeghgmaa
open Go.RowKit Go.Maps Go.ChangeMaps Go.MapKept
set_option maxRecDepth 100000

theorem keyI : Keyed Try.prog 2 := int_keyed Try.underlying2
theorem zeroS (w : World) : (zeroValue 92).run Try.prog w = .ok (.agg (secV zSec)) w := (zero_of_info Try.infoSec).1 w
/-- A disk in the taking in. -/
structure DI (w : World) (X : Array Value) (tx : Value) (g b n : Nat) (D : DataW Unit) (W : World) : Prop where
  below : Below w.heap.size w W
  par : W.heap[w.heap.size]? = some (.cells X 26 (0, 0))
  res : W.heap[w.heap.size + 1]? = some (.cells #[.slice none 0 0, .map none] 108 (0, 0))
  var : W.heap[g]? = some (.cells #[tx, .map (some b)] 108 (0, 0))
  map : W.ownsMap Try.prog 2 secR b n D
  gap : w.heap.size + 2 ≤ g ∧ w.heap.size + 2 ≤ b ∧ g ≠ b
section
variable {w W W' : World} {X : Array Value} {tx : Value} {g b n : Nat} {D D' : DataW Unit}
theorem ownsMap_below {k : TypeId} {R : Value → Option (DataW Unit × List MemPlace)} (h : W.ownsMap Try.prog k R b n D) (hb : Below W.heap.size W W') : W'.ownsMap Try.prog k R b n D := by
  obtain ⟨es, clock, h1, h2⟩ := h
  exact ⟨es, clock, (hb.block b (Array.getElem?_eq_some_iff.1 h1).1).trans h1, h2⟩
theorem DI.keep (h : DI w X tx g b n D W) (hb : Below W.heap.size W W') : DI w X tx g b n D W' :=
  ⟨h.below.trans (hb.mono h.below.size), (hb.block _ (Array.getElem?_eq_some_iff.1 h.par).1).trans h.par, (hb.block _ (Array.getElem?_eq_some_iff.1 h.res).1).trans h.res, (hb.block _ (Array.getElem?_eq_some_iff.1 h.var).1).trans h.var, ownsMap_below h.map hb, h.gap⟩
theorem DI.upd (h : DI w X tx g b n D W) (hm : W'.ownsMap Try.prog 2 secR b (n + 1) D') (hg : W.grownBy W' (some b)) : DI w X tx g b (n + 1) D' W' := by
  have h1 := h.gap
  refine ⟨h.below.grown hg h.below.size (fun j hj => by have := Option.some.inj hj; omega), (hg.block _ (Array.getElem?_eq_some_iff.1 h.par).1 (fun e => by have := Option.some.inj e; omega)).trans h.par, (hg.block _ (Array.getElem?_eq_some_iff.1 h.res).1 (fun e => by have := Option.some.inj e; omega)).trans h.res, (hg.block _ (Array.getElem?_eq_some_iff.1 h.var).1 (fun e => by have := Option.some.inj e; omega)).trans h.var, hm, h1⟩
end
theorem blk_lt' {w : World} {g : Nat} {o : Obj} (h : w.heap[g]? = some o) : g < w.heap.size := (Array.getElem?_eq_some_iff.1 h).1
theorem wf_i64' {n : Int} (h : wI64 n) : (Lit.int .i64 n).wf = true := WalkArith.wf_i64 h
section
variable {w W : World} {X : Array Value} {tx : Value} {g b n : Nat} {D : DataW Unit}
theorem DI.drewD (h : DI w X tx g b n D W) : DI w X tx g b n D W.drew := h.keep (Below.refl _ _).drew
theorem DI.mk' (hb : Below w.heap.size w W) (hp : W.heap[w.heap.size]? = some (.cells X 26 (0, 0))) (hr : W.heap[w.heap.size + 1]? = some (.cells #[.slice none 0 0, .map none] 108 (0, 0))) (hv : W.heap[g]? = some (.cells #[.slice none 0 0, .map none] 108 (0, 0)))
    (hm : W.ownsMap Try.prog 2 secR b n D) (hg : w.heap.size + 2 ≤ g ∧ w.heap.size + 2 ≤ b ∧ g ≠ b) : DI w X tx g b n D ((W.setCell ⟨g, 0, none⟩ tx).setCell ⟨g, 1, none⟩ (.map (some b))) := by
  refine ⟨(hb.setCell (by simp; omega) _).setCell (by simp; omega) _, ?_, ?_, ?_, (hm.setCell hg.2.2.symm _).setCell hg.2.2.symm _, hg⟩
  · rw [heap_far _ _ _ _ _ (by omega), heap_far _ _ _ _ _ (by omega)]; exact hp
  · rw [heap_far _ _ _ _ _ (by omega), heap_far _ _ _ _ _ (by omega)]; exact hr
  · exact set2 hv
theorem DI.out (h : DI w X tx g b n D W) {x y : Value} : ((W.setCell ⟨w.heap.size + 1, 0, none⟩ x).setCell ⟨w.heap.size + 1, 1, none⟩ y).ownsMap Try.prog 2 secR b n D ∧ Below w.heap.size w ((W.setCell ⟨w.heap.size + 1, 0, none⟩ x).setCell ⟨w.heap.size + 1, 1, none⟩ y) :=
  ⟨(h.map.setCell (by have := h.gap; simp; omega) _).setCell (by have := h.gap; simp; omega) _, (h.below.setCell (by simp) _).setCell (by simp) _⟩
end
theorem resDrv {fn : Func} {p : Tmp} (h : fn.results = #[.cell p 108]) (tmps : Array Value) (w : World) (g : Nat) (x y : Value) (hp : tmps.getD p undef = .pointer (some ⟨g, 0, none⟩))
    (hg : w.heap[g]? = some (.cells #[x, y] 108 (0, 0))) : (results fn tmps).run Try.prog w = .ok (.agg #[x, y]) w :=
  results_cell_row h tmps w g 108 #[x, y] (0, 0) _ hp hg Try.underlying108 rfl (by kernel_rfl)
set_option maxHeartbeats 4000000 in
theorem driveOf_any (A B : Nat) (so : Option Addr) (p : Nat) (co : Option Addr) (q : Nat) (d : Dk) (w : World) (hB : B ≤ w.heap.size) (hlen : d.cache.length ≤ 400) (hr : DkRow w A B so co d) :
    Calls Try.prog 87 #[.agg #[.slice so d.secs.length p, .slice co d.cache.length q]] w fun e w' => ∃ b, e = .returned (.agg #[.slice so d.secs.length p, .map (some b)]) ∧ w'.ownsMap Try.prog 2 secR b d.cache.length (cacheD d.cache) ∧ w.heap.size ≤ b ∧ Below w.heap.size w w' := by
  obtain ⟨ss, cs⟩ := d
  simp only at *
  have hmm : ∀ (W : World) (n : Int), (Instr.makeMap 106 (some (.int .i64 n))).run Try.prog W = .ok (.map (some W.heap.size)) (W.alloc (.map #[] 0)) := fun W n => by simp [Instr.makeMap, run_underlying Try.underlying106, asInt, newObj]; rfl
  have HR := hide hr.2.2
  have HSN := hide (fun k (n : Int) (t : ByteArray) (hk : k < cs.length) (hv : cs.getD k noWr = ⟨n, t⟩) => show cacheD (cs.take (k + 1)) = (cacheD (cs.take k)).put (.int .i64 n) (.lit (.string (pad t.data.toList))) by
    rw [List.getD_eq_getElem?_getD, List.getElem?_eq_getElem hk] at hv
    simp only [Option.getD_some] at hv
    rw [List.take_succ_eq_append_getElem hk, cacheD_snoc, hv])
  have h0 := two_allocs w (.cells #[.slice so ss.length p, .slice co cs.length q] 26) (.cells #[.slice none 0 0, .map none] 108)
  have X0 := hide h0.1
  have Y0 := hide h0.2.1
  have Z0 := hide h0.2.2
  have B0 := hide (((Below.refl w.heap.size w).alloc (Nat.le_refl _) (.cells #[.slice so ss.length p, .slice co cs.length q] 26)).alloc (by simp) (.cells #[.slice none 0 0, .map none] 108))
  clear h0 hr
  go_enter Try.func87, Try.ntmps87
  go_wp2
  have X1 := hide (show ((w.alloc (.cells #[.slice so ss.length p, .slice co cs.length q] 26)).alloc (.cells #[.slice none 0 0, .map none] 108)).drew.heap[w.heap.size]? = _ from X0.out)
  have Y1 := hide (show ((w.alloc (.cells #[.slice so ss.length p, .slice co cs.length q] 26)).alloc (.cells #[.slice none 0 0, .map none] 108)).drew.heap[w.heap.size + 1]? = _ from Y0.out)
  have B1 := hide B0.out.drew
  have Z1 := hide (show w.heap.size + 2 ≤ ((w.alloc (.cells #[.slice so ss.length p, .slice co cs.length q] 26)).alloc (.cells #[.slice none 0 0, .map none] 108)).drew.heap.size from Nat.le_of_eq Z0.out.symm)
  clear X0 Y0 B0 Z0
  generalize (w.alloc (.cells #[.slice so ss.length p, .slice co cs.length q] 26)).alloc (.cells #[.slice none 0 0, .map none] 108) = W0 at *
  refine wp_region_noPanic ?_
  refine wp_region_held_drew (S := fun W => W.heap[w.heap.size]? = some (.cells #[.slice so ss.length p, .slice co cs.length q] 26 (0, 0))) (by kernel_rfl) X1.out (fun hS1 => ?_)
  generalize W0.drew = W1 at *
  refine takeD 0 6 (v := ?v1) rfl rfl (by kernel_rfl) (by kernel_rfl) (by kernel_rfl) (fun _ _ _ h => h) (by kernel_rfl) ?hy1 (by assumption) ?r1
  case hy1 => (intro W hSw; go_simp; try with_reducible rfl)
  simp only [Act.put, List.setIfInBounds_toArray, List.set_cons_zero, List.set_cons_succ]
  refine takeD 1 7 (v := ?v2) rfl rfl (by kernel_rfl) (by kernel_rfl) (by kernel_rfl) (fun _ _ _ h => h) (by kernel_rfl) ?hy2 (by assumption) ?r2
  case hy2 => (intro W hSw; obtain ⟨x0, x1, xf⟩ := cells2 hSw; go_simp; try with_reducible rfl)
  simp only [Act.put, List.setIfInBounds_toArray, List.set_cons_zero, List.set_cons_succ]
  refine takeD 2 8 (v := ?v3) rfl rfl (by kernel_rfl) (by kernel_rfl) (by kernel_rfl) (fun _ _ _ h => h) (by kernel_rfl) ?hy3 (by assumption) ?r3
  case hy3 => (intro W hSw; go_simp; try with_reducible rfl)
  simp only [Act.put, List.setIfInBounds_toArray, List.set_cons_zero, List.set_cons_succ]
  refine takeD 3 9 (v := ?v4) rfl rfl (by kernel_rfl) (by kernel_rfl) (by kernel_rfl) (fun _ _ _ h => h) (by kernel_rfl) ?hy4 (by assumption) ?r4
  case hy4 => (intro W hSw; obtain ⟨x0, x1, xf⟩ := cells2 hSw; go_simp; try with_reducible rfl)
  simp only [Act.put, List.setIfInBounds_toArray, List.set_cons_zero, List.set_cons_succ]
  refine takeD 4 10 (v := ?v5) rfl rfl (by kernel_rfl) (by kernel_rfl) (by kernel_rfl) (fun _ _ _ h => h) (by kernel_rfl) ?hy5 (by assumption) ?r5
  case hy5 => (intro W hSw; go_simp; try with_reducible rfl)
  simp only [Act.put, List.setIfInBounds_toArray, List.set_cons_zero, List.set_cons_succ]
  refine wpAnyH_ready (rs := [5, 7]) (by kernel_rfl) (by simp) ?_
  refine AllReadyH.cons (o := _) rfl (fun K hK => ?_) (AllReadyH.cons (o := _) rfl (fun K hK => ?_) AllReadyH.nil)
  · skip
    go_simp
    have K2 := (Below.refl W1.heap.size W1).alloc (Nat.le_refl _) (.map #[] 0)
    have M2 := hide (World.ownsMap_made W1 Try.prog 2 secR)
    have X2 := hide ((K2.block _ (blk_lt' X1.out)).trans X1.out)
    have Y2 := hide ((K2.block _ (blk_lt' Y1.out)).trans Y1.out)
    have B2 := hide (B1.out.trans (K2.mono B1.out.size))
    have Z2 : Hid (W1.heap.size < (W1.alloc (.map #[] 0)).heap.size) := by show _ < _; simp
    refine hK.out _ _ X2.out (fun hS2 => ?_)
    clear hK K
    generalize W1.alloc (.map #[] 0) = W2 at *
    generalize W1.heap.size = b at *
    try simp only [Act.put, List.setIfInBounds_toArray, List.set_cons_zero, List.set_cons_succ]
    refine takeD 6 12 (v := ?v6) rfl rfl (by kernel_rfl) (by kernel_rfl) (by kernel_rfl) (fun _ _ _ h => h) (by kernel_rfl) ?hy6 (by assumption) ?r6
    case hy6 => (intro W hSw; go_simp; try with_reducible rfl)
    simp only [Act.put, List.setIfInBounds_toArray, List.set_cons_zero, List.set_cons_succ]
    refine wpAnyH_ready (rs := [7]) (by kernel_rfl) (by simp) ?_
    refine AllReadyH.cons (o := _) rfl (fun K hK => ?_) AllReadyH.nil
    go_simp
    have K3 := (Below.refl W2.heap.size W2).alloc (Nat.le_refl _) (.cells #[.slice none 0 0, .map none] 108)
    have V3 := hide (heap_alloc_new W2 (.cells #[.slice none 0 0, .map none] 108))
    have X3 := hide ((K3.block _ (blk_lt' X2.out)).trans X2.out)
    have Y3 := hide ((K3.block _ (blk_lt' Y2.out)).trans Y2.out)
    have B3 := hide (B2.out.trans (K3.mono B2.out.size))
    have Z3 : Hid (W2.heap.size < (W2.alloc (.cells #[.slice none 0 0, .map none] 108)).heap.size) := by show _ < _; simp
    have M3 := hide (ownsMap_below M2.out K3)
    have ZG : Hid (w.heap.size + 2 ≤ W2.heap.size ∧ w.heap.size + 2 ≤ b ∧ W2.heap.size ≠ b) := by have h1 := Z1.out; have h2 := Z2.out; exact ⟨by omega, h1, by omega⟩
    clear K2 K3 M2 X2 Y2 B2
    refine hK.out _ _ X3.out (fun hS3 => ?_)
    clear hK K
    generalize W2.alloc (.cells #[.slice none 0 0, .map none] 108) = W3 at *
    generalize W2.heap.size = g at *
    try simp only [Act.put, List.setIfInBounds_toArray, List.set_cons_zero, List.set_cons_succ]
    clear Z2 Z3 hS2
    refine wpAnyH_ready (rs := [8]) (by kernel_rfl) (by simp) ?_
    refine AllReadyH.cons (o := _) rfl (fun K hK => ?_) AllReadyH.nil
    obtain ⟨g0, g1, gf⟩ := cells2 V3.out
    go_simp
    have D3 := hide (DI.mk' (tx := .slice so ss.length p) B3.out X3.out Y3.out V3.out M3.out ZG.out)
    refine hK.out _ _ D3.out.par (fun hS => ?_)
    clear hK K g0 g1 gf hS X3 Y3 V3 M3 B3 X1 Y1 B1 Z1
    generalize (W3.setCell ⟨g, 0, none⟩ (.slice so ss.length p)).setCell ⟨g, 1, none⟩ (.map (some b)) = WZ at *
    refine wpAnyH_done (by kernel_rfl) ?_ _
    refine NoPanic.normal ?_
    obtain ⟨x0, x1, xf⟩ := cells2 D3.out.par
    go_wp2
    clear x0 x1 xf
    go_loopw [16] (fun i wr => ∃ k : Nat, k ≤ cs.length ∧ i = .int .i64 k ∧ Hid (DI w #[.slice so ss.length p, .slice co cs.length q] (.slice so ss.length p) g b k (cacheD (cs.take k)) wr)) (fun i _ => cs.length - (intOf i).toNat)
    case atStart => exact ⟨0, Nat.zero_le _, rfl, D3⟩
    case round =>
      obtain ⟨k, hk, rfl, G⟩ := hrel
      clear D3
      by_cases hlt : k < cs.length
      · obtain ⟨b', off, nn, tt, rfl, hbB, hv, htt, hki, d0, d1⟩ := (HR.out.kept (G.out.below.mono hB)).at k hlt
        have HV := hide (HSN.out k nn tt hlt hv)
        have hz := G.out.below.size
        have K1 := (Below.refl wr.heap.size wr).alloc (Nat.le_refl _) (.cells #[.int .i64 nn, .string tt] 122)
        have G1 := hide (G.out.keep K1)
        have T1 := hide (heap_alloc_new wr (.cells #[.int .i64 nn, .string tt] 122))
        have HSO := hide (fun W => sectorOf_any tt W)
        have HWF : Hid (keyOf Try.prog 2 (.int .i64 nn) = some (.int .i64 nn)) := keyOf_int_mk Try.underlying2 (wf_i64' hki)
        clear hv K1 htt hki
        go_wp2
        have G2 := hide G1.out.drewD
        have T2 := hide (show (wr.alloc (.cells #[.int .i64 nn, .string tt] 122)).drew.heap[wr.heap.size]? = _ from T1.out)
        clear G1 T1 d0 d1 hz
        generalize wr.alloc (.cells #[.int .i64 nn, .string tt] 122) = W5 at *
        refine wp_region_noPanic ?_
        refine wp_region_held_drew (S := fun W => W.heap[g]? = some (.cells #[.slice so ss.length p, .map (some b)] 108 (0, 0)) ∧ W.heap[wr.heap.size]? = some (.cells #[.int .i64 nn, .string tt] 122 (0, 0))) (by kernel_rfl) ⟨G2.out.var, T2.out⟩ (fun hS1 => ?_)
        generalize W5.drew = W6 at *
        have hbt : b ≠ wr.heap.size := fun e => by have := G.out.map.lt; omega
        have HBT := hide hbt
        clear hbt
        generalize wr.heap.size = t5 at *
        refine takeD 0 20 (v := ?v7) rfl rfl (by kernel_rfl) (by kernel_rfl) (by kernel_rfl) (fun _ _ _ h => h) (by kernel_rfl) ?hy7 (by assumption) ?r7
        case hy7 => (intro W hSw; go_simp; try with_reducible rfl)
        simp only [Act.put, List.setIfInBounds_toArray, List.set_cons_zero, List.set_cons_succ]
        refine takeD 1 21 (v := ?v8) rfl rfl (by kernel_rfl) (by kernel_rfl) (by kernel_rfl) (fun _ _ _ h => h) (by kernel_rfl) ?hy8 (by assumption) ?r8
        case hy8 => (intro W hSw; obtain ⟨a0, a1, af⟩ := cells2 hSw.1; obtain ⟨b0, b1, bf⟩ := cells2 hSw.2; go_simp; try with_reducible rfl)
        simp only [Act.put, List.setIfInBounds_toArray, List.set_cons_zero, List.set_cons_succ]
        refine takeD 2 22 (v := ?v9) rfl rfl (by kernel_rfl) (by kernel_rfl) (by kernel_rfl) (fun _ _ _ h => h) (by kernel_rfl) ?hy9 (by assumption) ?r9
        case hy9 => (intro W hSw; go_simp; try with_reducible rfl)
        simp only [Act.put, List.setIfInBounds_toArray, List.set_cons_zero, List.set_cons_succ]
        refine takeD 3 23 (v := ?v10) rfl rfl (by kernel_rfl) (by kernel_rfl) (by kernel_rfl) (fun _ _ _ h => h) (by kernel_rfl) ?hy10 (by assumption) ?r10
        case hy10 => (intro W hSw; obtain ⟨a0, a1, af⟩ := cells2 hSw.1; obtain ⟨b0, b1, bf⟩ := cells2 hSw.2; go_simp; try with_reducible rfl)
        simp only [Act.put, List.setIfInBounds_toArray, List.set_cons_zero, List.set_cons_succ]
        refine takeD 4 24 (v := ?v11) rfl rfl (by kernel_rfl) (by kernel_rfl) (by kernel_rfl) (fun _ _ _ h => h) (by kernel_rfl) ?hy11 (by assumption) ?r11
        case hy11 => (intro W hSw; go_simp; try with_reducible rfl)
        simp only [Act.put, List.setIfInBounds_toArray, List.set_cons_zero, List.set_cons_succ]
        refine takeD 5 25 (v := ?v12) rfl rfl (by kernel_rfl) (by kernel_rfl) (by kernel_rfl) (fun _ _ _ h => h) (by kernel_rfl) ?hy12 (by assumption) ?r12
        case hy12 => (intro W hSw; obtain ⟨a0, a1, af⟩ := cells2 hSw.1; obtain ⟨b0, b1, bf⟩ := cells2 hSw.2; go_simp; try with_reducible rfl)
        simp only [Act.put, List.setIfInBounds_toArray, List.set_cons_zero, List.set_cons_succ]
        refine wpAnyH_ready (rs := [6]) (by kernel_rfl) (by simp) ?_
        refine AllReadyH.cons (o := _) rfl (fun K hK => ?_) AllReadyH.nil
        go_simp
        go_at_call 114
        refine (HSO.out _).mono ?_
        rintro e W7 ⟨rfl, b7⟩
        have G7 := hide (G2.out.keep b7)
        have T7 := hide ((b7.block _ (blk_lt' T2.out)).trans T2.out)
        clear b7 G2 T2
        go_wp2_with fail
        refine hK.out _ _ ⟨G7.out.var, T7.out⟩ (fun hS2 => ?_)
        clear hK K hS1
        try simp only [Act.put, List.setIfInBounds_toArray, List.set_cons_zero, List.set_cons_succ]
        refine wpAnyH_ready (rs := [7]) (by kernel_rfl) (by simp) ?_
        refine AllReadyH.cons (o := _) rfl (fun K hK => ?_) AllReadyH.nil
        refine step_mapUpd rfl (.tmp 21) (.tmp 23) (.tmp 26) 106 rfl 2 92 keyI Try.underlying106 secR b k _ rfl G7.out.map (by unfold maxLen; omega) _ _ _ rfl rfl HWF.out _ _ (secR_mk _) ?_
        intro W8 m8 g8
        have G8 := hide (G7.out.upd m8 g8)
        have T8 := hide ((g8.block _ (blk_lt' T7.out) (fun e => HBT.out (Option.some.inj e).symm)).trans T7.out)
        rw [← HV.out] at G8
        clear m8 g8 G7 T7
        refine hK.out _ _ ⟨G8.out.var, T8.out⟩ (fun hS3 => ?_)
        clear hK K hS2 hS3
        refine wpAnyH_done (by kernel_rfl) ?_ _
        refine NoPanic.normal ?_
        clear T8 HV HBT HWF HSO G
        go_wp2
        go_roundw
        case rel => exact ⟨k + 1, by omega, by go_num, G8⟩
        case measure => simp [intOf]; omega
      · obtain rfl : k = cs.length := by omega
        have G9 := G
        rw [List.take_length] at G9
        obtain ⟨g0, g1, gf⟩ := cells2 G9.out.var
        obtain ⟨y0, y1, yf⟩ := cells2 G9.out.res
        clear G
        go_wp2
        exact bodyPost_ret (v := .agg #[.slice so ss.length p, .map (some b)]) (resDrv Try.results87 _ _ (w.heap.size + 1) _ _ rfl (set2 G9.out.res)) rfl ⟨b, rfl, G9.out.out.1, by have := G9.out.gap; omega, G9.out.out.2⟩
  · skip
    go_simp
    have K2 := (Below.refl W1.heap.size W1).alloc (Nat.le_refl _) (.cells #[.slice none 0 0, .map none] 108)
    have V2 := hide (heap_alloc_new W1 (.cells #[.slice none 0 0, .map none] 108))
    have X2 := hide ((K2.block _ (blk_lt' X1.out)).trans X1.out)
    have Y2 := hide ((K2.block _ (blk_lt' Y1.out)).trans Y1.out)
    have B2 := hide (B1.out.trans (K2.mono B1.out.size))
    have Z2 : Hid (W1.heap.size < (W1.alloc (.cells #[.slice none 0 0, .map none] 108)).heap.size) := by show _ < _; simp
    refine hK.out _ _ X2.out (fun hS2 => ?_)
    clear hK K
    generalize W1.alloc (.cells #[.slice none 0 0, .map none] 108) = W2 at *
    generalize W1.heap.size = g at *
    try simp only [Act.put, List.setIfInBounds_toArray, List.set_cons_zero, List.set_cons_succ]
    refine wpAnyH_ready (rs := [5]) (by kernel_rfl) (by simp) ?_
    refine AllReadyH.cons (o := _) rfl (fun K hK => ?_) AllReadyH.nil
    go_simp
    have K3 := (Below.refl W2.heap.size W2).alloc (Nat.le_refl _) (.map #[] 0)
    have M3 := hide (World.ownsMap_made W2 Try.prog 2 secR)
    have X3 := hide ((K3.block _ (blk_lt' X2.out)).trans X2.out)
    have Y3 := hide ((K3.block _ (blk_lt' Y2.out)).trans Y2.out)
    have B3 := hide (B2.out.trans (K3.mono B2.out.size))
    have Z3 : Hid (W2.heap.size < (W2.alloc (.map #[] 0)).heap.size) := by show _ < _; simp
    have V3 := hide ((K3.block _ (blk_lt' V2.out)).trans V2.out)
    have ZG : Hid (w.heap.size + 2 ≤ g ∧ w.heap.size + 2 ≤ W2.heap.size ∧ g ≠ W2.heap.size) := by have h1 := Z1.out; have h2 := Z2.out; exact ⟨h1, by omega, by omega⟩
    clear K2 K3 V2 X2 Y2 B2
    refine hK.out _ _ X3.out (fun hS3 => ?_)
    clear hK K
    generalize W2.alloc (.map #[] 0) = W3 at *
    generalize W2.heap.size = b at *
    try simp only [Act.put, List.setIfInBounds_toArray, List.set_cons_zero, List.set_cons_succ]
    clear Z2 Z3 hS2
    refine takeD 6 12 (v := ?v13) rfl rfl (by kernel_rfl) (by kernel_rfl) (by kernel_rfl) (fun _ _ _ h => h) (by kernel_rfl) ?hy13 (by assumption) ?r13
    case hy13 => (intro W hSw; go_simp; try with_reducible rfl)
    simp only [Act.put, List.setIfInBounds_toArray, List.set_cons_zero, List.set_cons_succ]
    refine wpAnyH_ready (rs := [8]) (by kernel_rfl) (by simp) ?_
    refine AllReadyH.cons (o := _) rfl (fun K hK => ?_) AllReadyH.nil
    obtain ⟨g0, g1, gf⟩ := cells2 V3.out
    go_simp
    have D3 := hide (DI.mk' (tx := .slice so ss.length p) B3.out X3.out Y3.out V3.out M3.out ZG.out)
    refine hK.out _ _ D3.out.par (fun hS => ?_)
    clear hK K g0 g1 gf hS X3 Y3 V3 M3 B3 X1 Y1 B1 Z1
    generalize (W3.setCell ⟨g, 0, none⟩ (.slice so ss.length p)).setCell ⟨g, 1, none⟩ (.map (some b)) = WZ at *
    refine wpAnyH_done (by kernel_rfl) ?_ _
    refine NoPanic.normal ?_
    obtain ⟨x0, x1, xf⟩ := cells2 D3.out.par
    go_wp2
    clear x0 x1 xf
    go_loopw [16] (fun i wr => ∃ k : Nat, k ≤ cs.length ∧ i = .int .i64 k ∧ Hid (DI w #[.slice so ss.length p, .slice co cs.length q] (.slice so ss.length p) g b k (cacheD (cs.take k)) wr)) (fun i _ => cs.length - (intOf i).toNat)
    case atStart => exact ⟨0, Nat.zero_le _, rfl, D3⟩
    case round =>
      obtain ⟨k, hk, rfl, G⟩ := hrel
      clear D3
      by_cases hlt : k < cs.length
      · obtain ⟨b', off, nn, tt, rfl, hbB, hv, htt, hki, d0, d1⟩ := (HR.out.kept (G.out.below.mono hB)).at k hlt
        have HV := hide (HSN.out k nn tt hlt hv)
        have hz := G.out.below.size
        have K1 := (Below.refl wr.heap.size wr).alloc (Nat.le_refl _) (.cells #[.int .i64 nn, .string tt] 122)
        have G1 := hide (G.out.keep K1)
        have T1 := hide (heap_alloc_new wr (.cells #[.int .i64 nn, .string tt] 122))
        have HSO := hide (fun W => sectorOf_any tt W)
        have HWF : Hid (keyOf Try.prog 2 (.int .i64 nn) = some (.int .i64 nn)) := keyOf_int_mk Try.underlying2 (wf_i64' hki)
        clear hv K1 htt hki
        go_wp2
        have G2 := hide G1.out.drewD
        have T2 := hide (show (wr.alloc (.cells #[.int .i64 nn, .string tt] 122)).drew.heap[wr.heap.size]? = _ from T1.out)
        clear G1 T1 d0 d1 hz
        generalize wr.alloc (.cells #[.int .i64 nn, .string tt] 122) = W5 at *
        refine wp_region_noPanic ?_
        refine wp_region_held_drew (S := fun W => W.heap[g]? = some (.cells #[.slice so ss.length p, .map (some b)] 108 (0, 0)) ∧ W.heap[wr.heap.size]? = some (.cells #[.int .i64 nn, .string tt] 122 (0, 0))) (by kernel_rfl) ⟨G2.out.var, T2.out⟩ (fun hS1 => ?_)
        generalize W5.drew = W6 at *
        have hbt : b ≠ wr.heap.size := fun e => by have := G.out.map.lt; omega
        have HBT := hide hbt
        clear hbt
        generalize wr.heap.size = t5 at *
        refine takeD 0 20 (v := ?v14) rfl rfl (by kernel_rfl) (by kernel_rfl) (by kernel_rfl) (fun _ _ _ h => h) (by kernel_rfl) ?hy14 (by assumption) ?r14
        case hy14 => (intro W hSw; go_simp; try with_reducible rfl)
        simp only [Act.put, List.setIfInBounds_toArray, List.set_cons_zero, List.set_cons_succ]
        refine takeD 1 21 (v := ?v15) rfl rfl (by kernel_rfl) (by kernel_rfl) (by kernel_rfl) (fun _ _ _ h => h) (by kernel_rfl) ?hy15 (by assumption) ?r15
        case hy15 => (intro W hSw; obtain ⟨a0, a1, af⟩ := cells2 hSw.1; obtain ⟨b0, b1, bf⟩ := cells2 hSw.2; go_simp; try with_reducible rfl)
        simp only [Act.put, List.setIfInBounds_toArray, List.set_cons_zero, List.set_cons_succ]
        refine takeD 2 22 (v := ?v16) rfl rfl (by kernel_rfl) (by kernel_rfl) (by kernel_rfl) (fun _ _ _ h => h) (by kernel_rfl) ?hy16 (by assumption) ?r16
        case hy16 => (intro W hSw; go_simp; try with_reducible rfl)
        simp only [Act.put, List.setIfInBounds_toArray, List.set_cons_zero, List.set_cons_succ]
        refine takeD 3 23 (v := ?v17) rfl rfl (by kernel_rfl) (by kernel_rfl) (by kernel_rfl) (fun _ _ _ h => h) (by kernel_rfl) ?hy17 (by assumption) ?r17
        case hy17 => (intro W hSw; obtain ⟨a0, a1, af⟩ := cells2 hSw.1; obtain ⟨b0, b1, bf⟩ := cells2 hSw.2; go_simp; try with_reducible rfl)
        simp only [Act.put, List.setIfInBounds_toArray, List.set_cons_zero, List.set_cons_succ]
        refine takeD 4 24 (v := ?v18) rfl rfl (by kernel_rfl) (by kernel_rfl) (by kernel_rfl) (fun _ _ _ h => h) (by kernel_rfl) ?hy18 (by assumption) ?r18
        case hy18 => (intro W hSw; go_simp; try with_reducible rfl)
        simp only [Act.put, List.setIfInBounds_toArray, List.set_cons_zero, List.set_cons_succ]
        refine takeD 5 25 (v := ?v19) rfl rfl (by kernel_rfl) (by kernel_rfl) (by kernel_rfl) (fun _ _ _ h => h) (by kernel_rfl) ?hy19 (by assumption) ?r19
        case hy19 => (intro W hSw; obtain ⟨a0, a1, af⟩ := cells2 hSw.1; obtain ⟨b0, b1, bf⟩ := cells2 hSw.2; go_simp; try with_reducible rfl)
        simp only [Act.put, List.setIfInBounds_toArray, List.set_cons_zero, List.set_cons_succ]
        refine wpAnyH_ready (rs := [6]) (by kernel_rfl) (by simp) ?_
        refine AllReadyH.cons (o := _) rfl (fun K hK => ?_) AllReadyH.nil
        go_simp
        go_at_call 114
        refine (HSO.out _).mono ?_
        rintro e W7 ⟨rfl, b7⟩
        have G7 := hide (G2.out.keep b7)
        have T7 := hide ((b7.block _ (blk_lt' T2.out)).trans T2.out)
        clear b7 G2 T2
        go_wp2_with fail
        refine hK.out _ _ ⟨G7.out.var, T7.out⟩ (fun hS2 => ?_)
        clear hK K hS1
        try simp only [Act.put, List.setIfInBounds_toArray, List.set_cons_zero, List.set_cons_succ]
        refine wpAnyH_ready (rs := [7]) (by kernel_rfl) (by simp) ?_
        refine AllReadyH.cons (o := _) rfl (fun K hK => ?_) AllReadyH.nil
        refine step_mapUpd rfl (.tmp 21) (.tmp 23) (.tmp 26) 106 rfl 2 92 keyI Try.underlying106 secR b k _ rfl G7.out.map (by unfold maxLen; omega) _ _ _ rfl rfl HWF.out _ _ (secR_mk _) ?_
        intro W8 m8 g8
        have G8 := hide (G7.out.upd m8 g8)
        have T8 := hide ((g8.block _ (blk_lt' T7.out) (fun e => HBT.out (Option.some.inj e).symm)).trans T7.out)
        rw [← HV.out] at G8
        clear m8 g8 G7 T7
        refine hK.out _ _ ⟨G8.out.var, T8.out⟩ (fun hS3 => ?_)
        clear hK K hS2 hS3
        refine wpAnyH_done (by kernel_rfl) ?_ _
        refine NoPanic.normal ?_
        clear T8 HV HBT HWF HSO G
        go_wp2
        go_roundw
        case rel => exact ⟨k + 1, by omega, by go_num, G8⟩
        case measure => simp [intOf]; omega
      · obtain rfl : k = cs.length := by omega
        have G9 := G
        rw [List.take_length] at G9
        obtain ⟨g0, g1, gf⟩ := cells2 G9.out.var
        obtain ⟨y0, y1, yf⟩ := cells2 G9.out.res
        clear G
        go_wp2
        exact bodyPost_ret (v := .agg #[.slice so ss.length p, .map (some b)]) (resDrv Try.results87 _ _ (w.heap.size + 1) _ _ rfl (set2 G9.out.res)) rfl ⟨b, rfl, G9.out.out.1, by have := G9.out.gap; omega, G9.out.out.2⟩
end Go.Proofs.Ytfhfhpnoeghgmaa

/-
  What a call owns appended to what it owns, wherever the source lies.
-/
namespace Go.Proofs.Ytfhfhpnoeghgmaa
open Go.RowKit

theorem run_app_own {P : Program} (w : World) (base b0 : Nat) (t ty e : TypeId) (i : TypeInfo) (z : Value) (size bytes : Nat) (ht : P.underlying t = some (.slice e)) (hi : P.info? e = some i) (hz : i.zero = some z)
    (hsize : i.size = size) (hby : i.bytes = bytes) (hzs : z.cells.size = size) (hsz : 0 < size)
    (v : Value) (n : Nat) (xs : List Value) (hown : w.ownsRow base e size v n xs) (x : Value) (m : Nat) (ys : List Value) (src : w.ownsRow b0 e size x m ys) (h1 : ∀ u ∈ ys, u.oneCell' = true)
    (h63 : n + m ≤ maxLen) (hbytes : (n + m) * bytes ≤ 140737488355328) (hbase : base ≤ w.heap.size) :
    ∃ v' w', (Builtin.append_ #[t, t] ty #[v, x]).run P w = .ok v' w' ∧ w'.ownsRow base e size v' (n + m) (xs ++ ys) ∧ w.grownBy w' v.ownBlock ∧ (v'.ownBlock = v.ownBlock ∨ v'.ownBlock = some w.heap.size) := by
  rcases src.2 with ⟨rfl, rfl⟩ | ⟨g, cap, cur, rfl, hB, hg, hnc, hm, hs, htk⟩
  · have hy : ys = [] := List.eq_nil_of_length_eq_zero (by have := src.1; simpa using this)
    subst hy
    refine ⟨v, w, run_append_owned_none (w := w) base t ty e i size ht hi v n xs hown, ?_, ⟨rfl, rfl, rfl, Nat.le_refl _, fun _ _ _ => rfl⟩, .inl rfl⟩
    simpa using hown
  · have hnews : ∀ j u, ys[j]? = some u → w.cell? ((⟨g, 0, none⟩ : Addr).add j) = some u := fun j u hj => by
      have ha : (⟨g, 0, none⟩ : Addr).add j = ⟨g, j, none⟩ := by unfold Addr.add; split <;> simp_all
      have hlt := (List.getElem?_eq_some_iff.1 hj).1
      rw [src.1] at hlt
      rw [ha, World.ownsRow.cellAt src j hlt, hj]
    obtain ⟨v', w', hr, h2, h3, _, h5⟩ := run_append_own_at (P := P) w base t ty e i z size bytes ht hi hz hsize hby hzs hsz v n xs hown ⟨g, 0, none⟩ m cap ys src.1 hnews h1 h63 hbytes hbase
    exact ⟨v', w', hr, h2, h3, h5⟩
theorem wp_app_own {P : Program} {w : World} {o : Oper} {a : Act} {K : Act → World → Prop} {Q : Exit → Act → World → Prop} (s x : Operand) (t : TypeId)
    (ho : o.op = .call { callee := .builtin .append, args := #[s, x], argTypes := #[t, t] })
    (base b0 : Nat) (e : TypeId) (i : TypeInfo) (z : Value) (size bytes : Nat) (ht : P.underlying t = some (.slice e)) (hi : P.info? e = some i) (hz : i.zero = some z)
    (hsize : i.size = size) (hby : i.bytes = bytes) (hzs : z.cells.size = size) (hsz : 0 < size)
    (v : Value) (n : Nat) (xs : List Value) (hs : a.eval s = v) (hown : w.ownsRow base e size v n xs) (y : Value) (m : Nat) (ys : List Value) (hx : a.eval x = y) (src : w.ownsRow b0 e size y m ys) (h1 : ∀ u ∈ ys, u.oneCell' = true)
    (h63 : n + m ≤ maxLen) (hbytes : (n + m) * bytes ≤ 140737488355328) (hbase : base ≤ w.heap.size)
    (h : ∀ v' w', w'.ownsRow base e size v' (n + m) (xs ++ ys) → w.grownBy w' v.ownBlock → (v'.ownBlock = v.ownBlock ∨ v'.ownBlock = some w.heap.size) → K (a.put o.dst v') w') : o.wp P a w K Q := by
  obtain ⟨v', w', hr, h2, h3, h4⟩ := run_app_own (P := P) w base b0 t o.type e i z size bytes ht hi hz hsize hby hzs hsz v n xs hown y m ys src h1 h63 hbytes hbase
  unfold Oper.wp execOp
  simp only [ho, resolve, invoke, builtin, Sem.run_bind, Sem.run_pure, Result.andThen_ok, List.map_toArray, List.map_cons, List.map_nil, hs, hx, hr]
  exact h v' w' h2 h3 h4
theorem wpList_app_own {P : Program} {w : World} {ops : Array Oper} {rest : List Oper} {o : Oper} {a : Act} {Q : Exit → Act → World → Prop} (hgd : o.guard = none) (s x : Operand) (t : TypeId)
    (ho : o.op = .call { callee := .builtin .append, args := #[s, x], argTypes := #[t, t] })
    (base b0 : Nat) (e : TypeId) (i : TypeInfo) (z : Value) (size bytes : Nat) (ht : P.underlying t = some (.slice e)) (hi : P.info? e = some i) (hz : i.zero = some z)
    (hsize : i.size = size) (hby : i.bytes = bytes) (hzs : z.cells.size = size) (hsz : 0 < size)
    (v : Value) (n : Nat) (xs : List Value) (hs : a.eval s = v) (hown : w.ownsRow base e size v n xs) (y : Value) (m : Nat) (ys : List Value) (hx : a.eval x = y) (src : w.ownsRow b0 e size y m ys) (h1 : ∀ u ∈ ys, u.oneCell' = true)
    (h63 : n + m ≤ maxLen) (hbytes : (n + m) * bytes ≤ 140737488355328) (hbase : base ≤ w.heap.size)
    (h : ∀ v' w', w'.ownsRow base e size v' (n + m) (xs ++ ys) → w.grownBy w' v.ownBlock → (v'.ownBlock = v.ownBlock ∨ v'.ownBlock = some w.heap.size) → wpList P ops Q rest (a.put o.dst v') w') : wpList P ops Q (o :: rest) a w :=
  wpList_plain hgd fun _ hK => wp_app_own s x t ho base b0 e i z size bytes ht hi hz hsize hby hzs hsz v n xs hs hown y m ys hx src h1 h63 hbytes hbase (fun v' w' g1 g2 g3 => hK _ _ (h v' w' g1 g2 g3))
theorem step_app_own {P : Program} {w : World} {ops : Array Oper} {o : Oper} {a : Act} {K : Act → World → Prop} {Q : Exit → Act → World → Prop} {E : Prop} (hgd : o.guard = none) (s x : Operand) (t : TypeId)
    (ho : o.op = .call { callee := .builtin .append, args := #[s, x], argTypes := #[t, t] })
    (base b0 : Nat) (e : TypeId) (i : TypeInfo) (z : Value) (size bytes : Nat) (ht : P.underlying t = some (.slice e)) (hi : P.info? e = some i) (hz : i.zero = some z)
    (hsize : i.size = size) (hby : i.bytes = bytes) (hzs : z.cells.size = size) (hsz : 0 < size)
    (v : Value) (n : Nat) (xs : List Value) (hs : a.eval s = v) (hown : w.ownsRow base e size v n xs) (y : Value) (m : Nat) (ys : List Value) (hx : a.eval x = y) (src : w.ownsRow b0 e size y m ys) (h1 : ∀ u ∈ ys, u.oneCell' = true)
    (h63 : n + m ≤ maxLen) (hbytes : (n + m) * bytes ≤ 140737488355328) (hbase : base ≤ w.heap.size)
    (h : ∀ v' w', w'.ownsRow base e size v' (n + m) (xs ++ ys) → w.grownBy w' v.ownBlock → (v'.ownBlock = v.ownBlock ∨ v'.ownBlock = some w.heap.size) → K (a.put o.dst v') w') :
    if Region.wanted o (yielded ops a.tmps) = true then Oper.wp P o a w K Q else E := by
  have hw : Region.wanted o (yielded ops a.tmps) = true := by simp [Region.wanted, hgd]
  rw [if_pos hw]
  exact wp_app_own s x t ho base b0 e i z size bytes ht hi hz hsize hby hzs hsz v n xs hs hown y m ys hx src h1 h63 hbytes hbase h
end Go.Proofs.Ytfhfhpnoeghgmaa

/-
  A disk's two lists in the making: what was handed in, and the result's variable, lie where they lay. Plain laws.
-/
namespace Go.Proofs.Ytfhfhpnoeghgmaa
open Go.RowKit
set_option maxRecDepth 100000

structure CI (w : World) (X : Array Value) (s c : Value) (ls : List ByteArray) (lc : List Wr) (W : World) : Prop where
  below : Below w.heap.size w W
  par : W.heap[w.heap.size]? = some (.cells X 26 (0, 0))
  res : W.heap[w.heap.size + 1]? = some (.cells #[.slice none 0 0, .slice none 0 0] 26 (0, 0))
  secs : OwnS (w.heap.size + 2) s ls W
  cache : OwnW (w.heap.size + 2) c lc W
  apart : s.ownBlock = none ∨ s.ownBlock ≠ c.ownBlock
theorem resDisk {fn : Func} {p : Tmp} (h : fn.results = #[.cell p 26]) (tmps : Array Value) (w : World) (g : Nat) (x y : Value) (hp : tmps.getD p undef = .pointer (some ⟨g, 0, none⟩))
    (hg : w.heap[g]? = some (.cells #[x, y] 26 (0, 0))) : (results fn tmps).run Try.prog w = .ok (.agg #[x, y]) w :=
  results_cell_row h tmps w g 26 #[x, y] (0, 0) _ hp hg Try.underlying26 rfl (by kernel_rfl)
section
variable {w W W' : World} {X : Array Value} {s c s' c' : Value} {ls l : List ByteArray} {lc k : List Wr}
theorem CI.lt (h : CI w X s c ls lc W) : w.heap.size + 2 ≤ W.heap.size := (Array.getElem?_eq_some_iff.1 h.res).1
theorem CI.start (w : World) (x y : Value) : CI w #[x, y] (.slice none 0 0) (.slice none 0 0) [] [] ((w.alloc (.cells #[x, y] 26)).alloc (.cells #[.slice none 0 0, .slice none 0 0] 26)) := by
  have h := two_allocs w (.cells #[x, y] 26) (.cells #[.slice none 0 0, .slice none 0 0] 26)
  exact ⟨((Below.refl _ _).alloc (Nat.le_refl _) _).alloc (by simp) _, h.1, h.2.1, ownS_nil _ _, ownW_nil _ _, .inl rfl⟩
theorem CI.keep (h : CI w X s c ls lc W) (hb : Below W.heap.size W W') : CI w X s c ls lc W' :=
  ⟨h.below.trans (hb.mono h.below.size), (hb.block _ (by have := h.lt; omega)).trans h.par, (hb.block _ (by have := h.lt; omega)).trans h.res, owns_below h.secs hb, owns_below h.cache hb, h.apart⟩
theorem CI.drew (h : CI w X s c ls lc W) : CI w X s c ls lc W.drew := h.keep (Below.refl _ _).drew
theorem own_empty {W : World} {base e size : Nat} {t : TypeId} (he : W.heap[e]? = some (.cells #[] t (0, 0))) (hb : base ≤ e) : W.ownsRow base t size (.slice (some ⟨e, 0, none⟩) 0 0) 0 [] := ⟨by simp, .inr ⟨e, 0, #[], rfl, hb, he, Nat.le_refl _, Nat.zero_le _, by simp, by simp⟩⟩
theorem ne_new {v : Value} {n : Nat} (h : ∀ b, v.ownBlock = some b → b < n) : v.ownBlock ≠ some n := fun e => by have := h _ e; omega
theorem CI.buildS (h : CI w X s c [] lc W) : CI w X (.slice (some ⟨W.heap.size, 0, none⟩) 0 0) c [] lc (W.alloc (.cells #[] 9)) := by
  have hk := h.keep ((Below.refl W.heap.size W).alloc (Nat.le_refl _) (.cells #[] 9))
  exact ⟨hk.below, hk.par, hk.res, own_empty (heap_alloc_new _ _) h.lt, hk.cache, .inr (fun e => ne_new (fun b hb => (World.ownsRow.lt h.cache b hb).2) e.symm)⟩
theorem CI.buildW (h : CI w X s c ls [] W) : CI w X s (.slice (some ⟨W.heap.size, 0, none⟩) 0 0) ls [] (W.alloc (.cells #[] 122)) := by
  have hk := h.keep ((Below.refl W.heap.size W).alloc (Nat.le_refl _) (.cells #[] 122))
  exact ⟨hk.below, hk.par, hk.res, hk.secs, own_empty (heap_alloc_new _ _) h.lt, .inr (fun e => ne_new (fun b hb => (World.ownsRow.lt h.secs b hb).2) e)⟩
theorem CI.grown (h : CI w X s c ls lc W) {v : Value} (hv : ∀ b, v.ownBlock = some b → w.heap.size + 2 ≤ b) (hg : W.grownBy W' v.ownBlock) : Below w.heap.size w W' ∧ W'.heap[w.heap.size]? = some (.cells X 26 (0, 0)) ∧ W'.heap[w.heap.size + 1]? = some (.cells #[.slice none 0 0, .slice none 0 0] 26 (0, 0)) :=
  ⟨h.below.grown hg h.below.size (fun b hb => by have := hv b hb; omega), (hg.block _ (by have := h.lt; omega) (fun e => by have := hv _ e.symm; omega)).trans h.par, (hg.block _ (by have := h.lt; omega) (fun e => by have := hv _ e.symm; omega)).trans h.res⟩
theorem CI.appS (h : CI w X s c [] lc W) (ho : W'.ownsRow (w.heap.size + 2) 9 1 s' (0 + l.length) ([] ++ strsV l)) (hg : W.grownBy W' s.ownBlock) (hl : s'.ownBlock = s.ownBlock ∨ s'.ownBlock = some W.heap.size) : CI w X s' c l lc W' := by
  obtain ⟨h1, h2, h3⟩ := h.grown (fun b hb => (World.ownsRow.lt h.secs b hb).1) hg
  refine ⟨h1, h2, h3, by simpa [OwnS] using ho, World.ownsRow.kept h.cache hg ?_, ?_⟩
  · rcases h.apart with e | e
    · cases hc : c.ownBlock with
      | none => exact .inl rfl
      | some b => exact .inr (by rw [e]; simp)
    · exact .inr (fun e' => e e'.symm)
  · rcases hl with e | e
    · rw [e]; exact h.apart
    · rw [e]; exact .inr (fun e' => ne_new (fun b hb => (World.ownsRow.lt h.cache b hb).2) e'.symm)
theorem CI.appW (h : CI w X s c ls [] W) (ho : W'.ownsRow (w.heap.size + 2) 122 2 c' (0 + k.length) ([] ++ flatW k)) (hg : W.grownBy W' c.ownBlock) (hl : c'.ownBlock = c.ownBlock ∨ c'.ownBlock = some W.heap.size) : CI w X s c' ls k W' := by
  obtain ⟨h1, h2, h3⟩ := h.grown (fun b hb => (World.ownsRow.lt h.cache b hb).1) hg
  refine ⟨h1, h2, h3, World.ownsRow.kept h.secs hg h.apart, by simpa [OwnW] using ho, ?_⟩
  rcases hl with e | e
  · rw [e]; exact h.apart
  · rw [e]; exact .inr (fun e' => ne_new (fun b hb => (World.ownsRow.lt h.secs b hb).2) e')
theorem CI.cloneS (h : CI w X s c ls lc W) (ho : OwnS W.heap.size s' l W') (hb : Below W.heap.size W W') : CI w X s' c l lc W' := by
  have hk := h.keep hb
  refine ⟨hk.below, hk.par, hk.res, owns_base ho h.lt, hk.cache, ?_⟩
  cases hs : s'.ownBlock with
  | none => exact .inl rfl
  | some b =>
    refine .inr (fun e => ?_)
    have h1 := (World.ownsRow.lt ho b hs).1
    have h2 := (World.ownsRow.lt h.cache b e.symm).2
    omega
theorem CI.cloneW (h : CI w X s c ls lc W) (ho : OwnW W.heap.size c' k W') (hb : Below W.heap.size W W') : CI w X s c' ls k W' := by
  have hk := h.keep hb
  refine ⟨hk.below, hk.par, hk.res, hk.secs, owns_base ho h.lt, ?_⟩
  cases hs : s.ownBlock with
  | none => exact .inl rfl
  | some b =>
    refine .inr (fun e => ?_)
    have h1 := (World.ownsRow.lt ho b e.symm).1
    have h2 := (World.ownsRow.lt h.secs b hs).2
    omega
theorem CI.par2 (h : CI w X s c ls lc W) {x y : Value} : ((W.setCell ⟨w.heap.size + 1, 0, none⟩ x).setCell ⟨w.heap.size + 1, 1, none⟩ y).heap[w.heap.size]? = some (.cells X 26 (0, 0)) :=
  (heap_far _ _ _ _ _ (by omega)).trans ((heap_far _ _ _ _ _ (by omega)).trans h.par)
theorem CI.out2 (h : CI w X s c ls lc W) {x y : Value} : OwnD w.heap.size s c ⟨ls, lc⟩ ((W.setCell ⟨w.heap.size + 1, 0, none⟩ x).setCell ⟨w.heap.size + 1, 1, none⟩ y) ∧ Below w.heap.size w ((W.setCell ⟨w.heap.size + 1, 0, none⟩ x).setCell ⟨w.heap.size + 1, 1, none⟩ y) :=
  ⟨(((show OwnD (w.heap.size + 2) s c ⟨ls, lc⟩ W from ⟨h.secs, h.cache, h.apart⟩).set (by omega)).set (by omega)).base (by omega), (h.below.setCell (by simp) _).setCell (by simp) _⟩
end
end Go.Proofs.Ytfhfhpnoeghgmaa

/-
  Contracts: a text cut into the writes of its pieces.
-/
namespace Go.Proofs.Ytfhfhpnoeghgmaa
open Go.RowKit
set_option maxRecDepth 100000

def many (t : ByteArray) : Nat := (t.size + 63) / 64
def piece (t : ByteArray) (k : Nat) : ByteArray := mkS (pad (t.data.toList.drop (k * 64)))
def wrsOf (at' : Int) (t : ByteArray) (n : Nat) : List Wr := (List.range n).map fun i : Nat => ⟨at' + (i : Int), piece t i⟩
theorem wrsOf_zero (a : Int) (t : ByteArray) : wrsOf a t 0 = [] := rfl
theorem wrsOf_succ (a : Int) (t : ByteArray) (k : Nat) : wrsOf a t (k + 1) = wrsOf a t k ++ [⟨a + (k : Int), piece t k⟩] := by simp [wrsOf, List.range_succ]
theorem wrsOf_len (a : Int) (t : ByteArray) (n : Nat) : (wrsOf a t n).length = n := by simp [wrsOf]
theorem piece_size (t : ByteArray) (k : Nat) : (piece t k).size = 64 := by unfold piece; rw [mkS_size, pad_len]
theorem drop_extract (s : ByteArray) (k : Nat) : (s.extract k s.size).data.toList = s.data.toList.drop k := by
  have e : s.extract k s.size = (ByteArray.mk s.data.toList.toArray).extract k s.size := rfl
  rw [e, ByteArray.extract_mk]
  show List.take (s.size - k) (s.data.toList.drop k) = _
  exact List.take_of_length_le (by rw [List.length_drop]; exact Nat.le_refl _)
theorem own_wr_one (w : World) (x : Int) (t : ByteArray) : (w.alloc (.cells #[.int .i64 x, .string t] 122)).ownsRow w.heap.size 122 2 (.slice (some ⟨w.heap.size, 0, none⟩) 1 1) 1 [.int .i64 x, .string t] :=
  ⟨rfl, .inr ⟨w.heap.size, 1, _, rfl, Nat.le_refl _, heap_alloc_new _ _, Nat.le_refl _, by decide, rfl, rfl⟩⟩
theorem wr_one (x : Int) (t : ByteArray) : ∀ u ∈ [Value.int .i64 x, Value.string t], u.oneCell' = true := fun u hu => by
  simp at hu
  rcases hu with rfl | rfl <;> rfl
theorem ownW_snoc {base : Nat} {v : Value} {l : List Wr} {w : World} {n : Nat} {x : Int} {t : ByteArray} (h : w.ownsRow base 122 2 v (n + 1) (flatW l ++ [.int .i64 x, .string t])) (hn : l.length = n) : OwnW base v (l ++ [⟨x, t⟩]) w := by
  unfold OwnW
  rw [flatW_snoc, List.length_append]
  simpa [hn] using h
set_option maxHeartbeats 1000000 in
theorem piecesOf_any (t : ByteArray) (ht : t.size ≤ 1048576) (w : World) :
    Calls Try.prog 82 #[.string t] w fun e w' => e = .returned (.int .i64 (many t : Int)) ∧ w' = w := by
  have e1 : ((t.size : Int) + 64 - 1) / 64 = (many t : Int) := by unfold many; omega
  go_enter Try.func82, Try.ntmps82
  go_wp2
  go_ret
  exact ⟨ret_int (by omega), rfl⟩
def pcs (t : ByteArray) (n : Nat) : List ByteArray := (List.range n).map fun i : Nat => piece t i
theorem pcs_succ (t : ByteArray) (k : Nat) : pcs t (k + 1) = pcs t k ++ [piece t k] := by simp [pcs, List.range_succ]
theorem pcs_len (t : ByteArray) (n : Nat) : (pcs t n).length = n := by simp [pcs]
theorem pcs_get (t : ByteArray) (n k : Nat) (h : k < n) : (pcs t n).getD k ByteArray.empty = piece t k := by simp [pcs, List.getD_eq_getElem?_getD, h]
theorem ownS_nil' (base : Nat) (w : World) : OwnS base (.slice none 0 0) [] w := ownS_nil _ _
theorem cut_str_one (w : World) (t : ByteArray) : (w.alloc (.cells #[.string t] 9)).ownsRow w.heap.size 9 1 (.slice (some ⟨w.heap.size, 0, none⟩) 1 1) 1 [.string t] :=
  ⟨rfl, .inr ⟨w.heap.size, 1, _, rfl, Nat.le_refl _, heap_alloc_new _ _, Nat.le_refl _, by decide, rfl, rfl⟩⟩
theorem cut_one (t : ByteArray) : ∀ u ∈ [Value.string t], u.oneCell' = true := fun u hu => by
  simp at hu
  rcases hu with rfl
  rfl
theorem cut_snoc {base : Nat} {v : Value} {l : List ByteArray} {w : World} {n : Nat} {t : ByteArray} (h : w.ownsRow base 9 1 v (n + 1) (strsV l ++ [.string t])) (hn : l.length = n) : OwnS base v (l ++ [t]) w := by
  unfold OwnS
  rw [List.length_append]
  simpa [strsV, hn] using h
set_option maxHeartbeats 4000000 in
theorem cutText_any (t : ByteArray) (ht : t.size ≤ 20000) (w : World) :
    Calls Try.prog 113 #[.string t] w fun e w' => ∃ v, e = .returned v ∧ OwnS w.heap.size v (pcs t (many t)) w' ∧ Below w.heap.size w w' := by
  obtain ⟨j0, hj, hy0, hy1, hy2⟩ := info_parts Try.infoStr'
  have hm : many t ≤ 313 := by unfold many; omega
  have hm2 : ∀ k, k < many t → k * 64 < t.size := fun k hk => by unfold many at hk; omega
  have HM2 := hide hm2
  have HP := hide (fun W => piecesOf_any t (by omega) W)
  have HSUCC := hide (fun k => pcs_succ t k)
  have HLEN := hide (fun k => pcs_len t k)
  have HPC : Hid (∀ k, mkS (pad (t.extract (k * 64) t.size).data.toList) = piece t k) := fun k => by rw [drop_extract]; rfl
  generalize many t = m at *
  clear hm2
  go_enter Try.func113, Try.ntmps113
  go_wp2_with (go_at_call 82; refine (HP.out _).mono ?_; rintro e w1 ⟨rfl, hw⟩; rw [hw]; clear hw w1)
  go_loopw [3, 7] (fun l i wr => ∃ (k : Nat) (v : Value), k ≤ m ∧ i = .int .i64 k ∧ l = v ∧ Hid (OwnS w.heap.size v (pcs t k) wr) ∧ Below w.heap.size w wr) (fun _ i _ => m - (intOf i).toNat)
  case atStart => exact ⟨0, _, Nat.zero_le _, rfl, rfl, ownS_nil w.heap.size w, Below.refl _ _⟩
  case round =>
    obtain ⟨k, v, hk, rfl, rfl, HO, hb⟩ := hrel
    obtain ⟨ao, cap, hv⟩ := ownS_shape HO.out
    rw [HLEN.out] at hv
    subst hv
    by_cases hlt : k < m
    · have h64 := HM2.out k hlt
      have hk64 : ((k : Int) * 64).toNat = k * 64 := by omega
      have hmul : IntKind.i64.wrap ((k : Int) * 64) = (k : Int) * 64 := by rw [IntKind.wrap_i64]; omega
      have hb0 := hide hb
      have HSO := hide (fun W => sectorOf_any (t.extract (k * 64) t.size) W)
      have HST := hide (fun W => sectorText_any (pad (t.extract (k * 64) t.size).data.toList) (pad_len _) W)
      rw [HPC.out] at HST
      generalize pad (t.extract (k * 64) t.size).data.toList = Z at *
      clear hb
      go_wp2_with (first | (go_at_call 114; refine (HSO.out _).mono ?_; rintro e w1 ⟨rfl, b1⟩; have B1 := hide (hb0.out.trans (b1.mono hb0.out.size)); have O1 := hide (owns_below HO.out b1); clear b1) | (go_at_call 70; refine (HST.out _).mono ?_; rintro e w2 ⟨rfl, b2⟩; have B2 := hide (B1.out.trans (b2.mono B1.out.size)); have O2 := hide (owns_below O1.out b2); have O3 := hide (World.ownsRow.alloc O2.out (.cells #[.string (piece t k)] 9)); have B3 := hide (B2.out.alloc B2.out.size (.cells #[.string (piece t k)] 9)); have S3 := hide (cut_str_one w2 (piece t k)); rw [HLEN.out] at O3; clear b2) | (at_builtin; refine wpList_app_own rfl _ _ 23 rfl w.heap.size w2.heap.size 9 j0 (.string ⟨#[]⟩) 1 16 Try.underlying23 hj hy0 hy1 hy2 rfl (by decide) _ k _ rfl O3.out _ 1 _ rfl S3.out (cut_one _) (by unfold maxLen; omega) (by omega) B3.out.size ?_; intro v5 w5 o5 g5 l5; have O5 := hide (cut_snoc o5 (HLEN.out k)); have B5 := hide (B3.out.grown g5 B3.out.size (fun b hb => (World.ownsRow.lt O3.out b hb).1)); rw [← HSUCC.out] at O5; obtain ⟨ao5, cp5, hv5⟩ := ownS_shape O5.out; rw [HLEN.out] at hv5; subst hv5; clear o5 g5 l5))
      go_roundw
      case rel => exact ⟨k + 1, _, by omega, by go_num, rfl, O5, B5.out⟩
      case measure => simp [intOf]; omega
    · obtain rfl : k = m := by omega
      go_wp2
      go_ret
      exact ⟨_, rfl, HO.out, hb⟩
set_option maxHeartbeats 4000000 in
theorem writesOf_any (a : Int) (t : ByteArray) (h0 : 0 ≤ a) (h1 : a ≤ 700) (ht : t.size ≤ 20000) (w : World) :
    Calls Try.prog 85 #[.int .i64 a, .string t] w fun e w' => ∃ v, e = .returned v ∧ OwnW w.heap.size v (wrsOf a t (many t)) w' ∧ Below w.heap.size w w' := by
  obtain ⟨j0, hj, hy0, hy1, hy2⟩ := info_parts Try.infoWr
  have hm : many t ≤ 313 := by unfold many; omega
  have HCT := hide (fun W => cutText_any t ht W)
  have HSUCC := hide (fun k => wrsOf_succ a t k)
  have HLEN := hide (fun k => wrsOf_len a t k)
  have HPL := hide (pcs_len t (many t))
  have HPG := hide (fun k h => pcs_get t (many t) k h)
  generalize many t = m at *
  go_enter Try.func85, Try.ntmps85
  go_wp2_with (go_at_call 113; refine (HCT.out _).mono ?_; rintro e w1 ⟨v1, rfl, o1, b1⟩; obtain ⟨ao1, cap1, hv1, hc1⟩ := ownS_row o1; rw [HPL.out] at hv1 hc1; subst hv1; have HC1 := hide hc1; have B1 := hide b1; clear hc1 o1 b1)
  go_loopw [5, 11] (fun l i wr => ∃ (k : Nat) (v : Value), k ≤ m ∧ i = .int .i64 k ∧ l = v ∧ Hid (OwnW w1.heap.size v (wrsOf a t k) wr) ∧ Below w1.heap.size w1 wr) (fun _ i _ => m - (intOf i).toNat)
  case atStart => exact ⟨0, _, Nat.zero_le _, rfl, rfl, ownW_nil w1.heap.size w1, Below.refl _ _⟩
  case round =>
    obtain ⟨k, v, hk, rfl, rfl, HO, hbl⟩ := hrel
    obtain ⟨ao, cap, hv⟩ := ownW_shape HO.out
    rw [HLEN.out] at hv
    subst hv
    by_cases hlt : k < m
    · obtain ⟨bb, off, x, rfl, hbB, hv, d00⟩ := HC1.out k hlt
      rw [HPG.out k hlt] at hv
      subst hv
      have d0 := (hbl.cell (p := ⟨bb, off + k, none⟩) hbB).trans d00
      have ht' := (Int.toNat_natCast k)
      have hi0 : (0 : Int) ≤ (k : Int) := by omega
      have hi1 : (k : Int) < (m : Int) := by omega
      have hwr : IntKind.i64.wrap (a + (k : Int)) = a + (k : Int) := by rw [IntKind.wrap_i64]; omega
      have HBL := hide hbl
      have O3 := hide (World.ownsRow.alloc HO.out (.cells #[.int .i64 (a + (k : Int)), .string (piece t k)] 122))
      have L3 := hide (hbl.alloc hbl.size (.cells #[.int .i64 (a + (k : Int)), .string (piece t k)] 122))
      have S3 := hide (own_wr_one wr (a + (k : Int)) (piece t k))
      rw [HLEN.out] at O3
      clear d00 HC1 hbl
      go_wp2_with (at_builtin; refine wpList_app_own rfl _ _ 24 rfl w1.heap.size wr.heap.size 122 j0 (.agg #[.int .i64 0, .string ⟨#[]⟩]) 2 24 Try.underlying24 hj hy0 hy1 hy2 rfl (by decide) _ k _ rfl O3.out _ 1 _ rfl S3.out (wr_one _ _) (by unfold maxLen; omega) (by omega) L3.out.size ?_; intro v5 w5 o5 g5 l5; have O5 := hide (ownW_snoc o5 (HLEN.out k)); have L5 := hide (L3.out.grown g5 L3.out.size (fun b hb => (World.ownsRow.lt O3.out b hb).1)); rw [← HSUCC.out] at O5; obtain ⟨ao5, cp5, hv5⟩ := ownW_shape O5.out; rw [HLEN.out] at hv5; subst hv5; clear o5 g5 l5)
      go_roundw
      case rel => exact ⟨k + 1, _, by omega, by go_num, rfl, O5, L5.out⟩
      case measure => simp [intOf]; omega
    · obtain rfl : k = m := by omega
      go_wp2
      go_ret
      exact ⟨_, rfl, owns_base HO.out B1.out.size, B1.out.trans (hbl.mono B1.out.size)⟩
end Go.Proofs.Ytfhfhpnoeghgmaa

/-
  What a write to a disk comes to. Plain facts.
-/
namespace Go.Proofs.Ytfhfhpnoeghgmaa
open Go.RowKit
set_option maxRecDepth 100000

def dkWrite (d : Dk) (a : Int) (t : ByteArray) : Dk × Int :=
  if 20000 < t.size then (⟨[], []⟩, 2) else if dkRight d = false then (⟨[], []⟩, 1) else if a < 0 ∨ (d.secs.length : Int) - (many t : Int) < a then (⟨[], []⟩, 9)
  else if 400 < d.cache.length + many t then (⟨[], []⟩, 11) else (⟨d.secs, d.cache ++ wrsOf a t (many t)⟩, 0)
theorem dkWrite_2 {d : Dk} {a : Int} {t : ByteArray} (h : 20000 < t.size) : dkWrite d a t = (⟨[], []⟩, 2) := if_pos h
theorem dkWrite_1 {d : Dk} {a : Int} {t : ByteArray} (h : ¬ 20000 < t.size) (hr : dkRight d = false) : dkWrite d a t = (⟨[], []⟩, 1) := by unfold dkWrite; rw [if_neg h, if_pos hr]
theorem dkWrite_9 {d : Dk} {a : Int} {t : ByteArray} (h : ¬ 20000 < t.size) (hr : dkRight d = true) (h9 : a < 0 ∨ (d.secs.length : Int) - (many t : Int) < a) : dkWrite d a t = (⟨[], []⟩, 9) := by unfold dkWrite; rw [if_neg h, if_neg (by rw [hr]; simp), if_pos h9]
theorem dkWrite_11 {d : Dk} {a : Int} {t : ByteArray} (h : ¬ 20000 < t.size) (hr : dkRight d = true) (h9 : ¬ (a < 0 ∨ (d.secs.length : Int) - (many t : Int) < a)) (hf : 400 < d.cache.length + many t) : dkWrite d a t = (⟨[], []⟩, 11) := by unfold dkWrite; rw [if_neg h, if_neg (by rw [hr]; simp), if_neg h9, if_pos hf]
theorem dkWrite_0 {d : Dk} {a : Int} {t : ByteArray} (h : ¬ 20000 < t.size) (hr : dkRight d = true) (h9 : ¬ (a < 0 ∨ (d.secs.length : Int) - (many t : Int) < a)) (hf : ¬ 400 < d.cache.length + many t) : dkWrite d a t = (⟨d.secs, d.cache ++ wrsOf a t (many t)⟩, 0) := by unfold dkWrite; rw [if_neg h, if_neg (by rw [hr]; simp), if_neg h9, if_neg hf]
theorem dkRight_bounds {d : Dk} (h : dkRight d = true) : d.secs.length ≤ 700 ∧ d.cache.length ≤ 400 := by
  unfold dkRight at h
  simp only [Bool.and_eq_true, decide_eq_true_eq] at h
  exact ⟨h.1.1.1, h.1.1.2⟩
theorem ownD_emp (base : Nat) (w : World) : OwnD base (.slice none 0 0) (.slice none 0 0) ⟨[], []⟩ w := ⟨ownS_nil _ _, ownW_nil _ _, .inl rfl⟩
theorem resOut {fn : Func} {p : Tmp} (h : fn.results = #[.cell p 37]) (tmps : Array Value) (w : World) (g : Nat) (a b c d : Value) (hp : tmps.getD p undef = .pointer (some ⟨g, 0, none⟩))
    (hg : w.heap[g]? = some (.cells #[a, b, c, d] 37 (0, 0))) : (results fn tmps).run Try.prog w = .ok (.agg #[a, b, c, d]) w :=
  results_cell_row h tmps w g 37 #[a, b, c, d] (0, 0) _ hp hg Try.underlying37 rfl (by kernel_rfl)
theorem set4w {W : World} {g : Nat} {a b c d x y z u : Value} {t : TypeId} (h : W.heap[g]? = some (.cells #[a, b, c, d] t (0, 0))) :
    ((((W.setCell ⟨g, 0, none⟩ x).setCell ⟨g, 1, none⟩ y).setCell ⟨g, 2, none⟩ z).setCell ⟨g, 3, none⟩ u).heap[g]? = some (.cells #[x, y, z, u] t (0, 0)) := by
  have h1 := heap_setCell_same W g 0 _ t x h
  have h2 := heap_setCell_same _ g 1 _ t y h1
  have h3 := heap_setCell_same _ g 2 _ t z h2
  have h4 := heap_setCell_same _ g 3 _ t u h3
  simpa using h4
end Go.Proofs.Ytfhfhpnoeghgmaa

/-
  A disk's answer in a box, its lists in rows of their own; a region cut behind its last operation.
-/
namespace Go.Proofs.Ytfhfhpnoeghgmaa
open Go.RowKit
set_option maxRecDepth 100000

/-- A region's end, said of what it has written into the slots. -/
theorem wp_cutA {P : Program} {c : Code} {Q : Exit → Act → World → Prop} {a : Act} {w : World} {β : Type} (T : Act → β → Act) (J : β → World → Prop)
    (h : c.wp P (Exit.then (fun a' w' => ∃ x, a' = T a x ∧ J x w') (fun _ _ _ => False)) a w) (hq : ∀ x w', J x w' → Q .normal (T a x) w') : c.wp P Q a w := by
  refine wp_mono h ?_
  intro e a' w' he
  cases e with
  | normal => obtain ⟨x, rfl, hx⟩ := he; exact hq x w' hx
  | ret => exact he.elim
  | exit => exact he.elim
  | goto => exact he.elim
  | panic => exact he.elim
  | outgrown => exact he.elim
def putA (a : Act) (i : Nat) (v : Value) : Act := { a with tmps := a.tmps.setIfInBounds i v }
def zOut : Obj := .cells #[.slice none 0 0, .slice none 0 0, .string ⟨#[]⟩, .int .i64 0] 37
def setO (W : World) (g : Nat) (s c : Value) (t : ByteArray) (K : Int) : World := (((W.setCell ⟨g, 0, none⟩ s).setCell ⟨g, 1, none⟩ c).setCell ⟨g, 2, none⟩ (.string t)).setCell ⟨g, 3, none⟩ (.int .i64 K)
structure OutAt (lo g : Nat) (s c : Value) (t : ByteArray) (K : Int) (D : Dk) (W : World) : Prop where
  box : W.heap[g]? = some (.cells #[s, c, .string t, .int .i64 K] 37 (0, 0))
  own : OwnD lo s c D W
  far : ∀ v ∈ [s, c], ∀ b, v.ownBlock = some b → b ≠ g
  low : lo ≤ g
theorem OutAt.below {lo g : Nat} {s c : Value} {t : ByteArray} {K : Int} {D : Dk} {W W' : World} (h : OutAt lo g s c t K D W) (hb : Below W.heap.size W W') : OutAt lo g s c t K D W' :=
  ⟨(hb.block g (blk_lt' h.box)).trans h.box, h.own.below hb, h.far, h.low⟩
theorem own_setF {W : World} {base g m n size : Nat} {v x : Value} {xs : List Value} {t : TypeId} (h : W.ownsRow base t size v n xs) (hg : ∀ b, v.ownBlock = some b → b ≠ g) : (W.setCell ⟨g, m, none⟩ x).ownsRow base t size v n xs := by
  refine ⟨h.1, ?_⟩
  rcases h.2 with h0 | ⟨q, cap, cur, rfl, hB, hq, hn, hm, hs, ht⟩
  · exact .inl h0
  · exact .inr ⟨q, cap, cur, rfl, hB, by rw [heap_setCell_other _ _ _ _ (show q ≠ g from hg q rfl)]; exact hq, hn, hm, hs, ht⟩
theorem OwnD.setF {base g m : Nat} {s c x : Value} {d : Dk} {w : World} (h : OwnD base s c d w) (hg : ∀ v ∈ [s, c], ∀ b, v.ownBlock = some b → b ≠ g) : OwnD base s c d (w.setCell ⟨g, m, none⟩ x) :=
  ⟨own_setF h.secs (hg s (by simp)), own_setF h.cache (hg c (by simp)), h.apart⟩
theorem outAt_early {lo base z : Nat} {s c : Value} {t : ByteArray} {K : Int} {D : Dk} {W : World} {a0 a1 a2 a3 : Value} (hz : W.heap[z]? = some (.cells #[a0, a1, a2, a3] 37 (0, 0))) (ho : OwnD base s c D W) (hlt : z < base) (hlo : lo ≤ z) : OutAt lo z s c t K D (setO W z s c t K) := by
  have hf : ∀ v ∈ [s, c], ∀ b, v.ownBlock = some b → b ≠ z := fun v hv b hb => by
    simp at hv
    rcases hv with rfl | rfl
    · have := (ho.lt.1 b hb).1; omega
    · have := (ho.lt.2 b hb).1; omega
  exact ⟨set4w hz, ((((ho.setF hf).setF hf).setF hf).setF hf).base (by omega), hf, hlo⟩
theorem outAt_late {lo : Nat} {s c : Value} {t : ByteArray} {K : Int} {D : Dk} {W : World} (ho : OwnD lo s c D W) (hlo : lo ≤ W.heap.size) : OutAt lo W.heap.size s c t K D (W.alloc (.cells #[s, c, .string t, .int .i64 K] 37)) := by
  have hf : ∀ v ∈ [s, c], ∀ b, v.ownBlock = some b → b ≠ W.heap.size := fun v hv b hb => by
    simp at hv
    rcases hv with rfl | rfl
    · have := (ho.lt.1 b hb).2; omega
    · have := (ho.lt.2 b hb).2; omega
  exact ⟨heap_alloc_new W _, ho.below ((Below.refl W.heap.size W).alloc (Nat.le_refl _) _), hf, hlo⟩
theorem setO_below {B g : Nat} {W0 W : World} {s c : Value} {t : ByteArray} {K : Int} (h : Below B W0 W) (hg : B ≤ g) : Below B W0 (setO W g s c t K) :=
  (((h.setCell (p := ⟨g, 0, none⟩) hg _).setCell (p := ⟨g, 1, none⟩) hg _).setCell (p := ⟨g, 2, none⟩) hg _).setCell (p := ⟨g, 3, none⟩) hg _
theorem OutAt.lts {lo g : Nat} {s c : Value} {t : ByteArray} {K : Int} {D : Dk} {W : World} (h : OutAt lo g s c t K D W) : ∀ v ∈ [s, c], ∀ b, v.ownBlock = some b → lo ≤ b ∧ b < W.heap.size := fun v hv b hb => by
  simp at hv
  rcases hv with rfl | rfl
  · exact h.own.lt.1 b hb
  · exact h.own.lt.2 b hb
/-- Behind marks of other lists. -/
theorem OutAt.gl {lo g m n : Nat} {s c : Value} {t : ByteArray} {K : Int} {D : Dk} {W W' : World} {l : List Value} (h : OutAt lo g s c t K D W) (k : GL l W W') (hv : ∀ v ∈ l, ∀ b, v.ownBlock = some b → m ≤ b ∧ b < n) (hs : ∀ v ∈ [s, c], ∀ b, v.ownBlock = some b → b < m ∨ n ≤ b) (hg : g < m ∨ n ≤ g) : OutAt lo g s c t K D W' :=
  ⟨k.blk h.box hv hg, k.ownD h.own hv (hs s (by simp)) (hs c (by simp)), h.far, h.low⟩
/-- Behind the marks of its own lists. -/
theorem OutAt.marked {lo g : Nat} {s c : Value} {t : ByteArray} {K : Int} {D D' : Dk} {W W' : World} (h : OutAt lo g s c t K D W) (k : GL [s, c] W W') (ho : OwnD lo s c D' W') : OutAt lo g s c t K D' W' :=
  ⟨(k.block g (blk_lt' h.box) (fun v hv e => h.far v hv g e rfl)).trans h.box, ho, h.far, h.low⟩
end Go.Proofs.Ytfhfhpnoeghgmaa

/-
  Contracts: what lies on a sector; what a sector has.
-/
namespace Go.Proofs.Ytfhfhpnoeghgmaa
open Go.RowKit Go.Maps Go.ChangeMaps Go.MapKept
set_option maxRecDepth 100000

set_option maxHeartbeats 2000000 in
theorem lies_any (A B : Nat) (so : Option Addr) (p b : Nat) (ss : List ByteArray) (i : Nat) (w : World) (hB : B ≤ w.heap.size) (hi : i < ss.length) (hr : StrRow w A B so ss) :
    Calls Try.prog 90 #[.agg #[.slice so ss.length p, .map (some b)], .int .i64 (i : Int)] w fun e w' => e = .returned (.agg (secV (pad (ss.getD i ByteArray.empty).data.toList))) ∧ Below w.heap.size w w' := by
  have hsh : ∃ g off, so = some ⟨g, off, none⟩ := by
    obtain ⟨g, off, x, e, _⟩ := hr.at i hi
    exact ⟨g, off, e⟩
  obtain ⟨g, off, rfl⟩ := hsh
  have hz := zero_of_info Try.infoSec
  have hzz := hz.1
  have HS64 := hide hz.2
  have HA := two_allocs w (.cells #[.slice (some ⟨g, off, none⟩) ss.length p, .map (some b)] 108) (.cells (secV zSec) 92)
  have R0 := hide HA.2.1
  have B0 := hide (((Below.refl w.heap.size w).alloc (Nat.le_refl _) (.cells #[.slice (some ⟨g, off, none⟩) ss.length p, .map (some b)] 108)).alloc (by simp) (.cells (secV zSec) 92))
  obtain ⟨g', off', x, e, hgB, hv, hx, c0⟩ := (hr.kept (B0.out.mono hB)).at i hi
  simp only [Option.some.injEq, Addr.mk.injEq, and_true] at e
  obtain ⟨rfl, rfl⟩ := e
  rw [hv]
  clear hr hv hx
  have HSO := hide (fun W => sectorOf_any x W)
  clear hz HA
  go_enter Try.func90, Try.ntmps90
  go_wp2_with (first | (go_at_call 114; refine (HSO.out _).mono ?_; rintro e w1 ⟨rfl, b1⟩; have R1 := hide ((b1.block (w.heap.size + 1) (by simp)).trans R0.out); have B1 := hide (B0.out.trans (b1.mono B0.out.size)); clear b1) | (refine wpList_store_row rfl 92 _ _ rfl (w.heap.size + 1) _ rfl rfl 92 _ R1.out (by rw [secV_size, pad_len]; exact HS64.out) (by rw [secV_size, secV_size, zSec_len, pad_len]) (secV_one _) ?_))
  refine bodyPost_ret (v := .agg (secV (pad x.data.toList))) (results_cell_row (p := 4) rfl _ _ (w.heap.size + 1) 92 _ (0, 0) _ rfl (setRow_heap _ _ _ _ _ _ R1.out) Try.underlying92 rfl (by rw [secV_size, pad_len]; exact HS64.out)) rfl ⟨rfl, below_setRow B1.out (Nat.le_succ _) _⟩
end Go.Proofs.Ytfhfhpnoeghgmaa

/-
  Contract: what a sector has, by the map of the last writes.
-/
namespace Go.Proofs.Ytfhfhpnoeghgmaa
open Go.RowKit Go.Maps Go.ChangeMaps Go.MapKept
set_option maxRecDepth 100000

set_option maxHeartbeats 4000000 in
theorem has_any (A B : Nat) (so : Option Addr) (p b n : Nat) (d : Dk) (i : Nat) (w : World) (hB : B ≤ w.heap.size) (hi : i < d.secs.length) (hR : dkRight d = true) (hlen : d.secs.length ≤ 700) (hr : StrRow w A B so d.secs) (hm : w.ownsMap Try.prog 2 secR b n (cacheD d.cache)) :
    Calls Try.prog 89 #[.agg #[.slice so d.secs.length p, .map (some b)], .int .i64 (i : Int)] w fun e w' => e = .returned (.agg (secV ((flushL d.secs d.cache).getD i ByteArray.empty).data.toList)) ∧ Below w.heap.size w w' := by
  have hlook := cache_look (dkRight_cache hR) i hi
  have hfull : ((flushL d.secs d.cache).getD i ByteArray.empty).data.toList.length = 64 := flush_sizes d.cache d.secs (fun x hx => (dkRight_cache hR x hx).2.2) (dkRight_secs hR) i hi
  have hown : (d.secs.getD i ByteArray.empty).data.toList.length = 64 := dkRight_secs hR i hi
  have HWF : Hid (keyOf Try.prog 2 (.int .i64 (i : Int)) = some (.int .i64 (i : Int))) := keyOf_int_mk Try.underlying2 (wf_i64' (by unfold wI64; omega))
  have HL := hide (fun W hW hr' => lies_any A B so p b d.secs i W hW hi hr')
  have HPF : Hid (pad (d.secs.getD i ByteArray.empty).data.toList = (d.secs.getD i ByteArray.empty).data.toList) := pad_full hown
  obtain ⟨ss, cs⟩ := d
  simp only at *
  generalize (flushL ss cs).getD i ByteArray.empty = F at *
  generalize cacheD cs = D at *
  have HF64 : Hid ((secV F.data.toList).size = 64) := by show _ = _; rw [secV_size]; exact hfull
  have HZ64 : Hid ((secV zSec).size = 64) := by show _ = _; rw [secV_size, zSec_len]
  clear hfull hown
  have HSR := hide hr
  have hz := zero_of_info Try.infoSec
  have hzz := hz.1
  have HS64 := hide hz.2
  have h0 := two_allocs w (.cells #[.slice so ss.length p, .map (some b)] 108) (.cells (secV zSec) 92)
  have X0 := hide h0.1
  have R0 := hide h0.2.1
  have Z0 := hide h0.2.2
  have B0 := hide (((Below.refl w.heap.size w).alloc (Nat.le_refl _) (.cells #[.slice so ss.length p, .map (some b)] 108)).alloc (by simp) (.cells (secV zSec) 92))
  have M0 := hide ((hm.alloc (.cells #[.slice so ss.length p, .map (some b)] 108)).alloc (.cells (secV zSec) 92))
  clear hz h0 hm hr hlen
  have N0 : Hid ((((w.alloc (.cells #[.slice so ss.length p, .map (some b)] 108)).alloc (.cells (secV zSec) 92)).alloc (.cells (secV zSec) 92)).heap[w.heap.size + 2]? = some (.cells (secV zSec) 92 (0, 0))) := by
    have h := heap_alloc_new ((w.alloc (.cells #[.slice so ss.length p, .map (some b)] 108)).alloc (.cells (secV zSec) 92)) (.cells (secV zSec) 92)
    rw [Z0.out] at h
    exact h
  have R1 := hide ((heap_old ((w.alloc (.cells #[.slice so ss.length p, .map (some b)] 108)).alloc (.cells (secV zSec) 92)) (.cells (secV zSec) 92) (w.heap.size + 1) (by rw [Z0.out]; omega)).trans R0.out)
  have X1 := hide ((heap_old ((w.alloc (.cells #[.slice so ss.length p, .map (some b)] 108)).alloc (.cells (secV zSec) 92)) (.cells (secV zSec) 92) w.heap.size (by rw [Z0.out]; omega)).trans X0.out)
  have B1 := hide (B0.out.alloc B0.out.size (.cells (secV zSec) 92))
  clear X0 R0 Z0 B0
  cases hhas : Maps.has D (.int .i64 (i : Int)) with
  | true =>
    have hat := hlook.1 hhas (.lit (.string zSec))
    have N2 := hide (setRow_heap _ _ _ (secV F.data.toList) _ _ N0.out)
    have R2 := hide ((setRow_other _ (w.heap.size + 2) (w.heap.size + 1) (secV F.data.toList) (by omega)).trans R1.out)
    have B2 := hide (below_setRow B1.out (show w.heap.size ≤ w.heap.size + 2 by omega) (secV F.data.toList))
    clear hlook R1 X1 B1
    go_enter Try.func89, Try.ntmps89
    go_wp2_with (first
      | (at_lookup; refine wpList_lookup_own_ok _ rfl _ _ 106 rfl 2 92 keyI Try.underlying106 secR (zeroS _) (.lit (.string zSec)) [] (secR_mk _) b n D rfl M0.out _ _ rfl HWF.out ?_; intro v ps hv; rw [hat] at hv; obtain ⟨l, rfl, hl⟩ := secR_inv hv; obtain rfl : F.data.toList = l := (by simpa using congrArg Prod.fst hl); rw [hhas]; clear hv hl)
      | (refine wpList_store_row rfl 92 _ _ rfl (w.heap.size + 2) _ rfl rfl 92 _ N0.out (by rw [HF64.out]; exact HS64.out) (by rw [HF64.out, HZ64.out]) (secV_one _) ?_)
      | (refine wpList_load_row rfl 92 _ rfl (w.heap.size + 2) rfl 92 _ (0, 0) _ N2.out Try.underlying92 rfl (by rw [HF64.out]; exact HS64.out) ?_)
      | (refine wpList_store_row rfl 92 _ _ rfl (w.heap.size + 1) _ rfl rfl 92 _ R2.out (by rw [HF64.out]; exact HS64.out) (by rw [HF64.out, HZ64.out]) (secV_one _) ?_))
    refine bodyPost_ret (v := .agg (secV F.data.toList)) (results_cell_row (p := 4) rfl _ _ (w.heap.size + 1) 92 _ (0, 0) _ rfl (setRow_heap _ _ _ _ _ _ R2.out) Try.underlying92 rfl (by rw [HF64.out]; exact HS64.out)) rfl ⟨rfl, below_setRow B2.out (Nat.le_succ _) _⟩
  | false =>
    have hat : D.atKey (.int .i64 (i : Int)) (.lit (.string zSec)) = .lit (.string zSec) := atKey_of_not_has hhas _
    obtain rfl : F = ss.getD i ByteArray.empty := hlook.2 hhas
    generalize ss.getD i ByteArray.empty = F at *
    have X2 := hide ((setRow_other _ (w.heap.size + 2) w.heap.size (secV zSec) (by omega)).trans X1.out)
    have R2 := hide ((setRow_other _ (w.heap.size + 2) (w.heap.size + 1) (secV zSec) (by omega)).trans R1.out)
    have B2 := hide (below_setRow B1.out (show w.heap.size ≤ w.heap.size + 2 by omega) (secV zSec))
    obtain ⟨x0, x1, xf⟩ := cells2 X2.out
    clear hlook R1 X1 B1
    go_enter Try.func89, Try.ntmps89
    go_wp2_with (first
      | (at_lookup; refine wpList_lookup_own_ok _ rfl _ _ 106 rfl 2 92 keyI Try.underlying106 secR (zeroS _) (.lit (.string zSec)) [] (secR_mk _) b n D rfl M0.out _ _ rfl HWF.out ?_; intro v ps hv; rw [hat] at hv; obtain ⟨l, rfl, hl⟩ := secR_inv hv; obtain rfl : zSec = l := (by simpa using congrArg Prod.fst hl); rw [hhas]; clear hv hl)
      | (refine wpList_store_row rfl 92 _ _ rfl (w.heap.size + 2) _ rfl rfl 92 _ N0.out (by rw [HZ64.out]; exact HS64.out) rfl (secV_one _) ?_)
      | (go_at_call 90; refine (HL.out _ (Nat.le_trans hB B2.out.size) (HSR.out.kept (B2.out.mono hB))).mono ?_; rintro e w3 ⟨rfl, b3⟩; have R3 := hide ((b3.block _ (blk_lt' R2.out)).trans R2.out); have B3 := hide (B2.out.trans (b3.mono B2.out.size)); rw [HPF.out]; clear b3)
      | (refine wpList_store_row rfl 92 _ _ rfl (w.heap.size + 1) _ rfl rfl 92 _ R3.out (by rw [HF64.out]; exact HS64.out) (by rw [HF64.out, HZ64.out]) (secV_one _) ?_))
    refine bodyPost_ret (v := .agg (secV F.data.toList)) (results_cell_row (p := 4) rfl _ _ (w.heap.size + 1) 92 _ (0, 0) _ rfl (setRow_heap _ _ _ _ _ _ R3.out) Try.underlying92 rfl (by rw [HF64.out]; exact HS64.out)) rfl ⟨rfl, below_setRow B3.out (Nat.le_succ _) _⟩
end Go.Proofs.Ytfhfhpnoeghgmaa

/-
  A disk's texts being written one by one, in a row of their own. Plain facts.
-/
namespace Go.Proofs.Ytfhfhpnoeghgmaa
open Go.RowKit
set_option maxRecDepth 100000

structure FI (w : World) (X : Array Value) (v c : Value) (g : Nat) (l : List ByteArray) (W : World) : Prop where
  below : Below w.heap.size w W
  par : W.heap[w.heap.size]? = some (.cells X 26 (0, 0))
  res : W.heap[w.heap.size + 1]? = some (.cells #[.slice none 0 0, .slice none 0 0] 26 (0, 0))
  var : W.heap[g]? = some (.cells #[v, c] 26 (0, 0))
  secs : OwnS (w.heap.size + 2) v l W
  gap : w.heap.size + 2 ≤ g ∧ v.ownBlock ≠ some g
section
variable {w W W' : World} {X : Array Value} {v c : Value} {g e cap n : Nat} {l : List ByteArray}
theorem FI.keep (h : FI w X v c g l W) (hb : Below W.heap.size W W') : FI w X v c g l W' :=
  ⟨h.below.trans (hb.mono h.below.size), (hb.block _ (blk_lt' h.par)).trans h.par, (hb.block _ (blk_lt' h.res)).trans h.res, (hb.block _ (blk_lt' h.var)).trans h.var, owns_below h.secs hb, h.gap⟩
theorem FI.drew (h : FI w X v c g l W) : FI w X v c g l W.drew := h.keep (Below.refl _ _).drew
theorem FI.start (hb : Below w.heap.size w W) (hp : W.heap[w.heap.size]? = some (.cells X 26 (0, 0))) (hr : W.heap[w.heap.size + 1]? = some (.cells #[.slice none 0 0, .slice none 0 0] 26 (0, 0))) (hs : OwnS (w.heap.size + 2) v l W) :
    FI w X v c W.heap.size l (((W.alloc (.cells #[.slice none 0 0, .slice none 0 0] 26)).setCell ⟨W.heap.size, 0, none⟩ v).setCell ⟨W.heap.size, 1, none⟩ c) := by
  have hl := blk_lt' hr
  have hb1 : Below w.heap.size w (((W.alloc (.cells #[.slice none 0 0, .slice none 0 0] 26)).setCell ⟨W.heap.size, 0, none⟩ v).setCell ⟨W.heap.size, 1, none⟩ c) := ((hb.alloc hb.size _).setCell (by simpa using hb.size) _).setCell (by simpa using hb.size) _
  have hne : v.ownBlock ≠ some W.heap.size := fun e => by have := (World.ownsRow.lt hs _ e).2; omega
  refine ⟨hb1, ?_, ?_, set2 (heap_alloc_new _ _), ?_, by omega, hne⟩
  · rw [heap_far _ _ _ _ _ (by omega), heap_far _ _ _ _ _ (by omega), heap_old _ _ _ (by omega)]; exact hp
  · rw [heap_far _ _ _ _ _ (by omega), heap_far _ _ _ _ _ (by omega), heap_old _ _ _ (by omega)]; exact hr
  · exact ownsRow_setCell_other (ownsRow_setCell_other (owns_below hs ((Below.refl _ _).alloc (Nat.le_refl _) _)) (a := ⟨W.heap.size, 0, none⟩) hne v) (a := ⟨W.heap.size, 1, none⟩) hne c
theorem FI.start2 (hb : Below w.heap.size w W) (hp : W.heap[w.heap.size]? = some (.cells X 26 (0, 0))) (hr : W.heap[w.heap.size + 1]? = some (.cells #[.slice none 0 0, .slice none 0 0] 26 (0, 0))) (hs : OwnS (w.heap.size + 2) v l W) :
    FI w X v c W.heap.size l (W.alloc (.cells #[v, c] 26)) := by
  have hl := blk_lt' hr
  have hne : v.ownBlock ≠ some W.heap.size := fun e => by have := (World.ownsRow.lt hs _ e).2; omega
  exact ⟨hb.alloc hb.size _, by rw [heap_old _ _ _ (by omega)]; exact hp, by rw [heap_old _ _ _ (by omega)]; exact hr, heap_alloc_new _ _, owns_below hs ((Below.refl _ _).alloc (Nat.le_refl _) _), by omega, hne⟩
theorem FI.cell {ao : Option Addr} (h : FI w X (.slice ao n cap) c g l W) (hl : 0 < l.length) :
    ∃ e, ao = some ⟨e, 0, none⟩ ∧ w.heap.size + 2 ≤ e ∧ e ≠ g ∧ (∀ j, W.frozen? ⟨e, j, none⟩ = false) ∧ ∀ i, i < l.length → W.cell? ⟨e, i, none⟩ = some (.string (l.getD i ByteArray.empty)) := by
  rcases h.secs.2 with ⟨_, h0⟩ | ⟨e, cap', cur, h1, h2, h3, h4, h5, h6, h7⟩
  · omega
  · injection h1 with h1 hn hc
    subst h1 hn hc
    refine ⟨e, rfl, h2, fun he => h.gap.2 (by rw [he]; rfl), fun j => frozen_of_row _ _ _ _ _ h3, fun i hi => ?_⟩
    rw [cell_of_row _ _ _ _ _ _ h3]
    have h8 : (cur.toList.take (l.length * 1))[i]? = (strsV l)[i]? := by rw [h7]
    rw [List.getElem?_take_of_lt (by omega)] at h8
    rw [← Array.getElem?_toList, h8]
    simp [strsV, List.getD_eq_getElem?_getD, List.getElem?_eq_getElem hi]
theorem FI.put (h : FI w X (.slice (some ⟨e, 0, none⟩) n cap) c g l W) (hn : n = l.length) (k : Nat) (x : ByteArray) (he : w.heap.size + 2 ≤ e) : FI w X (.slice (some ⟨e, 0, none⟩) n cap) c g (l.set k x) (W.setCell ⟨e, k, none⟩ (.string x)) := by
  have hg : e ≠ g := fun he => h.gap.2 (by rw [he]; rfl)
  refine ⟨h.below.setCell (by simp; omega) _, ?_, ?_, ?_, ?_, h.gap⟩
  · rw [heap_far _ _ _ _ _ (by omega)]; exact h.par
  · rw [heap_far _ _ _ _ _ (by omega)]; exact h.res
  · rw [heap_far _ _ _ _ _ (Ne.symm hg)]; exact h.var
  · subst hn
    have hs : strsV (l.set k x) = (strsV l).set k (.string x) := by simp [strsV, List.map_set]
    unfold OwnS
    rw [hs, List.length_set]
    exact (World.ownsRow.stored h.secs k _).1
theorem FI.out (h : FI w X v c g l W) {x y : Value} : OwnS w.heap.size v l ((W.setCell ⟨w.heap.size + 1, 0, none⟩ x).setCell ⟨w.heap.size + 1, 1, none⟩ y) ∧ Below w.heap.size w ((W.setCell ⟨w.heap.size + 1, 0, none⟩ x).setCell ⟨w.heap.size + 1, 1, none⟩ y) :=
  ⟨owns_base (own_set (own_set h.secs (by omega)) (by omega)) (by omega), (h.below.setCell (by simp) _).setCell (by simp) _⟩
end
end Go.Proofs.Ytfhfhpnoeghgmaa
