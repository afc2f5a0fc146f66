/-
  Contracts and plain laws, part 5 of 5: DkMap, DkDrv, DkOutAt, LgLaw
-/
import Derived.Maps.OwnSet
import Derived.Maps.Views
import Derived.RegionTactic
import Derived.Test.YtfhfhpnoeghgmaaPd

/-
  What sectors have, by a map of the last writes, and by doing the writes one behind the other. Plain facts.
-/
namespace Go.Proofs.Ytfhfhpnoeghgmaa
open Go.RowKit Go.Maps Go.ChangeMaps Go.MapKept
set_option maxRecDepth 100000

theorem secV_inj {a b : List UInt8} (h : secV a = secV b) : a = b := by
  unfold secV at h
  have h1 : Lib.byteCells a = Lib.byteCells b := by
    have := congrArg Array.toList h
    simpa using this
  unfold Lib.byteCells at h1
  refine (List.map_inj_right (fun x y e => ?_)).1 h1
  injection e with _ e2
  exact UInt8.toNat_inj.1 (by omega)
open Classical in
/-- How a sector in a map reads. -/
noncomputable def secR (v : Value) : Option (DataW Unit × List MemPlace) := if h : ∃ l, v = .agg (secV l) then some (.lit (.string h.choose), []) else none
theorem secR_mk (l : List UInt8) : secR (.agg (secV l)) = some (.lit (.string l), []) := by
  unfold secR
  have h : ∃ l', Value.agg (secV l) = .agg (secV l') := ⟨l, rfl⟩
  rw [dif_pos h]
  have hc : l = h.choose := secV_inj (by injection h.choose_spec)
  exact congrArg (fun l' => some (DataW.lit (.string l'), [])) hc.symm
theorem secR_inv {v : Value} {z : DataW Unit × List MemPlace} (h : secR v = some z) : ∃ l, v = .agg (secV l) ∧ z = (.lit (.string l), []) := by
  unfold secR at h
  split at h
  · rename_i hx
    obtain ⟨l, hl⟩ := hx
    refine ⟨l, hl, ?_⟩
    subst hl
    have h2 := secR_mk l
    unfold secR at h2
    rw [dif_pos ⟨l, rfl⟩] at h2
    simp only [Option.some.injEq] at h h2
    rw [← h, h2]
  · cases h
noncomputable def cacheStep (D : DataW Unit) (x : Wr) : DataW Unit := D.put (.int .i64 x.pos) (.lit (.string (pad x.text.data.toList)))
noncomputable def cacheD (l : List Wr) : DataW Unit := l.foldl cacheStep (.map [])
def flushL (ss : List ByteArray) (l : List Wr) : List ByteArray := l.foldl (fun s x => s.set x.pos.toNat x.text) ss
theorem cacheD_snoc (l : List Wr) (x : Wr) : cacheD (l ++ [x]) = (cacheD l).put (.int .i64 x.pos) (.lit (.string (pad x.text.data.toList))) := by simp [cacheD, cacheStep]
theorem flushL_snoc (ss : List ByteArray) (l : List Wr) (x : Wr) : flushL ss (l ++ [x]) = (flushL ss l).set x.pos.toNat x.text := by simp [flushL]
theorem flushL_len (l : List Wr) : ∀ ss, (flushL ss l).length = ss.length := by
  induction l with
  | nil => intro ss; rfl
  | cons x r ih => intro ss; show (flushL (ss.set x.pos.toNat x.text) r).length = _; rw [ih]; simp
theorem keyLit (n : Int) : WideAt.IsKeyLit (.int .i64 n) := by unfold WideAt.IsKeyLit; trivial
theorem look_inv (l : List Wr) : ∀ (D : DataW Unit) (ss s0 : List ByteArray), IsMap D → ss.length = s0.length → (∀ x ∈ l, 0 ≤ x.pos ∧ x.pos < (s0.length : Int) ∧ x.text.size = 64) →
    (∀ i, i < s0.length → (Maps.has D (.int .i64 (i : Int)) = true → ∀ z, D.atKey (.int .i64 (i : Int)) z = .lit (.string (ss.getD i ByteArray.empty).data.toList)) ∧ (Maps.has D (.int .i64 (i : Int)) = false → ss.getD i ByteArray.empty = s0.getD i ByteArray.empty)) →
    ∀ i, i < s0.length → (Maps.has (l.foldl cacheStep D) (.int .i64 (i : Int)) = true → ∀ z, (l.foldl cacheStep D).atKey (.int .i64 (i : Int)) z = .lit (.string ((flushL ss l).getD i ByteArray.empty).data.toList)) ∧ (Maps.has (l.foldl cacheStep D) (.int .i64 (i : Int)) = false → (flushL ss l).getD i ByteArray.empty = s0.getD i ByteArray.empty) := by
  induction l with
  | nil => intro D ss s0 _ _ _ h i hi; exact h i hi
  | cons x r ih =>
    intro D ss s0 hD hl hx h
    obtain ⟨hx0, hx1, hx2⟩ := hx x (by simp)
    refine ih (cacheStep D x) (ss.set x.pos.toNat x.text) s0 (hD.put _ _) (by simpa using hl) (fun y hy => hx y (by simp [hy])) (fun i hi => ?_)
    have hpf : pad x.text.data.toList = x.text.data.toList := pad_full hx2
    by_cases e : (i : Int) = x.pos
    · have hk : x.pos.toNat = i := by omega
      have hs : (ss.set i x.text).getD i ByteArray.empty = x.text := by
        rw [List.getD_eq_getElem?_getD, List.getElem?_set_self (by omega)]; rfl
      unfold cacheStep
      rw [e, hk, hpf]
      refine ⟨fun _ z => ?_, fun hn => ?_⟩
      · rw [atKey_put_same hD (keyLit _), hs]
      · rw [has_put_same hD (keyLit _)] at hn; cases hn
    · have hne : (Lit.int .i64 (i : Int)) ≠ .int .i64 x.pos := fun e' => e (by injection e')
      have hs : (ss.set x.pos.toNat x.text).getD i ByteArray.empty = ss.getD i ByteArray.empty := by
        rw [List.getD_eq_getElem?_getD, List.getElem?_set_ne (by omega), ← List.getD_eq_getElem?_getD]
      unfold cacheStep
      rw [has_put_other hne, hs]
      exact ⟨fun h1 z => by rw [atKey_put_other hne]; exact (h i hi).1 h1 z, (h i hi).2⟩
theorem cache_look {d : Dk} (hx : ∀ x ∈ d.cache, 0 ≤ x.pos ∧ x.pos < (d.secs.length : Int) ∧ x.text.size = 64) (i : Nat) (hi : i < d.secs.length) :
    (Maps.has (cacheD d.cache) (.int .i64 (i : Int)) = true → ∀ z, (cacheD d.cache).atKey (.int .i64 (i : Int)) z = .lit (.string ((flushL d.secs d.cache).getD i ByteArray.empty).data.toList)) ∧ (Maps.has (cacheD d.cache) (.int .i64 (i : Int)) = false → (flushL d.secs d.cache).getD i ByteArray.empty = d.secs.getD i ByteArray.empty) :=
  look_inv d.cache (.map []) d.secs d.secs isMap_empty rfl hx (fun i _ => ⟨fun h => by simp [Maps.has] at h, fun _ => rfl⟩) i hi
theorem dkRight_cache {d : Dk} (h : dkRight d = true) : ∀ x ∈ d.cache, 0 ≤ x.pos ∧ x.pos < (d.secs.length : Int) ∧ x.text.size = 64 := by
  intro x hx
  obtain ⟨i, hi, rfl⟩ := List.getElem_of_mem hx
  unfold dkRight at h
  simp only [Bool.and_eq_true] at h
  have := (upto_iff _ _).1 h.2 i hi
  unfold wrOk at this
  rw [List.getD_eq_getElem?_getD, List.getElem?_eq_getElem hi] at this
  simp only [Option.getD_some, Bool.and_eq_true, decide_eq_true_eq] at this
  exact ⟨this.1.1, this.1.2, this.2⟩
theorem dkRight_secs {d : Dk} (h : dkRight d = true) : ∀ i, i < d.secs.length → (d.secs.getD i ByteArray.empty).size = 64 := by
  intro i hi
  unfold dkRight at h
  simp only [Bool.and_eq_true] at h
  have := (upto_iff _ _).1 h.1.2 i hi
  unfold secOk at this
  simpa using this
theorem flush_sizes (l : List Wr) : ∀ (ss : List ByteArray), (∀ x ∈ l, x.text.size = 64) → (∀ i, i < ss.length → (ss.getD i ByteArray.empty).size = 64) → ∀ i, i < ss.length → ((flushL ss l).getD i ByteArray.empty).size = 64 := by
  induction l with
  | nil => intro ss _ h i hi; exact h i hi
  | cons x r ih =>
    intro ss hx h i hi
    refine ih (ss.set x.pos.toNat x.text) (fun y hy => hx y (by simp [hy])) (fun j hj => ?_) i (by simpa using hi)
    rw [List.length_set] at hj
    by_cases e : j = x.pos.toNat
    · subst e
      rw [List.getD_eq_getElem?_getD, List.getElem?_set_self hj]
      exact hx x (by simp)
    · rw [List.getD_eq_getElem?_getD, List.getElem?_set_ne (by omega), ← List.getD_eq_getElem?_getD]
      exact h j hj
theorem step_mapUpd {H : Type} {P : Program} {w : World} {ops : Array Oper} {o : Oper} {a : Act} {K' : Act → World → Prop} {Q : Exit → Act → World → Prop} {E : Prop} (hg : o.guard = none) (m x v : Operand) (t : TypeId) (hop : o.op = Op.mapUpdate t m x v)
    (k e : TypeId) (K : Keyed P k) (ht : P.underlying t = some (.map k e)) (R : Value → Option (DataW H × List MemPlace)) (b n : Nat) (D : DataW H)
    (hm : a.eval m = .map (some b)) (hown : w.ownsMap P k R b n D) (hn : n < maxLen) (key val : Value) (kl : Lit) (hx : a.eval x = key) (hv : a.eval v = val) (hkey : keyOf P k key = some kl)
    (d : DataW H) (ps : List MemPlace) (hval : R val = some (d, ps))
    (h : ∀ w', w'.ownsMap P k R b (n + 1) (D.put kl d) → w.grownBy w' (some b) → K' (a.put o.dst undef) w') :
    if Region.wanted o (yielded ops a.tmps) = true then Oper.wp P o a w K' Q else E := by
  have hw : Region.wanted o (yielded ops a.tmps) = true := by simp [Region.wanted, hg]
  rw [if_pos hw]
  obtain ⟨w', hrun, r1, r2⟩ := hown.update K ht hn hkey hval
  unfold Oper.wp
  simp [execOp, hop, hm, hx, hv, hrun, Result.andThen]
  exact h w' r1 r2
end Go.Proofs.Ytfhfhpnoeghgmaa

/-
  Contracts: a disk taken in: the last writes of its sectors in a map; what lies on a sector.
-/
namespace Go.Proofs.Ytfhfhpnoeghgmaa
open Go.RowKit Go.Maps Go.ChangeMaps Go.MapKept
set_option maxRecDepth 100000

theorem keyI : Keyed Try.prog 2 := int_keyed Try.underlying2
theorem zeroS (w : World) : (zeroValue 92).run Try.prog w = .ok (.agg (secV zSec)) w := (zero_of_info Try.infoSec).1 w
/-- A disk in the taking in. -/
structure DI (w : World) (X : Array Value) (tx : Value) (g b n : Nat) (D : DataW Unit) (W : World) : Prop where
  below : Below w.heap.size w W
  par : W.heap[w.heap.size]? = some (.cells X 26 (0, 0))
  res : W.heap[w.heap.size + 1]? = some (.cells #[.slice none 0 0, .map none] 108 (0, 0))
  var : W.heap[g]? = some (.cells #[tx, .map (some b)] 108 (0, 0))
  map : W.ownsMap Try.prog 2 secR b n D
  gap : w.heap.size + 2 ≤ g ∧ w.heap.size + 2 ≤ b ∧ g ≠ b
section
variable {w W W' : World} {X : Array Value} {tx : Value} {g b n : Nat} {D D' : DataW Unit}
theorem ownsMap_below {k : TypeId} {R : Value → Option (DataW Unit × List MemPlace)} (h : W.ownsMap Try.prog k R b n D) (hb : Below W.heap.size W W') : W'.ownsMap Try.prog k R b n D := by
  obtain ⟨es, clock, h1, h2⟩ := h
  exact ⟨es, clock, (hb.block b (Array.getElem?_eq_some_iff.1 h1).1).trans h1, h2⟩
theorem DI.keep (h : DI w X tx g b n D W) (hb : Below W.heap.size W W') : DI w X tx g b n D W' :=
  ⟨h.below.trans (hb.mono h.below.size), (hb.block _ (Array.getElem?_eq_some_iff.1 h.par).1).trans h.par, (hb.block _ (Array.getElem?_eq_some_iff.1 h.res).1).trans h.res, (hb.block _ (Array.getElem?_eq_some_iff.1 h.var).1).trans h.var, ownsMap_below h.map hb, h.gap⟩
theorem DI.upd (h : DI w X tx g b n D W) (hm : W'.ownsMap Try.prog 2 secR b (n + 1) D') (hg : W.grownBy W' (some b)) : DI w X tx g b (n + 1) D' W' := by
  have h1 := h.gap
  refine ⟨h.below.grown hg h.below.size (fun j hj => by have := Option.some.inj hj; omega), (hg.block _ (Array.getElem?_eq_some_iff.1 h.par).1 (fun e => by have := Option.some.inj e; omega)).trans h.par, (hg.block _ (Array.getElem?_eq_some_iff.1 h.res).1 (fun e => by have := Option.some.inj e; omega)).trans h.res, (hg.block _ (Array.getElem?_eq_some_iff.1 h.var).1 (fun e => by have := Option.some.inj e; omega)).trans h.var, hm, h1⟩
end
theorem blk_lt' {w : World} {g : Nat} {o : Obj} (h : w.heap[g]? = some o) : g < w.heap.size := (Array.getElem?_eq_some_iff.1 h).1
theorem wf_i64' {n : Int} (h : wI64 n) : (Lit.int .i64 n).wf = true := WalkArith.wf_i64 h
section
variable {w W : World} {X : Array Value} {tx : Value} {g b n : Nat} {D : DataW Unit}
theorem DI.drewD (h : DI w X tx g b n D W) : DI w X tx g b n D W.drew := h.keep (Below.refl _ _).drew
theorem DI.mk' (hb : Below w.heap.size w W) (hp : W.heap[w.heap.size]? = some (.cells X 26 (0, 0))) (hr : W.heap[w.heap.size + 1]? = some (.cells #[.slice none 0 0, .map none] 108 (0, 0))) (hv : W.heap[g]? = some (.cells #[.slice none 0 0, .map none] 108 (0, 0)))
    (hm : W.ownsMap Try.prog 2 secR b n D) (hg : w.heap.size + 2 ≤ g ∧ w.heap.size + 2 ≤ b ∧ g ≠ b) : DI w X tx g b n D ((W.setCell ⟨g, 0, none⟩ tx).setCell ⟨g, 1, none⟩ (.map (some b))) := by
  refine ⟨(hb.setCell (by simp; omega) _).setCell (by simp; omega) _, ?_, ?_, ?_, (hm.setCell hg.2.2.symm _).setCell hg.2.2.symm _, hg⟩
  · rw [heap_far _ _ _ _ _ (by omega), heap_far _ _ _ _ _ (by omega)]; exact hp
  · rw [heap_far _ _ _ _ _ (by omega), heap_far _ _ _ _ _ (by omega)]; exact hr
  · exact set2 hv
theorem DI.out (h : DI w X tx g b n D W) {x y : Value} : ((W.setCell ⟨w.heap.size + 1, 0, none⟩ x).setCell ⟨w.heap.size + 1, 1, none⟩ y).ownsMap Try.prog 2 secR b n D ∧ Below w.heap.size w ((W.setCell ⟨w.heap.size + 1, 0, none⟩ x).setCell ⟨w.heap.size + 1, 1, none⟩ y) :=
  ⟨(h.map.setCell (by have := h.gap; simp; omega) _).setCell (by have := h.gap; simp; omega) _, (h.below.setCell (by simp) _).setCell (by simp) _⟩
end
theorem resDrv {fn : Func} {p : Tmp} (h : fn.results = #[.cell p 108]) (tmps : Array Value) (w : World) (g : Nat) (x y : Value) (hp : tmps.getD p undef = .pointer (some ⟨g, 0, none⟩))
    (hg : w.heap[g]? = some (.cells #[x, y] 108 (0, 0))) : (results fn tmps).run Try.prog w = .ok (.agg #[x, y]) w :=
  results_cell_row h tmps w g 108 #[x, y] (0, 0) _ hp hg Try.underlying108 rfl (by kernel_rfl)
set_option maxHeartbeats 4000000 in
theorem driveOf_any (A B : Nat) (so : Option Addr) (p : Nat) (co : Option Addr) (q : Nat) (d : Dk) (w : World) (hB : B ≤ w.heap.size) (hlen : d.cache.length ≤ 400) (hr : DkRow w A B so co d) :
    Calls Try.prog 87 #[.agg #[.slice so d.secs.length p, .slice co d.cache.length q]] w fun e w' => ∃ b, e = .returned (.agg #[.slice so d.secs.length p, .map (some b)]) ∧ w'.ownsMap Try.prog 2 secR b d.cache.length (cacheD d.cache) ∧ w.heap.size ≤ b ∧ Below w.heap.size w w' := by
  obtain ⟨ss, cs⟩ := d
  simp only at *
  have hmm : ∀ (W : World) (n : Int), (Instr.makeMap 106 (some (.int .i64 n))).run Try.prog W = .ok (.map (some W.heap.size)) (W.alloc (.map #[] 0)) := fun W n => by simp [Instr.makeMap, run_underlying Try.underlying106, asInt, newObj]; rfl
  have HR := hide hr.2.2
  have HSN := hide (fun k (n : Int) (t : ByteArray) (hk : k < cs.length) (hv : cs.getD k noWr = ⟨n, t⟩) => show cacheD (cs.take (k + 1)) = (cacheD (cs.take k)).put (.int .i64 n) (.lit (.string (pad t.data.toList))) by
    rw [List.getD_eq_getElem?_getD, List.getElem?_eq_getElem hk] at hv
    simp only [Option.getD_some] at hv
    rw [List.take_succ_eq_append_getElem hk, cacheD_snoc, hv])
  have h0 := two_allocs w (.cells #[.slice so ss.length p, .slice co cs.length q] 26) (.cells #[.slice none 0 0, .map none] 108)
  have X0 := hide h0.1
  have Y0 := hide h0.2.1
  have Z0 := hide h0.2.2
  have B0 := hide (((Below.refl w.heap.size w).alloc (Nat.le_refl _) (.cells #[.slice so ss.length p, .slice co cs.length q] 26)).alloc (by simp) (.cells #[.slice none 0 0, .map none] 108))
  clear h0 hr
  go_enter Try.func87, Try.ntmps87
  go_wp2
  have X1 := hide (show ((w.alloc (.cells #[.slice so ss.length p, .slice co cs.length q] 26)).alloc (.cells #[.slice none 0 0, .map none] 108)).drew.heap[w.heap.size]? = _ from X0.out)
  have Y1 := hide (show ((w.alloc (.cells #[.slice so ss.length p, .slice co cs.length q] 26)).alloc (.cells #[.slice none 0 0, .map none] 108)).drew.heap[w.heap.size + 1]? = _ from Y0.out)
  have B1 := hide B0.out.drew
  have Z1 := hide (show w.heap.size + 2 ≤ ((w.alloc (.cells #[.slice so ss.length p, .slice co cs.length q] 26)).alloc (.cells #[.slice none 0 0, .map none] 108)).drew.heap.size from Nat.le_of_eq Z0.out.symm)
  clear X0 Y0 B0 Z0
  generalize (w.alloc (.cells #[.slice so ss.length p, .slice co cs.length q] 26)).alloc (.cells #[.slice none 0 0, .map none] 108) = W0 at *
  refine wp_region_noPanic ?_
  refine wp_region_held_drew (S := fun W => W.heap[w.heap.size]? = some (.cells #[.slice so ss.length p, .slice co cs.length q] 26 (0, 0))) (by kernel_rfl) X1.out (fun hS1 => ?_)
  generalize W0.drew = W1 at *
  refine takeD 0 6 (v := ?v1) rfl rfl (by kernel_rfl) (by kernel_rfl) (by kernel_rfl) (fun _ _ _ h => h) (by kernel_rfl) ?hy1 (by assumption) ?r1
  case hy1 => (intro W hSw; go_simp; try with_reducible rfl)
  simp only [Act.put, List.setIfInBounds_toArray, List.set_cons_zero, List.set_cons_succ]
  refine takeD 1 7 (v := ?v2) rfl rfl (by kernel_rfl) (by kernel_rfl) (by kernel_rfl) (fun _ _ _ h => h) (by kernel_rfl) ?hy2 (by assumption) ?r2
  case hy2 => (intro W hSw; obtain ⟨x0, x1, xf⟩ := cells2 hSw; go_simp; try with_reducible rfl)
  simp only [Act.put, List.setIfInBounds_toArray, List.set_cons_zero, List.set_cons_succ]
  refine takeD 2 8 (v := ?v3) rfl rfl (by kernel_rfl) (by kernel_rfl) (by kernel_rfl) (fun _ _ _ h => h) (by kernel_rfl) ?hy3 (by assumption) ?r3
  case hy3 => (intro W hSw; go_simp; try with_reducible rfl)
  simp only [Act.put, List.setIfInBounds_toArray, List.set_cons_zero, List.set_cons_succ]
  refine takeD 3 9 (v := ?v4) rfl rfl (by kernel_rfl) (by kernel_rfl) (by kernel_rfl) (fun _ _ _ h => h) (by kernel_rfl) ?hy4 (by assumption) ?r4
  case hy4 => (intro W hSw; obtain ⟨x0, x1, xf⟩ := cells2 hSw; go_simp; try with_reducible rfl)
  simp only [Act.put, List.setIfInBounds_toArray, List.set_cons_zero, List.set_cons_succ]
  refine takeD 4 10 (v := ?v5) rfl rfl (by kernel_rfl) (by kernel_rfl) (by kernel_rfl) (fun _ _ _ h => h) (by kernel_rfl) ?hy5 (by assumption) ?r5
  case hy5 => (intro W hSw; go_simp; try with_reducible rfl)
  simp only [Act.put, List.setIfInBounds_toArray, List.set_cons_zero, List.set_cons_succ]
  refine wpAnyH_ready (rs := [5, 7]) (by kernel_rfl) (by simp) ?_
  refine AllReadyH.cons (o := _) rfl (fun K hK => ?_) (AllReadyH.cons (o := _) rfl (fun K hK => ?_) AllReadyH.nil)
  · skip
    go_simp
    have K2 := (Below.refl W1.heap.size W1).alloc (Nat.le_refl _) (.map #[] 0)
    have M2 := hide (World.ownsMap_made W1 Try.prog 2 secR)
    have X2 := hide ((K2.block _ (blk_lt' X1.out)).trans X1.out)
    have Y2 := hide ((K2.block _ (blk_lt' Y1.out)).trans Y1.out)
    have B2 := hide (B1.out.trans (K2.mono B1.out.size))
    have Z2 : Hid (W1.heap.size < (W1.alloc (.map #[] 0)).heap.size) := by show _ < _; simp
    refine hK.out _ _ X2.out (fun hS2 => ?_)
    clear hK K
    generalize W1.alloc (.map #[] 0) = W2 at *
    generalize W1.heap.size = b at *
    try simp only [Act.put, List.setIfInBounds_toArray, List.set_cons_zero, List.set_cons_succ]
    refine takeD 6 12 (v := ?v6) rfl rfl (by kernel_rfl) (by kernel_rfl) (by kernel_rfl) (fun _ _ _ h => h) (by kernel_rfl) ?hy6 (by assumption) ?r6
    case hy6 => (intro W hSw; go_simp; try with_reducible rfl)
    simp only [Act.put, List.setIfInBounds_toArray, List.set_cons_zero, List.set_cons_succ]
    refine wpAnyH_ready (rs := [7]) (by kernel_rfl) (by simp) ?_
    refine AllReadyH.cons (o := _) rfl (fun K hK => ?_) AllReadyH.nil
    go_simp
    have K3 := (Below.refl W2.heap.size W2).alloc (Nat.le_refl _) (.cells #[.slice none 0 0, .map none] 108)
    have V3 := hide (heap_alloc_new W2 (.cells #[.slice none 0 0, .map none] 108))
    have X3 := hide ((K3.block _ (blk_lt' X2.out)).trans X2.out)
    have Y3 := hide ((K3.block _ (blk_lt' Y2.out)).trans Y2.out)
    have B3 := hide (B2.out.trans (K3.mono B2.out.size))
    have Z3 : Hid (W2.heap.size < (W2.alloc (.cells #[.slice none 0 0, .map none] 108)).heap.size) := by show _ < _; simp
    have M3 := hide (ownsMap_below M2.out K3)
    have ZG : Hid (w.heap.size + 2 ≤ W2.heap.size ∧ w.heap.size + 2 ≤ b ∧ W2.heap.size ≠ b) := by have h1 := Z1.out; have h2 := Z2.out; exact ⟨by omega, h1, by omega⟩
    clear K2 K3 M2 X2 Y2 B2
    refine hK.out _ _ X3.out (fun hS3 => ?_)
    clear hK K
    generalize W2.alloc (.cells #[.slice none 0 0, .map none] 108) = W3 at *
    generalize W2.heap.size = g at *
    try simp only [Act.put, List.setIfInBounds_toArray, List.set_cons_zero, List.set_cons_succ]
    clear Z2 Z3 hS2
    refine wpAnyH_ready (rs := [8]) (by kernel_rfl) (by simp) ?_
    refine AllReadyH.cons (o := _) rfl (fun K hK => ?_) AllReadyH.nil
    obtain ⟨g0, g1, gf⟩ := cells2 V3.out
    go_simp
    have D3 := hide (DI.mk' (tx := .slice so ss.length p) B3.out X3.out Y3.out V3.out M3.out ZG.out)
    refine hK.out _ _ D3.out.par (fun hS => ?_)
    clear hK K g0 g1 gf hS X3 Y3 V3 M3 B3 X1 Y1 B1 Z1
    generalize (W3.setCell ⟨g, 0, none⟩ (.slice so ss.length p)).setCell ⟨g, 1, none⟩ (.map (some b)) = WZ at *
    refine wpAnyH_done (by kernel_rfl) ?_ _
    refine NoPanic.normal ?_
    obtain ⟨x0, x1, xf⟩ := cells2 D3.out.par
    go_wp2
    clear x0 x1 xf
    go_loopw [16] (fun i wr => ∃ k : Nat, k ≤ cs.length ∧ i = .int .i64 k ∧ Hid (DI w #[.slice so ss.length p, .slice co cs.length q] (.slice so ss.length p) g b k (cacheD (cs.take k)) wr)) (fun i _ => cs.length - (intOf i).toNat)
    case atStart => exact ⟨0, Nat.zero_le _, rfl, D3⟩
    case round =>
      obtain ⟨k, hk, rfl, G⟩ := hrel
      clear D3
      by_cases hlt : k < cs.length
      · obtain ⟨b', off, nn, tt, rfl, hbB, hv, htt, hki, d0, d1⟩ := (HR.out.kept (G.out.below.mono hB)).at k hlt
        have HV := hide (HSN.out k nn tt hlt hv)
        have hz := G.out.below.size
        have K1 := (Below.refl wr.heap.size wr).alloc (Nat.le_refl _) (.cells #[.int .i64 nn, .string tt] 122)
        have G1 := hide (G.out.keep K1)
        have T1 := hide (heap_alloc_new wr (.cells #[.int .i64 nn, .string tt] 122))
        have HSO := hide (fun W => sectorOf_any tt W)
        have HWF : Hid (keyOf Try.prog 2 (.int .i64 nn) = some (.int .i64 nn)) := keyOf_int_mk Try.underlying2 (wf_i64' hki)
        clear hv K1 htt hki
        go_wp2
        have G2 := hide G1.out.drewD
        have T2 := hide (show (wr.alloc (.cells #[.int .i64 nn, .string tt] 122)).drew.heap[wr.heap.size]? = _ from T1.out)
        clear G1 T1 d0 d1 hz
        generalize wr.alloc (.cells #[.int .i64 nn, .string tt] 122) = W5 at *
        refine wp_region_noPanic ?_
        refine wp_region_held_drew (S := fun W => W.heap[g]? = some (.cells #[.slice so ss.length p, .map (some b)] 108 (0, 0)) ∧ W.heap[wr.heap.size]? = some (.cells #[.int .i64 nn, .string tt] 122 (0, 0))) (by kernel_rfl) ⟨G2.out.var, T2.out⟩ (fun hS1 => ?_)
        generalize W5.drew = W6 at *
        have hbt : b ≠ wr.heap.size := fun e => by have := G.out.map.lt; omega
        have HBT := hide hbt
        clear hbt
        generalize wr.heap.size = t5 at *
        refine takeD 0 20 (v := ?v7) rfl rfl (by kernel_rfl) (by kernel_rfl) (by kernel_rfl) (fun _ _ _ h => h) (by kernel_rfl) ?hy7 (by assumption) ?r7
        case hy7 => (intro W hSw; go_simp; try with_reducible rfl)
        simp only [Act.put, List.setIfInBounds_toArray, List.set_cons_zero, List.set_cons_succ]
        refine takeD 1 21 (v := ?v8) rfl rfl (by kernel_rfl) (by kernel_rfl) (by kernel_rfl) (fun _ _ _ h => h) (by kernel_rfl) ?hy8 (by assumption) ?r8
        case hy8 => (intro W hSw; obtain ⟨a0, a1, af⟩ := cells2 hSw.1; obtain ⟨b0, b1, bf⟩ := cells2 hSw.2; go_simp; try with_reducible rfl)
        simp only [Act.put, List.setIfInBounds_toArray, List.set_cons_zero, List.set_cons_succ]
        refine takeD 2 22 (v := ?v9) rfl rfl (by kernel_rfl) (by kernel_rfl) (by kernel_rfl) (fun _ _ _ h => h) (by kernel_rfl) ?hy9 (by assumption) ?r9
        case hy9 => (intro W hSw; go_simp; try with_reducible rfl)
        simp only [Act.put, List.setIfInBounds_toArray, List.set_cons_zero, List.set_cons_succ]
        refine takeD 3 23 (v := ?v10) rfl rfl (by kernel_rfl) (by kernel_rfl) (by kernel_rfl) (fun _ _ _ h => h) (by kernel_rfl) ?hy10 (by assumption) ?r10
        case hy10 => (intro W hSw; obtain ⟨a0, a1, af⟩ := cells2 hSw.1; obtain ⟨b0, b1, bf⟩ := cells2 hSw.2; go_simp; try with_reducible rfl)
        simp only [Act.put, List.setIfInBounds_toArray, List.set_cons_zero, List.set_cons_succ]
        refine takeD 4 24 (v := ?v11) rfl rfl (by kernel_rfl) (by kernel_rfl) (by kernel_rfl) (fun _ _ _ h => h) (by kernel_rfl) ?hy11 (by assumption) ?r11
        case hy11 => (intro W hSw; go_simp; try with_reducible rfl)
        simp only [Act.put, List.setIfInBounds_toArray, List.set_cons_zero, List.set_cons_succ]
        refine takeD 5 25 (v := ?v12) rfl rfl (by kernel_rfl) (by kernel_rfl) (by kernel_rfl) (fun _ _ _ h => h) (by kernel_rfl) ?hy12 (by assumption) ?r12
        case hy12 => (intro W hSw; obtain ⟨a0, a1, af⟩ := cells2 hSw.1; obtain ⟨b0, b1, bf⟩ := cells2 hSw.2; go_simp; try with_reducible rfl)
        simp only [Act.put, List.setIfInBounds_toArray, List.set_cons_zero, List.set_cons_succ]
        refine wpAnyH_ready (rs := [6]) (by kernel_rfl) (by simp) ?_
        refine AllReadyH.cons (o := _) rfl (fun K hK => ?_) AllReadyH.nil
        go_simp
        go_at_call 114
        refine (HSO.out _).mono ?_
        rintro e W7 ⟨rfl, b7⟩
        have G7 := hide (G2.out.keep b7)
        have T7 := hide ((b7.block _ (blk_lt' T2.out)).trans T2.out)
        clear b7 G2 T2
        go_wp2_with fail
        refine hK.out _ _ ⟨G7.out.var, T7.out⟩ (fun hS2 => ?_)
        clear hK K hS1
        try simp only [Act.put, List.setIfInBounds_toArray, List.set_cons_zero, List.set_cons_succ]
        refine wpAnyH_ready (rs := [7]) (by kernel_rfl) (by simp) ?_
        refine AllReadyH.cons (o := _) rfl (fun K hK => ?_) AllReadyH.nil
        refine step_mapUpd rfl (.tmp 21) (.tmp 23) (.tmp 26) 106 rfl 2 92 keyI Try.underlying106 secR b k _ rfl G7.out.map (by unfold maxLen; omega) _ _ _ rfl rfl HWF.out _ _ (secR_mk _) ?_
        intro W8 m8 g8
        have G8 := hide (G7.out.upd m8 g8)
        have T8 := hide ((g8.block _ (blk_lt' T7.out) (fun e => HBT.out (Option.some.inj e).symm)).trans T7.out)
        rw [← HV.out] at G8
        clear m8 g8 G7 T7
        refine hK.out _ _ ⟨G8.out.var, T8.out⟩ (fun hS3 => ?_)
        clear hK K hS2 hS3
        refine wpAnyH_done (by kernel_rfl) ?_ _
        refine NoPanic.normal ?_
        clear T8 HV HBT HWF HSO G
        go_wp2
        go_roundw
        case rel => exact ⟨k + 1, by omega, by go_num, G8⟩
        case measure => simp [intOf]; omega
      · obtain rfl : k = cs.length := by omega
        have G9 := G
        rw [List.take_length] at G9
        obtain ⟨g0, g1, gf⟩ := cells2 G9.out.var
        obtain ⟨y0, y1, yf⟩ := cells2 G9.out.res
        clear G
        go_wp2
        exact bodyPost_ret (v := .agg #[.slice so ss.length p, .map (some b)]) (resDrv Try.results87 _ _ (w.heap.size + 1) _ _ rfl (set2 G9.out.res)) rfl ⟨b, rfl, G9.out.out.1, by have := G9.out.gap; omega, G9.out.out.2⟩
  · skip
    go_simp
    have K2 := (Below.refl W1.heap.size W1).alloc (Nat.le_refl _) (.cells #[.slice none 0 0, .map none] 108)
    have V2 := hide (heap_alloc_new W1 (.cells #[.slice none 0 0, .map none] 108))
    have X2 := hide ((K2.block _ (blk_lt' X1.out)).trans X1.out)
    have Y2 := hide ((K2.block _ (blk_lt' Y1.out)).trans Y1.out)
    have B2 := hide (B1.out.trans (K2.mono B1.out.size))
    have Z2 : Hid (W1.heap.size < (W1.alloc (.cells #[.slice none 0 0, .map none] 108)).heap.size) := by show _ < _; simp
    refine hK.out _ _ X2.out (fun hS2 => ?_)
    clear hK K
    generalize W1.alloc (.cells #[.slice none 0 0, .map none] 108) = W2 at *
    generalize W1.heap.size = g at *
    try simp only [Act.put, List.setIfInBounds_toArray, List.set_cons_zero, List.set_cons_succ]
    refine wpAnyH_ready (rs := [5]) (by kernel_rfl) (by simp) ?_
    refine AllReadyH.cons (o := _) rfl (fun K hK => ?_) AllReadyH.nil
    go_simp
    have K3 := (Below.refl W2.heap.size W2).alloc (Nat.le_refl _) (.map #[] 0)
    have M3 := hide (World.ownsMap_made W2 Try.prog 2 secR)
    have X3 := hide ((K3.block _ (blk_lt' X2.out)).trans X2.out)
    have Y3 := hide ((K3.block _ (blk_lt' Y2.out)).trans Y2.out)
    have B3 := hide (B2.out.trans (K3.mono B2.out.size))
    have Z3 : Hid (W2.heap.size < (W2.alloc (.map #[] 0)).heap.size) := by show _ < _; simp
    have V3 := hide ((K3.block _ (blk_lt' V2.out)).trans V2.out)
    have ZG : Hid (w.heap.size + 2 ≤ g ∧ w.heap.size + 2 ≤ W2.heap.size ∧ g ≠ W2.heap.size) := by have h1 := Z1.out; have h2 := Z2.out; exact ⟨h1, by omega, by omega⟩
    clear K2 K3 V2 X2 Y2 B2
    refine hK.out _ _ X3.out (fun hS3 => ?_)
    clear hK K
    generalize W2.alloc (.map #[] 0) = W3 at *
    generalize W2.heap.size = b at *
    try simp only [Act.put, List.setIfInBounds_toArray, List.set_cons_zero, List.set_cons_succ]
    clear Z2 Z3 hS2
    refine takeD 6 12 (v := ?v13) rfl rfl (by kernel_rfl) (by kernel_rfl) (by kernel_rfl) (fun _ _ _ h => h) (by kernel_rfl) ?hy13 (by assumption) ?r13
    case hy13 => (intro W hSw; go_simp; try with_reducible rfl)
    simp only [Act.put, List.setIfInBounds_toArray, List.set_cons_zero, List.set_cons_succ]
    refine wpAnyH_ready (rs := [8]) (by kernel_rfl) (by simp) ?_
    refine AllReadyH.cons (o := _) rfl (fun K hK => ?_) AllReadyH.nil
    obtain ⟨g0, g1, gf⟩ := cells2 V3.out
    go_simp
    have D3 := hide (DI.mk' (tx := .slice so ss.length p) B3.out X3.out Y3.out V3.out M3.out ZG.out)
    refine hK.out _ _ D3.out.par (fun hS => ?_)
    clear hK K g0 g1 gf hS X3 Y3 V3 M3 B3 X1 Y1 B1 Z1
    generalize (W3.setCell ⟨g, 0, none⟩ (.slice so ss.length p)).setCell ⟨g, 1, none⟩ (.map (some b)) = WZ at *
    refine wpAnyH_done (by kernel_rfl) ?_ _
    refine NoPanic.normal ?_
    obtain ⟨x0, x1, xf⟩ := cells2 D3.out.par
    go_wp2
    clear x0 x1 xf
    go_loopw [16] (fun i wr => ∃ k : Nat, k ≤ cs.length ∧ i = .int .i64 k ∧ Hid (DI w #[.slice so ss.length p, .slice co cs.length q] (.slice so ss.length p) g b k (cacheD (cs.take k)) wr)) (fun i _ => cs.length - (intOf i).toNat)
    case atStart => exact ⟨0, Nat.zero_le _, rfl, D3⟩
    case round =>
      obtain ⟨k, hk, rfl, G⟩ := hrel
      clear D3
      by_cases hlt : k < cs.length
      · obtain ⟨b', off, nn, tt, rfl, hbB, hv, htt, hki, d0, d1⟩ := (HR.out.kept (G.out.below.mono hB)).at k hlt
        have HV := hide (HSN.out k nn tt hlt hv)
        have hz := G.out.below.size
        have K1 := (Below.refl wr.heap.size wr).alloc (Nat.le_refl _) (.cells #[.int .i64 nn, .string tt] 122)
        have G1 := hide (G.out.keep K1)
        have T1 := hide (heap_alloc_new wr (.cells #[.int .i64 nn, .string tt] 122))
        have HSO := hide (fun W => sectorOf_any tt W)
        have HWF : Hid (keyOf Try.prog 2 (.int .i64 nn) = some (.int .i64 nn)) := keyOf_int_mk Try.underlying2 (wf_i64' hki)
        clear hv K1 htt hki
        go_wp2
        have G2 := hide G1.out.drewD
        have T2 := hide (show (wr.alloc (.cells #[.int .i64 nn, .string tt] 122)).drew.heap[wr.heap.size]? = _ from T1.out)
        clear G1 T1 d0 d1 hz
        generalize wr.alloc (.cells #[.int .i64 nn, .string tt] 122) = W5 at *
        refine wp_region_noPanic ?_
        refine wp_region_held_drew (S := fun W => W.heap[g]? = some (.cells #[.slice so ss.length p, .map (some b)] 108 (0, 0)) ∧ W.heap[wr.heap.size]? = some (.cells #[.int .i64 nn, .string tt] 122 (0, 0))) (by kernel_rfl) ⟨G2.out.var, T2.out⟩ (fun hS1 => ?_)
        generalize W5.drew = W6 at *
        have hbt : b ≠ wr.heap.size := fun e => by have := G.out.map.lt; omega
        have HBT := hide hbt
        clear hbt
        generalize wr.heap.size = t5 at *
        refine takeD 0 20 (v := ?v14) rfl rfl (by kernel_rfl) (by kernel_rfl) (by kernel_rfl) (fun _ _ _ h => h) (by kernel_rfl) ?hy14 (by assumption) ?r14
        case hy14 => (intro W hSw; go_simp; try with_reducible rfl)
        simp only [Act.put, List.setIfInBounds_toArray, List.set_cons_zero, List.set_cons_succ]
        refine takeD 1 21 (v := ?v15) rfl rfl (by kernel_rfl) (by kernel_rfl) (by kernel_rfl) (fun _ _ _ h => h) (by kernel_rfl) ?hy15 (by assumption) ?r15
        case hy15 => (intro W hSw; obtain ⟨a0, a1, af⟩ := cells2 hSw.1; obtain ⟨b0, b1, bf⟩ := cells2 hSw.2; go_simp; try with_reducible rfl)
        simp only [Act.put, List.setIfInBounds_toArray, List.set_cons_zero, List.set_cons_succ]
        refine takeD 2 22 (v := ?v16) rfl rfl (by kernel_rfl) (by kernel_rfl) (by kernel_rfl) (fun _ _ _ h => h) (by kernel_rfl) ?hy16 (by assumption) ?r16
        case hy16 => (intro W hSw; go_simp; try with_reducible rfl)
        simp only [Act.put, List.setIfInBounds_toArray, List.set_cons_zero, List.set_cons_succ]
        refine takeD 3 23 (v := ?v17) rfl rfl (by kernel_rfl) (by kernel_rfl) (by kernel_rfl) (fun _ _ _ h => h) (by kernel_rfl) ?hy17 (by assumption) ?r17
        case hy17 => (intro W hSw; obtain ⟨a0, a1, af⟩ := cells2 hSw.1; obtain ⟨b0, b1, bf⟩ := cells2 hSw.2; go_simp; try with_reducible rfl)
        simp only [Act.put, List.setIfInBounds_toArray, List.set_cons_zero, List.set_cons_succ]
        refine takeD 4 24 (v := ?v18) rfl rfl (by kernel_rfl) (by kernel_rfl) (by kernel_rfl) (fun _ _ _ h => h) (by kernel_rfl) ?hy18 (by assumption) ?r18
        case hy18 => (intro W hSw; go_simp; try with_reducible rfl)
        simp only [Act.put, List.setIfInBounds_toArray, List.set_cons_zero, List.set_cons_succ]
        refine takeD 5 25 (v := ?v19) rfl rfl (by kernel_rfl) (by kernel_rfl) (by kernel_rfl) (fun _ _ _ h => h) (by kernel_rfl) ?hy19 (by assumption) ?r19
        case hy19 => (intro W hSw; obtain ⟨a0, a1, af⟩ := cells2 hSw.1; obtain ⟨b0, b1, bf⟩ := cells2 hSw.2; go_simp; try with_reducible rfl)
        simp only [Act.put, List.setIfInBounds_toArray, List.set_cons_zero, List.set_cons_succ]
        refine wpAnyH_ready (rs := [6]) (by kernel_rfl) (by simp) ?_
        refine AllReadyH.cons (o := _) rfl (fun K hK => ?_) AllReadyH.nil
        go_simp
        go_at_call 114
        refine (HSO.out _).mono ?_
        rintro e W7 ⟨rfl, b7⟩
        have G7 := hide (G2.out.keep b7)
        have T7 := hide ((b7.block _ (blk_lt' T2.out)).trans T2.out)
        clear b7 G2 T2
        go_wp2_with fail
        refine hK.out _ _ ⟨G7.out.var, T7.out⟩ (fun hS2 => ?_)
        clear hK K hS1
        try simp only [Act.put, List.setIfInBounds_toArray, List.set_cons_zero, List.set_cons_succ]
        refine wpAnyH_ready (rs := [7]) (by kernel_rfl) (by simp) ?_
        refine AllReadyH.cons (o := _) rfl (fun K hK => ?_) AllReadyH.nil
        refine step_mapUpd rfl (.tmp 21) (.tmp 23) (.tmp 26) 106 rfl 2 92 keyI Try.underlying106 secR b k _ rfl G7.out.map (by unfold maxLen; omega) _ _ _ rfl rfl HWF.out _ _ (secR_mk _) ?_
        intro W8 m8 g8
        have G8 := hide (G7.out.upd m8 g8)
        have T8 := hide ((g8.block _ (blk_lt' T7.out) (fun e => HBT.out (Option.some.inj e).symm)).trans T7.out)
        rw [← HV.out] at G8
        clear m8 g8 G7 T7
        refine hK.out _ _ ⟨G8.out.var, T8.out⟩ (fun hS3 => ?_)
        clear hK K hS2 hS3
        refine wpAnyH_done (by kernel_rfl) ?_ _
        refine NoPanic.normal ?_
        clear T8 HV HBT HWF HSO G
        go_wp2
        go_roundw
        case rel => exact ⟨k + 1, by omega, by go_num, G8⟩
        case measure => simp [intOf]; omega
      · obtain rfl : k = cs.length := by omega
        have G9 := G
        rw [List.take_length] at G9
        obtain ⟨g0, g1, gf⟩ := cells2 G9.out.var
        obtain ⟨y0, y1, yf⟩ := cells2 G9.out.res
        clear G
        go_wp2
        exact bodyPost_ret (v := .agg #[.slice so ss.length p, .map (some b)]) (resDrv Try.results87 _ _ (w.heap.size + 1) _ _ rfl (set2 G9.out.res)) rfl ⟨b, rfl, G9.out.out.1, by have := G9.out.gap; omega, G9.out.out.2⟩
end Go.Proofs.Ytfhfhpnoeghgmaa

/-
  A disk's answer in a box, its lists in rows of their own; a region cut behind its last operation.
-/
namespace Go.Proofs.Ytfhfhpnoeghgmaa
open Go.RowKit
set_option maxRecDepth 100000

/-- A region's end, said of what it has written into the slots. -/
theorem wp_cutA {P : Program} {c : Code} {Q : Exit → Act → World → Prop} {a : Act} {w : World} {β : Type} (T : Act → β → Act) (J : β → World → Prop)
    (h : c.wp P (Exit.then (fun a' w' => ∃ x, a' = T a x ∧ J x w') (fun _ _ _ => False)) a w) (hq : ∀ x w', J x w' → Q .normal (T a x) w') : c.wp P Q a w := by
  refine wp_mono h ?_
  intro e a' w' he
  cases e with
  | normal => obtain ⟨x, rfl, hx⟩ := he; exact hq x w' hx
  | ret => exact he.elim
  | exit => exact he.elim
  | goto => exact he.elim
  | panic => exact he.elim
  | outgrown => exact he.elim
def putA (a : Act) (i : Nat) (v : Value) : Act := { a with tmps := a.tmps.setIfInBounds i v }
def zOut : Obj := .cells #[.slice none 0 0, .slice none 0 0, .string ⟨#[]⟩, .int .i64 0] 37
def setO (W : World) (g : Nat) (s c : Value) (t : ByteArray) (K : Int) : World := (((W.setCell ⟨g, 0, none⟩ s).setCell ⟨g, 1, none⟩ c).setCell ⟨g, 2, none⟩ (.string t)).setCell ⟨g, 3, none⟩ (.int .i64 K)
structure OutAt (lo g : Nat) (s c : Value) (t : ByteArray) (K : Int) (D : Dk) (W : World) : Prop where
  box : W.heap[g]? = some (.cells #[s, c, .string t, .int .i64 K] 37 (0, 0))
  own : OwnD lo s c D W
  far : ∀ v ∈ [s, c], ∀ b, v.ownBlock = some b → b ≠ g
  low : lo ≤ g
theorem OutAt.below {lo g : Nat} {s c : Value} {t : ByteArray} {K : Int} {D : Dk} {W W' : World} (h : OutAt lo g s c t K D W) (hb : Below W.heap.size W W') : OutAt lo g s c t K D W' :=
  ⟨(hb.block g (blk_lt' h.box)).trans h.box, h.own.below hb, h.far, h.low⟩
theorem own_setF {W : World} {base g m n size : Nat} {v x : Value} {xs : List Value} {t : TypeId} (h : W.ownsRow base t size v n xs) (hg : ∀ b, v.ownBlock = some b → b ≠ g) : (W.setCell ⟨g, m, none⟩ x).ownsRow base t size v n xs := by
  refine ⟨h.1, ?_⟩
  rcases h.2 with h0 | ⟨q, cap, cur, rfl, hB, hq, hn, hm, hs, ht⟩
  · exact .inl h0
  · exact .inr ⟨q, cap, cur, rfl, hB, by rw [heap_setCell_other _ _ _ _ (show q ≠ g from hg q rfl)]; exact hq, hn, hm, hs, ht⟩
theorem OwnD.setF {base g m : Nat} {s c x : Value} {d : Dk} {w : World} (h : OwnD base s c d w) (hg : ∀ v ∈ [s, c], ∀ b, v.ownBlock = some b → b ≠ g) : OwnD base s c d (w.setCell ⟨g, m, none⟩ x) :=
  ⟨own_setF h.secs (hg s (by simp)), own_setF h.cache (hg c (by simp)), h.apart⟩
theorem outAt_early {lo base z : Nat} {s c : Value} {t : ByteArray} {K : Int} {D : Dk} {W : World} {a0 a1 a2 a3 : Value} (hz : W.heap[z]? = some (.cells #[a0, a1, a2, a3] 37 (0, 0))) (ho : OwnD base s c D W) (hlt : z < base) (hlo : lo ≤ z) : OutAt lo z s c t K D (setO W z s c t K) := by
  have hf : ∀ v ∈ [s, c], ∀ b, v.ownBlock = some b → b ≠ z := fun v hv b hb => by
    simp at hv
    rcases hv with rfl | rfl
    · have := (ho.lt.1 b hb).1; omega
    · have := (ho.lt.2 b hb).1; omega
  exact ⟨set4w hz, ((((ho.setF hf).setF hf).setF hf).setF hf).base (by omega), hf, hlo⟩
theorem outAt_late {lo : Nat} {s c : Value} {t : ByteArray} {K : Int} {D : Dk} {W : World} (ho : OwnD lo s c D W) (hlo : lo ≤ W.heap.size) : OutAt lo W.heap.size s c t K D (W.alloc (.cells #[s, c, .string t, .int .i64 K] 37)) := by
  have hf : ∀ v ∈ [s, c], ∀ b, v.ownBlock = some b → b ≠ W.heap.size := fun v hv b hb => by
    simp at hv
    rcases hv with rfl | rfl
    · have := (ho.lt.1 b hb).2; omega
    · have := (ho.lt.2 b hb).2; omega
  exact ⟨heap_alloc_new W _, ho.below ((Below.refl W.heap.size W).alloc (Nat.le_refl _) _), hf, hlo⟩
theorem setO_below {B g : Nat} {W0 W : World} {s c : Value} {t : ByteArray} {K : Int} (h : Below B W0 W) (hg : B ≤ g) : Below B W0 (setO W g s c t K) :=
  (((h.setCell (p := ⟨g, 0, none⟩) hg _).setCell (p := ⟨g, 1, none⟩) hg _).setCell (p := ⟨g, 2, none⟩) hg _).setCell (p := ⟨g, 3, none⟩) hg _
theorem OutAt.lts {lo g : Nat} {s c : Value} {t : ByteArray} {K : Int} {D : Dk} {W : World} (h : OutAt lo g s c t K D W) : ∀ v ∈ [s, c], ∀ b, v.ownBlock = some b → lo ≤ b ∧ b < W.heap.size := fun v hv b hb => by
  simp at hv
  rcases hv with rfl | rfl
  · exact h.own.lt.1 b hb
  · exact h.own.lt.2 b hb
/-- Behind marks of other lists. -/
theorem OutAt.gl {lo g m n : Nat} {s c : Value} {t : ByteArray} {K : Int} {D : Dk} {W W' : World} {l : List Value} (h : OutAt lo g s c t K D W) (k : GL l W W') (hv : ∀ v ∈ l, ∀ b, v.ownBlock = some b → m ≤ b ∧ b < n) (hs : ∀ v ∈ [s, c], ∀ b, v.ownBlock = some b → b < m ∨ n ≤ b) (hg : g < m ∨ n ≤ g) : OutAt lo g s c t K D W' :=
  ⟨k.blk h.box hv hg, k.ownD h.own hv (hs s (by simp)) (hs c (by simp)), h.far, h.low⟩
/-- Behind the marks of its own lists. -/
theorem OutAt.marked {lo g : Nat} {s c : Value} {t : ByteArray} {K : Int} {D D' : Dk} {W W' : World} (h : OutAt lo g s c t K D W) (k : GL [s, c] W W') (ho : OwnD lo s c D' W') : OutAt lo g s c t K D' W' :=
  ⟨(k.block g (blk_lt' h.box) (fun v hv e => h.far v hv g e rfl)).trans h.box, ho, h.far, h.low⟩
end Go.Proofs.Ytfhfhpnoeghgmaa

/-
  The law on LogAppend, out of the contracts.
-/
namespace Go.Proofs.Ytfhfhpnoeghgmaa
open Go.RowKit
set_option maxRecDepth 100000

/-- Where an answer's box and lists lie, and the copy that was handed in. -/
structure LgX where
  g : Nat
  so : Option Addr
  p : Nat
  co : Option Addr
  q : Nat
  so' : Option Addr
  p' : Nat
  co' : Option Addr
  q' : Nat
set_option maxHeartbeats 16000000 in
theorem lawLogAppend (v0 v1 v2 : Value) (w : World) (h0 : IsDisk w v0) (h1 : ∃ n : Int, v1 = .int .i64 n ∧ wI64 n) (h2 : ∃ (q : Int) (t : ByteArray), v2 = .agg #[.int .i64 q, .string t] ∧ wI64 q ∧ t.size ≤ maxLen) :
    Calls Try.prog 12 #[v0, v1, v2] w fun e w' => e = .returned (.bool true) ∧ Below w.heap.size w w' := by
  obtain ⟨so, p, co, q, d, rfl, hr⟩ := h0
  obtain ⟨a, rfl, ha⟩ := h1
  obtain ⟨rq, rt, rfl, hq, ht⟩ := h2
  have HIN := hide hr.inn
  have HSZ := hide (fun (W : World) (hb : Below w.heap.size w W) => szDisk_any 0 w.heap.size so p co q d 1048576 W hb.size (hr.kept hb) (by omega) (by omega))
  have HTO := hide (fun (hf : dkFits d) (W : World) (hb : Below w.heap.size w W) => toDisk_own 0 w.heap.size so p co q d W hb.size hf (hr.kept hb))
  have HSR := hide (fun (left : Int) (W : World) (h0 : -1 ≤ left) (h1 : left ≤ 1048576) => szRecord_any rq rt left ht h0 h1 W)
  have HTR := hide (fun W => toRecord_any rq rt W)
  obtain ⟨n1, hn1⟩ : ∃ n, n = d.secs.length := ⟨_, rfl⟩
  obtain ⟨n2, hn2⟩ : ∃ n, n = d.cache.length := ⟨_, rfl⟩
  have HN := hide (And.intro hn1 hn2)
  rw [← hn1, ← hn2] at HSZ HTO ⊢
  have HA := two_allocs w (.cells #[.slice so n1 p, .slice co n2 q] 51) (.cells #[.int .i64 rq, .string rt] 65)
  have X0 := hide HA.1
  have RX0 := hide HA.2.1
  have B0 := hide (((Below.refl w.heap.size w).alloc (Nat.le_refl _) (.cells #[.slice so n1 p, .slice co n2 q] 51)).alloc (by simp) (.cells #[.int .i64 rq, .string rt] 65))
  clear hr hn1 hn2 HA ht
  go_enter Try.func12, Try.ntmps12
  go_wp2_with fail
  refine (HSZ.out _ B0.out).mono ?_
  generalize hW : (w.alloc (.cells #[.slice so n1 p, .slice co n2 q] 51)).alloc (.cells #[.int .i64 rq, .string rt] 65) = W0 at *
  clear hW
  rintro e w1 ⟨r, rfl, hr1, hcase, b1⟩
  have X1 := hide ((b1.block w.heap.size (blk_lt X0.out)).trans X0.out)
  have RX1 := hide ((b1.block (w.heap.size + 1) (blk_lt RX0.out)).trans RX0.out)
  have B1 := hide (B0.out.trans (b1.mono B0.out.size))
  clear b1 X0 RX0 B0 HSZ
  obtain ⟨r0, r1, rf⟩ := cells2 RX1.out
  rcases hcase with hneg | ⟨hr0, hfit⟩
  · go_wp2
    go_ret
    exact ⟨rfl, B1.out⟩
  go_wp2_with fail
  refine (HSR.out _ _ (by omega) (by omega)).mono ?_
  rintro e W2 ⟨rfl, b⟩
  have X_2 := hide ((b.block w.heap.size (blk_lt X1.out)).trans X1.out)
  have R_2 := hide ((b.block (w.heap.size + 1) (blk_lt RX1.out)).trans RX1.out)
  have B_2 := hide (B1.out.trans (b.mono B1.out.size))
  clear b X1 RX1 B1 r0 r1 rf
  generalize szRec rt r = zr
  obtain ⟨x0, x1, xf⟩ := cells2 X_2.out
  obtain ⟨r0, r1, rf⟩ := cells2 R_2.out
  by_cases hzr : zr < 0
  · go_wp2
    go_ret
    exact ⟨rfl, B_2.out⟩
  have HFIT := hfit
  have HTOF := hide (fun (W : World) (hb : Below w.heap.size w W) => HTO.out hfit W hb)
  have HSP := hide (fun (b : Nat) (s c : Value) (W : World) (h : OwnD b s c d W) => specLogAppend_any _ _ _ d a rq rt W HIN.out HFIT ha hq h)
  have HIM := hide (fun (b : Nat) (s c : Value) (W : World) (h : OwnD b s c d W) => implLogAppend_any _ _ _ d a rq rt W HIN.out HFIT hq h)
  have HF2 : dkFits (dkApp d a rq rt).1 := dkApp_fits a rq rt HFIT
  have HEQD := hide (fun (b1 b2 : Nat) (s c s' c' : Value) (W : World) (h : OwnD b1 s c d W) (h' : OwnD b2 s' c' d W) => eqDisk_own b1 b2 s c s' c' d W hfit h h')
  have HMKD := hide (fun (b : Nat) (s c : Value) (W : World) (h : OwnD b s c d W) => markDisk_own b s c d W hfit h)
  generalize (dkApp d a rq rt) = R at *
  obtain ⟨D, K⟩ := R
  simp only at HF2 HSP HIM
  have HEQ := hide (fun (b1 b2 : Nat) (s c s' c' : Value) (W : World) (h : OwnD b1 s c D W) (h' : OwnD b2 s' c' D W) => eqDiskOut_own b1 b2 s c s' c' ⟨#[]⟩ K D W HF2 h h')
  have HMK := hide (fun (b : Nat) (s c : Value) (W : World) (h : OwnD b s c D W) => markDiskOut_own b s c ⟨#[]⟩ K D W HF2 h)
  have HHL := hide (fun (b : Nat) (s c : Value) (W : World) (h : OwnD b s c (mDk D) W) => heldDiskOut_own b s c ⟨#[]⟩ K D W HF2 h)
  obtain ⟨k1, hk1⟩ : ∃ n, n = D.secs.length := ⟨_, rfl⟩
  obtain ⟨k2, hk2⟩ : ∃ n, n = D.cache.length := ⟨_, rfl⟩
  have HK := hide (And.intro hk1 hk2)
  generalize hcd : cntD d = cd at *
  generalize hcD : cntD D = cD at *
  have hcd0 : ¬ (cd : Int) < 0 := by omega
  have hcD0 : ¬ (cD : Int) < 0 := by omega
  clear ha hq hfit HFIT HTO hr0 hr1 hk1 hk2 hcd hcD HF2 HIN
  have zx : w.heap.size < W2.heap.size := blk_lt X_2.out
  have zy : w.heap.size + 1 < W2.heap.size := blk_lt R_2.out
  have ZX := hide zx
  have ZY := hide zy
  go_wp2
  refine wp_cutA (fun a' (x : LgX) => (putA (putA (putA (putA (putA (putA (putA a' 25 (.agg #[.slice so n1 p, .slice co n2 q])) 26 (.agg #[.slice x.so' n1 x.p', .slice x.co' n2 x.q'])) 27 (.int .i64 a)) 28 (.agg #[.int .i64 rq, .string rt])) 29 (.agg #[.int .i64 rq, .string rt])) 30 (.agg #[.slice x.so k1 x.p, .slice x.co k2 x.q, .string ⟨#[]⟩, .int .i64 K])) 8 (.pointer (some ⟨x.g, 0, none⟩)))) (fun x W' => OutAt W2.heap.size x.g (.slice x.so k1 x.p) (.slice x.co k2 x.q) ⟨#[]⟩ K D W' ∧ Below W2.heap.size W2 W') ?_ ?_
  · have nW0 : ¬ w.heap.size = W2.heap.size := Nat.ne_of_lt zx
    have mW0 : ¬ W2.heap.size = w.heap.size := fun e => nW0 e.symm
    have nW1 : ¬ w.heap.size + 1 = W2.heap.size := Nat.ne_of_lt zy
    have mW1 : ¬ W2.heap.size = w.heap.size + 1 := fun e => nW1 e.symm
    go_region_held3 (fun W => (W.cell? ⟨w.heap.size, 0, none⟩ = some (.slice so n1 p) ∧ W.cell? ⟨w.heap.size, 1, none⟩ = some (.slice co n2 q)) ∧ (W.cell? ⟨w.heap.size + 1, 0, none⟩ = some (.int .i64 rq) ∧ W.cell? ⟨w.heap.size + 1, 1, none⟩ = some (.string rt))) (go_keep) (first
        | (go_at_call 30; (first | (refine (HTOF.out _ B_2.out.drew).mono ?_; rintro e wA ⟨s2, c2, rfl, oA, bA⟩; have bA' : Below W2.heap.size W2 wA := (Below.refl _ _).drew.trans bA) | (have bz : Below W2.heap.size W2 (W2.alloc zOut).drew := ((Below.refl _ _).alloc (Nat.le_refl _) _).drew; refine (HTOF.out _ (B_2.out.trans (bz.mono B_2.out.size))).mono ?_; rintro e wA ⟨s2, c2, rfl, oA, bA⟩; have bA' : Below W2.heap.size W2 wA := bz.trans (bA.mono bz.size); have hz : wA.heap[W2.heap.size]? = some zOut := (bA.block W2.heap.size (by show _ < (W2.alloc zOut).heap.size; simp)).trans (heap_alloc_new W2 zOut))); obtain ⟨so2, p2, co2, q2, rfl, rfl⟩ := oA.shape; rw [← HN.out.1, ← HN.out.2] at oA ⊢; obtain ⟨hcwA, hfwA⟩ := bcell bA'; have nwA0 : ¬ w.heap.size = wA.heap.size := Nat.ne_of_lt (Nat.lt_of_lt_of_le zx bA'.size); have mwA0 : ¬ wA.heap.size = w.heap.size := fun e => nwA0 e.symm; have nwA1 : ¬ w.heap.size + 1 = wA.heap.size := Nat.ne_of_lt (Nat.lt_of_lt_of_le zy bA'.size); have mwA1 : ¬ wA.heap.size = w.heap.size + 1 := fun e => nwA1 e.symm)
        | (go_at_call 44; refine (HTR.out _).mono ?_; rintro e wB ⟨rfl, bB⟩; have bB' : Below W2.heap.size W2 wB := (by first | exact bA'.trans (bB.mono bA'.size) | exact (bA'.alloc bA'.size zOut).trans (bB.mono (bA'.alloc bA'.size zOut).size)); (first | have oB := oA.below bB | have oB := oA.below (((Below.refl wA.heap.size wA).alloc (Nat.le_refl _) zOut).trans (bB.mono (by show _ ≤ (wA.alloc zOut).heap.size; simp)))); (first | have hz : wB.heap[W2.heap.size]? = some zOut := (bB.block _ (blk_lt' hz)).trans hz | have hz : wB.heap[wA.heap.size]? = some zOut := (bB.block wA.heap.size (by simp)).trans (heap_alloc_new wA zOut) | have hnz := bB'); obtain ⟨hcwB, hfwB⟩ := bcell bB'; have nwB0 : ¬ w.heap.size = wB.heap.size := Nat.ne_of_lt (Nat.lt_of_lt_of_le zx bB'.size); have mwB0 : ¬ wB.heap.size = w.heap.size := fun e => nwB0 e.symm; have nwB1 : ¬ w.heap.size + 1 = wB.heap.size := Nat.ne_of_lt (Nat.lt_of_lt_of_le zy bB'.size); have mwB1 : ¬ wB.heap.size = w.heap.size + 1 := fun e => nwB1 e.symm)
        | (go_at_call 20; (first | (refine (HSP.out _ _ _ _ oB).mono ?_; rintro e w3 ⟨s3, c3, rfl, o3, bC⟩; have b3' : Below W2.heap.size W2 w3 := bB'.trans (bC.mono bB'.size)) | (have bz : Below wB.heap.size wB (wB.alloc zOut) := (Below.refl _ _).alloc (Nat.le_refl _) _; refine (HSP.out _ _ _ _ (oB.below bz)).mono ?_; rintro e w3 ⟨s3, c3, rfl, o3, bC⟩; have b3' : Below W2.heap.size W2 w3 := bB'.trans ((bz.trans (bC.mono bz.size)).mono bB'.size); have hl : wB.heap.size < (wB.alloc zOut).heap.size := (by simp))); obtain ⟨so3, p3, co3, q3, rfl, rfl⟩ := o3.shape; rw [← HK.out.1, ← HK.out.2] at o3 ⊢; (first | (have hl : W2.heap.size < _ := blk_lt' hz; have hz : w3.heap[W2.heap.size]? = some zOut := (bC.block _ hl).trans hz; have y := cells4 hz; have y0 := y.1; have y1 := y.2.1; have y2 := y.2.2.1; have y3 := y.2.2.2.1; have yf := y.2.2.2.2; clear y) | (have hl : wA.heap.size < _ := blk_lt' hz; have hz : w3.heap[wA.heap.size]? = some zOut := (bC.block _ hl).trans hz; have y := cells4 hz; have y0 := y.1; have y1 := y.2.1; have y2 := y.2.2.1; have y3 := y.2.2.2.1; have yf := y.2.2.2.2; clear y) | (have hz : w3.heap[wB.heap.size]? = some zOut := (bC.block wB.heap.size hl).trans (heap_alloc_new wB zOut); have y := cells4 hz; have y0 := y.1; have y1 := y.2.1; have y2 := y.2.2.1; have y3 := y.2.2.2.1; have yf := y.2.2.2.2; clear y) | have hnz := b3'); obtain ⟨hcw3, hfw3⟩ := bcell b3'; have nw30 : ¬ w.heap.size = w3.heap.size := Nat.ne_of_lt (Nat.lt_of_lt_of_le zx b3'.size); have mw30 : ¬ w3.heap.size = w.heap.size := fun e => nw30 e.symm; have nw31 : ¬ w.heap.size + 1 = w3.heap.size := Nat.ne_of_lt (Nat.lt_of_lt_of_le zy b3'.size); have mw31 : ¬ w3.heap.size = w.heap.size + 1 := fun e => nw31 e.symm))
    · exact ⟨⟨w3.heap.size, so3, p3, co3, q3, so2, p2, co2, q2⟩, by simp only [putA, List.setIfInBounds_toArray, List.set_cons_succ, List.set_cons_zero], outAt_late (o3.base bB'.size) b3'.size, b3'.alloc b3'.size _⟩
    · exact ⟨⟨wB.heap.size, so3, p3, co3, q3, so2, p2, co2, q2⟩, by simp only [putA, List.setIfInBounds_toArray, List.set_cons_succ, List.set_cons_zero], outAt_early hz o3 hl bB'.size, setO_below b3' bB'.size⟩
    · exact ⟨⟨wA.heap.size, so3, p3, co3, q3, so2, p2, co2, q2⟩, by simp only [putA, List.setIfInBounds_toArray, List.set_cons_succ, List.set_cons_zero], outAt_early hz o3 hl bA'.size, setO_below b3' bA'.size⟩
    · exact ⟨⟨W2.heap.size, so3, p3, co3, q3, so2, p2, co2, q2⟩, by simp only [putA, List.setIfInBounds_toArray, List.set_cons_succ, List.set_cons_zero], outAt_early hz o3 hl (Nat.le_refl _), setO_below b3' (Nat.le_refl _)⟩
  rintro ⟨g8, so3, p3, co3, q3, so2, p2, co2, q2⟩ W3 ⟨oa, b⟩
  simp only at oa
  have e8 := b.size
  have X_3 := hide ((b.block _ (blk_lt X_2.out)).trans X_2.out)
  have R_3 := hide ((b.block _ (blk_lt R_2.out)).trans R_2.out)
  have B_3 := hide (B_2.out.trans (b.mono B_2.out.size))
  have OA_3 := hide oa
  have LW := hide oa.lts
  have Z8 := hide (blk_lt oa.box)
  clear X_2 R_2 B_2 b oa x0 x1 xf r0 r1 rf HSP
  have EW : Hid (w.heap.size < W3.heap.size ∧ w.heap.size + 1 < W3.heap.size) := ⟨blk_lt X_3.out, blk_lt R_3.out⟩
  clear e8 zx zy
  obtain ⟨x0, x1, xf⟩ := cells2 X_3.out
  simp only [putA, List.setIfInBounds_toArray, List.set_cons_succ, List.set_cons_zero]
  go_wp2_with fail
  refine (HTOF.out _ B_3.out).mono ?_
  rintro e w4 ⟨s4, c4, rfl, o4, b⟩
  obtain ⟨so4, p4, co4, q4, rfl, rfl⟩ := o4.shape
  rw [← HN.out.1, ← HN.out.2] at o4 ⊢
  have BA := (Below.refl w4.heap.size w4).alloc (Nat.le_refl _) (.cells #[.slice so4 n1 p4, .slice co4 n2 q4] 26)
  have LX : Hid (∀ v ∈ [(.slice so4 n1 p4 : Value), .slice co4 n2 q4], ∀ b, v.ownBlock = some b → W3.heap.size ≤ b ∧ b < w4.heap.size) := o4.two (Nat.le_refl _) (Nat.le_refl _)
  have b' := b
  have bt : Below W3.heap.size W3 (w4.alloc _) := b'.trans (BA.mono b'.size)
  have X_4 := hide ((bt.block _ (blk_lt X_3.out)).trans X_3.out)
  have R_4 := hide ((bt.block _ (blk_lt R_3.out)).trans R_3.out)
  have OA_4 := hide (OA_3.out.below bt)
  have B_4 := hide (B_3.out.trans (bt.mono B_3.out.size))
  have OX_4 := hide ((o4.below BA).base (Nat.zero_le _))
  have BX_4 := hide (heap_alloc_new w4 (.cells #[.slice so4 n1 p4, .slice co4 n2 q4] 26))
  have Z4 : Hid (W3.heap.size ≤ w4.heap.size) := b'.size
  clear X_3 R_3 OA_3 B_3 b b' bt BA o4 x0 x1 xf
  go_wp2
  generalize hW : w4.alloc (.cells #[.slice so4 n1 p4, .slice co4 n2 q4] 26) = W4 at *
  clear hW
  generalize w4.heap.size = g9 at *
  have zb : g9 < W4.heap.size := blk_lt BX_4.out
  have zy : w.heap.size + 1 < W4.heap.size := blk_lt R_4.out
  have Z9 := hide zb
  obtain ⟨y0, y1, yf⟩ := cells2 BX_4.out
  obtain ⟨r0, r1, rf⟩ := cells2 R_4.out
  refine wp_cutA (fun a' (x : LgX) => (putA (putA (putA (putA (putA (putA a' 33 (.agg #[.slice so4 n1 p4, .slice co4 n2 q4])) 34 (.int .i64 a)) 35 (.agg #[.int .i64 rq, .string rt])) 36 (.agg #[.int .i64 rq, .string rt])) 37 (.agg #[.slice x.so k1 x.p, .slice x.co k2 x.q, .string ⟨#[]⟩, .int .i64 K])) 10 (.pointer (some ⟨x.g, 0, none⟩)))) (fun x W' => OutAt W4.heap.size x.g (.slice x.so k1 x.p) (.slice x.co k2 x.q) ⟨#[]⟩ K D W' ∧ Below W4.heap.size W4 W') ?_ ?_
  · have nW0 : ¬ g9 = W4.heap.size := Nat.ne_of_lt zb
    have mW0 : ¬ W4.heap.size = g9 := fun e => nW0 e.symm
    have nW1 : ¬ w.heap.size + 1 = W4.heap.size := Nat.ne_of_lt zy
    have mW1 : ¬ W4.heap.size = w.heap.size + 1 := fun e => nW1 e.symm
    go_region_held3 (fun W => (W.cell? ⟨g9, 0, none⟩ = some (.slice so4 n1 p4) ∧ W.cell? ⟨g9, 1, none⟩ = some (.slice co4 n2 q4)) ∧ (W.cell? ⟨w.heap.size + 1, 0, none⟩ = some (.int .i64 rq) ∧ W.cell? ⟨w.heap.size + 1, 1, none⟩ = some (.string rt))) (go_keep) (first
        | (go_at_call 44; refine (HTR.out _).mono ?_; rintro e wB ⟨rfl, bB⟩; have bB' : Below W4.heap.size W4 wB := (by first | exact (Below.refl _ _).drew.trans bB | exact ((Below.refl _ _).alloc (Nat.le_refl _) zOut).drew.trans (bB.mono (by show _ ≤ (W4.alloc zOut).heap.size; simp))); have oB := OX_4.out.below bB'; (first | have hz : wB.heap[W4.heap.size]? = some zOut := (bB.block W4.heap.size (by show _ < (W4.alloc zOut).heap.size; simp)).trans (heap_alloc_new W4 zOut) | have hnz := bB'); obtain ⟨hcwB, hfwB⟩ := bcell bB'; have nwB0 : ¬ g9 = wB.heap.size := Nat.ne_of_lt (Nat.lt_of_lt_of_le zb bB'.size); have mwB0 : ¬ wB.heap.size = g9 := fun e => nwB0 e.symm; have nwB1 : ¬ w.heap.size + 1 = wB.heap.size := Nat.ne_of_lt (Nat.lt_of_lt_of_le zy bB'.size); have mwB1 : ¬ wB.heap.size = w.heap.size + 1 := fun e => nwB1 e.symm)
        | (go_at_call 17; (first | (refine (HIM.out _ _ _ _ oB).mono ?_; rintro e w3 ⟨s3, c3, rfl, o3, bC⟩; have b3' : Below W4.heap.size W4 w3 := bB'.trans (bC.mono bB'.size)) | (have bz : Below wB.heap.size wB (wB.alloc zOut) := (Below.refl _ _).alloc (Nat.le_refl _) _; refine (HIM.out _ _ _ _ (oB.below bz)).mono ?_; rintro e w3 ⟨s3, c3, rfl, o3, bC⟩; have b3' : Below W4.heap.size W4 w3 := bB'.trans ((bz.trans (bC.mono bz.size)).mono bB'.size); have hl : wB.heap.size < (wB.alloc zOut).heap.size := (by simp))); obtain ⟨so3, p3, co3, q3, rfl, rfl⟩ := o3.shape; rw [← HK.out.1, ← HK.out.2] at o3 ⊢; (first | (have hl : W4.heap.size < _ := blk_lt' hz; have hz : w3.heap[W4.heap.size]? = some zOut := (bC.block _ hl).trans hz; have y := cells4 hz; have y0 := y.1; have y1 := y.2.1; have y2 := y.2.2.1; have y3 := y.2.2.2.1; have yf := y.2.2.2.2; clear y) | (have hz : w3.heap[wB.heap.size]? = some zOut := (bC.block wB.heap.size hl).trans (heap_alloc_new wB zOut); have y := cells4 hz; have y0 := y.1; have y1 := y.2.1; have y2 := y.2.2.1; have y3 := y.2.2.2.1; have yf := y.2.2.2.2; clear y) | have hnz := b3'); obtain ⟨hcw3, hfw3⟩ := bcell b3'; have nw30 : ¬ g9 = w3.heap.size := Nat.ne_of_lt (Nat.lt_of_lt_of_le zb b3'.size); have mw30 : ¬ w3.heap.size = g9 := fun e => nw30 e.symm; have nw31 : ¬ w.heap.size + 1 = w3.heap.size := Nat.ne_of_lt (Nat.lt_of_lt_of_le zy b3'.size); have mw31 : ¬ w3.heap.size = w.heap.size + 1 := fun e => nw31 e.symm))
    · exact ⟨⟨w3.heap.size, so3, p3, co3, q3, none, 0, none, 0⟩, by simp only [putA, List.setIfInBounds_toArray, List.set_cons_succ, List.set_cons_zero], outAt_late (o3.base bB'.size) b3'.size, b3'.alloc b3'.size _⟩
    · exact ⟨⟨wB.heap.size, so3, p3, co3, q3, none, 0, none, 0⟩, by simp only [putA, List.setIfInBounds_toArray, List.set_cons_succ, List.set_cons_zero], outAt_early hz o3 hl bB'.size, setO_below b3' bB'.size⟩
    · exact ⟨⟨W4.heap.size, so3, p3, co3, q3, none, 0, none, 0⟩, by simp only [putA, List.setIfInBounds_toArray, List.set_cons_succ, List.set_cons_zero], outAt_early hz o3 hl (Nat.le_refl _), setO_below b3' (Nat.le_refl _)⟩
  rintro ⟨g10, so5, p5, co5, q5, _, _, _, _⟩ W5 ⟨og, b⟩
  simp only at og
  have X_5 := hide ((b.block _ (blk_lt X_4.out)).trans X_4.out)
  have R_5 := hide ((b.block _ (blk_lt R_4.out)).trans R_4.out)
  have BX_5 := hide ((b.block _ (blk_lt BX_4.out)).trans BX_4.out)
  have OA_5 := hide (OA_4.out.below b)
  have OX_5 := hide (OX_4.out.below b)
  have B_5 := hide (B_4.out.trans (b.mono B_4.out.size))
  have OG_5 := hide og
  have LG := hide og.lts
  have Z10 := hide (And.intro og.low (blk_lt og.box))
  have E5 := hide b.size
  clear X_4 R_4 BX_4 OA_4 OX_4 B_4 b og y0 y1 yf r0 r1 rf zb zy
  have C := hide (HEQ.out _ _ _ _ _ _ _ OG_5.out.own OA_5.out.own)
  obtain ⟨y0, y1, y2, y3, yf⟩ := cells4 OA_5.out.box
  obtain ⟨z0, z1, z2, z3, zf⟩ := cells4 OG_5.out.box
  simp only [putA, List.setIfInBounds_toArray, List.set_cons_succ, List.set_cons_zero]
  go_wp2_with fail
  refine C.out.mono ?_
  clear C
  rintro e w6 ⟨rfl, b⟩
  have X_6 := hide ((b.block _ (blk_lt X_5.out)).trans X_5.out)
  have R_6 := hide ((b.block _ (blk_lt R_5.out)).trans R_5.out)
  have BX_6 := hide ((b.block _ (blk_lt BX_5.out)).trans BX_5.out)
  have OA_6 := hide (OA_5.out.below b)
  have OX_6 := hide (OX_5.out.below b)
  have OG_6 := hide (OG_5.out.below b)
  have B_6 := hide (B_5.out.trans (b.mono B_5.out.size))
  clear X_5 R_5 BX_5 OA_5 OX_5 OG_5 B_5 b y0 y1 y2 y3 yf z0 z1 z2 z3 zf
  obtain ⟨x0, x1, xf⟩ := cells2 X_6.out
  obtain ⟨y0, y1, yf⟩ := cells2 BX_6.out
  have zx' : w.heap.size < w6.heap.size := blk_lt X_6.out
  have zb' : g9 < w6.heap.size := blk_lt BX_6.out
  have HEQR := hide (fun (s' c' : Value) (b2 : Nat) (W : World) (hb : Below w6.heap.size w6 W) (h' : OwnD b2 s' c' d W) => HEQD.out _ _ _ _ s' c' W (OX_6.out.below hb) h')
  clear xf yf
  go_wp2
  go_region_held3 (fun W => (W.cell? ⟨g9, 0, none⟩ = some (.slice so4 n1 p4) ∧ W.cell? ⟨g9, 1, none⟩ = some (.slice co4 n2 q4)) ∧ W.cell? ⟨w.heap.size, 0, none⟩ = some (.slice so n1 p) ∧ W.cell? ⟨w.heap.size, 1, none⟩ = some (.slice co n2 q)) (go_keep) (first | (go_at_call 30; refine (HTOF.out _ B_6.out.drew).mono ?_; rintro e w7 ⟨s7, c7, rfl, o7, hb7⟩; obtain ⟨so7, p7, co7, q7, rfl, rfl⟩ := o7.shape; rw [← HN.out.1, ← HN.out.2] at o7 ⊢; have hb7' : Below w6.heap.size w6 w7 := (Below.refl _ _).drew.trans hb7; obtain ⟨hc7, hf7⟩ := bcell hb7') | (go_at_call 25; refine (HEQR.out _ _ _ _ hb7' o7).mono ?_; rintro e w8 ⟨rfl, hb8⟩; have b : Below w6.heap.size w6 w8 := hb7'.trans (hb8.mono hb7'.size); obtain ⟨hc8, hf8⟩ := bcell b))
  all_goals
    have X_8 := hide ((b.block _ (blk_lt X_6.out)).trans X_6.out)
    have R_8 := hide ((b.block _ (blk_lt R_6.out)).trans R_6.out)
    have BX_8 := hide ((b.block _ (blk_lt BX_6.out)).trans BX_6.out)
    have OA_8 := hide (OA_6.out.below b)
    have OX_8 := hide (OX_6.out.below b)
    have OG_8 := hide (OG_6.out.below b)
    have B_8 := hide (B_6.out.trans (b.mono B_6.out.size))
    clear X_6 R_6 BX_6 OA_6 OX_6 OG_6 B_6 b hb7 hb7' hc7 hf7 hb8 hc8 hf8 x0 x1 y0 y1 o7 HEQR HEQD zx' zb'
    have C := hide (HMKD.out _ _ _ _ OX_8.out)
    obtain ⟨y0, y1, yf⟩ := cells2 BX_8.out
    go_wp2_with fail
    refine C.out.mono ?_
    rintro e w9 ⟨rfl, o, l⟩
    have z8 := Z8.out
    have z4 := Z4.out
    have z9 := Z9.out
    have z10 := Z10.out
    have ew := EW.out
    have X_9 := hide (l.blk X_8.out LX.out (.inl ew.1))
    have R_9 := hide (l.blk R_8.out LX.out (.inl ew.2))
    have OA_9 := hide (OA_8.out.gl l LX.out (fun v hv b hb => .inl (LW.out v hv b hb).2) (.inl z8))
    have OG_9 := hide (OG_8.out.gl l LX.out (fun v hv b hb => .inr (by have := (LG.out v hv b hb).1; omega)) (.inr (by omega)))
    have B_9 := hide (B_8.out.trans (l.bel LX.out (Nat.le_of_lt ew.1) B_8.out.size))
    clear X_8 R_8 BX_8 OA_8 OX_8 OG_8 B_8 o l C y0 y1 yf
    have C := hide (HEQ.out _ _ _ _ _ _ _ OG_9.out.own OA_9.out.own)
    obtain ⟨y0, y1, y2, y3, yf⟩ := cells4 OA_9.out.box
    obtain ⟨z0, z1, z2, z3, zf⟩ := cells4 OG_9.out.box
    go_wp2_with fail
    refine C.out.mono ?_
    rintro e w10 ⟨rfl, b⟩
    clear C
    have X_10 := hide ((b.block _ (blk_lt X_9.out)).trans X_9.out)
    have R_10 := hide ((b.block _ (blk_lt R_9.out)).trans R_9.out)
    have OA_10 := hide (OA_9.out.below b)
    have OG_10 := hide (OG_9.out.below b)
    have B_10 := hide (B_9.out.trans (b.mono B_9.out.size))
    clear X_9 R_9 OA_9 OG_9 B_9 b y0 y1 y2 y3 yf z0 z1 z2 z3 zf
    have C := hide (HMK.out _ _ _ _ OG_10.out.own)
    obtain ⟨z0, z1, z2, z3, zf⟩ := cells4 OG_10.out.box
    go_wp2_with fail
    refine C.out.mono ?_
    rintro e w11 ⟨rfl, o, l⟩
    clear C
    have LG2 : ∀ v ∈ [(.slice so5 k1 p5 : Value), .slice co5 k2 q5], ∀ b, v.ownBlock = some b → W4.heap.size ≤ b ∧ b < W5.heap.size := LG.out
    have X_11 := hide (l.blk X_10.out LG2 (.inl (by omega)))
    have R_11 := hide (l.blk R_10.out LG2 (.inl (by omega)))
    have OA_11 := hide (OA_10.out.gl l LG2 (fun v hv b hb => .inl (by have := (LW.out v hv b hb).2; omega)) (.inl (by omega)))
    have OG_11 := hide (OG_10.out.marked l o)
    have B_11 := hide (B_10.out.trans (l.bel LG2 (by omega) B_10.out.size))
    clear X_10 R_10 OA_10 OG_10 B_10 o l z0 z1 z2 z3 zf
    have C := hide (HHL.out _ _ _ _ OG_11.out.own)
    obtain ⟨z0, z1, z2, z3, zf⟩ := cells4 OG_11.out.box
    go_wp2_with fail
    refine C.out.mono ?_
    rintro e W12 ⟨rfl, b⟩
    clear C
    have X_12 := hide ((b.block _ (blk_lt X_11.out)).trans X_11.out)
    have R_12 := hide ((b.block _ (blk_lt R_11.out)).trans R_11.out)
    have OA_12 := hide (OA_11.out.below b)
    have OG_12 := hide (OG_11.out.below b)
    have B_12 := hide (B_11.out.trans (b.mono B_11.out.size))
    clear X_11 R_11 OA_11 OG_11 B_11 b z0 z1 z2 z3 zf
    obtain ⟨x0, x1, xf⟩ := cells2 X_12.out
    obtain ⟨r0, r1, rf⟩ := cells2 R_12.out
    have zx : w.heap.size < W12.heap.size := blk_lt X_12.out
    have zy : w.heap.size + 1 < W12.heap.size := blk_lt R_12.out
    clear z8 z4 z9 z10 ew LG2
    go_wp2
    refine wp_cutA (fun a' (x : LgX) => (putA (putA (putA (putA (putA (putA (putA a' 69 (.agg #[.slice so n1 p, .slice co n2 q])) 70 (.agg #[.slice x.so' n1 x.p', .slice x.co' n2 x.q'])) 71 (.int .i64 a)) 72 (.agg #[.int .i64 rq, .string rt])) 73 (.agg #[.int .i64 rq, .string rt])) 74 (.agg #[.slice x.so k1 x.p, .slice x.co k2 x.q, .string ⟨#[]⟩, .int .i64 K])) 14 (.pointer (some ⟨x.g, 0, none⟩)))) (fun x W' => OutAt W12.heap.size x.g (.slice x.so k1 x.p) (.slice x.co k2 x.q) ⟨#[]⟩ K D W' ∧ Below W12.heap.size W12 W') ?_ ?_
    · have nW0 : ¬ w.heap.size = W12.heap.size := Nat.ne_of_lt zx
      have mW0 : ¬ W12.heap.size = w.heap.size := fun e => nW0 e.symm
      have nW1 : ¬ w.heap.size + 1 = W12.heap.size := Nat.ne_of_lt zy
      have mW1 : ¬ W12.heap.size = w.heap.size + 1 := fun e => nW1 e.symm
      go_region_held3 (fun W => (W.cell? ⟨w.heap.size, 0, none⟩ = some (.slice so n1 p) ∧ W.cell? ⟨w.heap.size, 1, none⟩ = some (.slice co n2 q)) ∧ (W.cell? ⟨w.heap.size + 1, 0, none⟩ = some (.int .i64 rq) ∧ W.cell? ⟨w.heap.size + 1, 1, none⟩ = some (.string rt))) (go_keep) (first
          | (go_at_call 30; (first | (refine (HTOF.out _ B_12.out.drew).mono ?_; rintro e wA ⟨s2, c2, rfl, oA, bA⟩; have bA' : Below W12.heap.size W12 wA := (Below.refl _ _).drew.trans bA) | (have bz : Below W12.heap.size W12 (W12.alloc zOut).drew := ((Below.refl _ _).alloc (Nat.le_refl _) _).drew; refine (HTOF.out _ (B_12.out.trans (bz.mono B_12.out.size))).mono ?_; rintro e wA ⟨s2, c2, rfl, oA, bA⟩; have bA' : Below W12.heap.size W12 wA := bz.trans (bA.mono bz.size); have hz : wA.heap[W12.heap.size]? = some zOut := (bA.block W12.heap.size (by show _ < (W12.alloc zOut).heap.size; simp)).trans (heap_alloc_new W12 zOut))); obtain ⟨so2, p2, co2, q2, rfl, rfl⟩ := oA.shape; rw [← HN.out.1, ← HN.out.2] at oA ⊢; obtain ⟨hcwA, hfwA⟩ := bcell bA'; have nwA0 : ¬ w.heap.size = wA.heap.size := Nat.ne_of_lt (Nat.lt_of_lt_of_le zx bA'.size); have mwA0 : ¬ wA.heap.size = w.heap.size := fun e => nwA0 e.symm; have nwA1 : ¬ w.heap.size + 1 = wA.heap.size := Nat.ne_of_lt (Nat.lt_of_lt_of_le zy bA'.size); have mwA1 : ¬ wA.heap.size = w.heap.size + 1 := fun e => nwA1 e.symm)
          | (go_at_call 44; refine (HTR.out _).mono ?_; rintro e wB ⟨rfl, bB⟩; have bB' : Below W12.heap.size W12 wB := (by first | exact bA'.trans (bB.mono bA'.size) | exact (bA'.alloc bA'.size zOut).trans (bB.mono (bA'.alloc bA'.size zOut).size)); (first | have oB := oA.below bB | have oB := oA.below (((Below.refl wA.heap.size wA).alloc (Nat.le_refl _) zOut).trans (bB.mono (by show _ ≤ (wA.alloc zOut).heap.size; simp)))); (first | have hz : wB.heap[W12.heap.size]? = some zOut := (bB.block _ (blk_lt' hz)).trans hz | have hz : wB.heap[wA.heap.size]? = some zOut := (bB.block wA.heap.size (by simp)).trans (heap_alloc_new wA zOut) | have hnz := bB'); obtain ⟨hcwB, hfwB⟩ := bcell bB'; have nwB0 : ¬ w.heap.size = wB.heap.size := Nat.ne_of_lt (Nat.lt_of_lt_of_le zx bB'.size); have mwB0 : ¬ wB.heap.size = w.heap.size := fun e => nwB0 e.symm; have nwB1 : ¬ w.heap.size + 1 = wB.heap.size := Nat.ne_of_lt (Nat.lt_of_lt_of_le zy bB'.size); have mwB1 : ¬ wB.heap.size = w.heap.size + 1 := fun e => nwB1 e.symm)
          | (go_at_call 17; (first | (refine (HIM.out _ _ _ _ oB).mono ?_; rintro e w3 ⟨s3, c3, rfl, o3, bC⟩; have b3' : Below W12.heap.size W12 w3 := bB'.trans (bC.mono bB'.size)) | (have bz : Below wB.heap.size wB (wB.alloc zOut) := (Below.refl _ _).alloc (Nat.le_refl _) _; refine (HIM.out _ _ _ _ (oB.below bz)).mono ?_; rintro e w3 ⟨s3, c3, rfl, o3, bC⟩; have b3' : Below W12.heap.size W12 w3 := bB'.trans ((bz.trans (bC.mono bz.size)).mono bB'.size); have hl : wB.heap.size < (wB.alloc zOut).heap.size := (by simp))); obtain ⟨so3, p3, co3, q3, rfl, rfl⟩ := o3.shape; rw [← HK.out.1, ← HK.out.2] at o3 ⊢; (first | (have hl : W12.heap.size < _ := blk_lt' hz; have hz : w3.heap[W12.heap.size]? = some zOut := (bC.block _ hl).trans hz; have y := cells4 hz; have y0 := y.1; have y1 := y.2.1; have y2 := y.2.2.1; have y3 := y.2.2.2.1; have yf := y.2.2.2.2; clear y) | (have hl : wA.heap.size < _ := blk_lt' hz; have hz : w3.heap[wA.heap.size]? = some zOut := (bC.block _ hl).trans hz; have y := cells4 hz; have y0 := y.1; have y1 := y.2.1; have y2 := y.2.2.1; have y3 := y.2.2.2.1; have yf := y.2.2.2.2; clear y) | (have hz : w3.heap[wB.heap.size]? = some zOut := (bC.block wB.heap.size hl).trans (heap_alloc_new wB zOut); have y := cells4 hz; have y0 := y.1; have y1 := y.2.1; have y2 := y.2.2.1; have y3 := y.2.2.2.1; have yf := y.2.2.2.2; clear y) | have hnz := b3'); obtain ⟨hcw3, hfw3⟩ := bcell b3'; have nw30 : ¬ w.heap.size = w3.heap.size := Nat.ne_of_lt (Nat.lt_of_lt_of_le zx b3'.size); have mw30 : ¬ w3.heap.size = w.heap.size := fun e => nw30 e.symm; have nw31 : ¬ w.heap.size + 1 = w3.heap.size := Nat.ne_of_lt (Nat.lt_of_lt_of_le zy b3'.size); have mw31 : ¬ w3.heap.size = w.heap.size + 1 := fun e => nw31 e.symm))
      · exact ⟨⟨w3.heap.size, so3, p3, co3, q3, so2, p2, co2, q2⟩, by simp only [putA, List.setIfInBounds_toArray, List.set_cons_succ, List.set_cons_zero], outAt_late (o3.base bB'.size) b3'.size, b3'.alloc b3'.size _⟩
      · exact ⟨⟨wB.heap.size, so3, p3, co3, q3, so2, p2, co2, q2⟩, by simp only [putA, List.setIfInBounds_toArray, List.set_cons_succ, List.set_cons_zero], outAt_early hz o3 hl bB'.size, setO_below b3' bB'.size⟩
      · exact ⟨⟨wA.heap.size, so3, p3, co3, q3, so2, p2, co2, q2⟩, by simp only [putA, List.setIfInBounds_toArray, List.set_cons_succ, List.set_cons_zero], outAt_early hz o3 hl bA'.size, setO_below b3' bA'.size⟩
      · exact ⟨⟨W12.heap.size, so3, p3, co3, q3, so2, p2, co2, q2⟩, by simp only [putA, List.setIfInBounds_toArray, List.set_cons_succ, List.set_cons_zero], outAt_early hz o3 hl (Nat.le_refl _), setO_below b3' (Nat.le_refl _)⟩
    rintro ⟨g14, so6, p6, co6, q6, so7, p7, co7, q7⟩ W13 ⟨oh, b⟩
    simp only at oh
    have X_13 := hide ((b.block _ (blk_lt X_12.out)).trans X_12.out)
    have OA_13 := hide (OA_12.out.below b)
    have OG_13 := hide (OG_12.out.below b)
    have B_13 := hide (B_12.out.trans (b.mono B_12.out.size))
    have OH_13 := hide oh
    clear X_12 R_12 OA_12 OG_12 B_12 b oh x0 x1 xf r0 r1 rf zx zy
    have C := hide (HEQ.out _ _ _ _ _ _ _ OH_13.out.own OA_13.out.own)
    obtain ⟨y0, y1, y2, y3, yf⟩ := cells4 OA_13.out.box
    obtain ⟨z0, z1, z2, z3, zf⟩ := cells4 OH_13.out.box
    simp only [putA, List.setIfInBounds_toArray, List.set_cons_succ, List.set_cons_zero]
    go_wp2_with fail
    refine C.out.mono ?_
    rintro e w15 ⟨rfl, b⟩
    clear C
    have OG_15 := hide (OG_13.out.below b)
    have B_15 := hide (B_13.out.trans (b.mono B_13.out.size))
    clear X_13 OA_13 OG_13 OH_13 B_13 b y0 y1 y2 y3 yf z0 z1 z2 z3 zf
    have C := hide (HHL.out _ _ _ _ OG_15.out.own)
    obtain ⟨z0, z1, z2, z3, zf⟩ := cells4 OG_15.out.box
    go_wp2_with fail
    refine C.out.mono ?_
    rintro e w16 ⟨rfl, b⟩
    clear C
    have B_16 := hide (B_15.out.trans (b.mono B_15.out.size))
    clear OG_15 B_15 b z0 z1 z2 z3 zf
    go_wp2
    go_ret
    exact ⟨rfl, B_16.out⟩
end Go.Proofs.Ytfhfhpnoeghgmaa
