/-
  What sectors have, by a map of the last writes, and by doing the writes one behind the other. Plain facts.
-/
import Derived.Test.YtaapacpiipcogaaDkSec
import Derived.Test.YtaapacpiipcogaaDkRight
import Derived.Maps.OwnSet
import Derived.Maps.Views
import Derived.RegionTactic
namespace Go.Proofs.Ytaapacpiipcogaa
open Go.RowKit Go.Maps Go.ChangeMaps Go.MapKept
set_option maxRecDepth 100000

theorem secV_inj {a b : List UInt8} (h : secV a = secV b) : a = b := by
  unfold secV at h
  have h1 : Lib.byteCells a = Lib.byteCells b := by
    have := congrArg Array.toList h
    simpa using this
  unfold Lib.byteCells at h1
  refine (List.map_inj_right (fun x y e => ?_)).1 h1
  injection e with _ e2
  exact UInt8.toNat_inj.1 (by omega)
open Classical in
/-- How a sector in a map reads. -/
noncomputable def secR (v : Value) : Option (DataW Unit × List MemPlace) := if h : ∃ l, v = .agg (secV l) then some (.lit (.string h.choose), []) else none
theorem secR_mk (l : List UInt8) : secR (.agg (secV l)) = some (.lit (.string l), []) := by
  unfold secR
  have h : ∃ l', Value.agg (secV l) = .agg (secV l') := ⟨l, rfl⟩
  rw [dif_pos h]
  have hc : l = h.choose := secV_inj (by injection h.choose_spec)
  exact congrArg (fun l' => some (DataW.lit (.string l'), [])) hc.symm
theorem secR_inv {v : Value} {z : DataW Unit × List MemPlace} (h : secR v = some z) : ∃ l, v = .agg (secV l) ∧ z = (.lit (.string l), []) := by
  unfold secR at h
  split at h
  · rename_i hx
    obtain ⟨l, hl⟩ := hx
    refine ⟨l, hl, ?_⟩
    subst hl
    have h2 := secR_mk l
    unfold secR at h2
    rw [dif_pos ⟨l, rfl⟩] at h2
    simp only [Option.some.injEq] at h h2
    rw [← h, h2]
  · cases h
noncomputable def cacheStep (D : DataW Unit) (x : Wr) : DataW Unit := D.put (.int .i64 x.pos) (.lit (.string (pad x.text.data.toList)))
noncomputable def cacheD (l : List Wr) : DataW Unit := l.foldl cacheStep (.map [])
def flushL (ss : List ByteArray) (l : List Wr) : List ByteArray := l.foldl (fun s x => s.set x.pos.toNat x.text) ss
theorem cacheD_snoc (l : List Wr) (x : Wr) : cacheD (l ++ [x]) = (cacheD l).put (.int .i64 x.pos) (.lit (.string (pad x.text.data.toList))) := by simp [cacheD, cacheStep]
theorem flushL_snoc (ss : List ByteArray) (l : List Wr) (x : Wr) : flushL ss (l ++ [x]) = (flushL ss l).set x.pos.toNat x.text := by simp [flushL]
theorem flushL_len (l : List Wr) : ∀ ss, (flushL ss l).length = ss.length := by
  induction l with
  | nil => intro ss; rfl
  | cons x r ih => intro ss; show (flushL (ss.set x.pos.toNat x.text) r).length = _; rw [ih]; simp
theorem keyLit (n : Int) : WideAt.IsKeyLit (.int .i64 n) := by unfold WideAt.IsKeyLit; trivial
theorem look_inv (l : List Wr) : ∀ (D : DataW Unit) (ss s0 : List ByteArray), IsMap D → ss.length = s0.length → (∀ x ∈ l, 0 ≤ x.pos ∧ x.pos < (s0.length : Int) ∧ x.text.size = 64) →
    (∀ i, i < s0.length → (Maps.has D (.int .i64 (i : Int)) = true → ∀ z, D.atKey (.int .i64 (i : Int)) z = .lit (.string (ss.getD i ByteArray.empty).data.toList)) ∧ (Maps.has D (.int .i64 (i : Int)) = false → ss.getD i ByteArray.empty = s0.getD i ByteArray.empty)) →
    ∀ i, i < s0.length → (Maps.has (l.foldl cacheStep D) (.int .i64 (i : Int)) = true → ∀ z, (l.foldl cacheStep D).atKey (.int .i64 (i : Int)) z = .lit (.string ((flushL ss l).getD i ByteArray.empty).data.toList)) ∧ (Maps.has (l.foldl cacheStep D) (.int .i64 (i : Int)) = false → (flushL ss l).getD i ByteArray.empty = s0.getD i ByteArray.empty) := by
  induction l with
  | nil => intro D ss s0 _ _ _ h i hi; exact h i hi
  | cons x r ih =>
    intro D ss s0 hD hl hx h
    obtain ⟨hx0, hx1, hx2⟩ := hx x (by simp)
    refine ih (cacheStep D x) (ss.set x.pos.toNat x.text) s0 (hD.put _ _) (by simpa using hl) (fun y hy => hx y (by simp [hy])) (fun i hi => ?_)
    have hpf : pad x.text.data.toList = x.text.data.toList := pad_full hx2
    by_cases e : (i : Int) = x.pos
    · have hk : x.pos.toNat = i := by omega
      have hs : (ss.set i x.text).getD i ByteArray.empty = x.text := by
        rw [List.getD_eq_getElem?_getD, List.getElem?_set_self (by omega)]; rfl
      unfold cacheStep
      rw [e, hk, hpf]
      refine ⟨fun _ z => ?_, fun hn => ?_⟩
      · rw [atKey_put_same hD (keyLit _), hs]
      · rw [has_put_same hD (keyLit _)] at hn; cases hn
    · have hne : (Lit.int .i64 (i : Int)) ≠ .int .i64 x.pos := fun e' => e (by injection e')
      have hs : (ss.set x.pos.toNat x.text).getD i ByteArray.empty = ss.getD i ByteArray.empty := by
        rw [List.getD_eq_getElem?_getD, List.getElem?_set_ne (by omega), ← List.getD_eq_getElem?_getD]
      unfold cacheStep
      rw [has_put_other hne, hs]
      exact ⟨fun h1 z => by rw [atKey_put_other hne]; exact (h i hi).1 h1 z, (h i hi).2⟩
theorem cache_look {d : Dk} (hx : ∀ x ∈ d.cache, 0 ≤ x.pos ∧ x.pos < (d.secs.length : Int) ∧ x.text.size = 64) (i : Nat) (hi : i < d.secs.length) :
    (Maps.has (cacheD d.cache) (.int .i64 (i : Int)) = true → ∀ z, (cacheD d.cache).atKey (.int .i64 (i : Int)) z = .lit (.string ((flushL d.secs d.cache).getD i ByteArray.empty).data.toList)) ∧ (Maps.has (cacheD d.cache) (.int .i64 (i : Int)) = false → (flushL d.secs d.cache).getD i ByteArray.empty = d.secs.getD i ByteArray.empty) :=
  look_inv d.cache (.map []) d.secs d.secs isMap_empty rfl hx (fun i _ => ⟨fun h => by simp [Maps.has] at h, fun _ => rfl⟩) i hi
theorem dkRight_cache {d : Dk} (h : dkRight d = true) : ∀ x ∈ d.cache, 0 ≤ x.pos ∧ x.pos < (d.secs.length : Int) ∧ x.text.size = 64 := by
  intro x hx
  obtain ⟨i, hi, rfl⟩ := List.getElem_of_mem hx
  unfold dkRight at h
  simp only [Bool.and_eq_true] at h
  have := (upto_iff _ _).1 h.2 i hi
  unfold wrOk at this
  rw [List.getD_eq_getElem?_getD, List.getElem?_eq_getElem hi] at this
  simp only [Option.getD_some, Bool.and_eq_true, decide_eq_true_eq] at this
  exact ⟨this.1.1, this.1.2, this.2⟩
theorem dkRight_secs {d : Dk} (h : dkRight d = true) : ∀ i, i < d.secs.length → (d.secs.getD i ByteArray.empty).size = 64 := by
  intro i hi
  unfold dkRight at h
  simp only [Bool.and_eq_true] at h
  have := (upto_iff _ _).1 h.1.2 i hi
  unfold secOk at this
  simpa using this
theorem flush_sizes (l : List Wr) : ∀ (ss : List ByteArray), (∀ x ∈ l, x.text.size = 64) → (∀ i, i < ss.length → (ss.getD i ByteArray.empty).size = 64) → ∀ i, i < ss.length → ((flushL ss l).getD i ByteArray.empty).size = 64 := by
  induction l with
  | nil => intro ss _ h i hi; exact h i hi
  | cons x r ih =>
    intro ss hx h i hi
    refine ih (ss.set x.pos.toNat x.text) (fun y hy => hx y (by simp [hy])) (fun j hj => ?_) i (by simpa using hi)
    rw [List.length_set] at hj
    by_cases e : j = x.pos.toNat
    · subst e
      rw [List.getD_eq_getElem?_getD, List.getElem?_set_self hj]
      exact hx x (by simp)
    · rw [List.getD_eq_getElem?_getD, List.getElem?_set_ne (by omega), ← List.getD_eq_getElem?_getD]
      exact h j hj
theorem step_mapUpd {H : Type} {P : Program} {w : World} {ops : Array Oper} {o : Oper} {a : Act} {K' : Act → World → Prop} {Q : Exit → Act → World → Prop} {E : Prop} (hg : o.guard = none) (m x v : Operand) (t : TypeId) (hop : o.op = Op.mapUpdate t m x v)
    (k e : TypeId) (K : Keyed P k) (ht : P.underlying t = some (.map k e)) (R : Value → Option (DataW H × List MemPlace)) (b n : Nat) (D : DataW H)
    (hm : a.eval m = .map (some b)) (hown : w.ownsMap P k R b n D) (hn : n < maxLen) (key val : Value) (kl : Lit) (hx : a.eval x = key) (hv : a.eval v = val) (hkey : keyOf P k key = some kl)
    (d : DataW H) (ps : List MemPlace) (hval : R val = some (d, ps))
    (h : ∀ w', w'.ownsMap P k R b (n + 1) (D.put kl d) → w.grownBy w' (some b) → K' (a.put o.dst undef) w') :
    if Region.wanted o (yielded ops a.tmps) = true then Oper.wp P o a w K' Q else E := by
  have hw : Region.wanted o (yielded ops a.tmps) = true := by simp [Region.wanted, hg]
  rw [if_pos hw]
  obtain ⟨w', hrun, r1, r2⟩ := hown.update K ht hn hkey hval
  unfold Oper.wp
  simp [execOp, hop, hm, hx, hv, hrun, Result.andThen]
  exact h w' r1 r2
end Go.Proofs.Ytaapacpiipcogaa
