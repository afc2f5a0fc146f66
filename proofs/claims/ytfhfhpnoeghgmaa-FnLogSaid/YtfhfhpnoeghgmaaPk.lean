/-
  Contracts and plain laws, part 11 of 12: LgLwP, TillR, LgR, DkRd, LgIter, LgIt2, LgRdI, DkLwAt
-/
import Derived.RangeFuncNested
import Derived.RangeFuncBound
import Derived.Laws.MakeOwn
import Derived.Shelf.Abstract
import Derived.Shelf.RegionOpen
import Derived.OwnWalkIn
import Derived.TacticsInMore
import Derived.LoopNIn
import Derived.LoopIn
import Derived.RangeFuncBox
import Derived.Maps.AppendAt
import Derived.Scope
import Derived.Test.YtfhfhpnoeghgmaaPj

/-
  What the law on logs says, of the plain functions: a log whose sectors stay goes on as it did, and what is written behind it is read.
-/
namespace Go.Proofs.Ytfhfhpnoeghgmaa
open Go.RowKit
set_option maxRecDepth 100000

section
variable {fl fm : List ByteArray}
theorem recAt_agree (h64 : ∀ i, i < fl.length → (fl.getD i ByteArray.empty).size = 64) (hl : fm.length = fl.length) {k : Nat} {q : Int} {t : ByteArray} (hk : k ≤ fl.length) (h : recAt (restT fl k) q = some t)
    (ha : ∀ j, k ≤ j → j < k + many (recS q t) → fl.getD j ByteArray.empty = fm.getD j ByteArray.empty) : recAt (restT fm k) q = some t := by
  obtain ⟨hr, hp⟩ := (recAt_iff _ q t).1 h
  obtain ⟨hm1, hm2, _⟩ := recAt_many h64 hk h
  refine (recAt_iff _ q t).2 ⟨hr, ?_⟩
  unfold restT at hp ⊢
  rw [mkS_list] at hp ⊢
  have h2 : secsT fl k (many (recS q t)) <+: secsT fl k (fl.length - k) := secsT_prefix fl k _ _ (by omega)
  have h3 : (recS q t).data.toList <+: secsT fl k (many (recS q t)) := by
    refine List.prefix_of_prefix_length_le hp h2 ?_
    rw [secsT_len h64 k _ hm2]
    have : (recS q t).data.toList.length = (recS q t).size := rfl
    unfold many
    omega
  rw [secsT_eq (L := fl) (M := fm) _ (fun j hj => ha (k + j) (by omega) (by omega))] at h3
  exact h3.trans (secsT_prefix fm k _ _ (by omega))
theorem logR_ge : ∀ (f k : Nat) (q : Int), k ≤ (logR fl f k q).2
  | 0, k, q => Nat.le_refl _
  | f + 1, k, q => by
    cases hr : recAt (restT fl k) q with
    | none => rw [logR_none hr]; exact Nat.le_refl _
    | some t =>
      rw [logR_some hr]
      have := logR_ge f (k + many (recS q t)) (q + 1)
      simp only
      omega
theorem logR_le (h64 : ∀ i, i < fl.length → (fl.getD i ByteArray.empty).size = 64) : ∀ (f k : Nat) (q : Int), k ≤ fl.length → (logR fl f k q).2 ≤ fl.length
  | 0, k, q, h => h
  | f + 1, k, q, h => by
    cases hr : recAt (restT fl k) q with
    | none => rw [logR_none hr]; exact h
    | some t =>
      rw [logR_some hr]
      obtain ⟨_, hm2, _⟩ := recAt_many h64 h hr
      exact logR_le h64 f (k + many (recS q t)) (q + 1) hm2
theorem logR_seq : ∀ (f k : Nat) (q : Int) (i : Nat), i < (logR fl f k q).1.length → ((logR fl f k q).1.getD i noWr).pos = q + (i : Int)
  | 0, k, q, i, h => by simp [logR] at h
  | f + 1, k, q, i, h => by
    cases hr : recAt (restT fl k) q with
    | none => rw [logR_none hr] at h; simp at h
    | some t =>
      rw [logR_some hr] at h ⊢
      cases i with
      | zero => simp
      | succ i =>
        simp only [List.length_cons] at h
        have := logR_seq f (k + many (recS q t)) (q + 1) i (by omega)
        simp only [List.getD_cons_succ]
        rw [this]
        omega
/-- A log whose sectors stay is read again, and goes on behind. -/
theorem logR_agree (h64 : ∀ i, i < fl.length → (fl.getD i ByteArray.empty).size = 64) (hl : fm.length = fl.length) : ∀ (f k : Nat) (q : Int), k ≤ fl.length → fl.length < f + k →
    (∀ j, k ≤ j → j < (logR fl f k q).2 → fl.getD j ByteArray.empty = fm.getD j ByteArray.empty) →
    ∃ f', fl.length < f' + (logR fl f k q).2 ∧ logR fm f k q = ((logR fl f k q).1 ++ (logR fm f' (logR fl f k q).2 (q + ((logR fl f k q).1.length : Int))).1, (logR fm f' (logR fl f k q).2 (q + ((logR fl f k q).1.length : Int))).2)
  | 0, k, q, hk, hf, _ => by omega
  | f + 1, k, q, hk, hf, ha => by
    cases hr : recAt (restT fl k) q with
    | none =>
      rw [logR_none hr]
      exact ⟨f + 1, hf, by simp⟩
    | some t =>
      rw [logR_some hr] at ha ⊢
      obtain ⟨hm1, hm2, _⟩ := recAt_many h64 hk hr
      have hge := logR_ge (fl := fl) f (k + many (recS q t)) (q + 1)
      obtain ⟨f', e1, e2⟩ := logR_agree h64 hl f (k + many (recS q t)) (q + 1) hm2 (by omega) (fun j h1 h2 => ha j (by omega) h2)
      have hr2 := recAt_agree h64 hl hk hr (fun j h1 h2 => ha j h1 (by simp only; omega))
      refine ⟨f', e1, ?_⟩
      rw [logR_some hr2, e2]
      have hq : q + 1 + ((logR fl f (k + many (recS q t)) (q + 1)).1.length : Int) = q + (((⟨q, t⟩ :: (logR fl f (k + many (recS q t)) (q + 1)).1 : List Wr).length : Nat) : Int) := by
        simp only [List.length_cons]; omega
      rw [hq]
      rfl
end
theorem flushL_other (l : List Wr) : ∀ (ss : List ByteArray) (j : Nat), (∀ x ∈ l, x.pos.toNat ≠ j) → (flushL ss l).getD j ByteArray.empty = ss.getD j ByteArray.empty := by
  induction l with
  | nil => intro ss j _; rfl
  | cons x r ih =>
    intro ss j h
    show (flushL (ss.set x.pos.toNat x.text) r).getD j ByteArray.empty = _
    rw [ih _ j (fun y hy => h y (List.mem_cons_of_mem _ hy))]
    have := h x List.mem_cons_self
    simp only [List.getD_eq_getElem?_getD]
    rw [List.getElem?_set_ne this]
theorem wrs_pos {a : Nat} {t : ByteArray} {n : Nat} {x : Wr} (h : x ∈ wrsOf (a : Int) t n) : a ≤ x.pos.toNat := by
  unfold wrsOf at h
  obtain ⟨i, hi, rfl⟩ := List.mem_map.1 h
  show a ≤ ((a : Int) + (i : Int)).toNat
  omega
/-- What the law on logs is told: the disk d, read from a on, has the records L, and N is the sector behind. -/
theorem log_facts {d : Dk} {a : Nat} {q : Int} (hb : ¬ lgBad d (a : Int) q) :
    dkRight d = true ∧ a ≤ d.secs.length ∧ 1 ≤ q ∧ q ≤ 1000000000 := by
  unfold lgBad at hb
  have h1 : dkRight d = true := by
    cases h : dkRight d with
    | true => rfl
    | false => exact absurd (.inl h) hb
  refine ⟨h1, ?_, ?_⟩
  · by_cases h : (d.secs.length : Int) ≤ (a : Int)
    · exact absurd (.inr (.inr (.inl h))) hb
    · omega
  · cases h : seqOk q with
    | false => exact absurd (.inr (.inr (.inr h))) hb
    | true => simpa [seqOk] using h
theorem not_bad {d : Dk} {a : Nat} {q : Int} (h1 : dkRight d = true) (h2 : a < d.secs.length) (h3 : 1 ≤ q ∧ q ≤ 1000000000) : ¬ lgBad d (a : Int) q := by
  unfold lgBad
  have : seqOk q = true := by simp [seqOk]; exact h3
  rw [h1, this]
  simp
  omega
/-- Where the records of d end a right record is appended to the flushed disk: it is read behind them; and where the power goes ahead of the flush, they stay. -/
theorem log_append {d : Dk} {a : Nat} {q : Int} {t : ByteArray} (hb : ¬ lgBad d (a : Int) q)
    (hw : (dkApp (dkFlush d) (dkLog d (a : Int) q).2.1 (q + ((dkLog d (a : Int) q).1.length : Int)) t).2 = 0) :
    dkRight (dkApp (dkFlush d) (dkLog d (a : Int) q).2.1 (q + ((dkLog d (a : Int) q).1.length : Int)) t).1 = true ∧ recRight (q + ((dkLog d (a : Int) q).1.length : Int)) t = true ∧
    (∃ L2, (dkLog (dkApp (dkFlush d) (dkLog d (a : Int) q).2.1 (q + ((dkLog d (a : Int) q).1.length : Int)) t).1 (a : Int) q).1 = (dkLog d (a : Int) q).1 ++ ⟨q + ((dkLog d (a : Int) q).1.length : Int), t⟩ :: L2) ∧
    ∀ kl : List Bool, kl.length ≤ 400 → ∃ L2, (dkLog (dkCrash (dkApp (dkFlush d) (dkLog d (a : Int) q).2.1 (q + ((dkLog d (a : Int) q).1.length : Int)) t).1 kl) (a : Int) q).1 = (dkLog d (a : Int) q).1 ++ L2 := by
  obtain ⟨hR, hal, hq1, hq2⟩ := log_facts hb
  have hal2 : a < d.secs.length := by
    unfold lgBad at hb
    by_cases h : (d.secs.length : Int) ≤ (a : Int)
    · exact absurd (.inr (.inr (.inl h))) hb
    · omega
  rw [dkLog_ok hb] at hw ⊢
  simp only [Int.toNat_natCast] at hw ⊢
  have h64 := flush64 hR
  have hfl := flushL_len d.cache d.secs
  have hle := logR_le h64 (d.secs.length - a + 1) a q (by omega)
  have hge := logR_ge (fl := flushL d.secs d.cache) (d.secs.length - a + 1) a q
  have hag := fun (fm : List ByteArray) (h1 : fm.length = (flushL d.secs d.cache).length) => logR_agree (fm := fm) h64 h1 (d.secs.length - a + 1) a q (by omega) (by omega)
  have hFR := flush_right hR
  have hfe := dkFlush_y hR
  generalize (logR (flushL d.secs d.cache) (d.secs.length - a + 1) a q).1 = L at *
  generalize (logR (flushL d.secs d.cache) (d.secs.length - a + 1) a q).2 = N at *
  generalize flushL d.secs d.cache = fl at *
  rw [hfe] at hw hFR ⊢
  cases hrr : recRight (q + (L.length : Int)) t with
  | false => rw [dkApp_no hrr] at hw; cases hw
  | true =>
    rw [dkApp_yes hrr] at hw ⊢
    have hbs := recBytes_yes hrr
    rw [hbs] at hw ⊢
    obtain ⟨_, _, hn1, hn2, hx⟩ := wrote hw
    have hwr := write_right _ _ _ hw
    simp only at hn1 hx
    rw [hx] at hwr ⊢
    have hmm : 1 ≤ many (recS (q + (L.length : Int)) t) := by
      have := recS_len (q := q + (L.length : Int)) ((recRight_iff _ t).1 hrr).2
      unfold many
      omega
    refine ⟨hwr, rfl, ?_, ?_⟩
    · have hnb : ¬ lgBad ⟨fl, [] ++ wrsOf (N : Int) (recS (q + (L.length : Int)) t) (many (recS (q + (L.length : Int)) t))⟩ (a : Int) q := not_bad hwr (by show a < fl.length; omega) ⟨hq1, hq2⟩
      rw [dkLog_ok hnb]
      simp only [Int.toNat_natCast, List.nil_append]
      have hg := flush_wrs fl N (recS (q + (L.length : Int)) t) (many (recS (q + (L.length : Int)) t)) (by omega)
      obtain ⟨f', e1, e2⟩ := hag (flushL fl (wrsOf (N : Int) (recS (q + (L.length : Int)) t) (many (recS (q + (L.length : Int)) t)))) (flushL_len _ _) (fun j h1 h2 => by rw [hg, if_neg (by omega)])
      rw [hfl, e2]
      have hrec : recAt (restT (flushL fl (wrsOf (N : Int) (recS (q + (L.length : Int)) t) (many (recS (q + (L.length : Int)) t)))) N) (q + (L.length : Int)) = some t := by
        refine (recAt_iff _ _ t).2 ⟨hrr, ?_⟩
        unfold restT
        rw [mkS_list]
        have hp := secsT_prefix (flushL fl (wrsOf (N : Int) (recS (q + (L.length : Int)) t) (many (recS (q + (L.length : Int)) t)))) N (many (recS (q + (L.length : Int)) t)) ((flushL fl (wrsOf (N : Int) (recS (q + (L.length : Int)) t) (many (recS (q + (L.length : Int)) t)))).length - N) (by rw [flushL_len]; omega)
        refine List.IsPrefix.trans ?_ hp
        rw [secsT_pieces _ N (recS (q + (L.length : Int)) t) _ (fun j hj => by rw [hg, if_pos (by omega)]; congr 1; omega)]
        have hsz : (recS (q + (L.length : Int)) t).data.toList.length = (recS (q + (L.length : Int)) t).size := rfl
        rw [List.take_of_length_le (by rw [hsz]; unfold many; omega)]
        exact List.prefix_append _ _
      cases f' with
      | zero => omega
      | succ f' =>
        rw [logR_some hrec]
        exact ⟨_, rfl⟩
    · intro kl hkl
      have hkr := kept_right kl hwr
      simp only [List.nil_append] at hkr ⊢
      rw [dkCrash_y (by omega) (by simpa using hwr)]
      have hmem := keptN_mem (cs := wrsOf (N : Int) (recS (q + (L.length : Int)) t) (many (recS (q + (L.length : Int)) t))) (kl := kl) (wrsOf (N : Int) (recS (q + (L.length : Int)) t) (many (recS (q + (L.length : Int)) t))).length (Nat.le_refl _)
      simp only
      generalize keptN (wrsOf (N : Int) (recS (q + (L.length : Int)) t) (many (recS (q + (L.length : Int)) t))) kl (wrsOf (N : Int) (recS (q + (L.length : Int)) t) (many (recS (q + (L.length : Int)) t))).length = kp at *
      have hcr : dkRight ⟨flushL fl kp, []⟩ = true := flushed_r hkr
      have hnb : ¬ lgBad ⟨flushL fl kp, []⟩ (a : Int) q := not_bad hcr (by show a < (flushL fl kp).length; rw [flushL_len]; omega) ⟨hq1, hq2⟩
      rw [dkLog_ok hnb]
      simp only [Int.toNat_natCast]
      have e0 : flushL (flushL fl kp) [] = flushL fl kp := rfl
      rw [e0]
      obtain ⟨f', e1, e2⟩ := hag (flushL fl kp) (flushL_len _ _) (fun j h1 h2 => (flushL_other kp fl j (fun x hx => by have := wrs_pos (hmem x hx); omega)).symm)
      rw [flushL_len, hfl, e2]
      exact ⟨_, rfl⟩
theorem log_next {d : Dk} {a : Nat} {q : Int} (hb : ¬ lgBad d (a : Int) q) : wI64 (dkLog d (a : Int) q).2.1 := by
  obtain ⟨hR, hal, _⟩ := log_facts hb
  have h64 := flush64 hR
  have hfl := flushL_len d.cache d.secs
  have hb2 := (dkRight_bounds hR).1
  rw [dkLog_ok hb]
  simp only [Int.toNat_natCast]
  have hle := logR_le h64 (d.secs.length - a + 1) a q (by omega)
  unfold wI64
  omega
theorem log_seq {d : Dk} {a : Nat} {q : Int} (hb : ¬ lgBad d (a : Int) q) (i : Nat) (hi : i < (dkLog d (a : Int) q).1.length) : ((dkLog d (a : Int) q).1.getD i noWr).pos = q + (i : Int) := by
  rw [dkLog_ok hb] at hi ⊢
  exact logR_seq _ _ _ i hi
end Go.Proofs.Ytfhfhpnoeghgmaa

/-
  A range over a function that would go on without end: the loop's body ends it. What the caller's invariant says of what has come is told to the function.
-/
namespace Go.Proofs.Ytfhfhpnoeghgmaa
open Go.RowKit

variable {F : Fence} {n : Nat} {P : Program}

/-- The contract of such a function: of the caller's invariant it knows G; some beginning of what it tells has come when it ends. -/
def EndsBy {α : Type} (F : Fence) (n : Nat) (P : Program) (g : Nat) (lb : Array Value) (encs : α → Array Value) (n₀ N : Nat) (G Sp : List α → Prop) (w : World) : Prop :=
  ∀ (l : Nat) (J Jx : List α → World → Prop) (W : World), Below w.heap.size w W → AbidesFrom W.heap.size J → (∀ s X, J s X → G s) →
    (∀ pre x X, J pre X → pre.length < N → YieldAt F (n - 1) P l (encs x) X fun e X' => (e = .returned (.bool true) ∧ J (pre ++ [x]) X' ∧ Below n₀ X X') ∨ (e = .returned (.bool false) ∧ Jx (pre ++ [x]) X')) →
    J [] W → CallsIn F n P g (#[.func (.yield l) #[] #[]] ++ lb) W fun e W' => (∃ v, e = .returned v) ∧ ∃ pre, Sp pre ∧ Jx pre W'

/-- The two blocks of the loop's own: its record in a state, no deferred calls. -/
structure OwnTwo (d : Nat) (rc : Loop) (W : World) : Prop where
  loop : W.heap[d + 1]? = some (.loop rc)
  calls : W.heap[d]? = some (.deferred (some []))
theorem OwnTwo.others {d : Nat} {rc : Loop} {W W' : World} (h : OwnTwo d rc W) (hk : KeepsOthers W W') : OwnTwo d rc W' := ⟨hk.same _ _ h.loop rfl, hk.same _ _ h.calls rfl⟩
theorem OwnTwo.put {d : Nat} {rc rc' : Loop} {W : World} (h : OwnTwo d rc W) : OwnTwo d rc' (W.putObj (d + 1) (.loop rc')) :=
  ⟨World.putObj_heap_same (Array.getElem?_eq_some_iff.1 h.loop).1, (World.putObj_heap_other (by omega)).trans h.calls⟩
theorem OwnTwo.grown {d B : Nat} {rc : Loop} {W W' : World} {row : Option Nat} (h : OwnTwo d rc W) (hg : W.grownBy W' row) (hr : ∀ r, row = some r → B ≤ r ∧ ∃ o : Obj, W.heap[r]? = some o ∧ o.isWalk = true) : OwnTwo d rc W' :=
  ⟨(grownBy_keeps hg (fun r e => (hr r e).2) h.loop rfl).trans h.loop, (grownBy_keeps hg (fun r e => (hr r e).2) h.calls rfl).trans h.calls⟩

set_option maxHeartbeats 1000000 in
theorem wpIn_rangeFunc_till {α : Type} {g : Operand} {ps : Array Tmp} {assign body : Code} {Q : Exit → Act → World → Prop} {a : Act} {w : World}
    (hro : F.round = none) (h1 : 1 ≤ n) {gf : Nat} {lb : Array Value} (hg : a.eval g = .func (.func gf) #[] lb) (hFg : F.fn gf) (eg : ∀ args w, (callFunc gf args).run P w = .ok (.enter gf args) w)
    {encs : α → Array Value} {n₀ N : Nat} {G Sp : List α → Prop} (hseq : EndsBy F (n - 1) P gf lb encs n₀ N G Sp w) (hn₀ : n₀ ≤ w.heap.size) (hps : ∀ x, (encs x).size = ps.size)
    (I : List α → World → Prop) (Ix : List α → World → Prop) (id : Nat) (hI : OwnFrom w.heap.size I) (hIx : OwnFrom w.heap.size Ix) (hG : ∀ s W, I s W → G s) (h0 : I [] w)
    (M : List α → α → Act → World → Prop) (hM : ∀ a' x, OwnFrom w.heap.size (fun s W => M s x a' W))
    (hassign : ∀ (l : Nat) (pre : List α) (x : α) (W : World) (K : Act → World → Prop), I pre W → (∀ a' W', KeepsOthers W W' → Below n₀ W W' → M pre x a' W' → K a' W') →
      assign.wpIn (F.inRound l) (n - 1 - 1) P (Exit.then K (fun _ _ _ => False)) { tmps := (ps.zip (encs x)).foldl (fun t (p, v) => t.setIfInBounds p v) a.tmps, defers := [] } W)
    (hbody : ∀ (l : Nat) (pre : List α) (x : α) (a' : Act) (W : World), M pre x a' W → pre.length < N → body.wpIn (F.inRound l) (n - 1 - 1) P (fun e _ W' => (e = .normal ∧ KeepsOthers W W' ∧ Below n₀ W W' ∧ I (pre ++ [x]) W') ∨ (e = .exit id ∧ KeepsOthers W W' ∧ Ix (pre ++ [x]) W')) a' W)
    (hstop : ∀ (D : Nat) (pre : List α) (W : World), w.heap.size ≤ D → Sp pre → Ix pre W → W.heap[D]? = some (.deferred (some [])) → (Code.exit id).wpIn F n P Q { a with defers := { target := .collected D, args := #[] } :: a.defers } W) :
    (Code.rangeFunc g ps assign body).wpIn F n P Q a w := by
  refine wpIn_rangeFunc (fun fn hfn => ?_)
  rw [hro]
  obtain ⟨R, hR⟩ : ∃ R : LoopState → Option Code → Loop, R = fun st pe => { state := st, pending := pe, fn, tmps := a.tmps, params := ps, assign, body, defers := w.heap.size } := ⟨_, rfl⟩
  obtain ⟨d, hd⟩ : ∃ d, d = w.heap.size := ⟨_, rfl⟩
  have hs1 : ((w.alloc (.deferred (some []))).alloc (.loop (R .ready none))).heap.size = d + 2 := by simp [hd]
  have two0 : OwnTwo d (R .ready none) ((w.alloc (.deferred (some []))).alloc (.loop (R .ready none))) := by
    have e := World.alloc_heap_new (w.alloc (.deferred (some []))) (.loop (R .ready none))
    rw [World.size_alloc, ← hd] at e
    exact ⟨e, by rw [hd]; exact (Below.heap_alloc _ _ _ (by simp)).trans (World.alloc_heap_new w _)⟩
  have b0 : Below w.heap.size w ((w.alloc (.deferred (some []))).alloc (.loop (R .ready none))) := ((Below.refl _ w).alloc (Nat.le_refl _) _).alloc (by simp) _
  have i0 : I [] ((w.alloc (.deferred (some []))).alloc (.loop (R .ready none))) := hI.alloc _ (hI.alloc _ h0)
  have run0 : (Instr.enterLoop fn a.tmps ps assign body none).run P w = .ok (d + 1, [{ target := .collected d, args := #[] }]) ((w.alloc (.deferred (some []))).alloc (.loop (R .ready none))) := by
    rw [hR, hd]; exact run_enterLoop_outer _ _ _ _ _
  generalize (w.alloc (.deferred (some []))).alloc (.loop (R .ready none)) = W1 at *
  have bel : ∀ (W : World) (rc rc' : Loop), OwnTwo d rc W → Below n₀ W (W.putObj (d + 1) (.loop rc')) := fun W rc rc' ht => belowK_b (w := w) hn₀ W (d + 1) _ _ (by omega) ht.loop rfl rfl
  have keep : ∀ {β : Type} (X : β → World → Prop), OwnFrom w.heap.size X → ∀ (s : β) (W : World) (rc rc' : Loop), OwnTwo d rc W → X s W → X s (W.putObj (d + 1) (.loop rc')) := fun X hX s W rc rc' ht hs => hX.putObj _ hs (by omega) ht.loop rfl
  refine ⟨d + 1, [{ target := .collected d, args := #[] }], W1, { target := .fn (.func gf) lb, args := #[.func (.yield (d + 1)) #[] #[]] }, W1, gf, #[.func (.yield (d + 1)) #[] #[]] ++ lb, W1, run0, ?_, ?_, ?_, fun _ => h1, ?_⟩
  · simp only [resolve, hg]
    simp [go_sem]
  · intro f' hf'; simp [Target.leads] at hf'; subst hf'; exact hFg
  · simp [invoke, go_sem, eg]
  refine (hseq (d + 1) (fun pre W => I pre W ∧ OwnTwo d (R .ready none) W) (fun pre W => Ix pre W ∧ OwnTwo d (R .done (some (.exit id))) W) W1 b0 ?_ (fun s X h => hG s X h.1) ?_ ⟨i0, two0⟩).mono ?_
  · intro s A B row hs hg' hr
    exact ⟨hI s A B row hs.1 hg' (fun r e => by obtain ⟨hB, o, ho, hw⟩ := hr r e; exact ⟨by omega, o, ho, Obj.not_cells_of_walk hw⟩), hs.2.grown hg' hr⟩
  · rintro pre x W ⟨hi, ht⟩ hlen
    have hy := run_yield (P := P) (args := encs x) ht.loop (by rw [hR]; exact hps x)
    rw [hR] at hy
    refine ⟨fn, _, assign, body, hy, roundIn_of_wpIn hfn (hassign _ pre x W _ hi (fun a' Wa hka hba hm => ?_))⟩
    have ta := ht.others hka
    refine ⟨_, run_beginRound ta.loop (by rw [hR]), ?_⟩
    have tb : OwnTwo d { R .ready none with state := .busy } (Wa.putObj (d + 1) (.loop { R .ready none with state := .busy })) := ta.put
    have mb := keep _ (hM a' x) pre Wa _ { R .ready none with state := .busy } ta hm
    have bb := bel Wa _ { R .ready none with state := .busy } ta
    refine wpIn_mono (hbody _ pre x a' _ mb hlen) ?_
    have fin : ∀ (jump : Option Code) (W3 : World), KeepsOthers (Wa.putObj (d + 1) (.loop { R .ready none with state := .busy })) W3 → OwnTwo d { R .ready none with state := .busy } W3 ∧
        (Instr.endRound (d + 1) jump).run P W3 = .ok (.bool jump.isNone) (W3.putObj (d + 1) (.loop (R (if jump.isNone then .ready else .done) jump))) := fun jump W3 hk3 => by
      have t3 := tb.others hk3
      refine ⟨t3, ?_⟩
      have := run_endRound (P := P) jump t3.loop
      rw [hR] at this ⊢
      exact this
    rintro e a3 W3 (⟨rfl, hk3, hb3, hi3⟩ | ⟨rfl, hk3, hi3⟩)
    · obtain ⟨t3, hr⟩ := fin none W3 hk3
      exact ⟨_, _, hr, .inl ⟨rfl, ⟨keep I hI _ W3 _ _ t3 hi3, t3.put⟩, hba.trans (bb.trans (hb3.trans (bel W3 _ _ t3)))⟩⟩
    · obtain ⟨t3, hr⟩ := fin (some (.exit id)) W3 hk3
      exact ⟨_, _, hr, .inr ⟨rfl, keep Ix hIx _ W3 _ _ t3 hi3, t3.put⟩⟩
  · rintro e W2 ⟨⟨v, rfl⟩, pre, hsp, hi, ht⟩
    have hr := run_endLoop (P := P) ht.loop (by rw [hR]; simp)
    rw [hR] at hr
    refine ⟨some (.exit id), _, hr, hstop d pre _ (by omega) hsp ?_ ?_⟩
    · exact hIx.putObj _ hi (by omega) ht.loop rfl
    · exact (World.putObj_heap_other (by omega)).trans ht.calls
/-- The same, where what the assignments leave is written out: the slots by T, the world by M. -/
theorem wpIn_rangeFunc_tillT {α β : Type} {g : Operand} {ps : Array Tmp} {assign body : Code} {Q : Exit → Act → World → Prop} {a : Act} {w : World} (T : Act → α → β → Act)
    (hro : F.round = none) (h1 : 1 ≤ n) {gf : Nat} {lb : Array Value} (hg : a.eval g = .func (.func gf) #[] lb) (hFg : F.fn gf) (eg : ∀ args w, (callFunc gf args).run P w = .ok (.enter gf args) w)
    {encs : α → Array Value} {n₀ N : Nat} {G Sp : List α → Prop} (hseq : EndsBy F (n - 1) P gf lb encs n₀ N G Sp w) (hn₀ : n₀ ≤ w.heap.size) (hps : ∀ x, (encs x).size = ps.size)
    (I : List α → World → Prop) (Ix : List α → World → Prop) (id : Nat) (hI : OwnFrom w.heap.size I) (hIx : OwnFrom w.heap.size Ix) (hG : ∀ s W, I s W → G s) (h0 : I [] w)
    (M : List α → α → β → World → Prop) (hM : ∀ x y, OwnFrom w.heap.size (fun s W => M s x y W))
    (hassign : ∀ (l : Nat) (pre : List α) (x : α) (W : World) (K : Act → World → Prop), I pre W → (∀ y W', KeepsOthers W W' → Below n₀ W W' → M pre x y W' → K (T a x y) W') →
      assign.wpIn (F.inRound l) (n - 1 - 1) P (Exit.then K (fun _ _ _ => False)) { tmps := (ps.zip (encs x)).foldl (fun t (p, v) => t.setIfInBounds p v) a.tmps, defers := [] } W)
    (hbody : ∀ (l : Nat) (pre : List α) (x : α) (y : β) (W : World), M pre x y W → pre.length < N → body.wpIn (F.inRound l) (n - 1 - 1) P (fun e _ W' => (e = .normal ∧ KeepsOthers W W' ∧ Below n₀ W W' ∧ I (pre ++ [x]) W') ∨ (e = .exit id ∧ KeepsOthers W W' ∧ Ix (pre ++ [x]) W')) (T a x y) W)
    (hstop : ∀ (D : Nat) (pre : List α) (W : World), w.heap.size ≤ D → Sp pre → Ix pre W → W.heap[D]? = some (.deferred (some [])) → (Code.exit id).wpIn F n P Q { a with defers := { target := .collected D, args := #[] } :: a.defers } W) :
    (Code.rangeFunc g ps assign body).wpIn F n P Q a w :=
  wpIn_rangeFunc_till hro h1 hg hFg eg hseq hn₀ hps I Ix id hI hIx hG h0 (fun pre x a' W => ∃ y, a' = T a x y ∧ M pre x y W)
    (fun a' x s A B row hs hg' hr => by
      obtain ⟨y, e, hm⟩ := hs
      exact ⟨y, e, hM x y s A B row hm hg' hr⟩)
    (fun l pre x W K hi hK => hassign l pre x W K hi (fun y W' h2 h3 h4 => hK _ W' h2 h3 ⟨y, rfl, h4⟩))
    (fun l pre x a' W hm hl => by
      obtain ⟨y, rfl, hm⟩ := hm
      exact hbody l pre x y W hm hl)
    hstop
end Go.Proofs.Ytfhfhpnoeghgmaa

/-
  Contracts: a prefix; the record with whose bytes a text begins, by the program.
-/
namespace Go.Proofs.Ytfhfhpnoeghgmaa
open Go.RowKit
set_option maxRecDepth 100000

theorem prefix_iff (s p : ByteArray) : p.data.toList <+: s.data.toList ↔ p.size ≤ s.size ∧ s.extract 0 p.size = p := by
  have h1 : p.data.toList.length = p.size := rfl
  constructor
  · intro h
    have hl := h.length_le
    refine ⟨hl, ?_⟩
    apply ba_ext
    rw [ext_list, List.drop_zero, Nat.sub_zero, ← h1]
    exact (List.prefix_iff_eq_take.1 h).symm
  · rintro ⟨_, h⟩
    rw [← h, ext_list]
    exact List.take_prefix _ _
theorem sliteHasPrefix_any (s p : ByteArray) (w : World) :
    Calls Try.prog 126 #[.string s, .string p] w fun e w' => e = .returned (.bool (decide (p.data.toList <+: s.data.toList))) ∧ w' = w := by
  by_cases hl : p.size ≤ s.size
  · have hl' : (p.size : Int) ≤ (s.size : Int) := by omega
    by_cases he : s.extract 0 p.size = p
    · have HD : Hid (decide (p.data.toList <+: s.data.toList) = true) := decide_eq_true ((prefix_iff s p).2 ⟨hl, he⟩)
      go_enter Try.func126, Try.ntmps126
      go_wp2
      go_ret
      exact ⟨ret_bool (by rw [HD.out]), rfl⟩
    · have HD : Hid (decide (p.data.toList <+: s.data.toList) = false) := decide_eq_false (fun h => he ((prefix_iff s p).1 h).2)
      go_enter Try.func126, Try.ntmps126
      go_wp2
      go_ret
      exact ⟨ret_bool (by rw [HD.out]; exact str_neL he), rfl⟩
  · have HD : Hid (decide (p.data.toList <+: s.data.toList) = false) := decide_eq_false (fun h => hl ((prefix_iff s p).1 h).1)
    have hl' : ¬ (p.size : Int) ≤ (s.size : Int) := by omega
    go_enter Try.func126, Try.ntmps126
    go_wp2
    go_ret
    exact ⟨ret_bool (by rw [HD.out]), rfl⟩
theorem hasPrefix_any (s p : ByteArray) (w : World) :
    Calls Try.prog 118 #[.string s, .string p] w fun e w' => e = .returned (.bool (decide (p.data.toList <+: s.data.toList))) ∧ w' = w := by
  have H := hide (fun W => sliteHasPrefix_any s p W)
  generalize decide (p.data.toList <+: s.data.toList) = b at *
  go_enter Try.func118, Try.ntmps118
  go_wp2_with (go_at_call 126; refine (H.out _).mono ?_; rintro e w1 ⟨rfl, rfl⟩)
  go_ret
  exact ⟨rfl, rfl⟩
theorem resRec {fn : Func} {p1 p2 : Tmp} (h : fn.results = #[.cell p1 34, .tmp p2]) (tmps : Array Value) (w : World) (g : Nat) (a b c : Value) (hp : tmps.getD p1 undef = .pointer (some ⟨g, 0, none⟩)) (hc : tmps.getD p2 undef = c)
    (hg : w.heap[g]? = some (.cells #[a, b] 34 (0, 0))) : (results fn tmps).run Try.prog w = .ok (.tuple #[.agg #[a, b], c]) w := by
  have hp' : tmps[p1]?.getD undef = .pointer (some ⟨g, 0, none⟩) := by simpa using hp
  have hc' : tmps[p2]?.getD undef = c := by simpa using hc
  have hl := run_loadVar_row (P := Try.prog) w g 34 34 #[a, b] (0, 0) _ hg Try.underlying34 rfl (by kernel_rfl)
  simp [results, h, hp', hc', asAddr, hl]
/-- What recordIn answers. -/
def recV (s : ByteArray) (q : Int) : Value := match recAt s q with
  | some t => .tuple #[.agg #[.int .i64 q, .string t], .int .i64 (many (recS q t) : Nat)]
  | none => .tuple #[.agg #[.int .i64 0, .string ⟨#[]⟩], .int .i64 0]
theorem recV_some {s : ByteArray} {q : Int} {t : ByteArray} (h : recAt s q = some t) : recV s q = .tuple #[.agg #[.int .i64 q, .string t], .int .i64 (many (recS q t) : Nat)] := by unfold recV; rw [h]
theorem recV_none {s : ByteArray} {q : Int} (h : recAt s q = none) : recV s q = .tuple #[.agg #[.int .i64 0, .string ⟨#[]⟩], .int .i64 0] := by unfold recV; rw [h]
theorem recAt_no {s : ByteArray} {q : Int} (h : ¬ ((txtAt s (1 + (numS q).size)).2.2 = 0 ∧ recRight q (txtAt s (1 + (numS q).size)).1 = true ∧ (recS q (txtAt s (1 + (numS q).size)).1).data.toList <+: s.data.toList)) : recAt s q = none := if_neg h
theorem recAt_yes {s : ByteArray} {q : Int} (h1 : (txtAt s (1 + (numS q).size)).2.2 = 0) (h2 : recRight q (txtAt s (1 + (numS q).size)).1 = true) (h3 : (recS q (txtAt s (1 + (numS q).size)).1).data.toList <+: s.data.toList) : recAt s q = some (txtAt s (1 + (numS q).size)).1 := if_pos ⟨h1, h2, h3⟩
set_option maxHeartbeats 4000000 in
theorem recordIn_any (s : ByteArray) (q : Int) (hs : s.size ≤ 44800) (hq : -9223372036854775808 ≤ q ∧ q ≤ 9223372036854775807) (w : World) :
    Calls Try.prog 101 #[.string s, .int .i64 q] w fun e w' => e = .returned (recV s q) ∧ Below w.heap.size w w' := by
  have B0 := hide ((Below.refl w.heap.size w).alloc (Nat.le_refl _) (.cells #[.int .i64 0, .string ⟨#[]⟩] 34))
  have X0 := hide (heap_alloc_new w (.cells #[.int .i64 0, .string ⟨#[]⟩] 34))
  have HN := hide (fun W => implPutNum_any q hq.1 hq.2 W)
  rw [show strOfNums (putL 9 (foldN q)) = numS q from rfl] at HN
  have hnl := numS_len q
  have HT := hide (fun W => readText_big s (1 + (numS q).size) (by omega) _ _ _ rfl rfl rfl W)
  have hY := @recAt_yes s q
  have hNo := @recAt_no s q
  change Hid (∀ W, Calls Try.prog 117 #[.string s, .int .i64 ((1 + (numS q).size : Nat) : Int)] W fun e w' => e = .returned (.tuple #[.string (txtAt s (1 + (numS q).size)).1, .int .i64 (txtAt s (1 + (numS q).size)).2.1, errV (txtAt s (1 + (numS q).size)).2.2]) ∧ Below W.heap.size W w') at HT
  rw [show ((1 + (numS q).size : Nat) : Int) = 1 + ((numS q).size : Int) by omega] at HT
  generalize txtAt s (1 + (numS q).size) = R at *
  generalize numS q = A at *
  obtain ⟨t, z, c⟩ := R
  simp only at HT hY hNo
  have HRR := hide (fun W => implRecordRight_any q t W)
  by_cases hc : c = 0
  · subst hc
    have he : errV 0 = .nilIface := rfl
    rw [he] at HT
    cases hr : recRight q t with
    | false =>
      rw [hr] at HRR
      have HV := hide (recV_none (hNo (by rw [hr]; simp)))
      clear hY hNo hq hs
      rw [HV.out]
      go_enter Try.func101, Try.ntmps101
      go_wp2_with (first | (go_at_call 93; refine (HN.out _).mono ?_; rintro e w1 ⟨rfl, b1⟩; have B1 := hide (B0.out.trans (b1.mono B0.out.size)); have X1 := hide ((b1.block w.heap.size (blkR X0.out)).trans X0.out); clear b1) | (go_at_call 117; refine (HT.out _).mono ?_; rintro e w2 ⟨rfl, b2⟩; have B2 := hide (B1.out.trans (b2.mono B1.out.size)); have X2 := hide ((b2.block w.heap.size (blkR X1.out)).trans X1.out); clear b2; have X2b := hide ((heap_old w2 (.cells #[.int .i64 q, .string t] 34) _ (blkR X2.out)).trans X2.out); have B2b := hide (B2.out.alloc B2.out.size (.cells #[.int .i64 q, .string t] 34)); obtain ⟨x0, x1, xf⟩ := cells2 X2.out; obtain ⟨u0, u1, uf⟩ := cells2 X2b.out) | (go_at_call 45; refine (HRR.out _).mono ?_; rintro e w3 ⟨rfl, b3⟩; have R3 := hide ((b3.block w2.heap.size (by simp)).trans (heap_alloc_new w2 (.cells #[.int .i64 q, .string t] 34))); have X3 := hide ((b3.block w.heap.size (by have := blkR X2.out; rw [World.size_alloc]; omega)).trans ((heap_old w2 (.cells #[.int .i64 q, .string t] 34) _ (blkR X2.out)).trans X2.out)); have B3 := hide ((B2.out.alloc B2.out.size (.cells #[.int .i64 q, .string t] 34)).trans (b3.mono (by have := B2.out.size; rw [World.size_alloc]; omega))); clear b3 x0 x1 xf; obtain ⟨x0, x1, xf⟩ := cells2 X3.out; obtain ⟨r0, r1, rf⟩ := cells2 R3.out))
      refine bodyPost_ret (v := .tuple #[.agg #[.int .i64 0, .string ⟨#[]⟩], .int .i64 0]) (resRec Try.results101 _ _ w.heap.size _ _ _ rfl rfl (set2 X3.out)) rfl ⟨rfl, ?_⟩
      exact ((B3.out.setCell (by simp) _).setCell (by simp) _)
    | true =>
      rw [hr] at HRR
      have HRB := hide (fun W => implRecordBytes_any q t W hq)
      rw [recBytes_yes hr] at HRB
      have hbl := recBytes_len q t
      rw [recBytes_yes hr] at hbl
      have HHP := hide (fun W => hasPrefix_any s (recS q t) W)
      have HPC := hide (fun W => piecesOf_any (recS q t) (by omega) W)
      by_cases hp : (recS q t).data.toList <+: s.data.toList
      · have HV := hide (recV_some (hY rfl hr hp))
        rw [decide_eq_true hp] at HHP
        generalize many (recS q t) = mm at *
        generalize recS q t = TB at *
        clear hY hNo hq hs hp hr hbl
        rw [HV.out]
        go_enter Try.func101, Try.ntmps101
        go_wp2_with (first | (go_at_call 93; refine (HN.out _).mono ?_; rintro e w1 ⟨rfl, b1⟩; have B1 := hide (B0.out.trans (b1.mono B0.out.size)); have X1 := hide ((b1.block w.heap.size (blkR X0.out)).trans X0.out); clear b1) | (go_at_call 117; refine (HT.out _).mono ?_; rintro e w2 ⟨rfl, b2⟩; have B2 := hide (B1.out.trans (b2.mono B1.out.size)); have X2 := hide ((b2.block w.heap.size (blkR X1.out)).trans X1.out); clear b2; have X2b := hide ((heap_old w2 (.cells #[.int .i64 q, .string t] 34) _ (blkR X2.out)).trans X2.out); have B2b := hide (B2.out.alloc B2.out.size (.cells #[.int .i64 q, .string t] 34)); obtain ⟨x0, x1, xf⟩ := cells2 X2.out; obtain ⟨u0, u1, uf⟩ := cells2 X2b.out) | (go_at_call 45; refine (HRR.out _).mono ?_; rintro e w3 ⟨rfl, b3⟩; have R3 := hide ((b3.block w2.heap.size (by simp)).trans (heap_alloc_new w2 (.cells #[.int .i64 q, .string t] 34))); have X3 := hide ((b3.block w.heap.size (by have := blkR X2.out; rw [World.size_alloc]; omega)).trans ((heap_old w2 (.cells #[.int .i64 q, .string t] 34) _ (blkR X2.out)).trans X2.out)); have B3 := hide ((B2.out.alloc B2.out.size (.cells #[.int .i64 q, .string t] 34)).trans (b3.mono (by have := B2.out.size; rw [World.size_alloc]; omega))); clear b3 x0 x1 xf; obtain ⟨x0, x1, xf⟩ := cells2 X3.out; obtain ⟨r0, r1, rf⟩ := cells2 R3.out) | (go_at_call 46; refine (HRB.out _).mono ?_; rintro e w4 ⟨rfl, b4⟩; have R4 := hide ((b4.block w2.heap.size (blkR R3.out)).trans R3.out); have X4 := hide ((b4.block w.heap.size (blkR X3.out)).trans X3.out); have B4 := hide (B3.out.trans (b4.mono B3.out.size)); clear b4 x0 x1 xf r0 r1 rf; obtain ⟨x0, x1, xf⟩ := cells2 X4.out; obtain ⟨r0, r1, rf⟩ := cells2 R4.out) | (go_at_call 118; refine (HHP.out _).mono ?_; rintro e w5 ⟨rfl, rfl⟩))
        have hne1 : ¬ w.heap.size = w2.heap.size := Nat.ne_of_lt (blkR X2.out)
        have hne2 : ¬ w2.heap.size = w.heap.size := fun e => hne1 e.symm
        go_region_held3 (fun W => W.cell? ⟨w2.heap.size, 0, none⟩ = some (.int .i64 q) ∧ W.cell? ⟨w2.heap.size, 1, none⟩ = some (.string t)) (go_keep) (first | (go_at_call 82; refine (HPC.out _).mono ?_; rintro e w6 ⟨rfl, rfl⟩) | fail)
        go_wp2
        refine bodyPost_ret (v := .tuple #[.agg #[.int .i64 q, .string t], .int .i64 (mm : Nat)]) (resRec Try.results101 _ _ w.heap.size _ _ _ rfl rfl (set2 X4.out)) rfl ⟨rfl, ?_⟩
        exact ((B4.out.setCell (by simp) _).setCell (by simp) _).drew
      · have HV := hide (recV_none (hNo (fun h => hp h.2.2)))
        rw [decide_eq_false hp] at HHP
        generalize recS q t = TB at *
        clear hY hNo hq hs hp hr hbl HPC
        rw [HV.out]
        go_enter Try.func101, Try.ntmps101
        go_wp2_with (first | (go_at_call 93; refine (HN.out _).mono ?_; rintro e w1 ⟨rfl, b1⟩; have B1 := hide (B0.out.trans (b1.mono B0.out.size)); have X1 := hide ((b1.block w.heap.size (blkR X0.out)).trans X0.out); clear b1) | (go_at_call 117; refine (HT.out _).mono ?_; rintro e w2 ⟨rfl, b2⟩; have B2 := hide (B1.out.trans (b2.mono B1.out.size)); have X2 := hide ((b2.block w.heap.size (blkR X1.out)).trans X1.out); clear b2; have X2b := hide ((heap_old w2 (.cells #[.int .i64 q, .string t] 34) _ (blkR X2.out)).trans X2.out); have B2b := hide (B2.out.alloc B2.out.size (.cells #[.int .i64 q, .string t] 34)); obtain ⟨x0, x1, xf⟩ := cells2 X2.out; obtain ⟨u0, u1, uf⟩ := cells2 X2b.out) | (go_at_call 45; refine (HRR.out _).mono ?_; rintro e w3 ⟨rfl, b3⟩; have R3 := hide ((b3.block w2.heap.size (by simp)).trans (heap_alloc_new w2 (.cells #[.int .i64 q, .string t] 34))); have X3 := hide ((b3.block w.heap.size (by have := blkR X2.out; rw [World.size_alloc]; omega)).trans ((heap_old w2 (.cells #[.int .i64 q, .string t] 34) _ (blkR X2.out)).trans X2.out)); have B3 := hide ((B2.out.alloc B2.out.size (.cells #[.int .i64 q, .string t] 34)).trans (b3.mono (by have := B2.out.size; rw [World.size_alloc]; omega))); clear b3 x0 x1 xf; obtain ⟨x0, x1, xf⟩ := cells2 X3.out; obtain ⟨r0, r1, rf⟩ := cells2 R3.out) | (go_at_call 46; refine (HRB.out _).mono ?_; rintro e w4 ⟨rfl, b4⟩; have R4 := hide ((b4.block w2.heap.size (blkR R3.out)).trans R3.out); have X4 := hide ((b4.block w.heap.size (blkR X3.out)).trans X3.out); have B4 := hide (B3.out.trans (b4.mono B3.out.size)); clear b4 x0 x1 xf r0 r1 rf; obtain ⟨x0, x1, xf⟩ := cells2 X4.out; obtain ⟨r0, r1, rf⟩ := cells2 R4.out) | (go_at_call 118; refine (HHP.out _).mono ?_; rintro e w5 ⟨rfl, rfl⟩))
        refine bodyPost_ret (v := .tuple #[.agg #[.int .i64 0, .string ⟨#[]⟩], .int .i64 0]) (resRec Try.results101 _ _ w.heap.size _ _ _ rfl rfl (set2 X4.out)) rfl ⟨rfl, ?_⟩
        exact ((B4.out.setCell (by simp) _).setCell (by simp) _)
  · have HV := hide (recV_none (hNo (fun h => hc h.1)))
    have HE : errV c = .iface 163 (.agg #[.int .i64 c]) := if_neg hc
    rw [HE] at HT
    clear hY hNo hq hs hc HRR HE
    rw [HV.out]
    go_enter Try.func101, Try.ntmps101
    go_wp2_with (first | (go_at_call 93; refine (HN.out _).mono ?_; rintro e w1 ⟨rfl, b1⟩; have B1 := hide (B0.out.trans (b1.mono B0.out.size)); have X1 := hide ((b1.block w.heap.size (blkR X0.out)).trans X0.out); clear b1) | (go_at_call 117; refine (HT.out _).mono ?_; rintro e w2 ⟨rfl, b2⟩; have B2 := hide (B1.out.trans (b2.mono B1.out.size)); have X2 := hide ((b2.block w.heap.size (blkR X1.out)).trans X1.out); clear b2; have X2b := hide ((heap_old w2 (.cells #[.int .i64 q, .string t] 34) _ (blkR X2.out)).trans X2.out); have B2b := hide (B2.out.alloc B2.out.size (.cells #[.int .i64 q, .string t] 34)); obtain ⟨x0, x1, xf⟩ := cells2 X2.out; obtain ⟨u0, u1, uf⟩ := cells2 X2b.out))
    refine bodyPost_ret (v := .tuple #[.agg #[.int .i64 0, .string ⟨#[]⟩], .int .i64 0]) (resRec Try.results101 _ _ w.heap.size _ _ _ rfl rfl (set2 X2b.out)) rfl ⟨rfl, ?_⟩
    exact ((B2b.out.setCell (by simp) _).setCell (by simp) _)
end Go.Proofs.Ytfhfhpnoeghgmaa

/-
  Contract: what so many sectors of a drive have.
-/
namespace Go.Proofs.Ytfhfhpnoeghgmaa
open Go.RowKit
set_option maxRecDepth 100000

set_option maxHeartbeats 4000000 in
theorem drvRead_any (A B : Nat) (so : Option Addr) (p bm n : Nat) (d : Dk) (a m : Nat) (w : World) (hB : B ≤ w.heap.size) (hdr : dkRight d = true) (hbd : d.secs.length ≤ 700) (ham : a + m ≤ d.secs.length) (hS : StrRow w A B so d.secs) (hM : w.ownsMap Try.prog 2 secR bm n (cacheD d.cache)) :
    Calls Try.prog 88 #[.agg #[.slice so d.secs.length p, .map (some bm)], .int .i64 (a : Int), .int .i64 (m : Int)] w fun e w' => e = .returned (.string (mkS (secsT (flushL d.secs d.cache) a m))) ∧ Below w.heap.size w w' := by
  obtain ⟨i0, hj, hz0, hz1, hz2⟩ := info_parts Try.infoU8
  obtain ⟨n1, hn1⟩ : ∃ n, n = d.secs.length := ⟨_, rfl⟩
  have HH := hide (fun (k : Nat) (W : World) (hk : k < n1) (hb : Below w.heap.size w W) => has_any A B so p bm n d k W (Nat.le_trans hB hb.size) (by rw [← hn1]; exact hk) hdr hbd (hS.kept (hb.mono hB)) (ownsMap_below hM hb))
  have hlenF : (flushL d.secs d.cache).length = n1 := by rw [flushL_len, hn1]
  have H64 : Hid (∀ i, i < n1 → ((flushL d.secs d.cache).getD i ByteArray.empty).data.toList.length = 64) := by rw [← hlenF]; exact flush64 hdr
  have HTL := hide (fun k (hk : a + k ≤ n1) => secsT_len (flush64 hdr) a k (by rw [hlenF]; exact hk))
  have HN := hide (fun k => show secsT (flushL d.secs d.cache) a (k + 1) = secsT (flushL d.secs d.cache) a k ++ ((flushL d.secs d.cache).getD (a + k) ByteArray.empty).data.toList from rfl)
  have H0 : Hid (secsT (flushL d.secs d.cache) a 0 = []) := rfl
  rw [← hn1] at HH ham hbd ⊢
  have hml : m ≤ 700 := by omega
  have hmul : IntKind.i64.wrap ((m : Int) * 64) = (m : Int) * 64 := by rw [IntKind.wrap_i64]; omega
  have hmk : ∀ W : World, (Instr.makeSlice 22 (.int .i64 0) (.int .i64 ((m : Int) * 64))).run Try.prog W = .ok (.slice (some ⟨W.heap.size, 0, none⟩) 0 (m * 64)) (W.alloc (.cells (madeCells #[.int .u8 0] (m * 64)) 5)) := fun W => by
    have h := run_makeSlice (P := Try.prog) (w := W) 22 5 i0 (.int .u8 0) Try.underlying22 hj hz0 .i64 .i64 0 ((m * 64 : Nat) : Int) (by omega) (by omega) (by rw [hz1]; simp; omega) (by rw [hz2]; omega) (by omega)
    rw [hz1, Int.toNat_natCast, Nat.mul_one] at h
    rw [show (m : Int) * 64 = ((m * 64 : Nat) : Int) from by omega]
    exact h
  generalize secsT (flushL d.secs d.cache) a = ST at *
  generalize flushL d.secs d.cache = fl at *
  have B4 := hide ((Below.refl w.heap.size w).alloc (Nat.le_refl _) (.cells #[.slice so n1 p, .map (some bm)] 108))
  have V4 := hide (heap_alloc_new w (.cells #[.slice so n1 p, .map (some bm)] 108))
  have Z4 : Hid ((w.alloc (.cells #[.slice so n1 p, .map (some bm)] 108)).heap.size = w.heap.size + 1) := by show _ = _; simp
  clear hn1 hS hM hdr hlenF hB
  go_enter Try.func88, Try.ntmps88
  go_wp2
  generalize w.alloc (.cells #[.slice so n1 p, .map (some bm)] 108) = w4 at *
  have E5 : w.heap.size + 1 = w4.heap.size := Z4.out.symm
  have O5 : Hid (OwnB w4.heap.size (.slice (some ⟨w.heap.size + 1, 0, none⟩) 0 (m * 64)) (ST 0) (w4.alloc (.cells (madeCells #[.int .u8 0] (m * 64)) 5))) := by
    rw [H0.out, E5]
    exact World.ownsRow_made w4 _ (m * 64) (Nat.le_refl _) (by unfold maxLen; omega) (by simpa using size_madeCells #[.int .u8 0] (m * 64))
  have B5 := hide ((Below.refl w4.heap.size w4).alloc (Nat.le_refl _) (.cells (madeCells #[.int .u8 0] (m * 64)) 5))
  clear E5 Z4 H0
  go_loopw [7, 13] (fun l i wr => ∃ (k : Nat) (v : Value), k ≤ m ∧ i = .int .i64 (k : Int) ∧ l = v ∧ Hid (OwnB w4.heap.size v (ST k) wr) ∧ Hid (Below w4.heap.size w4 wr)) (fun _ i _ => m - (intOf i).toNat)
  case atStart => exact ⟨0, _, Nat.zero_le _, rfl, rfl, O5, B5⟩
  case round =>
    obtain ⟨k, v, hk, rfl, rfl, HO, HB⟩ := hrel
    clear O5 B5
    obtain ⟨ao', cap', hv⟩ := ownB_shape HO.out
    rw [HTL.out k (by omega)] at hv
    subst hv
    by_cases hlt : k < m
    · obtain ⟨v0, v1, vf⟩ := cells2 ((HB.out.block _ (blk_lt' V4.out)).trans V4.out)
      have hc := HH.out (a + k) wr (by omega) (B4.out.trans (HB.out.mono B4.out.size))
      rw [Int.natCast_add] at hc
      have HC := hide hc
      clear hc
      have HX := H64.out (a + k) (by omega)
      have HT := hide (HN.out k)
      generalize (fl.getD (a + k) ByteArray.empty).data.toList = L at *
      have HST := hide (fun W => sectorText_any L HX W)
      have hsz : (mkS L).size = 64 := HX
      have HTK := HTL.out k (by omega)
      have HS63 : Hid ((ST k).length + (mkS L).size ≤ maxLen ∧ (ST k).length + (mkS L).size ≤ 140737488355328) := by rw [HTK, hsz]; show _ ∧ _; unfold maxLen; omega
      have hwr : IntKind.i64.wrap ((a : Int) + (k : Int)) = (a : Int) + (k : Int) := by rw [IntKind.wrap_i64]; omega
      clear HX hsz HTK
      go_wp2_with (first | (go_at_call 89; refine HC.out.mono ?_; rintro e w5 ⟨rfl, b5⟩; have O6 := hide (HO.out.below b5); have B6 := hide (HB.out.trans (b5.mono HB.out.size)); clear b5) | (go_at_call 70; refine (HST.out _).mono ?_; rintro e w6 ⟨rfl, b6⟩; have O7 := hide (O6.out.below b6); have B7 := hide (B6.out.trans (b6.mono B6.out.size)); have HW : Hid (w6.ownsRow w4.heap.size 5 1 (.slice ao' (k * 64) cap') (ST k).length ((numsU (ST k)).map (Value.int .u8))) := O7; clear b6) | (at_builtin; refine Lib.wpList_append_own_string _ rfl _ _ 22 9 rfl w4.heap.size 5 i0 Try.underlying22 Try.underlying9 hj hz0 hz1 hz2 (.slice ao' (k * 64) cap') (ST k).length _ rfl HW.out (mkS L) rfl HS63.out.1 HS63.out.2 B7.out.size ?_; intro v5 w7 o5 g5 l5; have O8 := hide (ownB_str (mkS L) o5); have B8 := hide (B7.out.grown g5 B7.out.size (fun b hb => (World.ownsRow.lt HW.out b hb).1)); clear o5 g5 l5))
      have O9 : Hid (OwnB w4.heap.size v5 (ST (k + 1)) w7) := by rw [HT.out]; exact O8.out
      go_roundw
      case rel => exact ⟨k + 1, _, by omega, by go_num, rfl, O9, B8⟩
      case measure => simp [intOf]; omega
    · obtain rfl : k = m := by omega
      have HCV := hide (OwnB.conv HO.out)
      have hconv := HCV.out
      go_wp2
      go_ret
      exact ⟨rfl, B4.out.trans (HB.out.mono B4.out.size)⟩
end Go.Proofs.Ytfhfhpnoeghgmaa

/-
  Contract: the records of a log are told one by one, by the program.
-/
namespace Go.Proofs.Ytfhfhpnoeghgmaa
open Go.RowKit Go.Shelf
attribute [local go_sem] Oper.semAt_some
set_option maxRecDepth 100000

theorem room_noneL {F : Fence} (hd : F.depth = none) (k : Nat) : F.room k := fun d h => by rw [hd] at h; cases h
theorem roundAnyL {F : Fence} (hd : F.depth = none) {m m' : Nat} {P : Program} {l : Nat} {f : FuncId} {tmps : Array Value} {assign body : Code} {w : World} {R : Ending → World → Prop}
    (h : RoundIn F m P l f tmps assign body w R) : RoundIn F m' P l f tmps assign body w R := ⟨h.1, fun c cs _ => h.2 c cs (room_noneL hd _)⟩
theorem yieldAnyL {F : Fence} (hd : F.depth = none) {m : Nat} (m' : Nat) {P : Program} {l : Nat} {args : Array Value} {W : World} {R : Ending → World → Prop} (h : YieldAt F m P l args W R) : YieldAt F m' P l args W R := by
  obtain ⟨fn, tmps, assign, body, hy, hR⟩ := h
  exact ⟨fn, tmps, assign, body, hy, roundAnyL hd hR⟩
/-- What is told: a record, and how many sectors it lies on. -/
structure El where
  seq : Int
  text : ByteArray
  many : Nat
  le : many ≤ 700
def encEl (x : El) : Array Value := #[.agg #[.int .i64 x.seq, .string x.text], .int .i64 (x.many : Int)]
def elWr (x : El) : Wr := ⟨x.seq, x.text⟩
/-- These have been told from sector k0 on; the next is looked for at k, with number q. -/
inductive Tld (fl : List ByteArray) (k0 : Nat) (q0 : Int) : List El → Nat → Int → Prop
  | nil : Tld fl k0 q0 [] k0 q0
  | snoc {pre : List El} {k : Nat} {q : Int} {t : ByteArray} {x : El} : Tld fl k0 q0 pre k q → recAt (restT fl k) q = some t → x.seq = q → x.text = t → x.many = many (recS q t) → Tld fl k0 q0 (pre ++ [x]) (k + many (recS q t)) (q + 1)
theorem Tld.log {fl : List ByteArray} (h64 : ∀ i, i < fl.length → (fl.getD i ByteArray.empty).size = 64) {k0 : Nat} {q0 : Int} {pre : List El} {k : Nat} {q : Int} (h : Tld fl k0 q0 pre k q) (hk0 : k0 ≤ fl.length) (F : Nat) (hF : fl.length - k0 < F) :
    k0 ≤ k ∧ k ≤ fl.length ∧ k = k0 + (pre.map El.many).sum ∧ pre.length ≤ k - k0 ∧ ∃ f, fl.length - k < f ∧ logR fl F k0 q0 = (pre.map elWr ++ (logR fl f k q).1, (logR fl f k q).2) := by
  induction h with
  | nil => exact ⟨Nat.le_refl _, hk0, by simp, by simp, F, hF, by simp⟩
  | @snoc pre k q t x h hr h1 h2 h3 ih =>
    obtain ⟨i1, i2, i3, i4, f, i5, i6⟩ := ih
    obtain ⟨m1, m2, _⟩ := recAt_many h64 i2 hr
    refine ⟨by omega, m2, ?_, ?_, f - 1, by omega, ?_⟩
    · rw [List.map_append, List.sum_append, ← Nat.add_assoc, ← i3]; simp [h3]
    · rw [List.length_append, List.length_singleton]; omega
    · obtain ⟨f', rfl⟩ : ∃ f', f = f' + 1 := ⟨f - 1, by omega⟩
      rw [i6, logR_some hr, Nat.add_sub_cancel]
      simp [elWr, h1, h2]
theorem Tld.stop {fl : List ByteArray} (h64 : ∀ i, i < fl.length → (fl.getD i ByteArray.empty).size = 64) {k0 : Nat} {q0 : Int} {pre : List El} {k : Nat} {q : Int} (h : Tld fl k0 q0 pre k q) (hk0 : k0 ≤ fl.length) (hn : recAt (restT fl k) q = none) :
    logR fl (fl.length - k0 + 1) k0 q0 = (pre.map elWr, k0 + (pre.map El.many).sum) := by
  obtain ⟨_, _, i3, _, f, i5, i6⟩ := h.log h64 hk0 (fl.length - k0 + 1) (by omega)
  obtain ⟨f', rfl⟩ : ∃ f', f = f' + 1 := ⟨f - 1, by omega⟩
  rw [i6, logR_none hn, ← i3]
  simp
theorem secsT_split (l : List ByteArray) (a j : Nat) : ∀ m, secsT l a (j + m) = secsT l a j ++ secsT l (a + j) m
  | 0 => by simp [secsT]
  | m + 1 => by
    rw [← Nat.add_assoc]
    show secsT l a (j + m) ++ _ = _ ++ (secsT l (a + j) m ++ _)
    rw [secsT_split l a j m, List.append_assoc, Nat.add_assoc]
theorem restT_drop {fl : List ByteArray} (h64 : ∀ i, i < fl.length → (fl.getD i ByteArray.empty).size = 64) {k0 k : Nat} (h1 : k0 ≤ k) (h2 : k ≤ fl.length) : (restT fl k0).extract ((k - k0) * 64) (restT fl k0).size = restT fl k := by
  apply ba_ext
  have hs := secsT_split fl k0 (k - k0) (fl.length - k)
  rw [show k - k0 + (fl.length - k) = fl.length - k0 by omega, show k0 + (k - k0) = k by omega] at hs
  have hl := secsT_len h64 k0 (k - k0) (by omega)
  rw [drop_extract]
  unfold restT
  rw [mkS_list, mkS_list, hs, ← hl, List.drop_left]
theorem J_below {α : Type} {B : Nat} {J : List α → World → Prop} (h : AbidesFrom B J) {s : List α} {W W' : World} (hs : J s W) (hb : Below W.heap.size W W') : J s W' :=
  h s W W' none hs (grown_drew.grown_below' (grown_refl W none) hb) (fun r e => by cases e)
theorem J_drew {α : Type} {B : Nat} {J : List α → World → Prop} (h : AbidesFrom B J) {s : List α} {W : World} (hs : J s W) : J s W.drew :=
  h s W W.drew none hs grown_drew (fun r e => by cases e)
end Go.Proofs.Ytfhfhpnoeghgmaa

/-
  Contract: the iterator over a log's records.
-/
namespace Go.Proofs.Ytfhfhpnoeghgmaa
open Go.RowKit Go.Shelf
attribute [local go_sem] Oper.semAt_some
set_option maxRecDepth 100000

/-- What has come when the loop is left: what was told, and one more. -/
def StopAt (fl : List ByteArray) (k0 : Nat) (q0 : Int) (p : List El) : Prop := ∃ (pre : List El) (k : Nat) (q : Int) (x : El), Tld fl k0 q0 pre k q ∧ p = pre ++ [x] ∧ (x.many = 0 → recAt (restT fl k) q = none)
set_option maxHeartbeats 4000000 in
theorem recs_ends (F : Fence) (hF : F = Fence.wide) (n n₀ A B b1 b2 b3 : Nat) (so : Option Addr) (p : Nat) (co : Option Addr) (z : Nat) (d : Dk) (k0 : Nat) (q0 : Int) (w : World)
    (hB : B ≤ w.heap.size) (hr : DkRow w A B so co d) (hR : dkRight d = true) (hk0 : k0 < d.secs.length) (hq0 : 1 ≤ q0 ∧ q0 ≤ 1000000000)
    (h1 : w.heap[b1]? = some (.cells #[.slice so d.secs.length p, .slice co d.cache.length z] 26 (0, 0))) (h2 : w.heap[b2]? = some (.cells #[.int .i64 (k0 : Int)] 2 (0, 0))) (h3 : w.heap[b3]? = some (.cells #[.int .i64 q0] 2 (0, 0))) :
    EndsBy F n Try.prog 100 #[.pointer (some ⟨b1, 0, none⟩), .pointer (some ⟨b2, 0, none⟩), .pointer (some ⟨b3, 0, none⟩)] encEl n₀ 701 (fun pre => ∀ x ∈ pre, 0 < x.many) (StopAt (flushL d.secs d.cache) k0 q0) w := by
  intro l J Jx W hW hJ hG hY hJ0
  have hd : F.depth = none := by rw [hF]; rfl
  have hf : F.fn 100 := by rw [hF]; trivial
  have hf2 : F.fn 101 := by rw [hF]; trivial
  have hro : F.round = none := by rw [hF]; rfl
  have hdd : ∀ k : Nat, (F.depth.isSome = true → 1 ≤ k) := fun k h => by rw [hd] at h; cases h
  have HF := hide hF
  obtain ⟨n1, hn1⟩ : ∃ n, n = d.secs.length := ⟨_, rfl⟩
  obtain ⟨n2, hn2⟩ : ∃ n, n = d.cache.length := ⟨_, rfl⟩
  have hbd := dkRight_bounds hR
  have hrW := hr.kept (hW.mono hB)
  have hBW : B ≤ W.heap.size := Nat.le_trans hB hW.size
  have HD := hide (fun (X : World) (hb : Below W.heap.size W X) => driveOf_any A B so p co z d X (Nat.le_trans hBW hb.size) hbd.2 (hrW.kept (hb.mono hBW)))
  have HRD := hide (fun (bm nn : Nat) (X : World) (hb : Below W.heap.size W X) (hM : X.ownsMap Try.prog 2 secR bm nn (cacheD d.cache)) => drvRead_any A B so p bm nn d k0 (d.secs.length - k0) X (Nat.le_trans hBW hb.size) hR hbd.1 (by omega) ((hrW.kept (hb.mono hBW)).2.1) hM)
  have hfl : (flushL d.secs d.cache).length = n1 := by rw [flushL_len, hn1]
  have H64 := hide (flush64 hR)
  have HTE : Hid (mkS (secsT (flushL d.secs d.cache) k0 (d.secs.length - k0)) = restT (flushL d.secs d.cache) k0) := by show _ = _; unfold restT; rw [hfl, hn1]
  rw [HTE.out] at HRD
  rw [← hn1] at h1 hk0 HD HRD hbd
  rw [← hn2] at h1 HD
  have hsub : (n1 : Int) - (k0 : Int) = ((n1 - k0 : Nat) : Int) := by omega
  rw [show (((n1 - k0 : Nat)) : Int) = (n1 : Int) - (k0 : Int) from hsub.symm] at HRD
  have X1 := hide ((hW.block b1 (blkR h1)).trans h1)
  have X2 := hide ((hW.block b2 (blkR h2)).trans h2)
  have X3 := hide ((hW.block b3 (blkR h3)).trans h3)
  have HJA := hide hJ
  have HG := hide hG
  have HY := hide hY
  have HJ0 := hide hJ0
  have zz1 : b1 < W.heap.size := blkR X1.out
  have zz2 : b2 < W.heap.size := blkR X2.out
  have zz3 : b3 < W.heap.size := blkR X3.out
  have HK : Hid (k0 ≤ (flushL d.secs d.cache).length) := by show _ ≤ _; omega
  have hFL := hide hfl
  generalize flushL d.secs d.cache = fl at *
  generalize cacheD d.cache = CD at *
  obtain ⟨x10, x11, x1f⟩ := cells2 X1.out
  have x20 : W.cell? ⟨b2, 0, none⟩ = some (.int .i64 (k0 : Int)) := by rw [cell_of_row _ _ _ _ _ _ X2.out]; rfl
  have x30 : W.cell? ⟨b3, 0, none⟩ = some (.int .i64 q0) := by rw [cell_of_row _ _ _ _ _ _ X3.out]; rfl
  have hbn := hbd.1
  have hwr : IntKind.i64.wrap ((n1 : Int) - (k0 : Int)) = (n1 : Int) - (k0 : Int) := by rw [IntKind.wrap_i64]; omega
  clear hF hW hJ hG hY hJ0 h1 h2 h3 hr hrW hBW hB hR hn1 hn2 hfl HTE hbd hsub
  refine callsIn_of_wp Try.func100 rfl hf ?_ hro
  simp only [Try.ntmps100, List.size_toArray, List.length_cons, List.length_nil, Nat.reduceAdd, Nat.reduceSub, Array.replicate_succ, Array.replicate_zero, List.push_toArray, List.append_toArray, List.nil_append, List.cons_append]
  gi_wp2
  rw [HF.out]
  refine wpIn_wide.2 ?_
  go_region_held3 (fun X => (X.cell? ⟨b1, 0, none⟩ = some (.slice so n1 p) ∧ X.cell? ⟨b1, 1, none⟩ = some (.slice co n2 z)) ∧ X.cell? ⟨b2, 0, none⟩ = some (.int .i64 (k0 : Int)) ∧ X.cell? ⟨b3, 0, none⟩ = some (.int .i64 q0)) (go_keep) (first
    | (go_at_call 87; refine (HD.out _ (Below.refl _ _).drew).mono ?_; rintro e w1 ⟨bm, rfl, M1, hbm, c1⟩; have B1 : Hid (Below W.heap.size W w1) := (Below.refl _ _).drew.trans c1; have M1' := hide M1; obtain ⟨hc1, hf1⟩ := bcell B1.out; clear M1 hbm c1)
    | (go_at_call 88; refine (HRD.out _ _ _ B1.out M1'.out).mono ?_; rintro e w2 ⟨rfl, c2⟩; have B2 : Hid (Below W.heap.size W w2) := B1.out.trans (c2.mono B1.out.size); obtain ⟨hc2, hf2⟩ := bcell B2.out; clear c2))
  all_goals
    have HJ2 := hide (J_below HJA.out HJ0.out B2.out)
    have x32 : w2.cell? ⟨b3, 0, none⟩ = some (.int .i64 q0) := (B2.out.cell (p := ⟨b3, 0, none⟩) zz3).trans x30
    have hts : (restT fl k0).size ≤ 44800 := by
      rw [restT_len H64.out HK.out]
      have := hFL.out
      omega
    clear x10 x11 x1f x20 x30 X1 X2 X3 HD HRD B1 B2 hc1 hf1 hc2 hf2 M1' HJ0 hwr
    gi_wp2
    gi_loopw [6, 7] (fun av qv wr => ∃ (j : Nat) (qq : Int) (pre : List El), av = .int .i64 (j : Int) ∧ qv = .int .i64 qq ∧ (k0 + j ≤ n1 ∧ 1 ≤ qq ∧ qq ≤ 1000000000 + k0 + j ∧ pre.length ≤ j) ∧ Hid (Tld fl k0 q0 pre (k0 + j) qq) ∧ Hid (J pre wr)) (fun av _ _ => n1 - k0 - (intOf av).toNat)
    case atStart => exact ⟨0, q0, [], by simp, rfl, ⟨by omega, hq0.1, by omega, by simp⟩, .nil, HJ2.out⟩
    case round =>
      obtain ⟨j, qq, pre, rfl, rfl, ⟨hj, hq1, hq2, hpl⟩, HT, HJ⟩ := hrel
      clear HJ2
      have hfl2 := hFL.out
      have hk700 : k0 + j ≤ 700 := by omega
      have hlen : pre.length < 701 := by omega
      have hsz := restT_len H64.out HK.out
      have hdl : ((j : Int) * 64) ≤ ((restT fl k0).size : Int) := by omega
      have hd0 : (0 : Int) ≤ (j : Int) * 64 := by omega
      have hdn : ((j : Int) * 64).toNat = j * 64 := by omega
      have hmw : IntKind.i64.wrap ((j : Int) * 64) = (j : Int) * 64 := by rw [IntKind.wrap_i64]; omega
      have hDR : (restT fl k0).extract (j * 64) (restT fl k0).size = restT fl (k0 + j) := by
        have := restT_drop H64.out (Nat.le_add_right k0 j) (by omega : k0 + j ≤ fl.length)
        rwa [Nat.add_sub_cancel_left] at this
      have HRI := hide (fun (m : Nat) (X : World) => show CallsIn F m Try.prog 101 #[.string (restT fl (k0 + j)), .int .i64 qq] X fun e w' => e = .returned (recV (restT fl (k0 + j)) qq) ∧ Below X.heap.size X w' by rw [HF.out]; exact callsIn_wide.2 (recordIn_any (restT fl (k0 + j)) qq (by rw [restT_len H64.out (by omega)]; omega) (by omega) X))
      cases hrec : recAt (restT fl (k0 + j)) qq with
      | none =>
        rw [recV_none hrec] at HRI
        obtain ⟨x, hx⟩ : ∃ x : El, x = ⟨0, ⟨#[]⟩, 0, by omega⟩ := ⟨_, rfl⟩
        have HXE : Hid (encEl x = #[.agg #[.int .i64 0, .string ⟨#[]⟩], .int .i64 0]) := by rw [hx]; rfl
        have HNO : Hid (∀ X, ¬ J (pre ++ [x]) X) := fun X hJX => by
          have := HG.out _ X hJX x (by simp)
          rw [hx] at this
          exact absurd this (by simp)
        have HSP : Hid (StopAt fl k0 q0 (pre ++ [x])) := ⟨pre, k0 + j, qq, x, HT.out, rfl, fun _ => hrec⟩
        clear hx hrec hsz
        gi_wp2_with (first
          | ((try refine ⟨hdd _, ?_⟩); gi_at_call 101; refine (HRI.out _ _).mono ?_; rintro e w5 ⟨rfl, b5⟩; have HJ5 := hide (J_below HJA.out HJ.out (b5.trans (((Below.refl w5.heap.size w5).alloc (Nat.le_refl _) (.cells #[.int .i64 0, .string ⟨#[]⟩] 34)).mono b5.size))); obtain ⟨fn, tmps, assign, body, hy, hRd⟩ := yieldAnyL hd (n - 1) (HY.out pre x _ HJ5.out hlen); rw [HXE.out] at hy; clear b5)
          | ((try refine ⟨hdd _, ?_⟩); refine hRd.mono ?_; clear hRd hy; rintro e w6 (⟨rfl, hJ6, _⟩ | ⟨rfl, hx6⟩)))
        · exact absurd hJ6 (HNO.out _)
        · exact bodyPost_ret (results_none rfl _ _ _) rfl ⟨⟨_, rfl⟩, _, HSP.out, hx6⟩
      | some t =>
        rw [recV_some hrec] at HRI
        obtain ⟨m1, m2, _⟩ := recAt_many H64.out (by omega) hrec
        obtain ⟨x, hx⟩ : ∃ x : El, x = ⟨qq, t, many (recS qq t), by omega⟩ := ⟨_, rfl⟩
        have HXE : Hid (encEl x = #[.agg #[.int .i64 qq, .string t], .int .i64 (many (recS qq t) : Nat)]) := by rw [hx]; rfl
        have HT2 : Hid (Tld fl k0 q0 (pre ++ [x]) (k0 + j + many (recS qq t)) (qq + 1)) := .snoc HT.out hrec (by rw [hx]) (by rw [hx]) (by rw [hx])
        have HSP : Hid (StopAt fl k0 q0 (pre ++ [x])) := ⟨pre, k0 + j, qq, x, HT.out, rfl, fun h0 => by rw [hx] at h0; simp only at h0; omega⟩
        clear hx hrec hsz
        generalize many (recS qq t) = mm at *
        gi_wp2_with (first
          | ((try refine ⟨hdd _, ?_⟩); gi_at_call 101; refine (HRI.out _ _).mono ?_; rintro e w5 ⟨rfl, b5⟩; have HJ5 := hide (J_below HJA.out HJ.out (b5.trans (((Below.refl w5.heap.size w5).alloc (Nat.le_refl _) (.cells #[.int .i64 qq, .string t] 34)).mono b5.size))); obtain ⟨fn, tmps, assign, body, hy, hRd⟩ := yieldAnyL hd (n - 1) (HY.out pre x _ HJ5.out hlen); rw [HXE.out] at hy; clear b5)
          | ((try refine ⟨hdd _, ?_⟩); refine hRd.mono ?_; clear hRd hy; rintro e w6 (⟨rfl, hJ6, _⟩ | ⟨rfl, hx6⟩)))
        · have HJ6 := hide hJ6
          clear hJ6
          gi_wp2
          go_roundw
          case rel => exact ⟨j + mm, qq + 1, pre ++ [x], by go_num, by go_num, ⟨by omega, by omega, by omega, by simp; omega⟩, by rw [← Nat.add_assoc]; exact HT2.out, HJ6.out⟩
          case measure => simp [intOf]; omega
        · exact bodyPost_ret (results_none rfl _ _ _) rfl ⟨⟨_, rfl⟩, _, HSP.out, hx6⟩
end Go.Proofs.Ytfhfhpnoeghgmaa

/-
  Contract: LogRead of the program.
-/
namespace Go.Proofs.Ytfhfhpnoeghgmaa
open Go.RowKit Go.Shelf
attribute [local go_sem] Oper.semAt_some
set_option maxRecDepth 100000

theorem cell_two_newL (w : World) (x y : Value) (t : TypeId) : ∀ j u, [x, y][j]? = some u → (w.alloc (.cells #[x, y] t)).cell? ((⟨w.heap.size, 0, none⟩ : Addr).add j) = some u := by
  intro j u hj
  have hadd : (⟨w.heap.size, 0, none⟩ : Addr).add j = ⟨w.heap.size, j, none⟩ := by unfold Addr.add; split <;> simp_all
  rw [hadd, cell_of_row _ _ _ _ _ _ (heap_alloc_new w _)]
  simpa using hj
theorem own_abides {base n size : Nat} {t : TypeId} {v : Value} {xs : List Value} {W W' : World} {row : Option Nat} (h : W.ownsRow base t size v n xs) (hg : W.grownBy W' row) (hr : ∀ r, row = some r → ∃ o : Obj, W.heap[r]? = some o ∧ o.isCells = false) : W'.ownsRow base t size v n xs := by
  refine World.ownsRow.kept h hg ?_
  rcases h.2 with ⟨rfl, _⟩ | ⟨g, cap, cur, rfl, _, hgb, _⟩
  · exact .inl rfl
  · refine .inr (fun e => ?_)
    obtain ⟨o, ho, hc⟩ := hr g (by simpa [Value.ownBlock] using e.symm)
    rw [hgb] at ho; cases ho; cases hc
theorem cells_abides {g : Nat} {cs : Array Value} {t : TypeId} {W W' : World} {row : Option Nat} (h : W.heap[g]? = some (.cells cs t (0, 0))) (hg : W.grownBy W' row) (hr : ∀ r, row = some r → ∃ o : Obj, W.heap[r]? = some o ∧ o.isCells = false) : W'.heap[g]? = some (.cells cs t (0, 0)) := by
  refine (hg.block g (Array.getElem?_eq_some_iff.1 h).1 (fun e => ?_)).trans h
  obtain ⟨o, ho, hc⟩ := hr g e.symm
  rw [h] at ho; cases ho; cases hc
/-- What the variable holds when these have come. -/
structure LgI (g7 k0 : Nat) (W2 : World) (pre : List El) (W : World) : Prop where
  out : ∃ v, W.heap[g7]? = some (.cells #[v, .int .i64 ((k0 + (pre.map El.many).sum : Nat) : Int), .int .i64 0] 31 (0, 0)) ∧ OwnR (g7 + 1) v (pre.map elWr) W
  pos : ∀ x ∈ pre, 0 < x.many
  bel : Below g7 W2 W
theorem LgI.abides {g7 k0 : Nat} {W2 : World} {pre : List El} {W W' : World} {row : Option Nat} (h : LgI g7 k0 W2 pre W) (hs : g7 ≤ W2.heap.size) (hg : W.grownBy W' row) (hr : ∀ r, row = some r → W2.heap.size ≤ r ∧ ∃ o : Obj, W.heap[r]? = some o ∧ o.isCells = false) : LgI g7 k0 W2 pre W' := by
  obtain ⟨v, h1, h2⟩ := h.out
  exact ⟨⟨v, cells_abides h1 hg (fun r e => (hr r e).2), own_abides h2 hg (fun r e => (hr r e).2)⟩, h.pos, h.bel.grown hg (Nat.le_trans hs h.bel.size) (fun r e => Nat.le_trans hs (hr r e).1)⟩
theorem sum_le700 : ∀ pre : List El, (pre.map El.many).sum ≤ pre.length * 700
  | [] => by simp
  | x :: l => by
    have := sum_le700 l
    have := x.le
    simp only [List.map_cons, List.sum_cons, List.length_cons]
    omega
theorem app_frame {W w5 : World} {g7 n size : Nat} {t e : TypeId} {v : Value} {xs : List Value} {tmp : Obj} {a b c : Value} (ho : W.ownsRow (g7 + 1) e size v n xs) (hv : W.heap[g7]? = some (.cells #[a, b, c] t (0, 0))) (hgrow : (W.alloc tmp).grownBy w5 v.ownBlock) :
    w5.heap[g7]? = some (.cells #[a, b, c] t (0, 0)) ∧ KeepsOthers W w5 ∧ Below g7 W w5 := by
  have hl := blkR hv
  have hown : ∀ j, v.ownBlock = some j → g7 + 1 ≤ j := fun j hj => (World.ownsRow.lt ho j hj).1
  refine ⟨?_, ?_, ?_⟩
  · exact (hgrow.block g7 (by rw [World.size_alloc]; omega) (fun e => by have := hown g7 e.symm; omega)).trans ((heap_old W tmp _ hl).trans hv)
  · refine (KeepsOthers.alloc W tmp).trans (KeepsOthers.of_grownBy hgrow fun j o ej hj => ?_)
    rcases (ho.alloc tmp).2 with ⟨rfl, _⟩ | ⟨g, cap, cur, rfl, _, hgb, _⟩
    · simp [Value.ownBlock] at ej
    · obtain rfl : g = j := by simpa [Value.ownBlock] using ej
      rw [hgb] at hj; cases hj; rfl
  · exact ((Below.refl g7 W).alloc (by omega) tmp).grown hgrow (by rw [World.size_alloc]; omega) (fun j ej => by have := hown j ej; omega)
theorem set01 {W : World} {g : Nat} {a b c x y : Value} {t : TypeId} (h : W.heap[g]? = some (.cells #[a, b, c] t (0, 0))) : ((W.setCell ⟨g, 0, none⟩ x).setCell ⟨g, 1, none⟩ y).heap[g]? = some (.cells #[x, y, c] t (0, 0)) := by
  have h1 := heap_setCell_same W g 0 _ t x h
  have h2 := heap_setCell_same _ g 1 _ t y h1
  simpa using h2
theorem logR_stop {fl : List ByteArray} (h64 : ∀ i, i < fl.length → (fl.getD i ByteArray.empty).size = 64) {k0 : Nat} {q0 : Int} {p pre : List El} {x : El} (h : StopAt fl k0 q0 p) (hp : p = pre ++ [x]) (hx : x.many = 0) (hk0 : k0 ≤ fl.length) : logR fl (fl.length - k0 + 1) k0 q0 = (pre.map elWr, k0 + (pre.map El.many).sum) := by
  obtain ⟨pre', k, q, x', ht, hp', hn⟩ := h
  rw [hp] at hp'
  obtain ⟨h1, h2⟩ := List.append_inj' hp' rfl
  simp only [List.cons.injEq, and_true] at h2
  subst h1 h2
  exact ht.stop h64 hk0 (hn hx)
theorem wpIn_scopeF {F : Fence} {n : Nat} {P : Program} {c : Code} {Q : Exit → Act → World → Prop} {a : Act} {w : World} (hF : F = Fence.wide) (h : c.wpIn F n P (Exit.noGoto Q) a w) : (Code.scope c).wpIn F n P Q a w := by
  subst hF
  exact wpIn_wide.2 (wp_scope_straight (wpIn_wide.1 h))
set_option maxHeartbeats 8000000 in
theorem recordsFrom_in (F : Fence) (n : Nat) (hf : F.fn 57) (hro : F.round = none) (s c : Value) (a q : Int) (w : World) :
    CallsIn F n Try.prog 57 #[.agg #[s, c], .int .i64 a, .int .i64 q] w fun e w' => e = .returned (.func (.func 100) #[] #[.pointer (some ⟨w.heap.size, 0, none⟩), .pointer (some ⟨w.heap.size + 1, 0, none⟩), .pointer (some ⟨w.heap.size + 1 + 1, 0, none⟩)]) ∧ w' = ((w.alloc (.cells #[s, c] 26)).alloc (.cells #[.int .i64 a] 2)).alloc (.cells #[.int .i64 q] 2) := by
  refine callsIn_of_wp Try.func57 rfl hf ?_ hro
  simp only [Try.ntmps57, List.size_toArray, List.length_cons, List.length_nil, Nat.reduceAdd, Nat.reduceSub, Array.replicate_succ, Array.replicate_zero, List.push_toArray, List.append_toArray, List.nil_append, List.cons_append]
  gi_wp2
  go_ret
  exact ⟨rfl, rfl⟩
set_option maxHeartbeats 8000000 in
theorem implLogRead_in (F : Fence) (hF : F = Fence.wide) (n : Nat) (hn : 4 ≤ n) (b0 : Nat) (so : Option Addr) (p : Nat) (co : Option Addr) (z : Nat) (d : Dk) (k0 : Nat) (q0 : Int) (w : World) (hR : dkRight d = true) (hk0 : k0 < d.secs.length) (hq0 : 1 ≤ q0 ∧ q0 ≤ 1000000000) (hs : seqOk q0 = true)
    (hr : DkRow w b0 w.heap.size so co d) :
    CallsIn F n Try.prog 14 #[.agg #[.slice so d.secs.length p, .slice co d.cache.length z], .int .i64 (k0 : Int), .int .i64 q0] w fun e w' => ∃ v, e = .returned (.agg #[v, .int .i64 ((logR (flushL d.secs d.cache) (d.secs.length - k0 + 1) k0 q0).2 : Int), .int .i64 0]) ∧ OwnR w.heap.size v (logR (flushL d.secs d.cache) (d.secs.length - k0 + 1) k0 q0).1 w' ∧ Below w.heap.size w w' := by
  have h1 : 1 ≤ n := by omega
  have hf : F.fn 14 := by rw [hF]; trivial
  have hf0 : F.fn 55 := by rw [hF]; trivial
  have hf3 : F.fn 56 := by rw [hF]; trivial
  have hf1 : F.fn 57 := by rw [hF]; trivial
  have hf2 : F.fn 100 := by rw [hF]; trivial
  have hro : F.round = none := by rw [hF]; rfl
  have hd : F.depth = none := by rw [hF]; rfl
  have hdd : ∀ k : Nat, (F.depth.isSome = true → 1 ≤ k) := fun k h => by rw [hd] at h; cases h
  have HF := hide hF
  have HIM := hide (fun (m : Nat) (W : World) (hb : Below w.heap.size w W) => show CallsIn F m Try.prog 55 #[.agg #[.slice so d.secs.length p, .slice co d.cache.length z]] W fun e w' => e = .returned (.bool true) ∧ Below W.heap.size W w' by
    have h := implDiskRight_any b0 w.heap.size so p co z d W hb.size (hr.kept hb)
    rw [hR] at h
    rw [hF]; exact callsIn_wide.2 h)
  have HSQ := hide (fun (m : Nat) (W : World) => show CallsIn F m Try.prog 56 #[.int .i64 q0] W fun e w' => e = .returned (.bool true) ∧ w' = W by
    have h := seqRight_any q0 W
    rw [hs] at h
    rw [hF]; exact callsIn_wide.2 h)
  have HRF := hide (fun (m : Nat) (W : World) => recordsFrom_in F m hf1 hro (.slice so d.secs.length p) (.slice co d.cache.length z) k0 q0 W)
  have H64 := hide (flush64 hR)
  have hfl : (flushL d.secs d.cache).length = d.secs.length := flushL_len d.cache d.secs
  have HLS := hide (fun (p pre : List El) (x : El) (h : StopAt (flushL d.secs d.cache) k0 q0 p) (hp : p = pre ++ [x]) (hx : x.many = 0) => logR_stop H64.out h hp hx (by omega))
  rw [hfl] at HLS
  have HRE := hide (fun (m n₀ b1 b2 b3 : Nat) (W : World) (hb : Below w.heap.size w W) h1 h2 h3 => recs_ends F hF m n₀ b0 w.heap.size b1 b2 b3 so p co z d k0 q0 W hb.size (hr.kept hb) hR hk0 hq0 h1 h2 h3)
  have hbd := (dkRight_bounds hR).1
  have HA := two_allocs w (.cells #[.slice so d.secs.length p, .slice co d.cache.length z] 26) (.cells #[.slice none 0 0, .int .i64 0, .int .i64 0] 31)
  have B0 := hide (((Below.refl w.heap.size w).alloc (Nat.le_refl _) (.cells #[.slice so d.secs.length p, .slice co d.cache.length z] 26)).alloc (by simp) (.cells #[.slice none 0 0, .int .i64 0, .int .i64 0] 31))
  have X0 := hide HA.1
  have Y0 := hide HA.2.1
  clear HA hF hR hs hr hfl
  obtain ⟨n1, hn1⟩ : ∃ n, n = d.secs.length := ⟨_, rfl⟩
  obtain ⟨n2, hn2⟩ : ∃ n, n = d.cache.length := ⟨_, rfl⟩
  rw [← hn1, ← hn2] at HIM HRF HRE X0 Y0 B0 ⊢
  rw [← hn1] at HLS hbd hk0
  generalize flushL d.secs d.cache = fl at *
  obtain ⟨tot, htot⟩ : ∃ tot, tot = logR fl (n1 - k0 + 1) k0 q0 := ⟨_, rfl⟩
  rw [← htot]
  rw [← htot] at HLS
  clear hn1 hn2 htot
  obtain ⟨x0, x1, xf⟩ := cells2 X0.out
  refine callsIn_of_wp_marks Try.func14 rfl hf ?_ hro
  simp only [Try.ntmps14, List.size_toArray, List.length_cons, List.length_nil, Nat.reduceAdd, Nat.reduceSub, Array.replicate_succ, Array.replicate_zero, List.push_toArray, List.append_toArray, List.nil_append, List.cons_append]
  gi_wp2
  refine wpIn_scopeF HF.out ?_
  gi_wp2_with (first
    | ((try refine ⟨hdd _, ?_⟩); gi_at_call 55; refine (HIM.out _ _ B0.out).mono ?_; rintro e w1 ⟨rfl, b1⟩; have X1 := hide ((b1.block w.heap.size (blkR X0.out)).trans X0.out); have Y1 := hide ((b1.block (w.heap.size + 1) (blkR Y0.out)).trans Y0.out); have B1 := hide (B0.out.trans (b1.mono B0.out.size)); have L1 : Hid (w.heap.size + 1 < w1.heap.size) := blkR Y1.out; clear b1 x0 x1 xf; obtain ⟨x0, x1, xf⟩ := cells2 X1.out)
    | ((try refine ⟨hdd _, ?_⟩); gi_at_call 56; refine (HSQ.out _ _).mono ?_; rintro e w2 ⟨rfl, rfl⟩; have B2a := hide (B1.out.alloc B1.out.size (.cells #[.slice none 0 0, .int .i64 (k0 : Int), .int .i64 0] 31)); have X2 := hide ((heap_old w2 (.cells #[.slice none 0 0, .int .i64 (k0 : Int), .int .i64 0] 31) w.heap.size (blkR X1.out)).trans X1.out); obtain ⟨x20, x21, x2f⟩ := cells2 X2.out)
    | ((try refine ⟨hdd _, ?_⟩); gi_at_call 57; refine (HRF.out _ _).mono ?_; rintro e w3 ⟨rfl, hw3⟩))
  refine wpIn_label ?_
  gi_wp2_with (first
    | ((try refine ⟨hdd _, ?_⟩); gi_at_call 57; refine (HRF.out _ _).mono ?_; rintro e w3 ⟨rfl, hw3⟩))
  have Z2 : Hid ((w2.alloc (.cells #[.slice none 0 0, .int .i64 (k0 : Int), .int .i64 0] 31)).heap.size = w2.heap.size + 1) := by show _ = _; simp
  have G2 := hide (heap_alloc_new w2 (.cells #[.slice none 0 0, .int .i64 (k0 : Int), .int .i64 0] 31))
  have Y2 := hide ((heap_old w2 (.cells #[.slice none 0 0, .int .i64 (k0 : Int), .int .i64 0] 31) _ (blkR Y1.out)).trans Y1.out)
  have ZL : Hid (w.heap.size ≤ w2.heap.size) := B1.out.size
  clear X1 Y1 B1 x0 x1 xf X2 x20 x21 x2f HIM HSQ HRF B0 X0 Y0
  generalize hW2 : w2.alloc (.cells #[.slice none 0 0, .int .i64 (k0 : Int), .int .i64 0] 31) = W2 at *
  clear hW2
  have HA4 := alloc3 W2 (.cells #[.slice so n1 p, .slice co n2 z] 26) (.cells #[.int .i64 (k0 : Int)] 2) (.cells #[.int .i64 q0] 2)
  have BW := (((Below.refl W2.heap.size W2).alloc (Nat.le_refl _) (.cells #[.slice so n1 p, .slice co n2 z] 26)).alloc (by simp) (.cells #[.int .i64 (k0 : Int)] 2)).alloc (by simp; omega) (.cells #[.int .i64 q0] 2)
  rw [← hw3] at HA4 BW ⊢
  rw [Z2.out] at HA4 BW
  have B3 := hide (B2a.out.trans (BW.mono (by have := ZL.out; omega)))
  have G3 := hide ((BW.block w2.heap.size (by omega)).trans G2.out)
  have Y3 := hide ((BW.block (w.heap.size + 1) (by have := L1.out; omega)).trans Y2.out)
  have hz3 : w2.heap.size + 4 ≤ w3.heap.size := by have := blkR HA4.2.2; omega
  have HST := HRE.out (n - 1) w2.heap.size _ _ _ w3 B3.out HA4.1 HA4.2.1 HA4.2.2
  clear hw3 HA4 BW Z2 G2 Y2 B2a HRE
  have HI0 : LgI w2.heap.size k0 w3 [] w3 := ⟨⟨_, by simpa using G3.out, ownR_nil _ _⟩, fun x hx => by simp at hx, Below.refl _ _⟩
  obtain ⟨j0, hj, hy0, hy1, hy2⟩ := info_parts Try.infoRc
  refine wpIn_rangeFunc_tillT (fun a' (x : El) (rb : Nat) => putA (putA (putA (putA { a' with defers := [] } 36 (.agg #[.int .i64 x.seq, .string x.text])) 37 (.int .i64 (x.many : Int))) 8 (.pointer (some ⟨rb, 0, none⟩))) 9 (.int .i64 (x.many : Int))) hro h1 (gf := 100)
    (lb := #[.pointer (some ⟨w2.heap.size + 1, 0, none⟩), .pointer (some ⟨w2.heap.size + 1 + 1, 0, none⟩), .pointer (some ⟨w2.heap.size + 1 + 1 + 1, 0, none⟩)]) rfl hf2 (enters_of Try.func100 (by kernel_rfl) rfl)
    HST (by omega) (fun _ => rfl) (LgI w2.heap.size k0 w3) (fun p W => ∃ pre x, p = pre ++ [x] ∧ x.many = 0 ∧ LgI w2.heap.size k0 w3 pre W) 0
    (fun s A B row hs hg hr => hs.abides (by omega) hg hr) (fun s A B row hs hg hr => by obtain ⟨pre, x, e1, e2, h⟩ := hs; exact ⟨pre, x, e1, e2, h.abides (by omega) hg hr⟩) (fun s W h => h.pos) HI0
    (fun pre x rb W => LgI w2.heap.size k0 w3 pre W ∧ W.heap[rb]? = some (.cells #[.int .i64 x.seq, .string x.text] 34 (0, 0)))
    (fun x rb s A B row hs hg hr => ⟨hs.1.abides (by omega) hg hr, cells_abides hs.2 hg (fun r e => (hr r e).2)⟩) ?assign ?body ?stop
  case assign =>
    intro l pre x W K hi hK
    have hz := hi.bel.size
    have hh := hK W.heap.size _ (KeepsOthers.alloc W (.cells #[.int .i64 x.seq, .string x.text] 34)) ((Below.refl _ W).alloc (by omega) _) ⟨hi.abides (by omega) (World.grownBy_alloc W _ none) (fun r e => by cases e), heap_alloc_new W _⟩
    simp only [putA, List.setIfInBounds_toArray, List.set_cons_succ, List.set_cons_zero] at hh
    have HH := hide hh
    clear hh hK
    simp only [encEl]
    gi_wp2
    exact HH.out
  case body =>
    rintro l pre x rb W ⟨hi, hrb⟩ hlen
    obtain ⟨v, hv, ho⟩ := hi.out
    have hpos := hi.pos
    have hbel := hi.bel
    obtain ⟨v0, v1, v2, vf⟩ := cells3g hv
    obtain ⟨r0, r1, rf⟩ := cells2 hrb
    simp only [putA, List.setIfInBounds_toArray, List.set_cons_succ, List.set_cons_zero]
    by_cases hm : x.many = 0
    · have HP : Hid (x.many = 0 ∧ LgI w2.heap.size k0 w3 pre W) := ⟨hm, hi⟩
      rw [hm]
      clear hi hv ho hpos hbel hm hrb HST
      gi_wp2
      exact ⟨KeepsOthers.refl _, pre, x, ⟨rfl, rfl⟩, HP.out.1, HP.out.2⟩
    · have hbz := hbel.size
      have hsum := sum_le700 pre
      have hxle := x.le
      have hmi : ¬ ((x.many : Int) = 0) := by omega
      have HN2 : Hid (k0 + ((pre ++ [x]).map El.many).sum = k0 + (pre.map El.many).sum + x.many) := by show _ = _; simp; omega
      have HPOS : Hid (∀ y ∈ pre ++ [x], 0 < y.many) := fun y hy => by
        rcases List.mem_append.1 hy with h | h
        · exact hpos y h
        · simp at h; subst h; omega
      have HMP : Hid ((pre ++ [x]).map elWr = pre.map elWr ++ [⟨x.seq, x.text⟩]) := by show _ = _; simp [elWr]
      have hS : k0 + (pre.map El.many).sum ≤ 1000000 := by omega
      have hlm : (pre.map elWr).length ≤ 701 := by simp; omega
      generalize k0 + (pre.map El.many).sum = S at *
      generalize pre.map elWr = L at *
      obtain ⟨vo, vc, rfl⟩ := ownR_shape ho
      have HO := hide ho
      have HV := hide hv
      have HB := hide hbel
      clear hi hv ho hpos hbel hm hrb HST hsum
      gi_wp2_with (gi_at_builtin; refine wpListIn_append_own _ rfl _ _ 29 rfl (w2.heap.size + 1) 34 j0 (.agg #[.int .i64 0, .string ⟨#[]⟩]) 2 24 Try.underlying29 hj hy0 hy1 hy2 rfl (by decide) _ _ _ rfl (HO.out.alloc _) ⟨W.heap.size, 0, none⟩ 1 1 [.int .i64 x.seq, .string x.text] rfl rfl (cell_two_newL _ _ _ _) (wr_one _ _) (by unfold maxLen; omega) (by omega) (by rw [World.size_alloc]; omega) ?_; intro v' w5 hown hgrow _; obtain ⟨g', cap', rfl⟩ := ownsRow_succ hown; have hfr := app_frame HO.out HV.out hgrow; have G5 := hide hfr.1; have K5 := hide hfr.2.1; have B5 := hide hfr.2.2; have O5 := hide (ownR_snoc hown rfl); clear hown hgrow hfr; obtain ⟨u0, u1, u2, uf⟩ := cells3g G5.out)
      refine ⟨(K5.out.trans (KeepsOthers.setCell _ _ _)).trans (KeepsOthers.setCell _ _ _), (B5.out.setCell (p := ⟨w2.heap.size, 0, none⟩) (Nat.le_refl _) _).setCell (p := ⟨w2.heap.size, 1, none⟩) (Nat.le_refl _) _, ⟨⟨.slice (some ⟨g', 0, none⟩) (L.length + 1) cap', ?_, ?_⟩, HPOS.out, HB.out.trans ((B5.out.setCell (p := ⟨w2.heap.size, 0, none⟩) (Nat.le_refl _) _).setCell (p := ⟨w2.heap.size, 1, none⟩) (Nat.le_refl _) _)⟩⟩
      · rw [HN2.out, Int.natCast_add]
        exact set01 G5.out
      · rw [HMP.out]
        exact ownR_set (ownR_set O5.out (Nat.lt_succ_self _)) (Nat.lt_succ_self _)
  case stop =>
    rintro D p' W hD hsp ⟨pre, x, hp, hx, hi⟩ hK
    have HTOT := hide (HLS.out _ _ _ hsp hp hx)
    obtain ⟨v, hv, ho⟩ := hi.out
    have HBW := hide (B3.out.trans (hi.bel.mono ZL.out))
    have hyw := (hi.bel.block (w.heap.size + 1) L1.out).trans Y3.out
    obtain ⟨v0, v1, v2, vf⟩ := cells3g hv
    obtain ⟨t0, t1, t2, tf⟩ := cells3g hyw
    generalize k0 + (pre.map El.many).sum = S at *
    generalize pre.map elWr = L at *
    obtain ⟨vo, vc, rfl⟩ := ownR_shape ho
    have HO := hide ho
    have HY := hide hyw
    clear hi hv ho hsp hp hx hyw HST HLS
    gi_wp2
    have hDD : w.heap.size + 1 ≠ D := by have := L1.out; omega
    have hDB : w.heap.size ≤ D := by have := L1.out; omega
    have hK' := (((KeepsOthers.setCell W ⟨w.heap.size + 1, 0, none⟩ (.slice vo L.length vc)).trans (KeepsOthers.setCell _ ⟨w.heap.size + 1, 1, none⟩ (.int .i64 (S : Int)))).trans (KeepsOthers.setCell _ ⟨w.heap.size + 1, 2, none⟩ (.int .i64 0))).same D _ hK rfl
    have HH := HTOT.out
    subst HH
    rw [Exit.noGoto_ret]
    refine ⟨by simp, .inl ⟨_, _, rfl, run_takeDeferred hK', ?_⟩⟩
    refine ⟨.agg #[.slice vo L.length vc, .int .i64 (S : Int), .int .i64 0], resLg Try.results14 _ _ (w.heap.size + 1) _ _ _ rfl ((World.putObj_heap_other hDD).trans (set3g HY.out)), _, rfl, ?_, ?_⟩
    · have hb : w.heap.size + 1 < w2.heap.size + 1 := by have := L1.out; omega
      exact owns_base (ownsRow_putObj (ownR_set (ownR_set (ownR_set HO.out hb) hb) hb) _ hK' rfl) (by have := L1.out; omega)
    · exact (((HBW.out.setCell (p := ⟨w.heap.size + 1, 0, none⟩) (Nat.le_succ _) _).setCell (p := ⟨w.heap.size + 1, 1, none⟩) (Nat.le_succ _) _).setCell (p := ⟨w.heap.size + 1, 2, none⟩) (Nat.le_succ _) _).trans (belowK_b (w := w) (Nat.le_refl _) _ D _ _ hDB hK' rfl rfl)
set_option maxHeartbeats 8000000 in
theorem implLogRead_any (b0 : Nat) (s c : Value) (d : Dk) (a q : Int) (w : World) (hi : dkIn d) (hf : dkFits d) (ha : wI64 a) (h : OwnD b0 s c d w) :
    Calls Try.prog 14 #[.agg #[s, c], .int .i64 a, .int .i64 q] w fun e w' => ∃ v, e = .returned (.agg #[v, .int .i64 (dkLog d a q).2.1, .int .i64 (dkLog d a q).2.2]) ∧ OwnR w.heap.size v (dkLog d a q).1 w' ∧ Below w.heap.size w w' := by
  obtain ⟨so, p, co, z, rfl, rfl, hr⟩ := h.row hi
  obtain ⟨n1, hn1⟩ : ∃ n, n = d.secs.length := ⟨_, rfl⟩
  obtain ⟨n2, hn2⟩ : ∃ n, n = d.cache.length := ⟨_, rfl⟩
  have hn1' : n1 ≤ 1048576 := by rw [hn1]; exact hf.1
  obtain ⟨ha0, ha1⟩ := ha
  have HA := two_allocs w (.cells #[.slice so n1 p, .slice co n2 z] 26) (.cells #[.slice none 0 0, .int .i64 0, .int .i64 0] 31)
  have B0 := hide (((Below.refl w.heap.size w).alloc (Nat.le_refl _) (.cells #[.slice so n1 p, .slice co n2 z] 26)).alloc (by simp) (.cells #[.slice none 0 0, .int .i64 0, .int .i64 0] 31))
  have X0 := hide HA.1
  have Y0 := hide HA.2.1
  have HSP := hide (fun (W : World) (hb : Below w.heap.size w W) => implDiskRight_any _ _ so p co z d W hb.size (hr.kept hb))
  have HSQ := hide (fun W => seqRight_any q W)
  rw [← hn1, ← hn2] at h HSP ⊢
  obtain ⟨x0, x1, xf⟩ := cells2 X0.out
  clear HA
  cases hdr : dkRight d with
  | false =>
    rw [dkLog_bad (.inl hdr)]
    rw [hdr] at HSP
    clear hi hf h hr hn1 hn2 hdr
    go_enter Try.func14, Try.ntmps14
    go_wp2
    refine wp_scope_straight ?_
    go_wp2_with (first | (go_at_call 55; refine (HSP.out _ B0.out).mono ?_; rintro e w1 ⟨rfl, b1⟩; have Y1 := hide ((b1.block (w.heap.size + 1) (blkR Y0.out)).trans Y0.out); have X1 := hide ((b1.block w.heap.size (blkR X0.out)).trans X0.out); have B1 := hide (B0.out.trans (b1.mono B0.out.size)); clear b1 x0 x1 xf; obtain ⟨x0, x1, xf⟩ := cells2 X1.out; obtain ⟨y0, y1, y2, yf⟩ := cells3g Y1.out))
    rw [Exit.noGoto_ret]
    refine bodyPost_ret (v := .agg #[.slice none 0 0, .int .i64 0, .int .i64 1]) (resLg Try.results14 _ _ (w.heap.size + 1) _ _ _ rfl (set3g Y1.out)) rfl ⟨_, rfl, ownR_nil _ _, ?_⟩
    exact ((B1.out.setCell (by simp) _).setCell (by simp) _).setCell (by simp) _
  | true =>
    rw [hdr] at HSP
    by_cases c1 : a < 0
    · rw [dkLog_bad (.inr (.inl c1))]
      clear hi hf h hr hn1 hn2 hdr
      go_enter Try.func14, Try.ntmps14
      go_wp2
      refine wp_scope_straight ?_
      go_wp2_with (first | (go_at_call 55; refine (HSP.out _ B0.out).mono ?_; rintro e w1 ⟨rfl, b1⟩; have Y1 := hide ((b1.block (w.heap.size + 1) (blkR Y0.out)).trans Y0.out); have X1 := hide ((b1.block w.heap.size (blkR X0.out)).trans X0.out); have B1 := hide (B0.out.trans (b1.mono B0.out.size)); clear b1 x0 x1 xf; obtain ⟨x0, x1, xf⟩ := cells2 X1.out; obtain ⟨y0, y1, y2, yf⟩ := cells3g Y1.out))
      rw [Exit.noGoto_ret]
      refine bodyPost_ret (v := .agg #[.slice none 0 0, .int .i64 0, .int .i64 1]) (resLg Try.results14 _ _ (w.heap.size + 1) _ _ _ rfl (set3g Y1.out)) rfl ⟨_, rfl, ownR_nil _ _, ?_⟩
      exact ((B1.out.setCell (by simp) _).setCell (by simp) _).setCell (by simp) _
    · by_cases c2 : (n1 : Int) ≤ a
      · rw [dkLog_bad (.inr (.inr (.inl (by rw [← hn1]; exact c2))))]
        clear hi hf h hr hn1 hn2 hdr
        go_enter Try.func14, Try.ntmps14
        go_wp2
        refine wp_scope_straight ?_
        go_wp2_with (first | (go_at_call 55; refine (HSP.out _ B0.out).mono ?_; rintro e w1 ⟨rfl, b1⟩; have Y1 := hide ((b1.block (w.heap.size + 1) (blkR Y0.out)).trans Y0.out); have X1 := hide ((b1.block w.heap.size (blkR X0.out)).trans X0.out); have B1 := hide (B0.out.trans (b1.mono B0.out.size)); clear b1 x0 x1 xf; obtain ⟨x0, x1, xf⟩ := cells2 X1.out; obtain ⟨y0, y1, y2, yf⟩ := cells3g Y1.out))
        rw [Exit.noGoto_ret]
        refine bodyPost_ret (v := .agg #[.slice none 0 0, .int .i64 0, .int .i64 1]) (resLg Try.results14 _ _ (w.heap.size + 1) _ _ _ rfl (set3g Y1.out)) rfl ⟨_, rfl, ownR_nil _ _, ?_⟩
        exact ((B1.out.setCell (by simp) _).setCell (by simp) _).setCell (by simp) _
      · cases hs : seqOk q with
        | false =>
          rw [dkLog_bad (.inr (.inr (.inr hs)))]
          rw [hs] at HSQ
          clear hi hf h hr hn1 hn2 hdr hs
          go_enter Try.func14, Try.ntmps14
          go_wp2
          refine wp_scope_straight ?_
          go_wp2_with (first | (go_at_call 55; refine (HSP.out _ B0.out).mono ?_; rintro e w1 ⟨rfl, b1⟩; have Y1 := hide ((b1.block (w.heap.size + 1) (blkR Y0.out)).trans Y0.out); have X1 := hide ((b1.block w.heap.size (blkR X0.out)).trans X0.out); have B1 := hide (B0.out.trans (b1.mono B0.out.size)); clear b1 x0 x1 xf; obtain ⟨x0, x1, xf⟩ := cells2 X1.out; obtain ⟨y0, y1, y2, yf⟩ := cells3g Y1.out) | (go_at_call 56; refine (HSQ.out _).mono ?_; rintro e w2 ⟨rfl, rfl⟩))
          rw [Exit.noGoto_ret]
          refine bodyPost_ret (v := .agg #[.slice none 0 0, .int .i64 0, .int .i64 1]) (resLg Try.results14 _ _ (w.heap.size + 1) _ _ _ rfl (set3g Y1.out)) rfl ⟨_, rfl, ownR_nil _ _, ?_⟩
          exact ((B1.out.setCell (by simp) _).setCell (by simp) _).setCell (by simp) _
        | true =>
          have hq : 1 ≤ q ∧ q ≤ 1000000000 := by simpa [seqOk] using hs
          have hng : ¬ lgBad d a q := by
            unfold lgBad
            rw [hdr, hs, ← hn1]
            simp
            omega
          rw [dkLog_ok hng]
          obtain ⟨k, rfl⟩ : ∃ k : Nat, a = (k : Int) := ⟨a.toNat, by omega⟩
          rw [Int.toNat_natCast, hn1, hn2]
          exact callsIn_wide.1 (implLogRead_in Fence.wide rfl 4 (Nat.le_refl _) b0 so p co z d k q w hdr (by rw [← hn1]; omega) hq hs hr)
end Go.Proofs.Ytfhfhpnoeghgmaa

/-
  Contract: a place that the laws draw, below a number of sectors.
-/
namespace Go.Proofs.Ytfhfhpnoeghgmaa
open Go.RowKit

theorem lwAtD_any (B : Nat) (ao : Option Addr) (len cap : Nat) (zs : List Int) (p n : Nat) (hn : n ≤ 1048576) (w : World) (hl : len ≤ 1048576) (hr : ByteRow w B ao len zs) :
    Calls Try.prog 22 #[.slice ao len cap, .int .i64 p, .int .i64 n] w fun e w' => ∃ v : Nat, e = .returned (.int .i64 v) ∧ (v < n ∨ v = 0) ∧ w' = w := by
  by_cases hs : n ≤ 1
  · go_enter Try.func22, Try.ntmps22
    go_wp2
    go_ret
    exact ⟨0, rfl, .inr rfl, rfl⟩
  by_cases h0 : len = 0
  · subst h0
    go_enter Try.func22, Try.ntmps22
    go_wp2
    go_ret
    exact ⟨0, rfl, .inr rfl, rfl⟩
  · rcases hr.2 with h | ⟨b, off, rfl, hbB, hc⟩
    · omega
    · have hq0 : 0 ≤ (p : Int) % len := Int.emod_nonneg _ (by omega)
      have hq1 : (p : Int) % len < len := Int.emod_lt_of_pos _ (by omega)
      have hpm : p % len < len := Nat.mod_lt _ (by omega)
      have hcb := hc (p % len) hpm
      have hz := hr.1 (p % len)
      have hne : ((len : Int) == 0) = false := by simp; omega
      have e1 : (p : Int) % len = ((p % len : Nat) : Int) := by simp
      generalize zs.getD (p % len) 0 = z at *
      generalize hP : p % len = pp at *
      have hr0 := Int.emod_nonneg z (show (n : Int) ≠ 0 by omega)
      have hr1 := Int.emod_lt_of_pos z (show 0 < (n : Int) by omega)
      clear hc hP hr
      go_enter Try.func22, Try.ntmps22
      go_wp2
      go_ret
      exact ⟨(z % (n : Int)).toNat, by rw [Int.toNat_of_nonneg hr0]; rfl, .inl (by omega), rfl⟩
end Go.Proofs.Ytfhfhpnoeghgmaa
