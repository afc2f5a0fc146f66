/-
  Contracts and plain laws, part 10 of 12: LgLogP, LgSp, DkTxt2, LgLogS, LgRdS, LgOut, RecNeq
-/
import Derived.Laws.StructEq
import Derived.Test.YtfhfhpnoeghgmaaPi

/-
  A log as it is read: plain.
-/
namespace Go.Proofs.Ytfhfhpnoeghgmaa
open Go.RowKit
set_option maxRecDepth 100000

theorem dkRight_flushed {d : Dk} (h : dkRight d = true) : dkRight ⟨flushL d.secs d.cache, []⟩ = true := by
  have h64 := flush64 h
  refine dkRight_yes ?_ (by simp) ?_ (by rfl)
  · show (flushL d.secs d.cache).length ≤ 700
    rw [flushL_len]; exact (dkRight_bounds h).1
  · rw [upto_iff]
    intro i hi
    exact decide_eq_true (h64 i hi)
theorem flushed_in {d : Dk} (h : dkRight d = true) : dkIn ⟨flushL d.secs d.cache, []⟩ := ⟨fun s hs => flush_mem h s hs, fun x hx => by simp at hx⟩
theorem flushed_fits {d : Dk} (h : dkFits d) : dkFits ⟨flushL d.secs d.cache, []⟩ := ⟨by show (flushL d.secs d.cache).length ≤ _; rw [flushL_len]; exact h.1, by simp⟩
theorem secsT_prefix (l : List ByteArray) (a j : Nat) : ∀ m, j ≤ m → secsT l a j <+: secsT l a m
  | 0, h => by obtain rfl : j = 0 := by omega
               exact List.prefix_refl _
  | m + 1, h => by
    by_cases e : j = m + 1
    · subst e; exact List.prefix_refl _
    · exact (secsT_prefix l a j m (by omega)).trans (List.prefix_append _ _)
/-- The text of the first 100 sectors is the first 6400 bytes. -/
theorem text_take {fl : List ByteArray} (h64 : ∀ i, i < fl.length → (fl.getD i ByteArray.empty).size = 64) {k : Nat} (hk : k ≤ fl.length) : (mkS (secsT fl k (min 100 (fl.length - k)))).data.toList = (restT fl k).data.toList.take ((min 100 (fl.length - k)) * 64) := by
  unfold restT
  rw [mkS_list, mkS_list]
  have hp := secsT_prefix fl k (min 100 (fl.length - k)) (fl.length - k) (Nat.min_le_right _ _)
  have hl := secsT_len h64 k (min 100 (fl.length - k)) (by omega)
  rw [← hl]
  exact List.prefix_iff_eq_take.1 hp
/-- Is a log not read? -/
def lgBad (d : Dk) (a q : Int) : Prop := dkRight d = false ∨ a < 0 ∨ (d.secs.length : Int) ≤ a ∨ seqOk q = false
instance (d : Dk) (a q : Int) : Decidable (lgBad d a q) := by unfold lgBad; infer_instance
/-- What a reading of a log answers: records, the sector behind, a code. -/
def dkLog (d : Dk) (a q : Int) : List Wr × Int × Int :=
  if lgBad d a q then ([], 0, 1) else ((logR (flushL d.secs d.cache) (d.secs.length - a.toNat + 1) a.toNat q).1, ((logR (flushL d.secs d.cache) (d.secs.length - a.toNat + 1) a.toNat q).2 : Int), 0)
theorem dkLog_bad {d : Dk} {a q : Int} (h : lgBad d a q) : dkLog d a q = ([], 0, 1) := if_pos h
theorem dkLog_ok {d : Dk} {a q : Int} (h : ¬ lgBad d a q) : dkLog d a q = ((logR (flushL d.secs d.cache) (d.secs.length - a.toNat + 1) a.toNat q).1, ((logR (flushL d.secs d.cache) (d.secs.length - a.toNat + 1) a.toNat q).2 : Int), 0) := if_neg h
theorem logR_len {fl : List ByteArray} (h64 : ∀ i, i < fl.length → (fl.getD i ByteArray.empty).size = 64) : ∀ (f k : Nat) (q : Int), k ≤ fl.length → (logR fl f k q).1.length + k ≤ fl.length
  | 0, k, q, h => by simp [logR]; exact h
  | f + 1, k, q, h => by
    cases hr : recAt (restT fl k) q with
    | none => rw [logR_none hr]; simpa using h
    | some t =>
      rw [logR_some hr]
      have hm := recAt_many h64 h hr
      have := logR_len h64 f (k + many (recS q t)) (q + 1) hm.2.1
      simp only [List.length_cons]
      omega
theorem ownR_snoc {base : Nat} {v : Value} {l : List Wr} {w : World} {n : Nat} {x : Int} {t : ByteArray} (h : w.ownsRow base 34 2 v (n + 1) (flatW l ++ [.int .i64 x, .string t])) (hn : l.length = n) : OwnR base v (l ++ [⟨x, t⟩]) w := by
  unfold OwnR
  rw [flatW_snoc, List.length_append]
  simpa [hn] using h
theorem own_rc_one (w : World) (x : Int) (t : ByteArray) : (w.alloc (.cells #[.int .i64 x, .string t] 34)).ownsRow w.heap.size 34 2 (.slice (some ⟨w.heap.size, 0, none⟩) 1 1) 1 [.int .i64 x, .string t] :=
  ⟨rfl, .inr ⟨w.heap.size, 1, _, rfl, Nat.le_refl _, heap_alloc_new _ _, Nat.le_refl _, by decide, rfl, rfl⟩⟩
end Go.Proofs.Ytfhfhpnoeghgmaa

/-
  Contract: what the specification reads as a record.
-/
namespace Go.Proofs.Ytfhfhpnoeghgmaa
open Go.RowKit
set_option maxRecDepth 100000

theorem resRec3 {fn : Func} {p1 p2 p3 : Tmp} (h : fn.results = #[.cell p1 34, .tmp p2, .tmp p3]) (tmps : Array Value) (w : World) (g : Nat) (a b c d : Value) (hp : tmps.getD p1 undef = .pointer (some ⟨g, 0, none⟩)) (hc : tmps.getD p2 undef = c) (hd : tmps.getD p3 undef = d)
    (hg : w.heap[g]? = some (.cells #[a, b] 34 (0, 0))) : (results fn tmps).run Try.prog w = .ok (.tuple #[.agg #[a, b], c, d]) w := by
  have hp' : tmps[p1]?.getD undef = .pointer (some ⟨g, 0, none⟩) := by simpa using hp
  have hc' : tmps[p2]?.getD undef = c := by simpa using hc
  have hd' : tmps[p3]?.getD undef = d := by simpa using hd
  have hl := run_loadVar_row (P := Try.prog) w g 34 34 #[a, b] (0, 0) _ hg Try.underlying34 rfl (by kernel_rfl)
  simp [results, h, hp', hc', hd', asAddr, hl]
def spReadV (t : ByteArray) : Value := .tuple #[.agg #[.int .i64 (spRead t).1.1, .string (spRead t).1.2], .int .i64 (spRead t).2.1, .bool (spRead t).2.2]
theorem spReadV_eq {t b : ByteArray} {x n : Int} {ok : Bool} (h : spRead t = ((x, b), n, ok)) : spReadV t = .tuple #[.agg #[.int .i64 x, .string b], .int .i64 n, .bool ok] := by unfold spReadV; rw [h]
set_option maxHeartbeats 8000000 in
theorem l08Read_any (t : ByteArray) (ht : t.size ≤ 20000) (w : World) :
    Calls Try.prog 102 #[.string t, .int .u8 76] w fun e w' => e = .returned (spReadV t) ∧ Below w.heap.size w w' := by
  have HA := two_allocs w (.cells #[.int .i64 0, .string ⟨#[]⟩] 34) (.cells #[.string t, .int .i64 0, .bool false] 151)
  have B0 := hide (((Below.refl w.heap.size w).alloc (Nat.le_refl _) (.cells #[.int .i64 0, .string ⟨#[]⟩] 34)).alloc (by simp) (.cells #[.string t, .int .i64 0, .bool false] 151))
  have X0 := hide HA.1
  have HC0 : SpAt (w.heap.size + 1) t (some 0) ((w.alloc (.cells #[.int .i64 0, .string ⟨#[]⟩] 34)).alloc (.cells #[.string t, .int .i64 0, .bool false] 151)) := ⟨ht, 0, false, HA.2.1, by omega, .inl ⟨0, rfl, rfl, rfl, Nat.zero_le _⟩⟩
  have HF : Hid (Calls Try.prog 119 #[.pointer (some ⟨w.heap.size + 1, 0, none⟩), .int .u8 76] ((w.alloc (.cells #[.int .i64 0, .string ⟨#[]⟩] 34)).alloc (.cells #[.string t, .int .i64 0, .bool false] 151)) fun e w' => e = .returned (.tuple #[]) ∧ SpAt (w.heap.size + 1) t (rFst t 76) w' ∧ ((w.alloc (.cells #[.int .i64 0, .string ⟨#[]⟩] 34)).alloc (.cells #[.string t, .int .i64 0, .bool false] 151)).grownBy w' (some (w.heap.size + 1))) := spFirst_any (w.heap.size + 1) t 76 _ HC0
  have HSP := hide (spRead_eq t)
  have Z0 : Hid (((w.alloc (.cells #[.int .i64 0, .string ⟨#[]⟩] 34)).alloc (.cells #[.string t, .int .i64 0, .bool false] 151)).heap.size = w.heap.size + 2) := by show _ = _; simp
  generalize rFst t 76 = st1 at *
  have HNUM := hide (fun W hc => spNum_any (w.heap.size + 1) t st1 W hc)
  generalize hn : rNum t st1 = R1 at *
  obtain ⟨x, st2⟩ := R1
  simp only at HNUM HSP
  have HTXT := hide (fun W hc => spText_any (w.heap.size + 1) t st2 W hc)
  generalize hx : rTxt t st2 = R2 at *
  obtain ⟨b, st3⟩ := R2
  simp only at HTXT HSP
  clear hn hx HC0 HA
  go_enter Try.func102, Try.ntmps102
  go_wp2_with fail
  refine HF.out.mono ?_
  generalize (w.alloc (.cells #[.int .i64 0, .string ⟨#[]⟩] 34)).alloc (.cells #[.string t, .int .i64 0, .bool false] 151) = W0 at *
  rintro e w1 ⟨rfl, c1, g1⟩
  have X1 := hide ((g1.block w.heap.size (by have := Z0.out; omega) (by simp)).trans X0.out)
  have B1 := hide (B0.out.grown g1 B0.out.size (fun k e => by cases e; omega))
  clear g1 X0 B0 HF Z0
  go_wp2_with fail
  refine (HNUM.out _ c1).mono ?_
  rintro e w2 ⟨rfl, c2, g2⟩
  have X2 := hide (((g2.block w.heap.size (blkR X1.out) (by simp)).trans X1.out))
  have B2 := hide (B1.out.grown g2 B1.out.size (fun k e => by cases e; omega))
  clear g2 c1 X1 B1 HNUM
  have c2' := c2.below ((Below.refl w2.heap.size w2).alloc (Nat.le_refl _) (.cells #[.int .i64 x, .string ⟨#[]⟩] 34)) c2.lt
  have Y2 := hide (heap_alloc_new w2 (.cells #[.int .i64 x, .string ⟨#[]⟩] 34))
  have X2b := hide ((heap_old w2 (.cells #[.int .i64 x, .string ⟨#[]⟩] 34) _ (blkR X2.out)).trans X2.out)
  have B2b := hide (B2.out.alloc B2.out.size (.cells #[.int .i64 x, .string ⟨#[]⟩] 34))
  have L2 : Hid (w.heap.size + 1 < w2.heap.size) := c2.lt
  have Z2 : Hid ((w2.alloc (.cells #[.int .i64 x, .string ⟨#[]⟩] 34)).heap.size = w2.heap.size + 1) := by show _ = _; simp
  go_wp2_with fail
  refine (HTXT.out _ c2').mono ?_
  generalize w2.alloc (.cells #[.int .i64 x, .string ⟨#[]⟩] 34) = W2 at *
  rintro e w3 ⟨rfl, c3, g3⟩
  have hl2 := L2.out
  have X3' := (g3.block w.heap.size (blkR X2b.out) (by simp)).trans X2b.out
  have Y3' := (g3.block w2.heap.size (blkR Y2.out) (by simp; omega)).trans Y2.out
  have B3' := B2b.out.grown g3 B2b.out.size (fun k e => by cases e; omega)
  have c3' := c3.other (R := w2.heap.size) (by omega) 1 (.string b)
  have X3 := hide ((heap_far w3 w2.heap.size 1 w.heap.size (.string b) (by omega)).trans X3')
  have Y3 : Hid ((w3.setCell ⟨w2.heap.size, 1, none⟩ (.string b)).heap[w2.heap.size]? = some (.cells #[.int .i64 x, .string b] 34 (0, 0))) := by
    have := heap_setCell_same w3 w2.heap.size 1 _ 34 (.string b) Y3'
    show _ = _
    simpa using this
  have B3 := hide (B3'.setCell (p := ⟨w2.heap.size, 1, none⟩) (by show w.heap.size ≤ w2.heap.size; omega) (.string b))
  obtain ⟨y0, y1, yf⟩ := cells2 Y3'
  obtain ⟨hs, a, bb, hg, ha, hst⟩ := c3'
  obtain ⟨k0, k1, k2, kf⟩ := cells3 hg
  have G3 := hide hg
  clear c2 c2' c3 g3 X2 Y2 X2b B2 B2b HTXT Z2 hg X3' B3'
  rcases hst with ⟨p, rfl, rfl, rfl, hp⟩ | ⟨rfl, rfl⟩
  · simp only at HSP
    by_cases hlen : p + 4 ≤ t.size
    · have hl2 : ¬ (t.size : Int) < (p : Int) + 4 := by omega
      have hw0 : IntKind.i64.wrap (p : Int) = (p : Int) := by rw [IntKind.wrap_i64]; omega
      have hw4 : IntKind.i64.wrap ((p : Int) + 4) = (p : Int) + 4 := by rw [IntKind.wrap_i64]; omega
      have h00 : (0 : Int) ≤ (p : Int) := by omega
      have h01 : (p : Int) ≤ (t.size : Int) := by omega
      have h02 : (p : Int) + 4 ≤ (t.size : Int) := by omega
      have h03 : (p : Int) ≤ (p : Int) + 4 := by omega
      have h04 : (0 : Int) ≤ (p : Int) + 4 := by omega
      have htn : ((p : Int) + 4).toNat = p + 4 := by omega
      have HCR := hide (fun W => specCrc_any 0 (by omega) (t.extract 0 p) (by rw [ByteArray.size_extract]; omega) W)
      have HCE : Hid ((t.extract 0 p).data.toList = t.data.toList.take p) := by show _ = _; rw [ext_list, List.drop_zero, Nat.sub_zero]
      rw [HCE.out] at HCR
      have hcl : crcMoreN 0 (t.data.toList.take p) < 4294967296 := crcMoreN_lt (by omega) _
      have HFR := hide (fun W => four_any (crcMoreN 0 (t.data.toList.take p)) hcl W)
      generalize crcMoreN 0 (t.data.toList.take p) = C at *
      generalize fourS C = FC at *
      clear hcl HCE
      go_wp2
      generalize hW3 : w3.setCell ⟨w2.heap.size, 1, none⟩ (.string b) = W3 at *
      obtain ⟨x0, x1, xf⟩ := cells2 X3.out
      obtain ⟨z0, z1, zf⟩ := cells2 Y3.out
      clear hW3 y0 y1 yf Y3'
      have hdl : decide ((t.size : Int) < (p : Int) + 4) = false := decide_eq_false (by omega)
      by_cases he : FC = t.extract p (p + 4)
      · have HV := hide (spReadV_eq (HSP.out.trans (if_pos ⟨hlen, he⟩)))
        subst he
        refine wp_region_noPanic ?_
        refine wp_region_held_drew (S := fun W => W.cell? ⟨w.heap.size + 1, 0, none⟩ = some (.string t) ∧ W.cell? ⟨w.heap.size + 1, 1, none⟩ = some (.int .i64 (p : Int)) ∧ W.cell? ⟨w.heap.size + 1, 2, none⟩ = some (.bool false)) (by kernel_rfl) ?_ (fun hHeld => ?_)
        · (try dsimp only); go_keep
        refine takeD 0 27 (v := ?v1x0) rfl rfl (by kernel_rfl) (by kernel_rfl) (by kernel_rfl) (fun _ _ _ h => h) (by kernel_rfl) ?hy1x0 (by assumption) ?r1x0
        case hy1x0 => (intro W hSw; (try dsimp only at hSw); go_simp; try with_reducible rfl)
        simp only [Act.put, List.setIfInBounds_toArray, List.set_cons_zero, List.set_cons_succ]
        refine takeD 1 28 (v := ?v1x1) rfl rfl (by kernel_rfl) (by kernel_rfl) (by kernel_rfl) (fun _ _ _ h => h) (by kernel_rfl) ?hy1x1 (by assumption) ?r1x1
        case hy1x1 => (intro W hSw; (try dsimp only at hSw); go_simp; try with_reducible rfl)
        simp only [Act.put, List.setIfInBounds_toArray, List.set_cons_zero, List.set_cons_succ]
        refine takeD 2 29 (v := ?v1x2) rfl rfl (by kernel_rfl) (by kernel_rfl) (by kernel_rfl) (fun _ _ _ h => h) (by kernel_rfl) ?hy1x2 (by assumption) ?r1x2
        case hy1x2 => (intro W hSw; (try dsimp only at hSw); go_simp; try with_reducible rfl)
        simp only [Act.put, List.setIfInBounds_toArray, List.set_cons_zero, List.set_cons_succ]
        refine takeD 3 30 (v := ?v1x3) rfl rfl (by kernel_rfl) (by kernel_rfl) (by kernel_rfl) (fun _ _ _ h => h) (by kernel_rfl) ?hy1x3 (by assumption) ?r1x3
        case hy1x3 => (intro W hSw; (try dsimp only at hSw); go_simp; try with_reducible rfl)
        simp only [Act.put, List.setIfInBounds_toArray, List.set_cons_zero, List.set_cons_succ]
        refine takeD 4 31 (v := ?v1x4) rfl rfl (by kernel_rfl) (by kernel_rfl) (by kernel_rfl) (fun _ _ _ h => h) (by kernel_rfl) ?hy1x4 (by assumption) ?r1x4
        case hy1x4 => (intro W hSw; (try dsimp only at hSw); go_simp; try with_reducible rfl)
        simp only [Act.put, List.setIfInBounds_toArray, List.set_cons_zero, List.set_cons_succ]
        refine takeD 5 32 (v := ?v1x5) rfl rfl (by kernel_rfl) (by kernel_rfl) (by kernel_rfl) (fun _ _ _ h => h) (by kernel_rfl) ?hy1x5 (by assumption) ?r1x5
        case hy1x5 => (intro W hSw; (try dsimp only at hSw); go_simp; try with_reducible rfl)
        simp only [Act.put, List.setIfInBounds_toArray, List.set_cons_zero, List.set_cons_succ]
        refine takeD 6 33 (v := ?v1x6) rfl rfl (by kernel_rfl) (by kernel_rfl) (by kernel_rfl) (fun _ _ _ h => h) (by kernel_rfl) ?hy1x6 (by assumption) ?r1x6
        case hy1x6 => (intro W hSw; (try dsimp only at hSw); go_simp; try with_reducible rfl)
        simp only [Act.put, List.setIfInBounds_toArray, List.set_cons_zero, List.set_cons_succ]
        refine takeD 7 34 (v := ?v1x7) rfl rfl (by kernel_rfl) (by kernel_rfl) (by kernel_rfl) (fun _ _ _ h => h) (by kernel_rfl) ?hy1x7 (by assumption) ?r1x7
        case hy1x7 => (intro W hSw; (try dsimp only at hSw); go_simp; try with_reducible rfl)
        simp only [Act.put, List.setIfInBounds_toArray, List.set_cons_zero, List.set_cons_succ]
        refine takeD 8 35 (v := ?v1x8) rfl rfl (by kernel_rfl) (by kernel_rfl) (by kernel_rfl) (fun _ _ _ h => h) (by kernel_rfl) ?hy1x8 (by assumption) ?r1x8
        case hy1x8 => (intro W hSw; (try dsimp only at hSw); go_simp; try with_reducible rfl)
        simp only [Act.put, List.setIfInBounds_toArray, List.set_cons_zero, List.set_cons_succ]
        refine takeD 9 36 (v := ?v1x9) rfl rfl (by kernel_rfl) (by kernel_rfl) (by kernel_rfl) (fun _ _ _ h => h) (by kernel_rfl) ?hy1x9 (by assumption) ?r1x9
        case hy1x9 => (intro W hSw; (try dsimp only at hSw); go_simp; try with_reducible rfl)
        simp only [Act.put, List.setIfInBounds_toArray, List.set_cons_zero, List.set_cons_succ]
        refine takeD 10 37 (v := ?v1x10) rfl rfl (by kernel_rfl) (by kernel_rfl) (by kernel_rfl) (fun _ _ _ h => h) (by kernel_rfl) ?hy1x10 (by assumption) ?r1x10
        case hy1x10 => (intro W hSw; (try dsimp only at hSw); go_simp; try with_reducible rfl)
        simp only [Act.put, List.setIfInBounds_toArray, List.set_cons_zero, List.set_cons_succ]
        refine takeD 11 38 (v := ?v1x11) rfl rfl (by kernel_rfl) (by kernel_rfl) (by kernel_rfl) (fun _ _ _ h => h) (by kernel_rfl) ?hy1x11 (by assumption) ?r1x11
        case hy1x11 => (intro W hSw; (try dsimp only at hSw); go_simp; try with_reducible rfl)
        simp only [Act.put, List.setIfInBounds_toArray, List.set_cons_zero, List.set_cons_succ]
        refine takeD 12 39 (v := ?v1x12) rfl rfl (by kernel_rfl) (by kernel_rfl) (by kernel_rfl) (fun _ _ _ h => h) (by kernel_rfl) ?hy1x12 (by assumption) ?r1x12
        case hy1x12 => (intro W hSw; (try dsimp only at hSw); go_simp; try with_reducible rfl)
        simp only [Act.put, List.setIfInBounds_toArray, List.set_cons_zero, List.set_cons_succ]
        refine takeD 13 40 (v := ?v1x13) rfl rfl (by kernel_rfl) (by kernel_rfl) (by kernel_rfl) (fun _ _ _ h => h) (by kernel_rfl) ?hy1x13 (by assumption) ?r1x13
        case hy1x13 => (intro W hSw; (try dsimp only at hSw); go_simp; try with_reducible rfl)
        simp only [Act.put, List.setIfInBounds_toArray, List.set_cons_zero, List.set_cons_succ]
        refine takeD 14 41 (v := ?v1x14) rfl rfl (by kernel_rfl) (by kernel_rfl) (by kernel_rfl) (fun _ _ _ h => h) (by kernel_rfl) ?hy1x14 (by assumption) ?r1x14
        case hy1x14 => (intro W hSw; (try dsimp only at hSw); go_simp; try with_reducible rfl)
        simp only [Act.put, List.setIfInBounds_toArray, List.set_cons_zero, List.set_cons_succ]
        refine takeD 17 44 (v := ?v1x17) rfl rfl (by kernel_rfl) (by kernel_rfl) (by kernel_rfl) (fun _ _ _ h => h) (by kernel_rfl) ?hy1x17 (by assumption) ?r1x17
        case hy1x17 => (intro W hSw; (try dsimp only at hSw); go_simp; try with_reducible rfl)
        simp only [Act.put, List.setIfInBounds_toArray, List.set_cons_zero, List.set_cons_succ]
        refine takeD 18 45 (v := ?v1x18) rfl rfl (by kernel_rfl) (by kernel_rfl) (by kernel_rfl) (fun _ _ _ h => h) (by kernel_rfl) ?hy1x18 (by assumption) ?r1x18
        case hy1x18 => (intro W hSw; (try dsimp only at hSw); go_simp; try with_reducible rfl)
        simp only [Act.put, List.setIfInBounds_toArray, List.set_cons_zero, List.set_cons_succ]
        refine takeD 19 46 (v := ?v1x19) rfl rfl (by kernel_rfl) (by kernel_rfl) (by kernel_rfl) (fun _ _ _ h => h) (by kernel_rfl) ?hy1x19 (by assumption) ?r1x19
        case hy1x19 => (intro W hSw; (try dsimp only at hSw); go_simp; try with_reducible rfl)
        simp only [Act.put, List.setIfInBounds_toArray, List.set_cons_zero, List.set_cons_succ]
        refine takeD 20 47 (v := ?v1x20) rfl rfl (by kernel_rfl) (by kernel_rfl) (by kernel_rfl) (fun _ _ _ h => h) (by kernel_rfl) ?hy1x20 (by assumption) ?r1x20
        case hy1x20 => (intro W hSw; (try dsimp only at hSw); go_simp; try with_reducible rfl)
        simp only [Act.put, List.setIfInBounds_toArray, List.set_cons_zero, List.set_cons_succ]
        refine takeD 21 48 (v := ?v1x21) rfl rfl (by kernel_rfl) (by kernel_rfl) (by kernel_rfl) (fun _ _ _ h => h) (by kernel_rfl) ?hy1x21 (by assumption) ?r1x21
        case hy1x21 => (intro W hSw; (try dsimp only at hSw); go_simp; try with_reducible rfl)
        simp only [Act.put, List.setIfInBounds_toArray, List.set_cons_zero, List.set_cons_succ]
        refine wpAnyH_ready (rs := [15]) (by kernel_rfl) (by simp) ?_
        refine AllReadyH.cons (o := _) rfl (fun K hK => ?_) AllReadyH.nil
        go_simp
        go_at_call 104; refine (HCR.out _).mono ?_; rintro e w5 ⟨rfl, rfl⟩
        go_wp2_with fail
        refine hK.out _ _ ?_ (fun hHeld2 => ?_)
        · (try dsimp only); go_keep
        clear hK K hHeld
        try simp only [Act.put, List.setIfInBounds_toArray, List.set_cons_zero, List.set_cons_succ]
        refine wpAnyH_ready (rs := [16]) (by kernel_rfl) (by simp) ?_
        refine AllReadyH.cons (o := _) rfl (fun K hK => ?_) AllReadyH.nil
        go_simp
        go_at_call 103; refine (HFR.out _).mono ?_; rintro e w6 ⟨rfl, b6⟩; have G6 := hide ((b6.block (w.heap.size + 1) (blkR G3.out)).trans G3.out); have X6 := hide ((b6.block w.heap.size (blkR X3.out)).trans X3.out); have Y6 := hide ((b6.block w2.heap.size (blkR Y3.out)).trans Y3.out); have B6 := hide (B3.out.drew.trans (b6.mono B3.out.size)); clear b6; obtain ⟨k60, k61, k62, kf6⟩ := cells3 G6.out
        go_wp2_with fail
        refine hK.out _ _ ?_ (fun hHeld2 => ?_)
        · (try dsimp only); go_keep
        clear hK K
        try simp only [Act.put, List.setIfInBounds_toArray, List.set_cons_zero, List.set_cons_succ]
        refine takeD 22 49 (v := ?v1x22) rfl rfl (by kernel_rfl) (by kernel_rfl) (by kernel_rfl) (fun _ _ _ h => h) (by kernel_rfl) ?hy1x22 (by assumption) ?r1x22
        case hy1x22 => (intro W hSw; (try dsimp only at hSw); go_simp; try with_reducible rfl)
        simp only [Act.put, List.setIfInBounds_toArray, List.set_cons_zero, List.set_cons_succ]
        refine takeD 23 50 (v := ?v1x23) rfl rfl (by kernel_rfl) (by kernel_rfl) (by kernel_rfl) (fun _ _ _ h => h) (by kernel_rfl) ?hy1x23 (by assumption) ?r1x23
        case hy1x23 => (intro W hSw; (try dsimp only at hSw); go_simp; try with_reducible rfl)
        simp only [Act.put, List.setIfInBounds_toArray, List.set_cons_zero, List.set_cons_succ]
        refine wpAnyH_done (by kernel_rfl) ?_ _
        refine NoPanic.normal ?_
        obtain ⟨x60, x61, xf6⟩ := cells2 X6.out
        obtain ⟨z60, z61, zf6⟩ := cells2 Y6.out
        go_wp2
        refine bodyPost_ret (v := .tuple #[.agg #[.int .i64 x, .string b], .int .i64 ((p + 4 : Nat) : Int), .bool true]) (resRec3 Try.results102 _ _ w.heap.size _ _ _ _ rfl rfl rfl (set2 X6.out)) rfl ⟨by rw [HV.out], ?_⟩
        exact ((B6.out.setCell (p := ⟨w.heap.size, 0, none⟩) (Nat.le_refl _) _).setCell (p := ⟨w.heap.size, 1, none⟩) (Nat.le_refl _) _)
      · have HV := hide (spReadV_eq (HSP.out.trans (if_neg (fun h => he h.2))))
        have hne := str_neL he
        refine wp_region_noPanic ?_
        refine wp_region_held_drew (S := fun W => W.cell? ⟨w.heap.size + 1, 0, none⟩ = some (.string t) ∧ W.cell? ⟨w.heap.size + 1, 1, none⟩ = some (.int .i64 (p : Int)) ∧ W.cell? ⟨w.heap.size + 1, 2, none⟩ = some (.bool false)) (by kernel_rfl) ?_ (fun hHeld => ?_)
        · (try dsimp only); go_keep
        refine takeD 0 27 (v := ?v2x0) rfl rfl (by kernel_rfl) (by kernel_rfl) (by kernel_rfl) (fun _ _ _ h => h) (by kernel_rfl) ?hy2x0 (by assumption) ?r2x0
        case hy2x0 => (intro W hSw; (try dsimp only at hSw); go_simp; try with_reducible rfl)
        simp only [Act.put, List.setIfInBounds_toArray, List.set_cons_zero, List.set_cons_succ]
        refine takeD 1 28 (v := ?v2x1) rfl rfl (by kernel_rfl) (by kernel_rfl) (by kernel_rfl) (fun _ _ _ h => h) (by kernel_rfl) ?hy2x1 (by assumption) ?r2x1
        case hy2x1 => (intro W hSw; (try dsimp only at hSw); go_simp; try with_reducible rfl)
        simp only [Act.put, List.setIfInBounds_toArray, List.set_cons_zero, List.set_cons_succ]
        refine takeD 2 29 (v := ?v2x2) rfl rfl (by kernel_rfl) (by kernel_rfl) (by kernel_rfl) (fun _ _ _ h => h) (by kernel_rfl) ?hy2x2 (by assumption) ?r2x2
        case hy2x2 => (intro W hSw; (try dsimp only at hSw); go_simp; try with_reducible rfl)
        simp only [Act.put, List.setIfInBounds_toArray, List.set_cons_zero, List.set_cons_succ]
        refine takeD 3 30 (v := ?v2x3) rfl rfl (by kernel_rfl) (by kernel_rfl) (by kernel_rfl) (fun _ _ _ h => h) (by kernel_rfl) ?hy2x3 (by assumption) ?r2x3
        case hy2x3 => (intro W hSw; (try dsimp only at hSw); go_simp; try with_reducible rfl)
        simp only [Act.put, List.setIfInBounds_toArray, List.set_cons_zero, List.set_cons_succ]
        refine takeD 4 31 (v := ?v2x4) rfl rfl (by kernel_rfl) (by kernel_rfl) (by kernel_rfl) (fun _ _ _ h => h) (by kernel_rfl) ?hy2x4 (by assumption) ?r2x4
        case hy2x4 => (intro W hSw; (try dsimp only at hSw); go_simp; try with_reducible rfl)
        simp only [Act.put, List.setIfInBounds_toArray, List.set_cons_zero, List.set_cons_succ]
        refine takeD 5 32 (v := ?v2x5) rfl rfl (by kernel_rfl) (by kernel_rfl) (by kernel_rfl) (fun _ _ _ h => h) (by kernel_rfl) ?hy2x5 (by assumption) ?r2x5
        case hy2x5 => (intro W hSw; (try dsimp only at hSw); go_simp; try with_reducible rfl)
        simp only [Act.put, List.setIfInBounds_toArray, List.set_cons_zero, List.set_cons_succ]
        refine takeD 6 33 (v := ?v2x6) rfl rfl (by kernel_rfl) (by kernel_rfl) (by kernel_rfl) (fun _ _ _ h => h) (by kernel_rfl) ?hy2x6 (by assumption) ?r2x6
        case hy2x6 => (intro W hSw; (try dsimp only at hSw); go_simp; try with_reducible rfl)
        simp only [Act.put, List.setIfInBounds_toArray, List.set_cons_zero, List.set_cons_succ]
        refine takeD 7 34 (v := ?v2x7) rfl rfl (by kernel_rfl) (by kernel_rfl) (by kernel_rfl) (fun _ _ _ h => h) (by kernel_rfl) ?hy2x7 (by assumption) ?r2x7
        case hy2x7 => (intro W hSw; (try dsimp only at hSw); go_simp; try with_reducible rfl)
        simp only [Act.put, List.setIfInBounds_toArray, List.set_cons_zero, List.set_cons_succ]
        refine takeD 8 35 (v := ?v2x8) rfl rfl (by kernel_rfl) (by kernel_rfl) (by kernel_rfl) (fun _ _ _ h => h) (by kernel_rfl) ?hy2x8 (by assumption) ?r2x8
        case hy2x8 => (intro W hSw; (try dsimp only at hSw); go_simp; try with_reducible rfl)
        simp only [Act.put, List.setIfInBounds_toArray, List.set_cons_zero, List.set_cons_succ]
        refine takeD 9 36 (v := ?v2x9) rfl rfl (by kernel_rfl) (by kernel_rfl) (by kernel_rfl) (fun _ _ _ h => h) (by kernel_rfl) ?hy2x9 (by assumption) ?r2x9
        case hy2x9 => (intro W hSw; (try dsimp only at hSw); go_simp; try with_reducible rfl)
        simp only [Act.put, List.setIfInBounds_toArray, List.set_cons_zero, List.set_cons_succ]
        refine takeD 10 37 (v := ?v2x10) rfl rfl (by kernel_rfl) (by kernel_rfl) (by kernel_rfl) (fun _ _ _ h => h) (by kernel_rfl) ?hy2x10 (by assumption) ?r2x10
        case hy2x10 => (intro W hSw; (try dsimp only at hSw); go_simp; try with_reducible rfl)
        simp only [Act.put, List.setIfInBounds_toArray, List.set_cons_zero, List.set_cons_succ]
        refine takeD 11 38 (v := ?v2x11) rfl rfl (by kernel_rfl) (by kernel_rfl) (by kernel_rfl) (fun _ _ _ h => h) (by kernel_rfl) ?hy2x11 (by assumption) ?r2x11
        case hy2x11 => (intro W hSw; (try dsimp only at hSw); go_simp; try with_reducible rfl)
        simp only [Act.put, List.setIfInBounds_toArray, List.set_cons_zero, List.set_cons_succ]
        refine takeD 12 39 (v := ?v2x12) rfl rfl (by kernel_rfl) (by kernel_rfl) (by kernel_rfl) (fun _ _ _ h => h) (by kernel_rfl) ?hy2x12 (by assumption) ?r2x12
        case hy2x12 => (intro W hSw; (try dsimp only at hSw); go_simp; try with_reducible rfl)
        simp only [Act.put, List.setIfInBounds_toArray, List.set_cons_zero, List.set_cons_succ]
        refine takeD 13 40 (v := ?v2x13) rfl rfl (by kernel_rfl) (by kernel_rfl) (by kernel_rfl) (fun _ _ _ h => h) (by kernel_rfl) ?hy2x13 (by assumption) ?r2x13
        case hy2x13 => (intro W hSw; (try dsimp only at hSw); go_simp; try with_reducible rfl)
        simp only [Act.put, List.setIfInBounds_toArray, List.set_cons_zero, List.set_cons_succ]
        refine takeD 14 41 (v := ?v2x14) rfl rfl (by kernel_rfl) (by kernel_rfl) (by kernel_rfl) (fun _ _ _ h => h) (by kernel_rfl) ?hy2x14 (by assumption) ?r2x14
        case hy2x14 => (intro W hSw; (try dsimp only at hSw); go_simp; try with_reducible rfl)
        simp only [Act.put, List.setIfInBounds_toArray, List.set_cons_zero, List.set_cons_succ]
        refine takeD 17 44 (v := ?v2x17) rfl rfl (by kernel_rfl) (by kernel_rfl) (by kernel_rfl) (fun _ _ _ h => h) (by kernel_rfl) ?hy2x17 (by assumption) ?r2x17
        case hy2x17 => (intro W hSw; (try dsimp only at hSw); go_simp; try with_reducible rfl)
        simp only [Act.put, List.setIfInBounds_toArray, List.set_cons_zero, List.set_cons_succ]
        refine takeD 18 45 (v := ?v2x18) rfl rfl (by kernel_rfl) (by kernel_rfl) (by kernel_rfl) (fun _ _ _ h => h) (by kernel_rfl) ?hy2x18 (by assumption) ?r2x18
        case hy2x18 => (intro W hSw; (try dsimp only at hSw); go_simp; try with_reducible rfl)
        simp only [Act.put, List.setIfInBounds_toArray, List.set_cons_zero, List.set_cons_succ]
        refine takeD 19 46 (v := ?v2x19) rfl rfl (by kernel_rfl) (by kernel_rfl) (by kernel_rfl) (fun _ _ _ h => h) (by kernel_rfl) ?hy2x19 (by assumption) ?r2x19
        case hy2x19 => (intro W hSw; (try dsimp only at hSw); go_simp; try with_reducible rfl)
        simp only [Act.put, List.setIfInBounds_toArray, List.set_cons_zero, List.set_cons_succ]
        refine takeD 20 47 (v := ?v2x20) rfl rfl (by kernel_rfl) (by kernel_rfl) (by kernel_rfl) (fun _ _ _ h => h) (by kernel_rfl) ?hy2x20 (by assumption) ?r2x20
        case hy2x20 => (intro W hSw; (try dsimp only at hSw); go_simp; try with_reducible rfl)
        simp only [Act.put, List.setIfInBounds_toArray, List.set_cons_zero, List.set_cons_succ]
        refine takeD 21 48 (v := ?v2x21) rfl rfl (by kernel_rfl) (by kernel_rfl) (by kernel_rfl) (fun _ _ _ h => h) (by kernel_rfl) ?hy2x21 (by assumption) ?r2x21
        case hy2x21 => (intro W hSw; (try dsimp only at hSw); go_simp; try with_reducible rfl)
        simp only [Act.put, List.setIfInBounds_toArray, List.set_cons_zero, List.set_cons_succ]
        refine wpAnyH_ready (rs := [15]) (by kernel_rfl) (by simp) ?_
        refine AllReadyH.cons (o := _) rfl (fun K hK => ?_) AllReadyH.nil
        go_simp
        go_at_call 104; refine (HCR.out _).mono ?_; rintro e w5 ⟨rfl, rfl⟩
        go_wp2_with fail
        refine hK.out _ _ ?_ (fun hHeld2 => ?_)
        · (try dsimp only); go_keep
        clear hK K hHeld
        try simp only [Act.put, List.setIfInBounds_toArray, List.set_cons_zero, List.set_cons_succ]
        refine wpAnyH_ready (rs := [16]) (by kernel_rfl) (by simp) ?_
        refine AllReadyH.cons (o := _) rfl (fun K hK => ?_) AllReadyH.nil
        go_simp
        go_at_call 103; refine (HFR.out _).mono ?_; rintro e w6 ⟨rfl, b6⟩; have G6 := hide ((b6.block (w.heap.size + 1) (blkR G3.out)).trans G3.out); have X6 := hide ((b6.block w.heap.size (blkR X3.out)).trans X3.out); have Y6 := hide ((b6.block w2.heap.size (blkR Y3.out)).trans Y3.out); have B6 := hide (B3.out.drew.trans (b6.mono B3.out.size)); clear b6; obtain ⟨k60, k61, k62, kf6⟩ := cells3 G6.out
        go_wp2_with fail
        refine hK.out _ _ ?_ (fun hHeld2 => ?_)
        · (try dsimp only); go_keep
        clear hK K
        try simp only [Act.put, List.setIfInBounds_toArray, List.set_cons_zero, List.set_cons_succ]
        refine takeD 22 49 (v := ?v2x22) rfl rfl (by kernel_rfl) (by kernel_rfl) (by kernel_rfl) (fun _ _ _ h => h) (by kernel_rfl) ?hy2x22 (by assumption) ?r2x22
        case hy2x22 => (intro W hSw; (try dsimp only at hSw); go_simp; try with_reducible rfl)
        simp only [Act.put, List.setIfInBounds_toArray, List.set_cons_zero, List.set_cons_succ]
        refine takeD 23 50 (v := ?v2x23) rfl rfl (by kernel_rfl) (by kernel_rfl) (by kernel_rfl) (fun _ _ _ h => h) (by kernel_rfl) ?hy2x23 (by assumption) ?r2x23
        case hy2x23 => (intro W hSw; (try dsimp only at hSw); go_simp; try with_reducible rfl)
        simp only [Act.put, List.setIfInBounds_toArray, List.set_cons_zero, List.set_cons_succ]
        refine wpAnyH_done (by kernel_rfl) ?_ _
        refine NoPanic.normal ?_
        obtain ⟨x60, x61, xf6⟩ := cells2 X6.out
        obtain ⟨z60, z61, zf6⟩ := cells2 Y6.out
        go_wp2
        refine bodyPost_ret (v := .tuple #[.agg #[.int .i64 x, .string b], .int .i64 0, .bool false]) (resRec3 Try.results102 _ _ w.heap.size _ _ _ _ rfl rfl rfl (set2 X6.out)) rfl ⟨by rw [HV.out], ?_⟩
        exact ((B6.out.setCell (p := ⟨w.heap.size, 0, none⟩) (Nat.le_refl _) _).setCell (p := ⟨w.heap.size, 1, none⟩) (Nat.le_refl _) _)
    · have HV := hide (spReadV_eq (HSP.out.trans (if_neg (fun h => hlen h.1))))
      have hl2 : (t.size : Int) < (p : Int) + 4 := by omega
      go_wp2
      generalize hW3 : w3.setCell ⟨w2.heap.size, 1, none⟩ (.string b) = W3 at *
      obtain ⟨x0, x1, xf⟩ := cells2 X3.out
      obtain ⟨z0, z1, zf⟩ := cells2 Y3.out
      clear hW3 y0 y1 yf Y3'
      refine wp_region_noPanic ?_
      refine wp_region_held_drew (S := fun W => W.cell? ⟨w.heap.size + 1, 0, none⟩ = some (.string t) ∧ W.cell? ⟨w.heap.size + 1, 1, none⟩ = some (.int .i64 (p : Int)) ∧ W.cell? ⟨w.heap.size + 1, 2, none⟩ = some (.bool false)) (by kernel_rfl) ?_ (fun hHeld => ?_)
      · (try dsimp only); go_keep
      refine takeD 0 27 (v := ?v3x0) rfl rfl (by kernel_rfl) (by kernel_rfl) (by kernel_rfl) (fun _ _ _ h => h) (by kernel_rfl) ?hy3x0 (by assumption) ?r3x0
      case hy3x0 => (intro W hSw; (try dsimp only at hSw); go_simp; try with_reducible rfl)
      simp only [Act.put, List.setIfInBounds_toArray, List.set_cons_zero, List.set_cons_succ]
      refine takeD 1 28 (v := ?v3x1) rfl rfl (by kernel_rfl) (by kernel_rfl) (by kernel_rfl) (fun _ _ _ h => h) (by kernel_rfl) ?hy3x1 (by assumption) ?r3x1
      case hy3x1 => (intro W hSw; (try dsimp only at hSw); go_simp; try with_reducible rfl)
      simp only [Act.put, List.setIfInBounds_toArray, List.set_cons_zero, List.set_cons_succ]
      refine takeD 2 29 (v := ?v3x2) rfl rfl (by kernel_rfl) (by kernel_rfl) (by kernel_rfl) (fun _ _ _ h => h) (by kernel_rfl) ?hy3x2 (by assumption) ?r3x2
      case hy3x2 => (intro W hSw; (try dsimp only at hSw); go_simp; try with_reducible rfl)
      simp only [Act.put, List.setIfInBounds_toArray, List.set_cons_zero, List.set_cons_succ]
      refine takeD 3 30 (v := ?v3x3) rfl rfl (by kernel_rfl) (by kernel_rfl) (by kernel_rfl) (fun _ _ _ h => h) (by kernel_rfl) ?hy3x3 (by assumption) ?r3x3
      case hy3x3 => (intro W hSw; (try dsimp only at hSw); go_simp; try with_reducible rfl)
      simp only [Act.put, List.setIfInBounds_toArray, List.set_cons_zero, List.set_cons_succ]
      refine takeD 4 31 (v := ?v3x4) rfl rfl (by kernel_rfl) (by kernel_rfl) (by kernel_rfl) (fun _ _ _ h => h) (by kernel_rfl) ?hy3x4 (by assumption) ?r3x4
      case hy3x4 => (intro W hSw; (try dsimp only at hSw); go_simp; try with_reducible rfl)
      simp only [Act.put, List.setIfInBounds_toArray, List.set_cons_zero, List.set_cons_succ]
      refine takeD 5 32 (v := ?v3x5) rfl rfl (by kernel_rfl) (by kernel_rfl) (by kernel_rfl) (fun _ _ _ h => h) (by kernel_rfl) ?hy3x5 (by assumption) ?r3x5
      case hy3x5 => (intro W hSw; (try dsimp only at hSw); go_simp; try with_reducible rfl)
      simp only [Act.put, List.setIfInBounds_toArray, List.set_cons_zero, List.set_cons_succ]
      refine takeD 6 33 (v := ?v3x6) rfl rfl (by kernel_rfl) (by kernel_rfl) (by kernel_rfl) (fun _ _ _ h => h) (by kernel_rfl) ?hy3x6 (by assumption) ?r3x6
      case hy3x6 => (intro W hSw; (try dsimp only at hSw); go_simp; try with_reducible rfl)
      simp only [Act.put, List.setIfInBounds_toArray, List.set_cons_zero, List.set_cons_succ]
      refine takeD 7 34 (v := ?v3x7) rfl rfl (by kernel_rfl) (by kernel_rfl) (by kernel_rfl) (fun _ _ _ h => h) (by kernel_rfl) ?hy3x7 (by assumption) ?r3x7
      case hy3x7 => (intro W hSw; (try dsimp only at hSw); go_simp; try with_reducible rfl)
      simp only [Act.put, List.setIfInBounds_toArray, List.set_cons_zero, List.set_cons_succ]
      refine takeD 8 35 (v := ?v3x8) rfl rfl (by kernel_rfl) (by kernel_rfl) (by kernel_rfl) (fun _ _ _ h => h) (by kernel_rfl) ?hy3x8 (by assumption) ?r3x8
      case hy3x8 => (intro W hSw; (try dsimp only at hSw); go_simp; try with_reducible rfl)
      simp only [Act.put, List.setIfInBounds_toArray, List.set_cons_zero, List.set_cons_succ]
      refine takeD 9 36 (v := ?v3x9) rfl rfl (by kernel_rfl) (by kernel_rfl) (by kernel_rfl) (fun _ _ _ h => h) (by kernel_rfl) ?hy3x9 (by assumption) ?r3x9
      case hy3x9 => (intro W hSw; (try dsimp only at hSw); go_simp; try with_reducible rfl)
      simp only [Act.put, List.setIfInBounds_toArray, List.set_cons_zero, List.set_cons_succ]
      refine takeD 10 37 (v := ?v3x10) rfl rfl (by kernel_rfl) (by kernel_rfl) (by kernel_rfl) (fun _ _ _ h => h) (by kernel_rfl) ?hy3x10 (by assumption) ?r3x10
      case hy3x10 => (intro W hSw; (try dsimp only at hSw); go_simp; try with_reducible rfl)
      simp only [Act.put, List.setIfInBounds_toArray, List.set_cons_zero, List.set_cons_succ]
      refine skipAll [(11, 38), (12, 39), (13, 40), (14, 41), (15, 42), (16, 43), (17, 44), (18, 45), (19, 46), (20, 47), (21, 48), (22, 49)] (by kernel_rfl) (fun _ _ _ _ _ h => h) (by assumption) (by kernel_rfl) ?_
      simp only [putAll, listAll, List.foldl_cons, List.foldl_nil, Act.put, List.setIfInBounds_toArray, List.set_cons_zero, List.set_cons_succ]
      refine takeD 23 50 (v := ?v3x23) rfl rfl (by kernel_rfl) (by kernel_rfl) (by kernel_rfl) (fun _ _ _ h => h) (by kernel_rfl) ?hy3x23 (by assumption) ?r3x23
      case hy3x23 => (intro W hSw; (try dsimp only at hSw); go_simp; try with_reducible rfl)
      simp only [Act.put, List.setIfInBounds_toArray, List.set_cons_zero, List.set_cons_succ]
      refine wpAnyH_done (by kernel_rfl) ?_ _
      refine NoPanic.normal ?_
      go_wp2
      refine bodyPost_ret (v := .tuple #[.agg #[.int .i64 x, .string b], .int .i64 0, .bool false]) (resRec3 Try.results102 _ _ w.heap.size _ _ _ _ rfl rfl rfl (set2 X3.out)) rfl ⟨by rw [HV.out], ?_⟩
      exact ((B3.out.drew.setCell (p := ⟨w.heap.size, 0, none⟩) (Nat.le_refl _) _).setCell (p := ⟨w.heap.size, 1, none⟩) (Nat.le_refl _) _)
  · have HV := hide (spReadV_eq HSP.out)
    go_wp2
    generalize hW3 : w3.setCell ⟨w2.heap.size, 1, none⟩ (.string b) = W3 at *
    obtain ⟨x0, x1, xf⟩ := cells2 X3.out
    obtain ⟨z0, z1, zf⟩ := cells2 Y3.out
    clear hW3 y0 y1 yf Y3'
    refine wp_region_noPanic ?_
    refine wp_region_held_drew (S := fun W => W.cell? ⟨w.heap.size + 1, 0, none⟩ = some (.string t) ∧ W.cell? ⟨w.heap.size + 1, 1, none⟩ = some (.int .i64 a) ∧ W.cell? ⟨w.heap.size + 1, 2, none⟩ = some (.bool true)) (by kernel_rfl) ?_ (fun hHeld => ?_)
    · (try dsimp only); go_keep
    refine takeD 0 27 (v := ?v4x0) rfl rfl (by kernel_rfl) (by kernel_rfl) (by kernel_rfl) (fun _ _ _ h => h) (by kernel_rfl) ?hy4x0 (by assumption) ?r4x0
    case hy4x0 => (intro W hSw; (try dsimp only at hSw); go_simp; try with_reducible rfl)
    simp only [Act.put, List.setIfInBounds_toArray, List.set_cons_zero, List.set_cons_succ]
    refine takeD 1 28 (v := ?v4x1) rfl rfl (by kernel_rfl) (by kernel_rfl) (by kernel_rfl) (fun _ _ _ h => h) (by kernel_rfl) ?hy4x1 (by assumption) ?r4x1
    case hy4x1 => (intro W hSw; (try dsimp only at hSw); go_simp; try with_reducible rfl)
    simp only [Act.put, List.setIfInBounds_toArray, List.set_cons_zero, List.set_cons_succ]
    refine takeD 2 29 (v := ?v4x2) rfl rfl (by kernel_rfl) (by kernel_rfl) (by kernel_rfl) (fun _ _ _ h => h) (by kernel_rfl) ?hy4x2 (by assumption) ?r4x2
    case hy4x2 => (intro W hSw; (try dsimp only at hSw); go_simp; try with_reducible rfl)
    simp only [Act.put, List.setIfInBounds_toArray, List.set_cons_zero, List.set_cons_succ]
    refine takeD 3 30 (v := ?v4x3) rfl rfl (by kernel_rfl) (by kernel_rfl) (by kernel_rfl) (fun _ _ _ h => h) (by kernel_rfl) ?hy4x3 (by assumption) ?r4x3
    case hy4x3 => (intro W hSw; (try dsimp only at hSw); go_simp; try with_reducible rfl)
    simp only [Act.put, List.setIfInBounds_toArray, List.set_cons_zero, List.set_cons_succ]
    refine takeD 4 31 (v := ?v4x4) rfl rfl (by kernel_rfl) (by kernel_rfl) (by kernel_rfl) (fun _ _ _ h => h) (by kernel_rfl) ?hy4x4 (by assumption) ?r4x4
    case hy4x4 => (intro W hSw; (try dsimp only at hSw); go_simp; try with_reducible rfl)
    simp only [Act.put, List.setIfInBounds_toArray, List.set_cons_zero, List.set_cons_succ]
    refine skipAll [(5, 32), (6, 33), (7, 34), (8, 35)] (by kernel_rfl) (fun _ _ _ _ _ h => h) (by assumption) (by kernel_rfl) ?_
    simp only [putAll, listAll, List.foldl_cons, List.foldl_nil, Act.put, List.setIfInBounds_toArray, List.set_cons_zero, List.set_cons_succ]
    refine takeD 9 36 (v := ?v4x9) rfl rfl (by kernel_rfl) (by kernel_rfl) (by kernel_rfl) (fun _ _ _ h => h) (by kernel_rfl) ?hy4x9 (by assumption) ?r4x9
    case hy4x9 => (intro W hSw; (try dsimp only at hSw); go_simp; try with_reducible rfl)
    simp only [Act.put, List.setIfInBounds_toArray, List.set_cons_zero, List.set_cons_succ]
    refine takeD 10 37 (v := ?v4x10) rfl rfl (by kernel_rfl) (by kernel_rfl) (by kernel_rfl) (fun _ _ _ h => h) (by kernel_rfl) ?hy4x10 (by assumption) ?r4x10
    case hy4x10 => (intro W hSw; (try dsimp only at hSw); go_simp; try with_reducible rfl)
    simp only [Act.put, List.setIfInBounds_toArray, List.set_cons_zero, List.set_cons_succ]
    refine skipAll [(11, 38), (12, 39), (13, 40), (14, 41), (15, 42), (16, 43), (17, 44), (18, 45), (19, 46), (20, 47), (21, 48), (22, 49)] (by kernel_rfl) (fun _ _ _ _ _ h => h) (by assumption) (by kernel_rfl) ?_
    simp only [putAll, listAll, List.foldl_cons, List.foldl_nil, Act.put, List.setIfInBounds_toArray, List.set_cons_zero, List.set_cons_succ]
    refine takeD 23 50 (v := ?v4x23) rfl rfl (by kernel_rfl) (by kernel_rfl) (by kernel_rfl) (fun _ _ _ h => h) (by kernel_rfl) ?hy4x23 (by assumption) ?r4x23
    case hy4x23 => (intro W hSw; (try dsimp only at hSw); go_simp; try with_reducible rfl)
    simp only [Act.put, List.setIfInBounds_toArray, List.set_cons_zero, List.set_cons_succ]
    refine wpAnyH_done (by kernel_rfl) ?_ _
    refine NoPanic.normal ?_
    go_wp2
    refine bodyPost_ret (v := .tuple #[.agg #[.int .i64 x, .string b], .int .i64 0, .bool false]) (resRec3 Try.results102 _ _ w.heap.size _ _ _ _ rfl rfl rfl (set2 X3.out)) rfl ⟨by rw [HV.out], ?_⟩
    exact ((B3.out.drew.setCell (p := ⟨w.heap.size, 0, none⟩) (Nat.le_refl _) _).setCell (p := ⟨w.heap.size, 1, none⟩) (Nat.le_refl _) _)
end Go.Proofs.Ytfhfhpnoeghgmaa

/-
  Contracts: the text of some sectors, as far as they are there, by the specification.
-/
namespace Go.Proofs.Ytfhfhpnoeghgmaa
open Go.RowKit
set_option maxRecDepth 100000

set_option maxHeartbeats 4000000 in
theorem l07Text_to (b : Nat) (s c : Value) (d : Dk) (a m : Nat) (w : World) (hR : dkRight d = true) (hf : dkFits d) (hin : dkIn d) (hm : m ≤ 300) (han : a ≤ d.secs.length) (hlen : d.secs.length ≤ 700) (h : OwnD b s c d w) :
    Calls Try.prog 86 #[.agg #[s, c], .int .i64 (a : Int), .int .i64 (m : Int)] w fun e w' => e = .returned (.string (mkS (secsT (flushL d.secs d.cache) a (min m (d.secs.length - a))))) ∧ Below w.heap.size w w' := by
  obtain ⟨z, hz⟩ : ∃ z, z = min m (d.secs.length - a) := ⟨_, rfl⟩
  rw [← hz]
  have ham : a + z ≤ d.secs.length := by omega
  have hzm : z ≤ m := by omega
  have hz3 : z = m ∨ a + z = d.secs.length := by omega
  clear hz han
  obtain ⟨i0, hi, hz0, hz1, hz2⟩ := info_parts Try.infoU8
  have HL := hide (fun W h => l07Flush_all b s c d W hR hf hin h)
  have H64 := hide (flush64 hR)
  have HME := hide (flush_mem hR)
  have hfl := flushL_len d.cache d.secs
  have HTL := hide (fun k (hk : a + k ≤ (flushL d.secs d.cache).length) => secsT_len (flush64 hR) a k hk)
  have HN := hide (fun k => show secsT (flushL d.secs d.cache) a (k + 1) = secsT (flushL d.secs d.cache) a k ++ ((flushL d.secs d.cache).getD (a + k) ByteArray.empty).data.toList from rfl)
  have H0 : Hid (secsT (flushL d.secs d.cache) a 0 = []) := rfl
  have D0 := hide (h.below ((Below.refl w.heap.size w).alloc (Nat.le_refl _) (.cells #[s, c] 26)))
  have B0 := hide ((Below.refl w.heap.size w).alloc (Nat.le_refl _) (.cells #[s, c] 26))
  obtain ⟨so, p, co, q, rfl, rfl⟩ := h.shape
  rw [← hfl] at ham hlen hz3
  clear h hf hin hR hfl
  generalize flushL d.secs d.cache = fl at *
  generalize secsT fl a = ST at *
  go_enter Try.func86, Try.ntmps86
  go_wp2_with (go_at_call 63; refine (HL.out _ D0.out).mono ?_; rintro e w1 ⟨v, rfl, o1, b1⟩; obtain ⟨ao, cap, rfl⟩ := ownS_shape o1; have B1 := hide (B0.out.trans (b1.mono B0.out.size)); have O1 := hide o1; clear o1 b1)
  have BA := (Below.refl w1.heap.size w1).alloc (Nat.le_refl _) (.cells #[.slice ao fl.length cap, .slice none 0 0] 26)
  have V2 := hide (heap_alloc_new w1 (.cells #[.slice ao fl.length cap, .slice none 0 0] 26))
  have SR : Hid (StrRow (w1.alloc (.cells #[.slice ao fl.length cap, .slice none 0 0] 26)) 0 (w1.alloc (.cells #[.slice ao fl.length cap, .slice none 0 0] 26)).heap.size ao fl) := by
    obtain ⟨ao', cap', e1, h1, h2⟩ := ownS_str (OwnS.eq (owns_below O1.out BA)) HME.out
    injection e1 with e1 _ _
    subst e1
    exact h2.mono (Nat.zero_le _) (Nat.le_refl _)
  have B2 := hide (B1.out.trans (BA.mono B1.out.size))
  clear BA B1 O1 B0 D0 HL
  have Z2 : Hid ((w1.alloc (.cells #[.slice ao fl.length cap, .slice none 0 0] 26)).heap.size = w1.heap.size + 1) := by show _ = _; simp
  generalize w1.alloc (.cells #[.slice ao fl.length cap, .slice none 0 0] 26) = w2 at *
  have E3 : w1.heap.size + 1 = w2.heap.size := Z2.out.symm
  have O3 : Hid (OwnB w2.heap.size (.slice (some ⟨w1.heap.size + 1, 0, none⟩) 0 0) (ST 0) (w2.alloc (.cells #[] 5))) := by
    rw [H0.out, E3]
    exact own_empty (heap_alloc_new _ _) (Nat.le_refl _)
  have B3 := hide ((Below.refl w2.heap.size w2).alloc (Nat.le_refl _) (.cells #[] 5))
  clear E3 Z2 H0
  go_loopw [8, 9] (fun l i wr => ∃ (k : Nat) (v : Value), k ≤ z ∧ i = .int .i64 ((a : Int) + (k : Int)) ∧ l = v ∧ Hid (OwnB w2.heap.size v (ST k) wr) ∧ Hid (Below w2.heap.size w2 wr)) (fun _ i _ => a + z - (intOf i).toNat)
  case atStart => exact ⟨0, _, Nat.zero_le _, by simp, rfl, O3, B3⟩
  case round =>
    obtain ⟨k, v, hk, rfl, rfl, HO, HB⟩ := hrel
    clear O3 B3
    obtain ⟨ao', cap', hv⟩ := ownB_shape HO.out
    rw [HTL.out k (by omega)] at hv
    subst hv
    by_cases hlt : k < z
    · have hkm : k < m := by omega
      obtain ⟨eb, off, x, rfl, hgB, hx, hxm, c0⟩ := (SR.out.kept HB.out).at (a + k) (by omega)
      have hx64 : x.size = 64 := by rw [← hx]; exact H64.out _ (by omega)
      obtain ⟨v0, v1, vf⟩ := cells2 ((HB.out.block _ (blk_lt' V2.out)).trans V2.out)
      have HT := hide (HN.out k)
      rw [hx] at HT
      have HTK := HTL.out k (by omega)
      have HS63 : Hid ((ST k).length + x.size ≤ maxLen ∧ (ST k).length + x.size ≤ 140737488355328) := by rw [HTK, hx64]; show _ ∧ _; unfold maxLen; omega
      have HW : Hid (wr.ownsRow w2.heap.size 5 1 (.slice ao' (k * 64) cap') (ST k).length ((numsU (ST k)).map (Value.int .u8))) := HO
      clear hx hxm hx64 HTK
      go_wp2_with (at_builtin; refine Lib.wpList_append_own_string _ rfl _ _ 22 9 rfl w2.heap.size 5 i0 Try.underlying22 Try.underlying9 hi hz0 hz1 hz2 (.slice ao' (k * 64) cap') (ST k).length _ rfl HW.out x rfl HS63.out.1 HS63.out.2 HB.out.size ?_; intro v5 w5 o5 g5 l5; have O5 := hide (ownB_str x o5); have B5 := hide (HB.out.grown g5 HB.out.size (fun b hb => (World.ownsRow.lt HW.out b hb).1)); rw [← HT.out] at O5; clear o5 g5 l5)
      go_roundw
      case rel => exact ⟨k + 1, _, by omega, by go_num, rfl, O5, B5⟩
      case measure => simp [intOf]; omega
    · obtain rfl : k = z := by omega
      have HC := hide (OwnB.conv HO.out)
      have hconv := HC.out
      by_cases hkm : k < m
      · have hke : (fl.length : Int) ≤ (a : Int) + (k : Int) := by omega
        clear hz3
        obtain ⟨v0, v1, vf⟩ := cells2 ((HB.out.block _ (blk_lt' V2.out)).trans V2.out)
        go_wp2
        go_ret
        exact ⟨rfl, B2.out.trans (HB.out.mono B2.out.size)⟩
      · clear hz3
        go_wp2
        go_ret
        exact ⟨rfl, B2.out.trans (HB.out.mono B2.out.size)⟩
end Go.Proofs.Ytfhfhpnoeghgmaa

/-
  Contract: the records of a log, by the specification.
-/
namespace Go.Proofs.Ytfhfhpnoeghgmaa
open Go.RowKit
set_option maxRecDepth 100000

theorem ownD_secsL {base : Nat} {v : Value} {l : List ByteArray} {w : World} (h : OwnS base v l w) : OwnD base v (.slice none 0 0) ⟨l, []⟩ w := by
  refine ⟨h, ownW_nil _ _, ?_⟩
  cases hv : v.ownBlock with
  | none => exact .inl rfl
  | some b => exact .inr (by simp [Value.ownBlock])
theorem ownR_below {base : Nat} {v : Value} {l : List Wr} {w w' : World} (h : OwnR base v l w) (hb : Below w.heap.size w w') : OwnR base v l w' := owns_below h hb
theorem spReadV_any (t : ByteArray) : ∃ x b n ok, spRead t = ((x, b), n, ok) := ⟨_, _, _, _, rfl⟩
set_option maxHeartbeats 8000000 in
theorem l08Log_any (b0 : Nat) (s c : Value) (d : Dk) (k0 : Nat) (q0 : Int) (w : World) (hR : dkRight d = true) (hf : dkFits d) (hin : dkIn d) (hk0 : k0 < d.secs.length) (hq0 : 1 ≤ q0 ∧ q0 ≤ 1000000000) (h : OwnD b0 s c d w) :
    Calls Try.prog 60 #[.agg #[s, c], .int .i64 (k0 : Int), .int .i64 q0] w fun e w' => ∃ v, e = .returned (.tuple #[v, .int .i64 ((logR (flushL d.secs d.cache) (d.secs.length - k0 + 1) k0 q0).2 : Int)]) ∧ OwnR w.heap.size v (logR (flushL d.secs d.cache) (d.secs.length - k0 + 1) k0 q0).1 w' ∧ Below w.heap.size w w' := by
  obtain ⟨j0, hj, hy0, hy1, hy2⟩ := info_parts Try.infoRc
  have hlen := (dkRight_bounds hR).1
  have HL := hide (fun W h => l07Flush_all b0 s c d W hR hf hin h)
  have hfl := flushL_len d.cache d.secs
  have H64 := hide (flush64 hR)
  have HTX := hide (fun (B : Nat) (s c : Value) (k : Nat) (W : World) (hk : k ≤ (flushL d.secs d.cache).length) (h : OwnD B s c ⟨flushL d.secs d.cache, []⟩ W) => l07Text_to B s c ⟨flushL d.secs d.cache, []⟩ k 100 W (dkRight_flushed hR) (flushed_fits hf) (flushed_in hR) (by omega) hk (by show (flushL d.secs d.cache).length ≤ 700; rw [hfl]; exact hlen) h)
  have HA := two_allocs w (.cells #[s, c] 26) (.cells #[] 34)
  have B0 := hide (((Below.refl w.heap.size w).alloc (Nat.le_refl _) (.cells #[s, c] 26)).alloc (by simp) (.cells #[] 34))
  have D0 := hide (h.below B0.out)
  have X0 := hide HA.1
  have E0 := hide HA.2.1
  have Z0 := hide HA.2.2
  obtain ⟨so, p, co, q, rfl, rfl⟩ := h.shape
  obtain ⟨tot, htot⟩ : ∃ tot, tot = logR (flushL d.secs d.cache) (d.secs.length - k0 + 1) k0 q0 := ⟨_, rfl⟩
  rw [← htot]
  obtain ⟨F0, hF0⟩ : ∃ F, F = d.secs.length - k0 + 1 := ⟨_, rfl⟩
  rw [← hF0] at htot
  have HF0 : d.secs.length - k0 < F0 := by omega
  rw [← hfl] at hlen hk0 HF0
  clear h hf hin hR hF0 HA hfl
  change Hid (∀ (B : Nat) (s c : Value) (k : Nat) (W : World) (hk : k ≤ (flushL d.secs d.cache).length) (h : OwnD B s c ⟨flushL d.secs d.cache, []⟩ W), Calls Try.prog 86 #[.agg #[s, c], .int .i64 (k : Int), .int .i64 100] W fun e w' => e = .returned (.string (mkS (secsT (flushL d.secs d.cache) k (min 100 ((flushL d.secs d.cache).length - k))))) ∧ Below W.heap.size W w') at HTX
  generalize flushL d.secs d.cache = fl at *
  generalize d.secs.length = n1 at *
  generalize d.cache.length = n2 at *
  go_enter Try.func60, Try.ntmps60
  go_wp2_with fail
  refine (HL.out _ D0.out).mono ?_
  generalize (w.alloc (.cells #[.slice so n1 p, .slice co n2 q] 26)).alloc (.cells #[] 34) = W0 at *
  rintro e w1 ⟨v, rfl, o1, b1⟩
  obtain ⟨ao, cap, rfl⟩ := ownS_shape o1
  have B1 := hide (B0.out.trans (b1.mono B0.out.size))
  have E1 := hide ((b1.block (w.heap.size + 1) (by have := Z0.out; omega)).trans E0.out)
  have z1 := b1.size
  have BA := (Below.refl w1.heap.size w1).alloc (Nat.le_refl _) (.cells #[.slice ao fl.length cap, .slice none 0 0] 26)
  have FB2 := hide (heap_alloc_new w1 (.cells #[.slice ao fl.length cap, .slice none 0 0] 26))
  have FS2 : Hid (OwnS 0 (.slice ao fl.length cap) fl (w1.alloc (.cells #[.slice ao fl.length cap, .slice none 0 0] 26))) := owns_base (owns_below o1 BA) (Nat.zero_le _)
  have FL : Hid (∀ b, (Value.slice ao fl.length cap).ownBlock = some b → w.heap.size + 2 ≤ b ∧ b < w1.heap.size) := fun b hb => by
    have := World.ownsRow.lt o1 b hb
    have := Z0.out
    omega
  have E2 := hide ((BA.block (w.heap.size + 1) (blkR E1.out)).trans E1.out)
  have B2 := hide (B1.out.trans (BA.mono B1.out.size))
  have ZW : Hid (w.heap.size + 2 ≤ w1.heap.size) := by have := Z0.out; show _ ≤ _; omega
  have Z2 : Hid ((w1.alloc (.cells #[.slice ao fl.length cap, .slice none 0 0] 26)).heap.size = w1.heap.size + 1) := by show _ = _; simp
  clear o1 b1 BA B1 E1 B0 D0 X0 E0 Z0 HL z1
  -- the loop
  go_wp2
  generalize hW2 : w1.alloc (.cells #[.slice ao fl.length cap, .slice none 0 0] 26) = W2 at *
  clear hW2
  go_loopw [1, 2, 8] (fun fv qv v wr => ∃ (k : Nat) (qq : Int) (vv : Value) (acc : List Wr) (ff : Nat), fv = .int .i64 (k : Int) ∧ qv = .int .i64 qq ∧ v = vv ∧ (k ≤ fl.length ∧ 1 ≤ qq ∧ qq ≤ 1000000000 + k ∧ acc.length ≤ k) ∧ Hid (fl.length - k < ff) ∧ Hid (tot = (acc ++ (logR fl ff k qq).1, (logR fl ff k qq).2)) ∧ Hid (OwnR w.heap.size vv acc wr) ∧ Hid (∀ b, vv.ownBlock = some b → b = w.heap.size + 1 ∨ w1.heap.size + 1 ≤ b) ∧ Hid (wr.heap[w1.heap.size]? = some (.cells #[.slice ao fl.length cap, .slice none 0 0] 26)) ∧ Hid (OwnS 0 (.slice ao fl.length cap) fl wr) ∧ Hid (Below w.heap.size w wr) ∧ Hid (w1.heap.size + 1 ≤ wr.heap.size)) (fun fv _ _ _ => fl.length - (intOf fv).toNat)
  case atStart => exact ⟨k0, q0, _, [], F0, rfl, rfl, rfl, ⟨by omega, hq0.1, by omega, by simp⟩, HF0, (by show _ = _; rw [htot]; simp), own_empty E2.out (by omega), (fun b hb => by simp [Value.ownBlock] at hb; exact .inl hb.symm), FB2.out, FS2.out, B2.out, (by show _ ≤ _; have := Z2.out; omega)⟩
  case round =>
    obtain ⟨k, qq, vv, acc, ff, rfl, rfl, rfl, ⟨hk, hq1, hq2, hac⟩, HFF, HT, O3, HV, F3, S3, B3, Z3⟩ := hrel
    clear E2 FB2 FS2 B2 Z2 htot HF0 hq0
    obtain ⟨f0, f1, ffz⟩ := cells2 F3.out
    have hn7 : fl.length ≤ 700 := hlen
    by_cases hlt : k < fl.length
    · have HTT := hide (text_take H64.out hk)
      have htl : (mkS (secsT fl k (min 100 (fl.length - k)))).size ≤ 6400 := by rw [mkS_size, secsT_len H64.out k _ (by omega)]; omega
      have HRD := hide (fun W => l08Read_any (mkS (secsT fl k (min 100 (fl.length - k)))) (by omega) W)
      have HTK := hide (fun B s c W h => HTX.out B s c k W hk h)
      have hjj : 6400 ≤ (min 100 (fl.length - k)) * 64 ∨ (restT fl k).size ≤ (min 100 (fl.length - k)) * 64 := by rw [restT_len H64.out hk]; omega
      generalize mkS (secsT fl k (min 100 (fl.length - k))) = T at *
      obtain ⟨x, b, n, ok, hsp⟩ := spReadV_any T
      rw [spReadV_eq hsp] at HRD
      cases hrec : recAt (restT fl k) qq with
      | none =>
        have HTOT : Hid (tot = (acc, k)) := by
          show _ = _
          obtain ⟨f, rfl⟩ : ∃ f, ff = f + 1 := ⟨ff - 1, by have := HFF.out; omega⟩
          rw [HT.out, logR_none hrec]; simp
        cases ok with
        | false =>
          clear hsp hrec hjj HTT htl hac
          go_wp2_with (first | (go_at_call 86; refine (HTK.out _ _ _ _ (ownD_secsL S3.out)).mono ?_; rintro e w4 ⟨rfl, b⟩; have O4 := hide (ownR_below O3.out b); have F4 := hide ((b.block w1.heap.size (blkR F3.out)).trans F3.out); have S4 := hide (owns_below S3.out b); have B4 := hide (B3.out.trans (b.mono B3.out.size)); have Z4 := hide (Nat.le_trans Z3.out b.size); clear b) | (go_at_call 102; refine (HRD.out _).mono ?_; rintro e w5 ⟨rfl, b⟩; have O5 := hide (ownR_below O4.out b); have F5 := hide ((b.block w1.heap.size (blkR F4.out)).trans F4.out); have S5 := hide (owns_below S4.out b); have B5 := hide (B4.out.trans (b.mono B4.out.size)); have Z5 := hide (Nat.le_trans Z4.out b.size); clear b; have ba := (Below.refl w5.heap.size w5).alloc (Nat.le_refl _) (.cells #[.int .i64 x, .string b] 34); have O6 := hide (ownR_below O5.out ba); have F6 := hide ((ba.block w1.heap.size (blkR F5.out)).trans F5.out); have S6 := hide (owns_below S5.out ba); have B6 := hide (B5.out.trans (ba.mono B5.out.size)); have Z6 := hide (Nat.le_trans Z5.out ba.size); have X6 := hide (heap_alloc_new w5 (.cells #[.int .i64 x, .string b] 34)); have LX : Hid (w1.heap.size + 1 ≤ w5.heap.size) := Z5.out; clear ba))
          go_ret2
          have HH := HTOT.out
          subst HH
          exact ⟨_, rfl, O6.out, B6.out⟩
        | true =>
          have HRR := hide (fun W => specRecordRight_any x b W)
          cases hr : recRight x b with
          | false =>
            rw [hr] at HRR
            clear hsp hrec hjj HTT htl hac hr
            go_wp2_with (first | (go_at_call 86; refine (HTK.out _ _ _ _ (ownD_secsL S3.out)).mono ?_; rintro e w4 ⟨rfl, b⟩; have O4 := hide (ownR_below O3.out b); have F4 := hide ((b.block w1.heap.size (blkR F3.out)).trans F3.out); have S4 := hide (owns_below S3.out b); have B4 := hide (B3.out.trans (b.mono B3.out.size)); have Z4 := hide (Nat.le_trans Z3.out b.size); clear b) | (go_at_call 102; refine (HRD.out _).mono ?_; rintro e w5 ⟨rfl, b⟩; have O5 := hide (ownR_below O4.out b); have F5 := hide ((b.block w1.heap.size (blkR F4.out)).trans F4.out); have S5 := hide (owns_below S4.out b); have B5 := hide (B4.out.trans (b.mono B4.out.size)); have Z5 := hide (Nat.le_trans Z4.out b.size); clear b; have ba := (Below.refl w5.heap.size w5).alloc (Nat.le_refl _) (.cells #[.int .i64 x, .string b] 34); have O6 := hide (ownR_below O5.out ba); have F6 := hide ((ba.block w1.heap.size (blkR F5.out)).trans F5.out); have S6 := hide (owns_below S5.out ba); have B6 := hide (B5.out.trans (ba.mono B5.out.size)); have Z6 := hide (Nat.le_trans Z5.out ba.size); have X6 := hide (heap_alloc_new w5 (.cells #[.int .i64 x, .string b] 34)); have LX : Hid (w1.heap.size + 1 ≤ w5.heap.size) := Z5.out; clear ba) | (go_at_call 43; refine (HRR.out _).mono ?_; rintro e w7 ⟨rfl, b⟩; have O7 := hide (ownR_below O6.out b); have F7 := hide ((b.block w1.heap.size (blkR F6.out)).trans F6.out); have S7 := hide (owns_below S6.out b); have B7 := hide (B6.out.trans (b.mono B6.out.size)); have Z7 := hide (Nat.le_trans Z6.out b.size); have X7 := hide ((b.block w5.heap.size (blkR X6.out)).trans X6.out); clear b; obtain ⟨x70, x71, xf7⟩ := cells2 X7.out))
            go_ret2
            have HH := HTOT.out
            subst HH
            exact ⟨_, rfl, O7.out, B7.out⟩
          | true =>
            rw [hr] at HRR
            have hne := spRead_none HTT.out hrec hsp hr
            clear hsp hrec hjj HTT htl hac hr
            go_wp2_with (first | (go_at_call 86; refine (HTK.out _ _ _ _ (ownD_secsL S3.out)).mono ?_; rintro e w4 ⟨rfl, b⟩; have O4 := hide (ownR_below O3.out b); have F4 := hide ((b.block w1.heap.size (blkR F3.out)).trans F3.out); have S4 := hide (owns_below S3.out b); have B4 := hide (B3.out.trans (b.mono B3.out.size)); have Z4 := hide (Nat.le_trans Z3.out b.size); clear b) | (go_at_call 102; refine (HRD.out _).mono ?_; rintro e w5 ⟨rfl, b⟩; have O5 := hide (ownR_below O4.out b); have F5 := hide ((b.block w1.heap.size (blkR F4.out)).trans F4.out); have S5 := hide (owns_below S4.out b); have B5 := hide (B4.out.trans (b.mono B4.out.size)); have Z5 := hide (Nat.le_trans Z4.out b.size); clear b; have ba := (Below.refl w5.heap.size w5).alloc (Nat.le_refl _) (.cells #[.int .i64 x, .string b] 34); have O6 := hide (ownR_below O5.out ba); have F6 := hide ((ba.block w1.heap.size (blkR F5.out)).trans F5.out); have S6 := hide (owns_below S5.out ba); have B6 := hide (B5.out.trans (ba.mono B5.out.size)); have Z6 := hide (Nat.le_trans Z5.out ba.size); have X6 := hide (heap_alloc_new w5 (.cells #[.int .i64 x, .string b] 34)); have LX : Hid (w1.heap.size + 1 ≤ w5.heap.size) := Z5.out; clear ba) | (go_at_call 43; refine (HRR.out _).mono ?_; rintro e w7 ⟨rfl, b⟩; have O7 := hide (ownR_below O6.out b); have F7 := hide ((b.block w1.heap.size (blkR F6.out)).trans F6.out); have S7 := hide (owns_below S6.out b); have B7 := hide (B6.out.trans (b.mono B6.out.size)); have Z7 := hide (Nat.le_trans Z6.out b.size); have X7 := hide ((b.block w5.heap.size (blkR X6.out)).trans X6.out); clear b; obtain ⟨x70, x71, xf7⟩ := cells2 X7.out))
            go_ret2
            have HH := HTOT.out
            subst HH
            exact ⟨_, rfl, O7.out, B7.out⟩
      | some tb =>
        obtain ⟨hr, hsp2⟩ := spRead_some HTT.out hjj hrec
        rw [hsp2] at hsp
        simp only [Prod.mk.injEq] at hsp
        obtain ⟨⟨rfl, rfl⟩, rfl, rfl⟩ := hsp
        obtain ⟨hm1, hm2, hm3, hm4, hm5, hm6⟩ := recAt_many H64.out hk hrec
        have HRR := hide (fun W => specRecordRight_any qq tb W)
        rw [hr] at HRR
        have hmany : (((recS qq tb).size : Int) + 64 - 1) / 64 = (many (recS qq tb) : Int) := by unfold many; omega
        have HFF2 : Hid (∃ f, ff = f + 1 ∧ fl.length - (k + many (recS qq tb)) < f) := ⟨ff - 1, by have := HFF.out; omega, by have := HFF.out; omega⟩
        have HT2 : Hid (∀ f, ff = f + 1 → tot = ((acc ++ [⟨qq, tb⟩]) ++ (logR fl f (k + many (recS qq tb)) (qq + 1)).1, (logR fl f (k + many (recS qq tb)) (qq + 1)).2)) := fun f hf => by
          subst hf
          rw [HT.out, logR_some hrec]; simp
        generalize (recS qq tb).size = sz at *
        generalize many (recS qq tb) = mm at *
        clear hsp2 hrec hjj HTT htl hr HT HFF
        obtain ⟨vao, vcap, hvv⟩ := ownR_shape O3.out
        subst hvv
        have hac7 : acc.length ≤ 700 := by omega
        have HNE : Hid (some w1.heap.size ≠ (Value.slice vao acc.length vcap).ownBlock) := fun e => by
          have := HV.out _ e.symm
          have := ZW.out
          omega
        have HNB : Hid (∀ b, (Value.slice vao acc.length vcap).ownBlock = some b → w.heap.size ≤ b) := fun b hb => by
          have := HV.out b hb
          have := ZW.out
          omega
        have HNF : Hid ((Value.slice ao fl.length cap).ownBlock = none ∨ (Value.slice ao fl.length cap).ownBlock ≠ (Value.slice vao acc.length vcap).ownBlock) := by
          show _ ∨ _
          cases hfb : (Value.slice ao fl.length cap).ownBlock with
          | none => exact .inl rfl
          | some b1 =>
            refine .inr (fun e => ?_)
            have h1 := FL.out b1 hfb
            have h2 := HV.out b1 e.symm
            omega
        have HV9 : Hid (∀ (v9 : Value) (W : World), (v9.ownBlock = (Value.slice vao acc.length vcap).ownBlock ∨ v9.ownBlock = some W.heap.size) → w1.heap.size + 1 ≤ W.heap.size → ∀ b, v9.ownBlock = some b → b = w.heap.size + 1 ∨ w1.heap.size + 1 ≤ b) := fun v9 W hl hz b hb => by
          rcases hl with hl | hl
          · exact HV.out b (by rw [← hl]; exact hb)
          · rw [hl] at hb; cases hb; exact .inr hz
        have HAL : Hid ((acc ++ [(⟨qq, tb⟩ : Wr)]).length = acc.length + 1) := by show _ = _; simp
        have hmany2 : ((sz : Int) + 63) / 64 = (mm : Int) := by omega
        go_wp2_with (first | (go_at_call 86; refine (HTK.out _ _ _ _ (ownD_secsL S3.out)).mono ?_; rintro e w4 ⟨rfl, b⟩; have O4 := hide (ownR_below O3.out b); have F4 := hide ((b.block w1.heap.size (blkR F3.out)).trans F3.out); have S4 := hide (owns_below S3.out b); have B4 := hide (B3.out.trans (b.mono B3.out.size)); have Z4 := hide (Nat.le_trans Z3.out b.size); clear b) | (go_at_call 102; refine (HRD.out _).mono ?_; rintro e w5 ⟨rfl, b⟩; have O5 := hide (ownR_below O4.out b); have F5 := hide ((b.block w1.heap.size (blkR F4.out)).trans F4.out); have S5 := hide (owns_below S4.out b); have B5 := hide (B4.out.trans (b.mono B4.out.size)); have Z5 := hide (Nat.le_trans Z4.out b.size); clear b; have ba := (Below.refl w5.heap.size w5).alloc (Nat.le_refl _) (.cells #[.int .i64 qq, .string tb] 34); have O6 := hide (ownR_below O5.out ba); have F6 := hide ((ba.block w1.heap.size (blkR F5.out)).trans F5.out); have S6 := hide (owns_below S5.out ba); have B6 := hide (B5.out.trans (ba.mono B5.out.size)); have Z6 := hide (Nat.le_trans Z5.out ba.size); have X6 := hide (heap_alloc_new w5 (.cells #[.int .i64 qq, .string tb] 34)); have LX : Hid (w1.heap.size + 1 ≤ w5.heap.size) := Z5.out; clear ba) | (go_at_call 43; refine (HRR.out _).mono ?_; rintro e w7 ⟨rfl, b⟩; have O7 := hide (ownR_below O6.out b); have F7 := hide ((b.block w1.heap.size (blkR F6.out)).trans F6.out); have S7 := hide (owns_below S6.out b); have B7 := hide (B6.out.trans (b.mono B6.out.size)); have Z7 := hide (Nat.le_trans Z6.out b.size); have X7 := hide ((b.block w5.heap.size (blkR X6.out)).trans X6.out); clear b; obtain ⟨x70, x71, xf7⟩ := cells2 X7.out) | (at_builtin; have ba := (Below.refl w7.heap.size w7).alloc (Nat.le_refl _) (.cells #[.int .i64 qq, .string tb] 34); have O8 := hide (ownR_below O7.out ba); have F8 := hide ((ba.block w1.heap.size (blkR F7.out)).trans F7.out); have S8 := hide (owns_below S7.out ba); have B8 := hide (B7.out.trans (ba.mono B7.out.size)); have Z8 := hide (Nat.le_trans Z7.out ba.size); have R8 := hide (own_rc_one w7 qq tb); clear ba; refine wpList_app_own rfl _ _ 29 rfl w.heap.size w7.heap.size 34 j0 (.agg #[.int .i64 0, .string ⟨#[]⟩]) 2 24 Try.underlying29 hj hy0 hy1 hy2 rfl (by decide) _ acc.length _ rfl O8.out _ 1 _ rfl R8.out (wr_one _ _) (by unfold maxLen; omega) (by omega) B8.out.size ?_; intro v9 w9 o9 g9 l9; have O9 := hide (ownR_snoc o9 rfl); have V9 := hide (HV9.out v9 _ l9 Z8.out); have F9 := hide ((g9.block w1.heap.size (blkR F8.out) HNE.out).trans F8.out); have S9 := hide (World.ownsRow.kept S8.out g9 HNF.out); have B9 := hide (B8.out.grown g9 B8.out.size HNB.out); have Z9 := hide (Nat.le_trans Z8.out g9.size); obtain ⟨ao9, cp9, hv9⟩ := ownR_shape O9.out; rw [HAL.out] at hv9; subst hv9; clear o9 g9 l9))
        go_roundw
        case rel =>
          obtain ⟨f, hf1, hf2⟩ := HFF2.out
          exact ⟨k + mm, qq + 1, _, acc ++ [(⟨qq, tb⟩ : Wr)], f, by go_num, by go_num, rfl, ⟨by omega, by omega, by omega, by simp; omega⟩, hf2, HT2.out f hf1, O9.out, V9.out, F9.out, S9.out, B9.out, Z9.out⟩
        case measure => simp [intOf]; omega
    · have hrec : recAt (restT fl k) qq = none := recAt_end (by rw [restT_len H64.out hk]; omega)
      have HTOT : Hid (tot = (acc, k)) := by
        show _ = _
        obtain ⟨f, rfl⟩ : ∃ f, ff = f + 1 := ⟨ff - 1, by have := HFF.out; omega⟩
        rw [HT.out, logR_none hrec]; simp
      clear hrec
      go_wp2
      go_ret2
      have HH := HTOT.out
      subst HH
      exact ⟨_, rfl, O3.out, B3.out⟩
end Go.Proofs.Ytfhfhpnoeghgmaa

/-
  Contract: LogRead of the specification.
-/
namespace Go.Proofs.Ytfhfhpnoeghgmaa
open Go.RowKit
set_option maxRecDepth 100000

theorem resLg {fn : Func} {p : Tmp} (h : fn.results = #[.cell p 31]) (tmps : Array Value) (w : World) (g : Nat) (a b c : Value) (hp : tmps.getD p undef = .pointer (some ⟨g, 0, none⟩))
    (hg : w.heap[g]? = some (.cells #[a, b, c] 31 (0, 0))) : (results fn tmps).run Try.prog w = .ok (.agg #[a, b, c]) w :=
  results_cell_row h tmps w g 31 #[a, b, c] (0, 0) _ hp hg Try.underlying31 rfl (by kernel_rfl)
theorem set3g {W : World} {g : Nat} {a b c x y z : Value} {t : TypeId} (h : W.heap[g]? = some (.cells #[a, b, c] t (0, 0))) :
    (((W.setCell ⟨g, 0, none⟩ x).setCell ⟨g, 1, none⟩ y).setCell ⟨g, 2, none⟩ z).heap[g]? = some (.cells #[x, y, z] t (0, 0)) := by
  have h1 := heap_setCell_same W g 0 _ t x h
  have h2 := heap_setCell_same _ g 1 _ t y h1
  have h3 := heap_setCell_same _ g 2 _ t z h2
  simpa using h3
theorem cells3g {W : World} {g : Nat} {a b c : Value} {t : TypeId} (h : W.heap[g]? = some (.cells #[a, b, c] t (0, 0))) : W.cell? ⟨g, 0, none⟩ = some a ∧ W.cell? ⟨g, 1, none⟩ = some b ∧ W.cell? ⟨g, 2, none⟩ = some c ∧ ∀ j, W.frozen? ⟨g, j, none⟩ = false :=
  ⟨by rw [cell_of_row _ _ _ _ _ _ h]; rfl, by rw [cell_of_row _ _ _ _ _ _ h]; rfl, by rw [cell_of_row _ _ _ _ _ _ h]; rfl, fun j => frozen_of_row _ _ _ _ _ h⟩
theorem ownR_set {base g m : Nat} {v x : Value} {l : List Wr} {w : World} (h : OwnR base v l w) (hg : g < base) : OwnR base v l (w.setCell ⟨g, m, none⟩ x) := own_set h hg
set_option maxHeartbeats 8000000 in
theorem specLogRead_any (b0 : Nat) (s c : Value) (d : Dk) (a q : Int) (w : World) (hi : dkIn d) (hf : dkFits d) (ha : wI64 a) (h : OwnD b0 s c d w) :
    Calls Try.prog 15 #[.agg #[s, c], .int .i64 a, .int .i64 q] w fun e w' => ∃ v, e = .returned (.agg #[v, .int .i64 (dkLog d a q).2.1, .int .i64 (dkLog d a q).2.2]) ∧ OwnR w.heap.size v (dkLog d a q).1 w' ∧ Below w.heap.size w w' := by
  obtain ⟨so, p, co, z, rfl, rfl, hr⟩ := h.row hi
  obtain ⟨n1, hn1⟩ : ∃ n, n = d.secs.length := ⟨_, rfl⟩
  obtain ⟨n2, hn2⟩ : ∃ n, n = d.cache.length := ⟨_, rfl⟩
  have hn1' : n1 ≤ 1048576 := by rw [hn1]; exact hf.1
  obtain ⟨ha0, ha1⟩ := ha
  have HA := two_allocs w (.cells #[.slice so n1 p, .slice co n2 z] 26) (.cells #[.slice none 0 0, .int .i64 0, .int .i64 0] 31)
  have B0 := hide (((Below.refl w.heap.size w).alloc (Nat.le_refl _) (.cells #[.slice so n1 p, .slice co n2 z] 26)).alloc (by simp) (.cells #[.slice none 0 0, .int .i64 0, .int .i64 0] 31))
  have X0 := hide HA.1
  have Y0 := hide HA.2.1
  have HSP := hide (fun (W : World) (hb : Below w.heap.size w W) => specDiskRight_any _ _ so p co z d W hb.size (hr.kept hb))
  have HSQ := hide (fun W => l08Seq_any q W)
  rw [← hn1, ← hn2] at h HSP ⊢
  obtain ⟨x0, x1, xf⟩ := cells2 X0.out
  clear HA
  cases hdr : dkRight d with
  | false =>
    rw [dkLog_bad (.inl hdr)]
    rw [hdr] at HSP
    clear hi hf h hr hn1 hn2 hdr
    go_enter Try.func15, Try.ntmps15
    go_wp2_with (first | (go_at_call 58; refine (HSP.out _ B0.out).mono ?_; rintro e w1 ⟨rfl, b1⟩; have Y1 := hide ((b1.block (w.heap.size + 1) (blkR Y0.out)).trans Y0.out); have X1 := hide ((b1.block w.heap.size (blkR X0.out)).trans X0.out); have B1 := hide (B0.out.trans (b1.mono B0.out.size)); clear b1 x0 x1 xf; obtain ⟨x0, x1, xf⟩ := cells2 X1.out; obtain ⟨y0, y1, y2, yf⟩ := cells3g Y1.out))
    refine bodyPost_ret (v := .agg #[.slice none 0 0, .int .i64 0, .int .i64 1]) (resLg Try.results15 _ _ (w.heap.size + 1) _ _ _ rfl (set3g Y1.out)) rfl ⟨_, rfl, ownR_nil _ _, ?_⟩
    exact ((B1.out.setCell (by simp) _).setCell (by simp) _).setCell (by simp) _
  | true =>
    rw [hdr] at HSP
    by_cases c1 : a < 0
    · rw [dkLog_bad (.inr (.inl c1))]
      clear hi hf h hr hn1 hn2 hdr
      go_enter Try.func15, Try.ntmps15
      go_wp2_with (first | (go_at_call 58; refine (HSP.out _ B0.out).mono ?_; rintro e w1 ⟨rfl, b1⟩; have Y1 := hide ((b1.block (w.heap.size + 1) (blkR Y0.out)).trans Y0.out); have X1 := hide ((b1.block w.heap.size (blkR X0.out)).trans X0.out); have B1 := hide (B0.out.trans (b1.mono B0.out.size)); clear b1 x0 x1 xf; obtain ⟨x0, x1, xf⟩ := cells2 X1.out; obtain ⟨y0, y1, y2, yf⟩ := cells3g Y1.out))
      refine bodyPost_ret (v := .agg #[.slice none 0 0, .int .i64 0, .int .i64 1]) (resLg Try.results15 _ _ (w.heap.size + 1) _ _ _ rfl (set3g Y1.out)) rfl ⟨_, rfl, ownR_nil _ _, ?_⟩
      exact ((B1.out.setCell (by simp) _).setCell (by simp) _).setCell (by simp) _
    · by_cases c2 : (n1 : Int) ≤ a
      · rw [dkLog_bad (.inr (.inr (.inl (by rw [← hn1]; exact c2))))]
        clear hi hf h hr hn1 hn2 hdr
        go_enter Try.func15, Try.ntmps15
        go_wp2_with (first | (go_at_call 58; refine (HSP.out _ B0.out).mono ?_; rintro e w1 ⟨rfl, b1⟩; have Y1 := hide ((b1.block (w.heap.size + 1) (blkR Y0.out)).trans Y0.out); have X1 := hide ((b1.block w.heap.size (blkR X0.out)).trans X0.out); have B1 := hide (B0.out.trans (b1.mono B0.out.size)); clear b1 x0 x1 xf; obtain ⟨x0, x1, xf⟩ := cells2 X1.out; obtain ⟨y0, y1, y2, yf⟩ := cells3g Y1.out))
        refine bodyPost_ret (v := .agg #[.slice none 0 0, .int .i64 0, .int .i64 1]) (resLg Try.results15 _ _ (w.heap.size + 1) _ _ _ rfl (set3g Y1.out)) rfl ⟨_, rfl, ownR_nil _ _, ?_⟩
        exact ((B1.out.setCell (by simp) _).setCell (by simp) _).setCell (by simp) _
      · cases hs : seqOk q with
        | false =>
          rw [dkLog_bad (.inr (.inr (.inr hs)))]
          rw [hs] at HSQ
          clear hi hf h hr hn1 hn2 hdr hs
          go_enter Try.func15, Try.ntmps15
          go_wp2_with (first | (go_at_call 58; refine (HSP.out _ B0.out).mono ?_; rintro e w1 ⟨rfl, b1⟩; have Y1 := hide ((b1.block (w.heap.size + 1) (blkR Y0.out)).trans Y0.out); have X1 := hide ((b1.block w.heap.size (blkR X0.out)).trans X0.out); have B1 := hide (B0.out.trans (b1.mono B0.out.size)); clear b1 x0 x1 xf; obtain ⟨x0, x1, xf⟩ := cells2 X1.out; obtain ⟨y0, y1, y2, yf⟩ := cells3g Y1.out) | (go_at_call 59; refine (HSQ.out _).mono ?_; rintro e w2 ⟨rfl, rfl⟩))
          refine bodyPost_ret (v := .agg #[.slice none 0 0, .int .i64 0, .int .i64 1]) (resLg Try.results15 _ _ (w.heap.size + 1) _ _ _ rfl (set3g Y1.out)) rfl ⟨_, rfl, ownR_nil _ _, ?_⟩
          exact ((B1.out.setCell (by simp) _).setCell (by simp) _).setCell (by simp) _
        | true =>
          have hq : 1 ≤ q ∧ q ≤ 1000000000 := by simpa [seqOk] using hs
          have hng : ¬ lgBad d a q := by
            unfold lgBad
            rw [hdr, hs, ← hn1]
            simp
            omega
          rw [dkLog_ok hng]
          rw [hs] at HSQ
          obtain ⟨k, rfl⟩ : ∃ k : Nat, a = (k : Int) := ⟨a.toNat, by omega⟩
          rw [Int.toNat_natCast]
          have HLG := hide (fun (W : World) (hb : Below w.heap.size w W) => l08Log_any _ _ _ d k q W hdr hf hi (by rw [← hn1]; omega) hq (h.below hb))
          rw [← hn1] at HLG ⊢
          generalize logR (flushL d.secs d.cache) (n1 - k + 1) k q = R at *
          obtain ⟨L, nx⟩ := R
          simp only at *
          clear hi hf h hr hn1 hn2 hdr hs hng hq
          go_enter Try.func15, Try.ntmps15
          go_wp2_with (first | (go_at_call 58; refine (HSP.out _ B0.out).mono ?_; rintro e w1 ⟨rfl, b1⟩; have Y1 := hide ((b1.block (w.heap.size + 1) (blkR Y0.out)).trans Y0.out); have X1 := hide ((b1.block w.heap.size (blkR X0.out)).trans X0.out); have B1 := hide (B0.out.trans (b1.mono B0.out.size)); clear b1 x0 x1 xf; obtain ⟨x0, x1, xf⟩ := cells2 X1.out; obtain ⟨y0, y1, y2, yf⟩ := cells3g Y1.out) | (go_at_call 59; refine (HSQ.out _).mono ?_; rintro e w2 ⟨rfl, rfl⟩) | (go_at_call 60; refine (HLG.out _ B1.out).mono ?_; rintro e w3 ⟨v, rfl, o3, b3⟩; have Y3 := hide ((b3.block (w.heap.size + 1) (blkR Y1.out)).trans Y1.out); have B3 := hide (B1.out.trans (b3.mono B1.out.size)); have O3 := hide o3; obtain ⟨ao, cap, rfl⟩ := ownR_shape o3; have hl3 := blkR Y1.out; obtain ⟨y0, y1, y2, yf⟩ := cells3g Y3.out; clear b3 o3))
          refine bodyPost_ret (v := .agg #[.slice ao L.length cap, .int .i64 (nx : Int), .int .i64 0]) (resLg Try.results15 _ _ (w.heap.size + 1) _ _ _ rfl (set3g Y3.out)) rfl ⟨_, rfl, ?_, ?_⟩
          · exact owns_base (ownR_set (ownR_set (ownR_set O3.out hl3) hl3) hl3) (by omega)
          · exact ((B3.out.setCell (by simp) _).setCell (by simp) _).setCell (by simp) _
end Go.Proofs.Ytfhfhpnoeghgmaa

/-
  A log's answer: compared, marked, looked at again.
-/
namespace Go.Proofs.Ytfhfhpnoeghgmaa
open Go.RowKit
set_option maxRecDepth 100000

theorem GL.ownR {l : List Value} {w w' : World} {b m n : Nat} {u : Value} {L : List Wr} (h : GL l w w') (ho : OwnR b u L w) (hv : ∀ v ∈ l, ∀ b, v.ownBlock = some b → m ≤ b ∧ b < n) (hs : ∀ b, u.ownBlock = some b → b < m ∨ n ≤ b) : OwnR b u L w' := by
  refine GL.own h ho (fun v hv' => ?_)
  cases hu : u.ownBlock with
  | none => exact .inl rfl
  | some j =>
    refine .inr (fun e => ?_)
    have h1 := hv v hv' j e.symm
    have h2 := hs j hu
    omega
theorem OwnR.one {b m n : Nat} {v : Value} {L : List Wr} {w : World} (h : OwnR b v L w) (hm : m ≤ b) (hn : w.heap.size ≤ n) : ∀ u ∈ [v], ∀ j, u.ownBlock = some j → m ≤ j ∧ j < n := fun u hu j hj => by
  simp at hu; subst hu
  have := World.ownsRow.lt h j hj
  omega
theorem OwnR.below {base : Nat} {v : Value} {l : List Wr} {w w' : World} (h : OwnR base v l w) (hb : Below w.heap.size w w') : OwnR base v l w' := owns_below h hb
theorem OwnR.base {base base' : Nat} {v : Value} {l : List Wr} {w : World} (h : OwnR base v l w) (hb : base' ≤ base) : OwnR base' v l w := owns_base h hb
def cntR (L : List Wr) : Nat := 1 + 2 * L.length
def mRc (L : List Wr) : List Wr := mWrs 1 L.length
theorem dkLog_len {d : Dk} (hd : d.secs.length ≤ 1048576) (a q : Int) : (dkLog d a q).1.length ≤ 1048576 := by
  by_cases hb : lgBad d a q
  · rw [dkLog_bad hb]; simp
  · rw [dkLog_ok hb]
    have hR : dkRight d = true := by
      cases h : dkRight d with
      | true => rfl
      | false => exact absurd (.inl h) hb
    have ha : a.toNat ≤ (flushL d.secs d.cache).length := by
      rw [flushL_len]
      by_cases h : (d.secs.length : Int) ≤ a
      · exact absurd (.inr (.inr (.inl h))) hb
      · omega
    have := logR_len (flush64 hR) (d.secs.length - a.toNat + 1) a.toNat q ha
    rw [flushL_len] at this
    simp only
    omega
set_option maxHeartbeats 2000000 in
theorem eqLogOut_own (b1 b2 : Nat) (v v' : Value) (nx k : Int) (L : List Wr) (w : World) (hf : L.length ≤ 1048576) (h : OwnR b1 v L w) (h' : OwnR b2 v' L w) :
    Calls Try.prog 47 #[.agg #[v, .int .i64 nx, .int .i64 k], .agg #[v', .int .i64 nx, .int .i64 k]] w fun e w' => e = .returned (.bool true) ∧ Below w.heap.size w w' := by
  have C1 := hide (fun (W : World) (hb : Below w.heap.size w W) => eqRecordS_own _ _ _ _ L W hf (h.below hb) (h'.below hb))
  obtain ⟨ao, p, rfl⟩ := ownR_shape h
  obtain ⟨ao', p', rfl⟩ := ownR_shape h'
  have HA := hide (two_allocs w (.cells #[.slice ao L.length p, .int .i64 nx, .int .i64 k] 31) (.cells #[.slice ao' L.length p', .int .i64 nx, .int .i64 k] 31))
  have B0 := hide (((Below.refl w.heap.size w).alloc (Nat.le_refl _) (.cells #[.slice ao L.length p, .int .i64 nx, .int .i64 k] 31)).alloc (by simp) (.cells #[.slice ao' L.length p', .int .i64 nx, .int .i64 k] 31))
  clear h h' hf
  go_enter Try.func47, Try.ntmps47
  go_wp2_with fail
  refine (C1.out _ B0.out).mono ?_
  generalize (w.alloc (.cells #[.slice ao L.length p, .int .i64 nx, .int .i64 k] 31)).alloc (.cells #[.slice ao' L.length p', .int .i64 nx, .int .i64 k] 31) = W0 at *
  rintro e w1 ⟨rfl, b1⟩
  obtain ⟨hx0, hy0, hz0⟩ := HA.out
  obtain ⟨x0, x1, x2, xf⟩ := cells3g ((b1.block w.heap.size (by omega)).trans hx0)
  obtain ⟨y0, y1, y2, yf⟩ := cells3g ((b1.block (w.heap.size + 1) (by omega)).trans hy0)
  have B1 := hide (B0.out.trans (b1.mono B0.out.size))
  clear b1 HA hx0 hy0 hz0 B0 C1
  go_wp2
  go_ret
  exact ⟨rfl, B1.out⟩
set_option maxHeartbeats 2000000 in
theorem markLogOut_own (base : Nat) (v : Value) (nx k : Int) (L : List Wr) (w : World) (hf : L.length ≤ 1048576) (h : OwnR base v L w) :
    Calls Try.prog 48 #[.agg #[v, .int .i64 nx, .int .i64 k], .int .i64 1] w fun e w' => e = .returned (.int .i64 ((cntR L : Nat) : Int)) ∧ OwnR base v (mRc L) w' ∧ GL [v] w w' := by
  have BA := (Below.refl w.heap.size w).alloc (Nat.le_refl _) (.cells #[v, .int .i64 nx, .int .i64 k] 31)
  have HC := hide (markRecordS_mk base v L 1 _ (by omega) (by omega) (h.below BA))
  have B0 := hide (GL.alloc [v] w (.cells #[v, .int .i64 nx, .int .i64 k] 31))
  obtain ⟨ao, p, rfl⟩ := ownR_shape h
  have HE : Hid (cntR L = 1 + 2 * L.length ∧ mRc L = mWrs 1 L.length) := ⟨rfl, rfl⟩
  generalize cntR L = n at *
  generalize mRc L = ms at *
  clear h hf BA
  go_enter Try.func48, Try.ntmps48
  go_wp2_with fail
  refine HC.out.mono ?_
  generalize w.alloc (.cells #[.slice ao L.length p, .int .i64 nx, .int .i64 k] 31) = W0 at *
  rintro e w1 ⟨rfl, o1, g1⟩
  have O1 := hide o1
  have B1 := hide (B0.out.trans (GL.of g1 (by simp)))
  clear o1 g1 HC B0
  rw [← HE.out.1]
  go_wp2
  go_ret
  exact ⟨rfl, by rw [HE.out.2]; exact O1.out, B1.out⟩
set_option maxHeartbeats 2000000 in
theorem heldLogOut_own (base : Nat) (v : Value) (nx k : Int) (L : List Wr) (w : World) (hf : L.length ≤ 1048576) (h : OwnR base v (mRc L) w) :
    Calls Try.prog 49 #[.agg #[v, .int .i64 nx, .int .i64 k], .int .i64 1] w fun e w' => e = .returned (.int .i64 ((cntR L : Nat) : Int)) ∧ Below w.heap.size w w' := by
  have BA := (Below.refl w.heap.size w).alloc (Nat.le_refl _) (.cells #[v, .int .i64 nx, .int .i64 k] 31)
  have HC := hide (heldRecordS_mk base v L.length 1 _ (by omega) (by omega) (h.below BA))
  have B0 := hide BA
  have HE : Hid (cntR L = 1 + 2 * L.length) := rfl
  obtain ⟨ao, p, es⟩ := ownR_shape h
  unfold mRc at es
  rw [mWrs_len] at es
  subst es
  generalize cntR L = n at *
  clear h hf BA
  have hn : ¬ ((n : Int) < 0) := by omega
  go_enter Try.func49, Try.ntmps49
  go_wp2_with fail
  refine HC.out.mono ?_
  generalize hW : w.alloc (.cells #[.slice ao L.length p, .int .i64 nx, .int .i64 k] 31) = W0 at *
  rintro e w1 ⟨rfl, g1⟩
  have B1 := hide (B0.out.trans (g1.mono B0.out.size))
  clear g1 HC B0 hW
  rw [← HE.out]
  go_wp2
  go_ret
  exact ⟨rfl, B1.out⟩
end Go.Proofs.Ytfhfhpnoeghgmaa

/-
  Records held against each other as a whole; facts that hold of all later worlds.
-/
namespace Go.Proofs.Ytfhfhpnoeghgmaa
open Go.RowKit
set_option maxRecDepth 100000

theorem rec_neq (n m : Int) (s t : ByteArray) (W : World) : (binOp .neq 34 (.agg #[.int .i64 n, .string s]) (.agg #[.int .i64 m, .string t])).run Try.prog W = .ok (.bool (!decide (n = m ∧ s = t))) W := by
  by_cases h1 : n = m
  · by_cases h2 : s = t
    · subst h1 h2
      go_simp
    · have h3 : ¬ s.toList = t.toList := fun e => h2 (ba_ext (by rw [ByteArray.toList_eq, ByteArray.toList_eq] at e; exact e))
      go_simp
  · go_simp
/-- P holds here and in all later worlds. -/
def Ever (P : World → Prop) (W : World) : Prop := ∀ W', Below W.heap.size W W' → P W'
section
variable {P Q : World → Prop} {W W' : World}
theorem Ever.below (h : Ever P W) (b : Below W.heap.size W W') : Ever P W' := fun W2 k => h W2 (b.trans (k.mono b.size))
theorem Ever.now (h : Ever P W) : P W := h W (Below.refl _ _)
theorem Ever.and (h : Ever P W) (k : Ever Q W) : Ever (fun W => P W ∧ Q W) W := fun W2 b => ⟨h W2 b, k W2 b⟩
theorem ever_heap {g : Nat} {o : Obj} (h : W.heap[g]? = some o) : Ever (fun W => W.heap[g]? = some o) W := fun _ b => (b.block g (blkS h)).trans h
theorem ever_ownD {b : Nat} {s c : Value} {d : Dk} (h : OwnD b s c d W) : Ever (fun W => OwnD b s c d W) W := fun _ k => h.below k
theorem ever_ownR {b : Nat} {v : Value} {L : List Wr} (h : OwnR b v L W) : Ever (fun W => OwnR b v L W) W := fun _ k => h.below k
theorem ever_base {w : World} (h : Below w.heap.size w W) : Ever (fun W => Below w.heap.size w W) W := fun _ k => h.trans (k.mono h.size)
end
theorem cells3r {w : World} {g : Nat} {a b c : Value} {t : TypeId} (h : w.heap[g]? = some (.cells #[a, b, c] t (0, 0))) : w.cell? ⟨g, 0, none⟩ = some a ∧ w.cell? ⟨g, 1, none⟩ = some b ∧ w.cell? ⟨g, 2, none⟩ = some c := by
  refine ⟨?_, ?_, ?_⟩ <;> (rw [cell_of_row _ _ _ _ _ _ h]; rfl)
theorem cells2r {w : World} {g : Nat} {a b : Value} {t : TypeId} (h : w.heap[g]? = some (.cells #[a, b] t (0, 0))) : w.cell? ⟨g, 0, none⟩ = some a ∧ w.cell? ⟨g, 1, none⟩ = some b := ⟨(cells2 h).1, (cells2 h).2.1⟩
end Go.Proofs.Ytfhfhpnoeghgmaa
