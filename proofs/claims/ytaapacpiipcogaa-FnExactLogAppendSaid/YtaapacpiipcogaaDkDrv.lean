/-
  Contracts: a disk taken in: the last writes of its sectors in a map; what lies on a sector.
-/
import Derived.Test.YtaapacpiipcogaaDkMap
import Derived.Test.YtaapacpiipcogaaOwnDk
import Derived.Test.YtaapacpiipcogaaSkips
namespace Go.Proofs.Ytaapacpiipcogaa
open Go.RowKit Go.Maps Go.ChangeMaps Go.MapKept
set_option maxRecDepth 100000

theorem keyI : Keyed Try.prog 2 := int_keyed Try.underlying2
theorem zeroS (w : World) : (zeroValue 92).run Try.prog w = .ok (.agg (secV zSec)) w := (zero_of_info Try.infoSec).1 w
/-- A disk in the taking in. -/
structure DI (w : World) (X : Array Value) (tx : Value) (g b n : Nat) (D : DataW Unit) (W : World) : Prop where
  below : Below w.heap.size w W
  par : W.heap[w.heap.size]? = some (.cells X 29 (0, 0))
  res : W.heap[w.heap.size + 1]? = some (.cells #[.slice none 0 0, .map none] 64 (0, 0))
  var : W.heap[g]? = some (.cells #[tx, .map (some b)] 64 (0, 0))
  map : W.ownsMap Try.prog 2 secR b n D
  gap : w.heap.size + 2 ≤ g ∧ w.heap.size + 2 ≤ b ∧ g ≠ b
section
variable {w W W' : World} {X : Array Value} {tx : Value} {g b n : Nat} {D D' : DataW Unit}
theorem ownsMap_below {k : TypeId} {R : Value → Option (DataW Unit × List MemPlace)} (h : W.ownsMap Try.prog k R b n D) (hb : Below W.heap.size W W') : W'.ownsMap Try.prog k R b n D := by
  obtain ⟨es, clock, h1, h2⟩ := h
  exact ⟨es, clock, (hb.block b (Array.getElem?_eq_some_iff.1 h1).1).trans h1, h2⟩
theorem DI.keep (h : DI w X tx g b n D W) (hb : Below W.heap.size W W') : DI w X tx g b n D W' :=
  ⟨h.below.trans (hb.mono h.below.size), (hb.block _ (Array.getElem?_eq_some_iff.1 h.par).1).trans h.par, (hb.block _ (Array.getElem?_eq_some_iff.1 h.res).1).trans h.res, (hb.block _ (Array.getElem?_eq_some_iff.1 h.var).1).trans h.var, ownsMap_below h.map hb, h.gap⟩
theorem DI.upd (h : DI w X tx g b n D W) (hm : W'.ownsMap Try.prog 2 secR b (n + 1) D') (hg : W.grownBy W' (some b)) : DI w X tx g b (n + 1) D' W' := by
  have h1 := h.gap
  refine ⟨h.below.grown hg h.below.size (fun j hj => by have := Option.some.inj hj; omega), (hg.block _ (Array.getElem?_eq_some_iff.1 h.par).1 (fun e => by have := Option.some.inj e; omega)).trans h.par, (hg.block _ (Array.getElem?_eq_some_iff.1 h.res).1 (fun e => by have := Option.some.inj e; omega)).trans h.res, (hg.block _ (Array.getElem?_eq_some_iff.1 h.var).1 (fun e => by have := Option.some.inj e; omega)).trans h.var, hm, h1⟩
end
theorem blk_lt' {w : World} {g : Nat} {o : Obj} (h : w.heap[g]? = some o) : g < w.heap.size := (Array.getElem?_eq_some_iff.1 h).1
theorem wf_i64' {n : Int} (h : wI64 n) : (Lit.int .i64 n).wf = true := WalkArith.wf_i64 h
section
variable {w W : World} {X : Array Value} {tx : Value} {g b n : Nat} {D : DataW Unit}
theorem DI.drewD (h : DI w X tx g b n D W) : DI w X tx g b n D W.drew := h.keep (Below.refl _ _).drew
theorem DI.mk' (hb : Below w.heap.size w W) (hp : W.heap[w.heap.size]? = some (.cells X 29 (0, 0))) (hr : W.heap[w.heap.size + 1]? = some (.cells #[.slice none 0 0, .map none] 64 (0, 0))) (hv : W.heap[g]? = some (.cells #[.slice none 0 0, .map none] 64 (0, 0)))
    (hm : W.ownsMap Try.prog 2 secR b n D) (hg : w.heap.size + 2 ≤ g ∧ w.heap.size + 2 ≤ b ∧ g ≠ b) : DI w X tx g b n D ((W.setCell ⟨g, 0, none⟩ tx).setCell ⟨g, 1, none⟩ (.map (some b))) := by
  refine ⟨(hb.setCell (by simp; omega) _).setCell (by simp; omega) _, ?_, ?_, ?_, (hm.setCell hg.2.2.symm _).setCell hg.2.2.symm _, hg⟩
  · rw [heap_far _ _ _ _ _ (by omega), heap_far _ _ _ _ _ (by omega)]; exact hp
  · rw [heap_far _ _ _ _ _ (by omega), heap_far _ _ _ _ _ (by omega)]; exact hr
  · exact set2 hv
theorem DI.out (h : DI w X tx g b n D W) {x y : Value} : ((W.setCell ⟨w.heap.size + 1, 0, none⟩ x).setCell ⟨w.heap.size + 1, 1, none⟩ y).ownsMap Try.prog 2 secR b n D ∧ Below w.heap.size w ((W.setCell ⟨w.heap.size + 1, 0, none⟩ x).setCell ⟨w.heap.size + 1, 1, none⟩ y) :=
  ⟨(h.map.setCell (by have := h.gap; simp; omega) _).setCell (by have := h.gap; simp; omega) _, (h.below.setCell (by simp) _).setCell (by simp) _⟩
end
theorem resDrv {fn : Func} {p : Tmp} (h : fn.results = #[.cell p 64]) (tmps : Array Value) (w : World) (g : Nat) (x y : Value) (hp : tmps.getD p undef = .pointer (some ⟨g, 0, none⟩))
    (hg : w.heap[g]? = some (.cells #[x, y] 64 (0, 0))) : (results fn tmps).run Try.prog w = .ok (.agg #[x, y]) w :=
  results_cell_row h tmps w g 64 #[x, y] (0, 0) _ hp hg Try.underlying64 rfl (by kernel_rfl)
set_option maxHeartbeats 4000000 in
theorem driveOf_any (A B : Nat) (so : Option Addr) (p : Nat) (co : Option Addr) (q : Nat) (d : Dk) (w : World) (hB : B ≤ w.heap.size) (hlen : d.cache.length ≤ 400) (hr : DkRow w A B so co d) :
    Calls Try.prog 38 #[.agg #[.slice so d.secs.length p, .slice co d.cache.length q]] w fun e w' => ∃ b, e = .returned (.agg #[.slice so d.secs.length p, .map (some b)]) ∧ w'.ownsMap Try.prog 2 secR b d.cache.length (cacheD d.cache) ∧ w.heap.size ≤ b ∧ Below w.heap.size w w' := by
  obtain ⟨ss, cs⟩ := d
  simp only at *
  have hmm : ∀ (W : World) (n : Int), (Instr.makeMap 62 (some (.int .i64 n))).run Try.prog W = .ok (.map (some W.heap.size)) (W.alloc (.map #[] 0)) := fun W n => by simp [Instr.makeMap, run_underlying Try.underlying62, asInt, newObj]; rfl
  have HR := hide hr.2.2
  have HSN := hide (fun k (n : Int) (t : ByteArray) (hk : k < cs.length) (hv : cs.getD k noWr = ⟨n, t⟩) => show cacheD (cs.take (k + 1)) = (cacheD (cs.take k)).put (.int .i64 n) (.lit (.string (pad t.data.toList))) by
    rw [List.getD_eq_getElem?_getD, List.getElem?_eq_getElem hk] at hv
    simp only [Option.getD_some] at hv
    rw [List.take_succ_eq_append_getElem hk, cacheD_snoc, hv])
  have h0 := two_allocs w (.cells #[.slice so ss.length p, .slice co cs.length q] 29) (.cells #[.slice none 0 0, .map none] 64)
  have X0 := hide h0.1
  have Y0 := hide h0.2.1
  have Z0 := hide h0.2.2
  have B0 := hide (((Below.refl w.heap.size w).alloc (Nat.le_refl _) (.cells #[.slice so ss.length p, .slice co cs.length q] 29)).alloc (by simp) (.cells #[.slice none 0 0, .map none] 64))
  clear h0 hr
  go_enter Try.func38, Try.ntmps38
  go_wp2
  have X1 := hide (show ((w.alloc (.cells #[.slice so ss.length p, .slice co cs.length q] 29)).alloc (.cells #[.slice none 0 0, .map none] 64)).drew.heap[w.heap.size]? = _ from X0.out)
  have Y1 := hide (show ((w.alloc (.cells #[.slice so ss.length p, .slice co cs.length q] 29)).alloc (.cells #[.slice none 0 0, .map none] 64)).drew.heap[w.heap.size + 1]? = _ from Y0.out)
  have B1 := hide B0.out.drew
  have Z1 := hide (show w.heap.size + 2 ≤ ((w.alloc (.cells #[.slice so ss.length p, .slice co cs.length q] 29)).alloc (.cells #[.slice none 0 0, .map none] 64)).drew.heap.size from Nat.le_of_eq Z0.out.symm)
  clear X0 Y0 B0 Z0
  generalize (w.alloc (.cells #[.slice so ss.length p, .slice co cs.length q] 29)).alloc (.cells #[.slice none 0 0, .map none] 64) = W0 at *
  refine wp_region_noPanic ?_
  refine wp_region_held_drew (S := fun W => W.heap[w.heap.size]? = some (.cells #[.slice so ss.length p, .slice co cs.length q] 29 (0, 0))) (by kernel_rfl) X1.out (fun hS1 => ?_)
  generalize W0.drew = W1 at *
  refine takeD 0 6 (v := ?v1) rfl rfl (by kernel_rfl) (by kernel_rfl) (by kernel_rfl) (fun _ _ _ h => h) (by kernel_rfl) ?hy1 (by assumption) ?r1
  case hy1 => (intro W hSw; go_simp; try with_reducible rfl)
  simp only [Act.put, List.setIfInBounds_toArray, List.set_cons_zero, List.set_cons_succ]
  refine takeD 1 7 (v := ?v2) rfl rfl (by kernel_rfl) (by kernel_rfl) (by kernel_rfl) (fun _ _ _ h => h) (by kernel_rfl) ?hy2 (by assumption) ?r2
  case hy2 => (intro W hSw; obtain ⟨x0, x1, xf⟩ := cells2 hSw; go_simp; try with_reducible rfl)
  simp only [Act.put, List.setIfInBounds_toArray, List.set_cons_zero, List.set_cons_succ]
  refine takeD 2 8 (v := ?v3) rfl rfl (by kernel_rfl) (by kernel_rfl) (by kernel_rfl) (fun _ _ _ h => h) (by kernel_rfl) ?hy3 (by assumption) ?r3
  case hy3 => (intro W hSw; go_simp; try with_reducible rfl)
  simp only [Act.put, List.setIfInBounds_toArray, List.set_cons_zero, List.set_cons_succ]
  refine takeD 3 9 (v := ?v4) rfl rfl (by kernel_rfl) (by kernel_rfl) (by kernel_rfl) (fun _ _ _ h => h) (by kernel_rfl) ?hy4 (by assumption) ?r4
  case hy4 => (intro W hSw; obtain ⟨x0, x1, xf⟩ := cells2 hSw; go_simp; try with_reducible rfl)
  simp only [Act.put, List.setIfInBounds_toArray, List.set_cons_zero, List.set_cons_succ]
  refine takeD 4 10 (v := ?v5) rfl rfl (by kernel_rfl) (by kernel_rfl) (by kernel_rfl) (fun _ _ _ h => h) (by kernel_rfl) ?hy5 (by assumption) ?r5
  case hy5 => (intro W hSw; go_simp; try with_reducible rfl)
  simp only [Act.put, List.setIfInBounds_toArray, List.set_cons_zero, List.set_cons_succ]
  refine wpAnyH_ready (rs := [5, 7]) (by kernel_rfl) (by simp) ?_
  refine AllReadyH.cons (o := _) rfl (fun K hK => ?_) (AllReadyH.cons (o := _) rfl (fun K hK => ?_) AllReadyH.nil)
  · skip
    go_simp
    have K2 := (Below.refl W1.heap.size W1).alloc (Nat.le_refl _) (.map #[] 0)
    have M2 := hide (World.ownsMap_made W1 Try.prog 2 secR)
    have X2 := hide ((K2.block _ (blk_lt' X1.out)).trans X1.out)
    have Y2 := hide ((K2.block _ (blk_lt' Y1.out)).trans Y1.out)
    have B2 := hide (B1.out.trans (K2.mono B1.out.size))
    have Z2 : Hid (W1.heap.size < (W1.alloc (.map #[] 0)).heap.size) := by show _ < _; simp
    refine hK.out _ _ X2.out (fun hS2 => ?_)
    clear hK K
    generalize W1.alloc (.map #[] 0) = W2 at *
    generalize W1.heap.size = b at *
    try simp only [Act.put, List.setIfInBounds_toArray, List.set_cons_zero, List.set_cons_succ]
    refine takeD 6 12 (v := ?v6) rfl rfl (by kernel_rfl) (by kernel_rfl) (by kernel_rfl) (fun _ _ _ h => h) (by kernel_rfl) ?hy6 (by assumption) ?r6
    case hy6 => (intro W hSw; go_simp; try with_reducible rfl)
    simp only [Act.put, List.setIfInBounds_toArray, List.set_cons_zero, List.set_cons_succ]
    refine wpAnyH_ready (rs := [7]) (by kernel_rfl) (by simp) ?_
    refine AllReadyH.cons (o := _) rfl (fun K hK => ?_) AllReadyH.nil
    go_simp
    have K3 := (Below.refl W2.heap.size W2).alloc (Nat.le_refl _) (.cells #[.slice none 0 0, .map none] 64)
    have V3 := hide (heap_alloc_new W2 (.cells #[.slice none 0 0, .map none] 64))
    have X3 := hide ((K3.block _ (blk_lt' X2.out)).trans X2.out)
    have Y3 := hide ((K3.block _ (blk_lt' Y2.out)).trans Y2.out)
    have B3 := hide (B2.out.trans (K3.mono B2.out.size))
    have Z3 : Hid (W2.heap.size < (W2.alloc (.cells #[.slice none 0 0, .map none] 64)).heap.size) := by show _ < _; simp
    have M3 := hide (ownsMap_below M2.out K3)
    have ZG : Hid (w.heap.size + 2 ≤ W2.heap.size ∧ w.heap.size + 2 ≤ b ∧ W2.heap.size ≠ b) := by have h1 := Z1.out; have h2 := Z2.out; exact ⟨by omega, h1, by omega⟩
    clear K2 K3 M2 X2 Y2 B2
    refine hK.out _ _ X3.out (fun hS3 => ?_)
    clear hK K
    generalize W2.alloc (.cells #[.slice none 0 0, .map none] 64) = W3 at *
    generalize W2.heap.size = g at *
    try simp only [Act.put, List.setIfInBounds_toArray, List.set_cons_zero, List.set_cons_succ]
    clear Z2 Z3 hS2
    refine wpAnyH_ready (rs := [8]) (by kernel_rfl) (by simp) ?_
    refine AllReadyH.cons (o := _) rfl (fun K hK => ?_) AllReadyH.nil
    obtain ⟨g0, g1, gf⟩ := cells2 V3.out
    go_simp
    have D3 := hide (DI.mk' (tx := .slice so ss.length p) B3.out X3.out Y3.out V3.out M3.out ZG.out)
    refine hK.out _ _ D3.out.par (fun hS => ?_)
    clear hK K g0 g1 gf hS X3 Y3 V3 M3 B3 X1 Y1 B1 Z1
    generalize (W3.setCell ⟨g, 0, none⟩ (.slice so ss.length p)).setCell ⟨g, 1, none⟩ (.map (some b)) = WZ at *
    refine wpAnyH_done (by kernel_rfl) ?_ _
    refine NoPanic.normal ?_
    obtain ⟨x0, x1, xf⟩ := cells2 D3.out.par
    go_wp2
    clear x0 x1 xf
    go_loopw [16] (fun i wr => ∃ k : Nat, k ≤ cs.length ∧ i = .int .i64 k ∧ Hid (DI w #[.slice so ss.length p, .slice co cs.length q] (.slice so ss.length p) g b k (cacheD (cs.take k)) wr)) (fun i _ => cs.length - (intOf i).toNat)
    case atStart => exact ⟨0, Nat.zero_le _, rfl, D3⟩
    case round =>
      obtain ⟨k, hk, rfl, G⟩ := hrel
      clear D3
      by_cases hlt : k < cs.length
      · obtain ⟨b', off, nn, tt, rfl, hbB, hv, htt, hki, d0, d1⟩ := (HR.out.kept (G.out.below.mono hB)).at k hlt
        have HV := hide (HSN.out k nn tt hlt hv)
        have hz := G.out.below.size
        have K1 := (Below.refl wr.heap.size wr).alloc (Nat.le_refl _) (.cells #[.int .i64 nn, .string tt] 85)
        have G1 := hide (G.out.keep K1)
        have T1 := hide (heap_alloc_new wr (.cells #[.int .i64 nn, .string tt] 85))
        have HSO := hide (fun W => sectorOf_any tt W)
        have HWF : Hid (keyOf Try.prog 2 (.int .i64 nn) = some (.int .i64 nn)) := keyOf_int_mk Try.underlying2 (wf_i64' hki)
        clear hv K1 htt hki
        go_wp2
        have G2 := hide G1.out.drewD
        have T2 := hide (show (wr.alloc (.cells #[.int .i64 nn, .string tt] 85)).drew.heap[wr.heap.size]? = _ from T1.out)
        clear G1 T1 d0 d1 hz
        generalize wr.alloc (.cells #[.int .i64 nn, .string tt] 85) = W5 at *
        refine wp_region_noPanic ?_
        refine wp_region_held_drew (S := fun W => W.heap[g]? = some (.cells #[.slice so ss.length p, .map (some b)] 64 (0, 0)) ∧ W.heap[wr.heap.size]? = some (.cells #[.int .i64 nn, .string tt] 85 (0, 0))) (by kernel_rfl) ⟨G2.out.var, T2.out⟩ (fun hS1 => ?_)
        generalize W5.drew = W6 at *
        have hbt : b ≠ wr.heap.size := fun e => by have := G.out.map.lt; omega
        have HBT := hide hbt
        clear hbt
        generalize wr.heap.size = t5 at *
        refine takeD 0 20 (v := ?v7) rfl rfl (by kernel_rfl) (by kernel_rfl) (by kernel_rfl) (fun _ _ _ h => h) (by kernel_rfl) ?hy7 (by assumption) ?r7
        case hy7 => (intro W hSw; go_simp; try with_reducible rfl)
        simp only [Act.put, List.setIfInBounds_toArray, List.set_cons_zero, List.set_cons_succ]
        refine takeD 1 21 (v := ?v8) rfl rfl (by kernel_rfl) (by kernel_rfl) (by kernel_rfl) (fun _ _ _ h => h) (by kernel_rfl) ?hy8 (by assumption) ?r8
        case hy8 => (intro W hSw; obtain ⟨a0, a1, af⟩ := cells2 hSw.1; obtain ⟨b0, b1, bf⟩ := cells2 hSw.2; go_simp; try with_reducible rfl)
        simp only [Act.put, List.setIfInBounds_toArray, List.set_cons_zero, List.set_cons_succ]
        refine takeD 2 22 (v := ?v9) rfl rfl (by kernel_rfl) (by kernel_rfl) (by kernel_rfl) (fun _ _ _ h => h) (by kernel_rfl) ?hy9 (by assumption) ?r9
        case hy9 => (intro W hSw; go_simp; try with_reducible rfl)
        simp only [Act.put, List.setIfInBounds_toArray, List.set_cons_zero, List.set_cons_succ]
        refine takeD 3 23 (v := ?v10) rfl rfl (by kernel_rfl) (by kernel_rfl) (by kernel_rfl) (fun _ _ _ h => h) (by kernel_rfl) ?hy10 (by assumption) ?r10
        case hy10 => (intro W hSw; obtain ⟨a0, a1, af⟩ := cells2 hSw.1; obtain ⟨b0, b1, bf⟩ := cells2 hSw.2; go_simp; try with_reducible rfl)
        simp only [Act.put, List.setIfInBounds_toArray, List.set_cons_zero, List.set_cons_succ]
        refine takeD 4 24 (v := ?v11) rfl rfl (by kernel_rfl) (by kernel_rfl) (by kernel_rfl) (fun _ _ _ h => h) (by kernel_rfl) ?hy11 (by assumption) ?r11
        case hy11 => (intro W hSw; go_simp; try with_reducible rfl)
        simp only [Act.put, List.setIfInBounds_toArray, List.set_cons_zero, List.set_cons_succ]
        refine takeD 5 25 (v := ?v12) rfl rfl (by kernel_rfl) (by kernel_rfl) (by kernel_rfl) (fun _ _ _ h => h) (by kernel_rfl) ?hy12 (by assumption) ?r12
        case hy12 => (intro W hSw; obtain ⟨a0, a1, af⟩ := cells2 hSw.1; obtain ⟨b0, b1, bf⟩ := cells2 hSw.2; go_simp; try with_reducible rfl)
        simp only [Act.put, List.setIfInBounds_toArray, List.set_cons_zero, List.set_cons_succ]
        refine wpAnyH_ready (rs := [6]) (by kernel_rfl) (by simp) ?_
        refine AllReadyH.cons (o := _) rfl (fun K hK => ?_) AllReadyH.nil
        go_simp
        go_at_call 65
        refine (HSO.out _).mono ?_
        rintro e W7 ⟨rfl, b7⟩
        have G7 := hide (G2.out.keep b7)
        have T7 := hide ((b7.block _ (blk_lt' T2.out)).trans T2.out)
        clear b7 G2 T2
        go_wp2_with fail
        refine hK.out _ _ ⟨G7.out.var, T7.out⟩ (fun hS2 => ?_)
        clear hK K hS1
        try simp only [Act.put, List.setIfInBounds_toArray, List.set_cons_zero, List.set_cons_succ]
        refine wpAnyH_ready (rs := [7]) (by kernel_rfl) (by simp) ?_
        refine AllReadyH.cons (o := _) rfl (fun K hK => ?_) AllReadyH.nil
        refine step_mapUpd rfl (.tmp 21) (.tmp 23) (.tmp 26) 62 rfl 2 92 keyI Try.underlying62 secR b k _ rfl G7.out.map (by unfold maxLen; omega) _ _ _ rfl rfl HWF.out _ _ (secR_mk _) ?_
        intro W8 m8 g8
        have G8 := hide (G7.out.upd m8 g8)
        have T8 := hide ((g8.block _ (blk_lt' T7.out) (fun e => HBT.out (Option.some.inj e).symm)).trans T7.out)
        rw [← HV.out] at G8
        clear m8 g8 G7 T7
        refine hK.out _ _ ⟨G8.out.var, T8.out⟩ (fun hS3 => ?_)
        clear hK K hS2 hS3
        refine wpAnyH_done (by kernel_rfl) ?_ _
        refine NoPanic.normal ?_
        clear T8 HV HBT HWF HSO G
        go_wp2
        go_roundw
        case rel => exact ⟨k + 1, by omega, by go_num, G8⟩
        case measure => simp [intOf]; omega
      · obtain rfl : k = cs.length := by omega
        have G9 := G
        rw [List.take_length] at G9
        obtain ⟨g0, g1, gf⟩ := cells2 G9.out.var
        obtain ⟨y0, y1, yf⟩ := cells2 G9.out.res
        clear G
        go_wp2
        exact bodyPost_ret (v := .agg #[.slice so ss.length p, .map (some b)]) (resDrv Try.results38 _ _ (w.heap.size + 1) _ _ rfl (set2 G9.out.res)) rfl ⟨b, rfl, G9.out.out.1, by have := G9.out.gap; omega, G9.out.out.2⟩
  · skip
    go_simp
    have K2 := (Below.refl W1.heap.size W1).alloc (Nat.le_refl _) (.cells #[.slice none 0 0, .map none] 64)
    have V2 := hide (heap_alloc_new W1 (.cells #[.slice none 0 0, .map none] 64))
    have X2 := hide ((K2.block _ (blk_lt' X1.out)).trans X1.out)
    have Y2 := hide ((K2.block _ (blk_lt' Y1.out)).trans Y1.out)
    have B2 := hide (B1.out.trans (K2.mono B1.out.size))
    have Z2 : Hid (W1.heap.size < (W1.alloc (.cells #[.slice none 0 0, .map none] 64)).heap.size) := by show _ < _; simp
    refine hK.out _ _ X2.out (fun hS2 => ?_)
    clear hK K
    generalize W1.alloc (.cells #[.slice none 0 0, .map none] 64) = W2 at *
    generalize W1.heap.size = g at *
    try simp only [Act.put, List.setIfInBounds_toArray, List.set_cons_zero, List.set_cons_succ]
    refine wpAnyH_ready (rs := [5]) (by kernel_rfl) (by simp) ?_
    refine AllReadyH.cons (o := _) rfl (fun K hK => ?_) AllReadyH.nil
    go_simp
    have K3 := (Below.refl W2.heap.size W2).alloc (Nat.le_refl _) (.map #[] 0)
    have M3 := hide (World.ownsMap_made W2 Try.prog 2 secR)
    have X3 := hide ((K3.block _ (blk_lt' X2.out)).trans X2.out)
    have Y3 := hide ((K3.block _ (blk_lt' Y2.out)).trans Y2.out)
    have B3 := hide (B2.out.trans (K3.mono B2.out.size))
    have Z3 : Hid (W2.heap.size < (W2.alloc (.map #[] 0)).heap.size) := by show _ < _; simp
    have V3 := hide ((K3.block _ (blk_lt' V2.out)).trans V2.out)
    have ZG : Hid (w.heap.size + 2 ≤ g ∧ w.heap.size + 2 ≤ W2.heap.size ∧ g ≠ W2.heap.size) := by have h1 := Z1.out; have h2 := Z2.out; exact ⟨h1, by omega, by omega⟩
    clear K2 K3 V2 X2 Y2 B2
    refine hK.out _ _ X3.out (fun hS3 => ?_)
    clear hK K
    generalize W2.alloc (.map #[] 0) = W3 at *
    generalize W2.heap.size = b at *
    try simp only [Act.put, List.setIfInBounds_toArray, List.set_cons_zero, List.set_cons_succ]
    clear Z2 Z3 hS2
    refine takeD 6 12 (v := ?v13) rfl rfl (by kernel_rfl) (by kernel_rfl) (by kernel_rfl) (fun _ _ _ h => h) (by kernel_rfl) ?hy13 (by assumption) ?r13
    case hy13 => (intro W hSw; go_simp; try with_reducible rfl)
    simp only [Act.put, List.setIfInBounds_toArray, List.set_cons_zero, List.set_cons_succ]
    refine wpAnyH_ready (rs := [8]) (by kernel_rfl) (by simp) ?_
    refine AllReadyH.cons (o := _) rfl (fun K hK => ?_) AllReadyH.nil
    obtain ⟨g0, g1, gf⟩ := cells2 V3.out
    go_simp
    have D3 := hide (DI.mk' (tx := .slice so ss.length p) B3.out X3.out Y3.out V3.out M3.out ZG.out)
    refine hK.out _ _ D3.out.par (fun hS => ?_)
    clear hK K g0 g1 gf hS X3 Y3 V3 M3 B3 X1 Y1 B1 Z1
    generalize (W3.setCell ⟨g, 0, none⟩ (.slice so ss.length p)).setCell ⟨g, 1, none⟩ (.map (some b)) = WZ at *
    refine wpAnyH_done (by kernel_rfl) ?_ _
    refine NoPanic.normal ?_
    obtain ⟨x0, x1, xf⟩ := cells2 D3.out.par
    go_wp2
    clear x0 x1 xf
    go_loopw [16] (fun i wr => ∃ k : Nat, k ≤ cs.length ∧ i = .int .i64 k ∧ Hid (DI w #[.slice so ss.length p, .slice co cs.length q] (.slice so ss.length p) g b k (cacheD (cs.take k)) wr)) (fun i _ => cs.length - (intOf i).toNat)
    case atStart => exact ⟨0, Nat.zero_le _, rfl, D3⟩
    case round =>
      obtain ⟨k, hk, rfl, G⟩ := hrel
      clear D3
      by_cases hlt : k < cs.length
      · obtain ⟨b', off, nn, tt, rfl, hbB, hv, htt, hki, d0, d1⟩ := (HR.out.kept (G.out.below.mono hB)).at k hlt
        have HV := hide (HSN.out k nn tt hlt hv)
        have hz := G.out.below.size
        have K1 := (Below.refl wr.heap.size wr).alloc (Nat.le_refl _) (.cells #[.int .i64 nn, .string tt] 85)
        have G1 := hide (G.out.keep K1)
        have T1 := hide (heap_alloc_new wr (.cells #[.int .i64 nn, .string tt] 85))
        have HSO := hide (fun W => sectorOf_any tt W)
        have HWF : Hid (keyOf Try.prog 2 (.int .i64 nn) = some (.int .i64 nn)) := keyOf_int_mk Try.underlying2 (wf_i64' hki)
        clear hv K1 htt hki
        go_wp2
        have G2 := hide G1.out.drewD
        have T2 := hide (show (wr.alloc (.cells #[.int .i64 nn, .string tt] 85)).drew.heap[wr.heap.size]? = _ from T1.out)
        clear G1 T1 d0 d1 hz
        generalize wr.alloc (.cells #[.int .i64 nn, .string tt] 85) = W5 at *
        refine wp_region_noPanic ?_
        refine wp_region_held_drew (S := fun W => W.heap[g]? = some (.cells #[.slice so ss.length p, .map (some b)] 64 (0, 0)) ∧ W.heap[wr.heap.size]? = some (.cells #[.int .i64 nn, .string tt] 85 (0, 0))) (by kernel_rfl) ⟨G2.out.var, T2.out⟩ (fun hS1 => ?_)
        generalize W5.drew = W6 at *
        have hbt : b ≠ wr.heap.size := fun e => by have := G.out.map.lt; omega
        have HBT := hide hbt
        clear hbt
        generalize wr.heap.size = t5 at *
        refine takeD 0 20 (v := ?v14) rfl rfl (by kernel_rfl) (by kernel_rfl) (by kernel_rfl) (fun _ _ _ h => h) (by kernel_rfl) ?hy14 (by assumption) ?r14
        case hy14 => (intro W hSw; go_simp; try with_reducible rfl)
        simp only [Act.put, List.setIfInBounds_toArray, List.set_cons_zero, List.set_cons_succ]
        refine takeD 1 21 (v := ?v15) rfl rfl (by kernel_rfl) (by kernel_rfl) (by kernel_rfl) (fun _ _ _ h => h) (by kernel_rfl) ?hy15 (by assumption) ?r15
        case hy15 => (intro W hSw; obtain ⟨a0, a1, af⟩ := cells2 hSw.1; obtain ⟨b0, b1, bf⟩ := cells2 hSw.2; go_simp; try with_reducible rfl)
        simp only [Act.put, List.setIfInBounds_toArray, List.set_cons_zero, List.set_cons_succ]
        refine takeD 2 22 (v := ?v16) rfl rfl (by kernel_rfl) (by kernel_rfl) (by kernel_rfl) (fun _ _ _ h => h) (by kernel_rfl) ?hy16 (by assumption) ?r16
        case hy16 => (intro W hSw; go_simp; try with_reducible rfl)
        simp only [Act.put, List.setIfInBounds_toArray, List.set_cons_zero, List.set_cons_succ]
        refine takeD 3 23 (v := ?v17) rfl rfl (by kernel_rfl) (by kernel_rfl) (by kernel_rfl) (fun _ _ _ h => h) (by kernel_rfl) ?hy17 (by assumption) ?r17
        case hy17 => (intro W hSw; obtain ⟨a0, a1, af⟩ := cells2 hSw.1; obtain ⟨b0, b1, bf⟩ := cells2 hSw.2; go_simp; try with_reducible rfl)
        simp only [Act.put, List.setIfInBounds_toArray, List.set_cons_zero, List.set_cons_succ]
        refine takeD 4 24 (v := ?v18) rfl rfl (by kernel_rfl) (by kernel_rfl) (by kernel_rfl) (fun _ _ _ h => h) (by kernel_rfl) ?hy18 (by assumption) ?r18
        case hy18 => (intro W hSw; go_simp; try with_reducible rfl)
        simp only [Act.put, List.setIfInBounds_toArray, List.set_cons_zero, List.set_cons_succ]
        refine takeD 5 25 (v := ?v19) rfl rfl (by kernel_rfl) (by kernel_rfl) (by kernel_rfl) (fun _ _ _ h => h) (by kernel_rfl) ?hy19 (by assumption) ?r19
        case hy19 => (intro W hSw; obtain ⟨a0, a1, af⟩ := cells2 hSw.1; obtain ⟨b0, b1, bf⟩ := cells2 hSw.2; go_simp; try with_reducible rfl)
        simp only [Act.put, List.setIfInBounds_toArray, List.set_cons_zero, List.set_cons_succ]
        refine wpAnyH_ready (rs := [6]) (by kernel_rfl) (by simp) ?_
        refine AllReadyH.cons (o := _) rfl (fun K hK => ?_) AllReadyH.nil
        go_simp
        go_at_call 65
        refine (HSO.out _).mono ?_
        rintro e W7 ⟨rfl, b7⟩
        have G7 := hide (G2.out.keep b7)
        have T7 := hide ((b7.block _ (blk_lt' T2.out)).trans T2.out)
        clear b7 G2 T2
        go_wp2_with fail
        refine hK.out _ _ ⟨G7.out.var, T7.out⟩ (fun hS2 => ?_)
        clear hK K hS1
        try simp only [Act.put, List.setIfInBounds_toArray, List.set_cons_zero, List.set_cons_succ]
        refine wpAnyH_ready (rs := [7]) (by kernel_rfl) (by simp) ?_
        refine AllReadyH.cons (o := _) rfl (fun K hK => ?_) AllReadyH.nil
        refine step_mapUpd rfl (.tmp 21) (.tmp 23) (.tmp 26) 62 rfl 2 92 keyI Try.underlying62 secR b k _ rfl G7.out.map (by unfold maxLen; omega) _ _ _ rfl rfl HWF.out _ _ (secR_mk _) ?_
        intro W8 m8 g8
        have G8 := hide (G7.out.upd m8 g8)
        have T8 := hide ((g8.block _ (blk_lt' T7.out) (fun e => HBT.out (Option.some.inj e).symm)).trans T7.out)
        rw [← HV.out] at G8
        clear m8 g8 G7 T7
        refine hK.out _ _ ⟨G8.out.var, T8.out⟩ (fun hS3 => ?_)
        clear hK K hS2 hS3
        refine wpAnyH_done (by kernel_rfl) ?_ _
        refine NoPanic.normal ?_
        clear T8 HV HBT HWF HSO G
        go_wp2
        go_roundw
        case rel => exact ⟨k + 1, by omega, by go_num, G8⟩
        case measure => simp [intOf]; omega
      · obtain rfl : k = cs.length := by omega
        have G9 := G
        rw [List.take_length] at G9
        obtain ⟨g0, g1, gf⟩ := cells2 G9.out.var
        obtain ⟨y0, y1, yf⟩ := cells2 G9.out.res
        clear G
        go_wp2
        exact bodyPost_ret (v := .agg #[.slice so ss.length p, .map (some b)]) (resDrv Try.results38 _ _ (w.heap.size + 1) _ _ rfl (set2 G9.out.res)) rfl ⟨b, rfl, G9.out.out.1, by have := G9.out.gap; omega, G9.out.out.2⟩
end Go.Proofs.Ytaapacpiipcogaa
