/-
  Contracts and plain laws: TbOp, TbRt
-/
import Derived.Test.YtkhklfnhninkjaaGreatQc
import Derived.Test.YtkhklfnhninkjaaGreatQd
import Derived.StringKeys

/-
  Contract: a table taken in by the program.
-/
namespace Go.Proofs.YtkhklfnhninkjaaGreat
open Go.RowKit Go.Maps
set_option maxRecDepth 100000

theorem resOT {fn : Func} {p u : Tmp} (h : fn.results = #[.cell p 54, .tmp u]) (tmps : Array Value) (w : World) (g : Nat) (x0 x1 x2 x3 x4 : Value) (b : Bool) (hp : tmps.getD p undef = .pointer (some ⟨g, 0, none⟩)) (hu : tmps.getD u undef = .bool b)
    (hg : w.heap[g]? = some (.cells #[x0, x1, x2, x3, x4] 54 (0, 0))) : (results fn tmps).run Tryz.prog w = .ok (.tuple #[.agg #[x0, x1, x2, x3, x4], .bool b]) w := by
  rw [results_cell_tmp h, hp, hu]
  simp [asAddr, run_loadVar_row w g 54 54 #[x0, x1, x2, x3, x4] (0, 0) _ hg Tryz.underlying54 rfl (by kernel_rfl), Result.andThen]
/-- A table in the taking in. -/
structure OI (w : World) (X : Array Value) (a b c d : Value) (g mb n : Nat) (D : DataW Value) (W : World) : Prop where
  below : Below w.heap.size w W
  par : W.heap[w.heap.size]? = some (.cells X 38 (0, 0))
  res : W.heap[w.heap.size + 1]? = some (.cells #[.string ⟨#[]⟩, .slice none 0 0, .slice none 0 0, .slice none 0 0, .map none] 54 (0, 0))
  var : W.heap[g]? = some (.cells #[a, b, c, d, .map (some mb)] 54 (0, 0))
  map : W.ownsMap Tryz.prog 9 rwR mb n D
  gap : w.heap.size + 2 ≤ g ∧ w.heap.size + 2 ≤ mb ∧ g ≠ mb
section
variable {w W W' : World} {X : Array Value} {a b c d : Value} {g mb n : Nat} {D D' : DataW Value}
theorem OI.keep (h : OI w X a b c d g mb n D W) (hb : Below W.heap.size W W') : OI w X a b c d g mb n D W' :=
  ⟨h.below.trans (hb.mono h.below.size), (hb.block _ (blkC h.par)).trans h.par, (hb.block _ (blkC h.res)).trans h.res, (hb.block _ (blkC h.var)).trans h.var, h.map.kept (grown_of_below' none hb) (by simp), h.gap⟩
theorem OI.upd (h : OI w X a b c d g mb n D W) (hm : W'.ownsMap Tryz.prog 9 rwR mb (n + 1) D') (hg : W.grownBy W' (some mb)) : OI w X a b c d g mb (n + 1) D' W' := by
  have h1 := h.gap
  refine ⟨h.below.grown hg h.below.size (fun j hj => by have := Option.some.inj hj; omega), (hg.block _ (blkC h.par) (fun e => by have := Option.some.inj e; omega)).trans h.par, (hg.block _ (blkC h.res) (fun e => by have := Option.some.inj e; omega)).trans h.res, (hg.block _ (blkC h.var) (fun e => by have := Option.some.inj e; omega)).trans h.var, hm, h1⟩
theorem heap_setL_far : ∀ (xs : List Value) (W : World) (g m b : Nat), b ≠ g → (setL W g m xs).heap[b]? = W.heap[b]?
  | [], _, _, _, _, _ => rfl
  | x :: xs, W, g, m, b, h => by rw [setL, heap_setL_far xs _ _ _ _ h, heap_far _ _ _ _ _ h]
theorem ownsMap_setL : ∀ (xs : List Value) {W : World} {g m mb n : Nat} {D : DataW Value}, W.ownsMap Tryz.prog 9 rwR mb n D → mb ≠ g → (setL W g m xs).ownsMap Tryz.prog 9 rwR mb n D
  | [], _, _, _, _, _, _, h, _ => h
  | x :: xs, W, g, m, mb, n, D, h, hne => by rw [setL]; exact ownsMap_setL xs (h.setCell hne x) hne
theorem OI.mk' (hb : Below w.heap.size w W) (hp : W.heap[w.heap.size]? = some (.cells X 38 (0, 0))) (hr : W.heap[w.heap.size + 1]? = some (.cells #[.string ⟨#[]⟩, .slice none 0 0, .slice none 0 0, .slice none 0 0, .map none] 54 (0, 0))) (hv : W.heap[g]? = some (.cells #[.string ⟨#[]⟩, .slice none 0 0, .slice none 0 0, .slice none 0 0, .map none] 54 (0, 0)))
    (hm : W.ownsMap Tryz.prog 9 rwR mb n D) (hg : w.heap.size + 2 ≤ g ∧ w.heap.size + 2 ≤ mb ∧ g ≠ mb) : OI w X a b c d g mb n D (setL W g 0 [a, b, c, d, .map (some mb)]) :=
  ⟨setL_below _ hb (by omega), (heap_setL_far _ _ _ _ _ (by omega)).trans hp, (heap_setL_far _ _ _ _ _ (by omega)).trans hr, setL_heapL (m := 0) [a, b, c, d, .map (some mb)] (cur := [.string ⟨#[]⟩, .slice none 0 0, .slice none 0 0, .slice none 0 0, .map none]) hv, ownsMap_setL _ hm hg.2.2.symm, hg⟩
theorem OI.own_set (xs : List Value) (h : OI w X a b c d g mb n D W) : (setL W (w.heap.size + 1) 0 xs).ownsMap Tryz.prog 9 rwR mb n D := ownsMap_setL xs h.map (by have := h.gap; omega)
end
/-- The shape of an open table. -/
def OpenV (v : Value) : Prop := ∃ nm a1 n1 c1 a2 n2 c2 a3 n3 c3 m, v = .agg #[.string nm, .slice a1 n1 c1, .slice a2 n2 c2, .slice a3 n3 c3, .map m]
set_option maxHeartbeats 8000000 in
theorem implOpen_any (A B : Nat) (s : Sch) (l : List (List Val)) (a1 : Option Addr) (c1 : Nat) (a2 : Option Addr) (c2 : Nat) (a3 : Option Addr) (c3 : Nat) (a4 : Option Addr) (c4 : Nat) (m0 : Int) (w : World) (hB : B ≤ w.heap.size) (hl : l.length ≤ maxLen) (h1 : SchRow w A B a1 a2 a3 c2 s) (h2 : RwRow w A B a4 l) (hm : w.cell? ⟨0, 0, none⟩ = some (.int .i64 m0)) :
    Calls Tryz.prog 18 #[.agg #[.string s.name, .slice a1 s.cols.length c1, .slice a2 s.key.length c2, .slice a3 s.idx.length c3, .slice a4 l.length c4]] w fun e w' => ∃ v, e = .returned (.tuple #[v, .bool (tblB s l)]) ∧ OpenV v ∧ Below w.heap.size w w' ∧
      (tblB s l = true → ∃ mb D V, v = .agg #[.string s.name, .slice a1 s.cols.length c1, .slice a2 s.key.length c2, .slice a3 s.idx.length c3, .map (some mb)] ∧ w.heap.size ≤ mb ∧ w'.ownsMap Tryz.prog 9 rwR mb l.length D ∧ MapOk D (klOf s l) V l.length ∧ ∀ j, j < l.length → (V j).2.1 = (l.getD j []).length ∧ VAt w A B (V j).1 (l.getD j [])) := by
  unfold maxLen at hl
  have HSS := hide (fun (W : World) (hb : Below w.heap.size w W) => implSchemaRight_any A B a1 c1 a2 c2 a3 c3 s W (Nat.le_trans hB hb.size) (h1.kept (hb.mono hB)))
  obtain ⟨V, hV⟩ : ∃ V : Nat → Option Addr × Nat × Nat, ∀ j, j < l.length → (V j).2.1 = (l.getD j []).length ∧ VAt w A B (V j).1 (l.getD j []) ∧ ∀ b off, a4 = some ⟨b, off, none⟩ → w.cell? ⟨b, off + j, none⟩ = some (.slice (V j).1 (V j).2.1 (V j).2.2) := by
    have hEx : ∀ j, ∃ y : Option Addr × Nat × Nat, j < l.length → y.2.1 = (l.getD j []).length ∧ VAt w A B y.1 (l.getD j []) ∧ ∀ b off, a4 = some ⟨b, off, none⟩ → w.cell? ⟨b, off + j, none⟩ = some (.slice y.1 y.2.1 y.2.2) := fun j => by
      by_cases hj : j < l.length
      · obtain ⟨b, off, vs, vo, c, e, hbB, hx, hc, hvt, hcell⟩ := h2.at j hj
        refine ⟨(vo, vs.length, c), fun _ => ?_⟩
        rw [hx]
        refine ⟨rfl, hvt, fun b0 o0 e0 => ?_⟩
        rw [e] at e0
        obtain ⟨rfl, rfl⟩ : b = b0 ∧ off = o0 := by simpa using e0
        exact hcell
      · exact ⟨(none, 0, 0), fun h => absurd h hj⟩
    exact Classical.axiomOfChoice hEx
  have HV : Hid (∀ j, j < l.length → (V j).2.1 = (l.getD j []).length ∧ VAt w A B (V j).1 (l.getD j [])) := fun j hj => ⟨(hV j hj).1, (hV j hj).2.1⟩
  have hmm : ∀ (W : World) (n : Int), (Instr.makeMap 52 (some (.int .i64 n))).run Tryz.prog W = .ok (.map (some W.heap.size)) (W.alloc (.map #[] 0)) := fun W n => by simp [Instr.makeMap, run_underlying Tryz.underlying52, go_sem]
  have HOK : Hid (∀ j, ∀ v ∈ l.getD j [], v.ok) := fun j v hv => by
    by_cases hj : j < l.length
    · exact (hV j hj).2.1.1.1 v hv
    · rw [List.getD_eq_getElem?_getD, List.getElem?_eq_none (by omega)] at hv
      simp at hv
  have HLN : Hid (∀ j, j < l.length → (l.getD j []).length ≤ maxLen) := fun j hj => by
    obtain ⟨b, off, vs, vo, c, _, _, hx, hc, _, _⟩ := h2.at j hj
    rw [hx]
    exact Nat.le_trans hc.1 hc.2
  have HFI : Hid (schRight s = true → ∀ W, Below w.heap.size w W → ∀ k, k < l.length → Calls Tryz.prog 35 #[.agg #[.string s.name, .slice a1 s.cols.length c1, .slice a2 s.key.length c2, .slice a3 s.idx.length c3], .slice (V k).1 (V k).2.1 (V k).2.2] W fun e w' => e = .returned (.bool (rowOk s.cols (l.getD k []))) ∧ Below W.heap.size W w') := fun hs W hb k hk => by
    rw [(hV k hk).1]
    exact implRowFits_any A B B a1 c1 a2 c2 a3 c3 (V k).1 (V k).2.2 s (l.getD k []) W (Nat.le_trans hB hb.size) (Nat.le_trans hB hb.size) (HLN.out k hk) (h1.kept (hb.mono hB)) ((hV k hk).2.1.1.kept (hb.mono hB)) (fun i hi => schRight_kind hs i hi)
  have HKO : Hid (schRight s = true → ∀ W, Below w.heap.size w W → ∀ k, k < l.length → rowOk s.cols (l.getD k []) = true → ∀ mv, Calls Tryz.prog 36 #[.agg #[.string s.name, .slice a1 s.cols.length c1, .slice a2 s.key.length c2, .slice a3 s.idx.length c3, mv], .slice (V k).1 (V k).2.1 (V k).2.2] W fun e w' => e = .returned (.string (rowKey s (l.getD k []))) ∧ Below W.heap.size W w') := fun hs W hb k hk hrow mv => by
    rw [(hV k hk).1]
    exact implKeyOf_any A B B a1 c1 a2 c2 a3 c3 mv (V k).1 (V k).2.2 s (l.getD k []) m0 W (Nat.le_trans hB hb.size) (Nat.le_trans hB hb.size) (HLN.out k hk) hs hrow (h1.kept (hb.mono hB)) ((hV k hk).2.1.1.kept (hb.mono hB)) ((hb.cell (p := ⟨0, 0, none⟩) (block_lt_of_cell hm)).trans hm)
  have HCS : Hid (schRight s = true → ∀ W, Below w.heap.size w W → ∀ k, k < l.length → (∀ j, j ≤ k → rowOk s.cols (l.getD j []) = true) → ∀ mb n D, W.ownsMap Tryz.prog 9 rwR mb n D → MapOk D (klOf s l) V k → Calls Tryz.prog 37 #[.agg #[.string s.name, .slice a1 s.cols.length c1, .slice a2 s.key.length c2, .slice a3 s.idx.length c3, .map (some mb)], .slice (V k).1 (V k).2.1 (V k).2.2] W fun e w' => e = .returned (.bool (!upto (fun j => !clashB s (l.getD k []) (l.getD j [])) k)) ∧ Below W.heap.size W w') := fun hs W hb k hk hrows mb n D hown hD => by
    rw [(hV k hk).1]
    exact implClashes_any A B B a1 c1 a2 c2 a3 c3 s (V k).1 (V k).2.2 (l.getD k []) mb n D (klOf s l) V l k B W (Nat.le_trans hB hb.size) (Nat.le_trans hB hb.size) (Nat.le_trans hB hb.size) hs (hrows k (Nat.le_refl _)) (h1.kept (hb.mono hB)) ((hV k hk).2.1.1.kept (hb.mono hB)) hown hD (fun j hj => ⟨(hV j (by omega)).1, hrows j (by omega), (hV j (by omega)).2.1.1.kept (hb.mono hB)⟩)
  have HCELL : Hid (∀ k, k < l.length → ∀ W, Below w.heap.size w W → ∃ b0 o0, a4 = some ⟨b0, o0, none⟩ ∧ b0 < W.heap.size ∧ W.cell? ⟨b0, o0 + k, none⟩ = some (.slice (V k).1 (V k).2.1 (V k).2.2)) := fun k hk W hb => by
    obtain ⟨b0, o0, vs, vo, c, e, hbB, _, _, _, _⟩ := h2.at k hk
    exact ⟨b0, o0, e, by have := hb.size; omega, (hb.cell (p := ⟨b0, o0 + k, none⟩) (show b0 < w.heap.size from Nat.lt_of_lt_of_le hbB hB)).trans ((hV k hk).2.2 b0 o0 e)⟩
  have HBAD : Hid (∀ k, k < l.length → rowAt s l k = false → tblB s l = false) := fun k hk h => by unfold tblB; rw [upto_false hk h]; simp
  have HZQ : Hid (schRight s = false → tblB s l = false) := fun h => by unfold tblB; rw [h]; rfl
  have HZL : Hid (60 < l.length → tblB s l = false) := fun h => by unfold tblB; rw [decide_eq_false (show ¬ l.length ≤ 60 by omega)]; simp
  clear h1 h2 hV hm HLN
  generalize s.name = nm at *
  generalize s.cols.length = n1 at *
  generalize s.key.length = n2 at *
  generalize s.idx.length = n3 at *
  have h0 := two_allocs w (.cells #[.string nm, .slice a1 n1 c1, .slice a2 n2 c2, .slice a3 n3 c3, .slice a4 l.length c4] 38) (.cells #[.string ⟨#[]⟩, .slice none 0 0, .slice none 0 0, .slice none 0 0, .map none] 54)
  have X0 := hide h0.1
  have Y0 := hide h0.2.1
  have Z0 := hide h0.2.2
  have B0 := hide (((Below.refl w.heap.size w).alloc (Nat.le_refl _) (.cells #[.string nm, .slice a1 n1 c1, .slice a2 n2 c2, .slice a3 n3 c3, .slice a4 l.length c4] 38)).alloc (by simp) (.cells #[.string ⟨#[]⟩, .slice none 0 0, .slice none 0 0, .slice none 0 0, .map none] 54))
  clear h0
  go_enter Tryz.func18, Tryz.ntmps18
  go_upto_region 1 with fail
  generalize (w.alloc (.cells #[.string nm, .slice a1 n1 c1, .slice a2 n2 c2, .slice a3 n3 c3, .slice a4 l.length c4] 38)).alloc (.cells #[.string ⟨#[]⟩, .slice none 0 0, .slice none 0 0, .slice none 0 0, .map none] 54) = W0 at *
  obtain ⟨x0, x1, x2, x3, x4, xf⟩ := cellsN5k X0.out
  obtain ⟨y0, y1, y2, y3, y4, yf⟩ := cellsN5k Y0.out
  cases hsr : schRight s with
  | false =>
    have HQF := hide (HZQ.out hsr)
    go_wp2_with fail
    refine (HSS.out _ B0.out).mono ?_
    rw [hsr]
    rintro e w1 ⟨rfl, k1⟩
    have YS := hide ((k1.block _ (blkC Y0.out)).trans Y0.out)
    have XS := hide ((k1.block _ (blkC X0.out)).trans X0.out)
    have BS := hide (B0.out.trans (k1.mono B0.out.size))
    clear k1 x0 x1 x2 x3 x4 xf y0 y1 y2 y3 y4 yf
    obtain ⟨x0, x1, x2, x3, x4, xf⟩ := cellsN5k XS.out
    obtain ⟨y0, y1, y2, y3, y4, yf⟩ := cellsN5k YS.out
    have YF := hide (setL_heapL (m := 0) [.string ⟨#[]⟩, .slice none 0 0, .slice none 0 0, .slice none 0 0, .map none] (cur := [.string ⟨#[]⟩, .slice none 0 0, .slice none 0 0, .slice none 0 0, .map none]) YS.out)
    have BF := hide (setL_below (g := w.heap.size + 1) (m := 0) [.string ⟨#[]⟩, .slice none 0 0, .slice none 0 0, .slice none 0 0, .map none] BS.out (Nat.le_succ _))
    go_wp2
    exact bodyPost_ret (v := .tuple #[.agg #[.string ⟨#[]⟩, .slice none 0 0, .slice none 0 0, .slice none 0 0, .map none], .bool false]) (resOT Tryz.results18 _ _ (w.heap.size + 1) _ _ _ _ _ false rfl rfl YF.out) rfl ⟨_, by rw [HQF.out], ⟨_, _, _, _, _, _, _, _, _, _, _, rfl⟩, BF.out, fun h => by rw [HQF.out] at h; cases h⟩
  | true =>
    by_cases h60 : l.length ≤ 60
    · have HSR := hide hsr
      go_upto_region 3 with (go_at_call 34; refine (HSS.out _ B0.out).mono ?_; rw [hsr]; rintro e w1 ⟨rfl, k1⟩; have XS := hide ((k1.block _ (blkC X0.out)).trans X0.out); have YS := hide ((k1.block _ (blkC Y0.out)).trans Y0.out); have BS := hide (B0.out.trans (k1.mono B0.out.size)); clear k1 x0 x1 x2 x3 x4 xf y0 y1 y2 y3 y4 yf; obtain ⟨x0, x1, x2, x3, x4, xf⟩ := cellsN5k XS.out)
      have X1 := hide (show w1.drew.heap[w.heap.size]? = _ from XS.out)
      have Y1 := hide (show w1.drew.heap[w.heap.size + 1]? = _ from YS.out)
      have B1 := hide BS.out.drew
      have Z1 : Hid (w.heap.size + 2 ≤ w1.drew.heap.size) := blkC YS.out
      clear XS YS BS X0 Y0 B0 Z0 HSS x0 x1 x2 x3 x4 xf
      refine wp_region_noPanic ?_
      refine wp_region_held_drew (S := fun W => W.heap[w.heap.size]? = some (.cells #[.string nm, .slice a1 n1 c1, .slice a2 n2 c2, .slice a3 n3 c3, .slice a4 l.length c4] 38 (0, 0))) (by kernel_rfl) X1.out (fun hS1 => ?_)
      generalize w1.drew = W1 at *
      refine takeD 0 20 (v := ?v1) rfl rfl (by kernel_rfl) (by kernel_rfl) (by kernel_rfl) (fun _ _ _ h => h) (by kernel_rfl) ?hy1 (by assumption) ?r1
      case hy1 => (intro W hSw; go_simp; try with_reducible rfl)
      simp only [Act.put, List.setIfInBounds_toArray, List.set_cons_zero, List.set_cons_succ]
      refine takeD 1 21 (v := ?v2) rfl rfl (by kernel_rfl) (by kernel_rfl) (by kernel_rfl) (fun _ _ _ h => h) (by kernel_rfl) ?hy2 (by assumption) ?r2
      case hy2 => (intro W hSw; obtain ⟨x0, x1, x2, x3, x4, xf⟩ := cellsN5k hSw; go_simp; try with_reducible rfl)
      simp only [Act.put, List.setIfInBounds_toArray, List.set_cons_zero, List.set_cons_succ]
      refine takeD 2 22 (v := ?v3) rfl rfl (by kernel_rfl) (by kernel_rfl) (by kernel_rfl) (fun _ _ _ h => h) (by kernel_rfl) ?hy3 (by assumption) ?r3
      case hy3 => (intro W hSw; go_simp; try with_reducible rfl)
      simp only [Act.put, List.setIfInBounds_toArray, List.set_cons_zero, List.set_cons_succ]
      refine takeD 3 23 (v := ?v4) rfl rfl (by kernel_rfl) (by kernel_rfl) (by kernel_rfl) (fun _ _ _ h => h) (by kernel_rfl) ?hy4 (by assumption) ?r4
      case hy4 => (intro W hSw; obtain ⟨x0, x1, x2, x3, x4, xf⟩ := cellsN5k hSw; go_simp; try with_reducible rfl)
      simp only [Act.put, List.setIfInBounds_toArray, List.set_cons_zero, List.set_cons_succ]
      refine takeD 4 24 (v := ?v5) rfl rfl (by kernel_rfl) (by kernel_rfl) (by kernel_rfl) (fun _ _ _ h => h) (by kernel_rfl) ?hy5 (by assumption) ?r5
      case hy5 => (intro W hSw; go_simp; try with_reducible rfl)
      simp only [Act.put, List.setIfInBounds_toArray, List.set_cons_zero, List.set_cons_succ]
      refine wpAnyH_ready (rs := [5, 7]) (by kernel_rfl) (by simp) ?_
      refine AllReadyH.cons (o := _) rfl (fun K hK => ?_) (AllReadyH.cons (o := _) rfl (fun K hK => ?_) AllReadyH.nil)
      · skip
        go_simp
        have K2 := (Below.refl W1.heap.size W1).alloc (Nat.le_refl _) (.map #[] 0)
        have M2 := hide (World.ownsMap_made W1 Tryz.prog 9 rwR)
        have X2 := hide ((K2.block _ (blkC X1.out)).trans X1.out)
        have Y2 := hide ((K2.block _ (blkC Y1.out)).trans Y1.out)
        have B2 := hide (B1.out.trans (K2.mono B1.out.size))
        have Z2 : Hid (W1.heap.size < (W1.alloc (.map #[] 0)).heap.size) := by show _ < _; simp
        refine hK.out _ _ X2.out (fun hS2 => ?_)
        clear hK K
        generalize W1.alloc (.map #[] 0) = W2 at *
        generalize W1.heap.size = b at *
        try simp only [Act.put, List.setIfInBounds_toArray, List.set_cons_zero, List.set_cons_succ]
        refine takeD 6 26 (v := ?v6) rfl rfl (by kernel_rfl) (by kernel_rfl) (by kernel_rfl) (fun _ _ _ h => h) (by kernel_rfl) ?hy6 (by assumption) ?r6
        case hy6 => (intro W hSw; go_simp; try with_reducible rfl)
        simp only [Act.put, List.setIfInBounds_toArray, List.set_cons_zero, List.set_cons_succ]
        refine wpAnyH_ready (rs := [7]) (by kernel_rfl) (by simp) ?_
        refine AllReadyH.cons (o := _) rfl (fun K hK => ?_) AllReadyH.nil
        go_simp
        have K3 := (Below.refl W2.heap.size W2).alloc (Nat.le_refl _) (.cells #[.string ⟨#[]⟩, .slice none 0 0, .slice none 0 0, .slice none 0 0, .map none] 54)
        have V3 := hide (heap_alloc_new W2 (.cells #[.string ⟨#[]⟩, .slice none 0 0, .slice none 0 0, .slice none 0 0, .map none] 54))
        have X3 := hide ((K3.block _ (blkC X2.out)).trans X2.out)
        have Y3 := hide ((K3.block _ (blkC Y2.out)).trans Y2.out)
        have B3 := hide (B2.out.trans (K3.mono B2.out.size))
        have Z3 : Hid (W2.heap.size < (W2.alloc (.cells #[.string ⟨#[]⟩, .slice none 0 0, .slice none 0 0, .slice none 0 0, .map none] 54)).heap.size) := by show _ < _; simp
        have M3 := hide (M2.out.kept (grown_of_below' none K3) (by simp))
        have ZG : Hid (w.heap.size + 2 ≤ W2.heap.size ∧ w.heap.size + 2 ≤ b ∧ W2.heap.size ≠ b) := by have h1 := Z1.out; have h2 := Z2.out; exact ⟨by omega, h1, by omega⟩
        clear K2 K3 M2 X2 Y2 B2
        refine hK.out _ _ X3.out (fun hS3 => ?_)
        clear hK K
        generalize W2.alloc (.cells #[.string ⟨#[]⟩, .slice none 0 0, .slice none 0 0, .slice none 0 0, .map none] 54) = W3 at *
        generalize W2.heap.size = g at *
        try simp only [Act.put, List.setIfInBounds_toArray, List.set_cons_zero, List.set_cons_succ]
        clear Z2 Z3 hS2
        refine wpAnyH_ready (rs := [8]) (by kernel_rfl) (by simp) ?_
        refine AllReadyH.cons (o := _) rfl (fun K hK => ?_) AllReadyH.nil
        obtain ⟨g0, g1, g2, g3, g4, gf⟩ := cellsN5k V3.out
        go_simp
        have D3 := hide (show OI w #[.string nm, .slice a1 n1 c1, .slice a2 n2 c2, .slice a3 n3 c3, .slice a4 l.length c4] (.string nm) (.slice a1 n1 c1) (.slice a2 n2 c2) (.slice a3 n3 c3) g b 0 (.map []) (((((W3.setCell ⟨g, 0, none⟩ (.string nm)).setCell ⟨g, 1, none⟩ (.slice a1 n1 c1)).setCell ⟨g, 2, none⟩ (.slice a2 n2 c2)).setCell ⟨g, 3, none⟩ (.slice a3 n3 c3)).setCell ⟨g, 4, none⟩ (.map (some b))) from OI.mk' B3.out X3.out Y3.out V3.out M3.out ZG.out)
        refine hK.out _ _ D3.out.par (fun hS => ?_)
        clear hK K g0 g1 g2 g3 g4 gf hS X3 Y3 V3 M3 B3 X1 Y1 B1 Z1
        generalize ((((W3.setCell ⟨g, 0, none⟩ (.string nm)).setCell ⟨g, 1, none⟩ (.slice a1 n1 c1)).setCell ⟨g, 2, none⟩ (.slice a2 n2 c2)).setCell ⟨g, 3, none⟩ (.slice a3 n3 c3)).setCell ⟨g, 4, none⟩ (.map (some b)) = WZ at *
        refine wpAnyH_done (by kernel_rfl) ?_ _
        refine NoPanic.normal ?_
        obtain ⟨x0, x1, x2, x3, x4, xf⟩ := cellsN5k D3.out.par
        go_wp2
        clear x0 x1 x2 x3 x4 xf
        go_loopw [5, 30] (fun la i wr => ∃ (k : Nat) (D : DataW Value), k ≤ l.length ∧ i = .int .i64 k ∧ la = .string (lastS s l k) ∧ Hid (∀ m, m < k → rowAt s l m = true) ∧ Hid (∀ m, m < k → riseB s l m = true) ∧ Hid (MapOk D (klOf s l) V k) ∧ Hid (OI w #[.string nm, .slice a1 n1 c1, .slice a2 n2 c2, .slice a3 n3 c3, .slice a4 l.length c4] (.string nm) (.slice a1 n1 c1) (.slice a2 n2 c2) (.slice a3 n3 c3) g b k D wr)) (fun _ i _ => l.length - (intOf i).toNat)
        case atStart => exact ⟨0, _, Nat.zero_le _, rfl, rfl, hide (fun m hm => absurd hm (Nat.not_lt_zero _)), hide (fun m hm => absurd hm (Nat.not_lt_zero _)), MapOk.zero _ _, D3⟩
        case round =>
          obtain ⟨k, D, hk, rfl, rfl, HRW, HRI, HMO, G⟩ := hrel
          clear D3
          by_cases hlt : k < l.length
          · obtain ⟨b0, o0, ha4, hb0, d0⟩ := HCELL.out k hlt wr G.out.below
            subst ha4
            have HFI2 := hide (fun (W : World) (hW : Below wr.heap.size wr W) => HFI.out HSR.out W (G.out.below.trans (hW.mono G.out.below.size)) k hlt)
            have HKO2 := hide (fun (hrow : rowOk s.cols (l.getD k []) = true) (W : World) (hW : Below wr.heap.size wr W) (mv : Value) => HKO.out HSR.out W (G.out.below.trans (hW.mono G.out.below.size)) k hlt hrow mv)
            have HCS2 := hide (fun (hrows : ∀ j, j ≤ k → rowOk s.cols (l.getD j []) = true) (W : World) (hW : Below wr.heap.size wr W) (hown : W.ownsMap Tryz.prog 9 rwR b k D) => HCS.out HSR.out W (G.out.below.trans (hW.mono G.out.below.size)) k hlt hrows b k D hown HMO.out)
            have HB2 := hide (HBAD.out k hlt)
            have HRK : Hid (∀ m, m < k → rowOk s.cols (l.getD m []) = true) := fun m hm => by have h := HRW.out m hm; unfold rowAt at h; rw [Bool.and_eq_true] at h; exact h.1
            have HRS : Hid (rowOk s.cols (l.getD k []) = true → riseB s l k = (decide (k = 0) || decide (cmpL (keyL' s (l.getD (k - 1) [])) (keyL' s (l.getD k [])) < 0))) := fun h => rise_eq HSR.out h (fun h0 => HRK.out (k - 1) (by omega)) HOK.out
            have HKL : Hid (klOf s l k = .string (rowKey s (l.getD k [])).data.toList) := rfl
            have HLS : Hid (lastS s l (k + 1) = rowKey s (l.getD k [])) := rfl
            have hbl : riseB s l k = Go.Op.bytesLess (lastS s l k).toList (rowKey s (l.getD k [])).toList := rfl
            have HVV := hide (show mkR (V k) = .agg #[.slice (V k).1 (V k).2.1 (V k).2.2] from rfl)
            obtain ⟨p1, hp1⟩ : ∃ p, (V k).1 = p := ⟨_, rfl⟩
            obtain ⟨p2, hp2⟩ : ∃ p, (V k).2.1 = p := ⟨_, rfl⟩
            obtain ⟨p3, hp3⟩ : ∃ p, (V k).2.2 = p := ⟨_, rfl⟩
            simp only [hp1, hp2, hp3] at d0 HFI2 HKO2 HCS2 HVV
            clear hp1 hp2 hp3
            obtain ⟨x0, x1, x2, x3, x4, xf⟩ := cellsN5k G.out.par
            go_wp2_with fail
            refine (HFI2.out _ (Below.refl _ _)).mono ?_
            rintro e w5 ⟨rfl, k5⟩
            have G5 := hide (G.out.keep k5)
            have R5 := hide k5
            clear k5 x0 x1 x2 x3 x4 xf d0 HFI2 HFI
            cases hrow : rowOk s.cols (l.getD k []) with
            | false =>
              have HQF := hide (HB2.out (by unfold rowAt; rw [hrow]; rfl))
              obtain ⟨y0, y1, y2, y3, y4, yf⟩ := cellsN5k G5.out.res
              have YF := hide (setL_heapL (m := 0) [.string ⟨#[]⟩, .slice none 0 0, .slice none 0 0, .slice none 0 0, .map none] (cur := [.string ⟨#[]⟩, .slice none 0 0, .slice none 0 0, .slice none 0 0, .map none]) G5.out.res)
              have BF := hide (setL_below (g := w.heap.size + 1) (m := 0) [.string ⟨#[]⟩, .slice none 0 0, .slice none 0 0, .slice none 0 0, .map none] G5.out.below (Nat.le_succ _))
              go_wp2
              exact bodyPost_ret (v := .tuple #[.agg #[.string ⟨#[]⟩, .slice none 0 0, .slice none 0 0, .slice none 0 0, .map none], .bool false]) (resOT Tryz.results18 _ _ (w.heap.size + 1) _ _ _ _ _ false rfl rfl YF.out) rfl ⟨_, by rw [HQF.out], ⟨_, _, _, _, _, _, _, _, _, _, _, rfl⟩, BF.out, fun h => by rw [HQF.out] at h; cases h⟩
            | true =>
              have HROWS : Hid (∀ j, j ≤ k → rowOk s.cols (l.getD j []) = true) := fun j hj => by
                by_cases e : j = k
                · rw [e]; exact hrow
                · exact HRK.out j (by omega)
              have HRS2 := hide (HRS.out hrow)
              have HKO3 := hide (HKO2.out hrow w5 R5.out (.map (some b)))
              have HRA : Hid (rowAt s l k = (riseB s l k && upto (fun j => !clashB s (l.getD k []) (l.getD j [])) k)) := by show _ = _; unfold rowAt; rw [hrow, HRS2.out]; rfl
              clear HRS HRS2 HKO2 hrow
              obtain ⟨g0, g1, g2, g3, g4, gf⟩ := cellsN5k G5.out.var
              go_wp2_with fail
              refine HKO3.out.mono ?_
              rintro e w6 ⟨rfl, k6⟩
              have G6 := hide (G5.out.keep k6)
              have R6 := hide (R5.out.trans (k6.mono R5.out.size))
              have HCS3 := hide (HCS2.out HROWS.out w6 R6.out G6.out.map)
              clear k6 g0 g1 g2 g3 g4 gf HKO3 HCS2 G5 R5
              obtain ⟨g0, g1, g2, g3, g4, gf⟩ := cellsN5k G6.out.var
              have HRI2 : Hid (riseB s l k = true → ∀ m, m < k + 1 → riseB s l m = true) := fun h m hm => by
                by_cases e : m = k
                · rw [e]; exact h
                · exact HRI.out m (by omega)
              have HNE : Hid (riseB s l k = true → ∀ j, j < k → klOf s l j ≠ klOf s l k) := fun h j hj => klOf_ne hj (fun m hm => HRI2.out h m (by omega))
              have HKS : Hid ((rowKey s (l.getD k [])).size ≤ maxLen) := by
                have h1 := keyL_len _ (key_right HSR.out (HROWS.out k (Nat.le_refl _)))
                have h2 : (keyL' s (l.getD k [])).length = s.key.length := pickL_len _ _ _ (Nat.le_refl _)
                have h3 := isCols_len (right_key HSR.out)
                have h4 := schRight_len HSR.out
                show _ ≤ _
                rw [ba_size, rowKey_list]
                unfold maxLen
                omega
              generalize rowKey s (l.getD k []) = ky at *
              generalize lastS s l k = la at *
              generalize hcl : upto (fun j => !clashB s (l.getD k []) (l.getD j [])) k = cl at *
              cases hri : riseB s l k with
              | false =>
                have HQF := hide (HB2.out (by rw [HRA.out, hri]; rfl))
                rw [hri] at hbl
                have hbl' := hbl.symm
                clear hbl HCS3
                cases hb1 : Go.Op.bytesLess ky.toList la.toList with
                | true =>
                  obtain ⟨y0, y1, y2, y3, y4, yf⟩ := cellsN5k G6.out.res
                  have YF := hide (setL_heapL (m := 0) [.string ⟨#[]⟩, .slice none 0 0, .slice none 0 0, .slice none 0 0, .map none] (cur := [.string ⟨#[]⟩, .slice none 0 0, .slice none 0 0, .slice none 0 0, .map none]) G6.out.res)
                  have BF := hide (setL_below (g := w.heap.size + 1) (m := 0) [.string ⟨#[]⟩, .slice none 0 0, .slice none 0 0, .slice none 0 0, .map none] G6.out.below (Nat.le_succ _))
                  go_wp2
                  exact bodyPost_ret (v := .tuple #[.agg #[.string ⟨#[]⟩, .slice none 0 0, .slice none 0 0, .slice none 0 0, .map none], .bool false]) (resOT Tryz.results18 _ _ (w.heap.size + 1) _ _ _ _ _ false rfl rfl YF.out) rfl ⟨_, by rw [HQF.out], ⟨_, _, _, _, _, _, _, _, _, _, _, rfl⟩, BF.out, fun h => by rw [HQF.out] at h; cases h⟩
                | false =>
                  have hb2 : (ky.toList == la.toList) = true := by rw [beq_iff_eq]; exact bl_tri _ _ hb1 hbl'
                  obtain ⟨y0, y1, y2, y3, y4, yf⟩ := cellsN5k G6.out.res
                  have YF := hide (setL_heapL (m := 0) [.string ⟨#[]⟩, .slice none 0 0, .slice none 0 0, .slice none 0 0, .map none] (cur := [.string ⟨#[]⟩, .slice none 0 0, .slice none 0 0, .slice none 0 0, .map none]) G6.out.res)
                  have BF := hide (setL_below (g := w.heap.size + 1) (m := 0) [.string ⟨#[]⟩, .slice none 0 0, .slice none 0 0, .slice none 0 0, .map none] G6.out.below (Nat.le_succ _))
                  go_wp2
                  exact bodyPost_ret (v := .tuple #[.agg #[.string ⟨#[]⟩, .slice none 0 0, .slice none 0 0, .slice none 0 0, .map none], .bool false]) (resOT Tryz.results18 _ _ (w.heap.size + 1) _ _ _ _ _ false rfl rfl YF.out) rfl ⟨_, by rw [HQF.out], ⟨_, _, _, _, _, _, _, _, _, _, _, rfl⟩, BF.out, fun h => by rw [HQF.out] at h; cases h⟩
              | true =>
                rw [hri] at hbl
                have hbl' := hbl.symm
                have hb1 : Go.Op.bytesLess ky.toList la.toList = false := by
                  rw [Bool.eq_false_iff]
                  intro e
                  have := bl_trans _ _ _ hbl' e
                  rw [bl_irr] at this
                  cases this
                have hb2 : (ky.toList == la.toList) = false := by
                  rw [beq_eq_false_iff_ne]
                  intro e
                  rw [e, bl_irr] at hbl'
                  cases hbl'
                clear hbl
                cases cl with
                | false =>
                  have HQF := hide (HB2.out (by rw [HRA.out, hri]; rfl))
                  go_wp2_with fail
                  refine HCS3.out.mono ?_
                  rintro e w7 ⟨rfl, k7⟩
                  have G7 := hide (G6.out.keep k7)
                  clear k7 g0 g1 g2 g3 g4 gf
                  obtain ⟨y0, y1, y2, y3, y4, yf⟩ := cellsN5k G7.out.res
                  have YF := hide (setL_heapL (m := 0) [.string ⟨#[]⟩, .slice none 0 0, .slice none 0 0, .slice none 0 0, .map none] (cur := [.string ⟨#[]⟩, .slice none 0 0, .slice none 0 0, .slice none 0 0, .map none]) G7.out.res)
                  have BF := hide (setL_below (g := w.heap.size + 1) (m := 0) [.string ⟨#[]⟩, .slice none 0 0, .slice none 0 0, .slice none 0 0, .map none] G7.out.below (Nat.le_succ _))
                  go_wp2
                  exact bodyPost_ret (v := .tuple #[.agg #[.string ⟨#[]⟩, .slice none 0 0, .slice none 0 0, .slice none 0 0, .map none], .bool false]) (resOT Tryz.results18 _ _ (w.heap.size + 1) _ _ _ _ _ false rfl rfl YF.out) rfl ⟨_, by rw [HQF.out], ⟨_, _, _, _, _, _, _, _, _, _, _, rfl⟩, BF.out, fun h => by rw [HQF.out] at h; cases h⟩
                | true =>
                  have HRW2 : Hid (∀ m, m < k + 1 → rowAt s l m = true) := fun m hm => by
                    by_cases e : m = k
                    · rw [e, HRA.out, hri]; rfl
                    · exact HRW.out m (by omega)
                  have HRI3 := hide (HRI2.out hri)
                  have HNE2 := hide (HNE.out hri)
                  have HKY : Hid (Go.keyOf Tryz.prog 9 (.string ky) = some (klOf s l k)) := by show _ = _; rw [HKL.out]; exact Go.WideMaps.keyOf_string_mk Tryz.underlying9 HKS.out
                  have HRV : Hid (rwR (.agg #[.slice p1 p2 p3]) = some (.held (mkR (V k)), [])) := by show _ = _; rw [← HVV.out]; exact rwR_mk _
                  clear HB2 HRI2 HNE HRA HRK HROWS hri hcl HKL HKS HVV
                  go_wp2_with fail
                  refine HCS3.out.mono ?_
                  rintro e w7 ⟨rfl, k7⟩
                  have G7 := hide (G6.out.keep k7)
                  clear k7 g0 g1 g2 g3 g4 gf HCS3 G6 R6 hbl'
                  obtain ⟨g0, g1, g2, g3, g4, gf⟩ := cellsN5k G7.out.var
                  go_wp2_with (first | (at_mapUpdate; refine wpList_mapUpdate_own _ rfl _ _ _ 52 rfl 9 82 lawStr Tryz.underlying52 rwR b k D rfl G7.out.map (by unfold maxLen; omega) _ _ (klOf s l k) rfl rfl HKY.out (.held (mkR (V k))) [] HRV.out ?_; intro w8 m8 g8) | go_in)
                  have G8 := hide (G7.out.upd m8 g8)
                  have HMO2 := hide (HMO.out.step (G7.out.map.isMap) (keyLit' s l k) HNE2.out)
                  clear m8 g8 G7 g0 g1 g2 g3 g4 gf HMO G HRW HRI HNE2 HKY HRV HKO HCS HCELL HBAD
                  go_wp2
                  go_roundw
                  case rel => exact ⟨k + 1, _, by omega, by go_num, by rw [HLS.out], HRW2, HRI3, HMO2, G8⟩
                  case measure => simp [intOf]; omega
          · obtain rfl : k = l.length := by omega
            have HQT : Hid (tblB s l = true) := by show _ = _; unfold tblB; rw [HSR.out, decide_eq_true h60, (upto_iff _ _).2 HRW.out]; rfl
            obtain ⟨g0, g1, g2, g3, g4, gf⟩ := cellsN5k G.out.var
            obtain ⟨y0, y1, y2, y3, y4, yf⟩ := cellsN5k G.out.res
            have YF := hide (setL_heapL (m := 0) [.string nm, .slice a1 n1 c1, .slice a2 n2 c2, .slice a3 n3 c3, .map (some b)] (cur := [.string ⟨#[]⟩, .slice none 0 0, .slice none 0 0, .slice none 0 0, .map none]) G.out.res)
            have BF := hide (setL_below (g := w.heap.size + 1) (m := 0) [.string nm, .slice a1 n1 c1, .slice a2 n2 c2, .slice a3 n3 c3, .map (some b)] G.out.below (Nat.le_succ _))
            have MF := hide (OI.own_set [.string nm, .slice a1 n1 c1, .slice a2 n2 c2, .slice a3 n3 c3, .map (some b)] G.out)
            have HGB : Hid (w.heap.size ≤ b) := by have := G.out.gap; show _ ≤ _; omega
            clear G HRW HRI
            go_wp2
            exact bodyPost_ret (v := .tuple #[.agg #[.string nm, .slice a1 n1 c1, .slice a2 n2 c2, .slice a3 n3 c3, .map (some b)], .bool true]) (resOT Tryz.results18 _ _ (w.heap.size + 1) _ _ _ _ _ true rfl rfl YF.out) rfl ⟨_, by rw [HQT.out], ⟨_, _, _, _, _, _, _, _, _, _, _, rfl⟩, BF.out, fun _ => ⟨b, D, V, rfl, HGB.out, MF.out, HMO.out, HV.out⟩⟩
      · skip
        go_simp
        have K2 := (Below.refl W1.heap.size W1).alloc (Nat.le_refl _) (.cells #[.string ⟨#[]⟩, .slice none 0 0, .slice none 0 0, .slice none 0 0, .map none] 54)
        have V2 := hide (heap_alloc_new W1 (.cells #[.string ⟨#[]⟩, .slice none 0 0, .slice none 0 0, .slice none 0 0, .map none] 54))
        have X2 := hide ((K2.block _ (blkC X1.out)).trans X1.out)
        have Y2 := hide ((K2.block _ (blkC Y1.out)).trans Y1.out)
        have B2 := hide (B1.out.trans (K2.mono B1.out.size))
        have Z2 : Hid (W1.heap.size < (W1.alloc (.cells #[.string ⟨#[]⟩, .slice none 0 0, .slice none 0 0, .slice none 0 0, .map none] 54)).heap.size) := by show _ < _; simp
        refine hK.out _ _ X2.out (fun hS2 => ?_)
        clear hK K
        generalize W1.alloc (.cells #[.string ⟨#[]⟩, .slice none 0 0, .slice none 0 0, .slice none 0 0, .map none] 54) = W2 at *
        generalize W1.heap.size = g at *
        try simp only [Act.put, List.setIfInBounds_toArray, List.set_cons_zero, List.set_cons_succ]
        refine wpAnyH_ready (rs := [5]) (by kernel_rfl) (by simp) ?_
        refine AllReadyH.cons (o := _) rfl (fun K hK => ?_) AllReadyH.nil
        go_simp
        have K3 := (Below.refl W2.heap.size W2).alloc (Nat.le_refl _) (.map #[] 0)
        have M3 := hide (World.ownsMap_made W2 Tryz.prog 9 rwR)
        have X3 := hide ((K3.block _ (blkC X2.out)).trans X2.out)
        have Y3 := hide ((K3.block _ (blkC Y2.out)).trans Y2.out)
        have B3 := hide (B2.out.trans (K3.mono B2.out.size))
        have Z3 : Hid (W2.heap.size < (W2.alloc (.map #[] 0)).heap.size) := by show _ < _; simp
        have V3 := hide ((K3.block _ (blkC V2.out)).trans V2.out)
        have ZG : Hid (w.heap.size + 2 ≤ g ∧ w.heap.size + 2 ≤ W2.heap.size ∧ g ≠ W2.heap.size) := by have h1 := Z1.out; have h2 := Z2.out; exact ⟨h1, by omega, by omega⟩
        clear K2 K3 V2 X2 Y2 B2
        refine hK.out _ _ X3.out (fun hS3 => ?_)
        clear hK K
        generalize W2.alloc (.map #[] 0) = W3 at *
        generalize W2.heap.size = b at *
        try simp only [Act.put, List.setIfInBounds_toArray, List.set_cons_zero, List.set_cons_succ]
        clear Z2 Z3 hS2
        refine takeD 6 26 (v := ?v7) rfl rfl (by kernel_rfl) (by kernel_rfl) (by kernel_rfl) (fun _ _ _ h => h) (by kernel_rfl) ?hy7 (by assumption) ?r7
        case hy7 => (intro W hSw; go_simp; try with_reducible rfl)
        simp only [Act.put, List.setIfInBounds_toArray, List.set_cons_zero, List.set_cons_succ]
        refine wpAnyH_ready (rs := [8]) (by kernel_rfl) (by simp) ?_
        refine AllReadyH.cons (o := _) rfl (fun K hK => ?_) AllReadyH.nil
        obtain ⟨g0, g1, g2, g3, g4, gf⟩ := cellsN5k V3.out
        go_simp
        have D3 := hide (show OI w #[.string nm, .slice a1 n1 c1, .slice a2 n2 c2, .slice a3 n3 c3, .slice a4 l.length c4] (.string nm) (.slice a1 n1 c1) (.slice a2 n2 c2) (.slice a3 n3 c3) g b 0 (.map []) (((((W3.setCell ⟨g, 0, none⟩ (.string nm)).setCell ⟨g, 1, none⟩ (.slice a1 n1 c1)).setCell ⟨g, 2, none⟩ (.slice a2 n2 c2)).setCell ⟨g, 3, none⟩ (.slice a3 n3 c3)).setCell ⟨g, 4, none⟩ (.map (some b))) from OI.mk' B3.out X3.out Y3.out V3.out M3.out ZG.out)
        refine hK.out _ _ D3.out.par (fun hS => ?_)
        clear hK K g0 g1 g2 g3 g4 gf hS X3 Y3 V3 M3 B3 X1 Y1 B1 Z1
        generalize ((((W3.setCell ⟨g, 0, none⟩ (.string nm)).setCell ⟨g, 1, none⟩ (.slice a1 n1 c1)).setCell ⟨g, 2, none⟩ (.slice a2 n2 c2)).setCell ⟨g, 3, none⟩ (.slice a3 n3 c3)).setCell ⟨g, 4, none⟩ (.map (some b)) = WZ at *
        refine wpAnyH_done (by kernel_rfl) ?_ _
        refine NoPanic.normal ?_
        obtain ⟨x0, x1, x2, x3, x4, xf⟩ := cellsN5k D3.out.par
        go_wp2
        clear x0 x1 x2 x3 x4 xf
        go_loopw [5, 30] (fun la i wr => ∃ (k : Nat) (D : DataW Value), k ≤ l.length ∧ i = .int .i64 k ∧ la = .string (lastS s l k) ∧ Hid (∀ m, m < k → rowAt s l m = true) ∧ Hid (∀ m, m < k → riseB s l m = true) ∧ Hid (MapOk D (klOf s l) V k) ∧ Hid (OI w #[.string nm, .slice a1 n1 c1, .slice a2 n2 c2, .slice a3 n3 c3, .slice a4 l.length c4] (.string nm) (.slice a1 n1 c1) (.slice a2 n2 c2) (.slice a3 n3 c3) g b k D wr)) (fun _ i _ => l.length - (intOf i).toNat)
        case atStart => exact ⟨0, _, Nat.zero_le _, rfl, rfl, hide (fun m hm => absurd hm (Nat.not_lt_zero _)), hide (fun m hm => absurd hm (Nat.not_lt_zero _)), MapOk.zero _ _, D3⟩
        case round =>
          obtain ⟨k, D, hk, rfl, rfl, HRW, HRI, HMO, G⟩ := hrel
          clear D3
          by_cases hlt : k < l.length
          · obtain ⟨b0, o0, ha4, hb0, d0⟩ := HCELL.out k hlt wr G.out.below
            subst ha4
            have HFI2 := hide (fun (W : World) (hW : Below wr.heap.size wr W) => HFI.out HSR.out W (G.out.below.trans (hW.mono G.out.below.size)) k hlt)
            have HKO2 := hide (fun (hrow : rowOk s.cols (l.getD k []) = true) (W : World) (hW : Below wr.heap.size wr W) (mv : Value) => HKO.out HSR.out W (G.out.below.trans (hW.mono G.out.below.size)) k hlt hrow mv)
            have HCS2 := hide (fun (hrows : ∀ j, j ≤ k → rowOk s.cols (l.getD j []) = true) (W : World) (hW : Below wr.heap.size wr W) (hown : W.ownsMap Tryz.prog 9 rwR b k D) => HCS.out HSR.out W (G.out.below.trans (hW.mono G.out.below.size)) k hlt hrows b k D hown HMO.out)
            have HB2 := hide (HBAD.out k hlt)
            have HRK : Hid (∀ m, m < k → rowOk s.cols (l.getD m []) = true) := fun m hm => by have h := HRW.out m hm; unfold rowAt at h; rw [Bool.and_eq_true] at h; exact h.1
            have HRS : Hid (rowOk s.cols (l.getD k []) = true → riseB s l k = (decide (k = 0) || decide (cmpL (keyL' s (l.getD (k - 1) [])) (keyL' s (l.getD k [])) < 0))) := fun h => rise_eq HSR.out h (fun h0 => HRK.out (k - 1) (by omega)) HOK.out
            have HKL : Hid (klOf s l k = .string (rowKey s (l.getD k [])).data.toList) := rfl
            have HLS : Hid (lastS s l (k + 1) = rowKey s (l.getD k [])) := rfl
            have hbl : riseB s l k = Go.Op.bytesLess (lastS s l k).toList (rowKey s (l.getD k [])).toList := rfl
            have HVV := hide (show mkR (V k) = .agg #[.slice (V k).1 (V k).2.1 (V k).2.2] from rfl)
            obtain ⟨p1, hp1⟩ : ∃ p, (V k).1 = p := ⟨_, rfl⟩
            obtain ⟨p2, hp2⟩ : ∃ p, (V k).2.1 = p := ⟨_, rfl⟩
            obtain ⟨p3, hp3⟩ : ∃ p, (V k).2.2 = p := ⟨_, rfl⟩
            simp only [hp1, hp2, hp3] at d0 HFI2 HKO2 HCS2 HVV
            clear hp1 hp2 hp3
            obtain ⟨x0, x1, x2, x3, x4, xf⟩ := cellsN5k G.out.par
            go_wp2_with fail
            refine (HFI2.out _ (Below.refl _ _)).mono ?_
            rintro e w5 ⟨rfl, k5⟩
            have G5 := hide (G.out.keep k5)
            have R5 := hide k5
            clear k5 x0 x1 x2 x3 x4 xf d0 HFI2 HFI
            cases hrow : rowOk s.cols (l.getD k []) with
            | false =>
              have HQF := hide (HB2.out (by unfold rowAt; rw [hrow]; rfl))
              obtain ⟨y0, y1, y2, y3, y4, yf⟩ := cellsN5k G5.out.res
              have YF := hide (setL_heapL (m := 0) [.string ⟨#[]⟩, .slice none 0 0, .slice none 0 0, .slice none 0 0, .map none] (cur := [.string ⟨#[]⟩, .slice none 0 0, .slice none 0 0, .slice none 0 0, .map none]) G5.out.res)
              have BF := hide (setL_below (g := w.heap.size + 1) (m := 0) [.string ⟨#[]⟩, .slice none 0 0, .slice none 0 0, .slice none 0 0, .map none] G5.out.below (Nat.le_succ _))
              go_wp2
              exact bodyPost_ret (v := .tuple #[.agg #[.string ⟨#[]⟩, .slice none 0 0, .slice none 0 0, .slice none 0 0, .map none], .bool false]) (resOT Tryz.results18 _ _ (w.heap.size + 1) _ _ _ _ _ false rfl rfl YF.out) rfl ⟨_, by rw [HQF.out], ⟨_, _, _, _, _, _, _, _, _, _, _, rfl⟩, BF.out, fun h => by rw [HQF.out] at h; cases h⟩
            | true =>
              have HROWS : Hid (∀ j, j ≤ k → rowOk s.cols (l.getD j []) = true) := fun j hj => by
                by_cases e : j = k
                · rw [e]; exact hrow
                · exact HRK.out j (by omega)
              have HRS2 := hide (HRS.out hrow)
              have HKO3 := hide (HKO2.out hrow w5 R5.out (.map (some b)))
              have HRA : Hid (rowAt s l k = (riseB s l k && upto (fun j => !clashB s (l.getD k []) (l.getD j [])) k)) := by show _ = _; unfold rowAt; rw [hrow, HRS2.out]; rfl
              clear HRS HRS2 HKO2 hrow
              obtain ⟨g0, g1, g2, g3, g4, gf⟩ := cellsN5k G5.out.var
              go_wp2_with fail
              refine HKO3.out.mono ?_
              rintro e w6 ⟨rfl, k6⟩
              have G6 := hide (G5.out.keep k6)
              have R6 := hide (R5.out.trans (k6.mono R5.out.size))
              have HCS3 := hide (HCS2.out HROWS.out w6 R6.out G6.out.map)
              clear k6 g0 g1 g2 g3 g4 gf HKO3 HCS2 G5 R5
              obtain ⟨g0, g1, g2, g3, g4, gf⟩ := cellsN5k G6.out.var
              have HRI2 : Hid (riseB s l k = true → ∀ m, m < k + 1 → riseB s l m = true) := fun h m hm => by
                by_cases e : m = k
                · rw [e]; exact h
                · exact HRI.out m (by omega)
              have HNE : Hid (riseB s l k = true → ∀ j, j < k → klOf s l j ≠ klOf s l k) := fun h j hj => klOf_ne hj (fun m hm => HRI2.out h m (by omega))
              have HKS : Hid ((rowKey s (l.getD k [])).size ≤ maxLen) := by
                have h1 := keyL_len _ (key_right HSR.out (HROWS.out k (Nat.le_refl _)))
                have h2 : (keyL' s (l.getD k [])).length = s.key.length := pickL_len _ _ _ (Nat.le_refl _)
                have h3 := isCols_len (right_key HSR.out)
                have h4 := schRight_len HSR.out
                show _ ≤ _
                rw [ba_size, rowKey_list]
                unfold maxLen
                omega
              generalize rowKey s (l.getD k []) = ky at *
              generalize lastS s l k = la at *
              generalize hcl : upto (fun j => !clashB s (l.getD k []) (l.getD j [])) k = cl at *
              cases hri : riseB s l k with
              | false =>
                have HQF := hide (HB2.out (by rw [HRA.out, hri]; rfl))
                rw [hri] at hbl
                have hbl' := hbl.symm
                clear hbl HCS3
                cases hb1 : Go.Op.bytesLess ky.toList la.toList with
                | true =>
                  obtain ⟨y0, y1, y2, y3, y4, yf⟩ := cellsN5k G6.out.res
                  have YF := hide (setL_heapL (m := 0) [.string ⟨#[]⟩, .slice none 0 0, .slice none 0 0, .slice none 0 0, .map none] (cur := [.string ⟨#[]⟩, .slice none 0 0, .slice none 0 0, .slice none 0 0, .map none]) G6.out.res)
                  have BF := hide (setL_below (g := w.heap.size + 1) (m := 0) [.string ⟨#[]⟩, .slice none 0 0, .slice none 0 0, .slice none 0 0, .map none] G6.out.below (Nat.le_succ _))
                  go_wp2
                  exact bodyPost_ret (v := .tuple #[.agg #[.string ⟨#[]⟩, .slice none 0 0, .slice none 0 0, .slice none 0 0, .map none], .bool false]) (resOT Tryz.results18 _ _ (w.heap.size + 1) _ _ _ _ _ false rfl rfl YF.out) rfl ⟨_, by rw [HQF.out], ⟨_, _, _, _, _, _, _, _, _, _, _, rfl⟩, BF.out, fun h => by rw [HQF.out] at h; cases h⟩
                | false =>
                  have hb2 : (ky.toList == la.toList) = true := by rw [beq_iff_eq]; exact bl_tri _ _ hb1 hbl'
                  obtain ⟨y0, y1, y2, y3, y4, yf⟩ := cellsN5k G6.out.res
                  have YF := hide (setL_heapL (m := 0) [.string ⟨#[]⟩, .slice none 0 0, .slice none 0 0, .slice none 0 0, .map none] (cur := [.string ⟨#[]⟩, .slice none 0 0, .slice none 0 0, .slice none 0 0, .map none]) G6.out.res)
                  have BF := hide (setL_below (g := w.heap.size + 1) (m := 0) [.string ⟨#[]⟩, .slice none 0 0, .slice none 0 0, .slice none 0 0, .map none] G6.out.below (Nat.le_succ _))
                  go_wp2
                  exact bodyPost_ret (v := .tuple #[.agg #[.string ⟨#[]⟩, .slice none 0 0, .slice none 0 0, .slice none 0 0, .map none], .bool false]) (resOT Tryz.results18 _ _ (w.heap.size + 1) _ _ _ _ _ false rfl rfl YF.out) rfl ⟨_, by rw [HQF.out], ⟨_, _, _, _, _, _, _, _, _, _, _, rfl⟩, BF.out, fun h => by rw [HQF.out] at h; cases h⟩
              | true =>
                rw [hri] at hbl
                have hbl' := hbl.symm
                have hb1 : Go.Op.bytesLess ky.toList la.toList = false := by
                  rw [Bool.eq_false_iff]
                  intro e
                  have := bl_trans _ _ _ hbl' e
                  rw [bl_irr] at this
                  cases this
                have hb2 : (ky.toList == la.toList) = false := by
                  rw [beq_eq_false_iff_ne]
                  intro e
                  rw [e, bl_irr] at hbl'
                  cases hbl'
                clear hbl
                cases cl with
                | false =>
                  have HQF := hide (HB2.out (by rw [HRA.out, hri]; rfl))
                  go_wp2_with fail
                  refine HCS3.out.mono ?_
                  rintro e w7 ⟨rfl, k7⟩
                  have G7 := hide (G6.out.keep k7)
                  clear k7 g0 g1 g2 g3 g4 gf
                  obtain ⟨y0, y1, y2, y3, y4, yf⟩ := cellsN5k G7.out.res
                  have YF := hide (setL_heapL (m := 0) [.string ⟨#[]⟩, .slice none 0 0, .slice none 0 0, .slice none 0 0, .map none] (cur := [.string ⟨#[]⟩, .slice none 0 0, .slice none 0 0, .slice none 0 0, .map none]) G7.out.res)
                  have BF := hide (setL_below (g := w.heap.size + 1) (m := 0) [.string ⟨#[]⟩, .slice none 0 0, .slice none 0 0, .slice none 0 0, .map none] G7.out.below (Nat.le_succ _))
                  go_wp2
                  exact bodyPost_ret (v := .tuple #[.agg #[.string ⟨#[]⟩, .slice none 0 0, .slice none 0 0, .slice none 0 0, .map none], .bool false]) (resOT Tryz.results18 _ _ (w.heap.size + 1) _ _ _ _ _ false rfl rfl YF.out) rfl ⟨_, by rw [HQF.out], ⟨_, _, _, _, _, _, _, _, _, _, _, rfl⟩, BF.out, fun h => by rw [HQF.out] at h; cases h⟩
                | true =>
                  have HRW2 : Hid (∀ m, m < k + 1 → rowAt s l m = true) := fun m hm => by
                    by_cases e : m = k
                    · rw [e, HRA.out, hri]; rfl
                    · exact HRW.out m (by omega)
                  have HRI3 := hide (HRI2.out hri)
                  have HNE2 := hide (HNE.out hri)
                  have HKY : Hid (Go.keyOf Tryz.prog 9 (.string ky) = some (klOf s l k)) := by show _ = _; rw [HKL.out]; exact Go.WideMaps.keyOf_string_mk Tryz.underlying9 HKS.out
                  have HRV : Hid (rwR (.agg #[.slice p1 p2 p3]) = some (.held (mkR (V k)), [])) := by show _ = _; rw [← HVV.out]; exact rwR_mk _
                  clear HB2 HRI2 HNE HRA HRK HROWS hri hcl HKL HKS HVV
                  go_wp2_with fail
                  refine HCS3.out.mono ?_
                  rintro e w7 ⟨rfl, k7⟩
                  have G7 := hide (G6.out.keep k7)
                  clear k7 g0 g1 g2 g3 g4 gf HCS3 G6 R6 hbl'
                  obtain ⟨g0, g1, g2, g3, g4, gf⟩ := cellsN5k G7.out.var
                  go_wp2_with (first | (at_mapUpdate; refine wpList_mapUpdate_own _ rfl _ _ _ 52 rfl 9 82 lawStr Tryz.underlying52 rwR b k D rfl G7.out.map (by unfold maxLen; omega) _ _ (klOf s l k) rfl rfl HKY.out (.held (mkR (V k))) [] HRV.out ?_; intro w8 m8 g8) | go_in)
                  have G8 := hide (G7.out.upd m8 g8)
                  have HMO2 := hide (HMO.out.step (G7.out.map.isMap) (keyLit' s l k) HNE2.out)
                  clear m8 g8 G7 g0 g1 g2 g3 g4 gf HMO G HRW HRI HNE2 HKY HRV HKO HCS HCELL HBAD
                  go_wp2
                  go_roundw
                  case rel => exact ⟨k + 1, _, by omega, by go_num, by rw [HLS.out], HRW2, HRI3, HMO2, G8⟩
                  case measure => simp [intOf]; omega
          · obtain rfl : k = l.length := by omega
            have HQT : Hid (tblB s l = true) := by show _ = _; unfold tblB; rw [HSR.out, decide_eq_true h60, (upto_iff _ _).2 HRW.out]; rfl
            obtain ⟨g0, g1, g2, g3, g4, gf⟩ := cellsN5k G.out.var
            obtain ⟨y0, y1, y2, y3, y4, yf⟩ := cellsN5k G.out.res
            have YF := hide (setL_heapL (m := 0) [.string nm, .slice a1 n1 c1, .slice a2 n2 c2, .slice a3 n3 c3, .map (some b)] (cur := [.string ⟨#[]⟩, .slice none 0 0, .slice none 0 0, .slice none 0 0, .map none]) G.out.res)
            have BF := hide (setL_below (g := w.heap.size + 1) (m := 0) [.string nm, .slice a1 n1 c1, .slice a2 n2 c2, .slice a3 n3 c3, .map (some b)] G.out.below (Nat.le_succ _))
            have MF := hide (OI.own_set [.string nm, .slice a1 n1 c1, .slice a2 n2 c2, .slice a3 n3 c3, .map (some b)] G.out)
            have HGB : Hid (w.heap.size ≤ b) := by have := G.out.gap; show _ ≤ _; omega
            clear G HRW HRI
            go_wp2
            exact bodyPost_ret (v := .tuple #[.agg #[.string nm, .slice a1 n1 c1, .slice a2 n2 c2, .slice a3 n3 c3, .map (some b)], .bool true]) (resOT Tryz.results18 _ _ (w.heap.size + 1) _ _ _ _ _ true rfl rfl YF.out) rfl ⟨_, by rw [HQT.out], ⟨_, _, _, _, _, _, _, _, _, _, _, rfl⟩, BF.out, fun _ => ⟨b, D, V, rfl, HGB.out, MF.out, HMO.out, HV.out⟩⟩
    · skip
      have HQF := hide (HZL.out (by omega))
      go_wp2_with fail
      refine (HSS.out _ B0.out).mono ?_
      rw [hsr]
      rintro e w1 ⟨rfl, k1⟩
      have YS := hide ((k1.block _ (blkC Y0.out)).trans Y0.out)
      have XS := hide ((k1.block _ (blkC X0.out)).trans X0.out)
      have BS := hide (B0.out.trans (k1.mono B0.out.size))
      clear k1 x0 x1 x2 x3 x4 xf y0 y1 y2 y3 y4 yf
      obtain ⟨x0, x1, x2, x3, x4, xf⟩ := cellsN5k XS.out
      obtain ⟨y0, y1, y2, y3, y4, yf⟩ := cellsN5k YS.out
      have YF := hide (setL_heapL (m := 0) [.string ⟨#[]⟩, .slice none 0 0, .slice none 0 0, .slice none 0 0, .map none] (cur := [.string ⟨#[]⟩, .slice none 0 0, .slice none 0 0, .slice none 0 0, .map none]) YS.out)
      have BF := hide (setL_below (g := w.heap.size + 1) (m := 0) [.string ⟨#[]⟩, .slice none 0 0, .slice none 0 0, .slice none 0 0, .map none] BS.out (Nat.le_succ _))
      go_wp2
      exact bodyPost_ret (v := .tuple #[.agg #[.string ⟨#[]⟩, .slice none 0 0, .slice none 0 0, .slice none 0 0, .map none], .bool false]) (resOT Tryz.results18 _ _ (w.heap.size + 1) _ _ _ _ _ false rfl rfl YF.out) rfl ⟨_, by rw [HQF.out], ⟨_, _, _, _, _, _, _, _, _, _, _, rfl⟩, BF.out, fun h => by rw [HQF.out] at h; cases h⟩
end Go.Proofs.YtkhklfnhninkjaaGreat

/-
  Contract: TableRight of the program.
-/
namespace Go.Proofs.YtkhklfnhninkjaaGreat
open Go.RowKit
set_option maxRecDepth 100000

set_option maxHeartbeats 2000000 in
theorem implTableRight_any (A B : Nat) (s : Sch) (l : List (List Val)) (a1 : Option Addr) (c1 : Nat) (a2 : Option Addr) (c2 : Nat) (a3 : Option Addr) (c3 : Nat) (a4 : Option Addr) (c4 : Nat) (m0 : Int) (w : World) (hB : B ≤ w.heap.size) (hl : l.length ≤ maxLen) (h1 : SchRow w A B a1 a2 a3 c2 s) (h2 : RwRow w A B a4 l) (hm : w.cell? ⟨0, 0, none⟩ = some (.int .i64 m0)) :
    Calls Tryz.prog 7 #[.agg #[.string s.name, .slice a1 s.cols.length c1, .slice a2 s.key.length c2, .slice a3 s.idx.length c3, .slice a4 l.length c4]] w fun e w' => e = .returned (.bool (tblB s l)) ∧ Below w.heap.size w w' := by
  have HC := hide (fun (W : World) (hb : Below w.heap.size w W) => implOpen_any A B s l a1 c1 a2 c2 a3 c3 a4 c4 m0 W (Nat.le_trans hB hb.size) hl (h1.kept (hb.mono hB)) (h2.kept (hb.mono hB)) ((hb.cell (p := ⟨0, 0, none⟩) (block_lt_of_cell hm)).trans hm))
  clear h1 h2 hm hl
  generalize tblB s l = q at *
  generalize s.name = nm at *
  generalize s.cols.length = n1 at *
  generalize s.key.length = n2 at *
  generalize s.idx.length = n3 at *
  generalize l.length = n4 at *
  have B0 := hide ((Below.refl w.heap.size w).alloc (Nat.le_refl _) (.cells #[.string nm, .slice a1 n1 c1, .slice a2 n2 c2, .slice a3 n3 c3, .slice a4 n4 c4] 38))
  have X0 := hide (heap_alloc_new w (.cells #[.string nm, .slice a1 n1 c1, .slice a2 n2 c2, .slice a3 n3 c3, .slice a4 n4 c4] 38))
  go_enter Tryz.func7, Tryz.ntmps7
  go_upto_region 1 with fail
  generalize w.alloc (.cells #[.string nm, .slice a1 n1 c1, .slice a2 n2 c2, .slice a3 n3 c3, .slice a4 n4 c4] 38) = W0 at *
  obtain ⟨x0, x1, x2, x3, x4, xf⟩ := cellsN5k X0.out
  go_wp2_with fail
  refine (HC.out _ B0.out).mono ?_
  rintro e w1 ⟨v, rfl, ⟨p0, p1, p2, p3, p4, p5, p6, p7, p8, p9, p10, rfl⟩, hb1, _⟩
  have B1 := hide (B0.out.trans (hb1.mono B0.out.size))
  clear hb1 B0 X0 HC x0 x1 x2 x3 x4 xf
  have BF := hide (B1.out.alloc B1.out.size (.cells #[.string p0, .slice p1 p2 p3, .slice p4 p5 p6, .slice p7 p8 p9, .map p10] 54))
  go_wp2
  go_ret
  exact ⟨rfl, BF.out⟩
end Go.Proofs.YtkhklfnhninkjaaGreat
