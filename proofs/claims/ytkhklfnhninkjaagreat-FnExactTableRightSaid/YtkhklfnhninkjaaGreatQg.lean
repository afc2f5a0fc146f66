/-
  Contracts and plain laws: TbSp, TvTo
-/
import Derived.Test.YtkhklfnhninkjaaGreatQf
import Derived.Test.YtkhklfnhninkjaaGreatQd
import Derived.Test.YtkhklfnhninkjaaGreatSSpec
import Derived.Test.YtkhklfnhninkjaaGreatQc
import Derived.Deep.CutRange
import Derived.Test.YtkhklfnhninkjaaGreatQb
import Derived.Test.YtkhklfnhninkjaaGreatSCopy3
import Derived.Laws.ResultCell

/-
  Contract: TableRight of the specification. Written by gen_tbsp.py.
-/
namespace Go.Proofs.YtkhklfnhninkjaaGreat
open Go.RowKit
set_option maxRecDepth 100000

theorem cells5s {w : World} {g : Nat} {x0 x1 x2 x3 x4 : Value} {t : TypeId} (h : w.heap[g]? = some (.cells #[x0, x1, x2, x3, x4] t (0, 0))) :
    w.cell? ⟨g, 0, none⟩ = some x0 ∧ w.cell? ⟨g, 1, none⟩ = some x1 ∧ w.cell? ⟨g, 2, none⟩ = some x2 ∧ w.cell? ⟨g, 3, none⟩ = some x3 ∧ w.cell? ⟨g, 4, none⟩ = some x4 := by
  refine ⟨?_, ?_, ?_, ?_, ?_⟩ <;> (rw [cell_of_row _ _ _ _ _ _ h]; rfl)
set_option maxHeartbeats 8000000 in
theorem specTableRight_any (A B : Nat) (s : Sch) (l : List (List Val)) (a1 : Option Addr) (c1 : Nat) (a2 : Option Addr) (c2 : Nat) (a3 : Option Addr) (c3 : Nat) (a4 : Option Addr) (c4 : Nat) (w : World) (hB : B ≤ w.heap.size) (hl : l.length ≤ maxLen) (h1 : SchRow w A B a1 a2 a3 c2 s) (h2 : RwRow w A B a4 l) :
    Calls Tryz.prog 5 #[.agg #[.string s.name, .slice a1 s.cols.length c1, .slice a2 s.key.length c2, .slice a3 s.idx.length c3, .slice a4 l.length c4]] w fun e w' => e = .returned (.bool (tblB s l)) ∧ Below w.heap.size w w' := by
  unfold maxLen at hl
  have HSS := hide (fun (W : World) (hb : Below w.heap.size w W) => specSchemaRight_any A B a1 c1 a2 c2 a3 c3 s W (Nat.le_trans hB hb.size) (h1.kept (hb.mono hB)))
  obtain ⟨V, hV⟩ : ∃ V : Nat → Option Addr × Nat × Nat, ∀ j, j < l.length → (V j).2.1 = (l.getD j []).length ∧ VAt w A B (V j).1 (l.getD j []) ∧ (V j).2.1 ≤ maxLen ∧ ∀ b off, a4 = some ⟨b, off, none⟩ → w.cell? ⟨b, off + j, none⟩ = some (.slice (V j).1 (V j).2.1 (V j).2.2) := by
    have hEx : ∀ j, ∃ y : Option Addr × Nat × Nat, j < l.length → y.2.1 = (l.getD j []).length ∧ VAt w A B y.1 (l.getD j []) ∧ y.2.1 ≤ maxLen ∧ ∀ b off, a4 = some ⟨b, off, none⟩ → w.cell? ⟨b, off + j, none⟩ = some (.slice y.1 y.2.1 y.2.2) := fun j => by
      by_cases hj : j < l.length
      · obtain ⟨b, off, vs, vo, c, e, hbB, hx, hc, hvt, hcell⟩ := h2.at j hj
        refine ⟨(vo, vs.length, c), fun _ => ?_⟩
        rw [hx]
        refine ⟨rfl, hvt, Nat.le_trans hc.1 hc.2, fun b0 o0 e0 => ?_⟩
        rw [e] at e0
        obtain ⟨rfl, rfl⟩ : b = b0 ∧ off = o0 := by simpa using e0
        exact hcell
      · exact ⟨(none, 0, 0), fun h => absurd h hj⟩
    exact Classical.axiomOfChoice hEx
  have HROW0 : Hid (∀ W, Below w.heap.size w W → ∀ k, k < l.length → Calls Tryz.prog 12 #[.agg #[.string s.name, .slice a1 s.cols.length c1, .slice a2 s.key.length c2, .slice a3 s.idx.length c3], .slice (V k).1 (V k).2.1 (V k).2.2] W fun e w' => e = .returned (.bool (rowOk s.cols (l.getD k []))) ∧ Below W.heap.size W w') := fun W hb k hk => by
    have hv := hV k hk
    have hlen : (l.getD k []).length ≤ maxLen := by rw [← hv.1]; exact hv.2.2.1
    rw [hv.1]
    exact specRow_any A B B a1 c1 a2 c2 a3 c3 (V k).1 (V k).2.2 s (l.getD k []) W (Nat.le_trans hB hb.size) (Nat.le_trans hB hb.size) hlen (h1.kept (hb.mono hB)) (hv.2.1.1.kept (hb.mono hB))
  obtain ⟨KL, HKEY0, HKL, HRA⟩ : ∃ KL : Nat → List Val,
      Hid (schRight s = true → ∀ W, Below w.heap.size w W → ∀ k, k < l.length → rowOk s.cols (l.getD k []) = true → Calls Tryz.prog 14 #[.agg #[.string s.name, .slice a1 s.cols.length c1, .slice a2 s.key.length c2, .slice a3 s.idx.length c3], .slice (V k).1 (V k).2.1 (V k).2.2] W fun e w' => ∃ po pc, e = .returned (.slice po (KL k).length pc) ∧ ValRow w' w'.heap.size po (KL k) ∧ Below W.heap.size W w') ∧
      Hid (schRight s = true → ∀ k, (KL k).length ≤ 400) ∧
      Hid (∀ i, rowAt s l i = (rowOk s.cols (l.getD i []) && ((decide (i = 0) || decide (cmpL (KL (i - 1)) (KL i) < 0)) && upto (fun k => !clashB s (l.getD i []) (l.getD k [])) i))) := by
    refine ⟨fun k => keyL' s (l.getD k []), fun hs W hb k hk hr => ?_, fun hs k => ?_, fun i => rfl⟩
    · have hv := hV k hk
      rw [hv.1]
      refine (specKey_any A B B a1 c1 a2 c2 a3 c3 (V k).1 (V k).2.2 s (l.getD k []) W (Nat.le_trans hB hb.size) (Nat.le_trans hB hb.size) hs hr (h1.kept (hb.mono hB)) (hv.2.1.1.kept (hb.mono hB))).mono ?_
      rintro e w' ⟨v, rfl, ho, hb'⟩
      have hin := cols_in (right_key hs) (row_len hr)
      obtain ⟨po, pc, rfl, hpr⟩ := valRow_own ho (fun x hx => hv.2.1.1.1 x (pick_mem hin (Nat.le_refl _) x hx)) (fun x hx => hv.2.1.1.2.1 x (pick_mem hin (Nat.le_refl _) x hx))
      exact ⟨po, pc, rfl, hpr, hb'⟩
    · have h3 := isCols_len (right_key hs)
      have h4 := schRight_len hs
      show (keyL' s _).length ≤ 400
      unfold keyL'
      rw [pickL_len _ _ _ (Nat.le_refl _)]
      omega
  have HCL0 : Hid (schRight s = true → ∀ W, Below w.heap.size w W → ∀ k j, k < l.length → j < l.length → rowOk s.cols (l.getD k []) = true → rowOk s.cols (l.getD j []) = true → Calls Tryz.prog 15 #[.agg #[.string s.name, .slice a1 s.cols.length c1, .slice a2 s.key.length c2, .slice a3 s.idx.length c3], .slice (V k).1 (V k).2.1 (V k).2.2, .slice (V j).1 (V j).2.1 (V j).2.2] W fun e w' => e = .returned (.bool (clashB s (l.getD k []) (l.getD j []))) ∧ Below W.heap.size W w') := fun hs W hb k j hk hj hrk hrj => by
    rw [(hV k hk).1, (hV j hj).1]
    exact specClash_any A B B B a1 c1 a2 c2 a3 c3 s (V k).1 (V k).2.2 (l.getD k []) (V j).1 (V j).2.2 (l.getD j []) W (Nat.le_trans hB hb.size) (Nat.le_trans hB hb.size) (Nat.le_trans hB hb.size) hs hrk hrj (h1.kept (hb.mono hB)) ((hV k hk).2.1.1.kept (hb.mono hB)) ((hV j hj).2.1.1.kept (hb.mono hB))
  have HCELL : Hid (∀ k, k < l.length → ∃ b0 o0, a4 = some ⟨b0, o0, none⟩ ∧ b0 < w.heap.size ∧ ∀ j, j < l.length → w.cell? ⟨b0, o0 + j, none⟩ = some (.slice (V j).1 (V j).2.1 (V j).2.2)) := fun k hk => by
    obtain ⟨b0, o0, vs, vo, c, e, hbB, _, _, _, _⟩ := h2.at k hk
    exact ⟨b0, o0, e, Nat.lt_of_lt_of_le hbB hB, fun j hj => (hV j hj).2.2.2 b0 o0 e⟩
  have HTB : Hid (tblB s l = (schRight s && (decide (l.length ≤ 60) && upto (rowAt s l) l.length))) := rfl
  clear h1 h2 hV
  generalize tblB s l = q at *
  generalize rowAt s l = RA at *
  obtain ⟨RO, hRO⟩ : ∃ f : Nat → Bool, ∀ j, rowOk s.cols (l.getD j []) = f j := ⟨_, fun _ => rfl⟩
  obtain ⟨CB, hCB⟩ : ∃ f : Nat → Nat → Bool, ∀ i j, clashB s (l.getD i []) (l.getD j []) = f i j := ⟨_, fun _ _ => rfl⟩
  simp only [hRO, hCB] at HROW0 HKEY0 HCL0 HRA
  clear hRO hCB
  generalize schRight s = qs at *
  generalize s.name = nm at *
  generalize s.cols.length = n1 at *
  generalize s.key.length = n2 at *
  generalize s.idx.length = n3 at *
  have B0 := hide ((Below.refl w.heap.size w).alloc (Nat.le_refl _) (.cells #[.string nm, .slice a1 n1 c1, .slice a2 n2 c2, .slice a3 n3 c3, .slice a4 l.length c4] 38))
  have X0 := hide (heap_alloc_new w (.cells #[.string nm, .slice a1 n1 c1, .slice a2 n2 c2, .slice a3 n3 c3, .slice a4 l.length c4] 38))
  go_enter Tryz.func5, Tryz.ntmps5
  go_upto_region 1 with fail
  generalize w.alloc (.cells #[.string nm, .slice a1 n1 c1, .slice a2 n2 c2, .slice a3 n3 c3, .slice a4 l.length c4] 38) = W0 at *
  obtain ⟨x0, x1, x2, x3, x4⟩ := cells5s X0.out
  have HC1 := HSS.out _ B0.out
  clear HSS
  cases qs with
  | false =>
    have HF : Hid (q = false) := by show _ = _; rw [HTB.out]; rfl
    go_wp2_with fail
    refine HC1.mono ?_
    rintro e w1 ⟨rfl, k1⟩
    have BF := hide (B0.out.trans (k1.mono B0.out.size))
    clear k1
    go_wp2
    go_ret
    exact ⟨ret_bool HF.out.symm, BF.out⟩
  | true =>
    by_cases h60 : l.length ≤ 60
    · go_upto_region 3 with (go_at_call 11; refine HC1.mono ?_; rintro e W1 ⟨rfl, k1⟩; have X1 := hide ((k1.block _ (blkCs X0.out)).trans X0.out); have B1 := hide (B0.out.trans (k1.mono B0.out.size)); clear k1 x0 x1 x2 x3 x4; obtain ⟨x0, x1, x2, x3, x4⟩ := cells5s X1.out)
      have HT0 := hide (fun (W : World) (hW : Below W1.heap.size W1 W) => cells5s ((hW.block _ (blkCs X1.out)).trans X1.out))
      have HROW := hide (fun (W : World) (hW : Below W1.heap.size W1 W) => HROW0.out W (B1.out.trans (hW.mono B1.out.size)))
      have HKEY := hide (fun (W : World) (hW : Below W1.heap.size W1 W) => HKEY0.out (by trivial) W (B1.out.trans (hW.mono B1.out.size)))
      have HCL := hide (fun (W : World) (hW : Below W1.heap.size W1 W) => HCL0.out (by trivial) W (B1.out.trans (hW.mono B1.out.size)))
      have HKL' := hide (HKL.out (by trivial))
      have HCE : Hid (∀ k, k < l.length → ∃ b0 o0, a4 = some ⟨b0, o0, none⟩ ∧ ∀ W, Below W1.heap.size W1 W → ∀ j, j < l.length → W.cell? ⟨b0, o0 + j, none⟩ = some (.slice (V j).1 (V j).2.1 (V j).2.2)) := fun k hk => by
        obtain ⟨b0, o0, e, hb0, hj⟩ := HCELL.out k hk
        exact ⟨b0, o0, e, fun W hW j hjl => ((B1.out.trans (hW.mono B1.out.size)).cell (p := ⟨b0, o0 + j, none⟩) hb0).trans (hj j hjl)⟩
      have HTB2 : Hid (q = upto RA l.length) := by show _ = _; rw [HTB.out, decide_eq_true h60]; rfl
      clear HTB HCELL HKL HCL0 HKEY0 HROW0 X0 X1 B0 HC1
      go_wp2
      clear x0 x1 x2 x3 x4
      go_loopw [3] (fun v wr => ∃ i : Nat, i ≤ l.length ∧ v = .int .i64 i ∧ Hid (upto RA i = true) ∧ Hid (∀ j, j < i → RO j = true) ∧ Below W1.heap.size W1 wr) (fun v _ => l.length - (intOf v).toNat)
      case atStart => exact ⟨0, Nat.zero_le _, rfl, rfl, hide (fun j hj => absurd hj (Nat.not_lt_zero _)), Below.refl _ _⟩
      case round =>
        obtain ⟨i, hi, rfl, HU, HRR, hbw⟩ := hrel
        obtain ⟨x0, x1, x2, x3, x4⟩ := HT0.out _ hbw
        by_cases hlt : i < l.length
        · have HP := hide (upto_succ RA i)
          have HFI : Hid (RA i = false → q = false) := fun h => by rw [HTB2.out, upto_false hlt h]
          obtain ⟨b4, o4, rfl, hcell⟩ := HCE.out i hlt
          clear HCE HTB2
          have hi0i : (0 : Int) ≤ (i : Int) := by omega
          have hi1i : (i : Int) < (l.length : Int) := by omega
          have hti := (Int.toNat_natCast i)
          cases hr : RO i with
          | false =>
            have HF := hide (HFI.out (by rw [HRA.out, hr]; rfl))
            have HT := hide (show ∀ W, Below W1.heap.size W1 W → W.cell? ⟨w.heap.size, 0, none⟩ = some (.string nm) ∧ W.cell? ⟨w.heap.size, 1, none⟩ = some (.slice a1 n1 c1) ∧ W.cell? ⟨w.heap.size, 2, none⟩ = some (.slice a2 n2 c2) ∧ W.cell? ⟨w.heap.size, 3, none⟩ = some (.slice a3 n3 c3) ∧ W.cell? ⟨w.heap.size, 4, none⟩ = some (.slice (some ⟨b4, o4, none⟩) l.length c4) ∧ W.cell? ⟨b4, o4 + i, none⟩ = some (.slice (V i).1 (V i).2.1 (V i).2.2) ∧ W.cell? ⟨b4, o4 + i, none⟩ = some (.slice (V i).1 (V i).2.1 (V i).2.2) from fun W hW => by
              obtain ⟨q0, q1, q2, q3, q4⟩ := HT0.out W hW
              exact ⟨q0, q1, q2, q3, q4, hcell W hW i hlt, hcell W hW i hlt⟩)
            clear HFI HP HU
            go_wp2
            refine wp_region_noPanic ?_
            refine wp_region_held_drew (S := (fun W => Below W1.heap.size W1 W)) (by kernel_rfl) hbw.drew (fun hHeld => ?_)
            refine takeD 0 22 (v := ?v1) rfl rfl (by kernel_rfl) (by kernel_rfl) (by kernel_rfl) (fun _ _ _ h => h) (by kernel_rfl) ?hy1 (by assumption) ?r1
            case hy1 => (intro W hSw; obtain ⟨t0, t1, t2, t3, t4, t5, t6⟩ := HT.out W hSw; go_simp; try with_reducible rfl)
            simp only [Act.put, List.setIfInBounds_toArray, List.set_cons_zero, List.set_cons_succ]
            refine takeD 1 23 (v := ?v2) rfl rfl (by kernel_rfl) (by kernel_rfl) (by kernel_rfl) (fun _ _ _ h => h) (by kernel_rfl) ?hy2 (by assumption) ?r2
            case hy2 => (intro W hSw; obtain ⟨t0, t1, t2, t3, t4, t5, t6⟩ := HT.out W hSw; go_simp; try with_reducible rfl)
            simp only [Act.put, List.setIfInBounds_toArray, List.set_cons_zero, List.set_cons_succ]
            refine takeD 2 24 (v := ?v3) rfl rfl (by kernel_rfl) (by kernel_rfl) (by kernel_rfl) (fun _ _ _ h => h) (by kernel_rfl) ?hy3 (by assumption) ?r3
            case hy3 => (intro W hSw; obtain ⟨t0, t1, t2, t3, t4, t5, t6⟩ := HT.out W hSw; go_simp; try with_reducible rfl)
            simp only [Act.put, List.setIfInBounds_toArray, List.set_cons_zero, List.set_cons_succ]
            refine takeD 3 25 (v := ?v4) rfl rfl (by kernel_rfl) (by kernel_rfl) (by kernel_rfl) (fun _ _ _ h => h) (by kernel_rfl) ?hy4 (by assumption) ?r4
            case hy4 => (intro W hSw; obtain ⟨t0, t1, t2, t3, t4, t5, t6⟩ := HT.out W hSw; go_simp; try with_reducible rfl)
            simp only [Act.put, List.setIfInBounds_toArray, List.set_cons_zero, List.set_cons_succ]
            refine takeD 4 26 (v := ?v5) rfl rfl (by kernel_rfl) (by kernel_rfl) (by kernel_rfl) (fun _ _ _ h => h) (by kernel_rfl) ?hy5 (by assumption) ?r5
            case hy5 => (intro W hSw; obtain ⟨t0, t1, t2, t3, t4, t5, t6⟩ := HT.out W hSw; go_simp; try with_reducible rfl)
            simp only [Act.put, List.setIfInBounds_toArray, List.set_cons_zero, List.set_cons_succ]
            refine takeD 5 27 (v := ?v6) rfl rfl (by kernel_rfl) (by kernel_rfl) (by kernel_rfl) (fun _ _ _ h => h) (by kernel_rfl) ?hy6 (by assumption) ?r6
            case hy6 => (intro W hSw; obtain ⟨t0, t1, t2, t3, t4, t5, t6⟩ := HT.out W hSw; go_simp; try with_reducible rfl)
            simp only [Act.put, List.setIfInBounds_toArray, List.set_cons_zero, List.set_cons_succ]
            refine takeD 6 28 (v := ?v7) rfl rfl (by kernel_rfl) (by kernel_rfl) (by kernel_rfl) (fun _ _ _ h => h) (by kernel_rfl) ?hy7 (by assumption) ?r7
            case hy7 => (intro W hSw; obtain ⟨t0, t1, t2, t3, t4, t5, t6⟩ := HT.out W hSw; go_simp; try with_reducible rfl)
            simp only [Act.put, List.setIfInBounds_toArray, List.set_cons_zero, List.set_cons_succ]
            refine wpAnyH_ready (rs := [7]) (by kernel_rfl) (by simp) ?_
            refine AllReadyH.cons (o := _) rfl (fun K hK => ?_) AllReadyH.nil
            go_simp
            refine (HROW.out _ (by assumption) i hlt).mono ?_
            rintro e w2 ⟨rfl, k2⟩
            have hS2 := hbw.drew.trans (k2.mono hbw.drew.size)
            rw [hr]
            go_wp2_with fail
            refine hK.out _ _ hS2 (fun hHeld2 => ?_)
            clear hK K hHeld
            have hHeld := hHeld2
            clear hHeld2
            try simp only [Act.put, List.setIfInBounds_toArray, List.set_cons_zero, List.set_cons_succ]
            clear k2
            refine takeD 8 30 (v := ?v8) rfl rfl (by kernel_rfl) (by kernel_rfl) (by kernel_rfl) (fun _ _ _ h => h) (by kernel_rfl) ?hy8 (by assumption) ?r8
            case hy8 => (intro W hSw; obtain ⟨t0, t1, t2, t3, t4, t5, t6⟩ := HT.out W hSw; go_simp; try with_reducible rfl)
            simp only [Act.put, List.setIfInBounds_toArray, List.set_cons_zero, List.set_cons_succ]
            refine takeD 9 31 (v := ?v9) rfl rfl (by kernel_rfl) (by kernel_rfl) (by kernel_rfl) (fun _ _ _ h => h) (by kernel_rfl) ?hy9 (by assumption) ?r9
            case hy9 => (intro W hSw; obtain ⟨t0, t1, t2, t3, t4, t5, t6⟩ := HT.out W hSw; go_simp; try with_reducible rfl)
            simp only [Act.put, List.setIfInBounds_toArray, List.set_cons_zero, List.set_cons_succ]
            refine skipAll [(10, 32), (11, 33), (12, 34), (13, 35), (14, 36), (15, 37), (16, 38), (17, 39), (18, 40), (19, 41), (20, 42), (21, 43), (22, 44), (23, 45), (24, 46), (25, 47), (26, 48), (27, 49), (28, 50), (29, 51), (30, 52), (31, 53), (32, 54)] (by kernel_rfl) (fun _ _ _ _ _ h => h) (by assumption) (by kernel_rfl) ?_
            simp only [putAll, listAll, List.foldl_cons, List.foldl_nil, Act.put, List.setIfInBounds_toArray, List.set_cons_zero, List.set_cons_succ]
            refine takeD 33 55 (v := ?v10) rfl rfl (by kernel_rfl) (by kernel_rfl) (by kernel_rfl) (fun _ _ _ h => h) (by kernel_rfl) ?hy10 (by assumption) ?r10
            case hy10 => (intro W hSw; obtain ⟨t0, t1, t2, t3, t4, t5, t6⟩ := HT.out W hSw; go_simp; try with_reducible rfl)
            simp only [Act.put, List.setIfInBounds_toArray, List.set_cons_zero, List.set_cons_succ]
            refine wpAnyH_done (by kernel_rfl) ?_ _
            refine NoPanic.normal ?_
            clear HT
            go_wp2
            go_ret
            exact ⟨ret_bool HF.out.symm, B1.out.trans (Below.mono hS2 B1.out.size)⟩
          | true =>
            by_cases hz0 : i = 0
            · have HLE : Hid ((decide (i = 0) || decide (cmpL (KL (i - 1)) (KL i) < 0)) = true) := by show _ = _; rw [decide_eq_true hz0]; rfl
              have HT := hide (show ∀ W, Below W1.heap.size W1 W → W.cell? ⟨w.heap.size, 0, none⟩ = some (.string nm) ∧ W.cell? ⟨w.heap.size, 1, none⟩ = some (.slice a1 n1 c1) ∧ W.cell? ⟨w.heap.size, 2, none⟩ = some (.slice a2 n2 c2) ∧ W.cell? ⟨w.heap.size, 3, none⟩ = some (.slice a3 n3 c3) ∧ W.cell? ⟨w.heap.size, 4, none⟩ = some (.slice (some ⟨b4, o4, none⟩) l.length c4) ∧ W.cell? ⟨b4, o4 + i, none⟩ = some (.slice (V i).1 (V i).2.1 (V i).2.2) ∧ W.cell? ⟨b4, o4 + i, none⟩ = some (.slice (V i).1 (V i).2.1 (V i).2.2) from fun W hW => by
                obtain ⟨q0, q1, q2, q3, q4⟩ := HT0.out W hW
                exact ⟨q0, q1, q2, q3, q4, hcell W hW i hlt, hcell W hW i hlt⟩)
              have hd0 : decide ((i : Int) > 0) = false := decide_eq_false (by omega)
              have hd1 : decide ((0 : Int) < (i : Int)) = false := decide_eq_false (by omega)
              have hd2 : decide (0 < i) = false := decide_eq_false (by omega)
              clear hz0
              go_wp2
              refine wp_region_noPanic ?_
              refine wp_region_held_drew (S := (fun W => Below W1.heap.size W1 W)) (by kernel_rfl) hbw.drew (fun hHeld => ?_)
              refine takeD 0 22 (v := ?v11) rfl rfl (by kernel_rfl) (by kernel_rfl) (by kernel_rfl) (fun _ _ _ h => h) (by kernel_rfl) ?hy11 (by assumption) ?r11
              case hy11 => (intro W hSw; obtain ⟨t0, t1, t2, t3, t4, t5, t6⟩ := HT.out W hSw; go_simp; try with_reducible rfl)
              simp only [Act.put, List.setIfInBounds_toArray, List.set_cons_zero, List.set_cons_succ]
              refine takeD 1 23 (v := ?v12) rfl rfl (by kernel_rfl) (by kernel_rfl) (by kernel_rfl) (fun _ _ _ h => h) (by kernel_rfl) ?hy12 (by assumption) ?r12
              case hy12 => (intro W hSw; obtain ⟨t0, t1, t2, t3, t4, t5, t6⟩ := HT.out W hSw; go_simp; try with_reducible rfl)
              simp only [Act.put, List.setIfInBounds_toArray, List.set_cons_zero, List.set_cons_succ]
              refine takeD 2 24 (v := ?v13) rfl rfl (by kernel_rfl) (by kernel_rfl) (by kernel_rfl) (fun _ _ _ h => h) (by kernel_rfl) ?hy13 (by assumption) ?r13
              case hy13 => (intro W hSw; obtain ⟨t0, t1, t2, t3, t4, t5, t6⟩ := HT.out W hSw; go_simp; try with_reducible rfl)
              simp only [Act.put, List.setIfInBounds_toArray, List.set_cons_zero, List.set_cons_succ]
              refine takeD 3 25 (v := ?v14) rfl rfl (by kernel_rfl) (by kernel_rfl) (by kernel_rfl) (fun _ _ _ h => h) (by kernel_rfl) ?hy14 (by assumption) ?r14
              case hy14 => (intro W hSw; obtain ⟨t0, t1, t2, t3, t4, t5, t6⟩ := HT.out W hSw; go_simp; try with_reducible rfl)
              simp only [Act.put, List.setIfInBounds_toArray, List.set_cons_zero, List.set_cons_succ]
              refine takeD 4 26 (v := ?v15) rfl rfl (by kernel_rfl) (by kernel_rfl) (by kernel_rfl) (fun _ _ _ h => h) (by kernel_rfl) ?hy15 (by assumption) ?r15
              case hy15 => (intro W hSw; obtain ⟨t0, t1, t2, t3, t4, t5, t6⟩ := HT.out W hSw; go_simp; try with_reducible rfl)
              simp only [Act.put, List.setIfInBounds_toArray, List.set_cons_zero, List.set_cons_succ]
              refine takeD 5 27 (v := ?v16) rfl rfl (by kernel_rfl) (by kernel_rfl) (by kernel_rfl) (fun _ _ _ h => h) (by kernel_rfl) ?hy16 (by assumption) ?r16
              case hy16 => (intro W hSw; obtain ⟨t0, t1, t2, t3, t4, t5, t6⟩ := HT.out W hSw; go_simp; try with_reducible rfl)
              simp only [Act.put, List.setIfInBounds_toArray, List.set_cons_zero, List.set_cons_succ]
              refine takeD 6 28 (v := ?v17) rfl rfl (by kernel_rfl) (by kernel_rfl) (by kernel_rfl) (fun _ _ _ h => h) (by kernel_rfl) ?hy17 (by assumption) ?r17
              case hy17 => (intro W hSw; obtain ⟨t0, t1, t2, t3, t4, t5, t6⟩ := HT.out W hSw; go_simp; try with_reducible rfl)
              simp only [Act.put, List.setIfInBounds_toArray, List.set_cons_zero, List.set_cons_succ]
              refine wpAnyH_ready (rs := [7]) (by kernel_rfl) (by simp) ?_
              refine AllReadyH.cons (o := _) rfl (fun K hK => ?_) AllReadyH.nil
              go_simp
              refine (HROW.out _ (by assumption) i hlt).mono ?_
              rintro e w2 ⟨rfl, k2⟩
              have hS2 := hbw.drew.trans (k2.mono hbw.drew.size)
              rw [hr]
              go_wp2_with fail
              refine hK.out _ _ hS2 (fun hHeld2 => ?_)
              clear hK K hHeld
              have hHeld := hHeld2
              clear hHeld2
              try simp only [Act.put, List.setIfInBounds_toArray, List.set_cons_zero, List.set_cons_succ]
              clear k2
              refine takeD 8 30 (v := ?v18) rfl rfl (by kernel_rfl) (by kernel_rfl) (by kernel_rfl) (fun _ _ _ h => h) (by kernel_rfl) ?hy18 (by assumption) ?r18
              case hy18 => (intro W hSw; obtain ⟨t0, t1, t2, t3, t4, t5, t6⟩ := HT.out W hSw; go_simp; try with_reducible rfl)
              simp only [Act.put, List.setIfInBounds_toArray, List.set_cons_zero, List.set_cons_succ]
              refine takeD 9 31 (v := ?v19) rfl rfl (by kernel_rfl) (by kernel_rfl) (by kernel_rfl) (fun _ _ _ h => h) (by kernel_rfl) ?hy19 (by assumption) ?r19
              case hy19 => (intro W hSw; obtain ⟨t0, t1, t2, t3, t4, t5, t6⟩ := HT.out W hSw; go_simp; try with_reducible rfl)
              simp only [Act.put, List.setIfInBounds_toArray, List.set_cons_zero, List.set_cons_succ]
              refine takeD 10 32 (v := ?v20) rfl rfl (by kernel_rfl) (by kernel_rfl) (by kernel_rfl) (fun _ _ _ h => h) (by kernel_rfl) ?hy20 (by assumption) ?r20
              case hy20 => (intro W hSw; obtain ⟨t0, t1, t2, t3, t4, t5, t6⟩ := HT.out W hSw; go_simp; try with_reducible rfl)
              simp only [Act.put, List.setIfInBounds_toArray, List.set_cons_zero, List.set_cons_succ]
              refine takeD 11 33 (v := ?v21) rfl rfl (by kernel_rfl) (by kernel_rfl) (by kernel_rfl) (fun _ _ _ h => h) (by kernel_rfl) ?hy21 (by assumption) ?r21
              case hy21 => (intro W hSw; obtain ⟨t0, t1, t2, t3, t4, t5, t6⟩ := HT.out W hSw; go_simp; try with_reducible rfl)
              simp only [Act.put, List.setIfInBounds_toArray, List.set_cons_zero, List.set_cons_succ]
              refine takeD 12 34 (v := ?v22) rfl rfl (by kernel_rfl) (by kernel_rfl) (by kernel_rfl) (fun _ _ _ h => h) (by kernel_rfl) ?hy22 (by assumption) ?r22
              case hy22 => (intro W hSw; obtain ⟨t0, t1, t2, t3, t4, t5, t6⟩ := HT.out W hSw; go_simp; try with_reducible rfl)
              simp only [Act.put, List.setIfInBounds_toArray, List.set_cons_zero, List.set_cons_succ]
              refine skipAll [(13, 35), (14, 36), (15, 37), (16, 38), (17, 39), (18, 40), (19, 41), (20, 42), (21, 43), (22, 44), (23, 45), (24, 46), (25, 47), (26, 48), (27, 49), (28, 50), (29, 51), (30, 52), (31, 53)] (by kernel_rfl) (fun _ _ _ _ _ h => h) (by assumption) (by kernel_rfl) ?_
              simp only [putAll, listAll, List.foldl_cons, List.foldl_nil, Act.put, List.setIfInBounds_toArray, List.set_cons_zero, List.set_cons_succ]
              refine takeD 32 54 (v := ?v23) rfl rfl (by kernel_rfl) (by kernel_rfl) (by kernel_rfl) (fun _ _ _ h => h) (by kernel_rfl) ?hy23 (by assumption) ?r23
              case hy23 => (intro W hSw; obtain ⟨t0, t1, t2, t3, t4, t5, t6⟩ := HT.out W hSw; go_simp; try with_reducible rfl)
              simp only [Act.put, List.setIfInBounds_toArray, List.set_cons_zero, List.set_cons_succ]
              refine takeD 33 55 (v := ?v24) rfl rfl (by kernel_rfl) (by kernel_rfl) (by kernel_rfl) (fun _ _ _ h => h) (by kernel_rfl) ?hy24 (by assumption) ?r24
              case hy24 => (intro W hSw; obtain ⟨t0, t1, t2, t3, t4, t5, t6⟩ := HT.out W hSw; go_simp; try with_reducible rfl)
              simp only [Act.put, List.setIfInBounds_toArray, List.set_cons_zero, List.set_cons_succ]
              refine wpAnyH_done (by kernel_rfl) ?_ _
              refine NoPanic.normal ?_
              clear HT hd0 hd1 hd2
              go_wp2
              go_loopw [4] (fun v wi => ∃ k : Nat, k ≤ i ∧ v = .int .i64 k ∧ Hid (upto (fun k => !CB i k) k = true) ∧ Below W1.heap.size W1 wi) (fun v _ => i - (intOf v).toNat)
              case atStart => exact ⟨0, Nat.zero_le _, rfl, rfl, hS2⟩
              case round =>
                obtain ⟨k, hk, rfl, HUK, hbi⟩ := hrel
                by_cases hki : k < i
                · have HPK := hide (upto_succ (fun k => !CB i k) k)
                  have HT := hide (show ∀ W, Below W1.heap.size W1 W → W.cell? ⟨w.heap.size, 0, none⟩ = some (.string nm) ∧ W.cell? ⟨w.heap.size, 1, none⟩ = some (.slice a1 n1 c1) ∧ W.cell? ⟨w.heap.size, 2, none⟩ = some (.slice a2 n2 c2) ∧ W.cell? ⟨w.heap.size, 3, none⟩ = some (.slice a3 n3 c3) ∧ W.cell? ⟨w.heap.size, 4, none⟩ = some (.slice (some ⟨b4, o4, none⟩) l.length c4) ∧ W.cell? ⟨b4, o4 + i, none⟩ = some (.slice (V i).1 (V i).2.1 (V i).2.2) ∧ W.cell? ⟨b4, o4 + k, none⟩ = some (.slice (V k).1 (V k).2.1 (V k).2.2) from fun W hW => by
                    obtain ⟨q0, q1, q2, q3, q4⟩ := HT0.out W hW
                    exact ⟨q0, q1, q2, q3, q4, hcell W hW i hlt, hcell W hW k (by omega)⟩)
                  have hi0k : (0 : Int) ≤ (k : Int) := by omega
                  have hi1k : (k : Int) < (l.length : Int) := by omega
                  have htk := (Int.toNat_natCast k)
                  cases hcb : CB i k with
                  | true =>
                    have hu0 : upto (fun k => !CB i k) i = false := upto_false hki (by show (!CB i k) = false; rw [hcb]; rfl)
                    have HF := hide (HFI.out (by rw [HRA.out, hu0]; simp))
                    clear hu0
                    clear HPK HUK HFI
                    go_wp2
                    refine wp_region_noPanic ?_
                    refine wp_region_held_drew (S := (fun W => Below W1.heap.size W1 W)) (by kernel_rfl) hbi.drew (fun hHeld => ?_)
                    refine takeD 0 61 (v := ?v25) rfl rfl (by kernel_rfl) (by kernel_rfl) (by kernel_rfl) (fun _ _ _ h => h) (by kernel_rfl) ?hy25 (by assumption) ?r25
                    case hy25 => (intro W hSw; obtain ⟨t0, t1, t2, t3, t4, t5, t6⟩ := HT.out W hSw; go_simp; try with_reducible rfl)
                    simp only [Act.put, List.setIfInBounds_toArray, List.set_cons_zero, List.set_cons_succ]
                    refine takeD 1 62 (v := ?v26) rfl rfl (by kernel_rfl) (by kernel_rfl) (by kernel_rfl) (fun _ _ _ h => h) (by kernel_rfl) ?hy26 (by assumption) ?r26
                    case hy26 => (intro W hSw; obtain ⟨t0, t1, t2, t3, t4, t5, t6⟩ := HT.out W hSw; go_simp; try with_reducible rfl)
                    simp only [Act.put, List.setIfInBounds_toArray, List.set_cons_zero, List.set_cons_succ]
                    refine takeD 2 63 (v := ?v27) rfl rfl (by kernel_rfl) (by kernel_rfl) (by kernel_rfl) (fun _ _ _ h => h) (by kernel_rfl) ?hy27 (by assumption) ?r27
                    case hy27 => (intro W hSw; obtain ⟨t0, t1, t2, t3, t4, t5, t6⟩ := HT.out W hSw; go_simp; try with_reducible rfl)
                    simp only [Act.put, List.setIfInBounds_toArray, List.set_cons_zero, List.set_cons_succ]
                    refine takeD 3 64 (v := ?v28) rfl rfl (by kernel_rfl) (by kernel_rfl) (by kernel_rfl) (fun _ _ _ h => h) (by kernel_rfl) ?hy28 (by assumption) ?r28
                    case hy28 => (intro W hSw; obtain ⟨t0, t1, t2, t3, t4, t5, t6⟩ := HT.out W hSw; go_simp; try with_reducible rfl)
                    simp only [Act.put, List.setIfInBounds_toArray, List.set_cons_zero, List.set_cons_succ]
                    refine takeD 4 65 (v := ?v29) rfl rfl (by kernel_rfl) (by kernel_rfl) (by kernel_rfl) (fun _ _ _ h => h) (by kernel_rfl) ?hy29 (by assumption) ?r29
                    case hy29 => (intro W hSw; obtain ⟨t0, t1, t2, t3, t4, t5, t6⟩ := HT.out W hSw; go_simp; try with_reducible rfl)
                    simp only [Act.put, List.setIfInBounds_toArray, List.set_cons_zero, List.set_cons_succ]
                    refine takeD 5 66 (v := ?v30) rfl rfl (by kernel_rfl) (by kernel_rfl) (by kernel_rfl) (fun _ _ _ h => h) (by kernel_rfl) ?hy30 (by assumption) ?r30
                    case hy30 => (intro W hSw; obtain ⟨t0, t1, t2, t3, t4, t5, t6⟩ := HT.out W hSw; go_simp; try with_reducible rfl)
                    simp only [Act.put, List.setIfInBounds_toArray, List.set_cons_zero, List.set_cons_succ]
                    refine takeD 6 67 (v := ?v31) rfl rfl (by kernel_rfl) (by kernel_rfl) (by kernel_rfl) (fun _ _ _ h => h) (by kernel_rfl) ?hy31 (by assumption) ?r31
                    case hy31 => (intro W hSw; obtain ⟨t0, t1, t2, t3, t4, t5, t6⟩ := HT.out W hSw; go_simp; try with_reducible rfl)
                    simp only [Act.put, List.setIfInBounds_toArray, List.set_cons_zero, List.set_cons_succ]
                    refine takeD 7 68 (v := ?v32) rfl rfl (by kernel_rfl) (by kernel_rfl) (by kernel_rfl) (fun _ _ _ h => h) (by kernel_rfl) ?hy32 (by assumption) ?r32
                    case hy32 => (intro W hSw; obtain ⟨t0, t1, t2, t3, t4, t5, t6⟩ := HT.out W hSw; go_simp; try with_reducible rfl)
                    simp only [Act.put, List.setIfInBounds_toArray, List.set_cons_zero, List.set_cons_succ]
                    refine takeD 8 69 (v := ?v33) rfl rfl (by kernel_rfl) (by kernel_rfl) (by kernel_rfl) (fun _ _ _ h => h) (by kernel_rfl) ?hy33 (by assumption) ?r33
                    case hy33 => (intro W hSw; obtain ⟨t0, t1, t2, t3, t4, t5, t6⟩ := HT.out W hSw; go_simp; try with_reducible rfl)
                    simp only [Act.put, List.setIfInBounds_toArray, List.set_cons_zero, List.set_cons_succ]
                    refine takeD 9 70 (v := ?v34) rfl rfl (by kernel_rfl) (by kernel_rfl) (by kernel_rfl) (fun _ _ _ h => h) (by kernel_rfl) ?hy34 (by assumption) ?r34
                    case hy34 => (intro W hSw; obtain ⟨t0, t1, t2, t3, t4, t5, t6⟩ := HT.out W hSw; go_simp; try with_reducible rfl)
                    simp only [Act.put, List.setIfInBounds_toArray, List.set_cons_zero, List.set_cons_succ]
                    refine takeD 10 71 (v := ?v35) rfl rfl (by kernel_rfl) (by kernel_rfl) (by kernel_rfl) (fun _ _ _ h => h) (by kernel_rfl) ?hy35 (by assumption) ?r35
                    case hy35 => (intro W hSw; obtain ⟨t0, t1, t2, t3, t4, t5, t6⟩ := HT.out W hSw; go_simp; try with_reducible rfl)
                    simp only [Act.put, List.setIfInBounds_toArray, List.set_cons_zero, List.set_cons_succ]
                    refine takeD 11 72 (v := ?v36) rfl rfl (by kernel_rfl) (by kernel_rfl) (by kernel_rfl) (fun _ _ _ h => h) (by kernel_rfl) ?hy36 (by assumption) ?r36
                    case hy36 => (intro W hSw; obtain ⟨t0, t1, t2, t3, t4, t5, t6⟩ := HT.out W hSw; go_simp; try with_reducible rfl)
                    simp only [Act.put, List.setIfInBounds_toArray, List.set_cons_zero, List.set_cons_succ]
                    refine wpAnyH_ready (rs := [12]) (by kernel_rfl) (by simp) ?_
                    refine AllReadyH.cons (o := _) rfl (fun K hK => ?_) AllReadyH.nil
                    go_simp
                    refine (HCL.out _ (by assumption) i k hlt (by omega) hr (HRR.out k (by omega))).mono ?_
                    rintro e w6 ⟨rfl, k6⟩
                    have hS6 := hbi.drew.trans (k6.mono hbi.drew.size)
                    go_wp2_with fail
                    refine hK.out _ _ hS6 (fun hHeld2 => ?_)
                    clear hK K hHeld
                    have hHeld := hHeld2
                    clear hHeld2
                    try simp only [Act.put, List.setIfInBounds_toArray, List.set_cons_zero, List.set_cons_succ]
                    clear k6
                    refine wpAnyH_done (by kernel_rfl) ?_ _
                    refine NoPanic.normal ?_
                    go_wp2
                    go_ret
                    exact ⟨ret_bool HF.out.symm, B1.out.trans (Below.mono hS6 B1.out.size)⟩
                  | false =>
                    have HU2 : Hid (upto (fun k => !CB i k) (k + 1) = true) := by show _ = _; rw [HPK.out, HUK.out]; show (true && !CB i k) = true; rw [hcb]; rfl
                    clear HPK HUK HFI
                    go_wp2
                    refine wp_region_noPanic ?_
                    refine wp_region_held_drew (S := (fun W => Below W1.heap.size W1 W)) (by kernel_rfl) hbi.drew (fun hHeld => ?_)
                    refine takeD 0 61 (v := ?v37) rfl rfl (by kernel_rfl) (by kernel_rfl) (by kernel_rfl) (fun _ _ _ h => h) (by kernel_rfl) ?hy37 (by assumption) ?r37
                    case hy37 => (intro W hSw; obtain ⟨t0, t1, t2, t3, t4, t5, t6⟩ := HT.out W hSw; go_simp; try with_reducible rfl)
                    simp only [Act.put, List.setIfInBounds_toArray, List.set_cons_zero, List.set_cons_succ]
                    refine takeD 1 62 (v := ?v38) rfl rfl (by kernel_rfl) (by kernel_rfl) (by kernel_rfl) (fun _ _ _ h => h) (by kernel_rfl) ?hy38 (by assumption) ?r38
                    case hy38 => (intro W hSw; obtain ⟨t0, t1, t2, t3, t4, t5, t6⟩ := HT.out W hSw; go_simp; try with_reducible rfl)
                    simp only [Act.put, List.setIfInBounds_toArray, List.set_cons_zero, List.set_cons_succ]
                    refine takeD 2 63 (v := ?v39) rfl rfl (by kernel_rfl) (by kernel_rfl) (by kernel_rfl) (fun _ _ _ h => h) (by kernel_rfl) ?hy39 (by assumption) ?r39
                    case hy39 => (intro W hSw; obtain ⟨t0, t1, t2, t3, t4, t5, t6⟩ := HT.out W hSw; go_simp; try with_reducible rfl)
                    simp only [Act.put, List.setIfInBounds_toArray, List.set_cons_zero, List.set_cons_succ]
                    refine takeD 3 64 (v := ?v40) rfl rfl (by kernel_rfl) (by kernel_rfl) (by kernel_rfl) (fun _ _ _ h => h) (by kernel_rfl) ?hy40 (by assumption) ?r40
                    case hy40 => (intro W hSw; obtain ⟨t0, t1, t2, t3, t4, t5, t6⟩ := HT.out W hSw; go_simp; try with_reducible rfl)
                    simp only [Act.put, List.setIfInBounds_toArray, List.set_cons_zero, List.set_cons_succ]
                    refine takeD 4 65 (v := ?v41) rfl rfl (by kernel_rfl) (by kernel_rfl) (by kernel_rfl) (fun _ _ _ h => h) (by kernel_rfl) ?hy41 (by assumption) ?r41
                    case hy41 => (intro W hSw; obtain ⟨t0, t1, t2, t3, t4, t5, t6⟩ := HT.out W hSw; go_simp; try with_reducible rfl)
                    simp only [Act.put, List.setIfInBounds_toArray, List.set_cons_zero, List.set_cons_succ]
                    refine takeD 5 66 (v := ?v42) rfl rfl (by kernel_rfl) (by kernel_rfl) (by kernel_rfl) (fun _ _ _ h => h) (by kernel_rfl) ?hy42 (by assumption) ?r42
                    case hy42 => (intro W hSw; obtain ⟨t0, t1, t2, t3, t4, t5, t6⟩ := HT.out W hSw; go_simp; try with_reducible rfl)
                    simp only [Act.put, List.setIfInBounds_toArray, List.set_cons_zero, List.set_cons_succ]
                    refine takeD 6 67 (v := ?v43) rfl rfl (by kernel_rfl) (by kernel_rfl) (by kernel_rfl) (fun _ _ _ h => h) (by kernel_rfl) ?hy43 (by assumption) ?r43
                    case hy43 => (intro W hSw; obtain ⟨t0, t1, t2, t3, t4, t5, t6⟩ := HT.out W hSw; go_simp; try with_reducible rfl)
                    simp only [Act.put, List.setIfInBounds_toArray, List.set_cons_zero, List.set_cons_succ]
                    refine takeD 7 68 (v := ?v44) rfl rfl (by kernel_rfl) (by kernel_rfl) (by kernel_rfl) (fun _ _ _ h => h) (by kernel_rfl) ?hy44 (by assumption) ?r44
                    case hy44 => (intro W hSw; obtain ⟨t0, t1, t2, t3, t4, t5, t6⟩ := HT.out W hSw; go_simp; try with_reducible rfl)
                    simp only [Act.put, List.setIfInBounds_toArray, List.set_cons_zero, List.set_cons_succ]
                    refine takeD 8 69 (v := ?v45) rfl rfl (by kernel_rfl) (by kernel_rfl) (by kernel_rfl) (fun _ _ _ h => h) (by kernel_rfl) ?hy45 (by assumption) ?r45
                    case hy45 => (intro W hSw; obtain ⟨t0, t1, t2, t3, t4, t5, t6⟩ := HT.out W hSw; go_simp; try with_reducible rfl)
                    simp only [Act.put, List.setIfInBounds_toArray, List.set_cons_zero, List.set_cons_succ]
                    refine takeD 9 70 (v := ?v46) rfl rfl (by kernel_rfl) (by kernel_rfl) (by kernel_rfl) (fun _ _ _ h => h) (by kernel_rfl) ?hy46 (by assumption) ?r46
                    case hy46 => (intro W hSw; obtain ⟨t0, t1, t2, t3, t4, t5, t6⟩ := HT.out W hSw; go_simp; try with_reducible rfl)
                    simp only [Act.put, List.setIfInBounds_toArray, List.set_cons_zero, List.set_cons_succ]
                    refine takeD 10 71 (v := ?v47) rfl rfl (by kernel_rfl) (by kernel_rfl) (by kernel_rfl) (fun _ _ _ h => h) (by kernel_rfl) ?hy47 (by assumption) ?r47
                    case hy47 => (intro W hSw; obtain ⟨t0, t1, t2, t3, t4, t5, t6⟩ := HT.out W hSw; go_simp; try with_reducible rfl)
                    simp only [Act.put, List.setIfInBounds_toArray, List.set_cons_zero, List.set_cons_succ]
                    refine takeD 11 72 (v := ?v48) rfl rfl (by kernel_rfl) (by kernel_rfl) (by kernel_rfl) (fun _ _ _ h => h) (by kernel_rfl) ?hy48 (by assumption) ?r48
                    case hy48 => (intro W hSw; obtain ⟨t0, t1, t2, t3, t4, t5, t6⟩ := HT.out W hSw; go_simp; try with_reducible rfl)
                    simp only [Act.put, List.setIfInBounds_toArray, List.set_cons_zero, List.set_cons_succ]
                    refine wpAnyH_ready (rs := [12]) (by kernel_rfl) (by simp) ?_
                    refine AllReadyH.cons (o := _) rfl (fun K hK => ?_) AllReadyH.nil
                    go_simp
                    refine (HCL.out _ (by assumption) i k hlt (by omega) hr (HRR.out k (by omega))).mono ?_
                    rintro e w6 ⟨rfl, k6⟩
                    have hS6 := hbi.drew.trans (k6.mono hbi.drew.size)
                    go_wp2_with fail
                    refine hK.out _ _ hS6 (fun hHeld2 => ?_)
                    clear hK K hHeld
                    have hHeld := hHeld2
                    clear hHeld2
                    try simp only [Act.put, List.setIfInBounds_toArray, List.set_cons_zero, List.set_cons_succ]
                    clear k6
                    refine wpAnyH_done (by kernel_rfl) ?_ _
                    refine NoPanic.normal ?_
                    clear HT
                    go_wp2
                    go_roundw
                    case rel => exact ⟨k + 1, by omega, by go_num, HU2, hS6⟩
                    case measure => simp [intOf]; omega
                · obtain rfl : k = i := by omega
                  have HU3 : Hid (upto RA (k + 1) = true) := by show _ = _; rw [HP.out, HU.out, HRA.out, hr, HUK.out, HLE.out]; rfl
                  have HR3 : Hid (∀ j, j < k + 1 → RO j = true) := fun j hj => by
                    by_cases hjk : j = k
                    · rw [hjk]; exact hr
                    · exact HRR.out j (by omega)
                  clear HFI HP HU HUK HRR HLE
                  go_wp2
                  go_roundw
                  case rel => exact ⟨k + 1, by omega, by go_num, HU3, HR3, hbi⟩
                  case measure => simp [intOf]; omega
            · obtain ⟨m, hm⟩ : ∃ m, i = m + 1 := ⟨i - 1, by omega⟩
              have HT := hide (show ∀ W, Below W1.heap.size W1 W → W.cell? ⟨w.heap.size, 0, none⟩ = some (.string nm) ∧ W.cell? ⟨w.heap.size, 1, none⟩ = some (.slice a1 n1 c1) ∧ W.cell? ⟨w.heap.size, 2, none⟩ = some (.slice a2 n2 c2) ∧ W.cell? ⟨w.heap.size, 3, none⟩ = some (.slice a3 n3 c3) ∧ W.cell? ⟨w.heap.size, 4, none⟩ = some (.slice (some ⟨b4, o4, none⟩) l.length c4) ∧ W.cell? ⟨b4, o4 + i, none⟩ = some (.slice (V i).1 (V i).2.1 (V i).2.2) ∧ W.cell? ⟨b4, o4 + m, none⟩ = some (.slice (V m).1 (V m).2.1 (V m).2.2) from fun W hW => by
                obtain ⟨q0, q1, q2, q3, q4⟩ := HT0.out W hW
                exact ⟨q0, q1, q2, q3, q4, hcell W hW i hlt, hcell W hW m (by omega)⟩)
              have hi0m : (0 : Int) ≤ (m : Int) := by omega
              have hi1m : (m : Int) < (l.length : Int) := by omega
              have htm := (Int.toNat_natCast m)
              have hw1 : IntKind.i64.wrap ((i : Int) - 1) = (m : Int) := by rw [show (i : Int) - 1 = (m : Int) by omega]; rw [IntKind.wrap_i64]; omega
              have hd0 : decide ((i : Int) > 0) = true := decide_eq_true (by omega)
              have hd1 : decide ((0 : Int) < (i : Int)) = true := decide_eq_true (by omega)
              have hd2 : decide (0 < i) = true := decide_eq_true (by omega)
              have hrp := HRR.out m (by omega)
              have HLEQ : Hid ((decide (i = 0) || decide (cmpL (KL (i - 1)) (KL i) < 0)) = decide (cmpL (KL m) (KL i) < 0)) := by show _ = _; rw [decide_eq_false hz0, show i - 1 = m by omega]; rfl
              clear hm hz0
              by_cases hc : cmpL (KL m) (KL i) < 0
              · have HLE : Hid ((decide (i = 0) || decide (cmpL (KL (i - 1)) (KL i) < 0)) = true) := by show _ = _; rw [HLEQ.out, decide_eq_true hc]
                have hg0 : decide (cmpL (KL m) (KL i) ≥ 0) = false := decide_eq_false (by omega)
                have hg1 : decide ((0 : Int) ≤ cmpL (KL m) (KL i)) = false := decide_eq_false (by omega)
                clear HLEQ
                go_wp2
                refine wp_region_noPanic ?_
                refine wp_region_held_drew (S := (fun W => Below W1.heap.size W1 W)) (by kernel_rfl) hbw.drew (fun hHeld => ?_)
                refine takeD 0 22 (v := ?v49) rfl rfl (by kernel_rfl) (by kernel_rfl) (by kernel_rfl) (fun _ _ _ h => h) (by kernel_rfl) ?hy49 (by assumption) ?r49
                case hy49 => (intro W hSw; obtain ⟨t0, t1, t2, t3, t4, t5, t6⟩ := HT.out W hSw; go_simp; try with_reducible rfl)
                simp only [Act.put, List.setIfInBounds_toArray, List.set_cons_zero, List.set_cons_succ]
                refine takeD 1 23 (v := ?v50) rfl rfl (by kernel_rfl) (by kernel_rfl) (by kernel_rfl) (fun _ _ _ h => h) (by kernel_rfl) ?hy50 (by assumption) ?r50
                case hy50 => (intro W hSw; obtain ⟨t0, t1, t2, t3, t4, t5, t6⟩ := HT.out W hSw; go_simp; try with_reducible rfl)
                simp only [Act.put, List.setIfInBounds_toArray, List.set_cons_zero, List.set_cons_succ]
                refine takeD 2 24 (v := ?v51) rfl rfl (by kernel_rfl) (by kernel_rfl) (by kernel_rfl) (fun _ _ _ h => h) (by kernel_rfl) ?hy51 (by assumption) ?r51
                case hy51 => (intro W hSw; obtain ⟨t0, t1, t2, t3, t4, t5, t6⟩ := HT.out W hSw; go_simp; try with_reducible rfl)
                simp only [Act.put, List.setIfInBounds_toArray, List.set_cons_zero, List.set_cons_succ]
                refine takeD 3 25 (v := ?v52) rfl rfl (by kernel_rfl) (by kernel_rfl) (by kernel_rfl) (fun _ _ _ h => h) (by kernel_rfl) ?hy52 (by assumption) ?r52
                case hy52 => (intro W hSw; obtain ⟨t0, t1, t2, t3, t4, t5, t6⟩ := HT.out W hSw; go_simp; try with_reducible rfl)
                simp only [Act.put, List.setIfInBounds_toArray, List.set_cons_zero, List.set_cons_succ]
                refine takeD 4 26 (v := ?v53) rfl rfl (by kernel_rfl) (by kernel_rfl) (by kernel_rfl) (fun _ _ _ h => h) (by kernel_rfl) ?hy53 (by assumption) ?r53
                case hy53 => (intro W hSw; obtain ⟨t0, t1, t2, t3, t4, t5, t6⟩ := HT.out W hSw; go_simp; try with_reducible rfl)
                simp only [Act.put, List.setIfInBounds_toArray, List.set_cons_zero, List.set_cons_succ]
                refine takeD 5 27 (v := ?v54) rfl rfl (by kernel_rfl) (by kernel_rfl) (by kernel_rfl) (fun _ _ _ h => h) (by kernel_rfl) ?hy54 (by assumption) ?r54
                case hy54 => (intro W hSw; obtain ⟨t0, t1, t2, t3, t4, t5, t6⟩ := HT.out W hSw; go_simp; try with_reducible rfl)
                simp only [Act.put, List.setIfInBounds_toArray, List.set_cons_zero, List.set_cons_succ]
                refine takeD 6 28 (v := ?v55) rfl rfl (by kernel_rfl) (by kernel_rfl) (by kernel_rfl) (fun _ _ _ h => h) (by kernel_rfl) ?hy55 (by assumption) ?r55
                case hy55 => (intro W hSw; obtain ⟨t0, t1, t2, t3, t4, t5, t6⟩ := HT.out W hSw; go_simp; try with_reducible rfl)
                simp only [Act.put, List.setIfInBounds_toArray, List.set_cons_zero, List.set_cons_succ]
                refine wpAnyH_ready (rs := [7]) (by kernel_rfl) (by simp) ?_
                refine AllReadyH.cons (o := _) rfl (fun K hK => ?_) AllReadyH.nil
                go_simp
                refine (HROW.out _ (by assumption) i hlt).mono ?_
                rintro e w2 ⟨rfl, k2⟩
                have hS2 := hbw.drew.trans (k2.mono hbw.drew.size)
                rw [hr]
                go_wp2_with fail
                refine hK.out _ _ hS2 (fun hHeld2 => ?_)
                clear hK K hHeld
                have hHeld := hHeld2
                clear hHeld2
                try simp only [Act.put, List.setIfInBounds_toArray, List.set_cons_zero, List.set_cons_succ]
                clear k2
                refine takeD 8 30 (v := ?v56) rfl rfl (by kernel_rfl) (by kernel_rfl) (by kernel_rfl) (fun _ _ _ h => h) (by kernel_rfl) ?hy56 (by assumption) ?r56
                case hy56 => (intro W hSw; obtain ⟨t0, t1, t2, t3, t4, t5, t6⟩ := HT.out W hSw; go_simp; try with_reducible rfl)
                simp only [Act.put, List.setIfInBounds_toArray, List.set_cons_zero, List.set_cons_succ]
                refine takeD 9 31 (v := ?v57) rfl rfl (by kernel_rfl) (by kernel_rfl) (by kernel_rfl) (fun _ _ _ h => h) (by kernel_rfl) ?hy57 (by assumption) ?r57
                case hy57 => (intro W hSw; obtain ⟨t0, t1, t2, t3, t4, t5, t6⟩ := HT.out W hSw; go_simp; try with_reducible rfl)
                simp only [Act.put, List.setIfInBounds_toArray, List.set_cons_zero, List.set_cons_succ]
                refine takeD 10 32 (v := ?v58) rfl rfl (by kernel_rfl) (by kernel_rfl) (by kernel_rfl) (fun _ _ _ h => h) (by kernel_rfl) ?hy58 (by assumption) ?r58
                case hy58 => (intro W hSw; obtain ⟨t0, t1, t2, t3, t4, t5, t6⟩ := HT.out W hSw; go_simp; try with_reducible rfl)
                simp only [Act.put, List.setIfInBounds_toArray, List.set_cons_zero, List.set_cons_succ]
                refine takeD 11 33 (v := ?v59) rfl rfl (by kernel_rfl) (by kernel_rfl) (by kernel_rfl) (fun _ _ _ h => h) (by kernel_rfl) ?hy59 (by assumption) ?r59
                case hy59 => (intro W hSw; obtain ⟨t0, t1, t2, t3, t4, t5, t6⟩ := HT.out W hSw; go_simp; try with_reducible rfl)
                simp only [Act.put, List.setIfInBounds_toArray, List.set_cons_zero, List.set_cons_succ]
                refine takeD 12 34 (v := ?v60) rfl rfl (by kernel_rfl) (by kernel_rfl) (by kernel_rfl) (fun _ _ _ h => h) (by kernel_rfl) ?hy60 (by assumption) ?r60
                case hy60 => (intro W hSw; obtain ⟨t0, t1, t2, t3, t4, t5, t6⟩ := HT.out W hSw; go_simp; try with_reducible rfl)
                simp only [Act.put, List.setIfInBounds_toArray, List.set_cons_zero, List.set_cons_succ]
                refine takeD 13 35 (v := ?v61) rfl rfl (by kernel_rfl) (by kernel_rfl) (by kernel_rfl) (fun _ _ _ h => h) (by kernel_rfl) ?hy61 (by assumption) ?r61
                case hy61 => (intro W hSw; obtain ⟨t0, t1, t2, t3, t4, t5, t6⟩ := HT.out W hSw; go_simp; try with_reducible rfl)
                simp only [Act.put, List.setIfInBounds_toArray, List.set_cons_zero, List.set_cons_succ]
                refine takeD 14 36 (v := ?v62) rfl rfl (by kernel_rfl) (by kernel_rfl) (by kernel_rfl) (fun _ _ _ h => h) (by kernel_rfl) ?hy62 (by assumption) ?r62
                case hy62 => (intro W hSw; obtain ⟨t0, t1, t2, t3, t4, t5, t6⟩ := HT.out W hSw; go_simp; try with_reducible rfl)
                simp only [Act.put, List.setIfInBounds_toArray, List.set_cons_zero, List.set_cons_succ]
                refine takeD 15 37 (v := ?v63) rfl rfl (by kernel_rfl) (by kernel_rfl) (by kernel_rfl) (fun _ _ _ h => h) (by kernel_rfl) ?hy63 (by assumption) ?r63
                case hy63 => (intro W hSw; obtain ⟨t0, t1, t2, t3, t4, t5, t6⟩ := HT.out W hSw; go_simp; try with_reducible rfl)
                simp only [Act.put, List.setIfInBounds_toArray, List.set_cons_zero, List.set_cons_succ]
                refine takeD 16 38 (v := ?v64) rfl rfl (by kernel_rfl) (by kernel_rfl) (by kernel_rfl) (fun _ _ _ h => h) (by kernel_rfl) ?hy64 (by assumption) ?r64
                case hy64 => (intro W hSw; obtain ⟨t0, t1, t2, t3, t4, t5, t6⟩ := HT.out W hSw; go_simp; try with_reducible rfl)
                simp only [Act.put, List.setIfInBounds_toArray, List.set_cons_zero, List.set_cons_succ]
                refine takeD 17 39 (v := ?v65) rfl rfl (by kernel_rfl) (by kernel_rfl) (by kernel_rfl) (fun _ _ _ h => h) (by kernel_rfl) ?hy65 (by assumption) ?r65
                case hy65 => (intro W hSw; obtain ⟨t0, t1, t2, t3, t4, t5, t6⟩ := HT.out W hSw; go_simp; try with_reducible rfl)
                simp only [Act.put, List.setIfInBounds_toArray, List.set_cons_zero, List.set_cons_succ]
                refine takeD 18 40 (v := ?v66) rfl rfl (by kernel_rfl) (by kernel_rfl) (by kernel_rfl) (fun _ _ _ h => h) (by kernel_rfl) ?hy66 (by assumption) ?r66
                case hy66 => (intro W hSw; obtain ⟨t0, t1, t2, t3, t4, t5, t6⟩ := HT.out W hSw; go_simp; try with_reducible rfl)
                simp only [Act.put, List.setIfInBounds_toArray, List.set_cons_zero, List.set_cons_succ]
                refine takeD 19 41 (v := ?v67) rfl rfl (by kernel_rfl) (by kernel_rfl) (by kernel_rfl) (fun _ _ _ h => h) (by kernel_rfl) ?hy67 (by assumption) ?r67
                case hy67 => (intro W hSw; obtain ⟨t0, t1, t2, t3, t4, t5, t6⟩ := HT.out W hSw; go_simp; try with_reducible rfl)
                simp only [Act.put, List.setIfInBounds_toArray, List.set_cons_zero, List.set_cons_succ]
                refine takeD 20 42 (v := ?v68) rfl rfl (by kernel_rfl) (by kernel_rfl) (by kernel_rfl) (fun _ _ _ h => h) (by kernel_rfl) ?hy68 (by assumption) ?r68
                case hy68 => (intro W hSw; obtain ⟨t0, t1, t2, t3, t4, t5, t6⟩ := HT.out W hSw; go_simp; try with_reducible rfl)
                simp only [Act.put, List.setIfInBounds_toArray, List.set_cons_zero, List.set_cons_succ]
                refine takeD 22 44 (v := ?v69) rfl rfl (by kernel_rfl) (by kernel_rfl) (by kernel_rfl) (fun _ _ _ h => h) (by kernel_rfl) ?hy69 (by assumption) ?r69
                case hy69 => (intro W hSw; obtain ⟨t0, t1, t2, t3, t4, t5, t6⟩ := HT.out W hSw; go_simp; try with_reducible rfl)
                simp only [Act.put, List.setIfInBounds_toArray, List.set_cons_zero, List.set_cons_succ]
                refine takeD 23 45 (v := ?v70) rfl rfl (by kernel_rfl) (by kernel_rfl) (by kernel_rfl) (fun _ _ _ h => h) (by kernel_rfl) ?hy70 (by assumption) ?r70
                case hy70 => (intro W hSw; obtain ⟨t0, t1, t2, t3, t4, t5, t6⟩ := HT.out W hSw; go_simp; try with_reducible rfl)
                simp only [Act.put, List.setIfInBounds_toArray, List.set_cons_zero, List.set_cons_succ]
                refine takeD 24 46 (v := ?v71) rfl rfl (by kernel_rfl) (by kernel_rfl) (by kernel_rfl) (fun _ _ _ h => h) (by kernel_rfl) ?hy71 (by assumption) ?r71
                case hy71 => (intro W hSw; obtain ⟨t0, t1, t2, t3, t4, t5, t6⟩ := HT.out W hSw; go_simp; try with_reducible rfl)
                simp only [Act.put, List.setIfInBounds_toArray, List.set_cons_zero, List.set_cons_succ]
                refine takeD 25 47 (v := ?v72) rfl rfl (by kernel_rfl) (by kernel_rfl) (by kernel_rfl) (fun _ _ _ h => h) (by kernel_rfl) ?hy72 (by assumption) ?r72
                case hy72 => (intro W hSw; obtain ⟨t0, t1, t2, t3, t4, t5, t6⟩ := HT.out W hSw; go_simp; try with_reducible rfl)
                simp only [Act.put, List.setIfInBounds_toArray, List.set_cons_zero, List.set_cons_succ]
                refine takeD 26 48 (v := ?v73) rfl rfl (by kernel_rfl) (by kernel_rfl) (by kernel_rfl) (fun _ _ _ h => h) (by kernel_rfl) ?hy73 (by assumption) ?r73
                case hy73 => (intro W hSw; obtain ⟨t0, t1, t2, t3, t4, t5, t6⟩ := HT.out W hSw; go_simp; try with_reducible rfl)
                simp only [Act.put, List.setIfInBounds_toArray, List.set_cons_zero, List.set_cons_succ]
                refine takeD 27 49 (v := ?v74) rfl rfl (by kernel_rfl) (by kernel_rfl) (by kernel_rfl) (fun _ _ _ h => h) (by kernel_rfl) ?hy74 (by assumption) ?r74
                case hy74 => (intro W hSw; obtain ⟨t0, t1, t2, t3, t4, t5, t6⟩ := HT.out W hSw; go_simp; try with_reducible rfl)
                simp only [Act.put, List.setIfInBounds_toArray, List.set_cons_zero, List.set_cons_succ]
                refine takeD 28 50 (v := ?v75) rfl rfl (by kernel_rfl) (by kernel_rfl) (by kernel_rfl) (fun _ _ _ h => h) (by kernel_rfl) ?hy75 (by assumption) ?r75
                case hy75 => (intro W hSw; obtain ⟨t0, t1, t2, t3, t4, t5, t6⟩ := HT.out W hSw; go_simp; try with_reducible rfl)
                simp only [Act.put, List.setIfInBounds_toArray, List.set_cons_zero, List.set_cons_succ]
                refine wpAnyH_ready (rs := [21]) (by kernel_rfl) (by simp) ?_
                refine AllReadyH.cons (o := _) rfl (fun K hK => ?_) AllReadyH.nil
                go_simp
                refine (HKEY.out _ (by assumption) m (by omega) hrp).mono ?_
                rintro e w3 ⟨po, pc, rfl, hp3, k3⟩
                have hS3 := hS2.trans (k3.mono hS2.size)
                go_wp2_with fail
                refine hK.out _ _ hS3 (fun hHeld2 => ?_)
                clear hK K hHeld
                have hHeld := hHeld2
                clear hHeld2
                try simp only [Act.put, List.setIfInBounds_toArray, List.set_cons_zero, List.set_cons_succ]
                refine wpAnyH_ready (rs := [29]) (by kernel_rfl) (by simp) ?_
                refine AllReadyH.cons (o := _) rfl (fun K hK => ?_) AllReadyH.nil
                go_simp
                refine (HKEY.out _ (by assumption) i hlt hr).mono ?_
                rintro e w4 ⟨qo, qc, rfl, hp4, k4⟩
                have hS4 := hS3.trans (k4.mono hS3.size)
                go_wp2_with fail
                refine hK.out _ _ hS4 (fun hHeld2 => ?_)
                clear hK K hHeld
                have hHeld := hHeld2
                clear hHeld2
                try simp only [Act.put, List.setIfInBounds_toArray, List.set_cons_zero, List.set_cons_succ]
                refine wpAnyH_ready (rs := [30]) (by kernel_rfl) (by simp) ?_
                refine AllReadyH.cons (o := _) rfl (fun K hK => ?_) AllReadyH.nil
                go_simp
                refine (l02Compare_any po pc (KL m) qo qc (KL i) w4 (HKL'.out _) (HKL'.out _) ((hp3.kept k4).mono k4.size) hp4).mono ?_
                rintro e w5 ⟨rfl, k5⟩
                have hS5 := hS4.trans (k5.mono hS4.size)
                go_wp2_with fail
                refine hK.out _ _ hS5 (fun hHeld2 => ?_)
                clear hK K hHeld
                have hHeld := hHeld2
                clear hHeld2
                try simp only [Act.put, List.setIfInBounds_toArray, List.set_cons_zero, List.set_cons_succ]
                refine takeD 31 53 (v := ?v76) rfl rfl (by kernel_rfl) (by kernel_rfl) (by kernel_rfl) (fun _ _ _ h => h) (by kernel_rfl) ?hy76 (by assumption) ?r76
                case hy76 => (intro W hSw; obtain ⟨t0, t1, t2, t3, t4, t5, t6⟩ := HT.out W hSw; go_simp; try with_reducible rfl)
                simp only [Act.put, List.setIfInBounds_toArray, List.set_cons_zero, List.set_cons_succ]
                refine takeD 32 54 (v := ?v77) rfl rfl (by kernel_rfl) (by kernel_rfl) (by kernel_rfl) (fun _ _ _ h => h) (by kernel_rfl) ?hy77 (by assumption) ?r77
                case hy77 => (intro W hSw; obtain ⟨t0, t1, t2, t3, t4, t5, t6⟩ := HT.out W hSw; go_simp; try with_reducible rfl)
                simp only [Act.put, List.setIfInBounds_toArray, List.set_cons_zero, List.set_cons_succ]
                refine takeD 33 55 (v := ?v78) rfl rfl (by kernel_rfl) (by kernel_rfl) (by kernel_rfl) (fun _ _ _ h => h) (by kernel_rfl) ?hy78 (by assumption) ?r78
                case hy78 => (intro W hSw; obtain ⟨t0, t1, t2, t3, t4, t5, t6⟩ := HT.out W hSw; go_simp; try with_reducible rfl)
                simp only [Act.put, List.setIfInBounds_toArray, List.set_cons_zero, List.set_cons_succ]
                refine wpAnyH_done (by kernel_rfl) ?_ _
                refine NoPanic.normal ?_
                clear HT hd0 hd1 hd2 hg0 hg1 hw1 hc hp3 hp4 k3 k4 k5 hrp
                go_wp2
                go_loopw [4] (fun v wi => ∃ k : Nat, k ≤ i ∧ v = .int .i64 k ∧ Hid (upto (fun k => !CB i k) k = true) ∧ Below W1.heap.size W1 wi) (fun v _ => i - (intOf v).toNat)
                case atStart => exact ⟨0, Nat.zero_le _, rfl, rfl, hS5⟩
                case round =>
                  obtain ⟨k, hk, rfl, HUK, hbi⟩ := hrel
                  by_cases hki : k < i
                  · have HPK := hide (upto_succ (fun k => !CB i k) k)
                    have HT := hide (show ∀ W, Below W1.heap.size W1 W → W.cell? ⟨w.heap.size, 0, none⟩ = some (.string nm) ∧ W.cell? ⟨w.heap.size, 1, none⟩ = some (.slice a1 n1 c1) ∧ W.cell? ⟨w.heap.size, 2, none⟩ = some (.slice a2 n2 c2) ∧ W.cell? ⟨w.heap.size, 3, none⟩ = some (.slice a3 n3 c3) ∧ W.cell? ⟨w.heap.size, 4, none⟩ = some (.slice (some ⟨b4, o4, none⟩) l.length c4) ∧ W.cell? ⟨b4, o4 + i, none⟩ = some (.slice (V i).1 (V i).2.1 (V i).2.2) ∧ W.cell? ⟨b4, o4 + k, none⟩ = some (.slice (V k).1 (V k).2.1 (V k).2.2) from fun W hW => by
                      obtain ⟨q0, q1, q2, q3, q4⟩ := HT0.out W hW
                      exact ⟨q0, q1, q2, q3, q4, hcell W hW i hlt, hcell W hW k (by omega)⟩)
                    have hi0k : (0 : Int) ≤ (k : Int) := by omega
                    have hi1k : (k : Int) < (l.length : Int) := by omega
                    have htk := (Int.toNat_natCast k)
                    cases hcb : CB i k with
                    | true =>
                      have hu0 : upto (fun k => !CB i k) i = false := upto_false hki (by show (!CB i k) = false; rw [hcb]; rfl)
                      have HF := hide (HFI.out (by rw [HRA.out, hu0]; simp))
                      clear hu0
                      clear HPK HUK HFI
                      go_wp2
                      refine wp_region_noPanic ?_
                      refine wp_region_held_drew (S := (fun W => Below W1.heap.size W1 W)) (by kernel_rfl) hbi.drew (fun hHeld => ?_)
                      refine takeD 0 61 (v := ?v79) rfl rfl (by kernel_rfl) (by kernel_rfl) (by kernel_rfl) (fun _ _ _ h => h) (by kernel_rfl) ?hy79 (by assumption) ?r79
                      case hy79 => (intro W hSw; obtain ⟨t0, t1, t2, t3, t4, t5, t6⟩ := HT.out W hSw; go_simp; try with_reducible rfl)
                      simp only [Act.put, List.setIfInBounds_toArray, List.set_cons_zero, List.set_cons_succ]
                      refine takeD 1 62 (v := ?v80) rfl rfl (by kernel_rfl) (by kernel_rfl) (by kernel_rfl) (fun _ _ _ h => h) (by kernel_rfl) ?hy80 (by assumption) ?r80
                      case hy80 => (intro W hSw; obtain ⟨t0, t1, t2, t3, t4, t5, t6⟩ := HT.out W hSw; go_simp; try with_reducible rfl)
                      simp only [Act.put, List.setIfInBounds_toArray, List.set_cons_zero, List.set_cons_succ]
                      refine takeD 2 63 (v := ?v81) rfl rfl (by kernel_rfl) (by kernel_rfl) (by kernel_rfl) (fun _ _ _ h => h) (by kernel_rfl) ?hy81 (by assumption) ?r81
                      case hy81 => (intro W hSw; obtain ⟨t0, t1, t2, t3, t4, t5, t6⟩ := HT.out W hSw; go_simp; try with_reducible rfl)
                      simp only [Act.put, List.setIfInBounds_toArray, List.set_cons_zero, List.set_cons_succ]
                      refine takeD 3 64 (v := ?v82) rfl rfl (by kernel_rfl) (by kernel_rfl) (by kernel_rfl) (fun _ _ _ h => h) (by kernel_rfl) ?hy82 (by assumption) ?r82
                      case hy82 => (intro W hSw; obtain ⟨t0, t1, t2, t3, t4, t5, t6⟩ := HT.out W hSw; go_simp; try with_reducible rfl)
                      simp only [Act.put, List.setIfInBounds_toArray, List.set_cons_zero, List.set_cons_succ]
                      refine takeD 4 65 (v := ?v83) rfl rfl (by kernel_rfl) (by kernel_rfl) (by kernel_rfl) (fun _ _ _ h => h) (by kernel_rfl) ?hy83 (by assumption) ?r83
                      case hy83 => (intro W hSw; obtain ⟨t0, t1, t2, t3, t4, t5, t6⟩ := HT.out W hSw; go_simp; try with_reducible rfl)
                      simp only [Act.put, List.setIfInBounds_toArray, List.set_cons_zero, List.set_cons_succ]
                      refine takeD 5 66 (v := ?v84) rfl rfl (by kernel_rfl) (by kernel_rfl) (by kernel_rfl) (fun _ _ _ h => h) (by kernel_rfl) ?hy84 (by assumption) ?r84
                      case hy84 => (intro W hSw; obtain ⟨t0, t1, t2, t3, t4, t5, t6⟩ := HT.out W hSw; go_simp; try with_reducible rfl)
                      simp only [Act.put, List.setIfInBounds_toArray, List.set_cons_zero, List.set_cons_succ]
                      refine takeD 6 67 (v := ?v85) rfl rfl (by kernel_rfl) (by kernel_rfl) (by kernel_rfl) (fun _ _ _ h => h) (by kernel_rfl) ?hy85 (by assumption) ?r85
                      case hy85 => (intro W hSw; obtain ⟨t0, t1, t2, t3, t4, t5, t6⟩ := HT.out W hSw; go_simp; try with_reducible rfl)
                      simp only [Act.put, List.setIfInBounds_toArray, List.set_cons_zero, List.set_cons_succ]
                      refine takeD 7 68 (v := ?v86) rfl rfl (by kernel_rfl) (by kernel_rfl) (by kernel_rfl) (fun _ _ _ h => h) (by kernel_rfl) ?hy86 (by assumption) ?r86
                      case hy86 => (intro W hSw; obtain ⟨t0, t1, t2, t3, t4, t5, t6⟩ := HT.out W hSw; go_simp; try with_reducible rfl)
                      simp only [Act.put, List.setIfInBounds_toArray, List.set_cons_zero, List.set_cons_succ]
                      refine takeD 8 69 (v := ?v87) rfl rfl (by kernel_rfl) (by kernel_rfl) (by kernel_rfl) (fun _ _ _ h => h) (by kernel_rfl) ?hy87 (by assumption) ?r87
                      case hy87 => (intro W hSw; obtain ⟨t0, t1, t2, t3, t4, t5, t6⟩ := HT.out W hSw; go_simp; try with_reducible rfl)
                      simp only [Act.put, List.setIfInBounds_toArray, List.set_cons_zero, List.set_cons_succ]
                      refine takeD 9 70 (v := ?v88) rfl rfl (by kernel_rfl) (by kernel_rfl) (by kernel_rfl) (fun _ _ _ h => h) (by kernel_rfl) ?hy88 (by assumption) ?r88
                      case hy88 => (intro W hSw; obtain ⟨t0, t1, t2, t3, t4, t5, t6⟩ := HT.out W hSw; go_simp; try with_reducible rfl)
                      simp only [Act.put, List.setIfInBounds_toArray, List.set_cons_zero, List.set_cons_succ]
                      refine takeD 10 71 (v := ?v89) rfl rfl (by kernel_rfl) (by kernel_rfl) (by kernel_rfl) (fun _ _ _ h => h) (by kernel_rfl) ?hy89 (by assumption) ?r89
                      case hy89 => (intro W hSw; obtain ⟨t0, t1, t2, t3, t4, t5, t6⟩ := HT.out W hSw; go_simp; try with_reducible rfl)
                      simp only [Act.put, List.setIfInBounds_toArray, List.set_cons_zero, List.set_cons_succ]
                      refine takeD 11 72 (v := ?v90) rfl rfl (by kernel_rfl) (by kernel_rfl) (by kernel_rfl) (fun _ _ _ h => h) (by kernel_rfl) ?hy90 (by assumption) ?r90
                      case hy90 => (intro W hSw; obtain ⟨t0, t1, t2, t3, t4, t5, t6⟩ := HT.out W hSw; go_simp; try with_reducible rfl)
                      simp only [Act.put, List.setIfInBounds_toArray, List.set_cons_zero, List.set_cons_succ]
                      refine wpAnyH_ready (rs := [12]) (by kernel_rfl) (by simp) ?_
                      refine AllReadyH.cons (o := _) rfl (fun K hK => ?_) AllReadyH.nil
                      go_simp
                      refine (HCL.out _ (by assumption) i k hlt (by omega) hr (HRR.out k (by omega))).mono ?_
                      rintro e w6 ⟨rfl, k6⟩
                      have hS6 := hbi.drew.trans (k6.mono hbi.drew.size)
                      go_wp2_with fail
                      refine hK.out _ _ hS6 (fun hHeld2 => ?_)
                      clear hK K hHeld
                      have hHeld := hHeld2
                      clear hHeld2
                      try simp only [Act.put, List.setIfInBounds_toArray, List.set_cons_zero, List.set_cons_succ]
                      clear k6
                      refine wpAnyH_done (by kernel_rfl) ?_ _
                      refine NoPanic.normal ?_
                      go_wp2
                      go_ret
                      exact ⟨ret_bool HF.out.symm, B1.out.trans (Below.mono hS6 B1.out.size)⟩
                    | false =>
                      have HU2 : Hid (upto (fun k => !CB i k) (k + 1) = true) := by show _ = _; rw [HPK.out, HUK.out]; show (true && !CB i k) = true; rw [hcb]; rfl
                      clear HPK HUK HFI
                      go_wp2
                      refine wp_region_noPanic ?_
                      refine wp_region_held_drew (S := (fun W => Below W1.heap.size W1 W)) (by kernel_rfl) hbi.drew (fun hHeld => ?_)
                      refine takeD 0 61 (v := ?v91) rfl rfl (by kernel_rfl) (by kernel_rfl) (by kernel_rfl) (fun _ _ _ h => h) (by kernel_rfl) ?hy91 (by assumption) ?r91
                      case hy91 => (intro W hSw; obtain ⟨t0, t1, t2, t3, t4, t5, t6⟩ := HT.out W hSw; go_simp; try with_reducible rfl)
                      simp only [Act.put, List.setIfInBounds_toArray, List.set_cons_zero, List.set_cons_succ]
                      refine takeD 1 62 (v := ?v92) rfl rfl (by kernel_rfl) (by kernel_rfl) (by kernel_rfl) (fun _ _ _ h => h) (by kernel_rfl) ?hy92 (by assumption) ?r92
                      case hy92 => (intro W hSw; obtain ⟨t0, t1, t2, t3, t4, t5, t6⟩ := HT.out W hSw; go_simp; try with_reducible rfl)
                      simp only [Act.put, List.setIfInBounds_toArray, List.set_cons_zero, List.set_cons_succ]
                      refine takeD 2 63 (v := ?v93) rfl rfl (by kernel_rfl) (by kernel_rfl) (by kernel_rfl) (fun _ _ _ h => h) (by kernel_rfl) ?hy93 (by assumption) ?r93
                      case hy93 => (intro W hSw; obtain ⟨t0, t1, t2, t3, t4, t5, t6⟩ := HT.out W hSw; go_simp; try with_reducible rfl)
                      simp only [Act.put, List.setIfInBounds_toArray, List.set_cons_zero, List.set_cons_succ]
                      refine takeD 3 64 (v := ?v94) rfl rfl (by kernel_rfl) (by kernel_rfl) (by kernel_rfl) (fun _ _ _ h => h) (by kernel_rfl) ?hy94 (by assumption) ?r94
                      case hy94 => (intro W hSw; obtain ⟨t0, t1, t2, t3, t4, t5, t6⟩ := HT.out W hSw; go_simp; try with_reducible rfl)
                      simp only [Act.put, List.setIfInBounds_toArray, List.set_cons_zero, List.set_cons_succ]
                      refine takeD 4 65 (v := ?v95) rfl rfl (by kernel_rfl) (by kernel_rfl) (by kernel_rfl) (fun _ _ _ h => h) (by kernel_rfl) ?hy95 (by assumption) ?r95
                      case hy95 => (intro W hSw; obtain ⟨t0, t1, t2, t3, t4, t5, t6⟩ := HT.out W hSw; go_simp; try with_reducible rfl)
                      simp only [Act.put, List.setIfInBounds_toArray, List.set_cons_zero, List.set_cons_succ]
                      refine takeD 5 66 (v := ?v96) rfl rfl (by kernel_rfl) (by kernel_rfl) (by kernel_rfl) (fun _ _ _ h => h) (by kernel_rfl) ?hy96 (by assumption) ?r96
                      case hy96 => (intro W hSw; obtain ⟨t0, t1, t2, t3, t4, t5, t6⟩ := HT.out W hSw; go_simp; try with_reducible rfl)
                      simp only [Act.put, List.setIfInBounds_toArray, List.set_cons_zero, List.set_cons_succ]
                      refine takeD 6 67 (v := ?v97) rfl rfl (by kernel_rfl) (by kernel_rfl) (by kernel_rfl) (fun _ _ _ h => h) (by kernel_rfl) ?hy97 (by assumption) ?r97
                      case hy97 => (intro W hSw; obtain ⟨t0, t1, t2, t3, t4, t5, t6⟩ := HT.out W hSw; go_simp; try with_reducible rfl)
                      simp only [Act.put, List.setIfInBounds_toArray, List.set_cons_zero, List.set_cons_succ]
                      refine takeD 7 68 (v := ?v98) rfl rfl (by kernel_rfl) (by kernel_rfl) (by kernel_rfl) (fun _ _ _ h => h) (by kernel_rfl) ?hy98 (by assumption) ?r98
                      case hy98 => (intro W hSw; obtain ⟨t0, t1, t2, t3, t4, t5, t6⟩ := HT.out W hSw; go_simp; try with_reducible rfl)
                      simp only [Act.put, List.setIfInBounds_toArray, List.set_cons_zero, List.set_cons_succ]
                      refine takeD 8 69 (v := ?v99) rfl rfl (by kernel_rfl) (by kernel_rfl) (by kernel_rfl) (fun _ _ _ h => h) (by kernel_rfl) ?hy99 (by assumption) ?r99
                      case hy99 => (intro W hSw; obtain ⟨t0, t1, t2, t3, t4, t5, t6⟩ := HT.out W hSw; go_simp; try with_reducible rfl)
                      simp only [Act.put, List.setIfInBounds_toArray, List.set_cons_zero, List.set_cons_succ]
                      refine takeD 9 70 (v := ?v100) rfl rfl (by kernel_rfl) (by kernel_rfl) (by kernel_rfl) (fun _ _ _ h => h) (by kernel_rfl) ?hy100 (by assumption) ?r100
                      case hy100 => (intro W hSw; obtain ⟨t0, t1, t2, t3, t4, t5, t6⟩ := HT.out W hSw; go_simp; try with_reducible rfl)
                      simp only [Act.put, List.setIfInBounds_toArray, List.set_cons_zero, List.set_cons_succ]
                      refine takeD 10 71 (v := ?v101) rfl rfl (by kernel_rfl) (by kernel_rfl) (by kernel_rfl) (fun _ _ _ h => h) (by kernel_rfl) ?hy101 (by assumption) ?r101
                      case hy101 => (intro W hSw; obtain ⟨t0, t1, t2, t3, t4, t5, t6⟩ := HT.out W hSw; go_simp; try with_reducible rfl)
                      simp only [Act.put, List.setIfInBounds_toArray, List.set_cons_zero, List.set_cons_succ]
                      refine takeD 11 72 (v := ?v102) rfl rfl (by kernel_rfl) (by kernel_rfl) (by kernel_rfl) (fun _ _ _ h => h) (by kernel_rfl) ?hy102 (by assumption) ?r102
                      case hy102 => (intro W hSw; obtain ⟨t0, t1, t2, t3, t4, t5, t6⟩ := HT.out W hSw; go_simp; try with_reducible rfl)
                      simp only [Act.put, List.setIfInBounds_toArray, List.set_cons_zero, List.set_cons_succ]
                      refine wpAnyH_ready (rs := [12]) (by kernel_rfl) (by simp) ?_
                      refine AllReadyH.cons (o := _) rfl (fun K hK => ?_) AllReadyH.nil
                      go_simp
                      refine (HCL.out _ (by assumption) i k hlt (by omega) hr (HRR.out k (by omega))).mono ?_
                      rintro e w6 ⟨rfl, k6⟩
                      have hS6 := hbi.drew.trans (k6.mono hbi.drew.size)
                      go_wp2_with fail
                      refine hK.out _ _ hS6 (fun hHeld2 => ?_)
                      clear hK K hHeld
                      have hHeld := hHeld2
                      clear hHeld2
                      try simp only [Act.put, List.setIfInBounds_toArray, List.set_cons_zero, List.set_cons_succ]
                      clear k6
                      refine wpAnyH_done (by kernel_rfl) ?_ _
                      refine NoPanic.normal ?_
                      clear HT
                      go_wp2
                      go_roundw
                      case rel => exact ⟨k + 1, by omega, by go_num, HU2, hS6⟩
                      case measure => simp [intOf]; omega
                  · obtain rfl : k = i := by omega
                    have HU3 : Hid (upto RA (k + 1) = true) := by show _ = _; rw [HP.out, HU.out, HRA.out, hr, HUK.out, HLE.out]; rfl
                    have HR3 : Hid (∀ j, j < k + 1 → RO j = true) := fun j hj => by
                      by_cases hjk : j = k
                      · rw [hjk]; exact hr
                      · exact HRR.out j (by omega)
                    clear HFI HP HU HUK HRR HLE
                    go_wp2
                    go_roundw
                    case rel => exact ⟨k + 1, by omega, by go_num, HU3, HR3, hbi⟩
                    case measure => simp [intOf]; omega
              · have HF := hide (HFI.out (by rw [HRA.out, HLEQ.out, decide_eq_false hc]; simp))
                have hg0 : decide (cmpL (KL m) (KL i) ≥ 0) = true := decide_eq_true (by omega)
                have hg1 : decide ((0 : Int) ≤ cmpL (KL m) (KL i)) = true := decide_eq_true (by omega)
                clear HFI HP HU
                go_wp2
                refine wp_region_noPanic ?_
                refine wp_region_held_drew (S := (fun W => Below W1.heap.size W1 W)) (by kernel_rfl) hbw.drew (fun hHeld => ?_)
                refine takeD 0 22 (v := ?v103) rfl rfl (by kernel_rfl) (by kernel_rfl) (by kernel_rfl) (fun _ _ _ h => h) (by kernel_rfl) ?hy103 (by assumption) ?r103
                case hy103 => (intro W hSw; obtain ⟨t0, t1, t2, t3, t4, t5, t6⟩ := HT.out W hSw; go_simp; try with_reducible rfl)
                simp only [Act.put, List.setIfInBounds_toArray, List.set_cons_zero, List.set_cons_succ]
                refine takeD 1 23 (v := ?v104) rfl rfl (by kernel_rfl) (by kernel_rfl) (by kernel_rfl) (fun _ _ _ h => h) (by kernel_rfl) ?hy104 (by assumption) ?r104
                case hy104 => (intro W hSw; obtain ⟨t0, t1, t2, t3, t4, t5, t6⟩ := HT.out W hSw; go_simp; try with_reducible rfl)
                simp only [Act.put, List.setIfInBounds_toArray, List.set_cons_zero, List.set_cons_succ]
                refine takeD 2 24 (v := ?v105) rfl rfl (by kernel_rfl) (by kernel_rfl) (by kernel_rfl) (fun _ _ _ h => h) (by kernel_rfl) ?hy105 (by assumption) ?r105
                case hy105 => (intro W hSw; obtain ⟨t0, t1, t2, t3, t4, t5, t6⟩ := HT.out W hSw; go_simp; try with_reducible rfl)
                simp only [Act.put, List.setIfInBounds_toArray, List.set_cons_zero, List.set_cons_succ]
                refine takeD 3 25 (v := ?v106) rfl rfl (by kernel_rfl) (by kernel_rfl) (by kernel_rfl) (fun _ _ _ h => h) (by kernel_rfl) ?hy106 (by assumption) ?r106
                case hy106 => (intro W hSw; obtain ⟨t0, t1, t2, t3, t4, t5, t6⟩ := HT.out W hSw; go_simp; try with_reducible rfl)
                simp only [Act.put, List.setIfInBounds_toArray, List.set_cons_zero, List.set_cons_succ]
                refine takeD 4 26 (v := ?v107) rfl rfl (by kernel_rfl) (by kernel_rfl) (by kernel_rfl) (fun _ _ _ h => h) (by kernel_rfl) ?hy107 (by assumption) ?r107
                case hy107 => (intro W hSw; obtain ⟨t0, t1, t2, t3, t4, t5, t6⟩ := HT.out W hSw; go_simp; try with_reducible rfl)
                simp only [Act.put, List.setIfInBounds_toArray, List.set_cons_zero, List.set_cons_succ]
                refine takeD 5 27 (v := ?v108) rfl rfl (by kernel_rfl) (by kernel_rfl) (by kernel_rfl) (fun _ _ _ h => h) (by kernel_rfl) ?hy108 (by assumption) ?r108
                case hy108 => (intro W hSw; obtain ⟨t0, t1, t2, t3, t4, t5, t6⟩ := HT.out W hSw; go_simp; try with_reducible rfl)
                simp only [Act.put, List.setIfInBounds_toArray, List.set_cons_zero, List.set_cons_succ]
                refine takeD 6 28 (v := ?v109) rfl rfl (by kernel_rfl) (by kernel_rfl) (by kernel_rfl) (fun _ _ _ h => h) (by kernel_rfl) ?hy109 (by assumption) ?r109
                case hy109 => (intro W hSw; obtain ⟨t0, t1, t2, t3, t4, t5, t6⟩ := HT.out W hSw; go_simp; try with_reducible rfl)
                simp only [Act.put, List.setIfInBounds_toArray, List.set_cons_zero, List.set_cons_succ]
                refine wpAnyH_ready (rs := [7]) (by kernel_rfl) (by simp) ?_
                refine AllReadyH.cons (o := _) rfl (fun K hK => ?_) AllReadyH.nil
                go_simp
                refine (HROW.out _ (by assumption) i hlt).mono ?_
                rintro e w2 ⟨rfl, k2⟩
                have hS2 := hbw.drew.trans (k2.mono hbw.drew.size)
                rw [hr]
                go_wp2_with fail
                refine hK.out _ _ hS2 (fun hHeld2 => ?_)
                clear hK K hHeld
                have hHeld := hHeld2
                clear hHeld2
                try simp only [Act.put, List.setIfInBounds_toArray, List.set_cons_zero, List.set_cons_succ]
                clear k2
                refine takeD 8 30 (v := ?v110) rfl rfl (by kernel_rfl) (by kernel_rfl) (by kernel_rfl) (fun _ _ _ h => h) (by kernel_rfl) ?hy110 (by assumption) ?r110
                case hy110 => (intro W hSw; obtain ⟨t0, t1, t2, t3, t4, t5, t6⟩ := HT.out W hSw; go_simp; try with_reducible rfl)
                simp only [Act.put, List.setIfInBounds_toArray, List.set_cons_zero, List.set_cons_succ]
                refine takeD 9 31 (v := ?v111) rfl rfl (by kernel_rfl) (by kernel_rfl) (by kernel_rfl) (fun _ _ _ h => h) (by kernel_rfl) ?hy111 (by assumption) ?r111
                case hy111 => (intro W hSw; obtain ⟨t0, t1, t2, t3, t4, t5, t6⟩ := HT.out W hSw; go_simp; try with_reducible rfl)
                simp only [Act.put, List.setIfInBounds_toArray, List.set_cons_zero, List.set_cons_succ]
                refine takeD 10 32 (v := ?v112) rfl rfl (by kernel_rfl) (by kernel_rfl) (by kernel_rfl) (fun _ _ _ h => h) (by kernel_rfl) ?hy112 (by assumption) ?r112
                case hy112 => (intro W hSw; obtain ⟨t0, t1, t2, t3, t4, t5, t6⟩ := HT.out W hSw; go_simp; try with_reducible rfl)
                simp only [Act.put, List.setIfInBounds_toArray, List.set_cons_zero, List.set_cons_succ]
                refine takeD 11 33 (v := ?v113) rfl rfl (by kernel_rfl) (by kernel_rfl) (by kernel_rfl) (fun _ _ _ h => h) (by kernel_rfl) ?hy113 (by assumption) ?r113
                case hy113 => (intro W hSw; obtain ⟨t0, t1, t2, t3, t4, t5, t6⟩ := HT.out W hSw; go_simp; try with_reducible rfl)
                simp only [Act.put, List.setIfInBounds_toArray, List.set_cons_zero, List.set_cons_succ]
                refine takeD 12 34 (v := ?v114) rfl rfl (by kernel_rfl) (by kernel_rfl) (by kernel_rfl) (fun _ _ _ h => h) (by kernel_rfl) ?hy114 (by assumption) ?r114
                case hy114 => (intro W hSw; obtain ⟨t0, t1, t2, t3, t4, t5, t6⟩ := HT.out W hSw; go_simp; try with_reducible rfl)
                simp only [Act.put, List.setIfInBounds_toArray, List.set_cons_zero, List.set_cons_succ]
                refine takeD 13 35 (v := ?v115) rfl rfl (by kernel_rfl) (by kernel_rfl) (by kernel_rfl) (fun _ _ _ h => h) (by kernel_rfl) ?hy115 (by assumption) ?r115
                case hy115 => (intro W hSw; obtain ⟨t0, t1, t2, t3, t4, t5, t6⟩ := HT.out W hSw; go_simp; try with_reducible rfl)
                simp only [Act.put, List.setIfInBounds_toArray, List.set_cons_zero, List.set_cons_succ]
                refine takeD 14 36 (v := ?v116) rfl rfl (by kernel_rfl) (by kernel_rfl) (by kernel_rfl) (fun _ _ _ h => h) (by kernel_rfl) ?hy116 (by assumption) ?r116
                case hy116 => (intro W hSw; obtain ⟨t0, t1, t2, t3, t4, t5, t6⟩ := HT.out W hSw; go_simp; try with_reducible rfl)
                simp only [Act.put, List.setIfInBounds_toArray, List.set_cons_zero, List.set_cons_succ]
                refine takeD 15 37 (v := ?v117) rfl rfl (by kernel_rfl) (by kernel_rfl) (by kernel_rfl) (fun _ _ _ h => h) (by kernel_rfl) ?hy117 (by assumption) ?r117
                case hy117 => (intro W hSw; obtain ⟨t0, t1, t2, t3, t4, t5, t6⟩ := HT.out W hSw; go_simp; try with_reducible rfl)
                simp only [Act.put, List.setIfInBounds_toArray, List.set_cons_zero, List.set_cons_succ]
                refine takeD 16 38 (v := ?v118) rfl rfl (by kernel_rfl) (by kernel_rfl) (by kernel_rfl) (fun _ _ _ h => h) (by kernel_rfl) ?hy118 (by assumption) ?r118
                case hy118 => (intro W hSw; obtain ⟨t0, t1, t2, t3, t4, t5, t6⟩ := HT.out W hSw; go_simp; try with_reducible rfl)
                simp only [Act.put, List.setIfInBounds_toArray, List.set_cons_zero, List.set_cons_succ]
                refine takeD 17 39 (v := ?v119) rfl rfl (by kernel_rfl) (by kernel_rfl) (by kernel_rfl) (fun _ _ _ h => h) (by kernel_rfl) ?hy119 (by assumption) ?r119
                case hy119 => (intro W hSw; obtain ⟨t0, t1, t2, t3, t4, t5, t6⟩ := HT.out W hSw; go_simp; try with_reducible rfl)
                simp only [Act.put, List.setIfInBounds_toArray, List.set_cons_zero, List.set_cons_succ]
                refine takeD 18 40 (v := ?v120) rfl rfl (by kernel_rfl) (by kernel_rfl) (by kernel_rfl) (fun _ _ _ h => h) (by kernel_rfl) ?hy120 (by assumption) ?r120
                case hy120 => (intro W hSw; obtain ⟨t0, t1, t2, t3, t4, t5, t6⟩ := HT.out W hSw; go_simp; try with_reducible rfl)
                simp only [Act.put, List.setIfInBounds_toArray, List.set_cons_zero, List.set_cons_succ]
                refine takeD 19 41 (v := ?v121) rfl rfl (by kernel_rfl) (by kernel_rfl) (by kernel_rfl) (fun _ _ _ h => h) (by kernel_rfl) ?hy121 (by assumption) ?r121
                case hy121 => (intro W hSw; obtain ⟨t0, t1, t2, t3, t4, t5, t6⟩ := HT.out W hSw; go_simp; try with_reducible rfl)
                simp only [Act.put, List.setIfInBounds_toArray, List.set_cons_zero, List.set_cons_succ]
                refine takeD 20 42 (v := ?v122) rfl rfl (by kernel_rfl) (by kernel_rfl) (by kernel_rfl) (fun _ _ _ h => h) (by kernel_rfl) ?hy122 (by assumption) ?r122
                case hy122 => (intro W hSw; obtain ⟨t0, t1, t2, t3, t4, t5, t6⟩ := HT.out W hSw; go_simp; try with_reducible rfl)
                simp only [Act.put, List.setIfInBounds_toArray, List.set_cons_zero, List.set_cons_succ]
                refine takeD 22 44 (v := ?v123) rfl rfl (by kernel_rfl) (by kernel_rfl) (by kernel_rfl) (fun _ _ _ h => h) (by kernel_rfl) ?hy123 (by assumption) ?r123
                case hy123 => (intro W hSw; obtain ⟨t0, t1, t2, t3, t4, t5, t6⟩ := HT.out W hSw; go_simp; try with_reducible rfl)
                simp only [Act.put, List.setIfInBounds_toArray, List.set_cons_zero, List.set_cons_succ]
                refine takeD 23 45 (v := ?v124) rfl rfl (by kernel_rfl) (by kernel_rfl) (by kernel_rfl) (fun _ _ _ h => h) (by kernel_rfl) ?hy124 (by assumption) ?r124
                case hy124 => (intro W hSw; obtain ⟨t0, t1, t2, t3, t4, t5, t6⟩ := HT.out W hSw; go_simp; try with_reducible rfl)
                simp only [Act.put, List.setIfInBounds_toArray, List.set_cons_zero, List.set_cons_succ]
                refine takeD 24 46 (v := ?v125) rfl rfl (by kernel_rfl) (by kernel_rfl) (by kernel_rfl) (fun _ _ _ h => h) (by kernel_rfl) ?hy125 (by assumption) ?r125
                case hy125 => (intro W hSw; obtain ⟨t0, t1, t2, t3, t4, t5, t6⟩ := HT.out W hSw; go_simp; try with_reducible rfl)
                simp only [Act.put, List.setIfInBounds_toArray, List.set_cons_zero, List.set_cons_succ]
                refine takeD 25 47 (v := ?v126) rfl rfl (by kernel_rfl) (by kernel_rfl) (by kernel_rfl) (fun _ _ _ h => h) (by kernel_rfl) ?hy126 (by assumption) ?r126
                case hy126 => (intro W hSw; obtain ⟨t0, t1, t2, t3, t4, t5, t6⟩ := HT.out W hSw; go_simp; try with_reducible rfl)
                simp only [Act.put, List.setIfInBounds_toArray, List.set_cons_zero, List.set_cons_succ]
                refine takeD 26 48 (v := ?v127) rfl rfl (by kernel_rfl) (by kernel_rfl) (by kernel_rfl) (fun _ _ _ h => h) (by kernel_rfl) ?hy127 (by assumption) ?r127
                case hy127 => (intro W hSw; obtain ⟨t0, t1, t2, t3, t4, t5, t6⟩ := HT.out W hSw; go_simp; try with_reducible rfl)
                simp only [Act.put, List.setIfInBounds_toArray, List.set_cons_zero, List.set_cons_succ]
                refine takeD 27 49 (v := ?v128) rfl rfl (by kernel_rfl) (by kernel_rfl) (by kernel_rfl) (fun _ _ _ h => h) (by kernel_rfl) ?hy128 (by assumption) ?r128
                case hy128 => (intro W hSw; obtain ⟨t0, t1, t2, t3, t4, t5, t6⟩ := HT.out W hSw; go_simp; try with_reducible rfl)
                simp only [Act.put, List.setIfInBounds_toArray, List.set_cons_zero, List.set_cons_succ]
                refine takeD 28 50 (v := ?v129) rfl rfl (by kernel_rfl) (by kernel_rfl) (by kernel_rfl) (fun _ _ _ h => h) (by kernel_rfl) ?hy129 (by assumption) ?r129
                case hy129 => (intro W hSw; obtain ⟨t0, t1, t2, t3, t4, t5, t6⟩ := HT.out W hSw; go_simp; try with_reducible rfl)
                simp only [Act.put, List.setIfInBounds_toArray, List.set_cons_zero, List.set_cons_succ]
                refine wpAnyH_ready (rs := [21]) (by kernel_rfl) (by simp) ?_
                refine AllReadyH.cons (o := _) rfl (fun K hK => ?_) AllReadyH.nil
                go_simp
                refine (HKEY.out _ (by assumption) m (by omega) hrp).mono ?_
                rintro e w3 ⟨po, pc, rfl, hp3, k3⟩
                have hS3 := hS2.trans (k3.mono hS2.size)
                go_wp2_with fail
                refine hK.out _ _ hS3 (fun hHeld2 => ?_)
                clear hK K hHeld
                have hHeld := hHeld2
                clear hHeld2
                try simp only [Act.put, List.setIfInBounds_toArray, List.set_cons_zero, List.set_cons_succ]
                refine wpAnyH_ready (rs := [29]) (by kernel_rfl) (by simp) ?_
                refine AllReadyH.cons (o := _) rfl (fun K hK => ?_) AllReadyH.nil
                go_simp
                refine (HKEY.out _ (by assumption) i hlt hr).mono ?_
                rintro e w4 ⟨qo, qc, rfl, hp4, k4⟩
                have hS4 := hS3.trans (k4.mono hS3.size)
                go_wp2_with fail
                refine hK.out _ _ hS4 (fun hHeld2 => ?_)
                clear hK K hHeld
                have hHeld := hHeld2
                clear hHeld2
                try simp only [Act.put, List.setIfInBounds_toArray, List.set_cons_zero, List.set_cons_succ]
                refine wpAnyH_ready (rs := [30]) (by kernel_rfl) (by simp) ?_
                refine AllReadyH.cons (o := _) rfl (fun K hK => ?_) AllReadyH.nil
                go_simp
                refine (l02Compare_any po pc (KL m) qo qc (KL i) w4 (HKL'.out _) (HKL'.out _) ((hp3.kept k4).mono k4.size) hp4).mono ?_
                rintro e w5 ⟨rfl, k5⟩
                have hS5 := hS4.trans (k5.mono hS4.size)
                go_wp2_with fail
                refine hK.out _ _ hS5 (fun hHeld2 => ?_)
                clear hK K hHeld
                have hHeld := hHeld2
                clear hHeld2
                try simp only [Act.put, List.setIfInBounds_toArray, List.set_cons_zero, List.set_cons_succ]
                refine takeD 31 53 (v := ?v130) rfl rfl (by kernel_rfl) (by kernel_rfl) (by kernel_rfl) (fun _ _ _ h => h) (by kernel_rfl) ?hy130 (by assumption) ?r130
                case hy130 => (intro W hSw; obtain ⟨t0, t1, t2, t3, t4, t5, t6⟩ := HT.out W hSw; go_simp; try with_reducible rfl)
                simp only [Act.put, List.setIfInBounds_toArray, List.set_cons_zero, List.set_cons_succ]
                refine takeD 32 54 (v := ?v131) rfl rfl (by kernel_rfl) (by kernel_rfl) (by kernel_rfl) (fun _ _ _ h => h) (by kernel_rfl) ?hy131 (by assumption) ?r131
                case hy131 => (intro W hSw; obtain ⟨t0, t1, t2, t3, t4, t5, t6⟩ := HT.out W hSw; go_simp; try with_reducible rfl)
                simp only [Act.put, List.setIfInBounds_toArray, List.set_cons_zero, List.set_cons_succ]
                refine takeD 33 55 (v := ?v132) rfl rfl (by kernel_rfl) (by kernel_rfl) (by kernel_rfl) (fun _ _ _ h => h) (by kernel_rfl) ?hy132 (by assumption) ?r132
                case hy132 => (intro W hSw; obtain ⟨t0, t1, t2, t3, t4, t5, t6⟩ := HT.out W hSw; go_simp; try with_reducible rfl)
                simp only [Act.put, List.setIfInBounds_toArray, List.set_cons_zero, List.set_cons_succ]
                refine wpAnyH_done (by kernel_rfl) ?_ _
                refine NoPanic.normal ?_
                clear HT
                go_wp2
                go_ret
                exact ⟨ret_bool HF.out.symm, B1.out.trans (Below.mono hS5 B1.out.size)⟩
        · obtain rfl : i = l.length := by omega
          have HF : Hid (q = true) := by show _ = _; rw [HTB2.out, HU.out]
          go_wp2
          go_ret
          exact ⟨ret_bool HF.out.symm, B1.out.trans (hbw.mono B1.out.size)⟩
    · have HF : Hid (q = false) := by show _ = _; rw [HTB.out, decide_eq_false h60]; rfl
      go_wp2_with (go_at_call 11; refine HC1.mono ?_; rintro e W1 ⟨rfl, k1⟩; have X1 := hide ((k1.block _ (blkCs X0.out)).trans X0.out); have B1 := hide (B0.out.trans (k1.mono B0.out.size)); clear k1 x0 x1 x2 x3 x4; obtain ⟨x0, x1, x2, x3, x4⟩ := cells5s X1.out)
      go_ret
      exact ⟨ret_bool HF.out.symm, B1.out⟩
end Go.Proofs.YtkhklfnhninkjaaGreat

/-
  Contract: a table copied.
-/
namespace Go.Proofs.YtkhklfnhninkjaaGreat
open Go.RowKit
set_option maxRecDepth 100000

theorem cellsN5 {w : World} {g : Nat} {x0 x1 x2 x3 x4 : Value} {t : TypeId} (h : w.heap[g]? = some (.cells #[x0, x1, x2, x3, x4] t (0, 0))) :
    w.cell? ⟨g, 0, none⟩ = some x0 ∧ w.cell? ⟨g, 1, none⟩ = some x1 ∧ w.cell? ⟨g, 2, none⟩ = some x2 ∧ w.cell? ⟨g, 3, none⟩ = some x3 ∧ w.cell? ⟨g, 4, none⟩ = some x4 ∧ ∀ j, w.frozen? ⟨g, j, none⟩ = false := by
  refine ⟨?_, ?_, ?_, ?_, ?_, fun j => frozen_of_row _ _ _ _ _ h⟩ <;> (rw [cell_of_row _ _ _ _ _ _ h]; rfl)
theorem resTable {fn : Func} {p : Tmp} (h : fn.results = #[.cell p 38]) (tmps : Array Value) (w : World) (g : Nat) (x0 x1 x2 x3 x4 : Value) (hp : tmps.getD p undef = .pointer (some ⟨g, 0, none⟩))
    (hg : w.heap[g]? = some (.cells #[x0, x1, x2, x3, x4] 38 (0, 0))) : (results fn tmps).run Tryz.prog w = .ok (.agg #[x0, x1, x2, x3, x4]) w :=
  results_cell_row h tmps w g 38 #[x0, x1, x2, x3, x4] (0, 0) _ hp hg Tryz.underlying38 rfl (by kernel_rfl)
theorem SchRow.setL : ∀ (xs : List Value) {w : World} {A B g m : Nat} {ao ko xo : Option Addr} {c2 : Nat} {s : Sch}, SchRow w A B ao ko xo c2 s → g < A → SchRow (Go.Proofs.YtkhklfnhninkjaaGreat.setL w g m xs) A B ao ko xo c2 s
  | [], _, _, _, _, _, _, _, _, _, _, h, _ => h
  | x :: xs, w, A, B, g, m, ao, ko, xo, c2, s, h, hg => by rw [Go.Proofs.YtkhklfnhninkjaaGreat.setL]; exact SchRow.setL xs (h.other g m x hg) hg
set_option maxHeartbeats 8000000 in
theorem toTable_any (A B : Nat) (s : Sch) (l : List (List Val)) (a1 : Option Addr) (c1 : Nat) (a2 : Option Addr) (c2 : Nat) (a3 : Option Addr) (c3 : Nat) (a4 : Option Addr) (c4 : Nat) (w : World) (hB : B ≤ w.heap.size) (hf : tFits s l) (h1 : SchRow w A B a1 a2 a3 c2 s) (h2 : RwRow w A B a4 l) :
    Calls Tryz.prog 6 #[.agg #[.string s.name, .slice a1 s.cols.length c1, .slice a2 s.key.length c2, .slice a3 s.idx.length c3, .slice a4 l.length c4]] w fun e w' => ∃ b1 p1 b2 p2 b3 p3 b4 p4, e = .returned (.agg #[.string s.name, .slice b1 s.cols.length p1, .slice b2 s.key.length p2, .slice b3 s.idx.length p3, .slice b4 l.length p4]) ∧ SchRow w' w.heap.size w'.heap.size b1 b2 b3 p2 s ∧ RwRow w' w.heap.size w'.heap.size b4 l ∧ Below w.heap.size w w' := by
  have HTS := hide (fun (W : World) (hb : Below w.heap.size w W) => toSchema_any A B a1 c1 a2 c2 a3 c3 s W (Nat.le_trans hB hb.size) hf.1 (h1.kept (hb.mono hB)))
  have HTR := hide (fun (W : World) (hb : Below w.heap.size w W) => toValueSS_any A B a4 c4 l W (Nat.le_trans hB hb.size) hf.2.1 hf.2.2 (h2.kept (hb.mono hB)))
  clear h1 h2 hf hB
  generalize s.name = nm at *
  generalize s.cols.length = n1 at *
  generalize s.key.length = n2 at *
  generalize s.idx.length = n3 at *
  generalize l.length = n4 at *
  have X0 := hide (heap_alloc_new w (.cells #[.string nm, .slice a1 n1 c1, .slice a2 n2 c2, .slice a3 n3 c3, .slice a4 n4 c4] 29))
  have B0 := hide ((Below.refl w.heap.size w).alloc (Nat.le_refl _) (.cells #[.string nm, .slice a1 n1 c1, .slice a2 n2 c2, .slice a3 n3 c3, .slice a4 n4 c4] 29))
  have Z0 : Hid ((w.alloc (.cells #[.string nm, .slice a1 n1 c1, .slice a2 n2 c2, .slice a3 n3 c3, .slice a4 n4 c4] 29)).heap.size = w.heap.size + 1) := by show _ = _; simp
  have Y0 := hide (show ((w.alloc (.cells #[.string nm, .slice a1 n1 c1, .slice a2 n2 c2, .slice a3 n3 c3, .slice a4 n4 c4] 29)).alloc (.cells #[.string ⟨#[]⟩, .slice none 0 0, .slice none 0 0, .slice none 0 0, .slice none 0 0] 38)).heap[w.heap.size + 1]? = some (.cells #[.string ⟨#[]⟩, .slice none 0 0, .slice none 0 0, .slice none 0 0, .slice none 0 0] 38 (0, 0)) from by have := heap_alloc_new (w.alloc (.cells #[.string nm, .slice a1 n1 c1, .slice a2 n2 c2, .slice a3 n3 c3, .slice a4 n4 c4] 29)) (.cells #[.string ⟨#[]⟩, .slice none 0 0, .slice none 0 0, .slice none 0 0, .slice none 0 0] 38); rw [Z0.out] at this; exact this)
  have Z1 : Hid (((w.alloc (.cells #[.string nm, .slice a1 n1 c1, .slice a2 n2 c2, .slice a3 n3 c3, .slice a4 n4 c4] 29)).alloc (.cells #[.string ⟨#[]⟩, .slice none 0 0, .slice none 0 0, .slice none 0 0, .slice none 0 0] 38)).heap.size = w.heap.size + 2) := by show _ = _; simp
  have V0 := hide (show (((w.alloc (.cells #[.string nm, .slice a1 n1 c1, .slice a2 n2 c2, .slice a3 n3 c3, .slice a4 n4 c4] 29)).alloc (.cells #[.string ⟨#[]⟩, .slice none 0 0, .slice none 0 0, .slice none 0 0, .slice none 0 0] 38)).alloc (.cells #[.string ⟨#[]⟩, .slice none 0 0, .slice none 0 0, .slice none 0 0, .slice none 0 0] 38)).heap[w.heap.size + 2]? = some (.cells #[.string ⟨#[]⟩, .slice none 0 0, .slice none 0 0, .slice none 0 0, .slice none 0 0] 38 (0, 0)) from by have := heap_alloc_new ((w.alloc (.cells #[.string nm, .slice a1 n1 c1, .slice a2 n2 c2, .slice a3 n3 c3, .slice a4 n4 c4] 29)).alloc (.cells #[.string ⟨#[]⟩, .slice none 0 0, .slice none 0 0, .slice none 0 0, .slice none 0 0] 38)) (.cells #[.string ⟨#[]⟩, .slice none 0 0, .slice none 0 0, .slice none 0 0, .slice none 0 0] 38); rw [Z1.out] at this; exact this)
  have XA := hide ((heap_old ((w.alloc (.cells #[.string nm, .slice a1 n1 c1, .slice a2 n2 c2, .slice a3 n3 c3, .slice a4 n4 c4] 29)).alloc (.cells #[.string ⟨#[]⟩, .slice none 0 0, .slice none 0 0, .slice none 0 0, .slice none 0 0] 38)) (.cells #[.string ⟨#[]⟩, .slice none 0 0, .slice none 0 0, .slice none 0 0, .slice none 0 0] 38) w.heap.size (by rw [Z1.out]; omega)).trans ((heap_old (w.alloc (.cells #[.string nm, .slice a1 n1 c1, .slice a2 n2 c2, .slice a3 n3 c3, .slice a4 n4 c4] 29)) (.cells #[.string ⟨#[]⟩, .slice none 0 0, .slice none 0 0, .slice none 0 0, .slice none 0 0] 38) w.heap.size (by rw [Z0.out]; omega)).trans X0.out))
  have YA := hide ((heap_old ((w.alloc (.cells #[.string nm, .slice a1 n1 c1, .slice a2 n2 c2, .slice a3 n3 c3, .slice a4 n4 c4] 29)).alloc (.cells #[.string ⟨#[]⟩, .slice none 0 0, .slice none 0 0, .slice none 0 0, .slice none 0 0] 38)) (.cells #[.string ⟨#[]⟩, .slice none 0 0, .slice none 0 0, .slice none 0 0, .slice none 0 0] 38) (w.heap.size + 1) (by rw [Z1.out]; omega)).trans Y0.out)
  have BA := hide ((B0.out.alloc B0.out.size (.cells #[.string ⟨#[]⟩, .slice none 0 0, .slice none 0 0, .slice none 0 0, .slice none 0 0] 38)).alloc (Nat.le_trans B0.out.size (by simp)) (.cells #[.string ⟨#[]⟩, .slice none 0 0, .slice none 0 0, .slice none 0 0, .slice none 0 0] 38))
  clear X0 B0 Y0
  go_enter Tryz.func6, Tryz.ntmps6
  go_upto_region 2 with fail
  generalize ((w.alloc (.cells #[.string nm, .slice a1 n1 c1, .slice a2 n2 c2, .slice a3 n3 c3, .slice a4 n4 c4] 29)).alloc (.cells #[.string ⟨#[]⟩, .slice none 0 0, .slice none 0 0, .slice none 0 0, .slice none 0 0] 38)).alloc (.cells #[.string ⟨#[]⟩, .slice none 0 0, .slice none 0 0, .slice none 0 0, .slice none 0 0] 38) = U0 at *
  obtain ⟨g, hg⟩ : ∃ g, g = w.heap.size + 1 + 1 := ⟨_, rfl⟩
  have VA := hide (show U0.heap[g]? = some (.cells #[.string ⟨#[]⟩, .slice none 0 0, .slice none 0 0, .slice none 0 0, .slice none 0 0] 38 (0, 0)) from by rw [hg]; exact V0.out)
  have HG : Hid (w.heap.size + 1 < g) := by show _ < _; omega
  rw [← hg]
  clear hg V0 Z0 Z1
  have hgx' : ¬ w.heap.size = g := by have := HG.out; omega
  have hgx : ¬ g = w.heap.size := by have := HG.out; omega
  have hgy : ¬ w.heap.size + 1 = g := by have := HG.out; omega
  have hgy' : ¬ g = w.heap.size + 1 := by have := HG.out; omega
  have hgw : w.heap.size ≤ g := by have := HG.out; omega
  obtain ⟨x0, x1, x2, x3, x4, xf⟩ := cellsN5 XA.out
  go_wp2_with fail
  refine (HTS.out _ BA.out).mono ?_
  rintro e U1 ⟨b1, p1, b2, p2, b3, p3, rfl, hRS, kb⟩
  have XAc := hide ((kb.block _ (blkG XA.out)).trans XA.out)
  have YAc := hide ((kb.block _ (blkG YA.out)).trans YA.out)
  have VAc := hide ((kb.block _ (blkG VA.out)).trans VA.out)
  have GT1 : Hid (g < U0.heap.size) := blkG VA.out
  have GW1 : Hid (w.heap.size ≤ U0.heap.size) := BA.out.size
  have BAc := hide (BA.out.trans (kb.mono BA.out.size))
  have RS := hide hRS
  clear kb x0 x1 x2 x3 x4 xf BA XA YA VA hRS
  obtain ⟨v0, v1, v2, v3, v4, vf⟩ := cellsN5 VAc.out
  have BAcs := hide ((((BAc.out.setCell (p := ⟨g, 0, none⟩) hgw (.string nm)).setCell (p := ⟨g, 1, none⟩) hgw (.slice b1 n1 p1)).setCell (p := ⟨g, 2, none⟩) hgw (.slice b2 n2 p2)).setCell (p := ⟨g, 3, none⟩) hgw (.slice b3 n3 p3))
  have XAcs := hide (show ((((U1.setCell ⟨g, 0, none⟩ (.string nm)).setCell ⟨g, 1, none⟩ (.slice b1 n1 p1)).setCell ⟨g, 2, none⟩ (.slice b2 n2 p2)).setCell ⟨g, 3, none⟩ (.slice b3 n3 p3)).heap[w.heap.size]? = some (.cells #[.string nm, .slice a1 n1 c1, .slice a2 n2 c2, .slice a3 n3 c3, .slice a4 n4 c4] 29 (0, 0)) from by rw [heap_setCell_other _ _ _ _ (show w.heap.size ≠ g from hgx'), heap_setCell_other _ _ _ _ (show w.heap.size ≠ g from hgx'), heap_setCell_other _ _ _ _ (show w.heap.size ≠ g from hgx'), heap_setCell_other _ _ _ _ (show w.heap.size ≠ g from hgx')]; exact XAc.out)
  have YAcs := hide (show ((((U1.setCell ⟨g, 0, none⟩ (.string nm)).setCell ⟨g, 1, none⟩ (.slice b1 n1 p1)).setCell ⟨g, 2, none⟩ (.slice b2 n2 p2)).setCell ⟨g, 3, none⟩ (.slice b3 n3 p3)).heap[w.heap.size + 1]? = some (.cells #[.string ⟨#[]⟩, .slice none 0 0, .slice none 0 0, .slice none 0 0, .slice none 0 0] 38 (0, 0)) from by rw [heap_setCell_other _ _ _ _ (show w.heap.size + 1 ≠ g from hgy), heap_setCell_other _ _ _ _ (show w.heap.size + 1 ≠ g from hgy), heap_setCell_other _ _ _ _ (show w.heap.size + 1 ≠ g from hgy), heap_setCell_other _ _ _ _ (show w.heap.size + 1 ≠ g from hgy)]; exact YAc.out)
  have VAcs : Hid (((((U1.setCell ⟨g, 0, none⟩ (.string nm)).setCell ⟨g, 1, none⟩ (.slice b1 n1 p1)).setCell ⟨g, 2, none⟩ (.slice b2 n2 p2)).setCell ⟨g, 3, none⟩ (.slice b3 n3 p3)).heap[g]? = some (.cells #[.string nm, .slice b1 n1 p1, .slice b2 n2 p2, .slice b3 n3 p3, .slice none 0 0] 38 (0, 0))) := by
    have h0 := heap_setCell_same _ g 0 _ _ (.string nm) VAc.out
    have h1 := heap_setCell_same _ g 1 _ _ (.slice b1 n1 p1) h0
    have h2 := heap_setCell_same _ g 2 _ _ (.slice b2 n2 p2) h1
    have h3 := heap_setCell_same _ g 3 _ _ (.slice b3 n3 p3) h2
    show _ = _
    simpa using h3
  have RSs := hide (SchRow.mono (SchRow.other (SchRow.other (SchRow.other (SchRow.other RS.out g 0 (.string nm) GT1.out) g 1 (.slice b1 n1 p1) GT1.out) g 2 (.slice b2 n2 p2) GT1.out) g 3 (.slice b3 n3 p3) GT1.out) (Nat.le_refl _) (show U1.heap.size ≤ ((((U1.setCell ⟨g, 0, none⟩ (.string nm)).setCell ⟨g, 1, none⟩ (.slice b1 n1 p1)).setCell ⟨g, 2, none⟩ (.slice b2 n2 p2)).setCell ⟨g, 3, none⟩ (.slice b3 n3 p3)).heap.size by simp))
  go_upto_region 3 with fail
  generalize (((U1.setCell ⟨g, 0, none⟩ (.string nm)).setCell ⟨g, 1, none⟩ (.slice b1 n1 p1)).setCell ⟨g, 2, none⟩ (.slice b2 n2 p2)).setCell ⟨g, 3, none⟩ (.slice b3 n3 p3) = U2 at *
  clear v0 v1 v2 v3 v4 vf BAc XAc YAc VAc RS
  obtain ⟨x0, x1, x2, x3, x4, xf⟩ := cellsN5 XAcs.out
  go_wp2_with fail
  refine (HTR.out _ BAcs.out).mono ?_
  rintro e U3 ⟨b4, p4, rfl, hRR, kb⟩
  have XAcsc := hide ((kb.block _ (blkG XAcs.out)).trans XAcs.out)
  have YAcsc := hide ((kb.block _ (blkG YAcs.out)).trans YAcs.out)
  have VAcsc := hide ((kb.block _ (blkG VAcs.out)).trans VAcs.out)
  have GT2 : Hid (g < U2.heap.size) := blkG VAcs.out
  have GW2 : Hid (w.heap.size ≤ U2.heap.size) := BAcs.out.size
  have BAcsc := hide (BAcs.out.trans (kb.mono BAcs.out.size))
  have RSsc := hide (SchRow.mono (SchRow.kept RSs.out kb) (Nat.le_refl _) kb.size)
  have RR := hide hRR
  clear kb x0 x1 x2 x3 x4 xf BAcs XAcs YAcs VAcs RSs hRR
  obtain ⟨v0, v1, v2, v3, v4, vf⟩ := cellsN5 VAcsc.out
  have BAcscs := hide (BAcsc.out.setCell (p := ⟨g, 4, none⟩) hgw (.slice b4 n4 p4))
  have XAcscs := hide (show (U3.setCell ⟨g, 4, none⟩ (.slice b4 n4 p4)).heap[w.heap.size]? = some (.cells #[.string nm, .slice a1 n1 c1, .slice a2 n2 c2, .slice a3 n3 c3, .slice a4 n4 c4] 29 (0, 0)) from by rw [heap_setCell_other _ _ _ _ (show w.heap.size ≠ g from hgx')]; exact XAcsc.out)
  have YAcscs := hide (show (U3.setCell ⟨g, 4, none⟩ (.slice b4 n4 p4)).heap[w.heap.size + 1]? = some (.cells #[.string ⟨#[]⟩, .slice none 0 0, .slice none 0 0, .slice none 0 0, .slice none 0 0] 38 (0, 0)) from by rw [heap_setCell_other _ _ _ _ (show w.heap.size + 1 ≠ g from hgy)]; exact YAcsc.out)
  have VAcscs : Hid ((U3.setCell ⟨g, 4, none⟩ (.slice b4 n4 p4)).heap[g]? = some (.cells #[.string nm, .slice b1 n1 p1, .slice b2 n2 p2, .slice b3 n3 p3, .slice b4 n4 p4] 38 (0, 0))) := by
    have h0 := heap_setCell_same _ g 4 _ _ (.slice b4 n4 p4) VAcsc.out
    show _ = _
    simpa using h0
  have RSscs := hide (SchRow.mono (SchRow.other RSsc.out g 4 (.slice b4 n4 p4) GT1.out) (Nat.le_refl _) (show U3.heap.size ≤ (U3.setCell ⟨g, 4, none⟩ (.slice b4 n4 p4)).heap.size by simp))
  have RRs := hide (RwRow.mono (RwRow.other RR.out g 4 (.slice b4 n4 p4) GT2.out) (Nat.le_refl _) (show U3.heap.size ≤ (U3.setCell ⟨g, 4, none⟩ (.slice b4 n4 p4)).heap.size by simp))
  go_upto_region 4 with fail
  generalize U3.setCell ⟨g, 4, none⟩ (.slice b4 n4 p4) = U4 at *
  clear v0 v1 v2 v3 v4 vf BAcsc XAcsc YAcsc VAcsc RSsc RR
  obtain ⟨v0, v1, v2, v3, v4, vf⟩ := cellsN5 VAcscs.out
  obtain ⟨y0, y1, y2, y3, y4, yf⟩ := cellsN5 YAcscs.out
  have BF := hide (setL_below (g := w.heap.size + 1) (m := 0) [.string nm, .slice b1 n1 p1, .slice b2 n2 p2, .slice b3 n3 p3, .slice b4 n4 p4] BAcscs.out (Nat.le_succ _))
  have YF := hide (setL_heapL (m := 0) [.string nm, .slice b1 n1 p1, .slice b2 n2 p2, .slice b3 n3 p3, .slice b4 n4 p4] (cur := [.string ⟨#[]⟩, .slice none 0 0, .slice none 0 0, .slice none 0 0, .slice none 0 0]) YAcscs.out)
  have FS := hide (SchRow.mono (SchRow.setL (g := w.heap.size + 1) (m := 0) [.string nm, .slice b1 n1 p1, .slice b2 n2 p2, .slice b3 n3 p3, .slice b4 n4 p4] RSscs.out (show w.heap.size + 1 < _ by have := HG.out; have := GT1.out; omega)) GW1.out (Nat.le_of_eq (setL_size [.string nm, .slice b1 n1 p1, .slice b2 n2 p2, .slice b3 n3 p3, .slice b4 n4 p4] U4 (w.heap.size + 1) 0).symm))
  have FR := hide (RwRow.mono (ERow.setL vElem (g := w.heap.size + 1) (m := 0) [.string nm, .slice b1 n1 p1, .slice b2 n2 p2, .slice b3 n3 p3, .slice b4 n4 p4] RRs.out (show w.heap.size + 1 < _ by have := HG.out; have := GT2.out; omega)) GW2.out (Nat.le_of_eq (setL_size [.string nm, .slice b1 n1 p1, .slice b2 n2 p2, .slice b3 n3 p3, .slice b4 n4 p4] U4 (w.heap.size + 1) 0).symm))
  go_wp2
  refine bodyPost_ret (v := .agg #[.string nm, .slice b1 n1 p1, .slice b2 n2 p2, .slice b3 n3 p3, .slice b4 n4 p4]) (resTable Tryz.results6 _ _ (w.heap.size + 1) _ _ _ _ _ rfl YF.out) rfl ⟨b1, p1, b2, p2, b3, p3, b4, p4, rfl, FS.out, FR.out, BF.out⟩
end Go.Proofs.YtkhklfnhninkjaaGreat
