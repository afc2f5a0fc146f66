/-
  Contracts and plain laws: SRowS, SRowF
-/
import Derived.Test.YtkhklfnhninkjaaGreatSRowR
import Derived.Test.YtkhklfnhninkjaaGreatQc

/-
  Contracts: is a row right? The specification's answer.
-/
namespace Go.Proofs.YtkhklfnhninkjaaGreat
open Go.RowKit
set_option maxRecDepth 100000

set_option maxHeartbeats 2000000 in
theorem specRow_any (A B B' : Nat) (ao : Option Addr) (c1 : Nat) (ko : Option Addr) (c2 : Nat) (xo : Option Addr) (c3 : Nat) (vo : Option Addr) (c4 : Nat) (s : Sch) (vs : List Val) (w : World) (hB : B ≤ w.heap.size) (hB' : B' ≤ w.heap.size) (hl : vs.length ≤ maxLen) (hr : SchRow w A B ao ko xo c2 s) (hv : ValRow w B' vo vs) :
    Calls Tryz.prog 12 #[.agg #[.string s.name, .slice ao s.cols.length c1, .slice ko s.key.length c2, .slice xo s.idx.length c3], .slice vo vs.length c4] w fun e w' => e = .returned (.bool (rowOk s.cols vs)) ∧ Below w.heap.size w w' := by
  obtain ⟨nm, cs, ky, xs⟩ := s
  simp only
  obtain ⟨⟨hn0, hn1, hn2, hn3⟩, hr1, hr2, hr3⟩ := hr
  simp only at hn0 hn1 hn2 hn3 hr1 hr2 hr3
  have B0 : Hid (Below w.heap.size w (w.alloc (.cells #[.string nm, .slice ao cs.length c1, .slice ko ky.length c2, .slice xo xs.length c3] 35))) := (Below.refl _ _).alloc (Nat.le_refl _) _
  have R1 : Hid (ColRow (w.alloc (.cells #[.string nm, .slice ao cs.length c1, .slice ko ky.length c2, .slice xo xs.length c3] 35)) A B ao cs) := hr1.kept (B0.out.mono hB)
  have RV : Hid (ValRow (w.alloc (.cells #[.string nm, .slice ao cs.length c1, .slice ko ky.length c2, .slice xo xs.length c3] 35)) B' vo vs) := hv.kept (B0.out.mono hB')
  have X0 : Hid ((w.alloc (.cells #[.string nm, .slice ao cs.length c1, .slice ko ky.length c2, .slice xo xs.length c3] 35)).heap[w.heap.size]? = some (.cells #[.string nm, .slice ao cs.length c1, .slice ko ky.length c2, .slice xo xs.length c3] 35 (0, 0))) := heap_alloc_new _ _
  have hs0 : w.heap.size < (w.alloc (.cells #[.string nm, .slice ao cs.length c1, .slice ko ky.length c2, .slice xo xs.length c3] 35)).heap.size := by simp
  clear hr1 hr2 hr3 hv hn0 hn2 hn3
  unfold maxLen at hn1 hl
  by_cases hlen : vs.length = cs.length
  · have HV : Hid (rowOk cs vs = upto (fitAt cs vs) vs.length) := by show _ = _; unfold rowOk; simp [hlen]
    have HL := hide hlen
    have hlen' : (vs.length : Int) = (cs.length : Int) := by omega
    clear hlen
    go_enter Tryz.func12, Tryz.ntmps12
    go_wp2
    clear hlen'
    generalize w.alloc (.cells #[.string nm, .slice ao cs.length c1, .slice ko ky.length c2, .slice xo xs.length c3] 35) = W0 at *
    go_loopw [5] (fun i wr => ∃ j : Nat, j ≤ vs.length ∧ i = .int .i64 j ∧ Hid (upto (fitAt cs vs) j = true) ∧ Below W0.heap.size W0 wr) (fun i _ => vs.length - (intOf i).toNat)
    case atStart => exact ⟨0, Nat.zero_le _, rfl, rfl, Below.refl _ _⟩
    case round =>
      obtain ⟨j, hj, rfl, HU, hb⟩ := hrel
      obtain ⟨x0, x1, x2, x3, xf⟩ := cells4 ((hb.block _ hs0).trans X0.out)
      have hz : w.heap.size < wr.heap.size := by have := hb.size; omega
      by_cases hlt : j < vs.length
      · have hlt2 : j < cs.length := by have := HL.out; omega
        obtain ⟨b, off, kk, nn, tt, rfl, hbB, hv, htt, d0, d1, d2⟩ := (RV.out.kept (hb.mono (Nat.le_trans hB' B0.out.size))).at j hlt
        obtain ⟨b1, off1, cn, kd, nu, rfl, hbB1, hv1, _, _, e0, e1, e2⟩ := (R1.out.kept (hb.mono (Nat.le_trans hB B0.out.size))).at j hlt2
        have HK : Hid (fitAt cs vs j = (vRight ⟨kk, nn, tt⟩ && (decide (kk = kd) || (decide (kk = 0) && nu)))) := by
          show _ = _
          unfold fitAt fitV
          rw [hv1, List.getD_eq_getElem?_getD, List.getElem?_eq_getElem hlt, Option.getD_some, hv]
        have hc := fun w => specValueRight_any kk nn tt w
        generalize vRight ⟨kk, nn, tt⟩ = r at *
        have HC := hide hc
        have hi0 : (0 : Int) ≤ (j : Int) := by omega
        have hi1 : (j : Int) < (vs.length : Int) := by omega
        have hi2 : (j : Int) < (cs.length : Int) := by omega
        have ht := (Int.toNat_natCast j)
        have hq1 : b < wr.heap.size := by have := hb.size; have := B0.out.size; omega
        have hq2 : b1 < wr.heap.size := by have := hb.size; have := B0.out.size; omega
        clear hv hv1 hc htt x0 x2 x3 xf e0
        cases r with
        | false =>
          have HF : Hid (rowOk cs vs = false) := by show _ = _; rw [HV.out, upto_false hlt HK.out]
          clear HK HU HV
          go_wp2
          refine wp_region_noPanic ?_
          refine wp_region_held_drew (S := (fun W => W.cell? ⟨w.heap.size, 1, none⟩ = some (.slice (some ⟨b1, off1, none⟩) cs.length c1) ∧ W.cell? ⟨b, off + j * 3, none⟩ = some (.int .i64 kk) ∧ W.cell? ⟨b, off + j * 3 + 1, none⟩ = some (.int .i64 nn) ∧ W.cell? ⟨b, off + j * 3 + 2, none⟩ = some (.string tt) ∧ W.cell? ⟨b1, off1 + j * 3 + 1, none⟩ = some (.int .i64 kd) ∧ W.cell? ⟨b1, off1 + j * 3 + 2, none⟩ = some (.bool nu))) (by kernel_rfl) ?_ (fun hHeld => ?_)
          · (try dsimp only); go_keep
          refine takeD 0 18 (v := ?v1x0) rfl rfl (by kernel_rfl) (by kernel_rfl) (by kernel_rfl) (fun _ _ _ h => h) (by kernel_rfl) ?hy1x0 (by assumption) ?r1x0
          case hy1x0 => (intro W hSw; (try dsimp only at hSw); go_simp; try with_reducible rfl)
          simp only [Act.put, List.setIfInBounds_toArray, List.set_cons_zero, List.set_cons_succ]
          refine takeD 1 19 (v := ?v1x1) rfl rfl (by kernel_rfl) (by kernel_rfl) (by kernel_rfl) (fun _ _ _ h => h) (by kernel_rfl) ?hy1x1 (by assumption) ?r1x1
          case hy1x1 => (intro W hSw; (try dsimp only at hSw); go_simp; try with_reducible rfl)
          simp only [Act.put, List.setIfInBounds_toArray, List.set_cons_zero, List.set_cons_succ]
          refine takeD 2 20 (v := ?v1x2) rfl rfl (by kernel_rfl) (by kernel_rfl) (by kernel_rfl) (fun _ _ _ h => h) (by kernel_rfl) ?hy1x2 (by assumption) ?r1x2
          case hy1x2 => (intro W hSw; (try dsimp only at hSw); go_simp; try with_reducible rfl)
          simp only [Act.put, List.setIfInBounds_toArray, List.set_cons_zero, List.set_cons_succ]
          refine takeD 3 21 (v := ?v1x3) rfl rfl (by kernel_rfl) (by kernel_rfl) (by kernel_rfl) (fun _ _ _ h => h) (by kernel_rfl) ?hy1x3 (by assumption) ?r1x3
          case hy1x3 => (intro W hSw; (try dsimp only at hSw); go_simp; try with_reducible rfl)
          simp only [Act.put, List.setIfInBounds_toArray, List.set_cons_zero, List.set_cons_succ]
          refine wpAnyH_ready (rs := [4]) (by kernel_rfl) (by simp) ?_
          refine AllReadyH.cons (o := _) rfl (fun K hK => ?_) AllReadyH.nil
          go_simp
          (go_at_call 27; refine (HC.out _).mono ?_; rintro e w1 ⟨rfl, hb1⟩; have hb1' : Below wr.heap.size wr w1 := (Below.refl _ _).drew.trans hb1; obtain ⟨hc1, hf1⟩ := bcell hb1')
          go_wp2_with fail
          refine hK.out _ _ ?_ (fun hHeld2 => ?_)
          · (try dsimp only); go_keep
          clear hK K hHeld
          try simp only [Act.put, List.setIfInBounds_toArray, List.set_cons_zero, List.set_cons_succ]
          refine takeD 5 23 (v := ?v1x5) rfl rfl (by kernel_rfl) (by kernel_rfl) (by kernel_rfl) (fun _ _ _ h => h) (by kernel_rfl) ?hy1x5 (by assumption) ?r1x5
          case hy1x5 => (intro W hSw; (try dsimp only at hSw); go_simp; try with_reducible rfl)
          simp only [Act.put, List.setIfInBounds_toArray, List.set_cons_zero, List.set_cons_succ]
          refine takeD 6 24 (v := ?v1x6) rfl rfl (by kernel_rfl) (by kernel_rfl) (by kernel_rfl) (fun _ _ _ h => h) (by kernel_rfl) ?hy1x6 (by assumption) ?r1x6
          case hy1x6 => (intro W hSw; (try dsimp only at hSw); go_simp; try with_reducible rfl)
          simp only [Act.put, List.setIfInBounds_toArray, List.set_cons_zero, List.set_cons_succ]
          refine skipAll [(7, 25), (8, 26), (9, 27), (10, 28), (11, 29), (12, 30), (13, 31), (14, 32), (15, 33), (16, 34), (17, 35), (18, 36), (19, 37), (20, 38), (21, 39), (22, 40), (23, 41), (24, 42), (25, 43), (26, 44), (27, 45), (28, 46), (29, 47), (30, 48), (31, 49), (32, 50), (33, 51), (34, 52), (35, 53)] (by kernel_rfl) (fun _ _ _ _ _ h => h) (by assumption) (by kernel_rfl) ?_
          simp only [putAll, listAll, List.foldl_cons, List.foldl_nil, Act.put, List.setIfInBounds_toArray, List.set_cons_zero, List.set_cons_succ]
          refine takeD 36 54 (v := ?v1x36) rfl rfl (by kernel_rfl) (by kernel_rfl) (by kernel_rfl) (fun _ _ _ h => h) (by kernel_rfl) ?hy1x36 (by assumption) ?r1x36
          case hy1x36 => (intro W hSw; (try dsimp only at hSw); go_simp; try with_reducible rfl)
          simp only [Act.put, List.setIfInBounds_toArray, List.set_cons_zero, List.set_cons_succ]
          refine wpAnyH_done (by kernel_rfl) ?_ _
          refine NoPanic.normal ?_
          all_goals
            have hb2 := B0.out.trans ((hb.trans (hb1'.mono hb.size)).mono B0.out.size)
            go_wp2
            go_ret
            exact ⟨ret_bool HF.out.symm, hb2⟩
        | true =>
          by_cases hkk : kk = kd
          · subst hkk
            have HU2 : Hid (upto (fitAt cs vs) (j + 1) = true) := by show _ = _; rw [upto_succ, HU.out, HK.out]; simp
            clear HK HU
            go_wp2
            refine wp_region_noPanic ?_
            refine wp_region_held_drew (S := (fun W => W.cell? ⟨w.heap.size, 1, none⟩ = some (.slice (some ⟨b1, off1, none⟩) cs.length c1) ∧ W.cell? ⟨b, off + j * 3, none⟩ = some (.int .i64 kk) ∧ W.cell? ⟨b, off + j * 3 + 1, none⟩ = some (.int .i64 nn) ∧ W.cell? ⟨b, off + j * 3 + 2, none⟩ = some (.string tt) ∧ W.cell? ⟨b1, off1 + j * 3 + 1, none⟩ = some (.int .i64 kk) ∧ W.cell? ⟨b1, off1 + j * 3 + 2, none⟩ = some (.bool nu))) (by kernel_rfl) ?_ (fun hHeld => ?_)
            · (try dsimp only); go_keep
            refine takeD 0 18 (v := ?v2x0) rfl rfl (by kernel_rfl) (by kernel_rfl) (by kernel_rfl) (fun _ _ _ h => h) (by kernel_rfl) ?hy2x0 (by assumption) ?r2x0
            case hy2x0 => (intro W hSw; (try dsimp only at hSw); go_simp; try with_reducible rfl)
            simp only [Act.put, List.setIfInBounds_toArray, List.set_cons_zero, List.set_cons_succ]
            refine takeD 1 19 (v := ?v2x1) rfl rfl (by kernel_rfl) (by kernel_rfl) (by kernel_rfl) (fun _ _ _ h => h) (by kernel_rfl) ?hy2x1 (by assumption) ?r2x1
            case hy2x1 => (intro W hSw; (try dsimp only at hSw); go_simp; try with_reducible rfl)
            simp only [Act.put, List.setIfInBounds_toArray, List.set_cons_zero, List.set_cons_succ]
            refine takeD 2 20 (v := ?v2x2) rfl rfl (by kernel_rfl) (by kernel_rfl) (by kernel_rfl) (fun _ _ _ h => h) (by kernel_rfl) ?hy2x2 (by assumption) ?r2x2
            case hy2x2 => (intro W hSw; (try dsimp only at hSw); go_simp; try with_reducible rfl)
            simp only [Act.put, List.setIfInBounds_toArray, List.set_cons_zero, List.set_cons_succ]
            refine takeD 3 21 (v := ?v2x3) rfl rfl (by kernel_rfl) (by kernel_rfl) (by kernel_rfl) (fun _ _ _ h => h) (by kernel_rfl) ?hy2x3 (by assumption) ?r2x3
            case hy2x3 => (intro W hSw; (try dsimp only at hSw); go_simp; try with_reducible rfl)
            simp only [Act.put, List.setIfInBounds_toArray, List.set_cons_zero, List.set_cons_succ]
            refine wpAnyH_ready (rs := [4]) (by kernel_rfl) (by simp) ?_
            refine AllReadyH.cons (o := _) rfl (fun K hK => ?_) AllReadyH.nil
            go_simp
            (go_at_call 27; refine (HC.out _).mono ?_; rintro e w1 ⟨rfl, hb1⟩; have hb1' : Below wr.heap.size wr w1 := (Below.refl _ _).drew.trans hb1; obtain ⟨hc1, hf1⟩ := bcell hb1')
            go_wp2_with fail
            refine hK.out _ _ ?_ (fun hHeld2 => ?_)
            · (try dsimp only); go_keep
            clear hK K hHeld
            try simp only [Act.put, List.setIfInBounds_toArray, List.set_cons_zero, List.set_cons_succ]
            refine takeD 5 23 (v := ?v2x5) rfl rfl (by kernel_rfl) (by kernel_rfl) (by kernel_rfl) (fun _ _ _ h => h) (by kernel_rfl) ?hy2x5 (by assumption) ?r2x5
            case hy2x5 => (intro W hSw; (try dsimp only at hSw); go_simp; try with_reducible rfl)
            simp only [Act.put, List.setIfInBounds_toArray, List.set_cons_zero, List.set_cons_succ]
            refine takeD 6 24 (v := ?v2x6) rfl rfl (by kernel_rfl) (by kernel_rfl) (by kernel_rfl) (fun _ _ _ h => h) (by kernel_rfl) ?hy2x6 (by assumption) ?r2x6
            case hy2x6 => (intro W hSw; (try dsimp only at hSw); go_simp; try with_reducible rfl)
            simp only [Act.put, List.setIfInBounds_toArray, List.set_cons_zero, List.set_cons_succ]
            refine takeD 7 25 (v := ?v2x7) rfl rfl (by kernel_rfl) (by kernel_rfl) (by kernel_rfl) (fun _ _ _ h => h) (by kernel_rfl) ?hy2x7 (by assumption) ?r2x7
            case hy2x7 => (intro W hSw; (try dsimp only at hSw); go_simp; try with_reducible rfl)
            simp only [Act.put, List.setIfInBounds_toArray, List.set_cons_zero, List.set_cons_succ]
            refine takeD 8 26 (v := ?v2x8) rfl rfl (by kernel_rfl) (by kernel_rfl) (by kernel_rfl) (fun _ _ _ h => h) (by kernel_rfl) ?hy2x8 (by assumption) ?r2x8
            case hy2x8 => (intro W hSw; (try dsimp only at hSw); go_simp; try with_reducible rfl)
            simp only [Act.put, List.setIfInBounds_toArray, List.set_cons_zero, List.set_cons_succ]
            refine takeD 9 27 (v := ?v2x9) rfl rfl (by kernel_rfl) (by kernel_rfl) (by kernel_rfl) (fun _ _ _ h => h) (by kernel_rfl) ?hy2x9 (by assumption) ?r2x9
            case hy2x9 => (intro W hSw; (try dsimp only at hSw); go_simp; try with_reducible rfl)
            simp only [Act.put, List.setIfInBounds_toArray, List.set_cons_zero, List.set_cons_succ]
            refine takeD 10 28 (v := ?v2x10) rfl rfl (by kernel_rfl) (by kernel_rfl) (by kernel_rfl) (fun _ _ _ h => h) (by kernel_rfl) ?hy2x10 (by assumption) ?r2x10
            case hy2x10 => (intro W hSw; (try dsimp only at hSw); go_simp; try with_reducible rfl)
            simp only [Act.put, List.setIfInBounds_toArray, List.set_cons_zero, List.set_cons_succ]
            refine takeD 11 29 (v := ?v2x11) rfl rfl (by kernel_rfl) (by kernel_rfl) (by kernel_rfl) (fun _ _ _ h => h) (by kernel_rfl) ?hy2x11 (by assumption) ?r2x11
            case hy2x11 => (intro W hSw; (try dsimp only at hSw); go_simp; try with_reducible rfl)
            simp only [Act.put, List.setIfInBounds_toArray, List.set_cons_zero, List.set_cons_succ]
            refine takeD 12 30 (v := ?v2x12) rfl rfl (by kernel_rfl) (by kernel_rfl) (by kernel_rfl) (fun _ _ _ h => h) (by kernel_rfl) ?hy2x12 (by assumption) ?r2x12
            case hy2x12 => (intro W hSw; (try dsimp only at hSw); go_simp; try with_reducible rfl)
            simp only [Act.put, List.setIfInBounds_toArray, List.set_cons_zero, List.set_cons_succ]
            refine takeD 13 31 (v := ?v2x13) rfl rfl (by kernel_rfl) (by kernel_rfl) (by kernel_rfl) (fun _ _ _ h => h) (by kernel_rfl) ?hy2x13 (by assumption) ?r2x13
            case hy2x13 => (intro W hSw; (try dsimp only at hSw); go_simp; try with_reducible rfl)
            simp only [Act.put, List.setIfInBounds_toArray, List.set_cons_zero, List.set_cons_succ]
            refine takeD 14 32 (v := ?v2x14) rfl rfl (by kernel_rfl) (by kernel_rfl) (by kernel_rfl) (fun _ _ _ h => h) (by kernel_rfl) ?hy2x14 (by assumption) ?r2x14
            case hy2x14 => (intro W hSw; (try dsimp only at hSw); go_simp; try with_reducible rfl)
            simp only [Act.put, List.setIfInBounds_toArray, List.set_cons_zero, List.set_cons_succ]
            refine takeD 15 33 (v := ?v2x15) rfl rfl (by kernel_rfl) (by kernel_rfl) (by kernel_rfl) (fun _ _ _ h => h) (by kernel_rfl) ?hy2x15 (by assumption) ?r2x15
            case hy2x15 => (intro W hSw; (try dsimp only at hSw); go_simp; try with_reducible rfl)
            simp only [Act.put, List.setIfInBounds_toArray, List.set_cons_zero, List.set_cons_succ]
            refine takeD 16 34 (v := ?v2x16) rfl rfl (by kernel_rfl) (by kernel_rfl) (by kernel_rfl) (fun _ _ _ h => h) (by kernel_rfl) ?hy2x16 (by assumption) ?r2x16
            case hy2x16 => (intro W hSw; (try dsimp only at hSw); go_simp; try with_reducible rfl)
            simp only [Act.put, List.setIfInBounds_toArray, List.set_cons_zero, List.set_cons_succ]
            refine takeD 17 35 (v := ?v2x17) rfl rfl (by kernel_rfl) (by kernel_rfl) (by kernel_rfl) (fun _ _ _ h => h) (by kernel_rfl) ?hy2x17 (by assumption) ?r2x17
            case hy2x17 => (intro W hSw; (try dsimp only at hSw); go_simp; try with_reducible rfl)
            simp only [Act.put, List.setIfInBounds_toArray, List.set_cons_zero, List.set_cons_succ]
            refine takeD 18 36 (v := ?v2x18) rfl rfl (by kernel_rfl) (by kernel_rfl) (by kernel_rfl) (fun _ _ _ h => h) (by kernel_rfl) ?hy2x18 (by assumption) ?r2x18
            case hy2x18 => (intro W hSw; (try dsimp only at hSw); go_simp; try with_reducible rfl)
            simp only [Act.put, List.setIfInBounds_toArray, List.set_cons_zero, List.set_cons_succ]
            refine takeD 19 37 (v := ?v2x19) rfl rfl (by kernel_rfl) (by kernel_rfl) (by kernel_rfl) (fun _ _ _ h => h) (by kernel_rfl) ?hy2x19 (by assumption) ?r2x19
            case hy2x19 => (intro W hSw; (try dsimp only at hSw); go_simp; try with_reducible rfl)
            simp only [Act.put, List.setIfInBounds_toArray, List.set_cons_zero, List.set_cons_succ]
            refine skipAll [(20, 38), (21, 39), (22, 40), (23, 41), (24, 42), (25, 43), (26, 44), (27, 45), (28, 46), (29, 47), (30, 48), (31, 49), (32, 50), (33, 51), (34, 52)] (by kernel_rfl) (fun _ _ _ _ _ h => h) (by assumption) (by kernel_rfl) ?_
            simp only [putAll, listAll, List.foldl_cons, List.foldl_nil, Act.put, List.setIfInBounds_toArray, List.set_cons_zero, List.set_cons_succ]
            refine takeD 35 53 (v := ?v2x35) rfl rfl (by kernel_rfl) (by kernel_rfl) (by kernel_rfl) (fun _ _ _ h => h) (by kernel_rfl) ?hy2x35 (by assumption) ?r2x35
            case hy2x35 => (intro W hSw; (try dsimp only at hSw); go_simp; try with_reducible rfl)
            simp only [Act.put, List.setIfInBounds_toArray, List.set_cons_zero, List.set_cons_succ]
            refine takeD 36 54 (v := ?v2x36) rfl rfl (by kernel_rfl) (by kernel_rfl) (by kernel_rfl) (fun _ _ _ h => h) (by kernel_rfl) ?hy2x36 (by assumption) ?r2x36
            case hy2x36 => (intro W hSw; (try dsimp only at hSw); go_simp; try with_reducible rfl)
            simp only [Act.put, List.setIfInBounds_toArray, List.set_cons_zero, List.set_cons_succ]
            refine wpAnyH_done (by kernel_rfl) ?_ _
            refine NoPanic.normal ?_
            all_goals
              have hb2 := hb.trans (hb1'.mono hb.size)
              clear hb hb1 hb1' hc1 hf1 d0 d1 d2 e1 e2 x1 hz
              go_wp2
              go_roundw
              case rel => exact ⟨j + 1, by omega, by go_num, HU2, hb2⟩
              case measure => simp [intOf]; omega
          · have n1 : (kk != kd) = true := by simp [hkk]
            have n2 : (kk == kd) = false := by simp [hkk]
            by_cases hk0 : kk = 0
            · subst hk0
              cases nu with
              | true =>
                have HU2 : Hid (upto (fitAt cs vs) (j + 1) = true) := by show _ = _; rw [upto_succ, HU.out, HK.out]; simp
                clear HK HU hkk
                go_wp2
                refine wp_region_noPanic ?_
                refine wp_region_held_drew (S := (fun W => W.cell? ⟨w.heap.size, 1, none⟩ = some (.slice (some ⟨b1, off1, none⟩) cs.length c1) ∧ W.cell? ⟨b, off + j * 3, none⟩ = some (.int .i64 0) ∧ W.cell? ⟨b, off + j * 3 + 1, none⟩ = some (.int .i64 nn) ∧ W.cell? ⟨b, off + j * 3 + 2, none⟩ = some (.string tt) ∧ W.cell? ⟨b1, off1 + j * 3 + 1, none⟩ = some (.int .i64 kd) ∧ W.cell? ⟨b1, off1 + j * 3 + 2, none⟩ = some (.bool true))) (by kernel_rfl) ?_ (fun hHeld => ?_)
                · (try dsimp only); go_keep
                refine takeD 0 18 (v := ?v3x0) rfl rfl (by kernel_rfl) (by kernel_rfl) (by kernel_rfl) (fun _ _ _ h => h) (by kernel_rfl) ?hy3x0 (by assumption) ?r3x0
                case hy3x0 => (intro W hSw; (try dsimp only at hSw); go_simp; try with_reducible rfl)
                simp only [Act.put, List.setIfInBounds_toArray, List.set_cons_zero, List.set_cons_succ]
                refine takeD 1 19 (v := ?v3x1) rfl rfl (by kernel_rfl) (by kernel_rfl) (by kernel_rfl) (fun _ _ _ h => h) (by kernel_rfl) ?hy3x1 (by assumption) ?r3x1
                case hy3x1 => (intro W hSw; (try dsimp only at hSw); go_simp; try with_reducible rfl)
                simp only [Act.put, List.setIfInBounds_toArray, List.set_cons_zero, List.set_cons_succ]
                refine takeD 2 20 (v := ?v3x2) rfl rfl (by kernel_rfl) (by kernel_rfl) (by kernel_rfl) (fun _ _ _ h => h) (by kernel_rfl) ?hy3x2 (by assumption) ?r3x2
                case hy3x2 => (intro W hSw; (try dsimp only at hSw); go_simp; try with_reducible rfl)
                simp only [Act.put, List.setIfInBounds_toArray, List.set_cons_zero, List.set_cons_succ]
                refine takeD 3 21 (v := ?v3x3) rfl rfl (by kernel_rfl) (by kernel_rfl) (by kernel_rfl) (fun _ _ _ h => h) (by kernel_rfl) ?hy3x3 (by assumption) ?r3x3
                case hy3x3 => (intro W hSw; (try dsimp only at hSw); go_simp; try with_reducible rfl)
                simp only [Act.put, List.setIfInBounds_toArray, List.set_cons_zero, List.set_cons_succ]
                refine wpAnyH_ready (rs := [4]) (by kernel_rfl) (by simp) ?_
                refine AllReadyH.cons (o := _) rfl (fun K hK => ?_) AllReadyH.nil
                go_simp
                (go_at_call 27; refine (HC.out _).mono ?_; rintro e w1 ⟨rfl, hb1⟩; have hb1' : Below wr.heap.size wr w1 := (Below.refl _ _).drew.trans hb1; obtain ⟨hc1, hf1⟩ := bcell hb1')
                go_wp2_with fail
                refine hK.out _ _ ?_ (fun hHeld2 => ?_)
                · (try dsimp only); go_keep
                clear hK K hHeld
                try simp only [Act.put, List.setIfInBounds_toArray, List.set_cons_zero, List.set_cons_succ]
                refine takeD 5 23 (v := ?v3x5) rfl rfl (by kernel_rfl) (by kernel_rfl) (by kernel_rfl) (fun _ _ _ h => h) (by kernel_rfl) ?hy3x5 (by assumption) ?r3x5
                case hy3x5 => (intro W hSw; (try dsimp only at hSw); go_simp; try with_reducible rfl)
                simp only [Act.put, List.setIfInBounds_toArray, List.set_cons_zero, List.set_cons_succ]
                refine takeD 6 24 (v := ?v3x6) rfl rfl (by kernel_rfl) (by kernel_rfl) (by kernel_rfl) (fun _ _ _ h => h) (by kernel_rfl) ?hy3x6 (by assumption) ?r3x6
                case hy3x6 => (intro W hSw; (try dsimp only at hSw); go_simp; try with_reducible rfl)
                simp only [Act.put, List.setIfInBounds_toArray, List.set_cons_zero, List.set_cons_succ]
                refine takeD 7 25 (v := ?v3x7) rfl rfl (by kernel_rfl) (by kernel_rfl) (by kernel_rfl) (fun _ _ _ h => h) (by kernel_rfl) ?hy3x7 (by assumption) ?r3x7
                case hy3x7 => (intro W hSw; (try dsimp only at hSw); go_simp; try with_reducible rfl)
                simp only [Act.put, List.setIfInBounds_toArray, List.set_cons_zero, List.set_cons_succ]
                refine takeD 8 26 (v := ?v3x8) rfl rfl (by kernel_rfl) (by kernel_rfl) (by kernel_rfl) (fun _ _ _ h => h) (by kernel_rfl) ?hy3x8 (by assumption) ?r3x8
                case hy3x8 => (intro W hSw; (try dsimp only at hSw); go_simp; try with_reducible rfl)
                simp only [Act.put, List.setIfInBounds_toArray, List.set_cons_zero, List.set_cons_succ]
                refine takeD 9 27 (v := ?v3x9) rfl rfl (by kernel_rfl) (by kernel_rfl) (by kernel_rfl) (fun _ _ _ h => h) (by kernel_rfl) ?hy3x9 (by assumption) ?r3x9
                case hy3x9 => (intro W hSw; (try dsimp only at hSw); go_simp; try with_reducible rfl)
                simp only [Act.put, List.setIfInBounds_toArray, List.set_cons_zero, List.set_cons_succ]
                refine takeD 10 28 (v := ?v3x10) rfl rfl (by kernel_rfl) (by kernel_rfl) (by kernel_rfl) (fun _ _ _ h => h) (by kernel_rfl) ?hy3x10 (by assumption) ?r3x10
                case hy3x10 => (intro W hSw; (try dsimp only at hSw); go_simp; try with_reducible rfl)
                simp only [Act.put, List.setIfInBounds_toArray, List.set_cons_zero, List.set_cons_succ]
                refine takeD 11 29 (v := ?v3x11) rfl rfl (by kernel_rfl) (by kernel_rfl) (by kernel_rfl) (fun _ _ _ h => h) (by kernel_rfl) ?hy3x11 (by assumption) ?r3x11
                case hy3x11 => (intro W hSw; (try dsimp only at hSw); go_simp; try with_reducible rfl)
                simp only [Act.put, List.setIfInBounds_toArray, List.set_cons_zero, List.set_cons_succ]
                refine takeD 12 30 (v := ?v3x12) rfl rfl (by kernel_rfl) (by kernel_rfl) (by kernel_rfl) (fun _ _ _ h => h) (by kernel_rfl) ?hy3x12 (by assumption) ?r3x12
                case hy3x12 => (intro W hSw; (try dsimp only at hSw); go_simp; try with_reducible rfl)
                simp only [Act.put, List.setIfInBounds_toArray, List.set_cons_zero, List.set_cons_succ]
                refine takeD 13 31 (v := ?v3x13) rfl rfl (by kernel_rfl) (by kernel_rfl) (by kernel_rfl) (fun _ _ _ h => h) (by kernel_rfl) ?hy3x13 (by assumption) ?r3x13
                case hy3x13 => (intro W hSw; (try dsimp only at hSw); go_simp; try with_reducible rfl)
                simp only [Act.put, List.setIfInBounds_toArray, List.set_cons_zero, List.set_cons_succ]
                refine takeD 14 32 (v := ?v3x14) rfl rfl (by kernel_rfl) (by kernel_rfl) (by kernel_rfl) (fun _ _ _ h => h) (by kernel_rfl) ?hy3x14 (by assumption) ?r3x14
                case hy3x14 => (intro W hSw; (try dsimp only at hSw); go_simp; try with_reducible rfl)
                simp only [Act.put, List.setIfInBounds_toArray, List.set_cons_zero, List.set_cons_succ]
                refine takeD 15 33 (v := ?v3x15) rfl rfl (by kernel_rfl) (by kernel_rfl) (by kernel_rfl) (fun _ _ _ h => h) (by kernel_rfl) ?hy3x15 (by assumption) ?r3x15
                case hy3x15 => (intro W hSw; (try dsimp only at hSw); go_simp; try with_reducible rfl)
                simp only [Act.put, List.setIfInBounds_toArray, List.set_cons_zero, List.set_cons_succ]
                refine takeD 16 34 (v := ?v3x16) rfl rfl (by kernel_rfl) (by kernel_rfl) (by kernel_rfl) (fun _ _ _ h => h) (by kernel_rfl) ?hy3x16 (by assumption) ?r3x16
                case hy3x16 => (intro W hSw; (try dsimp only at hSw); go_simp; try with_reducible rfl)
                simp only [Act.put, List.setIfInBounds_toArray, List.set_cons_zero, List.set_cons_succ]
                refine takeD 17 35 (v := ?v3x17) rfl rfl (by kernel_rfl) (by kernel_rfl) (by kernel_rfl) (fun _ _ _ h => h) (by kernel_rfl) ?hy3x17 (by assumption) ?r3x17
                case hy3x17 => (intro W hSw; (try dsimp only at hSw); go_simp; try with_reducible rfl)
                simp only [Act.put, List.setIfInBounds_toArray, List.set_cons_zero, List.set_cons_succ]
                refine takeD 18 36 (v := ?v3x18) rfl rfl (by kernel_rfl) (by kernel_rfl) (by kernel_rfl) (fun _ _ _ h => h) (by kernel_rfl) ?hy3x18 (by assumption) ?r3x18
                case hy3x18 => (intro W hSw; (try dsimp only at hSw); go_simp; try with_reducible rfl)
                simp only [Act.put, List.setIfInBounds_toArray, List.set_cons_zero, List.set_cons_succ]
                refine takeD 19 37 (v := ?v3x19) rfl rfl (by kernel_rfl) (by kernel_rfl) (by kernel_rfl) (fun _ _ _ h => h) (by kernel_rfl) ?hy3x19 (by assumption) ?r3x19
                case hy3x19 => (intro W hSw; (try dsimp only at hSw); go_simp; try with_reducible rfl)
                simp only [Act.put, List.setIfInBounds_toArray, List.set_cons_zero, List.set_cons_succ]
                refine takeD 20 38 (v := ?v3x20) rfl rfl (by kernel_rfl) (by kernel_rfl) (by kernel_rfl) (fun _ _ _ h => h) (by kernel_rfl) ?hy3x20 (by assumption) ?r3x20
                case hy3x20 => (intro W hSw; (try dsimp only at hSw); go_simp; try with_reducible rfl)
                simp only [Act.put, List.setIfInBounds_toArray, List.set_cons_zero, List.set_cons_succ]
                refine takeD 21 39 (v := ?v3x21) rfl rfl (by kernel_rfl) (by kernel_rfl) (by kernel_rfl) (fun _ _ _ h => h) (by kernel_rfl) ?hy3x21 (by assumption) ?r3x21
                case hy3x21 => (intro W hSw; (try dsimp only at hSw); go_simp; try with_reducible rfl)
                simp only [Act.put, List.setIfInBounds_toArray, List.set_cons_zero, List.set_cons_succ]
                refine takeD 22 40 (v := ?v3x22) rfl rfl (by kernel_rfl) (by kernel_rfl) (by kernel_rfl) (fun _ _ _ h => h) (by kernel_rfl) ?hy3x22 (by assumption) ?r3x22
                case hy3x22 => (intro W hSw; (try dsimp only at hSw); go_simp; try with_reducible rfl)
                simp only [Act.put, List.setIfInBounds_toArray, List.set_cons_zero, List.set_cons_succ]
                refine takeD 23 41 (v := ?v3x23) rfl rfl (by kernel_rfl) (by kernel_rfl) (by kernel_rfl) (fun _ _ _ h => h) (by kernel_rfl) ?hy3x23 (by assumption) ?r3x23
                case hy3x23 => (intro W hSw; (try dsimp only at hSw); go_simp; try with_reducible rfl)
                simp only [Act.put, List.setIfInBounds_toArray, List.set_cons_zero, List.set_cons_succ]
                refine takeD 24 42 (v := ?v3x24) rfl rfl (by kernel_rfl) (by kernel_rfl) (by kernel_rfl) (fun _ _ _ h => h) (by kernel_rfl) ?hy3x24 (by assumption) ?r3x24
                case hy3x24 => (intro W hSw; (try dsimp only at hSw); go_simp; try with_reducible rfl)
                simp only [Act.put, List.setIfInBounds_toArray, List.set_cons_zero, List.set_cons_succ]
                refine takeD 25 43 (v := ?v3x25) rfl rfl (by kernel_rfl) (by kernel_rfl) (by kernel_rfl) (fun _ _ _ h => h) (by kernel_rfl) ?hy3x25 (by assumption) ?r3x25
                case hy3x25 => (intro W hSw; (try dsimp only at hSw); go_simp; try with_reducible rfl)
                simp only [Act.put, List.setIfInBounds_toArray, List.set_cons_zero, List.set_cons_succ]
                refine takeD 26 44 (v := ?v3x26) rfl rfl (by kernel_rfl) (by kernel_rfl) (by kernel_rfl) (fun _ _ _ h => h) (by kernel_rfl) ?hy3x26 (by assumption) ?r3x26
                case hy3x26 => (intro W hSw; (try dsimp only at hSw); go_simp; try with_reducible rfl)
                simp only [Act.put, List.setIfInBounds_toArray, List.set_cons_zero, List.set_cons_succ]
                refine takeD 27 45 (v := ?v3x27) rfl rfl (by kernel_rfl) (by kernel_rfl) (by kernel_rfl) (fun _ _ _ h => h) (by kernel_rfl) ?hy3x27 (by assumption) ?r3x27
                case hy3x27 => (intro W hSw; (try dsimp only at hSw); go_simp; try with_reducible rfl)
                simp only [Act.put, List.setIfInBounds_toArray, List.set_cons_zero, List.set_cons_succ]
                refine takeD 28 46 (v := ?v3x28) rfl rfl (by kernel_rfl) (by kernel_rfl) (by kernel_rfl) (fun _ _ _ h => h) (by kernel_rfl) ?hy3x28 (by assumption) ?r3x28
                case hy3x28 => (intro W hSw; (try dsimp only at hSw); go_simp; try with_reducible rfl)
                simp only [Act.put, List.setIfInBounds_toArray, List.set_cons_zero, List.set_cons_succ]
                refine takeD 29 47 (v := ?v3x29) rfl rfl (by kernel_rfl) (by kernel_rfl) (by kernel_rfl) (fun _ _ _ h => h) (by kernel_rfl) ?hy3x29 (by assumption) ?r3x29
                case hy3x29 => (intro W hSw; (try dsimp only at hSw); go_simp; try with_reducible rfl)
                simp only [Act.put, List.setIfInBounds_toArray, List.set_cons_zero, List.set_cons_succ]
                refine takeD 30 48 (v := ?v3x30) rfl rfl (by kernel_rfl) (by kernel_rfl) (by kernel_rfl) (fun _ _ _ h => h) (by kernel_rfl) ?hy3x30 (by assumption) ?r3x30
                case hy3x30 => (intro W hSw; (try dsimp only at hSw); go_simp; try with_reducible rfl)
                simp only [Act.put, List.setIfInBounds_toArray, List.set_cons_zero, List.set_cons_succ]
                refine takeD 31 49 (v := ?v3x31) rfl rfl (by kernel_rfl) (by kernel_rfl) (by kernel_rfl) (fun _ _ _ h => h) (by kernel_rfl) ?hy3x31 (by assumption) ?r3x31
                case hy3x31 => (intro W hSw; (try dsimp only at hSw); go_simp; try with_reducible rfl)
                simp only [Act.put, List.setIfInBounds_toArray, List.set_cons_zero, List.set_cons_succ]
                refine takeD 32 50 (v := ?v3x32) rfl rfl (by kernel_rfl) (by kernel_rfl) (by kernel_rfl) (fun _ _ _ h => h) (by kernel_rfl) ?hy3x32 (by assumption) ?r3x32
                case hy3x32 => (intro W hSw; (try dsimp only at hSw); go_simp; try with_reducible rfl)
                simp only [Act.put, List.setIfInBounds_toArray, List.set_cons_zero, List.set_cons_succ]
                refine takeD 33 51 (v := ?v3x33) rfl rfl (by kernel_rfl) (by kernel_rfl) (by kernel_rfl) (fun _ _ _ h => h) (by kernel_rfl) ?hy3x33 (by assumption) ?r3x33
                case hy3x33 => (intro W hSw; (try dsimp only at hSw); go_simp; try with_reducible rfl)
                simp only [Act.put, List.setIfInBounds_toArray, List.set_cons_zero, List.set_cons_succ]
                refine takeD 34 52 (v := ?v3x34) rfl rfl (by kernel_rfl) (by kernel_rfl) (by kernel_rfl) (fun _ _ _ h => h) (by kernel_rfl) ?hy3x34 (by assumption) ?r3x34
                case hy3x34 => (intro W hSw; (try dsimp only at hSw); go_simp; try with_reducible rfl)
                simp only [Act.put, List.setIfInBounds_toArray, List.set_cons_zero, List.set_cons_succ]
                refine takeD 35 53 (v := ?v3x35) rfl rfl (by kernel_rfl) (by kernel_rfl) (by kernel_rfl) (fun _ _ _ h => h) (by kernel_rfl) ?hy3x35 (by assumption) ?r3x35
                case hy3x35 => (intro W hSw; (try dsimp only at hSw); go_simp; try with_reducible rfl)
                simp only [Act.put, List.setIfInBounds_toArray, List.set_cons_zero, List.set_cons_succ]
                refine takeD 36 54 (v := ?v3x36) rfl rfl (by kernel_rfl) (by kernel_rfl) (by kernel_rfl) (fun _ _ _ h => h) (by kernel_rfl) ?hy3x36 (by assumption) ?r3x36
                case hy3x36 => (intro W hSw; (try dsimp only at hSw); go_simp; try with_reducible rfl)
                simp only [Act.put, List.setIfInBounds_toArray, List.set_cons_zero, List.set_cons_succ]
                refine wpAnyH_done (by kernel_rfl) ?_ _
                refine NoPanic.normal ?_
                all_goals
                  have hb2 := hb.trans (hb1'.mono hb.size)
                  clear hb hb1 hb1' hc1 hf1 d0 d1 d2 e1 e2 x1 hz
                  go_wp2
                  go_roundw
                  case rel => exact ⟨j + 1, by omega, by go_num, HU2, hb2⟩
                  case measure => simp [intOf]; omega
              | false =>
                have HF : Hid (rowOk cs vs = false) := by show _ = _; rw [HV.out, upto_false hlt (by rw [HK.out]; simp [hkk])]
                clear HK HU HV hkk
                go_wp2
                refine wp_region_noPanic ?_
                refine wp_region_held_drew (S := (fun W => W.cell? ⟨w.heap.size, 1, none⟩ = some (.slice (some ⟨b1, off1, none⟩) cs.length c1) ∧ W.cell? ⟨b, off + j * 3, none⟩ = some (.int .i64 0) ∧ W.cell? ⟨b, off + j * 3 + 1, none⟩ = some (.int .i64 nn) ∧ W.cell? ⟨b, off + j * 3 + 2, none⟩ = some (.string tt) ∧ W.cell? ⟨b1, off1 + j * 3 + 1, none⟩ = some (.int .i64 kd) ∧ W.cell? ⟨b1, off1 + j * 3 + 2, none⟩ = some (.bool false))) (by kernel_rfl) ?_ (fun hHeld => ?_)
                · (try dsimp only); go_keep
                refine takeD 0 18 (v := ?v4x0) rfl rfl (by kernel_rfl) (by kernel_rfl) (by kernel_rfl) (fun _ _ _ h => h) (by kernel_rfl) ?hy4x0 (by assumption) ?r4x0
                case hy4x0 => (intro W hSw; (try dsimp only at hSw); go_simp; try with_reducible rfl)
                simp only [Act.put, List.setIfInBounds_toArray, List.set_cons_zero, List.set_cons_succ]
                refine takeD 1 19 (v := ?v4x1) rfl rfl (by kernel_rfl) (by kernel_rfl) (by kernel_rfl) (fun _ _ _ h => h) (by kernel_rfl) ?hy4x1 (by assumption) ?r4x1
                case hy4x1 => (intro W hSw; (try dsimp only at hSw); go_simp; try with_reducible rfl)
                simp only [Act.put, List.setIfInBounds_toArray, List.set_cons_zero, List.set_cons_succ]
                refine takeD 2 20 (v := ?v4x2) rfl rfl (by kernel_rfl) (by kernel_rfl) (by kernel_rfl) (fun _ _ _ h => h) (by kernel_rfl) ?hy4x2 (by assumption) ?r4x2
                case hy4x2 => (intro W hSw; (try dsimp only at hSw); go_simp; try with_reducible rfl)
                simp only [Act.put, List.setIfInBounds_toArray, List.set_cons_zero, List.set_cons_succ]
                refine takeD 3 21 (v := ?v4x3) rfl rfl (by kernel_rfl) (by kernel_rfl) (by kernel_rfl) (fun _ _ _ h => h) (by kernel_rfl) ?hy4x3 (by assumption) ?r4x3
                case hy4x3 => (intro W hSw; (try dsimp only at hSw); go_simp; try with_reducible rfl)
                simp only [Act.put, List.setIfInBounds_toArray, List.set_cons_zero, List.set_cons_succ]
                refine wpAnyH_ready (rs := [4]) (by kernel_rfl) (by simp) ?_
                refine AllReadyH.cons (o := _) rfl (fun K hK => ?_) AllReadyH.nil
                go_simp
                (go_at_call 27; refine (HC.out _).mono ?_; rintro e w1 ⟨rfl, hb1⟩; have hb1' : Below wr.heap.size wr w1 := (Below.refl _ _).drew.trans hb1; obtain ⟨hc1, hf1⟩ := bcell hb1')
                go_wp2_with fail
                refine hK.out _ _ ?_ (fun hHeld2 => ?_)
                · (try dsimp only); go_keep
                clear hK K hHeld
                try simp only [Act.put, List.setIfInBounds_toArray, List.set_cons_zero, List.set_cons_succ]
                refine takeD 5 23 (v := ?v4x5) rfl rfl (by kernel_rfl) (by kernel_rfl) (by kernel_rfl) (fun _ _ _ h => h) (by kernel_rfl) ?hy4x5 (by assumption) ?r4x5
                case hy4x5 => (intro W hSw; (try dsimp only at hSw); go_simp; try with_reducible rfl)
                simp only [Act.put, List.setIfInBounds_toArray, List.set_cons_zero, List.set_cons_succ]
                refine takeD 6 24 (v := ?v4x6) rfl rfl (by kernel_rfl) (by kernel_rfl) (by kernel_rfl) (fun _ _ _ h => h) (by kernel_rfl) ?hy4x6 (by assumption) ?r4x6
                case hy4x6 => (intro W hSw; (try dsimp only at hSw); go_simp; try with_reducible rfl)
                simp only [Act.put, List.setIfInBounds_toArray, List.set_cons_zero, List.set_cons_succ]
                refine takeD 7 25 (v := ?v4x7) rfl rfl (by kernel_rfl) (by kernel_rfl) (by kernel_rfl) (fun _ _ _ h => h) (by kernel_rfl) ?hy4x7 (by assumption) ?r4x7
                case hy4x7 => (intro W hSw; (try dsimp only at hSw); go_simp; try with_reducible rfl)
                simp only [Act.put, List.setIfInBounds_toArray, List.set_cons_zero, List.set_cons_succ]
                refine takeD 8 26 (v := ?v4x8) rfl rfl (by kernel_rfl) (by kernel_rfl) (by kernel_rfl) (fun _ _ _ h => h) (by kernel_rfl) ?hy4x8 (by assumption) ?r4x8
                case hy4x8 => (intro W hSw; (try dsimp only at hSw); go_simp; try with_reducible rfl)
                simp only [Act.put, List.setIfInBounds_toArray, List.set_cons_zero, List.set_cons_succ]
                refine takeD 9 27 (v := ?v4x9) rfl rfl (by kernel_rfl) (by kernel_rfl) (by kernel_rfl) (fun _ _ _ h => h) (by kernel_rfl) ?hy4x9 (by assumption) ?r4x9
                case hy4x9 => (intro W hSw; (try dsimp only at hSw); go_simp; try with_reducible rfl)
                simp only [Act.put, List.setIfInBounds_toArray, List.set_cons_zero, List.set_cons_succ]
                refine takeD 10 28 (v := ?v4x10) rfl rfl (by kernel_rfl) (by kernel_rfl) (by kernel_rfl) (fun _ _ _ h => h) (by kernel_rfl) ?hy4x10 (by assumption) ?r4x10
                case hy4x10 => (intro W hSw; (try dsimp only at hSw); go_simp; try with_reducible rfl)
                simp only [Act.put, List.setIfInBounds_toArray, List.set_cons_zero, List.set_cons_succ]
                refine takeD 11 29 (v := ?v4x11) rfl rfl (by kernel_rfl) (by kernel_rfl) (by kernel_rfl) (fun _ _ _ h => h) (by kernel_rfl) ?hy4x11 (by assumption) ?r4x11
                case hy4x11 => (intro W hSw; (try dsimp only at hSw); go_simp; try with_reducible rfl)
                simp only [Act.put, List.setIfInBounds_toArray, List.set_cons_zero, List.set_cons_succ]
                refine takeD 12 30 (v := ?v4x12) rfl rfl (by kernel_rfl) (by kernel_rfl) (by kernel_rfl) (fun _ _ _ h => h) (by kernel_rfl) ?hy4x12 (by assumption) ?r4x12
                case hy4x12 => (intro W hSw; (try dsimp only at hSw); go_simp; try with_reducible rfl)
                simp only [Act.put, List.setIfInBounds_toArray, List.set_cons_zero, List.set_cons_succ]
                refine takeD 13 31 (v := ?v4x13) rfl rfl (by kernel_rfl) (by kernel_rfl) (by kernel_rfl) (fun _ _ _ h => h) (by kernel_rfl) ?hy4x13 (by assumption) ?r4x13
                case hy4x13 => (intro W hSw; (try dsimp only at hSw); go_simp; try with_reducible rfl)
                simp only [Act.put, List.setIfInBounds_toArray, List.set_cons_zero, List.set_cons_succ]
                refine takeD 14 32 (v := ?v4x14) rfl rfl (by kernel_rfl) (by kernel_rfl) (by kernel_rfl) (fun _ _ _ h => h) (by kernel_rfl) ?hy4x14 (by assumption) ?r4x14
                case hy4x14 => (intro W hSw; (try dsimp only at hSw); go_simp; try with_reducible rfl)
                simp only [Act.put, List.setIfInBounds_toArray, List.set_cons_zero, List.set_cons_succ]
                refine takeD 15 33 (v := ?v4x15) rfl rfl (by kernel_rfl) (by kernel_rfl) (by kernel_rfl) (fun _ _ _ h => h) (by kernel_rfl) ?hy4x15 (by assumption) ?r4x15
                case hy4x15 => (intro W hSw; (try dsimp only at hSw); go_simp; try with_reducible rfl)
                simp only [Act.put, List.setIfInBounds_toArray, List.set_cons_zero, List.set_cons_succ]
                refine takeD 16 34 (v := ?v4x16) rfl rfl (by kernel_rfl) (by kernel_rfl) (by kernel_rfl) (fun _ _ _ h => h) (by kernel_rfl) ?hy4x16 (by assumption) ?r4x16
                case hy4x16 => (intro W hSw; (try dsimp only at hSw); go_simp; try with_reducible rfl)
                simp only [Act.put, List.setIfInBounds_toArray, List.set_cons_zero, List.set_cons_succ]
                refine takeD 17 35 (v := ?v4x17) rfl rfl (by kernel_rfl) (by kernel_rfl) (by kernel_rfl) (fun _ _ _ h => h) (by kernel_rfl) ?hy4x17 (by assumption) ?r4x17
                case hy4x17 => (intro W hSw; (try dsimp only at hSw); go_simp; try with_reducible rfl)
                simp only [Act.put, List.setIfInBounds_toArray, List.set_cons_zero, List.set_cons_succ]
                refine takeD 18 36 (v := ?v4x18) rfl rfl (by kernel_rfl) (by kernel_rfl) (by kernel_rfl) (fun _ _ _ h => h) (by kernel_rfl) ?hy4x18 (by assumption) ?r4x18
                case hy4x18 => (intro W hSw; (try dsimp only at hSw); go_simp; try with_reducible rfl)
                simp only [Act.put, List.setIfInBounds_toArray, List.set_cons_zero, List.set_cons_succ]
                refine takeD 19 37 (v := ?v4x19) rfl rfl (by kernel_rfl) (by kernel_rfl) (by kernel_rfl) (fun _ _ _ h => h) (by kernel_rfl) ?hy4x19 (by assumption) ?r4x19
                case hy4x19 => (intro W hSw; (try dsimp only at hSw); go_simp; try with_reducible rfl)
                simp only [Act.put, List.setIfInBounds_toArray, List.set_cons_zero, List.set_cons_succ]
                refine takeD 20 38 (v := ?v4x20) rfl rfl (by kernel_rfl) (by kernel_rfl) (by kernel_rfl) (fun _ _ _ h => h) (by kernel_rfl) ?hy4x20 (by assumption) ?r4x20
                case hy4x20 => (intro W hSw; (try dsimp only at hSw); go_simp; try with_reducible rfl)
                simp only [Act.put, List.setIfInBounds_toArray, List.set_cons_zero, List.set_cons_succ]
                refine takeD 21 39 (v := ?v4x21) rfl rfl (by kernel_rfl) (by kernel_rfl) (by kernel_rfl) (fun _ _ _ h => h) (by kernel_rfl) ?hy4x21 (by assumption) ?r4x21
                case hy4x21 => (intro W hSw; (try dsimp only at hSw); go_simp; try with_reducible rfl)
                simp only [Act.put, List.setIfInBounds_toArray, List.set_cons_zero, List.set_cons_succ]
                refine takeD 22 40 (v := ?v4x22) rfl rfl (by kernel_rfl) (by kernel_rfl) (by kernel_rfl) (fun _ _ _ h => h) (by kernel_rfl) ?hy4x22 (by assumption) ?r4x22
                case hy4x22 => (intro W hSw; (try dsimp only at hSw); go_simp; try with_reducible rfl)
                simp only [Act.put, List.setIfInBounds_toArray, List.set_cons_zero, List.set_cons_succ]
                refine takeD 23 41 (v := ?v4x23) rfl rfl (by kernel_rfl) (by kernel_rfl) (by kernel_rfl) (fun _ _ _ h => h) (by kernel_rfl) ?hy4x23 (by assumption) ?r4x23
                case hy4x23 => (intro W hSw; (try dsimp only at hSw); go_simp; try with_reducible rfl)
                simp only [Act.put, List.setIfInBounds_toArray, List.set_cons_zero, List.set_cons_succ]
                refine takeD 24 42 (v := ?v4x24) rfl rfl (by kernel_rfl) (by kernel_rfl) (by kernel_rfl) (fun _ _ _ h => h) (by kernel_rfl) ?hy4x24 (by assumption) ?r4x24
                case hy4x24 => (intro W hSw; (try dsimp only at hSw); go_simp; try with_reducible rfl)
                simp only [Act.put, List.setIfInBounds_toArray, List.set_cons_zero, List.set_cons_succ]
                refine takeD 25 43 (v := ?v4x25) rfl rfl (by kernel_rfl) (by kernel_rfl) (by kernel_rfl) (fun _ _ _ h => h) (by kernel_rfl) ?hy4x25 (by assumption) ?r4x25
                case hy4x25 => (intro W hSw; (try dsimp only at hSw); go_simp; try with_reducible rfl)
                simp only [Act.put, List.setIfInBounds_toArray, List.set_cons_zero, List.set_cons_succ]
                refine takeD 26 44 (v := ?v4x26) rfl rfl (by kernel_rfl) (by kernel_rfl) (by kernel_rfl) (fun _ _ _ h => h) (by kernel_rfl) ?hy4x26 (by assumption) ?r4x26
                case hy4x26 => (intro W hSw; (try dsimp only at hSw); go_simp; try with_reducible rfl)
                simp only [Act.put, List.setIfInBounds_toArray, List.set_cons_zero, List.set_cons_succ]
                refine takeD 27 45 (v := ?v4x27) rfl rfl (by kernel_rfl) (by kernel_rfl) (by kernel_rfl) (fun _ _ _ h => h) (by kernel_rfl) ?hy4x27 (by assumption) ?r4x27
                case hy4x27 => (intro W hSw; (try dsimp only at hSw); go_simp; try with_reducible rfl)
                simp only [Act.put, List.setIfInBounds_toArray, List.set_cons_zero, List.set_cons_succ]
                refine takeD 28 46 (v := ?v4x28) rfl rfl (by kernel_rfl) (by kernel_rfl) (by kernel_rfl) (fun _ _ _ h => h) (by kernel_rfl) ?hy4x28 (by assumption) ?r4x28
                case hy4x28 => (intro W hSw; (try dsimp only at hSw); go_simp; try with_reducible rfl)
                simp only [Act.put, List.setIfInBounds_toArray, List.set_cons_zero, List.set_cons_succ]
                refine takeD 29 47 (v := ?v4x29) rfl rfl (by kernel_rfl) (by kernel_rfl) (by kernel_rfl) (fun _ _ _ h => h) (by kernel_rfl) ?hy4x29 (by assumption) ?r4x29
                case hy4x29 => (intro W hSw; (try dsimp only at hSw); go_simp; try with_reducible rfl)
                simp only [Act.put, List.setIfInBounds_toArray, List.set_cons_zero, List.set_cons_succ]
                refine takeD 30 48 (v := ?v4x30) rfl rfl (by kernel_rfl) (by kernel_rfl) (by kernel_rfl) (fun _ _ _ h => h) (by kernel_rfl) ?hy4x30 (by assumption) ?r4x30
                case hy4x30 => (intro W hSw; (try dsimp only at hSw); go_simp; try with_reducible rfl)
                simp only [Act.put, List.setIfInBounds_toArray, List.set_cons_zero, List.set_cons_succ]
                refine takeD 31 49 (v := ?v4x31) rfl rfl (by kernel_rfl) (by kernel_rfl) (by kernel_rfl) (fun _ _ _ h => h) (by kernel_rfl) ?hy4x31 (by assumption) ?r4x31
                case hy4x31 => (intro W hSw; (try dsimp only at hSw); go_simp; try with_reducible rfl)
                simp only [Act.put, List.setIfInBounds_toArray, List.set_cons_zero, List.set_cons_succ]
                refine takeD 32 50 (v := ?v4x32) rfl rfl (by kernel_rfl) (by kernel_rfl) (by kernel_rfl) (fun _ _ _ h => h) (by kernel_rfl) ?hy4x32 (by assumption) ?r4x32
                case hy4x32 => (intro W hSw; (try dsimp only at hSw); go_simp; try with_reducible rfl)
                simp only [Act.put, List.setIfInBounds_toArray, List.set_cons_zero, List.set_cons_succ]
                refine takeD 33 51 (v := ?v4x33) rfl rfl (by kernel_rfl) (by kernel_rfl) (by kernel_rfl) (fun _ _ _ h => h) (by kernel_rfl) ?hy4x33 (by assumption) ?r4x33
                case hy4x33 => (intro W hSw; (try dsimp only at hSw); go_simp; try with_reducible rfl)
                simp only [Act.put, List.setIfInBounds_toArray, List.set_cons_zero, List.set_cons_succ]
                refine takeD 34 52 (v := ?v4x34) rfl rfl (by kernel_rfl) (by kernel_rfl) (by kernel_rfl) (fun _ _ _ h => h) (by kernel_rfl) ?hy4x34 (by assumption) ?r4x34
                case hy4x34 => (intro W hSw; (try dsimp only at hSw); go_simp; try with_reducible rfl)
                simp only [Act.put, List.setIfInBounds_toArray, List.set_cons_zero, List.set_cons_succ]
                refine takeD 35 53 (v := ?v4x35) rfl rfl (by kernel_rfl) (by kernel_rfl) (by kernel_rfl) (fun _ _ _ h => h) (by kernel_rfl) ?hy4x35 (by assumption) ?r4x35
                case hy4x35 => (intro W hSw; (try dsimp only at hSw); go_simp; try with_reducible rfl)
                simp only [Act.put, List.setIfInBounds_toArray, List.set_cons_zero, List.set_cons_succ]
                refine takeD 36 54 (v := ?v4x36) rfl rfl (by kernel_rfl) (by kernel_rfl) (by kernel_rfl) (fun _ _ _ h => h) (by kernel_rfl) ?hy4x36 (by assumption) ?r4x36
                case hy4x36 => (intro W hSw; (try dsimp only at hSw); go_simp; try with_reducible rfl)
                simp only [Act.put, List.setIfInBounds_toArray, List.set_cons_zero, List.set_cons_succ]
                refine wpAnyH_done (by kernel_rfl) ?_ _
                refine NoPanic.normal ?_
                all_goals
                  have hb2 := B0.out.trans ((hb.trans (hb1'.mono hb.size)).mono B0.out.size)
                  go_wp2
                  go_ret
                  exact ⟨ret_bool HF.out.symm, hb2⟩
            · have HF : Hid (rowOk cs vs = false) := by show _ = _; rw [HV.out, upto_false hlt (by rw [HK.out]; simp [hkk, hk0])]
              have n3 : (kk != 0) = true := by simp [hk0]
              have n4 : (kk == 0) = false := by simp [hk0]
              clear HK HU HV hkk hk0
              go_wp2
              refine wp_region_noPanic ?_
              refine wp_region_held_drew (S := (fun W => W.cell? ⟨w.heap.size, 1, none⟩ = some (.slice (some ⟨b1, off1, none⟩) cs.length c1) ∧ W.cell? ⟨b, off + j * 3, none⟩ = some (.int .i64 kk) ∧ W.cell? ⟨b, off + j * 3 + 1, none⟩ = some (.int .i64 nn) ∧ W.cell? ⟨b, off + j * 3 + 2, none⟩ = some (.string tt) ∧ W.cell? ⟨b1, off1 + j * 3 + 1, none⟩ = some (.int .i64 kd) ∧ W.cell? ⟨b1, off1 + j * 3 + 2, none⟩ = some (.bool nu))) (by kernel_rfl) ?_ (fun hHeld => ?_)
              · (try dsimp only); go_keep
              refine takeD 0 18 (v := ?v5x0) rfl rfl (by kernel_rfl) (by kernel_rfl) (by kernel_rfl) (fun _ _ _ h => h) (by kernel_rfl) ?hy5x0 (by assumption) ?r5x0
              case hy5x0 => (intro W hSw; (try dsimp only at hSw); go_simp; try with_reducible rfl)
              simp only [Act.put, List.setIfInBounds_toArray, List.set_cons_zero, List.set_cons_succ]
              refine takeD 1 19 (v := ?v5x1) rfl rfl (by kernel_rfl) (by kernel_rfl) (by kernel_rfl) (fun _ _ _ h => h) (by kernel_rfl) ?hy5x1 (by assumption) ?r5x1
              case hy5x1 => (intro W hSw; (try dsimp only at hSw); go_simp; try with_reducible rfl)
              simp only [Act.put, List.setIfInBounds_toArray, List.set_cons_zero, List.set_cons_succ]
              refine takeD 2 20 (v := ?v5x2) rfl rfl (by kernel_rfl) (by kernel_rfl) (by kernel_rfl) (fun _ _ _ h => h) (by kernel_rfl) ?hy5x2 (by assumption) ?r5x2
              case hy5x2 => (intro W hSw; (try dsimp only at hSw); go_simp; try with_reducible rfl)
              simp only [Act.put, List.setIfInBounds_toArray, List.set_cons_zero, List.set_cons_succ]
              refine takeD 3 21 (v := ?v5x3) rfl rfl (by kernel_rfl) (by kernel_rfl) (by kernel_rfl) (fun _ _ _ h => h) (by kernel_rfl) ?hy5x3 (by assumption) ?r5x3
              case hy5x3 => (intro W hSw; (try dsimp only at hSw); go_simp; try with_reducible rfl)
              simp only [Act.put, List.setIfInBounds_toArray, List.set_cons_zero, List.set_cons_succ]
              refine wpAnyH_ready (rs := [4]) (by kernel_rfl) (by simp) ?_
              refine AllReadyH.cons (o := _) rfl (fun K hK => ?_) AllReadyH.nil
              go_simp
              (go_at_call 27; refine (HC.out _).mono ?_; rintro e w1 ⟨rfl, hb1⟩; have hb1' : Below wr.heap.size wr w1 := (Below.refl _ _).drew.trans hb1; obtain ⟨hc1, hf1⟩ := bcell hb1')
              go_wp2_with fail
              refine hK.out _ _ ?_ (fun hHeld2 => ?_)
              · (try dsimp only); go_keep
              clear hK K hHeld
              try simp only [Act.put, List.setIfInBounds_toArray, List.set_cons_zero, List.set_cons_succ]
              refine takeD 5 23 (v := ?v5x5) rfl rfl (by kernel_rfl) (by kernel_rfl) (by kernel_rfl) (fun _ _ _ h => h) (by kernel_rfl) ?hy5x5 (by assumption) ?r5x5
              case hy5x5 => (intro W hSw; (try dsimp only at hSw); go_simp; try with_reducible rfl)
              simp only [Act.put, List.setIfInBounds_toArray, List.set_cons_zero, List.set_cons_succ]
              refine takeD 6 24 (v := ?v5x6) rfl rfl (by kernel_rfl) (by kernel_rfl) (by kernel_rfl) (fun _ _ _ h => h) (by kernel_rfl) ?hy5x6 (by assumption) ?r5x6
              case hy5x6 => (intro W hSw; (try dsimp only at hSw); go_simp; try with_reducible rfl)
              simp only [Act.put, List.setIfInBounds_toArray, List.set_cons_zero, List.set_cons_succ]
              refine takeD 7 25 (v := ?v5x7) rfl rfl (by kernel_rfl) (by kernel_rfl) (by kernel_rfl) (fun _ _ _ h => h) (by kernel_rfl) ?hy5x7 (by assumption) ?r5x7
              case hy5x7 => (intro W hSw; (try dsimp only at hSw); go_simp; try with_reducible rfl)
              simp only [Act.put, List.setIfInBounds_toArray, List.set_cons_zero, List.set_cons_succ]
              refine takeD 8 26 (v := ?v5x8) rfl rfl (by kernel_rfl) (by kernel_rfl) (by kernel_rfl) (fun _ _ _ h => h) (by kernel_rfl) ?hy5x8 (by assumption) ?r5x8
              case hy5x8 => (intro W hSw; (try dsimp only at hSw); go_simp; try with_reducible rfl)
              simp only [Act.put, List.setIfInBounds_toArray, List.set_cons_zero, List.set_cons_succ]
              refine takeD 9 27 (v := ?v5x9) rfl rfl (by kernel_rfl) (by kernel_rfl) (by kernel_rfl) (fun _ _ _ h => h) (by kernel_rfl) ?hy5x9 (by assumption) ?r5x9
              case hy5x9 => (intro W hSw; (try dsimp only at hSw); go_simp; try with_reducible rfl)
              simp only [Act.put, List.setIfInBounds_toArray, List.set_cons_zero, List.set_cons_succ]
              refine takeD 10 28 (v := ?v5x10) rfl rfl (by kernel_rfl) (by kernel_rfl) (by kernel_rfl) (fun _ _ _ h => h) (by kernel_rfl) ?hy5x10 (by assumption) ?r5x10
              case hy5x10 => (intro W hSw; (try dsimp only at hSw); go_simp; try with_reducible rfl)
              simp only [Act.put, List.setIfInBounds_toArray, List.set_cons_zero, List.set_cons_succ]
              refine takeD 11 29 (v := ?v5x11) rfl rfl (by kernel_rfl) (by kernel_rfl) (by kernel_rfl) (fun _ _ _ h => h) (by kernel_rfl) ?hy5x11 (by assumption) ?r5x11
              case hy5x11 => (intro W hSw; (try dsimp only at hSw); go_simp; try with_reducible rfl)
              simp only [Act.put, List.setIfInBounds_toArray, List.set_cons_zero, List.set_cons_succ]
              refine takeD 12 30 (v := ?v5x12) rfl rfl (by kernel_rfl) (by kernel_rfl) (by kernel_rfl) (fun _ _ _ h => h) (by kernel_rfl) ?hy5x12 (by assumption) ?r5x12
              case hy5x12 => (intro W hSw; (try dsimp only at hSw); go_simp; try with_reducible rfl)
              simp only [Act.put, List.setIfInBounds_toArray, List.set_cons_zero, List.set_cons_succ]
              refine takeD 13 31 (v := ?v5x13) rfl rfl (by kernel_rfl) (by kernel_rfl) (by kernel_rfl) (fun _ _ _ h => h) (by kernel_rfl) ?hy5x13 (by assumption) ?r5x13
              case hy5x13 => (intro W hSw; (try dsimp only at hSw); go_simp; try with_reducible rfl)
              simp only [Act.put, List.setIfInBounds_toArray, List.set_cons_zero, List.set_cons_succ]
              refine takeD 14 32 (v := ?v5x14) rfl rfl (by kernel_rfl) (by kernel_rfl) (by kernel_rfl) (fun _ _ _ h => h) (by kernel_rfl) ?hy5x14 (by assumption) ?r5x14
              case hy5x14 => (intro W hSw; (try dsimp only at hSw); go_simp; try with_reducible rfl)
              simp only [Act.put, List.setIfInBounds_toArray, List.set_cons_zero, List.set_cons_succ]
              refine takeD 15 33 (v := ?v5x15) rfl rfl (by kernel_rfl) (by kernel_rfl) (by kernel_rfl) (fun _ _ _ h => h) (by kernel_rfl) ?hy5x15 (by assumption) ?r5x15
              case hy5x15 => (intro W hSw; (try dsimp only at hSw); go_simp; try with_reducible rfl)
              simp only [Act.put, List.setIfInBounds_toArray, List.set_cons_zero, List.set_cons_succ]
              refine takeD 16 34 (v := ?v5x16) rfl rfl (by kernel_rfl) (by kernel_rfl) (by kernel_rfl) (fun _ _ _ h => h) (by kernel_rfl) ?hy5x16 (by assumption) ?r5x16
              case hy5x16 => (intro W hSw; (try dsimp only at hSw); go_simp; try with_reducible rfl)
              simp only [Act.put, List.setIfInBounds_toArray, List.set_cons_zero, List.set_cons_succ]
              refine takeD 17 35 (v := ?v5x17) rfl rfl (by kernel_rfl) (by kernel_rfl) (by kernel_rfl) (fun _ _ _ h => h) (by kernel_rfl) ?hy5x17 (by assumption) ?r5x17
              case hy5x17 => (intro W hSw; (try dsimp only at hSw); go_simp; try with_reducible rfl)
              simp only [Act.put, List.setIfInBounds_toArray, List.set_cons_zero, List.set_cons_succ]
              refine takeD 18 36 (v := ?v5x18) rfl rfl (by kernel_rfl) (by kernel_rfl) (by kernel_rfl) (fun _ _ _ h => h) (by kernel_rfl) ?hy5x18 (by assumption) ?r5x18
              case hy5x18 => (intro W hSw; (try dsimp only at hSw); go_simp; try with_reducible rfl)
              simp only [Act.put, List.setIfInBounds_toArray, List.set_cons_zero, List.set_cons_succ]
              refine takeD 19 37 (v := ?v5x19) rfl rfl (by kernel_rfl) (by kernel_rfl) (by kernel_rfl) (fun _ _ _ h => h) (by kernel_rfl) ?hy5x19 (by assumption) ?r5x19
              case hy5x19 => (intro W hSw; (try dsimp only at hSw); go_simp; try with_reducible rfl)
              simp only [Act.put, List.setIfInBounds_toArray, List.set_cons_zero, List.set_cons_succ]
              refine takeD 20 38 (v := ?v5x20) rfl rfl (by kernel_rfl) (by kernel_rfl) (by kernel_rfl) (fun _ _ _ h => h) (by kernel_rfl) ?hy5x20 (by assumption) ?r5x20
              case hy5x20 => (intro W hSw; (try dsimp only at hSw); go_simp; try with_reducible rfl)
              simp only [Act.put, List.setIfInBounds_toArray, List.set_cons_zero, List.set_cons_succ]
              refine takeD 21 39 (v := ?v5x21) rfl rfl (by kernel_rfl) (by kernel_rfl) (by kernel_rfl) (fun _ _ _ h => h) (by kernel_rfl) ?hy5x21 (by assumption) ?r5x21
              case hy5x21 => (intro W hSw; (try dsimp only at hSw); go_simp; try with_reducible rfl)
              simp only [Act.put, List.setIfInBounds_toArray, List.set_cons_zero, List.set_cons_succ]
              refine takeD 22 40 (v := ?v5x22) rfl rfl (by kernel_rfl) (by kernel_rfl) (by kernel_rfl) (fun _ _ _ h => h) (by kernel_rfl) ?hy5x22 (by assumption) ?r5x22
              case hy5x22 => (intro W hSw; (try dsimp only at hSw); go_simp; try with_reducible rfl)
              simp only [Act.put, List.setIfInBounds_toArray, List.set_cons_zero, List.set_cons_succ]
              refine takeD 23 41 (v := ?v5x23) rfl rfl (by kernel_rfl) (by kernel_rfl) (by kernel_rfl) (fun _ _ _ h => h) (by kernel_rfl) ?hy5x23 (by assumption) ?r5x23
              case hy5x23 => (intro W hSw; (try dsimp only at hSw); go_simp; try with_reducible rfl)
              simp only [Act.put, List.setIfInBounds_toArray, List.set_cons_zero, List.set_cons_succ]
              refine takeD 24 42 (v := ?v5x24) rfl rfl (by kernel_rfl) (by kernel_rfl) (by kernel_rfl) (fun _ _ _ h => h) (by kernel_rfl) ?hy5x24 (by assumption) ?r5x24
              case hy5x24 => (intro W hSw; (try dsimp only at hSw); go_simp; try with_reducible rfl)
              simp only [Act.put, List.setIfInBounds_toArray, List.set_cons_zero, List.set_cons_succ]
              refine takeD 25 43 (v := ?v5x25) rfl rfl (by kernel_rfl) (by kernel_rfl) (by kernel_rfl) (fun _ _ _ h => h) (by kernel_rfl) ?hy5x25 (by assumption) ?r5x25
              case hy5x25 => (intro W hSw; (try dsimp only at hSw); go_simp; try with_reducible rfl)
              simp only [Act.put, List.setIfInBounds_toArray, List.set_cons_zero, List.set_cons_succ]
              refine takeD 26 44 (v := ?v5x26) rfl rfl (by kernel_rfl) (by kernel_rfl) (by kernel_rfl) (fun _ _ _ h => h) (by kernel_rfl) ?hy5x26 (by assumption) ?r5x26
              case hy5x26 => (intro W hSw; (try dsimp only at hSw); go_simp; try with_reducible rfl)
              simp only [Act.put, List.setIfInBounds_toArray, List.set_cons_zero, List.set_cons_succ]
              refine skipAll [(27, 45), (28, 46), (29, 47), (30, 48), (31, 49), (32, 50), (33, 51)] (by kernel_rfl) (fun _ _ _ _ _ h => h) (by assumption) (by kernel_rfl) ?_
              simp only [putAll, listAll, List.foldl_cons, List.foldl_nil, Act.put, List.setIfInBounds_toArray, List.set_cons_zero, List.set_cons_succ]
              refine takeD 34 52 (v := ?v5x34) rfl rfl (by kernel_rfl) (by kernel_rfl) (by kernel_rfl) (fun _ _ _ h => h) (by kernel_rfl) ?hy5x34 (by assumption) ?r5x34
              case hy5x34 => (intro W hSw; (try dsimp only at hSw); go_simp; try with_reducible rfl)
              simp only [Act.put, List.setIfInBounds_toArray, List.set_cons_zero, List.set_cons_succ]
              refine takeD 35 53 (v := ?v5x35) rfl rfl (by kernel_rfl) (by kernel_rfl) (by kernel_rfl) (fun _ _ _ h => h) (by kernel_rfl) ?hy5x35 (by assumption) ?r5x35
              case hy5x35 => (intro W hSw; (try dsimp only at hSw); go_simp; try with_reducible rfl)
              simp only [Act.put, List.setIfInBounds_toArray, List.set_cons_zero, List.set_cons_succ]
              refine takeD 36 54 (v := ?v5x36) rfl rfl (by kernel_rfl) (by kernel_rfl) (by kernel_rfl) (fun _ _ _ h => h) (by kernel_rfl) ?hy5x36 (by assumption) ?r5x36
              case hy5x36 => (intro W hSw; (try dsimp only at hSw); go_simp; try with_reducible rfl)
              simp only [Act.put, List.setIfInBounds_toArray, List.set_cons_zero, List.set_cons_succ]
              refine wpAnyH_done (by kernel_rfl) ?_ _
              refine NoPanic.normal ?_
              all_goals
                have hb2 := B0.out.trans ((hb.trans (hb1'.mono hb.size)).mono B0.out.size)
                go_wp2
                go_ret
                exact ⟨ret_bool HF.out.symm, hb2⟩
      · obtain rfl : j = vs.length := by omega
        have HF : Hid (rowOk cs vs = true) := by show _ = _; rw [HV.out]; exact HU.out
        go_wp2
        go_ret
        exact ⟨ret_bool HF.out.symm, B0.out.trans (hb.mono B0.out.size)⟩
  · have HF : Hid (rowOk cs vs = false) := by show _ = _; unfold rowOk; simp [hlen]
    go_enter Tryz.func12, Tryz.ntmps12
    go_wp2
    go_ret
    exact ⟨ret_bool HF.out.symm, B0.out⟩
end Go.Proofs.YtkhklfnhninkjaaGreat

/-
  Contract: does a row fit? The program's answer.
-/
namespace Go.Proofs.YtkhklfnhninkjaaGreat
open Go.RowKit
set_option maxRecDepth 100000

set_option maxHeartbeats 2000000 in
theorem implRowFits_any (A B B' : Nat) (ao : Option Addr) (c1 : Nat) (ko : Option Addr) (c2 : Nat) (xo : Option Addr) (c3 : Nat) (vo : Option Addr) (c4 : Nat) (s : Sch) (vs : List Val) (w : World) (hB : B ≤ w.heap.size) (hB' : B' ≤ w.heap.size) (hl : vs.length ≤ maxLen) (hr : SchRow w A B ao ko xo c2 s) (hv : ValRow w B' vo vs) (hkd0 : ∀ i, i < s.cols.length → 1 ≤ (s.cols.getD i noCol).kind) :
    Calls Tryz.prog 35 #[.agg #[.string s.name, .slice ao s.cols.length c1, .slice ko s.key.length c2, .slice xo s.idx.length c3], .slice vo vs.length c4] w fun e w' => e = .returned (.bool (rowOk s.cols vs)) ∧ Below w.heap.size w w' := by
  have HQ : Hid (rowOk s.cols vs = (decide (vs.length = s.cols.length) && upto (fitAt s.cols vs) vs.length)) := rfl
  have HKD : Hid (∀ i, i < s.cols.length → 1 ≤ (s.cols.getD i noCol).kind) := hkd0
  have R1 : Hid (ColRow w A B ao s.cols) := hr.2.1
  have hn1 := hr.1.2.1
  have RV : Hid (ValRow w B' vo vs) := hv
  generalize rowOk s.cols vs = q at *
  obtain ⟨nm, cs, ky, xs⟩ := s
  simp only at *
  clear hr hv hkd0
  unfold maxLen at hl hn1
  have B0 : Hid (Below w.heap.size w (w.alloc (.cells #[.string nm, .slice ao cs.length c1, .slice ko ky.length c2, .slice xo xs.length c3] 35))) := (Below.refl _ _).alloc (Nat.le_refl _) _
  obtain ⟨y0, y1, y2, y3⟩ := cells4a w (.string nm) (.slice ao cs.length c1) (.slice ko ky.length c2) (.slice xo xs.length c3) 35
  by_cases hlen : vs.length = cs.length
  · have HV : Hid (q = upto (fitAt cs vs) vs.length) := by show _ = _; rw [HQ.out]; simp [hlen]
    have HL := hide hlen
    have hlen' : (vs.length : Int) = (cs.length : Int) := by omega
    clear hlen HQ
    go_enter Tryz.func35, Tryz.ntmps35
    go_wp2
    clear hlen' y0 y1 y2 y3
    go_loopw [16] (fun i wr => ∃ j : Nat, j ≤ cs.length ∧ i = .int .i64 j ∧ Hid (upto (fitAt cs vs) j = true) ∧ Below w.heap.size w wr) (fun i _ => cs.length - (intOf i).toNat)
    case atStart => exact ⟨0, Nat.zero_le _, rfl, rfl, B0.out⟩
    case round =>
      obtain ⟨j, hj, rfl, HU, hb⟩ := hrel
      by_cases hlt : j < cs.length
      · have hlt2 : j < vs.length := by have := HL.out; omega
        obtain ⟨b, off, kk, nn, tt, rfl, hbB, hv, htt, d0, d1, d2⟩ := (RV.out.kept (hb.mono hB')).at j hlt2
        obtain ⟨b1, off1, cn, kd, nu, rfl, hbB1, hv1, _, _, e0, e1, e2⟩ := (R1.out.kept (hb.mono hB)).at j hlt
        have hkd : 1 ≤ kd := by have := HKD.out j hlt; rw [hv1] at this; exact this
        have HK : Hid (fitAt cs vs j = fitV ⟨cn, kd, nu⟩ ⟨kk, nn, tt⟩) := by
          show _ = _
          unfold fitAt
          rw [hv1, List.getD_eq_getElem?_getD, List.getElem?_eq_getElem hlt2, Option.getD_some, hv]
        have hc := fun w => fits_any ⟨cn, kd, nu⟩ ⟨kk, nn, tt⟩ hkd w
        generalize fitV ⟨cn, kd, nu⟩ ⟨kk, nn, tt⟩ = r at *
        simp only at hc
        have HC := hide hc
        have hi0 : (0 : Int) ≤ (j : Int) := by omega
        have hi1 : (j : Int) < (vs.length : Int) := by omega
        have ht := (Int.toNat_natCast j)
        have hq1 : b < wr.heap.size := by have := hb.size; omega
        have hq3 : ¬ (b = wr.heap.size) := by omega
        clear hv hv1 hc htt hkd
        have z0 := (bcell ((Below.refl _ wr).alloc (Nat.le_refl _) (.cells #[.string cn, .int .i64 kd, .bool nu] 67))).1
        have z1 := (z0 b (off + j * 3) hq1).trans d0
        have z2 := (z0 b (off + j * 3 + 1) hq1).trans d1
        have z3 := (z0 b (off + j * 3 + 2) hq1).trans d2
        have g0 : (wr.alloc (.cells #[.string cn, .int .i64 kd, .bool nu] 67)).cell? ⟨wr.heap.size, 0, none⟩ = some (.string cn) := by rw [cell_of_row _ _ _ _ _ _ (heap_alloc_new _ _)]; rfl
        have g1 : (wr.alloc (.cells #[.string cn, .int .i64 kd, .bool nu] 67)).cell? ⟨wr.heap.size, 1, none⟩ = some (.int .i64 kd) := by rw [cell_of_row _ _ _ _ _ _ (heap_alloc_new _ _)]; rfl
        have g2 : (wr.alloc (.cells #[.string cn, .int .i64 kd, .bool nu] 67)).cell? ⟨wr.heap.size, 2, none⟩ = some (.bool nu) := by rw [cell_of_row _ _ _ _ _ _ (heap_alloc_new _ _)]; rfl
        have hbA : Below w.heap.size w (wr.alloc (.cells #[.string cn, .int .i64 kd, .bool nu] 67)) := hb.alloc hb.size _
        have hsA : wr.heap.size < (wr.alloc (.cells #[.string cn, .int .i64 kd, .bool nu] 67)).heap.size := by simp
        have Z := hide (⟨z1, z2, z3, g0, g1, g2, hbA, hsA⟩ : _ ∧ _ ∧ _ ∧ _ ∧ _ ∧ _ ∧ _ ∧ _)
        clear z0 z1 z2 z3 g0 g1 g2 hbA hsA hb
        go_wp2
        clear d0 d1 d2 e0 e1 e2
        obtain ⟨z1, z2, z3, g0, g1, g2, hbA, hsA⟩ := Z.out
        clear Z
        generalize wr.alloc (.cells #[.string cn, .int .i64 kd, .bool nu] 67) = WA at *
        have hq2 : b < WA.heap.size := by omega
        generalize wr.heap.size = g at *
        go_region_held3 (fun W => (W.cell? ⟨g, 0, none⟩ = some (.string cn) ∧ W.cell? ⟨g, 1, none⟩ = some (.int .i64 kd) ∧ W.cell? ⟨g, 2, none⟩ = some (.bool nu)) ∧ W.cell? ⟨b, off + j * 3, none⟩ = some (.int .i64 kk) ∧ W.cell? ⟨b, off + j * 3 + 1, none⟩ = some (.int .i64 nn) ∧ W.cell? ⟨b, off + j * 3 + 2, none⟩ = some (.string tt)) (go_keep) (first | (go_at_call 49; refine (HC.out _).mono ?_; rintro e w1 ⟨rfl, hb1⟩; have hb1' : Below WA.heap.size WA w1 := (Below.refl _ _).drew.trans hb1; obtain ⟨hc1, hf1⟩ := bcell hb1'))
        all_goals
          have hb2 := hbA.trans (hb1'.mono hbA.size)
          clear z1 z2 z3 g0 g1 g2 hbA hb1 hb1' hc1 hf1
          cases r with
          | false =>
            have HF : Hid (q = false) := by show _ = _; rw [HV.out, upto_false hlt2 HK.out]
            clear HV HK HU
            go_wp2
            go_ret
            exact ⟨ret_bool HF.out.symm, hb2⟩
          | true =>
            have HU2 : Hid (upto (fitAt cs vs) (j + 1) = true) := by show _ = _; rw [upto_succ, HU.out, HK.out]; rfl
            clear HK HU
            go_wp2
            go_roundw
            case rel => exact ⟨j + 1, by omega, by go_num, HU2, hb2⟩
            case measure => simp [intOf]; omega
      · obtain rfl : j = cs.length := by omega
        have HF : Hid (q = true) := by show _ = _; rw [HV.out, HL.out]; exact HU.out
        go_wp2
        go_ret
        exact ⟨ret_bool HF.out.symm, hb⟩
  · have HF : Hid (q = false) := by show _ = _; rw [HQ.out]; simp [hlen]
    have hn' : ¬ ((vs.length : Int) = (cs.length : Int)) := by omega
    clear HQ HKD
    go_enter Tryz.func35, Tryz.ntmps35
    go_wp2
    go_ret
    exact ⟨ret_bool HF.out.symm, B0.out⟩
end Go.Proofs.YtkhklfnhninkjaaGreat
