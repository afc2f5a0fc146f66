/-
  Contract: the specification's copy of a disk lies in rows of its own.
-/
import Derived.Test.YthglidcfbdigiaaDkCp
import Derived.Test.YthglidcfbdigiaaSkips
namespace Go.Proofs.Ythglidcfbdigiaa
open Go.RowKit
set_option maxRecDepth 100000

set_option maxHeartbeats 8000000 in
theorem l07Copy_own (b : Nat) (s c : Value) (d : Dk) (w : World) (hf : dkFits d) (h : OwnD b s c d w) :
    Calls Try.prog 65 #[.agg #[s, c]] w fun e w' => ∃ s' c', e = .returned (.agg #[s', c']) ∧ OwnD w.heap.size s' c' d w' ∧ Below w.heap.size w w' := by
  obtain ⟨i0, hi, hz0, hz1, hz2⟩ := info_parts Try.infoStr'
  obtain ⟨j0, hj, hy0, hy1, hy2⟩ := info_parts Try.infoWr
  obtain ⟨so, p, co, q, rfl, rfl⟩ := h.shape
  obtain ⟨ss, cs⟩ := d
  simp only at *
  have SRC := hide (And.intro h.secs h.cache)
  have HBS : Hid (0 + ss.length ≤ maxLen ∧ (0 + ss.length) * 16 ≤ 140737488355328) := by have := hf.1; simp only at this; show _ ∧ _; unfold maxLen; omega
  have HBW : Hid (0 + cs.length ≤ maxLen ∧ (0 + cs.length) * 24 ≤ 140737488355328) := by have := hf.2; simp only at this; show _ ∧ _; unfold maxLen; omega
  have C0 := hide (CI.start w (.slice so ss.length p) (.slice co cs.length q))
  clear h hf
  go_enter Try.func65, Try.ntmps65
  go_wp2
  have C1 := hide C0.out.drew
  clear C0
  generalize (w.alloc (.cells #[.slice so ss.length p, .slice co cs.length q] 26)).alloc (.cells #[.slice none 0 0, .slice none 0 0] 26) = W0 at *
  refine wp_region_noPanic ?_
  refine wp_region_held_drew (S := fun W => W.heap[w.heap.size]? = some (.cells #[.slice so ss.length p, .slice co cs.length q] 26 (0, 0))) (by kernel_rfl) C1.out.par (fun hS1 => ?_)
  generalize W0.drew = W1 at *
  refine takeD 1 4 (v := ?v1) rfl rfl (by kernel_rfl) (by kernel_rfl) (by kernel_rfl) (fun _ _ _ h => h) (by kernel_rfl) ?hy1 (by assumption) ?r1
  case hy1 => (intro W hSw; obtain ⟨x0, x1, xf⟩ := cells2 (hSw); go_simp; try with_reducible rfl)
  simp only [Act.put, List.setIfInBounds_toArray, List.set_cons_zero, List.set_cons_succ]
  refine takeD 2 5 (v := ?v2) rfl rfl (by kernel_rfl) (by kernel_rfl) (by kernel_rfl) (fun _ _ _ h => h) (by kernel_rfl) ?hy2 (by assumption) ?r2
  case hy2 => (intro W hSw; obtain ⟨x0, x1, xf⟩ := cells2 (hSw); go_simp; try with_reducible rfl)
  simp only [Act.put, List.setIfInBounds_toArray, List.set_cons_zero, List.set_cons_succ]
  refine takeD 5 8 (v := ?v3) rfl rfl (by kernel_rfl) (by kernel_rfl) (by kernel_rfl) (fun _ _ _ h => h) (by kernel_rfl) ?hy3 (by assumption) ?r3
  case hy3 => (intro W hSw; obtain ⟨x0, x1, xf⟩ := cells2 (hSw); go_simp; try with_reducible rfl)
  simp only [Act.put, List.setIfInBounds_toArray, List.set_cons_zero, List.set_cons_succ]
  refine takeD 6 9 (v := ?v4) rfl rfl (by kernel_rfl) (by kernel_rfl) (by kernel_rfl) (fun _ _ _ h => h) (by kernel_rfl) ?hy4 (by assumption) ?r4
  case hy4 => (intro W hSw; obtain ⟨x0, x1, xf⟩ := cells2 (hSw); go_simp; try with_reducible rfl)
  simp only [Act.put, List.setIfInBounds_toArray, List.set_cons_zero, List.set_cons_succ]
  refine wpAnyH_ready (rs := [0, 4]) (by kernel_rfl) (by simp) ?_
  refine AllReadyH.cons (o := _) rfl (fun K hK => ?_) (AllReadyH.cons (o := _) rfl (fun K hK => ?_) AllReadyH.nil)
  · skip
    go_simp
    have C2 := hide (C1.out.buildS)
    refine hK.out _ _ C2.out.par (fun hS2 => ?_)
    clear hK K
    generalize W1.alloc (.cells #[] 9) = W2 at *
    generalize W1.heap.size = e2 at *
    try simp only [Act.put, List.setIfInBounds_toArray, List.set_cons_zero, List.set_cons_succ]
    refine wpAnyH_ready (rs := [3, 4]) (by kernel_rfl) (by simp) ?_
    refine AllReadyH.cons (o := _) rfl (fun K hK => ?_) (AllReadyH.cons (o := _) rfl (fun K hK => ?_) AllReadyH.nil)
    · skip
      refine step_app_own rfl (.tmp 3) (.tmp 5) 23 rfl (w.heap.size + 2) b 9 i0 (.string ⟨#[]⟩) 1 16 Try.underlying23 hi hz0 hz1 hz2 rfl (by decide) _ 0 [] rfl C2.out.secs _ _ _ rfl (owns_below SRC.out.1 C2.out.below) (strsV_one _) HBS.out.1 HBS.out.2 C2.out.lt ?_
      intro v3 W3 o3 g3 l3
      have C3 := hide (C2.out.appS o3 g3 l3)
      clear o3 g3 l3
      refine hK.out _ _ C3.out.par (fun hS3 => ?_)
      clear hK K
      simp only [List.getElem_toArray, List.getElem_cons_succ, List.getElem_cons_zero, Act.put, List.setIfInBounds_toArray, List.set_cons_zero, List.set_cons_succ]
      refine wpAnyH_ready (rs := [4]) (by kernel_rfl) (by simp) ?_
      refine AllReadyH.cons (o := _) rfl (fun K hK => ?_) AllReadyH.nil
      · skip
        go_simp
        have C4 := hide (C3.out.buildW)
        refine hK.out _ _ C4.out.par (fun hS4 => ?_)
        clear hK K
        generalize W3.alloc (.cells #[] 78) = W4 at *
        generalize W3.heap.size = e4 at *
        try simp only [Act.put, List.setIfInBounds_toArray, List.set_cons_zero, List.set_cons_succ]
        refine wpAnyH_ready (rs := [7]) (by kernel_rfl) (by simp) ?_
        refine AllReadyH.cons (o := _) rfl (fun K hK => ?_) AllReadyH.nil
        · skip
          refine step_app_own rfl (.tmp 7) (.tmp 9) 24 rfl (w.heap.size + 2) b 78 j0 (.agg #[.int .i64 0, .string ⟨#[]⟩]) 2 24 Try.underlying24 hj hy0 hy1 hy2 rfl (by decide) _ 0 [] rfl C4.out.cache _ _ _ rfl (owns_below SRC.out.2 C4.out.below) (flatW_one _) HBW.out.1 HBW.out.2 C4.out.lt ?_
          intro v5 W5 o5 g5 l5
          have C5 := hide (C4.out.appW o5 g5 l5)
          clear o5 g5 l5
          refine hK.out _ _ C5.out.par (fun hS5 => ?_)
          clear hK K
          simp only [List.getElem_toArray, List.getElem_cons_succ, List.getElem_cons_zero, Act.put, List.setIfInBounds_toArray, List.set_cons_zero, List.set_cons_succ]
          obtain ⟨so', p', hs'⟩ := ownS_shape C5.out.secs
          obtain ⟨co', q', hc'⟩ := ownW_shape C5.out.cache
          subst hs' hc'
          refine takeD 8 11 (v := ?v5) rfl rfl (by kernel_rfl) (by kernel_rfl) (by kernel_rfl) (fun _ _ _ h => h) (by kernel_rfl) ?hy5 (by assumption) ?r5
          case hy5 => (intro W hSw; go_simp; try with_reducible rfl)
          simp only [Act.put, List.setIfInBounds_toArray, List.set_cons_zero, List.set_cons_succ]
          refine wpAnyH_ready (rs := [9]) (by kernel_rfl) (by simp) ?_
          refine AllReadyH.cons (o := _) rfl (fun K hK => ?_) AllReadyH.nil
          obtain ⟨y0, y1, yf⟩ := cells2 C5.out.res
          go_simp
          refine hK.out _ _ C5.out.par2 (fun hS => ?_)
          clear hK K
          refine wpAnyH_done (by kernel_rfl) ?_ _
          refine NoPanic.normal ?_
          go_wp2
          exact bodyPost_ret (v := .agg #[.slice so' ss.length p', .slice co' cs.length q']) (resDisk Try.results65 _ _ (w.heap.size + 1) _ _ rfl (set2 C5.out.res)) rfl ⟨_, _, rfl, C5.out.out2.1, C5.out.out2.2⟩
    · skip
      go_simp
      have C3 := hide (C2.out.buildW)
      refine hK.out _ _ C3.out.par (fun hS3 => ?_)
      clear hK K
      generalize W2.alloc (.cells #[] 78) = W3 at *
      generalize W2.heap.size = e3 at *
      try simp only [Act.put, List.setIfInBounds_toArray, List.set_cons_zero, List.set_cons_succ]
      refine wpAnyH_ready (rs := [3]) (by kernel_rfl) (by simp) ?_
      refine AllReadyH.cons (o := _) rfl (fun K hK => ?_) AllReadyH.nil
      · skip
        refine step_app_own rfl (.tmp 3) (.tmp 5) 23 rfl (w.heap.size + 2) b 9 i0 (.string ⟨#[]⟩) 1 16 Try.underlying23 hi hz0 hz1 hz2 rfl (by decide) _ 0 [] rfl C3.out.secs _ _ _ rfl (owns_below SRC.out.1 C3.out.below) (strsV_one _) HBS.out.1 HBS.out.2 C3.out.lt ?_
        intro v4 W4 o4 g4 l4
        have C4 := hide (C3.out.appS o4 g4 l4)
        clear o4 g4 l4
        refine hK.out _ _ C4.out.par (fun hS4 => ?_)
        clear hK K
        simp only [List.getElem_toArray, List.getElem_cons_succ, List.getElem_cons_zero, Act.put, List.setIfInBounds_toArray, List.set_cons_zero, List.set_cons_succ]
        refine wpAnyH_ready (rs := [7]) (by kernel_rfl) (by simp) ?_
        refine AllReadyH.cons (o := _) rfl (fun K hK => ?_) AllReadyH.nil
        · skip
          refine step_app_own rfl (.tmp 7) (.tmp 9) 24 rfl (w.heap.size + 2) b 78 j0 (.agg #[.int .i64 0, .string ⟨#[]⟩]) 2 24 Try.underlying24 hj hy0 hy1 hy2 rfl (by decide) _ 0 [] rfl C4.out.cache _ _ _ rfl (owns_below SRC.out.2 C4.out.below) (flatW_one _) HBW.out.1 HBW.out.2 C4.out.lt ?_
          intro v5 W5 o5 g5 l5
          have C5 := hide (C4.out.appW o5 g5 l5)
          clear o5 g5 l5
          refine hK.out _ _ C5.out.par (fun hS5 => ?_)
          clear hK K
          simp only [List.getElem_toArray, List.getElem_cons_succ, List.getElem_cons_zero, Act.put, List.setIfInBounds_toArray, List.set_cons_zero, List.set_cons_succ]
          obtain ⟨so', p', hs'⟩ := ownS_shape C5.out.secs
          obtain ⟨co', q', hc'⟩ := ownW_shape C5.out.cache
          subst hs' hc'
          refine takeD 8 11 (v := ?v6) rfl rfl (by kernel_rfl) (by kernel_rfl) (by kernel_rfl) (fun _ _ _ h => h) (by kernel_rfl) ?hy6 (by assumption) ?r6
          case hy6 => (intro W hSw; go_simp; try with_reducible rfl)
          simp only [Act.put, List.setIfInBounds_toArray, List.set_cons_zero, List.set_cons_succ]
          refine wpAnyH_ready (rs := [9]) (by kernel_rfl) (by simp) ?_
          refine AllReadyH.cons (o := _) rfl (fun K hK => ?_) AllReadyH.nil
          obtain ⟨y0, y1, yf⟩ := cells2 C5.out.res
          go_simp
          refine hK.out _ _ C5.out.par2 (fun hS => ?_)
          clear hK K
          refine wpAnyH_done (by kernel_rfl) ?_ _
          refine NoPanic.normal ?_
          go_wp2
          exact bodyPost_ret (v := .agg #[.slice so' ss.length p', .slice co' cs.length q']) (resDisk Try.results65 _ _ (w.heap.size + 1) _ _ rfl (set2 C5.out.res)) rfl ⟨_, _, rfl, C5.out.out2.1, C5.out.out2.2⟩
  · skip
    go_simp
    have C2 := hide (C1.out.buildW)
    refine hK.out _ _ C2.out.par (fun hS2 => ?_)
    clear hK K
    generalize W1.alloc (.cells #[] 78) = W2 at *
    generalize W1.heap.size = e2 at *
    try simp only [Act.put, List.setIfInBounds_toArray, List.set_cons_zero, List.set_cons_succ]
    refine wpAnyH_ready (rs := [0]) (by kernel_rfl) (by simp) ?_
    refine AllReadyH.cons (o := _) rfl (fun K hK => ?_) AllReadyH.nil
    · skip
      go_simp
      have C3 := hide (C2.out.buildS)
      refine hK.out _ _ C3.out.par (fun hS3 => ?_)
      clear hK K
      generalize W2.alloc (.cells #[] 9) = W3 at *
      generalize W2.heap.size = e3 at *
      try simp only [Act.put, List.setIfInBounds_toArray, List.set_cons_zero, List.set_cons_succ]
      refine wpAnyH_ready (rs := [3]) (by kernel_rfl) (by simp) ?_
      refine AllReadyH.cons (o := _) rfl (fun K hK => ?_) AllReadyH.nil
      · skip
        refine step_app_own rfl (.tmp 3) (.tmp 5) 23 rfl (w.heap.size + 2) b 9 i0 (.string ⟨#[]⟩) 1 16 Try.underlying23 hi hz0 hz1 hz2 rfl (by decide) _ 0 [] rfl C3.out.secs _ _ _ rfl (owns_below SRC.out.1 C3.out.below) (strsV_one _) HBS.out.1 HBS.out.2 C3.out.lt ?_
        intro v4 W4 o4 g4 l4
        have C4 := hide (C3.out.appS o4 g4 l4)
        clear o4 g4 l4
        refine hK.out _ _ C4.out.par (fun hS4 => ?_)
        clear hK K
        simp only [List.getElem_toArray, List.getElem_cons_succ, List.getElem_cons_zero, Act.put, List.setIfInBounds_toArray, List.set_cons_zero, List.set_cons_succ]
        refine wpAnyH_ready (rs := [7]) (by kernel_rfl) (by simp) ?_
        refine AllReadyH.cons (o := _) rfl (fun K hK => ?_) AllReadyH.nil
        · skip
          refine step_app_own rfl (.tmp 7) (.tmp 9) 24 rfl (w.heap.size + 2) b 78 j0 (.agg #[.int .i64 0, .string ⟨#[]⟩]) 2 24 Try.underlying24 hj hy0 hy1 hy2 rfl (by decide) _ 0 [] rfl C4.out.cache _ _ _ rfl (owns_below SRC.out.2 C4.out.below) (flatW_one _) HBW.out.1 HBW.out.2 C4.out.lt ?_
          intro v5 W5 o5 g5 l5
          have C5 := hide (C4.out.appW o5 g5 l5)
          clear o5 g5 l5
          refine hK.out _ _ C5.out.par (fun hS5 => ?_)
          clear hK K
          simp only [List.getElem_toArray, List.getElem_cons_succ, List.getElem_cons_zero, Act.put, List.setIfInBounds_toArray, List.set_cons_zero, List.set_cons_succ]
          obtain ⟨so', p', hs'⟩ := ownS_shape C5.out.secs
          obtain ⟨co', q', hc'⟩ := ownW_shape C5.out.cache
          subst hs' hc'
          refine takeD 8 11 (v := ?v7) rfl rfl (by kernel_rfl) (by kernel_rfl) (by kernel_rfl) (fun _ _ _ h => h) (by kernel_rfl) ?hy7 (by assumption) ?r7
          case hy7 => (intro W hSw; go_simp; try with_reducible rfl)
          simp only [Act.put, List.setIfInBounds_toArray, List.set_cons_zero, List.set_cons_succ]
          refine wpAnyH_ready (rs := [9]) (by kernel_rfl) (by simp) ?_
          refine AllReadyH.cons (o := _) rfl (fun K hK => ?_) AllReadyH.nil
          obtain ⟨y0, y1, yf⟩ := cells2 C5.out.res
          go_simp
          refine hK.out _ _ C5.out.par2 (fun hS => ?_)
          clear hK K
          refine wpAnyH_done (by kernel_rfl) ?_ _
          refine NoPanic.normal ?_
          go_wp2
          exact bodyPost_ret (v := .agg #[.slice so' ss.length p', .slice co' cs.length q']) (resDisk Try.results65 _ _ (w.heap.size + 1) _ _ rfl (set2 C5.out.res)) rfl ⟨_, _, rfl, C5.out.out2.1, C5.out.out2.2⟩
end Go.Proofs.Ythglidcfbdigiaa
