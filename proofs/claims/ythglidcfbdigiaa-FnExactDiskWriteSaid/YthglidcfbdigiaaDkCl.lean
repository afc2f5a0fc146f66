/-
  Contracts: slices.Clone of texts and of writes: rows of their own.
-/
import Derived.Test.YthglidcfbdigiaaDkCp
import Derived.Lib.SliceRun
import Derived.Test.YthglidcfbdigiaaSkips
namespace Go.Proofs.Ythglidcfbdigiaa
open Go.RowKit
set_option maxRecDepth 100000

set_option maxHeartbeats 2000000 in
theorem cloneStr_own (b : Nat) (v : Value) (l : List ByteArray) (w : World) (hl : l.length ≤ 1048576) (h : OwnS b v l w) :
    Calls Try.prog 67 #[v] w fun e w' => ∃ v', e = .returned v' ∧ OwnS w.heap.size v' l w' ∧ Below w.heap.size w w' := by
  obtain ⟨i0, hi, hz0, hz1, hz2⟩ := info_parts Try.infoStr'
  have qn : ∀ (w : World) (a : Option Addr) (n c n' c' : Nat), (binOp .eql 23 (.slice a n c) (.slice none n' c')).run Try.prog w = .ok (.bool a.isNone) w := fun w a n c n' c' => Lib.run_eql_slice_nil w _ _ a n c n' c' Try.underlying23
  rcases h.2 with ⟨rfl, h0⟩ | ⟨g, cap, cur, rfl, _⟩
  · obtain rfl : l = [] := List.eq_nil_of_length_eq_zero h0
    go_enter Try.func67, Try.ntmps67
    go_wp2
    go_ret
    exact ⟨_, rfl, ownS_nil _ _, Below.refl _ _⟩
  · have BA := (Below.refl w.heap.size w).alloc (Nat.le_refl _) (.cells #[] 9)
    have hown : (w.alloc (.cells #[] 9)).ownsRow w.heap.size 9 1 (.slice (some ⟨w.heap.size, 0, none⟩) 0 0) 0 [] := own_empty (heap_alloc_new _ _) (Nat.le_refl _)
    have HS := hide (owns_below h BA)
    have HB := hide BA
    have HB63 : Hid (0 + l.length ≤ maxLen ∧ (0 + l.length) * 16 ≤ 140737488355328) := by show _ ∧ _; unfold maxLen; omega
    clear h BA
    go_enter Try.func67, Try.ntmps67
    go_wp2_with (at_builtin; refine wpList_app_own rfl _ _ 23 rfl w.heap.size b 9 i0 (.string ⟨#[]⟩) 1 16 Try.underlying23 hi hz0 hz1 hz2 rfl (by decide) _ 0 [] rfl hown _ _ _ rfl HS.out (strsV_one _) HB63.out.1 HB63.out.2 (by simp) ?_; intro v5 w5 o5 g5 l5)
    have O5 : Hid (OwnS w.heap.size v5 l w5) := by show OwnS _ _ _ _; simpa [OwnS] using o5
    have B5 := hide (HB.out.grown g5 (by simp) (fun j hj => Nat.le_of_eq (Option.some.inj (show some w.heap.size = some j from hj))))
    clear o5 g5 l5 hown
    obtain ⟨ao, cp, rfl⟩ := ownS_shape O5.out
    go_wp2
    go_ret
    exact ⟨_, rfl, O5.out, B5.out⟩
set_option maxHeartbeats 2000000 in
theorem cloneWrs_own (b : Nat) (v : Value) (l : List Wr) (w : World) (hl : l.length ≤ 1048576) (h : OwnW b v l w) :
    Calls Try.prog 68 #[v] w fun e w' => ∃ v', e = .returned v' ∧ OwnW w.heap.size v' l w' ∧ Below w.heap.size w w' := by
  obtain ⟨i0, hi, hz0, hz1, hz2⟩ := info_parts Try.infoWr
  have qn : ∀ (w : World) (a : Option Addr) (n c n' c' : Nat), (binOp .eql 24 (.slice a n c) (.slice none n' c')).run Try.prog w = .ok (.bool a.isNone) w := fun w a n c n' c' => Lib.run_eql_slice_nil w _ _ a n c n' c' Try.underlying24
  rcases h.2 with ⟨rfl, h0⟩ | ⟨g, cap, cur, rfl, _⟩
  · obtain rfl : l = [] := List.eq_nil_of_length_eq_zero h0
    go_enter Try.func68, Try.ntmps68
    go_wp2
    go_ret
    exact ⟨_, rfl, ownW_nil _ _, Below.refl _ _⟩
  · have BA := (Below.refl w.heap.size w).alloc (Nat.le_refl _) (.cells #[] 78)
    have hown : (w.alloc (.cells #[] 78)).ownsRow w.heap.size 78 2 (.slice (some ⟨w.heap.size, 0, none⟩) 0 0) 0 [] := own_empty (heap_alloc_new _ _) (Nat.le_refl _)
    have HS := hide (owns_below h BA)
    have HB := hide BA
    have HB63 : Hid (0 + l.length ≤ maxLen ∧ (0 + l.length) * 24 ≤ 140737488355328) := by show _ ∧ _; unfold maxLen; omega
    clear h BA
    go_enter Try.func68, Try.ntmps68
    go_wp2_with (at_builtin; refine wpList_app_own rfl _ _ 24 rfl w.heap.size b 78 i0 (.agg #[.int .i64 0, .string ⟨#[]⟩]) 2 24 Try.underlying24 hi hz0 hz1 hz2 rfl (by decide) _ 0 [] rfl hown _ _ _ rfl HS.out (flatW_one _) HB63.out.1 HB63.out.2 (by simp) ?_; intro v5 w5 o5 g5 l5)
    have O5 : Hid (OwnW w.heap.size v5 l w5) := by show OwnW _ _ _ _; simpa [OwnW] using o5
    have B5 := hide (HB.out.grown g5 (by simp) (fun j hj => Nat.le_of_eq (Option.some.inj (show some w.heap.size = some j from hj))))
    clear o5 g5 l5 hown
    obtain ⟨ao, cp, rfl⟩ := ownW_shape O5.out
    go_wp2
    go_ret
    exact ⟨_, rfl, O5.out, B5.out⟩
set_option maxHeartbeats 4000000 in
theorem copyDisk_own (b : Nat) (s c : Value) (d : Dk) (w : World) (hf : dkFits d) (h : OwnD b s c d w) :
    Calls Try.prog 42 #[.agg #[s, c]] w fun e w' => ∃ s' c', e = .returned (.agg #[s', c']) ∧ OwnD w.heap.size s' c' d w' ∧ Below w.heap.size w w' := by
  have HSC := hide (fun W (hb : Below w.heap.size w W) => cloneStr_own b s d.secs W hf.1 (owns_below h.secs hb))
  have HWC := hide (fun W (hb : Below w.heap.size w W) => cloneWrs_own b c d.cache W hf.2 (owns_below h.cache hb))
  obtain ⟨so, p, co, q, rfl, rfl⟩ := h.shape
  obtain ⟨ss, cs⟩ := d
  simp only at *
  have C0 := hide (CI.start w (.slice so ss.length p) (.slice co cs.length q))
  clear h hf
  obtain ⟨x0, x1, xf⟩ := cells2 C0.out.par
  obtain ⟨y0, y1, yf⟩ := cells2 C0.out.res
  go_enter Try.func42, Try.ntmps42
  go_wp2
  have C1 := hide C0.out.drew
  clear C0 x0 x1 xf y0 y1 yf
  generalize (w.alloc (.cells #[.slice so ss.length p, .slice co cs.length q] 26)).alloc (.cells #[.slice none 0 0, .slice none 0 0] 26) = W0 at *
  refine wp_region_noPanic ?_
  refine wp_region_held_drew (S := fun W => W.heap[w.heap.size]? = some (.cells #[.slice so ss.length p, .slice co cs.length q] 26 (0, 0))) (by kernel_rfl) C1.out.par (fun hS1 => ?_)
  generalize W0.drew = W1 at *
  refine takeD 0 3 (v := ?v1) rfl rfl (by kernel_rfl) (by kernel_rfl) (by kernel_rfl) (fun _ _ _ h => h) (by kernel_rfl) ?hy1 (by assumption) ?r1
  case hy1 => (intro W hSw; obtain ⟨x0, x1, xf⟩ := cells2 (hSw); go_simp; try with_reducible rfl)
  simp only [Act.put, List.setIfInBounds_toArray, List.set_cons_zero, List.set_cons_succ]
  refine takeD 1 4 (v := ?v2) rfl rfl (by kernel_rfl) (by kernel_rfl) (by kernel_rfl) (fun _ _ _ h => h) (by kernel_rfl) ?hy2 (by assumption) ?r2
  case hy2 => (intro W hSw; obtain ⟨x0, x1, xf⟩ := cells2 (hSw); go_simp; try with_reducible rfl)
  simp only [Act.put, List.setIfInBounds_toArray, List.set_cons_zero, List.set_cons_succ]
  refine takeD 3 6 (v := ?v3) rfl rfl (by kernel_rfl) (by kernel_rfl) (by kernel_rfl) (fun _ _ _ h => h) (by kernel_rfl) ?hy3 (by assumption) ?r3
  case hy3 => (intro W hSw; obtain ⟨x0, x1, xf⟩ := cells2 (hSw); go_simp; try with_reducible rfl)
  simp only [Act.put, List.setIfInBounds_toArray, List.set_cons_zero, List.set_cons_succ]
  refine takeD 4 7 (v := ?v4) rfl rfl (by kernel_rfl) (by kernel_rfl) (by kernel_rfl) (fun _ _ _ h => h) (by kernel_rfl) ?hy4 (by assumption) ?r4
  case hy4 => (intro W hSw; obtain ⟨x0, x1, xf⟩ := cells2 (hSw); go_simp; try with_reducible rfl)
  simp only [Act.put, List.setIfInBounds_toArray, List.set_cons_zero, List.set_cons_succ]
  refine wpAnyH_ready (rs := [2]) (by kernel_rfl) (by simp) ?_
  refine AllReadyH.cons (o := _) rfl (fun K hK => ?_) AllReadyH.nil
  go_simp
  go_at_call 67
  refine (HSC.out _ C1.out.below).mono ?_
  rintro e W2 ⟨v2, rfl, o2, b2⟩
  have C2 := hide (C1.out.cloneS o2 b2)
  obtain ⟨so', p', hs'⟩ := ownS_shape o2
  subst hs'
  clear o2 b2
  go_wp2_with fail
  refine hK.out _ _ C2.out.par (fun hS2 => ?_)
  clear hK K
  refine wpAnyH_ready (rs := [5]) (by kernel_rfl) (by simp) ?_
  refine AllReadyH.cons (o := _) rfl (fun K hK => ?_) AllReadyH.nil
  go_simp
  go_at_call 68
  refine (HWC.out _ C2.out.below).mono ?_
  rintro e W3 ⟨v3, rfl, o3, b3⟩
  have C3 := hide (C2.out.cloneW o3 b3)
  obtain ⟨co', q', hc'⟩ := ownW_shape o3
  subst hc'
  clear o3 b3
  go_wp2_with fail
  refine hK.out _ _ C3.out.par (fun hS3 => ?_)
  clear hK K
  refine takeD 6 9 (v := ?v5) rfl rfl (by kernel_rfl) (by kernel_rfl) (by kernel_rfl) (fun _ _ _ h => h) (by kernel_rfl) ?hy5 (by assumption) ?r5
  case hy5 => (intro W hSw; go_simp; try with_reducible rfl)
  simp only [Act.put, List.setIfInBounds_toArray, List.set_cons_zero, List.set_cons_succ]
  refine wpAnyH_ready (rs := [7]) (by kernel_rfl) (by simp) ?_
  refine AllReadyH.cons (o := _) rfl (fun K hK => ?_) AllReadyH.nil
  obtain ⟨y0, y1, yf⟩ := cells2 C3.out.res
  go_simp
  refine hK.out _ _ C3.out.par2 (fun hS => ?_)
  clear hK K
  refine wpAnyH_done (by kernel_rfl) ?_ _
  refine NoPanic.normal ?_
  go_wp2
  exact bodyPost_ret (v := .agg #[.slice so' ss.length p', .slice co' cs.length q']) (resDisk Try.results42 _ _ (w.heap.size + 1) _ _ rfl (set2 C3.out.res)) rfl ⟨_, _, rfl, C3.out.out2.1, C3.out.out2.2⟩
end Go.Proofs.Ythglidcfbdigiaa
