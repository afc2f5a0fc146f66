/-
  Contract: the specification's flush: all writes done one behind the other, in a row of their own.
-/
import Derived.Test.YtaapacpiipcogaaDkFI
import Derived.Test.YtaapacpiipcogaaAppOwn
namespace Go.Proofs.Ytaapacpiipcogaa
open Go.RowKit
set_option maxRecDepth 100000

set_option maxHeartbeats 8000000 in
theorem l07Flush_all (b : Nat) (s c : Value) (d : Dk) (w : World) (hR : dkRight d = true) (hf : dkFits d) (hin : dkIn d) (h : OwnD b s c d w) :
    Calls Try.prog 62 #[.agg #[s, c], .slice none 0 0, .bool true] w fun e w' => ∃ v, e = .returned (.agg #[v, .slice none 0 0]) ∧ OwnS w.heap.size v (flushL d.secs d.cache) w' ∧ Below w.heap.size w w' := by
  obtain ⟨i0, hi, hz0, hz1, hz2⟩ := info_parts Try.infoStr'
  obtain ⟨so, p, co, q, rfl, rfl, hrow⟩ := h.row hin
  have hx := dkRight_cache hR
  obtain ⟨ss, cs⟩ := d
  simp only at *
  have HX := hide hx
  have HR := hide hrow.2.2
  have hls : ss.length ≤ 1048576 := hf.1
  have hlc : cs.length ≤ 1048576 := hf.2
  have HBS : Hid (0 + ss.length ≤ maxLen ∧ (0 + ss.length) * 16 ≤ 140737488355328) := by show _ ∧ _; unfold maxLen; omega
  have HSN := hide (fun k (n : Int) (t : ByteArray) (hk : k < cs.length) (hv : cs.getD k noWr = ⟨n, t⟩) => show flushL ss (cs.take (k + 1)) = (flushL ss (cs.take k)).set n.toNat t ∧ 0 ≤ n ∧ n < (ss.length : Int) by
    rw [List.getD_eq_getElem?_getD, List.getElem?_eq_getElem hk] at hv
    simp only [Option.getD_some] at hv
    refine ⟨by rw [List.take_succ_eq_append_getElem hk, flushL_snoc, hv], ?_, ?_⟩
    · have := (HX.out _ (List.getElem_mem hk)).1; rw [hv] at this; exact this
    · have := (HX.out _ (List.getElem_mem hk)).2.1; rw [hv] at this; exact this)
  have HLN := hide (fun k => flushL_len (cs.take k) ss)
  have h0 := two_allocs w (.cells #[.slice so ss.length p, .slice co cs.length q] 29) (.cells #[.slice none 0 0, .slice none 0 0] 29)
  have B0 := ((Below.refl w.heap.size w).alloc (Nat.le_refl _) (.cells #[.slice so ss.length p, .slice co cs.length q] 29)).alloc (by simp) (.cells #[.slice none 0 0, .slice none 0 0] 29)
  have N0 : (((w.alloc (.cells #[.slice so ss.length p, .slice co cs.length q] 29)).alloc (.cells #[.slice none 0 0, .slice none 0 0] 29)).alloc (.cells #[] 9)).heap[w.heap.size + 2]? = some (.cells #[] 9 (0, 0)) := by
    have h := heap_alloc_new ((w.alloc (.cells #[.slice so ss.length p, .slice co cs.length q] 29)).alloc (.cells #[.slice none 0 0, .slice none 0 0] 29)) (.cells #[] 9)
    rw [h0.2.2] at h
    exact h
  have X1 := hide ((heap_old ((w.alloc (.cells #[.slice so ss.length p, .slice co cs.length q] 29)).alloc (.cells #[.slice none 0 0, .slice none 0 0] 29)) (.cells #[] 9) w.heap.size (by rw [h0.2.2]; omega)).trans h0.1)
  have R1 := hide ((heap_old ((w.alloc (.cells #[.slice so ss.length p, .slice co cs.length q] 29)).alloc (.cells #[.slice none 0 0, .slice none 0 0] 29)) (.cells #[] 9) (w.heap.size + 1) (by rw [h0.2.2]; omega)).trans h0.2.1)
  have B1 := hide (B0.alloc B0.size (.cells #[] 9))
  have E1 := hide (own_empty (size := 1) N0 (Nat.le_refl (w.heap.size + 2)))
  have Z1 : Hid (w.heap.size + 2 ≤ (((w.alloc (.cells #[.slice so ss.length p, .slice co cs.length q] 29)).alloc (.cells #[.slice none 0 0, .slice none 0 0] 29)).alloc (.cells #[] 9)).heap.size) := by have := blk_lt' N0; show _ ≤ _; omega
  have SRC := hide (owns_below h.secs B1.out)
  clear h h0 B0 N0 hrow hx HX hf hin hR
  go_enter Try.func62, Try.ntmps62
  go_wp2_with (at_builtin; refine wpList_app_own rfl _ _ 22 rfl (w.heap.size + 2) b 9 i0 (.string ⟨#[]⟩) 1 16 Try.underlying22 hi hz0 hz1 hz2 rfl (by decide) (.slice (some ⟨w.heap.size + 2, 0, none⟩) 0 0) 0 [] rfl E1.out (.slice so ss.length p) _ _ rfl SRC.out (strsV_one _) HBS.out.1 HBS.out.2 Z1.out ?_; intro v5 w5 o5 g5 l5; have O5 : Hid (OwnS (w.heap.size + 2) v5 ss w5) := (by show OwnS _ _ _ _; simpa [OwnS] using o5); obtain ⟨ao, cap, hv5⟩ := ownS_shape O5.out; subst hv5; clear o5 l5)
  have X5 := hide ((g5.block _ (blk_lt' X1.out) (fun e => by have := Option.some.inj (show some w.heap.size = some (w.heap.size + 2) from e); omega)).trans X1.out)
  have R5 := hide ((g5.block _ (blk_lt' R1.out) (fun e => by have := Option.some.inj (show some (w.heap.size + 1) = some (w.heap.size + 2) from e); omega)).trans R1.out)
  have B5 := hide (B1.out.grown g5 B1.out.size (fun j hj => by have := Option.some.inj (show some (w.heap.size + 2) = some j from hj); omega))
  clear g5
  have F5 := hide (FI.start2 (c := .slice none 0 0) B5.out X5.out R5.out O5.out)
  clear X1 R1 B1 E1 Z1 SRC X5 R5 B5 O5 HBS
  go_loopw [8] (fun i wr => ∃ k : Nat, k ≤ cs.length ∧ i = .int .i64 k ∧ Hid (FI w #[.slice so ss.length p, .slice co cs.length q] (.slice ao ss.length cap) (.slice none 0 0) w5.heap.size (flushL ss (cs.take k)) wr)) (fun i _ => cs.length - (intOf i).toNat)
  case atStart => exact ⟨0, Nat.zero_le _, rfl, by simpa [flushL] using F5⟩
  case round =>
    obtain ⟨k, hk, rfl, G⟩ := hrel
    clear F5
    obtain ⟨x0, x1, xf⟩ := cells2 G.out.par
    by_cases hlt : k < cs.length
    · obtain ⟨cb, off, n, t, rfl, hbB, hv, htt, hki, d0, d1⟩ := (HR.out.kept G.out.below).at k hlt
      obtain ⟨hS, hn0, hn1⟩ := HSN.out k n t hlt hv
      obtain ⟨m, rfl⟩ : ∃ m : Nat, n = (m : Int) := ⟨n.toNat, by omega⟩
      have hm : m < ss.length := by omega
      obtain ⟨e, rfl, he, heg, hef, hec⟩ := G.out.cell (by rw [HLN.out k]; omega)
      have hcm := hec m (by rw [HLN.out k]; exact hm)
      generalize w5.heap.size = g at *
      rw [show ((m : Int)).toNat = m from by omega] at hS
      have GN : Hid (FI w #[.slice so ss.length p, .slice (some ⟨cb, off, none⟩) cs.length q] (.slice (some ⟨e, 0, none⟩) ss.length cap) (.slice none 0 0) g (flushL ss (cs.take (k + 1))) (wr.setCell ⟨e, m, none⟩ (.string t)).drew) := by rw [hS]; exact (G.out.put (HLN.out k).symm m t he).drew
      have HC := hide (And.intro d0 (And.intro d1 (And.intro hcm (hef m))))
      clear hS hn0 hn1 hv htt hki hec hcm d0 d1 hef
      go_wp2
      refine wp_region_noPanic ?_
      refine wp_region_held_drew (S := fun W => W.heap[w.heap.size]? = some (.cells #[.slice so ss.length p, .slice (some ⟨cb, off, none⟩) cs.length q] 29 (0, 0)) ∧ W.heap[g]? = some (.cells #[.slice (some ⟨e, 0, none⟩) ss.length cap, .slice none 0 0] 29 (0, 0)) ∧ W.cell? ⟨cb, off + k * 2, none⟩ = some (.int .i64 (m : Int)) ∧ W.cell? ⟨cb, off + k * 2 + 1, none⟩ = some (.string t)) (by kernel_rfl) ⟨G.out.par, G.out.var, HC.out.1, HC.out.2.1⟩ (fun hS1 => ?_)
      refine takeD 0 34 (v := ?v1) rfl rfl (by kernel_rfl) (by kernel_rfl) (by kernel_rfl) (fun _ _ _ h => h) (by kernel_rfl) ?hy1 (by assumption) ?r1
      case hy1 => (intro W hSw; obtain ⟨s1, s2, s3, s4⟩ := hSw; obtain ⟨a0, a1, af⟩ := cells2 s1; obtain ⟨b0, b1, bf⟩ := cells2 s2; go_simp; try with_reducible rfl)
      simp only [Act.put, List.setIfInBounds_toArray, List.set_cons_zero, List.set_cons_succ]
      refine takeD 1 35 (v := ?v2) rfl rfl (by kernel_rfl) (by kernel_rfl) (by kernel_rfl) (fun _ _ _ h => h) (by kernel_rfl) ?hy2 (by assumption) ?r2
      case hy2 => (intro W hSw; obtain ⟨s1, s2, s3, s4⟩ := hSw; obtain ⟨a0, a1, af⟩ := cells2 s1; obtain ⟨b0, b1, bf⟩ := cells2 s2; go_simp; try with_reducible rfl)
      simp only [Act.put, List.setIfInBounds_toArray, List.set_cons_zero, List.set_cons_succ]
      refine takeD 2 36 (v := ?v3) rfl rfl (by kernel_rfl) (by kernel_rfl) (by kernel_rfl) (fun _ _ _ h => h) (by kernel_rfl) ?hy3 (by assumption) ?r3
      case hy3 => (intro W hSw; obtain ⟨s1, s2, s3, s4⟩ := hSw; obtain ⟨a0, a1, af⟩ := cells2 s1; obtain ⟨b0, b1, bf⟩ := cells2 s2; go_simp; try with_reducible rfl)
      simp only [Act.put, List.setIfInBounds_toArray, List.set_cons_zero, List.set_cons_succ]
      refine takeD 3 37 (v := ?v4) rfl rfl (by kernel_rfl) (by kernel_rfl) (by kernel_rfl) (fun _ _ _ h => h) (by kernel_rfl) ?hy4 (by assumption) ?r4
      case hy4 => (intro W hSw; obtain ⟨s1, s2, s3, s4⟩ := hSw; obtain ⟨a0, a1, af⟩ := cells2 s1; obtain ⟨b0, b1, bf⟩ := cells2 s2; go_simp; try with_reducible rfl)
      simp only [Act.put, List.setIfInBounds_toArray, List.set_cons_zero, List.set_cons_succ]
      refine takeD 4 38 (v := ?v5) rfl rfl (by kernel_rfl) (by kernel_rfl) (by kernel_rfl) (fun _ _ _ h => h) (by kernel_rfl) ?hy5 (by assumption) ?r5
      case hy5 => (intro W hSw; obtain ⟨s1, s2, s3, s4⟩ := hSw; obtain ⟨a0, a1, af⟩ := cells2 s1; obtain ⟨b0, b1, bf⟩ := cells2 s2; go_simp; try with_reducible rfl)
      simp only [Act.put, List.setIfInBounds_toArray, List.set_cons_zero, List.set_cons_succ]
      refine takeD 5 39 (v := ?v6) rfl rfl (by kernel_rfl) (by kernel_rfl) (by kernel_rfl) (fun _ _ _ h => h) (by kernel_rfl) ?hy6 (by assumption) ?r6
      case hy6 => (intro W hSw; obtain ⟨s1, s2, s3, s4⟩ := hSw; obtain ⟨a0, a1, af⟩ := cells2 s1; obtain ⟨b0, b1, bf⟩ := cells2 s2; go_simp; try with_reducible rfl)
      simp only [Act.put, List.setIfInBounds_toArray, List.set_cons_zero, List.set_cons_succ]
      refine takeD 6 40 (v := ?v7) rfl rfl (by kernel_rfl) (by kernel_rfl) (by kernel_rfl) (fun _ _ _ h => h) (by kernel_rfl) ?hy7 (by assumption) ?r7
      case hy7 => (intro W hSw; obtain ⟨s1, s2, s3, s4⟩ := hSw; obtain ⟨a0, a1, af⟩ := cells2 s1; obtain ⟨b0, b1, bf⟩ := cells2 s2; go_simp; try with_reducible rfl)
      simp only [Act.put, List.setIfInBounds_toArray, List.set_cons_zero, List.set_cons_succ]
      refine takeD 7 41 (v := ?v8) rfl rfl (by kernel_rfl) (by kernel_rfl) (by kernel_rfl) (fun _ _ _ h => h) (by kernel_rfl) ?hy8 (by assumption) ?r8
      case hy8 => (intro W hSw; obtain ⟨s1, s2, s3, s4⟩ := hSw; obtain ⟨a0, a1, af⟩ := cells2 s1; obtain ⟨b0, b1, bf⟩ := cells2 s2; go_simp; try with_reducible rfl)
      simp only [Act.put, List.setIfInBounds_toArray, List.set_cons_zero, List.set_cons_succ]
      refine takeD 8 42 (v := ?v9) rfl rfl (by kernel_rfl) (by kernel_rfl) (by kernel_rfl) (fun _ _ _ h => h) (by kernel_rfl) ?hy9 (by assumption) ?r9
      case hy9 => (intro W hSw; obtain ⟨s1, s2, s3, s4⟩ := hSw; obtain ⟨a0, a1, af⟩ := cells2 s1; obtain ⟨b0, b1, bf⟩ := cells2 s2; go_simp; try with_reducible rfl)
      simp only [Act.put, List.setIfInBounds_toArray, List.set_cons_zero, List.set_cons_succ]
      refine takeD 9 43 (v := ?v10) rfl rfl (by kernel_rfl) (by kernel_rfl) (by kernel_rfl) (fun _ _ _ h => h) (by kernel_rfl) ?hy10 (by assumption) ?r10
      case hy10 => (intro W hSw; obtain ⟨s1, s2, s3, s4⟩ := hSw; obtain ⟨a0, a1, af⟩ := cells2 s1; obtain ⟨b0, b1, bf⟩ := cells2 s2; go_simp; try with_reducible rfl)
      simp only [Act.put, List.setIfInBounds_toArray, List.set_cons_zero, List.set_cons_succ]
      refine takeD 10 44 (v := ?v11) rfl rfl (by kernel_rfl) (by kernel_rfl) (by kernel_rfl) (fun _ _ _ h => h) (by kernel_rfl) ?hy11 (by assumption) ?r11
      case hy11 => (intro W hSw; obtain ⟨s1, s2, s3, s4⟩ := hSw; obtain ⟨a0, a1, af⟩ := cells2 s1; obtain ⟨b0, b1, bf⟩ := cells2 s2; go_simp; try with_reducible rfl)
      simp only [Act.put, List.setIfInBounds_toArray, List.set_cons_zero, List.set_cons_succ]
      refine takeD 11 45 (v := ?v12) rfl rfl (by kernel_rfl) (by kernel_rfl) (by kernel_rfl) (fun _ _ _ h => h) (by kernel_rfl) ?hy12 (by assumption) ?r12
      case hy12 => (intro W hSw; obtain ⟨s1, s2, s3, s4⟩ := hSw; obtain ⟨a0, a1, af⟩ := cells2 s1; obtain ⟨b0, b1, bf⟩ := cells2 s2; go_simp; try with_reducible rfl)
      simp only [Act.put, List.setIfInBounds_toArray, List.set_cons_zero, List.set_cons_succ]
      refine takeD 12 46 (v := ?v13) rfl rfl (by kernel_rfl) (by kernel_rfl) (by kernel_rfl) (fun _ _ _ h => h) (by kernel_rfl) ?hy13 (by assumption) ?r13
      case hy13 => (intro W hSw; obtain ⟨s1, s2, s3, s4⟩ := hSw; obtain ⟨a0, a1, af⟩ := cells2 s1; obtain ⟨b0, b1, bf⟩ := cells2 s2; go_simp; try with_reducible rfl)
      simp only [Act.put, List.setIfInBounds_toArray, List.set_cons_zero, List.set_cons_succ]
      refine takeD 13 47 (v := ?v14) rfl rfl (by kernel_rfl) (by kernel_rfl) (by kernel_rfl) (fun _ _ _ h => h) (by kernel_rfl) ?hy14 (by assumption) ?r14
      case hy14 => (intro W hSw; obtain ⟨s1, s2, s3, s4⟩ := hSw; obtain ⟨a0, a1, af⟩ := cells2 s1; obtain ⟨b0, b1, bf⟩ := cells2 s2; go_simp; try with_reducible rfl)
      simp only [Act.put, List.setIfInBounds_toArray, List.set_cons_zero, List.set_cons_succ]
      refine takeD 14 48 (v := ?v15) rfl rfl (by kernel_rfl) (by kernel_rfl) (by kernel_rfl) (fun _ _ _ h => h) (by kernel_rfl) ?hy15 (by assumption) ?r15
      case hy15 => (intro W hSw; obtain ⟨s1, s2, s3, s4⟩ := hSw; obtain ⟨a0, a1, af⟩ := cells2 s1; obtain ⟨b0, b1, bf⟩ := cells2 s2; go_simp; try with_reducible rfl)
      simp only [Act.put, List.setIfInBounds_toArray, List.set_cons_zero, List.set_cons_succ]
      refine wpAnyH_ready (rs := [15]) (by kernel_rfl) (by simp) ?_
      refine AllReadyH.cons (o := _) rfl (fun K hK => ?_) AllReadyH.nil
      have hcd : wr.drew.cell? ⟨e, m, none⟩ = _ := HC.out.2.2.1
      have hfd : wr.drew.frozen? ⟨e, m, none⟩ = false := HC.out.2.2.2
      have HS2 : Hid ((wr.drew.setCell ⟨e, m, none⟩ (.string t)).cell? ⟨cb, off + k * 2, none⟩ = some (.int .i64 (m : Int)) ∧ (wr.drew.setCell ⟨e, m, none⟩ (.string t)).cell? ⟨cb, off + k * 2 + 1, none⟩ = some (.string t)) := by
        have ho := fun o => World.cell?_setCell_other wr.drew ⟨e, m, none⟩ ⟨cb, o, none⟩ (.string t) (fun e' => by have : e = cb := congrArg Addr.block e'; omega)
        exact ⟨(ho _).trans HC.out.1, (ho _).trans HC.out.2.1⟩
      go_simp
      refine hK.out _ _ ⟨GN.out.par, GN.out.var, HS2.out⟩ (fun hS2 => ?_)
      clear hK K hcd hfd HC HS2 hS1 hS2
      refine wpAnyH_done (by kernel_rfl) ?_ _
      refine NoPanic.normal ?_
      generalize (wr.setCell ⟨e, m, none⟩ (.string t)).drew = W9 at *
      clear x0 x1 xf G
      go_wp2
      go_roundw
      case rel => exact ⟨k + 1, by omega, by go_num, GN⟩
      case measure => simp [intOf]; omega
    · obtain rfl : k = cs.length := by omega
      have G9 := G
      rw [List.take_length] at G9
      obtain ⟨g0, g1, gf⟩ := cells2 G9.out.var
      obtain ⟨y0, y1, yf⟩ := cells2 G9.out.res
      clear G
      go_wp2
      exact bodyPost_ret (v := .agg #[.slice ao ss.length cap, .slice none 0 0]) (resDisk Try.results62 _ _ (w.heap.size + 1) _ _ rfl (set2 G9.out.res)) rfl ⟨_, rfl, G9.out.out⟩
end Go.Proofs.Ytaapacpiipcogaa
