/-
  Contracts and plain laws, part 3 of 5: DkFlK, DkFlS, DkCpS, DkWrP, DkRightS, DkFlP, DkCrP, DkEI, DkNeq, DkTxt, DkCl
-/
import Derived.DeepKeys
import Derived.DeepKeys2
import Derived.Laws.StructEq
import Derived.Lib.AppendStr
import Derived.Lib.SliceRun
import Derived.Test.YtmladjahkhhpkaaPb

/-
  Contract: the specification's flush: the kept writes done one behind the other, in a row of their own.
-/
namespace Go.Proofs.Ytmladjahkhhpkaa
open Go.RowKit
set_option maxRecDepth 100000

set_option maxHeartbeats 8000000 in
theorem l07Flush_keep (b b2 : Nat) (s c kv : Value) (d : Dk) (kl : List Bool) (w : World) (hR : dkRight d = true) (hf : dkFits d) (hin : dkIn d) (h : OwnD b s c d w) (hkv : OwnL b2 kv kl w) :
    Calls Try.prog 55 #[.agg #[s, c], kv, .bool false] w fun e w' => ∃ v, e = .returned (.agg #[v, .slice none 0 0]) ∧ OwnS w.heap.size v (flushL d.secs (keptN d.cache kl d.cache.length)) w' ∧ Below w.heap.size w w' := by
  obtain ⟨i0, hi, hz0, hz1, hz2⟩ := info_parts Try.infoStr'
  obtain ⟨so, p, co, q, rfl, rfl, hrow⟩ := h.row hin
  obtain ⟨ko, kr, rfl, hks⟩ := ownL_shape hkv
  have HKS := hide hks
  clear hks hkv
  have hx := dkRight_cache hR
  obtain ⟨ss, cs⟩ := d
  simp only at *
  have HX := hide hx
  have HR := hide hrow.2.2
  have hls : ss.length ≤ 1048576 := hf.1
  have hlc : cs.length ≤ 1048576 := hf.2
  have HBS : Hid (0 + ss.length ≤ maxLen ∧ (0 + ss.length) * 16 ≤ 140737488355328) := by show _ ∧ _; unfold maxLen; omega
  have HSN := hide (fun k (n : Int) (t : ByteArray) (hk : k < cs.length) (hv : cs.getD k noWr = ⟨n, t⟩) (hb : kl.getD k false = true) => show flushL ss (keptN cs kl (k + 1)) = (flushL ss (keptN cs kl k)).set n.toNat t ∧ 0 ≤ n ∧ n < (ss.length : Int) by
    rw [keptN_yes hb, hv, flushL_snoc]
    rw [List.getD_eq_getElem?_getD, List.getElem?_eq_getElem hk] at hv
    simp only [Option.getD_some] at hv
    refine ⟨rfl, ?_, ?_⟩
    · have := (HX.out _ (List.getElem_mem hk)).1; rw [hv] at this; exact this
    · have := (HX.out _ (List.getElem_mem hk)).2.1; rw [hv] at this; exact this)
  have HKN := hide (fun k (hb : kl.getD k false = false) => show flushL ss (keptN cs kl (k + 1)) = flushL ss (keptN cs kl k) by rw [keptN_no hb])
  have HK0 : Hid (flushL ss (keptN cs kl 0) = ss) := rfl
  have HLN := hide (fun k => flushL_len (keptN cs kl k) ss)
  have h0 := two_allocs w (.cells #[.slice so ss.length p, .slice co cs.length q] 25) (.cells #[.slice none 0 0, .slice none 0 0] 25)
  have B0 := ((Below.refl w.heap.size w).alloc (Nat.le_refl _) (.cells #[.slice so ss.length p, .slice co cs.length q] 25)).alloc (by simp) (.cells #[.slice none 0 0, .slice none 0 0] 25)
  have N0 : (((w.alloc (.cells #[.slice so ss.length p, .slice co cs.length q] 25)).alloc (.cells #[.slice none 0 0, .slice none 0 0] 25)).alloc (.cells #[] 9)).heap[w.heap.size + 2]? = some (.cells #[] 9 (0, 0)) := by
    have h := heap_alloc_new ((w.alloc (.cells #[.slice so ss.length p, .slice co cs.length q] 25)).alloc (.cells #[.slice none 0 0, .slice none 0 0] 25)) (.cells #[] 9)
    rw [h0.2.2] at h
    exact h
  have X1 := hide ((heap_old ((w.alloc (.cells #[.slice so ss.length p, .slice co cs.length q] 25)).alloc (.cells #[.slice none 0 0, .slice none 0 0] 25)) (.cells #[] 9) w.heap.size (by rw [h0.2.2]; omega)).trans h0.1)
  have R1 := hide ((heap_old ((w.alloc (.cells #[.slice so ss.length p, .slice co cs.length q] 25)).alloc (.cells #[.slice none 0 0, .slice none 0 0] 25)) (.cells #[] 9) (w.heap.size + 1) (by rw [h0.2.2]; omega)).trans h0.2.1)
  have B1 := hide (B0.alloc B0.size (.cells #[] 9))
  have E1 := hide (own_empty (size := 1) N0 (Nat.le_refl (w.heap.size + 2)))
  have Z1 : Hid (w.heap.size + 2 ≤ (((w.alloc (.cells #[.slice so ss.length p, .slice co cs.length q] 25)).alloc (.cells #[.slice none 0 0, .slice none 0 0] 25)).alloc (.cells #[] 9)).heap.size) := by have := blk_lt' N0; show _ ≤ _; omega
  have SRC := hide (owns_below h.secs B1.out)
  clear h h0 B0 N0 hrow hx HX hf hin hR
  go_enter Try.func55, Try.ntmps55
  go_wp2_with (at_builtin; refine wpList_app_own rfl _ _ 22 rfl (w.heap.size + 2) b 9 i0 (.string ⟨#[]⟩) 1 16 Try.underlying22 hi hz0 hz1 hz2 rfl (by decide) (.slice (some ⟨w.heap.size + 2, 0, none⟩) 0 0) 0 [] rfl E1.out (.slice so ss.length p) _ _ rfl SRC.out (strsV_one _) HBS.out.1 HBS.out.2 Z1.out ?_; intro v5 w5 o5 g5 l5; have O5 : Hid (OwnS (w.heap.size + 2) v5 ss w5) := (by show OwnS _ _ _ _; simpa [OwnS] using o5); obtain ⟨ao, cap, hv5⟩ := ownS_shape O5.out; subst hv5; clear o5 l5)
  have X5 := hide ((g5.block _ (blk_lt' X1.out) (fun e => by have := Option.some.inj (show some w.heap.size = some (w.heap.size + 2) from e); omega)).trans X1.out)
  have R5 := hide ((g5.block _ (blk_lt' R1.out) (fun e => by have := Option.some.inj (show some (w.heap.size + 1) = some (w.heap.size + 2) from e); omega)).trans R1.out)
  have B5 := hide (B1.out.grown g5 B1.out.size (fun j hj => by have := Option.some.inj (show some (w.heap.size + 2) = some j from hj); omega))
  clear g5
  have F5 := hide (FI.start2 (c := .slice none 0 0) B5.out X5.out R5.out O5.out)
  clear X1 R1 B1 E1 Z1 SRC X5 R5 B5 O5 HBS
  go_loopw [8] (fun i wr => ∃ k : Nat, k ≤ cs.length ∧ i = .int .i64 k ∧ Hid (FI w #[.slice so ss.length p, .slice co cs.length q] (.slice ao ss.length cap) (.slice none 0 0) w5.heap.size (flushL ss (keptN cs kl k)) wr)) (fun i _ => cs.length - (intOf i).toNat)
  case atStart => exact ⟨0, Nat.zero_le _, rfl, (by rw [HK0.out]; exact F5)⟩
  case round =>
    obtain ⟨k, hk, rfl, G⟩ := hrel
    clear F5
    obtain ⟨x0, x1, xf⟩ := cells2 G.out.par
    by_cases hlt : k < cs.length
    · obtain ⟨cb, off, n, t, rfl, hbB, hv, htt, hki, d0, d1⟩ := (HR.out.kept G.out.below).at k hlt
      by_cases hyes : k < kl.length ∧ kl.getD k false = true
      rotate_left
      · have hb : kl.getD k false = false := by
          by_cases h1 : k < kl.length
          · cases h2 : kl.getD k false with
            | false => rfl
            | true => exact absurd ⟨h1, h2⟩ hyes
          · rw [List.getD_eq_getElem?_getD, List.getElem?_eq_none (by omega)]; rfl
        have GN : Hid (FI w #[.slice so ss.length p, .slice (some ⟨cb, off, none⟩) cs.length q] (.slice ao ss.length cap) (.slice none 0 0) w5.heap.size (flushL ss (keptN cs kl (k + 1))) wr) := by rw [HKN.out k hb]; exact G.out
        by_cases hkk : k < kl.length
        · obtain ⟨e9, rfl, he9, hce⟩ := HKS.out k hkk
          have hce' : wr.cell? ⟨e9, k, none⟩ = some (.bool false) := by rw [← hb]; exact (G.out.below.cell (p := ⟨e9, k, none⟩) he9).trans hce
          clear hce hyes hb G hv htt hki
          go_wp2
          go_roundw
          case rel => exact ⟨k + 1, by omega, by go_num, GN⟩
          case measure => simp [intOf]; omega
        · clear hyes hb G hv htt hki
          go_wp2
          go_roundw
          case rel => exact ⟨k + 1, by omega, by go_num, GN⟩
          case measure => simp [intOf]; omega
      obtain ⟨hkk, hbt⟩ := hyes
      obtain ⟨e9, rfl, he9, hce⟩ := HKS.out k hkk
      have hce' : wr.cell? ⟨e9, k, none⟩ = some (.bool true) := by rw [← hbt]; exact (G.out.below.cell (p := ⟨e9, k, none⟩) he9).trans hce
      obtain ⟨hS, hn0, hn1⟩ := HSN.out k n t hlt hv hbt
      clear hce hbt
      obtain ⟨m, rfl⟩ : ∃ m : Nat, n = (m : Int) := ⟨n.toNat, by omega⟩
      have hm : m < ss.length := by omega
      obtain ⟨e, rfl, he, heg, hef, hec⟩ := G.out.cell (by rw [HLN.out k]; omega)
      have hcm := hec m (by rw [HLN.out k]; exact hm)
      generalize w5.heap.size = g at *
      rw [show ((m : Int)).toNat = m from by omega] at hS
      have GN : Hid (FI w #[.slice so ss.length p, .slice (some ⟨cb, off, none⟩) cs.length q] (.slice (some ⟨e, 0, none⟩) ss.length cap) (.slice none 0 0) g (flushL ss (keptN cs kl (k + 1))) (wr.setCell ⟨e, m, none⟩ (.string t)).drew) := by rw [hS]; exact (G.out.put (HLN.out k).symm m t he).drew
      have HC := hide (And.intro d0 (And.intro d1 (And.intro hcm (hef m))))
      clear hS hn0 hn1 hv htt hki hec hcm d0 d1 hef
      go_wp2
      refine wp_region_noPanic ?_
      refine wp_region_held_drew (S := fun W => W.heap[w.heap.size]? = some (.cells #[.slice so ss.length p, .slice (some ⟨cb, off, none⟩) cs.length q] 25 (0, 0)) ∧ W.heap[g]? = some (.cells #[.slice (some ⟨e, 0, none⟩) ss.length cap, .slice none 0 0] 25 (0, 0)) ∧ W.cell? ⟨cb, off + k * 2, none⟩ = some (.int .i64 (m : Int)) ∧ W.cell? ⟨cb, off + k * 2 + 1, none⟩ = some (.string t)) (by kernel_rfl) ⟨G.out.par, G.out.var, HC.out.1, HC.out.2.1⟩ (fun hS1 => ?_)
      refine takeD 0 34 (v := ?v1) rfl rfl (by kernel_rfl) (by kernel_rfl) (by kernel_rfl) (fun _ _ _ h => h) (by kernel_rfl) ?hy1 (by assumption) ?r1
      case hy1 => (intro W hSw; obtain ⟨s1, s2, s3, s4⟩ := hSw; obtain ⟨a0, a1, af⟩ := cells2 s1; obtain ⟨b0, b1, bf⟩ := cells2 s2; go_simp; try with_reducible rfl)
      simp only [Act.put, List.setIfInBounds_toArray, List.set_cons_zero, List.set_cons_succ]
      refine takeD 1 35 (v := ?v2) rfl rfl (by kernel_rfl) (by kernel_rfl) (by kernel_rfl) (fun _ _ _ h => h) (by kernel_rfl) ?hy2 (by assumption) ?r2
      case hy2 => (intro W hSw; obtain ⟨s1, s2, s3, s4⟩ := hSw; obtain ⟨a0, a1, af⟩ := cells2 s1; obtain ⟨b0, b1, bf⟩ := cells2 s2; go_simp; try with_reducible rfl)
      simp only [Act.put, List.setIfInBounds_toArray, List.set_cons_zero, List.set_cons_succ]
      refine takeD 2 36 (v := ?v3) rfl rfl (by kernel_rfl) (by kernel_rfl) (by kernel_rfl) (fun _ _ _ h => h) (by kernel_rfl) ?hy3 (by assumption) ?r3
      case hy3 => (intro W hSw; obtain ⟨s1, s2, s3, s4⟩ := hSw; obtain ⟨a0, a1, af⟩ := cells2 s1; obtain ⟨b0, b1, bf⟩ := cells2 s2; go_simp; try with_reducible rfl)
      simp only [Act.put, List.setIfInBounds_toArray, List.set_cons_zero, List.set_cons_succ]
      refine takeD 3 37 (v := ?v4) rfl rfl (by kernel_rfl) (by kernel_rfl) (by kernel_rfl) (fun _ _ _ h => h) (by kernel_rfl) ?hy4 (by assumption) ?r4
      case hy4 => (intro W hSw; obtain ⟨s1, s2, s3, s4⟩ := hSw; obtain ⟨a0, a1, af⟩ := cells2 s1; obtain ⟨b0, b1, bf⟩ := cells2 s2; go_simp; try with_reducible rfl)
      simp only [Act.put, List.setIfInBounds_toArray, List.set_cons_zero, List.set_cons_succ]
      refine takeD 4 38 (v := ?v5) rfl rfl (by kernel_rfl) (by kernel_rfl) (by kernel_rfl) (fun _ _ _ h => h) (by kernel_rfl) ?hy5 (by assumption) ?r5
      case hy5 => (intro W hSw; obtain ⟨s1, s2, s3, s4⟩ := hSw; obtain ⟨a0, a1, af⟩ := cells2 s1; obtain ⟨b0, b1, bf⟩ := cells2 s2; go_simp; try with_reducible rfl)
      simp only [Act.put, List.setIfInBounds_toArray, List.set_cons_zero, List.set_cons_succ]
      refine takeD 5 39 (v := ?v6) rfl rfl (by kernel_rfl) (by kernel_rfl) (by kernel_rfl) (fun _ _ _ h => h) (by kernel_rfl) ?hy6 (by assumption) ?r6
      case hy6 => (intro W hSw; obtain ⟨s1, s2, s3, s4⟩ := hSw; obtain ⟨a0, a1, af⟩ := cells2 s1; obtain ⟨b0, b1, bf⟩ := cells2 s2; go_simp; try with_reducible rfl)
      simp only [Act.put, List.setIfInBounds_toArray, List.set_cons_zero, List.set_cons_succ]
      refine takeD 6 40 (v := ?v7) rfl rfl (by kernel_rfl) (by kernel_rfl) (by kernel_rfl) (fun _ _ _ h => h) (by kernel_rfl) ?hy7 (by assumption) ?r7
      case hy7 => (intro W hSw; obtain ⟨s1, s2, s3, s4⟩ := hSw; obtain ⟨a0, a1, af⟩ := cells2 s1; obtain ⟨b0, b1, bf⟩ := cells2 s2; go_simp; try with_reducible rfl)
      simp only [Act.put, List.setIfInBounds_toArray, List.set_cons_zero, List.set_cons_succ]
      refine takeD 7 41 (v := ?v8) rfl rfl (by kernel_rfl) (by kernel_rfl) (by kernel_rfl) (fun _ _ _ h => h) (by kernel_rfl) ?hy8 (by assumption) ?r8
      case hy8 => (intro W hSw; obtain ⟨s1, s2, s3, s4⟩ := hSw; obtain ⟨a0, a1, af⟩ := cells2 s1; obtain ⟨b0, b1, bf⟩ := cells2 s2; go_simp; try with_reducible rfl)
      simp only [Act.put, List.setIfInBounds_toArray, List.set_cons_zero, List.set_cons_succ]
      refine takeD 8 42 (v := ?v9) rfl rfl (by kernel_rfl) (by kernel_rfl) (by kernel_rfl) (fun _ _ _ h => h) (by kernel_rfl) ?hy9 (by assumption) ?r9
      case hy9 => (intro W hSw; obtain ⟨s1, s2, s3, s4⟩ := hSw; obtain ⟨a0, a1, af⟩ := cells2 s1; obtain ⟨b0, b1, bf⟩ := cells2 s2; go_simp; try with_reducible rfl)
      simp only [Act.put, List.setIfInBounds_toArray, List.set_cons_zero, List.set_cons_succ]
      refine takeD 9 43 (v := ?v10) rfl rfl (by kernel_rfl) (by kernel_rfl) (by kernel_rfl) (fun _ _ _ h => h) (by kernel_rfl) ?hy10 (by assumption) ?r10
      case hy10 => (intro W hSw; obtain ⟨s1, s2, s3, s4⟩ := hSw; obtain ⟨a0, a1, af⟩ := cells2 s1; obtain ⟨b0, b1, bf⟩ := cells2 s2; go_simp; try with_reducible rfl)
      simp only [Act.put, List.setIfInBounds_toArray, List.set_cons_zero, List.set_cons_succ]
      refine takeD 10 44 (v := ?v11) rfl rfl (by kernel_rfl) (by kernel_rfl) (by kernel_rfl) (fun _ _ _ h => h) (by kernel_rfl) ?hy11 (by assumption) ?r11
      case hy11 => (intro W hSw; obtain ⟨s1, s2, s3, s4⟩ := hSw; obtain ⟨a0, a1, af⟩ := cells2 s1; obtain ⟨b0, b1, bf⟩ := cells2 s2; go_simp; try with_reducible rfl)
      simp only [Act.put, List.setIfInBounds_toArray, List.set_cons_zero, List.set_cons_succ]
      refine takeD 11 45 (v := ?v12) rfl rfl (by kernel_rfl) (by kernel_rfl) (by kernel_rfl) (fun _ _ _ h => h) (by kernel_rfl) ?hy12 (by assumption) ?r12
      case hy12 => (intro W hSw; obtain ⟨s1, s2, s3, s4⟩ := hSw; obtain ⟨a0, a1, af⟩ := cells2 s1; obtain ⟨b0, b1, bf⟩ := cells2 s2; go_simp; try with_reducible rfl)
      simp only [Act.put, List.setIfInBounds_toArray, List.set_cons_zero, List.set_cons_succ]
      refine takeD 12 46 (v := ?v13) rfl rfl (by kernel_rfl) (by kernel_rfl) (by kernel_rfl) (fun _ _ _ h => h) (by kernel_rfl) ?hy13 (by assumption) ?r13
      case hy13 => (intro W hSw; obtain ⟨s1, s2, s3, s4⟩ := hSw; obtain ⟨a0, a1, af⟩ := cells2 s1; obtain ⟨b0, b1, bf⟩ := cells2 s2; go_simp; try with_reducible rfl)
      simp only [Act.put, List.setIfInBounds_toArray, List.set_cons_zero, List.set_cons_succ]
      refine takeD 13 47 (v := ?v14) rfl rfl (by kernel_rfl) (by kernel_rfl) (by kernel_rfl) (fun _ _ _ h => h) (by kernel_rfl) ?hy14 (by assumption) ?r14
      case hy14 => (intro W hSw; obtain ⟨s1, s2, s3, s4⟩ := hSw; obtain ⟨a0, a1, af⟩ := cells2 s1; obtain ⟨b0, b1, bf⟩ := cells2 s2; go_simp; try with_reducible rfl)
      simp only [Act.put, List.setIfInBounds_toArray, List.set_cons_zero, List.set_cons_succ]
      refine takeD 14 48 (v := ?v15) rfl rfl (by kernel_rfl) (by kernel_rfl) (by kernel_rfl) (fun _ _ _ h => h) (by kernel_rfl) ?hy15 (by assumption) ?r15
      case hy15 => (intro W hSw; obtain ⟨s1, s2, s3, s4⟩ := hSw; obtain ⟨a0, a1, af⟩ := cells2 s1; obtain ⟨b0, b1, bf⟩ := cells2 s2; go_simp; try with_reducible rfl)
      simp only [Act.put, List.setIfInBounds_toArray, List.set_cons_zero, List.set_cons_succ]
      refine wpAnyH_ready (rs := [15]) (by kernel_rfl) (by simp) ?_
      refine AllReadyH.cons (o := _) rfl (fun K hK => ?_) AllReadyH.nil
      have hcd : wr.drew.cell? ⟨e, m, none⟩ = _ := HC.out.2.2.1
      have hfd : wr.drew.frozen? ⟨e, m, none⟩ = false := HC.out.2.2.2
      have HS2 : Hid ((wr.drew.setCell ⟨e, m, none⟩ (.string t)).cell? ⟨cb, off + k * 2, none⟩ = some (.int .i64 (m : Int)) ∧ (wr.drew.setCell ⟨e, m, none⟩ (.string t)).cell? ⟨cb, off + k * 2 + 1, none⟩ = some (.string t)) := by
        have ho := fun o => World.cell?_setCell_other wr.drew ⟨e, m, none⟩ ⟨cb, o, none⟩ (.string t) (fun e' => by have : e = cb := congrArg Addr.block e'; omega)
        exact ⟨(ho _).trans HC.out.1, (ho _).trans HC.out.2.1⟩
      go_simp
      refine hK.out _ _ ⟨GN.out.par, GN.out.var, HS2.out⟩ (fun hS2 => ?_)
      clear hK K hcd hfd HC HS2 hS1 hS2
      refine wpAnyH_done (by kernel_rfl) ?_ _
      refine NoPanic.normal ?_
      generalize (wr.setCell ⟨e, m, none⟩ (.string t)).drew = W9 at *
      clear x0 x1 xf G
      go_wp2
      go_roundw
      case rel => exact ⟨k + 1, by omega, by go_num, GN⟩
      case measure => simp [intOf]; omega
    · obtain rfl : k = cs.length := by omega
      have G9 := G
      obtain ⟨g0, g1, gf⟩ := cells2 G9.out.var
      obtain ⟨y0, y1, yf⟩ := cells2 G9.out.res
      clear G
      go_wp2
      exact bodyPost_ret (v := .agg #[.slice ao ss.length cap, .slice none 0 0]) (resDisk Try.results55 _ _ (w.heap.size + 1) _ _ rfl (set2 G9.out.res)) rfl ⟨_, rfl, G9.out.out⟩
end Go.Proofs.Ytmladjahkhhpkaa

/-
  Contract: the specification's flush: all writes done one behind the other, in a row of their own.
-/
namespace Go.Proofs.Ytmladjahkhhpkaa
open Go.RowKit
set_option maxRecDepth 100000

set_option maxHeartbeats 8000000 in
theorem l07Flush_all (b : Nat) (s c : Value) (d : Dk) (w : World) (hR : dkRight d = true) (hf : dkFits d) (hin : dkIn d) (h : OwnD b s c d w) :
    Calls Try.prog 55 #[.agg #[s, c], .slice none 0 0, .bool true] w fun e w' => ∃ v, e = .returned (.agg #[v, .slice none 0 0]) ∧ OwnS w.heap.size v (flushL d.secs d.cache) w' ∧ Below w.heap.size w w' := by
  obtain ⟨i0, hi, hz0, hz1, hz2⟩ := info_parts Try.infoStr'
  obtain ⟨so, p, co, q, rfl, rfl, hrow⟩ := h.row hin
  have hx := dkRight_cache hR
  obtain ⟨ss, cs⟩ := d
  simp only at *
  have HX := hide hx
  have HR := hide hrow.2.2
  have hls : ss.length ≤ 1048576 := hf.1
  have hlc : cs.length ≤ 1048576 := hf.2
  have HBS : Hid (0 + ss.length ≤ maxLen ∧ (0 + ss.length) * 16 ≤ 140737488355328) := by show _ ∧ _; unfold maxLen; omega
  have HSN := hide (fun k (n : Int) (t : ByteArray) (hk : k < cs.length) (hv : cs.getD k noWr = ⟨n, t⟩) => show flushL ss (cs.take (k + 1)) = (flushL ss (cs.take k)).set n.toNat t ∧ 0 ≤ n ∧ n < (ss.length : Int) by
    rw [List.getD_eq_getElem?_getD, List.getElem?_eq_getElem hk] at hv
    simp only [Option.getD_some] at hv
    refine ⟨by rw [List.take_succ_eq_append_getElem hk, flushL_snoc, hv], ?_, ?_⟩
    · have := (HX.out _ (List.getElem_mem hk)).1; rw [hv] at this; exact this
    · have := (HX.out _ (List.getElem_mem hk)).2.1; rw [hv] at this; exact this)
  have HLN := hide (fun k => flushL_len (cs.take k) ss)
  have h0 := two_allocs w (.cells #[.slice so ss.length p, .slice co cs.length q] 25) (.cells #[.slice none 0 0, .slice none 0 0] 25)
  have B0 := ((Below.refl w.heap.size w).alloc (Nat.le_refl _) (.cells #[.slice so ss.length p, .slice co cs.length q] 25)).alloc (by simp) (.cells #[.slice none 0 0, .slice none 0 0] 25)
  have N0 : (((w.alloc (.cells #[.slice so ss.length p, .slice co cs.length q] 25)).alloc (.cells #[.slice none 0 0, .slice none 0 0] 25)).alloc (.cells #[] 9)).heap[w.heap.size + 2]? = some (.cells #[] 9 (0, 0)) := by
    have h := heap_alloc_new ((w.alloc (.cells #[.slice so ss.length p, .slice co cs.length q] 25)).alloc (.cells #[.slice none 0 0, .slice none 0 0] 25)) (.cells #[] 9)
    rw [h0.2.2] at h
    exact h
  have X1 := hide ((heap_old ((w.alloc (.cells #[.slice so ss.length p, .slice co cs.length q] 25)).alloc (.cells #[.slice none 0 0, .slice none 0 0] 25)) (.cells #[] 9) w.heap.size (by rw [h0.2.2]; omega)).trans h0.1)
  have R1 := hide ((heap_old ((w.alloc (.cells #[.slice so ss.length p, .slice co cs.length q] 25)).alloc (.cells #[.slice none 0 0, .slice none 0 0] 25)) (.cells #[] 9) (w.heap.size + 1) (by rw [h0.2.2]; omega)).trans h0.2.1)
  have B1 := hide (B0.alloc B0.size (.cells #[] 9))
  have E1 := hide (own_empty (size := 1) N0 (Nat.le_refl (w.heap.size + 2)))
  have Z1 : Hid (w.heap.size + 2 ≤ (((w.alloc (.cells #[.slice so ss.length p, .slice co cs.length q] 25)).alloc (.cells #[.slice none 0 0, .slice none 0 0] 25)).alloc (.cells #[] 9)).heap.size) := by have := blk_lt' N0; show _ ≤ _; omega
  have SRC := hide (owns_below h.secs B1.out)
  clear h h0 B0 N0 hrow hx HX hf hin hR
  go_enter Try.func55, Try.ntmps55
  go_wp2_with (at_builtin; refine wpList_app_own rfl _ _ 22 rfl (w.heap.size + 2) b 9 i0 (.string ⟨#[]⟩) 1 16 Try.underlying22 hi hz0 hz1 hz2 rfl (by decide) (.slice (some ⟨w.heap.size + 2, 0, none⟩) 0 0) 0 [] rfl E1.out (.slice so ss.length p) _ _ rfl SRC.out (strsV_one _) HBS.out.1 HBS.out.2 Z1.out ?_; intro v5 w5 o5 g5 l5; have O5 : Hid (OwnS (w.heap.size + 2) v5 ss w5) := (by show OwnS _ _ _ _; simpa [OwnS] using o5); obtain ⟨ao, cap, hv5⟩ := ownS_shape O5.out; subst hv5; clear o5 l5)
  have X5 := hide ((g5.block _ (blk_lt' X1.out) (fun e => by have := Option.some.inj (show some w.heap.size = some (w.heap.size + 2) from e); omega)).trans X1.out)
  have R5 := hide ((g5.block _ (blk_lt' R1.out) (fun e => by have := Option.some.inj (show some (w.heap.size + 1) = some (w.heap.size + 2) from e); omega)).trans R1.out)
  have B5 := hide (B1.out.grown g5 B1.out.size (fun j hj => by have := Option.some.inj (show some (w.heap.size + 2) = some j from hj); omega))
  clear g5
  have F5 := hide (FI.start2 (c := .slice none 0 0) B5.out X5.out R5.out O5.out)
  clear X1 R1 B1 E1 Z1 SRC X5 R5 B5 O5 HBS
  go_loopw [8] (fun i wr => ∃ k : Nat, k ≤ cs.length ∧ i = .int .i64 k ∧ Hid (FI w #[.slice so ss.length p, .slice co cs.length q] (.slice ao ss.length cap) (.slice none 0 0) w5.heap.size (flushL ss (cs.take k)) wr)) (fun i _ => cs.length - (intOf i).toNat)
  case atStart => exact ⟨0, Nat.zero_le _, rfl, by simpa [flushL] using F5⟩
  case round =>
    obtain ⟨k, hk, rfl, G⟩ := hrel
    clear F5
    obtain ⟨x0, x1, xf⟩ := cells2 G.out.par
    by_cases hlt : k < cs.length
    · obtain ⟨cb, off, n, t, rfl, hbB, hv, htt, hki, d0, d1⟩ := (HR.out.kept G.out.below).at k hlt
      obtain ⟨hS, hn0, hn1⟩ := HSN.out k n t hlt hv
      obtain ⟨m, rfl⟩ : ∃ m : Nat, n = (m : Int) := ⟨n.toNat, by omega⟩
      have hm : m < ss.length := by omega
      obtain ⟨e, rfl, he, heg, hef, hec⟩ := G.out.cell (by rw [HLN.out k]; omega)
      have hcm := hec m (by rw [HLN.out k]; exact hm)
      generalize w5.heap.size = g at *
      rw [show ((m : Int)).toNat = m from by omega] at hS
      have GN : Hid (FI w #[.slice so ss.length p, .slice (some ⟨cb, off, none⟩) cs.length q] (.slice (some ⟨e, 0, none⟩) ss.length cap) (.slice none 0 0) g (flushL ss (cs.take (k + 1))) (wr.setCell ⟨e, m, none⟩ (.string t)).drew) := by rw [hS]; exact (G.out.put (HLN.out k).symm m t he).drew
      have HC := hide (And.intro d0 (And.intro d1 (And.intro hcm (hef m))))
      clear hS hn0 hn1 hv htt hki hec hcm d0 d1 hef
      go_wp2
      refine wp_region_noPanic ?_
      refine wp_region_held_drew (S := fun W => W.heap[w.heap.size]? = some (.cells #[.slice so ss.length p, .slice (some ⟨cb, off, none⟩) cs.length q] 25 (0, 0)) ∧ W.heap[g]? = some (.cells #[.slice (some ⟨e, 0, none⟩) ss.length cap, .slice none 0 0] 25 (0, 0)) ∧ W.cell? ⟨cb, off + k * 2, none⟩ = some (.int .i64 (m : Int)) ∧ W.cell? ⟨cb, off + k * 2 + 1, none⟩ = some (.string t)) (by kernel_rfl) ⟨G.out.par, G.out.var, HC.out.1, HC.out.2.1⟩ (fun hS1 => ?_)
      refine takeD 0 34 (v := ?v1) rfl rfl (by kernel_rfl) (by kernel_rfl) (by kernel_rfl) (fun _ _ _ h => h) (by kernel_rfl) ?hy1 (by assumption) ?r1
      case hy1 => (intro W hSw; obtain ⟨s1, s2, s3, s4⟩ := hSw; obtain ⟨a0, a1, af⟩ := cells2 s1; obtain ⟨b0, b1, bf⟩ := cells2 s2; go_simp; try with_reducible rfl)
      simp only [Act.put, List.setIfInBounds_toArray, List.set_cons_zero, List.set_cons_succ]
      refine takeD 1 35 (v := ?v2) rfl rfl (by kernel_rfl) (by kernel_rfl) (by kernel_rfl) (fun _ _ _ h => h) (by kernel_rfl) ?hy2 (by assumption) ?r2
      case hy2 => (intro W hSw; obtain ⟨s1, s2, s3, s4⟩ := hSw; obtain ⟨a0, a1, af⟩ := cells2 s1; obtain ⟨b0, b1, bf⟩ := cells2 s2; go_simp; try with_reducible rfl)
      simp only [Act.put, List.setIfInBounds_toArray, List.set_cons_zero, List.set_cons_succ]
      refine takeD 2 36 (v := ?v3) rfl rfl (by kernel_rfl) (by kernel_rfl) (by kernel_rfl) (fun _ _ _ h => h) (by kernel_rfl) ?hy3 (by assumption) ?r3
      case hy3 => (intro W hSw; obtain ⟨s1, s2, s3, s4⟩ := hSw; obtain ⟨a0, a1, af⟩ := cells2 s1; obtain ⟨b0, b1, bf⟩ := cells2 s2; go_simp; try with_reducible rfl)
      simp only [Act.put, List.setIfInBounds_toArray, List.set_cons_zero, List.set_cons_succ]
      refine takeD 3 37 (v := ?v4) rfl rfl (by kernel_rfl) (by kernel_rfl) (by kernel_rfl) (fun _ _ _ h => h) (by kernel_rfl) ?hy4 (by assumption) ?r4
      case hy4 => (intro W hSw; obtain ⟨s1, s2, s3, s4⟩ := hSw; obtain ⟨a0, a1, af⟩ := cells2 s1; obtain ⟨b0, b1, bf⟩ := cells2 s2; go_simp; try with_reducible rfl)
      simp only [Act.put, List.setIfInBounds_toArray, List.set_cons_zero, List.set_cons_succ]
      refine takeD 4 38 (v := ?v5) rfl rfl (by kernel_rfl) (by kernel_rfl) (by kernel_rfl) (fun _ _ _ h => h) (by kernel_rfl) ?hy5 (by assumption) ?r5
      case hy5 => (intro W hSw; obtain ⟨s1, s2, s3, s4⟩ := hSw; obtain ⟨a0, a1, af⟩ := cells2 s1; obtain ⟨b0, b1, bf⟩ := cells2 s2; go_simp; try with_reducible rfl)
      simp only [Act.put, List.setIfInBounds_toArray, List.set_cons_zero, List.set_cons_succ]
      refine takeD 5 39 (v := ?v6) rfl rfl (by kernel_rfl) (by kernel_rfl) (by kernel_rfl) (fun _ _ _ h => h) (by kernel_rfl) ?hy6 (by assumption) ?r6
      case hy6 => (intro W hSw; obtain ⟨s1, s2, s3, s4⟩ := hSw; obtain ⟨a0, a1, af⟩ := cells2 s1; obtain ⟨b0, b1, bf⟩ := cells2 s2; go_simp; try with_reducible rfl)
      simp only [Act.put, List.setIfInBounds_toArray, List.set_cons_zero, List.set_cons_succ]
      refine takeD 6 40 (v := ?v7) rfl rfl (by kernel_rfl) (by kernel_rfl) (by kernel_rfl) (fun _ _ _ h => h) (by kernel_rfl) ?hy7 (by assumption) ?r7
      case hy7 => (intro W hSw; obtain ⟨s1, s2, s3, s4⟩ := hSw; obtain ⟨a0, a1, af⟩ := cells2 s1; obtain ⟨b0, b1, bf⟩ := cells2 s2; go_simp; try with_reducible rfl)
      simp only [Act.put, List.setIfInBounds_toArray, List.set_cons_zero, List.set_cons_succ]
      refine takeD 7 41 (v := ?v8) rfl rfl (by kernel_rfl) (by kernel_rfl) (by kernel_rfl) (fun _ _ _ h => h) (by kernel_rfl) ?hy8 (by assumption) ?r8
      case hy8 => (intro W hSw; obtain ⟨s1, s2, s3, s4⟩ := hSw; obtain ⟨a0, a1, af⟩ := cells2 s1; obtain ⟨b0, b1, bf⟩ := cells2 s2; go_simp; try with_reducible rfl)
      simp only [Act.put, List.setIfInBounds_toArray, List.set_cons_zero, List.set_cons_succ]
      refine takeD 8 42 (v := ?v9) rfl rfl (by kernel_rfl) (by kernel_rfl) (by kernel_rfl) (fun _ _ _ h => h) (by kernel_rfl) ?hy9 (by assumption) ?r9
      case hy9 => (intro W hSw; obtain ⟨s1, s2, s3, s4⟩ := hSw; obtain ⟨a0, a1, af⟩ := cells2 s1; obtain ⟨b0, b1, bf⟩ := cells2 s2; go_simp; try with_reducible rfl)
      simp only [Act.put, List.setIfInBounds_toArray, List.set_cons_zero, List.set_cons_succ]
      refine takeD 9 43 (v := ?v10) rfl rfl (by kernel_rfl) (by kernel_rfl) (by kernel_rfl) (fun _ _ _ h => h) (by kernel_rfl) ?hy10 (by assumption) ?r10
      case hy10 => (intro W hSw; obtain ⟨s1, s2, s3, s4⟩ := hSw; obtain ⟨a0, a1, af⟩ := cells2 s1; obtain ⟨b0, b1, bf⟩ := cells2 s2; go_simp; try with_reducible rfl)
      simp only [Act.put, List.setIfInBounds_toArray, List.set_cons_zero, List.set_cons_succ]
      refine takeD 10 44 (v := ?v11) rfl rfl (by kernel_rfl) (by kernel_rfl) (by kernel_rfl) (fun _ _ _ h => h) (by kernel_rfl) ?hy11 (by assumption) ?r11
      case hy11 => (intro W hSw; obtain ⟨s1, s2, s3, s4⟩ := hSw; obtain ⟨a0, a1, af⟩ := cells2 s1; obtain ⟨b0, b1, bf⟩ := cells2 s2; go_simp; try with_reducible rfl)
      simp only [Act.put, List.setIfInBounds_toArray, List.set_cons_zero, List.set_cons_succ]
      refine takeD 11 45 (v := ?v12) rfl rfl (by kernel_rfl) (by kernel_rfl) (by kernel_rfl) (fun _ _ _ h => h) (by kernel_rfl) ?hy12 (by assumption) ?r12
      case hy12 => (intro W hSw; obtain ⟨s1, s2, s3, s4⟩ := hSw; obtain ⟨a0, a1, af⟩ := cells2 s1; obtain ⟨b0, b1, bf⟩ := cells2 s2; go_simp; try with_reducible rfl)
      simp only [Act.put, List.setIfInBounds_toArray, List.set_cons_zero, List.set_cons_succ]
      refine takeD 12 46 (v := ?v13) rfl rfl (by kernel_rfl) (by kernel_rfl) (by kernel_rfl) (fun _ _ _ h => h) (by kernel_rfl) ?hy13 (by assumption) ?r13
      case hy13 => (intro W hSw; obtain ⟨s1, s2, s3, s4⟩ := hSw; obtain ⟨a0, a1, af⟩ := cells2 s1; obtain ⟨b0, b1, bf⟩ := cells2 s2; go_simp; try with_reducible rfl)
      simp only [Act.put, List.setIfInBounds_toArray, List.set_cons_zero, List.set_cons_succ]
      refine takeD 13 47 (v := ?v14) rfl rfl (by kernel_rfl) (by kernel_rfl) (by kernel_rfl) (fun _ _ _ h => h) (by kernel_rfl) ?hy14 (by assumption) ?r14
      case hy14 => (intro W hSw; obtain ⟨s1, s2, s3, s4⟩ := hSw; obtain ⟨a0, a1, af⟩ := cells2 s1; obtain ⟨b0, b1, bf⟩ := cells2 s2; go_simp; try with_reducible rfl)
      simp only [Act.put, List.setIfInBounds_toArray, List.set_cons_zero, List.set_cons_succ]
      refine takeD 14 48 (v := ?v15) rfl rfl (by kernel_rfl) (by kernel_rfl) (by kernel_rfl) (fun _ _ _ h => h) (by kernel_rfl) ?hy15 (by assumption) ?r15
      case hy15 => (intro W hSw; obtain ⟨s1, s2, s3, s4⟩ := hSw; obtain ⟨a0, a1, af⟩ := cells2 s1; obtain ⟨b0, b1, bf⟩ := cells2 s2; go_simp; try with_reducible rfl)
      simp only [Act.put, List.setIfInBounds_toArray, List.set_cons_zero, List.set_cons_succ]
      refine wpAnyH_ready (rs := [15]) (by kernel_rfl) (by simp) ?_
      refine AllReadyH.cons (o := _) rfl (fun K hK => ?_) AllReadyH.nil
      have hcd : wr.drew.cell? ⟨e, m, none⟩ = _ := HC.out.2.2.1
      have hfd : wr.drew.frozen? ⟨e, m, none⟩ = false := HC.out.2.2.2
      have HS2 : Hid ((wr.drew.setCell ⟨e, m, none⟩ (.string t)).cell? ⟨cb, off + k * 2, none⟩ = some (.int .i64 (m : Int)) ∧ (wr.drew.setCell ⟨e, m, none⟩ (.string t)).cell? ⟨cb, off + k * 2 + 1, none⟩ = some (.string t)) := by
        have ho := fun o => World.cell?_setCell_other wr.drew ⟨e, m, none⟩ ⟨cb, o, none⟩ (.string t) (fun e' => by have : e = cb := congrArg Addr.block e'; omega)
        exact ⟨(ho _).trans HC.out.1, (ho _).trans HC.out.2.1⟩
      go_simp
      refine hK.out _ _ ⟨GN.out.par, GN.out.var, HS2.out⟩ (fun hS2 => ?_)
      clear hK K hcd hfd HC HS2 hS1 hS2
      refine wpAnyH_done (by kernel_rfl) ?_ _
      refine NoPanic.normal ?_
      generalize (wr.setCell ⟨e, m, none⟩ (.string t)).drew = W9 at *
      clear x0 x1 xf G
      go_wp2
      go_roundw
      case rel => exact ⟨k + 1, by omega, by go_num, GN⟩
      case measure => simp [intOf]; omega
    · obtain rfl : k = cs.length := by omega
      have G9 := G
      rw [List.take_length] at G9
      obtain ⟨g0, g1, gf⟩ := cells2 G9.out.var
      obtain ⟨y0, y1, yf⟩ := cells2 G9.out.res
      clear G
      go_wp2
      exact bodyPost_ret (v := .agg #[.slice ao ss.length cap, .slice none 0 0]) (resDisk Try.results55 _ _ (w.heap.size + 1) _ _ rfl (set2 G9.out.res)) rfl ⟨_, rfl, G9.out.out⟩
end Go.Proofs.Ytmladjahkhhpkaa

/-
  Contract: the specification's copy of a disk lies in rows of its own.
-/
namespace Go.Proofs.Ytmladjahkhhpkaa
open Go.RowKit
set_option maxRecDepth 100000

set_option maxHeartbeats 8000000 in
theorem l07Copy_own (b : Nat) (s c : Value) (d : Dk) (w : World) (hf : dkFits d) (h : OwnD b s c d w) :
    Calls Try.prog 54 #[.agg #[s, c]] w fun e w' => ∃ s' c', e = .returned (.agg #[s', c']) ∧ OwnD w.heap.size s' c' d w' ∧ Below w.heap.size w w' := by
  obtain ⟨i0, hi, hz0, hz1, hz2⟩ := info_parts Try.infoStr'
  obtain ⟨j0, hj, hy0, hy1, hy2⟩ := info_parts Try.infoWr
  obtain ⟨so, p, co, q, rfl, rfl⟩ := h.shape
  obtain ⟨ss, cs⟩ := d
  simp only at *
  have SRC := hide (And.intro h.secs h.cache)
  have HBS : Hid (0 + ss.length ≤ maxLen ∧ (0 + ss.length) * 16 ≤ 140737488355328) := by have := hf.1; simp only at this; show _ ∧ _; unfold maxLen; omega
  have HBW : Hid (0 + cs.length ≤ maxLen ∧ (0 + cs.length) * 24 ≤ 140737488355328) := by have := hf.2; simp only at this; show _ ∧ _; unfold maxLen; omega
  have C0 := hide (CI.start w (.slice so ss.length p) (.slice co cs.length q))
  clear h hf
  go_enter Try.func54, Try.ntmps54
  go_wp2
  have C1 := hide C0.out.drew
  clear C0
  generalize (w.alloc (.cells #[.slice so ss.length p, .slice co cs.length q] 25)).alloc (.cells #[.slice none 0 0, .slice none 0 0] 25) = W0 at *
  refine wp_region_noPanic ?_
  refine wp_region_held_drew (S := fun W => W.heap[w.heap.size]? = some (.cells #[.slice so ss.length p, .slice co cs.length q] 25 (0, 0))) (by kernel_rfl) C1.out.par (fun hS1 => ?_)
  generalize W0.drew = W1 at *
  refine takeD 1 4 (v := ?v1) rfl rfl (by kernel_rfl) (by kernel_rfl) (by kernel_rfl) (fun _ _ _ h => h) (by kernel_rfl) ?hy1 (by assumption) ?r1
  case hy1 => (intro W hSw; obtain ⟨x0, x1, xf⟩ := cells2 (hSw); go_simp; try with_reducible rfl)
  simp only [Act.put, List.setIfInBounds_toArray, List.set_cons_zero, List.set_cons_succ]
  refine takeD 2 5 (v := ?v2) rfl rfl (by kernel_rfl) (by kernel_rfl) (by kernel_rfl) (fun _ _ _ h => h) (by kernel_rfl) ?hy2 (by assumption) ?r2
  case hy2 => (intro W hSw; obtain ⟨x0, x1, xf⟩ := cells2 (hSw); go_simp; try with_reducible rfl)
  simp only [Act.put, List.setIfInBounds_toArray, List.set_cons_zero, List.set_cons_succ]
  refine takeD 5 8 (v := ?v3) rfl rfl (by kernel_rfl) (by kernel_rfl) (by kernel_rfl) (fun _ _ _ h => h) (by kernel_rfl) ?hy3 (by assumption) ?r3
  case hy3 => (intro W hSw; obtain ⟨x0, x1, xf⟩ := cells2 (hSw); go_simp; try with_reducible rfl)
  simp only [Act.put, List.setIfInBounds_toArray, List.set_cons_zero, List.set_cons_succ]
  refine takeD 6 9 (v := ?v4) rfl rfl (by kernel_rfl) (by kernel_rfl) (by kernel_rfl) (fun _ _ _ h => h) (by kernel_rfl) ?hy4 (by assumption) ?r4
  case hy4 => (intro W hSw; obtain ⟨x0, x1, xf⟩ := cells2 (hSw); go_simp; try with_reducible rfl)
  simp only [Act.put, List.setIfInBounds_toArray, List.set_cons_zero, List.set_cons_succ]
  refine wpAnyH_ready (rs := [0, 4]) (by kernel_rfl) (by simp) ?_
  refine AllReadyH.cons (o := _) rfl (fun K hK => ?_) (AllReadyH.cons (o := _) rfl (fun K hK => ?_) AllReadyH.nil)
  · skip
    go_simp
    have C2 := hide (C1.out.buildS)
    refine hK.out _ _ C2.out.par (fun hS2 => ?_)
    clear hK K
    generalize W1.alloc (.cells #[] 9) = W2 at *
    generalize W1.heap.size = e2 at *
    try simp only [Act.put, List.setIfInBounds_toArray, List.set_cons_zero, List.set_cons_succ]
    refine wpAnyH_ready (rs := [3, 4]) (by kernel_rfl) (by simp) ?_
    refine AllReadyH.cons (o := _) rfl (fun K hK => ?_) (AllReadyH.cons (o := _) rfl (fun K hK => ?_) AllReadyH.nil)
    · skip
      refine step_app_own rfl (.tmp 3) (.tmp 5) 22 rfl (w.heap.size + 2) b 9 i0 (.string ⟨#[]⟩) 1 16 Try.underlying22 hi hz0 hz1 hz2 rfl (by decide) _ 0 [] rfl C2.out.secs _ _ _ rfl (owns_below SRC.out.1 C2.out.below) (strsV_one _) HBS.out.1 HBS.out.2 C2.out.lt ?_
      intro v3 W3 o3 g3 l3
      have C3 := hide (C2.out.appS o3 g3 l3)
      clear o3 g3 l3
      refine hK.out _ _ C3.out.par (fun hS3 => ?_)
      clear hK K
      simp only [List.getElem_toArray, List.getElem_cons_succ, List.getElem_cons_zero, Act.put, List.setIfInBounds_toArray, List.set_cons_zero, List.set_cons_succ]
      refine wpAnyH_ready (rs := [4]) (by kernel_rfl) (by simp) ?_
      refine AllReadyH.cons (o := _) rfl (fun K hK => ?_) AllReadyH.nil
      · skip
        go_simp
        have C4 := hide (C3.out.buildW)
        refine hK.out _ _ C4.out.par (fun hS4 => ?_)
        clear hK K
        generalize W3.alloc (.cells #[] 64) = W4 at *
        generalize W3.heap.size = e4 at *
        try simp only [Act.put, List.setIfInBounds_toArray, List.set_cons_zero, List.set_cons_succ]
        refine wpAnyH_ready (rs := [7]) (by kernel_rfl) (by simp) ?_
        refine AllReadyH.cons (o := _) rfl (fun K hK => ?_) AllReadyH.nil
        · skip
          refine step_app_own rfl (.tmp 7) (.tmp 9) 23 rfl (w.heap.size + 2) b 64 j0 (.agg #[.int .i64 0, .string ⟨#[]⟩]) 2 24 Try.underlying23 hj hy0 hy1 hy2 rfl (by decide) _ 0 [] rfl C4.out.cache _ _ _ rfl (owns_below SRC.out.2 C4.out.below) (flatW_one _) HBW.out.1 HBW.out.2 C4.out.lt ?_
          intro v5 W5 o5 g5 l5
          have C5 := hide (C4.out.appW o5 g5 l5)
          clear o5 g5 l5
          refine hK.out _ _ C5.out.par (fun hS5 => ?_)
          clear hK K
          simp only [List.getElem_toArray, List.getElem_cons_succ, List.getElem_cons_zero, Act.put, List.setIfInBounds_toArray, List.set_cons_zero, List.set_cons_succ]
          obtain ⟨so', p', hs'⟩ := ownS_shape C5.out.secs
          obtain ⟨co', q', hc'⟩ := ownW_shape C5.out.cache
          subst hs' hc'
          refine takeD 8 11 (v := ?v5) rfl rfl (by kernel_rfl) (by kernel_rfl) (by kernel_rfl) (fun _ _ _ h => h) (by kernel_rfl) ?hy5 (by assumption) ?r5
          case hy5 => (intro W hSw; go_simp; try with_reducible rfl)
          simp only [Act.put, List.setIfInBounds_toArray, List.set_cons_zero, List.set_cons_succ]
          refine wpAnyH_ready (rs := [9]) (by kernel_rfl) (by simp) ?_
          refine AllReadyH.cons (o := _) rfl (fun K hK => ?_) AllReadyH.nil
          obtain ⟨y0, y1, yf⟩ := cells2 C5.out.res
          go_simp
          refine hK.out _ _ C5.out.par2 (fun hS => ?_)
          clear hK K
          refine wpAnyH_done (by kernel_rfl) ?_ _
          refine NoPanic.normal ?_
          go_wp2
          exact bodyPost_ret (v := .agg #[.slice so' ss.length p', .slice co' cs.length q']) (resDisk Try.results54 _ _ (w.heap.size + 1) _ _ rfl (set2 C5.out.res)) rfl ⟨_, _, rfl, C5.out.out2.1, C5.out.out2.2⟩
    · skip
      go_simp
      have C3 := hide (C2.out.buildW)
      refine hK.out _ _ C3.out.par (fun hS3 => ?_)
      clear hK K
      generalize W2.alloc (.cells #[] 64) = W3 at *
      generalize W2.heap.size = e3 at *
      try simp only [Act.put, List.setIfInBounds_toArray, List.set_cons_zero, List.set_cons_succ]
      refine wpAnyH_ready (rs := [3]) (by kernel_rfl) (by simp) ?_
      refine AllReadyH.cons (o := _) rfl (fun K hK => ?_) AllReadyH.nil
      · skip
        refine step_app_own rfl (.tmp 3) (.tmp 5) 22 rfl (w.heap.size + 2) b 9 i0 (.string ⟨#[]⟩) 1 16 Try.underlying22 hi hz0 hz1 hz2 rfl (by decide) _ 0 [] rfl C3.out.secs _ _ _ rfl (owns_below SRC.out.1 C3.out.below) (strsV_one _) HBS.out.1 HBS.out.2 C3.out.lt ?_
        intro v4 W4 o4 g4 l4
        have C4 := hide (C3.out.appS o4 g4 l4)
        clear o4 g4 l4
        refine hK.out _ _ C4.out.par (fun hS4 => ?_)
        clear hK K
        simp only [List.getElem_toArray, List.getElem_cons_succ, List.getElem_cons_zero, Act.put, List.setIfInBounds_toArray, List.set_cons_zero, List.set_cons_succ]
        refine wpAnyH_ready (rs := [7]) (by kernel_rfl) (by simp) ?_
        refine AllReadyH.cons (o := _) rfl (fun K hK => ?_) AllReadyH.nil
        · skip
          refine step_app_own rfl (.tmp 7) (.tmp 9) 23 rfl (w.heap.size + 2) b 64 j0 (.agg #[.int .i64 0, .string ⟨#[]⟩]) 2 24 Try.underlying23 hj hy0 hy1 hy2 rfl (by decide) _ 0 [] rfl C4.out.cache _ _ _ rfl (owns_below SRC.out.2 C4.out.below) (flatW_one _) HBW.out.1 HBW.out.2 C4.out.lt ?_
          intro v5 W5 o5 g5 l5
          have C5 := hide (C4.out.appW o5 g5 l5)
          clear o5 g5 l5
          refine hK.out _ _ C5.out.par (fun hS5 => ?_)
          clear hK K
          simp only [List.getElem_toArray, List.getElem_cons_succ, List.getElem_cons_zero, Act.put, List.setIfInBounds_toArray, List.set_cons_zero, List.set_cons_succ]
          obtain ⟨so', p', hs'⟩ := ownS_shape C5.out.secs
          obtain ⟨co', q', hc'⟩ := ownW_shape C5.out.cache
          subst hs' hc'
          refine takeD 8 11 (v := ?v6) rfl rfl (by kernel_rfl) (by kernel_rfl) (by kernel_rfl) (fun _ _ _ h => h) (by kernel_rfl) ?hy6 (by assumption) ?r6
          case hy6 => (intro W hSw; go_simp; try with_reducible rfl)
          simp only [Act.put, List.setIfInBounds_toArray, List.set_cons_zero, List.set_cons_succ]
          refine wpAnyH_ready (rs := [9]) (by kernel_rfl) (by simp) ?_
          refine AllReadyH.cons (o := _) rfl (fun K hK => ?_) AllReadyH.nil
          obtain ⟨y0, y1, yf⟩ := cells2 C5.out.res
          go_simp
          refine hK.out _ _ C5.out.par2 (fun hS => ?_)
          clear hK K
          refine wpAnyH_done (by kernel_rfl) ?_ _
          refine NoPanic.normal ?_
          go_wp2
          exact bodyPost_ret (v := .agg #[.slice so' ss.length p', .slice co' cs.length q']) (resDisk Try.results54 _ _ (w.heap.size + 1) _ _ rfl (set2 C5.out.res)) rfl ⟨_, _, rfl, C5.out.out2.1, C5.out.out2.2⟩
  · skip
    go_simp
    have C2 := hide (C1.out.buildW)
    refine hK.out _ _ C2.out.par (fun hS2 => ?_)
    clear hK K
    generalize W1.alloc (.cells #[] 64) = W2 at *
    generalize W1.heap.size = e2 at *
    try simp only [Act.put, List.setIfInBounds_toArray, List.set_cons_zero, List.set_cons_succ]
    refine wpAnyH_ready (rs := [0]) (by kernel_rfl) (by simp) ?_
    refine AllReadyH.cons (o := _) rfl (fun K hK => ?_) AllReadyH.nil
    · skip
      go_simp
      have C3 := hide (C2.out.buildS)
      refine hK.out _ _ C3.out.par (fun hS3 => ?_)
      clear hK K
      generalize W2.alloc (.cells #[] 9) = W3 at *
      generalize W2.heap.size = e3 at *
      try simp only [Act.put, List.setIfInBounds_toArray, List.set_cons_zero, List.set_cons_succ]
      refine wpAnyH_ready (rs := [3]) (by kernel_rfl) (by simp) ?_
      refine AllReadyH.cons (o := _) rfl (fun K hK => ?_) AllReadyH.nil
      · skip
        refine step_app_own rfl (.tmp 3) (.tmp 5) 22 rfl (w.heap.size + 2) b 9 i0 (.string ⟨#[]⟩) 1 16 Try.underlying22 hi hz0 hz1 hz2 rfl (by decide) _ 0 [] rfl C3.out.secs _ _ _ rfl (owns_below SRC.out.1 C3.out.below) (strsV_one _) HBS.out.1 HBS.out.2 C3.out.lt ?_
        intro v4 W4 o4 g4 l4
        have C4 := hide (C3.out.appS o4 g4 l4)
        clear o4 g4 l4
        refine hK.out _ _ C4.out.par (fun hS4 => ?_)
        clear hK K
        simp only [List.getElem_toArray, List.getElem_cons_succ, List.getElem_cons_zero, Act.put, List.setIfInBounds_toArray, List.set_cons_zero, List.set_cons_succ]
        refine wpAnyH_ready (rs := [7]) (by kernel_rfl) (by simp) ?_
        refine AllReadyH.cons (o := _) rfl (fun K hK => ?_) AllReadyH.nil
        · skip
          refine step_app_own rfl (.tmp 7) (.tmp 9) 23 rfl (w.heap.size + 2) b 64 j0 (.agg #[.int .i64 0, .string ⟨#[]⟩]) 2 24 Try.underlying23 hj hy0 hy1 hy2 rfl (by decide) _ 0 [] rfl C4.out.cache _ _ _ rfl (owns_below SRC.out.2 C4.out.below) (flatW_one _) HBW.out.1 HBW.out.2 C4.out.lt ?_
          intro v5 W5 o5 g5 l5
          have C5 := hide (C4.out.appW o5 g5 l5)
          clear o5 g5 l5
          refine hK.out _ _ C5.out.par (fun hS5 => ?_)
          clear hK K
          simp only [List.getElem_toArray, List.getElem_cons_succ, List.getElem_cons_zero, Act.put, List.setIfInBounds_toArray, List.set_cons_zero, List.set_cons_succ]
          obtain ⟨so', p', hs'⟩ := ownS_shape C5.out.secs
          obtain ⟨co', q', hc'⟩ := ownW_shape C5.out.cache
          subst hs' hc'
          refine takeD 8 11 (v := ?v7) rfl rfl (by kernel_rfl) (by kernel_rfl) (by kernel_rfl) (fun _ _ _ h => h) (by kernel_rfl) ?hy7 (by assumption) ?r7
          case hy7 => (intro W hSw; go_simp; try with_reducible rfl)
          simp only [Act.put, List.setIfInBounds_toArray, List.set_cons_zero, List.set_cons_succ]
          refine wpAnyH_ready (rs := [9]) (by kernel_rfl) (by simp) ?_
          refine AllReadyH.cons (o := _) rfl (fun K hK => ?_) AllReadyH.nil
          obtain ⟨y0, y1, yf⟩ := cells2 C5.out.res
          go_simp
          refine hK.out _ _ C5.out.par2 (fun hS => ?_)
          clear hK K
          refine wpAnyH_done (by kernel_rfl) ?_ _
          refine NoPanic.normal ?_
          go_wp2
          exact bodyPost_ret (v := .agg #[.slice so' ss.length p', .slice co' cs.length q']) (resDisk Try.results54 _ _ (w.heap.size + 1) _ _ rfl (set2 C5.out.res)) rfl ⟨_, _, rfl, C5.out.out2.1, C5.out.out2.2⟩
end Go.Proofs.Ytmladjahkhhpkaa

/-
  What a write to a disk comes to. Plain facts.
-/
namespace Go.Proofs.Ytmladjahkhhpkaa
open Go.RowKit
set_option maxRecDepth 100000

def dkWrite (d : Dk) (a : Int) (t : ByteArray) : Dk × Int :=
  if 20000 < t.size then (⟨[], []⟩, 2) else if dkRight d = false then (⟨[], []⟩, 1) else if a < 0 ∨ (d.secs.length : Int) - (many t : Int) < a then (⟨[], []⟩, 9)
  else if 400 < d.cache.length + many t then (⟨[], []⟩, 11) else (⟨d.secs, d.cache ++ wrsOf a t (many t)⟩, 0)
theorem dkWrite_2 {d : Dk} {a : Int} {t : ByteArray} (h : 20000 < t.size) : dkWrite d a t = (⟨[], []⟩, 2) := if_pos h
theorem dkWrite_1 {d : Dk} {a : Int} {t : ByteArray} (h : ¬ 20000 < t.size) (hr : dkRight d = false) : dkWrite d a t = (⟨[], []⟩, 1) := by unfold dkWrite; rw [if_neg h, if_pos hr]
theorem dkWrite_9 {d : Dk} {a : Int} {t : ByteArray} (h : ¬ 20000 < t.size) (hr : dkRight d = true) (h9 : a < 0 ∨ (d.secs.length : Int) - (many t : Int) < a) : dkWrite d a t = (⟨[], []⟩, 9) := by unfold dkWrite; rw [if_neg h, if_neg (by rw [hr]; simp), if_pos h9]
theorem dkWrite_11 {d : Dk} {a : Int} {t : ByteArray} (h : ¬ 20000 < t.size) (hr : dkRight d = true) (h9 : ¬ (a < 0 ∨ (d.secs.length : Int) - (many t : Int) < a)) (hf : 400 < d.cache.length + many t) : dkWrite d a t = (⟨[], []⟩, 11) := by unfold dkWrite; rw [if_neg h, if_neg (by rw [hr]; simp), if_neg h9, if_pos hf]
theorem dkWrite_0 {d : Dk} {a : Int} {t : ByteArray} (h : ¬ 20000 < t.size) (hr : dkRight d = true) (h9 : ¬ (a < 0 ∨ (d.secs.length : Int) - (many t : Int) < a)) (hf : ¬ 400 < d.cache.length + many t) : dkWrite d a t = (⟨d.secs, d.cache ++ wrsOf a t (many t)⟩, 0) := by unfold dkWrite; rw [if_neg h, if_neg (by rw [hr]; simp), if_neg h9, if_neg hf]
theorem dkRight_bounds {d : Dk} (h : dkRight d = true) : d.secs.length ≤ 700 ∧ d.cache.length ≤ 400 := by
  unfold dkRight at h
  simp only [Bool.and_eq_true, decide_eq_true_eq] at h
  exact ⟨h.1.1.1, h.1.1.2⟩
theorem ownD_emp (base : Nat) (w : World) : OwnD base (.slice none 0 0) (.slice none 0 0) ⟨[], []⟩ w := ⟨ownS_nil _ _, ownW_nil _ _, .inl rfl⟩
theorem resOut {fn : Func} {p : Tmp} (h : fn.results = #[.cell p 38]) (tmps : Array Value) (w : World) (g : Nat) (a b c d : Value) (hp : tmps.getD p undef = .pointer (some ⟨g, 0, none⟩))
    (hg : w.heap[g]? = some (.cells #[a, b, c, d] 38 (0, 0))) : (results fn tmps).run Try.prog w = .ok (.agg #[a, b, c, d]) w :=
  results_cell_row h tmps w g 38 #[a, b, c, d] (0, 0) _ hp hg Try.underlying38 rfl (by kernel_rfl)
theorem set4w {W : World} {g : Nat} {a b c d x y z u : Value} {t : TypeId} (h : W.heap[g]? = some (.cells #[a, b, c, d] t (0, 0))) :
    ((((W.setCell ⟨g, 0, none⟩ x).setCell ⟨g, 1, none⟩ y).setCell ⟨g, 2, none⟩ z).setCell ⟨g, 3, none⟩ u).heap[g]? = some (.cells #[x, y, z, u] t (0, 0)) := by
  have h1 := heap_setCell_same W g 0 _ t x h
  have h2 := heap_setCell_same _ g 1 _ t y h1
  have h3 := heap_setCell_same _ g 2 _ t z h2
  have h4 := heap_setCell_same _ g 3 _ t u h3
  simpa using h4
end Go.Proofs.Ytmladjahkhhpkaa

/-
  Contract: is a disk right? The specification's answer.
-/
namespace Go.Proofs.Ytmladjahkhhpkaa
open Go.RowKit
set_option maxRecDepth 100000

set_option maxHeartbeats 4000000 in
theorem specDiskRight_any (A B : Nat) (so : Option Addr) (p : Nat) (co : Option Addr) (q : Nat) (d : Dk) (w : World) (hB : B ≤ w.heap.size) (hr : DkRow w A B so co d) :
    Calls Try.prog 15 #[.agg #[.slice so d.secs.length p, .slice co d.cache.length q]] w fun e w' => e = .returned (.bool (dkRight d)) ∧ Below w.heap.size w w' := by
  have HL := hide (fun h => dkRight_long (d := d) h)
  have HSN := hide (fun k (x : ByteArray) (hk : k < d.secs.length) (hv : d.secs.getD k ByteArray.empty = x) (hx : ¬ x.size = 64) => dkRight_sec hk (by rw [secOk_of hv]; simpa using hx))
  have HSY := hide (fun k (x : ByteArray) (h : upto (secOk d) k = true) (hv : d.secs.getD k ByteArray.empty = x) (hx : x.size = 64) => upto_next h (by rw [secOk_of hv]; simpa using hx))
  have HWN := hide (fun k (n : Int) (t : ByteArray) (hk : k < d.cache.length) (hv : d.cache.getD k noWr = ⟨n, t⟩) (hx : n < 0 ∨ (d.secs.length : Int) ≤ n ∨ ¬ t.size = 64) => dkRight_wr hk (by rw [wrOk_of hv]; rcases hx with h | h | h <;> simp <;> omega))
  have HWY := hide (fun k (n : Int) (t : ByteArray) (h : upto (wrOk d) k = true) (hv : d.cache.getD k noWr = ⟨n, t⟩) (h0 : 0 ≤ n) (h1 : n < (d.secs.length : Int)) (hx : t.size = 64) => upto_next h (by rw [wrOk_of hv]; simp [h0, h1, hx]))
  have HYES := hide (fun h1 h2 h3 h4 => dkRight_yes (d := d) h1 h2 h3 h4)
  have HU1 : Hid (upto (secOk d) 0 = true) := rfl
  have HU2 : Hid (upto (wrOk d) 0 = true) := rfl
  generalize dkRight d = R at *
  generalize secOk d = SO at *
  generalize wrOk d = WO at *
  obtain ⟨ss, cs⟩ := d
  obtain ⟨⟨hl1, hl2⟩, hs, hc⟩ := hr
  simp only at *
  have HS := hide hs
  have HC := hide hc
  clear hs hc
  unfold maxLen at hl1 hl2
  have B0 := hide ((Below.refl w.heap.size w).alloc (Nat.le_refl _) (.cells #[.slice so ss.length p, .slice co cs.length q] 25))
  have X0 := hide (heap_alloc_new w (.cells #[.slice so ss.length p, .slice co cs.length q] 25))
  by_cases hlong : 700 < ss.length ∨ 400 < cs.length
  · have HF := hide (HL.out hlong)
    clear HSN HSY HWN HWY HYES HL HU1 HU2 X0
    rcases hlong with h | h
    · go_enter Try.func15, Try.ntmps15
      go_wp2
      go_ret
      exact ⟨ret_bool HF.out.symm, B0.out⟩
    · by_cases h1 : 700 < ss.length
      · go_enter Try.func15, Try.ntmps15
        go_wp2
        go_ret
        exact ⟨ret_bool HF.out.symm, B0.out⟩
      · go_enter Try.func15, Try.ntmps15
        go_wp2
        go_ret
        exact ⟨ret_bool HF.out.symm, B0.out⟩
  · have h1 : ¬ 700 < ss.length := by omega
    have h2 : ¬ 400 < cs.length := by omega
    clear hlong HL
    go_enter Try.func15, Try.ntmps15
    go_wp2
    have Z0 : Hid ((w.alloc (.cells #[.slice so ss.length p, .slice co cs.length q] 25)).heap.size = w.heap.size + 1) := by show _ = _; simp
    generalize w.alloc (.cells #[.slice so ss.length p, .slice co cs.length q] 25) = W0 at *
    obtain ⟨x0, x1, xf⟩ := cells2 X0.out
    go_loop [3] (fun i => ∃ k : Nat, k ≤ ss.length ∧ i = .int .i64 k ∧ Hid (upto SO k = true)) (fun i => ss.length - (intOf i).toNat)
    case atStart => exact ⟨0, Nat.zero_le _, rfl, HU1⟩
    case round =>
      obtain ⟨k, hk, rfl, HU⟩ := hrel
      by_cases hlt : k < ss.length
      · obtain ⟨b, off, x, rfl, hbB, hv, hx, d0⟩ := (HS.out.kept (B0.out.mono hB)).at k hlt
        unfold maxLen at hx
        by_cases h64 : x.size = 64
        · have HU2' := hide (HSY.out k x HU.out hv h64)
          have h64' : (x.size : Int) = 64 := by omega
          clear hv HSN HSY HWN HWY HYES HU HU1 HU2 h64
          go_wp2
          go_round
          case rel => exact ⟨k + 1, by omega, by go_num, HU2'⟩
          case measure => simp [intOf]; omega
        · have HF := hide (HSN.out k x hlt hv h64)
          have h64' : ¬ (x.size : Int) = 64 := by omega
          clear hv HSN HSY HWN HWY HYES HU HU1 HU2 h64
          go_wp2
          go_ret
          exact ⟨ret_bool HF.out.symm, B0.out⟩
      · obtain rfl : k = ss.length := by omega
        have HUS := HU
        clear HU HSN HSY HU1 HS
        go_wp2
        go_loopw [4] (fun i wr => ∃ k : Nat, k ≤ cs.length ∧ i = .int .i64 k ∧ Hid (upto WO k = true) ∧ Below W0.heap.size W0 wr) (fun i _ => cs.length - (intOf i).toNat)
        case atStart => exact ⟨0, Nat.zero_le _, rfl, HU2, Below.refl _ _⟩
        case round =>
          obtain ⟨k, hk, rfl, HU, hb⟩ := hrel
          have X1 := hide ((hb.block w.heap.size (by rw [Z0.out]; omega)).trans X0.out)
          have B1 := hide (B0.out.trans (hb.mono B0.out.size))
          obtain ⟨x0, x1, xf⟩ := cells2 X1.out
          by_cases hlt : k < cs.length
          · obtain ⟨b, off, nn, tt, rfl, hbB, hv, htt, hki, d0, d1⟩ := (HC.out.kept (B1.out.mono hB)).at k hlt
            have hq1 : b < wr.heap.size := by have := B1.out.size; omega
            have hz1 : w.heap.size < wr.heap.size := by have := hb.size; have := Z0.out; omega
            unfold maxLen at htt
            unfold wI64 at hki
            have B2 := hide ((hb.alloc hb.size (.cells #[.int .i64 nn, .string tt] 64)))
            have B3 := hide (B0.out.trans (B2.out.mono B0.out.size))
            by_cases hbad : nn < 0 ∨ (ss.length : Int) ≤ nn ∨ ¬ tt.size = 64
            · have HF := hide (HWN.out k nn tt hlt hv hbad)
              clear hv HWN HWY HYES HU HU2 B1 hb B2 HUS
              by_cases h0 : nn < 0
              · go_wp2
                go_ret
                exact ⟨ret_bool HF.out.symm, B3.out⟩
              by_cases h1' : (ss.length : Int) ≤ nn
              · go_wp2
                go_ret
                exact ⟨ret_bool HF.out.symm, B3.out⟩
              · have h64 : ¬ (tt.size : Int) = 64 := by omega
                clear hbad
                go_wp2
                go_ret
                exact ⟨ret_bool HF.out.symm, B3.out⟩
            · have h0 : ¬ nn < 0 := by omega
              have h1' : ¬ (ss.length : Int) ≤ nn := by omega
              have h64 : (tt.size : Int) = 64 := by omega
              have HU3 := hide (HWY.out k nn tt HU.out hv (by omega) (by omega) (by omega))
              clear hv HWN HWY HYES HU HU2 B1 hb B3 HUS hbad
              go_wp2
              go_roundw
              case rel => exact ⟨k + 1, by omega, by go_num, HU3, B2.out⟩
              case measure => simp [intOf]; omega
          · obtain rfl : k = cs.length := by omega
            have HF := hide (HYES.out (by omega) (by omega) HUS.out HU.out)
            clear HWN HWY HYES HU HU2 hb HUS
            go_wp2
            go_ret
            exact ⟨ret_bool HF.out.symm, B1.out⟩
end Go.Proofs.Ytmladjahkhhpkaa

/-
  Contract: DiskFlush of the specification.
-/
namespace Go.Proofs.Ytmladjahkhhpkaa
open Go.RowKit
set_option maxRecDepth 100000

def dkFlush (d : Dk) : Dk := if dkRight d = true then ⟨flushL d.secs d.cache, []⟩ else d
theorem dkFlush_n {d : Dk} (h : dkRight d = false) : dkFlush d = d := by unfold dkFlush; rw [if_neg (by rw [h]; simp)]
theorem dkFlush_y {d : Dk} (h : dkRight d = true) : dkFlush d = ⟨flushL d.secs d.cache, []⟩ := by unfold dkFlush; rw [if_pos h]
theorem dkFlush_fits {d : Dk} (h : dkFits d) : dkFits (dkFlush d) := by
  unfold dkFlush
  split
  · exact ⟨by simpa [flushL_len] using h.1, by simp⟩
  · exact h
set_option maxHeartbeats 8000000 in
theorem specDiskFlush_any (b : Nat) (s c : Value) (d : Dk) (w : World) (hi : dkIn d) (hf : dkFits d) (h : OwnD b s c d w) :
    Calls Try.prog 25 #[.agg #[s, c]] w fun e w' => ∃ s' c', e = .returned (.agg #[s', c']) ∧ OwnD w.heap.size s' c' (dkFlush d) w' ∧ Below w.heap.size w w' := by
  obtain ⟨so, p, co, q, rfl, rfl, hr⟩ := h.row hi
  obtain ⟨n1, hn1⟩ : ∃ n, n = d.secs.length := ⟨_, rfl⟩
  obtain ⟨n2, hn2⟩ : ∃ n, n = d.cache.length := ⟨_, rfl⟩
  have HA := two_allocs w (.cells #[.slice so n1 p, .slice co n2 q] 25) (.cells #[.slice none 0 0, .slice none 0 0] 25)
  have B0 := hide (((Below.refl w.heap.size w).alloc (Nat.le_refl _) (.cells #[.slice so n1 p, .slice co n2 q] 25)).alloc (by simp) (.cells #[.slice none 0 0, .slice none 0 0] 25))
  have X0 := hide HA.1
  have Y0 := hide HA.2.1
  have HSP := hide (fun (W : World) (hb : Below w.heap.size w W) => specDiskRight_any _ _ so p co q d W hb.size (hr.kept hb))
  rw [← hn1, ← hn2] at h HSP ⊢
  obtain ⟨x0, x1, xf⟩ := cells2 X0.out
  clear HA
  cases hdr : dkRight d with
  | false =>
    rw [dkFlush_n hdr]
    rw [hdr] at HSP
    have HC := hide (fun (W : World) (hb : Below w.heap.size w W) => l07Copy_own _ _ _ d W hf (h.below hb))
    clear hi hf h hr hdr hn1 hn2
    go_enter Try.func25, Try.ntmps25
    go_wp2_with (first | (go_at_call 15; refine (HSP.out _ B0.out).mono ?_; rintro e w1 ⟨rfl, b1⟩; have Y1 := hide ((b1.block (w.heap.size + 1) (by simp)).trans Y0.out); have X1 := hide ((b1.block w.heap.size (by simp; omega)).trans X0.out); have B1 := hide (B0.out.trans (b1.mono B0.out.size)); clear x0 x1 xf; obtain ⟨x0, x1, xf⟩ := cells2 X1.out; clear b1) | (go_at_call 54; refine (HC.out _ B1.out).mono ?_; rintro e w2 ⟨s2, c2, rfl, o2, b2⟩; have Y2 := hide ((b2.block (w.heap.size + 1) (blk_lt' Y1.out)).trans Y1.out); have B2 := hide (B1.out.trans (b2.mono B1.out.size)); have O2 := hide (o2.base (show w.heap.size + 2 ≤ _ from blk_lt' Y1.out)); obtain ⟨so2, p2, co2, q2, rfl, rfl⟩ := o2.shape; obtain ⟨y0, y1, yf⟩ := cells2 Y2.out; clear b2 o2))
    refine bodyPost_ret (v := .agg #[.slice so2 d.secs.length p2, .slice co2 d.cache.length q2]) (resDisk Try.results25 _ _ (w.heap.size + 1) _ _ rfl (set2 Y2.out)) rfl ⟨_, _, rfl, ?_, ?_⟩
    · exact ((O2.out.set (by omega)).set (by omega)).base (by omega)
    · exact (B2.out.setCell (by simp) _).setCell (by simp) _
  | true =>
    rw [dkFlush_y hdr]
    rw [hdr] at HSP
    have HC := hide (fun (W : World) (hb : Below w.heap.size w W) => l07Flush_all _ _ _ d W hdr hf hi (h.below hb))
    generalize flushL d.secs d.cache = fl at *
    clear hi hf h hr hdr hn1 hn2
    go_enter Try.func25, Try.ntmps25
    go_wp2_with (first | (go_at_call 15; refine (HSP.out _ B0.out).mono ?_; rintro e w1 ⟨rfl, b1⟩; have Y1 := hide ((b1.block (w.heap.size + 1) (by simp)).trans Y0.out); have X1 := hide ((b1.block w.heap.size (by simp; omega)).trans X0.out); have B1 := hide (B0.out.trans (b1.mono B0.out.size)); clear x0 x1 xf; obtain ⟨x0, x1, xf⟩ := cells2 X1.out; clear b1) | (go_at_call 55; refine (HC.out _ B1.out).mono ?_; rintro e w2 ⟨v2, rfl, o2, b2⟩; have Y2 := hide ((b2.block (w.heap.size + 1) (blk_lt' Y1.out)).trans Y1.out); have B2 := hide (B1.out.trans (b2.mono B1.out.size)); have O2 := hide (owns_base o2 (show w.heap.size + 2 ≤ _ from blk_lt' Y1.out)); obtain ⟨so2, p2, rfl⟩ := ownS_shape o2; obtain ⟨y0, y1, yf⟩ := cells2 Y2.out; clear b2 o2))
    refine bodyPost_ret (v := .agg #[.slice so2 fl.length p2, .slice none 0 0]) (resDisk Try.results25 _ _ (w.heap.size + 1) _ _ rfl (set2 Y2.out)) rfl ⟨_, _, rfl, ⟨owns_base (own_set (own_set O2.out (by omega)) (by omega)) (by omega), ownW_nil _ _, ?_⟩, ?_⟩
    · cases so2 with
      | none => exact .inl rfl
      | some x => exact .inr (by simp [Value.ownBlock])
    · exact (B2.out.setCell (by simp) _).setCell (by simp) _
end Go.Proofs.Ytmladjahkhhpkaa

/-
  Contract: DiskCrash of the specification.
-/
namespace Go.Proofs.Ytmladjahkhhpkaa
open Go.RowKit
set_option maxRecDepth 100000

def dkCrash (d : Dk) (kl : List Bool) : Dk := if 400 < kl.length then ⟨[], []⟩ else if dkRight d = true then ⟨flushL d.secs (keptN d.cache kl d.cache.length), []⟩ else d
theorem dkCrash_l {d : Dk} {kl : List Bool} (h : 400 < kl.length) : dkCrash d kl = ⟨[], []⟩ := by unfold dkCrash; rw [if_pos h]
theorem dkCrash_n {d : Dk} {kl : List Bool} (hl : ¬ 400 < kl.length) (h : dkRight d = false) : dkCrash d kl = d := by unfold dkCrash; rw [if_neg hl, if_neg (by rw [h]; simp)]
theorem dkCrash_y {d : Dk} {kl : List Bool} (hl : ¬ 400 < kl.length) (h : dkRight d = true) : dkCrash d kl = ⟨flushL d.secs (keptN d.cache kl d.cache.length), []⟩ := by unfold dkCrash; rw [if_neg hl, if_pos h]
theorem dkCrash_fits {d : Dk} (kl : List Bool) (h : dkFits d) : dkFits (dkCrash d kl) := by
  unfold dkCrash
  split
  · exact ⟨by simp, by simp⟩
  · split
    · exact ⟨by simpa [flushL_len] using h.1, by simp⟩
    · exact h
set_option maxHeartbeats 8000000 in
theorem specDiskCrash_any (b b2 : Nat) (s c kv : Value) (d : Dk) (kl : List Bool) (w : World) (hi : dkIn d) (hf : dkFits d) (hkm : kl.length ≤ 1048576) (h : OwnD b s c d w) (hkv : OwnL b2 kv kl w) :
    Calls Try.prog 27 #[.agg #[s, c], kv] w fun e w' => ∃ s' c', e = .returned (.agg #[s', c']) ∧ OwnD w.heap.size s' c' (dkCrash d kl) w' ∧ Below w.heap.size w w' := by
  obtain ⟨so, p, co, q, rfl, rfl, hr⟩ := h.row hi
  obtain ⟨ko, kr, rfl, _⟩ := ownL_shape hkv
  obtain ⟨n1, hn1⟩ : ∃ n, n = d.secs.length := ⟨_, rfl⟩
  obtain ⟨n2, hn2⟩ : ∃ n, n = d.cache.length := ⟨_, rfl⟩
  have HA := two_allocs w (.cells #[.slice so n1 p, .slice co n2 q] 25) (.cells #[.slice none 0 0, .slice none 0 0] 25)
  have B0 := hide (((Below.refl w.heap.size w).alloc (Nat.le_refl _) (.cells #[.slice so n1 p, .slice co n2 q] 25)).alloc (by simp) (.cells #[.slice none 0 0, .slice none 0 0] 25))
  have X0 := hide HA.1
  have Y0 := hide HA.2.1
  have HSP := hide (fun (W : World) (hb : Below w.heap.size w W) => specDiskRight_any _ _ so p co q d W hb.size (hr.kept hb))
  rw [← hn1, ← hn2] at h HSP ⊢
  obtain ⟨x0, x1, xf⟩ := cells2 X0.out
  clear HA
  by_cases hl : 400 < kl.length
  · rw [dkCrash_l hl]
    obtain ⟨y0, y1, yf⟩ := cells2 Y0.out
    clear hi hf h hr hn1 hn2 HSP hkv x0 x1 xf
    go_enter Try.func27, Try.ntmps27
    go_wp2
    refine bodyPost_ret (v := .agg #[.slice none 0 0, .slice none 0 0]) (resDisk Try.results27 _ _ (w.heap.size + 1) _ _ rfl Y0.out) rfl ⟨_, _, rfl, ownD_emp _ _, B0.out⟩
  · cases hdr : dkRight d with
    | false =>
      rw [dkCrash_n hl hdr]
      rw [hdr] at HSP
      have HC := hide (fun (W : World) (hb : Below w.heap.size w W) => l07Copy_own _ _ _ d W hf (h.below hb))
      clear hi hf h hr hdr hn1 hn2 hkv
      go_enter Try.func27, Try.ntmps27
      go_wp2_with (first | (go_at_call 15; refine (HSP.out _ B0.out).mono ?_; rintro e w1 ⟨rfl, b1⟩; have Y1 := hide ((b1.block (w.heap.size + 1) (by simp)).trans Y0.out); have X1 := hide ((b1.block w.heap.size (by simp; omega)).trans X0.out); have B1 := hide (B0.out.trans (b1.mono B0.out.size)); clear x0 x1 xf; obtain ⟨x0, x1, xf⟩ := cells2 X1.out; clear b1) | (go_at_call 54; refine (HC.out _ B1.out).mono ?_; rintro e w2 ⟨s2, c2, rfl, o2, b2⟩; have Y2 := hide ((b2.block (w.heap.size + 1) (blk_lt' Y1.out)).trans Y1.out); have B2 := hide (B1.out.trans (b2.mono B1.out.size)); have O2 := hide (o2.base (show w.heap.size + 2 ≤ _ from blk_lt' Y1.out)); obtain ⟨so2, p2, co2, q2, rfl, rfl⟩ := o2.shape; obtain ⟨y0, y1, yf⟩ := cells2 Y2.out; clear b2 o2))
      refine bodyPost_ret (v := .agg #[.slice so2 d.secs.length p2, .slice co2 d.cache.length q2]) (resDisk Try.results27 _ _ (w.heap.size + 1) _ _ rfl (set2 Y2.out)) rfl ⟨_, _, rfl, ?_, ?_⟩
      · exact ((O2.out.set (by omega)).set (by omega)).base (by omega)
      · exact (B2.out.setCell (by simp) _).setCell (by simp) _
    | true =>
      rw [dkCrash_y hl hdr]
      rw [hdr] at HSP
      have HC := hide (fun (W : World) (hb : Below w.heap.size w W) => l07Flush_keep _ _ _ _ _ d kl W hdr hf hi (h.below hb) (owns_below hkv hb))
      generalize flushL d.secs (keptN d.cache kl d.cache.length) = fl at *
      clear hi hf h hr hdr hn1 hn2 hkv
      go_enter Try.func27, Try.ntmps27
      go_wp2_with (first | (go_at_call 15; refine (HSP.out _ B0.out).mono ?_; rintro e w1 ⟨rfl, b1⟩; have Y1 := hide ((b1.block (w.heap.size + 1) (by simp)).trans Y0.out); have X1 := hide ((b1.block w.heap.size (by simp; omega)).trans X0.out); have B1 := hide (B0.out.trans (b1.mono B0.out.size)); clear x0 x1 xf; obtain ⟨x0, x1, xf⟩ := cells2 X1.out; clear b1) | (go_at_call 55; refine (HC.out _ B1.out).mono ?_; rintro e w2 ⟨v2, rfl, o2, b2⟩; have Y2 := hide ((b2.block (w.heap.size + 1) (blk_lt' Y1.out)).trans Y1.out); have B2 := hide (B1.out.trans (b2.mono B1.out.size)); have O2 := hide (owns_base o2 (show w.heap.size + 2 ≤ _ from blk_lt' Y1.out)); obtain ⟨so2, p2, rfl⟩ := ownS_shape o2; obtain ⟨y0, y1, yf⟩ := cells2 Y2.out; clear b2 o2))
      refine bodyPost_ret (v := .agg #[.slice so2 fl.length p2, .slice none 0 0]) (resDisk Try.results27 _ _ (w.heap.size + 1) _ _ rfl (set2 Y2.out)) rfl ⟨_, _, rfl, ⟨owns_base (own_set (own_set O2.out (by omega)) (by omega)) (by omega), ownW_nil _ _, ?_⟩, ?_⟩
      · cases so2 with
        | none => exact .inl rfl
        | some x => exact .inr (by simp [Value.ownBlock])
      · exact (B2.out.setCell (by simp) _).setCell (by simp) _
end Go.Proofs.Ytmladjahkhhpkaa

/-
  A flush by the program under way. Plain facts.
-/
namespace Go.Proofs.Ytmladjahkhhpkaa
open Go.RowKit
set_option maxRecDepth 100000

structure EI (w : World) (X : Array Value) (v c : Value) (g : Nat) (dv : Value) (bm gd n : Nat) (D : DataW Unit) (l : List ByteArray) (W : World) : Prop where
  fi : FI w X v c g l W
  drv : W.heap[gd]? = some (.cells #[dv, .map (some bm)] 75 (0, 0))
  map : W.ownsMap Try.prog 2 secR bm n D
  far : ∀ b, v.ownBlock = some b → b < bm ∧ b < gd
section
variable {w W W' : World} {X : Array Value} {v c dv : Value} {g e cap n bm gd m : Nat} {l : List ByteArray} {D : DataW Unit}
theorem EI.keep (h : EI w X v c g dv bm gd n D l W) (hb : Below W.heap.size W W') : EI w X v c g dv bm gd n D l W' :=
  ⟨h.fi.keep hb, (hb.block _ (blk_lt' h.drv)).trans h.drv, ownsMap_below h.map hb, h.far⟩
theorem EI.drew (h : EI w X v c g dv bm gd n D l W) : EI w X v c g dv bm gd n D l W.drew := h.keep (Below.refl _ _).drew
theorem EI.put (h : EI w X (.slice (some ⟨e, 0, none⟩) m cap) c g dv bm gd n D l W) (hn : m = l.length) (k : Nat) (x : ByteArray) (he : w.heap.size + 2 ≤ e) : EI w X (.slice (some ⟨e, 0, none⟩) m cap) c g dv bm gd n D (l.set k x) (W.setCell ⟨e, k, none⟩ (.string x)) := by
  have hf := h.far e rfl
  exact ⟨h.fi.put hn k x he, by rw [heap_far _ _ _ _ _ (by omega)]; exact h.drv, h.map.setCell (by simp; omega) _, h.far⟩
end
def mixL (fl ss : List ByteArray) (k : Nat) : List ByteArray := fl.take k ++ ss.drop k
theorem mixL_len {fl ss : List ByteArray} (h : fl.length = ss.length) {k : Nat} (hk : k ≤ ss.length) : (mixL fl ss k).length = ss.length := by
  simp [mixL, h]; omega
theorem mixL_next {fl ss : List ByteArray} (h : fl.length = ss.length) {k : Nat} (hk : k < ss.length) : mixL fl ss (k + 1) = (mixL fl ss k).set k (fl.getD k ByteArray.empty) := by
  unfold mixL
  rw [List.set_append_right _ _ (by simp; omega)]
  have hlen : (fl.take k).length = k := by simp; omega
  rw [hlen, Nat.sub_self, List.drop_eq_getElem_cons hk, List.set_cons_zero, List.getD_eq_getElem?_getD, List.getElem?_eq_getElem (by omega), Option.getD_some, List.take_succ_eq_append_getElem (by omega), List.append_assoc]
  rfl
theorem mixL_same {fl ss : List ByteArray} (h : fl.length = ss.length) {k : Nat} (hk : k < ss.length) (he : fl.getD k ByteArray.empty = ss.getD k ByteArray.empty) : mixL fl ss (k + 1) = mixL fl ss k := by
  rw [mixL_next h hk, he]
  unfold mixL
  rw [List.set_append_right _ _ (by simp; omega)]
  have hlen : (fl.take k).length = k := by simp; omega
  rw [hlen, Nat.sub_self, List.drop_eq_getElem_cons hk, List.set_cons_zero, List.getD_eq_getElem?_getD, List.getElem?_eq_getElem hk]
  rfl
end Go.Proofs.Ytmladjahkhhpkaa

/-
  Sectors held against each other as a whole. Plain facts.
-/
namespace Go.Proofs.Ytmladjahkhhpkaa
open Go.RowKit
set_option maxRecDepth 100000

theorem mapM_some {α β : Type} {f : α → Option β} {h : α → β} : ∀ (l : List α), (∀ i ∈ l, f i = some (h i)) → l.mapM f = some (l.map h)
  | [], _ => rfl
  | x :: r, hx => by
    rw [List.mapM_cons, hx x (by simp), mapM_some r (fun i hi => hx i (by simp [hi]))]
    rfl
theorem range_flat (g : Nat → Lit) (n : Nat) : ((List.range n).map fun i => [g i]).flatten = (List.range n).map g := by
  induction n with
  | zero => rfl
  | succ n ih => simp [List.range_succ, ih]
theorem u8_lit (b : UInt8) : (Lit.int .u8 (b.toNat : Int)).wf = true := by
  have := b.toNat_lt
  have h1 : IntKind.u8.min = 0 := by decide
  have h2 : IntKind.u8.max = 255 := by decide
  simp [Lit.wf, h1, h2]
  omega
theorem secLits (l : List UInt8) (hl : l.length = 64) : ∃ L, Try.prog.keyLits 3 56 (secV l).toList = some L := by
  have h1 : Try.prog.cellsOf 56 = 64 := by kernel_rfl
  have h2 : Try.prog.cellsOf 54 = 64 := by kernel_rfl
  have h3 : Try.prog.cellsOf 5 = 1 := by kernel_rfl
  have hc : (secV l).toList.length = 64 := by simp [secV, Lib.byteCells, hl]
  have ha : Try.prog.keyLits 2 54 (secV l).toList = some (((List.range 64).map fun i => [Lit.int .u8 ((l.getD i 0).toNat : Int)]).flatten) := by
    unfold Program.keyLits
    rw [Try.underlying54]
    simp only [hc, h2, h3, if_true]
    rw [mapM_some (h := fun i => [Lit.int .u8 ((l.getD i 0).toNat : Int)])]
    · rfl
    · intro i hi
      have hi' : i < l.length := by rw [hl]; simpa using hi
      have hd : (List.drop (i * 1) (secV l).toList).take 1 = [Value.int .u8 ((l.getD i 0).toNat : Int)] := by
        rw [Nat.mul_one]
        unfold secV Lib.byteCells
        rw [← List.map_drop, ← List.map_take, List.drop_eq_getElem_cons hi', List.take_succ_cons, List.take_zero, List.getD_eq_getElem?_getD, List.getElem?_eq_getElem hi']
        rfl
      rw [hd]
      unfold Program.keyLits
      rw [Try.underlying5]
      simp [u8_lit]
  unfold Program.keyLits
  rw [Try.underlying56]
  simp only [hc, h1, true_and]
  rw [if_pos (by simp)]
  simp only [List.mapM_cons, List.mapM_nil, h2, List.drop_zero, List.take_of_length_le (Nat.le_of_eq hc), ha]
  exact ⟨_, rfl⟩
theorem sec_neq (a b : List UInt8) (ha : a.length = 64) (hb : b.length = 64) (W : World) : (binOp .neq 56 (.agg (secV a)) (.agg (secV b))).run Try.prog W = .ok (.bool (!decide (a = b))) W := by
  obtain ⟨la, hla⟩ := secLits a ha
  obtain ⟨lb, hlb⟩ := secLits b hb
  have hk : Try.prog.keyTypeAt 3 56 = true := by kernel_rfl
  have fm : ∀ l : List UInt8, l.length = 64 → (Value.agg (secV l)).formed Try.prog 56 = true := fun l hl => by
    have h1 : Try.prog.cellsOf 56 = 64 := by kernel_rfl
    unfold Value.formed
    rw [Try.underlying56]
    simp [h1, secV_size, hl]
  obtain ⟨r, hr, hiff⟩ := run_equalIn_deep 9997 3 56 hk W 3 3 (.agg (secV a)) (.agg (secV b)) la lb (fm a ha) (fm b hb) hla hlb
  rw [run_neq_struct, hr]
  have ht : Try.prog.tiled 3 56 = true := by kernel_rfl
  have hab : la = lb ↔ a = b := by
    refine ⟨fun e => ?_, fun e => ?_⟩
    · subst e
      have e1 := cells_of_lits 3 _ ht 3 _ _ hla
      have e2 := cells_of_lits 3 _ ht 3 _ _ hlb
      have e3 : (secV a).toList = (secV b).toList := e1.trans e2.symm
      exact secV_inj (by rw [show secV a = secV b from Array.toList_inj.1 e3])
    · subst e
      rw [hla] at hlb
      exact Option.some.inj hlb
  have hrr : r = decide (a = b) := by
    cases r
    · have : ¬ a = b := fun e => by have := hiff.2 (hab.2 e); cases this
      simp [this]
    · have : a = b := hab.1 (hiff.1 rfl)
      simp [this]
  rw [hrr]
  rfl
end Go.Proofs.Ytmladjahkhhpkaa

/-
  Contracts: the text of some sectors, by the specification.
-/
namespace Go.Proofs.Ytmladjahkhhpkaa
open Go.RowKit
set_option maxRecDepth 100000

/-- The text of k sectors from one on. -/
def secsT (l : List ByteArray) (a : Nat) : Nat → List UInt8
  | 0 => []
  | k + 1 => secsT l a k ++ (l.getD (a + k) ByteArray.empty).data.toList
theorem secsT_len {l : List ByteArray} (h : ∀ i, i < l.length → (l.getD i ByteArray.empty).size = 64) (a : Nat) : ∀ k, a + k ≤ l.length → (secsT l a k).length = k * 64
  | 0, _ => rfl
  | k + 1, hk => by
    have h1 : (l.getD (a + k) ByteArray.empty).data.toList.length = 64 := h (a + k) (by omega)
    show (secsT l a k ++ _).length = _
    rw [List.length_append, secsT_len h a k (by omega), h1]; omega
theorem strCells_nums (s : ByteArray) : Lib.strCells s = (numsU s.data.toList).map (Value.int .u8) := by
  simp [Lib.strCells, numsU, Function.comp_def]
theorem ownB_shape {base : Nat} {v : Value} {l : List UInt8} {w : World} (h : OwnB base v l w) : ∃ ao cap, v = .slice ao l.length cap := by
  rcases h.2 with ⟨h1, h2⟩ | ⟨g, cap, cur, h1, _⟩
  · exact ⟨none, 0, by rw [h1, h2]⟩
  · exact ⟨_, _, h1⟩
theorem ownB_str {base : Nat} {v : Value} {l : List UInt8} {w : World} (s : ByteArray) (h : w.ownsRow base 5 1 v (l.length + s.size) ((numsU l).map (Value.int .u8) ++ Lib.strCells s)) : OwnB base v (l ++ s.data.toList) w :=
  ownB_of h (by rw [List.length_append]; rfl) (by rw [strCells_nums, numsU_append, List.map_append])
theorem OwnS.eq {base : Nat} {v : Value} {l : List ByteArray} {w : World} (h : w.ownsRow base 9 1 v l.length (strsV l)) : OwnS base v l w := h
theorem flush64 {d : Dk} (hR : dkRight d = true) : ∀ i, i < (flushL d.secs d.cache).length → ((flushL d.secs d.cache).getD i ByteArray.empty).size = 64 := by
  intro i hi
  rw [flushL_len] at hi
  exact flush_sizes d.cache d.secs (fun x hx => (dkRight_cache hR x hx).2.2) (dkRight_secs hR) i hi
theorem flush_mem {d : Dk} (hR : dkRight d = true) : ∀ x ∈ flushL d.secs d.cache, x.size ≤ maxLen := by
  intro x hx
  obtain ⟨i, hi, rfl⟩ := List.getElem_of_mem hx
  have h := flush64 hR i hi
  rw [List.getD_eq_getElem?_getD, List.getElem?_eq_getElem hi] at h
  simp only [Option.getD_some] at h
  unfold maxLen
  omega
set_option maxHeartbeats 4000000 in
theorem l07Text_any (b : Nat) (s c : Value) (d : Dk) (a m : Nat) (w : World) (hR : dkRight d = true) (hf : dkFits d) (hin : dkIn d) (hm : m ≤ 300) (ham : a + m ≤ d.secs.length) (hlen : d.secs.length ≤ 700) (h : OwnD b s c d w) :
    Calls Try.prog 51 #[.agg #[s, c], .int .i64 (a : Int), .int .i64 (m : Int)] w fun e w' => e = .returned (.string (mkS (secsT (flushL d.secs d.cache) a m))) ∧ Below w.heap.size w w' := by
  obtain ⟨i0, hi, hz0, hz1, hz2⟩ := info_parts Try.infoU8
  have HL := hide (fun W h => l07Flush_all b s c d W hR hf hin h)
  have H64 := hide (flush64 hR)
  have HME := hide (flush_mem hR)
  have hfl := flushL_len d.cache d.secs
  have HTL := hide (fun k (hk : a + k ≤ (flushL d.secs d.cache).length) => secsT_len (flush64 hR) a k hk)
  have HN := hide (fun k => show secsT (flushL d.secs d.cache) a (k + 1) = secsT (flushL d.secs d.cache) a k ++ ((flushL d.secs d.cache).getD (a + k) ByteArray.empty).data.toList from rfl)
  have H0 : Hid (secsT (flushL d.secs d.cache) a 0 = []) := rfl
  have D0 := hide (h.below ((Below.refl w.heap.size w).alloc (Nat.le_refl _) (.cells #[s, c] 25)))
  have B0 := hide ((Below.refl w.heap.size w).alloc (Nat.le_refl _) (.cells #[s, c] 25))
  obtain ⟨so, p, co, q, rfl, rfl⟩ := h.shape
  rw [← hfl] at ham hlen
  clear h hf hin hR hfl
  generalize flushL d.secs d.cache = fl at *
  generalize secsT fl a = ST at *
  go_enter Try.func51, Try.ntmps51
  go_wp2_with (go_at_call 55; refine (HL.out _ D0.out).mono ?_; rintro e w1 ⟨v, rfl, o1, b1⟩; obtain ⟨ao, cap, rfl⟩ := ownS_shape o1; have B1 := hide (B0.out.trans (b1.mono B0.out.size)); have O1 := hide o1; clear o1 b1)
  have BA := (Below.refl w1.heap.size w1).alloc (Nat.le_refl _) (.cells #[.slice ao fl.length cap, .slice none 0 0] 25)
  have V2 := hide (heap_alloc_new w1 (.cells #[.slice ao fl.length cap, .slice none 0 0] 25))
  have SR : Hid (StrRow (w1.alloc (.cells #[.slice ao fl.length cap, .slice none 0 0] 25)) 0 (w1.alloc (.cells #[.slice ao fl.length cap, .slice none 0 0] 25)).heap.size ao fl) := by
    obtain ⟨ao', cap', e1, h1, h2⟩ := ownS_str (OwnS.eq (owns_below O1.out BA)) HME.out
    injection e1 with e1 _ _
    subst e1
    exact h2.mono (Nat.zero_le _) (Nat.le_refl _)
  have B2 := hide (B1.out.trans (BA.mono B1.out.size))
  clear BA B1 O1 B0 D0 HL
  have Z2 : Hid ((w1.alloc (.cells #[.slice ao fl.length cap, .slice none 0 0] 25)).heap.size = w1.heap.size + 1) := by show _ = _; simp
  generalize w1.alloc (.cells #[.slice ao fl.length cap, .slice none 0 0] 25) = w2 at *
  have E3 : w1.heap.size + 1 = w2.heap.size := Z2.out.symm
  have O3 : Hid (OwnB w2.heap.size (.slice (some ⟨w1.heap.size + 1, 0, none⟩) 0 0) (ST 0) (w2.alloc (.cells #[] 5))) := by
    rw [H0.out, E3]
    exact own_empty (heap_alloc_new _ _) (Nat.le_refl _)
  have B3 := hide ((Below.refl w2.heap.size w2).alloc (Nat.le_refl _) (.cells #[] 5))
  clear E3 Z2 H0
  go_loopw [8, 9] (fun l i wr => ∃ (k : Nat) (v : Value), k ≤ m ∧ i = .int .i64 ((a : Int) + (k : Int)) ∧ l = v ∧ Hid (OwnB w2.heap.size v (ST k) wr) ∧ Hid (Below w2.heap.size w2 wr)) (fun _ i _ => a + m - (intOf i).toNat)
  case atStart => exact ⟨0, _, Nat.zero_le _, by simp, rfl, O3, B3⟩
  case round =>
    obtain ⟨k, v, hk, rfl, rfl, HO, HB⟩ := hrel
    clear O3 B3
    obtain ⟨ao', cap', hv⟩ := ownB_shape HO.out
    rw [HTL.out k (by omega)] at hv
    subst hv
    by_cases hlt : k < m
    · obtain ⟨eb, off, x, rfl, hgB, hx, hxm, c0⟩ := (SR.out.kept HB.out).at (a + k) (by omega)
      have hx64 : x.size = 64 := by rw [← hx]; exact H64.out _ (by omega)
      obtain ⟨v0, v1, vf⟩ := cells2 ((HB.out.block _ (blk_lt' V2.out)).trans V2.out)
      have HT := hide (HN.out k)
      rw [hx] at HT
      have HTK := HTL.out k (by omega)
      have HS63 : Hid ((ST k).length + x.size ≤ maxLen ∧ (ST k).length + x.size ≤ 140737488355328) := by rw [HTK, hx64]; show _ ∧ _; unfold maxLen; omega
      have HW : Hid (wr.ownsRow w2.heap.size 5 1 (.slice ao' (k * 64) cap') (ST k).length ((numsU (ST k)).map (Value.int .u8))) := HO
      clear hx hxm hx64 HTK
      go_wp2_with (at_builtin; refine Lib.wpList_append_own_string _ rfl _ _ 52 9 rfl w2.heap.size 5 i0 Try.underlying52 Try.underlying9 hi hz0 hz1 hz2 (.slice ao' (k * 64) cap') (ST k).length _ rfl HW.out x rfl HS63.out.1 HS63.out.2 HB.out.size ?_; intro v5 w5 o5 g5 l5; have O5 := hide (ownB_str x o5); have B5 := hide (HB.out.grown g5 HB.out.size (fun b hb => (World.ownsRow.lt HW.out b hb).1)); rw [← HT.out] at O5; clear o5 g5 l5)
      go_roundw
      case rel => exact ⟨k + 1, _, by omega, by go_num, rfl, O5, B5⟩
      case measure => simp [intOf]; omega
    · obtain rfl : k = m := by omega
      have HC := hide (OwnB.conv HO.out)
      have hconv := HC.out
      go_wp2
      go_ret
      exact ⟨rfl, B2.out.trans (HB.out.mono B2.out.size)⟩
end Go.Proofs.Ytmladjahkhhpkaa

/-
  Contracts: slices.Clone of texts and of writes: rows of their own.
-/
namespace Go.Proofs.Ytmladjahkhhpkaa
open Go.RowKit
set_option maxRecDepth 100000

set_option maxHeartbeats 2000000 in
theorem cloneStr_own (b : Nat) (v : Value) (l : List ByteArray) (w : World) (hl : l.length ≤ 1048576) (h : OwnS b v l w) :
    Calls Try.prog 63 #[v] w fun e w' => ∃ v', e = .returned v' ∧ OwnS w.heap.size v' l w' ∧ Below w.heap.size w w' := by
  obtain ⟨i0, hi, hz0, hz1, hz2⟩ := info_parts Try.infoStr'
  have qn : ∀ (w : World) (a : Option Addr) (n c n' c' : Nat), (binOp .eql 22 (.slice a n c) (.slice none n' c')).run Try.prog w = .ok (.bool a.isNone) w := fun w a n c n' c' => Lib.run_eql_slice_nil w _ _ a n c n' c' Try.underlying22
  rcases h.2 with ⟨rfl, h0⟩ | ⟨g, cap, cur, rfl, _⟩
  · obtain rfl : l = [] := List.eq_nil_of_length_eq_zero h0
    go_enter Try.func63, Try.ntmps63
    go_wp2
    go_ret
    exact ⟨_, rfl, ownS_nil _ _, Below.refl _ _⟩
  · have BA := (Below.refl w.heap.size w).alloc (Nat.le_refl _) (.cells #[] 9)
    have hown : (w.alloc (.cells #[] 9)).ownsRow w.heap.size 9 1 (.slice (some ⟨w.heap.size, 0, none⟩) 0 0) 0 [] := own_empty (heap_alloc_new _ _) (Nat.le_refl _)
    have HS := hide (owns_below h BA)
    have HB := hide BA
    have HB63 : Hid (0 + l.length ≤ maxLen ∧ (0 + l.length) * 16 ≤ 140737488355328) := by show _ ∧ _; unfold maxLen; omega
    clear h BA
    go_enter Try.func63, Try.ntmps63
    go_wp2_with (at_builtin; refine wpList_app_own rfl _ _ 22 rfl w.heap.size b 9 i0 (.string ⟨#[]⟩) 1 16 Try.underlying22 hi hz0 hz1 hz2 rfl (by decide) _ 0 [] rfl hown _ _ _ rfl HS.out (strsV_one _) HB63.out.1 HB63.out.2 (by simp) ?_; intro v5 w5 o5 g5 l5)
    have O5 : Hid (OwnS w.heap.size v5 l w5) := by show OwnS _ _ _ _; simpa [OwnS] using o5
    have B5 := hide (HB.out.grown g5 (by simp) (fun j hj => Nat.le_of_eq (Option.some.inj (show some w.heap.size = some j from hj))))
    clear o5 g5 l5 hown
    obtain ⟨ao, cp, rfl⟩ := ownS_shape O5.out
    go_wp2
    go_ret
    exact ⟨_, rfl, O5.out, B5.out⟩
set_option maxHeartbeats 2000000 in
theorem cloneWrs_own (b : Nat) (v : Value) (l : List Wr) (w : World) (hl : l.length ≤ 1048576) (h : OwnW b v l w) :
    Calls Try.prog 64 #[v] w fun e w' => ∃ v', e = .returned v' ∧ OwnW w.heap.size v' l w' ∧ Below w.heap.size w w' := by
  obtain ⟨i0, hi, hz0, hz1, hz2⟩ := info_parts Try.infoWr
  have qn : ∀ (w : World) (a : Option Addr) (n c n' c' : Nat), (binOp .eql 23 (.slice a n c) (.slice none n' c')).run Try.prog w = .ok (.bool a.isNone) w := fun w a n c n' c' => Lib.run_eql_slice_nil w _ _ a n c n' c' Try.underlying23
  rcases h.2 with ⟨rfl, h0⟩ | ⟨g, cap, cur, rfl, _⟩
  · obtain rfl : l = [] := List.eq_nil_of_length_eq_zero h0
    go_enter Try.func64, Try.ntmps64
    go_wp2
    go_ret
    exact ⟨_, rfl, ownW_nil _ _, Below.refl _ _⟩
  · have BA := (Below.refl w.heap.size w).alloc (Nat.le_refl _) (.cells #[] 64)
    have hown : (w.alloc (.cells #[] 64)).ownsRow w.heap.size 64 2 (.slice (some ⟨w.heap.size, 0, none⟩) 0 0) 0 [] := own_empty (heap_alloc_new _ _) (Nat.le_refl _)
    have HS := hide (owns_below h BA)
    have HB := hide BA
    have HB63 : Hid (0 + l.length ≤ maxLen ∧ (0 + l.length) * 24 ≤ 140737488355328) := by show _ ∧ _; unfold maxLen; omega
    clear h BA
    go_enter Try.func64, Try.ntmps64
    go_wp2_with (at_builtin; refine wpList_app_own rfl _ _ 23 rfl w.heap.size b 64 i0 (.agg #[.int .i64 0, .string ⟨#[]⟩]) 2 24 Try.underlying23 hi hz0 hz1 hz2 rfl (by decide) _ 0 [] rfl hown _ _ _ rfl HS.out (flatW_one _) HB63.out.1 HB63.out.2 (by simp) ?_; intro v5 w5 o5 g5 l5)
    have O5 : Hid (OwnW w.heap.size v5 l w5) := by show OwnW _ _ _ _; simpa [OwnW] using o5
    have B5 := hide (HB.out.grown g5 (by simp) (fun j hj => Nat.le_of_eq (Option.some.inj (show some w.heap.size = some j from hj))))
    clear o5 g5 l5 hown
    obtain ⟨ao, cp, rfl⟩ := ownW_shape O5.out
    go_wp2
    go_ret
    exact ⟨_, rfl, O5.out, B5.out⟩
set_option maxHeartbeats 4000000 in
theorem copyDisk_own (b : Nat) (s c : Value) (d : Dk) (w : World) (hf : dkFits d) (h : OwnD b s c d w) :
    Calls Try.prog 49 #[.agg #[s, c]] w fun e w' => ∃ s' c', e = .returned (.agg #[s', c']) ∧ OwnD w.heap.size s' c' d w' ∧ Below w.heap.size w w' := by
  have HSC := hide (fun W (hb : Below w.heap.size w W) => cloneStr_own b s d.secs W hf.1 (owns_below h.secs hb))
  have HWC := hide (fun W (hb : Below w.heap.size w W) => cloneWrs_own b c d.cache W hf.2 (owns_below h.cache hb))
  obtain ⟨so, p, co, q, rfl, rfl⟩ := h.shape
  obtain ⟨ss, cs⟩ := d
  simp only at *
  have C0 := hide (CI.start w (.slice so ss.length p) (.slice co cs.length q))
  clear h hf
  obtain ⟨x0, x1, xf⟩ := cells2 C0.out.par
  obtain ⟨y0, y1, yf⟩ := cells2 C0.out.res
  go_enter Try.func49, Try.ntmps49
  go_wp2
  have C1 := hide C0.out.drew
  clear C0 x0 x1 xf y0 y1 yf
  generalize (w.alloc (.cells #[.slice so ss.length p, .slice co cs.length q] 25)).alloc (.cells #[.slice none 0 0, .slice none 0 0] 25) = W0 at *
  refine wp_region_noPanic ?_
  refine wp_region_held_drew (S := fun W => W.heap[w.heap.size]? = some (.cells #[.slice so ss.length p, .slice co cs.length q] 25 (0, 0))) (by kernel_rfl) C1.out.par (fun hS1 => ?_)
  generalize W0.drew = W1 at *
  refine takeD 0 3 (v := ?v1) rfl rfl (by kernel_rfl) (by kernel_rfl) (by kernel_rfl) (fun _ _ _ h => h) (by kernel_rfl) ?hy1 (by assumption) ?r1
  case hy1 => (intro W hSw; obtain ⟨x0, x1, xf⟩ := cells2 (hSw); go_simp; try with_reducible rfl)
  simp only [Act.put, List.setIfInBounds_toArray, List.set_cons_zero, List.set_cons_succ]
  refine takeD 1 4 (v := ?v2) rfl rfl (by kernel_rfl) (by kernel_rfl) (by kernel_rfl) (fun _ _ _ h => h) (by kernel_rfl) ?hy2 (by assumption) ?r2
  case hy2 => (intro W hSw; obtain ⟨x0, x1, xf⟩ := cells2 (hSw); go_simp; try with_reducible rfl)
  simp only [Act.put, List.setIfInBounds_toArray, List.set_cons_zero, List.set_cons_succ]
  refine takeD 3 6 (v := ?v3) rfl rfl (by kernel_rfl) (by kernel_rfl) (by kernel_rfl) (fun _ _ _ h => h) (by kernel_rfl) ?hy3 (by assumption) ?r3
  case hy3 => (intro W hSw; obtain ⟨x0, x1, xf⟩ := cells2 (hSw); go_simp; try with_reducible rfl)
  simp only [Act.put, List.setIfInBounds_toArray, List.set_cons_zero, List.set_cons_succ]
  refine takeD 4 7 (v := ?v4) rfl rfl (by kernel_rfl) (by kernel_rfl) (by kernel_rfl) (fun _ _ _ h => h) (by kernel_rfl) ?hy4 (by assumption) ?r4
  case hy4 => (intro W hSw; obtain ⟨x0, x1, xf⟩ := cells2 (hSw); go_simp; try with_reducible rfl)
  simp only [Act.put, List.setIfInBounds_toArray, List.set_cons_zero, List.set_cons_succ]
  refine wpAnyH_ready (rs := [2]) (by kernel_rfl) (by simp) ?_
  refine AllReadyH.cons (o := _) rfl (fun K hK => ?_) AllReadyH.nil
  go_simp
  go_at_call 63
  refine (HSC.out _ C1.out.below).mono ?_
  rintro e W2 ⟨v2, rfl, o2, b2⟩
  have C2 := hide (C1.out.cloneS o2 b2)
  obtain ⟨so', p', hs'⟩ := ownS_shape o2
  subst hs'
  clear o2 b2
  go_wp2_with fail
  refine hK.out _ _ C2.out.par (fun hS2 => ?_)
  clear hK K
  refine wpAnyH_ready (rs := [5]) (by kernel_rfl) (by simp) ?_
  refine AllReadyH.cons (o := _) rfl (fun K hK => ?_) AllReadyH.nil
  go_simp
  go_at_call 64
  refine (HWC.out _ C2.out.below).mono ?_
  rintro e W3 ⟨v3, rfl, o3, b3⟩
  have C3 := hide (C2.out.cloneW o3 b3)
  obtain ⟨co', q', hc'⟩ := ownW_shape o3
  subst hc'
  clear o3 b3
  go_wp2_with fail
  refine hK.out _ _ C3.out.par (fun hS3 => ?_)
  clear hK K
  refine takeD 6 9 (v := ?v5) rfl rfl (by kernel_rfl) (by kernel_rfl) (by kernel_rfl) (fun _ _ _ h => h) (by kernel_rfl) ?hy5 (by assumption) ?r5
  case hy5 => (intro W hSw; go_simp; try with_reducible rfl)
  simp only [Act.put, List.setIfInBounds_toArray, List.set_cons_zero, List.set_cons_succ]
  refine wpAnyH_ready (rs := [7]) (by kernel_rfl) (by simp) ?_
  refine AllReadyH.cons (o := _) rfl (fun K hK => ?_) AllReadyH.nil
  obtain ⟨y0, y1, yf⟩ := cells2 C3.out.res
  go_simp
  refine hK.out _ _ C3.out.par2 (fun hS => ?_)
  clear hK K
  refine wpAnyH_done (by kernel_rfl) ?_ _
  refine NoPanic.normal ?_
  go_wp2
  exact bodyPost_ret (v := .agg #[.slice so' ss.length p', .slice co' cs.length q']) (resDisk Try.results49 _ _ (w.heap.size + 1) _ _ rfl (set2 C3.out.res)) rfl ⟨_, _, rfl, C3.out.out2.1, C3.out.out2.2⟩
end Go.Proofs.Ytmladjahkhhpkaa
