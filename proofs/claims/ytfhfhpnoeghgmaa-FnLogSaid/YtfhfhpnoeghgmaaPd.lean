/-
  Contracts and plain laws, part 4 of 12: DkFlS, DkTxt, DkRdP, DkCpS, DkRightS, DkFlP, DkKp, DkFlK, DkCrP, DkLwP
-/
import Derived.Lib.AppendStr
import Derived.Test.YtfhfhpnoeghgmaaPc

/-
  Contract: the specification's flush: all writes done one behind the other, in a row of their own.
-/
namespace Go.Proofs.Ytfhfhpnoeghgmaa
open Go.RowKit
set_option maxRecDepth 100000

set_option maxHeartbeats 8000000 in
theorem l07Flush_all (b : Nat) (s c : Value) (d : Dk) (w : World) (hR : dkRight d = true) (hf : dkFits d) (hin : dkIn d) (h : OwnD b s c d w) :
    Calls Try.prog 63 #[.agg #[s, c], .slice none 0 0, .bool true] w fun e w' => ∃ v, e = .returned (.agg #[v, .slice none 0 0]) ∧ OwnS w.heap.size v (flushL d.secs d.cache) w' ∧ Below w.heap.size w w' := by
  obtain ⟨i0, hi, hz0, hz1, hz2⟩ := info_parts Try.infoStr'
  obtain ⟨so, p, co, q, rfl, rfl, hrow⟩ := h.row hin
  have hx := dkRight_cache hR
  obtain ⟨ss, cs⟩ := d
  simp only at *
  have HX := hide hx
  have HR := hide hrow.2.2
  have hls : ss.length ≤ 1048576 := hf.1
  have hlc : cs.length ≤ 1048576 := hf.2
  have HBS : Hid (0 + ss.length ≤ maxLen ∧ (0 + ss.length) * 16 ≤ 140737488355328) := by show _ ∧ _; unfold maxLen; omega
  have HSN := hide (fun k (n : Int) (t : ByteArray) (hk : k < cs.length) (hv : cs.getD k noWr = ⟨n, t⟩) => show flushL ss (cs.take (k + 1)) = (flushL ss (cs.take k)).set n.toNat t ∧ 0 ≤ n ∧ n < (ss.length : Int) by
    rw [List.getD_eq_getElem?_getD, List.getElem?_eq_getElem hk] at hv
    simp only [Option.getD_some] at hv
    refine ⟨by rw [List.take_succ_eq_append_getElem hk, flushL_snoc, hv], ?_, ?_⟩
    · have := (HX.out _ (List.getElem_mem hk)).1; rw [hv] at this; exact this
    · have := (HX.out _ (List.getElem_mem hk)).2.1; rw [hv] at this; exact this)
  have HLN := hide (fun k => flushL_len (cs.take k) ss)
  have h0 := two_allocs w (.cells #[.slice so ss.length p, .slice co cs.length q] 26) (.cells #[.slice none 0 0, .slice none 0 0] 26)
  have B0 := ((Below.refl w.heap.size w).alloc (Nat.le_refl _) (.cells #[.slice so ss.length p, .slice co cs.length q] 26)).alloc (by simp) (.cells #[.slice none 0 0, .slice none 0 0] 26)
  have N0 : (((w.alloc (.cells #[.slice so ss.length p, .slice co cs.length q] 26)).alloc (.cells #[.slice none 0 0, .slice none 0 0] 26)).alloc (.cells #[] 9)).heap[w.heap.size + 2]? = some (.cells #[] 9 (0, 0)) := by
    have h := heap_alloc_new ((w.alloc (.cells #[.slice so ss.length p, .slice co cs.length q] 26)).alloc (.cells #[.slice none 0 0, .slice none 0 0] 26)) (.cells #[] 9)
    rw [h0.2.2] at h
    exact h
  have X1 := hide ((heap_old ((w.alloc (.cells #[.slice so ss.length p, .slice co cs.length q] 26)).alloc (.cells #[.slice none 0 0, .slice none 0 0] 26)) (.cells #[] 9) w.heap.size (by rw [h0.2.2]; omega)).trans h0.1)
  have R1 := hide ((heap_old ((w.alloc (.cells #[.slice so ss.length p, .slice co cs.length q] 26)).alloc (.cells #[.slice none 0 0, .slice none 0 0] 26)) (.cells #[] 9) (w.heap.size + 1) (by rw [h0.2.2]; omega)).trans h0.2.1)
  have B1 := hide (B0.alloc B0.size (.cells #[] 9))
  have E1 := hide (own_empty (size := 1) N0 (Nat.le_refl (w.heap.size + 2)))
  have Z1 : Hid (w.heap.size + 2 ≤ (((w.alloc (.cells #[.slice so ss.length p, .slice co cs.length q] 26)).alloc (.cells #[.slice none 0 0, .slice none 0 0] 26)).alloc (.cells #[] 9)).heap.size) := by have := blk_lt' N0; show _ ≤ _; omega
  have SRC := hide (owns_below h.secs B1.out)
  clear h h0 B0 N0 hrow hx HX hf hin hR
  go_enter Try.func63, Try.ntmps63
  go_wp2_with (at_builtin; refine wpList_app_own rfl _ _ 23 rfl (w.heap.size + 2) b 9 i0 (.string ⟨#[]⟩) 1 16 Try.underlying23 hi hz0 hz1 hz2 rfl (by decide) (.slice (some ⟨w.heap.size + 2, 0, none⟩) 0 0) 0 [] rfl E1.out (.slice so ss.length p) _ _ rfl SRC.out (strsV_one _) HBS.out.1 HBS.out.2 Z1.out ?_; intro v5 w5 o5 g5 l5; have O5 : Hid (OwnS (w.heap.size + 2) v5 ss w5) := (by show OwnS _ _ _ _; simpa [OwnS] using o5); obtain ⟨ao, cap, hv5⟩ := ownS_shape O5.out; subst hv5; clear o5 l5)
  have X5 := hide ((g5.block _ (blk_lt' X1.out) (fun e => by have := Option.some.inj (show some w.heap.size = some (w.heap.size + 2) from e); omega)).trans X1.out)
  have R5 := hide ((g5.block _ (blk_lt' R1.out) (fun e => by have := Option.some.inj (show some (w.heap.size + 1) = some (w.heap.size + 2) from e); omega)).trans R1.out)
  have B5 := hide (B1.out.grown g5 B1.out.size (fun j hj => by have := Option.some.inj (show some (w.heap.size + 2) = some j from hj); omega))
  clear g5
  have F5 := hide (FI.start2 (c := .slice none 0 0) B5.out X5.out R5.out O5.out)
  clear X1 R1 B1 E1 Z1 SRC X5 R5 B5 O5 HBS
  go_loopw [8] (fun i wr => ∃ k : Nat, k ≤ cs.length ∧ i = .int .i64 k ∧ Hid (FI w #[.slice so ss.length p, .slice co cs.length q] (.slice ao ss.length cap) (.slice none 0 0) w5.heap.size (flushL ss (cs.take k)) wr)) (fun i _ => cs.length - (intOf i).toNat)
  case atStart => exact ⟨0, Nat.zero_le _, rfl, by simpa [flushL] using F5⟩
  case round =>
    obtain ⟨k, hk, rfl, G⟩ := hrel
    clear F5
    obtain ⟨x0, x1, xf⟩ := cells2 G.out.par
    by_cases hlt : k < cs.length
    · obtain ⟨cb, off, n, t, rfl, hbB, hv, htt, hki, d0, d1⟩ := (HR.out.kept G.out.below).at k hlt
      obtain ⟨hS, hn0, hn1⟩ := HSN.out k n t hlt hv
      obtain ⟨m, rfl⟩ : ∃ m : Nat, n = (m : Int) := ⟨n.toNat, by omega⟩
      have hm : m < ss.length := by omega
      obtain ⟨e, rfl, he, heg, hef, hec⟩ := G.out.cell (by rw [HLN.out k]; omega)
      have hcm := hec m (by rw [HLN.out k]; exact hm)
      generalize w5.heap.size = g at *
      rw [show ((m : Int)).toNat = m from by omega] at hS
      have GN : Hid (FI w #[.slice so ss.length p, .slice (some ⟨cb, off, none⟩) cs.length q] (.slice (some ⟨e, 0, none⟩) ss.length cap) (.slice none 0 0) g (flushL ss (cs.take (k + 1))) (wr.setCell ⟨e, m, none⟩ (.string t)).drew) := by rw [hS]; exact (G.out.put (HLN.out k).symm m t he).drew
      have HC := hide (And.intro d0 (And.intro d1 (And.intro hcm (hef m))))
      clear hS hn0 hn1 hv htt hki hec hcm d0 d1 hef
      go_wp2
      refine wp_region_noPanic ?_
      refine wp_region_held_drew (S := fun W => W.heap[w.heap.size]? = some (.cells #[.slice so ss.length p, .slice (some ⟨cb, off, none⟩) cs.length q] 26 (0, 0)) ∧ W.heap[g]? = some (.cells #[.slice (some ⟨e, 0, none⟩) ss.length cap, .slice none 0 0] 26 (0, 0)) ∧ W.cell? ⟨cb, off + k * 2, none⟩ = some (.int .i64 (m : Int)) ∧ W.cell? ⟨cb, off + k * 2 + 1, none⟩ = some (.string t)) (by kernel_rfl) ⟨G.out.par, G.out.var, HC.out.1, HC.out.2.1⟩ (fun hS1 => ?_)
      refine takeD 0 34 (v := ?v1) rfl rfl (by kernel_rfl) (by kernel_rfl) (by kernel_rfl) (fun _ _ _ h => h) (by kernel_rfl) ?hy1 (by assumption) ?r1
      case hy1 => (intro W hSw; obtain ⟨s1, s2, s3, s4⟩ := hSw; obtain ⟨a0, a1, af⟩ := cells2 s1; obtain ⟨b0, b1, bf⟩ := cells2 s2; go_simp; try with_reducible rfl)
      simp only [Act.put, List.setIfInBounds_toArray, List.set_cons_zero, List.set_cons_succ]
      refine takeD 1 35 (v := ?v2) rfl rfl (by kernel_rfl) (by kernel_rfl) (by kernel_rfl) (fun _ _ _ h => h) (by kernel_rfl) ?hy2 (by assumption) ?r2
      case hy2 => (intro W hSw; obtain ⟨s1, s2, s3, s4⟩ := hSw; obtain ⟨a0, a1, af⟩ := cells2 s1; obtain ⟨b0, b1, bf⟩ := cells2 s2; go_simp; try with_reducible rfl)
      simp only [Act.put, List.setIfInBounds_toArray, List.set_cons_zero, List.set_cons_succ]
      refine takeD 2 36 (v := ?v3) rfl rfl (by kernel_rfl) (by kernel_rfl) (by kernel_rfl) (fun _ _ _ h => h) (by kernel_rfl) ?hy3 (by assumption) ?r3
      case hy3 => (intro W hSw; obtain ⟨s1, s2, s3, s4⟩ := hSw; obtain ⟨a0, a1, af⟩ := cells2 s1; obtain ⟨b0, b1, bf⟩ := cells2 s2; go_simp; try with_reducible rfl)
      simp only [Act.put, List.setIfInBounds_toArray, List.set_cons_zero, List.set_cons_succ]
      refine takeD 3 37 (v := ?v4) rfl rfl (by kernel_rfl) (by kernel_rfl) (by kernel_rfl) (fun _ _ _ h => h) (by kernel_rfl) ?hy4 (by assumption) ?r4
      case hy4 => (intro W hSw; obtain ⟨s1, s2, s3, s4⟩ := hSw; obtain ⟨a0, a1, af⟩ := cells2 s1; obtain ⟨b0, b1, bf⟩ := cells2 s2; go_simp; try with_reducible rfl)
      simp only [Act.put, List.setIfInBounds_toArray, List.set_cons_zero, List.set_cons_succ]
      refine takeD 4 38 (v := ?v5) rfl rfl (by kernel_rfl) (by kernel_rfl) (by kernel_rfl) (fun _ _ _ h => h) (by kernel_rfl) ?hy5 (by assumption) ?r5
      case hy5 => (intro W hSw; obtain ⟨s1, s2, s3, s4⟩ := hSw; obtain ⟨a0, a1, af⟩ := cells2 s1; obtain ⟨b0, b1, bf⟩ := cells2 s2; go_simp; try with_reducible rfl)
      simp only [Act.put, List.setIfInBounds_toArray, List.set_cons_zero, List.set_cons_succ]
      refine takeD 5 39 (v := ?v6) rfl rfl (by kernel_rfl) (by kernel_rfl) (by kernel_rfl) (fun _ _ _ h => h) (by kernel_rfl) ?hy6 (by assumption) ?r6
      case hy6 => (intro W hSw; obtain ⟨s1, s2, s3, s4⟩ := hSw; obtain ⟨a0, a1, af⟩ := cells2 s1; obtain ⟨b0, b1, bf⟩ := cells2 s2; go_simp; try with_reducible rfl)
      simp only [Act.put, List.setIfInBounds_toArray, List.set_cons_zero, List.set_cons_succ]
      refine takeD 6 40 (v := ?v7) rfl rfl (by kernel_rfl) (by kernel_rfl) (by kernel_rfl) (fun _ _ _ h => h) (by kernel_rfl) ?hy7 (by assumption) ?r7
      case hy7 => (intro W hSw; obtain ⟨s1, s2, s3, s4⟩ := hSw; obtain ⟨a0, a1, af⟩ := cells2 s1; obtain ⟨b0, b1, bf⟩ := cells2 s2; go_simp; try with_reducible rfl)
      simp only [Act.put, List.setIfInBounds_toArray, List.set_cons_zero, List.set_cons_succ]
      refine takeD 7 41 (v := ?v8) rfl rfl (by kernel_rfl) (by kernel_rfl) (by kernel_rfl) (fun _ _ _ h => h) (by kernel_rfl) ?hy8 (by assumption) ?r8
      case hy8 => (intro W hSw; obtain ⟨s1, s2, s3, s4⟩ := hSw; obtain ⟨a0, a1, af⟩ := cells2 s1; obtain ⟨b0, b1, bf⟩ := cells2 s2; go_simp; try with_reducible rfl)
      simp only [Act.put, List.setIfInBounds_toArray, List.set_cons_zero, List.set_cons_succ]
      refine takeD 8 42 (v := ?v9) rfl rfl (by kernel_rfl) (by kernel_rfl) (by kernel_rfl) (fun _ _ _ h => h) (by kernel_rfl) ?hy9 (by assumption) ?r9
      case hy9 => (intro W hSw; obtain ⟨s1, s2, s3, s4⟩ := hSw; obtain ⟨a0, a1, af⟩ := cells2 s1; obtain ⟨b0, b1, bf⟩ := cells2 s2; go_simp; try with_reducible rfl)
      simp only [Act.put, List.setIfInBounds_toArray, List.set_cons_zero, List.set_cons_succ]
      refine takeD 9 43 (v := ?v10) rfl rfl (by kernel_rfl) (by kernel_rfl) (by kernel_rfl) (fun _ _ _ h => h) (by kernel_rfl) ?hy10 (by assumption) ?r10
      case hy10 => (intro W hSw; obtain ⟨s1, s2, s3, s4⟩ := hSw; obtain ⟨a0, a1, af⟩ := cells2 s1; obtain ⟨b0, b1, bf⟩ := cells2 s2; go_simp; try with_reducible rfl)
      simp only [Act.put, List.setIfInBounds_toArray, List.set_cons_zero, List.set_cons_succ]
      refine takeD 10 44 (v := ?v11) rfl rfl (by kernel_rfl) (by kernel_rfl) (by kernel_rfl) (fun _ _ _ h => h) (by kernel_rfl) ?hy11 (by assumption) ?r11
      case hy11 => (intro W hSw; obtain ⟨s1, s2, s3, s4⟩ := hSw; obtain ⟨a0, a1, af⟩ := cells2 s1; obtain ⟨b0, b1, bf⟩ := cells2 s2; go_simp; try with_reducible rfl)
      simp only [Act.put, List.setIfInBounds_toArray, List.set_cons_zero, List.set_cons_succ]
      refine takeD 11 45 (v := ?v12) rfl rfl (by kernel_rfl) (by kernel_rfl) (by kernel_rfl) (fun _ _ _ h => h) (by kernel_rfl) ?hy12 (by assumption) ?r12
      case hy12 => (intro W hSw; obtain ⟨s1, s2, s3, s4⟩ := hSw; obtain ⟨a0, a1, af⟩ := cells2 s1; obtain ⟨b0, b1, bf⟩ := cells2 s2; go_simp; try with_reducible rfl)
      simp only [Act.put, List.setIfInBounds_toArray, List.set_cons_zero, List.set_cons_succ]
      refine takeD 12 46 (v := ?v13) rfl rfl (by kernel_rfl) (by kernel_rfl) (by kernel_rfl) (fun _ _ _ h => h) (by kernel_rfl) ?hy13 (by assumption) ?r13
      case hy13 => (intro W hSw; obtain ⟨s1, s2, s3, s4⟩ := hSw; obtain ⟨a0, a1, af⟩ := cells2 s1; obtain ⟨b0, b1, bf⟩ := cells2 s2; go_simp; try with_reducible rfl)
      simp only [Act.put, List.setIfInBounds_toArray, List.set_cons_zero, List.set_cons_succ]
      refine takeD 13 47 (v := ?v14) rfl rfl (by kernel_rfl) (by kernel_rfl) (by kernel_rfl) (fun _ _ _ h => h) (by kernel_rfl) ?hy14 (by assumption) ?r14
      case hy14 => (intro W hSw; obtain ⟨s1, s2, s3, s4⟩ := hSw; obtain ⟨a0, a1, af⟩ := cells2 s1; obtain ⟨b0, b1, bf⟩ := cells2 s2; go_simp; try with_reducible rfl)
      simp only [Act.put, List.setIfInBounds_toArray, List.set_cons_zero, List.set_cons_succ]
      refine takeD 14 48 (v := ?v15) rfl rfl (by kernel_rfl) (by kernel_rfl) (by kernel_rfl) (fun _ _ _ h => h) (by kernel_rfl) ?hy15 (by assumption) ?r15
      case hy15 => (intro W hSw; obtain ⟨s1, s2, s3, s4⟩ := hSw; obtain ⟨a0, a1, af⟩ := cells2 s1; obtain ⟨b0, b1, bf⟩ := cells2 s2; go_simp; try with_reducible rfl)
      simp only [Act.put, List.setIfInBounds_toArray, List.set_cons_zero, List.set_cons_succ]
      refine wpAnyH_ready (rs := [15]) (by kernel_rfl) (by simp) ?_
      refine AllReadyH.cons (o := _) rfl (fun K hK => ?_) AllReadyH.nil
      have hcd : wr.drew.cell? ⟨e, m, none⟩ = _ := HC.out.2.2.1
      have hfd : wr.drew.frozen? ⟨e, m, none⟩ = false := HC.out.2.2.2
      have HS2 : Hid ((wr.drew.setCell ⟨e, m, none⟩ (.string t)).cell? ⟨cb, off + k * 2, none⟩ = some (.int .i64 (m : Int)) ∧ (wr.drew.setCell ⟨e, m, none⟩ (.string t)).cell? ⟨cb, off + k * 2 + 1, none⟩ = some (.string t)) := by
        have ho := fun o => World.cell?_setCell_other wr.drew ⟨e, m, none⟩ ⟨cb, o, none⟩ (.string t) (fun e' => by have : e = cb := congrArg Addr.block e'; omega)
        exact ⟨(ho _).trans HC.out.1, (ho _).trans HC.out.2.1⟩
      go_simp
      refine hK.out _ _ ⟨GN.out.par, GN.out.var, HS2.out⟩ (fun hS2 => ?_)
      clear hK K hcd hfd HC HS2 hS1 hS2
      refine wpAnyH_done (by kernel_rfl) ?_ _
      refine NoPanic.normal ?_
      generalize (wr.setCell ⟨e, m, none⟩ (.string t)).drew = W9 at *
      clear x0 x1 xf G
      go_wp2
      go_roundw
      case rel => exact ⟨k + 1, by omega, by go_num, GN⟩
      case measure => simp [intOf]; omega
    · obtain rfl : k = cs.length := by omega
      have G9 := G
      rw [List.take_length] at G9
      obtain ⟨g0, g1, gf⟩ := cells2 G9.out.var
      obtain ⟨y0, y1, yf⟩ := cells2 G9.out.res
      clear G
      go_wp2
      exact bodyPost_ret (v := .agg #[.slice ao ss.length cap, .slice none 0 0]) (resDisk Try.results63 _ _ (w.heap.size + 1) _ _ rfl (set2 G9.out.res)) rfl ⟨_, rfl, G9.out.out⟩
end Go.Proofs.Ytfhfhpnoeghgmaa

/-
  Contracts: the text of some sectors, by the specification.
-/
namespace Go.Proofs.Ytfhfhpnoeghgmaa
open Go.RowKit
set_option maxRecDepth 100000

/-- The text of k sectors from one on. -/
def secsT (l : List ByteArray) (a : Nat) : Nat → List UInt8
  | 0 => []
  | k + 1 => secsT l a k ++ (l.getD (a + k) ByteArray.empty).data.toList
theorem secsT_len {l : List ByteArray} (h : ∀ i, i < l.length → (l.getD i ByteArray.empty).size = 64) (a : Nat) : ∀ k, a + k ≤ l.length → (secsT l a k).length = k * 64
  | 0, _ => rfl
  | k + 1, hk => by
    have h1 : (l.getD (a + k) ByteArray.empty).data.toList.length = 64 := h (a + k) (by omega)
    show (secsT l a k ++ _).length = _
    rw [List.length_append, secsT_len h a k (by omega), h1]; omega
theorem strCells_nums (s : ByteArray) : Lib.strCells s = (numsU s.data.toList).map (Value.int .u8) := by
  simp [Lib.strCells, numsU, Function.comp_def]
theorem ownB_shape {base : Nat} {v : Value} {l : List UInt8} {w : World} (h : OwnB base v l w) : ∃ ao cap, v = .slice ao l.length cap := by
  rcases h.2 with ⟨h1, h2⟩ | ⟨g, cap, cur, h1, _⟩
  · exact ⟨none, 0, by rw [h1, h2]⟩
  · exact ⟨_, _, h1⟩
theorem ownB_str {base : Nat} {v : Value} {l : List UInt8} {w : World} (s : ByteArray) (h : w.ownsRow base 5 1 v (l.length + s.size) ((numsU l).map (Value.int .u8) ++ Lib.strCells s)) : OwnB base v (l ++ s.data.toList) w :=
  ownB_of h (by rw [List.length_append]; rfl) (by rw [strCells_nums, numsU_append, List.map_append])
theorem OwnS.eq {base : Nat} {v : Value} {l : List ByteArray} {w : World} (h : w.ownsRow base 9 1 v l.length (strsV l)) : OwnS base v l w := h
theorem flush64 {d : Dk} (hR : dkRight d = true) : ∀ i, i < (flushL d.secs d.cache).length → ((flushL d.secs d.cache).getD i ByteArray.empty).size = 64 := by
  intro i hi
  rw [flushL_len] at hi
  exact flush_sizes d.cache d.secs (fun x hx => (dkRight_cache hR x hx).2.2) (dkRight_secs hR) i hi
theorem flush_mem {d : Dk} (hR : dkRight d = true) : ∀ x ∈ flushL d.secs d.cache, x.size ≤ maxLen := by
  intro x hx
  obtain ⟨i, hi, rfl⟩ := List.getElem_of_mem hx
  have h := flush64 hR i hi
  rw [List.getD_eq_getElem?_getD, List.getElem?_eq_getElem hi] at h
  simp only [Option.getD_some] at h
  unfold maxLen
  omega
set_option maxHeartbeats 4000000 in
theorem l07Text_any (b : Nat) (s c : Value) (d : Dk) (a m : Nat) (w : World) (hR : dkRight d = true) (hf : dkFits d) (hin : dkIn d) (hm : m ≤ 300) (ham : a + m ≤ d.secs.length) (hlen : d.secs.length ≤ 700) (h : OwnD b s c d w) :
    Calls Try.prog 86 #[.agg #[s, c], .int .i64 (a : Int), .int .i64 (m : Int)] w fun e w' => e = .returned (.string (mkS (secsT (flushL d.secs d.cache) a m))) ∧ Below w.heap.size w w' := by
  obtain ⟨i0, hi, hz0, hz1, hz2⟩ := info_parts Try.infoU8
  have HL := hide (fun W h => l07Flush_all b s c d W hR hf hin h)
  have H64 := hide (flush64 hR)
  have HME := hide (flush_mem hR)
  have hfl := flushL_len d.cache d.secs
  have HTL := hide (fun k (hk : a + k ≤ (flushL d.secs d.cache).length) => secsT_len (flush64 hR) a k hk)
  have HN := hide (fun k => show secsT (flushL d.secs d.cache) a (k + 1) = secsT (flushL d.secs d.cache) a k ++ ((flushL d.secs d.cache).getD (a + k) ByteArray.empty).data.toList from rfl)
  have H0 : Hid (secsT (flushL d.secs d.cache) a 0 = []) := rfl
  have D0 := hide (h.below ((Below.refl w.heap.size w).alloc (Nat.le_refl _) (.cells #[s, c] 26)))
  have B0 := hide ((Below.refl w.heap.size w).alloc (Nat.le_refl _) (.cells #[s, c] 26))
  obtain ⟨so, p, co, q, rfl, rfl⟩ := h.shape
  rw [← hfl] at ham hlen
  clear h hf hin hR hfl
  generalize flushL d.secs d.cache = fl at *
  generalize secsT fl a = ST at *
  go_enter Try.func86, Try.ntmps86
  go_wp2_with (go_at_call 63; refine (HL.out _ D0.out).mono ?_; rintro e w1 ⟨v, rfl, o1, b1⟩; obtain ⟨ao, cap, rfl⟩ := ownS_shape o1; have B1 := hide (B0.out.trans (b1.mono B0.out.size)); have O1 := hide o1; clear o1 b1)
  have BA := (Below.refl w1.heap.size w1).alloc (Nat.le_refl _) (.cells #[.slice ao fl.length cap, .slice none 0 0] 26)
  have V2 := hide (heap_alloc_new w1 (.cells #[.slice ao fl.length cap, .slice none 0 0] 26))
  have SR : Hid (StrRow (w1.alloc (.cells #[.slice ao fl.length cap, .slice none 0 0] 26)) 0 (w1.alloc (.cells #[.slice ao fl.length cap, .slice none 0 0] 26)).heap.size ao fl) := by
    obtain ⟨ao', cap', e1, h1, h2⟩ := ownS_str (OwnS.eq (owns_below O1.out BA)) HME.out
    injection e1 with e1 _ _
    subst e1
    exact h2.mono (Nat.zero_le _) (Nat.le_refl _)
  have B2 := hide (B1.out.trans (BA.mono B1.out.size))
  clear BA B1 O1 B0 D0 HL
  have Z2 : Hid ((w1.alloc (.cells #[.slice ao fl.length cap, .slice none 0 0] 26)).heap.size = w1.heap.size + 1) := by show _ = _; simp
  generalize w1.alloc (.cells #[.slice ao fl.length cap, .slice none 0 0] 26) = w2 at *
  have E3 : w1.heap.size + 1 = w2.heap.size := Z2.out.symm
  have O3 : Hid (OwnB w2.heap.size (.slice (some ⟨w1.heap.size + 1, 0, none⟩) 0 0) (ST 0) (w2.alloc (.cells #[] 5))) := by
    rw [H0.out, E3]
    exact own_empty (heap_alloc_new _ _) (Nat.le_refl _)
  have B3 := hide ((Below.refl w2.heap.size w2).alloc (Nat.le_refl _) (.cells #[] 5))
  clear E3 Z2 H0
  go_loopw [8, 9] (fun l i wr => ∃ (k : Nat) (v : Value), k ≤ m ∧ i = .int .i64 ((a : Int) + (k : Int)) ∧ l = v ∧ Hid (OwnB w2.heap.size v (ST k) wr) ∧ Hid (Below w2.heap.size w2 wr)) (fun _ i _ => a + m - (intOf i).toNat)
  case atStart => exact ⟨0, _, Nat.zero_le _, by simp, rfl, O3, B3⟩
  case round =>
    obtain ⟨k, v, hk, rfl, rfl, HO, HB⟩ := hrel
    clear O3 B3
    obtain ⟨ao', cap', hv⟩ := ownB_shape HO.out
    rw [HTL.out k (by omega)] at hv
    subst hv
    by_cases hlt : k < m
    · obtain ⟨eb, off, x, rfl, hgB, hx, hxm, c0⟩ := (SR.out.kept HB.out).at (a + k) (by omega)
      have hx64 : x.size = 64 := by rw [← hx]; exact H64.out _ (by omega)
      obtain ⟨v0, v1, vf⟩ := cells2 ((HB.out.block _ (blk_lt' V2.out)).trans V2.out)
      have HT := hide (HN.out k)
      rw [hx] at HT
      have HTK := HTL.out k (by omega)
      have HS63 : Hid ((ST k).length + x.size ≤ maxLen ∧ (ST k).length + x.size ≤ 140737488355328) := by rw [HTK, hx64]; show _ ∧ _; unfold maxLen; omega
      have HW : Hid (wr.ownsRow w2.heap.size 5 1 (.slice ao' (k * 64) cap') (ST k).length ((numsU (ST k)).map (Value.int .u8))) := HO
      clear hx hxm hx64 HTK
      go_wp2_with (at_builtin; refine Lib.wpList_append_own_string _ rfl _ _ 22 9 rfl w2.heap.size 5 i0 Try.underlying22 Try.underlying9 hi hz0 hz1 hz2 (.slice ao' (k * 64) cap') (ST k).length _ rfl HW.out x rfl HS63.out.1 HS63.out.2 HB.out.size ?_; intro v5 w5 o5 g5 l5; have O5 := hide (ownB_str x o5); have B5 := hide (HB.out.grown g5 HB.out.size (fun b hb => (World.ownsRow.lt HW.out b hb).1)); rw [← HT.out] at O5; clear o5 g5 l5)
      go_roundw
      case rel => exact ⟨k + 1, _, by omega, by go_num, rfl, O5, B5⟩
      case measure => simp [intOf]; omega
    · obtain rfl : k = m := by omega
      have HC := hide (OwnB.conv HO.out)
      have hconv := HC.out
      go_wp2
      go_ret
      exact ⟨rfl, B2.out.trans (HB.out.mono B2.out.size)⟩
end Go.Proofs.Ytfhfhpnoeghgmaa

/-
  What is read of a disk. Plain facts.
-/
namespace Go.Proofs.Ytfhfhpnoeghgmaa
open Go.RowKit
set_option maxRecDepth 100000

def rdFar (d : Dk) (a m : Int) : Prop := m < 0 ∨ 300 < m ∨ a < 0 ∨ (d.secs.length : Int) - m < a
instance (d : Dk) (a m : Int) : Decidable (rdFar d a m) := by unfold rdFar; infer_instance
/-- What a reading answers: no disk, a text, a code. -/
def dkRead (d : Dk) (a m : Int) : (Dk × Int) × ByteArray :=
  if dkRight d = false then ((⟨[], []⟩, 1), ⟨#[]⟩) else if rdFar d a m then ((⟨[], []⟩, 9), ⟨#[]⟩) else ((⟨[], []⟩, 0), mkS (secsT (flushL d.secs d.cache) a.toNat m.toNat))
theorem dkRead_1 {d : Dk} {a m : Int} (h : dkRight d = false) : dkRead d a m = ((⟨[], []⟩, 1), ⟨#[]⟩) := by unfold dkRead; rw [if_pos h]
theorem dkRead_9 {d : Dk} {a m : Int} (h : dkRight d = true) (h9 : rdFar d a m) : dkRead d a m = ((⟨[], []⟩, 9), ⟨#[]⟩) := by unfold dkRead; rw [if_neg (by rw [h]; simp), if_pos h9]
theorem dkRead_0 {d : Dk} {a m : Int} (h : dkRight d = true) (h9 : ¬ rdFar d a m) : dkRead d a m = ((⟨[], []⟩, 0), mkS (secsT (flushL d.secs d.cache) a.toNat m.toNat)) := by unfold dkRead; rw [if_neg (by rw [h]; simp), if_neg h9]
theorem dkRead_fits (d : Dk) (a m : Int) : dkFits (dkRead d a m).1.1 := by
  have h : dkFits ⟨[], []⟩ := ⟨by simp, by simp⟩
  unfold dkRead
  split
  · exact h
  · split <;> exact h
end Go.Proofs.Ytfhfhpnoeghgmaa

/-
  Contract: the specification's copy of a disk lies in rows of its own.
-/
namespace Go.Proofs.Ytfhfhpnoeghgmaa
open Go.RowKit
set_option maxRecDepth 100000

set_option maxHeartbeats 8000000 in
theorem l07Copy_own (b : Nat) (s c : Value) (d : Dk) (w : World) (hf : dkFits d) (h : OwnD b s c d w) :
    Calls Try.prog 62 #[.agg #[s, c]] w fun e w' => ∃ s' c', e = .returned (.agg #[s', c']) ∧ OwnD w.heap.size s' c' d w' ∧ Below w.heap.size w w' := by
  obtain ⟨i0, hi, hz0, hz1, hz2⟩ := info_parts Try.infoStr'
  obtain ⟨j0, hj, hy0, hy1, hy2⟩ := info_parts Try.infoWr
  obtain ⟨so, p, co, q, rfl, rfl⟩ := h.shape
  obtain ⟨ss, cs⟩ := d
  simp only at *
  have SRC := hide (And.intro h.secs h.cache)
  have HBS : Hid (0 + ss.length ≤ maxLen ∧ (0 + ss.length) * 16 ≤ 140737488355328) := by have := hf.1; simp only at this; show _ ∧ _; unfold maxLen; omega
  have HBW : Hid (0 + cs.length ≤ maxLen ∧ (0 + cs.length) * 24 ≤ 140737488355328) := by have := hf.2; simp only at this; show _ ∧ _; unfold maxLen; omega
  have C0 := hide (CI.start w (.slice so ss.length p) (.slice co cs.length q))
  clear h hf
  go_enter Try.func62, Try.ntmps62
  go_wp2
  have C1 := hide C0.out.drew
  clear C0
  generalize (w.alloc (.cells #[.slice so ss.length p, .slice co cs.length q] 26)).alloc (.cells #[.slice none 0 0, .slice none 0 0] 26) = W0 at *
  refine wp_region_noPanic ?_
  refine wp_region_held_drew (S := fun W => W.heap[w.heap.size]? = some (.cells #[.slice so ss.length p, .slice co cs.length q] 26 (0, 0))) (by kernel_rfl) C1.out.par (fun hS1 => ?_)
  generalize W0.drew = W1 at *
  refine takeD 1 4 (v := ?v1) rfl rfl (by kernel_rfl) (by kernel_rfl) (by kernel_rfl) (fun _ _ _ h => h) (by kernel_rfl) ?hy1 (by assumption) ?r1
  case hy1 => (intro W hSw; obtain ⟨x0, x1, xf⟩ := cells2 (hSw); go_simp; try with_reducible rfl)
  simp only [Act.put, List.setIfInBounds_toArray, List.set_cons_zero, List.set_cons_succ]
  refine takeD 2 5 (v := ?v2) rfl rfl (by kernel_rfl) (by kernel_rfl) (by kernel_rfl) (fun _ _ _ h => h) (by kernel_rfl) ?hy2 (by assumption) ?r2
  case hy2 => (intro W hSw; obtain ⟨x0, x1, xf⟩ := cells2 (hSw); go_simp; try with_reducible rfl)
  simp only [Act.put, List.setIfInBounds_toArray, List.set_cons_zero, List.set_cons_succ]
  refine takeD 5 8 (v := ?v3) rfl rfl (by kernel_rfl) (by kernel_rfl) (by kernel_rfl) (fun _ _ _ h => h) (by kernel_rfl) ?hy3 (by assumption) ?r3
  case hy3 => (intro W hSw; obtain ⟨x0, x1, xf⟩ := cells2 (hSw); go_simp; try with_reducible rfl)
  simp only [Act.put, List.setIfInBounds_toArray, List.set_cons_zero, List.set_cons_succ]
  refine takeD 6 9 (v := ?v4) rfl rfl (by kernel_rfl) (by kernel_rfl) (by kernel_rfl) (fun _ _ _ h => h) (by kernel_rfl) ?hy4 (by assumption) ?r4
  case hy4 => (intro W hSw; obtain ⟨x0, x1, xf⟩ := cells2 (hSw); go_simp; try with_reducible rfl)
  simp only [Act.put, List.setIfInBounds_toArray, List.set_cons_zero, List.set_cons_succ]
  refine wpAnyH_ready (rs := [0, 4]) (by kernel_rfl) (by simp) ?_
  refine AllReadyH.cons (o := _) rfl (fun K hK => ?_) (AllReadyH.cons (o := _) rfl (fun K hK => ?_) AllReadyH.nil)
  · skip
    go_simp
    have C2 := hide (C1.out.buildS)
    refine hK.out _ _ C2.out.par (fun hS2 => ?_)
    clear hK K
    generalize W1.alloc (.cells #[] 9) = W2 at *
    generalize W1.heap.size = e2 at *
    try simp only [Act.put, List.setIfInBounds_toArray, List.set_cons_zero, List.set_cons_succ]
    refine wpAnyH_ready (rs := [3, 4]) (by kernel_rfl) (by simp) ?_
    refine AllReadyH.cons (o := _) rfl (fun K hK => ?_) (AllReadyH.cons (o := _) rfl (fun K hK => ?_) AllReadyH.nil)
    · skip
      refine step_app_own rfl (.tmp 3) (.tmp 5) 23 rfl (w.heap.size + 2) b 9 i0 (.string ⟨#[]⟩) 1 16 Try.underlying23 hi hz0 hz1 hz2 rfl (by decide) _ 0 [] rfl C2.out.secs _ _ _ rfl (owns_below SRC.out.1 C2.out.below) (strsV_one _) HBS.out.1 HBS.out.2 C2.out.lt ?_
      intro v3 W3 o3 g3 l3
      have C3 := hide (C2.out.appS o3 g3 l3)
      clear o3 g3 l3
      refine hK.out _ _ C3.out.par (fun hS3 => ?_)
      clear hK K
      simp only [List.getElem_toArray, List.getElem_cons_succ, List.getElem_cons_zero, Act.put, List.setIfInBounds_toArray, List.set_cons_zero, List.set_cons_succ]
      refine wpAnyH_ready (rs := [4]) (by kernel_rfl) (by simp) ?_
      refine AllReadyH.cons (o := _) rfl (fun K hK => ?_) AllReadyH.nil
      · skip
        go_simp
        have C4 := hide (C3.out.buildW)
        refine hK.out _ _ C4.out.par (fun hS4 => ?_)
        clear hK K
        generalize W3.alloc (.cells #[] 122) = W4 at *
        generalize W3.heap.size = e4 at *
        try simp only [Act.put, List.setIfInBounds_toArray, List.set_cons_zero, List.set_cons_succ]
        refine wpAnyH_ready (rs := [7]) (by kernel_rfl) (by simp) ?_
        refine AllReadyH.cons (o := _) rfl (fun K hK => ?_) AllReadyH.nil
        · skip
          refine step_app_own rfl (.tmp 7) (.tmp 9) 24 rfl (w.heap.size + 2) b 122 j0 (.agg #[.int .i64 0, .string ⟨#[]⟩]) 2 24 Try.underlying24 hj hy0 hy1 hy2 rfl (by decide) _ 0 [] rfl C4.out.cache _ _ _ rfl (owns_below SRC.out.2 C4.out.below) (flatW_one _) HBW.out.1 HBW.out.2 C4.out.lt ?_
          intro v5 W5 o5 g5 l5
          have C5 := hide (C4.out.appW o5 g5 l5)
          clear o5 g5 l5
          refine hK.out _ _ C5.out.par (fun hS5 => ?_)
          clear hK K
          simp only [List.getElem_toArray, List.getElem_cons_succ, List.getElem_cons_zero, Act.put, List.setIfInBounds_toArray, List.set_cons_zero, List.set_cons_succ]
          obtain ⟨so', p', hs'⟩ := ownS_shape C5.out.secs
          obtain ⟨co', q', hc'⟩ := ownW_shape C5.out.cache
          subst hs' hc'
          refine takeD 8 11 (v := ?v5) rfl rfl (by kernel_rfl) (by kernel_rfl) (by kernel_rfl) (fun _ _ _ h => h) (by kernel_rfl) ?hy5 (by assumption) ?r5
          case hy5 => (intro W hSw; go_simp; try with_reducible rfl)
          simp only [Act.put, List.setIfInBounds_toArray, List.set_cons_zero, List.set_cons_succ]
          refine wpAnyH_ready (rs := [9]) (by kernel_rfl) (by simp) ?_
          refine AllReadyH.cons (o := _) rfl (fun K hK => ?_) AllReadyH.nil
          obtain ⟨y0, y1, yf⟩ := cells2 C5.out.res
          go_simp
          refine hK.out _ _ C5.out.par2 (fun hS => ?_)
          clear hK K
          refine wpAnyH_done (by kernel_rfl) ?_ _
          refine NoPanic.normal ?_
          go_wp2
          exact bodyPost_ret (v := .agg #[.slice so' ss.length p', .slice co' cs.length q']) (resDisk Try.results62 _ _ (w.heap.size + 1) _ _ rfl (set2 C5.out.res)) rfl ⟨_, _, rfl, C5.out.out2.1, C5.out.out2.2⟩
    · skip
      go_simp
      have C3 := hide (C2.out.buildW)
      refine hK.out _ _ C3.out.par (fun hS3 => ?_)
      clear hK K
      generalize W2.alloc (.cells #[] 122) = W3 at *
      generalize W2.heap.size = e3 at *
      try simp only [Act.put, List.setIfInBounds_toArray, List.set_cons_zero, List.set_cons_succ]
      refine wpAnyH_ready (rs := [3]) (by kernel_rfl) (by simp) ?_
      refine AllReadyH.cons (o := _) rfl (fun K hK => ?_) AllReadyH.nil
      · skip
        refine step_app_own rfl (.tmp 3) (.tmp 5) 23 rfl (w.heap.size + 2) b 9 i0 (.string ⟨#[]⟩) 1 16 Try.underlying23 hi hz0 hz1 hz2 rfl (by decide) _ 0 [] rfl C3.out.secs _ _ _ rfl (owns_below SRC.out.1 C3.out.below) (strsV_one _) HBS.out.1 HBS.out.2 C3.out.lt ?_
        intro v4 W4 o4 g4 l4
        have C4 := hide (C3.out.appS o4 g4 l4)
        clear o4 g4 l4
        refine hK.out _ _ C4.out.par (fun hS4 => ?_)
        clear hK K
        simp only [List.getElem_toArray, List.getElem_cons_succ, List.getElem_cons_zero, Act.put, List.setIfInBounds_toArray, List.set_cons_zero, List.set_cons_succ]
        refine wpAnyH_ready (rs := [7]) (by kernel_rfl) (by simp) ?_
        refine AllReadyH.cons (o := _) rfl (fun K hK => ?_) AllReadyH.nil
        · skip
          refine step_app_own rfl (.tmp 7) (.tmp 9) 24 rfl (w.heap.size + 2) b 122 j0 (.agg #[.int .i64 0, .string ⟨#[]⟩]) 2 24 Try.underlying24 hj hy0 hy1 hy2 rfl (by decide) _ 0 [] rfl C4.out.cache _ _ _ rfl (owns_below SRC.out.2 C4.out.below) (flatW_one _) HBW.out.1 HBW.out.2 C4.out.lt ?_
          intro v5 W5 o5 g5 l5
          have C5 := hide (C4.out.appW o5 g5 l5)
          clear o5 g5 l5
          refine hK.out _ _ C5.out.par (fun hS5 => ?_)
          clear hK K
          simp only [List.getElem_toArray, List.getElem_cons_succ, List.getElem_cons_zero, Act.put, List.setIfInBounds_toArray, List.set_cons_zero, List.set_cons_succ]
          obtain ⟨so', p', hs'⟩ := ownS_shape C5.out.secs
          obtain ⟨co', q', hc'⟩ := ownW_shape C5.out.cache
          subst hs' hc'
          refine takeD 8 11 (v := ?v6) rfl rfl (by kernel_rfl) (by kernel_rfl) (by kernel_rfl) (fun _ _ _ h => h) (by kernel_rfl) ?hy6 (by assumption) ?r6
          case hy6 => (intro W hSw; go_simp; try with_reducible rfl)
          simp only [Act.put, List.setIfInBounds_toArray, List.set_cons_zero, List.set_cons_succ]
          refine wpAnyH_ready (rs := [9]) (by kernel_rfl) (by simp) ?_
          refine AllReadyH.cons (o := _) rfl (fun K hK => ?_) AllReadyH.nil
          obtain ⟨y0, y1, yf⟩ := cells2 C5.out.res
          go_simp
          refine hK.out _ _ C5.out.par2 (fun hS => ?_)
          clear hK K
          refine wpAnyH_done (by kernel_rfl) ?_ _
          refine NoPanic.normal ?_
          go_wp2
          exact bodyPost_ret (v := .agg #[.slice so' ss.length p', .slice co' cs.length q']) (resDisk Try.results62 _ _ (w.heap.size + 1) _ _ rfl (set2 C5.out.res)) rfl ⟨_, _, rfl, C5.out.out2.1, C5.out.out2.2⟩
  · skip
    go_simp
    have C2 := hide (C1.out.buildW)
    refine hK.out _ _ C2.out.par (fun hS2 => ?_)
    clear hK K
    generalize W1.alloc (.cells #[] 122) = W2 at *
    generalize W1.heap.size = e2 at *
    try simp only [Act.put, List.setIfInBounds_toArray, List.set_cons_zero, List.set_cons_succ]
    refine wpAnyH_ready (rs := [0]) (by kernel_rfl) (by simp) ?_
    refine AllReadyH.cons (o := _) rfl (fun K hK => ?_) AllReadyH.nil
    · skip
      go_simp
      have C3 := hide (C2.out.buildS)
      refine hK.out _ _ C3.out.par (fun hS3 => ?_)
      clear hK K
      generalize W2.alloc (.cells #[] 9) = W3 at *
      generalize W2.heap.size = e3 at *
      try simp only [Act.put, List.setIfInBounds_toArray, List.set_cons_zero, List.set_cons_succ]
      refine wpAnyH_ready (rs := [3]) (by kernel_rfl) (by simp) ?_
      refine AllReadyH.cons (o := _) rfl (fun K hK => ?_) AllReadyH.nil
      · skip
        refine step_app_own rfl (.tmp 3) (.tmp 5) 23 rfl (w.heap.size + 2) b 9 i0 (.string ⟨#[]⟩) 1 16 Try.underlying23 hi hz0 hz1 hz2 rfl (by decide) _ 0 [] rfl C3.out.secs _ _ _ rfl (owns_below SRC.out.1 C3.out.below) (strsV_one _) HBS.out.1 HBS.out.2 C3.out.lt ?_
        intro v4 W4 o4 g4 l4
        have C4 := hide (C3.out.appS o4 g4 l4)
        clear o4 g4 l4
        refine hK.out _ _ C4.out.par (fun hS4 => ?_)
        clear hK K
        simp only [List.getElem_toArray, List.getElem_cons_succ, List.getElem_cons_zero, Act.put, List.setIfInBounds_toArray, List.set_cons_zero, List.set_cons_succ]
        refine wpAnyH_ready (rs := [7]) (by kernel_rfl) (by simp) ?_
        refine AllReadyH.cons (o := _) rfl (fun K hK => ?_) AllReadyH.nil
        · skip
          refine step_app_own rfl (.tmp 7) (.tmp 9) 24 rfl (w.heap.size + 2) b 122 j0 (.agg #[.int .i64 0, .string ⟨#[]⟩]) 2 24 Try.underlying24 hj hy0 hy1 hy2 rfl (by decide) _ 0 [] rfl C4.out.cache _ _ _ rfl (owns_below SRC.out.2 C4.out.below) (flatW_one _) HBW.out.1 HBW.out.2 C4.out.lt ?_
          intro v5 W5 o5 g5 l5
          have C5 := hide (C4.out.appW o5 g5 l5)
          clear o5 g5 l5
          refine hK.out _ _ C5.out.par (fun hS5 => ?_)
          clear hK K
          simp only [List.getElem_toArray, List.getElem_cons_succ, List.getElem_cons_zero, Act.put, List.setIfInBounds_toArray, List.set_cons_zero, List.set_cons_succ]
          obtain ⟨so', p', hs'⟩ := ownS_shape C5.out.secs
          obtain ⟨co', q', hc'⟩ := ownW_shape C5.out.cache
          subst hs' hc'
          refine takeD 8 11 (v := ?v7) rfl rfl (by kernel_rfl) (by kernel_rfl) (by kernel_rfl) (fun _ _ _ h => h) (by kernel_rfl) ?hy7 (by assumption) ?r7
          case hy7 => (intro W hSw; go_simp; try with_reducible rfl)
          simp only [Act.put, List.setIfInBounds_toArray, List.set_cons_zero, List.set_cons_succ]
          refine wpAnyH_ready (rs := [9]) (by kernel_rfl) (by simp) ?_
          refine AllReadyH.cons (o := _) rfl (fun K hK => ?_) AllReadyH.nil
          obtain ⟨y0, y1, yf⟩ := cells2 C5.out.res
          go_simp
          refine hK.out _ _ C5.out.par2 (fun hS => ?_)
          clear hK K
          refine wpAnyH_done (by kernel_rfl) ?_ _
          refine NoPanic.normal ?_
          go_wp2
          exact bodyPost_ret (v := .agg #[.slice so' ss.length p', .slice co' cs.length q']) (resDisk Try.results62 _ _ (w.heap.size + 1) _ _ rfl (set2 C5.out.res)) rfl ⟨_, _, rfl, C5.out.out2.1, C5.out.out2.2⟩
end Go.Proofs.Ytfhfhpnoeghgmaa

/-
  Contract: is a disk right? The specification's answer.
-/
namespace Go.Proofs.Ytfhfhpnoeghgmaa
open Go.RowKit
set_option maxRecDepth 100000

set_option maxHeartbeats 4000000 in
theorem specDiskRight_any (A B : Nat) (so : Option Addr) (p : Nat) (co : Option Addr) (q : Nat) (d : Dk) (w : World) (hB : B ≤ w.heap.size) (hr : DkRow w A B so co d) :
    Calls Try.prog 58 #[.agg #[.slice so d.secs.length p, .slice co d.cache.length q]] w fun e w' => e = .returned (.bool (dkRight d)) ∧ Below w.heap.size w w' := by
  have HL := hide (fun h => dkRight_long (d := d) h)
  have HSN := hide (fun k (x : ByteArray) (hk : k < d.secs.length) (hv : d.secs.getD k ByteArray.empty = x) (hx : ¬ x.size = 64) => dkRight_sec hk (by rw [secOk_of hv]; simpa using hx))
  have HSY := hide (fun k (x : ByteArray) (h : upto (secOk d) k = true) (hv : d.secs.getD k ByteArray.empty = x) (hx : x.size = 64) => upto_next h (by rw [secOk_of hv]; simpa using hx))
  have HWN := hide (fun k (n : Int) (t : ByteArray) (hk : k < d.cache.length) (hv : d.cache.getD k noWr = ⟨n, t⟩) (hx : n < 0 ∨ (d.secs.length : Int) ≤ n ∨ ¬ t.size = 64) => dkRight_wr hk (by rw [wrOk_of hv]; rcases hx with h | h | h <;> simp <;> omega))
  have HWY := hide (fun k (n : Int) (t : ByteArray) (h : upto (wrOk d) k = true) (hv : d.cache.getD k noWr = ⟨n, t⟩) (h0 : 0 ≤ n) (h1 : n < (d.secs.length : Int)) (hx : t.size = 64) => upto_next h (by rw [wrOk_of hv]; simp [h0, h1, hx]))
  have HYES := hide (fun h1 h2 h3 h4 => dkRight_yes (d := d) h1 h2 h3 h4)
  have HU1 : Hid (upto (secOk d) 0 = true) := rfl
  have HU2 : Hid (upto (wrOk d) 0 = true) := rfl
  generalize dkRight d = R at *
  generalize secOk d = SO at *
  generalize wrOk d = WO at *
  obtain ⟨ss, cs⟩ := d
  obtain ⟨⟨hl1, hl2⟩, hs, hc⟩ := hr
  simp only at *
  have HS := hide hs
  have HC := hide hc
  clear hs hc
  unfold maxLen at hl1 hl2
  have B0 := hide ((Below.refl w.heap.size w).alloc (Nat.le_refl _) (.cells #[.slice so ss.length p, .slice co cs.length q] 26))
  have X0 := hide (heap_alloc_new w (.cells #[.slice so ss.length p, .slice co cs.length q] 26))
  by_cases hlong : 700 < ss.length ∨ 400 < cs.length
  · have HF := hide (HL.out hlong)
    clear HSN HSY HWN HWY HYES HL HU1 HU2 X0
    rcases hlong with h | h
    · go_enter Try.func58, Try.ntmps58
      go_wp2
      go_ret
      exact ⟨ret_bool HF.out.symm, B0.out⟩
    · by_cases h1 : 700 < ss.length
      · go_enter Try.func58, Try.ntmps58
        go_wp2
        go_ret
        exact ⟨ret_bool HF.out.symm, B0.out⟩
      · go_enter Try.func58, Try.ntmps58
        go_wp2
        go_ret
        exact ⟨ret_bool HF.out.symm, B0.out⟩
  · have h1 : ¬ 700 < ss.length := by omega
    have h2 : ¬ 400 < cs.length := by omega
    clear hlong HL
    go_enter Try.func58, Try.ntmps58
    go_wp2
    have Z0 : Hid ((w.alloc (.cells #[.slice so ss.length p, .slice co cs.length q] 26)).heap.size = w.heap.size + 1) := by show _ = _; simp
    generalize w.alloc (.cells #[.slice so ss.length p, .slice co cs.length q] 26) = W0 at *
    obtain ⟨x0, x1, xf⟩ := cells2 X0.out
    go_loop [3] (fun i => ∃ k : Nat, k ≤ ss.length ∧ i = .int .i64 k ∧ Hid (upto SO k = true)) (fun i => ss.length - (intOf i).toNat)
    case atStart => exact ⟨0, Nat.zero_le _, rfl, HU1⟩
    case round =>
      obtain ⟨k, hk, rfl, HU⟩ := hrel
      by_cases hlt : k < ss.length
      · obtain ⟨b, off, x, rfl, hbB, hv, hx, d0⟩ := (HS.out.kept (B0.out.mono hB)).at k hlt
        unfold maxLen at hx
        by_cases h64 : x.size = 64
        · have HU2' := hide (HSY.out k x HU.out hv h64)
          have h64' : (x.size : Int) = 64 := by omega
          clear hv HSN HSY HWN HWY HYES HU HU1 HU2 h64
          go_wp2
          go_round
          case rel => exact ⟨k + 1, by omega, by go_num, HU2'⟩
          case measure => simp [intOf]; omega
        · have HF := hide (HSN.out k x hlt hv h64)
          have h64' : ¬ (x.size : Int) = 64 := by omega
          clear hv HSN HSY HWN HWY HYES HU HU1 HU2 h64
          go_wp2
          go_ret
          exact ⟨ret_bool HF.out.symm, B0.out⟩
      · obtain rfl : k = ss.length := by omega
        have HUS := HU
        clear HU HSN HSY HU1 HS
        go_wp2
        go_loopw [4] (fun i wr => ∃ k : Nat, k ≤ cs.length ∧ i = .int .i64 k ∧ Hid (upto WO k = true) ∧ Below W0.heap.size W0 wr) (fun i _ => cs.length - (intOf i).toNat)
        case atStart => exact ⟨0, Nat.zero_le _, rfl, HU2, Below.refl _ _⟩
        case round =>
          obtain ⟨k, hk, rfl, HU, hb⟩ := hrel
          have X1 := hide ((hb.block w.heap.size (by rw [Z0.out]; omega)).trans X0.out)
          have B1 := hide (B0.out.trans (hb.mono B0.out.size))
          obtain ⟨x0, x1, xf⟩ := cells2 X1.out
          by_cases hlt : k < cs.length
          · obtain ⟨b, off, nn, tt, rfl, hbB, hv, htt, hki, d0, d1⟩ := (HC.out.kept (B1.out.mono hB)).at k hlt
            have hq1 : b < wr.heap.size := by have := B1.out.size; omega
            have hz1 : w.heap.size < wr.heap.size := by have := hb.size; have := Z0.out; omega
            unfold maxLen at htt
            unfold wI64 at hki
            have B2 := hide ((hb.alloc hb.size (.cells #[.int .i64 nn, .string tt] 122)))
            have B3 := hide (B0.out.trans (B2.out.mono B0.out.size))
            by_cases hbad : nn < 0 ∨ (ss.length : Int) ≤ nn ∨ ¬ tt.size = 64
            · have HF := hide (HWN.out k nn tt hlt hv hbad)
              clear hv HWN HWY HYES HU HU2 B1 hb B2 HUS
              by_cases h0 : nn < 0
              · go_wp2
                go_ret
                exact ⟨ret_bool HF.out.symm, B3.out⟩
              by_cases h1' : (ss.length : Int) ≤ nn
              · go_wp2
                go_ret
                exact ⟨ret_bool HF.out.symm, B3.out⟩
              · have h64 : ¬ (tt.size : Int) = 64 := by omega
                clear hbad
                go_wp2
                go_ret
                exact ⟨ret_bool HF.out.symm, B3.out⟩
            · have h0 : ¬ nn < 0 := by omega
              have h1' : ¬ (ss.length : Int) ≤ nn := by omega
              have h64 : (tt.size : Int) = 64 := by omega
              have HU3 := hide (HWY.out k nn tt HU.out hv (by omega) (by omega) (by omega))
              clear hv HWN HWY HYES HU HU2 B1 hb B3 HUS hbad
              go_wp2
              go_roundw
              case rel => exact ⟨k + 1, by omega, by go_num, HU3, B2.out⟩
              case measure => simp [intOf]; omega
          · obtain rfl : k = cs.length := by omega
            have HF := hide (HYES.out (by omega) (by omega) HUS.out HU.out)
            clear HWN HWY HYES HU HU2 hb HUS
            go_wp2
            go_ret
            exact ⟨ret_bool HF.out.symm, B1.out⟩
end Go.Proofs.Ytfhfhpnoeghgmaa

/-
  Contract: DiskFlush of the specification.
-/
namespace Go.Proofs.Ytfhfhpnoeghgmaa
open Go.RowKit
set_option maxRecDepth 100000

def dkFlush (d : Dk) : Dk := if dkRight d = true then ⟨flushL d.secs d.cache, []⟩ else d
theorem dkFlush_n {d : Dk} (h : dkRight d = false) : dkFlush d = d := by unfold dkFlush; rw [if_neg (by rw [h]; simp)]
theorem dkFlush_y {d : Dk} (h : dkRight d = true) : dkFlush d = ⟨flushL d.secs d.cache, []⟩ := by unfold dkFlush; rw [if_pos h]
theorem dkFlush_fits {d : Dk} (h : dkFits d) : dkFits (dkFlush d) := by
  unfold dkFlush
  split
  · exact ⟨by simpa [flushL_len] using h.1, by simp⟩
  · exact h
set_option maxHeartbeats 8000000 in
theorem specDiskFlush_any (b : Nat) (s c : Value) (d : Dk) (w : World) (hi : dkIn d) (hf : dkFits d) (h : OwnD b s c d w) :
    Calls Try.prog 18 #[.agg #[s, c]] w fun e w' => ∃ s' c', e = .returned (.agg #[s', c']) ∧ OwnD w.heap.size s' c' (dkFlush d) w' ∧ Below w.heap.size w w' := by
  obtain ⟨so, p, co, q, rfl, rfl, hr⟩ := h.row hi
  obtain ⟨n1, hn1⟩ : ∃ n, n = d.secs.length := ⟨_, rfl⟩
  obtain ⟨n2, hn2⟩ : ∃ n, n = d.cache.length := ⟨_, rfl⟩
  have HA := two_allocs w (.cells #[.slice so n1 p, .slice co n2 q] 26) (.cells #[.slice none 0 0, .slice none 0 0] 26)
  have B0 := hide (((Below.refl w.heap.size w).alloc (Nat.le_refl _) (.cells #[.slice so n1 p, .slice co n2 q] 26)).alloc (by simp) (.cells #[.slice none 0 0, .slice none 0 0] 26))
  have X0 := hide HA.1
  have Y0 := hide HA.2.1
  have HSP := hide (fun (W : World) (hb : Below w.heap.size w W) => specDiskRight_any _ _ so p co q d W hb.size (hr.kept hb))
  rw [← hn1, ← hn2] at h HSP ⊢
  obtain ⟨x0, x1, xf⟩ := cells2 X0.out
  clear HA
  cases hdr : dkRight d with
  | false =>
    rw [dkFlush_n hdr]
    rw [hdr] at HSP
    have HC := hide (fun (W : World) (hb : Below w.heap.size w W) => l07Copy_own _ _ _ d W hf (h.below hb))
    clear hi hf h hr hdr hn1 hn2
    go_enter Try.func18, Try.ntmps18
    go_wp2_with (first | (go_at_call 58; refine (HSP.out _ B0.out).mono ?_; rintro e w1 ⟨rfl, b1⟩; have Y1 := hide ((b1.block (w.heap.size + 1) (by simp)).trans Y0.out); have X1 := hide ((b1.block w.heap.size (by simp; omega)).trans X0.out); have B1 := hide (B0.out.trans (b1.mono B0.out.size)); clear x0 x1 xf; obtain ⟨x0, x1, xf⟩ := cells2 X1.out; clear b1) | (go_at_call 62; refine (HC.out _ B1.out).mono ?_; rintro e w2 ⟨s2, c2, rfl, o2, b2⟩; have Y2 := hide ((b2.block (w.heap.size + 1) (blk_lt' Y1.out)).trans Y1.out); have B2 := hide (B1.out.trans (b2.mono B1.out.size)); have O2 := hide (o2.base (show w.heap.size + 2 ≤ _ from blk_lt' Y1.out)); obtain ⟨so2, p2, co2, q2, rfl, rfl⟩ := o2.shape; obtain ⟨y0, y1, yf⟩ := cells2 Y2.out; clear b2 o2))
    refine bodyPost_ret (v := .agg #[.slice so2 d.secs.length p2, .slice co2 d.cache.length q2]) (resDisk Try.results18 _ _ (w.heap.size + 1) _ _ rfl (set2 Y2.out)) rfl ⟨_, _, rfl, ?_, ?_⟩
    · exact ((O2.out.set (by omega)).set (by omega)).base (by omega)
    · exact (B2.out.setCell (by simp) _).setCell (by simp) _
  | true =>
    rw [dkFlush_y hdr]
    rw [hdr] at HSP
    have HC := hide (fun (W : World) (hb : Below w.heap.size w W) => l07Flush_all _ _ _ d W hdr hf hi (h.below hb))
    generalize flushL d.secs d.cache = fl at *
    clear hi hf h hr hdr hn1 hn2
    go_enter Try.func18, Try.ntmps18
    go_wp2_with (first | (go_at_call 58; refine (HSP.out _ B0.out).mono ?_; rintro e w1 ⟨rfl, b1⟩; have Y1 := hide ((b1.block (w.heap.size + 1) (by simp)).trans Y0.out); have X1 := hide ((b1.block w.heap.size (by simp; omega)).trans X0.out); have B1 := hide (B0.out.trans (b1.mono B0.out.size)); clear x0 x1 xf; obtain ⟨x0, x1, xf⟩ := cells2 X1.out; clear b1) | (go_at_call 63; refine (HC.out _ B1.out).mono ?_; rintro e w2 ⟨v2, rfl, o2, b2⟩; have Y2 := hide ((b2.block (w.heap.size + 1) (blk_lt' Y1.out)).trans Y1.out); have B2 := hide (B1.out.trans (b2.mono B1.out.size)); have O2 := hide (owns_base o2 (show w.heap.size + 2 ≤ _ from blk_lt' Y1.out)); obtain ⟨so2, p2, rfl⟩ := ownS_shape o2; obtain ⟨y0, y1, yf⟩ := cells2 Y2.out; clear b2 o2))
    refine bodyPost_ret (v := .agg #[.slice so2 fl.length p2, .slice none 0 0]) (resDisk Try.results18 _ _ (w.heap.size + 1) _ _ rfl (set2 Y2.out)) rfl ⟨_, _, rfl, ⟨owns_base (own_set (own_set O2.out (by omega)) (by omega)) (by omega), ownW_nil _ _, ?_⟩, ?_⟩
    · cases so2 with
      | none => exact .inl rfl
      | some x => exact .inr (by simp [Value.ownBlock])
    · exact (B2.out.setCell (by simp) _).setCell (by simp) _
end Go.Proofs.Ytfhfhpnoeghgmaa

/-
  Contract: the writes that a crash does not lose.
-/
namespace Go.Proofs.Ytfhfhpnoeghgmaa
open Go.RowKit
set_option maxRecDepth 100000

def boolsV (l : List Bool) : List Value := l.map Value.bool
/-- A slice of bools that the call has made. -/
def OwnL (base : Nat) (v : Value) (l : List Bool) (w : World) : Prop := w.ownsRow base 4 1 v l.length (boolsV l)
theorem ownL_shape {base : Nat} {v : Value} {l : List Bool} {w : World} (h : OwnL base v l w) : ∃ ao cap, v = .slice ao l.length cap ∧ ∀ k, k < l.length → ∃ e, ao = some ⟨e, 0, none⟩ ∧ e < w.heap.size ∧ w.cell? ⟨e, k, none⟩ = some (.bool (l.getD k false)) := by
  rcases h.2 with ⟨h1, h2⟩ | ⟨g, cap, cur, h1, hB, hq, hn', hm, hs, hc⟩
  · exact ⟨none, 0, by rw [h1, h2], fun k hk => by omega⟩
  · refine ⟨_, _, h1, fun k hk => ⟨g, rfl, (Array.getElem?_eq_some_iff.1 hq).1, ?_⟩⟩
    rw [cell_of_row _ _ _ _ _ _ hq]
    have h8 : (cur.toList.take (l.length * 1))[k]? = (boolsV l)[k]? := by rw [hc]
    rw [List.getElem?_take_of_lt (by omega)] at h8
    rw [← Array.getElem?_toList, h8]
    simp [boolsV, List.getD_eq_getElem?_getD, List.getElem?_eq_getElem hk]
/-- Of the first writes those that are kept. -/
def keptN (cs : List Wr) (kl : List Bool) : Nat → List Wr
  | 0 => []
  | k + 1 => if kl.getD k false = true then keptN cs kl k ++ [cs.getD k noWr] else keptN cs kl k
theorem keptN_len (cs : List Wr) (kl : List Bool) : ∀ k, (keptN cs kl k).length ≤ k
  | 0 => Nat.le_refl _
  | k + 1 => by
    have := keptN_len cs kl k
    unfold keptN
    split
    · simp; omega
    · omega
theorem keptN_yes {cs : List Wr} {kl : List Bool} {k : Nat} (h : kl.getD k false = true) : keptN cs kl (k + 1) = keptN cs kl k ++ [cs.getD k noWr] := by
  rw [keptN, if_pos h]
theorem keptN_no {cs : List Wr} {kl : List Bool} {k : Nat} (h : kl.getD k false = false) : keptN cs kl (k + 1) = keptN cs kl k := by
  rw [keptN, if_neg (by rw [h]; simp)]
set_option maxHeartbeats 4000000 in
theorem keptOf_own (b1 b2 : Nat) (c kv : Value) (cs : List Wr) (kl : List Bool) (w : World) (hcs : cs.length ≤ 1048576) (hin : ∀ x ∈ cs, wI64 x.pos ∧ x.text.size ≤ maxLen) (h : OwnW b1 c cs w) (hk : OwnL b2 kv kl w) :
    Calls Try.prog 68 #[c, kv] w fun e w' => ∃ v, e = .returned v ∧ OwnW w.heap.size v (keptN cs kl cs.length) w' ∧ Below w.heap.size w w' := by
  obtain ⟨j0, hj, hy0, hy1, hy2⟩ := info_parts Try.infoWr
  obtain ⟨co, q, rfl, _, hrow⟩ := ownW_row h hin
  obtain ⟨ko, r, rfl, hks⟩ := ownL_shape hk
  have HROW := hide hrow
  have HKS := hide hks
  have HK0 : Hid (keptN cs kl 0 = []) := rfl
  have HKL := hide (fun k => keptN_len cs kl k)
  have HKY := hide (fun k (x : Wr) (h : kl.getD k false = true) (hx : cs.getD k noWr = x) => show keptN cs kl (k + 1) = keptN cs kl k ++ [x] from hx ▸ keptN_yes h)
  have HKN := hide (fun k (h : kl.getD k false = false) => keptN_no (cs := cs) h)
  clear h hk hrow hks hin
  generalize keptN cs kl = KN at *
  go_enter Try.func68, Try.ntmps68
  go_wp2
  go_loopw [5, 10] (fun l i wr => ∃ (k : Nat) (v : Value), k ≤ cs.length ∧ i = .int .i64 k ∧ l = v ∧ Hid (OwnW w.heap.size v (KN k) wr) ∧ Hid (Below w.heap.size w wr)) (fun _ i _ => cs.length - (intOf i).toNat)
  case atStart => exact ⟨0, _, Nat.zero_le _, rfl, rfl, (by rw [HK0.out]; exact ownW_nil w.heap.size w), Below.refl _ _⟩
  case round =>
    obtain ⟨k, v, hk, rfl, rfl, HO, HB⟩ := hrel
    obtain ⟨ao, cap, hv⟩ := ownW_shape HO.out
    subst hv
    by_cases hlt : k < cs.length
    · have hL := HKL.out k
      have HLH := hide hL
      have HNL : Hid ((KN k).length + 1 ≤ maxLen ∧ ((KN k).length + 1) * 24 ≤ 140737488355328) := by show _ ∧ _; unfold maxLen; omega
      clear hL
      have BA1 := (Below.refl wr.heap.size wr)
      obtain ⟨cb, off, n, t, rfl, hbB, hcv, htt, hki, d0, d1⟩ := (HROW.out.kept HB.out).at k hlt
      have K1 := (Below.refl wr.heap.size wr).alloc (Nat.le_refl _) (.cells #[.int .i64 n, .string t] 122)
      have O1 := hide (owns_below HO.out K1)
      have B1 := hide (HB.out.trans (K1.mono HB.out.size))
      clear BA1
      by_cases hkk : k < kl.length
      · obtain ⟨e, rfl, he, hce⟩ := HKS.out k hkk
        have hce' : (wr.alloc (.cells #[.int .i64 n, .string t] 122)).cell? ⟨e, k, none⟩ = some (.bool (kl.getD k false)) := (B1.out.cell (p := ⟨e, k, none⟩) he).trans hce
        clear hce
        cases hb : kl.getD k false with
        | false =>
          rw [hb] at hce'
          have O2 : Hid (OwnW w.heap.size (.slice ao (KN k).length cap) (KN (k + 1)) (wr.alloc (.cells #[.int .i64 n, .string t] 122))) := by rw [HKN.out k hb]; exact O1.out
          clear HO HB K1 hki htt hcv
          go_wp2
          go_roundw
          case rel => exact ⟨k + 1, _, by omega, by go_num, rfl, O2, B1⟩
          case measure => simp [intOf]; omega
        | true =>
          rw [hb] at hce'
          have HT := hide (HKY.out k _ hb hcv)
          have O3 := hide (World.ownsRow.alloc O1.out (.cells #[.int .i64 n, .string t] 122))
          have B3 := hide (B1.out.alloc B1.out.size (.cells #[.int .i64 n, .string t] 122))
          have s3 := own_wr_one (wr.alloc (.cells #[.int .i64 n, .string t] 122)) n t
          rw [show (wr.alloc (.cells #[.int .i64 n, .string t] 122)).heap.size = wr.heap.size + 1 from by simp] at s3
          have S3 := hide s3
          clear s3
          clear HO HB K1 hki htt hcv
          go_wp2_with (at_builtin; refine wpList_app_own rfl _ _ 24 rfl w.heap.size _ 122 j0 (.agg #[.int .i64 0, .string ⟨#[]⟩]) 2 24 Try.underlying24 hj hy0 hy1 hy2 rfl (by decide) _ (KN k).length _ rfl O3.out _ 1 _ rfl S3.out (wr_one _ _) HNL.out.1 HNL.out.2 B3.out.size ?_; intro v5 w5 o5 g5 l5; have O5 := hide (ownW_snoc o5 rfl); have B5 := hide (B3.out.grown g5 B3.out.size (fun b hb => (World.ownsRow.lt O3.out b hb).1)); rw [← HT.out] at O5; clear o5 g5 l5)
          go_roundw
          case rel => exact ⟨k + 1, _, by omega, by go_num, rfl, O5, B5⟩
          case measure => simp [intOf]; omega
      · have hb : kl.getD k false = false := by rw [List.getD_eq_getElem?_getD, List.getElem?_eq_none (by omega)]; rfl
        have O2 : Hid (OwnW w.heap.size (.slice ao (KN k).length cap) (KN (k + 1)) (wr.alloc (.cells #[.int .i64 n, .string t] 122))) := by rw [HKN.out k hb]; exact O1.out
        clear HO HB K1 hki htt hcv
        go_wp2
        go_roundw
        case rel => exact ⟨k + 1, _, by omega, by go_num, rfl, O2, B1⟩
        case measure => simp [intOf]; omega
    · obtain rfl : k = cs.length := by omega
      go_wp2
      go_ret
      exact ⟨_, rfl, HO.out, HB.out⟩
end Go.Proofs.Ytfhfhpnoeghgmaa

/-
  Contract: the specification's flush: the kept writes done one behind the other, in a row of their own.
-/
namespace Go.Proofs.Ytfhfhpnoeghgmaa
open Go.RowKit
set_option maxRecDepth 100000

set_option maxHeartbeats 8000000 in
theorem l07Flush_keep (b b2 : Nat) (s c kv : Value) (d : Dk) (kl : List Bool) (w : World) (hR : dkRight d = true) (hf : dkFits d) (hin : dkIn d) (h : OwnD b s c d w) (hkv : OwnL b2 kv kl w) :
    Calls Try.prog 63 #[.agg #[s, c], kv, .bool false] w fun e w' => ∃ v, e = .returned (.agg #[v, .slice none 0 0]) ∧ OwnS w.heap.size v (flushL d.secs (keptN d.cache kl d.cache.length)) w' ∧ Below w.heap.size w w' := by
  obtain ⟨i0, hi, hz0, hz1, hz2⟩ := info_parts Try.infoStr'
  obtain ⟨so, p, co, q, rfl, rfl, hrow⟩ := h.row hin
  obtain ⟨ko, kr, rfl, hks⟩ := ownL_shape hkv
  have HKS := hide hks
  clear hks hkv
  have hx := dkRight_cache hR
  obtain ⟨ss, cs⟩ := d
  simp only at *
  have HX := hide hx
  have HR := hide hrow.2.2
  have hls : ss.length ≤ 1048576 := hf.1
  have hlc : cs.length ≤ 1048576 := hf.2
  have HBS : Hid (0 + ss.length ≤ maxLen ∧ (0 + ss.length) * 16 ≤ 140737488355328) := by show _ ∧ _; unfold maxLen; omega
  have HSN := hide (fun k (n : Int) (t : ByteArray) (hk : k < cs.length) (hv : cs.getD k noWr = ⟨n, t⟩) (hb : kl.getD k false = true) => show flushL ss (keptN cs kl (k + 1)) = (flushL ss (keptN cs kl k)).set n.toNat t ∧ 0 ≤ n ∧ n < (ss.length : Int) by
    rw [keptN_yes hb, hv, flushL_snoc]
    rw [List.getD_eq_getElem?_getD, List.getElem?_eq_getElem hk] at hv
    simp only [Option.getD_some] at hv
    refine ⟨rfl, ?_, ?_⟩
    · have := (HX.out _ (List.getElem_mem hk)).1; rw [hv] at this; exact this
    · have := (HX.out _ (List.getElem_mem hk)).2.1; rw [hv] at this; exact this)
  have HKN := hide (fun k (hb : kl.getD k false = false) => show flushL ss (keptN cs kl (k + 1)) = flushL ss (keptN cs kl k) by rw [keptN_no hb])
  have HK0 : Hid (flushL ss (keptN cs kl 0) = ss) := rfl
  have HLN := hide (fun k => flushL_len (keptN cs kl k) ss)
  have h0 := two_allocs w (.cells #[.slice so ss.length p, .slice co cs.length q] 26) (.cells #[.slice none 0 0, .slice none 0 0] 26)
  have B0 := ((Below.refl w.heap.size w).alloc (Nat.le_refl _) (.cells #[.slice so ss.length p, .slice co cs.length q] 26)).alloc (by simp) (.cells #[.slice none 0 0, .slice none 0 0] 26)
  have N0 : (((w.alloc (.cells #[.slice so ss.length p, .slice co cs.length q] 26)).alloc (.cells #[.slice none 0 0, .slice none 0 0] 26)).alloc (.cells #[] 9)).heap[w.heap.size + 2]? = some (.cells #[] 9 (0, 0)) := by
    have h := heap_alloc_new ((w.alloc (.cells #[.slice so ss.length p, .slice co cs.length q] 26)).alloc (.cells #[.slice none 0 0, .slice none 0 0] 26)) (.cells #[] 9)
    rw [h0.2.2] at h
    exact h
  have X1 := hide ((heap_old ((w.alloc (.cells #[.slice so ss.length p, .slice co cs.length q] 26)).alloc (.cells #[.slice none 0 0, .slice none 0 0] 26)) (.cells #[] 9) w.heap.size (by rw [h0.2.2]; omega)).trans h0.1)
  have R1 := hide ((heap_old ((w.alloc (.cells #[.slice so ss.length p, .slice co cs.length q] 26)).alloc (.cells #[.slice none 0 0, .slice none 0 0] 26)) (.cells #[] 9) (w.heap.size + 1) (by rw [h0.2.2]; omega)).trans h0.2.1)
  have B1 := hide (B0.alloc B0.size (.cells #[] 9))
  have E1 := hide (own_empty (size := 1) N0 (Nat.le_refl (w.heap.size + 2)))
  have Z1 : Hid (w.heap.size + 2 ≤ (((w.alloc (.cells #[.slice so ss.length p, .slice co cs.length q] 26)).alloc (.cells #[.slice none 0 0, .slice none 0 0] 26)).alloc (.cells #[] 9)).heap.size) := by have := blk_lt' N0; show _ ≤ _; omega
  have SRC := hide (owns_below h.secs B1.out)
  clear h h0 B0 N0 hrow hx HX hf hin hR
  go_enter Try.func63, Try.ntmps63
  go_wp2_with (at_builtin; refine wpList_app_own rfl _ _ 23 rfl (w.heap.size + 2) b 9 i0 (.string ⟨#[]⟩) 1 16 Try.underlying23 hi hz0 hz1 hz2 rfl (by decide) (.slice (some ⟨w.heap.size + 2, 0, none⟩) 0 0) 0 [] rfl E1.out (.slice so ss.length p) _ _ rfl SRC.out (strsV_one _) HBS.out.1 HBS.out.2 Z1.out ?_; intro v5 w5 o5 g5 l5; have O5 : Hid (OwnS (w.heap.size + 2) v5 ss w5) := (by show OwnS _ _ _ _; simpa [OwnS] using o5); obtain ⟨ao, cap, hv5⟩ := ownS_shape O5.out; subst hv5; clear o5 l5)
  have X5 := hide ((g5.block _ (blk_lt' X1.out) (fun e => by have := Option.some.inj (show some w.heap.size = some (w.heap.size + 2) from e); omega)).trans X1.out)
  have R5 := hide ((g5.block _ (blk_lt' R1.out) (fun e => by have := Option.some.inj (show some (w.heap.size + 1) = some (w.heap.size + 2) from e); omega)).trans R1.out)
  have B5 := hide (B1.out.grown g5 B1.out.size (fun j hj => by have := Option.some.inj (show some (w.heap.size + 2) = some j from hj); omega))
  clear g5
  have F5 := hide (FI.start2 (c := .slice none 0 0) B5.out X5.out R5.out O5.out)
  clear X1 R1 B1 E1 Z1 SRC X5 R5 B5 O5 HBS
  go_loopw [8] (fun i wr => ∃ k : Nat, k ≤ cs.length ∧ i = .int .i64 k ∧ Hid (FI w #[.slice so ss.length p, .slice co cs.length q] (.slice ao ss.length cap) (.slice none 0 0) w5.heap.size (flushL ss (keptN cs kl k)) wr)) (fun i _ => cs.length - (intOf i).toNat)
  case atStart => exact ⟨0, Nat.zero_le _, rfl, (by rw [HK0.out]; exact F5)⟩
  case round =>
    obtain ⟨k, hk, rfl, G⟩ := hrel
    clear F5
    obtain ⟨x0, x1, xf⟩ := cells2 G.out.par
    by_cases hlt : k < cs.length
    · obtain ⟨cb, off, n, t, rfl, hbB, hv, htt, hki, d0, d1⟩ := (HR.out.kept G.out.below).at k hlt
      by_cases hyes : k < kl.length ∧ kl.getD k false = true
      rotate_left
      · have hb : kl.getD k false = false := by
          by_cases h1 : k < kl.length
          · cases h2 : kl.getD k false with
            | false => rfl
            | true => exact absurd ⟨h1, h2⟩ hyes
          · rw [List.getD_eq_getElem?_getD, List.getElem?_eq_none (by omega)]; rfl
        have GN : Hid (FI w #[.slice so ss.length p, .slice (some ⟨cb, off, none⟩) cs.length q] (.slice ao ss.length cap) (.slice none 0 0) w5.heap.size (flushL ss (keptN cs kl (k + 1))) wr) := by rw [HKN.out k hb]; exact G.out
        by_cases hkk : k < kl.length
        · obtain ⟨e9, rfl, he9, hce⟩ := HKS.out k hkk
          have hce' : wr.cell? ⟨e9, k, none⟩ = some (.bool false) := by rw [← hb]; exact (G.out.below.cell (p := ⟨e9, k, none⟩) he9).trans hce
          clear hce hyes hb G hv htt hki
          go_wp2
          go_roundw
          case rel => exact ⟨k + 1, by omega, by go_num, GN⟩
          case measure => simp [intOf]; omega
        · clear hyes hb G hv htt hki
          go_wp2
          go_roundw
          case rel => exact ⟨k + 1, by omega, by go_num, GN⟩
          case measure => simp [intOf]; omega
      obtain ⟨hkk, hbt⟩ := hyes
      obtain ⟨e9, rfl, he9, hce⟩ := HKS.out k hkk
      have hce' : wr.cell? ⟨e9, k, none⟩ = some (.bool true) := by rw [← hbt]; exact (G.out.below.cell (p := ⟨e9, k, none⟩) he9).trans hce
      obtain ⟨hS, hn0, hn1⟩ := HSN.out k n t hlt hv hbt
      clear hce hbt
      obtain ⟨m, rfl⟩ : ∃ m : Nat, n = (m : Int) := ⟨n.toNat, by omega⟩
      have hm : m < ss.length := by omega
      obtain ⟨e, rfl, he, heg, hef, hec⟩ := G.out.cell (by rw [HLN.out k]; omega)
      have hcm := hec m (by rw [HLN.out k]; exact hm)
      generalize w5.heap.size = g at *
      rw [show ((m : Int)).toNat = m from by omega] at hS
      have GN : Hid (FI w #[.slice so ss.length p, .slice (some ⟨cb, off, none⟩) cs.length q] (.slice (some ⟨e, 0, none⟩) ss.length cap) (.slice none 0 0) g (flushL ss (keptN cs kl (k + 1))) (wr.setCell ⟨e, m, none⟩ (.string t)).drew) := by rw [hS]; exact (G.out.put (HLN.out k).symm m t he).drew
      have HC := hide (And.intro d0 (And.intro d1 (And.intro hcm (hef m))))
      clear hS hn0 hn1 hv htt hki hec hcm d0 d1 hef
      go_wp2
      refine wp_region_noPanic ?_
      refine wp_region_held_drew (S := fun W => W.heap[w.heap.size]? = some (.cells #[.slice so ss.length p, .slice (some ⟨cb, off, none⟩) cs.length q] 26 (0, 0)) ∧ W.heap[g]? = some (.cells #[.slice (some ⟨e, 0, none⟩) ss.length cap, .slice none 0 0] 26 (0, 0)) ∧ W.cell? ⟨cb, off + k * 2, none⟩ = some (.int .i64 (m : Int)) ∧ W.cell? ⟨cb, off + k * 2 + 1, none⟩ = some (.string t)) (by kernel_rfl) ⟨G.out.par, G.out.var, HC.out.1, HC.out.2.1⟩ (fun hS1 => ?_)
      refine takeD 0 34 (v := ?v1) rfl rfl (by kernel_rfl) (by kernel_rfl) (by kernel_rfl) (fun _ _ _ h => h) (by kernel_rfl) ?hy1 (by assumption) ?r1
      case hy1 => (intro W hSw; obtain ⟨s1, s2, s3, s4⟩ := hSw; obtain ⟨a0, a1, af⟩ := cells2 s1; obtain ⟨b0, b1, bf⟩ := cells2 s2; go_simp; try with_reducible rfl)
      simp only [Act.put, List.setIfInBounds_toArray, List.set_cons_zero, List.set_cons_succ]
      refine takeD 1 35 (v := ?v2) rfl rfl (by kernel_rfl) (by kernel_rfl) (by kernel_rfl) (fun _ _ _ h => h) (by kernel_rfl) ?hy2 (by assumption) ?r2
      case hy2 => (intro W hSw; obtain ⟨s1, s2, s3, s4⟩ := hSw; obtain ⟨a0, a1, af⟩ := cells2 s1; obtain ⟨b0, b1, bf⟩ := cells2 s2; go_simp; try with_reducible rfl)
      simp only [Act.put, List.setIfInBounds_toArray, List.set_cons_zero, List.set_cons_succ]
      refine takeD 2 36 (v := ?v3) rfl rfl (by kernel_rfl) (by kernel_rfl) (by kernel_rfl) (fun _ _ _ h => h) (by kernel_rfl) ?hy3 (by assumption) ?r3
      case hy3 => (intro W hSw; obtain ⟨s1, s2, s3, s4⟩ := hSw; obtain ⟨a0, a1, af⟩ := cells2 s1; obtain ⟨b0, b1, bf⟩ := cells2 s2; go_simp; try with_reducible rfl)
      simp only [Act.put, List.setIfInBounds_toArray, List.set_cons_zero, List.set_cons_succ]
      refine takeD 3 37 (v := ?v4) rfl rfl (by kernel_rfl) (by kernel_rfl) (by kernel_rfl) (fun _ _ _ h => h) (by kernel_rfl) ?hy4 (by assumption) ?r4
      case hy4 => (intro W hSw; obtain ⟨s1, s2, s3, s4⟩ := hSw; obtain ⟨a0, a1, af⟩ := cells2 s1; obtain ⟨b0, b1, bf⟩ := cells2 s2; go_simp; try with_reducible rfl)
      simp only [Act.put, List.setIfInBounds_toArray, List.set_cons_zero, List.set_cons_succ]
      refine takeD 4 38 (v := ?v5) rfl rfl (by kernel_rfl) (by kernel_rfl) (by kernel_rfl) (fun _ _ _ h => h) (by kernel_rfl) ?hy5 (by assumption) ?r5
      case hy5 => (intro W hSw; obtain ⟨s1, s2, s3, s4⟩ := hSw; obtain ⟨a0, a1, af⟩ := cells2 s1; obtain ⟨b0, b1, bf⟩ := cells2 s2; go_simp; try with_reducible rfl)
      simp only [Act.put, List.setIfInBounds_toArray, List.set_cons_zero, List.set_cons_succ]
      refine takeD 5 39 (v := ?v6) rfl rfl (by kernel_rfl) (by kernel_rfl) (by kernel_rfl) (fun _ _ _ h => h) (by kernel_rfl) ?hy6 (by assumption) ?r6
      case hy6 => (intro W hSw; obtain ⟨s1, s2, s3, s4⟩ := hSw; obtain ⟨a0, a1, af⟩ := cells2 s1; obtain ⟨b0, b1, bf⟩ := cells2 s2; go_simp; try with_reducible rfl)
      simp only [Act.put, List.setIfInBounds_toArray, List.set_cons_zero, List.set_cons_succ]
      refine takeD 6 40 (v := ?v7) rfl rfl (by kernel_rfl) (by kernel_rfl) (by kernel_rfl) (fun _ _ _ h => h) (by kernel_rfl) ?hy7 (by assumption) ?r7
      case hy7 => (intro W hSw; obtain ⟨s1, s2, s3, s4⟩ := hSw; obtain ⟨a0, a1, af⟩ := cells2 s1; obtain ⟨b0, b1, bf⟩ := cells2 s2; go_simp; try with_reducible rfl)
      simp only [Act.put, List.setIfInBounds_toArray, List.set_cons_zero, List.set_cons_succ]
      refine takeD 7 41 (v := ?v8) rfl rfl (by kernel_rfl) (by kernel_rfl) (by kernel_rfl) (fun _ _ _ h => h) (by kernel_rfl) ?hy8 (by assumption) ?r8
      case hy8 => (intro W hSw; obtain ⟨s1, s2, s3, s4⟩ := hSw; obtain ⟨a0, a1, af⟩ := cells2 s1; obtain ⟨b0, b1, bf⟩ := cells2 s2; go_simp; try with_reducible rfl)
      simp only [Act.put, List.setIfInBounds_toArray, List.set_cons_zero, List.set_cons_succ]
      refine takeD 8 42 (v := ?v9) rfl rfl (by kernel_rfl) (by kernel_rfl) (by kernel_rfl) (fun _ _ _ h => h) (by kernel_rfl) ?hy9 (by assumption) ?r9
      case hy9 => (intro W hSw; obtain ⟨s1, s2, s3, s4⟩ := hSw; obtain ⟨a0, a1, af⟩ := cells2 s1; obtain ⟨b0, b1, bf⟩ := cells2 s2; go_simp; try with_reducible rfl)
      simp only [Act.put, List.setIfInBounds_toArray, List.set_cons_zero, List.set_cons_succ]
      refine takeD 9 43 (v := ?v10) rfl rfl (by kernel_rfl) (by kernel_rfl) (by kernel_rfl) (fun _ _ _ h => h) (by kernel_rfl) ?hy10 (by assumption) ?r10
      case hy10 => (intro W hSw; obtain ⟨s1, s2, s3, s4⟩ := hSw; obtain ⟨a0, a1, af⟩ := cells2 s1; obtain ⟨b0, b1, bf⟩ := cells2 s2; go_simp; try with_reducible rfl)
      simp only [Act.put, List.setIfInBounds_toArray, List.set_cons_zero, List.set_cons_succ]
      refine takeD 10 44 (v := ?v11) rfl rfl (by kernel_rfl) (by kernel_rfl) (by kernel_rfl) (fun _ _ _ h => h) (by kernel_rfl) ?hy11 (by assumption) ?r11
      case hy11 => (intro W hSw; obtain ⟨s1, s2, s3, s4⟩ := hSw; obtain ⟨a0, a1, af⟩ := cells2 s1; obtain ⟨b0, b1, bf⟩ := cells2 s2; go_simp; try with_reducible rfl)
      simp only [Act.put, List.setIfInBounds_toArray, List.set_cons_zero, List.set_cons_succ]
      refine takeD 11 45 (v := ?v12) rfl rfl (by kernel_rfl) (by kernel_rfl) (by kernel_rfl) (fun _ _ _ h => h) (by kernel_rfl) ?hy12 (by assumption) ?r12
      case hy12 => (intro W hSw; obtain ⟨s1, s2, s3, s4⟩ := hSw; obtain ⟨a0, a1, af⟩ := cells2 s1; obtain ⟨b0, b1, bf⟩ := cells2 s2; go_simp; try with_reducible rfl)
      simp only [Act.put, List.setIfInBounds_toArray, List.set_cons_zero, List.set_cons_succ]
      refine takeD 12 46 (v := ?v13) rfl rfl (by kernel_rfl) (by kernel_rfl) (by kernel_rfl) (fun _ _ _ h => h) (by kernel_rfl) ?hy13 (by assumption) ?r13
      case hy13 => (intro W hSw; obtain ⟨s1, s2, s3, s4⟩ := hSw; obtain ⟨a0, a1, af⟩ := cells2 s1; obtain ⟨b0, b1, bf⟩ := cells2 s2; go_simp; try with_reducible rfl)
      simp only [Act.put, List.setIfInBounds_toArray, List.set_cons_zero, List.set_cons_succ]
      refine takeD 13 47 (v := ?v14) rfl rfl (by kernel_rfl) (by kernel_rfl) (by kernel_rfl) (fun _ _ _ h => h) (by kernel_rfl) ?hy14 (by assumption) ?r14
      case hy14 => (intro W hSw; obtain ⟨s1, s2, s3, s4⟩ := hSw; obtain ⟨a0, a1, af⟩ := cells2 s1; obtain ⟨b0, b1, bf⟩ := cells2 s2; go_simp; try with_reducible rfl)
      simp only [Act.put, List.setIfInBounds_toArray, List.set_cons_zero, List.set_cons_succ]
      refine takeD 14 48 (v := ?v15) rfl rfl (by kernel_rfl) (by kernel_rfl) (by kernel_rfl) (fun _ _ _ h => h) (by kernel_rfl) ?hy15 (by assumption) ?r15
      case hy15 => (intro W hSw; obtain ⟨s1, s2, s3, s4⟩ := hSw; obtain ⟨a0, a1, af⟩ := cells2 s1; obtain ⟨b0, b1, bf⟩ := cells2 s2; go_simp; try with_reducible rfl)
      simp only [Act.put, List.setIfInBounds_toArray, List.set_cons_zero, List.set_cons_succ]
      refine wpAnyH_ready (rs := [15]) (by kernel_rfl) (by simp) ?_
      refine AllReadyH.cons (o := _) rfl (fun K hK => ?_) AllReadyH.nil
      have hcd : wr.drew.cell? ⟨e, m, none⟩ = _ := HC.out.2.2.1
      have hfd : wr.drew.frozen? ⟨e, m, none⟩ = false := HC.out.2.2.2
      have HS2 : Hid ((wr.drew.setCell ⟨e, m, none⟩ (.string t)).cell? ⟨cb, off + k * 2, none⟩ = some (.int .i64 (m : Int)) ∧ (wr.drew.setCell ⟨e, m, none⟩ (.string t)).cell? ⟨cb, off + k * 2 + 1, none⟩ = some (.string t)) := by
        have ho := fun o => World.cell?_setCell_other wr.drew ⟨e, m, none⟩ ⟨cb, o, none⟩ (.string t) (fun e' => by have : e = cb := congrArg Addr.block e'; omega)
        exact ⟨(ho _).trans HC.out.1, (ho _).trans HC.out.2.1⟩
      go_simp
      refine hK.out _ _ ⟨GN.out.par, GN.out.var, HS2.out⟩ (fun hS2 => ?_)
      clear hK K hcd hfd HC HS2 hS1 hS2
      refine wpAnyH_done (by kernel_rfl) ?_ _
      refine NoPanic.normal ?_
      generalize (wr.setCell ⟨e, m, none⟩ (.string t)).drew = W9 at *
      clear x0 x1 xf G
      go_wp2
      go_roundw
      case rel => exact ⟨k + 1, by omega, by go_num, GN⟩
      case measure => simp [intOf]; omega
    · obtain rfl : k = cs.length := by omega
      have G9 := G
      obtain ⟨g0, g1, gf⟩ := cells2 G9.out.var
      obtain ⟨y0, y1, yf⟩ := cells2 G9.out.res
      clear G
      go_wp2
      exact bodyPost_ret (v := .agg #[.slice ao ss.length cap, .slice none 0 0]) (resDisk Try.results63 _ _ (w.heap.size + 1) _ _ rfl (set2 G9.out.res)) rfl ⟨_, rfl, G9.out.out⟩
end Go.Proofs.Ytfhfhpnoeghgmaa

/-
  Contract: DiskCrash of the specification.
-/
namespace Go.Proofs.Ytfhfhpnoeghgmaa
open Go.RowKit
set_option maxRecDepth 100000

def dkCrash (d : Dk) (kl : List Bool) : Dk := if 400 < kl.length then ⟨[], []⟩ else if dkRight d = true then ⟨flushL d.secs (keptN d.cache kl d.cache.length), []⟩ else d
theorem dkCrash_l {d : Dk} {kl : List Bool} (h : 400 < kl.length) : dkCrash d kl = ⟨[], []⟩ := by unfold dkCrash; rw [if_pos h]
theorem dkCrash_n {d : Dk} {kl : List Bool} (hl : ¬ 400 < kl.length) (h : dkRight d = false) : dkCrash d kl = d := by unfold dkCrash; rw [if_neg hl, if_neg (by rw [h]; simp)]
theorem dkCrash_y {d : Dk} {kl : List Bool} (hl : ¬ 400 < kl.length) (h : dkRight d = true) : dkCrash d kl = ⟨flushL d.secs (keptN d.cache kl d.cache.length), []⟩ := by unfold dkCrash; rw [if_neg hl, if_pos h]
theorem dkCrash_fits {d : Dk} (kl : List Bool) (h : dkFits d) : dkFits (dkCrash d kl) := by
  unfold dkCrash
  split
  · exact ⟨by simp, by simp⟩
  · split
    · exact ⟨by simpa [flushL_len] using h.1, by simp⟩
    · exact h
set_option maxHeartbeats 8000000 in
theorem specDiskCrash_any (b b2 : Nat) (s c kv : Value) (d : Dk) (kl : List Bool) (w : World) (hi : dkIn d) (hf : dkFits d) (hkm : kl.length ≤ 1048576) (h : OwnD b s c d w) (hkv : OwnL b2 kv kl w) :
    Calls Try.prog 38 #[.agg #[s, c], kv] w fun e w' => ∃ s' c', e = .returned (.agg #[s', c']) ∧ OwnD w.heap.size s' c' (dkCrash d kl) w' ∧ Below w.heap.size w w' := by
  obtain ⟨so, p, co, q, rfl, rfl, hr⟩ := h.row hi
  obtain ⟨ko, kr, rfl, _⟩ := ownL_shape hkv
  obtain ⟨n1, hn1⟩ : ∃ n, n = d.secs.length := ⟨_, rfl⟩
  obtain ⟨n2, hn2⟩ : ∃ n, n = d.cache.length := ⟨_, rfl⟩
  have HA := two_allocs w (.cells #[.slice so n1 p, .slice co n2 q] 26) (.cells #[.slice none 0 0, .slice none 0 0] 26)
  have B0 := hide (((Below.refl w.heap.size w).alloc (Nat.le_refl _) (.cells #[.slice so n1 p, .slice co n2 q] 26)).alloc (by simp) (.cells #[.slice none 0 0, .slice none 0 0] 26))
  have X0 := hide HA.1
  have Y0 := hide HA.2.1
  have HSP := hide (fun (W : World) (hb : Below w.heap.size w W) => specDiskRight_any _ _ so p co q d W hb.size (hr.kept hb))
  rw [← hn1, ← hn2] at h HSP ⊢
  obtain ⟨x0, x1, xf⟩ := cells2 X0.out
  clear HA
  by_cases hl : 400 < kl.length
  · rw [dkCrash_l hl]
    obtain ⟨y0, y1, yf⟩ := cells2 Y0.out
    clear hi hf h hr hn1 hn2 HSP hkv x0 x1 xf
    go_enter Try.func38, Try.ntmps38
    go_wp2
    refine bodyPost_ret (v := .agg #[.slice none 0 0, .slice none 0 0]) (resDisk Try.results38 _ _ (w.heap.size + 1) _ _ rfl Y0.out) rfl ⟨_, _, rfl, ownD_emp _ _, B0.out⟩
  · cases hdr : dkRight d with
    | false =>
      rw [dkCrash_n hl hdr]
      rw [hdr] at HSP
      have HC := hide (fun (W : World) (hb : Below w.heap.size w W) => l07Copy_own _ _ _ d W hf (h.below hb))
      clear hi hf h hr hdr hn1 hn2 hkv
      go_enter Try.func38, Try.ntmps38
      go_wp2_with (first | (go_at_call 58; refine (HSP.out _ B0.out).mono ?_; rintro e w1 ⟨rfl, b1⟩; have Y1 := hide ((b1.block (w.heap.size + 1) (by simp)).trans Y0.out); have X1 := hide ((b1.block w.heap.size (by simp; omega)).trans X0.out); have B1 := hide (B0.out.trans (b1.mono B0.out.size)); clear x0 x1 xf; obtain ⟨x0, x1, xf⟩ := cells2 X1.out; clear b1) | (go_at_call 62; refine (HC.out _ B1.out).mono ?_; rintro e w2 ⟨s2, c2, rfl, o2, b2⟩; have Y2 := hide ((b2.block (w.heap.size + 1) (blk_lt' Y1.out)).trans Y1.out); have B2 := hide (B1.out.trans (b2.mono B1.out.size)); have O2 := hide (o2.base (show w.heap.size + 2 ≤ _ from blk_lt' Y1.out)); obtain ⟨so2, p2, co2, q2, rfl, rfl⟩ := o2.shape; obtain ⟨y0, y1, yf⟩ := cells2 Y2.out; clear b2 o2))
      refine bodyPost_ret (v := .agg #[.slice so2 d.secs.length p2, .slice co2 d.cache.length q2]) (resDisk Try.results38 _ _ (w.heap.size + 1) _ _ rfl (set2 Y2.out)) rfl ⟨_, _, rfl, ?_, ?_⟩
      · exact ((O2.out.set (by omega)).set (by omega)).base (by omega)
      · exact (B2.out.setCell (by simp) _).setCell (by simp) _
    | true =>
      rw [dkCrash_y hl hdr]
      rw [hdr] at HSP
      have HC := hide (fun (W : World) (hb : Below w.heap.size w W) => l07Flush_keep _ _ _ _ _ d kl W hdr hf hi (h.below hb) (owns_below hkv hb))
      generalize flushL d.secs (keptN d.cache kl d.cache.length) = fl at *
      clear hi hf h hr hdr hn1 hn2 hkv
      go_enter Try.func38, Try.ntmps38
      go_wp2_with (first | (go_at_call 58; refine (HSP.out _ B0.out).mono ?_; rintro e w1 ⟨rfl, b1⟩; have Y1 := hide ((b1.block (w.heap.size + 1) (by simp)).trans Y0.out); have X1 := hide ((b1.block w.heap.size (by simp; omega)).trans X0.out); have B1 := hide (B0.out.trans (b1.mono B0.out.size)); clear x0 x1 xf; obtain ⟨x0, x1, xf⟩ := cells2 X1.out; clear b1) | (go_at_call 63; refine (HC.out _ B1.out).mono ?_; rintro e w2 ⟨v2, rfl, o2, b2⟩; have Y2 := hide ((b2.block (w.heap.size + 1) (blk_lt' Y1.out)).trans Y1.out); have B2 := hide (B1.out.trans (b2.mono B1.out.size)); have O2 := hide (owns_base o2 (show w.heap.size + 2 ≤ _ from blk_lt' Y1.out)); obtain ⟨so2, p2, rfl⟩ := ownS_shape o2; obtain ⟨y0, y1, yf⟩ := cells2 Y2.out; clear b2 o2))
      refine bodyPost_ret (v := .agg #[.slice so2 fl.length p2, .slice none 0 0]) (resDisk Try.results38 _ _ (w.heap.size + 1) _ _ rfl (set2 Y2.out)) rfl ⟨_, _, rfl, ⟨owns_base (own_set (own_set O2.out (by omega)) (by omega)) (by omega), ownW_nil _ _, ?_⟩, ?_⟩
      · cases so2 with
        | none => exact .inl rfl
        | some x => exact .inr (by simp [Value.ownBlock])
      · exact (B2.out.setCell (by simp) _).setCell (by simp) _
end Go.Proofs.Ytfhfhpnoeghgmaa

/-
  What the law on disks needs. Plain facts.
-/
namespace Go.Proofs.Ytfhfhpnoeghgmaa
open Go.RowKit
set_option maxRecDepth 100000

theorem flushed_r {d : Dk} (h : dkRight d = true) : dkRight ⟨flushL d.secs d.cache, []⟩ = true := by
  have h64 := flush64 h
  refine dkRight_yes ?_ (by simp) ?_ (by rfl)
  · show (flushL d.secs d.cache).length ≤ 700
    rw [flushL_len]; exact (dkRight_bounds h).1
  · rw [upto_iff]
    intro i hi
    exact decide_eq_true (h64 i hi)
theorem right_in {d : Dk} (h : dkRight d = true) : dkIn ⟨flushL d.secs d.cache, []⟩ := ⟨fun s hs => flush_mem h s hs, fun x hx => by simp at hx⟩
theorem right_fits {d : Dk} (h : dkRight d = true) : dkFits d := by have := dkRight_bounds h; exact ⟨by omega, by omega⟩
theorem flushL_app (ss : List ByteArray) (l m : List Wr) : flushL ss (l ++ m) = flushL (flushL ss l) m := by simp [flushL]
theorem flush_wrs (ss : List ByteArray) (a : Nat) (t : ByteArray) : ∀ n, a + n ≤ ss.length → ∀ i, (flushL ss (wrsOf (a : Int) t n)).getD i ByteArray.empty = if a ≤ i ∧ i < a + n then piece t (i - a) else ss.getD i ByteArray.empty
  | 0, _, i => by rw [wrsOf_zero, if_neg (by omega)]; rfl
  | n + 1, h, i => by
    have ih := flush_wrs ss a t n (by omega) i
    have hl := flushL_len (wrsOf (a : Int) t n) ss
    rw [wrsOf_succ, flushL_snoc]
    show ((flushL ss (wrsOf (a : Int) t n)).set ((a : Int) + (n : Int)).toNat (piece t n)).getD i ByteArray.empty = _
    have e : ((a : Int) + (n : Int)).toNat = a + n := by omega
    rw [e]
    by_cases hi : a + n = i
    · subst hi
      rw [if_pos (by omega)]
      have e2 : a + n - a = n := by omega
      rw [e2]
      simp [List.getD_eq_getElem?_getD, show a + n < (flushL ss (wrsOf (a : Int) t n)).length by omega]
    · have : ((flushL ss (wrsOf (a : Int) t n)).set (a + n) (piece t n)).getD i ByteArray.empty = (flushL ss (wrsOf (a : Int) t n)).getD i ByteArray.empty := by
        simp [List.getD_eq_getElem?_getD, List.getElem?_set_ne hi]
      rw [this, ih]
      by_cases h1 : a ≤ i ∧ i < a + n
      · rw [if_pos h1, if_pos (by omega)]
      · rw [if_neg h1, if_neg (by omega)]
/-- The text of pieces: the text itself, made full with zeros. -/
theorem secsT_pieces (L : List ByteArray) (a : Nat) (t : ByteArray) : ∀ k, (∀ j, j < k → L.getD (a + j) ByteArray.empty = piece t j) → secsT L a k = t.data.toList.take (k * 64) ++ List.replicate (k * 64 - t.size) 0
  | 0, _ => by simp [secsT]
  | k + 1, h => by
    have ih := secsT_pieces L a t k (fun j hj => h j (by omega))
    have hk := h k (by omega)
    show secsT L a k ++ (L.getD (a + k) ByteArray.empty).data.toList = _
    rw [ih, hk]
    have hp : (piece t k).data.toList = pad (t.data.toList.drop (k * 64)) := by unfold piece; simp [mkS]
    have hz : t.data.toList.length = t.size := len_data t
    rw [hp]; unfold pad
    rw [List.length_drop, hz]
    by_cases hc : k * 64 ≤ t.size
    · have e1 : k * 64 - t.size = 0 := by omega
      have e2 : 64 - (t.size - k * 64) = (k + 1) * 64 - t.size := by omega
      rw [e1, e2]
      have e3 : (k + 1) * 64 = k * 64 + 64 := by omega
      rw [e3, List.take_add]
      simp
    · have e1 : t.data.toList.drop (k * 64) = [] := List.drop_eq_nil_of_le (by omega)
      have e2 : t.data.toList.take (k * 64) = t.data.toList := List.take_of_length_le (by omega)
      have e3 : t.data.toList.take ((k + 1) * 64) = t.data.toList := List.take_of_length_le (by omega)
      rw [e1, e2, e3, List.append_assoc]
      congr 1
      have e4 : 64 - (t.size - k * 64) = 64 := by omega
      rw [e4, List.take_nil, List.nil_append, List.replicate_append_replicate]
      congr 1
      omega
theorem secsT_eq {L M : List ByteArray} {a : Nat} : ∀ k, (∀ j, j < k → L.getD (a + j) ByteArray.empty = M.getD (a + j) ByteArray.empty) → secsT L a k = secsT M a k
  | 0, _ => rfl
  | k + 1, h => by
    show secsT L a k ++ (L.getD (a + k) ByteArray.empty).data.toList = secsT M a k ++ (M.getD (a + k) ByteArray.empty).data.toList
    rw [secsT_eq k (fun j hj => h j (by omega)), h k (by omega)]
theorem keptN_nil (cs : List Wr) : ∀ k, keptN cs [] k = []
  | 0 => rfl
  | k + 1 => by rw [keptN_no (by simp), keptN_nil cs k]
theorem keptN_all (cs : List Wr) (n : Nat) : ∀ k, k ≤ n → k ≤ cs.length → keptN cs (List.replicate n true) k = cs.take k
  | 0, _, _ => rfl
  | k + 1, h, h2 => by
    rw [keptN_yes (by simp [List.getD_eq_getElem?_getD, show k < n by omega]), keptN_all cs n k (by omega) (by omega), List.take_add_one]
    simp [List.getD_eq_getElem?_getD, show k < cs.length by omega]
theorem many_small {t : ByteArray} (h : t.size ≤ 199) : many t ≤ 4 := by unfold many; omega
/-- What a write that is taken tells. -/
theorem wrote {d : Dk} {a : Int} {t : ByteArray} (h : (dkWrite d a t).2 = 0) : dkRight d = true ∧ 0 ≤ a ∧ a + (many t : Int) ≤ (d.secs.length : Int) ∧ d.cache.length + many t ≤ 400 ∧ (dkWrite d a t).1 = ⟨d.secs, d.cache ++ wrsOf a t (many t)⟩ := by
  by_cases h1 : 20000 < t.size
  · rw [dkWrite_2 h1] at h; cases h
  cases hr : dkRight d with
  | false => rw [dkWrite_1 h1 hr] at h; cases h
  | true =>
    by_cases h9 : a < 0 ∨ (d.secs.length : Int) - (many t : Int) < a
    · rw [dkWrite_9 h1 hr h9] at h; cases h
    by_cases hf : 400 < d.cache.length + many t
    · rw [dkWrite_11 h1 hr h9 hf] at h; cases h
    rw [dkWrite_0 h1 hr h9 hf]
    exact ⟨rfl, by omega, by omega, by omega, rfl⟩
theorem wrote_right {d : Dk} {a : Nat} {t : ByteArray} (hr : dkRight d = true) (h1 : a + many t ≤ d.secs.length) (h2 : d.cache.length + many t ≤ 400) : dkRight ⟨d.secs, d.cache ++ wrsOf (a : Int) t (many t)⟩ = true := by
  have hb := dkRight_bounds hr
  unfold dkRight at hr
  simp only [Bool.and_eq_true, decide_eq_true_eq] at hr
  obtain ⟨⟨_, hs⟩, hc⟩ := hr
  refine dkRight_yes hb.1 (by show (d.cache ++ wrsOf (a : Int) t (many t)).length ≤ 400; rw [List.length_append, wrsOf_len]; exact h2) hs ?_
  rw [upto_iff]
  intro i hi
  have hi' : i < d.cache.length + many t := by have : i < (d.cache ++ wrsOf (a : Int) t (many t)).length := hi; rwa [List.length_append, wrsOf_len] at this
  by_cases hic : i < d.cache.length
  · have := (upto_iff _ _).1 hc i hic
    unfold wrOk at this ⊢
    have e : (d.cache ++ wrsOf (a : Int) t (many t)).getD i noWr = d.cache.getD i noWr := by simp [List.getD_eq_getElem?_getD, List.getElem?_append_left hic]
    show (decide (0 ≤ ((d.cache ++ wrsOf (a : Int) t (many t)).getD i noWr).pos) && decide (((d.cache ++ wrsOf (a : Int) t (many t)).getD i noWr).pos < (d.secs.length : Int)) && decide (((d.cache ++ wrsOf (a : Int) t (many t)).getD i noWr).text.size = 64)) = true
    rw [e]; exact this
  · have e : (d.cache ++ wrsOf (a : Int) t (many t)).getD i noWr = ⟨(a : Int) + ((i - d.cache.length : Nat) : Int), piece t (i - d.cache.length)⟩ := by
      rw [List.getD_eq_getElem?_getD, List.getElem?_append_right (by omega)]
      unfold wrsOf
      simp [show i - d.cache.length < many t by omega]
    unfold wrOk
    show (decide (0 ≤ ((d.cache ++ wrsOf (a : Int) t (many t)).getD i noWr).pos) && decide (((d.cache ++ wrsOf (a : Int) t (many t)).getD i noWr).pos < (d.secs.length : Int)) && decide (((d.cache ++ wrsOf (a : Int) t (many t)).getD i noWr).text.size = 64)) = true
    rw [e]
    simp only [piece_size]
    simp
    omega
end Go.Proofs.Ytfhfhpnoeghgmaa
