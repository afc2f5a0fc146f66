/-
  Contracts and plain laws, part 5 of 8: DkFlS, DkTxt, LgP2, DkWrP, DkTo, DkTo2, ConvOne, MarkT, TrMk, StrMk, DkMark, DkMark3
-/
import Derived.Lib.AppendStr
import Derived.Laws.ResultCell
import Derived.Deep.RegionHeld3
import Derived.Test.YtaapacpiipcogaaPd

/-
  Contract: the specification's flush: all writes done one behind the other, in a row of their own.
-/
namespace Go.Proofs.Ytaapacpiipcogaa
open Go.RowKit
set_option maxRecDepth 100000

set_option maxHeartbeats 8000000 in
theorem l07Flush_all (b : Nat) (s c : Value) (d : Dk) (w : World) (hR : dkRight d = true) (hf : dkFits d) (hin : dkIn d) (h : OwnD b s c d w) :
    Calls Try.prog 62 #[.agg #[s, c], .slice none 0 0, .bool true] w fun e w' => ∃ v, e = .returned (.agg #[v, .slice none 0 0]) ∧ OwnS w.heap.size v (flushL d.secs d.cache) w' ∧ Below w.heap.size w w' := by
  obtain ⟨i0, hi, hz0, hz1, hz2⟩ := info_parts Try.infoStr'
  obtain ⟨so, p, co, q, rfl, rfl, hrow⟩ := h.row hin
  have hx := dkRight_cache hR
  obtain ⟨ss, cs⟩ := d
  simp only at *
  have HX := hide hx
  have HR := hide hrow.2.2
  have hls : ss.length ≤ 1048576 := hf.1
  have hlc : cs.length ≤ 1048576 := hf.2
  have HBS : Hid (0 + ss.length ≤ maxLen ∧ (0 + ss.length) * 16 ≤ 140737488355328) := by show _ ∧ _; unfold maxLen; omega
  have HSN := hide (fun k (n : Int) (t : ByteArray) (hk : k < cs.length) (hv : cs.getD k noWr = ⟨n, t⟩) => show flushL ss (cs.take (k + 1)) = (flushL ss (cs.take k)).set n.toNat t ∧ 0 ≤ n ∧ n < (ss.length : Int) by
    rw [List.getD_eq_getElem?_getD, List.getElem?_eq_getElem hk] at hv
    simp only [Option.getD_some] at hv
    refine ⟨by rw [List.take_succ_eq_append_getElem hk, flushL_snoc, hv], ?_, ?_⟩
    · have := (HX.out _ (List.getElem_mem hk)).1; rw [hv] at this; exact this
    · have := (HX.out _ (List.getElem_mem hk)).2.1; rw [hv] at this; exact this)
  have HLN := hide (fun k => flushL_len (cs.take k) ss)
  have h0 := two_allocs w (.cells #[.slice so ss.length p, .slice co cs.length q] 29) (.cells #[.slice none 0 0, .slice none 0 0] 29)
  have B0 := ((Below.refl w.heap.size w).alloc (Nat.le_refl _) (.cells #[.slice so ss.length p, .slice co cs.length q] 29)).alloc (by simp) (.cells #[.slice none 0 0, .slice none 0 0] 29)
  have N0 : (((w.alloc (.cells #[.slice so ss.length p, .slice co cs.length q] 29)).alloc (.cells #[.slice none 0 0, .slice none 0 0] 29)).alloc (.cells #[] 9)).heap[w.heap.size + 2]? = some (.cells #[] 9 (0, 0)) := by
    have h := heap_alloc_new ((w.alloc (.cells #[.slice so ss.length p, .slice co cs.length q] 29)).alloc (.cells #[.slice none 0 0, .slice none 0 0] 29)) (.cells #[] 9)
    rw [h0.2.2] at h
    exact h
  have X1 := hide ((heap_old ((w.alloc (.cells #[.slice so ss.length p, .slice co cs.length q] 29)).alloc (.cells #[.slice none 0 0, .slice none 0 0] 29)) (.cells #[] 9) w.heap.size (by rw [h0.2.2]; omega)).trans h0.1)
  have R1 := hide ((heap_old ((w.alloc (.cells #[.slice so ss.length p, .slice co cs.length q] 29)).alloc (.cells #[.slice none 0 0, .slice none 0 0] 29)) (.cells #[] 9) (w.heap.size + 1) (by rw [h0.2.2]; omega)).trans h0.2.1)
  have B1 := hide (B0.alloc B0.size (.cells #[] 9))
  have E1 := hide (own_empty (size := 1) N0 (Nat.le_refl (w.heap.size + 2)))
  have Z1 : Hid (w.heap.size + 2 ≤ (((w.alloc (.cells #[.slice so ss.length p, .slice co cs.length q] 29)).alloc (.cells #[.slice none 0 0, .slice none 0 0] 29)).alloc (.cells #[] 9)).heap.size) := by have := blk_lt' N0; show _ ≤ _; omega
  have SRC := hide (owns_below h.secs B1.out)
  clear h h0 B0 N0 hrow hx HX hf hin hR
  go_enter Try.func62, Try.ntmps62
  go_wp2_with (at_builtin; refine wpList_app_own rfl _ _ 22 rfl (w.heap.size + 2) b 9 i0 (.string ⟨#[]⟩) 1 16 Try.underlying22 hi hz0 hz1 hz2 rfl (by decide) (.slice (some ⟨w.heap.size + 2, 0, none⟩) 0 0) 0 [] rfl E1.out (.slice so ss.length p) _ _ rfl SRC.out (strsV_one _) HBS.out.1 HBS.out.2 Z1.out ?_; intro v5 w5 o5 g5 l5; have O5 : Hid (OwnS (w.heap.size + 2) v5 ss w5) := (by show OwnS _ _ _ _; simpa [OwnS] using o5); obtain ⟨ao, cap, hv5⟩ := ownS_shape O5.out; subst hv5; clear o5 l5)
  have X5 := hide ((g5.block _ (blk_lt' X1.out) (fun e => by have := Option.some.inj (show some w.heap.size = some (w.heap.size + 2) from e); omega)).trans X1.out)
  have R5 := hide ((g5.block _ (blk_lt' R1.out) (fun e => by have := Option.some.inj (show some (w.heap.size + 1) = some (w.heap.size + 2) from e); omega)).trans R1.out)
  have B5 := hide (B1.out.grown g5 B1.out.size (fun j hj => by have := Option.some.inj (show some (w.heap.size + 2) = some j from hj); omega))
  clear g5
  have F5 := hide (FI.start2 (c := .slice none 0 0) B5.out X5.out R5.out O5.out)
  clear X1 R1 B1 E1 Z1 SRC X5 R5 B5 O5 HBS
  go_loopw [8] (fun i wr => ∃ k : Nat, k ≤ cs.length ∧ i = .int .i64 k ∧ Hid (FI w #[.slice so ss.length p, .slice co cs.length q] (.slice ao ss.length cap) (.slice none 0 0) w5.heap.size (flushL ss (cs.take k)) wr)) (fun i _ => cs.length - (intOf i).toNat)
  case atStart => exact ⟨0, Nat.zero_le _, rfl, by simpa [flushL] using F5⟩
  case round =>
    obtain ⟨k, hk, rfl, G⟩ := hrel
    clear F5
    obtain ⟨x0, x1, xf⟩ := cells2 G.out.par
    by_cases hlt : k < cs.length
    · obtain ⟨cb, off, n, t, rfl, hbB, hv, htt, hki, d0, d1⟩ := (HR.out.kept G.out.below).at k hlt
      obtain ⟨hS, hn0, hn1⟩ := HSN.out k n t hlt hv
      obtain ⟨m, rfl⟩ : ∃ m : Nat, n = (m : Int) := ⟨n.toNat, by omega⟩
      have hm : m < ss.length := by omega
      obtain ⟨e, rfl, he, heg, hef, hec⟩ := G.out.cell (by rw [HLN.out k]; omega)
      have hcm := hec m (by rw [HLN.out k]; exact hm)
      generalize w5.heap.size = g at *
      rw [show ((m : Int)).toNat = m from by omega] at hS
      have GN : Hid (FI w #[.slice so ss.length p, .slice (some ⟨cb, off, none⟩) cs.length q] (.slice (some ⟨e, 0, none⟩) ss.length cap) (.slice none 0 0) g (flushL ss (cs.take (k + 1))) (wr.setCell ⟨e, m, none⟩ (.string t)).drew) := by rw [hS]; exact (G.out.put (HLN.out k).symm m t he).drew
      have HC := hide (And.intro d0 (And.intro d1 (And.intro hcm (hef m))))
      clear hS hn0 hn1 hv htt hki hec hcm d0 d1 hef
      go_wp2
      refine wp_region_noPanic ?_
      refine wp_region_held_drew (S := fun W => W.heap[w.heap.size]? = some (.cells #[.slice so ss.length p, .slice (some ⟨cb, off, none⟩) cs.length q] 29 (0, 0)) ∧ W.heap[g]? = some (.cells #[.slice (some ⟨e, 0, none⟩) ss.length cap, .slice none 0 0] 29 (0, 0)) ∧ W.cell? ⟨cb, off + k * 2, none⟩ = some (.int .i64 (m : Int)) ∧ W.cell? ⟨cb, off + k * 2 + 1, none⟩ = some (.string t)) (by kernel_rfl) ⟨G.out.par, G.out.var, HC.out.1, HC.out.2.1⟩ (fun hS1 => ?_)
      refine takeD 0 34 (v := ?v1) rfl rfl (by kernel_rfl) (by kernel_rfl) (by kernel_rfl) (fun _ _ _ h => h) (by kernel_rfl) ?hy1 (by assumption) ?r1
      case hy1 => (intro W hSw; obtain ⟨s1, s2, s3, s4⟩ := hSw; obtain ⟨a0, a1, af⟩ := cells2 s1; obtain ⟨b0, b1, bf⟩ := cells2 s2; go_simp; try with_reducible rfl)
      simp only [Act.put, List.setIfInBounds_toArray, List.set_cons_zero, List.set_cons_succ]
      refine takeD 1 35 (v := ?v2) rfl rfl (by kernel_rfl) (by kernel_rfl) (by kernel_rfl) (fun _ _ _ h => h) (by kernel_rfl) ?hy2 (by assumption) ?r2
      case hy2 => (intro W hSw; obtain ⟨s1, s2, s3, s4⟩ := hSw; obtain ⟨a0, a1, af⟩ := cells2 s1; obtain ⟨b0, b1, bf⟩ := cells2 s2; go_simp; try with_reducible rfl)
      simp only [Act.put, List.setIfInBounds_toArray, List.set_cons_zero, List.set_cons_succ]
      refine takeD 2 36 (v := ?v3) rfl rfl (by kernel_rfl) (by kernel_rfl) (by kernel_rfl) (fun _ _ _ h => h) (by kernel_rfl) ?hy3 (by assumption) ?r3
      case hy3 => (intro W hSw; obtain ⟨s1, s2, s3, s4⟩ := hSw; obtain ⟨a0, a1, af⟩ := cells2 s1; obtain ⟨b0, b1, bf⟩ := cells2 s2; go_simp; try with_reducible rfl)
      simp only [Act.put, List.setIfInBounds_toArray, List.set_cons_zero, List.set_cons_succ]
      refine takeD 3 37 (v := ?v4) rfl rfl (by kernel_rfl) (by kernel_rfl) (by kernel_rfl) (fun _ _ _ h => h) (by kernel_rfl) ?hy4 (by assumption) ?r4
      case hy4 => (intro W hSw; obtain ⟨s1, s2, s3, s4⟩ := hSw; obtain ⟨a0, a1, af⟩ := cells2 s1; obtain ⟨b0, b1, bf⟩ := cells2 s2; go_simp; try with_reducible rfl)
      simp only [Act.put, List.setIfInBounds_toArray, List.set_cons_zero, List.set_cons_succ]
      refine takeD 4 38 (v := ?v5) rfl rfl (by kernel_rfl) (by kernel_rfl) (by kernel_rfl) (fun _ _ _ h => h) (by kernel_rfl) ?hy5 (by assumption) ?r5
      case hy5 => (intro W hSw; obtain ⟨s1, s2, s3, s4⟩ := hSw; obtain ⟨a0, a1, af⟩ := cells2 s1; obtain ⟨b0, b1, bf⟩ := cells2 s2; go_simp; try with_reducible rfl)
      simp only [Act.put, List.setIfInBounds_toArray, List.set_cons_zero, List.set_cons_succ]
      refine takeD 5 39 (v := ?v6) rfl rfl (by kernel_rfl) (by kernel_rfl) (by kernel_rfl) (fun _ _ _ h => h) (by kernel_rfl) ?hy6 (by assumption) ?r6
      case hy6 => (intro W hSw; obtain ⟨s1, s2, s3, s4⟩ := hSw; obtain ⟨a0, a1, af⟩ := cells2 s1; obtain ⟨b0, b1, bf⟩ := cells2 s2; go_simp; try with_reducible rfl)
      simp only [Act.put, List.setIfInBounds_toArray, List.set_cons_zero, List.set_cons_succ]
      refine takeD 6 40 (v := ?v7) rfl rfl (by kernel_rfl) (by kernel_rfl) (by kernel_rfl) (fun _ _ _ h => h) (by kernel_rfl) ?hy7 (by assumption) ?r7
      case hy7 => (intro W hSw; obtain ⟨s1, s2, s3, s4⟩ := hSw; obtain ⟨a0, a1, af⟩ := cells2 s1; obtain ⟨b0, b1, bf⟩ := cells2 s2; go_simp; try with_reducible rfl)
      simp only [Act.put, List.setIfInBounds_toArray, List.set_cons_zero, List.set_cons_succ]
      refine takeD 7 41 (v := ?v8) rfl rfl (by kernel_rfl) (by kernel_rfl) (by kernel_rfl) (fun _ _ _ h => h) (by kernel_rfl) ?hy8 (by assumption) ?r8
      case hy8 => (intro W hSw; obtain ⟨s1, s2, s3, s4⟩ := hSw; obtain ⟨a0, a1, af⟩ := cells2 s1; obtain ⟨b0, b1, bf⟩ := cells2 s2; go_simp; try with_reducible rfl)
      simp only [Act.put, List.setIfInBounds_toArray, List.set_cons_zero, List.set_cons_succ]
      refine takeD 8 42 (v := ?v9) rfl rfl (by kernel_rfl) (by kernel_rfl) (by kernel_rfl) (fun _ _ _ h => h) (by kernel_rfl) ?hy9 (by assumption) ?r9
      case hy9 => (intro W hSw; obtain ⟨s1, s2, s3, s4⟩ := hSw; obtain ⟨a0, a1, af⟩ := cells2 s1; obtain ⟨b0, b1, bf⟩ := cells2 s2; go_simp; try with_reducible rfl)
      simp only [Act.put, List.setIfInBounds_toArray, List.set_cons_zero, List.set_cons_succ]
      refine takeD 9 43 (v := ?v10) rfl rfl (by kernel_rfl) (by kernel_rfl) (by kernel_rfl) (fun _ _ _ h => h) (by kernel_rfl) ?hy10 (by assumption) ?r10
      case hy10 => (intro W hSw; obtain ⟨s1, s2, s3, s4⟩ := hSw; obtain ⟨a0, a1, af⟩ := cells2 s1; obtain ⟨b0, b1, bf⟩ := cells2 s2; go_simp; try with_reducible rfl)
      simp only [Act.put, List.setIfInBounds_toArray, List.set_cons_zero, List.set_cons_succ]
      refine takeD 10 44 (v := ?v11) rfl rfl (by kernel_rfl) (by kernel_rfl) (by kernel_rfl) (fun _ _ _ h => h) (by kernel_rfl) ?hy11 (by assumption) ?r11
      case hy11 => (intro W hSw; obtain ⟨s1, s2, s3, s4⟩ := hSw; obtain ⟨a0, a1, af⟩ := cells2 s1; obtain ⟨b0, b1, bf⟩ := cells2 s2; go_simp; try with_reducible rfl)
      simp only [Act.put, List.setIfInBounds_toArray, List.set_cons_zero, List.set_cons_succ]
      refine takeD 11 45 (v := ?v12) rfl rfl (by kernel_rfl) (by kernel_rfl) (by kernel_rfl) (fun _ _ _ h => h) (by kernel_rfl) ?hy12 (by assumption) ?r12
      case hy12 => (intro W hSw; obtain ⟨s1, s2, s3, s4⟩ := hSw; obtain ⟨a0, a1, af⟩ := cells2 s1; obtain ⟨b0, b1, bf⟩ := cells2 s2; go_simp; try with_reducible rfl)
      simp only [Act.put, List.setIfInBounds_toArray, List.set_cons_zero, List.set_cons_succ]
      refine takeD 12 46 (v := ?v13) rfl rfl (by kernel_rfl) (by kernel_rfl) (by kernel_rfl) (fun _ _ _ h => h) (by kernel_rfl) ?hy13 (by assumption) ?r13
      case hy13 => (intro W hSw; obtain ⟨s1, s2, s3, s4⟩ := hSw; obtain ⟨a0, a1, af⟩ := cells2 s1; obtain ⟨b0, b1, bf⟩ := cells2 s2; go_simp; try with_reducible rfl)
      simp only [Act.put, List.setIfInBounds_toArray, List.set_cons_zero, List.set_cons_succ]
      refine takeD 13 47 (v := ?v14) rfl rfl (by kernel_rfl) (by kernel_rfl) (by kernel_rfl) (fun _ _ _ h => h) (by kernel_rfl) ?hy14 (by assumption) ?r14
      case hy14 => (intro W hSw; obtain ⟨s1, s2, s3, s4⟩ := hSw; obtain ⟨a0, a1, af⟩ := cells2 s1; obtain ⟨b0, b1, bf⟩ := cells2 s2; go_simp; try with_reducible rfl)
      simp only [Act.put, List.setIfInBounds_toArray, List.set_cons_zero, List.set_cons_succ]
      refine takeD 14 48 (v := ?v15) rfl rfl (by kernel_rfl) (by kernel_rfl) (by kernel_rfl) (fun _ _ _ h => h) (by kernel_rfl) ?hy15 (by assumption) ?r15
      case hy15 => (intro W hSw; obtain ⟨s1, s2, s3, s4⟩ := hSw; obtain ⟨a0, a1, af⟩ := cells2 s1; obtain ⟨b0, b1, bf⟩ := cells2 s2; go_simp; try with_reducible rfl)
      simp only [Act.put, List.setIfInBounds_toArray, List.set_cons_zero, List.set_cons_succ]
      refine wpAnyH_ready (rs := [15]) (by kernel_rfl) (by simp) ?_
      refine AllReadyH.cons (o := _) rfl (fun K hK => ?_) AllReadyH.nil
      have hcd : wr.drew.cell? ⟨e, m, none⟩ = _ := HC.out.2.2.1
      have hfd : wr.drew.frozen? ⟨e, m, none⟩ = false := HC.out.2.2.2
      have HS2 : Hid ((wr.drew.setCell ⟨e, m, none⟩ (.string t)).cell? ⟨cb, off + k * 2, none⟩ = some (.int .i64 (m : Int)) ∧ (wr.drew.setCell ⟨e, m, none⟩ (.string t)).cell? ⟨cb, off + k * 2 + 1, none⟩ = some (.string t)) := by
        have ho := fun o => World.cell?_setCell_other wr.drew ⟨e, m, none⟩ ⟨cb, o, none⟩ (.string t) (fun e' => by have : e = cb := congrArg Addr.block e'; omega)
        exact ⟨(ho _).trans HC.out.1, (ho _).trans HC.out.2.1⟩
      go_simp
      refine hK.out _ _ ⟨GN.out.par, GN.out.var, HS2.out⟩ (fun hS2 => ?_)
      clear hK K hcd hfd HC HS2 hS1 hS2
      refine wpAnyH_done (by kernel_rfl) ?_ _
      refine NoPanic.normal ?_
      generalize (wr.setCell ⟨e, m, none⟩ (.string t)).drew = W9 at *
      clear x0 x1 xf G
      go_wp2
      go_roundw
      case rel => exact ⟨k + 1, by omega, by go_num, GN⟩
      case measure => simp [intOf]; omega
    · obtain rfl : k = cs.length := by omega
      have G9 := G
      rw [List.take_length] at G9
      obtain ⟨g0, g1, gf⟩ := cells2 G9.out.var
      obtain ⟨y0, y1, yf⟩ := cells2 G9.out.res
      clear G
      go_wp2
      exact bodyPost_ret (v := .agg #[.slice ao ss.length cap, .slice none 0 0]) (resDisk Try.results62 _ _ (w.heap.size + 1) _ _ rfl (set2 G9.out.res)) rfl ⟨_, rfl, G9.out.out⟩
end Go.Proofs.Ytaapacpiipcogaa

/-
  Contracts: the text of some sectors, by the specification.
-/
namespace Go.Proofs.Ytaapacpiipcogaa
open Go.RowKit
set_option maxRecDepth 100000

/-- The text of k sectors from one on. -/
def secsT (l : List ByteArray) (a : Nat) : Nat → List UInt8
  | 0 => []
  | k + 1 => secsT l a k ++ (l.getD (a + k) ByteArray.empty).data.toList
theorem secsT_len {l : List ByteArray} (h : ∀ i, i < l.length → (l.getD i ByteArray.empty).size = 64) (a : Nat) : ∀ k, a + k ≤ l.length → (secsT l a k).length = k * 64
  | 0, _ => rfl
  | k + 1, hk => by
    have h1 : (l.getD (a + k) ByteArray.empty).data.toList.length = 64 := h (a + k) (by omega)
    show (secsT l a k ++ _).length = _
    rw [List.length_append, secsT_len h a k (by omega), h1]; omega
theorem strCells_nums (s : ByteArray) : Lib.strCells s = (numsU s.data.toList).map (Value.int .u8) := by
  simp [Lib.strCells, numsU, Function.comp_def]
theorem ownB_shape {base : Nat} {v : Value} {l : List UInt8} {w : World} (h : OwnB base v l w) : ∃ ao cap, v = .slice ao l.length cap := by
  rcases h.2 with ⟨h1, h2⟩ | ⟨g, cap, cur, h1, _⟩
  · exact ⟨none, 0, by rw [h1, h2]⟩
  · exact ⟨_, _, h1⟩
theorem ownB_str {base : Nat} {v : Value} {l : List UInt8} {w : World} (s : ByteArray) (h : w.ownsRow base 5 1 v (l.length + s.size) ((numsU l).map (Value.int .u8) ++ Lib.strCells s)) : OwnB base v (l ++ s.data.toList) w :=
  ownB_of h (by rw [List.length_append]; rfl) (by rw [strCells_nums, numsU_append, List.map_append])
theorem OwnS.eq {base : Nat} {v : Value} {l : List ByteArray} {w : World} (h : w.ownsRow base 9 1 v l.length (strsV l)) : OwnS base v l w := h
theorem flush64 {d : Dk} (hR : dkRight d = true) : ∀ i, i < (flushL d.secs d.cache).length → ((flushL d.secs d.cache).getD i ByteArray.empty).size = 64 := by
  intro i hi
  rw [flushL_len] at hi
  exact flush_sizes d.cache d.secs (fun x hx => (dkRight_cache hR x hx).2.2) (dkRight_secs hR) i hi
theorem flush_mem {d : Dk} (hR : dkRight d = true) : ∀ x ∈ flushL d.secs d.cache, x.size ≤ maxLen := by
  intro x hx
  obtain ⟨i, hi, rfl⟩ := List.getElem_of_mem hx
  have h := flush64 hR i hi
  rw [List.getD_eq_getElem?_getD, List.getElem?_eq_getElem hi] at h
  simp only [Option.getD_some] at h
  unfold maxLen
  omega
set_option maxHeartbeats 4000000 in
theorem l07Text_any (b : Nat) (s c : Value) (d : Dk) (a m : Nat) (w : World) (hR : dkRight d = true) (hf : dkFits d) (hin : dkIn d) (hm : m ≤ 300) (ham : a + m ≤ d.secs.length) (hlen : d.secs.length ≤ 700) (h : OwnD b s c d w) :
    Calls Try.prog 33 #[.agg #[s, c], .int .i64 (a : Int), .int .i64 (m : Int)] w fun e w' => e = .returned (.string (mkS (secsT (flushL d.secs d.cache) a m))) ∧ Below w.heap.size w w' := by
  obtain ⟨i0, hi, hz0, hz1, hz2⟩ := info_parts Try.infoU8
  have HL := hide (fun W h => l07Flush_all b s c d W hR hf hin h)
  have H64 := hide (flush64 hR)
  have HME := hide (flush_mem hR)
  have hfl := flushL_len d.cache d.secs
  have HTL := hide (fun k (hk : a + k ≤ (flushL d.secs d.cache).length) => secsT_len (flush64 hR) a k hk)
  have HN := hide (fun k => show secsT (flushL d.secs d.cache) a (k + 1) = secsT (flushL d.secs d.cache) a k ++ ((flushL d.secs d.cache).getD (a + k) ByteArray.empty).data.toList from rfl)
  have H0 : Hid (secsT (flushL d.secs d.cache) a 0 = []) := rfl
  have D0 := hide (h.below ((Below.refl w.heap.size w).alloc (Nat.le_refl _) (.cells #[s, c] 29)))
  have B0 := hide ((Below.refl w.heap.size w).alloc (Nat.le_refl _) (.cells #[s, c] 29))
  obtain ⟨so, p, co, q, rfl, rfl⟩ := h.shape
  rw [← hfl] at ham hlen
  clear h hf hin hR hfl
  generalize flushL d.secs d.cache = fl at *
  generalize secsT fl a = ST at *
  go_enter Try.func33, Try.ntmps33
  go_wp2_with (go_at_call 62; refine (HL.out _ D0.out).mono ?_; rintro e w1 ⟨v, rfl, o1, b1⟩; obtain ⟨ao, cap, rfl⟩ := ownS_shape o1; have B1 := hide (B0.out.trans (b1.mono B0.out.size)); have O1 := hide o1; clear o1 b1)
  have BA := (Below.refl w1.heap.size w1).alloc (Nat.le_refl _) (.cells #[.slice ao fl.length cap, .slice none 0 0] 29)
  have V2 := hide (heap_alloc_new w1 (.cells #[.slice ao fl.length cap, .slice none 0 0] 29))
  have SR : Hid (StrRow (w1.alloc (.cells #[.slice ao fl.length cap, .slice none 0 0] 29)) 0 (w1.alloc (.cells #[.slice ao fl.length cap, .slice none 0 0] 29)).heap.size ao fl) := by
    obtain ⟨ao', cap', e1, h1, h2⟩ := ownS_str (OwnS.eq (owns_below O1.out BA)) HME.out
    injection e1 with e1 _ _
    subst e1
    exact h2.mono (Nat.zero_le _) (Nat.le_refl _)
  have B2 := hide (B1.out.trans (BA.mono B1.out.size))
  clear BA B1 O1 B0 D0 HL
  have Z2 : Hid ((w1.alloc (.cells #[.slice ao fl.length cap, .slice none 0 0] 29)).heap.size = w1.heap.size + 1) := by show _ = _; simp
  generalize w1.alloc (.cells #[.slice ao fl.length cap, .slice none 0 0] 29) = w2 at *
  have E3 : w1.heap.size + 1 = w2.heap.size := Z2.out.symm
  have O3 : Hid (OwnB w2.heap.size (.slice (some ⟨w1.heap.size + 1, 0, none⟩) 0 0) (ST 0) (w2.alloc (.cells #[] 5))) := by
    rw [H0.out, E3]
    exact own_empty (heap_alloc_new _ _) (Nat.le_refl _)
  have B3 := hide ((Below.refl w2.heap.size w2).alloc (Nat.le_refl _) (.cells #[] 5))
  clear E3 Z2 H0
  go_loopw [8, 9] (fun l i wr => ∃ (k : Nat) (v : Value), k ≤ m ∧ i = .int .i64 ((a : Int) + (k : Int)) ∧ l = v ∧ Hid (OwnB w2.heap.size v (ST k) wr) ∧ Hid (Below w2.heap.size w2 wr)) (fun _ i _ => a + m - (intOf i).toNat)
  case atStart => exact ⟨0, _, Nat.zero_le _, by simp, rfl, O3, B3⟩
  case round =>
    obtain ⟨k, v, hk, rfl, rfl, HO, HB⟩ := hrel
    clear O3 B3
    obtain ⟨ao', cap', hv⟩ := ownB_shape HO.out
    rw [HTL.out k (by omega)] at hv
    subst hv
    by_cases hlt : k < m
    · obtain ⟨eb, off, x, rfl, hgB, hx, hxm, c0⟩ := (SR.out.kept HB.out).at (a + k) (by omega)
      have hx64 : x.size = 64 := by rw [← hx]; exact H64.out _ (by omega)
      obtain ⟨v0, v1, vf⟩ := cells2 ((HB.out.block _ (blk_lt' V2.out)).trans V2.out)
      have HT := hide (HN.out k)
      rw [hx] at HT
      have HTK := HTL.out k (by omega)
      have HS63 : Hid ((ST k).length + x.size ≤ maxLen ∧ (ST k).length + x.size ≤ 140737488355328) := by rw [HTK, hx64]; show _ ∧ _; unfold maxLen; omega
      have HW : Hid (wr.ownsRow w2.heap.size 5 1 (.slice ao' (k * 64) cap') (ST k).length ((numsU (ST k)).map (Value.int .u8))) := HO
      clear hx hxm hx64 HTK
      go_wp2_with (at_builtin; refine Lib.wpList_append_own_string _ rfl _ _ 87 9 rfl w2.heap.size 5 i0 Try.underlying87 Try.underlying9 hi hz0 hz1 hz2 (.slice ao' (k * 64) cap') (ST k).length _ rfl HW.out x rfl HS63.out.1 HS63.out.2 HB.out.size ?_; intro v5 w5 o5 g5 l5; have O5 := hide (ownB_str x o5); have B5 := hide (HB.out.grown g5 HB.out.size (fun b hb => (World.ownsRow.lt HW.out b hb).1)); rw [← HT.out] at O5; clear o5 g5 l5)
      go_roundw
      case rel => exact ⟨k + 1, _, by omega, by go_num, rfl, O5, B5⟩
      case measure => simp [intOf]; omega
    · obtain rfl : k = m := by omega
      have HC := hide (OwnB.conv HO.out)
      have hconv := HC.out
      go_wp2
      go_ret
      exact ⟨rfl, B2.out.trans (HB.out.mono B2.out.size)⟩
end Go.Proofs.Ytaapacpiipcogaa

/-
  The specification's reading of a record, and the program's: they tell the same. Plain.
-/
namespace Go.Proofs.Ytaapacpiipcogaa
open Go.RowKit
set_option maxRecDepth 100000

/-- What the specification reads of a text: number, text, how many bytes, was it there? -/
def spRead (s : ByteArray) : (Int × ByteArray) × Int × Bool :=
  let n := rNum s (rFst s 76)
  let t := rTxt s n.2
  match t.2 with
  | none => ((n.1, t.1), 0, false)
  | some a => if a + 4 ≤ s.size ∧ fourS (crcMoreN 0 (s.data.toList.take a)) = s.extract a (a + 4) then ((n.1, t.1), ((a + 4 : Nat) : Int), true) else ((n.1, t.1), 0, false)
theorem cons_of_first {s : ByteArray} {b p : Nat} (h : rFst s b = some p) : ∃ x l, s.data.toList = x :: l ∧ x.toNat = b ∧ p = 1 := by
  unfold rFst at h
  split at h
  · cases h
  · rename_i x l hl
    split at h
    · rename_i hx
      cases h
      exact ⟨x, l, hl, hx, rfl⟩
    · cases h
theorem rNum_some {s : ByteArray} {p : Nat} {v : Int} {m : Nat} (h : rdAt s.data.toList p = (v, m, 0)) : rNum s (some p) = (v, some (p + m)) := by
  unfold rNum
  simp only [h]
  rfl
theorem rNum_bad {s : ByteArray} {p : Nat} (h : ¬ (rdAt s.data.toList p).2.2 = 0) : rNum s (some p) = (0, none) := if_neg h
theorem rTxt_some {s : ByteArray} {p : Nat} (h : (txtAt s p).2.2 = 0) : rTxt s (some p) = ((txtAt s p).1, some (txtAt s p).2.1.toNat) := if_pos h
theorem rTxt_bad {s : ByteArray} {p : Nat} (h : ¬ (txtAt s p).2.2 = 0) : rTxt s (some p) = (ByteArray.empty, none) := if_neg h
theorem spRead_eq (s : ByteArray) : spRead s = (match (rTxt s (rNum s (rFst s 76)).2).2 with
  | none => (((rNum s (rFst s 76)).1, (rTxt s (rNum s (rFst s 76)).2).1), 0, false)
  | some a => if a + 4 ≤ s.size ∧ fourS (crcMoreN 0 (s.data.toList.take a)) = s.extract a (a + 4) then (((rNum s (rFst s 76)).1, (rTxt s (rNum s (rFst s 76)).2).1), ((a + 4 : Nat) : Int), true) else (((rNum s (rFst s 76)).1, (rTxt s (rNum s (rFst s 76)).2).1), 0, false)) := rfl
theorem crc_small {l : List UInt8} (h : l.length ≤ 20000) : crcOf (mkS l) = crcMoreN 0 l := by
  rw [crcOf_in _ (by rw [mkS_size]; exact h), mkS_list]
/-- What the specification reads as a record has just that record's bytes. -/
theorem spRead_canon {s : ByteArray} {q n : Int} {t : ByteArray} (hr : recRight q t = true) (h : spRead s = ((q, t), n, true)) : (recS q t).data.toList <+: s.data.toList := by
  have ht := ((recRight_iff q t).1 hr).2
  rw [spRead_eq] at h
  cases h1 : rFst s 76 with
  | none => rw [h1] at h; simp [rNum, rTxt] at h
  | some p =>
    obtain ⟨x, l, hl, hx, rfl⟩ := cons_of_first h1
    rw [h1] at h
    by_cases hc : (rdAt s.data.toList 1).2.2 = 0
    · obtain ⟨r, hrd⟩ : ∃ r, rdAt s.data.toList 1 = r := ⟨_, rfl⟩
      rw [hrd] at hc
      obtain ⟨v, m, c⟩ := r
      simp only at hc
      subst hc
      obtain ⟨hd, hm⟩ := rdAt_canon hrd
      rw [rNum_some hrd] at h
      simp only at h
      by_cases hc2 : (txtAt s (1 + m)).2.2 = 0
      · rw [rTxt_some hc2] at h
        obtain ⟨a2, e1, e2, e3⟩ := txtAt_canon hc2
        simp only at h
        rw [e1, Int.toNat_natCast] at h
        split at h
        · rename_i hcond
          simp only [Prod.mk.injEq, and_true] at h
          obtain ⟨⟨rfl, rfl⟩, _⟩ := h
          generalize (txtAt s (1 + m)).1 = t at *
          have hx' : x = 76 := UInt8.toNat.inj hx
          have hL : s.data.toList = recL v t ++ s.data.toList.drop a2 := by
            rw [recL_eq v (by omega)]
            have h0 : s.data.toList = 76 :: s.data.toList.drop 1 := by rw [hl, hx']; rfl
            have h5 : (76 : UInt8) :: s.data.toList.drop 1 = (76 :: numB v) ++ (numB (t.size : Int) ++ t.data.toList) ++ s.data.toList.drop a2 := by
              rw [hd, e2]; simp
            exact h0.trans h5
          have hlen : (recL v t).length = a2 := by
            rw [recL_eq v (by omega)]
            have : t.data.toList.length = t.size := rfl
            simp only [List.length_append, List.length_cons]
            omega
          have htk : s.data.toList.take a2 = recL v t := by
            rw [hL, List.take_append_of_le_length (by omega), List.take_of_length_le (by omega)]
          have h4 : (fourS (crcMoreN 0 (recL v t))).data.toList = (s.data.toList.drop a2).take 4 := by
            rw [← htk, hcond.2, ext_list, show a2 + 4 - a2 = 4 by omega]
          rw [recS_eq ht, mkS_list, crc_small (by have := recL_len v t ht; omega), h4]
          refine ⟨(s.data.toList.drop a2).drop 4, ?_⟩
          rw [List.append_assoc, List.take_append_drop]
          exact hL.symm
        · simp at h
      · rw [rTxt_bad hc2] at h
        simp at h
    · rw [rNum_bad hc] at h
      simp [rTxt] at h
/-- A right record's bytes at the beginning are read. -/
theorem spRead_put {s : ByteArray} {q : Int} {t : ByteArray} (hr : recRight q t = true) (h : (recS q t).data.toList <+: s.data.toList) : spRead s = ((q, t), ((recS q t).size : Int), true) := by
  obtain ⟨⟨hq1, hq2⟩, ht⟩ := (recRight_iff q t).1 hr
  obtain ⟨rest, hp⟩ := h
  have hsz := recS_len (q := q) ht
  rw [recS_eq ht, mkS_list, List.append_assoc] at hp
  have hcl := recL_len q t ht
  rw [crc_small (by omega)] at hp
  have hf4 : (fourS (crcMoreN 0 (recL q t))).data.toList.length = 4 := fourS_size _
  have h1 : rFst s 76 = some 1 := by
    unfold rFst
    rw [← hp, recL_eq q (by omega)]
    rfl
  have hrd : rdAt s.data.toList 1 = (q, (numB q).length, 0) := by
    have := rdAt_put q (by omega) (by omega) [76] (numB (t.size : Int) ++ (t.data.toList ++ ((fourS (crcMoreN 0 (recL q t))).data.toList ++ rest)))
    rw [← hp]
    rw [show recL q t ++ ((fourS (crcMoreN 0 (recL q t))).data.toList ++ rest) = [76] ++ numB q ++ (numB (t.size : Int) ++ (t.data.toList ++ ((fourS (crcMoreN 0 (recL q t))).data.toList ++ rest))) from by
      conv => lhs; arg 1; rw [recL_eq q (by omega)]
      simp]
    exact this
  have htx := txtAt_put (s := s) (a := 76 :: numB q) (rest := (fourS (crcMoreN 0 (recL q t))).data.toList ++ rest) ht (by
    rw [← hp]
    conv => lhs; arg 1; rw [recL_eq q (by omega)]
    simp)
  have hal : (76 :: numB q).length = 1 + (numB q).length := by rw [List.length_cons]; omega
  rw [hal] at htx
  have hlen : (recL q t).length = 1 + (numB q).length + (numB (t.size : Int)).length + t.size := by
    rw [recL_eq q (by omega)]
    have : t.data.toList.length = t.size := rfl
    simp only [List.length_append, List.length_cons]
    omega
  rw [← hlen] at htx
  rw [spRead_eq, h1, rNum_some hrd]
  simp only
  rw [rTxt_some (by rw [htx]), htx]
  simp only [Int.toNat_natCast]
  have hss : s.size = (recL q t).length + 4 + rest.length := by
    have : s.data.toList.length = s.size := rfl
    rw [← this, ← hp]
    simp only [List.length_append]
    omega
  have htk : s.data.toList.take (recL q t).length = recL q t := by rw [← hp, List.take_left']; rfl
  have h4 : fourS (crcMoreN 0 (recL q t)) = s.extract (recL q t).length ((recL q t).length + 4) := by
    apply ba_ext
    rw [ext_list, ← hp, List.drop_left' rfl, show (recL q t).length + 4 - (recL q t).length = 4 by omega, List.take_left' hf4]
  rw [htk, if_pos ⟨by omega, h4⟩, hsz]
theorem take_prefix {l L : List UInt8} {j : Nat} (h : l <+: L) (hj : l.length ≤ j ∨ L.length ≤ j) : l <+: L.take j := by
  rcases hj with hj | hj
  · obtain ⟨r, rfl⟩ := h
    exact ⟨r.take (j - l.length), by rw [List.take_append, List.take_of_length_le hj]⟩
  · rw [List.take_of_length_le hj]; exact h
/-- In the first bytes of a text a record is read just where it stands in the text. -/
theorem spRead_some {s S : ByteArray} {q : Int} {t : ByteArray} {j : Nat} (hs : s.data.toList = S.data.toList.take j) (hj : 6400 ≤ j ∨ S.size ≤ j) (h : recAt S q = some t) : recRight q t = true ∧ spRead s = ((q, t), ((recS q t).size : Int), true) := by
  obtain ⟨hr, hp⟩ := (recAt_iff S q t).1 h
  refine ⟨hr, spRead_put hr ?_⟩
  rw [hs]
  refine take_prefix hp ?_
  have h1 : (recS q t).data.toList.length = (recS q t).size := rfl
  have h2 : S.data.toList.length = S.size := rfl
  have h3 := recBytes_len q t
  rw [recBytes_yes hr] at h3
  omega
theorem spRead_none {s S : ByteArray} {q n x : Int} {t : ByteArray} {j : Nat} (hs : s.data.toList = S.data.toList.take j) (h : recAt S q = none) (hsp : spRead s = ((x, t), n, true)) (hr : recRight x t = true) : x ≠ q := by
  rintro rfl
  have hp := spRead_canon hr hsp
  rw [hs] at hp
  have := (recAt_iff S x t).2 ⟨hr, hp.trans (List.take_prefix _ _)⟩
  rw [h] at this
  cases this
/-- The records that stand from a sector on, and the sector behind. -/
def restT (fl : List ByteArray) (k : Nat) : ByteArray := mkS (secsT fl k (fl.length - k))
def logR (fl : List ByteArray) : Nat → Nat → Int → List Wr × Nat
  | 0, k, _ => ([], k)
  | f + 1, k, q => match recAt (restT fl k) q with
    | none => ([], k)
    | some t => (⟨q, t⟩ :: (logR fl f (k + many (recS q t)) (q + 1)).1, (logR fl f (k + many (recS q t)) (q + 1)).2)
theorem logR_none {fl : List ByteArray} {f k : Nat} {q : Int} (h : recAt (restT fl k) q = none) : logR fl (f + 1) k q = ([], k) := by
  simp only [logR, h]
theorem logR_some {fl : List ByteArray} {f k : Nat} {q : Int} {t : ByteArray} (h : recAt (restT fl k) q = some t) : logR fl (f + 1) k q = (⟨q, t⟩ :: (logR fl f (k + many (recS q t)) (q + 1)).1, (logR fl f (k + many (recS q t)) (q + 1)).2) := by
  simp only [logR, h]
theorem restT_len {fl : List ByteArray} (h64 : ∀ i, i < fl.length → (fl.getD i ByteArray.empty).size = 64) {k : Nat} (hk : k ≤ fl.length) : (restT fl k).size = (fl.length - k) * 64 := by
  unfold restT
  rw [mkS_size, secsT_len h64 k _ (by omega)]
theorem recAt_end {s : ByteArray} {q : Int} (h : s.size = 0) : recAt s q = none := by
  cases hq : recAt s q with
  | none => rfl
  | some t =>
    obtain ⟨hr, hp⟩ := (recAt_iff s q t).1 hq
    have h1 := hp.length_le
    have h2 : (recS q t).data.toList.length = (recS q t).size := rfl
    have h3 : s.data.toList.length = s.size := rfl
    have h4 := recS_len (q := q) ((recRight_iff q t).1 hr).2
    omega
/-- A record that stands lies on sectors that are there, on one at least. -/
theorem recAt_many {fl : List ByteArray} (h64 : ∀ i, i < fl.length → (fl.getD i ByteArray.empty).size = 64) {k : Nat} {q : Int} {t : ByteArray} (hk : k ≤ fl.length) (h : recAt (restT fl k) q = some t) : 1 ≤ many (recS q t) ∧ k + many (recS q t) ≤ fl.length ∧ (recS q t).size ≤ 6025 ∧ t.size ≤ 6000 ∧ 1 ≤ q ∧ q ≤ 1000000000 := by
  obtain ⟨hr, hp⟩ := (recAt_iff _ q t).1 h
  obtain ⟨⟨hq1, hq2⟩, ht⟩ := (recRight_iff q t).1 hr
  have h1 := hp.length_le
  have h2 : (recS q t).data.toList.length = (recS q t).size := rfl
  have h3 : (restT fl k).data.toList.length = (restT fl k).size := rfl
  have h4 := recS_len (q := q) ht
  have h5 := restT_len h64 hk
  have h6 := recBytes_len q t
  rw [recBytes_yes hr] at h6
  unfold many
  refine ⟨by omega, ?_, h6, ht, hq1, hq2⟩
  omega
theorem str_neL {a b : ByteArray} (h : a ≠ b) : (a.toList == b.toList) = false := by
  rw [Bool.eq_false_iff]
  intro e
  rw [beq_iff_eq, ByteArray.toList_eq, ByteArray.toList_eq] at e
  exact h (ba_ext e)
end Go.Proofs.Ytaapacpiipcogaa

/-
  What a write to a disk comes to. Plain facts.
-/
namespace Go.Proofs.Ytaapacpiipcogaa
open Go.RowKit
set_option maxRecDepth 100000

def dkWrite (d : Dk) (a : Int) (t : ByteArray) : Dk × Int :=
  if 20000 < t.size then (⟨[], []⟩, 2) else if dkRight d = false then (⟨[], []⟩, 1) else if a < 0 ∨ (d.secs.length : Int) - (many t : Int) < a then (⟨[], []⟩, 9)
  else if 400 < d.cache.length + many t then (⟨[], []⟩, 11) else (⟨d.secs, d.cache ++ wrsOf a t (many t)⟩, 0)
theorem dkWrite_2 {d : Dk} {a : Int} {t : ByteArray} (h : 20000 < t.size) : dkWrite d a t = (⟨[], []⟩, 2) := if_pos h
theorem dkWrite_1 {d : Dk} {a : Int} {t : ByteArray} (h : ¬ 20000 < t.size) (hr : dkRight d = false) : dkWrite d a t = (⟨[], []⟩, 1) := by unfold dkWrite; rw [if_neg h, if_pos hr]
theorem dkWrite_9 {d : Dk} {a : Int} {t : ByteArray} (h : ¬ 20000 < t.size) (hr : dkRight d = true) (h9 : a < 0 ∨ (d.secs.length : Int) - (many t : Int) < a) : dkWrite d a t = (⟨[], []⟩, 9) := by unfold dkWrite; rw [if_neg h, if_neg (by rw [hr]; simp), if_pos h9]
theorem dkWrite_11 {d : Dk} {a : Int} {t : ByteArray} (h : ¬ 20000 < t.size) (hr : dkRight d = true) (h9 : ¬ (a < 0 ∨ (d.secs.length : Int) - (many t : Int) < a)) (hf : 400 < d.cache.length + many t) : dkWrite d a t = (⟨[], []⟩, 11) := by unfold dkWrite; rw [if_neg h, if_neg (by rw [hr]; simp), if_neg h9, if_pos hf]
theorem dkWrite_0 {d : Dk} {a : Int} {t : ByteArray} (h : ¬ 20000 < t.size) (hr : dkRight d = true) (h9 : ¬ (a < 0 ∨ (d.secs.length : Int) - (many t : Int) < a)) (hf : ¬ 400 < d.cache.length + many t) : dkWrite d a t = (⟨d.secs, d.cache ++ wrsOf a t (many t)⟩, 0) := by unfold dkWrite; rw [if_neg h, if_neg (by rw [hr]; simp), if_neg h9, if_neg hf]
theorem dkRight_bounds {d : Dk} (h : dkRight d = true) : d.secs.length ≤ 700 ∧ d.cache.length ≤ 400 := by
  unfold dkRight at h
  simp only [Bool.and_eq_true, decide_eq_true_eq] at h
  exact ⟨h.1.1.1, h.1.1.2⟩
theorem ownD_emp (base : Nat) (w : World) : OwnD base (.slice none 0 0) (.slice none 0 0) ⟨[], []⟩ w := ⟨ownS_nil _ _, ownW_nil _ _, .inl rfl⟩
theorem resOut {fn : Func} {p : Tmp} (h : fn.results = #[.cell p 31]) (tmps : Array Value) (w : World) (g : Nat) (a b c d : Value) (hp : tmps.getD p undef = .pointer (some ⟨g, 0, none⟩))
    (hg : w.heap[g]? = some (.cells #[a, b, c, d] 31 (0, 0))) : (results fn tmps).run Try.prog w = .ok (.agg #[a, b, c, d]) w :=
  results_cell_row h tmps w g 31 #[a, b, c, d] (0, 0) _ hp hg Try.underlying31 rfl (by kernel_rfl)
theorem set4w {W : World} {g : Nat} {a b c d x y z u : Value} {t : TypeId} (h : W.heap[g]? = some (.cells #[a, b, c, d] t (0, 0))) :
    ((((W.setCell ⟨g, 0, none⟩ x).setCell ⟨g, 1, none⟩ y).setCell ⟨g, 2, none⟩ z).setCell ⟨g, 3, none⟩ u).heap[g]? = some (.cells #[x, y, z, u] t (0, 0)) := by
  have h1 := heap_setCell_same W g 0 _ t x h
  have h2 := heap_setCell_same _ g 1 _ t y h1
  have h3 := heap_setCell_same _ g 2 _ t z h2
  have h4 := heap_setCell_same _ g 3 _ t u h3
  simpa using h4
end Go.Proofs.Ytaapacpiipcogaa

/-
  Contracts: disks copied into rows of their own.
-/
namespace Go.Proofs.Ytaapacpiipcogaa
open Go.RowKit
set_option maxRecDepth 100000

set_option maxHeartbeats 1000000 in
theorem toStringS_ownS (A B : Nat) (ao : Option Addr) (cap : Nat) (l : List ByteArray) (w : World) (hB : B ≤ w.heap.size) (hl : l.length ≤ 1048576) (hr : StrRow w A B ao l) :
    Calls Try.prog 34 #[.slice ao l.length cap] w fun e w' => ∃ v, e = .returned v ∧ OwnS w.heap.size v l w' ∧ Below w.heap.size w w' := by
  obtain ⟨i0, hi, hz0, hz1, hz2⟩ := info_parts Try.infoStr'
  have HR := hide hr
  clear hr
  go_enter Try.func34, Try.ntmps34
  go_wp2_with (at_make; refine wpList_make_full _ rfl _ _ 22 rfl w.heap.size 9 i0 (.string ⟨#[]⟩) 1 Try.underlying22 hi hz0 hz1 .i64 .i64 _ _ l.length rfl rfl rfl rfl (by rw [hz2]; omega) (by unfold maxLen; omega) (Nat.le_refl _) ?_; intro w1 hown1 hgrow1)
  obtain ⟨cur0, hg0, hl0⟩ : ∃ cur : List Value, w1.heap[w.heap.size]? = some (.cells cur.toArray 9 (0, 0)) ∧ cur.length = l.length := by
    rcases hown1.2 with ⟨h, _⟩ | ⟨g, cap', cur, hv, _, hg, _, _, hs, _⟩
    · simp at h
    · simp at hv
      obtain ⟨rfl, rfl⟩ := hv
      exact ⟨cur.toList, by simpa using hg, by simpa using hs⟩
  have hb1 : Below w.heap.size w w1 := (Below.refl _ _).grown hgrow1 (Nat.le_refl _) (fun j hj => by simp at hj)
  clear hown1 hgrow1
  go_loopw [4] (fun i wr => ∃ (k : Nat) (cur : List Value), k ≤ l.length ∧ i = .int .i64 k ∧ cur.length = l.length ∧ wr.heap[w.heap.size]? = some (.cells cur.toArray 9 (0, 0)) ∧ Hid (cur.take k = strsV (l.take k)) ∧ Below w.heap.size w wr) (fun i _ => l.length - (intOf i).toNat)
  case atStart => exact ⟨0, cur0, Nat.zero_le _, rfl, hl0, hg0, by show _ = _; simp [strsV], hb1⟩
  case round =>
    obtain ⟨k, cur, hk, rfl, hlen, hg, HC, hb⟩ := hrel
    clear hb1 hg0 hl0
    have hlt0 : w.heap.size < wr.heap.size := (Array.getElem?_eq_some_iff.1 hg).1
    by_cases hlt : k < l.length
    · obtain ⟨b, off, x, rfl, hbB, hv, hx, d0⟩ := (HR.out.kept (hb.mono hB)).at k hlt
      obtain ⟨HC2, hlen2⟩ := strs_step cur l k hlt hlen HC.out x hv
      have HC3 : Hid ((cur.set k (.string x)).take (k + 1) = strsV (l.take (k + 1))) := HC2
      clear hv HC HC2
      obtain ⟨x0, hx0⟩ : ∃ v, cur[k]? = some v := ⟨_, List.getElem?_eq_getElem (by omega)⟩
      have e0 : wr.cell? ⟨w.heap.size, k, none⟩ = some x0 := by rw [cell_of_row _ _ _ _ _ _ hg, List.getElem?_toArray, hx0]
      have ef : ∀ j, wr.frozen? ⟨w.heap.size, j, none⟩ = false := fun j => frozen_of_row _ _ _ _ _ hg
      have HG : Hid (wr.heap[w.heap.size]? = some (.cells cur.toArray 9 (0, 0))) := hg
      clear hx0 hg
      go_wp2
      go_roundw
      case rel => exact ⟨k + 1, _, by omega, by go_num, hlen2, (by rw [heap_setCell_same _ _ _ _ _ _ HG.out]; simp), HC3, hb.setCell (Nat.le_refl _) _⟩
      case measure => simp [intOf]; omega
    · obtain rfl : k = l.length := by omega
      have HF : Hid (OwnS w.heap.size (.slice (some ⟨w.heap.size, 0, none⟩) l.length l.length) l wr) := ⟨by simp [strsV], .inr ⟨w.heap.size, l.length, cur.toArray, rfl, Nat.le_refl _, hg, Nat.le_refl _, (by unfold maxLen; omega), (by simpa using hlen), (by have := HC.out; rw [List.take_length] at this; simpa using this)⟩⟩
      go_wp2
      go_ret
      exact ⟨_, rfl, HF.out, hb⟩
theorem toWrite_any (n : Int) (t : ByteArray) (w : World) :
    Calls Try.prog 63 #[.agg #[.int .i64 n, .string t]] w fun e w' => e = .returned (.agg #[.int .i64 n, .string t]) ∧ Below w.heap.size w w' := by
  go_enter Try.func63, Try.ntmps63
  go_wp2
  refine bodyPost_ret (v := .agg #[.int .i64 n, .string t]) (by simp [results, Try.results63, go_sem]) rfl ⟨rfl, ?_⟩
  exact (((Below.refl _ _).alloc (Nat.le_refl _) _).alloc (by simp) _).alloc (by simp; omega) _
theorem set2w_heap {W : World} {g m : Nat} {cur : List Value} {t : TypeId} {x y : Value} (h : W.heap[g]? = some (.cells cur.toArray t (0, 0))) :
    ((W.setCell ⟨g, m, none⟩ x).setCell ⟨g, m + 1, none⟩ y).heap[g]? = some (.cells ((cur.set m x).set (m + 1) y).toArray t (0, 0)) := setL_heap (setL_heap h)
set_option maxHeartbeats 1000000 in
theorem toWriteS_own (A B : Nat) (ao : Option Addr) (cap : Nat) (l : List Wr) (w : World) (hB : B ≤ w.heap.size) (hl : l.length ≤ 1048576) (hr : WrRow w A B ao l) :
    Calls Try.prog 35 #[.slice ao l.length cap] w fun e w' => ∃ v, e = .returned v ∧ OwnW w.heap.size v l w' ∧ Below w.heap.size w w' := by
  obtain ⟨i0, hi, hz0, hz1, hz2⟩ := info_parts Try.infoWr
  have HR := hide hr
  clear hr
  go_enter Try.func35, Try.ntmps35
  go_wp2_with (at_make; refine wpList_make_full _ rfl _ _ 27 rfl w.heap.size 85 i0 (.agg #[.int .i64 0, .string ⟨#[]⟩]) 2 Try.underlying27 hi hz0 hz1 .i64 .i64 _ _ l.length rfl rfl rfl rfl (by rw [hz2]; omega) (by unfold maxLen; omega) (Nat.le_refl _) ?_; intro w1 hown1 hgrow1)
  obtain ⟨cur0, hg0, hl0⟩ : ∃ cur : List Value, w1.heap[w.heap.size]? = some (.cells cur.toArray 85 (0, 0)) ∧ cur.length = l.length * 2 := by
    rcases hown1.2 with ⟨h, _⟩ | ⟨g, cap', cur, hv, _, hg, _, _, hs, _⟩
    · simp at h
    · simp at hv
      obtain ⟨rfl, rfl⟩ := hv
      exact ⟨cur.toList, by simpa using hg, by simpa using hs⟩
  have hb1 : Below w.heap.size w w1 := (Below.refl _ _).grown hgrow1 (Nat.le_refl _) (fun j hj => by simp at hj)
  clear hown1 hgrow1
  go_loopw [4] (fun i wr => ∃ (k : Nat) (cur : List Value), k ≤ l.length ∧ i = .int .i64 k ∧ cur.length = l.length * 2 ∧ wr.heap[w.heap.size]? = some (.cells cur.toArray 85 (0, 0)) ∧ Hid (cur.take (k * 2) = flatW (l.take k)) ∧ Below w.heap.size w wr) (fun i _ => l.length - (intOf i).toNat)
  case atStart => exact ⟨0, cur0, Nat.zero_le _, rfl, hl0, hg0, by show _ = _; simp [flatW], hb1⟩
  case round =>
    obtain ⟨k, cur, hk, rfl, hlen, hg, HC, hb⟩ := hrel
    clear hb1 hg0 hl0
    have hlt0 : w.heap.size < wr.heap.size := (Array.getElem?_eq_some_iff.1 hg).1
    by_cases hlt : k < l.length
    · obtain ⟨b, off, nn, tt, rfl, hbB, hv, htt, hki, d0, d1⟩ := (HR.out.kept (hb.mono hB)).at k hlt
      obtain ⟨HC2, hlen2⟩ := flatW_step cur l k hlt hlen HC.out nn tt hv
      have HC3 : Hid (((cur.set (k * 2) (.int .i64 nn)).set (k * 2 + 1) (.string tt)).take ((k + 1) * 2) = flatW (l.take (k + 1))) := HC2
      clear hv HC HC2 hki
      go_wp2_with fail
      refine (toWrite_any nn tt _).mono ?_
      rintro e w2 ⟨rfl, hb2⟩
      have hg2 : w2.heap[w.heap.size]? = some (.cells cur.toArray 85 (0, 0)) := (hb2.block _ hlt0).trans hg
      have hb3 := hb.trans (hb2.mono hb.size)
      obtain ⟨x0, hx0⟩ : ∃ v, cur[k * 2]? = some v := ⟨_, List.getElem?_eq_getElem (by omega)⟩
      obtain ⟨x1, hx1⟩ : ∃ v, cur[k * 2 + 1]? = some v := ⟨_, List.getElem?_eq_getElem (by omega)⟩
      have e0 : w2.cell? ⟨w.heap.size, k * 2, none⟩ = some x0 := by rw [cell_of_row _ _ _ _ _ _ hg2, List.getElem?_toArray, hx0]
      have e1 : w2.cell? ⟨w.heap.size, k * 2 + 1, none⟩ = some x1 := by rw [cell_of_row _ _ _ _ _ _ hg2, List.getElem?_toArray, hx1]
      have ef : ∀ j, w2.frozen? ⟨w.heap.size, j, none⟩ = false := fun j => frozen_of_row _ _ _ _ _ hg2
      have HG : Hid (w2.heap[w.heap.size]? = some (.cells cur.toArray 85 (0, 0))) := hg2
      clear hx0 hx1 hg2 hg d0 d1 hb hb2
      go_wp2
      go_roundw
      case rel => exact ⟨k + 1, _, by omega, by go_num, hlen2, set2w_heap HG.out, HC3, (hb3.setCell (Nat.le_refl _) _).setCell (Nat.le_refl _) _⟩
      case measure => simp [intOf]; omega
    · obtain rfl : k = l.length := by omega
      have HF : Hid (OwnW w.heap.size (.slice (some ⟨w.heap.size, 0, none⟩) l.length l.length) l wr) := ⟨(by rw [flatW_len]), .inr ⟨w.heap.size, l.length, cur.toArray, rfl, Nat.le_refl _, hg, Nat.le_refl _, (by unfold maxLen; omega), (by simpa using hlen), (by have := HC.out; rw [List.take_length] at this; simpa using this)⟩⟩
      go_wp2
      go_ret
      exact ⟨_, rfl, HF.out, hb⟩
end Go.Proofs.Ytaapacpiipcogaa

/-
  Contract: a disk copied into rows of its own; two disks of the same parts are the same.
-/
namespace Go.Proofs.Ytaapacpiipcogaa
open Go.RowKit
set_option maxRecDepth 100000

theorem apart_below {u v : Value} {m : Nat} (hu : ∀ b, u.ownBlock = some b → b < m) (hv : ∀ b, v.ownBlock = some b → m ≤ b) : u.ownBlock = none ∨ u.ownBlock ≠ v.ownBlock := by
  cases h : u.ownBlock with
  | none => exact .inl rfl
  | some b => exact .inr (fun e => by have h1 := hu b h; have h2 := hv b e.symm; omega)
set_option maxHeartbeats 1000000 in
theorem toDisk_own (A B : Nat) (so : Option Addr) (p : Nat) (co : Option Addr) (q : Nat) (d : Dk) (w : World) (hB : B ≤ w.heap.size) (hf : dkFits d) (hr : DkRow w A B so co d) :
    Calls Try.prog 10 #[.agg #[.slice so d.secs.length p, .slice co d.cache.length q]] w fun e w' => ∃ s c, e = .returned (.agg #[s, c]) ∧ OwnD w.heap.size s c d w' ∧ Below w.heap.size w w' := by
  have HR := hide hr
  have HF := hide hf
  clear hr hf
  obtain ⟨ss, cs⟩ := d
  simp only
  have HB0 : Hid (Below w.heap.size w (((w.alloc (.cells #[.slice so ss.length p, .slice co cs.length q] 25)).alloc (.cells #[.slice none 0 0, .slice none 0 0] 29)).alloc (.cells #[.slice none 0 0, .slice none 0 0] 29))) := (((Below.refl _ _).alloc (Nat.le_refl _) _).alloc (by simp) _).alloc (by simp; omega) _
  have X0 := hide (alloc3 w (.cells #[.slice so ss.length p, .slice co cs.length q] 25) (.cells #[.slice none 0 0, .slice none 0 0] 29) (.cells #[.slice none 0 0, .slice none 0 0] 29))
  have HZ : Hid ((((w.alloc (.cells #[.slice so ss.length p, .slice co cs.length q] 25)).alloc (.cells #[.slice none 0 0, .slice none 0 0] 29)).alloc (.cells #[.slice none 0 0, .slice none 0 0] 29)).heap.size = w.heap.size + 3) := by show _ = _; simp
  go_enter Try.func10, Try.ntmps10
  go_wp2_with fail
  refine (toStringS_ownS A w.heap.size so p ss _ HB0.out.size HF.out.1 ((HR.out.2.1.mono (Nat.le_refl _) hB).kept HB0.out)).mono ?_
  generalize ((w.alloc (.cells #[.slice so ss.length p, .slice co cs.length q] 25)).alloc (.cells #[.slice none 0 0, .slice none 0 0] 29)).alloc (.cells #[.slice none 0 0, .slice none 0 0] 29) = W0 at *
  rintro e w1 ⟨v, rfl, hr1, hb1⟩
  obtain ⟨so', p', rfl⟩ := ownS_shape hr1
  have hsz1 : w.heap.size + 3 ≤ w1.heap.size := by have := hb1.size; rw [HZ.out] at this; exact this
  have R1 : Hid (OwnS (w.heap.size + 3) (.slice so' ss.length p') ss w1) := owns_base hr1 (by rw [HZ.out]; omega)
  have M1 : Hid (∀ b, (Value.slice so' ss.length p').ownBlock = some b → b < w1.heap.size) := fun b hb => (World.ownsRow.lt hr1 b hb).2
  have B1 : Hid (Below w.heap.size w (w1.setCell ⟨w.heap.size + 1 + 1, 0, none⟩ (.slice so' ss.length p'))) := (HB0.out.trans (hb1.mono HB0.out.size)).setCell (by simp; omega) _
  have X1 := hide ((hb1.block w.heap.size (by rw [HZ.out]; omega)).trans X0.out.1)
  have Y1 := hide ((hb1.block (w.heap.size + 1) (by rw [HZ.out]; omega)).trans X0.out.2.1)
  have L1 := hide ((hb1.block (w.heap.size + 1 + 1) (by rw [HZ.out]; omega)).trans X0.out.2.2)
  obtain ⟨x0, x1, xf⟩ := cells2 X1.out
  obtain ⟨l0, l1, lf⟩ := cells2 L1.out
  clear hr1 hb1 X0 HZ
  go_wp2_with fail
  refine (toWriteS_own A w.heap.size co q cs _ B1.out.size HF.out.2 ((HR.out.2.2.mono (Nat.le_refl _) hB).kept B1.out)).mono ?_
  rintro e w2 ⟨v, rfl, hr2, hb2⟩
  obtain ⟨co', q', rfl⟩ := ownW_shape hr2
  have hsz2 : w1.heap.size ≤ w2.heap.size := by have := hb2.size; simpa using this
  have R2 : Hid (OwnW (w.heap.size + 3) (.slice co' cs.length q') cs w2) := owns_base hr2 (by simp; omega)
  have R12 : Hid (OwnS (w.heap.size + 3) (.slice so' ss.length p') ss w2) := owns_below (own_set R1.out (by omega)) hb2
  have HS : Hid (OwnD (w.heap.size + 3) (.slice so' ss.length p') (.slice co' cs.length q') ⟨ss, cs⟩ w2) := ⟨R12.out, R2.out, apart_below M1.out (fun b hb => by have := (World.ownsRow.lt hr2 b hb).1; simpa using this)⟩
  have B2 : Hid (Below w.heap.size w w2) := B1.out.trans (hb2.mono B1.out.size)
  have Y2 : Hid (w2.heap[w.heap.size + 1]? = some (.cells #[.slice none 0 0, .slice none 0 0] 29 (0, 0))) := ((hb2.block _ (by simp; omega)).trans (heap_far _ _ _ _ _ (by omega))).trans Y1.out
  have L2 : Hid (w2.heap[w.heap.size + 1 + 1]? = some (.cells #[.slice so' ss.length p', .slice none 0 0] 29 (0, 0))) := (hb2.block _ (by simp; omega)).trans (by simpa using heap_setCell_same _ _ 0 _ _ (.slice so' ss.length p') L1.out)
  clear x0 x1 xf l0 l1 lf
  obtain ⟨y0, y1, yf⟩ := cells2 Y2.out
  obtain ⟨l0, l1, lf⟩ := cells2 L2.out
  clear hr2 hb2 M1 R12 R2 R1 B1 HB0 HR HF X1 Y1 L1
  go_wp2
  refine bodyPost_ret (v := .agg #[.slice so' ss.length p', .slice co' cs.length q']) (by simp [results, Try.results10, go_sem, y0, y1]) rfl ⟨_, _, rfl, ?_, ?_⟩
  · exact (((HS.out.set (by omega)).set (by omega)).set (by omega)).base (by omega)
  · exact ((B2.out.setCell (by simp; omega) _).setCell (by simp) _).setCell (by simp) _
theorem eqWrite_same (n : Int) (t : ByteArray) (w : World) :
    Calls Try.prog 68 #[.agg #[.int .i64 n, .string t], .agg #[.int .i64 n, .string t]] w fun e w' => e = .returned (.bool true) ∧ Below w.heap.size w w' := by
  go_enter Try.func68, Try.ntmps68
  go_wp2
  go_ret
  exact ⟨rfl, ((Below.refl _ _).alloc (Nat.le_refl _) _).alloc (by simp) _⟩
theorem ownW_at {base : Nat} {v : Value} {l : List Wr} {w : World} (h : OwnW base v l w) : ∃ ao cap, v = .slice ao l.length cap ∧ ∀ k, k < l.length → ∃ b off n t, ao = some ⟨b, off, none⟩ ∧ b < w.heap.size ∧ l.getD k noWr = ⟨n, t⟩ ∧ w.cell? ⟨b, off + k * 2, none⟩ = some (.int .i64 n) ∧ w.cell? ⟨b, off + k * 2 + 1, none⟩ = some (.string t) := by
  rcases h.2 with ⟨rfl, h0⟩ | ⟨g, cap, cur, rfl, hB, hq, hn', hm, hs, hc⟩
  · exact ⟨none, 0, by rw [h0], fun k hk => by omega⟩
  · have hget : ∀ j, j < l.length * 2 → cur[j]? = (flatW l)[j]? := fun j hj => by
      have h1 : cur.toList.take (l.length * 2) = flatW l := by simpa using hc
      rw [← h1, List.getElem?_take_of_lt hj, Array.getElem?_toList]
    refine ⟨_, _, rfl, fun k hk => ⟨g, 0, (l.getD k noWr).pos, (l.getD k noWr).text, rfl, (Array.getElem?_eq_some_iff.1 hq).1, rfl, ?_, ?_⟩⟩
    · rw [cell_of_row _ _ _ _ _ _ hq, Nat.zero_add, hget _ (by omega), (flatW_get l k hk).1]
    · rw [cell_of_row _ _ _ _ _ _ hq, Nat.zero_add, hget _ (by omega), (flatW_get l k hk).2]
set_option maxHeartbeats 2000000 in
theorem eqWriteS_own (base base' : Nat) (v v' : Value) (l : List Wr) (w : World) (hl : l.length ≤ 1048576) (ha : OwnW base v l w) (hb : OwnW base' v' l w) :
    Calls Try.prog 41 #[v, v'] w fun e w' => e = .returned (.bool true) ∧ Below w.heap.size w w' := by
  obtain ⟨ao, cap, rfl, hka⟩ := ownW_at ha
  obtain ⟨bo, cp, rfl, hkb⟩ := ownW_at hb
  have HA := hide hka
  have HB := hide hkb
  clear ha hb hka hkb
  go_enter Try.func41, Try.ntmps41
  go_wp2
  go_loopw [5] (fun i wr => ∃ k : Nat, k ≤ l.length ∧ i = .int .i64 k ∧ Below w.heap.size w wr) (fun i _ => l.length - (intOf i).toNat)
  case atStart => exact ⟨0, Nat.zero_le _, rfl, Below.refl _ _⟩
  case round =>
    obtain ⟨k, hk, rfl, hbw⟩ := hrel
    by_cases hlt : k < l.length
    · obtain ⟨b, off, nn, tt, rfl, hbB, hv, d00, d01⟩ := HA.out k hlt
      obtain ⟨b', off', nn', tt', rfl, hbB', hv', e00, e01⟩ := HB.out k hlt
      rw [hv] at hv'
      simp only [Wr.mk.injEq] at hv'
      obtain ⟨rfl, rfl⟩ := hv'
      have hz := hbw.size
      have d0 := (hbw.cell (p := ⟨b, off + k * 2, none⟩) hbB).trans d00
      have d1 := (hbw.cell (p := ⟨b, off + k * 2 + 1, none⟩) hbB).trans d01
      have e0 := (hbw.cell (p := ⟨b', off' + k * 2, none⟩) hbB').trans e00
      have e1 := (hbw.cell (p := ⟨b', off' + k * 2 + 1, none⟩) hbB').trans e01
      have hi0 : (0 : Int) ≤ (k : Int) := by omega
      have hi1 : (k : Int) < (l.length : Int) := by omega
      have ht := (Int.toNat_natCast k)
      have hq1 : b < wr.heap.size := by omega
      have hq2 : b' < wr.heap.size := by omega
      clear hv d00 e00 d01 e01 hbB hbB'
      go_wp2
      go_region_held3 (fun W => W.cell? ⟨b, off + k * 2, none⟩ = some (.int .i64 nn) ∧ W.cell? ⟨b, off + k * 2 + 1, none⟩ = some (.string tt) ∧ W.cell? ⟨b', off' + k * 2, none⟩ = some (.int .i64 nn) ∧ W.cell? ⟨b', off' + k * 2 + 1, none⟩ = some (.string tt)) (go_keep) (first | (go_at_call 68; refine (eqWrite_same nn tt _).mono ?_; rintro e w1 ⟨rfl, hb1⟩; have hb1' : Below wr.heap.size wr w1 := (Below.refl _ _).drew.trans hb1; obtain ⟨hc1, hf1⟩ := bcell hb1'))
      all_goals
        have hb2 := hbw.trans (hb1'.mono hz)
        clear d0 d1 e0 e1 hb1 hb1' hbw hc1 hf1
        go_wp2
        go_roundw
        case rel => exact ⟨k + 1, by omega, by go_num, hb2⟩
        case measure => simp [intOf]; omega
    · go_wp2
      go_ret
      exact ⟨rfl, hbw⟩
set_option maxHeartbeats 2000000 in
theorem eqDisk_own (b1 b2 : Nat) (s c s' c' : Value) (d : Dk) (w : World) (hf : dkFits d) (h : OwnD b1 s c d w) (h' : OwnD b2 s' c' d w) :
    Calls Try.prog 13 #[.agg #[s, c], .agg #[s', c']] w fun e w' => e = .returned (.bool true) ∧ Below w.heap.size w w' := by
  have C1 := hide (fun (W : World) (hb : Below w.heap.size w W) => eqStringS_own _ _ _ _ d.secs W hf.1 (owns_below h.secs hb) (owns_below h'.secs hb))
  have C2 := hide (fun (W : World) (hb : Below w.heap.size w W) => eqWriteS_own _ _ _ _ d.cache W hf.2 (owns_below h.cache hb) (owns_below h'.cache hb))
  obtain ⟨so, p, co, q, rfl, rfl⟩ := h.shape
  obtain ⟨so', p', co', q', rfl, rfl⟩ := h'.shape
  obtain ⟨ss, cs⟩ := d
  simp only at *
  have HA := hide (two_allocs w (.cells #[.slice so ss.length p, .slice co cs.length q] 29) (.cells #[.slice so' ss.length p', .slice co' cs.length q'] 29))
  have B0 := hide (((Below.refl w.heap.size w).alloc (Nat.le_refl _) (.cells #[.slice so ss.length p, .slice co cs.length q] 29)).alloc (by simp) (.cells #[.slice so' ss.length p', .slice co' cs.length q'] 29))
  clear h h' hf
  go_enter Try.func13, Try.ntmps13
  go_wp2_with fail
  refine (C1.out _ B0.out).mono ?_
  generalize (w.alloc (.cells #[.slice so ss.length p, .slice co cs.length q] 29)).alloc (.cells #[.slice so' ss.length p', .slice co' cs.length q'] 29) = W0 at *
  rintro e w1 ⟨rfl, b1⟩
  obtain ⟨hx0, hy0, hz0⟩ := HA.out
  have X1 := hide ((b1.block w.heap.size (by omega)).trans hx0)
  have Y1 := hide ((b1.block (w.heap.size + 1) (by omega)).trans hy0)
  have B1 := hide (B0.out.trans (b1.mono B0.out.size))
  obtain ⟨x0, x1, xf⟩ := cells2 X1.out
  obtain ⟨y0, y1, yf⟩ := cells2 Y1.out
  clear b1 HA hx0 hy0 hz0 B0 C1
  go_wp2_with fail
  refine (C2.out _ B1.out).mono ?_
  rintro e w2 ⟨rfl, b2⟩
  have B2 := hide (B1.out.trans (b2.mono B1.out.size))
  clear b2 X1 Y1 B1 C2 x0 x1 xf y0 y1 yf
  go_wp2
  go_ret
  exact ⟨rfl, B2.out⟩
end Go.Proofs.Ytaapacpiipcogaa

/-
  One byte, as a text.
-/
namespace Go.Proofs.Ytaapacpiipcogaa
open Go.RowKit

theorem conv_one (W : World) (c : UInt8) (x : Int) (hx : x = (c.toNat : Int)) : (convert 87 9 (.slice (some ⟨W.heap.size, 0, none⟩) 1 1)).run Try.prog (W.alloc (.cells #[.int .u8 x] 5)) = .ok (.string (mkS [c])) (W.alloc (.cells #[.int .u8 x] 5)) := by
  subst hx
  exact OwnB.conv (base := W.heap.size) (l := [c]) ⟨rfl, .inr ⟨W.heap.size, 1, _, rfl, Nat.le_refl _, heap_alloc_new _ _, Nat.le_refl _, by decide, rfl, rfl⟩⟩
end Go.Proofs.Ytaapacpiipcogaa

/-
  Contracts: marks.
-/
namespace Go.Proofs.Ytaapacpiipcogaa
open Go.RowKit

/-- A number's figures, ahead of what stands there. -/
def figs (j : Nat) (o : ByteArray) : ByteArray := if _h : j = 0 then o else figs (j / 10) (mkS [UInt8.ofNat (48 + j % 10)] ++ o)
termination_by j
decreasing_by omega
theorem figs_zero (o : ByteArray) : figs 0 o = o := by rw [figs]; rfl
theorem figs_pos (j : Nat) (o : ByteArray) (h : 0 < j) : figs j o = figs (j / 10) (mkS [UInt8.ofNat (48 + j % 10)] ++ o) := by rw [figs, dif_neg (by omega)]
/-- A mark. -/
def markS (k : Nat) : ByteArray := "m".toUTF8 ++ figs k ⟨#[]⟩
theorem m_size (k : Nat) : markS k = ⟨#[109]⟩ ++ figs k ⟨#[]⟩ := rfl
set_option maxRecDepth 100000 in
set_option maxHeartbeats 4000000 in
theorem markText_pos (k : Nat) (h : 0 < k) (hk : k ≤ 10000000) (w : World) :
    Calls Try.prog 69 #[.int .i64 k] w fun e w' => e = .returned (.string (markS k)) ∧ Below w.heap.size w w' := by
  go_enter Try.func69, Try.ntmps69
  go_wp2
  go_loopw [0, 3] (fun i o wr => ∃ (j : Nat) (x : ByteArray), x.size + j ≤ 10000000 ∧ i = .int .i64 j ∧ o = .string x ∧ Hid (figs k ⟨#[]⟩ = figs j x) ∧ Below w.heap.size w wr) (fun i _ _ => (intOf i).toNat)
  case atStart => exact ⟨k, ⟨#[]⟩, by simpa [ByteArray.size] using hk, rfl, rfl, rfl, Below.refl _ _⟩
  case round =>
    obtain ⟨j, x, hj, rfl, rfl, HF, hb⟩ := hrel
    have hz := hb.size
    by_cases hj0 : j = 0
    · subst hj0
      have HM : Hid (markS k = ⟨#[109]⟩ ++ x) := by show _ = _; rw [m_size, HF.out, figs_zero]
      clear HF
      go_wp2
      go_ret
      exact ⟨ret_str HM.out.symm, hb⟩
    · have HF2 : Hid (figs k ⟨#[]⟩ = figs (j / 10) (mkS [UInt8.ofNat (48 + j % 10)] ++ x)) := by show _ = _; rw [HF.out, figs_pos j x (by omega)]
      have hr10 : j % 10 < 10 := Nat.mod_lt _ (by omega)
      have hcv := conv_one wr (UInt8.ofNat (48 + j % 10)) (48 + (j : Int) % 10) (by rw [UInt8.toNat_ofNat']; omega)
      have hms : (mkS [UInt8.ofNat (48 + j % 10)]).size = 1 := mkS_size _
      have hb2 := hb.alloc hz (.cells #[.int .u8 (48 + (j : Int) % 10)] 5)
      clear HF
      generalize mkS [UInt8.ofNat (48 + j % 10)] = c at *
      go_wp2
      go_roundw
      case rel => exact ⟨j / 10, c ++ x, by rw [ByteArray.size_append]; omega, by go_num, rfl, HF2, hb2⟩
      case measure => simp [intOf]; omega
end Go.Proofs.Ytaapacpiipcogaa

/-
  Contracts: marks are written into texts that lie in a block of their own, and read again.
-/
namespace Go.Proofs.Ytaapacpiipcogaa
open Go.RowKit
set_option maxRecDepth 100000

/-- A block that has room for n texts; its first k are marks, from k0 on. -/
def MkAt (g n k0 k : Nat) (w : World) : Prop := ∃ cur : List Value, w.heap[g]? = some (.cells cur.toArray 9 (0, 0)) ∧ n ≤ cur.length ∧ ∀ i, i < k → cur[i]? = some (.string (markS (k0 + i)))
theorem MkAt.lt {g n k0 k : Nat} {w : World} (h : MkAt g n k0 k w) : g < w.heap.size := by
  obtain ⟨cur, hg, _⟩ := h
  exact (Array.getElem?_eq_some_iff.1 hg).1
theorem MkAt.kept {g n k0 k B : Nat} {w w' : World} (h : MkAt g n k0 k w) (hb : Below B w w') (hg : g < B) : MkAt g n k0 k w' := by
  obtain ⟨cur, h1, h2⟩ := h
  exact ⟨cur, (hb.block g hg).trans h1, h2⟩
theorem MkAt.step {g n k0 k : Nat} {w : World} (h : MkAt g n k0 k w) (hk : k < n) : MkAt g n k0 (k + 1) (w.setCell ⟨g, k, none⟩ (.string (markS (k0 + k)))) := by
  obtain ⟨cur, h1, h2, h3⟩ := h
  refine ⟨_, setL_heap h1, by simpa using h2, fun i hi => ?_⟩
  by_cases e : i = k
  · subst e
    rw [List.getElem?_set_self (by omega)]
  · rw [List.getElem?_set_ne (by omega)]
    exact h3 i (by omega)
theorem MkAt.cell {g n k0 k : Nat} {w : World} (h : MkAt g n k0 n w) (hk : k < n) : w.cell? ⟨g, k, none⟩ = some (.string (markS (k0 + k))) := by
  obtain ⟨cur, h1, h2, h3⟩ := h
  rw [cell_of_row _ _ _ _ _ _ h1, List.getElem?_toArray, h3 k hk]
set_option maxHeartbeats 2000000 in
theorem markStringS_at (g n cap k0 : Nat) (w : World) (hn : n ≤ 1048576) (h0 : 0 < k0) (hk : k0 ≤ 5000000) (hw : MkAt g n k0 0 w) :
    Calls Try.prog 42 #[.slice (some ⟨g, 0, none⟩) n cap, .int .i64 k0] w fun e w' => e = .returned (.int .i64 ((k0 + n : Nat) : Int)) ∧ MkAt g n k0 n w' ∧ w.grownBy w' (some g) := by
  have HW := hide hw
  clear hw
  go_enter Try.func42, Try.ntmps42
  go_wp2
  go_loopw [1, 5] (fun q i wr => ∃ k : Nat, k ≤ n ∧ i = .int .i64 k ∧ q = .int .i64 ((k0 + k : Nat) : Int) ∧ Hid (MkAt g n k0 k wr) ∧ w.grownBy wr (some g)) (fun _ i _ => n - (intOf i).toNat)
  case atStart => exact ⟨0, Nat.zero_le _, rfl, rfl, HW, grown_refl _ _⟩
  case round =>
    obtain ⟨k, hk', rfl, rfl, HM, hb⟩ := hrel
    by_cases hlt : k < n
    · have hmt := hide (markText_pos (k0 + k) (by omega) (by omega) wr)
      go_wp2_with fail
      refine hmt.out.mono ?_
      rintro e w1 ⟨rfl, b1⟩
      have HM1 := hide (HM.out.kept b1 HM.out.lt)
      have hb1 := grown_below hb b1
      have HM2 := hide (HM1.out.step hlt)
      obtain ⟨cur, hg, hl, _⟩ := HM1.out
      obtain ⟨x0, hx0⟩ : ∃ v, cur[k]? = some v := ⟨_, List.getElem?_eq_getElem (by omega)⟩
      have e0 : w1.cell? ⟨g, k, none⟩ = some x0 := by rw [cell_of_row _ _ _ _ _ _ hg, List.getElem?_toArray, hx0]
      have ef : ∀ j, w1.frozen? ⟨g, j, none⟩ = false := fun j => frozen_of_row _ _ _ _ _ hg
      clear HM HM1 hg hl hx0 b1 hmt hb
      generalize markS (k0 + k) = T at *
      go_wp2
      go_roundw
      case rel => exact ⟨k + 1, by omega, by go_num, by go_num, HM2, grown_setG hb1⟩
      case measure => simp [intOf]; omega
    · obtain rfl : k = n := by omega
      go_wp2
      go_ret
      exact ⟨rfl, HM.out, hb⟩
set_option maxHeartbeats 2000000 in
theorem heldStringS_at (g n cap k0 : Nat) (w : World) (hn : n ≤ 1048576) (h0 : 0 < k0) (hk0 : k0 ≤ 5000000) (hw : MkAt g n k0 n w) :
    Calls Try.prog 70 #[.slice (some ⟨g, 0, none⟩) n cap, .int .i64 k0] w fun e w' => e = .returned (.int .i64 ((k0 + n : Nat) : Int)) ∧ Below w.heap.size w w' := by
  have hgs := hw.lt
  have HW : Hid (∀ W, Below w.heap.size w W → MkAt g n k0 n W) := fun W hb => hw.kept hb hgs
  clear hw
  go_enter Try.func70, Try.ntmps70
  go_wp2
  go_loopw [1, 5] (fun q i wr => ∃ k : Nat, k ≤ n ∧ i = .int .i64 k ∧ q = .int .i64 ((k0 + k : Nat) : Int) ∧ Below w.heap.size w wr) (fun _ i _ => n - (intOf i).toNat)
  case atStart => exact ⟨0, Nat.zero_le _, rfl, rfl, Below.refl _ _⟩
  case round =>
    obtain ⟨k, hk, rfl, rfl, hb⟩ := hrel
    have hz := hb.size
    by_cases hlt : k < n
    · have d0 := (HW.out _ hb).cell hlt
      have hi0 : (0 : Int) ≤ (k : Int) := by omega
      have hi1 : (k : Int) < (n : Int) := by omega
      have ht := (Int.toNat_natCast k)
      have hmt := fun W => markText_pos (k0 + k) (by omega) (by omega) W
      generalize markS (k0 + k) = T at *
      have hgr : g < wr.heap.size := by omega
      go_wp2
      go_region_held3 (fun W => W.cell? ⟨g, k, none⟩ = some (.string T)) (go_keep) (first | (go_at_call 69; refine (hmt _).mono ?_; rintro e w1 ⟨rfl, hb1⟩; have hb1' : Below wr.heap.size wr w1 := (Below.refl _ _).drew.trans hb1; obtain ⟨hc1, hf1⟩ := bcell hb1'))
      all_goals
        have hb2 := hb.trans (hb1'.mono hz)
        clear d0 hb1 hb1' hb hc1 hf1
        go_wp2
        go_roundw
        case rel => exact ⟨k + 1, by omega, by go_num, by go_num, hb2⟩
        case measure => simp [intOf]; omega
    · obtain rfl : k = n := by omega
      go_wp2
      go_ret
      exact ⟨rfl, hb⟩
end Go.Proofs.Ytaapacpiipcogaa

/-
  Contracts: texts in a row of their own are marked, and looked at again.
-/
namespace Go.Proofs.Ytaapacpiipcogaa
open Go.RowKit
set_option maxRecDepth 100000

/-- A slice of n texts that is marked. -/
def MarkedS (v : Value) (n : Nat) (w : World) : Prop := (v = .slice none 0 0 ∧ n = 0) ∨ ∃ g cap, v = .slice (some ⟨g, 0, none⟩) n cap ∧ MkAt g n 1 n w
theorem MarkedS.kept {v : Value} {n : Nat} {w w' : World} (h : MarkedS v n w) (hb : Below w.heap.size w w') : MarkedS v n w' := by
  rcases h with h | ⟨g, cap, rfl, h⟩
  · exact .inl h
  · exact .inr ⟨g, cap, rfl, h.kept hb h.lt⟩
theorem markStringS_nil (w : World) : Calls Try.prog 42 #[.slice none 0 0, .int .i64 1] w fun e w' => e = .returned (.int .i64 1) ∧ w' = w := by
  go_enter Try.func42, Try.ntmps42
  go_wp2
  go_loop [1, 5] (fun q i => i = .int .i64 0 ∧ q = .int .i64 1) (fun _ _ => 0)
  case atStart => exact ⟨rfl, rfl⟩
  case round =>
    obtain ⟨rfl, rfl⟩ := hrel
    go_wp2
    go_ret
    exact ⟨rfl, rfl⟩
theorem heldStringS_nil (w : World) : Calls Try.prog 70 #[.slice none 0 0, .int .i64 1] w fun e w' => e = .returned (.int .i64 1) ∧ w' = w := by
  go_enter Try.func70, Try.ntmps70
  go_wp2
  go_loop [1, 5] (fun q i => i = .int .i64 0 ∧ q = .int .i64 1) (fun _ _ => 0)
  case atStart => exact ⟨rfl, rfl⟩
  case round =>
    obtain ⟨rfl, rfl⟩ := hrel
    go_wp2
    go_ret
    exact ⟨rfl, rfl⟩
theorem markStringS_own (base : Nat) (v : Value) (l : List ByteArray) (w : World) (hn : l.length ≤ 1048576) (h : OwnS base v l w) :
    Calls Try.prog 42 #[v, .int .i64 1] w fun e w' => e = .returned (.int .i64 ((1 + l.length : Nat) : Int)) ∧ MarkedS v l.length w' ∧ w.grownBy w' v.ownBlock := by
  rcases h.2 with ⟨rfl, h0⟩ | ⟨g, cap, cur, rfl, hB, hq, hn', hm, hs, ht⟩
  · refine (markStringS_nil w).mono ?_
    rintro e w' ⟨rfl, rfl⟩
    rw [h0]
    exact ⟨rfl, .inl ⟨rfl, rfl⟩, grown_refl _ _⟩
  · refine (markStringS_at g l.length cap 1 w hn (by omega) (by omega) ⟨cur.toList, by simpa using hq, by simp; omega, fun i hi => by omega⟩).mono ?_
    rintro e w' ⟨rfl, hm', hb⟩
    exact ⟨rfl, .inr ⟨g, cap, rfl, hm'⟩, hb⟩
theorem heldStringS_own (v : Value) (n : Nat) (w : World) (hn : n ≤ 1048576) (h : MarkedS v n w) :
    Calls Try.prog 70 #[v, .int .i64 1] w fun e w' => e = .returned (.int .i64 ((1 + n : Nat) : Int)) ∧ Below w.heap.size w w' := by
  rcases h with ⟨rfl, rfl⟩ | ⟨g, cap, rfl, hm⟩
  · refine (heldStringS_nil w).mono ?_
    rintro e w' ⟨rfl, rfl⟩
    exact ⟨rfl, Below.refl _ _⟩
  · exact heldStringS_at g n cap 1 w hn (by omega) (by omega) hm
end Go.Proofs.Ytaapacpiipcogaa

/-
  Contracts: marks are written into a disk's lists, and read again.
-/
namespace Go.Proofs.Ytaapacpiipcogaa
open Go.RowKit
set_option maxRecDepth 100000

def mStrs (k0 n : Nat) : List ByteArray := (List.range n).map fun i => markS (k0 + i)
def mWr (k : Nat) : Wr := ⟨(k : Int), markS (k + 1)⟩
def mWrs (k0 n : Nat) : List Wr := (List.range n).map fun i => mWr (k0 + 2 * i)
theorem mStrs_succ (k0 k : Nat) : mStrs k0 (k + 1) = mStrs k0 k ++ [markS (k0 + k)] := by simp [mStrs, List.range_succ]
theorem mWrs_succ (k0 k : Nat) : mWrs k0 (k + 1) = mWrs k0 k ++ [mWr (k0 + 2 * k)] := by simp [mWrs, List.range_succ]
theorem mStrs_len (k0 n : Nat) : (mStrs k0 n).length = n := by simp [mStrs]
theorem mWrs_len (k0 n : Nat) : (mWrs k0 n).length = n := by simp [mWrs]
theorem mStrs_get (k0 n i : Nat) (h : i < n) : (mStrs k0 n).getD i ByteArray.empty = markS (k0 + i) := by simp [mStrs, List.getD_eq_getElem?_getD, h]
theorem mWrs_get (k0 n i : Nat) (h : i < n) : (mWrs k0 n).getD i noWr = mWr (k0 + 2 * i) := by simp [mWrs, List.getD_eq_getElem?_getD, h]
def SM (g m k0 k : Nat) (w : World) : Prop := ∃ cur : List Value, w.heap[g]? = some (.cells cur.toArray 9 (0, 0)) ∧ cur.length = m ∧ cur.take k = strsV (mStrs k0 k)
def WM (g m k0 k : Nat) (w : World) : Prop := ∃ cur : List Value, w.heap[g]? = some (.cells cur.toArray 85 (0, 0)) ∧ cur.length = m ∧ cur.take (k * 2) = flatW (mWrs k0 k)
set_option maxHeartbeats 2000000 in
theorem markStringS_cur (g n cap k0 m : Nat) (w : World) (hk0 : 0 < k0) (hk1 : k0 + n ≤ 5000000) (hl0 : n ≤ m) (hw : SM g m k0 0 w) :
    Calls Try.prog 42 #[.slice (some ⟨g, 0, none⟩) n cap, .int .i64 k0] w fun e w' => e = .returned (.int .i64 ((k0 + n : Nat) : Int)) ∧ SM g m k0 n w' ∧ w.grownBy w' (some g) := by
  have HW := hide hw
  clear hw
  go_enter Try.func42, Try.ntmps42
  go_wp2
  go_loopw [1, 5] (fun q i wr => ∃ k : Nat, k ≤ n ∧ i = .int .i64 k ∧ q = .int .i64 ((k0 + k : Nat) : Int) ∧ Hid (SM g m k0 k wr) ∧ w.grownBy wr (some g)) (fun _ i _ => n - (intOf i).toNat)
  case atStart => exact ⟨0, Nat.zero_le _, rfl, rfl, HW, grown_refl _ _⟩
  case round =>
    obtain ⟨k, hk', rfl, rfl, HM, hb⟩ := hrel
    by_cases hlt : k < n
    · have hmt := hide (markText_pos (k0 + k) (by omega) (by omega) wr)
      obtain ⟨cur, hg, hl, htk⟩ := HM.out
      have hgs : g < wr.heap.size := (Array.getElem?_eq_some_iff.1 hg).1
      have HG := hide hg
      have HL := hide htk
      have HS := hide (mStrs_succ k0 k)
      generalize markS (k0 + k) = T at *
      clear HM hg htk
      go_wp2_with fail
      refine hmt.out.mono ?_
      rintro e w1 ⟨rfl, b1⟩
      have hg1 := (b1.block g hgs).trans HG.out
      obtain ⟨x0, hx0⟩ : ∃ v, cur[k]? = some v := ⟨_, List.getElem?_eq_getElem (by omega)⟩
      have e0 : w1.cell? ⟨g, k, none⟩ = some x0 := by rw [cell_of_row _ _ _ _ _ _ hg1, List.getElem?_toArray, hx0]
      have ef : ∀ j, w1.frozen? ⟨g, j, none⟩ = false := fun j => frozen_of_row _ _ _ _ _ hg1
      have HM2 : Hid (SM g m k0 (k + 1) (w1.setCell ⟨g, k, none⟩ (.string T)) ∧ w.grownBy (w1.setCell ⟨g, k, none⟩ (.string T)) (some g)) := by
        refine ⟨⟨_, setL_heap hg1, by simpa using hl, ?_⟩, grown_setG (grown_below hb b1)⟩
        rw [take_set1 _ _ _ (by omega), HL.out, HS.out]
        simp [strsV]
      clear HG HL HS hg1 hx0 b1 hmt hb hgs hl
      go_wp2
      go_roundw
      case rel => exact ⟨k + 1, by omega, by go_num, by go_num, HM2.out.1, HM2.out.2⟩
      case measure => simp [intOf]; omega
    · obtain rfl : k = n := by omega
      go_wp2
      go_ret
      exact ⟨rfl, HM.out, hb⟩
theorem markStringS_nilK (k0 : Nat) (w : World) : Calls Try.prog 42 #[.slice none 0 0, .int .i64 k0] w fun e w' => e = .returned (.int .i64 k0) ∧ w' = w := by
  go_enter Try.func42, Try.ntmps42
  go_wp2
  go_loop [1, 5] (fun q i => i = .int .i64 0 ∧ q = .int .i64 k0) (fun _ _ => 0)
  case atStart => exact ⟨rfl, rfl⟩
  case round =>
    obtain ⟨rfl, rfl⟩ := hrel
    go_wp2
    go_ret
    exact ⟨rfl, rfl⟩
theorem markStringS_mk (base : Nat) (v : Value) (l : List ByteArray) (k0 : Nat) (w : World) (hk0 : 0 < k0) (hk1 : k0 + l.length ≤ 5000000) (h : OwnS base v l w) :
    Calls Try.prog 42 #[v, .int .i64 k0] w fun e w' => e = .returned (.int .i64 ((k0 + l.length : Nat) : Int)) ∧ OwnS base v (mStrs k0 l.length) w' ∧ w.grownBy w' v.ownBlock := by
  rcases h.2 with ⟨rfl, h0⟩ | ⟨g, cap, cur, rfl, hB, hq, hn', hm, hs, ht⟩
  · refine (markStringS_nilK k0 w).mono ?_
    rintro e w' ⟨rfl, rfl⟩
    rw [h0]
    exact ⟨rfl, ownS_nil _ _, grown_refl _ _⟩
  · refine (markStringS_cur g l.length cap k0 (cap * 1) w hk0 hk1 (by omega) ⟨cur.toList, by simpa using hq, by simpa using hs, by simp [mStrs, strsV]⟩).mono ?_
    rintro e w' ⟨rfl, ⟨cur', hg', hl', ht'⟩, hb⟩
    refine ⟨rfl, ⟨by simp [strsV], .inr ⟨g, cap, cur'.toArray, by rw [mStrs_len], hB, hg', by rw [mStrs_len]; exact hn', hm, by simpa using hl', ?_⟩⟩, hb⟩
    rw [mStrs_len]; simpa using ht'
set_option maxHeartbeats 4000000 in
theorem markWriteS_at (g n cap k0 m : Nat) (w : World) (hk0 : 0 < k0) (hk1 : k0 + 2 * n ≤ 5000000) (hl0 : n * 2 ≤ m) (hw : WM g m k0 0 w) :
    Calls Try.prog 43 #[.slice (some ⟨g, 0, none⟩) n cap, .int .i64 k0] w fun e w' => e = .returned (.int .i64 ((k0 + 2 * n : Nat) : Int)) ∧ WM g m k0 n w' ∧ w.grownBy w' (some g) := by
  have HW := hide hw
  clear hw
  go_enter Try.func43, Try.ntmps43
  go_wp2
  go_loopw [1, 5] (fun s i wr => ∃ k q : Nat, k ≤ n ∧ i = .int .i64 k ∧ s = .int .i64 q ∧ Hid (q = k0 + 2 * k) ∧ (0 < q ∧ q ≤ 5000000) ∧ Hid (WM g m k0 k wr) ∧ w.grownBy wr (some g)) (fun _ i _ => n - (intOf i).toNat)
  case atStart => exact ⟨0, k0, Nat.zero_le _, rfl, rfl, (by show _ = _; omega), ⟨hk0, by omega⟩, HW, grown_refl _ _⟩
  case round =>
    obtain ⟨k, q, hk, rfl, rfl, HQ, ⟨hq0, hq1⟩, HM, hb⟩ := hrel
    by_cases hlt : k < n
    · obtain ⟨cur, hg, hl, htk⟩ := HM.out
      have hgs : g < wr.heap.size := (Array.getElem?_eq_some_iff.1 hg).1
      have hmt := hide (fun W => markText_pos (q + 1) (by omega) (by omega) W)
      have hq3 : ((q + 1 : Nat) : Int) = (q : Int) + 1 := by omega
      rw [hq3] at hmt
      have HG := hide hg
      have HL := hide htk
      have hq2 : q + 2 ≤ 5000000 := by have := HQ.out; omega
      have HC : Hid (mWr (k0 + 2 * k) = ⟨(q : Int), markS (q + 1)⟩) := by show _ = _; rw [← HQ.out]; rfl
      generalize markS (q + 1) = T at *
      obtain ⟨x0, hx0⟩ : ∃ v, cur[k * 2]? = some v := ⟨_, List.getElem?_eq_getElem (by omega)⟩
      obtain ⟨x1, hx1⟩ : ∃ v, cur[k * 2 + 1]? = some v := ⟨_, List.getElem?_eq_getElem (by omega)⟩
      have d0 : wr.cell? ⟨g, k * 2, none⟩ = some x0 := by rw [cell_of_row _ _ _ _ _ _ hg, List.getElem?_toArray, hx0]
      have df : ∀ j, wr.frozen? ⟨g, j, none⟩ = false := fun j => frozen_of_row _ _ _ _ _ hg
      clear HM hg htk hq3
      go_wp2_with fail
      refine (hmt.out _).mono ?_
      rintro e w1 ⟨rfl, hb1⟩
      have hg1 := (hb1.block g (by simpa using hgs)).trans (setL_heap (m := k * 2) (x := .int .i64 (q : Int)) HG.out)
      have d1 : w1.cell? ⟨g, k * 2 + 1, none⟩ = some x1 := by rw [cell_of_row _ _ _ _ _ _ hg1, List.getElem?_toArray, List.getElem?_set_ne (by omega), hx1]
      have df1 : ∀ j, w1.frozen? ⟨g, j, none⟩ = false := fun j => frozen_of_row _ _ _ _ _ hg1
      have HM2 : Hid (WM g m k0 (k + 1) (w1.setCell ⟨g, k * 2 + 1, none⟩ (.string T)) ∧ w.grownBy (w1.setCell ⟨g, k * 2 + 1, none⟩ (.string T)) (some g)) := by
        refine ⟨⟨_, setL_heap hg1, by simpa using hl, ?_⟩, grown_setG (grown_below (grown_setG hb) hb1)⟩
        rw [show (k + 1) * 2 = k * 2 + 2 by omega, take_set2w _ _ _ _ (by omega), HL.out, mWrs_succ, flatW_append, HC.out]; rfl
      clear hmt HG HL HC hg1 hx0 hx1 hb1 hb d0 df
      go_wp2
      go_roundw
      case rel => exact ⟨k + 1, q + 2, by omega, by go_num, by go_num, (by show _ = _; have := HQ.out; omega), ⟨by omega, hq2⟩, HM2.out.1, HM2.out.2⟩
      case measure => simp [intOf]; omega
    · obtain rfl : k = n := by omega
      have HZ : Hid ((q : Int) = ((k0 + 2 * k : Nat) : Int)) := by show _ = _; rw [HQ.out]
      go_wp2
      go_ret
      exact ⟨by rw [HZ.out]; rfl, HM.out, hb⟩
theorem markWriteS_nil (k0 : Nat) (w : World) : Calls Try.prog 43 #[.slice none 0 0, .int .i64 k0] w fun e w' => e = .returned (.int .i64 k0) ∧ w' = w := by
  go_enter Try.func43, Try.ntmps43
  go_wp2
  go_loop [1, 5] (fun q i => i = .int .i64 0 ∧ q = .int .i64 k0) (fun _ _ => 0)
  case atStart => exact ⟨rfl, rfl⟩
  case round =>
    obtain ⟨rfl, rfl⟩ := hrel
    go_wp2
    go_ret
    exact ⟨rfl, rfl⟩
theorem markWriteS_mk (base : Nat) (v : Value) (l : List Wr) (k0 : Nat) (w : World) (hk0 : 0 < k0) (hk1 : k0 + 2 * l.length ≤ 5000000) (h : OwnW base v l w) :
    Calls Try.prog 43 #[v, .int .i64 k0] w fun e w' => e = .returned (.int .i64 ((k0 + 2 * l.length : Nat) : Int)) ∧ OwnW base v (mWrs k0 l.length) w' ∧ w.grownBy w' v.ownBlock := by
  rcases h.2 with ⟨rfl, h0⟩ | ⟨g, cap, cur, rfl, hB, hq, hn', hm, hs, ht⟩
  · refine (markWriteS_nil k0 w).mono ?_
    rintro e w' ⟨rfl, rfl⟩
    rw [h0]
    exact ⟨rfl, ownW_nil _ _, grown_refl _ _⟩
  · refine (markWriteS_at g l.length cap k0 (cap * 2) w hk0 hk1 (Nat.mul_le_mul_right 2 hn') ⟨cur.toList, by simpa using hq, by simpa using hs, by simp [mWrs, flatW]⟩).mono ?_
    rintro e w' ⟨rfl, ⟨cur', hg', hl', ht'⟩, hb⟩
    refine ⟨rfl, ⟨by rw [flatW_len], .inr ⟨g, cap, cur'.toArray, by rw [mWrs_len], hB, hg', by rw [mWrs_len]; exact hn', hm, by simpa using hl', ?_⟩⟩, hb⟩
    rw [mWrs_len]; simpa using ht'
end Go.Proofs.Ytaapacpiipcogaa

/-
  Contract: marked writes are looked at again.
-/
namespace Go.Proofs.Ytaapacpiipcogaa
open Go.RowKit
set_option maxRecDepth 100000

set_option maxHeartbeats 4000000 in
theorem heldWriteS_mk (base : Nat) (v : Value) (n k0 : Nat) (w : World) (hk0 : 0 < k0) (hk1 : k0 + 2 * n ≤ 5000000) (h : OwnW base v (mWrs k0 n) w) :
    Calls Try.prog 71 #[v, .int .i64 k0] w fun e w' => e = .returned (.int .i64 ((k0 + 2 * n : Nat) : Int)) ∧ Below w.heap.size w w' := by
  obtain ⟨ao, cap, rfl, hka⟩ := ownW_at h
  rw [mWrs_len] at hka ⊢
  have HA : Hid (∀ k, k < n → ∃ b off, ao = some ⟨b, off, none⟩ ∧ b < w.heap.size ∧ w.cell? ⟨b, off + k * 2, none⟩ = some (.int .i64 ((k0 + 2 * k : Nat) : Int)) ∧ w.cell? ⟨b, off + k * 2 + 1, none⟩ = some (.string (markS (k0 + 2 * k + 1)))) := fun k hk => by
    obtain ⟨b, off, x, t, e, hb, hx, hc, hc2⟩ := hka k hk
    rw [mWrs_get _ _ _ hk] at hx
    unfold mWr at hx
    simp only [Wr.mk.injEq] at hx
    obtain ⟨rfl, rfl⟩ := hx
    exact ⟨b, off, e, hb, hc, hc2⟩
  clear h hka
  go_enter Try.func71, Try.ntmps71
  go_wp2
  go_loopw [1, 5] (fun s i wr => ∃ k q : Nat, k ≤ n ∧ i = .int .i64 k ∧ s = .int .i64 q ∧ Hid (q = k0 + 2 * k) ∧ (0 < q ∧ q ≤ 5000000) ∧ Below w.heap.size w wr) (fun _ i _ => n - (intOf i).toNat)
  case atStart => exact ⟨0, k0, Nat.zero_le _, rfl, rfl, (by show _ = _; omega), ⟨hk0, by omega⟩, Below.refl _ _⟩
  case round =>
    obtain ⟨k, q, hk, rfl, rfl, HQ, ⟨hq0, hq1⟩, hb⟩ := hrel
    have hz := hb.size
    by_cases hlt : k < n
    · obtain ⟨b, off, rfl, hbB, d00, d01⟩ := HA.out k hlt
      rw [← HQ.out] at d00 d01
      have d0 := (hb.cell (p := ⟨b, off + k * 2, none⟩) hbB).trans d00
      have d1 := (hb.cell (p := ⟨b, off + k * 2 + 1, none⟩) hbB).trans d01
      have hi0 : (0 : Int) ≤ (k : Int) := by omega
      have hi1 : (k : Int) < (n : Int) := by omega
      have ht := (Int.toNat_natCast k)
      have hq2 : q + 2 ≤ 5000000 := by have := HQ.out; omega
      have hmt := fun W => markText_pos (q + 1) (by omega) (by omega) W
      have hq3 : ((q + 1 : Nat) : Int) = (q : Int) + 1 := by omega
      rw [hq3] at hmt
      generalize markS (q + 1) = T at *
      have hgr : b < wr.heap.size := by omega
      clear d00 d01 hq3
      go_wp2
      go_region_held3 (fun W => W.cell? ⟨b, off + k * 2 + 1, none⟩ = some (.string T)) (go_keep) (first | (go_at_call 69; refine (hmt _).mono ?_; rintro e w1 ⟨rfl, hb1⟩; have hb1' : Below wr.heap.size wr w1 := (Below.refl _ _).drew.trans hb1; obtain ⟨hc1, hf1⟩ := bcell hb1'))
      all_goals
        have hb2 := hb.trans (hb1'.mono hz)
        clear d0 d1 hb1 hb1' hb hc1 hf1
        go_wp2
        go_roundw
        case rel => exact ⟨k + 1, q + 2, by omega, by go_num, by go_num, (by show _ = _; have := HQ.out; omega), ⟨by omega, hq2⟩, hb2⟩
        case measure => simp [intOf]; omega
    · obtain rfl : k = n := by omega
      have HZ : Hid ((q : Int) = ((k0 + 2 * k : Nat) : Int)) := by show _ = _; rw [HQ.out]
      go_wp2
      go_ret
      exact ⟨by rw [HZ.out]; rfl, hb⟩
end Go.Proofs.Ytaapacpiipcogaa
