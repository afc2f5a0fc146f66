/-
  Contract: DiskWrite of the specification.
-/
import Derived.Test.YthglidcfbdigiaaDkWr
import Derived.Test.YthglidcfbdigiaaDkGI
import Derived.Test.YthglidcfbdigiaaDkCpS
import Derived.Test.YthglidcfbdigiaaDkRightS
import Derived.Test.YthglidcfbdigiaaDkWrP
import Derived.Deep.CutRange
namespace Go.Proofs.Ythglidcfbdigiaa
open Go.RowKit
set_option maxRecDepth 100000

theorem own_succ' {w : World} {base n size : Nat} {t : TypeId} {v : Value} {xs : List Value} (h : w.ownsRow base t size v (n + 1) xs) : ∃ g cap, v = .slice (some ⟨g, 0, none⟩) (n + 1) cap := by
  rcases h.2 with ⟨_, h0⟩ | ⟨g, cap, cur, h1, _⟩
  · omega
  · exact ⟨g, cap, h1⟩
theorem made_secV {w1 : World} {base g : Nat} (h : w1.ownsRow base 5 1 (.slice (some ⟨g, 0, none⟩) 64 64) 64 ((numsU zSec).map (Value.int .u8))) : w1.heap[g]? = some (.cells (secV zSec) 5 (0, 0)) := by
  rcases h.2 with ⟨h, _⟩ | ⟨g', cap', cur, hv, _, hg, _, _, hs, ht⟩
  · simp at h
  · simp at hv
    obtain ⟨rfl, rfl⟩ := hv
    rw [hg]
    congr 2
    rw [List.take_of_length_le (by simp [hs])] at ht
    unfold secV
    rw [byteCells_nums, ← ht]
theorem conv_sec {W : World} {g : Nat} {l : List UInt8} {t : TypeId} (hg : W.heap[g]? = some (.cells (secV l) t (0, 0))) (hl : l.length = 64) :
    (convert 22 9 (.slice (some ⟨g, 0, none⟩) 64 64)).run Try.prog W = .ok (.string (mkS l)) W := by
  rw [← strOfNums_bytes]
  refine run_convert_bytes_arg _ 22 5 Try.underlying22 Try.underlying5 g 0 64 64 (l.map fun b => (b.toNat : Int)) (by simpa using hl) (fun i hi => ?_) 9 Try.underlying9
  rw [Nat.zero_add, cell_of_row _ _ _ _ _ _ hg]
  unfold secV Lib.byteCells
  rw [List.getElem?_toArray, List.getElem?_map, List.getElem?_eq_getElem (by omega)]
  simp [List.getElem?_eq_getElem (show i < l.length by omega)]
set_option maxHeartbeats 8000000 in
theorem l07Write_any (b : Nat) (s c : Value) (d : Dk) (a : Int) (t : ByteArray) (w : World) (hf : dkFits d) (hdr : dkRight d = true) (ha : wI64 a) (hl : ¬ 20000 < t.size) (h : OwnD b s c d w) :
    Calls Try.prog 45 #[.agg #[s, c], .int .i64 a, .string t] w fun e w' => ∃ s' c', e = .returned (.agg #[s', c', .string ⟨#[]⟩, .int .i64 (dkWrite d a t).2]) ∧ OwnD w.heap.size s' c' (dkWrite d a t).1 w' ∧ Below w.heap.size w w' := by
  obtain ⟨so, p, co, q, rfl, rfl⟩ := h.shape
  obtain ⟨n1, hn1⟩ : ∃ n, n = d.secs.length := ⟨_, rfl⟩
  obtain ⟨n2, hn2⟩ : ∃ n, n = d.cache.length := ⟨_, rfl⟩
  have HN := hide (And.intro hn1 hn2)
  have HA := two_allocs w (.cells #[.slice so n1 p, .slice co n2 q] 26) (.cells #[.slice none 0 0, .slice none 0 0, .string ⟨#[]⟩, .int .i64 0] 30)
  have B0 := hide (((Below.refl w.heap.size w).alloc (Nat.le_refl _) (.cells #[.slice so n1 p, .slice co n2 q] 26)).alloc (by simp) (.cells #[.slice none 0 0, .slice none 0 0, .string ⟨#[]⟩, .int .i64 0] 30))
  have X0 := hide HA.1
  have Y0 := hide HA.2.1
  have Z0 := hide HA.2.2
  rw [← hn1, ← hn2] at h ⊢
  clear HA hn1 hn2
  have hm : many t ≤ 313 := by unfold many; omega
  have HE1 : Hid (((t.size : Int) + 64 - 1) / 64 = (many t : Int)) := by show _ = _; unfold many; omega
  have hbd := dkRight_bounds hdr
  rw [← HN.out.1, ← HN.out.2] at hbd
  obtain ⟨hb1, hb2⟩ := hbd
  unfold wI64 at ha
  by_cases h9 : a < 0 ∨ (n1 : Int) - (many t : Int) < a
  · rw [dkWrite_9 hl hdr (by rw [← HN.out.1]; exact h9)]
    obtain ⟨x0, x1, xf⟩ := cells2 X0.out
    clear hf hdr h
    generalize many t = m at *
    by_cases h0 : a < 0
    · go_enter Try.func45, Try.ntmps45
      go_upto_region 2 with fail
      rw [HE1.out]
      go_wp2
      refine bodyPost_ret (v := .agg #[.slice none 0 0, .slice none 0 0, .string ⟨#[]⟩, .int .i64 9]) (by simp [results, Try.results45, go_sem]) rfl ⟨_, _, rfl, ownD_emp _ _, ?_⟩
      exact ((Below.refl _ _).alloc (Nat.le_refl _) _).alloc (by simp) _
    · have h9' : (n1 : Int) - (m : Int) < a := by omega
      clear h9
      go_enter Try.func45, Try.ntmps45
      go_upto_region 2 with fail
      rw [HE1.out]
      go_wp2
      refine bodyPost_ret (v := .agg #[.slice none 0 0, .slice none 0 0, .string ⟨#[]⟩, .int .i64 9]) (by simp [results, Try.results45, go_sem]) rfl ⟨_, _, rfl, ownD_emp _ _, ?_⟩
      exact ((Below.refl _ _).alloc (Nat.le_refl _) _).alloc (by simp) _
  · have h9a : ¬ a < 0 := by omega
    have h9b : ¬ (n1 : Int) - (many t : Int) < a := by omega
    by_cases hfull : 400 < n2 + many t
    · rw [dkWrite_11 hl hdr (by rw [← HN.out.1]; exact h9) (by rw [← HN.out.2]; exact hfull)]
      obtain ⟨x0, x1, xf⟩ := cells2 X0.out
      clear hf hdr h h9
      generalize many t = m at *
      have hfull' : 400 < (n2 : Int) + (m : Int) := by omega
      go_enter Try.func45, Try.ntmps45
      go_upto_region 2 with fail
      rw [HE1.out]
      go_wp2
      refine bodyPost_ret (v := .agg #[.slice none 0 0, .slice none 0 0, .string ⟨#[]⟩, .int .i64 11]) (by simp [results, Try.results45, go_sem]) rfl ⟨_, _, rfl, ownD_emp _ _, ?_⟩
      exact ((Below.refl _ _).alloc (Nat.le_refl _) _).alloc (by simp) _
    · rw [dkWrite_0 hl hdr (by rw [← HN.out.1]; exact h9) (by rw [← HN.out.2]; exact hfull)]
      obtain ⟨j0, hj, hy0, hy1, hy2⟩ := info_parts Try.infoWr
      obtain ⟨i0, hi, hz0, hz1, hz2⟩ := info_parts Try.infoU8
      have HCZ : Hid ((madeCells (Value.int .u8 0).cells (64 * 1)).toList = (numsU zSec).map (Value.int .u8)) := by show _ = _; kernel_rfl
      have HU : Hid ((Try.prog.info? 5).map (·.size) = some 1) := by show _ = _; kernel_rfl
      have HCP := hide (fun (W : World) (hb : Below w.heap.size w W) => l07Copy_own _ _ _ d W hf (h.below hb))
      have HSUCC := hide (fun k => wrsOf_succ a t k)
      have HLEN := hide (fun k => wrsOf_len a t k)
      have HM2 : Hid (∀ k, k < many t → k * 64 < t.size) := fun k hk => by unfold many at hk; omega
      have HPC : Hid (∀ k, mkS (pad (t.extract (k * 64) t.size).data.toList) = piece t k) := fun k => by rw [drop_extract]; rfl
      obtain ⟨x0, x1, xf⟩ := cells2 X0.out
      have hfull' : ¬ 400 < (n2 : Int) + (many t : Int) := by omega
      clear hf hdr h h9
      generalize many t = m at *
      go_enter Try.func45, Try.ntmps45
      go_upto_region 2 with fail
      rw [HE1.out]
      go_wp2_with (go_at_call 65; refine (HCP.out _ B0.out).mono ?_; rintro e w3 ⟨s3, c3, rfl, o3, b3⟩; obtain ⟨so3, p3, co3, q3, rfl, rfl⟩ := o3.shape; rw [← HN.out.1, ← HN.out.2] at o3 ⊢; have G3 := hide (GI.start B0.out (by simp) Y0.out o3 b3 HN.out.2); clear o3 b3 x0 x1 xf)
      have G3' : Hid (GI w w3.heap.size (.slice so3 n1 p3) (.slice co3 n2 q3) (.slice co3 n2 q3) (n2 + 0) ⟨d.secs, d.cache ++ wrsOf a t 0⟩ (w3.alloc (.cells #[.slice so3 n1 p3, .slice co3 n2 q3] 26))) := by
        show GI _ _ _ _ _ _ _ _
        rw [wrsOf_zero, List.append_nil]
        exact G3.out
      clear G3 HCP B0 X0 Y0 Z0
      generalize w3.alloc (.cells #[.slice so3 n1 p3, .slice co3 n2 q3] 26) = W3 at *
      generalize w3.heap.size = g at *
      go_loopw [9] (fun i wr => ∃ (k : Nat) (v : Value), k ≤ m ∧ i = .int .i64 k ∧ Hid (GI w g (.slice so3 n1 p3) v v (n2 + k) ⟨d.secs, d.cache ++ wrsOf a t k⟩ wr)) (fun i _ => m - (intOf i).toNat)
      case atStart => exact ⟨0, _, Nat.zero_le _, rfl, G3'⟩
      case round =>
        obtain ⟨k, v, hk, rfl, G⟩ := hrel
        clear G3'
        obtain ⟨ao, cap, hv⟩ := own_shape' G.out.cacheN
        subst hv
        by_cases hlt : k < m
        · have h64 := HM2.out k hlt
          have hk64 : ((k : Int) * 64).toNat = k * 64 := by omega
          have hc1 := HPC.out k
          go_wp2_with (first | (at_make; refine wpList_make_full _ rfl _ _ 22 rfl 0 5 i0 (.int .u8 0) 1 Try.underlying22 hi hz0 hz1 .i64 .i64 _ _ 64 rfl rfl rfl rfl (by rw [hz2]; omega) (by unfold maxLen; omega) (Nat.zero_le _) ?_; intro w4 hown hgrow; rw [HCZ.out] at hown; have X4 := hide (made_secV hown); have B4 := hide ((Below.refl wr.heap.size wr).grown hgrow (Nat.le_refl _) (fun j hj => by simp at hj)); clear hown hgrow; obtain ⟨nn, w5, hcp, X5, B5⟩ : ∃ (nn : Nat) (w5 : World), (∀ ty, (Builtin.copy_ #[22, 9] ty #[.slice (some ⟨wr.heap.size, 0, none⟩) 64 64, .string (t.extract (k * 64) t.size)]).run Try.prog w4 = .ok (goInt nn) w5) ∧ Hid (w5.heap[wr.heap.size]? = some (.cells (secV (pad (t.extract (k * 64) t.size).data.toList)) 5 (0, 0))) ∧ Hid (Below wr.heap.size wr w5) := (run_copy_pad (P := Try.prog) w4 22 9 5 wr.heap.size (t.extract (k * 64) t.size) _ Try.underlying22 HU.out X4.out).elim fun nn h => ⟨nn, _, h, setRow_heap _ _ _ _ _ _ X4.out, below_setRow B4.out (Nat.le_refl _) _⟩; have hcv := conv_sec X5.out (pad_len _); rw [hc1] at hcv; have G5 := hide (G.out.keep B5.out); obtain ⟨g0, g1, gf⟩ := cells2 G5.out.var; have G6 := hide (G5.out.keep ((Below.refl w5.heap.size w5).alloc (Nat.le_refl _) (.cells #[.int .i64 (a + (k : Int)), .string (piece t k)] 78))); have S6 := hide (own_wr_one w5 (a + (k : Int)) (piece t k)); have Z6 := hide G6.out.lt; clear X4 B4 X5 B5) | (at_builtin; refine wpList_app_own rfl _ _ 24 rfl (w.heap.size + 2) w5.heap.size 78 j0 (.agg #[.int .i64 0, .string ⟨#[]⟩]) 2 24 Try.underlying24 hj hy0 hy1 hy2 rfl (by decide) _ (n2 + k) _ rfl G6.out.cacheN _ 1 _ rfl S6.out (wr_one _ _) (by unfold maxLen; omega) (by omega) Z6.out ?_; intro v7 w7 o7 g7 l7; have G7 := hide (G6.out.app (k := [⟨a + (k : Int), piece t k⟩]) (m := 1) o7 g7 l7 G6.out.num rfl); obtain ⟨g5', c5', hv7⟩ := own_succ' o7; subst hv7; clear g0 g1 gf; obtain ⟨g0, g1, gf⟩ := cells2 G7.out.var; clear o7 g7 l7))
          have G8 := hide G7.out.put
          simp only [List.append_assoc] at G8
          rw [← HSUCC.out] at G8
          clear G5 G6 S6 Z6 G7 g0 g1 gf hcp hcv hc1
          go_roundw
          case rel => exact ⟨k + 1, _, by omega, by go_num, G8⟩
          case measure => simp [intOf]; omega
        · obtain rfl : k = m := by omega
          obtain ⟨g0, g1, gf⟩ := cells2 G.out.var
          obtain ⟨y0, y1, y2, y3, yf⟩ := cells4 G.out.res
          go_wp2
          refine bodyPost_ret (v := .agg #[.slice so3 n1 p3, .slice ao (n2 + k) cap, .string ⟨#[]⟩, .int .i64 0]) (resOut Try.results45 _ _ (w.heap.size + 1) _ _ _ _ rfl (set4w G.out.res)) rfl ⟨_, _, rfl, ?_, ?_⟩
          · exact ((((G.out.own.set (by omega)).set (by omega)).set (by omega)).set (by omega)).base (by omega)
          · exact (((G.out.below.setCell (by simp) _).setCell (by simp) _).setCell (by simp) _).setCell (by simp) _
end Go.Proofs.Ythglidcfbdigiaa
