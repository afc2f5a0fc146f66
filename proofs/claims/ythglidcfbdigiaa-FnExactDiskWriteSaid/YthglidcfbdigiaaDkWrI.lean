/-
  Contract: DiskWrite of the program.
-/
import Derived.Test.YthglidcfbdigiaaDkWrP
import Derived.Test.YthglidcfbdigiaaDkWr
import Derived.Test.YthglidcfbdigiaaDkCl
import Derived.Test.YthglidcfbdigiaaDkGI
import Derived.Test.YthglidcfbdigiaaDkRightI
import Derived.Test.YthglidcfbdigiaaLong
namespace Go.Proofs.Ythglidcfbdigiaa
open Go.RowKit
set_option maxRecDepth 100000

theorem areThere_any (so : Option Addr) (p n1 : Nat) (co : Option Addr) (q n2 : Nat) (a m : Int) (h1 : n1 ≤ 700) (h2 : 0 ≤ m) (h3 : m ≤ 100000) (w : World) :
    Calls Try.prog 41 #[.agg #[.slice so n1 p, .slice co n2 q], .int .i64 a, .int .i64 m] w fun e w' => e = .returned (.bool (decide (0 ≤ a) && decide (a ≤ (n1 : Int) - m))) ∧ Below w.heap.size w w' := by
  have B0 := hide ((Below.refl w.heap.size w).alloc (Nat.le_refl _) (.cells #[.slice so n1 p, .slice co n2 q] 26))
  by_cases h0 : 0 ≤ a
  · go_enter Try.func41, Try.ntmps41
    go_wp2
    go_ret
    exact ⟨ret_bool (by simp [h0]), B0.out⟩
  · go_enter Try.func41, Try.ntmps41
    go_wp2
    go_ret
    exact ⟨ret_bool (by simp; intros; omega), B0.out⟩
set_option maxHeartbeats 8000000 in
theorem implDiskWrite_any (b : Nat) (s c : Value) (d : Dk) (a : Int) (t : ByteArray) (w : World) (hi : dkIn d) (hf : dkFits d) (ht : t.size ≤ 1048576) (h : OwnD b s c d w) :
    Calls Try.prog 10 #[.agg #[s, c], .int .i64 a, .string t] w fun e w' => ∃ s' c', e = .returned (.agg #[s', c', .string ⟨#[]⟩, .int .i64 (dkWrite d a t).2]) ∧ OwnD w.heap.size s' c' (dkWrite d a t).1 w' ∧ Below w.heap.size w w' := by
  obtain ⟨so, p, co, q, rfl, rfl, hr⟩ := h.row hi
  obtain ⟨n1, hn1⟩ : ∃ n, n = d.secs.length := ⟨_, rfl⟩
  obtain ⟨n2, hn2⟩ : ∃ n, n = d.cache.length := ⟨_, rfl⟩
  have HN := hide (And.intro hn1 hn2)
  have HP := hide (fun W => piecesOf_any t ht W)
  have HA := two_allocs w (.cells #[.slice so n1 p, .slice co n2 q] 26) (.cells #[.slice none 0 0, .slice none 0 0, .string ⟨#[]⟩, .int .i64 0] 30)
  have B0 := hide (((Below.refl w.heap.size w).alloc (Nat.le_refl _) (.cells #[.slice so n1 p, .slice co n2 q] 26)).alloc (by simp) (.cells #[.slice none 0 0, .slice none 0 0, .string ⟨#[]⟩, .int .i64 0] 30))
  have X0 := hide HA.1
  have Y0 := hide HA.2.1
  have Z0 := hide HA.2.2
  rw [← hn1, ← hn2] at h ⊢
  have HIM := hide (fun (W : World) (hb : Below w.heap.size w W) => implDiskRight_any _ _ so p co q d W hb.size (hr.kept hb))
  rw [← hn1, ← hn2] at HIM
  clear HA hn1 hn2
  by_cases hl : 20000 < t.size
  · have HY := hide (fun W => tooLong_yes t hl W)
    rw [dkWrite_2 hl]
    clear HIM hi hf ht h hr hl
    go_enter Try.func10, Try.ntmps10
    go_wp2_with (first | (go_at_call 39; refine (HP.out _).mono ?_; rintro e w1 ⟨rfl, hw⟩; rw [hw]; clear hw w1) | (go_at_call 40; refine (HY.out _).mono ?_; rintro e w1 ⟨rfl, hw⟩; rw [hw]; clear hw w1))
    refine bodyPost_ret (v := .agg #[.slice none 0 0, .slice none 0 0, .string ⟨#[]⟩, .int .i64 2]) (by simp [results, Try.results10, go_sem]) rfl ⟨_, _, rfl, ownD_emp _ _, ?_⟩
    exact ((Below.refl _ _).alloc (Nat.le_refl _) _).alloc (by simp) _
  · have HNO := hide (fun W => tooLong_no t (by omega) W)
    have hm : many t ≤ 313 := by unfold many; omega
    have HM0 := hide (Nat.zero_le (many t))
    obtain ⟨x0, x1, xf⟩ := cells2 X0.out
    cases hdr : dkRight d with
    | false =>
      rw [dkWrite_1 hl hdr]
      rw [hdr] at HIM
      clear hi hf ht h hr hl hm hdr
      generalize many t = m at *
      go_enter Try.func10, Try.ntmps10
      go_wp2_with (first | (go_at_call 39; refine (HP.out _).mono ?_; rintro e w1 ⟨rfl, hw⟩; rw [hw]; clear hw w1) | (go_at_call 40; refine (HNO.out _).mono ?_; rintro e w1 ⟨rfl, hw⟩; rw [hw]; clear hw w1) | (go_at_call 14; refine (HIM.out _ B0.out).mono ?_; rintro e w1 ⟨rfl, b1⟩; have Y1 := hide ((b1.block (w.heap.size + 1) (by simp)).trans Y0.out); have B1 := hide (B0.out.trans (b1.mono B0.out.size)); obtain ⟨y0, y1, y2, y3, yf⟩ := cells4 Y1.out; clear b1))
      refine bodyPost_ret (v := .agg #[.slice none 0 0, .slice none 0 0, .string ⟨#[]⟩, .int .i64 1]) (resOut Try.results10 _ _ (w.heap.size + 1) _ _ _ _ rfl (set4w Y1.out)) rfl ⟨_, _, rfl, ownD_emp _ _, ?_⟩
      exact (((B1.out.setCell (by simp) _).setCell (by simp) _).setCell (by simp) _).setCell (by simp) _
    | true =>
      have hbd := dkRight_bounds hdr
      rw [← HN.out.1, ← HN.out.2] at hbd
      obtain ⟨hb1, hb2⟩ := hbd
      rw [hdr] at HIM
      have HAT := hide (fun W => areThere_any so p n1 co q n2 a (many t : Int) hb1 (by omega) (by omega) W)
      by_cases h9 : a < 0 ∨ (n1 : Int) - (many t : Int) < a
      · rw [dkWrite_9 hl hdr (by rw [← HN.out.1]; exact h9)]
        have hab : (decide (0 ≤ a) && decide (a ≤ (n1 : Int) - (many t : Int))) = false := by rcases h9 with h | h <;> simp <;> intros <;> omega
        rw [hab] at HAT
        clear hi hf ht h hr hl hm hdr h9 hab
        generalize many t = m at *
        go_enter Try.func10, Try.ntmps10
        go_wp2_with (first | (go_at_call 39; refine (HP.out _).mono ?_; rintro e w1 ⟨rfl, hw⟩; rw [hw]; clear hw w1) | (go_at_call 40; refine (HNO.out _).mono ?_; rintro e w1 ⟨rfl, hw⟩; rw [hw]; clear hw w1) | (go_at_call 14; refine (HIM.out _ B0.out).mono ?_; rintro e w1 ⟨rfl, b1⟩; have Y1 := hide ((b1.block (w.heap.size + 1) (by simp)).trans Y0.out); have X1 := hide ((b1.block w.heap.size (by simp; omega)).trans X0.out); have B1 := hide (B0.out.trans (b1.mono B0.out.size)); clear b1 x0 x1 xf; obtain ⟨x0, x1, xf⟩ := cells2 X1.out) | (go_at_call 41; refine (HAT.out _).mono ?_; rintro e w2 ⟨rfl, b2⟩; have Y2 := hide ((b2.block (w.heap.size + 1) (Array.getElem?_eq_some_iff.1 Y1.out).1).trans Y1.out); have B2 := hide (B1.out.trans (b2.mono B1.out.size)); obtain ⟨y0, y1, y2, y3, yf⟩ := cells4 Y2.out; clear b2))
        refine bodyPost_ret (v := .agg #[.slice none 0 0, .slice none 0 0, .string ⟨#[]⟩, .int .i64 9]) (resOut Try.results10 _ _ (w.heap.size + 1) _ _ _ _ rfl (set4w Y2.out)) rfl ⟨_, _, rfl, ownD_emp _ _, ?_⟩
        exact (((B2.out.setCell (by simp) _).setCell (by simp) _).setCell (by simp) _).setCell (by simp) _
      · have hab : (decide (0 ≤ a) && decide (a ≤ (n1 : Int) - (many t : Int))) = true := by simp; omega
        rw [hab] at HAT
        by_cases hfull : 400 < n2 + many t
        · rw [dkWrite_11 hl hdr (by rw [← HN.out.1]; exact h9) (by rw [← HN.out.2]; exact hfull)]
          clear hi hf ht h hr hl hdr h9 hab
          generalize many t = m at *
          go_enter Try.func10, Try.ntmps10
          go_wp2_with (first | (go_at_call 39; refine (HP.out _).mono ?_; rintro e w1 ⟨rfl, hw⟩; rw [hw]; clear hw w1) | (go_at_call 40; refine (HNO.out _).mono ?_; rintro e w1 ⟨rfl, hw⟩; rw [hw]; clear hw w1) | (go_at_call 14; refine (HIM.out _ B0.out).mono ?_; rintro e w1 ⟨rfl, b1⟩; have Y1 := hide ((b1.block (w.heap.size + 1) (by simp)).trans Y0.out); have X1 := hide ((b1.block w.heap.size (by simp; omega)).trans X0.out); have B1 := hide (B0.out.trans (b1.mono B0.out.size)); clear b1 x0 x1 xf; obtain ⟨x0, x1, xf⟩ := cells2 X1.out) | (go_at_call 41; refine (HAT.out _).mono ?_; rintro e w2 ⟨rfl, b2⟩; have Y2 := hide ((b2.block (w.heap.size + 1) (Array.getElem?_eq_some_iff.1 Y1.out).1).trans Y1.out); have X2 := hide ((b2.block w.heap.size (Array.getElem?_eq_some_iff.1 X1.out).1).trans X1.out); have B2 := hide (B1.out.trans (b2.mono B1.out.size)); clear x0 x1 xf; obtain ⟨x0, x1, xf⟩ := cells2 X2.out; obtain ⟨y0, y1, y2, y3, yf⟩ := cells4 Y2.out; clear b2))
          refine bodyPost_ret (v := .agg #[.slice none 0 0, .slice none 0 0, .string ⟨#[]⟩, .int .i64 11]) (resOut Try.results10 _ _ (w.heap.size + 1) _ _ _ _ rfl (set4w Y2.out)) rfl ⟨_, _, rfl, ownD_emp _ _, ?_⟩
          exact (((B2.out.setCell (by simp) _).setCell (by simp) _).setCell (by simp) _).setCell (by simp) _
        · rw [dkWrite_0 hl hdr (by rw [← HN.out.1]; exact h9) (by rw [← HN.out.2]; exact hfull)]
          obtain ⟨j0, hj, hy0, hy1, hy2⟩ := info_parts Try.infoWr
          have HCP := hide (fun (W : World) (hb : Below w.heap.size w W) => copyDisk_own _ _ _ d W hf (h.below hb))
          have HWR := hide (fun (W : World) => writesOf_any a t (by omega) (by omega) (by omega) W)
          have HLEN := hide (fun k => wrsOf_len a t k)
          have HB63 : Hid (n2 + many t ≤ maxLen ∧ (n2 + many t) * 24 ≤ 140737488355328) := by show _ ∧ _; unfold maxLen; omega
          clear hi hf ht h hr hl hdr h9 hab
          generalize many t = m at *
          go_enter Try.func10, Try.ntmps10
          go_wp2_with (first | (go_at_call 39; refine (HP.out _).mono ?_; rintro e w1 ⟨rfl, hw⟩; rw [hw]; clear hw w1) | (go_at_call 40; refine (HNO.out _).mono ?_; rintro e w1 ⟨rfl, hw⟩; rw [hw]; clear hw w1) | (go_at_call 14; refine (HIM.out _ B0.out).mono ?_; rintro e w1 ⟨rfl, b1⟩; have Y1 := hide ((b1.block (w.heap.size + 1) (by simp)).trans Y0.out); have X1 := hide ((b1.block w.heap.size (by simp; omega)).trans X0.out); have B1 := hide (B0.out.trans (b1.mono B0.out.size)); clear b1 x0 x1 xf; obtain ⟨x0, x1, xf⟩ := cells2 X1.out) | (go_at_call 41; refine (HAT.out _).mono ?_; rintro e w2 ⟨rfl, b2⟩; have Y2 := hide ((b2.block (w.heap.size + 1) (Array.getElem?_eq_some_iff.1 Y1.out).1).trans Y1.out); have X2 := hide ((b2.block w.heap.size (Array.getElem?_eq_some_iff.1 X1.out).1).trans X1.out); have B2 := hide (B1.out.trans (b2.mono B1.out.size)); clear x0 x1 xf; obtain ⟨x0, x1, xf⟩ := cells2 X2.out; clear b2) | (go_at_call 42; refine (HCP.out _ B2.out).mono ?_; rintro e w3 ⟨s3, c3, rfl, o3, b3⟩; obtain ⟨so3, p3, co3, q3, rfl, rfl⟩ := o3.shape; rw [← HN.out.1, ← HN.out.2] at o3 ⊢; have G3 := hide (GI.start B2.out (Array.getElem?_eq_some_iff.1 Y2.out).1 Y2.out o3 b3 HN.out.2); clear o3 b3 x0 x1 xf))
          have G4 := hide G3.out.drew
          clear G3
          generalize w3.alloc (.cells #[.slice so3 n1 p3, .slice co3 n2 q3] 26) = W3 at *
          refine wp_region_noPanic ?_
          refine wp_region_held_drew (S := fun _ => True) (by kernel_rfl) trivial (fun hS1 => ?_)
          generalize W3.drew = W4 at *
          clear hS1
          refine takeD 0 37 (v := ?v1) rfl rfl (by kernel_rfl) (by kernel_rfl) (by kernel_rfl) (fun _ _ _ h => h) (by kernel_rfl) ?hy1 trivial ?r1
          case hy1 => (intro W hSw; go_simp; try with_reducible rfl)
          simp only [Act.put, List.setIfInBounds_toArray, List.set_cons_zero, List.set_cons_succ]
          refine takeD 2 39 (v := ?v2) rfl rfl (by kernel_rfl) (by kernel_rfl) (by kernel_rfl) (fun _ _ _ h => h) (by kernel_rfl) ?hy2 trivial ?r2
          case hy2 => (intro W hSw; go_simp; try with_reducible rfl)
          simp only [Act.put, List.setIfInBounds_toArray, List.set_cons_zero, List.set_cons_succ]
          refine takeD 3 40 (v := ?v3) rfl rfl (by kernel_rfl) (by kernel_rfl) (by kernel_rfl) (fun _ _ _ h => h) (by kernel_rfl) ?hy3 trivial ?r3
          case hy3 => (intro W hSw; go_simp; try with_reducible rfl)
          simp only [Act.put, List.setIfInBounds_toArray, List.set_cons_zero, List.set_cons_succ]
          refine wpAnyH_ready (rs := [1, 4]) (by kernel_rfl) (by simp) ?_
          refine AllReadyH.cons (o := _) rfl (fun K hK => ?_) (AllReadyH.cons (o := _) rfl (fun K hK => ?_) AllReadyH.nil)
          · skip
            obtain ⟨g0, g1', gf⟩ := cells2 G4.out.var
            go_simp
            refine hK.out _ _ trivial (fun _ => ?_)
            clear hK K g0 g1' gf
            try simp only [Act.put, List.setIfInBounds_toArray, List.set_cons_zero, List.set_cons_succ]
            refine wpAnyH_ready (rs := [4]) (by kernel_rfl) (by simp) ?_
            refine AllReadyH.cons (o := _) rfl (fun K hK => ?_) AllReadyH.nil
            go_simp
            go_at_call 43
            refine (HWR.out _).mono ?_
            rintro e W5 ⟨v5, rfl, o5, b5⟩
            have O5 := hide o5
            have G5 := hide (G4.out.keep b5)
            obtain ⟨ao5, cp5, hv5⟩ := ownW_shape o5
            rw [HLEN.out] at hv5
            subst hv5
            clear o5 b5
            go_wp2_with fail
            refine hK.out _ _ trivial (fun _ => ?_)
            clear hK K
            try simp only [Act.put, List.setIfInBounds_toArray, List.set_cons_zero, List.set_cons_succ]
            refine wpAnyH_ready (rs := [5]) (by kernel_rfl) (by simp) ?_
            refine AllReadyH.cons (o := _) rfl (fun K hK => ?_) AllReadyH.nil
            have o5 := O5.out
            unfold OwnW at o5
            rw [HLEN.out] at o5
            refine step_app_own rfl (.tmp 38) (.tmp 41) 24 rfl (w.heap.size + 2) _ 78 j0 (.agg #[.int .i64 0, .string ⟨#[]⟩]) 2 24 Try.underlying24 hj hy0 hy1 hy2 rfl (by decide) _ n2 _ rfl G5.out.cacheN _ m _ rfl o5 (flatW_one _) HB63.out.1 HB63.out.2 G5.out.lt ?_
            intro v6 W6 o6 g6 l6
            have G6 := hide (G5.out.app o6 g6 l6 HN.out.2 (HLEN.out m))
            have V6 := hide (own_shape' o6)
            clear o6 g6 l6 o5
            refine hK.out _ _ trivial (fun _ => ?_)
            clear hK K
            simp only [List.getElem_toArray, List.getElem_cons_succ, List.getElem_cons_zero, Act.put, List.setIfInBounds_toArray, List.set_cons_zero, List.set_cons_succ]
            refine takeD 6 43 (v := ?v4) rfl rfl (by kernel_rfl) (by kernel_rfl) (by kernel_rfl) (fun _ _ _ h => h) (by kernel_rfl) ?hy4 trivial ?r4
            case hy4 => (intro W hSw; go_simp; try with_reducible rfl)
            simp only [Act.put, List.setIfInBounds_toArray, List.set_cons_zero, List.set_cons_succ]
            refine wpAnyH_ready (rs := [7]) (by kernel_rfl) (by simp) ?_
            refine AllReadyH.cons (o := _) rfl (fun K hK => ?_) AllReadyH.nil
            obtain ⟨ao6, cp6, hv6⟩ := V6.out
            subst hv6
            obtain ⟨g0, g1', gf⟩ := cells2 G6.out.var
            go_simp
            have G7 := hide (G6.out.set)
            refine hK.out _ _ trivial (fun _ => ?_)
            clear hK K g0 g1' gf G6 G5
            refine wpAnyH_done (by kernel_rfl) ?_ _
            refine NoPanic.normal ?_
            obtain ⟨g0, g1', gf⟩ := cells2 G7.out.1
            obtain ⟨y0, y1, y2, y3, yf⟩ := cells4 G7.out.2.1
            have O7 := hide G7.out.2.2.1
            have B7 := hide G7.out.2.2.2
            go_wp2
            refine bodyPost_ret (v := .agg #[.slice so3 n1 p3, .slice ao6 (n2 + m) cp6, .string ⟨#[]⟩, .int .i64 0]) (resOut Try.results10 _ _ (w.heap.size + 1) _ _ _ _ rfl (set4w G7.out.2.1)) rfl ⟨_, _, rfl, ?_, ?_⟩
            · exact ((((O7.out.set (by omega)).set (by omega)).set (by omega)).set (by omega)).base (by omega)
            · exact (((B7.out.setCell (by simp) _).setCell (by simp) _).setCell (by simp) _).setCell (by simp) _
          · skip
            go_simp
            go_at_call 43
            refine (HWR.out _).mono ?_
            rintro e W5 ⟨v5, rfl, o5, b5⟩
            have O5 := hide o5
            have G5 := hide (G4.out.keep b5)
            obtain ⟨ao5, cp5, hv5⟩ := ownW_shape o5
            rw [HLEN.out] at hv5
            subst hv5
            clear o5 b5
            go_wp2_with fail
            refine hK.out _ _ trivial (fun _ => ?_)
            clear hK K
            try simp only [Act.put, List.setIfInBounds_toArray, List.set_cons_zero, List.set_cons_succ]
            refine wpAnyH_ready (rs := [1]) (by kernel_rfl) (by simp) ?_
            refine AllReadyH.cons (o := _) rfl (fun K hK => ?_) AllReadyH.nil
            obtain ⟨g0, g1', gf⟩ := cells2 G5.out.var
            go_simp
            refine hK.out _ _ trivial (fun _ => ?_)
            clear hK K g0 g1' gf
            try simp only [Act.put, List.setIfInBounds_toArray, List.set_cons_zero, List.set_cons_succ]
            refine wpAnyH_ready (rs := [5]) (by kernel_rfl) (by simp) ?_
            refine AllReadyH.cons (o := _) rfl (fun K hK => ?_) AllReadyH.nil
            have o5 := O5.out
            unfold OwnW at o5
            rw [HLEN.out] at o5
            refine step_app_own rfl (.tmp 38) (.tmp 41) 24 rfl (w.heap.size + 2) _ 78 j0 (.agg #[.int .i64 0, .string ⟨#[]⟩]) 2 24 Try.underlying24 hj hy0 hy1 hy2 rfl (by decide) _ n2 _ rfl G5.out.cacheN _ m _ rfl o5 (flatW_one _) HB63.out.1 HB63.out.2 G5.out.lt ?_
            intro v6 W6 o6 g6 l6
            have G6 := hide (G5.out.app o6 g6 l6 HN.out.2 (HLEN.out m))
            have V6 := hide (own_shape' o6)
            clear o6 g6 l6 o5
            refine hK.out _ _ trivial (fun _ => ?_)
            clear hK K
            simp only [List.getElem_toArray, List.getElem_cons_succ, List.getElem_cons_zero, Act.put, List.setIfInBounds_toArray, List.set_cons_zero, List.set_cons_succ]
            refine takeD 6 43 (v := ?v5) rfl rfl (by kernel_rfl) (by kernel_rfl) (by kernel_rfl) (fun _ _ _ h => h) (by kernel_rfl) ?hy5 trivial ?r5
            case hy5 => (intro W hSw; go_simp; try with_reducible rfl)
            simp only [Act.put, List.setIfInBounds_toArray, List.set_cons_zero, List.set_cons_succ]
            refine wpAnyH_ready (rs := [7]) (by kernel_rfl) (by simp) ?_
            refine AllReadyH.cons (o := _) rfl (fun K hK => ?_) AllReadyH.nil
            obtain ⟨ao6, cp6, hv6⟩ := V6.out
            subst hv6
            obtain ⟨g0, g1', gf⟩ := cells2 G6.out.var
            go_simp
            have G7 := hide (G6.out.set)
            refine hK.out _ _ trivial (fun _ => ?_)
            clear hK K g0 g1' gf G6 G5
            refine wpAnyH_done (by kernel_rfl) ?_ _
            refine NoPanic.normal ?_
            obtain ⟨g0, g1', gf⟩ := cells2 G7.out.1
            obtain ⟨y0, y1, y2, y3, yf⟩ := cells4 G7.out.2.1
            have O7 := hide G7.out.2.2.1
            have B7 := hide G7.out.2.2.2
            go_wp2
            refine bodyPost_ret (v := .agg #[.slice so3 n1 p3, .slice ao6 (n2 + m) cp6, .string ⟨#[]⟩, .int .i64 0]) (resOut Try.results10 _ _ (w.heap.size + 1) _ _ _ _ rfl (set4w G7.out.2.1)) rfl ⟨_, _, rfl, ?_, ?_⟩
            · exact ((((O7.out.set (by omega)).set (by omega)).set (by omega)).set (by omega)).base (by omega)
            · exact (((B7.out.setCell (by simp) _).setCell (by simp) _).setCell (by simp) _).setCell (by simp) _
end Go.Proofs.Ythglidcfbdigiaa
