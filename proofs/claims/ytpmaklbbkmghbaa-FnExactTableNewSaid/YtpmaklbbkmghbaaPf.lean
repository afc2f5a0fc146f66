/-
  Contracts and plain laws, part 6 of 9: SCpT
-/
import Derived.Test.YtpmaklbbkmghbaaPe

/-
  Contract: the specification's copy of a schema lies in rows of its own. Written by gen_scpt.py.
-/
namespace Go.Proofs.Ytpmaklbbkmghbaa
open Go.RowKit
set_option maxRecDepth 100000

theorem OwnX.at {base : Nat} {xo : Option Addr} {n c : Nat} {us : List Value} {xs : List Idx} {w : World} (h : OwnX base (.slice xo n c) us xs w) (j : Nat) (hj : j < xs.length) :
    ∃ g io cp, xo = some ⟨g, 0, none⟩ ∧ g < w.heap.size ∧ w.cell? ⟨g, j * 2, none⟩ = some (.slice io (xs.getD j noIdx).cols.length cp) ∧ w.cell? ⟨g, j * 2 + 1, none⟩ = some (.bool (xs.getD j noIdx).uniq) ∧ OwnN base (.slice io (xs.getD j noIdx).cols.length cp) (xs.getD j noIdx).cols w := by
  rcases h.row.2 with ⟨_, h0⟩ | ⟨g, cap, cur, hv, hB, hq, hn', hm, hs, hc⟩
  · omega
  · injection hv with h1 h2 h3
    obtain ⟨f0, f1⟩ := flatX_get us xs j h.len hj
    obtain ⟨u, hu, hz⟩ := zip_at j h.len hj
    have hin := h.inner _ hz
    obtain ⟨io, cp, he⟩ := ownN_shape hin
    have hget : ∀ i, i < xs.length * 2 → cur[i]? = (flatX us xs)[i]? := fun i hi => by rw [← hc, List.getElem?_take_of_lt hi]; simp
    simp only at he hin
    subst he
    refine ⟨g, io, cp, h1, (Array.getElem?_eq_some_iff.1 hq).1, ?_, ?_, hin⟩
    · rw [cell_of_row _ _ _ _ _ _ hq, hget _ (by omega), f0, hu]
    · rw [cell_of_row _ _ _ _ _ _ hq, hget _ (by omega), f1]
set_option maxHeartbeats 8000000 in
theorem l05Copy_own (b : Nat) (a k x : Value) (vs : List Value) (s : Sch) (w : World) (hf : schFits s) (h : SOwn b a k x vs s w) :
    Calls Try.prog 75 #[.agg #[.string s.name, a, k, x]] w fun e w' =>
      ∃ a' k' x' us, e = .returned (.agg #[.string s.name, a', k', x']) ∧ SOwn w.heap.size a' k' x' us s w' ∧ Below w.heap.size w w' := by
  obtain ⟨ao, c1, rfl⟩ := ownC_shape h.cols
  obtain ⟨ko, c2, rfl⟩ := ownN_shape h.key
  obtain ⟨xo, c3, rfl⟩ := ownX_shape h.idx
  obtain ⟨i0, hi, hz0, hz1, hz2⟩ := info_parts Try.infoCol
  obtain ⟨j0, hj, hy0, hy1, hy2⟩ := info_parts Try.infoI64
  have SRC := hide h
  have HF : Hid (schFits s) := hf
  clear h hf
  obtain ⟨nm, cs, ky, xs⟩ := s
  simp only
  have HBC : Hid (0 + cs.length ≤ maxLen ∧ (0 + cs.length) * 32 ≤ 140737488355328) := by have := HF.out.1; simp only at this; show _ ∧ _; unfold maxLen; omega
  have HBK : Hid (0 + ky.length ≤ maxLen ∧ (0 + ky.length) * 8 ≤ 140737488355328) := by have := HF.out.2.1; simp only at this; show _ ∧ _; unfold maxLen; omega
  have C0 := hide (show CJ w [.string nm, .slice ao cs.length c1, .slice ko ky.length c2, .slice xo xs.length c3] [.string ⟨#[]⟩, .slice none 0 0, .slice none 0 0, .slice none 0 0] (.slice none 0 0) (.slice none 0 0) [] [] _ from ⟨cpS_start w [.string nm, .slice ao cs.length c1, .slice ko ky.length c2, .slice xo xs.length c3] [.string ⟨#[]⟩, .slice none 0 0, .slice none 0 0, .slice none 0 0], ownC_nil _ _, ownN_nil _ _, .inl rfl⟩)
  go_enter Try.func75, Try.ntmps75
  go_upto_region 1 with fail
  go_cut [3] from 5 to 15 (fun pv W => ∃ L a k, pv = .pointer (some ⟨L, 0, none⟩) ∧ Hid (CpI w L a k (.slice none 0 0) [] ⟨nm, cs, ky, []⟩ [.string nm, .slice ao cs.length c1, .slice ko ky.length c2, .slice xo xs.length c3] [.string ⟨#[]⟩, .slice none 0 0, .slice none 0 0, .slice none 0 0] W))
  case first =>
    have C1 := hide (C0.out.keep (Below.refl _ _).drew)
    clear C0
    generalize (w.alloc (.cells #[.string nm, .slice ao cs.length c1, .slice ko ky.length c2, .slice xo xs.length c3] 32)).alloc (.cells #[.string ⟨#[]⟩, .slice none 0 0, .slice none 0 0, .slice none 0 0] 32) = W0 at *
    refine wp_region_noPanic ?_
    refine wp_region_held_drew (S := fun W => CpS w [.string nm, .slice ao cs.length c1, .slice ko ky.length c2, .slice xo xs.length c3] [.string ⟨#[]⟩, .slice none 0 0, .slice none 0 0, .slice none 0 0] W) (by kernel_rfl) C1.out.cps (fun hS1 => ?_)
    generalize W0.drew = W1 at *
    refine takeD 0 5 (v := ?vw1) rfl rfl (by kernel_rfl) (by kernel_rfl) (by kernel_rfl) (fun _ _ _ h => h) (by kernel_rfl) ?hyw1 (by assumption) ?rw1
    case hyw1 => (intro W hSw; obtain ⟨_, x0, x1, x2⟩ := CpS.cells hSw; go_simp; try with_reducible rfl)
    simp only [Act.put, List.setIfInBounds_toArray, List.set_cons_zero, List.set_cons_succ]
    refine takeD 1 6 (v := ?vw2) rfl rfl (by kernel_rfl) (by kernel_rfl) (by kernel_rfl) (fun _ _ _ h => h) (by kernel_rfl) ?hyw2 (by assumption) ?rw2
    case hyw2 => (intro W hSw; obtain ⟨_, x0, x1, x2⟩ := CpS.cells hSw; go_simp; try with_reducible rfl)
    simp only [Act.put, List.setIfInBounds_toArray, List.set_cons_zero, List.set_cons_succ]
    refine takeD 3 8 (v := ?vw3) rfl rfl (by kernel_rfl) (by kernel_rfl) (by kernel_rfl) (fun _ _ _ h => h) (by kernel_rfl) ?hyw3 (by assumption) ?rw3
    case hyw3 => (intro W hSw; obtain ⟨_, x0, x1, x2⟩ := CpS.cells hSw; go_simp; try with_reducible rfl)
    simp only [Act.put, List.setIfInBounds_toArray, List.set_cons_zero, List.set_cons_succ]
    refine takeD 4 9 (v := ?vw4) rfl rfl (by kernel_rfl) (by kernel_rfl) (by kernel_rfl) (fun _ _ _ h => h) (by kernel_rfl) ?hyw4 (by assumption) ?rw4
    case hyw4 => (intro W hSw; obtain ⟨_, x0, x1, x2⟩ := CpS.cells hSw; go_simp; try with_reducible rfl)
    simp only [Act.put, List.setIfInBounds_toArray, List.set_cons_zero, List.set_cons_succ]
    refine takeD 7 12 (v := ?vw5) rfl rfl (by kernel_rfl) (by kernel_rfl) (by kernel_rfl) (fun _ _ _ h => h) (by kernel_rfl) ?hyw5 (by assumption) ?rw5
    case hyw5 => (intro W hSw; obtain ⟨_, x0, x1, x2⟩ := CpS.cells hSw; go_simp; try with_reducible rfl)
    simp only [Act.put, List.setIfInBounds_toArray, List.set_cons_zero, List.set_cons_succ]
    refine takeD 8 13 (v := ?vw6) rfl rfl (by kernel_rfl) (by kernel_rfl) (by kernel_rfl) (fun _ _ _ h => h) (by kernel_rfl) ?hyw6 (by assumption) ?rw6
    case hyw6 => (intro W hSw; obtain ⟨_, x0, x1, x2⟩ := CpS.cells hSw; go_simp; try with_reducible rfl)
    simp only [Act.put, List.setIfInBounds_toArray, List.set_cons_zero, List.set_cons_succ]
    refine wpAnyH_ready (rs := [2, 6, 11]) (by kernel_rfl) (by simp) ?_
    refine AllReadyH.cons (o := _) rfl (fun K hK => ?_) (AllReadyH.cons (o := _) rfl (fun K hK => ?_) (AllReadyH.cons (o := _) rfl (fun K hK => ?_) AllReadyH.nil))
    · skip
      go_simp
      have C2 := hide (C1.out.buildC)
      refine hK.out _ _ C2.out.cps (fun hS2 => ?_)
      clear hK K
      generalize W1.alloc (.cells #[] 67) = W2 at *
      generalize W1.heap.size = e2 at *
      try simp only [Act.put, List.setIfInBounds_toArray, List.set_cons_zero, List.set_cons_succ]
      refine wpAnyH_ready (rs := [5, 6, 11]) (by kernel_rfl) (by simp) ?_
      refine AllReadyH.cons (o := _) rfl (fun K hK => ?_) (AllReadyH.cons (o := _) rfl (fun K hK => ?_) (AllReadyH.cons (o := _) rfl (fun K hK => ?_) AllReadyH.nil))
      · skip
        refine step_app_own rfl (.tmp 7) (.tmp 9) 29 rfl (w.heap.size + 2) b 67 i0 (.agg #[.string ⟨#[]⟩, .int .i64 0, .bool false]) 3 32 Try.underlying29 hi hz0 hz1 hz2 rfl (by decide) _ 0 [] rfl C2.out.cols _ _ _ rfl (owns_below SRC.out.cols C2.out.cps.1) (flatC_one _) HBC.out.1 HBC.out.2 C2.out.lt ?_
        intro v3 W3 o3 g3 l3
        have C3 := hide (C2.out.appC o3 g3 l3)
        clear o3 g3 l3
        refine hK.out _ _ C3.out.cps (fun hS3 => ?_)
        clear hK K
        simp only [List.getElem_toArray, List.getElem_cons_succ, List.getElem_cons_zero, Act.put, List.setIfInBounds_toArray, List.set_cons_zero, List.set_cons_succ]
        refine wpAnyH_ready (rs := [6, 11]) (by kernel_rfl) (by simp) ?_
        refine AllReadyH.cons (o := _) rfl (fun K hK => ?_) (AllReadyH.cons (o := _) rfl (fun K hK => ?_) AllReadyH.nil)
        · skip
          go_simp
          have C4 := hide (C3.out.buildK)
          refine hK.out _ _ C4.out.cps (fun hS4 => ?_)
          clear hK K
          generalize W3.alloc (.cells #[] 2) = W4 at *
          generalize W3.heap.size = e4 at *
          try simp only [Act.put, List.setIfInBounds_toArray, List.set_cons_zero, List.set_cons_succ]
          refine wpAnyH_ready (rs := [9, 11]) (by kernel_rfl) (by simp) ?_
          refine AllReadyH.cons (o := _) rfl (fun K hK => ?_) (AllReadyH.cons (o := _) rfl (fun K hK => ?_) AllReadyH.nil)
          · skip
            refine step_app_own rfl (.tmp 11) (.tmp 13) 23 rfl (w.heap.size + 2) b 2 j0 (.int .i64 0) 1 8 Try.underlying23 hj hy0 hy1 hy2 rfl (by decide) _ 0 [] rfl C4.out.key _ _ _ rfl (owns_below SRC.out.key C4.out.cps.1) (numsV_one1 _) HBK.out.1 HBK.out.2 C4.out.lt ?_
            intro v5 W5 o5 g5 l5
            have C5 := hide (C4.out.appK o5 g5 l5)
            clear o5 g5 l5
            refine hK.out _ _ C5.out.cps (fun hS5 => ?_)
            clear hK K
            simp only [List.getElem_toArray, List.getElem_cons_succ, List.getElem_cons_zero, Act.put, List.setIfInBounds_toArray, List.set_cons_zero, List.set_cons_succ]
            obtain ⟨co', p1, hc'⟩ := ownC_shape C5.out.cols
            obtain ⟨ko', p2, hk'⟩ := ownN_shape C5.out.key
            subst hc' hk'
            refine takeD 10 15 (v := ?vw7) rfl rfl (by kernel_rfl) (by kernel_rfl) (by kernel_rfl) (fun _ _ _ h => h) (by kernel_rfl) ?hyw7 (by assumption) ?rw7
            case hyw7 => (intro W hSw; go_simp; try with_reducible rfl)
            simp only [Act.put, List.setIfInBounds_toArray, List.set_cons_zero, List.set_cons_succ]
            refine wpAnyH_ready (rs := [11]) (by kernel_rfl) (by simp) ?_
            refine AllReadyH.cons (o := _) rfl (fun K hK => ?_) AllReadyH.nil
            go_simp
            have C6 := hide (C5.out.keep ((Below.refl W5.heap.size W5).alloc (Nat.le_refl _) (.cells #[.string ⟨#[]⟩, .slice none 0 0, .slice none 0 0, .slice none 0 0] 32)))
            have ZA := hide (heap_alloc_new W5 (.cells #[.string ⟨#[]⟩, .slice none 0 0, .slice none 0 0, .slice none 0 0] 32))
            have ZL : Hid (w.heap.size + 1 < W5.heap.size) := C5.out.lt
            have FC := hide (ne_newJ C5.out.ltc)
            have FK := hide (ne_newJ C5.out.ltk)
            refine hK.out _ _ C6.out.cps (fun hS6 => ?_)
            clear hK K
            generalize W5.alloc (.cells #[.string ⟨#[]⟩, .slice none 0 0, .slice none 0 0, .slice none 0 0] 32) = W6 at *
            generalize W5.heap.size = L at *
            try simp only [Act.put, List.setIfInBounds_toArray, List.set_cons_zero, List.set_cons_succ]
            refine wpAnyH_ready (rs := [12]) (by kernel_rfl) (by simp) ?_
            refine AllReadyH.cons (o := _) rfl (fun K hK => ?_) AllReadyH.nil
            have FI := hide (C6.out.fin (nm := nm) ZA.out ZL.out FC.out FK.out)
            obtain ⟨y0, y1, y2, y3, yf⟩ := cells4 ZA.out
            go_simp
            refine hK.out _ _ FI.out.1 (fun _ => ?_)
            clear hK K y0 y1 y2 y3 yf
            try simp only [Act.put, List.setIfInBounds_toArray, List.set_cons_zero, List.set_cons_succ]
            refine wpAnyH_done (by kernel_rfl) ?_ _
            refine NoPanic.normal ?_
            go_wp2_with fail
            go_meet
            exact ⟨L, _, _, rfl, FI⟩
          · skip
            go_simp
            have C5 := hide (C4.out.keep ((Below.refl W4.heap.size W4).alloc (Nat.le_refl _) (.cells #[.string ⟨#[]⟩, .slice none 0 0, .slice none 0 0, .slice none 0 0] 32)))
            have ZA := hide (heap_alloc_new W4 (.cells #[.string ⟨#[]⟩, .slice none 0 0, .slice none 0 0, .slice none 0 0] 32))
            have ZL : Hid (w.heap.size + 1 < W4.heap.size) := C4.out.lt
            have FC := hide (ne_newJ C4.out.ltc)
            have FK := hide (ne_newJ C4.out.ltk)
            refine hK.out _ _ C5.out.cps (fun hS5 => ?_)
            clear hK K
            generalize W4.alloc (.cells #[.string ⟨#[]⟩, .slice none 0 0, .slice none 0 0, .slice none 0 0] 32) = W5 at *
            generalize W4.heap.size = L at *
            try simp only [Act.put, List.setIfInBounds_toArray, List.set_cons_zero, List.set_cons_succ]
            refine wpAnyH_ready (rs := [9]) (by kernel_rfl) (by simp) ?_
            refine AllReadyH.cons (o := _) rfl (fun K hK => ?_) AllReadyH.nil
            refine step_app_own rfl (.tmp 11) (.tmp 13) 23 rfl (w.heap.size + 2) b 2 j0 (.int .i64 0) 1 8 Try.underlying23 hj hy0 hy1 hy2 rfl (by decide) _ 0 [] rfl C5.out.key _ _ _ rfl (owns_below SRC.out.key C5.out.cps.1) (numsV_one1 _) HBK.out.1 HBK.out.2 C5.out.lt ?_
            intro v6 W6 o6 g6 l6
            have C6 := hide (C5.out.appK o6 g6 l6)
            have ZX := hide ((g6.block L (Array.getElem?_eq_some_iff.1 ZA.out).1 (fun e => FK.out (by first | exact e | exact e.symm))).trans ZA.out)
            have FX : Hid (v6.ownBlock ≠ some L) := by
              show _ ≠ _
              rcases l6 with e | e
              · rw [e]; exact FK.out
              · rw [e]; intro e2; have h1 := (Array.getElem?_eq_some_iff.1 ZA.out).1; have h2 := Option.some.inj e2; omega
            clear ZA FK
            have ZA := ZX
            have FK := FX
            clear ZX FX
            clear o6 g6 l6
            refine hK.out _ _ C6.out.cps (fun hS6 => ?_)
            clear hK K
            simp only [List.getElem_toArray, List.getElem_cons_succ, List.getElem_cons_zero, Act.put, List.setIfInBounds_toArray, List.set_cons_zero, List.set_cons_succ]
            obtain ⟨co', p1, hc'⟩ := ownC_shape C6.out.cols
            obtain ⟨ko', p2, hk'⟩ := ownN_shape C6.out.key
            subst hc' hk'
            refine takeD 10 15 (v := ?vw8) rfl rfl (by kernel_rfl) (by kernel_rfl) (by kernel_rfl) (fun _ _ _ h => h) (by kernel_rfl) ?hyw8 (by assumption) ?rw8
            case hyw8 => (intro W hSw; go_simp; try with_reducible rfl)
            simp only [Act.put, List.setIfInBounds_toArray, List.set_cons_zero, List.set_cons_succ]
            refine wpAnyH_ready (rs := [12]) (by kernel_rfl) (by simp) ?_
            refine AllReadyH.cons (o := _) rfl (fun K hK => ?_) AllReadyH.nil
            have FI := hide (C6.out.fin (nm := nm) ZA.out ZL.out FC.out FK.out)
            obtain ⟨y0, y1, y2, y3, yf⟩ := cells4 ZA.out
            go_simp
            refine hK.out _ _ FI.out.1 (fun _ => ?_)
            clear hK K y0 y1 y2 y3 yf
            try simp only [Act.put, List.setIfInBounds_toArray, List.set_cons_zero, List.set_cons_succ]
            refine wpAnyH_done (by kernel_rfl) ?_ _
            refine NoPanic.normal ?_
            go_wp2_with fail
            go_meet
            exact ⟨L, _, _, rfl, FI⟩
        · skip
          go_simp
          have C4 := hide (C3.out.keep ((Below.refl W3.heap.size W3).alloc (Nat.le_refl _) (.cells #[.string ⟨#[]⟩, .slice none 0 0, .slice none 0 0, .slice none 0 0] 32)))
          have ZA := hide (heap_alloc_new W3 (.cells #[.string ⟨#[]⟩, .slice none 0 0, .slice none 0 0, .slice none 0 0] 32))
          have ZL : Hid (w.heap.size + 1 < W3.heap.size) := C3.out.lt
          have FC := hide (ne_newJ C3.out.ltc)
          have FK := hide (ne_newJ C3.out.ltk)
          refine hK.out _ _ C4.out.cps (fun hS4 => ?_)
          clear hK K
          generalize W3.alloc (.cells #[.string ⟨#[]⟩, .slice none 0 0, .slice none 0 0, .slice none 0 0] 32) = W4 at *
          generalize W3.heap.size = L at *
          try simp only [Act.put, List.setIfInBounds_toArray, List.set_cons_zero, List.set_cons_succ]
          refine wpAnyH_ready (rs := [6]) (by kernel_rfl) (by simp) ?_
          refine AllReadyH.cons (o := _) rfl (fun K hK => ?_) AllReadyH.nil
          go_simp
          have C5 := hide (C4.out.buildK)
          have ZX := hide ((heap_old W4 (.cells #[] 2) _ (Array.getElem?_eq_some_iff.1 ZA.out).1).trans ZA.out)
          have FX : Hid ((Value.slice (some ⟨W4.heap.size, 0, none⟩) 0 0).ownBlock ≠ some L) := fun e => by have h1 := (Array.getElem?_eq_some_iff.1 ZA.out).1; have h2 := Option.some.inj (show some W4.heap.size = some L from e); omega
          clear ZA FK
          have ZA := ZX
          have FK := FX
          clear ZX FX
          refine hK.out _ _ C5.out.cps (fun hS5 => ?_)
          clear hK K
          generalize W4.alloc (.cells #[] 2) = W5 at *
          generalize W4.heap.size = e5 at *
          try simp only [Act.put, List.setIfInBounds_toArray, List.set_cons_zero, List.set_cons_succ]
          refine wpAnyH_ready (rs := [9]) (by kernel_rfl) (by simp) ?_
          refine AllReadyH.cons (o := _) rfl (fun K hK => ?_) AllReadyH.nil
          refine step_app_own rfl (.tmp 11) (.tmp 13) 23 rfl (w.heap.size + 2) b 2 j0 (.int .i64 0) 1 8 Try.underlying23 hj hy0 hy1 hy2 rfl (by decide) _ 0 [] rfl C5.out.key _ _ _ rfl (owns_below SRC.out.key C5.out.cps.1) (numsV_one1 _) HBK.out.1 HBK.out.2 C5.out.lt ?_
          intro v6 W6 o6 g6 l6
          have C6 := hide (C5.out.appK o6 g6 l6)
          have ZX := hide ((g6.block L (Array.getElem?_eq_some_iff.1 ZA.out).1 (fun e => FK.out (by first | exact e | exact e.symm))).trans ZA.out)
          have FX : Hid (v6.ownBlock ≠ some L) := by
            show _ ≠ _
            rcases l6 with e | e
            · rw [e]; exact FK.out
            · rw [e]; intro e2; have h1 := (Array.getElem?_eq_some_iff.1 ZA.out).1; have h2 := Option.some.inj e2; omega
          clear ZA FK
          have ZA := ZX
          have FK := FX
          clear ZX FX
          clear o6 g6 l6
          refine hK.out _ _ C6.out.cps (fun hS6 => ?_)
          clear hK K
          simp only [List.getElem_toArray, List.getElem_cons_succ, List.getElem_cons_zero, Act.put, List.setIfInBounds_toArray, List.set_cons_zero, List.set_cons_succ]
          obtain ⟨co', p1, hc'⟩ := ownC_shape C6.out.cols
          obtain ⟨ko', p2, hk'⟩ := ownN_shape C6.out.key
          subst hc' hk'
          refine takeD 10 15 (v := ?vw9) rfl rfl (by kernel_rfl) (by kernel_rfl) (by kernel_rfl) (fun _ _ _ h => h) (by kernel_rfl) ?hyw9 (by assumption) ?rw9
          case hyw9 => (intro W hSw; go_simp; try with_reducible rfl)
          simp only [Act.put, List.setIfInBounds_toArray, List.set_cons_zero, List.set_cons_succ]
          refine wpAnyH_ready (rs := [12]) (by kernel_rfl) (by simp) ?_
          refine AllReadyH.cons (o := _) rfl (fun K hK => ?_) AllReadyH.nil
          have FI := hide (C6.out.fin (nm := nm) ZA.out ZL.out FC.out FK.out)
          obtain ⟨y0, y1, y2, y3, yf⟩ := cells4 ZA.out
          go_simp
          refine hK.out _ _ FI.out.1 (fun _ => ?_)
          clear hK K y0 y1 y2 y3 yf
          try simp only [Act.put, List.setIfInBounds_toArray, List.set_cons_zero, List.set_cons_succ]
          refine wpAnyH_done (by kernel_rfl) ?_ _
          refine NoPanic.normal ?_
          go_wp2_with fail
          go_meet
          exact ⟨L, _, _, rfl, FI⟩
      · skip
        go_simp
        have C3 := hide (C2.out.buildK)
        refine hK.out _ _ C3.out.cps (fun hS3 => ?_)
        clear hK K
        generalize W2.alloc (.cells #[] 2) = W3 at *
        generalize W2.heap.size = e3 at *
        try simp only [Act.put, List.setIfInBounds_toArray, List.set_cons_zero, List.set_cons_succ]
        refine wpAnyH_ready (rs := [5, 11]) (by kernel_rfl) (by simp) ?_
        refine AllReadyH.cons (o := _) rfl (fun K hK => ?_) (AllReadyH.cons (o := _) rfl (fun K hK => ?_) AllReadyH.nil)
        · skip
          refine step_app_own rfl (.tmp 7) (.tmp 9) 29 rfl (w.heap.size + 2) b 67 i0 (.agg #[.string ⟨#[]⟩, .int .i64 0, .bool false]) 3 32 Try.underlying29 hi hz0 hz1 hz2 rfl (by decide) _ 0 [] rfl C3.out.cols _ _ _ rfl (owns_below SRC.out.cols C3.out.cps.1) (flatC_one _) HBC.out.1 HBC.out.2 C3.out.lt ?_
          intro v4 W4 o4 g4 l4
          have C4 := hide (C3.out.appC o4 g4 l4)
          clear o4 g4 l4
          refine hK.out _ _ C4.out.cps (fun hS4 => ?_)
          clear hK K
          simp only [List.getElem_toArray, List.getElem_cons_succ, List.getElem_cons_zero, Act.put, List.setIfInBounds_toArray, List.set_cons_zero, List.set_cons_succ]
          refine wpAnyH_ready (rs := [9, 11]) (by kernel_rfl) (by simp) ?_
          refine AllReadyH.cons (o := _) rfl (fun K hK => ?_) (AllReadyH.cons (o := _) rfl (fun K hK => ?_) AllReadyH.nil)
          · skip
            refine step_app_own rfl (.tmp 11) (.tmp 13) 23 rfl (w.heap.size + 2) b 2 j0 (.int .i64 0) 1 8 Try.underlying23 hj hy0 hy1 hy2 rfl (by decide) _ 0 [] rfl C4.out.key _ _ _ rfl (owns_below SRC.out.key C4.out.cps.1) (numsV_one1 _) HBK.out.1 HBK.out.2 C4.out.lt ?_
            intro v5 W5 o5 g5 l5
            have C5 := hide (C4.out.appK o5 g5 l5)
            clear o5 g5 l5
            refine hK.out _ _ C5.out.cps (fun hS5 => ?_)
            clear hK K
            simp only [List.getElem_toArray, List.getElem_cons_succ, List.getElem_cons_zero, Act.put, List.setIfInBounds_toArray, List.set_cons_zero, List.set_cons_succ]
            obtain ⟨co', p1, hc'⟩ := ownC_shape C5.out.cols
            obtain ⟨ko', p2, hk'⟩ := ownN_shape C5.out.key
            subst hc' hk'
            refine takeD 10 15 (v := ?vw10) rfl rfl (by kernel_rfl) (by kernel_rfl) (by kernel_rfl) (fun _ _ _ h => h) (by kernel_rfl) ?hyw10 (by assumption) ?rw10
            case hyw10 => (intro W hSw; go_simp; try with_reducible rfl)
            simp only [Act.put, List.setIfInBounds_toArray, List.set_cons_zero, List.set_cons_succ]
            refine wpAnyH_ready (rs := [11]) (by kernel_rfl) (by simp) ?_
            refine AllReadyH.cons (o := _) rfl (fun K hK => ?_) AllReadyH.nil
            go_simp
            have C6 := hide (C5.out.keep ((Below.refl W5.heap.size W5).alloc (Nat.le_refl _) (.cells #[.string ⟨#[]⟩, .slice none 0 0, .slice none 0 0, .slice none 0 0] 32)))
            have ZA := hide (heap_alloc_new W5 (.cells #[.string ⟨#[]⟩, .slice none 0 0, .slice none 0 0, .slice none 0 0] 32))
            have ZL : Hid (w.heap.size + 1 < W5.heap.size) := C5.out.lt
            have FC := hide (ne_newJ C5.out.ltc)
            have FK := hide (ne_newJ C5.out.ltk)
            refine hK.out _ _ C6.out.cps (fun hS6 => ?_)
            clear hK K
            generalize W5.alloc (.cells #[.string ⟨#[]⟩, .slice none 0 0, .slice none 0 0, .slice none 0 0] 32) = W6 at *
            generalize W5.heap.size = L at *
            try simp only [Act.put, List.setIfInBounds_toArray, List.set_cons_zero, List.set_cons_succ]
            refine wpAnyH_ready (rs := [12]) (by kernel_rfl) (by simp) ?_
            refine AllReadyH.cons (o := _) rfl (fun K hK => ?_) AllReadyH.nil
            have FI := hide (C6.out.fin (nm := nm) ZA.out ZL.out FC.out FK.out)
            obtain ⟨y0, y1, y2, y3, yf⟩ := cells4 ZA.out
            go_simp
            refine hK.out _ _ FI.out.1 (fun _ => ?_)
            clear hK K y0 y1 y2 y3 yf
            try simp only [Act.put, List.setIfInBounds_toArray, List.set_cons_zero, List.set_cons_succ]
            refine wpAnyH_done (by kernel_rfl) ?_ _
            refine NoPanic.normal ?_
            go_wp2_with fail
            go_meet
            exact ⟨L, _, _, rfl, FI⟩
          · skip
            go_simp
            have C5 := hide (C4.out.keep ((Below.refl W4.heap.size W4).alloc (Nat.le_refl _) (.cells #[.string ⟨#[]⟩, .slice none 0 0, .slice none 0 0, .slice none 0 0] 32)))
            have ZA := hide (heap_alloc_new W4 (.cells #[.string ⟨#[]⟩, .slice none 0 0, .slice none 0 0, .slice none 0 0] 32))
            have ZL : Hid (w.heap.size + 1 < W4.heap.size) := C4.out.lt
            have FC := hide (ne_newJ C4.out.ltc)
            have FK := hide (ne_newJ C4.out.ltk)
            refine hK.out _ _ C5.out.cps (fun hS5 => ?_)
            clear hK K
            generalize W4.alloc (.cells #[.string ⟨#[]⟩, .slice none 0 0, .slice none 0 0, .slice none 0 0] 32) = W5 at *
            generalize W4.heap.size = L at *
            try simp only [Act.put, List.setIfInBounds_toArray, List.set_cons_zero, List.set_cons_succ]
            refine wpAnyH_ready (rs := [9]) (by kernel_rfl) (by simp) ?_
            refine AllReadyH.cons (o := _) rfl (fun K hK => ?_) AllReadyH.nil
            refine step_app_own rfl (.tmp 11) (.tmp 13) 23 rfl (w.heap.size + 2) b 2 j0 (.int .i64 0) 1 8 Try.underlying23 hj hy0 hy1 hy2 rfl (by decide) _ 0 [] rfl C5.out.key _ _ _ rfl (owns_below SRC.out.key C5.out.cps.1) (numsV_one1 _) HBK.out.1 HBK.out.2 C5.out.lt ?_
            intro v6 W6 o6 g6 l6
            have C6 := hide (C5.out.appK o6 g6 l6)
            have ZX := hide ((g6.block L (Array.getElem?_eq_some_iff.1 ZA.out).1 (fun e => FK.out (by first | exact e | exact e.symm))).trans ZA.out)
            have FX : Hid (v6.ownBlock ≠ some L) := by
              show _ ≠ _
              rcases l6 with e | e
              · rw [e]; exact FK.out
              · rw [e]; intro e2; have h1 := (Array.getElem?_eq_some_iff.1 ZA.out).1; have h2 := Option.some.inj e2; omega
            clear ZA FK
            have ZA := ZX
            have FK := FX
            clear ZX FX
            clear o6 g6 l6
            refine hK.out _ _ C6.out.cps (fun hS6 => ?_)
            clear hK K
            simp only [List.getElem_toArray, List.getElem_cons_succ, List.getElem_cons_zero, Act.put, List.setIfInBounds_toArray, List.set_cons_zero, List.set_cons_succ]
            obtain ⟨co', p1, hc'⟩ := ownC_shape C6.out.cols
            obtain ⟨ko', p2, hk'⟩ := ownN_shape C6.out.key
            subst hc' hk'
            refine takeD 10 15 (v := ?vw11) rfl rfl (by kernel_rfl) (by kernel_rfl) (by kernel_rfl) (fun _ _ _ h => h) (by kernel_rfl) ?hyw11 (by assumption) ?rw11
            case hyw11 => (intro W hSw; go_simp; try with_reducible rfl)
            simp only [Act.put, List.setIfInBounds_toArray, List.set_cons_zero, List.set_cons_succ]
            refine wpAnyH_ready (rs := [12]) (by kernel_rfl) (by simp) ?_
            refine AllReadyH.cons (o := _) rfl (fun K hK => ?_) AllReadyH.nil
            have FI := hide (C6.out.fin (nm := nm) ZA.out ZL.out FC.out FK.out)
            obtain ⟨y0, y1, y2, y3, yf⟩ := cells4 ZA.out
            go_simp
            refine hK.out _ _ FI.out.1 (fun _ => ?_)
            clear hK K y0 y1 y2 y3 yf
            try simp only [Act.put, List.setIfInBounds_toArray, List.set_cons_zero, List.set_cons_succ]
            refine wpAnyH_done (by kernel_rfl) ?_ _
            refine NoPanic.normal ?_
            go_wp2_with fail
            go_meet
            exact ⟨L, _, _, rfl, FI⟩
        · skip
          go_simp
          have C4 := hide (C3.out.keep ((Below.refl W3.heap.size W3).alloc (Nat.le_refl _) (.cells #[.string ⟨#[]⟩, .slice none 0 0, .slice none 0 0, .slice none 0 0] 32)))
          have ZA := hide (heap_alloc_new W3 (.cells #[.string ⟨#[]⟩, .slice none 0 0, .slice none 0 0, .slice none 0 0] 32))
          have ZL : Hid (w.heap.size + 1 < W3.heap.size) := C3.out.lt
          have FC := hide (ne_newJ C3.out.ltc)
          have FK := hide (ne_newJ C3.out.ltk)
          refine hK.out _ _ C4.out.cps (fun hS4 => ?_)
          clear hK K
          generalize W3.alloc (.cells #[.string ⟨#[]⟩, .slice none 0 0, .slice none 0 0, .slice none 0 0] 32) = W4 at *
          generalize W3.heap.size = L at *
          try simp only [Act.put, List.setIfInBounds_toArray, List.set_cons_zero, List.set_cons_succ]
          refine wpAnyH_ready (rs := [5]) (by kernel_rfl) (by simp) ?_
          refine AllReadyH.cons (o := _) rfl (fun K hK => ?_) AllReadyH.nil
          refine step_app_own rfl (.tmp 7) (.tmp 9) 29 rfl (w.heap.size + 2) b 67 i0 (.agg #[.string ⟨#[]⟩, .int .i64 0, .bool false]) 3 32 Try.underlying29 hi hz0 hz1 hz2 rfl (by decide) _ 0 [] rfl C4.out.cols _ _ _ rfl (owns_below SRC.out.cols C4.out.cps.1) (flatC_one _) HBC.out.1 HBC.out.2 C4.out.lt ?_
          intro v5 W5 o5 g5 l5
          have C5 := hide (C4.out.appC o5 g5 l5)
          have ZX := hide ((g5.block L (Array.getElem?_eq_some_iff.1 ZA.out).1 (fun e => FC.out (by first | exact e | exact e.symm))).trans ZA.out)
          have FX : Hid (v5.ownBlock ≠ some L) := by
            show _ ≠ _
            rcases l5 with e | e
            · rw [e]; exact FC.out
            · rw [e]; intro e2; have h1 := (Array.getElem?_eq_some_iff.1 ZA.out).1; have h2 := Option.some.inj e2; omega
          clear ZA FC
          have ZA := ZX
          have FC := FX
          clear ZX FX
          clear o5 g5 l5
          refine hK.out _ _ C5.out.cps (fun hS5 => ?_)
          clear hK K
          simp only [List.getElem_toArray, List.getElem_cons_succ, List.getElem_cons_zero, Act.put, List.setIfInBounds_toArray, List.set_cons_zero, List.set_cons_succ]
          refine wpAnyH_ready (rs := [9]) (by kernel_rfl) (by simp) ?_
          refine AllReadyH.cons (o := _) rfl (fun K hK => ?_) AllReadyH.nil
          refine step_app_own rfl (.tmp 11) (.tmp 13) 23 rfl (w.heap.size + 2) b 2 j0 (.int .i64 0) 1 8 Try.underlying23 hj hy0 hy1 hy2 rfl (by decide) _ 0 [] rfl C5.out.key _ _ _ rfl (owns_below SRC.out.key C5.out.cps.1) (numsV_one1 _) HBK.out.1 HBK.out.2 C5.out.lt ?_
          intro v6 W6 o6 g6 l6
          have C6 := hide (C5.out.appK o6 g6 l6)
          have ZX := hide ((g6.block L (Array.getElem?_eq_some_iff.1 ZA.out).1 (fun e => FK.out (by first | exact e | exact e.symm))).trans ZA.out)
          have FX : Hid (v6.ownBlock ≠ some L) := by
            show _ ≠ _
            rcases l6 with e | e
            · rw [e]; exact FK.out
            · rw [e]; intro e2; have h1 := (Array.getElem?_eq_some_iff.1 ZA.out).1; have h2 := Option.some.inj e2; omega
          clear ZA FK
          have ZA := ZX
          have FK := FX
          clear ZX FX
          clear o6 g6 l6
          refine hK.out _ _ C6.out.cps (fun hS6 => ?_)
          clear hK K
          simp only [List.getElem_toArray, List.getElem_cons_succ, List.getElem_cons_zero, Act.put, List.setIfInBounds_toArray, List.set_cons_zero, List.set_cons_succ]
          obtain ⟨co', p1, hc'⟩ := ownC_shape C6.out.cols
          obtain ⟨ko', p2, hk'⟩ := ownN_shape C6.out.key
          subst hc' hk'
          refine takeD 10 15 (v := ?vw12) rfl rfl (by kernel_rfl) (by kernel_rfl) (by kernel_rfl) (fun _ _ _ h => h) (by kernel_rfl) ?hyw12 (by assumption) ?rw12
          case hyw12 => (intro W hSw; go_simp; try with_reducible rfl)
          simp only [Act.put, List.setIfInBounds_toArray, List.set_cons_zero, List.set_cons_succ]
          refine wpAnyH_ready (rs := [12]) (by kernel_rfl) (by simp) ?_
          refine AllReadyH.cons (o := _) rfl (fun K hK => ?_) AllReadyH.nil
          have FI := hide (C6.out.fin (nm := nm) ZA.out ZL.out FC.out FK.out)
          obtain ⟨y0, y1, y2, y3, yf⟩ := cells4 ZA.out
          go_simp
          refine hK.out _ _ FI.out.1 (fun _ => ?_)
          clear hK K y0 y1 y2 y3 yf
          try simp only [Act.put, List.setIfInBounds_toArray, List.set_cons_zero, List.set_cons_succ]
          refine wpAnyH_done (by kernel_rfl) ?_ _
          refine NoPanic.normal ?_
          go_wp2_with fail
          go_meet
          exact ⟨L, _, _, rfl, FI⟩
      · skip
        go_simp
        have C3 := hide (C2.out.keep ((Below.refl W2.heap.size W2).alloc (Nat.le_refl _) (.cells #[.string ⟨#[]⟩, .slice none 0 0, .slice none 0 0, .slice none 0 0] 32)))
        have ZA := hide (heap_alloc_new W2 (.cells #[.string ⟨#[]⟩, .slice none 0 0, .slice none 0 0, .slice none 0 0] 32))
        have ZL : Hid (w.heap.size + 1 < W2.heap.size) := C2.out.lt
        have FC := hide (ne_newJ C2.out.ltc)
        have FK := hide (ne_newJ C2.out.ltk)
        refine hK.out _ _ C3.out.cps (fun hS3 => ?_)
        clear hK K
        generalize W2.alloc (.cells #[.string ⟨#[]⟩, .slice none 0 0, .slice none 0 0, .slice none 0 0] 32) = W3 at *
        generalize W2.heap.size = L at *
        try simp only [Act.put, List.setIfInBounds_toArray, List.set_cons_zero, List.set_cons_succ]
        refine wpAnyH_ready (rs := [5, 6]) (by kernel_rfl) (by simp) ?_
        refine AllReadyH.cons (o := _) rfl (fun K hK => ?_) (AllReadyH.cons (o := _) rfl (fun K hK => ?_) AllReadyH.nil)
        · skip
          refine step_app_own rfl (.tmp 7) (.tmp 9) 29 rfl (w.heap.size + 2) b 67 i0 (.agg #[.string ⟨#[]⟩, .int .i64 0, .bool false]) 3 32 Try.underlying29 hi hz0 hz1 hz2 rfl (by decide) _ 0 [] rfl C3.out.cols _ _ _ rfl (owns_below SRC.out.cols C3.out.cps.1) (flatC_one _) HBC.out.1 HBC.out.2 C3.out.lt ?_
          intro v4 W4 o4 g4 l4
          have C4 := hide (C3.out.appC o4 g4 l4)
          have ZX := hide ((g4.block L (Array.getElem?_eq_some_iff.1 ZA.out).1 (fun e => FC.out (by first | exact e | exact e.symm))).trans ZA.out)
          have FX : Hid (v4.ownBlock ≠ some L) := by
            show _ ≠ _
            rcases l4 with e | e
            · rw [e]; exact FC.out
            · rw [e]; intro e2; have h1 := (Array.getElem?_eq_some_iff.1 ZA.out).1; have h2 := Option.some.inj e2; omega
          clear ZA FC
          have ZA := ZX
          have FC := FX
          clear ZX FX
          clear o4 g4 l4
          refine hK.out _ _ C4.out.cps (fun hS4 => ?_)
          clear hK K
          simp only [List.getElem_toArray, List.getElem_cons_succ, List.getElem_cons_zero, Act.put, List.setIfInBounds_toArray, List.set_cons_zero, List.set_cons_succ]
          refine wpAnyH_ready (rs := [6]) (by kernel_rfl) (by simp) ?_
          refine AllReadyH.cons (o := _) rfl (fun K hK => ?_) AllReadyH.nil
          go_simp
          have C5 := hide (C4.out.buildK)
          have ZX := hide ((heap_old W4 (.cells #[] 2) _ (Array.getElem?_eq_some_iff.1 ZA.out).1).trans ZA.out)
          have FX : Hid ((Value.slice (some ⟨W4.heap.size, 0, none⟩) 0 0).ownBlock ≠ some L) := fun e => by have h1 := (Array.getElem?_eq_some_iff.1 ZA.out).1; have h2 := Option.some.inj (show some W4.heap.size = some L from e); omega
          clear ZA FK
          have ZA := ZX
          have FK := FX
          clear ZX FX
          refine hK.out _ _ C5.out.cps (fun hS5 => ?_)
          clear hK K
          generalize W4.alloc (.cells #[] 2) = W5 at *
          generalize W4.heap.size = e5 at *
          try simp only [Act.put, List.setIfInBounds_toArray, List.set_cons_zero, List.set_cons_succ]
          refine wpAnyH_ready (rs := [9]) (by kernel_rfl) (by simp) ?_
          refine AllReadyH.cons (o := _) rfl (fun K hK => ?_) AllReadyH.nil
          refine step_app_own rfl (.tmp 11) (.tmp 13) 23 rfl (w.heap.size + 2) b 2 j0 (.int .i64 0) 1 8 Try.underlying23 hj hy0 hy1 hy2 rfl (by decide) _ 0 [] rfl C5.out.key _ _ _ rfl (owns_below SRC.out.key C5.out.cps.1) (numsV_one1 _) HBK.out.1 HBK.out.2 C5.out.lt ?_
          intro v6 W6 o6 g6 l6
          have C6 := hide (C5.out.appK o6 g6 l6)
          have ZX := hide ((g6.block L (Array.getElem?_eq_some_iff.1 ZA.out).1 (fun e => FK.out (by first | exact e | exact e.symm))).trans ZA.out)
          have FX : Hid (v6.ownBlock ≠ some L) := by
            show _ ≠ _
            rcases l6 with e | e
            · rw [e]; exact FK.out
            · rw [e]; intro e2; have h1 := (Array.getElem?_eq_some_iff.1 ZA.out).1; have h2 := Option.some.inj e2; omega
          clear ZA FK
          have ZA := ZX
          have FK := FX
          clear ZX FX
          clear o6 g6 l6
          refine hK.out _ _ C6.out.cps (fun hS6 => ?_)
          clear hK K
          simp only [List.getElem_toArray, List.getElem_cons_succ, List.getElem_cons_zero, Act.put, List.setIfInBounds_toArray, List.set_cons_zero, List.set_cons_succ]
          obtain ⟨co', p1, hc'⟩ := ownC_shape C6.out.cols
          obtain ⟨ko', p2, hk'⟩ := ownN_shape C6.out.key
          subst hc' hk'
          refine takeD 10 15 (v := ?vw13) rfl rfl (by kernel_rfl) (by kernel_rfl) (by kernel_rfl) (fun _ _ _ h => h) (by kernel_rfl) ?hyw13 (by assumption) ?rw13
          case hyw13 => (intro W hSw; go_simp; try with_reducible rfl)
          simp only [Act.put, List.setIfInBounds_toArray, List.set_cons_zero, List.set_cons_succ]
          refine wpAnyH_ready (rs := [12]) (by kernel_rfl) (by simp) ?_
          refine AllReadyH.cons (o := _) rfl (fun K hK => ?_) AllReadyH.nil
          have FI := hide (C6.out.fin (nm := nm) ZA.out ZL.out FC.out FK.out)
          obtain ⟨y0, y1, y2, y3, yf⟩ := cells4 ZA.out
          go_simp
          refine hK.out _ _ FI.out.1 (fun _ => ?_)
          clear hK K y0 y1 y2 y3 yf
          try simp only [Act.put, List.setIfInBounds_toArray, List.set_cons_zero, List.set_cons_succ]
          refine wpAnyH_done (by kernel_rfl) ?_ _
          refine NoPanic.normal ?_
          go_wp2_with fail
          go_meet
          exact ⟨L, _, _, rfl, FI⟩
        · skip
          go_simp
          have C4 := hide (C3.out.buildK)
          have ZX := hide ((heap_old W3 (.cells #[] 2) _ (Array.getElem?_eq_some_iff.1 ZA.out).1).trans ZA.out)
          have FX : Hid ((Value.slice (some ⟨W3.heap.size, 0, none⟩) 0 0).ownBlock ≠ some L) := fun e => by have h1 := (Array.getElem?_eq_some_iff.1 ZA.out).1; have h2 := Option.some.inj (show some W3.heap.size = some L from e); omega
          clear ZA FK
          have ZA := ZX
          have FK := FX
          clear ZX FX
          refine hK.out _ _ C4.out.cps (fun hS4 => ?_)
          clear hK K
          generalize W3.alloc (.cells #[] 2) = W4 at *
          generalize W3.heap.size = e4 at *
          try simp only [Act.put, List.setIfInBounds_toArray, List.set_cons_zero, List.set_cons_succ]
          refine wpAnyH_ready (rs := [5]) (by kernel_rfl) (by simp) ?_
          refine AllReadyH.cons (o := _) rfl (fun K hK => ?_) AllReadyH.nil
          refine step_app_own rfl (.tmp 7) (.tmp 9) 29 rfl (w.heap.size + 2) b 67 i0 (.agg #[.string ⟨#[]⟩, .int .i64 0, .bool false]) 3 32 Try.underlying29 hi hz0 hz1 hz2 rfl (by decide) _ 0 [] rfl C4.out.cols _ _ _ rfl (owns_below SRC.out.cols C4.out.cps.1) (flatC_one _) HBC.out.1 HBC.out.2 C4.out.lt ?_
          intro v5 W5 o5 g5 l5
          have C5 := hide (C4.out.appC o5 g5 l5)
          have ZX := hide ((g5.block L (Array.getElem?_eq_some_iff.1 ZA.out).1 (fun e => FC.out (by first | exact e | exact e.symm))).trans ZA.out)
          have FX : Hid (v5.ownBlock ≠ some L) := by
            show _ ≠ _
            rcases l5 with e | e
            · rw [e]; exact FC.out
            · rw [e]; intro e2; have h1 := (Array.getElem?_eq_some_iff.1 ZA.out).1; have h2 := Option.some.inj e2; omega
          clear ZA FC
          have ZA := ZX
          have FC := FX
          clear ZX FX
          clear o5 g5 l5
          refine hK.out _ _ C5.out.cps (fun hS5 => ?_)
          clear hK K
          simp only [List.getElem_toArray, List.getElem_cons_succ, List.getElem_cons_zero, Act.put, List.setIfInBounds_toArray, List.set_cons_zero, List.set_cons_succ]
          refine wpAnyH_ready (rs := [9]) (by kernel_rfl) (by simp) ?_
          refine AllReadyH.cons (o := _) rfl (fun K hK => ?_) AllReadyH.nil
          refine step_app_own rfl (.tmp 11) (.tmp 13) 23 rfl (w.heap.size + 2) b 2 j0 (.int .i64 0) 1 8 Try.underlying23 hj hy0 hy1 hy2 rfl (by decide) _ 0 [] rfl C5.out.key _ _ _ rfl (owns_below SRC.out.key C5.out.cps.1) (numsV_one1 _) HBK.out.1 HBK.out.2 C5.out.lt ?_
          intro v6 W6 o6 g6 l6
          have C6 := hide (C5.out.appK o6 g6 l6)
          have ZX := hide ((g6.block L (Array.getElem?_eq_some_iff.1 ZA.out).1 (fun e => FK.out (by first | exact e | exact e.symm))).trans ZA.out)
          have FX : Hid (v6.ownBlock ≠ some L) := by
            show _ ≠ _
            rcases l6 with e | e
            · rw [e]; exact FK.out
            · rw [e]; intro e2; have h1 := (Array.getElem?_eq_some_iff.1 ZA.out).1; have h2 := Option.some.inj e2; omega
          clear ZA FK
          have ZA := ZX
          have FK := FX
          clear ZX FX
          clear o6 g6 l6
          refine hK.out _ _ C6.out.cps (fun hS6 => ?_)
          clear hK K
          simp only [List.getElem_toArray, List.getElem_cons_succ, List.getElem_cons_zero, Act.put, List.setIfInBounds_toArray, List.set_cons_zero, List.set_cons_succ]
          obtain ⟨co', p1, hc'⟩ := ownC_shape C6.out.cols
          obtain ⟨ko', p2, hk'⟩ := ownN_shape C6.out.key
          subst hc' hk'
          refine takeD 10 15 (v := ?vw14) rfl rfl (by kernel_rfl) (by kernel_rfl) (by kernel_rfl) (fun _ _ _ h => h) (by kernel_rfl) ?hyw14 (by assumption) ?rw14
          case hyw14 => (intro W hSw; go_simp; try with_reducible rfl)
          simp only [Act.put, List.setIfInBounds_toArray, List.set_cons_zero, List.set_cons_succ]
          refine wpAnyH_ready (rs := [12]) (by kernel_rfl) (by simp) ?_
          refine AllReadyH.cons (o := _) rfl (fun K hK => ?_) AllReadyH.nil
          have FI := hide (C6.out.fin (nm := nm) ZA.out ZL.out FC.out FK.out)
          obtain ⟨y0, y1, y2, y3, yf⟩ := cells4 ZA.out
          go_simp
          refine hK.out _ _ FI.out.1 (fun _ => ?_)
          clear hK K y0 y1 y2 y3 yf
          try simp only [Act.put, List.setIfInBounds_toArray, List.set_cons_zero, List.set_cons_succ]
          refine wpAnyH_done (by kernel_rfl) ?_ _
          refine NoPanic.normal ?_
          go_wp2_with fail
          go_meet
          exact ⟨L, _, _, rfl, FI⟩
    · skip
      go_simp
      have C2 := hide (C1.out.buildK)
      refine hK.out _ _ C2.out.cps (fun hS2 => ?_)
      clear hK K
      generalize W1.alloc (.cells #[] 2) = W2 at *
      generalize W1.heap.size = e2 at *
      try simp only [Act.put, List.setIfInBounds_toArray, List.set_cons_zero, List.set_cons_succ]
      refine wpAnyH_ready (rs := [2, 11]) (by kernel_rfl) (by simp) ?_
      refine AllReadyH.cons (o := _) rfl (fun K hK => ?_) (AllReadyH.cons (o := _) rfl (fun K hK => ?_) AllReadyH.nil)
      · skip
        go_simp
        have C3 := hide (C2.out.buildC)
        refine hK.out _ _ C3.out.cps (fun hS3 => ?_)
        clear hK K
        generalize W2.alloc (.cells #[] 67) = W3 at *
        generalize W2.heap.size = e3 at *
        try simp only [Act.put, List.setIfInBounds_toArray, List.set_cons_zero, List.set_cons_succ]
        refine wpAnyH_ready (rs := [5, 11]) (by kernel_rfl) (by simp) ?_
        refine AllReadyH.cons (o := _) rfl (fun K hK => ?_) (AllReadyH.cons (o := _) rfl (fun K hK => ?_) AllReadyH.nil)
        · skip
          refine step_app_own rfl (.tmp 7) (.tmp 9) 29 rfl (w.heap.size + 2) b 67 i0 (.agg #[.string ⟨#[]⟩, .int .i64 0, .bool false]) 3 32 Try.underlying29 hi hz0 hz1 hz2 rfl (by decide) _ 0 [] rfl C3.out.cols _ _ _ rfl (owns_below SRC.out.cols C3.out.cps.1) (flatC_one _) HBC.out.1 HBC.out.2 C3.out.lt ?_
          intro v4 W4 o4 g4 l4
          have C4 := hide (C3.out.appC o4 g4 l4)
          clear o4 g4 l4
          refine hK.out _ _ C4.out.cps (fun hS4 => ?_)
          clear hK K
          simp only [List.getElem_toArray, List.getElem_cons_succ, List.getElem_cons_zero, Act.put, List.setIfInBounds_toArray, List.set_cons_zero, List.set_cons_succ]
          refine wpAnyH_ready (rs := [9, 11]) (by kernel_rfl) (by simp) ?_
          refine AllReadyH.cons (o := _) rfl (fun K hK => ?_) (AllReadyH.cons (o := _) rfl (fun K hK => ?_) AllReadyH.nil)
          · skip
            refine step_app_own rfl (.tmp 11) (.tmp 13) 23 rfl (w.heap.size + 2) b 2 j0 (.int .i64 0) 1 8 Try.underlying23 hj hy0 hy1 hy2 rfl (by decide) _ 0 [] rfl C4.out.key _ _ _ rfl (owns_below SRC.out.key C4.out.cps.1) (numsV_one1 _) HBK.out.1 HBK.out.2 C4.out.lt ?_
            intro v5 W5 o5 g5 l5
            have C5 := hide (C4.out.appK o5 g5 l5)
            clear o5 g5 l5
            refine hK.out _ _ C5.out.cps (fun hS5 => ?_)
            clear hK K
            simp only [List.getElem_toArray, List.getElem_cons_succ, List.getElem_cons_zero, Act.put, List.setIfInBounds_toArray, List.set_cons_zero, List.set_cons_succ]
            obtain ⟨co', p1, hc'⟩ := ownC_shape C5.out.cols
            obtain ⟨ko', p2, hk'⟩ := ownN_shape C5.out.key
            subst hc' hk'
            refine takeD 10 15 (v := ?vw15) rfl rfl (by kernel_rfl) (by kernel_rfl) (by kernel_rfl) (fun _ _ _ h => h) (by kernel_rfl) ?hyw15 (by assumption) ?rw15
            case hyw15 => (intro W hSw; go_simp; try with_reducible rfl)
            simp only [Act.put, List.setIfInBounds_toArray, List.set_cons_zero, List.set_cons_succ]
            refine wpAnyH_ready (rs := [11]) (by kernel_rfl) (by simp) ?_
            refine AllReadyH.cons (o := _) rfl (fun K hK => ?_) AllReadyH.nil
            go_simp
            have C6 := hide (C5.out.keep ((Below.refl W5.heap.size W5).alloc (Nat.le_refl _) (.cells #[.string ⟨#[]⟩, .slice none 0 0, .slice none 0 0, .slice none 0 0] 32)))
            have ZA := hide (heap_alloc_new W5 (.cells #[.string ⟨#[]⟩, .slice none 0 0, .slice none 0 0, .slice none 0 0] 32))
            have ZL : Hid (w.heap.size + 1 < W5.heap.size) := C5.out.lt
            have FC := hide (ne_newJ C5.out.ltc)
            have FK := hide (ne_newJ C5.out.ltk)
            refine hK.out _ _ C6.out.cps (fun hS6 => ?_)
            clear hK K
            generalize W5.alloc (.cells #[.string ⟨#[]⟩, .slice none 0 0, .slice none 0 0, .slice none 0 0] 32) = W6 at *
            generalize W5.heap.size = L at *
            try simp only [Act.put, List.setIfInBounds_toArray, List.set_cons_zero, List.set_cons_succ]
            refine wpAnyH_ready (rs := [12]) (by kernel_rfl) (by simp) ?_
            refine AllReadyH.cons (o := _) rfl (fun K hK => ?_) AllReadyH.nil
            have FI := hide (C6.out.fin (nm := nm) ZA.out ZL.out FC.out FK.out)
            obtain ⟨y0, y1, y2, y3, yf⟩ := cells4 ZA.out
            go_simp
            refine hK.out _ _ FI.out.1 (fun _ => ?_)
            clear hK K y0 y1 y2 y3 yf
            try simp only [Act.put, List.setIfInBounds_toArray, List.set_cons_zero, List.set_cons_succ]
            refine wpAnyH_done (by kernel_rfl) ?_ _
            refine NoPanic.normal ?_
            go_wp2_with fail
            go_meet
            exact ⟨L, _, _, rfl, FI⟩
          · skip
            go_simp
            have C5 := hide (C4.out.keep ((Below.refl W4.heap.size W4).alloc (Nat.le_refl _) (.cells #[.string ⟨#[]⟩, .slice none 0 0, .slice none 0 0, .slice none 0 0] 32)))
            have ZA := hide (heap_alloc_new W4 (.cells #[.string ⟨#[]⟩, .slice none 0 0, .slice none 0 0, .slice none 0 0] 32))
            have ZL : Hid (w.heap.size + 1 < W4.heap.size) := C4.out.lt
            have FC := hide (ne_newJ C4.out.ltc)
            have FK := hide (ne_newJ C4.out.ltk)
            refine hK.out _ _ C5.out.cps (fun hS5 => ?_)
            clear hK K
            generalize W4.alloc (.cells #[.string ⟨#[]⟩, .slice none 0 0, .slice none 0 0, .slice none 0 0] 32) = W5 at *
            generalize W4.heap.size = L at *
            try simp only [Act.put, List.setIfInBounds_toArray, List.set_cons_zero, List.set_cons_succ]
            refine wpAnyH_ready (rs := [9]) (by kernel_rfl) (by simp) ?_
            refine AllReadyH.cons (o := _) rfl (fun K hK => ?_) AllReadyH.nil
            refine step_app_own rfl (.tmp 11) (.tmp 13) 23 rfl (w.heap.size + 2) b 2 j0 (.int .i64 0) 1 8 Try.underlying23 hj hy0 hy1 hy2 rfl (by decide) _ 0 [] rfl C5.out.key _ _ _ rfl (owns_below SRC.out.key C5.out.cps.1) (numsV_one1 _) HBK.out.1 HBK.out.2 C5.out.lt ?_
            intro v6 W6 o6 g6 l6
            have C6 := hide (C5.out.appK o6 g6 l6)
            have ZX := hide ((g6.block L (Array.getElem?_eq_some_iff.1 ZA.out).1 (fun e => FK.out (by first | exact e | exact e.symm))).trans ZA.out)
            have FX : Hid (v6.ownBlock ≠ some L) := by
              show _ ≠ _
              rcases l6 with e | e
              · rw [e]; exact FK.out
              · rw [e]; intro e2; have h1 := (Array.getElem?_eq_some_iff.1 ZA.out).1; have h2 := Option.some.inj e2; omega
            clear ZA FK
            have ZA := ZX
            have FK := FX
            clear ZX FX
            clear o6 g6 l6
            refine hK.out _ _ C6.out.cps (fun hS6 => ?_)
            clear hK K
            simp only [List.getElem_toArray, List.getElem_cons_succ, List.getElem_cons_zero, Act.put, List.setIfInBounds_toArray, List.set_cons_zero, List.set_cons_succ]
            obtain ⟨co', p1, hc'⟩ := ownC_shape C6.out.cols
            obtain ⟨ko', p2, hk'⟩ := ownN_shape C6.out.key
            subst hc' hk'
            refine takeD 10 15 (v := ?vw16) rfl rfl (by kernel_rfl) (by kernel_rfl) (by kernel_rfl) (fun _ _ _ h => h) (by kernel_rfl) ?hyw16 (by assumption) ?rw16
            case hyw16 => (intro W hSw; go_simp; try with_reducible rfl)
            simp only [Act.put, List.setIfInBounds_toArray, List.set_cons_zero, List.set_cons_succ]
            refine wpAnyH_ready (rs := [12]) (by kernel_rfl) (by simp) ?_
            refine AllReadyH.cons (o := _) rfl (fun K hK => ?_) AllReadyH.nil
            have FI := hide (C6.out.fin (nm := nm) ZA.out ZL.out FC.out FK.out)
            obtain ⟨y0, y1, y2, y3, yf⟩ := cells4 ZA.out
            go_simp
            refine hK.out _ _ FI.out.1 (fun _ => ?_)
            clear hK K y0 y1 y2 y3 yf
            try simp only [Act.put, List.setIfInBounds_toArray, List.set_cons_zero, List.set_cons_succ]
            refine wpAnyH_done (by kernel_rfl) ?_ _
            refine NoPanic.normal ?_
            go_wp2_with fail
            go_meet
            exact ⟨L, _, _, rfl, FI⟩
        · skip
          go_simp
          have C4 := hide (C3.out.keep ((Below.refl W3.heap.size W3).alloc (Nat.le_refl _) (.cells #[.string ⟨#[]⟩, .slice none 0 0, .slice none 0 0, .slice none 0 0] 32)))
          have ZA := hide (heap_alloc_new W3 (.cells #[.string ⟨#[]⟩, .slice none 0 0, .slice none 0 0, .slice none 0 0] 32))
          have ZL : Hid (w.heap.size + 1 < W3.heap.size) := C3.out.lt
          have FC := hide (ne_newJ C3.out.ltc)
          have FK := hide (ne_newJ C3.out.ltk)
          refine hK.out _ _ C4.out.cps (fun hS4 => ?_)
          clear hK K
          generalize W3.alloc (.cells #[.string ⟨#[]⟩, .slice none 0 0, .slice none 0 0, .slice none 0 0] 32) = W4 at *
          generalize W3.heap.size = L at *
          try simp only [Act.put, List.setIfInBounds_toArray, List.set_cons_zero, List.set_cons_succ]
          refine wpAnyH_ready (rs := [5]) (by kernel_rfl) (by simp) ?_
          refine AllReadyH.cons (o := _) rfl (fun K hK => ?_) AllReadyH.nil
          refine step_app_own rfl (.tmp 7) (.tmp 9) 29 rfl (w.heap.size + 2) b 67 i0 (.agg #[.string ⟨#[]⟩, .int .i64 0, .bool false]) 3 32 Try.underlying29 hi hz0 hz1 hz2 rfl (by decide) _ 0 [] rfl C4.out.cols _ _ _ rfl (owns_below SRC.out.cols C4.out.cps.1) (flatC_one _) HBC.out.1 HBC.out.2 C4.out.lt ?_
          intro v5 W5 o5 g5 l5
          have C5 := hide (C4.out.appC o5 g5 l5)
          have ZX := hide ((g5.block L (Array.getElem?_eq_some_iff.1 ZA.out).1 (fun e => FC.out (by first | exact e | exact e.symm))).trans ZA.out)
          have FX : Hid (v5.ownBlock ≠ some L) := by
            show _ ≠ _
            rcases l5 with e | e
            · rw [e]; exact FC.out
            · rw [e]; intro e2; have h1 := (Array.getElem?_eq_some_iff.1 ZA.out).1; have h2 := Option.some.inj e2; omega
          clear ZA FC
          have ZA := ZX
          have FC := FX
          clear ZX FX
          clear o5 g5 l5
          refine hK.out _ _ C5.out.cps (fun hS5 => ?_)
          clear hK K
          simp only [List.getElem_toArray, List.getElem_cons_succ, List.getElem_cons_zero, Act.put, List.setIfInBounds_toArray, List.set_cons_zero, List.set_cons_succ]
          refine wpAnyH_ready (rs := [9]) (by kernel_rfl) (by simp) ?_
          refine AllReadyH.cons (o := _) rfl (fun K hK => ?_) AllReadyH.nil
          refine step_app_own rfl (.tmp 11) (.tmp 13) 23 rfl (w.heap.size + 2) b 2 j0 (.int .i64 0) 1 8 Try.underlying23 hj hy0 hy1 hy2 rfl (by decide) _ 0 [] rfl C5.out.key _ _ _ rfl (owns_below SRC.out.key C5.out.cps.1) (numsV_one1 _) HBK.out.1 HBK.out.2 C5.out.lt ?_
          intro v6 W6 o6 g6 l6
          have C6 := hide (C5.out.appK o6 g6 l6)
          have ZX := hide ((g6.block L (Array.getElem?_eq_some_iff.1 ZA.out).1 (fun e => FK.out (by first | exact e | exact e.symm))).trans ZA.out)
          have FX : Hid (v6.ownBlock ≠ some L) := by
            show _ ≠ _
            rcases l6 with e | e
            · rw [e]; exact FK.out
            · rw [e]; intro e2; have h1 := (Array.getElem?_eq_some_iff.1 ZA.out).1; have h2 := Option.some.inj e2; omega
          clear ZA FK
          have ZA := ZX
          have FK := FX
          clear ZX FX
          clear o6 g6 l6
          refine hK.out _ _ C6.out.cps (fun hS6 => ?_)
          clear hK K
          simp only [List.getElem_toArray, List.getElem_cons_succ, List.getElem_cons_zero, Act.put, List.setIfInBounds_toArray, List.set_cons_zero, List.set_cons_succ]
          obtain ⟨co', p1, hc'⟩ := ownC_shape C6.out.cols
          obtain ⟨ko', p2, hk'⟩ := ownN_shape C6.out.key
          subst hc' hk'
          refine takeD 10 15 (v := ?vw17) rfl rfl (by kernel_rfl) (by kernel_rfl) (by kernel_rfl) (fun _ _ _ h => h) (by kernel_rfl) ?hyw17 (by assumption) ?rw17
          case hyw17 => (intro W hSw; go_simp; try with_reducible rfl)
          simp only [Act.put, List.setIfInBounds_toArray, List.set_cons_zero, List.set_cons_succ]
          refine wpAnyH_ready (rs := [12]) (by kernel_rfl) (by simp) ?_
          refine AllReadyH.cons (o := _) rfl (fun K hK => ?_) AllReadyH.nil
          have FI := hide (C6.out.fin (nm := nm) ZA.out ZL.out FC.out FK.out)
          obtain ⟨y0, y1, y2, y3, yf⟩ := cells4 ZA.out
          go_simp
          refine hK.out _ _ FI.out.1 (fun _ => ?_)
          clear hK K y0 y1 y2 y3 yf
          try simp only [Act.put, List.setIfInBounds_toArray, List.set_cons_zero, List.set_cons_succ]
          refine wpAnyH_done (by kernel_rfl) ?_ _
          refine NoPanic.normal ?_
          go_wp2_with fail
          go_meet
          exact ⟨L, _, _, rfl, FI⟩
      · skip
        go_simp
        have C3 := hide (C2.out.keep ((Below.refl W2.heap.size W2).alloc (Nat.le_refl _) (.cells #[.string ⟨#[]⟩, .slice none 0 0, .slice none 0 0, .slice none 0 0] 32)))
        have ZA := hide (heap_alloc_new W2 (.cells #[.string ⟨#[]⟩, .slice none 0 0, .slice none 0 0, .slice none 0 0] 32))
        have ZL : Hid (w.heap.size + 1 < W2.heap.size) := C2.out.lt
        have FC := hide (ne_newJ C2.out.ltc)
        have FK := hide (ne_newJ C2.out.ltk)
        refine hK.out _ _ C3.out.cps (fun hS3 => ?_)
        clear hK K
        generalize W2.alloc (.cells #[.string ⟨#[]⟩, .slice none 0 0, .slice none 0 0, .slice none 0 0] 32) = W3 at *
        generalize W2.heap.size = L at *
        try simp only [Act.put, List.setIfInBounds_toArray, List.set_cons_zero, List.set_cons_succ]
        refine wpAnyH_ready (rs := [2]) (by kernel_rfl) (by simp) ?_
        refine AllReadyH.cons (o := _) rfl (fun K hK => ?_) AllReadyH.nil
        go_simp
        have C4 := hide (C3.out.buildC)
        have ZX := hide ((heap_old W3 (.cells #[] 67) _ (Array.getElem?_eq_some_iff.1 ZA.out).1).trans ZA.out)
        have FX : Hid ((Value.slice (some ⟨W3.heap.size, 0, none⟩) 0 0).ownBlock ≠ some L) := fun e => by have h1 := (Array.getElem?_eq_some_iff.1 ZA.out).1; have h2 := Option.some.inj (show some W3.heap.size = some L from e); omega
        clear ZA FC
        have ZA := ZX
        have FC := FX
        clear ZX FX
        refine hK.out _ _ C4.out.cps (fun hS4 => ?_)
        clear hK K
        generalize W3.alloc (.cells #[] 67) = W4 at *
        generalize W3.heap.size = e4 at *
        try simp only [Act.put, List.setIfInBounds_toArray, List.set_cons_zero, List.set_cons_succ]
        refine wpAnyH_ready (rs := [5]) (by kernel_rfl) (by simp) ?_
        refine AllReadyH.cons (o := _) rfl (fun K hK => ?_) AllReadyH.nil
        refine step_app_own rfl (.tmp 7) (.tmp 9) 29 rfl (w.heap.size + 2) b 67 i0 (.agg #[.string ⟨#[]⟩, .int .i64 0, .bool false]) 3 32 Try.underlying29 hi hz0 hz1 hz2 rfl (by decide) _ 0 [] rfl C4.out.cols _ _ _ rfl (owns_below SRC.out.cols C4.out.cps.1) (flatC_one _) HBC.out.1 HBC.out.2 C4.out.lt ?_
        intro v5 W5 o5 g5 l5
        have C5 := hide (C4.out.appC o5 g5 l5)
        have ZX := hide ((g5.block L (Array.getElem?_eq_some_iff.1 ZA.out).1 (fun e => FC.out (by first | exact e | exact e.symm))).trans ZA.out)
        have FX : Hid (v5.ownBlock ≠ some L) := by
          show _ ≠ _
          rcases l5 with e | e
          · rw [e]; exact FC.out
          · rw [e]; intro e2; have h1 := (Array.getElem?_eq_some_iff.1 ZA.out).1; have h2 := Option.some.inj e2; omega
        clear ZA FC
        have ZA := ZX
        have FC := FX
        clear ZX FX
        clear o5 g5 l5
        refine hK.out _ _ C5.out.cps (fun hS5 => ?_)
        clear hK K
        simp only [List.getElem_toArray, List.getElem_cons_succ, List.getElem_cons_zero, Act.put, List.setIfInBounds_toArray, List.set_cons_zero, List.set_cons_succ]
        refine wpAnyH_ready (rs := [9]) (by kernel_rfl) (by simp) ?_
        refine AllReadyH.cons (o := _) rfl (fun K hK => ?_) AllReadyH.nil
        refine step_app_own rfl (.tmp 11) (.tmp 13) 23 rfl (w.heap.size + 2) b 2 j0 (.int .i64 0) 1 8 Try.underlying23 hj hy0 hy1 hy2 rfl (by decide) _ 0 [] rfl C5.out.key _ _ _ rfl (owns_below SRC.out.key C5.out.cps.1) (numsV_one1 _) HBK.out.1 HBK.out.2 C5.out.lt ?_
        intro v6 W6 o6 g6 l6
        have C6 := hide (C5.out.appK o6 g6 l6)
        have ZX := hide ((g6.block L (Array.getElem?_eq_some_iff.1 ZA.out).1 (fun e => FK.out (by first | exact e | exact e.symm))).trans ZA.out)
        have FX : Hid (v6.ownBlock ≠ some L) := by
          show _ ≠ _
          rcases l6 with e | e
          · rw [e]; exact FK.out
          · rw [e]; intro e2; have h1 := (Array.getElem?_eq_some_iff.1 ZA.out).1; have h2 := Option.some.inj e2; omega
        clear ZA FK
        have ZA := ZX
        have FK := FX
        clear ZX FX
        clear o6 g6 l6
        refine hK.out _ _ C6.out.cps (fun hS6 => ?_)
        clear hK K
        simp only [List.getElem_toArray, List.getElem_cons_succ, List.getElem_cons_zero, Act.put, List.setIfInBounds_toArray, List.set_cons_zero, List.set_cons_succ]
        obtain ⟨co', p1, hc'⟩ := ownC_shape C6.out.cols
        obtain ⟨ko', p2, hk'⟩ := ownN_shape C6.out.key
        subst hc' hk'
        refine takeD 10 15 (v := ?vw18) rfl rfl (by kernel_rfl) (by kernel_rfl) (by kernel_rfl) (fun _ _ _ h => h) (by kernel_rfl) ?hyw18 (by assumption) ?rw18
        case hyw18 => (intro W hSw; go_simp; try with_reducible rfl)
        simp only [Act.put, List.setIfInBounds_toArray, List.set_cons_zero, List.set_cons_succ]
        refine wpAnyH_ready (rs := [12]) (by kernel_rfl) (by simp) ?_
        refine AllReadyH.cons (o := _) rfl (fun K hK => ?_) AllReadyH.nil
        have FI := hide (C6.out.fin (nm := nm) ZA.out ZL.out FC.out FK.out)
        obtain ⟨y0, y1, y2, y3, yf⟩ := cells4 ZA.out
        go_simp
        refine hK.out _ _ FI.out.1 (fun _ => ?_)
        clear hK K y0 y1 y2 y3 yf
        try simp only [Act.put, List.setIfInBounds_toArray, List.set_cons_zero, List.set_cons_succ]
        refine wpAnyH_done (by kernel_rfl) ?_ _
        refine NoPanic.normal ?_
        go_wp2_with fail
        go_meet
        exact ⟨L, _, _, rfl, FI⟩
    · skip
      go_simp
      have C2 := hide (C1.out.keep ((Below.refl W1.heap.size W1).alloc (Nat.le_refl _) (.cells #[.string ⟨#[]⟩, .slice none 0 0, .slice none 0 0, .slice none 0 0] 32)))
      have ZA := hide (heap_alloc_new W1 (.cells #[.string ⟨#[]⟩, .slice none 0 0, .slice none 0 0, .slice none 0 0] 32))
      have ZL : Hid (w.heap.size + 1 < W1.heap.size) := C1.out.lt
      have FC := hide (ne_newJ C1.out.ltc)
      have FK := hide (ne_newJ C1.out.ltk)
      refine hK.out _ _ C2.out.cps (fun hS2 => ?_)
      clear hK K
      generalize W1.alloc (.cells #[.string ⟨#[]⟩, .slice none 0 0, .slice none 0 0, .slice none 0 0] 32) = W2 at *
      generalize W1.heap.size = L at *
      try simp only [Act.put, List.setIfInBounds_toArray, List.set_cons_zero, List.set_cons_succ]
      refine wpAnyH_ready (rs := [2, 6]) (by kernel_rfl) (by simp) ?_
      refine AllReadyH.cons (o := _) rfl (fun K hK => ?_) (AllReadyH.cons (o := _) rfl (fun K hK => ?_) AllReadyH.nil)
      · skip
        go_simp
        have C3 := hide (C2.out.buildC)
        have ZX := hide ((heap_old W2 (.cells #[] 67) _ (Array.getElem?_eq_some_iff.1 ZA.out).1).trans ZA.out)
        have FX : Hid ((Value.slice (some ⟨W2.heap.size, 0, none⟩) 0 0).ownBlock ≠ some L) := fun e => by have h1 := (Array.getElem?_eq_some_iff.1 ZA.out).1; have h2 := Option.some.inj (show some W2.heap.size = some L from e); omega
        clear ZA FC
        have ZA := ZX
        have FC := FX
        clear ZX FX
        refine hK.out _ _ C3.out.cps (fun hS3 => ?_)
        clear hK K
        generalize W2.alloc (.cells #[] 67) = W3 at *
        generalize W2.heap.size = e3 at *
        try simp only [Act.put, List.setIfInBounds_toArray, List.set_cons_zero, List.set_cons_succ]
        refine wpAnyH_ready (rs := [5, 6]) (by kernel_rfl) (by simp) ?_
        refine AllReadyH.cons (o := _) rfl (fun K hK => ?_) (AllReadyH.cons (o := _) rfl (fun K hK => ?_) AllReadyH.nil)
        · skip
          refine step_app_own rfl (.tmp 7) (.tmp 9) 29 rfl (w.heap.size + 2) b 67 i0 (.agg #[.string ⟨#[]⟩, .int .i64 0, .bool false]) 3 32 Try.underlying29 hi hz0 hz1 hz2 rfl (by decide) _ 0 [] rfl C3.out.cols _ _ _ rfl (owns_below SRC.out.cols C3.out.cps.1) (flatC_one _) HBC.out.1 HBC.out.2 C3.out.lt ?_
          intro v4 W4 o4 g4 l4
          have C4 := hide (C3.out.appC o4 g4 l4)
          have ZX := hide ((g4.block L (Array.getElem?_eq_some_iff.1 ZA.out).1 (fun e => FC.out (by first | exact e | exact e.symm))).trans ZA.out)
          have FX : Hid (v4.ownBlock ≠ some L) := by
            show _ ≠ _
            rcases l4 with e | e
            · rw [e]; exact FC.out
            · rw [e]; intro e2; have h1 := (Array.getElem?_eq_some_iff.1 ZA.out).1; have h2 := Option.some.inj e2; omega
          clear ZA FC
          have ZA := ZX
          have FC := FX
          clear ZX FX
          clear o4 g4 l4
          refine hK.out _ _ C4.out.cps (fun hS4 => ?_)
          clear hK K
          simp only [List.getElem_toArray, List.getElem_cons_succ, List.getElem_cons_zero, Act.put, List.setIfInBounds_toArray, List.set_cons_zero, List.set_cons_succ]
          refine wpAnyH_ready (rs := [6]) (by kernel_rfl) (by simp) ?_
          refine AllReadyH.cons (o := _) rfl (fun K hK => ?_) AllReadyH.nil
          go_simp
          have C5 := hide (C4.out.buildK)
          have ZX := hide ((heap_old W4 (.cells #[] 2) _ (Array.getElem?_eq_some_iff.1 ZA.out).1).trans ZA.out)
          have FX : Hid ((Value.slice (some ⟨W4.heap.size, 0, none⟩) 0 0).ownBlock ≠ some L) := fun e => by have h1 := (Array.getElem?_eq_some_iff.1 ZA.out).1; have h2 := Option.some.inj (show some W4.heap.size = some L from e); omega
          clear ZA FK
          have ZA := ZX
          have FK := FX
          clear ZX FX
          refine hK.out _ _ C5.out.cps (fun hS5 => ?_)
          clear hK K
          generalize W4.alloc (.cells #[] 2) = W5 at *
          generalize W4.heap.size = e5 at *
          try simp only [Act.put, List.setIfInBounds_toArray, List.set_cons_zero, List.set_cons_succ]
          refine wpAnyH_ready (rs := [9]) (by kernel_rfl) (by simp) ?_
          refine AllReadyH.cons (o := _) rfl (fun K hK => ?_) AllReadyH.nil
          refine step_app_own rfl (.tmp 11) (.tmp 13) 23 rfl (w.heap.size + 2) b 2 j0 (.int .i64 0) 1 8 Try.underlying23 hj hy0 hy1 hy2 rfl (by decide) _ 0 [] rfl C5.out.key _ _ _ rfl (owns_below SRC.out.key C5.out.cps.1) (numsV_one1 _) HBK.out.1 HBK.out.2 C5.out.lt ?_
          intro v6 W6 o6 g6 l6
          have C6 := hide (C5.out.appK o6 g6 l6)
          have ZX := hide ((g6.block L (Array.getElem?_eq_some_iff.1 ZA.out).1 (fun e => FK.out (by first | exact e | exact e.symm))).trans ZA.out)
          have FX : Hid (v6.ownBlock ≠ some L) := by
            show _ ≠ _
            rcases l6 with e | e
            · rw [e]; exact FK.out
            · rw [e]; intro e2; have h1 := (Array.getElem?_eq_some_iff.1 ZA.out).1; have h2 := Option.some.inj e2; omega
          clear ZA FK
          have ZA := ZX
          have FK := FX
          clear ZX FX
          clear o6 g6 l6
          refine hK.out _ _ C6.out.cps (fun hS6 => ?_)
          clear hK K
          simp only [List.getElem_toArray, List.getElem_cons_succ, List.getElem_cons_zero, Act.put, List.setIfInBounds_toArray, List.set_cons_zero, List.set_cons_succ]
          obtain ⟨co', p1, hc'⟩ := ownC_shape C6.out.cols
          obtain ⟨ko', p2, hk'⟩ := ownN_shape C6.out.key
          subst hc' hk'
          refine takeD 10 15 (v := ?vw19) rfl rfl (by kernel_rfl) (by kernel_rfl) (by kernel_rfl) (fun _ _ _ h => h) (by kernel_rfl) ?hyw19 (by assumption) ?rw19
          case hyw19 => (intro W hSw; go_simp; try with_reducible rfl)
          simp only [Act.put, List.setIfInBounds_toArray, List.set_cons_zero, List.set_cons_succ]
          refine wpAnyH_ready (rs := [12]) (by kernel_rfl) (by simp) ?_
          refine AllReadyH.cons (o := _) rfl (fun K hK => ?_) AllReadyH.nil
          have FI := hide (C6.out.fin (nm := nm) ZA.out ZL.out FC.out FK.out)
          obtain ⟨y0, y1, y2, y3, yf⟩ := cells4 ZA.out
          go_simp
          refine hK.out _ _ FI.out.1 (fun _ => ?_)
          clear hK K y0 y1 y2 y3 yf
          try simp only [Act.put, List.setIfInBounds_toArray, List.set_cons_zero, List.set_cons_succ]
          refine wpAnyH_done (by kernel_rfl) ?_ _
          refine NoPanic.normal ?_
          go_wp2_with fail
          go_meet
          exact ⟨L, _, _, rfl, FI⟩
        · skip
          go_simp
          have C4 := hide (C3.out.buildK)
          have ZX := hide ((heap_old W3 (.cells #[] 2) _ (Array.getElem?_eq_some_iff.1 ZA.out).1).trans ZA.out)
          have FX : Hid ((Value.slice (some ⟨W3.heap.size, 0, none⟩) 0 0).ownBlock ≠ some L) := fun e => by have h1 := (Array.getElem?_eq_some_iff.1 ZA.out).1; have h2 := Option.some.inj (show some W3.heap.size = some L from e); omega
          clear ZA FK
          have ZA := ZX
          have FK := FX
          clear ZX FX
          refine hK.out _ _ C4.out.cps (fun hS4 => ?_)
          clear hK K
          generalize W3.alloc (.cells #[] 2) = W4 at *
          generalize W3.heap.size = e4 at *
          try simp only [Act.put, List.setIfInBounds_toArray, List.set_cons_zero, List.set_cons_succ]
          refine wpAnyH_ready (rs := [5]) (by kernel_rfl) (by simp) ?_
          refine AllReadyH.cons (o := _) rfl (fun K hK => ?_) AllReadyH.nil
          refine step_app_own rfl (.tmp 7) (.tmp 9) 29 rfl (w.heap.size + 2) b 67 i0 (.agg #[.string ⟨#[]⟩, .int .i64 0, .bool false]) 3 32 Try.underlying29 hi hz0 hz1 hz2 rfl (by decide) _ 0 [] rfl C4.out.cols _ _ _ rfl (owns_below SRC.out.cols C4.out.cps.1) (flatC_one _) HBC.out.1 HBC.out.2 C4.out.lt ?_
          intro v5 W5 o5 g5 l5
          have C5 := hide (C4.out.appC o5 g5 l5)
          have ZX := hide ((g5.block L (Array.getElem?_eq_some_iff.1 ZA.out).1 (fun e => FC.out (by first | exact e | exact e.symm))).trans ZA.out)
          have FX : Hid (v5.ownBlock ≠ some L) := by
            show _ ≠ _
            rcases l5 with e | e
            · rw [e]; exact FC.out
            · rw [e]; intro e2; have h1 := (Array.getElem?_eq_some_iff.1 ZA.out).1; have h2 := Option.some.inj e2; omega
          clear ZA FC
          have ZA := ZX
          have FC := FX
          clear ZX FX
          clear o5 g5 l5
          refine hK.out _ _ C5.out.cps (fun hS5 => ?_)
          clear hK K
          simp only [List.getElem_toArray, List.getElem_cons_succ, List.getElem_cons_zero, Act.put, List.setIfInBounds_toArray, List.set_cons_zero, List.set_cons_succ]
          refine wpAnyH_ready (rs := [9]) (by kernel_rfl) (by simp) ?_
          refine AllReadyH.cons (o := _) rfl (fun K hK => ?_) AllReadyH.nil
          refine step_app_own rfl (.tmp 11) (.tmp 13) 23 rfl (w.heap.size + 2) b 2 j0 (.int .i64 0) 1 8 Try.underlying23 hj hy0 hy1 hy2 rfl (by decide) _ 0 [] rfl C5.out.key _ _ _ rfl (owns_below SRC.out.key C5.out.cps.1) (numsV_one1 _) HBK.out.1 HBK.out.2 C5.out.lt ?_
          intro v6 W6 o6 g6 l6
          have C6 := hide (C5.out.appK o6 g6 l6)
          have ZX := hide ((g6.block L (Array.getElem?_eq_some_iff.1 ZA.out).1 (fun e => FK.out (by first | exact e | exact e.symm))).trans ZA.out)
          have FX : Hid (v6.ownBlock ≠ some L) := by
            show _ ≠ _
            rcases l6 with e | e
            · rw [e]; exact FK.out
            · rw [e]; intro e2; have h1 := (Array.getElem?_eq_some_iff.1 ZA.out).1; have h2 := Option.some.inj e2; omega
          clear ZA FK
          have ZA := ZX
          have FK := FX
          clear ZX FX
          clear o6 g6 l6
          refine hK.out _ _ C6.out.cps (fun hS6 => ?_)
          clear hK K
          simp only [List.getElem_toArray, List.getElem_cons_succ, List.getElem_cons_zero, Act.put, List.setIfInBounds_toArray, List.set_cons_zero, List.set_cons_succ]
          obtain ⟨co', p1, hc'⟩ := ownC_shape C6.out.cols
          obtain ⟨ko', p2, hk'⟩ := ownN_shape C6.out.key
          subst hc' hk'
          refine takeD 10 15 (v := ?vw20) rfl rfl (by kernel_rfl) (by kernel_rfl) (by kernel_rfl) (fun _ _ _ h => h) (by kernel_rfl) ?hyw20 (by assumption) ?rw20
          case hyw20 => (intro W hSw; go_simp; try with_reducible rfl)
          simp only [Act.put, List.setIfInBounds_toArray, List.set_cons_zero, List.set_cons_succ]
          refine wpAnyH_ready (rs := [12]) (by kernel_rfl) (by simp) ?_
          refine AllReadyH.cons (o := _) rfl (fun K hK => ?_) AllReadyH.nil
          have FI := hide (C6.out.fin (nm := nm) ZA.out ZL.out FC.out FK.out)
          obtain ⟨y0, y1, y2, y3, yf⟩ := cells4 ZA.out
          go_simp
          refine hK.out _ _ FI.out.1 (fun _ => ?_)
          clear hK K y0 y1 y2 y3 yf
          try simp only [Act.put, List.setIfInBounds_toArray, List.set_cons_zero, List.set_cons_succ]
          refine wpAnyH_done (by kernel_rfl) ?_ _
          refine NoPanic.normal ?_
          go_wp2_with fail
          go_meet
          exact ⟨L, _, _, rfl, FI⟩
      · skip
        go_simp
        have C3 := hide (C2.out.buildK)
        have ZX := hide ((heap_old W2 (.cells #[] 2) _ (Array.getElem?_eq_some_iff.1 ZA.out).1).trans ZA.out)
        have FX : Hid ((Value.slice (some ⟨W2.heap.size, 0, none⟩) 0 0).ownBlock ≠ some L) := fun e => by have h1 := (Array.getElem?_eq_some_iff.1 ZA.out).1; have h2 := Option.some.inj (show some W2.heap.size = some L from e); omega
        clear ZA FK
        have ZA := ZX
        have FK := FX
        clear ZX FX
        refine hK.out _ _ C3.out.cps (fun hS3 => ?_)
        clear hK K
        generalize W2.alloc (.cells #[] 2) = W3 at *
        generalize W2.heap.size = e3 at *
        try simp only [Act.put, List.setIfInBounds_toArray, List.set_cons_zero, List.set_cons_succ]
        refine wpAnyH_ready (rs := [2]) (by kernel_rfl) (by simp) ?_
        refine AllReadyH.cons (o := _) rfl (fun K hK => ?_) AllReadyH.nil
        go_simp
        have C4 := hide (C3.out.buildC)
        have ZX := hide ((heap_old W3 (.cells #[] 67) _ (Array.getElem?_eq_some_iff.1 ZA.out).1).trans ZA.out)
        have FX : Hid ((Value.slice (some ⟨W3.heap.size, 0, none⟩) 0 0).ownBlock ≠ some L) := fun e => by have h1 := (Array.getElem?_eq_some_iff.1 ZA.out).1; have h2 := Option.some.inj (show some W3.heap.size = some L from e); omega
        clear ZA FC
        have ZA := ZX
        have FC := FX
        clear ZX FX
        refine hK.out _ _ C4.out.cps (fun hS4 => ?_)
        clear hK K
        generalize W3.alloc (.cells #[] 67) = W4 at *
        generalize W3.heap.size = e4 at *
        try simp only [Act.put, List.setIfInBounds_toArray, List.set_cons_zero, List.set_cons_succ]
        refine wpAnyH_ready (rs := [5]) (by kernel_rfl) (by simp) ?_
        refine AllReadyH.cons (o := _) rfl (fun K hK => ?_) AllReadyH.nil
        refine step_app_own rfl (.tmp 7) (.tmp 9) 29 rfl (w.heap.size + 2) b 67 i0 (.agg #[.string ⟨#[]⟩, .int .i64 0, .bool false]) 3 32 Try.underlying29 hi hz0 hz1 hz2 rfl (by decide) _ 0 [] rfl C4.out.cols _ _ _ rfl (owns_below SRC.out.cols C4.out.cps.1) (flatC_one _) HBC.out.1 HBC.out.2 C4.out.lt ?_
        intro v5 W5 o5 g5 l5
        have C5 := hide (C4.out.appC o5 g5 l5)
        have ZX := hide ((g5.block L (Array.getElem?_eq_some_iff.1 ZA.out).1 (fun e => FC.out (by first | exact e | exact e.symm))).trans ZA.out)
        have FX : Hid (v5.ownBlock ≠ some L) := by
          show _ ≠ _
          rcases l5 with e | e
          · rw [e]; exact FC.out
          · rw [e]; intro e2; have h1 := (Array.getElem?_eq_some_iff.1 ZA.out).1; have h2 := Option.some.inj e2; omega
        clear ZA FC
        have ZA := ZX
        have FC := FX
        clear ZX FX
        clear o5 g5 l5
        refine hK.out _ _ C5.out.cps (fun hS5 => ?_)
        clear hK K
        simp only [List.getElem_toArray, List.getElem_cons_succ, List.getElem_cons_zero, Act.put, List.setIfInBounds_toArray, List.set_cons_zero, List.set_cons_succ]
        refine wpAnyH_ready (rs := [9]) (by kernel_rfl) (by simp) ?_
        refine AllReadyH.cons (o := _) rfl (fun K hK => ?_) AllReadyH.nil
        refine step_app_own rfl (.tmp 11) (.tmp 13) 23 rfl (w.heap.size + 2) b 2 j0 (.int .i64 0) 1 8 Try.underlying23 hj hy0 hy1 hy2 rfl (by decide) _ 0 [] rfl C5.out.key _ _ _ rfl (owns_below SRC.out.key C5.out.cps.1) (numsV_one1 _) HBK.out.1 HBK.out.2 C5.out.lt ?_
        intro v6 W6 o6 g6 l6
        have C6 := hide (C5.out.appK o6 g6 l6)
        have ZX := hide ((g6.block L (Array.getElem?_eq_some_iff.1 ZA.out).1 (fun e => FK.out (by first | exact e | exact e.symm))).trans ZA.out)
        have FX : Hid (v6.ownBlock ≠ some L) := by
          show _ ≠ _
          rcases l6 with e | e
          · rw [e]; exact FK.out
          · rw [e]; intro e2; have h1 := (Array.getElem?_eq_some_iff.1 ZA.out).1; have h2 := Option.some.inj e2; omega
        clear ZA FK
        have ZA := ZX
        have FK := FX
        clear ZX FX
        clear o6 g6 l6
        refine hK.out _ _ C6.out.cps (fun hS6 => ?_)
        clear hK K
        simp only [List.getElem_toArray, List.getElem_cons_succ, List.getElem_cons_zero, Act.put, List.setIfInBounds_toArray, List.set_cons_zero, List.set_cons_succ]
        obtain ⟨co', p1, hc'⟩ := ownC_shape C6.out.cols
        obtain ⟨ko', p2, hk'⟩ := ownN_shape C6.out.key
        subst hc' hk'
        refine takeD 10 15 (v := ?vw21) rfl rfl (by kernel_rfl) (by kernel_rfl) (by kernel_rfl) (fun _ _ _ h => h) (by kernel_rfl) ?hyw21 (by assumption) ?rw21
        case hyw21 => (intro W hSw; go_simp; try with_reducible rfl)
        simp only [Act.put, List.setIfInBounds_toArray, List.set_cons_zero, List.set_cons_succ]
        refine wpAnyH_ready (rs := [12]) (by kernel_rfl) (by simp) ?_
        refine AllReadyH.cons (o := _) rfl (fun K hK => ?_) AllReadyH.nil
        have FI := hide (C6.out.fin (nm := nm) ZA.out ZL.out FC.out FK.out)
        obtain ⟨y0, y1, y2, y3, yf⟩ := cells4 ZA.out
        go_simp
        refine hK.out _ _ FI.out.1 (fun _ => ?_)
        clear hK K y0 y1 y2 y3 yf
        try simp only [Act.put, List.setIfInBounds_toArray, List.set_cons_zero, List.set_cons_succ]
        refine wpAnyH_done (by kernel_rfl) ?_ _
        refine NoPanic.normal ?_
        go_wp2_with fail
        go_meet
        exact ⟨L, _, _, rfl, FI⟩
  case rest =>
    obtain ⟨L, a, k, rfl, HI⟩ := hcut
    clear C0 HBC HBK hi hz0 hz1 hz2 i0
    obtain ⟨x0, x1, x2, x3, xf⟩ := cells4 (show wc.heap[w.heap.size]? = some (.cells #[.string nm, .slice ao cs.length c1, .slice ko ky.length c2, .slice xo xs.length c3] 32 (0, 0)) from HI.out.1.2.1)
    go_wp2
    go_loopw [4] (fun i wr => ∃ (j : Nat) (x : Value) (us : List Value), j ≤ xs.length ∧ i = .int .i64 j ∧ Hid (CpI w L a k x us ⟨nm, cs, ky, xs.take j⟩ [.string nm, .slice ao cs.length c1, .slice ko ky.length c2, .slice xo xs.length c3] [.string ⟨#[]⟩, .slice none 0 0, .slice none 0 0, .slice none 0 0] wr)) (fun i _ => xs.length - (intOf i).toNat)
    case atStart => exact ⟨0, _, _, Nat.zero_le _, rfl, HI⟩
    case round =>
      obtain ⟨j, x, us, hjl, rfl, HL⟩ := hrel
      clear HI x0 x1 x2 x3 xf
      have hxl : xs.length ≤ 1048576 := HF.out.2.2.1
      obtain ⟨hS, hLw, hloc, hown, hnb⟩ := HL.out
      by_cases hlt : j < xs.length
      · obtain ⟨gx, io, cp, rfl, hgx, d00, d10, hin⟩ := OwnX.at SRC.out.idx j hlt
        have hll : (xs.getD j noIdx).cols.length ≤ 1048576 := HF.out.2.2.2 _ (getD_mem xs noIdx j hlt)
        obtain ⟨xj, hxj⟩ : ∃ y, xs.getD j noIdx = y := ⟨_, rfl⟩
        obtain ⟨l, u⟩ := xj
        rw [hxj] at d00 d10 hin hll
        simp only at d00 d10 hin hll
        have hin := owns_below hin hS.1
        have d00 := (hS.1.cell (p := ⟨gx, j * 2, none⟩) hgx).trans d00
        have d10 := (hS.1.cell (p := ⟨gx, j * 2 + 1, none⟩) hgx).trans d10
        have hgw : gx < wr.heap.size := by have := hS.1.size; omega
        have HV := hide (takeX_snoc hlt hxj)
        have hlen : (xs.take j).length = j := by rw [List.length_take]; omega
        obtain ⟨aox, capx, rfl⟩ := ownX_shape hown.idx
        simp only [hlen] at hloc hown hnb
        have HLN := hide hlen
        have HBL := hide hown.blocks
        have HO : Hid (SOwn (w.heap.size + 2) a k (.slice aox j capx) us ⟨nm, cs, ky, xs.take j⟩ wr) := hown
        have HN := hide hnb
        have HS := hide hS
        have hL2 : L < wr.heap.size := (Array.getElem?_eq_some_iff.1 hloc).1
        have HLO := hide hloc
        have hz1 : w.heap.size + 2 ≤ wr.heap.size := hS.lt
        have HIN := hide hin
        have HLL := hide hll
        obtain ⟨i0, hi, hz0, hz1', hz2⟩ := info_parts Try.infoIdx
        have hi0 : (0 : Int) ≤ (j : Int) := by omega
        have hi1 : (j : Int) < (xs.length : Int) := by omega
        have hq0 := (Int.toNat_natCast j)
        have HB63 : Hid (0 + l.length ≤ maxLen ∧ (0 + l.length) * 8 ≤ 140737488355328) := by show _ ∧ _; unfold maxLen; omega
        have HPX := hide (show wr.heap[w.heap.size]? = some (.cells #[.string nm, .slice ao cs.length c1, .slice ko ky.length c2, .slice (some ⟨gx, 0, none⟩) xs.length c3] 32 (0, 0)) from hS.2.1)
        obtain ⟨x0, x1, x2, x3, xf⟩ := cells4 HPX.out
        obtain ⟨y0, y1, y2, y3, yf⟩ := cells4 HLO.out
        clear hlen hown hnb hS hloc HL hin hll
        go_upto_region 5 with fail
        refine wp_region_noPanic ?_
        refine wp_region_held_drew (S := fun W => W.cell? ⟨w.heap.size, 3, none⟩ = some (.slice (some ⟨gx, 0, none⟩) xs.length c3) ∧ W.cell? ⟨gx, j * 2, none⟩ = some (.slice io l.length cp) ∧ W.cell? ⟨gx, j * 2 + 1, none⟩ = some (.bool u)) (by kernel_rfl) ⟨x3, d00, d10⟩ (fun hS1 => ?_)
        refine takeD 0 23 (v := ?vw22) rfl rfl (by kernel_rfl) (by kernel_rfl) (by kernel_rfl) (fun _ _ _ h => h) (by kernel_rfl) ?hyw22 (by assumption) ?rw22
        case hyw22 => (intro W hSw; obtain ⟨p3, q0, q1⟩ := hSw; go_simp; try with_reducible rfl)
        simp only [Act.put, List.setIfInBounds_toArray, List.set_cons_zero, List.set_cons_succ]
        refine takeD 3 26 (v := ?vw23) rfl rfl (by kernel_rfl) (by kernel_rfl) (by kernel_rfl) (fun _ _ _ h => h) (by kernel_rfl) ?hyw23 (by assumption) ?rw23
        case hyw23 => (intro W hSw; obtain ⟨p3, q0, q1⟩ := hSw; go_simp; try with_reducible rfl)
        simp only [Act.put, List.setIfInBounds_toArray, List.set_cons_zero, List.set_cons_succ]
        refine takeD 4 27 (v := ?vw24) rfl rfl (by kernel_rfl) (by kernel_rfl) (by kernel_rfl) (fun _ _ _ h => h) (by kernel_rfl) ?hyw24 (by assumption) ?rw24
        case hyw24 => (intro W hSw; obtain ⟨p3, q0, q1⟩ := hSw; go_simp; try with_reducible rfl)
        simp only [Act.put, List.setIfInBounds_toArray, List.set_cons_zero, List.set_cons_succ]
        refine takeD 5 28 (v := ?vw25) rfl rfl (by kernel_rfl) (by kernel_rfl) (by kernel_rfl) (fun _ _ _ h => h) (by kernel_rfl) ?hyw25 (by assumption) ?rw25
        case hyw25 => (intro W hSw; obtain ⟨p3, q0, q1⟩ := hSw; go_simp; try with_reducible rfl)
        simp only [Act.put, List.setIfInBounds_toArray, List.set_cons_zero, List.set_cons_succ]
        refine takeD 6 29 (v := ?vw26) rfl rfl (by kernel_rfl) (by kernel_rfl) (by kernel_rfl) (fun _ _ _ h => h) (by kernel_rfl) ?hyw26 (by assumption) ?rw26
        case hyw26 => (intro W hSw; obtain ⟨p3, q0, q1⟩ := hSw; go_simp; try with_reducible rfl)
        simp only [Act.put, List.setIfInBounds_toArray, List.set_cons_zero, List.set_cons_succ]
        refine takeD 7 30 (v := ?vw27) rfl rfl (by kernel_rfl) (by kernel_rfl) (by kernel_rfl) (fun _ _ _ h => h) (by kernel_rfl) ?hyw27 (by assumption) ?rw27
        case hyw27 => (intro W hSw; obtain ⟨p3, q0, q1⟩ := hSw; go_simp; try with_reducible rfl)
        simp only [Act.put, List.setIfInBounds_toArray, List.set_cons_zero, List.set_cons_succ]
        refine takeD 8 31 (v := ?vw28) rfl rfl (by kernel_rfl) (by kernel_rfl) (by kernel_rfl) (fun _ _ _ h => h) (by kernel_rfl) ?hyw28 (by assumption) ?rw28
        case hyw28 => (intro W hSw; obtain ⟨p3, q0, q1⟩ := hSw; go_simp; try with_reducible rfl)
        simp only [Act.put, List.setIfInBounds_toArray, List.set_cons_zero, List.set_cons_succ]
        refine takeD 10 33 (v := ?vw29) rfl rfl (by kernel_rfl) (by kernel_rfl) (by kernel_rfl) (fun _ _ _ h => h) (by kernel_rfl) ?hyw29 (by assumption) ?rw29
        case hyw29 => (intro W hSw; obtain ⟨p3, q0, q1⟩ := hSw; go_simp; try with_reducible rfl)
        simp only [Act.put, List.setIfInBounds_toArray, List.set_cons_zero, List.set_cons_succ]
        refine takeD 11 34 (v := ?vw30) rfl rfl (by kernel_rfl) (by kernel_rfl) (by kernel_rfl) (fun _ _ _ h => h) (by kernel_rfl) ?hyw30 (by assumption) ?rw30
        case hyw30 => (intro W hSw; obtain ⟨p3, q0, q1⟩ := hSw; go_simp; try with_reducible rfl)
        simp only [Act.put, List.setIfInBounds_toArray, List.set_cons_zero, List.set_cons_succ]
        refine takeD 12 35 (v := ?vw31) rfl rfl (by kernel_rfl) (by kernel_rfl) (by kernel_rfl) (fun _ _ _ h => h) (by kernel_rfl) ?hyw31 (by assumption) ?rw31
        case hyw31 => (intro W hSw; obtain ⟨p3, q0, q1⟩ := hSw; go_simp; try with_reducible rfl)
        simp only [Act.put, List.setIfInBounds_toArray, List.set_cons_zero, List.set_cons_succ]
        refine takeD 13 36 (v := ?vw32) rfl rfl (by kernel_rfl) (by kernel_rfl) (by kernel_rfl) (fun _ _ _ h => h) (by kernel_rfl) ?hyw32 (by assumption) ?rw32
        case hyw32 => (intro W hSw; obtain ⟨p3, q0, q1⟩ := hSw; go_simp; try with_reducible rfl)
        simp only [Act.put, List.setIfInBounds_toArray, List.set_cons_zero, List.set_cons_succ]
        refine takeD 14 37 (v := ?vw33) rfl rfl (by kernel_rfl) (by kernel_rfl) (by kernel_rfl) (fun _ _ _ h => h) (by kernel_rfl) ?hyw33 (by assumption) ?rw33
        case hyw33 => (intro W hSw; obtain ⟨p3, q0, q1⟩ := hSw; go_simp; try with_reducible rfl)
        simp only [Act.put, List.setIfInBounds_toArray, List.set_cons_zero, List.set_cons_succ]
        refine takeD 15 38 (v := ?vw34) rfl rfl (by kernel_rfl) (by kernel_rfl) (by kernel_rfl) (fun _ _ _ h => h) (by kernel_rfl) ?hyw34 (by assumption) ?rw34
        case hyw34 => (intro W hSw; obtain ⟨p3, q0, q1⟩ := hSw; go_simp; try with_reducible rfl)
        simp only [Act.put, List.setIfInBounds_toArray, List.set_cons_zero, List.set_cons_succ]
        have KC := hide ((Below.refl wr.heap.size wr).drew)
        generalize wr.drew = W1 at *
        clear hS1
        have SB := hide (fun (W : World) (kb : Below wr.heap.size wr W) => show W.cell? ⟨w.heap.size, 3, none⟩ = some (.slice (some ⟨gx, 0, none⟩) xs.length c3) ∧ W.cell? ⟨gx, j * 2, none⟩ = some (.slice io l.length cp) ∧ W.cell? ⟨gx, j * 2 + 1, none⟩ = some (.bool u) from
          ⟨(kb.cell (p := ⟨w.heap.size, 3, none⟩) (by show w.heap.size < _; omega)).trans x3, (kb.cell (p := ⟨gx, j * 2, none⟩) hgw).trans d00, (kb.cell (p := ⟨gx, j * 2 + 1, none⟩) hgw).trans d10⟩)
        have SL := hide (fun (W : World) (kb : Below wr.heap.size wr W) => show W.cell? ⟨L, 3, none⟩ = some (.slice aox j capx) from (kb.cell (p := ⟨L, 3, none⟩) hL2).trans y3)
        refine wpAnyH_ready (rs := [1, 2]) (by kernel_rfl) (by simp) ?_
        refine AllReadyH.cons (o := _) rfl (fun K hK => ?_) (AllReadyH.cons (o := _) rfl (fun K hK => ?_) AllReadyH.nil)
        · skip
          have q3 := SL.out _ KC.out
          go_simp
          clear q3
          refine hK.out _ _ (SB.out _ KC.out) (fun hSS => ?_)
          clear hK K hSS
          try simp only [Act.put, List.setIfInBounds_toArray, List.set_cons_zero, List.set_cons_succ]
          refine wpAnyH_ready (rs := [2]) (by kernel_rfl) (by simp) ?_
          refine AllReadyH.cons (o := _) rfl (fun K hK => ?_) AllReadyH.nil
          have KX := hide (KC.out.alloc KC.out.size (.cells #[] 2))
          have E2 := hide (heap_alloc_new W1 (.cells #[] 2))
          have Z2 : Hid (wr.heap.size ≤ W1.heap.size) := KC.out.size
          go_simp
          refine hK.out _ _ (SB.out _ KX.out) (fun hSS => ?_)
          clear hK K hSS KC
          try simp only [Act.put, List.setIfInBounds_toArray, List.set_cons_zero, List.set_cons_succ]
          have KC := KX
          clear KX
          generalize W1.alloc (.cells #[] 2) = W2 at *
          generalize W1.heap.size = e2 at *
          refine wpAnyH_ready (rs := [9]) (by kernel_rfl) (by simp) ?_
          refine AllReadyH.cons (o := _) rfl (fun K hK => ?_) AllReadyH.nil
          refine step_app_own rfl (.tmp 25) (.tmp 31) 23 rfl wr.heap.size b 2 j0 (.int .i64 0) 1 8 Try.underlying23 hj hy0 hy1 hy2 rfl (by decide) _ 0 [] rfl (own_emptyJ E2.out Z2.out) _ _ _ rfl (owns_below HIN.out KC.out) (numsV_one1 _) HB63.out.1 HB63.out.2 KC.out.size ?_
          intro v3 W3 o3 g3 l3
          have KX : Hid (Below wr.heap.size wr W3) := KC.out.grown g3 KC.out.size (fun i e => by have h1 : e2 = i := Option.some.inj e; have := Z2.out; omega)
          have NA : Hid (OwnN wr.heap.size v3 l W3) := by show OwnN _ _ _ _; simpa [OwnN] using o3
          have VS := hide (ownN_shape NA.out)
          clear o3 g3 l3
          refine hK.out _ _ (SB.out _ KX.out) (fun hSS => ?_)
          clear hK K KC
          simp only [List.getElem_toArray, List.getElem_cons_succ, List.getElem_cons_zero, Act.put, List.setIfInBounds_toArray, List.set_cons_zero, List.set_cons_succ]
          have KC := KX
          clear KX
          obtain ⟨aoA, capA, hvA⟩ := VS.out
          subst hvA
          refine takeD 16 39 (v := ?vw35) rfl rfl (by kernel_rfl) (by kernel_rfl) (by kernel_rfl) (fun _ _ _ h => h) (by kernel_rfl) ?hyw35 (by assumption) ?rw35
          case hyw35 => (intro W hSw; go_simp; try with_reducible rfl)
          simp only [Act.put, List.setIfInBounds_toArray, List.set_cons_zero, List.set_cons_succ]
          refine wpAnyH_ready (rs := [17]) (by kernel_rfl) (by simp) ?_
          refine AllReadyH.cons (o := _) rfl (fun K hK => ?_) AllReadyH.nil
          have OA := hide (HO.out.below KC.out)
          have PA := hide ((KC.out.block _ hL2).trans HLO.out)
          have SA := hide (HS.out.below KC.out)
          have YA := hide KC.out.size
          have YL : L < W3.heap.size := Nat.lt_of_lt_of_le hL2 YA.out
          have e1 : Hid ((W3.alloc (.cells #[.slice aoA l.length capA, .bool u] 69)).ownsRow (w.heap.size + 2) 69 2 (.slice aox j capx) j (flatX us (xs.take j))) := World.ownsRow.alloc (by have := OA.out.idx.row; simp only [HLN.out] at this; exact this) (.cells #[.slice aoA l.length capA, .bool u] 69)
          have e2' : Hid (j + 1 ≤ maxLen) := (by show _ ≤ _; unfold maxLen; omega)
          have e3 : Hid ((j + 1) * 32 ≤ 140737488355328) := (by show _ ≤ _; omega)
          have e5 : Hid ((W3.alloc (.cells #[.slice aoA l.length capA, .bool u] 69)).heap.size = W3.heap.size + 1) := (by show _ = _; simp)
          have e4 : Hid (w.heap.size + 2 ≤ (W3.alloc (.cells #[.slice aoA l.length capA, .bool u] 69)).heap.size) := (by show _ ≤ _; rw [e5.out]; exact Nat.le_trans hz1 (Nat.le_succ_of_le YA.out))
          have e6 : ∀ b, (Value.slice aox j capx).ownBlock = some b → w.heap.size + 2 ≤ b := (fun b e => (World.ownsRow.lt e1.out b e).1)
          have n1 : (Value.slice aox j capx).ownBlock ≠ some L := HN.out _ (by simp)
          have L0 := hide ((heap_old W3 (.cells #[.slice aoA l.length capA, .bool u] 69) _ YL).trans PA.out)
          have KA := KC
          have KX := hide (KC.out.alloc KC.out.size (.cells #[.slice aoA l.length capA, .bool u] 69))
          clear KC
          have KC := KX
          clear KX
          go_simp
          refine hK.out _ _ (SB.out _ KC.out) (fun hSS => ?_)
          clear hK K hSS
          try simp only [Act.put, List.setIfInBounds_toArray, List.set_cons_zero, List.set_cons_succ]
          refine wpAnyH_ready (rs := [18]) (by kernel_rfl) (by simp) ?_
          refine AllReadyH.cons (o := _) rfl (fun K hK => ?_) AllReadyH.nil
          refine step_append_lies (W3.alloc (.cells #[.slice aoA l.length capA, .bool u] 69)) (by rfl) (.tmp 24) (.tmp 40) 30 (by rfl) (w.heap.size + 2) 69 i0 (.agg #[.slice none 0 0, .bool false]) 2 32 Try.underlying30 hi hz0 hz1' hz2 rfl (by decide) (.slice aox j capx) j (flatX us (xs.take j)) (by rfl) e1.out ⟨W3.heap.size, 0, none⟩ 1 1 [.slice aoA l.length capA, .bool u] (by rfl) rfl (cell_idx_new W3 (.slice aoA l.length capA) u 69) (one_idx aoA l.length capA u) (by decide) e2'.out e3.out e4.out (W3.heap.size + 1) e5.out ?_
          intro gg cpB yB ownB growB atB ltB
          have LB := hide ((growB.block L (by rw [e5.out]; exact Nat.lt_succ_of_lt YL) (fun e => n1 e.symm)).trans L0.out)
          obtain ⟨q0, q1, q2, q3, qf⟩ := cells4 LB.out
          have KW := hide (((KA.out.mono hz1).alloc (Nat.le_trans hz1 KA.out.size) (.cells #[.slice aoA l.length capA, .bool u] 69)).grown growB e4.out e6)
          refine hK.out _ _ ⟨(KW.out.cell (p := ⟨w.heap.size, 3, none⟩) (by show w.heap.size < _; omega)).trans x3, (KW.out.cell (p := ⟨gx, j * 2, none⟩) (by show gx < _; omega)).trans d00, (KW.out.cell (p := ⟨gx, j * 2 + 1, none⟩) (by show gx < _; omega)).trans d10⟩ (fun hSS => ?_)
          clear hK K
          simp only [List.getElem_toArray, List.getElem_cons_succ, List.getElem_cons_zero, Act.put, List.setIfInBounds_toArray, List.set_cons_zero, List.set_cons_succ]
          refine takeD 19 42 (v := ?vw36) rfl rfl (by kernel_rfl) (by kernel_rfl) (by kernel_rfl) (fun _ _ _ h => h) (by kernel_rfl) ?hyw36 (by assumption) ?rw36
          case hyw36 => (intro W hSw; go_simp; try with_reducible rfl)
          simp only [Act.put, List.setIfInBounds_toArray, List.set_cons_zero, List.set_cons_succ]
          refine wpAnyH_ready (rs := [20]) (by kernel_rfl) (by simp) ?_
          refine AllReadyH.cons (o := _) rfl (fun K hK => ?_) AllReadyH.nil
          have WB : Hid (CpI w L a k (.slice (some ⟨gg, 0, none⟩) (j + 1) cpB) (us ++ [.slice aoA l.length capA]) ⟨nm, cs, ky, xs.take (j + 1)⟩ [.string nm, .slice ao cs.length c1, .slice ko ky.length c2, .slice (some ⟨gx, 0, none⟩) xs.length c3] [.string ⟨#[]⟩, .slice none 0 0, .slice none 0 0, .slice none 0 0] (yB.setCell ⟨L, 3, none⟩ (.slice (some ⟨gg, 0, none⟩) (j + 1) cpB))) := by
            have hnn : ∀ v ∈ a :: k :: (Value.slice (some ⟨gg, 0, none⟩) (j + 1) cpB) :: (us ++ [.slice aoA l.length capA]), v.ownBlock ≠ some L := by
              intro v hv
              simp only [List.mem_cons, List.mem_append, List.not_mem_nil, or_false] at hv
              rcases hv with rfl | rfl | rfl | hv | rfl
              · exact HN.out _ (by simp)
              · exact HN.out _ (by simp)
              · rcases atB with h1 | h1
                · exact fun e => n1 (h1.trans (show some gg = some L from e))
                · intro e
                  have := Option.some.inj (show some gg = some L from e)
                  omega
              · exact HN.out _ (by simp [hv])
              · intro e
                have := (World.ownsRow.lt NA.out _ e).1
                omega
            refine ⟨((SA.out.below (below_allocW _ _)).grown growB e6).set hLw, hLw, ?_, ?_, hnn⟩
            · have h1 := heap_setCell_same yB L 3 _ _ (.slice (some ⟨gg, 0, none⟩) (j + 1) cpB) LB.out
              simpa using h1
            · rw [HV.out]
              refine (sown_step (m := wr.heap.size) OA.out HBL.out hz1 YA.out NA.out ownB HLN.out growB ?_).setNe hnn
              rcases atB with h1 | h1
              · exact .inl (by rw [h1]; rfl)
              · exact .inr (by rw [h1]; rfl)
          have SZ : Hid ((yB.setCell ⟨L, 3, none⟩ (.slice (some ⟨gg, 0, none⟩) (j + 1) cpB)).cell? ⟨w.heap.size, 3, none⟩ = some (.slice (some ⟨gx, 0, none⟩) xs.length c3) ∧ (yB.setCell ⟨L, 3, none⟩ (.slice (some ⟨gg, 0, none⟩) (j + 1) cpB)).cell? ⟨gx, j * 2, none⟩ = some (.slice io l.length cp) ∧ (yB.setCell ⟨L, 3, none⟩ (.slice (some ⟨gg, 0, none⟩) (j + 1) cpB)).cell? ⟨gx, j * 2 + 1, none⟩ = some (.bool u)) := by
            refine ⟨?_, ?_, ?_⟩
            · exact (World.cell?_setCell_other yB ⟨L, 3, none⟩ ⟨w.heap.size, 3, none⟩ _ (fun e => by have := congrArg Addr.block e; simp only at this; omega)).trans hSS.1
            · exact (World.cell?_setCell_other yB ⟨L, 3, none⟩ ⟨gx, j * 2, none⟩ _ (fun e => by have := congrArg Addr.block e; simp only at this; omega)).trans hSS.2.1
            · exact (World.cell?_setCell_other yB ⟨L, 3, none⟩ ⟨gx, j * 2 + 1, none⟩ _ (fun e => by have := congrArg Addr.block e; simp only at this; omega)).trans hSS.2.2
          go_simp
          refine hK.out _ _ SZ.out (fun _ => ?_)
          clear hK K hSS
          try simp only [Act.put, List.setIfInBounds_toArray, List.set_cons_zero, List.set_cons_succ]
          refine wpAnyH_done (by kernel_rfl) ?_ _
          refine NoPanic.normal ?_
          clear LB ownB growB atB ltB NA OA PA SA YA L0 e1 e2' e3 e4 e5 e6 n1 HV HLN HBL HO HN HS HLO SB SL SZ KW KA KC x0 x1 x2 x3 xf y0 y1 y2 y3 yf q0 q1 q2 q3 qf d00 d10
          go_wp2
          go_roundw
          case rel => exact ⟨j + 1, _, _, by omega, by go_num, WB⟩
          case measure => simp [intOf]; omega
        · skip
          have KX := hide (KC.out.alloc KC.out.size (.cells #[] 2))
          have E2 := hide (heap_alloc_new W1 (.cells #[] 2))
          have Z2 : Hid (wr.heap.size ≤ W1.heap.size) := KC.out.size
          go_simp
          refine hK.out _ _ (SB.out _ KX.out) (fun hSS => ?_)
          clear hK K hSS KC
          try simp only [Act.put, List.setIfInBounds_toArray, List.set_cons_zero, List.set_cons_succ]
          have KC := KX
          clear KX
          generalize W1.alloc (.cells #[] 2) = W2 at *
          generalize W1.heap.size = e2 at *
          refine wpAnyH_ready (rs := [1, 9]) (by kernel_rfl) (by simp) ?_
          refine AllReadyH.cons (o := _) rfl (fun K hK => ?_) (AllReadyH.cons (o := _) rfl (fun K hK => ?_) AllReadyH.nil)
          · skip
            have q3 := SL.out _ KC.out
            go_simp
            clear q3
            refine hK.out _ _ (SB.out _ KC.out) (fun hSS => ?_)
            clear hK K hSS
            try simp only [Act.put, List.setIfInBounds_toArray, List.set_cons_zero, List.set_cons_succ]
            refine wpAnyH_ready (rs := [9]) (by kernel_rfl) (by simp) ?_
            refine AllReadyH.cons (o := _) rfl (fun K hK => ?_) AllReadyH.nil
            refine step_app_own rfl (.tmp 25) (.tmp 31) 23 rfl wr.heap.size b 2 j0 (.int .i64 0) 1 8 Try.underlying23 hj hy0 hy1 hy2 rfl (by decide) _ 0 [] rfl (own_emptyJ E2.out Z2.out) _ _ _ rfl (owns_below HIN.out KC.out) (numsV_one1 _) HB63.out.1 HB63.out.2 KC.out.size ?_
            intro v3 W3 o3 g3 l3
            have KX : Hid (Below wr.heap.size wr W3) := KC.out.grown g3 KC.out.size (fun i e => by have h1 : e2 = i := Option.some.inj e; have := Z2.out; omega)
            have NA : Hid (OwnN wr.heap.size v3 l W3) := by show OwnN _ _ _ _; simpa [OwnN] using o3
            have VS := hide (ownN_shape NA.out)
            clear o3 g3 l3
            refine hK.out _ _ (SB.out _ KX.out) (fun hSS => ?_)
            clear hK K KC
            simp only [List.getElem_toArray, List.getElem_cons_succ, List.getElem_cons_zero, Act.put, List.setIfInBounds_toArray, List.set_cons_zero, List.set_cons_succ]
            have KC := KX
            clear KX
            obtain ⟨aoA, capA, hvA⟩ := VS.out
            subst hvA
            refine takeD 16 39 (v := ?vw37) rfl rfl (by kernel_rfl) (by kernel_rfl) (by kernel_rfl) (fun _ _ _ h => h) (by kernel_rfl) ?hyw37 (by assumption) ?rw37
            case hyw37 => (intro W hSw; go_simp; try with_reducible rfl)
            simp only [Act.put, List.setIfInBounds_toArray, List.set_cons_zero, List.set_cons_succ]
            refine wpAnyH_ready (rs := [17]) (by kernel_rfl) (by simp) ?_
            refine AllReadyH.cons (o := _) rfl (fun K hK => ?_) AllReadyH.nil
            have OA := hide (HO.out.below KC.out)
            have PA := hide ((KC.out.block _ hL2).trans HLO.out)
            have SA := hide (HS.out.below KC.out)
            have YA := hide KC.out.size
            have YL : L < W3.heap.size := Nat.lt_of_lt_of_le hL2 YA.out
            have e1 : Hid ((W3.alloc (.cells #[.slice aoA l.length capA, .bool u] 69)).ownsRow (w.heap.size + 2) 69 2 (.slice aox j capx) j (flatX us (xs.take j))) := World.ownsRow.alloc (by have := OA.out.idx.row; simp only [HLN.out] at this; exact this) (.cells #[.slice aoA l.length capA, .bool u] 69)
            have e2' : Hid (j + 1 ≤ maxLen) := (by show _ ≤ _; unfold maxLen; omega)
            have e3 : Hid ((j + 1) * 32 ≤ 140737488355328) := (by show _ ≤ _; omega)
            have e5 : Hid ((W3.alloc (.cells #[.slice aoA l.length capA, .bool u] 69)).heap.size = W3.heap.size + 1) := (by show _ = _; simp)
            have e4 : Hid (w.heap.size + 2 ≤ (W3.alloc (.cells #[.slice aoA l.length capA, .bool u] 69)).heap.size) := (by show _ ≤ _; rw [e5.out]; exact Nat.le_trans hz1 (Nat.le_succ_of_le YA.out))
            have e6 : ∀ b, (Value.slice aox j capx).ownBlock = some b → w.heap.size + 2 ≤ b := (fun b e => (World.ownsRow.lt e1.out b e).1)
            have n1 : (Value.slice aox j capx).ownBlock ≠ some L := HN.out _ (by simp)
            have L0 := hide ((heap_old W3 (.cells #[.slice aoA l.length capA, .bool u] 69) _ YL).trans PA.out)
            have KA := KC
            have KX := hide (KC.out.alloc KC.out.size (.cells #[.slice aoA l.length capA, .bool u] 69))
            clear KC
            have KC := KX
            clear KX
            go_simp
            refine hK.out _ _ (SB.out _ KC.out) (fun hSS => ?_)
            clear hK K hSS
            try simp only [Act.put, List.setIfInBounds_toArray, List.set_cons_zero, List.set_cons_succ]
            refine wpAnyH_ready (rs := [18]) (by kernel_rfl) (by simp) ?_
            refine AllReadyH.cons (o := _) rfl (fun K hK => ?_) AllReadyH.nil
            refine step_append_lies (W3.alloc (.cells #[.slice aoA l.length capA, .bool u] 69)) (by rfl) (.tmp 24) (.tmp 40) 30 (by rfl) (w.heap.size + 2) 69 i0 (.agg #[.slice none 0 0, .bool false]) 2 32 Try.underlying30 hi hz0 hz1' hz2 rfl (by decide) (.slice aox j capx) j (flatX us (xs.take j)) (by rfl) e1.out ⟨W3.heap.size, 0, none⟩ 1 1 [.slice aoA l.length capA, .bool u] (by rfl) rfl (cell_idx_new W3 (.slice aoA l.length capA) u 69) (one_idx aoA l.length capA u) (by decide) e2'.out e3.out e4.out (W3.heap.size + 1) e5.out ?_
            intro gg cpB yB ownB growB atB ltB
            have LB := hide ((growB.block L (by rw [e5.out]; exact Nat.lt_succ_of_lt YL) (fun e => n1 e.symm)).trans L0.out)
            obtain ⟨q0, q1, q2, q3, qf⟩ := cells4 LB.out
            have KW := hide (((KA.out.mono hz1).alloc (Nat.le_trans hz1 KA.out.size) (.cells #[.slice aoA l.length capA, .bool u] 69)).grown growB e4.out e6)
            refine hK.out _ _ ⟨(KW.out.cell (p := ⟨w.heap.size, 3, none⟩) (by show w.heap.size < _; omega)).trans x3, (KW.out.cell (p := ⟨gx, j * 2, none⟩) (by show gx < _; omega)).trans d00, (KW.out.cell (p := ⟨gx, j * 2 + 1, none⟩) (by show gx < _; omega)).trans d10⟩ (fun hSS => ?_)
            clear hK K
            simp only [List.getElem_toArray, List.getElem_cons_succ, List.getElem_cons_zero, Act.put, List.setIfInBounds_toArray, List.set_cons_zero, List.set_cons_succ]
            refine takeD 19 42 (v := ?vw38) rfl rfl (by kernel_rfl) (by kernel_rfl) (by kernel_rfl) (fun _ _ _ h => h) (by kernel_rfl) ?hyw38 (by assumption) ?rw38
            case hyw38 => (intro W hSw; go_simp; try with_reducible rfl)
            simp only [Act.put, List.setIfInBounds_toArray, List.set_cons_zero, List.set_cons_succ]
            refine wpAnyH_ready (rs := [20]) (by kernel_rfl) (by simp) ?_
            refine AllReadyH.cons (o := _) rfl (fun K hK => ?_) AllReadyH.nil
            have WB : Hid (CpI w L a k (.slice (some ⟨gg, 0, none⟩) (j + 1) cpB) (us ++ [.slice aoA l.length capA]) ⟨nm, cs, ky, xs.take (j + 1)⟩ [.string nm, .slice ao cs.length c1, .slice ko ky.length c2, .slice (some ⟨gx, 0, none⟩) xs.length c3] [.string ⟨#[]⟩, .slice none 0 0, .slice none 0 0, .slice none 0 0] (yB.setCell ⟨L, 3, none⟩ (.slice (some ⟨gg, 0, none⟩) (j + 1) cpB))) := by
              have hnn : ∀ v ∈ a :: k :: (Value.slice (some ⟨gg, 0, none⟩) (j + 1) cpB) :: (us ++ [.slice aoA l.length capA]), v.ownBlock ≠ some L := by
                intro v hv
                simp only [List.mem_cons, List.mem_append, List.not_mem_nil, or_false] at hv
                rcases hv with rfl | rfl | rfl | hv | rfl
                · exact HN.out _ (by simp)
                · exact HN.out _ (by simp)
                · rcases atB with h1 | h1
                  · exact fun e => n1 (h1.trans (show some gg = some L from e))
                  · intro e
                    have := Option.some.inj (show some gg = some L from e)
                    omega
                · exact HN.out _ (by simp [hv])
                · intro e
                  have := (World.ownsRow.lt NA.out _ e).1
                  omega
              refine ⟨((SA.out.below (below_allocW _ _)).grown growB e6).set hLw, hLw, ?_, ?_, hnn⟩
              · have h1 := heap_setCell_same yB L 3 _ _ (.slice (some ⟨gg, 0, none⟩) (j + 1) cpB) LB.out
                simpa using h1
              · rw [HV.out]
                refine (sown_step (m := wr.heap.size) OA.out HBL.out hz1 YA.out NA.out ownB HLN.out growB ?_).setNe hnn
                rcases atB with h1 | h1
                · exact .inl (by rw [h1]; rfl)
                · exact .inr (by rw [h1]; rfl)
            have SZ : Hid ((yB.setCell ⟨L, 3, none⟩ (.slice (some ⟨gg, 0, none⟩) (j + 1) cpB)).cell? ⟨w.heap.size, 3, none⟩ = some (.slice (some ⟨gx, 0, none⟩) xs.length c3) ∧ (yB.setCell ⟨L, 3, none⟩ (.slice (some ⟨gg, 0, none⟩) (j + 1) cpB)).cell? ⟨gx, j * 2, none⟩ = some (.slice io l.length cp) ∧ (yB.setCell ⟨L, 3, none⟩ (.slice (some ⟨gg, 0, none⟩) (j + 1) cpB)).cell? ⟨gx, j * 2 + 1, none⟩ = some (.bool u)) := by
              refine ⟨?_, ?_, ?_⟩
              · exact (World.cell?_setCell_other yB ⟨L, 3, none⟩ ⟨w.heap.size, 3, none⟩ _ (fun e => by have := congrArg Addr.block e; simp only at this; omega)).trans hSS.1
              · exact (World.cell?_setCell_other yB ⟨L, 3, none⟩ ⟨gx, j * 2, none⟩ _ (fun e => by have := congrArg Addr.block e; simp only at this; omega)).trans hSS.2.1
              · exact (World.cell?_setCell_other yB ⟨L, 3, none⟩ ⟨gx, j * 2 + 1, none⟩ _ (fun e => by have := congrArg Addr.block e; simp only at this; omega)).trans hSS.2.2
            go_simp
            refine hK.out _ _ SZ.out (fun _ => ?_)
            clear hK K hSS
            try simp only [Act.put, List.setIfInBounds_toArray, List.set_cons_zero, List.set_cons_succ]
            refine wpAnyH_done (by kernel_rfl) ?_ _
            refine NoPanic.normal ?_
            clear LB ownB growB atB ltB NA OA PA SA YA L0 e1 e2' e3 e4 e5 e6 n1 HV HLN HBL HO HN HS HLO SB SL SZ KW KA KC x0 x1 x2 x3 xf y0 y1 y2 y3 yf q0 q1 q2 q3 qf d00 d10
            go_wp2
            go_roundw
            case rel => exact ⟨j + 1, _, _, by omega, by go_num, WB⟩
            case measure => simp [intOf]; omega
          · skip
            refine step_app_own rfl (.tmp 25) (.tmp 31) 23 rfl wr.heap.size b 2 j0 (.int .i64 0) 1 8 Try.underlying23 hj hy0 hy1 hy2 rfl (by decide) _ 0 [] rfl (own_emptyJ E2.out Z2.out) _ _ _ rfl (owns_below HIN.out KC.out) (numsV_one1 _) HB63.out.1 HB63.out.2 KC.out.size ?_
            intro v3 W3 o3 g3 l3
            have KX : Hid (Below wr.heap.size wr W3) := KC.out.grown g3 KC.out.size (fun i e => by have h1 : e2 = i := Option.some.inj e; have := Z2.out; omega)
            have NA : Hid (OwnN wr.heap.size v3 l W3) := by show OwnN _ _ _ _; simpa [OwnN] using o3
            have VS := hide (ownN_shape NA.out)
            clear o3 g3 l3
            refine hK.out _ _ (SB.out _ KX.out) (fun hSS => ?_)
            clear hK K KC
            simp only [List.getElem_toArray, List.getElem_cons_succ, List.getElem_cons_zero, Act.put, List.setIfInBounds_toArray, List.set_cons_zero, List.set_cons_succ]
            have KC := KX
            clear KX
            obtain ⟨aoA, capA, hvA⟩ := VS.out
            subst hvA
            refine takeD 16 39 (v := ?vw39) rfl rfl (by kernel_rfl) (by kernel_rfl) (by kernel_rfl) (fun _ _ _ h => h) (by kernel_rfl) ?hyw39 (by assumption) ?rw39
            case hyw39 => (intro W hSw; go_simp; try with_reducible rfl)
            simp only [Act.put, List.setIfInBounds_toArray, List.set_cons_zero, List.set_cons_succ]
            refine wpAnyH_ready (rs := [1, 17]) (by kernel_rfl) (by simp) ?_
            refine AllReadyH.cons (o := _) rfl (fun K hK => ?_) (AllReadyH.cons (o := _) rfl (fun K hK => ?_) AllReadyH.nil)
            · skip
              have q3 := SL.out _ KC.out
              go_simp
              clear q3
              refine hK.out _ _ (SB.out _ KC.out) (fun hSS => ?_)
              clear hK K hSS
              try simp only [Act.put, List.setIfInBounds_toArray, List.set_cons_zero, List.set_cons_succ]
              refine wpAnyH_ready (rs := [17]) (by kernel_rfl) (by simp) ?_
              refine AllReadyH.cons (o := _) rfl (fun K hK => ?_) AllReadyH.nil
              have OA := hide (HO.out.below KC.out)
              have PA := hide ((KC.out.block _ hL2).trans HLO.out)
              have SA := hide (HS.out.below KC.out)
              have YA := hide KC.out.size
              have YL : L < W3.heap.size := Nat.lt_of_lt_of_le hL2 YA.out
              have e1 : Hid ((W3.alloc (.cells #[.slice aoA l.length capA, .bool u] 69)).ownsRow (w.heap.size + 2) 69 2 (.slice aox j capx) j (flatX us (xs.take j))) := World.ownsRow.alloc (by have := OA.out.idx.row; simp only [HLN.out] at this; exact this) (.cells #[.slice aoA l.length capA, .bool u] 69)
              have e2' : Hid (j + 1 ≤ maxLen) := (by show _ ≤ _; unfold maxLen; omega)
              have e3 : Hid ((j + 1) * 32 ≤ 140737488355328) := (by show _ ≤ _; omega)
              have e5 : Hid ((W3.alloc (.cells #[.slice aoA l.length capA, .bool u] 69)).heap.size = W3.heap.size + 1) := (by show _ = _; simp)
              have e4 : Hid (w.heap.size + 2 ≤ (W3.alloc (.cells #[.slice aoA l.length capA, .bool u] 69)).heap.size) := (by show _ ≤ _; rw [e5.out]; exact Nat.le_trans hz1 (Nat.le_succ_of_le YA.out))
              have e6 : ∀ b, (Value.slice aox j capx).ownBlock = some b → w.heap.size + 2 ≤ b := (fun b e => (World.ownsRow.lt e1.out b e).1)
              have n1 : (Value.slice aox j capx).ownBlock ≠ some L := HN.out _ (by simp)
              have L0 := hide ((heap_old W3 (.cells #[.slice aoA l.length capA, .bool u] 69) _ YL).trans PA.out)
              have KA := KC
              have KX := hide (KC.out.alloc KC.out.size (.cells #[.slice aoA l.length capA, .bool u] 69))
              clear KC
              have KC := KX
              clear KX
              go_simp
              refine hK.out _ _ (SB.out _ KC.out) (fun hSS => ?_)
              clear hK K hSS
              try simp only [Act.put, List.setIfInBounds_toArray, List.set_cons_zero, List.set_cons_succ]
              refine wpAnyH_ready (rs := [18]) (by kernel_rfl) (by simp) ?_
              refine AllReadyH.cons (o := _) rfl (fun K hK => ?_) AllReadyH.nil
              refine step_append_lies (W3.alloc (.cells #[.slice aoA l.length capA, .bool u] 69)) (by rfl) (.tmp 24) (.tmp 40) 30 (by rfl) (w.heap.size + 2) 69 i0 (.agg #[.slice none 0 0, .bool false]) 2 32 Try.underlying30 hi hz0 hz1' hz2 rfl (by decide) (.slice aox j capx) j (flatX us (xs.take j)) (by rfl) e1.out ⟨W3.heap.size, 0, none⟩ 1 1 [.slice aoA l.length capA, .bool u] (by rfl) rfl (cell_idx_new W3 (.slice aoA l.length capA) u 69) (one_idx aoA l.length capA u) (by decide) e2'.out e3.out e4.out (W3.heap.size + 1) e5.out ?_
              intro gg cpB yB ownB growB atB ltB
              have LB := hide ((growB.block L (by rw [e5.out]; exact Nat.lt_succ_of_lt YL) (fun e => n1 e.symm)).trans L0.out)
              obtain ⟨q0, q1, q2, q3, qf⟩ := cells4 LB.out
              have KW := hide (((KA.out.mono hz1).alloc (Nat.le_trans hz1 KA.out.size) (.cells #[.slice aoA l.length capA, .bool u] 69)).grown growB e4.out e6)
              refine hK.out _ _ ⟨(KW.out.cell (p := ⟨w.heap.size, 3, none⟩) (by show w.heap.size < _; omega)).trans x3, (KW.out.cell (p := ⟨gx, j * 2, none⟩) (by show gx < _; omega)).trans d00, (KW.out.cell (p := ⟨gx, j * 2 + 1, none⟩) (by show gx < _; omega)).trans d10⟩ (fun hSS => ?_)
              clear hK K
              simp only [List.getElem_toArray, List.getElem_cons_succ, List.getElem_cons_zero, Act.put, List.setIfInBounds_toArray, List.set_cons_zero, List.set_cons_succ]
              refine takeD 19 42 (v := ?vw40) rfl rfl (by kernel_rfl) (by kernel_rfl) (by kernel_rfl) (fun _ _ _ h => h) (by kernel_rfl) ?hyw40 (by assumption) ?rw40
              case hyw40 => (intro W hSw; go_simp; try with_reducible rfl)
              simp only [Act.put, List.setIfInBounds_toArray, List.set_cons_zero, List.set_cons_succ]
              refine wpAnyH_ready (rs := [20]) (by kernel_rfl) (by simp) ?_
              refine AllReadyH.cons (o := _) rfl (fun K hK => ?_) AllReadyH.nil
              have WB : Hid (CpI w L a k (.slice (some ⟨gg, 0, none⟩) (j + 1) cpB) (us ++ [.slice aoA l.length capA]) ⟨nm, cs, ky, xs.take (j + 1)⟩ [.string nm, .slice ao cs.length c1, .slice ko ky.length c2, .slice (some ⟨gx, 0, none⟩) xs.length c3] [.string ⟨#[]⟩, .slice none 0 0, .slice none 0 0, .slice none 0 0] (yB.setCell ⟨L, 3, none⟩ (.slice (some ⟨gg, 0, none⟩) (j + 1) cpB))) := by
                have hnn : ∀ v ∈ a :: k :: (Value.slice (some ⟨gg, 0, none⟩) (j + 1) cpB) :: (us ++ [.slice aoA l.length capA]), v.ownBlock ≠ some L := by
                  intro v hv
                  simp only [List.mem_cons, List.mem_append, List.not_mem_nil, or_false] at hv
                  rcases hv with rfl | rfl | rfl | hv | rfl
                  · exact HN.out _ (by simp)
                  · exact HN.out _ (by simp)
                  · rcases atB with h1 | h1
                    · exact fun e => n1 (h1.trans (show some gg = some L from e))
                    · intro e
                      have := Option.some.inj (show some gg = some L from e)
                      omega
                  · exact HN.out _ (by simp [hv])
                  · intro e
                    have := (World.ownsRow.lt NA.out _ e).1
                    omega
                refine ⟨((SA.out.below (below_allocW _ _)).grown growB e6).set hLw, hLw, ?_, ?_, hnn⟩
                · have h1 := heap_setCell_same yB L 3 _ _ (.slice (some ⟨gg, 0, none⟩) (j + 1) cpB) LB.out
                  simpa using h1
                · rw [HV.out]
                  refine (sown_step (m := wr.heap.size) OA.out HBL.out hz1 YA.out NA.out ownB HLN.out growB ?_).setNe hnn
                  rcases atB with h1 | h1
                  · exact .inl (by rw [h1]; rfl)
                  · exact .inr (by rw [h1]; rfl)
              have SZ : Hid ((yB.setCell ⟨L, 3, none⟩ (.slice (some ⟨gg, 0, none⟩) (j + 1) cpB)).cell? ⟨w.heap.size, 3, none⟩ = some (.slice (some ⟨gx, 0, none⟩) xs.length c3) ∧ (yB.setCell ⟨L, 3, none⟩ (.slice (some ⟨gg, 0, none⟩) (j + 1) cpB)).cell? ⟨gx, j * 2, none⟩ = some (.slice io l.length cp) ∧ (yB.setCell ⟨L, 3, none⟩ (.slice (some ⟨gg, 0, none⟩) (j + 1) cpB)).cell? ⟨gx, j * 2 + 1, none⟩ = some (.bool u)) := by
                refine ⟨?_, ?_, ?_⟩
                · exact (World.cell?_setCell_other yB ⟨L, 3, none⟩ ⟨w.heap.size, 3, none⟩ _ (fun e => by have := congrArg Addr.block e; simp only at this; omega)).trans hSS.1
                · exact (World.cell?_setCell_other yB ⟨L, 3, none⟩ ⟨gx, j * 2, none⟩ _ (fun e => by have := congrArg Addr.block e; simp only at this; omega)).trans hSS.2.1
                · exact (World.cell?_setCell_other yB ⟨L, 3, none⟩ ⟨gx, j * 2 + 1, none⟩ _ (fun e => by have := congrArg Addr.block e; simp only at this; omega)).trans hSS.2.2
              go_simp
              refine hK.out _ _ SZ.out (fun _ => ?_)
              clear hK K hSS
              try simp only [Act.put, List.setIfInBounds_toArray, List.set_cons_zero, List.set_cons_succ]
              refine wpAnyH_done (by kernel_rfl) ?_ _
              refine NoPanic.normal ?_
              clear LB ownB growB atB ltB NA OA PA SA YA L0 e1 e2' e3 e4 e5 e6 n1 HV HLN HBL HO HN HS HLO SB SL SZ KW KA KC x0 x1 x2 x3 xf y0 y1 y2 y3 yf q0 q1 q2 q3 qf d00 d10
              go_wp2
              go_roundw
              case rel => exact ⟨j + 1, _, _, by omega, by go_num, WB⟩
              case measure => simp [intOf]; omega
            · skip
              have OA := hide (HO.out.below KC.out)
              have PA := hide ((KC.out.block _ hL2).trans HLO.out)
              have SA := hide (HS.out.below KC.out)
              have YA := hide KC.out.size
              have YL : L < W3.heap.size := Nat.lt_of_lt_of_le hL2 YA.out
              have e1 : Hid ((W3.alloc (.cells #[.slice aoA l.length capA, .bool u] 69)).ownsRow (w.heap.size + 2) 69 2 (.slice aox j capx) j (flatX us (xs.take j))) := World.ownsRow.alloc (by have := OA.out.idx.row; simp only [HLN.out] at this; exact this) (.cells #[.slice aoA l.length capA, .bool u] 69)
              have e2' : Hid (j + 1 ≤ maxLen) := (by show _ ≤ _; unfold maxLen; omega)
              have e3 : Hid ((j + 1) * 32 ≤ 140737488355328) := (by show _ ≤ _; omega)
              have e5 : Hid ((W3.alloc (.cells #[.slice aoA l.length capA, .bool u] 69)).heap.size = W3.heap.size + 1) := (by show _ = _; simp)
              have e4 : Hid (w.heap.size + 2 ≤ (W3.alloc (.cells #[.slice aoA l.length capA, .bool u] 69)).heap.size) := (by show _ ≤ _; rw [e5.out]; exact Nat.le_trans hz1 (Nat.le_succ_of_le YA.out))
              have e6 : ∀ b, (Value.slice aox j capx).ownBlock = some b → w.heap.size + 2 ≤ b := (fun b e => (World.ownsRow.lt e1.out b e).1)
              have n1 : (Value.slice aox j capx).ownBlock ≠ some L := HN.out _ (by simp)
              have L0 := hide ((heap_old W3 (.cells #[.slice aoA l.length capA, .bool u] 69) _ YL).trans PA.out)
              have KA := KC
              have KX := hide (KC.out.alloc KC.out.size (.cells #[.slice aoA l.length capA, .bool u] 69))
              clear KC
              have KC := KX
              clear KX
              go_simp
              refine hK.out _ _ (SB.out _ KC.out) (fun hSS => ?_)
              clear hK K hSS
              try simp only [Act.put, List.setIfInBounds_toArray, List.set_cons_zero, List.set_cons_succ]
              refine wpAnyH_ready (rs := [1]) (by kernel_rfl) (by simp) ?_
              refine AllReadyH.cons (o := _) rfl (fun K hK => ?_) AllReadyH.nil
              have q3 := SL.out _ KC.out
              go_simp
              clear q3
              refine hK.out _ _ (SB.out _ KC.out) (fun hSS => ?_)
              clear hK K hSS
              try simp only [Act.put, List.setIfInBounds_toArray, List.set_cons_zero, List.set_cons_succ]
              refine wpAnyH_ready (rs := [18]) (by kernel_rfl) (by simp) ?_
              refine AllReadyH.cons (o := _) rfl (fun K hK => ?_) AllReadyH.nil
              refine step_append_lies (W3.alloc (.cells #[.slice aoA l.length capA, .bool u] 69)) (by rfl) (.tmp 24) (.tmp 40) 30 (by rfl) (w.heap.size + 2) 69 i0 (.agg #[.slice none 0 0, .bool false]) 2 32 Try.underlying30 hi hz0 hz1' hz2 rfl (by decide) (.slice aox j capx) j (flatX us (xs.take j)) (by rfl) e1.out ⟨W3.heap.size, 0, none⟩ 1 1 [.slice aoA l.length capA, .bool u] (by rfl) rfl (cell_idx_new W3 (.slice aoA l.length capA) u 69) (one_idx aoA l.length capA u) (by decide) e2'.out e3.out e4.out (W3.heap.size + 1) e5.out ?_
              intro gg cpB yB ownB growB atB ltB
              have LB := hide ((growB.block L (by rw [e5.out]; exact Nat.lt_succ_of_lt YL) (fun e => n1 e.symm)).trans L0.out)
              obtain ⟨q0, q1, q2, q3, qf⟩ := cells4 LB.out
              have KW := hide (((KA.out.mono hz1).alloc (Nat.le_trans hz1 KA.out.size) (.cells #[.slice aoA l.length capA, .bool u] 69)).grown growB e4.out e6)
              refine hK.out _ _ ⟨(KW.out.cell (p := ⟨w.heap.size, 3, none⟩) (by show w.heap.size < _; omega)).trans x3, (KW.out.cell (p := ⟨gx, j * 2, none⟩) (by show gx < _; omega)).trans d00, (KW.out.cell (p := ⟨gx, j * 2 + 1, none⟩) (by show gx < _; omega)).trans d10⟩ (fun hSS => ?_)
              clear hK K
              simp only [List.getElem_toArray, List.getElem_cons_succ, List.getElem_cons_zero, Act.put, List.setIfInBounds_toArray, List.set_cons_zero, List.set_cons_succ]
              refine takeD 19 42 (v := ?vw41) rfl rfl (by kernel_rfl) (by kernel_rfl) (by kernel_rfl) (fun _ _ _ h => h) (by kernel_rfl) ?hyw41 (by assumption) ?rw41
              case hyw41 => (intro W hSw; go_simp; try with_reducible rfl)
              simp only [Act.put, List.setIfInBounds_toArray, List.set_cons_zero, List.set_cons_succ]
              refine wpAnyH_ready (rs := [20]) (by kernel_rfl) (by simp) ?_
              refine AllReadyH.cons (o := _) rfl (fun K hK => ?_) AllReadyH.nil
              have WB : Hid (CpI w L a k (.slice (some ⟨gg, 0, none⟩) (j + 1) cpB) (us ++ [.slice aoA l.length capA]) ⟨nm, cs, ky, xs.take (j + 1)⟩ [.string nm, .slice ao cs.length c1, .slice ko ky.length c2, .slice (some ⟨gx, 0, none⟩) xs.length c3] [.string ⟨#[]⟩, .slice none 0 0, .slice none 0 0, .slice none 0 0] (yB.setCell ⟨L, 3, none⟩ (.slice (some ⟨gg, 0, none⟩) (j + 1) cpB))) := by
                have hnn : ∀ v ∈ a :: k :: (Value.slice (some ⟨gg, 0, none⟩) (j + 1) cpB) :: (us ++ [.slice aoA l.length capA]), v.ownBlock ≠ some L := by
                  intro v hv
                  simp only [List.mem_cons, List.mem_append, List.not_mem_nil, or_false] at hv
                  rcases hv with rfl | rfl | rfl | hv | rfl
                  · exact HN.out _ (by simp)
                  · exact HN.out _ (by simp)
                  · rcases atB with h1 | h1
                    · exact fun e => n1 (h1.trans (show some gg = some L from e))
                    · intro e
                      have := Option.some.inj (show some gg = some L from e)
                      omega
                  · exact HN.out _ (by simp [hv])
                  · intro e
                    have := (World.ownsRow.lt NA.out _ e).1
                    omega
                refine ⟨((SA.out.below (below_allocW _ _)).grown growB e6).set hLw, hLw, ?_, ?_, hnn⟩
                · have h1 := heap_setCell_same yB L 3 _ _ (.slice (some ⟨gg, 0, none⟩) (j + 1) cpB) LB.out
                  simpa using h1
                · rw [HV.out]
                  refine (sown_step (m := wr.heap.size) OA.out HBL.out hz1 YA.out NA.out ownB HLN.out growB ?_).setNe hnn
                  rcases atB with h1 | h1
                  · exact .inl (by rw [h1]; rfl)
                  · exact .inr (by rw [h1]; rfl)
              have SZ : Hid ((yB.setCell ⟨L, 3, none⟩ (.slice (some ⟨gg, 0, none⟩) (j + 1) cpB)).cell? ⟨w.heap.size, 3, none⟩ = some (.slice (some ⟨gx, 0, none⟩) xs.length c3) ∧ (yB.setCell ⟨L, 3, none⟩ (.slice (some ⟨gg, 0, none⟩) (j + 1) cpB)).cell? ⟨gx, j * 2, none⟩ = some (.slice io l.length cp) ∧ (yB.setCell ⟨L, 3, none⟩ (.slice (some ⟨gg, 0, none⟩) (j + 1) cpB)).cell? ⟨gx, j * 2 + 1, none⟩ = some (.bool u)) := by
                refine ⟨?_, ?_, ?_⟩
                · exact (World.cell?_setCell_other yB ⟨L, 3, none⟩ ⟨w.heap.size, 3, none⟩ _ (fun e => by have := congrArg Addr.block e; simp only at this; omega)).trans hSS.1
                · exact (World.cell?_setCell_other yB ⟨L, 3, none⟩ ⟨gx, j * 2, none⟩ _ (fun e => by have := congrArg Addr.block e; simp only at this; omega)).trans hSS.2.1
                · exact (World.cell?_setCell_other yB ⟨L, 3, none⟩ ⟨gx, j * 2 + 1, none⟩ _ (fun e => by have := congrArg Addr.block e; simp only at this; omega)).trans hSS.2.2
              go_simp
              refine hK.out _ _ SZ.out (fun _ => ?_)
              clear hK K hSS
              try simp only [Act.put, List.setIfInBounds_toArray, List.set_cons_zero, List.set_cons_succ]
              refine wpAnyH_done (by kernel_rfl) ?_ _
              refine NoPanic.normal ?_
              clear LB ownB growB atB ltB NA OA PA SA YA L0 e1 e2' e3 e4 e5 e6 n1 HV HLN HBL HO HN HS HLO SB SL SZ KW KA KC x0 x1 x2 x3 xf y0 y1 y2 y3 yf q0 q1 q2 q3 qf d00 d10
              go_wp2
              go_roundw
              case rel => exact ⟨j + 1, _, _, by omega, by go_num, WB⟩
              case measure => simp [intOf]; omega
      · obtain rfl : j = xs.length := by omega
        rw [List.take_length] at hown hloc
        obtain ⟨aox, capx, rfl⟩ := ownX_shape hown.idx
        simp only at hloc hown
        have HO := hide hown
        have HS := hide hS
        have HZ := hide (show wr.heap[w.heap.size + 1]? = some (.cells #[.string ⟨#[]⟩, .slice none 0 0, .slice none 0 0, .slice none 0 0] 32 (0, 0)) from hS.2.2)
        obtain ⟨x0, x1, x2, x3, xf⟩ := cells4 hloc
        obtain ⟨z0, z1, z2, z3, zf⟩ := cells4 HZ.out
        obtain ⟨aoa, capa, rfl⟩ := ownC_shape hown.cols
        obtain ⟨aok, capk, rfl⟩ := ownN_shape hown.key
        obtain ⟨p0, p1, p2, p3, pf⟩ := cells4 (show wr.heap[w.heap.size]? = some (.cells #[.string nm, .slice ao cs.length c1, .slice ko ky.length c2, .slice xo xs.length c3] 32 (0, 0)) from HS.out.2.1)
        clear hloc hown hS hnb HL HF
        go_wp2
        refine bodyPost_ret (v := .agg #[.string nm, (.slice aoa cs.length capa), (.slice aok ky.length capk), .slice aox xs.length capx]) (resSch Try.results75 _ _ (w.heap.size + 1) _ _ _ _ rfl (set4 HZ.out)) rfl ⟨_, _, _, rfl, ⟨us, ?_⟩, ?_⟩
        · exact ((((HO.out.set (by omega)).set (by omega)).set (by omega)).set (by omega)).base (by omega)
        · exact (((HS.out.1.setCell (by simp) _).setCell (by simp) _).setCell (by simp) _).setCell (by simp) _
end Go.Proofs.Ytpmaklbbkmghbaa
