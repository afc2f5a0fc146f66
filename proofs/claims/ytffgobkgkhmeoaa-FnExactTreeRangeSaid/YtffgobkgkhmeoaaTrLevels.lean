/-
  Contracts: the program's TreeRight.
-/
import Derived.Test.YtffgobkgkhmeoaaTrShape
import Derived.Test.YtffgobkgkhmeoaaTrRise2
namespace Go.Proofs.Ytffgobkgkhmeoaa
open Go.RowKit
set_option maxRecDepth 100000

theorem trLev_keys {t : Tr} (h : t.keys.length ≠ 0) : trLev t = (lev 12 t).bind fun L => if rises (inord 12 t) then some L else none := by unfold trLev; rw [if_neg h]
theorem trLev_none {t : Tr} (h : t.keys.length = 0) : trLev t = if t.vals.length = 0 ∧ t.kids.length = 0 then some 0 else none := by unfold trLev; rw [if_pos h]
set_option maxHeartbeats 2000000 in
theorem treeLevels_any (A n : Nat) (t : Tr) (g o : Nat) (w : World) (h : TrAt w A w.heap.size n t g o) :
    Calls Try.prog 28 #[.pointer (some ⟨g, o, none⟩)] w fun e w' => e = .returned (.tuple #[.int .i64 (((trLev t).getD 0 : Nat) : Int), .bool (trLev t).isSome]) ∧ Below w.heap.size w w' := by
  have HS := hide (shape_all 12 (Nat.le_refl _) A w.heap.size n t g o w (Nat.le_refl _) h)
  have HK := hide (fun (hl : (lev 12 t).isSome = true) => keysRise_any 12 A n t g o w hl h)
  obtain ⟨hg, ko, kc, vo, vc, xo, xc, c0, c1, c2, _⟩ := h
  by_cases h0 : t.keys.length = 0
  · have HL := hide (trLev_none h0)
    obtain ⟨ks, vs, cs⟩ := t
    simp only [Tr.keys, Tr.vals, Tr.kids] at c0 c1 c2 h0
    change Hid (trLev (.node ks vs cs) = if vs.length = 0 ∧ cs.length = 0 then some 0 else none) at HL
    have e0 : ((ks.length : Int) == 0) = true := by rw [beq_iff_eq]; omega
    clear h0 HS HK
    generalize trLev (.node ks vs cs) = res at *
    by_cases hv : vs.length = 0
    · have e1 : ((vs.length : Int) == 0) = true := by rw [beq_iff_eq]; omega
      have HR : Hid (res = if cs.length = 0 then some 0 else none) := by show _ = _; rw [HL.out]; simp [hv]
      obtain ⟨q, hq⟩ : ∃ q, ((cs.length : Int) == 0) = q := ⟨_, rfl⟩
      have HR2 : Hid (res.getD 0 = 0 ∧ res.isSome = q) := by
        rw [HR.out, ← hq]
        by_cases hc : cs.length = 0
        · rw [if_pos hc, hc]; exact ⟨rfl, rfl⟩
        · rw [if_neg hc]; exact ⟨rfl, by rw [(beq_eq_false_iff_ne (a := (cs.length : Int))).2 (by omega)]; rfl⟩
      clear hv HL HR
      go_enter Try.func28, Try.ntmps28
      go_wp2
      refine wp_region_noPanic ?_
      refine wp_region_held_drew (S := (fun W => W.cell? ⟨g, o + 1, none⟩ = some (.slice vo vs.length vc) ∧ W.cell? ⟨g, o + 2, none⟩ = some (.slice xo cs.length xc))) (by kernel_rfl) ?_ (fun hHeld => ?_)
      · (try dsimp only); go_keep
      refine takeD 0 12 (v := ?v1x0) rfl rfl (by kernel_rfl) (by kernel_rfl) (by kernel_rfl) (fun _ _ _ h => h) (by kernel_rfl) ?hy1x0 (by assumption) ?r1x0
      case hy1x0 => (intro W hSw; (try dsimp only at hSw); go_simp; try with_reducible rfl)
      simp only [Act.put, List.setIfInBounds_toArray, List.set_cons_zero, List.set_cons_succ]
      refine takeD 1 13 (v := ?v1x1) rfl rfl (by kernel_rfl) (by kernel_rfl) (by kernel_rfl) (fun _ _ _ h => h) (by kernel_rfl) ?hy1x1 (by assumption) ?r1x1
      case hy1x1 => (intro W hSw; (try dsimp only at hSw); go_simp; try with_reducible rfl)
      simp only [Act.put, List.setIfInBounds_toArray, List.set_cons_zero, List.set_cons_succ]
      refine takeD 2 14 (v := ?v1x2) rfl rfl (by kernel_rfl) (by kernel_rfl) (by kernel_rfl) (fun _ _ _ h => h) (by kernel_rfl) ?hy1x2 (by assumption) ?r1x2
      case hy1x2 => (intro W hSw; (try dsimp only at hSw); go_simp; try with_reducible rfl)
      simp only [Act.put, List.setIfInBounds_toArray, List.set_cons_zero, List.set_cons_succ]
      refine takeD 3 15 (v := ?v1x3) rfl rfl (by kernel_rfl) (by kernel_rfl) (by kernel_rfl) (fun _ _ _ h => h) (by kernel_rfl) ?hy1x3 (by assumption) ?r1x3
      case hy1x3 => (intro W hSw; (try dsimp only at hSw); go_simp; try with_reducible rfl)
      simp only [Act.put, List.setIfInBounds_toArray, List.set_cons_zero, List.set_cons_succ]
      refine takeD 4 16 (v := ?v1x4) rfl rfl (by kernel_rfl) (by kernel_rfl) (by kernel_rfl) (fun _ _ _ h => h) (by kernel_rfl) ?hy1x4 (by assumption) ?r1x4
      case hy1x4 => (intro W hSw; (try dsimp only at hSw); go_simp; try with_reducible rfl)
      simp only [Act.put, List.setIfInBounds_toArray, List.set_cons_zero, List.set_cons_succ]
      refine takeD 5 17 (v := ?v1x5) rfl rfl (by kernel_rfl) (by kernel_rfl) (by kernel_rfl) (fun _ _ _ h => h) (by kernel_rfl) ?hy1x5 (by assumption) ?r1x5
      case hy1x5 => (intro W hSw; (try dsimp only at hSw); go_simp; try with_reducible rfl)
      simp only [Act.put, List.setIfInBounds_toArray, List.set_cons_zero, List.set_cons_succ]
      refine takeD 6 18 (v := ?v1x6) rfl rfl (by kernel_rfl) (by kernel_rfl) (by kernel_rfl) (fun _ _ _ h => h) (by kernel_rfl) ?hy1x6 (by assumption) ?r1x6
      case hy1x6 => (intro W hSw; (try dsimp only at hSw); go_simp; try with_reducible rfl)
      simp only [Act.put, List.setIfInBounds_toArray, List.set_cons_zero, List.set_cons_succ]
      refine takeD 7 19 (v := ?v1x7) rfl rfl (by kernel_rfl) (by kernel_rfl) (by kernel_rfl) (fun _ _ _ h => h) (by kernel_rfl) ?hy1x7 (by assumption) ?r1x7
      case hy1x7 => (intro W hSw; (try dsimp only at hSw); go_simp; try with_reducible rfl)
      simp only [Act.put, List.setIfInBounds_toArray, List.set_cons_zero, List.set_cons_succ]
      refine takeD 8 20 (v := ?v1x8) rfl rfl (by kernel_rfl) (by kernel_rfl) (by kernel_rfl) (fun _ _ _ h => h) (by kernel_rfl) ?hy1x8 (by assumption) ?r1x8
      case hy1x8 => (intro W hSw; (try dsimp only at hSw); go_simp; try with_reducible rfl)
      simp only [Act.put, List.setIfInBounds_toArray, List.set_cons_zero, List.set_cons_succ]
      refine takeD 9 21 (v := ?v1x9) rfl rfl (by kernel_rfl) (by kernel_rfl) (by kernel_rfl) (fun _ _ _ h => h) (by kernel_rfl) ?hy1x9 (by assumption) ?r1x9
      case hy1x9 => (intro W hSw; (try dsimp only at hSw); go_simp; try with_reducible rfl)
      simp only [Act.put, List.setIfInBounds_toArray, List.set_cons_zero, List.set_cons_succ]
      refine takeD 10 22 (v := ?v1x10) rfl rfl (by kernel_rfl) (by kernel_rfl) (by kernel_rfl) (fun _ _ _ h => h) (by kernel_rfl) ?hy1x10 (by assumption) ?r1x10
      case hy1x10 => (intro W hSw; (try dsimp only at hSw); go_simp; try with_reducible rfl)
      simp only [Act.put, List.setIfInBounds_toArray, List.set_cons_zero, List.set_cons_succ]
      refine takeD 11 23 (v := ?v1x11) rfl rfl (by kernel_rfl) (by kernel_rfl) (by kernel_rfl) (fun _ _ _ h => h) (by kernel_rfl) ?hy1x11 (by assumption) ?r1x11
      case hy1x11 => (intro W hSw; (try dsimp only at hSw); go_simp; try with_reducible rfl)
      simp only [Act.put, List.setIfInBounds_toArray, List.set_cons_zero, List.set_cons_succ]
      refine takeD 12 24 (v := ?v1x12) rfl rfl (by kernel_rfl) (by kernel_rfl) (by kernel_rfl) (fun _ _ _ h => h) (by kernel_rfl) ?hy1x12 (by assumption) ?r1x12
      case hy1x12 => (intro W hSw; (try dsimp only at hSw); go_simp; try with_reducible rfl)
      simp only [Act.put, List.setIfInBounds_toArray, List.set_cons_zero, List.set_cons_succ]
      refine takeD 13 25 (v := ?v1x13) rfl rfl (by kernel_rfl) (by kernel_rfl) (by kernel_rfl) (fun _ _ _ h => h) (by kernel_rfl) ?hy1x13 (by assumption) ?r1x13
      case hy1x13 => (intro W hSw; (try dsimp only at hSw); go_simp; try with_reducible rfl)
      simp only [Act.put, List.setIfInBounds_toArray, List.set_cons_zero, List.set_cons_succ]
      refine takeD 14 2 (v := ?v1x14) rfl rfl (by kernel_rfl) (by kernel_rfl) (by kernel_rfl) (fun _ _ _ h => h) (by kernel_rfl) ?hy1x14 (by assumption) ?r1x14
      case hy1x14 => (intro W hSw; (try dsimp only at hSw); go_simp; try with_reducible rfl)
      simp only [Act.put, List.setIfInBounds_toArray, List.set_cons_zero, List.set_cons_succ]
      refine takeD 15 3 (v := ?v1x15) rfl rfl (by kernel_rfl) (by kernel_rfl) (by kernel_rfl) (fun _ _ _ h => h) (by kernel_rfl) ?hy1x15 (by assumption) ?r1x15
      case hy1x15 => (intro W hSw; (try dsimp only at hSw); go_simp; try with_reducible rfl)
      simp only [Act.put, List.setIfInBounds_toArray, List.set_cons_zero, List.set_cons_succ]
      refine wpAnyH_done (by kernel_rfl) ?_ _
      refine NoPanic.normal ?_
      go_wp2
      go_ret2
      exact ⟨by rw [HR2.out.1, HR2.out.2]; rfl, (Below.refl _ _).drew⟩
    · have e1 : ((vs.length : Int) == 0) = false := by rw [beq_eq_false_iff_ne]; omega
      have HR : Hid (res = none) := by show _ = _; rw [HL.out, if_neg (fun h => hv h.1)]
      clear hv HL
      go_enter Try.func28, Try.ntmps28
      go_wp2
      refine wp_region_noPanic ?_
      refine wp_region_held_drew (S := (fun W => W.cell? ⟨g, o + 1, none⟩ = some (.slice vo vs.length vc) ∧ W.cell? ⟨g, o + 2, none⟩ = some (.slice xo cs.length xc))) (by kernel_rfl) ?_ (fun hHeld => ?_)
      · (try dsimp only); go_keep
      refine takeD 0 12 (v := ?v2x0) rfl rfl (by kernel_rfl) (by kernel_rfl) (by kernel_rfl) (fun _ _ _ h => h) (by kernel_rfl) ?hy2x0 (by assumption) ?r2x0
      case hy2x0 => (intro W hSw; (try dsimp only at hSw); go_simp; try with_reducible rfl)
      simp only [Act.put, List.setIfInBounds_toArray, List.set_cons_zero, List.set_cons_succ]
      refine takeD 1 13 (v := ?v2x1) rfl rfl (by kernel_rfl) (by kernel_rfl) (by kernel_rfl) (fun _ _ _ h => h) (by kernel_rfl) ?hy2x1 (by assumption) ?r2x1
      case hy2x1 => (intro W hSw; (try dsimp only at hSw); go_simp; try with_reducible rfl)
      simp only [Act.put, List.setIfInBounds_toArray, List.set_cons_zero, List.set_cons_succ]
      refine takeD 2 14 (v := ?v2x2) rfl rfl (by kernel_rfl) (by kernel_rfl) (by kernel_rfl) (fun _ _ _ h => h) (by kernel_rfl) ?hy2x2 (by assumption) ?r2x2
      case hy2x2 => (intro W hSw; (try dsimp only at hSw); go_simp; try with_reducible rfl)
      simp only [Act.put, List.setIfInBounds_toArray, List.set_cons_zero, List.set_cons_succ]
      refine takeD 3 15 (v := ?v2x3) rfl rfl (by kernel_rfl) (by kernel_rfl) (by kernel_rfl) (fun _ _ _ h => h) (by kernel_rfl) ?hy2x3 (by assumption) ?r2x3
      case hy2x3 => (intro W hSw; (try dsimp only at hSw); go_simp; try with_reducible rfl)
      simp only [Act.put, List.setIfInBounds_toArray, List.set_cons_zero, List.set_cons_succ]
      refine takeD 4 16 (v := ?v2x4) rfl rfl (by kernel_rfl) (by kernel_rfl) (by kernel_rfl) (fun _ _ _ h => h) (by kernel_rfl) ?hy2x4 (by assumption) ?r2x4
      case hy2x4 => (intro W hSw; (try dsimp only at hSw); go_simp; try with_reducible rfl)
      simp only [Act.put, List.setIfInBounds_toArray, List.set_cons_zero, List.set_cons_succ]
      refine takeD 5 17 (v := ?v2x5) rfl rfl (by kernel_rfl) (by kernel_rfl) (by kernel_rfl) (fun _ _ _ h => h) (by kernel_rfl) ?hy2x5 (by assumption) ?r2x5
      case hy2x5 => (intro W hSw; (try dsimp only at hSw); go_simp; try with_reducible rfl)
      simp only [Act.put, List.setIfInBounds_toArray, List.set_cons_zero, List.set_cons_succ]
      refine takeD 6 18 (v := ?v2x6) rfl rfl (by kernel_rfl) (by kernel_rfl) (by kernel_rfl) (fun _ _ _ h => h) (by kernel_rfl) ?hy2x6 (by assumption) ?r2x6
      case hy2x6 => (intro W hSw; (try dsimp only at hSw); go_simp; try with_reducible rfl)
      simp only [Act.put, List.setIfInBounds_toArray, List.set_cons_zero, List.set_cons_succ]
      refine skipAll [(7, 19), (8, 20), (9, 21), (10, 22), (11, 23), (12, 24)] (by kernel_rfl) (fun _ _ _ _ _ h => h) (by assumption) (by kernel_rfl) ?_
      simp only [putAll, listAll, List.foldl_cons, List.foldl_nil, Act.put, List.setIfInBounds_toArray, List.set_cons_zero, List.set_cons_succ]
      refine takeD 13 25 (v := ?v2x13) rfl rfl (by kernel_rfl) (by kernel_rfl) (by kernel_rfl) (fun _ _ _ h => h) (by kernel_rfl) ?hy2x13 (by assumption) ?r2x13
      case hy2x13 => (intro W hSw; (try dsimp only at hSw); go_simp; try with_reducible rfl)
      simp only [Act.put, List.setIfInBounds_toArray, List.set_cons_zero, List.set_cons_succ]
      refine takeD 14 2 (v := ?v2x14) rfl rfl (by kernel_rfl) (by kernel_rfl) (by kernel_rfl) (fun _ _ _ h => h) (by kernel_rfl) ?hy2x14 (by assumption) ?r2x14
      case hy2x14 => (intro W hSw; (try dsimp only at hSw); go_simp; try with_reducible rfl)
      simp only [Act.put, List.setIfInBounds_toArray, List.set_cons_zero, List.set_cons_succ]
      refine takeD 15 3 (v := ?v2x15) rfl rfl (by kernel_rfl) (by kernel_rfl) (by kernel_rfl) (fun _ _ _ h => h) (by kernel_rfl) ?hy2x15 (by assumption) ?r2x15
      case hy2x15 => (intro W hSw; (try dsimp only at hSw); go_simp; try with_reducible rfl)
      simp only [Act.put, List.setIfInBounds_toArray, List.set_cons_zero, List.set_cons_succ]
      refine wpAnyH_done (by kernel_rfl) ?_ _
      refine NoPanic.normal ?_
      go_wp2
      go_ret2
      exact ⟨by rw [HR.out]; rfl, (Below.refl _ _).drew⟩
  · have HL := hide (trLev_keys h0)
    have e0 : ((t.keys.length : Int) == 0) = false := by rw [beq_eq_false_iff_ne]; omega
    clear h0
    cases hl : lev 12 t with
    | none =>
      rw [hl] at HS
      simp only [Option.getD_none, Option.isSome_none] at HS
      have HR : Hid (trLev t = none) := by show _ = _; rw [HL.out, hl]; rfl
      generalize trLev t = res at *
      clear hl HL HK
      go_enter Try.func28, Try.ntmps28
      go_wp2_with fail
      refine HS.out.mono ?_
      rintro e w1 ⟨rfl, rfl⟩
      go_wp2
      go_ret2
      exact ⟨by rw [HR.out]; rfl, Below.refl _ _⟩
    | some L =>
      rw [hl] at HS
      simp only [Option.getD_some, Option.isSome_some] at HS
      have HK2 := hide (HK.out (by rw [hl]; rfl))
      have HR : Hid (trLev t = if rises (inord 12 t) then some L else none) := by show _ = _; rw [HL.out, hl]; rfl
      generalize trLev t = res at *
      generalize rises (inord 12 t) = q at *
      clear hl HL HK
      cases q with
      | false =>
        have HR2 : Hid (res = none) := HR.out
        clear HR
        go_enter Try.func28, Try.ntmps28
        go_wp2_with fail
        refine HS.out.mono ?_
        rintro e w1 ⟨rfl, rfl⟩
        go_wp2_with fail
        refine HK2.out.mono ?_
        rintro e w2 ⟨rfl, b2⟩
        have B2 := hide b2
        clear b2 HK2 HS
        go_wp2
        go_ret2
        exact ⟨by rw [HR2.out]; rfl, B2.out⟩
      | true =>
        have HR2 : Hid (res = some L) := HR.out
        clear HR
        go_enter Try.func28, Try.ntmps28
        go_wp2_with fail
        refine HS.out.mono ?_
        rintro e w1 ⟨rfl, rfl⟩
        go_wp2_with fail
        refine HK2.out.mono ?_
        rintro e w2 ⟨rfl, b2⟩
        have B2 := hide b2
        clear b2 HK2 HS
        go_wp2
        go_ret2
        exact ⟨by rw [HR2.out]; rfl, B2.out⟩
theorem box_tr {w : World} {A B n : Nat} {t : Tr} {ko vo xo : Option Addr} (kc vc xc : Nat) (ty : TypeId) (hB : B ≤ w.heap.size) (hr : TrRow w A B n t ko vo xo) : TrAt (w.alloc (.cells #[.slice ko t.keys.length kc, .slice vo t.vals.length vc, .slice xo t.kids.length xc] ty)) A (w.alloc (.cells #[.slice ko t.keys.length kc, .slice vo t.vals.length vc, .slice xo t.kids.length xc] ty)).heap.size n t w.heap.size 0 := by
  obtain ⟨x0, x1, x2, _⟩ := cells3 (heap_alloc_new w (.cells #[.slice ko t.keys.length kc, .slice vo t.vals.length vc, .slice xo t.kids.length xc] ty))
  exact ⟨by simp, ko, kc, vo, vc, xo, xc, x0, x1, x2, TrRow.mono (Nat.le_refl _) (Nat.le_trans hB (by simp)) n _ _ _ _ (TrRow.kept ((Below.refl B w).alloc hB _) n _ _ _ _ hr)⟩
set_option maxHeartbeats 1000000 in
theorem implTreeRight_any (A B n : Nat) (ko : Option Addr) (kc : Nat) (vo : Option Addr) (vc : Nat) (xo : Option Addr) (xc : Nat) (t : Tr) (w : World) (hB : B ≤ w.heap.size) (hr : TrRow w A B n t ko vo xo) :
    Calls Try.prog 10 #[.agg #[.slice ko t.keys.length kc, .slice vo t.vals.length vc, .slice xo t.kids.length xc]] w fun e w' => e = .returned (.bool (trLev t).isSome) ∧ Below w.heap.size w w' := by
  have HC := hide (treeLevels_any A n t w.heap.size 0 _ (box_tr kc vc xc 30 hB hr))
  have B0 := hide ((Below.refl w.heap.size w).alloc (Nat.le_refl _) (.cells #[.slice ko t.keys.length kc, .slice vo t.vals.length vc, .slice xo t.kids.length xc] 30))
  clear hr
  generalize trLev t = res at *
  go_enter Try.func10, Try.ntmps10
  go_wp2_with fail
  refine HC.out.mono ?_
  generalize w.alloc (.cells #[.slice ko t.keys.length kc, .slice vo t.vals.length vc, .slice xo t.kids.length xc] 30) = W0 at *
  rintro e w1 ⟨rfl, b1⟩
  have B1 := hide (B0.out.trans (b1.mono B0.out.size))
  clear b1 HC B0
  go_wp2
  go_ret
  exact ⟨rfl, B1.out⟩
end Go.Proofs.Ytffgobkgkhmeoaa
