/-
  Contracts: the program's TreeSize; the law on it.
-/
import Derived.Test.YtffgobkgkhmeoaaTrSize
import Derived.Test.YtffgobkgkhmeoaaTrLaw
namespace Go.Proofs.Ytffgobkgkhmeoaa
open Go.RowKit Go.Shelf
attribute [local go_sem] Oper.semAt_some
set_option maxRecDepth 100000
set_option linter.unusedVariables false

/-- What the counter holds. -/
def CountAt (R : Nat) (w : World) (pre : List ByteArray) (W : World) : Prop := (W.cell? ⟨R, 0, none⟩ = some (.int .i64 ((pre.length : Nat) : Int)) ∧ W.frozen? ⟨R, 0, none⟩ = false) ∧ Below w.heap.size w W
theorem countAt_own (R : Nat) (w : World) (B : Nat) (hB : w.heap.size ≤ B) : OwnFrom B (CountAt R w) :=
  OwnFrom.and (I := fun (pre : List ByteArray) W => W.cell? ⟨R, 0, none⟩ = some (.int .i64 ((pre.length : Nat) : Int)) ∧ W.frozen? ⟨R, 0, none⟩ = false) (Own.from (I := fun (pre : List ByteArray) W => W.cell? ⟨R, 0, none⟩ = some (.int .i64 ((pre.length : Nat) : Int)) ∧ W.frozen? ⟨R, 0, none⟩ = false) (fun s A B row hs hg hr => keep2 (a := ⟨R, 0, none⟩) (v := .int .i64 ((s.length : Nat) : Int)) hs hg hr) _) (ownFrom_below (Nat.le_refl _) hB)
theorem allOf_le {t : Tr} (h : (trLev t).isSome = true) : (allOf t).length ≤ 16777216 := by
  unfold allOf
  split
  · exact Nat.zero_le _
  · rename_i hk
    have h1 := inord_le 12 t (lev_of_right h hk)
    have h2 := pow_le12 (r := 12) (Nat.le_refl _)
    omega
set_option maxHeartbeats 2000000 in
theorem implTreeSize_in (F : Fence) (hF : F = Fence.wide) (n : Nat) (hn : 4 ≤ n) (A B k : Nat) (ko : Option Addr) (kc : Nat) (vo : Option Addr) (vc : Nat) (xo : Option Addr) (xc : Nat) (t : Tr) (w : World) (hB : B ≤ w.heap.size) (hr : TrRow w A B k t ko vo xo) :
    CallsIn F n Try.prog 13 #[.agg #[.slice ko t.keys.length kc, .slice vo t.vals.length vc, .slice xo t.kids.length xc]] w fun e w' => e = .returned (.int .i64 ((sizeOf t : Nat) : Int)) ∧ Below w.heap.size w w' := by
  have h1 : 1 ≤ n := by omega
  have hf : F.fn 13 := by rw [hF]; trivial
  have hf0 : F.fn 10 := by rw [hF]; trivial
  have hf1 : F.fn 31 := by rw [hF]; trivial
  have hf2 : F.fn 38 := by rw [hF]; trivial
  have hro : F.round = none := by rw [hF]; rfl
  have hd : F.depth = none := by rw [hF]; rfl
  have hdd : ∀ k : Nat, (F.depth.isSome = true → 1 ≤ k) := fun k h => by rw [hd] at h; cases h
  have HF := hide hF
  have HT := hide (fun (m : Nat) (W : World) (hW : Below w.heap.size w W) => show CallsIn F m Try.prog 10 #[.agg #[.slice ko t.keys.length kc, .slice vo t.vals.length vc, .slice xo t.kids.length xc]] W fun e w' => e = .returned (.bool (trLev t).isSome) ∧ Below W.heap.size W w' by rw [hF]; exact callsIn_wide.2 (implTreeRight_any A B k ko kc vo vc xo xc t W (Nat.le_trans hB hW.size) (TrRow.kept (hW.mono hB) k _ _ _ _ hr)))
  have HAT := hide (box_tr kc vc xc 30 hB hr)
  have B0 := hide ((Below.refl w.heap.size w).alloc (Nat.le_refl _) (.cells #[.slice ko t.keys.length kc, .slice vo t.vals.length vc, .slice xo t.kids.length xc] 30))
  have HZ : Hid ((w.alloc (.cells #[.slice ko t.keys.length kc, .slice vo t.vals.length vc, .slice xo t.kids.length xc] 30)).heap.size = w.heap.size + 1) := by show _ = _; simp
  clear hF hr
  by_cases hl : (trLev t).isSome = true
  · have HE : Hid (sizeOf t = (allOf t).length) := if_pos hl
    have HLE := hide (allOf_le hl)
    have HL := hide hl
    rw [hl] at HT
    obtain ⟨z, hz⟩ : ∃ z, sizeOf t = z := ⟨_, rfl⟩
    rw [hz]
    have HZZ := hide hz
    clear hl hz
    refine callsIn_of_wp_marks Try.func13 rfl hf ?_ hro
    simp only [Try.ntmps13, List.size_toArray, List.length_cons, List.length_nil, Nat.reduceAdd, Nat.reduceSub, Array.replicate_succ, Array.replicate_zero, List.push_toArray, List.append_toArray, List.nil_append, List.cons_append]
    gi_wp2_with (first | ((try refine ⟨hdd _, ?_⟩); gi_at_call 10; refine (HT.out _ _ B0.out).mono ?_; rintro e w1 ⟨rfl, b1⟩; have BB1 := hide b1; clear b1) | ((try refine ⟨hdd _, ?_⟩); gi_at_call 31; refine (keysOf_in F _ hf1 hro _ _).mono ?_; rintro e w' ⟨rfl, rfl⟩))
    have HAT1 := hide (HAT.out.kept BB1.out)
    have B1 := hide (B0.out.trans (BB1.out.mono B0.out.size))
    have hz1 : w.heap.size + 1 ≤ w1.heap.size := by have := BB1.out.size; rw [HZ.out] at this; exact this
    rw [HZ.out] at HAT1
    obtain ⟨W2, hW2⟩ : ∃ W2, (w1.alloc (.cells #[.int .i64 0] 2)).alloc (.cells #[.pointer (some ⟨w.heap.size, 0, none⟩)] 47) = W2 := ⟨_, rfl⟩
    have hs2 : W2.heap.size = w1.heap.size + 2 := by rw [← hW2]; simp
    have hB2 : Below w1.heap.size w1 W2 := by
      rw [← hW2]
      exact ((Below.refl w1.heap.size w1).alloc (Nat.le_refl _) _).alloc (by simp) _
    have c0 : W2.cell? ⟨w1.heap.size, 0, none⟩ = some (.int .i64 0) ∧ W2.frozen? ⟨w1.heap.size, 0, none⟩ = false := by
      rw [← hW2]; exact box_old _ (box_new w1 _ _)
    have c1 : W2.cell? ⟨w1.heap.size + 1, 0, none⟩ = some (.pointer (some ⟨w.heap.size, 0, none⟩)) := by
      rw [← hW2]
      have := (box_new (w1.alloc (.cells #[.int .i64 0] 2)) (.pointer (some ⟨w.heap.size, 0, none⟩)) 47).1
      rw [World.size_alloc] at this
      exact this
    rw [hW2]
    have HST := right_stops F HF.out (n - 1) (w1.heap.size + 1) (w.heap.size + 1) A k t w.heap.size 0 W2 (by omega) (by omega) c1 HL.out (HAT1.out.kept (hB2.mono hz1))
    have hBW : Below w.heap.size w W2 := B1.out.trans (hB2.mono (by omega))
    clear hW2 HAT HAT1 HT BB1 B0 HZ
    refine wpIn_rangeFunc_ownF hro h1 (gf := 38) (lb := #[.pointer (some ⟨w1.heap.size + 1, 0, none⟩)]) rfl hf2 (enters_of Try.func38 (by kernel_rfl) rfl)
      HST belowK_t (belowK_b (by omega)) (Below.refl _ _) (fun _ => rfl)
      (CountAt w1.heap.size w) (fun _ _ _ => False) (countAt_own _ _ _ (by omega)) (fun _ _ _ _ _ hs _ _ => hs)
      ⟨c0, hBW⟩
      (fun x => { tmps := #[.agg #[.slice ko t.keys.length kc, .slice vo t.vals.length vc, .slice xo t.kids.length xc], .pointer (some ⟨w.heap.size, 0, none⟩), .int .i64 0, .pointer (some ⟨w1.heap.size, 0, none⟩), .agg #[.slice ko t.keys.length kc, .slice vo t.vals.length vc, .slice xo t.kids.length xc], .bool true, .bool false, .func (.func 38) #[] #[.pointer (some ⟨w1.heap.size + 1, 0, none⟩)], .string x, undef, undef, undef], defers := [] }) ?assign ?body ?done ?stop
    case assign =>
      intro l x W K hK
      gi_wp2
      first | exact hK | simpa using hK | (simp [Array.zip, Array.zipWith]; exact hK)
    case body =>
      rintro l pre x W ⟨⟨d0, f0⟩, hBb⟩ hlen
      have hb : pre.length ≤ 16777216 := by have := HLE.out; omega
      have HP : Hid (∀ v, v = .int .i64 (((pre ++ [x]).length : Nat) : Int) → KeepsOthers W (W.setCell ⟨w1.heap.size, 0, none⟩ v) ∧ Below (w.heap.size + 1) W (W.setCell ⟨w1.heap.size, 0, none⟩ v) ∧ CountAt w1.heap.size w (pre ++ [x]) (W.setCell ⟨w1.heap.size, 0, none⟩ v)) := fun v hv => ⟨KeepsOthers.setCell _ _ _, (Below.refl _ W).setCell (p := ⟨w1.heap.size, 0, none⟩) (by show w.heap.size + 1 ≤ w1.heap.size; omega) _, ⟨by rw [hv]; exact World.cell?_setCell_same' _ _ _ (by rw [d0]; rfl), by rw [World.frozen?_setCell]; exact f0⟩, hBb.setCell (p := ⟨w1.heap.size, 0, none⟩) (by show w.heap.size ≤ w1.heap.size; omega) _⟩
      gi_wp2
      exact HP.out _ (by rw [List.length_append, List.length_singleton]; go_num)
    case done =>
      rintro D ys W hD rfl ⟨⟨d0, f0⟩, hBb⟩ hK
      have HEE : Hid (z = (allOf t).length) := by show _ = _; rw [← HZZ.out, HE.out]
      generalize (allOf t).length = y at *
      gi_wp2
      refine ⟨by simp, .inl ⟨_, _, rfl, run_takeDeferred hK, ?_⟩⟩
      exact ⟨_, results_tmp rfl _ _ _, by rw [HEE.out]; rfl, hBb.trans (belowK_b (w := w) (Nat.le_refl _) _ D _ _ (by omega) hK rfl rfl)⟩
    case stop =>
      rintro D c pre W _ _ h _
      exact h.elim
  · have HE : Hid (sizeOf t = 0) := if_neg hl
    rw [Bool.not_eq_true] at hl
    rw [hl] at HT
    obtain ⟨z, hz⟩ : ∃ z, sizeOf t = z := ⟨_, rfl⟩
    rw [hz]
    have HZZ : Hid (z = 0) := by show _ = _; rw [← hz, HE.out]
    clear hl hz HAT HE
    refine callsIn_of_wp_marks Try.func13 rfl hf ?_ hro
    simp only [Try.ntmps13, List.size_toArray, List.length_cons, List.length_nil, Nat.reduceAdd, Nat.reduceSub, Array.replicate_succ, Array.replicate_zero, List.push_toArray, List.append_toArray, List.nil_append, List.cons_append]
    gi_wp2_with (first | ((try refine ⟨hdd _, ?_⟩); gi_at_call 10; refine (HT.out _ _ B0.out).mono ?_; rintro e w1 ⟨rfl, b1⟩; have BB1 := hide b1; clear b1))
    have B1 := hide (B0.out.trans (BB1.out.mono B0.out.size))
    unfold bodyPostM
    exact ⟨_, results_tmp rfl _ _ _, by rw [HZZ.out]; rfl, B1.out⟩
theorem implTreeSize_any (A B n : Nat) (ko : Option Addr) (kc : Nat) (vo : Option Addr) (vc : Nat) (xo : Option Addr) (xc : Nat) (t : Tr) (w : World) (hB : B ≤ w.heap.size) (hr : TrRow w A B n t ko vo xo) :
    Calls Try.prog 13 #[.agg #[.slice ko t.keys.length kc, .slice vo t.vals.length vc, .slice xo t.kids.length xc]] w fun e w' => e = .returned (.int .i64 ((sizeOf t : Nat) : Int)) ∧ Below w.heap.size w w' :=
  callsIn_wide.1 (implTreeSize_in Fence.wide rfl 4 (Nat.le_refl _) A B n ko kc vo vc xo xc t w hB hr)
set_option maxHeartbeats 4000000 in
theorem lawTreeSize (v0 : Value) (w : World) (h0 : IsTree w v0) :
    Calls Try.prog 4 #[v0] w fun e w' => e = .returned (.bool true) ∧ Below w.heap.size w w' := by
  obtain ⟨n, t, ko, kc, vo, vc, xo, xc, rfl, hr⟩ := h0
  have HSZ := hide (fun (W : World) (hb : Below w.heap.size w W) => szTree_all n 0 w.heap.size ko kc vo vc xo xc t 1048576 W hb.size (TrRow.kept hb n _ _ _ _ hr) (by omega) (by omega))
  have HTO := hide (fun (hf : trFits n t) (W : World) (hb : Below w.heap.size w W) => toTree_all n 0 w.heap.size ko kc vo vc xo xc t W hb.size hf (TrRow.kept hb n _ _ _ _ hr))
  have HSP := hide (fun (A B : Nat) (ko : Option Addr) (kc : Nat) (vo : Option Addr) (vc : Nat) (xo : Option Addr) (xc : Nat) (W : World) (hB : B ≤ W.heap.size) (hr : TrRow W A B n t ko vo xo) => specTreeSize_any A B n ko kc vo vc xo xc t W hB hr)
  have HIM := hide (fun (A B : Nat) (ko : Option Addr) (kc : Nat) (vo : Option Addr) (vc : Nat) (xo : Option Addr) (xc : Nat) (W : World) (hB : B ≤ W.heap.size) (hr : TrRow W A B n t ko vo xo) => implTreeSize_any A B n ko kc vo vc xo xc t W hB hr)
  have HEQ := hide (fun (A B A' B' : Nat) (ko : Option Addr) (kc : Nat) (vo : Option Addr) (vc : Nat) (xo : Option Addr) (xc : Nat) (ko' : Option Addr) (kc' : Nat) (vo' : Option Addr) (vc' : Nat) (xo' : Option Addr) (xc' : Nat) (W : World) => eqTree_all n A B A' B' ko kc vo vc xo xc ko' kc' vo' vc' xo' xc' t W)
  generalize sizeOf t = q at *
  generalize t.keys.length = n1 at *
  generalize t.vals.length = n2 at *
  generalize t.kids.length = n3 at *
  have X0 := hide (heap_alloc_new w (.cells #[.slice ko n1 kc, .slice vo n2 vc, .slice xo n3 xc] 25))
  have B0 := hide ((Below.refl w.heap.size w).alloc (Nat.le_refl _) (.cells #[.slice ko n1 kc, .slice vo n2 vc, .slice xo n3 xc] 25))
  have HZ : Hid ((w.alloc (.cells #[.slice ko n1 kc, .slice vo n2 vc, .slice xo n3 xc] 25)).heap.size = w.heap.size + 1) := by show _ = _; simp
  clear hr
  go_enter Try.func4, Try.ntmps4
  go_wp2_with fail
  refine (HSZ.out _ B0.out).mono ?_
  generalize w.alloc (.cells #[.slice ko n1 kc, .slice vo n2 vc, .slice xo n3 xc] 25) = W0 at *
  rintro e w1 ⟨r, rfl, hr1, hcase, b1⟩
  have X1 := hide ((b1.block w.heap.size (by rw [HZ.out]; omega)).trans X0.out)
  have B1 := hide (B0.out.trans (b1.mono B0.out.size))
  have z1 : w.heap.size + 1 ≤ w1.heap.size := by have := b1.size; rw [HZ.out] at this; exact this
  clear b1 X0 B0 HZ HSZ
  obtain ⟨x0, x1, x2, xf⟩ := cells3 X1.out
  rcases hcase with hneg | ⟨hr0, hfit⟩
  · go_wp2
    go_ret
    exact ⟨rfl, B1.out⟩
  · have HF := hide hfit
    clear hfit
    go_wp2_with fail
    refine (HTO.out HF.out _ B1.out).mono ?_
    rintro e w2 ⟨k2, p2, v2, q2, y2, s2, rfl, r2, b2⟩
    have R2 := hide r2
    have X2 := hide ((b2.block w.heap.size (by omega)).trans X1.out)
    have B2 := hide (B1.out.trans (b2.mono B1.out.size))
    have z2 : w1.heap.size ≤ w2.heap.size := b2.size
    clear r2 b2 X1 x0 x1 x2 xf
    go_wp2_with fail
    refine (HSP.out _ _ _ _ _ _ _ _ _ (Nat.le_refl _) R2.out).mono ?_
    rintro e w3 ⟨rfl, b3⟩
    have X3 := hide ((b3.block w.heap.size (by omega)).trans X2.out)
    have B3 := hide (B2.out.trans (b3.mono B2.out.size))
    have z3 : w2.heap.size ≤ w3.heap.size := b3.size
    clear b3 X2 B2 B1 R2 HSP
    obtain ⟨x0, x1, x2, xf⟩ := cells3 X3.out
    go_wp2_with fail
    refine (HTO.out HF.out _ B3.out).mono ?_
    rintro e w4 ⟨k4, p4, v4, q4, y4, s4, rfl, r4, b4⟩
    have BA := (Below.refl w4.heap.size w4).alloc (Nat.le_refl _) (.cells #[.slice k4 n1 p4, .slice v4 n2 q4, .slice y4 n3 s4] 30)
    have R4 := hide (TrRow.kept BA n _ _ _ _ r4)
    have X4 := hide ((BA.block w.heap.size (by have := b4.size; omega)).trans ((b4.block w.heap.size (by omega)).trans X3.out))
    have Y4 := hide (heap_alloc_new w4 (.cells #[.slice k4 n1 p4, .slice v4 n2 q4, .slice y4 n3 s4] 30))
    have B4 := hide ((B3.out.trans (b4.mono B3.out.size)).trans (BA.mono (by have := b4.size; omega)))
    have z4 : w3.heap.size ≤ w4.heap.size := b4.size
    have HZ : Hid ((w4.alloc (.cells #[.slice k4 n1 p4, .slice v4 n2 q4, .slice y4 n3 s4] 30)).heap.size = w4.heap.size + 1) := by show _ = _; simp
    clear r4 b4 BA X3 B3 x0 x1 x2 xf
    go_wp2_with fail
    refine (HIM.out _ _ _ _ _ _ _ _ _ (show w4.heap.size ≤ _ by rw [HZ.out]; omega) R4.out).mono ?_
    generalize w4.alloc (.cells #[.slice k4 n1 p4, .slice v4 n2 q4, .slice y4 n3 s4] 30) = W4 at *
    generalize w4.heap.size = g at *
    rintro e w5 ⟨rfl, b5⟩
    have R5 := hide (TrRow.kept (b5.mono (show g ≤ W4.heap.size by rw [HZ.out]; omega)) n _ _ _ _ R4.out)
    obtain ⟨y0, y1, y2', yf⟩ := cells3 ((b5.block g (by rw [HZ.out]; omega)).trans Y4.out)
    obtain ⟨x0, x1, x2, xf⟩ := cells3 ((b5.block w.heap.size (by rw [HZ.out]; omega)).trans X4.out)
    have B5 := hide (B4.out.trans (b5.mono B4.out.size))
    have z5 : g < w5.heap.size := by have := b5.size; rw [HZ.out] at this; omega
    have z6 : w.heap.size < w5.heap.size := by omega
    clear b5 X4 Y4 B4 HZ R4 HIM xf yf
    go_wp2
    go_region_held3 (fun W => (W.cell? ⟨g, 0, none⟩ = some (.slice k4 n1 p4) ∧ W.cell? ⟨g, 1, none⟩ = some (.slice v4 n2 q4) ∧ W.cell? ⟨g, 2, none⟩ = some (.slice y4 n3 s4)) ∧ W.cell? ⟨w.heap.size, 0, none⟩ = some (.slice ko n1 kc) ∧ W.cell? ⟨w.heap.size, 1, none⟩ = some (.slice vo n2 vc) ∧ W.cell? ⟨w.heap.size, 2, none⟩ = some (.slice xo n3 xc)) (go_keep) (first | (go_at_call 9; refine (HTO.out HF.out _ B5.out.drew).mono ?_; rintro e w6 ⟨k6, p6, v6, q6, y6, s6, rfl, hr6, hb6⟩; have hb6' : Below w5.heap.size w5 w6 := (Below.refl _ _).drew.trans hb6; obtain ⟨hc6, hf6⟩ := bcell hb6') | (go_at_call 11; refine (HEQ.out _ _ _ _ _ _ _ _ _ _ _ _ _ _ _ _ _ (by have := hb6'.size; omega : g ≤ _) (Nat.le_refl _) HF.out (TrRow.kept (hb6'.mono (Nat.le_of_lt z5)) n _ _ _ _ R5.out) hr6).mono ?_; rintro e w7 ⟨rfl, hb7⟩; have hb7' : Below w5.heap.size w5 w7 := hb6'.trans (hb7.mono hb6'.size); obtain ⟨hc7, hf7⟩ := bcell hb7'))
    all_goals
      have kZ := B5.out.trans (hb7'.mono B5.out.size)
      go_wp2
      go_ret
      exact ⟨rfl, kZ⟩
end Go.Proofs.Ytffgobkgkhmeoaa
