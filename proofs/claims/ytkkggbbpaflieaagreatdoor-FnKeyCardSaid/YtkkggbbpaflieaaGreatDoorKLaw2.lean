/-
  The law on keys, out of the contracts.
-/
import Derived.Test.YtkkggbbpaflieaaGreatDoorKLaw
namespace Go.Proofs.YtkkggbbpaflieaaGreatDoor
open Go.RowKit

theorem cmpOf_flip (x y : List Val) : cmpOf y x = -cmpOf x y := by
  unfold cmpOf
  by_cases h : vsRight x = true ∧ vsRight y = true
  · rw [if_pos h, if_pos ⟨h.2, h.1⟩, cmpL_flip]
  · rw [if_neg h, if_neg (fun e => h ⟨e.2, e.1⟩)]; rfl
theorem cmpOf_three (x y : List Val) : cmpOf x y = 0 ∨ cmpOf x y = -1 ∨ cmpOf x y = 1 := by
  unfold cmpOf
  by_cases h : vsRight x = true ∧ vsRight y = true
  · rw [if_pos h]; exact cmpL_three x y
  · rw [if_neg h]; exact .inl rfl
theorem cmpOf_key (x y : List Val) (hx : vsRight x = true) (hy : vsRight y = true) (ox : ∀ v ∈ x, v.ok) (oy : ∀ v ∈ y, v.ok) : cmpOf x y = cmpB (keyOf x).data.toList (keyOf y).data.toList := by
  unfold cmpOf keyOf
  rw [if_pos ⟨hx, hy⟩, if_pos hx, if_pos hy, mkS_list, mkS_list, cmpB_keyL x y (vsRight_len hx).2 (vsRight_len hy).2 ox oy]
theorem keyRd_key (x : List Val) (hx : vsRight x = true) (ox : ∀ v ∈ x, v.ok) : keyRd (keyOf x) = (x, 0) := by
  have hs := keyOf_size x
  unfold keyRd
  rw [if_neg (by omega)]
  have : (keyOf x).data.toList = keyL x := by unfold keyOf; rw [if_pos hx, mkS_list]
  rw [this, readN_key x 12 (vsRight_len hx).1 (vsRight_len hx).2 ox]
theorem keyRd_ok (s : ByteArray) : (keyRd s).1.length ≤ 13 ∧ ∀ x ∈ (keyRd s).1, x.ok ∧ x.text.size ≤ 300 := by
  unfold keyRd
  by_cases hs : 20000 < s.size
  · rw [if_pos hs]; simp
  · rw [if_neg hs]
    cases h : readN 12 s.data.toList with
    | none => simp
    | some vs =>
      obtain ⟨h1, h2, h3, _⟩ := key_readN _ _ _ h
      refine ⟨Nat.le_trans h1 (by omega), fun x hx => ⟨h3 x hx, ?_⟩⟩
      have hv := List.all_eq_true.1 h2 x hx
      unfold vRight at hv
      by_cases k0 : x.kind = 0
      · rw [if_pos k0] at hv; have := of_decide_eq_true hv; omega
      rw [if_neg k0] at hv
      by_cases k1 : x.kind = 1
      · rw [if_pos k1] at hv; have := of_decide_eq_true hv; omega
      rw [if_neg k1] at hv
      by_cases k2 : x.kind = 2
      · rw [if_pos k2] at hv; have := of_decide_eq_true hv; omega
      rw [if_neg k2] at hv
      by_cases k3 : x.kind = 3
      · rw [if_pos k3] at hv; have := of_decide_eq_true hv; omega
      rw [if_neg k3] at hv; exact absurd hv (by simp)
/-- What is read is told by just these bytes. -/
theorem keyRd_back (s : ByteArray) (hs : s.size ≤ 20000) (h0 : (keyRd s).2 = 0) : keyOf (keyRd s).1 = s := by
  unfold keyRd at h0 ⊢
  rw [if_neg (by omega)] at h0 ⊢
  cases h : readN 12 s.data.toList with
  | none => rw [h] at h0; simp at h0
  | some vs =>
    obtain ⟨h1, h2, h3, h4⟩ := key_readN _ _ _ h
    have hr : vsRight vs = true := by unfold vsRight; rw [h2, decide_eq_true h1]; rfl
    show keyOf vs = s
    unfold keyOf
    rw [if_pos hr, h4, mkS_data]
set_option maxRecDepth 100000 in
set_option maxHeartbeats 40000000 in
theorem lawKey (a0 : Option Addr) (len0 cap0 : Nat) (z0 : List Int) (a1 : Option Addr) (len1 cap1 : Nat) (z1 : List Int) (w : World) (w0 : ByteRow w w.heap.size a0 len0 z0) (w1 : ByteRow w w.heap.size a1 len1 z1) (hg : w.cell? ⟨0, 0, none⟩ = some errTypeV) (m : Int) (hm : w.cell? ⟨1, 0, none⟩ = some (.int .i64 m)) :
    Calls Tryz.prog 3 #[.slice a0 len0 cap0, .slice a1 len1 cap1] w fun e w' => e = .returned (.bool true) ∧ Below w.heap.size w w' := by
  by_cases h0 : 1048576 < len0
  · go_enter Tryz.func3, Tryz.ntmps3
    go_wp2
    go_ret
    exact ⟨rfl, Below.refl _ _⟩
  by_cases h1 : 1048576 < len1
  · go_enter Tryz.func3, Tryz.ntmps3
    go_wp2
    go_ret
    exact ⟨rfl, Below.refl _ _⟩
  have hlt0 : (0 : Nat) < w.heap.size := block_lt_of_cell hg
  have hltm : 1 < w.heap.size := block_lt_of_cell hm
  have HG : Hid (∀ W, Below w.heap.size w W → W.cell? ⟨0, 0, none⟩ = some errTypeV) := fun W hb => (hb.cell (p := ⟨0, 0, none⟩) hlt0).trans hg
  have HM : Hid (∀ W, Below w.heap.size w W → W.cell? ⟨1, 0, none⟩ = some (.int .i64 m)) := fun W hb => (hb.cell (p := ⟨1, 0, none⟩) hltm).trans hm
  have HR0 : Hid (ByteRow w w.heap.size a0 len0 z0) := w0
  have HR1 : Hid (∀ W, Below w.heap.size w W → ByteRow W w.heap.size a1 len1 z1) := fun W hb => w1.kept hb
  clear hg hm w0 w1 hlt0 hltm
  go_enter Tryz.func3, Tryz.ntmps3
  go_wp2_with fail
  refine (drawCompare_any w.heap.size a0 len0 cap0 z0 _ (Nat.le_refl _) (by omega) HR0.out).mono ?_
  rintro e w1 ⟨v, u, vs, us, rfl, hv, hu, hb1⟩
  obtain ⟨ao, ac, rfl, hva⟩ := hv.row
  obtain ⟨bo, bc, rfl, hub⟩ := hu.row
  have hz1 := hb1.size
  have hvm : vs.length ≤ maxLen := by have := hv.2.1; unfold maxLen; omega
  have hum : us.length ≤ maxLen := by have := hu.2.1; unfold maxLen; omega
  have HA : Hid (∀ W, Below w1.heap.size w1 W → ValRow W W.heap.size ao vs) := fun W hb => (hva.kept hb).mono hb.size
  have HB : Hid (∀ W, Below w1.heap.size w1 W → ValRow W W.heap.size bo us) := fun W hb => (hub.kept hb).mono hb.size
  have HT : Hid (∀ W, Below w1.heap.size w1 W → Below w.heap.size w W) := fun W hb => hb1.trans (hb.mono hz1)
  have KA : Hid (∀ W, Below w1.heap.size w1 W → Calls Tryz.prog 5 #[.slice ao vs.length ac] W fun e w' => e = .returned (.string (keyOf vs)) ∧ Below w1.heap.size w1 w') := fun W hb => (implKeyBytes_any ao ac vs W hvm (HA.out W hb) m (HM.out W (HT.out W hb))).mono (fun _ _ h => ⟨h.1, hb.trans (h.2.mono hb.size)⟩)
  have KB : Hid (∀ W, Below w1.heap.size w1 W → Calls Tryz.prog 5 #[.slice bo us.length bc] W fun e w' => e = .returned (.string (keyOf us)) ∧ Below w1.heap.size w1 w') := fun W hb => (implKeyBytes_any bo bc us W hum (HB.out W hb) m (HM.out W (HT.out W hb))).mono (fun _ _ h => ⟨h.1, hb.trans (h.2.mono hb.size)⟩)
  have SA : Hid (∀ W, Below w1.heap.size w1 W → Calls Tryz.prog 6 #[.slice ao vs.length ac] W fun e w' => e = .returned (.string (keyOf vs)) ∧ Below w1.heap.size w1 w') := fun W hb => (specKeyBytes_any ao ac vs W hvm (HA.out W hb)).mono (fun _ _ h => ⟨h.1, hb.trans (h.2.mono hb.size)⟩)
  have SB : Hid (∀ W, Below w1.heap.size w1 W → Calls Tryz.prog 6 #[.slice bo us.length bc] W fun e w' => e = .returned (.string (keyOf us)) ∧ Below w1.heap.size w1 w') := fun W hb => (specKeyBytes_any bo bc us W hum (HB.out W hb)).mono (fun _ _ h => ⟨h.1, hb.trans (h.2.mono hb.size)⟩)
  have CI : Hid (∀ W, Below w1.heap.size w1 W → Calls Tryz.prog 7 #[.slice ao vs.length ac, .slice bo us.length bc] W fun e w' => e = .returned (.int .i64 (cmpOf vs us)) ∧ Below w1.heap.size w1 w') := fun W hb => (implCompare_any ao ac vs bo bc us W hvm hum (HA.out W hb) (HB.out W hb)).mono (fun _ _ h => ⟨h.1, hb.trans (h.2.mono hb.size)⟩)
  have CF : Hid (∀ W, Below w1.heap.size w1 W → Calls Tryz.prog 7 #[.slice bo us.length bc, .slice ao vs.length ac] W fun e w' => e = .returned (.int .i64 (-cmpOf vs us)) ∧ Below w1.heap.size w1 w') := fun W hb => (implCompare_any bo bc us ao ac vs W hum hvm (HB.out W hb) (HA.out W hb)).mono (fun _ _ h => ⟨by rw [h.1, cmpOf_flip], hb.trans (h.2.mono hb.size)⟩)
  have CS : Hid (∀ W, Below w1.heap.size w1 W → Calls Tryz.prog 8 #[.slice ao vs.length ac, .slice bo us.length bc] W fun e w' => e = .returned (.int .i64 (cmpOf vs us)) ∧ Below w1.heap.size w1 w') := fun W hb => (specCompare_any ao ac vs bo bc us W hvm hum (HA.out W hb) (HB.out W hb)).mono (fun _ _ h => ⟨h.1, hb.trans (h.2.mono hb.size)⟩)
  have HK : Hid ((∀ x ∈ vs, x.ok) ∧ (∀ x ∈ us, x.ok)) := ⟨fun x hx => (hv.2.2 x hx).1, fun x hx => (hu.2.2 x hx).1⟩
  have VA : Hid (∀ W, Below w1.heap.size w1 W → Calls Tryz.prog 9 #[.slice ao vs.length ac] W fun e w' => e = .returned (.bool (vsRight vs)) ∧ Below w1.heap.size w1 w') := fun W hb => (specValuesRight_any W.heap.size ao ac vs W (Nat.le_refl _) hvm (HA.out W hb)).mono (fun _ _ h => ⟨h.1, hb.trans (h.2.mono hb.size)⟩)
  have VB : Hid (∀ W, Below w1.heap.size w1 W → Calls Tryz.prog 9 #[.slice bo us.length bc] W fun e w' => e = .returned (.bool (vsRight us)) ∧ Below w1.heap.size w1 w') := fun W hb => (specValuesRight_any W.heap.size bo bc us W (Nat.le_refl _) hum (HB.out W hb)).mono (fun _ _ h => ⟨h.1, hb.trans (h.2.mono hb.size)⟩)
  have hX : (keyOf vs).size ≤ 4836 := keyOf_size vs
  have hC := cmpOf_three vs us
  have HC : Hid (vsRight vs = true → vsRight us = true → cmpOf vs us = cmpB (keyOf vs).data.toList (keyOf us).data.toList) := fun h1 h2 => cmpOf_key vs us h1 h2 HK.out.1 HK.out.2
  have HX : Hid (vsRight vs = true → keyRd (keyOf vs) = (vs, 0)) := fun h1 => keyRd_key vs h1 HK.out.1
  have hfld0 : ∀ (a b : Value) (W : World), (Instr.field 31 (.agg #[a, b]) 0).run Tryz.prog W = .ok a W := fun a b W => by kernel_rfl
  have hfld1 : ∀ (a b : Value) (W : World), (Instr.field 31 (.agg #[a, b]) 1).run Tryz.prog W = .ok b W := fun a b W => by kernel_rfl
  have HTL : Hid (∀ W, Below w1.heap.size w1 W → Calls Tryz.prog 12 #[.slice a1 len1 cap1] W fun e w' => ∃ u : ByteArray, e = .returned (.string u) ∧ u.size ≤ 4837 ∧ Below w1.heap.size w1 w') := fun W hb => (drawKeyRead_any w.heap.size a1 len1 cap1 z1 W (HT.out W hb).size (by omega) (HR1.out W (HT.out W hb))).mono (fun _ _ ⟨u, h⟩ => ⟨u, h.1, h.2.1, hb.trans (h.2.2.mono hb.size)⟩)
  have HKI : Hid (∀ (u : ByteArray) W, u.size ≤ 4837 → Below w1.heap.size w1 W → Calls Tryz.prog 11 #[.string u] W fun e w' => ∃ ao' c', e = .returned (.agg #[.slice ao' (keyRd u).1.length c', .int .i64 ((keyRd u).2 : Int)]) ∧ ValRow w' w'.heap.size ao' (keyRd u).1 ∧ Below w1.heap.size w1 w') := fun u W hu hb => (implKeyRead_any u (by unfold maxLen; omega) W (HG.out W (HT.out W hb))).mono (fun _ w' ⟨v, h⟩ => by
    obtain ⟨ao', c', rfl, hr⟩ := (show VsOk (keyRd u).1 v W.heap.size w' from ⟨h.2.1, keyRd_ok u⟩).row
    exact ⟨ao', c', h.1, hr, hb.trans (h.2.2.mono hb.size)⟩)
  have HKS : Hid (∀ (u : ByteArray) W, u.size ≤ 4837 → Below w1.heap.size w1 W → Calls Tryz.prog 13 #[.string u] W fun e w' => ∃ ao' c', e = .returned (.agg #[.slice ao' (keyRd u).1.length c', .int .i64 ((keyRd u).2 : Int)]) ∧ Below w1.heap.size w1 w') := fun u W hu hb => (specKeyRead_any u (by unfold maxLen; omega) W).mono (fun _ w' ⟨v, h⟩ => by
    obtain ⟨ao', c', rfl⟩ := ownV_shape h.2.1
    exact ⟨ao', c', h.1, hb.trans (h.2.2.mono hb.size)⟩)
  generalize keyOf vs = X at *
  generalize keyOf us = Y at *
  generalize cmpOf vs us = C at *
  have hC0 : -1 ≤ C ∧ C ≤ 1 := by omega
  have k1 := Below.refl w1.heap.size w1
  clear hv hu hva hub hb1
  go_wp2_with fail
  refine (KA.out _ k1).mono ?_
  rintro e w2 ⟨rfl, k2⟩
  clear k1
  go_wp2_with fail
  refine (KB.out _ k2).mono ?_
  rintro e w3 ⟨rfl, k3⟩
  clear k2
  go_wp2_with fail
  refine (SA.out _ k3).mono ?_
  rintro e w4 ⟨rfl, k4⟩
  clear k3
  go_wp2_with fail
  refine (SB.out _ k4).mono ?_
  rintro e w5 ⟨rfl, k5⟩
  clear k4
  go_wp2_with fail
  refine (CI.out _ k5).mono ?_
  rintro e w6 ⟨rfl, k6⟩
  clear k5
  go_wp2_with fail
  refine (CS.out _ k6).mono ?_
  rintro e w7 ⟨rfl, k7⟩
  clear k6
  go_wp2_with fail
  refine (CF.out _ k7).mono ?_
  rintro e w8 ⟨rfl, k8⟩
  clear k7
  go_wp2_with fail
  refine (CI.out _ k8).mono ?_
  rintro e w9 ⟨rfl, k9⟩
  clear k8
  go_wp2_with fail
  refine (VA.out _ k9).mono ?_
  rintro e w10 ⟨rfl, k10⟩
  clear k9
  cases hva : vsRight vs with
  | false =>
    clear HC HX
    go_wp2_with fail
    refine (HTL.out _ k10).mono ?_
    rintro e w20 ⟨u, rfl, hu, k20⟩
    clear k10
    have HBK : Hid ((keyRd u).2 = 0 → keyOf (keyRd u).1 = u) := keyRd_back u (by omega)
    have hrl : (keyRd u).1.length ≤ maxLen := by have := (keyRd_ok u).1; unfold maxLen; omega
    go_wp2_with fail
    refine (HKI.out u _ hu k20).mono ?_
    rintro e w21 ⟨ro, rc, rfl, hrow, k21⟩
    have HRW : Hid (ValRow w21 w21.heap.size ro (keyRd u).1) := hrow
    clear k20 hrow
    have k22 := k21.alloc (k21.size) (.cells #[.slice ro (keyRd u).1.length rc, .int .i64 ((keyRd u).2 : Int)] 31)
    have hKS : ∀ W, Calls Tryz.prog 13 #[.string u] W fun e w' => ∃ ao' c', e = .returned (.agg #[.slice ao' (keyRd u).1.length c', .int .i64 ((keyRd u).2 : Int)]) ∧ Below W.heap.size W w' := fun W => (specKeyRead_any u (by unfold maxLen; omega) W).mono (fun _ w' ⟨v, h⟩ => by
      obtain ⟨ao', c', rfl⟩ := ownV_shape h.2.1
      exact ⟨ao', c', h.1, h.2.2⟩)
    have hKB : ∀ W, Below w21.heap.size w21 W → Calls Tryz.prog 5 #[.slice ro (keyRd u).1.length rc] W fun e w' => e = .returned (.string (keyOf (keyRd u).1)) ∧ Below W.heap.size W w' := fun W hb => implKeyBytes_any ro rc _ W hrl ((HRW.out.kept hb).mono hb.size) m (HM.out W (HT.out W (k21.trans (hb.mono k21.size))))
    have HKB : Hid (∀ W, Below w21.heap.size w21 W → Calls Tryz.prog 5 #[.slice ro (keyRd u).1.length rc] W fun e w' => e = .returned (.string (keyOf (keyRd u).1)) ∧ Below W.heap.size W w') := hKB
    clear hKB HRW
    generalize (keyRd u).2 = cd at *
    generalize (keyRd u).1 = rs at *
    by_cases hcd : cd = 0
    · subst hcd
      have hbk : keyOf rs = u := HBK.out rfl
      rw [hbk] at HKB
      clear hbk HBK HKI HKS HTL KA KB SA SB CI CF CS VA VB HA HB HR0 HR1 HG HM HK hC hC0
      go_wp2_with fail
      have k22 := k21.alloc (k21.size) (.cells #[.slice ro rs.length rc, .int .i64 (0 : Nat)] 31)
      obtain ⟨c0, c1, cf⟩ := cells2 (heap_alloc_new w21 (.cells #[.slice ro rs.length rc, .int .i64 (0 : Nat)] 31))
      have kA : Below w21.heap.size w21 (w21.alloc (.cells #[.slice ro rs.length rc, .int .i64 (0 : Nat)] 31)) := (Below.refl _ _).alloc (Nat.le_refl _) _
      have hsz22 : w21.heap.size < (w21.alloc (.cells #[.slice ro rs.length rc, .int .i64 (0 : Nat)] 31)).heap.size := by simp
      have HKB2 : Hid (∀ W, Below (w21.alloc (.cells #[.slice ro rs.length rc, .int .i64 (0 : Nat)] 31)).heap.size (w21.alloc (.cells #[.slice ro rs.length rc, .int .i64 (0 : Nat)] 31)) W → Calls Tryz.prog 5 #[.slice ro rs.length rc] W fun e w' => e = .returned (.string u) ∧ Below W.heap.size W w') := fun W hb => HKB.out W (kA.trans (hb.mono kA.size))
      generalize w21.alloc (.cells #[.slice ro rs.length rc, .int .i64 (0 : Nat)] 31) = w22 at *
      generalize w21.heap.size = rb at *
      clear HKB kA
      go_region_held3 (fun W => W.cell? ⟨rb, 0, none⟩ = some (.slice ro rs.length rc) ∧ W.cell? ⟨rb, 1, none⟩ = some (.int .i64 (0 : Nat))) (go_keep) (first | (go_at_call 13; refine (hKS _).mono ?_; rintro e w25 ⟨qo, qc, rfl, hb25⟩; have hb25' : Below w22.heap.size w22 w25 := (Below.refl _ _).drew.trans hb25; obtain ⟨hc25, hf25⟩ := bcell hb25') | (go_at_call 5; refine (HKB2.out _ hb25').mono ?_; rintro e w26 ⟨rfl, hb26⟩; have hb26' : Below w22.heap.size w22 w26 := hb25'.trans (hb26.mono hb25'.size); obtain ⟨hc26, hf26⟩ := bcell hb26'))
      all_goals
        have kZ := HT.out _ (k22.trans (hb26'.mono k22.size))
        go_wp2
        go_ret
        exact ⟨rfl, kZ⟩
    · have hcd' : ¬ ((cd : Int) = 0) := by omega
      clear HKB HBK HKI HKS HTL KA KB SA SB CI CF CS VA VB HA HB HR0 HR1 HG HM HK hC hC0
      go_wp2_with fail
      have k22 := k21.alloc (k21.size) (.cells #[.slice ro rs.length rc, .int .i64 (cd : Int)] 31)
      obtain ⟨c0, c1, cf⟩ := cells2 (heap_alloc_new w21 (.cells #[.slice ro rs.length rc, .int .i64 (cd : Int)] 31))
      have hsz22 : w21.heap.size < (w21.alloc (.cells #[.slice ro rs.length rc, .int .i64 (cd : Int)] 31)).heap.size := by simp
      generalize w21.alloc (.cells #[.slice ro rs.length rc, .int .i64 (cd : Int)] 31) = w22 at *
      generalize w21.heap.size = rb at *
      first | go_region_with (go_at_call 13; refine (hKS _).mono ?_; rintro e w25 ⟨qo, qc, rfl, hb25⟩; have hb25' : Below w22.heap.size w22 w25 := (Below.refl _ _).drew.trans hb25; obtain ⟨hc25, hf25⟩ := bcell hb25') | fail
      all_goals
        have kZ := HT.out _ (k22.trans (hb25'.mono k22.size))
        go_wp2
        go_ret
        exact ⟨rfl, kZ⟩
  | true =>
    go_wp2_with fail
    refine (VB.out _ k10).mono ?_
    rintro e w11 ⟨rfl, k11⟩
    clear k10
    cases hvb : vsRight us with
    | false =>
      clear HC HX
      go_wp2_with fail
      refine (HTL.out _ k11).mono ?_
      rintro e w20 ⟨u, rfl, hu, k20⟩
      clear k11
      have HBK : Hid ((keyRd u).2 = 0 → keyOf (keyRd u).1 = u) := keyRd_back u (by omega)
      have hrl : (keyRd u).1.length ≤ maxLen := by have := (keyRd_ok u).1; unfold maxLen; omega
      go_wp2_with fail
      refine (HKI.out u _ hu k20).mono ?_
      rintro e w21 ⟨ro, rc, rfl, hrow, k21⟩
      have HRW : Hid (ValRow w21 w21.heap.size ro (keyRd u).1) := hrow
      clear k20 hrow
      have k22 := k21.alloc (k21.size) (.cells #[.slice ro (keyRd u).1.length rc, .int .i64 ((keyRd u).2 : Int)] 31)
      have hKS : ∀ W, Calls Tryz.prog 13 #[.string u] W fun e w' => ∃ ao' c', e = .returned (.agg #[.slice ao' (keyRd u).1.length c', .int .i64 ((keyRd u).2 : Int)]) ∧ Below W.heap.size W w' := fun W => (specKeyRead_any u (by unfold maxLen; omega) W).mono (fun _ w' ⟨v, h⟩ => by
        obtain ⟨ao', c', rfl⟩ := ownV_shape h.2.1
        exact ⟨ao', c', h.1, h.2.2⟩)
      have hKB : ∀ W, Below w21.heap.size w21 W → Calls Tryz.prog 5 #[.slice ro (keyRd u).1.length rc] W fun e w' => e = .returned (.string (keyOf (keyRd u).1)) ∧ Below W.heap.size W w' := fun W hb => implKeyBytes_any ro rc _ W hrl ((HRW.out.kept hb).mono hb.size) m (HM.out W (HT.out W (k21.trans (hb.mono k21.size))))
      have HKB : Hid (∀ W, Below w21.heap.size w21 W → Calls Tryz.prog 5 #[.slice ro (keyRd u).1.length rc] W fun e w' => e = .returned (.string (keyOf (keyRd u).1)) ∧ Below W.heap.size W w') := hKB
      clear hKB HRW
      generalize (keyRd u).2 = cd at *
      generalize (keyRd u).1 = rs at *
      by_cases hcd : cd = 0
      · subst hcd
        have hbk : keyOf rs = u := HBK.out rfl
        rw [hbk] at HKB
        clear hbk HBK HKI HKS HTL KA KB SA SB CI CF CS VA VB HA HB HR0 HR1 HG HM HK hC hC0
        go_wp2_with fail
        have k22 := k21.alloc (k21.size) (.cells #[.slice ro rs.length rc, .int .i64 (0 : Nat)] 31)
        obtain ⟨c0, c1, cf⟩ := cells2 (heap_alloc_new w21 (.cells #[.slice ro rs.length rc, .int .i64 (0 : Nat)] 31))
        have kA : Below w21.heap.size w21 (w21.alloc (.cells #[.slice ro rs.length rc, .int .i64 (0 : Nat)] 31)) := (Below.refl _ _).alloc (Nat.le_refl _) _
        have hsz22 : w21.heap.size < (w21.alloc (.cells #[.slice ro rs.length rc, .int .i64 (0 : Nat)] 31)).heap.size := by simp
        have HKB2 : Hid (∀ W, Below (w21.alloc (.cells #[.slice ro rs.length rc, .int .i64 (0 : Nat)] 31)).heap.size (w21.alloc (.cells #[.slice ro rs.length rc, .int .i64 (0 : Nat)] 31)) W → Calls Tryz.prog 5 #[.slice ro rs.length rc] W fun e w' => e = .returned (.string u) ∧ Below W.heap.size W w') := fun W hb => HKB.out W (kA.trans (hb.mono kA.size))
        generalize w21.alloc (.cells #[.slice ro rs.length rc, .int .i64 (0 : Nat)] 31) = w22 at *
        generalize w21.heap.size = rb at *
        clear HKB kA
        go_region_held3 (fun W => W.cell? ⟨rb, 0, none⟩ = some (.slice ro rs.length rc) ∧ W.cell? ⟨rb, 1, none⟩ = some (.int .i64 (0 : Nat))) (go_keep) (first | (go_at_call 13; refine (hKS _).mono ?_; rintro e w25 ⟨qo, qc, rfl, hb25⟩; have hb25' : Below w22.heap.size w22 w25 := (Below.refl _ _).drew.trans hb25; obtain ⟨hc25, hf25⟩ := bcell hb25') | (go_at_call 5; refine (HKB2.out _ hb25').mono ?_; rintro e w26 ⟨rfl, hb26⟩; have hb26' : Below w22.heap.size w22 w26 := hb25'.trans (hb26.mono hb25'.size); obtain ⟨hc26, hf26⟩ := bcell hb26'))
        all_goals
          have kZ := HT.out _ (k22.trans (hb26'.mono k22.size))
          go_wp2
          go_ret
          exact ⟨rfl, kZ⟩
      · have hcd' : ¬ ((cd : Int) = 0) := by omega
        clear HKB HBK HKI HKS HTL KA KB SA SB CI CF CS VA VB HA HB HR0 HR1 HG HM HK hC hC0
        go_wp2_with fail
        have k22 := k21.alloc (k21.size) (.cells #[.slice ro rs.length rc, .int .i64 (cd : Int)] 31)
        obtain ⟨c0, c1, cf⟩ := cells2 (heap_alloc_new w21 (.cells #[.slice ro rs.length rc, .int .i64 (cd : Int)] 31))
        have hsz22 : w21.heap.size < (w21.alloc (.cells #[.slice ro rs.length rc, .int .i64 (cd : Int)] 31)).heap.size := by simp
        generalize w21.alloc (.cells #[.slice ro rs.length rc, .int .i64 (cd : Int)] 31) = w22 at *
        generalize w21.heap.size = rb at *
        first | go_region_with (go_at_call 13; refine (hKS _).mono ?_; rintro e w25 ⟨qo, qc, rfl, hb25⟩; have hb25' : Below w22.heap.size w22 w25 := (Below.refl _ _).drew.trans hb25; obtain ⟨hc25, hf25⟩ := bcell hb25') | fail
        all_goals
          have kZ := HT.out _ (k22.trans (hb25'.mono k22.size))
          go_wp2
          go_ret
          exact ⟨rfl, kZ⟩
    | true =>
      have hv12 := (vsRight_len hva).1
      have HE : Hid (C = cmpB X.data.toList Y.data.toList) := HC.out hva hvb
      have HQ : Hid (keyRd X = (vs, 0)) := HX.out hva
      have hXY : Op.bytesLess X.toList Y.toList = decide (C = -1) := by rw [less_iff, ← HE.out]
      have hYX : Op.bytesLess Y.toList X.toList = decide (C = 1) := by
        rw [less_iff, cmpB_flip, ← HE.out]
        exact decide_eq_decide.2 (by omega)
      have hEQ : (X.toList == Y.toList) = decide (C = 0) := by rw [eq_iff, ← HE.out]
      have HKX : Hid (∀ W, Below w1.heap.size w1 W → Calls Tryz.prog 11 #[.string X] W fun e w' => ∃ ao' c', e = .returned (.agg #[.slice ao' vs.length c', .int .i64 ((0 : Nat) : Int)]) ∧ ValRow w' w'.heap.size ao' vs ∧ Below w1.heap.size w1 w') := fun W hb => by
        have := HKI.out X W (by omega) hb
        rw [HQ.out] at this
        exact this
      clear HC HX HE HQ hva hvb
      rcases hC with rfl | rfl | rfl
      · have hXY0 : Op.bytesLess X.toList Y.toList = false := by rw [hXY]; rfl
        have hYX0 : Op.bytesLess Y.toList X.toList = false := by rw [hYX]; rfl
        have hEQ0 : (X.toList == Y.toList) = true := by rw [hEQ]; rfl
        clear hXY hYX hEQ
        go_wp2_with fail
        refine (CI.out _ k11).mono ?_
        rintro e w12 ⟨rfl, k12⟩
        clear k11
        go_wp2_with fail
        refine (HKX.out _ k12).mono ?_
        rintro e w13 ⟨po, pc, rfl, hpr, k13⟩
        have HPR : Hid (ValRow w13 w13.heap.size po vs) := hpr
        clear k12 hpr
        go_wp2_with fail
        refine (lwValues_same po pc ao ac vs _ (by omega) HPR.out (HA.out _ k13)).mono ?_
        rintro e w14 ⟨rfl, hb14⟩
        have k14 := k13.trans (hb14.mono k13.size)
        clear k13 hb14 HPR
        go_wp2_with fail
        refine (HTL.out _ k14).mono ?_
        rintro e w20 ⟨u, rfl, hu, k20⟩
        clear k14
        have HBK : Hid ((keyRd u).2 = 0 → keyOf (keyRd u).1 = u) := keyRd_back u (by omega)
        have hrl : (keyRd u).1.length ≤ maxLen := by have := (keyRd_ok u).1; unfold maxLen; omega
        go_wp2_with fail
        refine (HKI.out u _ hu k20).mono ?_
        rintro e w21 ⟨ro, rc, rfl, hrow, k21⟩
        have HRW : Hid (ValRow w21 w21.heap.size ro (keyRd u).1) := hrow
        clear k20 hrow
        have k22 := k21.alloc (k21.size) (.cells #[.slice ro (keyRd u).1.length rc, .int .i64 ((keyRd u).2 : Int)] 31)
        have hKS : ∀ W, Calls Tryz.prog 13 #[.string u] W fun e w' => ∃ ao' c', e = .returned (.agg #[.slice ao' (keyRd u).1.length c', .int .i64 ((keyRd u).2 : Int)]) ∧ Below W.heap.size W w' := fun W => (specKeyRead_any u (by unfold maxLen; omega) W).mono (fun _ w' ⟨v, h⟩ => by
          obtain ⟨ao', c', rfl⟩ := ownV_shape h.2.1
          exact ⟨ao', c', h.1, h.2.2⟩)
        have hKB : ∀ W, Below w21.heap.size w21 W → Calls Tryz.prog 5 #[.slice ro (keyRd u).1.length rc] W fun e w' => e = .returned (.string (keyOf (keyRd u).1)) ∧ Below W.heap.size W w' := fun W hb => implKeyBytes_any ro rc _ W hrl ((HRW.out.kept hb).mono hb.size) m (HM.out W (HT.out W (k21.trans (hb.mono k21.size))))
        have HKB : Hid (∀ W, Below w21.heap.size w21 W → Calls Tryz.prog 5 #[.slice ro (keyRd u).1.length rc] W fun e w' => e = .returned (.string (keyOf (keyRd u).1)) ∧ Below W.heap.size W w') := hKB
        clear hKB HRW
        generalize (keyRd u).2 = cd at *
        generalize (keyRd u).1 = rs at *
        by_cases hcd : cd = 0
        · subst hcd
          have hbk : keyOf rs = u := HBK.out rfl
          rw [hbk] at HKB
          clear hbk HBK HKI HKS HTL HKX KA KB SA SB CI CF CS VA VB HA HB HR0 HR1 HG HM HK hC0
          go_wp2_with fail
          have k22 := k21.alloc (k21.size) (.cells #[.slice ro rs.length rc, .int .i64 (0 : Nat)] 31)
          obtain ⟨c0, c1, cf⟩ := cells2 (heap_alloc_new w21 (.cells #[.slice ro rs.length rc, .int .i64 (0 : Nat)] 31))
          have kA : Below w21.heap.size w21 (w21.alloc (.cells #[.slice ro rs.length rc, .int .i64 (0 : Nat)] 31)) := (Below.refl _ _).alloc (Nat.le_refl _) _
          have hsz22 : w21.heap.size < (w21.alloc (.cells #[.slice ro rs.length rc, .int .i64 (0 : Nat)] 31)).heap.size := by simp
          have HKB2 : Hid (∀ W, Below (w21.alloc (.cells #[.slice ro rs.length rc, .int .i64 (0 : Nat)] 31)).heap.size (w21.alloc (.cells #[.slice ro rs.length rc, .int .i64 (0 : Nat)] 31)) W → Calls Tryz.prog 5 #[.slice ro rs.length rc] W fun e w' => e = .returned (.string u) ∧ Below W.heap.size W w') := fun W hb => HKB.out W (kA.trans (hb.mono kA.size))
          generalize w21.alloc (.cells #[.slice ro rs.length rc, .int .i64 (0 : Nat)] 31) = w22 at *
          generalize w21.heap.size = rb at *
          clear HKB kA
          go_region_held3 (fun W => W.cell? ⟨rb, 0, none⟩ = some (.slice ro rs.length rc) ∧ W.cell? ⟨rb, 1, none⟩ = some (.int .i64 (0 : Nat))) (go_keep) (first | (go_at_call 13; refine (hKS _).mono ?_; rintro e w25 ⟨qo, qc, rfl, hb25⟩; have hb25' : Below w22.heap.size w22 w25 := (Below.refl _ _).drew.trans hb25; obtain ⟨hc25, hf25⟩ := bcell hb25') | (go_at_call 5; refine (HKB2.out _ hb25').mono ?_; rintro e w26 ⟨rfl, hb26⟩; have hb26' : Below w22.heap.size w22 w26 := hb25'.trans (hb26.mono hb25'.size); obtain ⟨hc26, hf26⟩ := bcell hb26'))
          all_goals
            have kZ := HT.out _ (k22.trans (hb26'.mono k22.size))
            go_wp2
            go_ret
            exact ⟨rfl, kZ⟩
        · have hcd' : ¬ ((cd : Int) = 0) := by omega
          clear HKB HBK HKI HKS HTL HKX KA KB SA SB CI CF CS VA VB HA HB HR0 HR1 HG HM HK hC0
          go_wp2_with fail
          have k22 := k21.alloc (k21.size) (.cells #[.slice ro rs.length rc, .int .i64 (cd : Int)] 31)
          obtain ⟨c0, c1, cf⟩ := cells2 (heap_alloc_new w21 (.cells #[.slice ro rs.length rc, .int .i64 (cd : Int)] 31))
          have hsz22 : w21.heap.size < (w21.alloc (.cells #[.slice ro rs.length rc, .int .i64 (cd : Int)] 31)).heap.size := by simp
          generalize w21.alloc (.cells #[.slice ro rs.length rc, .int .i64 (cd : Int)] 31) = w22 at *
          generalize w21.heap.size = rb at *
          first | go_region_with (go_at_call 13; refine (hKS _).mono ?_; rintro e w25 ⟨qo, qc, rfl, hb25⟩; have hb25' : Below w22.heap.size w22 w25 := (Below.refl _ _).drew.trans hb25; obtain ⟨hc25, hf25⟩ := bcell hb25') | fail
          all_goals
            have kZ := HT.out _ (k22.trans (hb25'.mono k22.size))
            go_wp2
            go_ret
            exact ⟨rfl, kZ⟩
      · have hXY0 : Op.bytesLess X.toList Y.toList = true := by rw [hXY]; rfl
        have hYX0 : Op.bytesLess Y.toList X.toList = false := by rw [hYX]; rfl
        have hEQ0 : (X.toList == Y.toList) = false := by rw [hEQ]; rfl
        clear hXY hYX hEQ
        go_wp2_with fail
        refine (CI.out _ k11).mono ?_
        rintro e w12 ⟨rfl, k12⟩
        clear k11
        go_wp2_with fail
        refine (HKX.out _ k12).mono ?_
        rintro e w13 ⟨po, pc, rfl, hpr, k13⟩
        have HPR : Hid (ValRow w13 w13.heap.size po vs) := hpr
        clear k12 hpr
        go_wp2_with fail
        refine (lwValues_same po pc ao ac vs _ (by omega) HPR.out (HA.out _ k13)).mono ?_
        rintro e w14 ⟨rfl, hb14⟩
        have k14 := k13.trans (hb14.mono k13.size)
        clear k13 hb14 HPR
        go_wp2_with fail
        refine (HTL.out _ k14).mono ?_
        rintro e w20 ⟨u, rfl, hu, k20⟩
        clear k14
        have HBK : Hid ((keyRd u).2 = 0 → keyOf (keyRd u).1 = u) := keyRd_back u (by omega)
        have hrl : (keyRd u).1.length ≤ maxLen := by have := (keyRd_ok u).1; unfold maxLen; omega
        go_wp2_with fail
        refine (HKI.out u _ hu k20).mono ?_
        rintro e w21 ⟨ro, rc, rfl, hrow, k21⟩
        have HRW : Hid (ValRow w21 w21.heap.size ro (keyRd u).1) := hrow
        clear k20 hrow
        have k22 := k21.alloc (k21.size) (.cells #[.slice ro (keyRd u).1.length rc, .int .i64 ((keyRd u).2 : Int)] 31)
        have hKS : ∀ W, Calls Tryz.prog 13 #[.string u] W fun e w' => ∃ ao' c', e = .returned (.agg #[.slice ao' (keyRd u).1.length c', .int .i64 ((keyRd u).2 : Int)]) ∧ Below W.heap.size W w' := fun W => (specKeyRead_any u (by unfold maxLen; omega) W).mono (fun _ w' ⟨v, h⟩ => by
          obtain ⟨ao', c', rfl⟩ := ownV_shape h.2.1
          exact ⟨ao', c', h.1, h.2.2⟩)
        have hKB : ∀ W, Below w21.heap.size w21 W → Calls Tryz.prog 5 #[.slice ro (keyRd u).1.length rc] W fun e w' => e = .returned (.string (keyOf (keyRd u).1)) ∧ Below W.heap.size W w' := fun W hb => implKeyBytes_any ro rc _ W hrl ((HRW.out.kept hb).mono hb.size) m (HM.out W (HT.out W (k21.trans (hb.mono k21.size))))
        have HKB : Hid (∀ W, Below w21.heap.size w21 W → Calls Tryz.prog 5 #[.slice ro (keyRd u).1.length rc] W fun e w' => e = .returned (.string (keyOf (keyRd u).1)) ∧ Below W.heap.size W w') := hKB
        clear hKB HRW
        generalize (keyRd u).2 = cd at *
        generalize (keyRd u).1 = rs at *
        by_cases hcd : cd = 0
        · subst hcd
          have hbk : keyOf rs = u := HBK.out rfl
          rw [hbk] at HKB
          clear hbk HBK HKI HKS HTL HKX KA KB SA SB CI CF CS VA VB HA HB HR0 HR1 HG HM HK hC0
          go_wp2_with fail
          have k22 := k21.alloc (k21.size) (.cells #[.slice ro rs.length rc, .int .i64 (0 : Nat)] 31)
          obtain ⟨c0, c1, cf⟩ := cells2 (heap_alloc_new w21 (.cells #[.slice ro rs.length rc, .int .i64 (0 : Nat)] 31))
          have kA : Below w21.heap.size w21 (w21.alloc (.cells #[.slice ro rs.length rc, .int .i64 (0 : Nat)] 31)) := (Below.refl _ _).alloc (Nat.le_refl _) _
          have hsz22 : w21.heap.size < (w21.alloc (.cells #[.slice ro rs.length rc, .int .i64 (0 : Nat)] 31)).heap.size := by simp
          have HKB2 : Hid (∀ W, Below (w21.alloc (.cells #[.slice ro rs.length rc, .int .i64 (0 : Nat)] 31)).heap.size (w21.alloc (.cells #[.slice ro rs.length rc, .int .i64 (0 : Nat)] 31)) W → Calls Tryz.prog 5 #[.slice ro rs.length rc] W fun e w' => e = .returned (.string u) ∧ Below W.heap.size W w') := fun W hb => HKB.out W (kA.trans (hb.mono kA.size))
          generalize w21.alloc (.cells #[.slice ro rs.length rc, .int .i64 (0 : Nat)] 31) = w22 at *
          generalize w21.heap.size = rb at *
          clear HKB kA
          go_region_held3 (fun W => W.cell? ⟨rb, 0, none⟩ = some (.slice ro rs.length rc) ∧ W.cell? ⟨rb, 1, none⟩ = some (.int .i64 (0 : Nat))) (go_keep) (first | (go_at_call 13; refine (hKS _).mono ?_; rintro e w25 ⟨qo, qc, rfl, hb25⟩; have hb25' : Below w22.heap.size w22 w25 := (Below.refl _ _).drew.trans hb25; obtain ⟨hc25, hf25⟩ := bcell hb25') | (go_at_call 5; refine (HKB2.out _ hb25').mono ?_; rintro e w26 ⟨rfl, hb26⟩; have hb26' : Below w22.heap.size w22 w26 := hb25'.trans (hb26.mono hb25'.size); obtain ⟨hc26, hf26⟩ := bcell hb26'))
          all_goals
            have kZ := HT.out _ (k22.trans (hb26'.mono k22.size))
            go_wp2
            go_ret
            exact ⟨rfl, kZ⟩
        · have hcd' : ¬ ((cd : Int) = 0) := by omega
          clear HKB HBK HKI HKS HTL HKX KA KB SA SB CI CF CS VA VB HA HB HR0 HR1 HG HM HK hC0
          go_wp2_with fail
          have k22 := k21.alloc (k21.size) (.cells #[.slice ro rs.length rc, .int .i64 (cd : Int)] 31)
          obtain ⟨c0, c1, cf⟩ := cells2 (heap_alloc_new w21 (.cells #[.slice ro rs.length rc, .int .i64 (cd : Int)] 31))
          have hsz22 : w21.heap.size < (w21.alloc (.cells #[.slice ro rs.length rc, .int .i64 (cd : Int)] 31)).heap.size := by simp
          generalize w21.alloc (.cells #[.slice ro rs.length rc, .int .i64 (cd : Int)] 31) = w22 at *
          generalize w21.heap.size = rb at *
          first | go_region_with (go_at_call 13; refine (hKS _).mono ?_; rintro e w25 ⟨qo, qc, rfl, hb25⟩; have hb25' : Below w22.heap.size w22 w25 := (Below.refl _ _).drew.trans hb25; obtain ⟨hc25, hf25⟩ := bcell hb25') | fail
          all_goals
            have kZ := HT.out _ (k22.trans (hb25'.mono k22.size))
            go_wp2
            go_ret
            exact ⟨rfl, kZ⟩
      · have hXY0 : Op.bytesLess X.toList Y.toList = false := by rw [hXY]; rfl
        have hYX0 : Op.bytesLess Y.toList X.toList = true := by rw [hYX]; rfl
        have hEQ0 : (X.toList == Y.toList) = false := by rw [hEQ]; rfl
        clear hXY hYX hEQ
        go_wp2_with fail
        refine (CI.out _ k11).mono ?_
        rintro e w12 ⟨rfl, k12⟩
        clear k11
        go_wp2_with fail
        refine (HKX.out _ k12).mono ?_
        rintro e w13 ⟨po, pc, rfl, hpr, k13⟩
        have HPR : Hid (ValRow w13 w13.heap.size po vs) := hpr
        clear k12 hpr
        go_wp2_with fail
        refine (lwValues_same po pc ao ac vs _ (by omega) HPR.out (HA.out _ k13)).mono ?_
        rintro e w14 ⟨rfl, hb14⟩
        have k14 := k13.trans (hb14.mono k13.size)
        clear k13 hb14 HPR
        go_wp2_with fail
        refine (HTL.out _ k14).mono ?_
        rintro e w20 ⟨u, rfl, hu, k20⟩
        clear k14
        have HBK : Hid ((keyRd u).2 = 0 → keyOf (keyRd u).1 = u) := keyRd_back u (by omega)
        have hrl : (keyRd u).1.length ≤ maxLen := by have := (keyRd_ok u).1; unfold maxLen; omega
        go_wp2_with fail
        refine (HKI.out u _ hu k20).mono ?_
        rintro e w21 ⟨ro, rc, rfl, hrow, k21⟩
        have HRW : Hid (ValRow w21 w21.heap.size ro (keyRd u).1) := hrow
        clear k20 hrow
        have k22 := k21.alloc (k21.size) (.cells #[.slice ro (keyRd u).1.length rc, .int .i64 ((keyRd u).2 : Int)] 31)
        have hKS : ∀ W, Calls Tryz.prog 13 #[.string u] W fun e w' => ∃ ao' c', e = .returned (.agg #[.slice ao' (keyRd u).1.length c', .int .i64 ((keyRd u).2 : Int)]) ∧ Below W.heap.size W w' := fun W => (specKeyRead_any u (by unfold maxLen; omega) W).mono (fun _ w' ⟨v, h⟩ => by
          obtain ⟨ao', c', rfl⟩ := ownV_shape h.2.1
          exact ⟨ao', c', h.1, h.2.2⟩)
        have hKB : ∀ W, Below w21.heap.size w21 W → Calls Tryz.prog 5 #[.slice ro (keyRd u).1.length rc] W fun e w' => e = .returned (.string (keyOf (keyRd u).1)) ∧ Below W.heap.size W w' := fun W hb => implKeyBytes_any ro rc _ W hrl ((HRW.out.kept hb).mono hb.size) m (HM.out W (HT.out W (k21.trans (hb.mono k21.size))))
        have HKB : Hid (∀ W, Below w21.heap.size w21 W → Calls Tryz.prog 5 #[.slice ro (keyRd u).1.length rc] W fun e w' => e = .returned (.string (keyOf (keyRd u).1)) ∧ Below W.heap.size W w') := hKB
        clear hKB HRW
        generalize (keyRd u).2 = cd at *
        generalize (keyRd u).1 = rs at *
        by_cases hcd : cd = 0
        · subst hcd
          have hbk : keyOf rs = u := HBK.out rfl
          rw [hbk] at HKB
          clear hbk HBK HKI HKS HTL HKX KA KB SA SB CI CF CS VA VB HA HB HR0 HR1 HG HM HK hC0
          go_wp2_with fail
          have k22 := k21.alloc (k21.size) (.cells #[.slice ro rs.length rc, .int .i64 (0 : Nat)] 31)
          obtain ⟨c0, c1, cf⟩ := cells2 (heap_alloc_new w21 (.cells #[.slice ro rs.length rc, .int .i64 (0 : Nat)] 31))
          have kA : Below w21.heap.size w21 (w21.alloc (.cells #[.slice ro rs.length rc, .int .i64 (0 : Nat)] 31)) := (Below.refl _ _).alloc (Nat.le_refl _) _
          have hsz22 : w21.heap.size < (w21.alloc (.cells #[.slice ro rs.length rc, .int .i64 (0 : Nat)] 31)).heap.size := by simp
          have HKB2 : Hid (∀ W, Below (w21.alloc (.cells #[.slice ro rs.length rc, .int .i64 (0 : Nat)] 31)).heap.size (w21.alloc (.cells #[.slice ro rs.length rc, .int .i64 (0 : Nat)] 31)) W → Calls Tryz.prog 5 #[.slice ro rs.length rc] W fun e w' => e = .returned (.string u) ∧ Below W.heap.size W w') := fun W hb => HKB.out W (kA.trans (hb.mono kA.size))
          generalize w21.alloc (.cells #[.slice ro rs.length rc, .int .i64 (0 : Nat)] 31) = w22 at *
          generalize w21.heap.size = rb at *
          clear HKB kA
          go_region_held3 (fun W => W.cell? ⟨rb, 0, none⟩ = some (.slice ro rs.length rc) ∧ W.cell? ⟨rb, 1, none⟩ = some (.int .i64 (0 : Nat))) (go_keep) (first | (go_at_call 13; refine (hKS _).mono ?_; rintro e w25 ⟨qo, qc, rfl, hb25⟩; have hb25' : Below w22.heap.size w22 w25 := (Below.refl _ _).drew.trans hb25; obtain ⟨hc25, hf25⟩ := bcell hb25') | (go_at_call 5; refine (HKB2.out _ hb25').mono ?_; rintro e w26 ⟨rfl, hb26⟩; have hb26' : Below w22.heap.size w22 w26 := hb25'.trans (hb26.mono hb25'.size); obtain ⟨hc26, hf26⟩ := bcell hb26'))
          all_goals
            have kZ := HT.out _ (k22.trans (hb26'.mono k22.size))
            go_wp2
            go_ret
            exact ⟨rfl, kZ⟩
        · have hcd' : ¬ ((cd : Int) = 0) := by omega
          clear HKB HBK HKI HKS HTL HKX KA KB SA SB CI CF CS VA VB HA HB HR0 HR1 HG HM HK hC0
          go_wp2_with fail
          have k22 := k21.alloc (k21.size) (.cells #[.slice ro rs.length rc, .int .i64 (cd : Int)] 31)
          obtain ⟨c0, c1, cf⟩ := cells2 (heap_alloc_new w21 (.cells #[.slice ro rs.length rc, .int .i64 (cd : Int)] 31))
          have hsz22 : w21.heap.size < (w21.alloc (.cells #[.slice ro rs.length rc, .int .i64 (cd : Int)] 31)).heap.size := by simp
          generalize w21.alloc (.cells #[.slice ro rs.length rc, .int .i64 (cd : Int)] 31) = w22 at *
          generalize w21.heap.size = rb at *
          first | go_region_with (go_at_call 13; refine (hKS _).mono ?_; rintro e w25 ⟨qo, qc, rfl, hb25⟩; have hb25' : Below w22.heap.size w22 w25 := (Below.refl _ _).drew.trans hb25; obtain ⟨hc25, hf25⟩ := bcell hb25') | fail
          all_goals
            have kZ := HT.out _ (k22.trans (hb25'.mono k22.size))
            go_wp2
            go_ret
            exact ⟨rfl, kZ⟩
end Go.Proofs.YtkkggbbpaflieaaGreatDoor
