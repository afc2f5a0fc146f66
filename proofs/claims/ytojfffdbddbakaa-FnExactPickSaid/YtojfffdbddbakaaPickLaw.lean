/-
  The law on Pick, out of the contracts.
-/
import Derived.Test.YtojfffdbddbakaaPickM
import Derived.Test.YtojfffdbddbakaaSEq
import Derived.Test.YtojfffdbddbakaaReadSch
namespace Go.Proofs.Ytojfffdbddbakaa
open Go.RowKit
set_option maxRecDepth 100000

theorem own_apart {a b : Value} {m : Nat} (ha : ∀ k, a.ownBlock = some k → k < m) (hb : ∀ k, b.ownBlock = some k → m ≤ k) : a.ownBlock = none ∨ a.ownBlock ≠ b.ownBlock := by
  cases h : a.ownBlock with
  | none => exact .inl rfl
  | some k =>
    refine .inr (fun e => ?_)
    have h1 := ha k h
    have h2 := hb k e.symm
    omega
theorem own_apart' {a b : Value} {m : Nat} (ha : ∀ k, a.ownBlock = some k → m ≤ k) (hb : ∀ k, b.ownBlock = some k → k < m) : a.ownBlock = none ∨ a.ownBlock ≠ b.ownBlock := by
  cases h : a.ownBlock with
  | none => exact .inl rfl
  | some k =>
    refine .inr (fun e => ?_)
    have h1 := ha k h
    have h2 := hb k e.symm
    omega
theorem pickV_facts (vs : List Val) (ns : List Int) (ho : ∀ x ∈ vs, x.ok) (ht : ∀ x ∈ vs, x.text.size ≤ maxLen) : (pickV vs ns).length ≤ 10 ∧ (∀ x ∈ pickV vs ns, x.ok) ∧ (∀ x ∈ pickV vs ns, x.text.size ≤ maxLen) := by
  by_cases hp : pickOk vs ns = true
  · rw [pickV_yes hp]
    unfold pickOk at hp
    simp only [Bool.and_eq_true, decide_eq_true_eq, upto_iff] at hp
    have hin : ∀ x ∈ pickL vs ns ns.length, x ∈ vs := fun x hx => by
      unfold pickL at hx
      rw [List.take_length, List.mem_map] at hx
      obtain ⟨n, hn, rfl⟩ := hx
      obtain ⟨i, hi, rfl⟩ := List.getElem_of_mem hn
      have h1 := hp.2 i hi
      unfold inAt at h1
      rw [getD_some ns 0 i hi] at h1
      simp only [Bool.and_eq_true, decide_eq_true_eq] at h1
      exact getD_mem vs noVal _ (by omega)
    exact ⟨by rw [pickL_len _ _ _ (Nat.le_refl _)]; exact hp.1.2, fun x hx => ho x (hin x hx), fun x hx => ht x (hin x hx)⟩
  · rw [Bool.not_eq_true] at hp
    rw [pickV_no hp]
    simp
set_option maxHeartbeats 4000000 in
theorem lawPick (v0 v1 : Value) (w : World) (h0 : IsVals w v0) (h1 : IsNums w v1) :
    Calls Try.prog 9 #[v0, v1] w fun e w' => e = .returned (.bool true) ∧ Below w.heap.size w w' := by
  obtain ⟨vo, c4, vs, rfl, hvl, hvr⟩ := h0
  obtain ⟨no, c5, ns, rfl, ⟨hnc, hcm⟩, hnr⟩ := h1
  have hnl : ns.length ≤ maxLen := Nat.le_trans hnc hcm
  have HOV : Hid ((∀ x ∈ vs, x.ok) ∧ (∀ x ∈ vs, x.text.size ≤ maxLen)) := ⟨hvr.1, hvr.2.1⟩
  have HON : Hid (∀ x ∈ ns, inI64 x) := hnr.1
  have HPF : Hid ((pickV vs ns).length ≤ 10 ∧ (∀ x ∈ pickV vs ns, x.ok) ∧ (∀ x ∈ pickV vs ns, x.text.size ≤ maxLen)) := pickV_facts vs ns hvr.1 hvr.2.1
  have HVS := hide (fun (W : World) (hb : Below w.heap.size w W) => szValueS_any w.heap.size vo c4 vs 1048576 W hb.size hvl (hvr.kept hb) (by omega) (by omega))
  have HVT := hide (fun (hf : vs.length ≤ 1048576) (W : World) (hb : Below w.heap.size w W) => toValueS_own w.heap.size vo c4 vs W hb.size hf (hvr.kept hb))
  have HNT := hide (fun (hf : ns.length ≤ 1048576) (W : World) (hb : Below w.heap.size w W) => toInt64S_own 0 w.heap.size no c5 ns W hb.size hf (hnr.kept hb))
  have HIM := hide (fun (bv bn : Nat) (x y : Value) (W : World) (hx : OwnV bv x vs W) (hy : OwnN bn y ns W) => show Calls Try.prog 19 #[x, y] W fun e w' => ∃ v, e = .returned v ∧ OwnV W.heap.size v (pickV vs ns) w' ∧ Below W.heap.size W w' by
    obtain ⟨ao, cap, rfl, hr⟩ := valRow_own hx hvr.1 hvr.2.1
    obtain ⟨bo, cp, rfl, hs⟩ := intRow_own hy hnr.1
    exact implPick_any 0 W.heap.size W.heap.size ao cap bo cp vs ns W (Nat.le_refl _) (Nat.le_refl _) hvl hnl hs hr)
  have HSP := hide (fun (bv bn : Nat) (x y : Value) (W : World) (hx : OwnV bv x vs W) (hy : OwnN bn y ns W) => show Calls Try.prog 33 #[x, y] W fun e w' => ∃ v, e = .returned v ∧ OwnV W.heap.size v (pickV vs ns) w' ∧ Below W.heap.size W w' by
    obtain ⟨ao, cap, rfl, hr⟩ := valRow_own hx hvr.1 hvr.2.1
    obtain ⟨bo, cp, rfl, hs⟩ := intRow_own hy hnr.1
    exact specPick_any 0 W.heap.size W.heap.size ao cap bo cp vs ns W (Nat.le_refl _) (Nat.le_refl _) hvl hnl hs hr)
  have HEV := hide (fun (ba bb : Nat) (x y : Value) (l : List Val) (W : World) (hl : l.length ≤ 1048576) (ho : ∀ x ∈ l, x.ok) (ht : ∀ x ∈ l, x.text.size ≤ maxLen) (hx : OwnV ba x l W) (hy : OwnV bb y l W) => show Calls Try.prog 32 #[x, y] W fun e w' => e = .returned (.bool true) ∧ Below W.heap.size W w' by
    obtain ⟨ao, cap, rfl, hr⟩ := valRow_own hx ho ht
    obtain ⟨bo, cp, rfl, hs⟩ := valRow_own hy ho ht
    exact eqValueS_same ao cap bo cp l W hl hr hs)
  have HEN := hide (fun (ba bb : Nat) (x y : Value) (W : World) (hl : ns.length ≤ 1048576) (hx : OwnN ba x ns W) (hy : OwnN bb y ns W) => show Calls Try.prog 35 #[x, y] W fun e w' => e = .returned (.bool true) ∧ Below W.heap.size W w' by
    obtain ⟨ao, cap, rfl, hr⟩ := intRow_own hx hnr.1
    obtain ⟨bo, cp, rfl, hs⟩ := intRow_own hy hnr.1
    exact eqInt64S_same 0 W.heap.size 0 W.heap.size ao cap bo cp ns W (Nat.le_refl _) (Nat.le_refl _) hl hr hs)
  clear hvr hnr
  generalize pickV vs ns = P at *
  unfold maxLen at hvl hcm hnl
  by_cases hn20 : 1048576 < ns.length
  · go_enter Try.func9, Try.ntmps9
    go_wp2
    go_ret
    exact ⟨rfl, Below.refl _ _⟩
  · have hnn : ns.length ≤ 1048576 := by omega
    go_enter Try.func9, Try.ntmps9
    go_wp2_with fail
    refine (HVS.out _ (Below.refl _ _)).mono ?_
    rintro e w1 ⟨r, rfl, hr1, hcase, hb1⟩
    have k1 := hide hb1
    clear hb1
    rcases hcase with hneg | ⟨hr0, hfv⟩
    · go_wp2
      go_ret
      exact ⟨rfl, k1.out⟩
    · have hvn : vs.length ≤ 1048576 := by unfold szFits at hfv; omega
      clear hfv
      go_wp2_with fail
      refine (HVT.out hvn _ k1.out).mono ?_
      rintro e w2 ⟨v2, rfl, o2, b2⟩
      obtain ⟨a2, p2, rfl⟩ := ownV_shape o2
      have O2 := hide o2
      have k2 := hide (k1.out.trans (b2.mono k1.out.size))
      clear o2 b2 k1
      go_wp2_with fail
      refine (HNT.out hnn _ k2.out).mono ?_
      rintro e w3 ⟨v3, rfl, o3, b3⟩
      obtain ⟨a3, p3, rfl⟩ := ownN_shape o3
      have O23 := hide (owns_below O2.out b3)
      have O3 := hide o3
      have k3 := hide (k2.out.trans (b3.mono k2.out.size))
      clear o3 b3 k2 O2
      go_wp2_with fail
      refine (HSP.out _ _ _ _ _ O23.out O3.out).mono ?_
      rintro e w4 ⟨v4, rfl, o4, b4⟩
      obtain ⟨a4, p4, rfl⟩ := ownV_shape o4
      have O4 := hide o4
      have D4 : Hid (∀ k, (Value.slice a4 P.length p4).ownBlock = some k → k < w4.heap.size) := fun k hk => (World.ownsRow.lt o4 k hk).2
      have k4 := hide (k3.out.trans (b4.mono k3.out.size))
      clear o4 b4 k3 O23 O3 HSP
      go_wp2_with fail
      refine (HVT.out hvn _ k4.out).mono ?_
      rintro e w5 ⟨v5, rfl, o5, b5⟩
      obtain ⟨a5, p5, rfl⟩ := ownV_shape o5
      have D5 : Hid (∀ k, (Value.slice a5 vs.length p5).ownBlock = some k → w4.heap.size ≤ k ∧ k < w5.heap.size) := fun k hk => World.ownsRow.lt o5 k hk
      have O45 := hide (owns_below O4.out b5)
      have O5 := hide o5
      have z45 : w4.heap.size ≤ w5.heap.size := b5.size
      have k5 := hide (k4.out.trans (b5.mono k4.out.size))
      have zw4 : w.heap.size ≤ w4.heap.size := k4.out.size
      clear o5 b5 k4 O4
      go_wp2_with fail
      refine (HNT.out hnn _ k5.out).mono ?_
      rintro e w6 ⟨v6, rfl, o6, b6⟩
      obtain ⟨a6, p6, rfl⟩ := ownN_shape o6
      have D6 : Hid (∀ k, (Value.slice a6 ns.length p6).ownBlock = some k → w5.heap.size ≤ k ∧ k < w6.heap.size) := fun k hk => World.ownsRow.lt o6 k hk
      have O46 := hide (owns_below O45.out b6)
      have O56 := hide (owns_below O5.out b6)
      have O6 := hide o6
      have z56 : w5.heap.size ≤ w6.heap.size := b6.size
      have k6 := hide (k5.out.trans (b6.mono k5.out.size))
      clear o6 b6 k5 O45 O5
      go_wp2_with fail
      refine (HIM.out _ _ _ _ _ O56.out O6.out).mono ?_
      rintro e w7 ⟨v7, rfl, o7, b7⟩
      obtain ⟨a7, p7, rfl⟩ := ownV_shape o7
      have D7 : Hid (∀ k, (Value.slice a7 P.length p7).ownBlock = some k → w6.heap.size ≤ k ∧ k < w7.heap.size) := fun k hk => World.ownsRow.lt o7 k hk
      have O47 := hide (owns_below O46.out b7)
      have O57 := hide (owns_below O56.out b7)
      have O67 := hide (owns_below O6.out b7)
      have O7 := hide o7
      have z67 : w6.heap.size ≤ w7.heap.size := b7.size
      have k7 := hide (k6.out.trans (b7.mono k6.out.size))
      clear o7 b7 k6 O46 O56 O6
      go_wp2_with fail
      refine (HEV.out _ _ _ _ P _ (by have := HPF.out.1; omega) HPF.out.2.1 HPF.out.2.2 O7.out O47.out).mono ?_
      rintro e w8 ⟨rfl, b8⟩
      have O48 := hide (owns_below O47.out b8)
      have O58 := hide (owns_below O57.out b8)
      have O68 := hide (owns_below O67.out b8)
      have O78 := hide (owns_below O7.out b8)
      have k8 := hide (k7.out.trans (b8.mono k7.out.size))
      have z78 : w7.heap.size ≤ w8.heap.size := b8.size
      clear b8 k7 O47 O57 O67 O7
      go_wp2_with fail
      refine (HVT.out hvn _ k8.out).mono ?_
      rintro e w9 ⟨v9, rfl, o9, b9⟩
      obtain ⟨a9, p9, rfl⟩ := ownV_shape o9
      have O49 := hide (owns_below O48.out b9)
      have O59 := hide (owns_below O58.out b9)
      have O69 := hide (owns_below O68.out b9)
      have O79 := hide (owns_below O78.out b9)
      have O9 := hide o9
      have k9 := hide (k8.out.trans (b9.mono k8.out.size))
      have z89 : w8.heap.size ≤ w9.heap.size := b9.size
      clear o9 b9 k8 O48 O58 O68 O78
      go_wp2_with fail
      refine (HEV.out _ _ _ _ vs _ hvn HOV.out.1 HOV.out.2 O59.out O9.out).mono ?_
      rintro e wA ⟨rfl, bA⟩
      have O4A := hide (owns_below O49.out bA)
      have O5A := hide (owns_below O59.out bA)
      have O6A := hide (owns_below O69.out bA)
      have O7A := hide (owns_below O79.out bA)
      have kA := hide (k9.out.trans (bA.mono k9.out.size))
      have zA : w9.heap.size ≤ wA.heap.size := bA.size
      clear bA k9 O49 O59 O69 O79 O9
      go_wp2_with fail
      refine (HNT.out hnn _ kA.out).mono ?_
      rintro e wB ⟨vB, rfl, oB, bB⟩
      obtain ⟨aB, pB, rfl⟩ := ownN_shape oB
      have O4B := hide (owns_below O4A.out bB)
      have O5B := hide (owns_below O5A.out bB)
      have O6B := hide (owns_below O6A.out bB)
      have O7B := hide (owns_below O7A.out bB)
      have OB := hide oB
      have kB := hide (kA.out.trans (bB.mono kA.out.size))
      have zB : wA.heap.size ≤ wB.heap.size := bB.size
      clear oB bB kA O4A O5A O6A O7A
      go_wp2_with fail
      refine (HEN.out _ _ _ _ _ hnn O6B.out OB.out).mono ?_
      rintro e wC ⟨rfl, bC⟩
      have O4C := hide (owns_below O4B.out bC)
      have O5C := hide (owns_below O5B.out bC)
      have O6C := hide (owns_below O6B.out bC)
      have O7C := hide (owns_below O7B.out bC)
      have kC := hide (kB.out.trans (bC.mono kB.out.size))
      have zC : wB.heap.size ≤ wC.heap.size := bC.size
      clear bC kB O4B O5B O6B O7B OB HEN
      go_wp2_with fail
      refine (markValueS_own _ _ vs _ hvn O5C.out).mono ?_
      rintro e wD ⟨rfl, _, gD⟩
      have O4D := hide (World.ownsRow.kept O4C.out gD (own_apart (m := w4.heap.size) D4.out (fun k hk => (D5.out k hk).1)))
      have O6D := hide (World.ownsRow.kept O6C.out gD (own_apart' (m := w5.heap.size) (fun k hk => (D6.out k hk).1) (fun k hk => (D5.out k hk).2)))
      have O7D := hide (World.ownsRow.kept O7C.out gD (own_apart' (m := w5.heap.size) (fun k hk => Nat.le_trans z56 (D7.out k hk).1) (fun k hk => (D5.out k hk).2)))
      have kD := hide (kC.out.grown gD (by have := kC.out.size; omega) (fun k hk => Nat.le_trans zw4 (D5.out k hk).1))
      have zD : wC.heap.size ≤ wD.heap.size := gD.size
      clear gD kC O4C O5C O6C O7C
      generalize hKK : 1 + 3 * vs.length = K at *
      have hK2 : K ≤ 10000000 := by omega
      clear hKK
      go_wp2_with fail
      refine (markInt64S_own _ _ ns K _ hnn hK2 O6D.out).mono ?_
      rintro e wE ⟨rfl, gE⟩
      have O4E := hide (World.ownsRow.kept O4D.out gE (own_apart (m := w5.heap.size) (fun k hk => Nat.lt_of_lt_of_le (D4.out k hk) z45) (fun k hk => (D6.out k hk).1)))
      have O7E := hide (World.ownsRow.kept O7D.out gE (own_apart' (m := w6.heap.size) (fun k hk => (D7.out k hk).1) (fun k hk => (D6.out k hk).2)))
      have kE := hide (kD.out.grown gE (by have := kD.out.size; omega) (fun k hk => by have := (D6.out k hk).1; omega))
      have zE : wD.heap.size ≤ wE.heap.size := gE.size
      clear gE kD O4D O6D O7D
      have hKN : ¬ (((K + ns.length : Nat) : Int) < 0) := by omega
      generalize K + ns.length = K2 at *
      go_wp2_with (first | (go_at_call 32; refine (HEV.out _ _ _ _ P _ (by have := HPF.out.1; omega) HPF.out.2.1 HPF.out.2.2 O7E.out O4E.out).mono ?_; rintro e wF ⟨rfl, bF⟩; have O4F := hide (owns_below O4E.out bF); have O7F := hide (owns_below O7E.out bF); have kF := hide (kE.out.trans (bF.mono kE.out.size)); have zF : wE.heap.size ≤ wF.heap.size := bF.size; clear bF) | (go_at_call 36; refine (markValueS_own _ _ P _ (by have := HPF.out.1; omega) O7F.out).mono ?_; rintro e wG ⟨rfl, mG, gG⟩))
      have MG := hide mG
      have O4G := hide (World.ownsRow.kept O4F.out gG (own_apart (m := w6.heap.size) (fun k hk => Nat.lt_of_lt_of_le (D4.out k hk) (Nat.le_trans z45 z56)) (fun k hk => (D7.out k hk).1)))
      have kG := hide (kF.out.grown gG (by have := kF.out.size; omega) (fun k hk => by have := (D7.out k hk).1; omega))
      clear mG gG kF O4F O7F O4E O7E kE
      have hPn := HPF.out.1
      have HHD := hide (fun (W : World) (hm : Marked (.slice a7 P.length p7) P.length W) => heldValueS_own (.slice a7 P.length p7) P.length W (by omega) hm)
      go_wp2_with fail
      refine (HHD.out _ MG.out).mono ?_
      rintro e wH ⟨rfl, bH⟩
      have MH := hide (MG.out.kept bH)
      have O4H := hide (owns_below O4G.out bH)
      have kH := hide (kG.out.trans (bH.mono kG.out.size))
      clear bH kG MG O4G
      go_wp2_with fail
      refine (HVT.out hvn _ kH.out).mono ?_
      rintro e wI ⟨vI, rfl, oI, bI⟩
      obtain ⟨aI, pI, rfl⟩ := ownV_shape oI
      have MI := hide (MH.out.kept bI)
      have O4I := hide (owns_below O4H.out bI)
      have OI := hide oI
      have kI := hide (kH.out.trans (bI.mono kH.out.size))
      clear bI oI kH MH O4H
      go_wp2_with fail
      refine (HNT.out hnn _ kI.out).mono ?_
      rintro e wJ ⟨vJ, rfl, oJ, bJ⟩
      obtain ⟨aJ, pJ, rfl⟩ := ownN_shape oJ
      have MJ := hide (MI.out.kept bJ)
      have O4J := hide (owns_below O4I.out bJ)
      have OIJ := hide (owns_below OI.out bJ)
      have OJ := hide oJ
      have kJ := hide (kI.out.trans (bJ.mono kI.out.size))
      clear bJ oJ kI MI O4I OI
      go_wp2_with fail
      refine (HIM.out _ _ _ _ _ OIJ.out OJ.out).mono ?_
      rintro e wK ⟨vK, rfl, oK, bK⟩
      obtain ⟨aK, pK, rfl⟩ := ownV_shape oK
      have MK := hide (MJ.out.kept bK)
      have O4K := hide (owns_below O4J.out bK)
      have OK := hide oK
      have kK := hide (kJ.out.trans (bK.mono kJ.out.size))
      clear bK oK kJ MJ O4J OIJ OJ
      go_wp2_with fail
      refine (HEV.out _ _ _ _ P _ (by omega) HPF.out.2.1 HPF.out.2.2 OK.out O4K.out).mono ?_
      rintro e wL ⟨rfl, bL⟩
      have ML := hide (MK.out.kept bL)
      have kL := hide (kK.out.trans (bL.mono kK.out.size))
      clear bL kK MK O4K OK
      go_wp2_with fail
      refine (HHD.out _ ML.out).mono ?_
      rintro e wM ⟨rfl, bM⟩
      have kM := hide (kL.out.trans (bM.mono kL.out.size))
      clear bM kL ML
      go_wp2
      go_ret
      exact ⟨rfl, kM.out⟩
end Go.Proofs.Ytojfffdbddbakaa
