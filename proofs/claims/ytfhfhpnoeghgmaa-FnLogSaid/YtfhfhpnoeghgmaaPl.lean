/-
  Contracts and plain laws, part 12 of 12: LgFLaw
-/
import Derived.Deep.CutRange
import Derived.Test.YtfhfhpnoeghgmaaPk

/-
  The law on logs, out of the contracts.
-/
namespace Go.Proofs.Ytfhfhpnoeghgmaa
open Go.RowKit
set_option maxRecDepth 100000

theorem rd_log_I (b0 : Nat) (s c : Value) (d : Dk) (a q : Int) (L : List Wr) (nx cd : Int) (w : World) (hr : dkRight d = true) (ha : wI64 a) (hL : dkLog d a q = (L, nx, cd)) (h : OwnD b0 s c d w) :
    Calls Try.prog 14 #[.agg #[s, c], .int .i64 a, .int .i64 q] w fun e w' => ∃ ao cap, e = .returned (.agg #[.slice ao L.length cap, .int .i64 nx, .int .i64 cd]) ∧ OwnR w.heap.size (.slice ao L.length cap) L w' ∧ Below w.heap.size w w' := by
  refine (implLogRead_any b0 s c d a q w (right_inn hr) (right_fits hr) ha h).mono ?_
  rw [hL]
  rintro e w1 ⟨v, rfl, o1, b1⟩
  obtain ⟨ao, cap, rfl⟩ := ownR_shape o1
  exact ⟨ao, cap, rfl, o1, b1⟩
theorem rd_log_S (b0 : Nat) (s c : Value) (d : Dk) (a q : Int) (L : List Wr) (nx cd : Int) (w : World) (hr : dkRight d = true) (ha : wI64 a) (hL : dkLog d a q = (L, nx, cd)) (h : OwnD b0 s c d w) :
    Calls Try.prog 15 #[.agg #[s, c], .int .i64 a, .int .i64 q] w fun e w' => ∃ ao cap, e = .returned (.agg #[.slice ao L.length cap, .int .i64 nx, .int .i64 cd]) ∧ OwnR w.heap.size (.slice ao L.length cap) L w' ∧ Below w.heap.size w w' := by
  refine (specLogRead_any b0 s c d a q w (right_inn hr) (right_fits hr) ha h).mono ?_
  rw [hL]
  rintro e w1 ⟨v, rfl, o1, b1⟩
  obtain ⟨ao, cap, rfl⟩ := ownR_shape o1
  exact ⟨ao, cap, rfl, o1, b1⟩
theorem ever_outAt {lo g : Nat} {s c : Value} {t : ByteArray} {K : Int} {D : Dk} {W : World} (h : OutAt lo g s c t K D W) : Ever (fun W => OutAt lo g s c t K D W) W := fun _ k => h.below k
theorem own_bool3 (w : World) (x y z : Bool) : OwnL w.heap.size (.slice (some ⟨w.heap.size, 0, none⟩) 3 3) [x, y, z] (w.alloc (.cells #[.bool x, .bool y, .bool z] 4)) :=
  ⟨rfl, .inr ⟨w.heap.size, 3, _, rfl, Nat.le_refl _, heap_alloc_new _ _, Nat.le_refl _, by decide, rfl, rfl⟩⟩
theorem ownR_cell {base : Nat} {ao : Option Addr} {n cap : Nat} {L : List Wr} {w : World} (h : OwnR base (.slice ao n cap) L w) (k : Nat) (hk : k < n) : ∃ b off, ao = some ⟨b, off, none⟩ ∧ b < w.heap.size ∧ w.cell? ⟨b, off + k * 2, none⟩ = some (.int .i64 (L.getD k noWr).pos) ∧ w.cell? ⟨b, off + k * 2 + 1, none⟩ = some (.string (L.getD k noWr).text) := by
  obtain ⟨ao', cap', e, hc⟩ := ownR_at h
  injection e with e1 e2 e3
  subst e1 e2
  obtain ⟨b, off, x, t, e4, e5, e6, e7, e8⟩ := hc k hk
  rw [e6]
  exact ⟨b, off, e4, e5, e7, e8⟩
set_option maxHeartbeats 8000000 in
theorem lawLog (a0 : Option Addr) (len0 cap0 : Nat) (z0 : List Int) (a1 : Option Addr) (len1 cap1 : Nat) (z1 : List Int) (w : World) (w0 : ByteRow w w.heap.size a0 len0 z0) (w1 : ByteRow w w.heap.size a1 len1 z1) :
    Calls Try.prog 3 #[.slice a0 len0 cap0, .slice a1 len1 cap1] w fun e w' => e = .returned (.bool true) ∧ Below w.heap.size w w' := by
  by_cases h0 : 1048576 < len0
  · go_enter Try.func3, Try.ntmps3
    go_wp2
    go_ret
    exact ⟨rfl, Below.refl _ _⟩
  by_cases h1 : 1048576 < len1
  · go_enter Try.func3, Try.ntmps3
    go_wp2
    go_ret
    exact ⟨rfl, Below.refl _ _⟩
  have R0 : Hid (ByteRow w w.heap.size a0 len0 z0) := w0
  have R1 : Hid (ByteRow w w.heap.size a1 len1 z1) := w1
  clear w0 w1
  go_enter Try.func3, Try.ntmps3
  go_wp2_with fail
  refine (drawLogRead_any w.heap.size a0 len0 cap0 z0 _ (Nat.le_refl _) (by omega) R0.out).mono ?_
  rintro e u1 ⟨s, c, d, a, q, rfl, o1, hr, ha, hq, b1⟩
  obtain ⟨so, n1, p, co, n2, qq, rfl, rfl, hm⟩ := o1.shp
  have HR := hide hr
  have HA := hide ha
  have HQ := hide hq
  obtain ⟨ll, hll⟩ : ∃ x, x = dkLog d a q := ⟨_, rfl⟩
  obtain ⟨L, nx, cd⟩ := ll
  have HLG := hide hll.symm
  have HL7 : Hid (L.length ≤ 1048576) := by have h9 := dkLog_len (d := d) (by have := (dkRight_bounds hr).1; omega) a q; rw [← hll] at h9; exact h9
  have ba := (Below.refl u1.heap.size u1).alloc (Nat.le_refl _) (.cells #[.slice so n1 p, .slice co n2 qq] 26)
  have E1 := hide (((ever_base (w := w) (b1.trans (ba.mono b1.size))).and (ever_heap (heap_alloc_new u1 (.cells #[.slice so n1 p, .slice co n2 qq] 26)))).and (ever_ownD (o1.below ba)))
  clear o1 hm hr ha hq b1 ba hll
  go_upto_region 4 with fail
  generalize u1.alloc (.cells #[.slice so n1 p, .slice co n2 qq] 26) = U1 at *
  generalize u1.heap.size = g5 at *
  obtain ⟨x0, x1⟩ := cells2r E1.out.now.1.2
  go_wp2_with fail
  refine (rd_log_I _ _ _ d a q L nx cd _ HR.out HA.out HLG.out E1.out.now.2).mono ?_
  rintro e u2 ⟨lo, lc, rfl, o2, b2⟩
  obtain ⟨n, hn⟩ : ∃ n, n = L.length := ⟨_, rfl⟩
  rw [← hn] at o2 HL7 ⊢
  have HN := hide hn
  have ba := (Below.refl u2.heap.size u2).alloc (Nat.le_refl _) (.cells #[.slice lo n lc, .int .i64 nx, .int .i64 cd] 31)
  have E2 := hide (((E1.out.below (b2.trans (ba.mono b2.size))).and (ever_heap (heap_alloc_new u2 (.cells #[.slice lo n lc, .int .i64 nx, .int .i64 cd] 31)))).and (ever_ownR (o2.below ba)))
  clear o2 b2 ba E1 x0 x1 hn
  go_upto_region 5 with fail
  generalize u2.alloc (.cells #[.slice lo n lc, .int .i64 nx, .int .i64 cd] 31) = U2 at *
  generalize u2.heap.size = g8 at *
  obtain ⟨x0, x1⟩ := cells2r E2.out.now.1.1.1.2
  go_wp2_with fail
  refine (rd_log_S _ _ _ d a q L nx cd _ HR.out HA.out HLG.out E2.out.now.1.1.2).mono ?_
  rintro e u3 ⟨wo, wc, rfl, o3, b3⟩
  rw [← HN.out] at o3 ⊢
  have ba := (Below.refl u3.heap.size u3).alloc (Nat.le_refl _) (.cells #[.slice wo n wc, .int .i64 nx, .int .i64 cd] 31)
  have E3 := hide (((E2.out.below (b3.trans (ba.mono b3.size))).and (ever_heap (heap_alloc_new u3 (.cells #[.slice wo n wc, .int .i64 nx, .int .i64 cd] 31)))).and (ever_ownR (o3.below ba)))
  clear o3 b3 ba E2 x0 x1
  go_upto_region 6 with fail
  generalize u3.alloc (.cells #[.slice wo n wc, .int .i64 nx, .int .i64 cd] 31) = U3 at *
  generalize u3.heap.size = g9 at *
  obtain ⟨x0, x1⟩ := cells2r E3.out.now.1.1.1.1.1.2
  obtain ⟨l0, l1, l2⟩ := cells3r E3.out.now.1.1.1.2
  obtain ⟨m0, m1, m2⟩ := cells3r E3.out.now.1.2
  have hkk : (cd != cd) = false := by simp
  have hkn : (nx != nx) = false := by simp
  have hkl : ((n : Int) != (n : Int)) = false := by simp
  by_cases hcd : cd = 0
  · subst hcd
    have hnb : ¬ lgBad d a q := fun hb => by have h9 := HLG.out; rw [dkLog_bad hb] at h9; simp at h9
    have ha0 : 0 ≤ a := by
      unfold lgBad at hnb
      by_cases h9 : a < 0
      · exact absurd (.inr (.inl h9)) hnb
      · omega
    obtain ⟨k, rfl⟩ := Int.eq_ofNat_of_zero_le ha0
    have HNB := hide hnb
    have hsq := log_seq (d := d) (a := k) (q := q) hnb
    rw [HLG.out] at hsq
    have HSQ := hide hsq
    have HNX : Hid (wI64 nx) := by have h9 := log_next hnb; rw [HLG.out] at h9; exact h9
    clear hnb hsq ha0
    obtain ⟨P3, E4, HP3⟩ : ∃ P : World → Prop, Hid (Ever P U3) ∧ Hid (∀ W, P W → Below w.heap.size w W ∧ W.heap[g5]? = some (.cells #[.slice so n1 p, .slice co n2 qq] 26 (0, 0)) ∧ OwnD w.heap.size (.slice so n1 p) (.slice co n2 qq) d W ∧ W.heap[g8]? = some (.cells #[.slice lo n lc, .int .i64 nx, .int .i64 0] 31 (0, 0)) ∧ OwnR _ (.slice lo n lc) L W ∧ W.heap[g9]? = some (.cells #[.slice wo n wc, .int .i64 nx, .int .i64 0] 31 (0, 0)) ∧ OwnR _ (.slice wo n wc) L W) := ⟨_, E3, fun W h => ⟨h.1.1.1.1.1.1, h.1.1.1.1.1.2, h.1.1.1.1.2, h.1.1.1.2, h.1.1.2, h.1.2, h.2⟩⟩
    clear E3
    go_wp2_with fail
    go_loopw [10] (fun i wr => ∃ j : Nat, j ≤ n ∧ i = .int .i64 j ∧ Hid (Ever P3 wr)) (fun i _ => n - (intOf i).toNat)
    case atStart => exact ⟨0, Nat.zero_le _, rfl, E4⟩
    case round =>
      obtain ⟨j, hj, rfl, E5⟩ := hrel
      clear E4 x0 x1 l0 l1 l2 m0 m1 m2
      have HE := hide (HP3.out _ E5.out.now)
      obtain ⟨x0, x1⟩ := cells2r HE.out.2.1
      obtain ⟨l0, l1, l2⟩ := cells3r HE.out.2.2.2.1
      obtain ⟨m0, m1, m2⟩ := cells3r HE.out.2.2.2.2.2.1
      by_cases hlt : j < n
      · obtain ⟨bl, ol, el, hbl, cl0, cl1⟩ := ownR_cell HE.out.2.2.2.2.1 j hlt
        obtain ⟨bm, om, em, hbm, cm0, cm1⟩ := ownR_cell HE.out.2.2.2.2.2.2 j hlt
        have hs := HSQ.out j (by rw [← HN.out]; exact hlt)
        rw [hs] at cl0 cm0
        generalize (L.getD j noWr).text = tj at *
        subst el em
        have hlg := log_facts HNB.out
        have hnl : n ≤ 1048576 := HL7.out
        have hwj : IntKind.i64.wrap (q + (j : Int)) = q + (j : Int) := by rw [IntKind.wrap_i64]; omega
        have hne : ((q + (j : Int)) != (q + (j : Int))) = false := by simp
        have hw1 : IntKind.i64.wrap ((j : Int) + 1) = (j : Int) + 1 := by rw [IntKind.wrap_i64]; omega
        have hi0 : (0 : Int) ≤ (j : Int) := by omega
        have hi1 : (j : Int) < (n : Int) := by omega
        have hq0 := (Int.toNat_natCast j)
        have HLT := hide hlt
        clear hs hlg hnl hbl hbm HE
        go_upto_region 13 with fail
        go_region_held3 (fun W => (W.cell? ⟨g8, 0, none⟩ = some (.slice (some ⟨bl, ol, none⟩) n lc) ∧ W.cell? ⟨g9, 0, none⟩ = some (.slice (some ⟨bm, om, none⟩) n wc)) ∧ (W.cell? ⟨bl, ol + j * 2, none⟩ = some (.int .i64 (q + (j : Int))) ∧ W.cell? ⟨bl, ol + j * 2 + 1, none⟩ = some (.string tj)) ∧ (W.cell? ⟨bm, om + j * 2, none⟩ = some (.int .i64 (q + (j : Int))) ∧ W.cell? ⟨bm, om + j * 2 + 1, none⟩ = some (.string tj))) (go_keep) (fail)
        all_goals
          have E6 := hide (E5.out.below (Below.refl _ _).drew)
          clear E5 x0 x1 l0 l1 l2 m0 m1 m2 cl0 cl1 cm0 cm1
          go_wp2_with fail
          go_roundw
          case rel => exact ⟨j + 1, HLT.out, by go_num, E6⟩
          case measure => have := HLT.out; simp [intOf]; omega
      · obtain rfl : j = n := by omega
        have hlg := log_facts HNB.out
        have hnl : j ≤ 1048576 := HL7.out
        have hwj : IntKind.i64.wrap (q + (j : Int)) = q + (j : Int) := by rw [IntKind.wrap_i64]; omega
        have HWQ : Hid (wI64 (q + (j : Int))) := by show _ ∧ _; omega
        clear hlt hj hlg hnl
        go_upto_region 15 with fail
        go_cut [11] from 93 to 100 (fun pv W => ∃ (z : Nat) (t : ByteArray), pv = .pointer (some ⟨z, 0, none⟩) ∧ t.size ≤ 20000 ∧ Hid (Ever P3 W) ∧ Hid (Ever (fun W => W.heap[z]? = some (.cells #[.int .i64 (q + (j : Int)), .string t] 34 (0, 0))) W))
        case first =>
          refine wp_region_noPanic ?_
          refine wp_region_held_drew (S := fun W => W.cell? ⟨g8, 0, none⟩ = some (.slice lo j lc)) (by kernel_rfl) l0 (fun hS1 => ?_)
          have E6 := hide (E5.out.below (Below.refl _ _).drew)
          have B6 := hide (HP3.out _ E6.out.now).1
          clear HE x0 x1 l0 l1 l2 m0 m1 m2 E5
          generalize wr.drew = W1 at *
          refine takeD 0 93 (v := ?vt1) rfl rfl (by kernel_rfl) (by kernel_rfl) (by kernel_rfl) (fun _ _ _ h => h) (by kernel_rfl) ?hyt1 (by assumption) ?rt1
          case hyt1 => (intro W hSw; (try dsimp only at hSw); go_simp; try with_reducible rfl)
          simp only [Act.put, List.setIfInBounds_toArray, List.set_cons_zero, List.set_cons_succ]
          refine takeD 1 94 (v := ?vt2) rfl rfl (by kernel_rfl) (by kernel_rfl) (by kernel_rfl) (fun _ _ _ h => h) (by kernel_rfl) ?hyt2 (by assumption) ?rt2
          case hyt2 => (intro W hSw; (try dsimp only at hSw); go_simp; try with_reducible rfl)
          simp only [Act.put, List.setIfInBounds_toArray, List.set_cons_zero, List.set_cons_succ]
          refine takeD 2 95 (v := ?vt3) rfl rfl (by kernel_rfl) (by kernel_rfl) (by kernel_rfl) (fun _ _ _ h => h) (by kernel_rfl) ?hyt3 (by assumption) ?rt3
          case hyt3 => (intro W hSw; (try dsimp only at hSw); go_simp; try with_reducible rfl)
          simp only [Act.put, List.setIfInBounds_toArray, List.set_cons_zero, List.set_cons_succ]
          refine takeD 3 96 (v := ?vt4) rfl rfl (by kernel_rfl) (by kernel_rfl) (by kernel_rfl) (fun _ _ _ h => h) (by kernel_rfl) ?hyt4 (by assumption) ?rt4
          case hyt4 => (intro W hSw; (try dsimp only at hSw); go_simp; try with_reducible rfl)
          simp only [Act.put, List.setIfInBounds_toArray, List.set_cons_zero, List.set_cons_succ]
          refine takeD 4 97 (v := ?vt5) rfl rfl (by kernel_rfl) (by kernel_rfl) (by kernel_rfl) (fun _ _ _ h => h) (by kernel_rfl) ?hyt5 (by assumption) ?rt5
          case hyt5 => (intro W hSw; (try dsimp only at hSw); go_simp; try with_reducible rfl)
          simp only [Act.put, List.setIfInBounds_toArray, List.set_cons_zero, List.set_cons_succ]
          refine takeD 5 98 (v := ?vt6) rfl rfl (by kernel_rfl) (by kernel_rfl) (by kernel_rfl) (fun _ _ _ h => h) (by kernel_rfl) ?hyt6 (by assumption) ?rt6
          case hyt6 => (intro W hSw; (try dsimp only at hSw); go_simp; try with_reducible rfl)
          simp only [Act.put, List.setIfInBounds_toArray, List.set_cons_zero, List.set_cons_succ]
          refine wpAnyH_ready (rs := [6, 8]) (by kernel_rfl) (by simp) ?_
          refine AllReadyH.cons (o := _) rfl (fun K hK => ?_) (AllReadyH.cons (o := _) rfl (fun K hK => ?_) AllReadyH.nil)
          · go_simp
            go_at_call 16; refine (drawSeal_any w.heap.size a1 len1 cap1 z1 _ B6.out.size (by omega) (R1.out.kept B6.out)).mono ?_
            rintro e W2 ⟨t, rfl, ht, b2⟩
            have E7 := hide (E6.out.below b2)
            have HT := hide ht
            clear b2 ht
            go_wp2_with fail
            refine hK.out _ _ (cells3r (HP3.out _ E7.out.now).2.2.2.1).1 (fun hS2 => ?_)
            clear hK K hS1
            try simp only [Act.put, List.setIfInBounds_toArray, List.set_cons_zero, List.set_cons_succ]
            refine takeD 7 100 (v := ?vt7) rfl rfl (by kernel_rfl) (by kernel_rfl) (by kernel_rfl) (fun _ _ _ h => h) (by kernel_rfl) ?hyt7 (by assumption) ?rt7
            case hyt7 => (intro W hSw; (try dsimp only at hSw); go_simp; try with_reducible rfl)
            simp only [Act.put, List.setIfInBounds_toArray, List.set_cons_zero, List.set_cons_succ]
            refine wpAnyH_ready (rs := [8]) (by kernel_rfl) (by simp) ?_
            refine AllReadyH.cons (o := _) rfl (fun K hK => ?_) AllReadyH.nil
            go_simp
            have ba := (Below.refl W2.heap.size W2).alloc (Nat.le_refl _) (.cells #[.int .i64 0, .string ⟨#[]⟩] 34)
            refine hK.out _ _ (cells3r (HP3.out _ (E7.out.below ba).now).2.2.2.1).1 (fun hS3 => ?_)
            clear hK K hS2
            try simp only [Act.put, List.setIfInBounds_toArray, List.set_cons_zero, List.set_cons_succ]
            have BA := hide ba
            have XA := hide (heap_alloc_new W2 (.cells #[.int .i64 0, .string ⟨#[]⟩] 34))
            clear ba
            generalize W2.alloc (.cells #[.int .i64 0, .string ⟨#[]⟩] 34) = W4 at *
            refine wpAnyH_ready (rs := [9]) (by kernel_rfl) (by simp) ?_
            refine AllReadyH.cons (o := _) rfl (fun K hK => ?_) AllReadyH.nil
            obtain ⟨y0, y1, yf⟩ := cells2 XA.out
            go_simp
            have bz := (BA.out.setCell (p := ⟨W2.heap.size, 0, none⟩) (Nat.le_refl _) (.int .i64 (q + (j : Int)))).setCell (p := ⟨W2.heap.size, 1, none⟩) (Nat.le_refl _) (.string t)
            have EZ := hide (E7.out.below bz)
            have XZ := hide (set2 (x := .int .i64 (q + (j : Int))) (y := .string t) XA.out)
            clear y0 y1 yf
            refine hK.out _ _ (cells3r (HP3.out _ EZ.out.now).2.2.2.1).1 (fun _ => ?_)
            clear hK K hS3
            try simp only [Act.put, List.setIfInBounds_toArray, List.set_cons_zero, List.set_cons_succ]
            refine wpAnyH_done (by kernel_rfl) ?_ _
            refine NoPanic.normal ?_
            go_wp2_with fail
            go_meet
            exact ⟨W2.heap.size, t, rfl, HT.out, EZ, hide (ever_heap XZ.out)⟩
          · go_simp
            have ba := (Below.refl W1.heap.size W1).alloc (Nat.le_refl _) (.cells #[.int .i64 0, .string ⟨#[]⟩] 34)
            have XA := hide (heap_alloc_new W1 (.cells #[.int .i64 0, .string ⟨#[]⟩] 34))
            have E7 := hide (E6.out.below ba)
            have B7 := hide (HP3.out _ E7.out.now).1
            have BA := hide ba
            refine hK.out _ _ (cells3r (HP3.out _ E7.out.now).2.2.2.1).1 (fun hS2 => ?_)
            clear hK K hS1 ba
            try simp only [Act.put, List.setIfInBounds_toArray, List.set_cons_zero, List.set_cons_succ]
            generalize W1.alloc (.cells #[.int .i64 0, .string ⟨#[]⟩] 34) = W2 at *
            refine wpAnyH_ready (rs := [6]) (by kernel_rfl) (by simp) ?_
            refine AllReadyH.cons (o := _) rfl (fun K hK => ?_) AllReadyH.nil
            go_simp
            go_at_call 16; refine (drawSeal_any w.heap.size a1 len1 cap1 z1 _ B7.out.size (by omega) (R1.out.kept B7.out)).mono ?_
            rintro e W3 ⟨t, rfl, ht, b3⟩
            have E8 := hide (E7.out.below b3)
            have XB := hide ((b3.block _ (blkS XA.out)).trans XA.out)
            have BB := hide (BA.out.trans (b3.mono BA.out.size))
            have HT := hide ht
            clear b3 ht
            go_wp2_with fail
            refine hK.out _ _ (cells3r (HP3.out _ E8.out.now).2.2.2.1).1 (fun hS3 => ?_)
            clear hK K hS2
            try simp only [Act.put, List.setIfInBounds_toArray, List.set_cons_zero, List.set_cons_succ]
            refine takeD 7 100 (v := ?vt8) rfl rfl (by kernel_rfl) (by kernel_rfl) (by kernel_rfl) (fun _ _ _ h => h) (by kernel_rfl) ?hyt8 (by assumption) ?rt8
            case hyt8 => (intro W hSw; (try dsimp only at hSw); go_simp; try with_reducible rfl)
            simp only [Act.put, List.setIfInBounds_toArray, List.set_cons_zero, List.set_cons_succ]
            refine wpAnyH_ready (rs := [9]) (by kernel_rfl) (by simp) ?_
            refine AllReadyH.cons (o := _) rfl (fun K hK => ?_) AllReadyH.nil
            obtain ⟨y0, y1, yf⟩ := cells2 XB.out
            go_simp
            have bz := (BB.out.setCell (p := ⟨W1.heap.size, 0, none⟩) (Nat.le_refl _) (.int .i64 (q + (j : Int)))).setCell (p := ⟨W1.heap.size, 1, none⟩) (Nat.le_refl _) (.string t)
            have EZ := hide (E6.out.below bz)
            have XZ := hide (set2 (x := .int .i64 (q + (j : Int))) (y := .string t) XB.out)
            clear y0 y1 yf
            refine hK.out _ _ (cells3r (HP3.out _ EZ.out.now).2.2.2.1).1 (fun _ => ?_)
            clear hK K hS3
            try simp only [Act.put, List.setIfInBounds_toArray, List.set_cons_zero, List.set_cons_succ]
            refine wpAnyH_done (by kernel_rfl) ?_ _
            refine NoPanic.normal ?_
            go_wp2_with fail
            go_meet
            exact ⟨W1.heap.size, t, rfl, HT.out, EZ, hide (ever_heap XZ.out)⟩
        case rest =>
          obtain ⟨g11, t, rfl, ht, E6, X6⟩ := hcut
          have HT := hide ht
          clear ht E5 HE x0 x1 l0 l1 l2 m0 m1 m2
          obtain ⟨P4, E7, HP4⟩ : ∃ P : World → Prop, Hid (Ever P wc) ∧ Hid (∀ W, P W → P3 W ∧ W.heap[g11]? = some (.cells #[.int .i64 (q + (j : Int)), .string t] 34 (0, 0))) := ⟨_, hide (E6.out.and X6.out), fun W h => h⟩
          have HFR := hide (flush_right HR.out)
          have hla := log_append (d := d) (a := k) (q := q) (t := t) HNB.out
          rw [HLG.out] at hla
          simp only at hla
          rw [← HN.out] at hla
          obtain ⟨aa, haa⟩ : ∃ x, x = dkApp (dkFlush d) nx (q + (j : Int)) t := ⟨_, rfl⟩
          rw [← haa] at hla
          obtain ⟨DD, KK⟩ := aa
          simp only at hla
          have HAP := hide haa.symm
          have HLA := hide hla
          clear E6 X6 haa hla
          go_upto_region 16 with fail
          go_cut [12] from 101 to 106 (fun pv W => ∃ (z : Nat) (sA : Option Addr) (nA pA : Nat) (cA : Option Addr) (mA qA : Nat), pv = .pointer (some ⟨z, 0, none⟩) ∧ Hid (OutAt 0 z (.slice sA nA pA) (.slice cA mA qA) ⟨#[]⟩ KK DD W) ∧ Hid (Ever P4 W))
          case first =>
            refine wp_region_noPanic ?_
            refine wp_region_held_drew (S := P4) (by kernel_rfl) (E7.out.below (Below.refl _ _).drew).now (fun hSS => ?_)
            have E8 := hide (E7.out.below (Below.refl _ _).drew)
            clear E7
            generalize wc.drew = W1 at *
            have BB := hide (Below.refl W1.heap.size W1)
            refine takeD 0 101 (v := ?vu101) rfl rfl (by kernel_rfl) (by kernel_rfl) (by kernel_rfl) (fun _ _ _ h => h) (by kernel_rfl) ?hyu101 (by assumption) ?ru101
            case hyu101 => (intro W hSw; have h9 := HP4.out W hSw; have h8 := HP3.out W h9.1; obtain ⟨x0, x1⟩ := cells2r h8.2.1; obtain ⟨l0, l1, l2⟩ := cells3r h8.2.2.2.1; obtain ⟨r0, r1⟩ := cells2r h9.2; clear h8 h9; go_simp; try with_reducible rfl)
            simp only [Act.put, List.setIfInBounds_toArray, List.set_cons_zero, List.set_cons_succ]
            refine takeD 2 103 (v := ?vu102) rfl rfl (by kernel_rfl) (by kernel_rfl) (by kernel_rfl) (fun _ _ _ h => h) (by kernel_rfl) ?hyu102 (by assumption) ?ru102
            case hyu102 => (intro W hSw; have h9 := HP4.out W hSw; have h8 := HP3.out W h9.1; obtain ⟨x0, x1⟩ := cells2r h8.2.1; obtain ⟨l0, l1, l2⟩ := cells3r h8.2.2.2.1; obtain ⟨r0, r1⟩ := cells2r h9.2; clear h8 h9; go_simp; try with_reducible rfl)
            simp only [Act.put, List.setIfInBounds_toArray, List.set_cons_zero, List.set_cons_succ]
            refine takeD 3 104 (v := ?vu103) rfl rfl (by kernel_rfl) (by kernel_rfl) (by kernel_rfl) (fun _ _ _ h => h) (by kernel_rfl) ?hyu103 (by assumption) ?ru103
            case hyu103 => (intro W hSw; have h9 := HP4.out W hSw; have h8 := HP3.out W h9.1; obtain ⟨x0, x1⟩ := cells2r h8.2.1; obtain ⟨l0, l1, l2⟩ := cells3r h8.2.2.2.1; obtain ⟨r0, r1⟩ := cells2r h9.2; clear h8 h9; go_simp; try with_reducible rfl)
            simp only [Act.put, List.setIfInBounds_toArray, List.set_cons_zero, List.set_cons_succ]
            refine takeD 4 105 (v := ?vu104) rfl rfl (by kernel_rfl) (by kernel_rfl) (by kernel_rfl) (fun _ _ _ h => h) (by kernel_rfl) ?hyu104 (by assumption) ?ru104
            case hyu104 => (intro W hSw; have h9 := HP4.out W hSw; have h8 := HP3.out W h9.1; obtain ⟨x0, x1⟩ := cells2r h8.2.1; obtain ⟨l0, l1, l2⟩ := cells3r h8.2.2.2.1; obtain ⟨r0, r1⟩ := cells2r h9.2; clear h8 h9; go_simp; try with_reducible rfl)
            simp only [Act.put, List.setIfInBounds_toArray, List.set_cons_zero, List.set_cons_succ]
            refine wpAnyH_ready (rs := [1, 6]) (by kernel_rfl) (by simp) ?_
            refine AllReadyH.cons (o := _) rfl (fun K hK => ?_) (AllReadyH.cons (o := _) rfl (fun K hK => ?_) AllReadyH.nil)
            · skip
              go_simp
              go_at_call 18; refine (specDiskFlush_any _ _ _ d _ (right_inn HR.out) (right_fits HR.out) (HP3.out _ (HP4.out _ (E8.out.below BB.out).now).1).2.2.1).mono ?_
              rintro e W2 ⟨sF, cF, rfl, oF, b2⟩
              obtain ⟨sF, nF, pF, cF, mF, qF, rfl, rfl, hmF⟩ := oF.shp
              have OD := hide oF
              have BX := hide (BB.out.trans (b2.mono BB.out.size))
              clear BB
              have BB := BX
              clear BX
              clear oF b2 hmF hSS
              go_wp2_with fail
              refine hK.out _ _ (E8.out.below BB.out).now (fun hSS => ?_)
              clear hK K
              try simp only [Act.put, List.setIfInBounds_toArray, List.set_cons_zero, List.set_cons_succ]
              refine wpAnyH_ready (rs := [5, 6]) (by kernel_rfl) (by simp) ?_
              refine AllReadyH.cons (o := _) rfl (fun K hK => ?_) (AllReadyH.cons (o := _) rfl (fun K hK => ?_) AllReadyH.nil)
              · skip
                go_simp
                go_at_call 17; refine (implLogAppend_any _ _ _ (dkFlush d) nx (q + (j : Int)) t _ (right_inn HFR.out) (right_fits HFR.out) HWQ.out OD.out).mono ?_
                rw [HAP.out]
                rintro e W3 ⟨sA, cA, rfl, oA, b3⟩
                obtain ⟨sA, nA, pA, cA, mA, qA, rfl, rfl, hmA⟩ := oA.shp
                have OF := hide (oA.base (base' := 0) (Nat.zero_le _))
                have BX := hide (BB.out.trans (b3.mono BB.out.size))
                clear BB
                have BB := BX
                clear BX
                clear oA b3 hmA hSS
                go_wp2_with fail
                refine hK.out _ _ (E8.out.below BB.out).now (fun hSS => ?_)
                clear hK K
                try simp only [Act.put, List.setIfInBounds_toArray, List.set_cons_zero, List.set_cons_succ]
                refine wpAnyH_ready (rs := [6]) (by kernel_rfl) (by simp) ?_
                refine AllReadyH.cons (o := _) rfl (fun K hK => ?_) AllReadyH.nil
                go_simp
                have b4 := (Below.refl W3.heap.size W3).alloc (Nat.le_refl _) (.cells #[.slice none 0 0, .slice none 0 0, .string ⟨#[]⟩, .int .i64 0] 37)
                have ZA := hide (heap_alloc_new W3 (.cells #[.slice none 0 0, .slice none 0 0, .string ⟨#[]⟩, .int .i64 0] 37))
                have ZL := hide (BB.out.size)
                have FF := hide (own_under OF.out)
                have OX := hide (OF.out.below b4)
                clear OF
                have OF := OX
                clear OX
                have BX := hide (BB.out.trans (b4.mono BB.out.size))
                clear BB
                have BB := BX
                clear BX
                clear b4 hSS
                refine hK.out _ _ (E8.out.below BB.out).now (fun hSS => ?_)
                clear hK K
                generalize W3.alloc (.cells #[.slice none 0 0, .slice none 0 0, .string ⟨#[]⟩, .int .i64 0] 37) = W4 at *
                obtain ⟨z, hz⟩ : ∃ z, z = W3.heap.size := ⟨_, rfl⟩
                have ZL2 : Hid (W1.heap.size ≤ z) := by show _ ≤ _; rw [hz]; exact ZL.out
                clear ZL
                have ZL := ZL2
                rw [← hz] at ZA FF ⊢
                clear hz ZL2
                try simp only [Act.put, List.setIfInBounds_toArray, List.set_cons_zero, List.set_cons_succ]
                refine wpAnyH_ready (rs := [7]) (by kernel_rfl) (by simp) ?_
                refine AllReadyH.cons (o := _) rfl (fun K hK => ?_) AllReadyH.nil
                obtain ⟨y0, y1, y2, y3, yf⟩ := cells4 ZA.out
                go_simp
                have OA := hide (outAt_gen (s := .slice sA nA pA) (c := .slice cA mA qA) (t := ⟨#[]⟩) (K := KK) ZA.out OF.out FF.out (Nat.zero_le _))
                have BZ := hide ((((BB.out.setCell (p := ⟨z, 0, none⟩) ZL.out (.slice sA nA pA)).setCell (p := ⟨z, 1, none⟩) ZL.out (.slice cA mA qA)).setCell (p := ⟨z, 2, none⟩) ZL.out (.string ⟨#[]⟩)).setCell (p := ⟨z, 3, none⟩) ZL.out (.int .i64 KK))
                clear y0 y1 y2 y3 yf
                refine hK.out _ _ (E8.out.below BZ.out).now (fun _ => ?_)
                clear hK K
                try simp only [Act.put, List.setIfInBounds_toArray, List.set_cons_zero, List.set_cons_succ]
                refine wpAnyH_done (by kernel_rfl) ?_ _
                refine NoPanic.normal ?_
                go_wp2_with fail
                go_meet
                exact ⟨z, _, _, _, _, _, _, rfl, OA, hide (E8.out.below BZ.out)⟩
              · skip
                go_simp
                have b3 := (Below.refl W2.heap.size W2).alloc (Nat.le_refl _) (.cells #[.slice none 0 0, .slice none 0 0, .string ⟨#[]⟩, .int .i64 0] 37)
                have ZA := hide (heap_alloc_new W2 (.cells #[.slice none 0 0, .slice none 0 0, .string ⟨#[]⟩, .int .i64 0] 37))
                have ZL := hide (BB.out.size)
                have OX := hide (OD.out.below b3)
                clear OD
                have OD := OX
                clear OX
                have BX := hide (BB.out.trans (b3.mono BB.out.size))
                clear BB
                have BB := BX
                clear BX
                clear b3 hSS
                refine hK.out _ _ (E8.out.below BB.out).now (fun hSS => ?_)
                clear hK K
                generalize W2.alloc (.cells #[.slice none 0 0, .slice none 0 0, .string ⟨#[]⟩, .int .i64 0] 37) = W3 at *
                obtain ⟨z, hz⟩ : ∃ z, z = W2.heap.size := ⟨_, rfl⟩
                have ZL2 : Hid (W1.heap.size ≤ z) := by show _ ≤ _; rw [hz]; exact ZL.out
                clear ZL
                have ZL := ZL2
                rw [← hz] at ZA ⊢
                clear hz ZL2
                try simp only [Act.put, List.setIfInBounds_toArray, List.set_cons_zero, List.set_cons_succ]
                refine wpAnyH_ready (rs := [5]) (by kernel_rfl) (by simp) ?_
                refine AllReadyH.cons (o := _) rfl (fun K hK => ?_) AllReadyH.nil
                go_simp
                go_at_call 17; refine (implLogAppend_any _ _ _ (dkFlush d) nx (q + (j : Int)) t _ (right_inn HFR.out) (right_fits HFR.out) HWQ.out OD.out).mono ?_
                rw [HAP.out]
                rintro e W4 ⟨sA, cA, rfl, oA, b4⟩
                obtain ⟨sA, nA, pA, cA, mA, qA, rfl, rfl, hmA⟩ := oA.shp
                have OF := hide (oA.base (base' := 0) (Nat.zero_le _))
                have FF := hide (own_above oA (blkS ZA.out))
                have BX := hide (BB.out.trans (b4.mono BB.out.size))
                clear BB
                have BB := BX
                clear BX
                have ZX := hide ((b4.block _ (blkS ZA.out)).trans ZA.out)
                clear ZA
                have ZA := ZX
                clear ZX
                clear oA b4 hmA hSS
                go_wp2_with fail
                refine hK.out _ _ (E8.out.below BB.out).now (fun hSS => ?_)
                clear hK K
                try simp only [Act.put, List.setIfInBounds_toArray, List.set_cons_zero, List.set_cons_succ]
                refine wpAnyH_ready (rs := [7]) (by kernel_rfl) (by simp) ?_
                refine AllReadyH.cons (o := _) rfl (fun K hK => ?_) AllReadyH.nil
                obtain ⟨y0, y1, y2, y3, yf⟩ := cells4 ZA.out
                go_simp
                have OA := hide (outAt_gen (s := .slice sA nA pA) (c := .slice cA mA qA) (t := ⟨#[]⟩) (K := KK) ZA.out OF.out FF.out (Nat.zero_le _))
                have BZ := hide ((((BB.out.setCell (p := ⟨z, 0, none⟩) ZL.out (.slice sA nA pA)).setCell (p := ⟨z, 1, none⟩) ZL.out (.slice cA mA qA)).setCell (p := ⟨z, 2, none⟩) ZL.out (.string ⟨#[]⟩)).setCell (p := ⟨z, 3, none⟩) ZL.out (.int .i64 KK))
                clear y0 y1 y2 y3 yf
                refine hK.out _ _ (E8.out.below BZ.out).now (fun _ => ?_)
                clear hK K
                try simp only [Act.put, List.setIfInBounds_toArray, List.set_cons_zero, List.set_cons_succ]
                refine wpAnyH_done (by kernel_rfl) ?_ _
                refine NoPanic.normal ?_
                go_wp2_with fail
                go_meet
                exact ⟨z, _, _, _, _, _, _, rfl, OA, hide (E8.out.below BZ.out)⟩
            · skip
              go_simp
              have b2 := (Below.refl W1.heap.size W1).alloc (Nat.le_refl _) (.cells #[.slice none 0 0, .slice none 0 0, .string ⟨#[]⟩, .int .i64 0] 37)
              have ZA := hide (heap_alloc_new W1 (.cells #[.slice none 0 0, .slice none 0 0, .string ⟨#[]⟩, .int .i64 0] 37))
              have ZL := hide (BB.out.size)
              have BX := hide (BB.out.trans (b2.mono BB.out.size))
              clear BB
              have BB := BX
              clear BX
              clear b2 hSS
              refine hK.out _ _ (E8.out.below BB.out).now (fun hSS => ?_)
              clear hK K
              generalize W1.alloc (.cells #[.slice none 0 0, .slice none 0 0, .string ⟨#[]⟩, .int .i64 0] 37) = W2 at *
              obtain ⟨z, hz⟩ : ∃ z, z = W1.heap.size := ⟨_, rfl⟩
              have ZL2 : Hid (W1.heap.size ≤ z) := by show _ ≤ _; rw [hz]; exact ZL.out
              clear ZL
              have ZL := ZL2
              rw [← hz] at ZA ⊢
              clear hz ZL2
              try simp only [Act.put, List.setIfInBounds_toArray, List.set_cons_zero, List.set_cons_succ]
              refine wpAnyH_ready (rs := [1]) (by kernel_rfl) (by simp) ?_
              refine AllReadyH.cons (o := _) rfl (fun K hK => ?_) AllReadyH.nil
              go_simp
              go_at_call 18; refine (specDiskFlush_any _ _ _ d _ (right_inn HR.out) (right_fits HR.out) (HP3.out _ (HP4.out _ (E8.out.below BB.out).now).1).2.2.1).mono ?_
              rintro e W3 ⟨sF, cF, rfl, oF, b3⟩
              obtain ⟨sF, nF, pF, cF, mF, qF, rfl, rfl, hmF⟩ := oF.shp
              have OD := hide oF
              have BX := hide (BB.out.trans (b3.mono BB.out.size))
              clear BB
              have BB := BX
              clear BX
              have ZX := hide ((b3.block _ (blkS ZA.out)).trans ZA.out)
              clear ZA
              have ZA := ZX
              clear ZX
              clear oF b3 hmF hSS
              go_wp2_with fail
              refine hK.out _ _ (E8.out.below BB.out).now (fun hSS => ?_)
              clear hK K
              try simp only [Act.put, List.setIfInBounds_toArray, List.set_cons_zero, List.set_cons_succ]
              refine wpAnyH_ready (rs := [5]) (by kernel_rfl) (by simp) ?_
              refine AllReadyH.cons (o := _) rfl (fun K hK => ?_) AllReadyH.nil
              go_simp
              go_at_call 17; refine (implLogAppend_any _ _ _ (dkFlush d) nx (q + (j : Int)) t _ (right_inn HFR.out) (right_fits HFR.out) HWQ.out OD.out).mono ?_
              rw [HAP.out]
              rintro e W4 ⟨sA, cA, rfl, oA, b4⟩
              obtain ⟨sA, nA, pA, cA, mA, qA, rfl, rfl, hmA⟩ := oA.shp
              have OF := hide (oA.base (base' := 0) (Nat.zero_le _))
              have FF := hide (own_above oA (blkS ZA.out))
              have BX := hide (BB.out.trans (b4.mono BB.out.size))
              clear BB
              have BB := BX
              clear BX
              have ZX := hide ((b4.block _ (blkS ZA.out)).trans ZA.out)
              clear ZA
              have ZA := ZX
              clear ZX
              clear oA b4 hmA hSS
              go_wp2_with fail
              refine hK.out _ _ (E8.out.below BB.out).now (fun hSS => ?_)
              clear hK K
              try simp only [Act.put, List.setIfInBounds_toArray, List.set_cons_zero, List.set_cons_succ]
              refine wpAnyH_ready (rs := [7]) (by kernel_rfl) (by simp) ?_
              refine AllReadyH.cons (o := _) rfl (fun K hK => ?_) AllReadyH.nil
              obtain ⟨y0, y1, y2, y3, yf⟩ := cells4 ZA.out
              go_simp
              have OA := hide (outAt_gen (s := .slice sA nA pA) (c := .slice cA mA qA) (t := ⟨#[]⟩) (K := KK) ZA.out OF.out FF.out (Nat.zero_le _))
              have BZ := hide ((((BB.out.setCell (p := ⟨z, 0, none⟩) ZL.out (.slice sA nA pA)).setCell (p := ⟨z, 1, none⟩) ZL.out (.slice cA mA qA)).setCell (p := ⟨z, 2, none⟩) ZL.out (.string ⟨#[]⟩)).setCell (p := ⟨z, 3, none⟩) ZL.out (.int .i64 KK))
              clear y0 y1 y2 y3 yf
              refine hK.out _ _ (E8.out.below BZ.out).now (fun _ => ?_)
              clear hK K
              try simp only [Act.put, List.setIfInBounds_toArray, List.set_cons_zero, List.set_cons_succ]
              refine wpAnyH_done (by kernel_rfl) ?_ _
              refine NoPanic.normal ?_
              go_wp2_with fail
              go_meet
              exact ⟨z, _, _, _, _, _, _, rfl, OA, hide (E8.out.below BZ.out)⟩
          case rest =>
            obtain ⟨g12, sA, nA, pA, cA, mA, qA, rfl, OA, E8⟩ := hcut
            clear E7
            have HFL := hide (ever_outAt OA.out)
            by_cases hK : KK = 0
            · subst hK
              obtain ⟨hRD, hRR, ⟨L2, hL2⟩, hCR⟩ := HLA.out rfl
              have HRD := hide hRD
              have HCR := hide hCR
              have hRB := recBytes_yes hRR
              have hne : recBytes (q + (j : Int)) t ≠ ⟨#[]⟩ := fun e => by
                have h9 := recS_len (q := q + (j : Int)) ((recRight_iff _ t).1 hRR).2
                rw [← hRB, e] at h9
                have h10 : (⟨#[]⟩ : ByteArray).size = 0 := rfl
                omega
              have hneL : (recBytes (q + (j : Int)) t).toList.isEmpty = false := by
                rw [Bool.eq_false_iff]
                intro e
                exact hne (ba_ext (by rw [← ByteArray.toList_eq, List.isEmpty_iff.1 e]))
              have HRB := hide (specRecordBytes_any (q + (j : Int)) t · HWQ.out)
              obtain ⟨ly, hly⟩ : ∃ x, x = dkLog DD (k : Int) q := ⟨_, rfl⟩
              rw [← hly] at hL2
              obtain ⟨LY, ny, cy⟩ := ly
              simp only at hL2
              have HLY := hide hly.symm
              have hjy : j < LY.length := by rw [hL2, List.length_append, ← HN.out, List.length_cons]; omega
              have hgy : LY.getD j noWr = ⟨q + (j : Int), t⟩ := by
                have h9 : j = L.length := HN.out
                rw [hL2, h9]
                simp [List.getD_eq_getElem?_getD]
              have HJY := hide (And.intro hjy hgy)
              have hyl : LY.length ≤ 1048576 := by have h9 := dkLog_len (d := DD) (by have := (dkRight_bounds hRD).1; omega) (k : Int) q; rw [← hly] at h9; exact h9
              have HYL := hide hyl
              generalize recBytes (q + (j : Int)) t = RB at *
              obtain ⟨y0, y1, y2, y3, yf⟩ := cells4 OA.out.box
              have h8 := HP3.out _ (HP4.out _ E8.out.now).1
              have h9 := (HP4.out _ E8.out.now).2
              obtain ⟨x0, x1⟩ := cells2r h8.2.1
              obtain ⟨l0, l1, l2⟩ := cells3r h8.2.2.2.1
              obtain ⟨r0, r1⟩ := cells2r h9
              clear hRD hRR hL2 hCR hRB hne hly hjy hgy hyl h8 h9 OA yf
              go_upto_region 19 with (go_at_call 19; refine (HRB.out _).mono ?_; rintro e wd ⟨rfl, bd⟩; have E9 := hide (E8.out.below bd); have F9 := hide (HFL.out.below bd); clear bd)
              clear y0 y1 y2 y3 x0 x1 l0 l1 l2 r0 r1 E8 HFL
              obtain ⟨y0, y1, y2, y3, yf⟩ := cells4 F9.out.now.box
              have h8 := HP3.out _ (HP4.out _ E9.out.now).1
              have h9 := (HP4.out _ E9.out.now).2
              obtain ⟨x0, x1⟩ := cells2r h8.2.1
              obtain ⟨l0, l1, l2⟩ := cells3r h8.2.2.2.1
              obtain ⟨r0, r1⟩ := cells2r h9
              clear h8 h9 yf
              go_wp2_with fail
              refine (rd_log_I _ _ _ DD (k : Int) q LY ny cy _ HRD.out HA.out HLY.out F9.out.now.own).mono ?_
              rintro e we ⟨yo, yc, rfl, oy, b10⟩
              obtain ⟨yn, hyn⟩ : ∃ m, m = LY.length := ⟨_, rfl⟩
              rw [← hyn] at oy ⊢
              have HYN := hide hyn
              have ba := (Below.refl we.heap.size we).alloc (Nat.le_refl _) (.cells #[.slice yo yn yc, .int .i64 ny, .int .i64 cy] 31)
              have bb := b10.trans (ba.mono b10.size)
              have E10 := hide (E9.out.below bb)
              have F10 := hide (F9.out.below bb)
              have G10 := hide ((ever_heap (heap_alloc_new we (.cells #[.slice yo yn yc, .int .i64 ny, .int .i64 cy] 31))).and (ever_ownR (oy.below ba)))
              clear oy hyn ba bb b10 E9 F9 y0 y1 y2 y3 x0 x1 l0 l1 l2 r0 r1
              go_upto_region 20 with fail
              generalize we.alloc (.cells #[.slice yo yn yc, .int .i64 ny, .int .i64 cy] 31) = W10 at *
              generalize we.heap.size = g13 at *
              obtain ⟨y0, y1, y2, y3, yf⟩ := cells4 F10.out.now.box
              have h8 := HP3.out _ (HP4.out _ E10.out.now).1
              have h9 := (HP4.out _ E10.out.now).2
              obtain ⟨x0, x1⟩ := cells2r h8.2.1
              obtain ⟨l0, l1, l2⟩ := cells3r h8.2.2.2.1
              obtain ⟨r0, r1⟩ := cells2r h9
              clear h8 h9 yf
              obtain ⟨v0, v1, v2⟩ := cells3r G10.out.now.1
              have hjy : j < yn := by rw [HYN.out]; exact HJY.out.1
              obtain ⟨by0, oy0, ey, hby, cy0, cy1⟩ := ownR_cell G10.out.now.2 j hjy
              rw [HJY.out.2] at cy0 cy1
              simp only at cy0 cy1
              subst ey
              have hle : decide ((yn : Int) ≤ (j : Int)) = false := by simp; omega
              have hle2 : ¬ yn ≤ j := by omega
              have hi0 : (0 : Int) ≤ (j : Int) := by omega
              have hi1 : (j : Int) < (yn : Int) := by omega
              have hq0 := (Int.toNat_natCast j)
              clear hby hjy
              go_region_held3 (fun W => (W.cell? ⟨g13, 0, none⟩ = some (.slice (some ⟨by0, oy0, none⟩) yn yc) ∧ W.cell? ⟨g8, 0, none⟩ = some (.slice lo j lc)) ∧ (W.cell? ⟨by0, oy0 + j * 2, none⟩ = some (.int .i64 (q + (j : Int))) ∧ W.cell? ⟨by0, oy0 + j * 2 + 1, none⟩ = some (.string t)) ∧ (W.cell? ⟨g11, 0, none⟩ = some (.int .i64 (q + (j : Int))) ∧ W.cell? ⟨g11, 1, none⟩ = some (.string t))) (go_keep) (fail)
              all_goals
                have E11 := hide (E10.out.below (Below.refl _ _).drew)
                have F11 := hide (F10.out.below (Below.refl _ _).drew)
                clear E10 F10 G10 y0 y1 y2 y3 x0 x1 l0 l1 l2 r0 r1 v0 v1 v2 cy0 cy1 hle hle2 hi0 hi1
                generalize W10.drew = wd0 at *
                obtain ⟨P5, E11b, HP5⟩ : ∃ P : World → Prop, Hid (Ever P wd0) ∧ Hid (∀ W, P W → P4 W ∧ OutAt 0 g12 (.slice sA nA pA) (.slice cA mA qA) ⟨#[]⟩ 0 DD W) := ⟨_, hide (E11.out.and F11.out), fun W h => h⟩
                clear E11 F11 HRB HJY HYL HYN HLY
                go_upto_region 22 with fail
                go_cut [14] from 148 to 160 (fun pv W => ∃ (z : Nat) (sC : Option Addr) (nC pC : Nat) (cC : Option Addr) (mC qC : Nat) (kl : List Bool), pv = .pointer (some ⟨z, 0, none⟩) ∧ kl.length ≤ 400 ∧ Hid (Ever P5 W) ∧ Hid (Ever (fun W => W.heap[z]? = some (.cells #[.slice sC nC pC, .slice cC mC qC] 26 (0, 0)) ∧ OwnD 0 (.slice sC nC pC) (.slice cC mC qC) (dkCrash DD kl) W) W))
                case first =>
                  refine wp_region_noPanic ?_
                  refine wp_region_held_drew (S := P5) (by kernel_rfl) (E11b.out.below (Below.refl _ _).drew).now (fun hSS => ?_)
                  have E12 := hide (E11b.out.below (Below.refl _ _).drew)
                  clear E11b
                  generalize wd0.drew = W1 at *
                  have BB := hide (Below.refl W1.heap.size W1)
                  refine takeD 0 148 (v := ?vu301) rfl rfl (by kernel_rfl) (by kernel_rfl) (by kernel_rfl) (fun _ _ _ h => h) (by kernel_rfl) ?hyu301 (by assumption) ?ru301
                  case hyu301 => (intro W hSw; go_simp; try with_reducible rfl)
                  simp only [Act.put, List.setIfInBounds_toArray, List.set_cons_zero, List.set_cons_succ]
                  refine takeD 1 149 (v := ?vu302) rfl rfl (by kernel_rfl) (by kernel_rfl) (by kernel_rfl) (fun _ _ _ h => h) (by kernel_rfl) ?hyu302 (by assumption) ?ru302
                  case hyu302 => (intro W hSw; have h9 := (HP5.out W hSw).2; obtain ⟨y0, y1, y2, y3, yf⟩ := cells4 h9.box; clear h9 yf; go_simp; try with_reducible rfl)
                  simp only [Act.put, List.setIfInBounds_toArray, List.set_cons_zero, List.set_cons_succ]
                  refine takeD 2 150 (v := ?vu303) rfl rfl (by kernel_rfl) (by kernel_rfl) (by kernel_rfl) (fun _ _ _ h => h) (by kernel_rfl) ?hyu303 (by assumption) ?ru303
                  case hyu303 => (intro W hSw; go_simp; try with_reducible rfl)
                  simp only [Act.put, List.setIfInBounds_toArray, List.set_cons_zero, List.set_cons_succ]
                  refine takeD 5 153 (v := ?vu304) rfl rfl (by kernel_rfl) (by kernel_rfl) (by kernel_rfl) (fun _ _ _ h => h) (by kernel_rfl) ?hyu304 (by assumption) ?ru304
                  case hyu304 => (intro W hSw; go_simp; try with_reducible rfl)
                  simp only [Act.put, List.setIfInBounds_toArray, List.set_cons_zero, List.set_cons_succ]
                  refine takeD 8 156 (v := ?vu305) rfl rfl (by kernel_rfl) (by kernel_rfl) (by kernel_rfl) (fun _ _ _ h => h) (by kernel_rfl) ?hyu305 (by assumption) ?ru305
                  case hyu305 => (intro W hSw; go_simp; try with_reducible rfl)
                  simp only [Act.put, List.setIfInBounds_toArray, List.set_cons_zero, List.set_cons_succ]
                  refine wpAnyH_ready (rs := [3, 13]) (by kernel_rfl) (by simp) ?_
                  refine AllReadyH.cons (o := _) rfl (fun K hK => ?_) (AllReadyH.cons (o := _) rfl (fun K hK => ?_) AllReadyH.nil)
                  · skip
                    go_simp
                    go_at_call 22; refine (lwAtD_any w.heap.size a1 len1 cap1 z1 0 2 (by omega) _ (by omega) (R1.out.kept (HP3.out _ (HP4.out _ (HP5.out _ (E12.out.below BB.out).now).1).1).1)).mono ?_
                    rintro e wx ⟨v0, rfl, hv0, hwx⟩
                    rw [hwx]
                    obtain ⟨fb0, hb0⟩ : ∃ b : Bool, ((v0 : Int) == 1) = b := ⟨_, rfl⟩
                    clear hwx wx hv0
                    go_wp2_with fail
                    refine hK.out _ _ (E12.out.below BB.out).now (fun hSS => ?_)
                    clear hK K
                    try simp only [Act.put, List.setIfInBounds_toArray, List.set_cons_zero, List.set_cons_succ]
                    refine takeD 4 152 (v := ?vu306) rfl rfl (by kernel_rfl) (by kernel_rfl) (by kernel_rfl) (fun _ _ _ h => h) (by kernel_rfl) ?hyu306 (by assumption) ?ru306
                    case hyu306 => (intro W hSw; go_simp; try with_reducible rfl)
                    simp only [Act.put, List.setIfInBounds_toArray, List.set_cons_zero, List.set_cons_succ]
                    clear hb0
                    refine wpAnyH_ready (rs := [6, 13]) (by kernel_rfl) (by simp) ?_
                    refine AllReadyH.cons (o := _) rfl (fun K hK => ?_) (AllReadyH.cons (o := _) rfl (fun K hK => ?_) AllReadyH.nil)
                    · skip
                      go_simp
                      go_at_call 22; refine (lwAtD_any w.heap.size a1 len1 cap1 z1 1 2 (by omega) _ (by omega) (R1.out.kept (HP3.out _ (HP4.out _ (HP5.out _ (E12.out.below BB.out).now).1).1).1)).mono ?_
                      rintro e wx ⟨v1, rfl, hv1, hwx⟩
                      rw [hwx]
                      obtain ⟨fb1, hb1⟩ : ∃ b : Bool, ((v1 : Int) == 1) = b := ⟨_, rfl⟩
                      clear hwx wx hv1
                      go_wp2_with fail
                      refine hK.out _ _ (E12.out.below BB.out).now (fun hSS => ?_)
                      clear hK K
                      try simp only [Act.put, List.setIfInBounds_toArray, List.set_cons_zero, List.set_cons_succ]
                      refine takeD 7 155 (v := ?vu307) rfl rfl (by kernel_rfl) (by kernel_rfl) (by kernel_rfl) (fun _ _ _ h => h) (by kernel_rfl) ?hyu307 (by assumption) ?ru307
                      case hyu307 => (intro W hSw; go_simp; try with_reducible rfl)
                      simp only [Act.put, List.setIfInBounds_toArray, List.set_cons_zero, List.set_cons_succ]
                      clear hb1
                      refine wpAnyH_ready (rs := [9, 13]) (by kernel_rfl) (by simp) ?_
                      refine AllReadyH.cons (o := _) rfl (fun K hK => ?_) (AllReadyH.cons (o := _) rfl (fun K hK => ?_) AllReadyH.nil)
                      · skip
                        go_simp
                        go_at_call 22; refine (lwAtD_any w.heap.size a1 len1 cap1 z1 2 2 (by omega) _ (by omega) (R1.out.kept (HP3.out _ (HP4.out _ (HP5.out _ (E12.out.below BB.out).now).1).1).1)).mono ?_
                        rintro e wx ⟨v2, rfl, hv2, hwx⟩
                        rw [hwx]
                        obtain ⟨fb2, hb2⟩ : ∃ b : Bool, ((v2 : Int) == 1) = b := ⟨_, rfl⟩
                        clear hwx wx hv2
                        go_wp2_with fail
                        refine hK.out _ _ (E12.out.below BB.out).now (fun hSS => ?_)
                        clear hK K
                        try simp only [Act.put, List.setIfInBounds_toArray, List.set_cons_zero, List.set_cons_succ]
                        refine takeD 10 158 (v := ?vu308) rfl rfl (by kernel_rfl) (by kernel_rfl) (by kernel_rfl) (fun _ _ _ h => h) (by kernel_rfl) ?hyu308 (by assumption) ?ru308
                        case hyu308 => (intro W hSw; go_simp; try with_reducible rfl)
                        simp only [Act.put, List.setIfInBounds_toArray, List.set_cons_zero, List.set_cons_succ]
                        clear hb2
                        refine wpAnyH_ready (rs := [11, 13]) (by kernel_rfl) (by simp) ?_
                        refine AllReadyH.cons (o := _) rfl (fun K hK => ?_) (AllReadyH.cons (o := _) rfl (fun K hK => ?_) AllReadyH.nil)
                        · skip
                          go_simp
                          have b2 := (Below.refl W1.heap.size W1).alloc (Nat.le_refl _) (.cells #[.bool fb0, .bool fb1, .bool fb2] 4)
                          have OL := hide (own_bool3 W1 fb0 fb1 fb2)
                          have BX := hide (BB.out.trans (b2.mono BB.out.size))
                          clear BB
                          have BB := BX
                          clear BX
                          clear b2 hSS
                          refine hK.out _ _ (E12.out.below BB.out).now (fun hSS => ?_)
                          clear hK K
                          generalize W1.alloc (.cells #[.bool fb0, .bool fb1, .bool fb2] 4) = W2 at *
                          try simp only [Act.put, List.setIfInBounds_toArray, List.set_cons_zero, List.set_cons_succ]
                          refine wpAnyH_ready (rs := [12, 13]) (by kernel_rfl) (by simp) ?_
                          refine AllReadyH.cons (o := _) rfl (fun K hK => ?_) (AllReadyH.cons (o := _) rfl (fun K hK => ?_) AllReadyH.nil)
                          · skip
                            go_simp
                            go_at_call 21; refine (implDiskCrash_any _ _ _ _ _ DD [fb0, fb1, fb2] _ (right_inn HRD.out) (right_fits HRD.out) (by simp) (HP5.out _ (E12.out.below BB.out).now).2.own OL.out).mono ?_
                            rintro e W3 ⟨sC, cC, rfl, oC, b3⟩
                            obtain ⟨sC, nC, pC, cC, mC, qC, rfl, rfl, hmC⟩ := oC.shp
                            have OC := hide (oC.base (base' := 0) (Nat.zero_le _))
                            have BX := hide (BB.out.trans (b3.mono BB.out.size))
                            clear BB
                            have BB := BX
                            clear BX
                            clear oC b3 hmC hSS OL
                            go_wp2_with fail
                            refine hK.out _ _ (E12.out.below BB.out).now (fun hSS => ?_)
                            clear hK K
                            try simp only [Act.put, List.setIfInBounds_toArray, List.set_cons_zero, List.set_cons_succ]
                            refine wpAnyH_ready (rs := [13]) (by kernel_rfl) (by simp) ?_
                            refine AllReadyH.cons (o := _) rfl (fun K hK => ?_) AllReadyH.nil
                            go_simp
                            have b4 := (Below.refl W3.heap.size W3).alloc (Nat.le_refl _) (.cells #[.slice none 0 0, .slice none 0 0] 26)
                            have ZA := hide (heap_alloc_new W3 (.cells #[.slice none 0 0, .slice none 0 0] 26))
                            have ZL := hide (BB.out.size)
                            have FF := hide (own_under OC.out)
                            have OX := hide (OC.out.below b4)
                            clear OC
                            have OC := OX
                            clear OX
                            have BX := hide (BB.out.trans (b4.mono BB.out.size))
                            clear BB
                            have BB := BX
                            clear BX
                            clear b4 hSS
                            refine hK.out _ _ (E12.out.below BB.out).now (fun hSS => ?_)
                            clear hK K
                            generalize W3.alloc (.cells #[.slice none 0 0, .slice none 0 0] 26) = W4 at *
                            obtain ⟨z, hz⟩ : ∃ z, z = W3.heap.size := ⟨_, rfl⟩
                            have ZL2 : Hid (W1.heap.size ≤ z) := by show _ ≤ _; rw [hz]; exact ZL.out
                            clear ZL
                            have ZL := ZL2
                            rw [← hz] at ZA FF ⊢
                            clear hz ZL2
                            try simp only [Act.put, List.setIfInBounds_toArray, List.set_cons_zero, List.set_cons_succ]
                            refine wpAnyH_ready (rs := [14]) (by kernel_rfl) (by simp) ?_
                            refine AllReadyH.cons (o := _) rfl (fun K hK => ?_) AllReadyH.nil
                            obtain ⟨y0, y1, yf⟩ := cells2 ZA.out
                            go_simp
                            have XZ := hide (set2 (x := .slice sC nC pC) (y := .slice cC mC qC) ZA.out)
                            have OZ := hide ((OC.out.setF (m := 0) (x := .slice sC nC pC) FF.out).setF (m := 1) (x := .slice cC mC qC) FF.out)
                            have BZ := hide ((BB.out.setCell (p := ⟨z, 0, none⟩) ZL.out (.slice sC nC pC)).setCell (p := ⟨z, 1, none⟩) ZL.out (.slice cC mC qC))
                            clear y0 y1 yf
                            refine hK.out _ _ (E12.out.below BZ.out).now (fun _ => ?_)
                            clear hK K
                            try simp only [Act.put, List.setIfInBounds_toArray, List.set_cons_zero, List.set_cons_succ]
                            refine wpAnyH_done (by kernel_rfl) ?_ _
                            refine NoPanic.normal ?_
                            go_wp2_with fail
                            go_meet
                            exact ⟨z, _, _, _, _, _, _, [fb0, fb1, fb2], rfl, by simp, hide (E12.out.below BZ.out), hide ((ever_heap XZ.out).and (ever_ownD OZ.out))⟩
                          · skip
                            go_simp
                            have b3 := (Below.refl W2.heap.size W2).alloc (Nat.le_refl _) (.cells #[.slice none 0 0, .slice none 0 0] 26)
                            have ZA := hide (heap_alloc_new W2 (.cells #[.slice none 0 0, .slice none 0 0] 26))
                            have ZL := hide (BB.out.size)
                            have OX := hide (show OwnL _ _ _ _ from owns_below OL.out b3)
                            clear OL
                            have OL := OX
                            clear OX
                            have BX := hide (BB.out.trans (b3.mono BB.out.size))
                            clear BB
                            have BB := BX
                            clear BX
                            clear b3 hSS
                            refine hK.out _ _ (E12.out.below BB.out).now (fun hSS => ?_)
                            clear hK K
                            generalize W2.alloc (.cells #[.slice none 0 0, .slice none 0 0] 26) = W3 at *
                            obtain ⟨z, hz⟩ : ∃ z, z = W2.heap.size := ⟨_, rfl⟩
                            have ZL2 : Hid (W1.heap.size ≤ z) := by show _ ≤ _; rw [hz]; exact ZL.out
                            clear ZL
                            have ZL := ZL2
                            rw [← hz] at ZA ⊢
                            clear hz ZL2
                            try simp only [Act.put, List.setIfInBounds_toArray, List.set_cons_zero, List.set_cons_succ]
                            refine wpAnyH_ready (rs := [12]) (by kernel_rfl) (by simp) ?_
                            refine AllReadyH.cons (o := _) rfl (fun K hK => ?_) AllReadyH.nil
                            go_simp
                            go_at_call 21; refine (implDiskCrash_any _ _ _ _ _ DD [fb0, fb1, fb2] _ (right_inn HRD.out) (right_fits HRD.out) (by simp) (HP5.out _ (E12.out.below BB.out).now).2.own OL.out).mono ?_
                            rintro e W4 ⟨sC, cC, rfl, oC, b4⟩
                            obtain ⟨sC, nC, pC, cC, mC, qC, rfl, rfl, hmC⟩ := oC.shp
                            have OC := hide (oC.base (base' := 0) (Nat.zero_le _))
                            have FF := hide (own_above oC (blkS ZA.out))
                            have BX := hide (BB.out.trans (b4.mono BB.out.size))
                            clear BB
                            have BB := BX
                            clear BX
                            have ZX := hide ((b4.block _ (blkS ZA.out)).trans ZA.out)
                            clear ZA
                            have ZA := ZX
                            clear ZX
                            clear oC b4 hmC hSS OL
                            go_wp2_with fail
                            refine hK.out _ _ (E12.out.below BB.out).now (fun hSS => ?_)
                            clear hK K
                            try simp only [Act.put, List.setIfInBounds_toArray, List.set_cons_zero, List.set_cons_succ]
                            refine wpAnyH_ready (rs := [14]) (by kernel_rfl) (by simp) ?_
                            refine AllReadyH.cons (o := _) rfl (fun K hK => ?_) AllReadyH.nil
                            obtain ⟨y0, y1, yf⟩ := cells2 ZA.out
                            go_simp
                            have XZ := hide (set2 (x := .slice sC nC pC) (y := .slice cC mC qC) ZA.out)
                            have OZ := hide ((OC.out.setF (m := 0) (x := .slice sC nC pC) FF.out).setF (m := 1) (x := .slice cC mC qC) FF.out)
                            have BZ := hide ((BB.out.setCell (p := ⟨z, 0, none⟩) ZL.out (.slice sC nC pC)).setCell (p := ⟨z, 1, none⟩) ZL.out (.slice cC mC qC))
                            clear y0 y1 yf
                            refine hK.out _ _ (E12.out.below BZ.out).now (fun _ => ?_)
                            clear hK K
                            try simp only [Act.put, List.setIfInBounds_toArray, List.set_cons_zero, List.set_cons_succ]
                            refine wpAnyH_done (by kernel_rfl) ?_ _
                            refine NoPanic.normal ?_
                            go_wp2_with fail
                            go_meet
                            exact ⟨z, _, _, _, _, _, _, [fb0, fb1, fb2], rfl, by simp, hide (E12.out.below BZ.out), hide ((ever_heap XZ.out).and (ever_ownD OZ.out))⟩
                        · skip
                          go_simp
                          have b2 := (Below.refl W1.heap.size W1).alloc (Nat.le_refl _) (.cells #[.slice none 0 0, .slice none 0 0] 26)
                          have ZA := hide (heap_alloc_new W1 (.cells #[.slice none 0 0, .slice none 0 0] 26))
                          have ZL := hide (BB.out.size)
                          have BX := hide (BB.out.trans (b2.mono BB.out.size))
                          clear BB
                          have BB := BX
                          clear BX
                          clear b2 hSS
                          refine hK.out _ _ (E12.out.below BB.out).now (fun hSS => ?_)
                          clear hK K
                          generalize W1.alloc (.cells #[.slice none 0 0, .slice none 0 0] 26) = W2 at *
                          obtain ⟨z, hz⟩ : ∃ z, z = W1.heap.size := ⟨_, rfl⟩
                          have ZL2 : Hid (W1.heap.size ≤ z) := by show _ ≤ _; rw [hz]; exact ZL.out
                          clear ZL
                          have ZL := ZL2
                          rw [← hz] at ZA ⊢
                          clear hz ZL2
                          try simp only [Act.put, List.setIfInBounds_toArray, List.set_cons_zero, List.set_cons_succ]
                          refine wpAnyH_ready (rs := [11]) (by kernel_rfl) (by simp) ?_
                          refine AllReadyH.cons (o := _) rfl (fun K hK => ?_) AllReadyH.nil
                          go_simp
                          have b3 := (Below.refl W2.heap.size W2).alloc (Nat.le_refl _) (.cells #[.bool fb0, .bool fb1, .bool fb2] 4)
                          have OL := hide (own_bool3 W2 fb0 fb1 fb2)
                          have BX := hide (BB.out.trans (b3.mono BB.out.size))
                          clear BB
                          have BB := BX
                          clear BX
                          have ZX := hide ((b3.block _ (blkS ZA.out)).trans ZA.out)
                          clear ZA
                          have ZA := ZX
                          clear ZX
                          clear b3 hSS
                          refine hK.out _ _ (E12.out.below BB.out).now (fun hSS => ?_)
                          clear hK K
                          generalize W2.alloc (.cells #[.bool fb0, .bool fb1, .bool fb2] 4) = W3 at *
                          try simp only [Act.put, List.setIfInBounds_toArray, List.set_cons_zero, List.set_cons_succ]
                          refine wpAnyH_ready (rs := [12]) (by kernel_rfl) (by simp) ?_
                          refine AllReadyH.cons (o := _) rfl (fun K hK => ?_) AllReadyH.nil
                          go_simp
                          go_at_call 21; refine (implDiskCrash_any _ _ _ _ _ DD [fb0, fb1, fb2] _ (right_inn HRD.out) (right_fits HRD.out) (by simp) (HP5.out _ (E12.out.below BB.out).now).2.own OL.out).mono ?_
                          rintro e W4 ⟨sC, cC, rfl, oC, b4⟩
                          obtain ⟨sC, nC, pC, cC, mC, qC, rfl, rfl, hmC⟩ := oC.shp
                          have OC := hide (oC.base (base' := 0) (Nat.zero_le _))
                          have FF := hide (own_above oC (blkS ZA.out))
                          have BX := hide (BB.out.trans (b4.mono BB.out.size))
                          clear BB
                          have BB := BX
                          clear BX
                          have ZX := hide ((b4.block _ (blkS ZA.out)).trans ZA.out)
                          clear ZA
                          have ZA := ZX
                          clear ZX
                          clear oC b4 hmC hSS OL
                          go_wp2_with fail
                          refine hK.out _ _ (E12.out.below BB.out).now (fun hSS => ?_)
                          clear hK K
                          try simp only [Act.put, List.setIfInBounds_toArray, List.set_cons_zero, List.set_cons_succ]
                          refine wpAnyH_ready (rs := [14]) (by kernel_rfl) (by simp) ?_
                          refine AllReadyH.cons (o := _) rfl (fun K hK => ?_) AllReadyH.nil
                          obtain ⟨y0, y1, yf⟩ := cells2 ZA.out
                          go_simp
                          have XZ := hide (set2 (x := .slice sC nC pC) (y := .slice cC mC qC) ZA.out)
                          have OZ := hide ((OC.out.setF (m := 0) (x := .slice sC nC pC) FF.out).setF (m := 1) (x := .slice cC mC qC) FF.out)
                          have BZ := hide ((BB.out.setCell (p := ⟨z, 0, none⟩) ZL.out (.slice sC nC pC)).setCell (p := ⟨z, 1, none⟩) ZL.out (.slice cC mC qC))
                          clear y0 y1 yf
                          refine hK.out _ _ (E12.out.below BZ.out).now (fun _ => ?_)
                          clear hK K
                          try simp only [Act.put, List.setIfInBounds_toArray, List.set_cons_zero, List.set_cons_succ]
                          refine wpAnyH_done (by kernel_rfl) ?_ _
                          refine NoPanic.normal ?_
                          go_wp2_with fail
                          go_meet
                          exact ⟨z, _, _, _, _, _, _, [fb0, fb1, fb2], rfl, by simp, hide (E12.out.below BZ.out), hide ((ever_heap XZ.out).and (ever_ownD OZ.out))⟩
                      · skip
                        go_simp
                        have b2 := (Below.refl W1.heap.size W1).alloc (Nat.le_refl _) (.cells #[.slice none 0 0, .slice none 0 0] 26)
                        have ZA := hide (heap_alloc_new W1 (.cells #[.slice none 0 0, .slice none 0 0] 26))
                        have ZL := hide (BB.out.size)
                        have BX := hide (BB.out.trans (b2.mono BB.out.size))
                        clear BB
                        have BB := BX
                        clear BX
                        clear b2 hSS
                        refine hK.out _ _ (E12.out.below BB.out).now (fun hSS => ?_)
                        clear hK K
                        generalize W1.alloc (.cells #[.slice none 0 0, .slice none 0 0] 26) = W2 at *
                        obtain ⟨z, hz⟩ : ∃ z, z = W1.heap.size := ⟨_, rfl⟩
                        have ZL2 : Hid (W1.heap.size ≤ z) := by show _ ≤ _; rw [hz]; exact ZL.out
                        clear ZL
                        have ZL := ZL2
                        rw [← hz] at ZA ⊢
                        clear hz ZL2
                        try simp only [Act.put, List.setIfInBounds_toArray, List.set_cons_zero, List.set_cons_succ]
                        refine wpAnyH_ready (rs := [9]) (by kernel_rfl) (by simp) ?_
                        refine AllReadyH.cons (o := _) rfl (fun K hK => ?_) AllReadyH.nil
                        go_simp
                        go_at_call 22; refine (lwAtD_any w.heap.size a1 len1 cap1 z1 2 2 (by omega) _ (by omega) (R1.out.kept (HP3.out _ (HP4.out _ (HP5.out _ (E12.out.below BB.out).now).1).1).1)).mono ?_
                        rintro e wx ⟨v2, rfl, hv2, hwx⟩
                        rw [hwx]
                        obtain ⟨fb2, hb2⟩ : ∃ b : Bool, ((v2 : Int) == 1) = b := ⟨_, rfl⟩
                        clear hwx wx hv2
                        go_wp2_with fail
                        refine hK.out _ _ (E12.out.below BB.out).now (fun hSS => ?_)
                        clear hK K
                        try simp only [Act.put, List.setIfInBounds_toArray, List.set_cons_zero, List.set_cons_succ]
                        refine takeD 10 158 (v := ?vu309) rfl rfl (by kernel_rfl) (by kernel_rfl) (by kernel_rfl) (fun _ _ _ h => h) (by kernel_rfl) ?hyu309 (by assumption) ?ru309
                        case hyu309 => (intro W hSw; go_simp; try with_reducible rfl)
                        simp only [Act.put, List.setIfInBounds_toArray, List.set_cons_zero, List.set_cons_succ]
                        clear hb2
                        refine wpAnyH_ready (rs := [11]) (by kernel_rfl) (by simp) ?_
                        refine AllReadyH.cons (o := _) rfl (fun K hK => ?_) AllReadyH.nil
                        go_simp
                        have b3 := (Below.refl W2.heap.size W2).alloc (Nat.le_refl _) (.cells #[.bool fb0, .bool fb1, .bool fb2] 4)
                        have OL := hide (own_bool3 W2 fb0 fb1 fb2)
                        have BX := hide (BB.out.trans (b3.mono BB.out.size))
                        clear BB
                        have BB := BX
                        clear BX
                        have ZX := hide ((b3.block _ (blkS ZA.out)).trans ZA.out)
                        clear ZA
                        have ZA := ZX
                        clear ZX
                        clear b3 hSS
                        refine hK.out _ _ (E12.out.below BB.out).now (fun hSS => ?_)
                        clear hK K
                        generalize W2.alloc (.cells #[.bool fb0, .bool fb1, .bool fb2] 4) = W3 at *
                        try simp only [Act.put, List.setIfInBounds_toArray, List.set_cons_zero, List.set_cons_succ]
                        refine wpAnyH_ready (rs := [12]) (by kernel_rfl) (by simp) ?_
                        refine AllReadyH.cons (o := _) rfl (fun K hK => ?_) AllReadyH.nil
                        go_simp
                        go_at_call 21; refine (implDiskCrash_any _ _ _ _ _ DD [fb0, fb1, fb2] _ (right_inn HRD.out) (right_fits HRD.out) (by simp) (HP5.out _ (E12.out.below BB.out).now).2.own OL.out).mono ?_
                        rintro e W4 ⟨sC, cC, rfl, oC, b4⟩
                        obtain ⟨sC, nC, pC, cC, mC, qC, rfl, rfl, hmC⟩ := oC.shp
                        have OC := hide (oC.base (base' := 0) (Nat.zero_le _))
                        have FF := hide (own_above oC (blkS ZA.out))
                        have BX := hide (BB.out.trans (b4.mono BB.out.size))
                        clear BB
                        have BB := BX
                        clear BX
                        have ZX := hide ((b4.block _ (blkS ZA.out)).trans ZA.out)
                        clear ZA
                        have ZA := ZX
                        clear ZX
                        clear oC b4 hmC hSS OL
                        go_wp2_with fail
                        refine hK.out _ _ (E12.out.below BB.out).now (fun hSS => ?_)
                        clear hK K
                        try simp only [Act.put, List.setIfInBounds_toArray, List.set_cons_zero, List.set_cons_succ]
                        refine wpAnyH_ready (rs := [14]) (by kernel_rfl) (by simp) ?_
                        refine AllReadyH.cons (o := _) rfl (fun K hK => ?_) AllReadyH.nil
                        obtain ⟨y0, y1, yf⟩ := cells2 ZA.out
                        go_simp
                        have XZ := hide (set2 (x := .slice sC nC pC) (y := .slice cC mC qC) ZA.out)
                        have OZ := hide ((OC.out.setF (m := 0) (x := .slice sC nC pC) FF.out).setF (m := 1) (x := .slice cC mC qC) FF.out)
                        have BZ := hide ((BB.out.setCell (p := ⟨z, 0, none⟩) ZL.out (.slice sC nC pC)).setCell (p := ⟨z, 1, none⟩) ZL.out (.slice cC mC qC))
                        clear y0 y1 yf
                        refine hK.out _ _ (E12.out.below BZ.out).now (fun _ => ?_)
                        clear hK K
                        try simp only [Act.put, List.setIfInBounds_toArray, List.set_cons_zero, List.set_cons_succ]
                        refine wpAnyH_done (by kernel_rfl) ?_ _
                        refine NoPanic.normal ?_
                        go_wp2_with fail
                        go_meet
                        exact ⟨z, _, _, _, _, _, _, [fb0, fb1, fb2], rfl, by simp, hide (E12.out.below BZ.out), hide ((ever_heap XZ.out).and (ever_ownD OZ.out))⟩
                    · skip
                      go_simp
                      have b2 := (Below.refl W1.heap.size W1).alloc (Nat.le_refl _) (.cells #[.slice none 0 0, .slice none 0 0] 26)
                      have ZA := hide (heap_alloc_new W1 (.cells #[.slice none 0 0, .slice none 0 0] 26))
                      have ZL := hide (BB.out.size)
                      have BX := hide (BB.out.trans (b2.mono BB.out.size))
                      clear BB
                      have BB := BX
                      clear BX
                      clear b2 hSS
                      refine hK.out _ _ (E12.out.below BB.out).now (fun hSS => ?_)
                      clear hK K
                      generalize W1.alloc (.cells #[.slice none 0 0, .slice none 0 0] 26) = W2 at *
                      obtain ⟨z, hz⟩ : ∃ z, z = W1.heap.size := ⟨_, rfl⟩
                      have ZL2 : Hid (W1.heap.size ≤ z) := by show _ ≤ _; rw [hz]; exact ZL.out
                      clear ZL
                      have ZL := ZL2
                      rw [← hz] at ZA ⊢
                      clear hz ZL2
                      try simp only [Act.put, List.setIfInBounds_toArray, List.set_cons_zero, List.set_cons_succ]
                      refine wpAnyH_ready (rs := [6]) (by kernel_rfl) (by simp) ?_
                      refine AllReadyH.cons (o := _) rfl (fun K hK => ?_) AllReadyH.nil
                      go_simp
                      go_at_call 22; refine (lwAtD_any w.heap.size a1 len1 cap1 z1 1 2 (by omega) _ (by omega) (R1.out.kept (HP3.out _ (HP4.out _ (HP5.out _ (E12.out.below BB.out).now).1).1).1)).mono ?_
                      rintro e wx ⟨v1, rfl, hv1, hwx⟩
                      rw [hwx]
                      obtain ⟨fb1, hb1⟩ : ∃ b : Bool, ((v1 : Int) == 1) = b := ⟨_, rfl⟩
                      clear hwx wx hv1
                      go_wp2_with fail
                      refine hK.out _ _ (E12.out.below BB.out).now (fun hSS => ?_)
                      clear hK K
                      try simp only [Act.put, List.setIfInBounds_toArray, List.set_cons_zero, List.set_cons_succ]
                      refine takeD 7 155 (v := ?vu310) rfl rfl (by kernel_rfl) (by kernel_rfl) (by kernel_rfl) (fun _ _ _ h => h) (by kernel_rfl) ?hyu310 (by assumption) ?ru310
                      case hyu310 => (intro W hSw; go_simp; try with_reducible rfl)
                      simp only [Act.put, List.setIfInBounds_toArray, List.set_cons_zero, List.set_cons_succ]
                      clear hb1
                      refine wpAnyH_ready (rs := [9]) (by kernel_rfl) (by simp) ?_
                      refine AllReadyH.cons (o := _) rfl (fun K hK => ?_) AllReadyH.nil
                      go_simp
                      go_at_call 22; refine (lwAtD_any w.heap.size a1 len1 cap1 z1 2 2 (by omega) _ (by omega) (R1.out.kept (HP3.out _ (HP4.out _ (HP5.out _ (E12.out.below BB.out).now).1).1).1)).mono ?_
                      rintro e wx ⟨v2, rfl, hv2, hwx⟩
                      rw [hwx]
                      obtain ⟨fb2, hb2⟩ : ∃ b : Bool, ((v2 : Int) == 1) = b := ⟨_, rfl⟩
                      clear hwx wx hv2
                      go_wp2_with fail
                      refine hK.out _ _ (E12.out.below BB.out).now (fun hSS => ?_)
                      clear hK K
                      try simp only [Act.put, List.setIfInBounds_toArray, List.set_cons_zero, List.set_cons_succ]
                      refine takeD 10 158 (v := ?vu311) rfl rfl (by kernel_rfl) (by kernel_rfl) (by kernel_rfl) (fun _ _ _ h => h) (by kernel_rfl) ?hyu311 (by assumption) ?ru311
                      case hyu311 => (intro W hSw; go_simp; try with_reducible rfl)
                      simp only [Act.put, List.setIfInBounds_toArray, List.set_cons_zero, List.set_cons_succ]
                      clear hb2
                      refine wpAnyH_ready (rs := [11]) (by kernel_rfl) (by simp) ?_
                      refine AllReadyH.cons (o := _) rfl (fun K hK => ?_) AllReadyH.nil
                      go_simp
                      have b3 := (Below.refl W2.heap.size W2).alloc (Nat.le_refl _) (.cells #[.bool fb0, .bool fb1, .bool fb2] 4)
                      have OL := hide (own_bool3 W2 fb0 fb1 fb2)
                      have BX := hide (BB.out.trans (b3.mono BB.out.size))
                      clear BB
                      have BB := BX
                      clear BX
                      have ZX := hide ((b3.block _ (blkS ZA.out)).trans ZA.out)
                      clear ZA
                      have ZA := ZX
                      clear ZX
                      clear b3 hSS
                      refine hK.out _ _ (E12.out.below BB.out).now (fun hSS => ?_)
                      clear hK K
                      generalize W2.alloc (.cells #[.bool fb0, .bool fb1, .bool fb2] 4) = W3 at *
                      try simp only [Act.put, List.setIfInBounds_toArray, List.set_cons_zero, List.set_cons_succ]
                      refine wpAnyH_ready (rs := [12]) (by kernel_rfl) (by simp) ?_
                      refine AllReadyH.cons (o := _) rfl (fun K hK => ?_) AllReadyH.nil
                      go_simp
                      go_at_call 21; refine (implDiskCrash_any _ _ _ _ _ DD [fb0, fb1, fb2] _ (right_inn HRD.out) (right_fits HRD.out) (by simp) (HP5.out _ (E12.out.below BB.out).now).2.own OL.out).mono ?_
                      rintro e W4 ⟨sC, cC, rfl, oC, b4⟩
                      obtain ⟨sC, nC, pC, cC, mC, qC, rfl, rfl, hmC⟩ := oC.shp
                      have OC := hide (oC.base (base' := 0) (Nat.zero_le _))
                      have FF := hide (own_above oC (blkS ZA.out))
                      have BX := hide (BB.out.trans (b4.mono BB.out.size))
                      clear BB
                      have BB := BX
                      clear BX
                      have ZX := hide ((b4.block _ (blkS ZA.out)).trans ZA.out)
                      clear ZA
                      have ZA := ZX
                      clear ZX
                      clear oC b4 hmC hSS OL
                      go_wp2_with fail
                      refine hK.out _ _ (E12.out.below BB.out).now (fun hSS => ?_)
                      clear hK K
                      try simp only [Act.put, List.setIfInBounds_toArray, List.set_cons_zero, List.set_cons_succ]
                      refine wpAnyH_ready (rs := [14]) (by kernel_rfl) (by simp) ?_
                      refine AllReadyH.cons (o := _) rfl (fun K hK => ?_) AllReadyH.nil
                      obtain ⟨y0, y1, yf⟩ := cells2 ZA.out
                      go_simp
                      have XZ := hide (set2 (x := .slice sC nC pC) (y := .slice cC mC qC) ZA.out)
                      have OZ := hide ((OC.out.setF (m := 0) (x := .slice sC nC pC) FF.out).setF (m := 1) (x := .slice cC mC qC) FF.out)
                      have BZ := hide ((BB.out.setCell (p := ⟨z, 0, none⟩) ZL.out (.slice sC nC pC)).setCell (p := ⟨z, 1, none⟩) ZL.out (.slice cC mC qC))
                      clear y0 y1 yf
                      refine hK.out _ _ (E12.out.below BZ.out).now (fun _ => ?_)
                      clear hK K
                      try simp only [Act.put, List.setIfInBounds_toArray, List.set_cons_zero, List.set_cons_succ]
                      refine wpAnyH_done (by kernel_rfl) ?_ _
                      refine NoPanic.normal ?_
                      go_wp2_with fail
                      go_meet
                      exact ⟨z, _, _, _, _, _, _, [fb0, fb1, fb2], rfl, by simp, hide (E12.out.below BZ.out), hide ((ever_heap XZ.out).and (ever_ownD OZ.out))⟩
                  · skip
                    go_simp
                    have b2 := (Below.refl W1.heap.size W1).alloc (Nat.le_refl _) (.cells #[.slice none 0 0, .slice none 0 0] 26)
                    have ZA := hide (heap_alloc_new W1 (.cells #[.slice none 0 0, .slice none 0 0] 26))
                    have ZL := hide (BB.out.size)
                    have BX := hide (BB.out.trans (b2.mono BB.out.size))
                    clear BB
                    have BB := BX
                    clear BX
                    clear b2 hSS
                    refine hK.out _ _ (E12.out.below BB.out).now (fun hSS => ?_)
                    clear hK K
                    generalize W1.alloc (.cells #[.slice none 0 0, .slice none 0 0] 26) = W2 at *
                    obtain ⟨z, hz⟩ : ∃ z, z = W1.heap.size := ⟨_, rfl⟩
                    have ZL2 : Hid (W1.heap.size ≤ z) := by show _ ≤ _; rw [hz]; exact ZL.out
                    clear ZL
                    have ZL := ZL2
                    rw [← hz] at ZA ⊢
                    clear hz ZL2
                    try simp only [Act.put, List.setIfInBounds_toArray, List.set_cons_zero, List.set_cons_succ]
                    refine wpAnyH_ready (rs := [3]) (by kernel_rfl) (by simp) ?_
                    refine AllReadyH.cons (o := _) rfl (fun K hK => ?_) AllReadyH.nil
                    go_simp
                    go_at_call 22; refine (lwAtD_any w.heap.size a1 len1 cap1 z1 0 2 (by omega) _ (by omega) (R1.out.kept (HP3.out _ (HP4.out _ (HP5.out _ (E12.out.below BB.out).now).1).1).1)).mono ?_
                    rintro e wx ⟨v0, rfl, hv0, hwx⟩
                    rw [hwx]
                    obtain ⟨fb0, hb0⟩ : ∃ b : Bool, ((v0 : Int) == 1) = b := ⟨_, rfl⟩
                    clear hwx wx hv0
                    go_wp2_with fail
                    refine hK.out _ _ (E12.out.below BB.out).now (fun hSS => ?_)
                    clear hK K
                    try simp only [Act.put, List.setIfInBounds_toArray, List.set_cons_zero, List.set_cons_succ]
                    refine takeD 4 152 (v := ?vu312) rfl rfl (by kernel_rfl) (by kernel_rfl) (by kernel_rfl) (fun _ _ _ h => h) (by kernel_rfl) ?hyu312 (by assumption) ?ru312
                    case hyu312 => (intro W hSw; go_simp; try with_reducible rfl)
                    simp only [Act.put, List.setIfInBounds_toArray, List.set_cons_zero, List.set_cons_succ]
                    clear hb0
                    refine wpAnyH_ready (rs := [6]) (by kernel_rfl) (by simp) ?_
                    refine AllReadyH.cons (o := _) rfl (fun K hK => ?_) AllReadyH.nil
                    go_simp
                    go_at_call 22; refine (lwAtD_any w.heap.size a1 len1 cap1 z1 1 2 (by omega) _ (by omega) (R1.out.kept (HP3.out _ (HP4.out _ (HP5.out _ (E12.out.below BB.out).now).1).1).1)).mono ?_
                    rintro e wx ⟨v1, rfl, hv1, hwx⟩
                    rw [hwx]
                    obtain ⟨fb1, hb1⟩ : ∃ b : Bool, ((v1 : Int) == 1) = b := ⟨_, rfl⟩
                    clear hwx wx hv1
                    go_wp2_with fail
                    refine hK.out _ _ (E12.out.below BB.out).now (fun hSS => ?_)
                    clear hK K
                    try simp only [Act.put, List.setIfInBounds_toArray, List.set_cons_zero, List.set_cons_succ]
                    refine takeD 7 155 (v := ?vu313) rfl rfl (by kernel_rfl) (by kernel_rfl) (by kernel_rfl) (fun _ _ _ h => h) (by kernel_rfl) ?hyu313 (by assumption) ?ru313
                    case hyu313 => (intro W hSw; go_simp; try with_reducible rfl)
                    simp only [Act.put, List.setIfInBounds_toArray, List.set_cons_zero, List.set_cons_succ]
                    clear hb1
                    refine wpAnyH_ready (rs := [9]) (by kernel_rfl) (by simp) ?_
                    refine AllReadyH.cons (o := _) rfl (fun K hK => ?_) AllReadyH.nil
                    go_simp
                    go_at_call 22; refine (lwAtD_any w.heap.size a1 len1 cap1 z1 2 2 (by omega) _ (by omega) (R1.out.kept (HP3.out _ (HP4.out _ (HP5.out _ (E12.out.below BB.out).now).1).1).1)).mono ?_
                    rintro e wx ⟨v2, rfl, hv2, hwx⟩
                    rw [hwx]
                    obtain ⟨fb2, hb2⟩ : ∃ b : Bool, ((v2 : Int) == 1) = b := ⟨_, rfl⟩
                    clear hwx wx hv2
                    go_wp2_with fail
                    refine hK.out _ _ (E12.out.below BB.out).now (fun hSS => ?_)
                    clear hK K
                    try simp only [Act.put, List.setIfInBounds_toArray, List.set_cons_zero, List.set_cons_succ]
                    refine takeD 10 158 (v := ?vu314) rfl rfl (by kernel_rfl) (by kernel_rfl) (by kernel_rfl) (fun _ _ _ h => h) (by kernel_rfl) ?hyu314 (by assumption) ?ru314
                    case hyu314 => (intro W hSw; go_simp; try with_reducible rfl)
                    simp only [Act.put, List.setIfInBounds_toArray, List.set_cons_zero, List.set_cons_succ]
                    clear hb2
                    refine wpAnyH_ready (rs := [11]) (by kernel_rfl) (by simp) ?_
                    refine AllReadyH.cons (o := _) rfl (fun K hK => ?_) AllReadyH.nil
                    go_simp
                    have b3 := (Below.refl W2.heap.size W2).alloc (Nat.le_refl _) (.cells #[.bool fb0, .bool fb1, .bool fb2] 4)
                    have OL := hide (own_bool3 W2 fb0 fb1 fb2)
                    have BX := hide (BB.out.trans (b3.mono BB.out.size))
                    clear BB
                    have BB := BX
                    clear BX
                    have ZX := hide ((b3.block _ (blkS ZA.out)).trans ZA.out)
                    clear ZA
                    have ZA := ZX
                    clear ZX
                    clear b3 hSS
                    refine hK.out _ _ (E12.out.below BB.out).now (fun hSS => ?_)
                    clear hK K
                    generalize W2.alloc (.cells #[.bool fb0, .bool fb1, .bool fb2] 4) = W3 at *
                    try simp only [Act.put, List.setIfInBounds_toArray, List.set_cons_zero, List.set_cons_succ]
                    refine wpAnyH_ready (rs := [12]) (by kernel_rfl) (by simp) ?_
                    refine AllReadyH.cons (o := _) rfl (fun K hK => ?_) AllReadyH.nil
                    go_simp
                    go_at_call 21; refine (implDiskCrash_any _ _ _ _ _ DD [fb0, fb1, fb2] _ (right_inn HRD.out) (right_fits HRD.out) (by simp) (HP5.out _ (E12.out.below BB.out).now).2.own OL.out).mono ?_
                    rintro e W4 ⟨sC, cC, rfl, oC, b4⟩
                    obtain ⟨sC, nC, pC, cC, mC, qC, rfl, rfl, hmC⟩ := oC.shp
                    have OC := hide (oC.base (base' := 0) (Nat.zero_le _))
                    have FF := hide (own_above oC (blkS ZA.out))
                    have BX := hide (BB.out.trans (b4.mono BB.out.size))
                    clear BB
                    have BB := BX
                    clear BX
                    have ZX := hide ((b4.block _ (blkS ZA.out)).trans ZA.out)
                    clear ZA
                    have ZA := ZX
                    clear ZX
                    clear oC b4 hmC hSS OL
                    go_wp2_with fail
                    refine hK.out _ _ (E12.out.below BB.out).now (fun hSS => ?_)
                    clear hK K
                    try simp only [Act.put, List.setIfInBounds_toArray, List.set_cons_zero, List.set_cons_succ]
                    refine wpAnyH_ready (rs := [14]) (by kernel_rfl) (by simp) ?_
                    refine AllReadyH.cons (o := _) rfl (fun K hK => ?_) AllReadyH.nil
                    obtain ⟨y0, y1, yf⟩ := cells2 ZA.out
                    go_simp
                    have XZ := hide (set2 (x := .slice sC nC pC) (y := .slice cC mC qC) ZA.out)
                    have OZ := hide ((OC.out.setF (m := 0) (x := .slice sC nC pC) FF.out).setF (m := 1) (x := .slice cC mC qC) FF.out)
                    have BZ := hide ((BB.out.setCell (p := ⟨z, 0, none⟩) ZL.out (.slice sC nC pC)).setCell (p := ⟨z, 1, none⟩) ZL.out (.slice cC mC qC))
                    clear y0 y1 yf
                    refine hK.out _ _ (E12.out.below BZ.out).now (fun _ => ?_)
                    clear hK K
                    try simp only [Act.put, List.setIfInBounds_toArray, List.set_cons_zero, List.set_cons_succ]
                    refine wpAnyH_done (by kernel_rfl) ?_ _
                    refine NoPanic.normal ?_
                    go_wp2_with fail
                    go_meet
                    exact ⟨z, _, _, _, _, _, _, [fb0, fb1, fb2], rfl, by simp, hide (E12.out.below BZ.out), hide ((ever_heap XZ.out).and (ever_ownD OZ.out))⟩
                case rest =>
                  obtain ⟨g14, sC, nC, pC, cC, mC, qC, kl, rfl, hkl, E12, G12⟩ := hcut
                  have HKL := hide hkl
                  clear E11b hkl
                  have hrC := crash_right kl HRD.out HKL.out
                  have HRC := hide hrC
                  obtain ⟨L3, hL3⟩ := HCR.out kl HKL.out
                  obtain ⟨lz, hlz⟩ : ∃ x, x = dkLog (dkCrash DD kl) (k : Int) q := ⟨_, rfl⟩
                  rw [← hlz] at hL3
                  have hzl : lz.1.length ≤ 1048576 := by have h9 := dkLog_len (d := dkCrash DD kl) (by have := (dkRight_bounds hrC).1; omega) (k : Int) q; rw [← hlz] at h9; exact h9
                  have hsz : ∀ i, i < lz.1.length → (lz.1.getD i noWr).pos = q + (i : Int) := by
                    intro i hi
                    by_cases hbz : lgBad (dkCrash DD kl) (k : Int) q
                    · rw [hlz, dkLog_bad hbz] at hi; simp at hi
                    · have h9 := log_seq hbz i; rw [← hlz] at h9; exact h9 hi
                  obtain ⟨LZ, nz, cz⟩ := lz
                  simp only at hL3 hzl hsz
                  have HLZ := hide hlz.symm
                  have hjz : j ≤ LZ.length := by rw [hL3, List.length_append, ← HN.out]; omega
                  have HJZ := hide hjz
                  have HSZ := hide hsz
                  have HZL := hide hzl
                  generalize dkCrash DD kl = CD at *
                  obtain ⟨c0, c1⟩ := cells2r G12.out.now.1
                  clear hrC hL3 hzl hsz hlz hjz HCR
                  go_wp2_with fail
                  refine (rd_log_S _ _ _ CD (k : Int) q LZ nz cz _ HRC.out HA.out HLZ.out G12.out.now.2).mono ?_
                  rintro e we2 ⟨zo, zc, rfl, oz, b13⟩
                  obtain ⟨zn, hzn⟩ : ∃ m, m = LZ.length := ⟨_, rfl⟩
                  rw [← hzn] at oz ⊢
                  have HZN := hide hzn
                  have ba := (Below.refl we2.heap.size we2).alloc (Nat.le_refl _) (.cells #[.slice zo zn zc, .int .i64 nz, .int .i64 cz] 31)
                  have bb := b13.trans (ba.mono b13.size)
                  have E13 := hide (((E12.out.below bb).and (G12.out.below bb)).and ((ever_heap (heap_alloc_new we2 (.cells #[.slice zo zn zc, .int .i64 nz, .int .i64 cz] 31))).and (ever_ownR (oz.below ba))))
                  clear oz hzn ba bb b13 E12 G12 c0 c1
                  go_upto_region 24 with fail
                  generalize we2.alloc (.cells #[.slice zo zn zc, .int .i64 nz, .int .i64 cz] 31) = W13 at *
                  generalize we2.heap.size = g15 at *
                  obtain ⟨P6, E13b, HP6⟩ : ∃ P : World → Prop, Hid (Ever P W13) ∧ Hid (∀ W, P W → P5 W ∧ (W.heap[g14]? = some (.cells #[.slice sC nC pC, .slice cC mC qC] 26 (0, 0)) ∧ OwnD 0 (.slice sC nC pC) (.slice cC mC qC) CD W) ∧ (W.heap[g15]? = some (.cells #[.slice zo zn zc, .int .i64 nz, .int .i64 cz] 31 (0, 0)) ∧ OwnR _ (.slice zo zn zc) LZ W)) := ⟨_, E13, fun W h => ⟨h.1.1, h.1.2, h.2⟩⟩
                  clear E13
                  go_cut [182] from 165 to 182 (fun qv W => ∃ b : Bool, qv = .bool b ∧ Hid (Ever P6 W))
                  case first =>
                    have h6 := HP6.out _ E13b.out.now
                    have h5 := (HP4.out _ (HP5.out _ h6.1).1)
                    obtain ⟨l0, l1, l2⟩ := cells3r (HP3.out _ h5.1).2.2.2.1
                    obtain ⟨r0, r1⟩ := cells2r h5.2
                    obtain ⟨v0, v1, v2⟩ := cells3r h6.2.2.1
                    have E14 := hide (E13b.out.below (Below.refl _ _).drew)
                    by_cases hjz : j < zn
                    · obtain ⟨bz, oz, ez, hbz, cz0, cz1⟩ := ownR_cell h6.2.2.2 j hjz
                      rw [HSZ.out j (by rw [← HZN.out]; exact hjz)] at cz0
                      generalize (LZ.getD j noWr).text = tz at *
                      subst ez
                      have hgt : decide ((j : Int) < (zn : Int)) = true := by simp; omega
                      have hi0 : (0 : Int) ≤ (j : Int) := by omega
                      have hi1 : (j : Int) < (zn : Int) := by omega
                      have hq0 := (Int.toNat_natCast j)
                      clear h6 h5 hbz E13b l1 l2 v1 v2
                      by_cases htz : tz = t
                      · subst htz
                        go_region_held3 (fun W => (W.cell? ⟨g15, 0, none⟩ = some (.slice (some ⟨bz, oz, none⟩) zn zc) ∧ W.cell? ⟨g8, 0, none⟩ = some (.slice lo j lc)) ∧ (W.cell? ⟨bz, oz + j * 2, none⟩ = some (.int .i64 (q + (j : Int))) ∧ W.cell? ⟨bz, oz + j * 2 + 1, none⟩ = some (.string tz)) ∧ (W.cell? ⟨g11, 0, none⟩ = some (.int .i64 (q + (j : Int))) ∧ W.cell? ⟨g11, 1, none⟩ = some (.string tz))) (go_keep) (fail)
                        all_goals
                          go_wp2_with fail
                          go_meet
                          exact ⟨_, rfl, E14⟩
                      · have htl : ¬ tz.toList = t.toList := fun e => htz (ba_ext (by rw [ByteArray.toList_eq, ByteArray.toList_eq] at e; exact e))
                        go_region_held3 (fun W => (W.cell? ⟨g15, 0, none⟩ = some (.slice (some ⟨bz, oz, none⟩) zn zc) ∧ W.cell? ⟨g8, 0, none⟩ = some (.slice lo j lc)) ∧ (W.cell? ⟨bz, oz + j * 2, none⟩ = some (.int .i64 (q + (j : Int))) ∧ W.cell? ⟨bz, oz + j * 2 + 1, none⟩ = some (.string tz)) ∧ (W.cell? ⟨g11, 0, none⟩ = some (.int .i64 (q + (j : Int))) ∧ W.cell? ⟨g11, 1, none⟩ = some (.string t))) (go_keep) (fail)
                        all_goals
                          go_wp2_with fail
                          go_meet
                          exact ⟨_, rfl, E14⟩
                    · have hgt : decide ((j : Int) < (zn : Int)) = false := by simp; omega
                      clear h6 h5 E13b l1 l2 v1 v2
                      refine wp_region_noPanic ?_
                      refine wp_region_held_drew (S := fun W => W.cell? ⟨g15, 0, none⟩ = some (.slice zo zn zc) ∧ W.cell? ⟨g8, 0, none⟩ = some (.slice lo j lc)) (by kernel_rfl) ⟨v0, l0⟩ (fun hHeld => ?_)
                      refine takeD 0 165 (v := ?vna0) rfl rfl (by kernel_rfl) (by kernel_rfl) (by kernel_rfl) (fun _ _ _ h => h) (by kernel_rfl) ?hyna0 (by assumption) ?rna0
                      case hyna0 => (intro W hSw; (try dsimp only at hSw); go_simp; try with_reducible rfl)
                      simp only [Act.put, List.setIfInBounds_toArray, List.set_cons_zero, List.set_cons_succ]
                      refine takeD 1 166 (v := ?vna1) rfl rfl (by kernel_rfl) (by kernel_rfl) (by kernel_rfl) (fun _ _ _ h => h) (by kernel_rfl) ?hyna1 (by assumption) ?rna1
                      case hyna1 => (intro W hSw; (try dsimp only at hSw); go_simp; try with_reducible rfl)
                      simp only [Act.put, List.setIfInBounds_toArray, List.set_cons_zero, List.set_cons_succ]
                      refine takeD 2 167 (v := ?vna2) rfl rfl (by kernel_rfl) (by kernel_rfl) (by kernel_rfl) (fun _ _ _ h => h) (by kernel_rfl) ?hyna2 (by assumption) ?rna2
                      case hyna2 => (intro W hSw; (try dsimp only at hSw); go_simp; try with_reducible rfl)
                      simp only [Act.put, List.setIfInBounds_toArray, List.set_cons_zero, List.set_cons_succ]
                      refine takeD 3 168 (v := ?vna3) rfl rfl (by kernel_rfl) (by kernel_rfl) (by kernel_rfl) (fun _ _ _ h => h) (by kernel_rfl) ?hyna3 (by assumption) ?rna3
                      case hyna3 => (intro W hSw; (try dsimp only at hSw); go_simp; try with_reducible rfl)
                      simp only [Act.put, List.setIfInBounds_toArray, List.set_cons_zero, List.set_cons_succ]
                      refine takeD 4 169 (v := ?vna4) rfl rfl (by kernel_rfl) (by kernel_rfl) (by kernel_rfl) (fun _ _ _ h => h) (by kernel_rfl) ?hyna4 (by assumption) ?rna4
                      case hyna4 => (intro W hSw; (try dsimp only at hSw); go_simp; try with_reducible rfl)
                      simp only [Act.put, List.setIfInBounds_toArray, List.set_cons_zero, List.set_cons_succ]
                      refine takeD 5 170 (v := ?vna5) rfl rfl (by kernel_rfl) (by kernel_rfl) (by kernel_rfl) (fun _ _ _ h => h) (by kernel_rfl) ?hyna5 (by assumption) ?rna5
                      case hyna5 => (intro W hSw; (try dsimp only at hSw); go_simp; try with_reducible rfl)
                      simp only [Act.put, List.setIfInBounds_toArray, List.set_cons_zero, List.set_cons_succ]
                      refine takeD 6 171 (v := ?vna6) rfl rfl (by kernel_rfl) (by kernel_rfl) (by kernel_rfl) (fun _ _ _ h => h) (by kernel_rfl) ?hyna6 (by assumption) ?rna6
                      case hyna6 => (intro W hSw; (try dsimp only at hSw); go_simp; try with_reducible rfl)
                      simp only [Act.put, List.setIfInBounds_toArray, List.set_cons_zero, List.set_cons_succ]
                      refine takeD 7 172 (v := ?vna7) rfl rfl (by kernel_rfl) (by kernel_rfl) (by kernel_rfl) (fun _ _ _ h => h) (by kernel_rfl) ?hyna7 (by assumption) ?rna7
                      case hyna7 => (intro W hSw; (try dsimp only at hSw); go_simp; try with_reducible rfl)
                      simp only [Act.put, List.setIfInBounds_toArray, List.set_cons_zero, List.set_cons_succ]
                      refine skipAll [(8, 173), (9, 174), (10, 175), (11, 176), (12, 177), (13, 178), (14, 179), (15, 180), (16, 181)] (by kernel_rfl) (fun _ _ _ _ _ h => h) (by assumption) (by kernel_rfl) ?_
                      simp only [putAll, listAll, List.foldl_cons, List.foldl_nil, Act.put, List.setIfInBounds_toArray, List.set_cons_zero, List.set_cons_succ]
                      refine takeD 17 182 (v := ?vna17) rfl rfl (by kernel_rfl) (by kernel_rfl) (by kernel_rfl) (fun _ _ _ h => h) (by kernel_rfl) ?hyna17 (by assumption) ?rna17
                      case hyna17 => (intro W hSw; (try dsimp only at hSw); go_simp; try with_reducible rfl)
                      simp only [Act.put, List.setIfInBounds_toArray, List.set_cons_zero, List.set_cons_succ]
                      refine wpAnyH_done (by kernel_rfl) ?_ _
                      refine NoPanic.normal ?_
                      go_wp2_with fail
                      go_meet
                      exact ⟨_, rfl, E14⟩
                  case rest =>
                    obtain ⟨bq, rfl, E14⟩ := hcut
                    have h6 := HP6.out _ E14.out.now
                    clear E13b
                    cases bq with
                    | true =>
                      have HB := hide (HP3.out _ (HP4.out _ (HP5.out _ h6.1).1).1).1
                      clear h6
                      go_wp2
                      go_ret
                      exact ⟨rfl, HB.out⟩
                    | false =>
                      obtain ⟨c0, c1⟩ := cells2r h6.2.1.1
                      have HO := hide h6.2.1.2
                      clear h6
                      go_wp2_with fail
                      refine (rd_log_I _ _ _ CD (k : Int) q LZ nz cz _ HRC.out HA.out HLZ.out HO.out).mono ?_
                      rintro e we3 ⟨ao, ac, rfl, oa, b15⟩
                      rw [← HZN.out] at oa ⊢
                      have ba := (Below.refl we3.heap.size we3).alloc (Nat.le_refl _) (.cells #[.slice ao zn ac, .int .i64 nz, .int .i64 cz] 31)
                      have bb := b15.trans (ba.mono b15.size)
                      have E15 := hide (E14.out.below bb)
                      have X15 := hide (heap_alloc_new we3 (.cells #[.slice ao zn ac, .int .i64 nz, .int .i64 cz] 31))
                      clear oa ba bb b15 E14 HO c0 c1
                      go_upto_region 27 with fail
                      generalize we3.alloc (.cells #[.slice ao zn ac, .int .i64 nz, .int .i64 cz] 31) = W15 at *
                      generalize we3.heap.size = g16 at *
                      have h6 := HP6.out _ E15.out.now
                      have h3 := HP3.out _ (HP4.out _ (HP5.out _ h6.1).1).1
                      obtain ⟨l0, l1, l2⟩ := cells3r h3.2.2.2.1
                      obtain ⟨v0, v1, v2⟩ := cells3r h6.2.2.1
                      obtain ⟨a0', a1', a2'⟩ := cells3r X15.out
                      have HB := hide h3.1
                      have hge2 : j ≤ zn := by rw [HZN.out]; exact HJZ.out
                      have hge : decide ((j : Int) ≤ (zn : Int)) = true := by simp; omega
                      have hzz : ((zn : Int) == (zn : Int)) = true := by simp
                      clear h6 h3
                      go_wp2
                      go_ret
                      exact ⟨rfl, HB.out⟩
            · have hKn : (KK != 0) = true := by simpa using hK
              have hKK : (KK == KK) = true := by simp
              have hfc : ∀ (so : Option Addr) (n p : Nat) (co : Option Addr) (m q : Nat) (t : ByteArray) (K : Int) (W : World), (Instr.field 37 (.agg #[.slice so n p, .slice co m q, .string t, .int .i64 K]) 2).run Try.prog W = .ok (.int .i64 K) W := fun so n p co m q t K W => by kernel_rfl
              obtain ⟨y0, y1, y2, y3, yf⟩ := cells4 HFL.out.now.box
              have h8 := HP3.out _ (HP4.out _ E8.out.now).1
              have h9 := (HP4.out _ E8.out.now).2
              obtain ⟨x0, x1⟩ := cells2r h8.2.1
              obtain ⟨l0, l1, l2⟩ := cells3r h8.2.2.2.1
              obtain ⟨r0, r1⟩ := cells2r h9
              clear h8 h9 yf
              go_upto_region 18 with fail
              have ED := hide (E8.out.below (Below.refl _ _).drew)
              have FD := hide (HFL.out.below (Below.refl _ _).drew)
              clear OA
              go_region_held3 (fun W => W.cell? ⟨g12, 3, none⟩ = some (.int .i64 KK) ∧ (W.cell? ⟨g5, 0, none⟩ = some (.slice so n1 p) ∧ W.cell? ⟨g5, 1, none⟩ = some (.slice co n2 qq)) ∧ W.cell? ⟨g8, 1, none⟩ = some (.int .i64 nx) ∧ (W.cell? ⟨g11, 0, none⟩ = some (.int .i64 (q + (j : Int))) ∧ W.cell? ⟨g11, 1, none⟩ = some (.string t))) (go_keep) (first
                | (go_at_call 18; refine (specDiskFlush_any _ _ _ d _ (right_inn HR.out) (right_fits HR.out) (HP3.out _ (HP4.out _ ED.out.now).1).2.2.1).mono ?_; rintro e wd ⟨sF, cF, rfl, oF, bF⟩; obtain ⟨sF, nF, pF, cF, mF, qF, rfl, rfl, hmF⟩ := oF.shp; have E9 := hide (ED.out.below bF); have F9 := hide (FD.out.below bF); have OD := hide oF; clear bF oF hmF ED FD y0 y1 y2 y3 x0 x1 l0 l1 l2 r0 r1; obtain ⟨y0, y1, y2, y3, yf⟩ := cells4 F9.out.now.box; have h8 := HP3.out _ (HP4.out _ E9.out.now).1; have h9 := (HP4.out _ E9.out.now).2; obtain ⟨x0, x1⟩ := cells2r h8.2.1; obtain ⟨l0, l1, l2⟩ := cells3r h8.2.2.2.1; obtain ⟨r0, r1⟩ := cells2r h9; clear h8 h9 yf)
                | (go_at_call 20; refine (specLogAppend_any _ _ _ (dkFlush d) nx (q + (j : Int)) t _ (right_inn HFR.out) (right_fits HFR.out) HNX.out HWQ.out OD.out).mono ?_; rw [HAP.out]; rintro e we ⟨sB, cB, rfl, oB, bB⟩; obtain ⟨sB, nB, pB, cB, mB, qB, rfl, rfl, hmB⟩ := oB.shp; have E10 := hide (E9.out.below bB); have F10 := hide (F9.out.below bB); clear bB oB hmB E9 F9 OD y0 y1 y2 y3 x0 x1 l0 l1 l2 r0 r1; obtain ⟨y0, y1, y2, y3, yf⟩ := cells4 F10.out.now.box; have h8 := HP3.out _ (HP4.out _ E10.out.now).1; have h9 := (HP4.out _ E10.out.now).2; obtain ⟨x0, x1⟩ := cells2r h8.2.1; obtain ⟨l0, l1, l2⟩ := cells3r h8.2.2.2.1; obtain ⟨r0, r1⟩ := cells2r h9; clear h8 h9 yf))
              all_goals
                go_wp2
                go_ret
                exact ⟨rfl, (HP3.out _ (HP4.out _ E10.out.now).1).1⟩
  · have hcd0 : (cd != 0) = true := by simpa using hcd
    go_wp2
    go_ret
    exact ⟨rfl, E3.out.now.1.1.1.1.1.1⟩
end Go.Proofs.Ytfhfhpnoeghgmaa
