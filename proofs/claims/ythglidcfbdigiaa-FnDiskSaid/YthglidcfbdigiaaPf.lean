/-
  Contracts and plain laws, part 6 of 9: DkDraw
-/
import Derived.Test.YthglidcfbdigiaaPe

/-
  Contract: the disk that is drawn (l07Disk). Written by gen_dkdraw.py.
-/
namespace Go.Proofs.Ythglidcfbdigiaa
open Go.RowKit
set_option maxRecDepth 100000

structure DrX where
  z : Nat
  so : Option Addr
  m1 : Nat
  p : Nat
  co : Option Addr
  m2 : Nat
  q : Nat
  v1 : Int
  v2 : Nat
  t : ByteArray
  K : Int
  D : Dk
set_option maxHeartbeats 8000000 in
theorem l07Disk_any (g B : Nat) (w : World) (hs : Src w B g) (hB : B ≤ g) :
    Calls Try.prog 34 #[.pointer (some ⟨g, 0, none⟩)] w fun e w' => ∃ s c d, e = .returned (.agg #[s, c]) ∧ OwnD w.heap.size s c d w' ∧ dkIn d ∧ dkFits d ∧ Src w' B g ∧ w.grownBy w' (some g) := by
  have hlt := hs.lt
  have HS : Hid (Src w B g) := hs
  clear hs
  go_enter Try.func34, Try.ntmps34
  go_wp2_with fail
  refine (n_any g B 6 (by omega) (by omega) _ ((HS.out).kept ((Below.refl _ _).alloc (by omega) _) (Below.heap_alloc _ _ _ hlt)) hB).mono ?_
  rintro e w1 ⟨v, rfl, hv0, hv1, hs1, hg1, hz1⟩
  have R1 : Hid (w1.heap[w.heap.size]? = some (.cells #[.slice none 0 0, .slice none 0 0] 26 (0, 0))) := (hg1.block w.heap.size (by simp) (fun e => by simp at e; omega)).trans (heap_alloc_new w _)
  have G1 : Hid (w.grownBy w1 (some g)) := grown_trans (grown_alloc (grown_self w g) _) hg1 (fun j hj => .inl (by simpa using hj.symm))
  have S1 := hide hs1
  clear hs1 hg1 hz1 HS
  go_wp2_with fail
  refine (specDiskNew_any v _).mono ?_
  rintro e w2 ⟨s0, c0, rfl, o2, b2⟩
  have HR0 := hide (new_right v)
  generalize dkNew v = d0 at *
  obtain ⟨so0, n10, p0, co0, n20, q0, rfl, rfl, hn⟩ := o2.shp
  have D2 := hide (DS.start (S1.out.kept (b2.mono (by have := blkS R1.out; omega)) (b2.block g (by have := blkS R1.out; omega))) (grown_trans G1.out (grownBelow (some g) b2) (fun j hj => .inl (by simpa using hj.symm))) ((b2.block _ (blkS R1.out)).trans R1.out) hlt hB (o2.base (blkS R1.out)))
  clear o2 b2 R1 G1 S1 hn
  go_wp2_with fail
  refine (n_any g B 4 (by omega) (by omega) _ D2.out.src hB).mono ?_
  rintro e w3 ⟨k0, rfl, hk0, hk1, hs3, hg3, hz3⟩
  have D3 := hide (D2.out.step hs3 hg3)
  obtain ⟨k0, rfl⟩ := Int.eq_ofNat_of_zero_le hk0
  clear hs3 hg3 hz3 D2
  generalize w2.heap.size = h at *
  go_wp2
  go_loopw [4] (fun i wr => ∃ (k : Nat) (so : Option Addr) (n1 p : Nat) (co : Option Addr) (n2 q : Nat) (d : Dk), k ≤ 3 ∧ i = .int .i64 k ∧ Hid (DS B g h w (.slice so n1 p) (.slice co n2 q) d wr) ∧ Hid (dkRight d = true)) (fun i _ => (intOf i).toNat)
  case atStart => exact ⟨k0, _, _, _, _, _, _, _, by omega, rfl, D3, HR0⟩
  case round =>
    obtain ⟨k, so, n1, p, co, n2, q, d, hk, rfl, D, HR⟩ := hrel
    clear D3 HR0
    by_cases hkl : 0 < k
    · go_upto_region 5 with fail
      refine wp_cutA (fun a' (x : DrX) => putA (putA (putA (putA (putA (putA (putA (putA (putA a' 15 (.agg #[.slice so n1 p, .slice co n2 q])) 16 (.pointer (some ⟨g, 0, none⟩))) 17 (.int .i64 x.v1)) 18 (.pointer (some ⟨g, 0, none⟩))) 19 (.pointer (some ⟨g, 0, none⟩))) 20 (.int .i64 x.v2)) 21 (.string x.t)) 22 (.agg #[.slice x.so x.m1 x.p, .slice x.co x.m2 x.q, .string ⟨#[]⟩, .int .i64 x.K])) 5 (.pointer (some ⟨x.z, 0, none⟩))) (fun x W' => DS B g h w (.slice so n1 p) (.slice co n2 q) d W' ∧ OutAt (h + 1) x.z (.slice x.so x.m1 x.p) (.slice x.co x.m2 x.q) ⟨#[]⟩ x.K x.D W' ∧ (x.K = 0 → dkRight x.D = true) ∧ (x.m1 = x.D.secs.length ∧ x.m2 = x.D.cache.length)) ?_ ?_
      · refine wp_region_noPanic ?_
        refine wp_region_held_drew (S := fun W => W.heap[h]? = some (.cells #[.slice so n1 p, .slice co n2 q] 26 (0, 0))) (by kernel_rfl) D.out.var (fun hS1 => ?_)
        have D1 := hide (D.out.below (Below.refl _ _).drew)
        clear D
        generalize wr.drew = W1 at *
        refine takeD 0 15 (v := ?vc1) rfl rfl (by kernel_rfl) (by kernel_rfl) (by kernel_rfl) (fun _ _ _ h => h) (by kernel_rfl) ?hyc1 (by assumption) ?rc1
        case hyc1 => (intro W hSw; obtain ⟨x0, x1, xf⟩ := cells2 hSw; go_simp; try with_reducible rfl)
        simp only [Act.put, List.setIfInBounds_toArray, List.set_cons_zero, List.set_cons_succ]
        refine takeD 1 16 (v := ?vc2) rfl rfl (by kernel_rfl) (by kernel_rfl) (by kernel_rfl) (fun _ _ _ h => h) (by kernel_rfl) ?hyc2 (by assumption) ?rc2
        case hyc2 => (intro W hSw; obtain ⟨x0, x1, xf⟩ := cells2 hSw; go_simp; try with_reducible rfl)
        simp only [Act.put, List.setIfInBounds_toArray, List.set_cons_zero, List.set_cons_succ]
        refine takeD 3 18 (v := ?vc3) rfl rfl (by kernel_rfl) (by kernel_rfl) (by kernel_rfl) (fun _ _ _ h => h) (by kernel_rfl) ?hyc3 (by assumption) ?rc3
        case hyc3 => (intro W hSw; obtain ⟨x0, x1, xf⟩ := cells2 hSw; go_simp; try with_reducible rfl)
        simp only [Act.put, List.setIfInBounds_toArray, List.set_cons_zero, List.set_cons_succ]
        refine takeD 4 19 (v := ?vc4) rfl rfl (by kernel_rfl) (by kernel_rfl) (by kernel_rfl) (fun _ _ _ h => h) (by kernel_rfl) ?hyc4 (by assumption) ?rc4
        case hyc4 => (intro W hSw; obtain ⟨x0, x1, xf⟩ := cells2 hSw; go_simp; try with_reducible rfl)
        simp only [Act.put, List.setIfInBounds_toArray, List.set_cons_zero, List.set_cons_succ]
        refine wpAnyH_ready (rs := [2, 8]) (by kernel_rfl) (by simp) ?_
        refine AllReadyH.cons (o := _) rfl (fun K hK => ?_) (AllReadyH.cons (o := _) rfl (fun K hK => ?_) AllReadyH.nil)
        · skip
          go_simp
          go_at_call 35; refine (n_any g B 5 (by omega) (by omega) _ D1.out.src hB).mono ?_
          rintro e W2 ⟨v1, rfl, v1a, v1b, hs', hg', hz'⟩
          have D2 := hide (D1.out.step hs' hg')
          clear hs' hg' hz'
          go_wp2_with fail
          refine hK.out _ _ D2.out.var (fun _ => ?_)
          clear hK K
          try simp only [Act.put, List.setIfInBounds_toArray, List.set_cons_zero, List.set_cons_succ]
          refine wpAnyH_ready (rs := [5, 8]) (by kernel_rfl) (by simp) ?_
          refine AllReadyH.cons (o := _) rfl (fun K hK => ?_) (AllReadyH.cons (o := _) rfl (fun K hK => ?_) AllReadyH.nil)
          · skip
            go_simp
            go_at_call 35; refine (n_any g B 150 (by omega) (by omega) _ D2.out.src hB).mono ?_
            rintro e W3 ⟨v2, rfl, v2a, v2b, hs', hg', hz'⟩
            have D3 := hide (D2.out.step hs' hg')
            clear hs' hg' hz'
            go_wp2_with fail
            refine hK.out _ _ D3.out.var (fun _ => ?_)
            clear hK K
            try simp only [Act.put, List.setIfInBounds_toArray, List.set_cons_zero, List.set_cons_succ]
            refine wpAnyH_ready (rs := [6, 8]) (by kernel_rfl) (by simp) ?_
            refine AllReadyH.cons (o := _) rfl (fun K hK => ?_) (AllReadyH.cons (o := _) rfl (fun K hK => ?_) AllReadyH.nil)
            · skip
              go_simp
              obtain ⟨v2, rfl⟩ := Int.eq_ofNat_of_zero_le v2a
              go_at_call 38; refine (bytes_any g B v2 (by omega) _ D3.out.src hB).mono ?_
              rintro e W4 ⟨t, rfl, ht, hs', hg'⟩
              have D4 := hide (D3.out.step hs' hg')
              clear hs' hg'
              go_wp2_with fail
              refine hK.out _ _ D4.out.var (fun _ => ?_)
              clear hK K
              try simp only [Act.put, List.setIfInBounds_toArray, List.set_cons_zero, List.set_cons_succ]
              refine wpAnyH_ready (rs := [7, 8]) (by kernel_rfl) (by simp) ?_
              refine AllReadyH.cons (o := _) rfl (fun K hK => ?_) (AllReadyH.cons (o := _) rfl (fun K hK => ?_) AllReadyH.nil)
              · skip
                go_simp
                have KR := hide (write_right d v1 t)
                go_at_call 11; refine (specDiskWrite_any _ _ _ d v1 t _ (right_inn HR.out) (right_fits HR.out) (by unfold wI64; omega) D4.out.own).mono ?_
                generalize dkWrite d v1 t = RR at *
                obtain ⟨DD, KK⟩ := RR
                simp only at *
                rintro e W5 ⟨s2, c2, rfl, o2, b2⟩
                obtain ⟨so2, m1, p2, co2, m2, q2, rfl, rfl, hm⟩ := o2.shp
                have HM := hide hm
                have D5 := hide (D4.out.below b2)
                have O2 := hide (o2.base (base' := h + 1) (blkS D4.out.var))
                clear o2 b2 hm
                go_wp2_with fail
                refine hK.out _ _ D5.out.var (fun _ => ?_)
                clear hK K
                try simp only [Act.put, List.setIfInBounds_toArray, List.set_cons_zero, List.set_cons_succ]
                refine wpAnyH_ready (rs := [8]) (by kernel_rfl) (by simp) ?_
                refine AllReadyH.cons (o := _) rfl (fun K hK => ?_) AllReadyH.nil
                go_simp
                have ba := (Below.refl W5.heap.size W5).alloc (Nat.le_refl _) (.cells #[.slice none 0 0, .slice none 0 0, .string ⟨#[]⟩, .int .i64 0] 30)
                have D6 := hide (D5.out.below ba)
                have ZA := hide (heap_alloc_new W5 (.cells #[.slice none 0 0, .slice none 0 0, .string ⟨#[]⟩, .int .i64 0] 30))
                have ZL : Hid (h + 1 ≤ W5.heap.size) := blkS D5.out.var
                have FZ := hide (own_under D5.out.own)
                have FO := hide (own_under O2.out)
                have O3 := hide (O2.out.below ba)
                clear O2
                have O2 := O3
                clear O3
                refine hK.out _ _ D6.out.var (fun _ => ?_)
                clear hK K ba
                generalize W5.alloc (.cells #[.slice none 0 0, .slice none 0 0, .string ⟨#[]⟩, .int .i64 0] 30) = W6 at *
                generalize W5.heap.size = z at *
                try simp only [Act.put, List.setIfInBounds_toArray, List.set_cons_zero, List.set_cons_succ]
                skip
                refine wpAnyH_ready (rs := [9]) (by kernel_rfl) (by simp) ?_
                refine AllReadyH.cons (o := _) rfl (fun K hK => ?_) AllReadyH.nil
                obtain ⟨y0, y1, y2, y3, yf⟩ := cells4 ZA.out
                go_simp
                have OA := hide (outAt_gen (s := .slice so2 m1 p2) (c := .slice co2 m2 q2) (t := ⟨#[]⟩) (K := KK) ZA.out O2.out FO.out ZL.out)
                have DE := hide (D6.out.early (a := .slice so2 m1 p2) (b := .slice co2 m2 q2) (t := ⟨#[]⟩) (K := KK) ZL.out FZ.out)
                refine hK.out _ _ DE.out.var (fun _ => ?_)
                clear hK K
                try simp only [Act.put, List.setIfInBounds_toArray, List.set_cons_zero, List.set_cons_succ]
                refine wpAnyH_done (by kernel_rfl) ?_ _
                refine NoPanic.normal ?_
                exact ⟨⟨z, so2, m1, p2, co2, m2, q2, v1, v2, t, KK, DD⟩, by simp only [putA, List.setIfInBounds_toArray, List.set_cons_succ, List.set_cons_zero], DE.out, OA.out, KR.out, HM.out⟩
              · skip
                go_simp
                have ba := (Below.refl W4.heap.size W4).alloc (Nat.le_refl _) (.cells #[.slice none 0 0, .slice none 0 0, .string ⟨#[]⟩, .int .i64 0] 30)
                have D5 := hide (D4.out.below ba)
                have ZA := hide (heap_alloc_new W4 (.cells #[.slice none 0 0, .slice none 0 0, .string ⟨#[]⟩, .int .i64 0] 30))
                have ZL : Hid (h + 1 ≤ W4.heap.size) := blkS D4.out.var
                have FZ := hide (own_under D4.out.own)
                refine hK.out _ _ D5.out.var (fun _ => ?_)
                clear hK K ba
                generalize W4.alloc (.cells #[.slice none 0 0, .slice none 0 0, .string ⟨#[]⟩, .int .i64 0] 30) = W5 at *
                generalize W4.heap.size = z at *
                try simp only [Act.put, List.setIfInBounds_toArray, List.set_cons_zero, List.set_cons_succ]
                refine wpAnyH_ready (rs := [7]) (by kernel_rfl) (by simp) ?_
                refine AllReadyH.cons (o := _) rfl (fun K hK => ?_) AllReadyH.nil
                go_simp
                have KR := hide (write_right d v1 t)
                go_at_call 11; refine (specDiskWrite_any _ _ _ d v1 t _ (right_inn HR.out) (right_fits HR.out) (by unfold wI64; omega) D5.out.own).mono ?_
                generalize dkWrite d v1 t = RR at *
                obtain ⟨DD, KK⟩ := RR
                simp only at *
                rintro e W6 ⟨s2, c2, rfl, o2, b2⟩
                obtain ⟨so2, m1, p2, co2, m2, q2, rfl, rfl, hm⟩ := o2.shp
                have HM := hide hm
                have D6 := hide (D5.out.below b2)
                have ZB := hide ((b2.block z (blkS ZA.out)).trans ZA.out)
                have FO := hide (own_above o2 (blkS ZA.out))
                clear ZA
                have ZA := ZB
                clear ZB
                have O2 := hide (o2.base (base' := h + 1) (blkS D5.out.var))
                clear o2 b2 hm
                go_wp2_with fail
                refine hK.out _ _ D6.out.var (fun _ => ?_)
                clear hK K
                try simp only [Act.put, List.setIfInBounds_toArray, List.set_cons_zero, List.set_cons_succ]
                skip
                refine wpAnyH_ready (rs := [9]) (by kernel_rfl) (by simp) ?_
                refine AllReadyH.cons (o := _) rfl (fun K hK => ?_) AllReadyH.nil
                obtain ⟨y0, y1, y2, y3, yf⟩ := cells4 ZA.out
                go_simp
                have OA := hide (outAt_gen (s := .slice so2 m1 p2) (c := .slice co2 m2 q2) (t := ⟨#[]⟩) (K := KK) ZA.out O2.out FO.out ZL.out)
                have DE := hide (D6.out.early (a := .slice so2 m1 p2) (b := .slice co2 m2 q2) (t := ⟨#[]⟩) (K := KK) ZL.out FZ.out)
                refine hK.out _ _ DE.out.var (fun _ => ?_)
                clear hK K
                try simp only [Act.put, List.setIfInBounds_toArray, List.set_cons_zero, List.set_cons_succ]
                refine wpAnyH_done (by kernel_rfl) ?_ _
                refine NoPanic.normal ?_
                exact ⟨⟨z, so2, m1, p2, co2, m2, q2, v1, v2, t, KK, DD⟩, by simp only [putA, List.setIfInBounds_toArray, List.set_cons_succ, List.set_cons_zero], DE.out, OA.out, KR.out, HM.out⟩
            · skip
              go_simp
              have ba := (Below.refl W3.heap.size W3).alloc (Nat.le_refl _) (.cells #[.slice none 0 0, .slice none 0 0, .string ⟨#[]⟩, .int .i64 0] 30)
              have D4 := hide (D3.out.below ba)
              have ZA := hide (heap_alloc_new W3 (.cells #[.slice none 0 0, .slice none 0 0, .string ⟨#[]⟩, .int .i64 0] 30))
              have ZL : Hid (h + 1 ≤ W3.heap.size) := blkS D3.out.var
              have FZ := hide (own_under D3.out.own)
              refine hK.out _ _ D4.out.var (fun _ => ?_)
              clear hK K ba
              generalize W3.alloc (.cells #[.slice none 0 0, .slice none 0 0, .string ⟨#[]⟩, .int .i64 0] 30) = W4 at *
              generalize W3.heap.size = z at *
              try simp only [Act.put, List.setIfInBounds_toArray, List.set_cons_zero, List.set_cons_succ]
              refine wpAnyH_ready (rs := [6]) (by kernel_rfl) (by simp) ?_
              refine AllReadyH.cons (o := _) rfl (fun K hK => ?_) AllReadyH.nil
              go_simp
              obtain ⟨v2, rfl⟩ := Int.eq_ofNat_of_zero_le v2a
              go_at_call 38; refine (bytes_any g B v2 (by omega) _ D4.out.src hB).mono ?_
              rintro e W5 ⟨t, rfl, ht, hs', hg'⟩
              have D5 := hide (D4.out.step hs' hg')
              have ZB := hide ((hg'.block z (blkS ZA.out) (fun e => by simp at e; have := ZL.out; have := D4.out.gap; have := D4.out.low; omega)).trans ZA.out)
              clear ZA
              have ZA := ZB
              clear ZB
              clear hs' hg'
              go_wp2_with fail
              refine hK.out _ _ D5.out.var (fun _ => ?_)
              clear hK K
              try simp only [Act.put, List.setIfInBounds_toArray, List.set_cons_zero, List.set_cons_succ]
              refine wpAnyH_ready (rs := [7]) (by kernel_rfl) (by simp) ?_
              refine AllReadyH.cons (o := _) rfl (fun K hK => ?_) AllReadyH.nil
              go_simp
              have KR := hide (write_right d v1 t)
              go_at_call 11; refine (specDiskWrite_any _ _ _ d v1 t _ (right_inn HR.out) (right_fits HR.out) (by unfold wI64; omega) D5.out.own).mono ?_
              generalize dkWrite d v1 t = RR at *
              obtain ⟨DD, KK⟩ := RR
              simp only at *
              rintro e W6 ⟨s2, c2, rfl, o2, b2⟩
              obtain ⟨so2, m1, p2, co2, m2, q2, rfl, rfl, hm⟩ := o2.shp
              have HM := hide hm
              have D6 := hide (D5.out.below b2)
              have ZB := hide ((b2.block z (blkS ZA.out)).trans ZA.out)
              have FO := hide (own_above o2 (blkS ZA.out))
              clear ZA
              have ZA := ZB
              clear ZB
              have O2 := hide (o2.base (base' := h + 1) (blkS D5.out.var))
              clear o2 b2 hm
              go_wp2_with fail
              refine hK.out _ _ D6.out.var (fun _ => ?_)
              clear hK K
              try simp only [Act.put, List.setIfInBounds_toArray, List.set_cons_zero, List.set_cons_succ]
              skip
              refine wpAnyH_ready (rs := [9]) (by kernel_rfl) (by simp) ?_
              refine AllReadyH.cons (o := _) rfl (fun K hK => ?_) AllReadyH.nil
              obtain ⟨y0, y1, y2, y3, yf⟩ := cells4 ZA.out
              go_simp
              have OA := hide (outAt_gen (s := .slice so2 m1 p2) (c := .slice co2 m2 q2) (t := ⟨#[]⟩) (K := KK) ZA.out O2.out FO.out ZL.out)
              have DE := hide (D6.out.early (a := .slice so2 m1 p2) (b := .slice co2 m2 q2) (t := ⟨#[]⟩) (K := KK) ZL.out FZ.out)
              refine hK.out _ _ DE.out.var (fun _ => ?_)
              clear hK K
              try simp only [Act.put, List.setIfInBounds_toArray, List.set_cons_zero, List.set_cons_succ]
              refine wpAnyH_done (by kernel_rfl) ?_ _
              refine NoPanic.normal ?_
              exact ⟨⟨z, so2, m1, p2, co2, m2, q2, v1, v2, t, KK, DD⟩, by simp only [putA, List.setIfInBounds_toArray, List.set_cons_succ, List.set_cons_zero], DE.out, OA.out, KR.out, HM.out⟩
          · skip
            go_simp
            have ba := (Below.refl W2.heap.size W2).alloc (Nat.le_refl _) (.cells #[.slice none 0 0, .slice none 0 0, .string ⟨#[]⟩, .int .i64 0] 30)
            have D3 := hide (D2.out.below ba)
            have ZA := hide (heap_alloc_new W2 (.cells #[.slice none 0 0, .slice none 0 0, .string ⟨#[]⟩, .int .i64 0] 30))
            have ZL : Hid (h + 1 ≤ W2.heap.size) := blkS D2.out.var
            have FZ := hide (own_under D2.out.own)
            refine hK.out _ _ D3.out.var (fun _ => ?_)
            clear hK K ba
            generalize W2.alloc (.cells #[.slice none 0 0, .slice none 0 0, .string ⟨#[]⟩, .int .i64 0] 30) = W3 at *
            generalize W2.heap.size = z at *
            try simp only [Act.put, List.setIfInBounds_toArray, List.set_cons_zero, List.set_cons_succ]
            refine wpAnyH_ready (rs := [5]) (by kernel_rfl) (by simp) ?_
            refine AllReadyH.cons (o := _) rfl (fun K hK => ?_) AllReadyH.nil
            go_simp
            go_at_call 35; refine (n_any g B 150 (by omega) (by omega) _ D3.out.src hB).mono ?_
            rintro e W4 ⟨v2, rfl, v2a, v2b, hs', hg', hz'⟩
            have D4 := hide (D3.out.step hs' hg')
            have ZB := hide ((hg'.block z (blkS ZA.out) (fun e => by simp at e; have := ZL.out; have := D3.out.gap; have := D3.out.low; omega)).trans ZA.out)
            clear ZA
            have ZA := ZB
            clear ZB
            clear hs' hg' hz'
            go_wp2_with fail
            refine hK.out _ _ D4.out.var (fun _ => ?_)
            clear hK K
            try simp only [Act.put, List.setIfInBounds_toArray, List.set_cons_zero, List.set_cons_succ]
            refine wpAnyH_ready (rs := [6]) (by kernel_rfl) (by simp) ?_
            refine AllReadyH.cons (o := _) rfl (fun K hK => ?_) AllReadyH.nil
            go_simp
            obtain ⟨v2, rfl⟩ := Int.eq_ofNat_of_zero_le v2a
            go_at_call 38; refine (bytes_any g B v2 (by omega) _ D4.out.src hB).mono ?_
            rintro e W5 ⟨t, rfl, ht, hs', hg'⟩
            have D5 := hide (D4.out.step hs' hg')
            have ZB := hide ((hg'.block z (blkS ZA.out) (fun e => by simp at e; have := ZL.out; have := D4.out.gap; have := D4.out.low; omega)).trans ZA.out)
            clear ZA
            have ZA := ZB
            clear ZB
            clear hs' hg'
            go_wp2_with fail
            refine hK.out _ _ D5.out.var (fun _ => ?_)
            clear hK K
            try simp only [Act.put, List.setIfInBounds_toArray, List.set_cons_zero, List.set_cons_succ]
            refine wpAnyH_ready (rs := [7]) (by kernel_rfl) (by simp) ?_
            refine AllReadyH.cons (o := _) rfl (fun K hK => ?_) AllReadyH.nil
            go_simp
            have KR := hide (write_right d v1 t)
            go_at_call 11; refine (specDiskWrite_any _ _ _ d v1 t _ (right_inn HR.out) (right_fits HR.out) (by unfold wI64; omega) D5.out.own).mono ?_
            generalize dkWrite d v1 t = RR at *
            obtain ⟨DD, KK⟩ := RR
            simp only at *
            rintro e W6 ⟨s2, c2, rfl, o2, b2⟩
            obtain ⟨so2, m1, p2, co2, m2, q2, rfl, rfl, hm⟩ := o2.shp
            have HM := hide hm
            have D6 := hide (D5.out.below b2)
            have ZB := hide ((b2.block z (blkS ZA.out)).trans ZA.out)
            have FO := hide (own_above o2 (blkS ZA.out))
            clear ZA
            have ZA := ZB
            clear ZB
            have O2 := hide (o2.base (base' := h + 1) (blkS D5.out.var))
            clear o2 b2 hm
            go_wp2_with fail
            refine hK.out _ _ D6.out.var (fun _ => ?_)
            clear hK K
            try simp only [Act.put, List.setIfInBounds_toArray, List.set_cons_zero, List.set_cons_succ]
            skip
            refine wpAnyH_ready (rs := [9]) (by kernel_rfl) (by simp) ?_
            refine AllReadyH.cons (o := _) rfl (fun K hK => ?_) AllReadyH.nil
            obtain ⟨y0, y1, y2, y3, yf⟩ := cells4 ZA.out
            go_simp
            have OA := hide (outAt_gen (s := .slice so2 m1 p2) (c := .slice co2 m2 q2) (t := ⟨#[]⟩) (K := KK) ZA.out O2.out FO.out ZL.out)
            have DE := hide (D6.out.early (a := .slice so2 m1 p2) (b := .slice co2 m2 q2) (t := ⟨#[]⟩) (K := KK) ZL.out FZ.out)
            refine hK.out _ _ DE.out.var (fun _ => ?_)
            clear hK K
            try simp only [Act.put, List.setIfInBounds_toArray, List.set_cons_zero, List.set_cons_succ]
            refine wpAnyH_done (by kernel_rfl) ?_ _
            refine NoPanic.normal ?_
            exact ⟨⟨z, so2, m1, p2, co2, m2, q2, v1, v2, t, KK, DD⟩, by simp only [putA, List.setIfInBounds_toArray, List.set_cons_succ, List.set_cons_zero], DE.out, OA.out, KR.out, HM.out⟩
        · skip
          go_simp
          have ba := (Below.refl W1.heap.size W1).alloc (Nat.le_refl _) (.cells #[.slice none 0 0, .slice none 0 0, .string ⟨#[]⟩, .int .i64 0] 30)
          have D2 := hide (D1.out.below ba)
          have ZA := hide (heap_alloc_new W1 (.cells #[.slice none 0 0, .slice none 0 0, .string ⟨#[]⟩, .int .i64 0] 30))
          have ZL : Hid (h + 1 ≤ W1.heap.size) := blkS D1.out.var
          have FZ := hide (own_under D1.out.own)
          refine hK.out _ _ D2.out.var (fun _ => ?_)
          clear hK K ba
          generalize W1.alloc (.cells #[.slice none 0 0, .slice none 0 0, .string ⟨#[]⟩, .int .i64 0] 30) = W2 at *
          generalize W1.heap.size = z at *
          try simp only [Act.put, List.setIfInBounds_toArray, List.set_cons_zero, List.set_cons_succ]
          refine wpAnyH_ready (rs := [2]) (by kernel_rfl) (by simp) ?_
          refine AllReadyH.cons (o := _) rfl (fun K hK => ?_) AllReadyH.nil
          go_simp
          go_at_call 35; refine (n_any g B 5 (by omega) (by omega) _ D2.out.src hB).mono ?_
          rintro e W3 ⟨v1, rfl, v1a, v1b, hs', hg', hz'⟩
          have D3 := hide (D2.out.step hs' hg')
          have ZB := hide ((hg'.block z (blkS ZA.out) (fun e => by simp at e; have := ZL.out; have := D2.out.gap; have := D2.out.low; omega)).trans ZA.out)
          clear ZA
          have ZA := ZB
          clear ZB
          clear hs' hg' hz'
          go_wp2_with fail
          refine hK.out _ _ D3.out.var (fun _ => ?_)
          clear hK K
          try simp only [Act.put, List.setIfInBounds_toArray, List.set_cons_zero, List.set_cons_succ]
          refine wpAnyH_ready (rs := [5]) (by kernel_rfl) (by simp) ?_
          refine AllReadyH.cons (o := _) rfl (fun K hK => ?_) AllReadyH.nil
          go_simp
          go_at_call 35; refine (n_any g B 150 (by omega) (by omega) _ D3.out.src hB).mono ?_
          rintro e W4 ⟨v2, rfl, v2a, v2b, hs', hg', hz'⟩
          have D4 := hide (D3.out.step hs' hg')
          have ZB := hide ((hg'.block z (blkS ZA.out) (fun e => by simp at e; have := ZL.out; have := D3.out.gap; have := D3.out.low; omega)).trans ZA.out)
          clear ZA
          have ZA := ZB
          clear ZB
          clear hs' hg' hz'
          go_wp2_with fail
          refine hK.out _ _ D4.out.var (fun _ => ?_)
          clear hK K
          try simp only [Act.put, List.setIfInBounds_toArray, List.set_cons_zero, List.set_cons_succ]
          refine wpAnyH_ready (rs := [6]) (by kernel_rfl) (by simp) ?_
          refine AllReadyH.cons (o := _) rfl (fun K hK => ?_) AllReadyH.nil
          go_simp
          obtain ⟨v2, rfl⟩ := Int.eq_ofNat_of_zero_le v2a
          go_at_call 38; refine (bytes_any g B v2 (by omega) _ D4.out.src hB).mono ?_
          rintro e W5 ⟨t, rfl, ht, hs', hg'⟩
          have D5 := hide (D4.out.step hs' hg')
          have ZB := hide ((hg'.block z (blkS ZA.out) (fun e => by simp at e; have := ZL.out; have := D4.out.gap; have := D4.out.low; omega)).trans ZA.out)
          clear ZA
          have ZA := ZB
          clear ZB
          clear hs' hg'
          go_wp2_with fail
          refine hK.out _ _ D5.out.var (fun _ => ?_)
          clear hK K
          try simp only [Act.put, List.setIfInBounds_toArray, List.set_cons_zero, List.set_cons_succ]
          refine wpAnyH_ready (rs := [7]) (by kernel_rfl) (by simp) ?_
          refine AllReadyH.cons (o := _) rfl (fun K hK => ?_) AllReadyH.nil
          go_simp
          have KR := hide (write_right d v1 t)
          go_at_call 11; refine (specDiskWrite_any _ _ _ d v1 t _ (right_inn HR.out) (right_fits HR.out) (by unfold wI64; omega) D5.out.own).mono ?_
          generalize dkWrite d v1 t = RR at *
          obtain ⟨DD, KK⟩ := RR
          simp only at *
          rintro e W6 ⟨s2, c2, rfl, o2, b2⟩
          obtain ⟨so2, m1, p2, co2, m2, q2, rfl, rfl, hm⟩ := o2.shp
          have HM := hide hm
          have D6 := hide (D5.out.below b2)
          have ZB := hide ((b2.block z (blkS ZA.out)).trans ZA.out)
          have FO := hide (own_above o2 (blkS ZA.out))
          clear ZA
          have ZA := ZB
          clear ZB
          have O2 := hide (o2.base (base' := h + 1) (blkS D5.out.var))
          clear o2 b2 hm
          go_wp2_with fail
          refine hK.out _ _ D6.out.var (fun _ => ?_)
          clear hK K
          try simp only [Act.put, List.setIfInBounds_toArray, List.set_cons_zero, List.set_cons_succ]
          skip
          refine wpAnyH_ready (rs := [9]) (by kernel_rfl) (by simp) ?_
          refine AllReadyH.cons (o := _) rfl (fun K hK => ?_) AllReadyH.nil
          obtain ⟨y0, y1, y2, y3, yf⟩ := cells4 ZA.out
          go_simp
          have OA := hide (outAt_gen (s := .slice so2 m1 p2) (c := .slice co2 m2 q2) (t := ⟨#[]⟩) (K := KK) ZA.out O2.out FO.out ZL.out)
          have DE := hide (D6.out.early (a := .slice so2 m1 p2) (b := .slice co2 m2 q2) (t := ⟨#[]⟩) (K := KK) ZL.out FZ.out)
          refine hK.out _ _ DE.out.var (fun _ => ?_)
          clear hK K
          try simp only [Act.put, List.setIfInBounds_toArray, List.set_cons_zero, List.set_cons_succ]
          refine wpAnyH_done (by kernel_rfl) ?_ _
          refine NoPanic.normal ?_
          exact ⟨⟨z, so2, m1, p2, co2, m2, q2, v1, v2, t, KK, DD⟩, by simp only [putA, List.setIfInBounds_toArray, List.set_cons_succ, List.set_cons_zero], DE.out, OA.out, KR.out, HM.out⟩
      rintro ⟨z, so2, m1, p2, co2, m2, q2, v1, v2, t, KK, DD⟩ W5 ⟨hD, hO, hKR, hm⟩
      simp only at hD hO hKR hm
      simp only [putA, List.setIfInBounds_toArray, List.set_cons_succ, List.set_cons_zero]
      obtain ⟨k, rfl⟩ : ∃ j, k = j + 1 := ⟨k - 1, by omega⟩
      have D5 := hide hD
      have OW := hide (hO.own.base (base' := w.heap.size + 1) (by have := hD.gap; omega))
      have FW := hide (own_above hO.own (show h < h + 1 by omega))
      obtain ⟨y0, y1, y2, y3, yf⟩ := cells4 hO.box
      obtain ⟨x0, x1, xf⟩ := cells2 hD.var
      have hzh : ¬ z = h := by have := hO.low; omega
      have hhz : ¬ h = z := fun e => hzh e.symm
      clear hD hO D
      by_cases hK : KK = 0
      · subst hK
        have HRD := hide (hKR rfl)
        have D7 := hide (D5.out.put OW.out FW.out)
        clear OW FW D5 hKR HR hm
        go_wp2_with fail
        refine (one_any g B 3 (by omega) (by omega) _ D7.out.src hB).mono ?_
        rintro e w8 ⟨b, rfl, hs8, hg8, hz8⟩
        have D8 := hide (D7.out.step hs8 hg8)
        clear hs8 hg8 hz8 D7
        try clear x0 x1 xf
        try clear y0 y1 y2 y3 yf
        obtain ⟨x0, x1, xf⟩ := cells2 D8.out.var
        cases b with
        | true =>
          go_wp2_with fail
          refine (specDiskFlush_any _ _ _ DD _ (right_inn HRD.out) (right_fits HRD.out) D8.out.own).mono ?_
          rintro e w9 ⟨s3, c3, rfl, o3, b3⟩
          have HRF := hide (flush_right HRD.out)
          generalize dkFlush DD = DF at *
          obtain ⟨so3, m3, p3, co3, m4, q3, rfl, rfl, hm9⟩ := o3.shp
          have D9 := hide (D8.out.below b3)
          have D10 := hide (D9.out.put (o3.base (base' := w.heap.size + 1) (by have := blkS D8.out.var; have := D8.out.gap; omega)) (own_above o3 (blkS D8.out.var)))
          clear o3 b3 x0 x1 xf hm9
          obtain ⟨x0, x1, xf⟩ := cells2 D9.out.var
          go_wp2
          go_roundw
          case rel => exact ⟨k, _, _, _, _, _, _, _, by omega, by go_num, D10, HRF⟩
          case measure => simp [intOf]; try omega
        | false =>
          go_wp2
          go_roundw
          case rel => exact ⟨k, _, _, _, _, _, _, _, by omega, by go_num, D8, hide HRD.out⟩
          case measure => simp [intOf]; try omega
      · have hK0 : (KK == 0) = false := by simpa using hK
        clear hKR OW FW hm hK
        go_wp2_with fail
        refine (one_any g B 3 (by omega) (by omega) _ D5.out.src hB).mono ?_
        rintro e w8 ⟨b, rfl, hs8, hg8, hz8⟩
        have D8 := hide (D5.out.step hs8 hg8)
        clear hs8 hg8 hz8 D5
        try clear x0 x1 xf
        try clear y0 y1 y2 y3 yf
        obtain ⟨x0, x1, xf⟩ := cells2 D8.out.var
        cases b with
        | true =>
          go_wp2_with fail
          refine (specDiskFlush_any _ _ _ d _ (right_inn HR.out) (right_fits HR.out) D8.out.own).mono ?_
          rintro e w9 ⟨s3, c3, rfl, o3, b3⟩
          have HRF := hide (flush_right HR.out)
          generalize dkFlush d = DF at *
          obtain ⟨so3, m3, p3, co3, m4, q3, rfl, rfl, hm9⟩ := o3.shp
          have D9 := hide (D8.out.below b3)
          have D10 := hide (D9.out.put (o3.base (base' := w.heap.size + 1) (by have := blkS D8.out.var; have := D8.out.gap; omega)) (own_above o3 (blkS D8.out.var)))
          clear o3 b3 x0 x1 xf hm9
          obtain ⟨x0, x1, xf⟩ := cells2 D9.out.var
          go_wp2
          go_roundw
          case rel => exact ⟨k, _, _, _, _, _, _, _, by omega, by go_num, D10, HRF⟩
          case measure => simp [intOf]; try omega
        | false =>
          go_wp2
          go_roundw
          case rel => exact ⟨k, _, _, _, _, _, _, _, by omega, by go_num, D8, hide HR.out⟩
          case measure => simp [intOf]; try omega
    · obtain rfl : k = 0 := by omega
      go_wp2_with fail
      refine (one_any g B 20 (by omega) (by omega) _ D.out.src hB).mono ?_
      rintro e w4 ⟨b, rfl, hs4, hg4, hz4⟩
      have D4 := hide (D.out.step hs4 hg4)
      clear hs4 hg4 hz4 D
      cases b with
      | false =>
        try clear x0 x1 xf r0 r1 rf
        obtain ⟨x0, x1, xf⟩ := cells2 D4.out.var
        obtain ⟨r0, r1, rf⟩ := cells2 D4.out.res
        go_wp2
        exact bodyPost_ret (resDisk Try.results34 _ _ w.heap.size _ _ rfl D4.out.fin.1) rfl ⟨_, _, _, rfl, D4.out.fin.2.1.base (by omega), right_inn HR.out, right_fits HR.out, D4.out.fin.2.2⟩
      | true =>
        go_wp2_with fail
        refine (n_any g B 3 (by omega) (by omega) _ D4.out.src hB).mono ?_
        rintro e w5 ⟨v5, rfl, hv50, hv51, hs5, hg5, hz5⟩
        have D5 := hide (D4.out.step hs5 hg5)
        clear hs5 hg5 hz5 D4
        obtain ⟨x0, x1, xf⟩ := cells2 D5.out.var
        have hn1 := D5.out.len1
        have hn2 := D5.out.len2
        have hbd := dkRight_bounds HR.out
        have HBD : Hid (n1 ≤ 700 ∧ n2 ≤ 400) := ⟨by omega, by omega⟩
        have HIN := hide (right_inn HR.out)
        have HLN := hide (And.intro hn1 hn2)
        clear hn1 hn2 hbd HR
        obtain ⟨i0, hi, hz0, hz1, hz2⟩ := info_parts Try.infoStr'
        obtain ⟨j0, hj, hy0, hy1, hy2⟩ := info_parts Try.infoWr
        obtain rfl | rfl | rfl : v5 = 0 ∨ v5 = 1 ∨ v5 = 2 := by omega
        · have ba := (Below.refl w5.heap.size w5).alloc (Nat.le_refl _) (.cells #[.string ⟨#[115, 104, 111, 114, 116]⟩] 9)
          have D6 := hide (D5.out.below ba)
          have R6 := hide (own_str_one w5 ⟨#[115, 104, 111, 114, 116]⟩)
          have hb1 := HBD.out.1
          have HZ6 : Hid (w.heap.size + 1 ≤ (w5.alloc (.cells #[.string ⟨#[115, 104, 111, 114, 116]⟩] 9)).heap.size) := Nat.le_of_lt (Nat.lt_of_le_of_lt D6.out.gap (blkS D6.out.var))
          clear ba
          obtain ⟨r0, r1, rf⟩ := cells2 D5.out.res
          go_wp2_with (at_builtin; refine wpList_app_own rfl _ _ 23 rfl (w.heap.size + 1) w5.heap.size 9 i0 (.string ⟨#[]⟩) 1 16 Try.underlying23 hi hz0 hz1 hz2 rfl (by decide) _ n1 _ rfl D6.out.secsN _ 1 _ rfl R6.out (str_one _) (by unfold maxLen; omega) (by omega) HZ6.out ?_; intro v9 w9 o9 g9 l9; obtain ⟨ao9, cp9, hv9⟩ := own_shape' o9; subst hv9; have V9 := hide (D6.out.gput g9 D6.out.rowS).2.2; have D9 := hide (D6.out.appS (ownS_snoc o9 HLN.out.1) g9 l9); clear o9 g9 l9 x0 x1 xf r0 r1 rf; obtain ⟨x0, x1, xf⟩ := cells2 V9.out.2; obtain ⟨r0, r1, rf⟩ := cells2 V9.out.1; have hh1 := D6.out.gap; have hh2 : ¬ h = w.heap.size := (by omega); have hh3 : ¬ w.heap.size = h := (by omega))
          exact bodyPost_ret (resDisk Try.results34 _ _ w.heap.size _ _ rfl D9.out.fin.1) rfl ⟨_, _, _, rfl, D9.out.fin.2.1.base (by omega), in_secs HIN.out (by decide), fits_of (by have := HLN.out; have := HBD.out; simp; omega) (by have := HLN.out; have := HBD.out; simp; omega), D9.out.fin.2.2⟩
        · have hb2 := HBD.out.2
          have hb1 := HBD.out.1
          obtain ⟨u0, hu, hu0, hu1, hu2⟩ := info_parts Try.infoU8
          have hcz : madeCells #[Value.int .u8 0] 64 = secV zSec := by kernel_rfl
          have hmk : ∀ W : World, (Instr.makeSlice 22 (.int .i64 64) (.int .i64 64)).run Try.prog W = .ok (.slice (some ⟨W.heap.size, 0, none⟩) 64 64) (W.alloc (.cells (secV zSec) 5)) := fun W => by
            have h := run_makeSlice (P := Try.prog) (w := W) 22 5 u0 (.int .u8 0) Try.underlying22 hu hu0 .i64 .i64 64 64 (by omega) (by omega) (by rw [hu1]; simp) (by rw [hu2]; omega) (by omega)
            rw [hu1] at h
            rw [← hcz]
            exact h
          go_upto_region 17 with fail
          refine wp_region_noPanic ?_
          refine wp_region_held_drew (S := fun _ => True) (by kernel_rfl) trivial (fun _ => ?_)
          have D5' := hide (D5.out.below (Below.refl _ _).drew)
          clear D5 x0 x1 xf
          have D5 := D5'
          clear D5'
          generalize w5.drew = w5 at *
          obtain ⟨x0, x1, xf⟩ := cells2 D5.out.var
          refine takeD 0 68 (v := ?vc5) rfl rfl (by kernel_rfl) (by kernel_rfl) (by kernel_rfl) (fun _ _ _ h => h) (by kernel_rfl) ?hyc5 trivial ?rc5
          case hyc5 => (intro W hSw; go_simp; try with_reducible rfl)
          simp only [Act.put, List.setIfInBounds_toArray, List.set_cons_zero, List.set_cons_succ]
          refine takeD 2 70 (v := ?vc6) rfl rfl (by kernel_rfl) (by kernel_rfl) (by kernel_rfl) (fun _ _ _ h => h) (by kernel_rfl) ?hyc6 trivial ?rc6
          case hyc6 => (intro W hSw; go_simp; try with_reducible rfl)
          simp only [Act.put, List.setIfInBounds_toArray, List.set_cons_zero, List.set_cons_succ]
          refine wpAnyH_ready (rs := [1, 3, 5]) (by kernel_rfl) (by simp) ?_
          refine AllReadyH.cons (o := _) rfl (fun K hK => ?_) (AllReadyH.cons (o := _) rfl (fun K hK => ?_) (AllReadyH.cons (o := _) rfl (fun K hK => ?_) AllReadyH.nil))
          · skip
            go_simp
            refine hK.out _ _ trivial (fun _ => ?_)
            clear hK K
            try simp only [Act.put, List.setIfInBounds_toArray, List.set_cons_zero, List.set_cons_succ]
            refine wpAnyH_ready (rs := [3, 5]) (by kernel_rfl) (by simp) ?_
            refine AllReadyH.cons (o := _) rfl (fun K hK => ?_) (AllReadyH.cons (o := _) rfl (fun K hK => ?_) AllReadyH.nil)
            · skip
              go_simp
              refine hK.out _ _ trivial (fun _ => ?_)
              clear hK K
              try simp only [Act.put, List.setIfInBounds_toArray, List.set_cons_zero, List.set_cons_succ]
              refine takeD 4 72 (v := ?vc7) rfl rfl (by kernel_rfl) (by kernel_rfl) (by kernel_rfl) (fun _ _ _ h => h) (by kernel_rfl) ?hyc7 trivial ?rc7
              case hyc7 => (intro W hSw; go_simp; try with_reducible rfl)
              simp only [Act.put, List.setIfInBounds_toArray, List.set_cons_zero, List.set_cons_succ]
              refine wpAnyH_ready (rs := [5]) (by kernel_rfl) (by simp) ?_
              refine AllReadyH.cons (o := _) rfl (fun K hK => ?_) AllReadyH.nil
              go_simp
              have ba := (Below.refl w5.heap.size w5).alloc (Nat.le_refl _) (.cells (secV zSec) 5)
              have D6 := hide (D5.out.below ba)
              have X6 := hide (heap_alloc_new w5 (.cells (secV zSec) 5))
              clear x0 x1 xf
              obtain ⟨x0, x1, xf⟩ := cells2 D6.out.var
              refine hK.out _ _ trivial (fun _ => ?_)
              clear hK K ba D5
              try simp only [Act.put, List.setIfInBounds_toArray, List.set_cons_zero, List.set_cons_succ]
              generalize w5.alloc (.cells (secV zSec) 5) = w6 at *
              generalize w5.heap.size = e6 at *
              have hcv := conv_sec X6.out zSec_len
              refine wpAnyH_ready (rs := [6]) (by kernel_rfl) (by simp) ?_
              refine AllReadyH.cons (o := _) rfl (fun K hK => ?_) AllReadyH.nil
              go_simp
              refine hK.out _ _ trivial (fun _ => ?_)
              clear hK K
              try simp only [Act.put, List.setIfInBounds_toArray, List.set_cons_zero, List.set_cons_succ]
              refine takeD 7 75 (v := ?vc8) rfl rfl (by kernel_rfl) (by kernel_rfl) (by kernel_rfl) (fun _ _ _ h => h) (by kernel_rfl) ?hyc8 trivial ?rc8
              case hyc8 => (intro W hSw; go_simp; try with_reducible rfl)
              simp only [Act.put, List.setIfInBounds_toArray, List.set_cons_zero, List.set_cons_succ]
              refine wpAnyH_ready (rs := [8]) (by kernel_rfl) (by simp) ?_
              refine AllReadyH.cons (o := _) rfl (fun K hK => ?_) AllReadyH.nil
              go_simp
              have ba := (Below.refl w6.heap.size w6).alloc (Nat.le_refl _) (.cells #[.int .i64 n1, .string (mkS zSec)] 78)
              have D7 := hide (D6.out.below ba)
              have R7 := hide (own_wr_one w6 n1 (mkS zSec))
              have Z7 := hide (Nat.le_of_lt (Nat.lt_of_le_of_lt D7.out.gap (blkS D7.out.var)))
              clear x0 x1 xf hcv X6
              obtain ⟨x0, x1, xf⟩ := cells2 D7.out.var
              refine hK.out _ _ trivial (fun _ => ?_)
              clear hK K ba D6
              try simp only [Act.put, List.setIfInBounds_toArray, List.set_cons_zero, List.set_cons_succ]
              generalize w6.alloc (.cells #[.int .i64 n1, .string (mkS zSec)] 78) = W7 at *
              generalize w6.heap.size = e7 at *
              refine wpAnyH_ready (rs := [9]) (by kernel_rfl) (by simp) ?_
              refine AllReadyH.cons (o := _) rfl (fun K hK => ?_) AllReadyH.nil
              refine step_app_own rfl (.tmp 69) (.tmp 76) 24 rfl (w.heap.size + 1) e7 78 j0 (.agg #[.int .i64 0, .string ⟨#[]⟩]) 2 24 Try.underlying24 hj hy0 hy1 hy2 rfl (by decide) _ n2 _ rfl D7.out.cacheN _ 1 _ rfl R7.out (wr_one _ _) (by unfold maxLen; omega) (by omega) Z7.out ?_
              intro v9 w9 o9 g9 l9
              obtain ⟨ao9, cp9, hv9⟩ := own_shape' o9
              subst hv9
              have V9 := hide (D7.out.gput g9 D7.out.rowC).2.2.2
              have D9 := hide (D7.out.appC (ownW_snoc o9 D7.out.len2.symm) g9 l9)
              clear o9 g9 l9 x0 x1 xf
              obtain ⟨x0, x1, xf⟩ := cells2 V9.out
              refine hK.out _ _ trivial (fun _ => ?_)
              clear hK K
              simp only [List.getElem_toArray, List.getElem_cons_succ, List.getElem_cons_zero, Act.put, List.setIfInBounds_toArray, List.set_cons_zero, List.set_cons_succ]
              refine takeD 10 78 (v := ?vc9) rfl rfl (by kernel_rfl) (by kernel_rfl) (by kernel_rfl) (fun _ _ _ h => h) (by kernel_rfl) ?hyc9 trivial ?rc9
              case hyc9 => (intro W hSw; go_simp; try with_reducible rfl)
              simp only [Act.put, List.setIfInBounds_toArray, List.set_cons_zero, List.set_cons_succ]
              refine wpAnyH_ready (rs := [11]) (by kernel_rfl) (by simp) ?_
              refine AllReadyH.cons (o := _) rfl (fun K hK => ?_) AllReadyH.nil
              go_simp
              refine hK.out _ _ trivial (fun _ => ?_)
              clear hK K
              try simp only [Act.put, List.setIfInBounds_toArray, List.set_cons_zero, List.set_cons_succ]
              clear x0 x1 xf V9 hmk hcz
              refine wpAnyH_done (by kernel_rfl) ?_ _
              refine NoPanic.normal ?_
              obtain ⟨x0, x1, xf⟩ := cells2 D9.out.var
              obtain ⟨r0, r1, rf⟩ := cells2 D9.out.res
              have F := D9.out.fin
              have F1 := fits_of (d := ⟨d.secs, d.cache ++ [⟨(n1 : Int), mkS zSec⟩]⟩) (by have := HLN.out; show d.secs.length ≤ _; omega) (by have := HLN.out; show (d.cache ++ _).length ≤ _; simp; omega)
              go_wp2
              refine bodyPost_ret (resDisk Try.results34 _ _ w.heap.size _ _ rfl F.1) rfl ?_
              exact ⟨_, _, _, rfl, F.2.1.base (Nat.le_succ _), in_cache HIN.out ⟨by unfold wI64; simp only; omega, by simp only; rw [mkS_size, zSec_len]; unfold maxLen; omega⟩, F1, F.2.2⟩
            · skip
              go_simp
              have ba := (Below.refl w5.heap.size w5).alloc (Nat.le_refl _) (.cells (secV zSec) 5)
              have D6 := hide (D5.out.below ba)
              have X6 := hide (heap_alloc_new w5 (.cells (secV zSec) 5))
              clear x0 x1 xf
              obtain ⟨x0, x1, xf⟩ := cells2 D6.out.var
              refine hK.out _ _ trivial (fun _ => ?_)
              clear hK K ba D5
              try simp only [Act.put, List.setIfInBounds_toArray, List.set_cons_zero, List.set_cons_succ]
              generalize w5.alloc (.cells (secV zSec) 5) = w6 at *
              generalize w5.heap.size = e6 at *
              have hcv := conv_sec X6.out zSec_len
              refine wpAnyH_ready (rs := [3, 6]) (by kernel_rfl) (by simp) ?_
              refine AllReadyH.cons (o := _) rfl (fun K hK => ?_) (AllReadyH.cons (o := _) rfl (fun K hK => ?_) AllReadyH.nil)
              · skip
                go_simp
                refine hK.out _ _ trivial (fun _ => ?_)
                clear hK K
                try simp only [Act.put, List.setIfInBounds_toArray, List.set_cons_zero, List.set_cons_succ]
                refine takeD 4 72 (v := ?vc10) rfl rfl (by kernel_rfl) (by kernel_rfl) (by kernel_rfl) (fun _ _ _ h => h) (by kernel_rfl) ?hyc10 trivial ?rc10
                case hyc10 => (intro W hSw; go_simp; try with_reducible rfl)
                simp only [Act.put, List.setIfInBounds_toArray, List.set_cons_zero, List.set_cons_succ]
                refine wpAnyH_ready (rs := [6]) (by kernel_rfl) (by simp) ?_
                refine AllReadyH.cons (o := _) rfl (fun K hK => ?_) AllReadyH.nil
                go_simp
                refine hK.out _ _ trivial (fun _ => ?_)
                clear hK K
                try simp only [Act.put, List.setIfInBounds_toArray, List.set_cons_zero, List.set_cons_succ]
                refine takeD 7 75 (v := ?vc11) rfl rfl (by kernel_rfl) (by kernel_rfl) (by kernel_rfl) (fun _ _ _ h => h) (by kernel_rfl) ?hyc11 trivial ?rc11
                case hyc11 => (intro W hSw; go_simp; try with_reducible rfl)
                simp only [Act.put, List.setIfInBounds_toArray, List.set_cons_zero, List.set_cons_succ]
                refine wpAnyH_ready (rs := [8]) (by kernel_rfl) (by simp) ?_
                refine AllReadyH.cons (o := _) rfl (fun K hK => ?_) AllReadyH.nil
                go_simp
                have ba := (Below.refl w6.heap.size w6).alloc (Nat.le_refl _) (.cells #[.int .i64 n1, .string (mkS zSec)] 78)
                have D7 := hide (D6.out.below ba)
                have R7 := hide (own_wr_one w6 n1 (mkS zSec))
                have Z7 := hide (Nat.le_of_lt (Nat.lt_of_le_of_lt D7.out.gap (blkS D7.out.var)))
                clear x0 x1 xf hcv X6
                obtain ⟨x0, x1, xf⟩ := cells2 D7.out.var
                refine hK.out _ _ trivial (fun _ => ?_)
                clear hK K ba D6
                try simp only [Act.put, List.setIfInBounds_toArray, List.set_cons_zero, List.set_cons_succ]
                generalize w6.alloc (.cells #[.int .i64 n1, .string (mkS zSec)] 78) = W7 at *
                generalize w6.heap.size = e7 at *
                refine wpAnyH_ready (rs := [9]) (by kernel_rfl) (by simp) ?_
                refine AllReadyH.cons (o := _) rfl (fun K hK => ?_) AllReadyH.nil
                refine step_app_own rfl (.tmp 69) (.tmp 76) 24 rfl (w.heap.size + 1) e7 78 j0 (.agg #[.int .i64 0, .string ⟨#[]⟩]) 2 24 Try.underlying24 hj hy0 hy1 hy2 rfl (by decide) _ n2 _ rfl D7.out.cacheN _ 1 _ rfl R7.out (wr_one _ _) (by unfold maxLen; omega) (by omega) Z7.out ?_
                intro v9 w9 o9 g9 l9
                obtain ⟨ao9, cp9, hv9⟩ := own_shape' o9
                subst hv9
                have V9 := hide (D7.out.gput g9 D7.out.rowC).2.2.2
                have D9 := hide (D7.out.appC (ownW_snoc o9 D7.out.len2.symm) g9 l9)
                clear o9 g9 l9 x0 x1 xf
                obtain ⟨x0, x1, xf⟩ := cells2 V9.out
                refine hK.out _ _ trivial (fun _ => ?_)
                clear hK K
                simp only [List.getElem_toArray, List.getElem_cons_succ, List.getElem_cons_zero, Act.put, List.setIfInBounds_toArray, List.set_cons_zero, List.set_cons_succ]
                refine takeD 10 78 (v := ?vc12) rfl rfl (by kernel_rfl) (by kernel_rfl) (by kernel_rfl) (fun _ _ _ h => h) (by kernel_rfl) ?hyc12 trivial ?rc12
                case hyc12 => (intro W hSw; go_simp; try with_reducible rfl)
                simp only [Act.put, List.setIfInBounds_toArray, List.set_cons_zero, List.set_cons_succ]
                refine wpAnyH_ready (rs := [11]) (by kernel_rfl) (by simp) ?_
                refine AllReadyH.cons (o := _) rfl (fun K hK => ?_) AllReadyH.nil
                go_simp
                refine hK.out _ _ trivial (fun _ => ?_)
                clear hK K
                try simp only [Act.put, List.setIfInBounds_toArray, List.set_cons_zero, List.set_cons_succ]
                clear x0 x1 xf V9 hmk hcz
                refine wpAnyH_done (by kernel_rfl) ?_ _
                refine NoPanic.normal ?_
                obtain ⟨x0, x1, xf⟩ := cells2 D9.out.var
                obtain ⟨r0, r1, rf⟩ := cells2 D9.out.res
                have F := D9.out.fin
                have F1 := fits_of (d := ⟨d.secs, d.cache ++ [⟨(n1 : Int), mkS zSec⟩]⟩) (by have := HLN.out; show d.secs.length ≤ _; omega) (by have := HLN.out; show (d.cache ++ _).length ≤ _; simp; omega)
                go_wp2
                refine bodyPost_ret (resDisk Try.results34 _ _ w.heap.size _ _ rfl F.1) rfl ?_
                exact ⟨_, _, _, rfl, F.2.1.base (Nat.le_succ _), in_cache HIN.out ⟨by unfold wI64; simp only; omega, by simp only; rw [mkS_size, zSec_len]; unfold maxLen; omega⟩, F1, F.2.2⟩
              · skip
                go_simp
                refine hK.out _ _ trivial (fun _ => ?_)
                clear hK K
                try simp only [Act.put, List.setIfInBounds_toArray, List.set_cons_zero, List.set_cons_succ]
                refine wpAnyH_ready (rs := [3]) (by kernel_rfl) (by simp) ?_
                refine AllReadyH.cons (o := _) rfl (fun K hK => ?_) AllReadyH.nil
                go_simp
                refine hK.out _ _ trivial (fun _ => ?_)
                clear hK K
                try simp only [Act.put, List.setIfInBounds_toArray, List.set_cons_zero, List.set_cons_succ]
                refine takeD 4 72 (v := ?vc13) rfl rfl (by kernel_rfl) (by kernel_rfl) (by kernel_rfl) (fun _ _ _ h => h) (by kernel_rfl) ?hyc13 trivial ?rc13
                case hyc13 => (intro W hSw; go_simp; try with_reducible rfl)
                simp only [Act.put, List.setIfInBounds_toArray, List.set_cons_zero, List.set_cons_succ]
                refine takeD 7 75 (v := ?vc14) rfl rfl (by kernel_rfl) (by kernel_rfl) (by kernel_rfl) (fun _ _ _ h => h) (by kernel_rfl) ?hyc14 trivial ?rc14
                case hyc14 => (intro W hSw; go_simp; try with_reducible rfl)
                simp only [Act.put, List.setIfInBounds_toArray, List.set_cons_zero, List.set_cons_succ]
                refine wpAnyH_ready (rs := [8]) (by kernel_rfl) (by simp) ?_
                refine AllReadyH.cons (o := _) rfl (fun K hK => ?_) AllReadyH.nil
                go_simp
                have ba := (Below.refl w6.heap.size w6).alloc (Nat.le_refl _) (.cells #[.int .i64 n1, .string (mkS zSec)] 78)
                have D7 := hide (D6.out.below ba)
                have R7 := hide (own_wr_one w6 n1 (mkS zSec))
                have Z7 := hide (Nat.le_of_lt (Nat.lt_of_le_of_lt D7.out.gap (blkS D7.out.var)))
                clear x0 x1 xf hcv X6
                obtain ⟨x0, x1, xf⟩ := cells2 D7.out.var
                refine hK.out _ _ trivial (fun _ => ?_)
                clear hK K ba D6
                try simp only [Act.put, List.setIfInBounds_toArray, List.set_cons_zero, List.set_cons_succ]
                generalize w6.alloc (.cells #[.int .i64 n1, .string (mkS zSec)] 78) = W7 at *
                generalize w6.heap.size = e7 at *
                refine wpAnyH_ready (rs := [9]) (by kernel_rfl) (by simp) ?_
                refine AllReadyH.cons (o := _) rfl (fun K hK => ?_) AllReadyH.nil
                refine step_app_own rfl (.tmp 69) (.tmp 76) 24 rfl (w.heap.size + 1) e7 78 j0 (.agg #[.int .i64 0, .string ⟨#[]⟩]) 2 24 Try.underlying24 hj hy0 hy1 hy2 rfl (by decide) _ n2 _ rfl D7.out.cacheN _ 1 _ rfl R7.out (wr_one _ _) (by unfold maxLen; omega) (by omega) Z7.out ?_
                intro v9 w9 o9 g9 l9
                obtain ⟨ao9, cp9, hv9⟩ := own_shape' o9
                subst hv9
                have V9 := hide (D7.out.gput g9 D7.out.rowC).2.2.2
                have D9 := hide (D7.out.appC (ownW_snoc o9 D7.out.len2.symm) g9 l9)
                clear o9 g9 l9 x0 x1 xf
                obtain ⟨x0, x1, xf⟩ := cells2 V9.out
                refine hK.out _ _ trivial (fun _ => ?_)
                clear hK K
                simp only [List.getElem_toArray, List.getElem_cons_succ, List.getElem_cons_zero, Act.put, List.setIfInBounds_toArray, List.set_cons_zero, List.set_cons_succ]
                refine takeD 10 78 (v := ?vc15) rfl rfl (by kernel_rfl) (by kernel_rfl) (by kernel_rfl) (fun _ _ _ h => h) (by kernel_rfl) ?hyc15 trivial ?rc15
                case hyc15 => (intro W hSw; go_simp; try with_reducible rfl)
                simp only [Act.put, List.setIfInBounds_toArray, List.set_cons_zero, List.set_cons_succ]
                refine wpAnyH_ready (rs := [11]) (by kernel_rfl) (by simp) ?_
                refine AllReadyH.cons (o := _) rfl (fun K hK => ?_) AllReadyH.nil
                go_simp
                refine hK.out _ _ trivial (fun _ => ?_)
                clear hK K
                try simp only [Act.put, List.setIfInBounds_toArray, List.set_cons_zero, List.set_cons_succ]
                clear x0 x1 xf V9 hmk hcz
                refine wpAnyH_done (by kernel_rfl) ?_ _
                refine NoPanic.normal ?_
                obtain ⟨x0, x1, xf⟩ := cells2 D9.out.var
                obtain ⟨r0, r1, rf⟩ := cells2 D9.out.res
                have F := D9.out.fin
                have F1 := fits_of (d := ⟨d.secs, d.cache ++ [⟨(n1 : Int), mkS zSec⟩]⟩) (by have := HLN.out; show d.secs.length ≤ _; omega) (by have := HLN.out; show (d.cache ++ _).length ≤ _; simp; omega)
                go_wp2
                refine bodyPost_ret (resDisk Try.results34 _ _ w.heap.size _ _ rfl F.1) rfl ?_
                exact ⟨_, _, _, rfl, F.2.1.base (Nat.le_succ _), in_cache HIN.out ⟨by unfold wI64; simp only; omega, by simp only; rw [mkS_size, zSec_len]; unfold maxLen; omega⟩, F1, F.2.2⟩
          · skip
            go_simp
            refine hK.out _ _ trivial (fun _ => ?_)
            clear hK K
            try simp only [Act.put, List.setIfInBounds_toArray, List.set_cons_zero, List.set_cons_succ]
            refine takeD 4 72 (v := ?vc16) rfl rfl (by kernel_rfl) (by kernel_rfl) (by kernel_rfl) (fun _ _ _ h => h) (by kernel_rfl) ?hyc16 trivial ?rc16
            case hyc16 => (intro W hSw; go_simp; try with_reducible rfl)
            simp only [Act.put, List.setIfInBounds_toArray, List.set_cons_zero, List.set_cons_succ]
            refine wpAnyH_ready (rs := [1, 5]) (by kernel_rfl) (by simp) ?_
            refine AllReadyH.cons (o := _) rfl (fun K hK => ?_) (AllReadyH.cons (o := _) rfl (fun K hK => ?_) AllReadyH.nil)
            · skip
              go_simp
              refine hK.out _ _ trivial (fun _ => ?_)
              clear hK K
              try simp only [Act.put, List.setIfInBounds_toArray, List.set_cons_zero, List.set_cons_succ]
              refine wpAnyH_ready (rs := [5]) (by kernel_rfl) (by simp) ?_
              refine AllReadyH.cons (o := _) rfl (fun K hK => ?_) AllReadyH.nil
              go_simp
              have ba := (Below.refl w5.heap.size w5).alloc (Nat.le_refl _) (.cells (secV zSec) 5)
              have D6 := hide (D5.out.below ba)
              have X6 := hide (heap_alloc_new w5 (.cells (secV zSec) 5))
              clear x0 x1 xf
              obtain ⟨x0, x1, xf⟩ := cells2 D6.out.var
              refine hK.out _ _ trivial (fun _ => ?_)
              clear hK K ba D5
              try simp only [Act.put, List.setIfInBounds_toArray, List.set_cons_zero, List.set_cons_succ]
              generalize w5.alloc (.cells (secV zSec) 5) = w6 at *
              generalize w5.heap.size = e6 at *
              have hcv := conv_sec X6.out zSec_len
              refine wpAnyH_ready (rs := [6]) (by kernel_rfl) (by simp) ?_
              refine AllReadyH.cons (o := _) rfl (fun K hK => ?_) AllReadyH.nil
              go_simp
              refine hK.out _ _ trivial (fun _ => ?_)
              clear hK K
              try simp only [Act.put, List.setIfInBounds_toArray, List.set_cons_zero, List.set_cons_succ]
              refine takeD 7 75 (v := ?vc17) rfl rfl (by kernel_rfl) (by kernel_rfl) (by kernel_rfl) (fun _ _ _ h => h) (by kernel_rfl) ?hyc17 trivial ?rc17
              case hyc17 => (intro W hSw; go_simp; try with_reducible rfl)
              simp only [Act.put, List.setIfInBounds_toArray, List.set_cons_zero, List.set_cons_succ]
              refine wpAnyH_ready (rs := [8]) (by kernel_rfl) (by simp) ?_
              refine AllReadyH.cons (o := _) rfl (fun K hK => ?_) AllReadyH.nil
              go_simp
              have ba := (Below.refl w6.heap.size w6).alloc (Nat.le_refl _) (.cells #[.int .i64 n1, .string (mkS zSec)] 78)
              have D7 := hide (D6.out.below ba)
              have R7 := hide (own_wr_one w6 n1 (mkS zSec))
              have Z7 := hide (Nat.le_of_lt (Nat.lt_of_le_of_lt D7.out.gap (blkS D7.out.var)))
              clear x0 x1 xf hcv X6
              obtain ⟨x0, x1, xf⟩ := cells2 D7.out.var
              refine hK.out _ _ trivial (fun _ => ?_)
              clear hK K ba D6
              try simp only [Act.put, List.setIfInBounds_toArray, List.set_cons_zero, List.set_cons_succ]
              generalize w6.alloc (.cells #[.int .i64 n1, .string (mkS zSec)] 78) = W7 at *
              generalize w6.heap.size = e7 at *
              refine wpAnyH_ready (rs := [9]) (by kernel_rfl) (by simp) ?_
              refine AllReadyH.cons (o := _) rfl (fun K hK => ?_) AllReadyH.nil
              refine step_app_own rfl (.tmp 69) (.tmp 76) 24 rfl (w.heap.size + 1) e7 78 j0 (.agg #[.int .i64 0, .string ⟨#[]⟩]) 2 24 Try.underlying24 hj hy0 hy1 hy2 rfl (by decide) _ n2 _ rfl D7.out.cacheN _ 1 _ rfl R7.out (wr_one _ _) (by unfold maxLen; omega) (by omega) Z7.out ?_
              intro v9 w9 o9 g9 l9
              obtain ⟨ao9, cp9, hv9⟩ := own_shape' o9
              subst hv9
              have V9 := hide (D7.out.gput g9 D7.out.rowC).2.2.2
              have D9 := hide (D7.out.appC (ownW_snoc o9 D7.out.len2.symm) g9 l9)
              clear o9 g9 l9 x0 x1 xf
              obtain ⟨x0, x1, xf⟩ := cells2 V9.out
              refine hK.out _ _ trivial (fun _ => ?_)
              clear hK K
              simp only [List.getElem_toArray, List.getElem_cons_succ, List.getElem_cons_zero, Act.put, List.setIfInBounds_toArray, List.set_cons_zero, List.set_cons_succ]
              refine takeD 10 78 (v := ?vc18) rfl rfl (by kernel_rfl) (by kernel_rfl) (by kernel_rfl) (fun _ _ _ h => h) (by kernel_rfl) ?hyc18 trivial ?rc18
              case hyc18 => (intro W hSw; go_simp; try with_reducible rfl)
              simp only [Act.put, List.setIfInBounds_toArray, List.set_cons_zero, List.set_cons_succ]
              refine wpAnyH_ready (rs := [11]) (by kernel_rfl) (by simp) ?_
              refine AllReadyH.cons (o := _) rfl (fun K hK => ?_) AllReadyH.nil
              go_simp
              refine hK.out _ _ trivial (fun _ => ?_)
              clear hK K
              try simp only [Act.put, List.setIfInBounds_toArray, List.set_cons_zero, List.set_cons_succ]
              clear x0 x1 xf V9 hmk hcz
              refine wpAnyH_done (by kernel_rfl) ?_ _
              refine NoPanic.normal ?_
              obtain ⟨x0, x1, xf⟩ := cells2 D9.out.var
              obtain ⟨r0, r1, rf⟩ := cells2 D9.out.res
              have F := D9.out.fin
              have F1 := fits_of (d := ⟨d.secs, d.cache ++ [⟨(n1 : Int), mkS zSec⟩]⟩) (by have := HLN.out; show d.secs.length ≤ _; omega) (by have := HLN.out; show (d.cache ++ _).length ≤ _; simp; omega)
              go_wp2
              refine bodyPost_ret (resDisk Try.results34 _ _ w.heap.size _ _ rfl F.1) rfl ?_
              exact ⟨_, _, _, rfl, F.2.1.base (Nat.le_succ _), in_cache HIN.out ⟨by unfold wI64; simp only; omega, by simp only; rw [mkS_size, zSec_len]; unfold maxLen; omega⟩, F1, F.2.2⟩
            · skip
              go_simp
              have ba := (Below.refl w5.heap.size w5).alloc (Nat.le_refl _) (.cells (secV zSec) 5)
              have D6 := hide (D5.out.below ba)
              have X6 := hide (heap_alloc_new w5 (.cells (secV zSec) 5))
              clear x0 x1 xf
              obtain ⟨x0, x1, xf⟩ := cells2 D6.out.var
              refine hK.out _ _ trivial (fun _ => ?_)
              clear hK K ba D5
              try simp only [Act.put, List.setIfInBounds_toArray, List.set_cons_zero, List.set_cons_succ]
              generalize w5.alloc (.cells (secV zSec) 5) = w6 at *
              generalize w5.heap.size = e6 at *
              have hcv := conv_sec X6.out zSec_len
              refine wpAnyH_ready (rs := [1, 6]) (by kernel_rfl) (by simp) ?_
              refine AllReadyH.cons (o := _) rfl (fun K hK => ?_) (AllReadyH.cons (o := _) rfl (fun K hK => ?_) AllReadyH.nil)
              · skip
                go_simp
                refine hK.out _ _ trivial (fun _ => ?_)
                clear hK K
                try simp only [Act.put, List.setIfInBounds_toArray, List.set_cons_zero, List.set_cons_succ]
                refine wpAnyH_ready (rs := [6]) (by kernel_rfl) (by simp) ?_
                refine AllReadyH.cons (o := _) rfl (fun K hK => ?_) AllReadyH.nil
                go_simp
                refine hK.out _ _ trivial (fun _ => ?_)
                clear hK K
                try simp only [Act.put, List.setIfInBounds_toArray, List.set_cons_zero, List.set_cons_succ]
                refine takeD 7 75 (v := ?vc19) rfl rfl (by kernel_rfl) (by kernel_rfl) (by kernel_rfl) (fun _ _ _ h => h) (by kernel_rfl) ?hyc19 trivial ?rc19
                case hyc19 => (intro W hSw; go_simp; try with_reducible rfl)
                simp only [Act.put, List.setIfInBounds_toArray, List.set_cons_zero, List.set_cons_succ]
                refine wpAnyH_ready (rs := [8]) (by kernel_rfl) (by simp) ?_
                refine AllReadyH.cons (o := _) rfl (fun K hK => ?_) AllReadyH.nil
                go_simp
                have ba := (Below.refl w6.heap.size w6).alloc (Nat.le_refl _) (.cells #[.int .i64 n1, .string (mkS zSec)] 78)
                have D7 := hide (D6.out.below ba)
                have R7 := hide (own_wr_one w6 n1 (mkS zSec))
                have Z7 := hide (Nat.le_of_lt (Nat.lt_of_le_of_lt D7.out.gap (blkS D7.out.var)))
                clear x0 x1 xf hcv X6
                obtain ⟨x0, x1, xf⟩ := cells2 D7.out.var
                refine hK.out _ _ trivial (fun _ => ?_)
                clear hK K ba D6
                try simp only [Act.put, List.setIfInBounds_toArray, List.set_cons_zero, List.set_cons_succ]
                generalize w6.alloc (.cells #[.int .i64 n1, .string (mkS zSec)] 78) = W7 at *
                generalize w6.heap.size = e7 at *
                refine wpAnyH_ready (rs := [9]) (by kernel_rfl) (by simp) ?_
                refine AllReadyH.cons (o := _) rfl (fun K hK => ?_) AllReadyH.nil
                refine step_app_own rfl (.tmp 69) (.tmp 76) 24 rfl (w.heap.size + 1) e7 78 j0 (.agg #[.int .i64 0, .string ⟨#[]⟩]) 2 24 Try.underlying24 hj hy0 hy1 hy2 rfl (by decide) _ n2 _ rfl D7.out.cacheN _ 1 _ rfl R7.out (wr_one _ _) (by unfold maxLen; omega) (by omega) Z7.out ?_
                intro v9 w9 o9 g9 l9
                obtain ⟨ao9, cp9, hv9⟩ := own_shape' o9
                subst hv9
                have V9 := hide (D7.out.gput g9 D7.out.rowC).2.2.2
                have D9 := hide (D7.out.appC (ownW_snoc o9 D7.out.len2.symm) g9 l9)
                clear o9 g9 l9 x0 x1 xf
                obtain ⟨x0, x1, xf⟩ := cells2 V9.out
                refine hK.out _ _ trivial (fun _ => ?_)
                clear hK K
                simp only [List.getElem_toArray, List.getElem_cons_succ, List.getElem_cons_zero, Act.put, List.setIfInBounds_toArray, List.set_cons_zero, List.set_cons_succ]
                refine takeD 10 78 (v := ?vc20) rfl rfl (by kernel_rfl) (by kernel_rfl) (by kernel_rfl) (fun _ _ _ h => h) (by kernel_rfl) ?hyc20 trivial ?rc20
                case hyc20 => (intro W hSw; go_simp; try with_reducible rfl)
                simp only [Act.put, List.setIfInBounds_toArray, List.set_cons_zero, List.set_cons_succ]
                refine wpAnyH_ready (rs := [11]) (by kernel_rfl) (by simp) ?_
                refine AllReadyH.cons (o := _) rfl (fun K hK => ?_) AllReadyH.nil
                go_simp
                refine hK.out _ _ trivial (fun _ => ?_)
                clear hK K
                try simp only [Act.put, List.setIfInBounds_toArray, List.set_cons_zero, List.set_cons_succ]
                clear x0 x1 xf V9 hmk hcz
                refine wpAnyH_done (by kernel_rfl) ?_ _
                refine NoPanic.normal ?_
                obtain ⟨x0, x1, xf⟩ := cells2 D9.out.var
                obtain ⟨r0, r1, rf⟩ := cells2 D9.out.res
                have F := D9.out.fin
                have F1 := fits_of (d := ⟨d.secs, d.cache ++ [⟨(n1 : Int), mkS zSec⟩]⟩) (by have := HLN.out; show d.secs.length ≤ _; omega) (by have := HLN.out; show (d.cache ++ _).length ≤ _; simp; omega)
                go_wp2
                refine bodyPost_ret (resDisk Try.results34 _ _ w.heap.size _ _ rfl F.1) rfl ?_
                exact ⟨_, _, _, rfl, F.2.1.base (Nat.le_succ _), in_cache HIN.out ⟨by unfold wI64; simp only; omega, by simp only; rw [mkS_size, zSec_len]; unfold maxLen; omega⟩, F1, F.2.2⟩
              · skip
                go_simp
                refine hK.out _ _ trivial (fun _ => ?_)
                clear hK K
                try simp only [Act.put, List.setIfInBounds_toArray, List.set_cons_zero, List.set_cons_succ]
                refine takeD 7 75 (v := ?vc21) rfl rfl (by kernel_rfl) (by kernel_rfl) (by kernel_rfl) (fun _ _ _ h => h) (by kernel_rfl) ?hyc21 trivial ?rc21
                case hyc21 => (intro W hSw; go_simp; try with_reducible rfl)
                simp only [Act.put, List.setIfInBounds_toArray, List.set_cons_zero, List.set_cons_succ]
                refine wpAnyH_ready (rs := [1, 8]) (by kernel_rfl) (by simp) ?_
                refine AllReadyH.cons (o := _) rfl (fun K hK => ?_) (AllReadyH.cons (o := _) rfl (fun K hK => ?_) AllReadyH.nil)
                · skip
                  go_simp
                  refine hK.out _ _ trivial (fun _ => ?_)
                  clear hK K
                  try simp only [Act.put, List.setIfInBounds_toArray, List.set_cons_zero, List.set_cons_succ]
                  refine wpAnyH_ready (rs := [8]) (by kernel_rfl) (by simp) ?_
                  refine AllReadyH.cons (o := _) rfl (fun K hK => ?_) AllReadyH.nil
                  go_simp
                  have ba := (Below.refl w6.heap.size w6).alloc (Nat.le_refl _) (.cells #[.int .i64 n1, .string (mkS zSec)] 78)
                  have D7 := hide (D6.out.below ba)
                  have R7 := hide (own_wr_one w6 n1 (mkS zSec))
                  have Z7 := hide (Nat.le_of_lt (Nat.lt_of_le_of_lt D7.out.gap (blkS D7.out.var)))
                  clear x0 x1 xf hcv X6
                  obtain ⟨x0, x1, xf⟩ := cells2 D7.out.var
                  refine hK.out _ _ trivial (fun _ => ?_)
                  clear hK K ba D6
                  try simp only [Act.put, List.setIfInBounds_toArray, List.set_cons_zero, List.set_cons_succ]
                  generalize w6.alloc (.cells #[.int .i64 n1, .string (mkS zSec)] 78) = W7 at *
                  generalize w6.heap.size = e7 at *
                  refine wpAnyH_ready (rs := [9]) (by kernel_rfl) (by simp) ?_
                  refine AllReadyH.cons (o := _) rfl (fun K hK => ?_) AllReadyH.nil
                  refine step_app_own rfl (.tmp 69) (.tmp 76) 24 rfl (w.heap.size + 1) e7 78 j0 (.agg #[.int .i64 0, .string ⟨#[]⟩]) 2 24 Try.underlying24 hj hy0 hy1 hy2 rfl (by decide) _ n2 _ rfl D7.out.cacheN _ 1 _ rfl R7.out (wr_one _ _) (by unfold maxLen; omega) (by omega) Z7.out ?_
                  intro v9 w9 o9 g9 l9
                  obtain ⟨ao9, cp9, hv9⟩ := own_shape' o9
                  subst hv9
                  have V9 := hide (D7.out.gput g9 D7.out.rowC).2.2.2
                  have D9 := hide (D7.out.appC (ownW_snoc o9 D7.out.len2.symm) g9 l9)
                  clear o9 g9 l9 x0 x1 xf
                  obtain ⟨x0, x1, xf⟩ := cells2 V9.out
                  refine hK.out _ _ trivial (fun _ => ?_)
                  clear hK K
                  simp only [List.getElem_toArray, List.getElem_cons_succ, List.getElem_cons_zero, Act.put, List.setIfInBounds_toArray, List.set_cons_zero, List.set_cons_succ]
                  refine takeD 10 78 (v := ?vc22) rfl rfl (by kernel_rfl) (by kernel_rfl) (by kernel_rfl) (fun _ _ _ h => h) (by kernel_rfl) ?hyc22 trivial ?rc22
                  case hyc22 => (intro W hSw; go_simp; try with_reducible rfl)
                  simp only [Act.put, List.setIfInBounds_toArray, List.set_cons_zero, List.set_cons_succ]
                  refine wpAnyH_ready (rs := [11]) (by kernel_rfl) (by simp) ?_
                  refine AllReadyH.cons (o := _) rfl (fun K hK => ?_) AllReadyH.nil
                  go_simp
                  refine hK.out _ _ trivial (fun _ => ?_)
                  clear hK K
                  try simp only [Act.put, List.setIfInBounds_toArray, List.set_cons_zero, List.set_cons_succ]
                  clear x0 x1 xf V9 hmk hcz
                  refine wpAnyH_done (by kernel_rfl) ?_ _
                  refine NoPanic.normal ?_
                  obtain ⟨x0, x1, xf⟩ := cells2 D9.out.var
                  obtain ⟨r0, r1, rf⟩ := cells2 D9.out.res
                  have F := D9.out.fin
                  have F1 := fits_of (d := ⟨d.secs, d.cache ++ [⟨(n1 : Int), mkS zSec⟩]⟩) (by have := HLN.out; show d.secs.length ≤ _; omega) (by have := HLN.out; show (d.cache ++ _).length ≤ _; simp; omega)
                  go_wp2
                  refine bodyPost_ret (resDisk Try.results34 _ _ w.heap.size _ _ rfl F.1) rfl ?_
                  exact ⟨_, _, _, rfl, F.2.1.base (Nat.le_succ _), in_cache HIN.out ⟨by unfold wI64; simp only; omega, by simp only; rw [mkS_size, zSec_len]; unfold maxLen; omega⟩, F1, F.2.2⟩
                · skip
                  go_simp
                  have ba := (Below.refl w6.heap.size w6).alloc (Nat.le_refl _) (.cells #[.int .i64 n1, .string (mkS zSec)] 78)
                  have D7 := hide (D6.out.below ba)
                  have R7 := hide (own_wr_one w6 n1 (mkS zSec))
                  have Z7 := hide (Nat.le_of_lt (Nat.lt_of_le_of_lt D7.out.gap (blkS D7.out.var)))
                  clear x0 x1 xf hcv X6
                  obtain ⟨x0, x1, xf⟩ := cells2 D7.out.var
                  refine hK.out _ _ trivial (fun _ => ?_)
                  clear hK K ba D6
                  try simp only [Act.put, List.setIfInBounds_toArray, List.set_cons_zero, List.set_cons_succ]
                  generalize w6.alloc (.cells #[.int .i64 n1, .string (mkS zSec)] 78) = W7 at *
                  generalize w6.heap.size = e7 at *
                  refine wpAnyH_ready (rs := [1]) (by kernel_rfl) (by simp) ?_
                  refine AllReadyH.cons (o := _) rfl (fun K hK => ?_) AllReadyH.nil
                  go_simp
                  refine hK.out _ _ trivial (fun _ => ?_)
                  clear hK K
                  try simp only [Act.put, List.setIfInBounds_toArray, List.set_cons_zero, List.set_cons_succ]
                  refine wpAnyH_ready (rs := [9]) (by kernel_rfl) (by simp) ?_
                  refine AllReadyH.cons (o := _) rfl (fun K hK => ?_) AllReadyH.nil
                  refine step_app_own rfl (.tmp 69) (.tmp 76) 24 rfl (w.heap.size + 1) e7 78 j0 (.agg #[.int .i64 0, .string ⟨#[]⟩]) 2 24 Try.underlying24 hj hy0 hy1 hy2 rfl (by decide) _ n2 _ rfl D7.out.cacheN _ 1 _ rfl R7.out (wr_one _ _) (by unfold maxLen; omega) (by omega) Z7.out ?_
                  intro v9 w9 o9 g9 l9
                  obtain ⟨ao9, cp9, hv9⟩ := own_shape' o9
                  subst hv9
                  have V9 := hide (D7.out.gput g9 D7.out.rowC).2.2.2
                  have D9 := hide (D7.out.appC (ownW_snoc o9 D7.out.len2.symm) g9 l9)
                  clear o9 g9 l9 x0 x1 xf
                  obtain ⟨x0, x1, xf⟩ := cells2 V9.out
                  refine hK.out _ _ trivial (fun _ => ?_)
                  clear hK K
                  simp only [List.getElem_toArray, List.getElem_cons_succ, List.getElem_cons_zero, Act.put, List.setIfInBounds_toArray, List.set_cons_zero, List.set_cons_succ]
                  refine takeD 10 78 (v := ?vc23) rfl rfl (by kernel_rfl) (by kernel_rfl) (by kernel_rfl) (fun _ _ _ h => h) (by kernel_rfl) ?hyc23 trivial ?rc23
                  case hyc23 => (intro W hSw; go_simp; try with_reducible rfl)
                  simp only [Act.put, List.setIfInBounds_toArray, List.set_cons_zero, List.set_cons_succ]
                  refine wpAnyH_ready (rs := [11]) (by kernel_rfl) (by simp) ?_
                  refine AllReadyH.cons (o := _) rfl (fun K hK => ?_) AllReadyH.nil
                  go_simp
                  refine hK.out _ _ trivial (fun _ => ?_)
                  clear hK K
                  try simp only [Act.put, List.setIfInBounds_toArray, List.set_cons_zero, List.set_cons_succ]
                  clear x0 x1 xf V9 hmk hcz
                  refine wpAnyH_done (by kernel_rfl) ?_ _
                  refine NoPanic.normal ?_
                  obtain ⟨x0, x1, xf⟩ := cells2 D9.out.var
                  obtain ⟨r0, r1, rf⟩ := cells2 D9.out.res
                  have F := D9.out.fin
                  have F1 := fits_of (d := ⟨d.secs, d.cache ++ [⟨(n1 : Int), mkS zSec⟩]⟩) (by have := HLN.out; show d.secs.length ≤ _; omega) (by have := HLN.out; show (d.cache ++ _).length ≤ _; simp; omega)
                  go_wp2
                  refine bodyPost_ret (resDisk Try.results34 _ _ w.heap.size _ _ rfl F.1) rfl ?_
                  exact ⟨_, _, _, rfl, F.2.1.base (Nat.le_succ _), in_cache HIN.out ⟨by unfold wI64; simp only; omega, by simp only; rw [mkS_size, zSec_len]; unfold maxLen; omega⟩, F1, F.2.2⟩
          · skip
            go_simp
            have ba := (Below.refl w5.heap.size w5).alloc (Nat.le_refl _) (.cells (secV zSec) 5)
            have D6 := hide (D5.out.below ba)
            have X6 := hide (heap_alloc_new w5 (.cells (secV zSec) 5))
            clear x0 x1 xf
            obtain ⟨x0, x1, xf⟩ := cells2 D6.out.var
            refine hK.out _ _ trivial (fun _ => ?_)
            clear hK K ba D5
            try simp only [Act.put, List.setIfInBounds_toArray, List.set_cons_zero, List.set_cons_succ]
            generalize w5.alloc (.cells (secV zSec) 5) = w6 at *
            generalize w5.heap.size = e6 at *
            have hcv := conv_sec X6.out zSec_len
            refine wpAnyH_ready (rs := [1, 3, 6]) (by kernel_rfl) (by simp) ?_
            refine AllReadyH.cons (o := _) rfl (fun K hK => ?_) (AllReadyH.cons (o := _) rfl (fun K hK => ?_) (AllReadyH.cons (o := _) rfl (fun K hK => ?_) AllReadyH.nil))
            · skip
              go_simp
              refine hK.out _ _ trivial (fun _ => ?_)
              clear hK K
              try simp only [Act.put, List.setIfInBounds_toArray, List.set_cons_zero, List.set_cons_succ]
              refine wpAnyH_ready (rs := [3, 6]) (by kernel_rfl) (by simp) ?_
              refine AllReadyH.cons (o := _) rfl (fun K hK => ?_) (AllReadyH.cons (o := _) rfl (fun K hK => ?_) AllReadyH.nil)
              · skip
                go_simp
                refine hK.out _ _ trivial (fun _ => ?_)
                clear hK K
                try simp only [Act.put, List.setIfInBounds_toArray, List.set_cons_zero, List.set_cons_succ]
                refine takeD 4 72 (v := ?vc24) rfl rfl (by kernel_rfl) (by kernel_rfl) (by kernel_rfl) (fun _ _ _ h => h) (by kernel_rfl) ?hyc24 trivial ?rc24
                case hyc24 => (intro W hSw; go_simp; try with_reducible rfl)
                simp only [Act.put, List.setIfInBounds_toArray, List.set_cons_zero, List.set_cons_succ]
                refine wpAnyH_ready (rs := [6]) (by kernel_rfl) (by simp) ?_
                refine AllReadyH.cons (o := _) rfl (fun K hK => ?_) AllReadyH.nil
                go_simp
                refine hK.out _ _ trivial (fun _ => ?_)
                clear hK K
                try simp only [Act.put, List.setIfInBounds_toArray, List.set_cons_zero, List.set_cons_succ]
                refine takeD 7 75 (v := ?vc25) rfl rfl (by kernel_rfl) (by kernel_rfl) (by kernel_rfl) (fun _ _ _ h => h) (by kernel_rfl) ?hyc25 trivial ?rc25
                case hyc25 => (intro W hSw; go_simp; try with_reducible rfl)
                simp only [Act.put, List.setIfInBounds_toArray, List.set_cons_zero, List.set_cons_succ]
                refine wpAnyH_ready (rs := [8]) (by kernel_rfl) (by simp) ?_
                refine AllReadyH.cons (o := _) rfl (fun K hK => ?_) AllReadyH.nil
                go_simp
                have ba := (Below.refl w6.heap.size w6).alloc (Nat.le_refl _) (.cells #[.int .i64 n1, .string (mkS zSec)] 78)
                have D7 := hide (D6.out.below ba)
                have R7 := hide (own_wr_one w6 n1 (mkS zSec))
                have Z7 := hide (Nat.le_of_lt (Nat.lt_of_le_of_lt D7.out.gap (blkS D7.out.var)))
                clear x0 x1 xf hcv X6
                obtain ⟨x0, x1, xf⟩ := cells2 D7.out.var
                refine hK.out _ _ trivial (fun _ => ?_)
                clear hK K ba D6
                try simp only [Act.put, List.setIfInBounds_toArray, List.set_cons_zero, List.set_cons_succ]
                generalize w6.alloc (.cells #[.int .i64 n1, .string (mkS zSec)] 78) = W7 at *
                generalize w6.heap.size = e7 at *
                refine wpAnyH_ready (rs := [9]) (by kernel_rfl) (by simp) ?_
                refine AllReadyH.cons (o := _) rfl (fun K hK => ?_) AllReadyH.nil
                refine step_app_own rfl (.tmp 69) (.tmp 76) 24 rfl (w.heap.size + 1) e7 78 j0 (.agg #[.int .i64 0, .string ⟨#[]⟩]) 2 24 Try.underlying24 hj hy0 hy1 hy2 rfl (by decide) _ n2 _ rfl D7.out.cacheN _ 1 _ rfl R7.out (wr_one _ _) (by unfold maxLen; omega) (by omega) Z7.out ?_
                intro v9 w9 o9 g9 l9
                obtain ⟨ao9, cp9, hv9⟩ := own_shape' o9
                subst hv9
                have V9 := hide (D7.out.gput g9 D7.out.rowC).2.2.2
                have D9 := hide (D7.out.appC (ownW_snoc o9 D7.out.len2.symm) g9 l9)
                clear o9 g9 l9 x0 x1 xf
                obtain ⟨x0, x1, xf⟩ := cells2 V9.out
                refine hK.out _ _ trivial (fun _ => ?_)
                clear hK K
                simp only [List.getElem_toArray, List.getElem_cons_succ, List.getElem_cons_zero, Act.put, List.setIfInBounds_toArray, List.set_cons_zero, List.set_cons_succ]
                refine takeD 10 78 (v := ?vc26) rfl rfl (by kernel_rfl) (by kernel_rfl) (by kernel_rfl) (fun _ _ _ h => h) (by kernel_rfl) ?hyc26 trivial ?rc26
                case hyc26 => (intro W hSw; go_simp; try with_reducible rfl)
                simp only [Act.put, List.setIfInBounds_toArray, List.set_cons_zero, List.set_cons_succ]
                refine wpAnyH_ready (rs := [11]) (by kernel_rfl) (by simp) ?_
                refine AllReadyH.cons (o := _) rfl (fun K hK => ?_) AllReadyH.nil
                go_simp
                refine hK.out _ _ trivial (fun _ => ?_)
                clear hK K
                try simp only [Act.put, List.setIfInBounds_toArray, List.set_cons_zero, List.set_cons_succ]
                clear x0 x1 xf V9 hmk hcz
                refine wpAnyH_done (by kernel_rfl) ?_ _
                refine NoPanic.normal ?_
                obtain ⟨x0, x1, xf⟩ := cells2 D9.out.var
                obtain ⟨r0, r1, rf⟩ := cells2 D9.out.res
                have F := D9.out.fin
                have F1 := fits_of (d := ⟨d.secs, d.cache ++ [⟨(n1 : Int), mkS zSec⟩]⟩) (by have := HLN.out; show d.secs.length ≤ _; omega) (by have := HLN.out; show (d.cache ++ _).length ≤ _; simp; omega)
                go_wp2
                refine bodyPost_ret (resDisk Try.results34 _ _ w.heap.size _ _ rfl F.1) rfl ?_
                exact ⟨_, _, _, rfl, F.2.1.base (Nat.le_succ _), in_cache HIN.out ⟨by unfold wI64; simp only; omega, by simp only; rw [mkS_size, zSec_len]; unfold maxLen; omega⟩, F1, F.2.2⟩
              · skip
                go_simp
                refine hK.out _ _ trivial (fun _ => ?_)
                clear hK K
                try simp only [Act.put, List.setIfInBounds_toArray, List.set_cons_zero, List.set_cons_succ]
                refine wpAnyH_ready (rs := [3]) (by kernel_rfl) (by simp) ?_
                refine AllReadyH.cons (o := _) rfl (fun K hK => ?_) AllReadyH.nil
                go_simp
                refine hK.out _ _ trivial (fun _ => ?_)
                clear hK K
                try simp only [Act.put, List.setIfInBounds_toArray, List.set_cons_zero, List.set_cons_succ]
                refine takeD 4 72 (v := ?vc27) rfl rfl (by kernel_rfl) (by kernel_rfl) (by kernel_rfl) (fun _ _ _ h => h) (by kernel_rfl) ?hyc27 trivial ?rc27
                case hyc27 => (intro W hSw; go_simp; try with_reducible rfl)
                simp only [Act.put, List.setIfInBounds_toArray, List.set_cons_zero, List.set_cons_succ]
                refine takeD 7 75 (v := ?vc28) rfl rfl (by kernel_rfl) (by kernel_rfl) (by kernel_rfl) (fun _ _ _ h => h) (by kernel_rfl) ?hyc28 trivial ?rc28
                case hyc28 => (intro W hSw; go_simp; try with_reducible rfl)
                simp only [Act.put, List.setIfInBounds_toArray, List.set_cons_zero, List.set_cons_succ]
                refine wpAnyH_ready (rs := [8]) (by kernel_rfl) (by simp) ?_
                refine AllReadyH.cons (o := _) rfl (fun K hK => ?_) AllReadyH.nil
                go_simp
                have ba := (Below.refl w6.heap.size w6).alloc (Nat.le_refl _) (.cells #[.int .i64 n1, .string (mkS zSec)] 78)
                have D7 := hide (D6.out.below ba)
                have R7 := hide (own_wr_one w6 n1 (mkS zSec))
                have Z7 := hide (Nat.le_of_lt (Nat.lt_of_le_of_lt D7.out.gap (blkS D7.out.var)))
                clear x0 x1 xf hcv X6
                obtain ⟨x0, x1, xf⟩ := cells2 D7.out.var
                refine hK.out _ _ trivial (fun _ => ?_)
                clear hK K ba D6
                try simp only [Act.put, List.setIfInBounds_toArray, List.set_cons_zero, List.set_cons_succ]
                generalize w6.alloc (.cells #[.int .i64 n1, .string (mkS zSec)] 78) = W7 at *
                generalize w6.heap.size = e7 at *
                refine wpAnyH_ready (rs := [9]) (by kernel_rfl) (by simp) ?_
                refine AllReadyH.cons (o := _) rfl (fun K hK => ?_) AllReadyH.nil
                refine step_app_own rfl (.tmp 69) (.tmp 76) 24 rfl (w.heap.size + 1) e7 78 j0 (.agg #[.int .i64 0, .string ⟨#[]⟩]) 2 24 Try.underlying24 hj hy0 hy1 hy2 rfl (by decide) _ n2 _ rfl D7.out.cacheN _ 1 _ rfl R7.out (wr_one _ _) (by unfold maxLen; omega) (by omega) Z7.out ?_
                intro v9 w9 o9 g9 l9
                obtain ⟨ao9, cp9, hv9⟩ := own_shape' o9
                subst hv9
                have V9 := hide (D7.out.gput g9 D7.out.rowC).2.2.2
                have D9 := hide (D7.out.appC (ownW_snoc o9 D7.out.len2.symm) g9 l9)
                clear o9 g9 l9 x0 x1 xf
                obtain ⟨x0, x1, xf⟩ := cells2 V9.out
                refine hK.out _ _ trivial (fun _ => ?_)
                clear hK K
                simp only [List.getElem_toArray, List.getElem_cons_succ, List.getElem_cons_zero, Act.put, List.setIfInBounds_toArray, List.set_cons_zero, List.set_cons_succ]
                refine takeD 10 78 (v := ?vc29) rfl rfl (by kernel_rfl) (by kernel_rfl) (by kernel_rfl) (fun _ _ _ h => h) (by kernel_rfl) ?hyc29 trivial ?rc29
                case hyc29 => (intro W hSw; go_simp; try with_reducible rfl)
                simp only [Act.put, List.setIfInBounds_toArray, List.set_cons_zero, List.set_cons_succ]
                refine wpAnyH_ready (rs := [11]) (by kernel_rfl) (by simp) ?_
                refine AllReadyH.cons (o := _) rfl (fun K hK => ?_) AllReadyH.nil
                go_simp
                refine hK.out _ _ trivial (fun _ => ?_)
                clear hK K
                try simp only [Act.put, List.setIfInBounds_toArray, List.set_cons_zero, List.set_cons_succ]
                clear x0 x1 xf V9 hmk hcz
                refine wpAnyH_done (by kernel_rfl) ?_ _
                refine NoPanic.normal ?_
                obtain ⟨x0, x1, xf⟩ := cells2 D9.out.var
                obtain ⟨r0, r1, rf⟩ := cells2 D9.out.res
                have F := D9.out.fin
                have F1 := fits_of (d := ⟨d.secs, d.cache ++ [⟨(n1 : Int), mkS zSec⟩]⟩) (by have := HLN.out; show d.secs.length ≤ _; omega) (by have := HLN.out; show (d.cache ++ _).length ≤ _; simp; omega)
                go_wp2
                refine bodyPost_ret (resDisk Try.results34 _ _ w.heap.size _ _ rfl F.1) rfl ?_
                exact ⟨_, _, _, rfl, F.2.1.base (Nat.le_succ _), in_cache HIN.out ⟨by unfold wI64; simp only; omega, by simp only; rw [mkS_size, zSec_len]; unfold maxLen; omega⟩, F1, F.2.2⟩
            · skip
              go_simp
              refine hK.out _ _ trivial (fun _ => ?_)
              clear hK K
              try simp only [Act.put, List.setIfInBounds_toArray, List.set_cons_zero, List.set_cons_succ]
              refine takeD 4 72 (v := ?vc30) rfl rfl (by kernel_rfl) (by kernel_rfl) (by kernel_rfl) (fun _ _ _ h => h) (by kernel_rfl) ?hyc30 trivial ?rc30
              case hyc30 => (intro W hSw; go_simp; try with_reducible rfl)
              simp only [Act.put, List.setIfInBounds_toArray, List.set_cons_zero, List.set_cons_succ]
              refine wpAnyH_ready (rs := [1, 6]) (by kernel_rfl) (by simp) ?_
              refine AllReadyH.cons (o := _) rfl (fun K hK => ?_) (AllReadyH.cons (o := _) rfl (fun K hK => ?_) AllReadyH.nil)
              · skip
                go_simp
                refine hK.out _ _ trivial (fun _ => ?_)
                clear hK K
                try simp only [Act.put, List.setIfInBounds_toArray, List.set_cons_zero, List.set_cons_succ]
                refine wpAnyH_ready (rs := [6]) (by kernel_rfl) (by simp) ?_
                refine AllReadyH.cons (o := _) rfl (fun K hK => ?_) AllReadyH.nil
                go_simp
                refine hK.out _ _ trivial (fun _ => ?_)
                clear hK K
                try simp only [Act.put, List.setIfInBounds_toArray, List.set_cons_zero, List.set_cons_succ]
                refine takeD 7 75 (v := ?vc31) rfl rfl (by kernel_rfl) (by kernel_rfl) (by kernel_rfl) (fun _ _ _ h => h) (by kernel_rfl) ?hyc31 trivial ?rc31
                case hyc31 => (intro W hSw; go_simp; try with_reducible rfl)
                simp only [Act.put, List.setIfInBounds_toArray, List.set_cons_zero, List.set_cons_succ]
                refine wpAnyH_ready (rs := [8]) (by kernel_rfl) (by simp) ?_
                refine AllReadyH.cons (o := _) rfl (fun K hK => ?_) AllReadyH.nil
                go_simp
                have ba := (Below.refl w6.heap.size w6).alloc (Nat.le_refl _) (.cells #[.int .i64 n1, .string (mkS zSec)] 78)
                have D7 := hide (D6.out.below ba)
                have R7 := hide (own_wr_one w6 n1 (mkS zSec))
                have Z7 := hide (Nat.le_of_lt (Nat.lt_of_le_of_lt D7.out.gap (blkS D7.out.var)))
                clear x0 x1 xf hcv X6
                obtain ⟨x0, x1, xf⟩ := cells2 D7.out.var
                refine hK.out _ _ trivial (fun _ => ?_)
                clear hK K ba D6
                try simp only [Act.put, List.setIfInBounds_toArray, List.set_cons_zero, List.set_cons_succ]
                generalize w6.alloc (.cells #[.int .i64 n1, .string (mkS zSec)] 78) = W7 at *
                generalize w6.heap.size = e7 at *
                refine wpAnyH_ready (rs := [9]) (by kernel_rfl) (by simp) ?_
                refine AllReadyH.cons (o := _) rfl (fun K hK => ?_) AllReadyH.nil
                refine step_app_own rfl (.tmp 69) (.tmp 76) 24 rfl (w.heap.size + 1) e7 78 j0 (.agg #[.int .i64 0, .string ⟨#[]⟩]) 2 24 Try.underlying24 hj hy0 hy1 hy2 rfl (by decide) _ n2 _ rfl D7.out.cacheN _ 1 _ rfl R7.out (wr_one _ _) (by unfold maxLen; omega) (by omega) Z7.out ?_
                intro v9 w9 o9 g9 l9
                obtain ⟨ao9, cp9, hv9⟩ := own_shape' o9
                subst hv9
                have V9 := hide (D7.out.gput g9 D7.out.rowC).2.2.2
                have D9 := hide (D7.out.appC (ownW_snoc o9 D7.out.len2.symm) g9 l9)
                clear o9 g9 l9 x0 x1 xf
                obtain ⟨x0, x1, xf⟩ := cells2 V9.out
                refine hK.out _ _ trivial (fun _ => ?_)
                clear hK K
                simp only [List.getElem_toArray, List.getElem_cons_succ, List.getElem_cons_zero, Act.put, List.setIfInBounds_toArray, List.set_cons_zero, List.set_cons_succ]
                refine takeD 10 78 (v := ?vc32) rfl rfl (by kernel_rfl) (by kernel_rfl) (by kernel_rfl) (fun _ _ _ h => h) (by kernel_rfl) ?hyc32 trivial ?rc32
                case hyc32 => (intro W hSw; go_simp; try with_reducible rfl)
                simp only [Act.put, List.setIfInBounds_toArray, List.set_cons_zero, List.set_cons_succ]
                refine wpAnyH_ready (rs := [11]) (by kernel_rfl) (by simp) ?_
                refine AllReadyH.cons (o := _) rfl (fun K hK => ?_) AllReadyH.nil
                go_simp
                refine hK.out _ _ trivial (fun _ => ?_)
                clear hK K
                try simp only [Act.put, List.setIfInBounds_toArray, List.set_cons_zero, List.set_cons_succ]
                clear x0 x1 xf V9 hmk hcz
                refine wpAnyH_done (by kernel_rfl) ?_ _
                refine NoPanic.normal ?_
                obtain ⟨x0, x1, xf⟩ := cells2 D9.out.var
                obtain ⟨r0, r1, rf⟩ := cells2 D9.out.res
                have F := D9.out.fin
                have F1 := fits_of (d := ⟨d.secs, d.cache ++ [⟨(n1 : Int), mkS zSec⟩]⟩) (by have := HLN.out; show d.secs.length ≤ _; omega) (by have := HLN.out; show (d.cache ++ _).length ≤ _; simp; omega)
                go_wp2
                refine bodyPost_ret (resDisk Try.results34 _ _ w.heap.size _ _ rfl F.1) rfl ?_
                exact ⟨_, _, _, rfl, F.2.1.base (Nat.le_succ _), in_cache HIN.out ⟨by unfold wI64; simp only; omega, by simp only; rw [mkS_size, zSec_len]; unfold maxLen; omega⟩, F1, F.2.2⟩
              · skip
                go_simp
                refine hK.out _ _ trivial (fun _ => ?_)
                clear hK K
                try simp only [Act.put, List.setIfInBounds_toArray, List.set_cons_zero, List.set_cons_succ]
                refine takeD 7 75 (v := ?vc33) rfl rfl (by kernel_rfl) (by kernel_rfl) (by kernel_rfl) (fun _ _ _ h => h) (by kernel_rfl) ?hyc33 trivial ?rc33
                case hyc33 => (intro W hSw; go_simp; try with_reducible rfl)
                simp only [Act.put, List.setIfInBounds_toArray, List.set_cons_zero, List.set_cons_succ]
                refine wpAnyH_ready (rs := [1, 8]) (by kernel_rfl) (by simp) ?_
                refine AllReadyH.cons (o := _) rfl (fun K hK => ?_) (AllReadyH.cons (o := _) rfl (fun K hK => ?_) AllReadyH.nil)
                · skip
                  go_simp
                  refine hK.out _ _ trivial (fun _ => ?_)
                  clear hK K
                  try simp only [Act.put, List.setIfInBounds_toArray, List.set_cons_zero, List.set_cons_succ]
                  refine wpAnyH_ready (rs := [8]) (by kernel_rfl) (by simp) ?_
                  refine AllReadyH.cons (o := _) rfl (fun K hK => ?_) AllReadyH.nil
                  go_simp
                  have ba := (Below.refl w6.heap.size w6).alloc (Nat.le_refl _) (.cells #[.int .i64 n1, .string (mkS zSec)] 78)
                  have D7 := hide (D6.out.below ba)
                  have R7 := hide (own_wr_one w6 n1 (mkS zSec))
                  have Z7 := hide (Nat.le_of_lt (Nat.lt_of_le_of_lt D7.out.gap (blkS D7.out.var)))
                  clear x0 x1 xf hcv X6
                  obtain ⟨x0, x1, xf⟩ := cells2 D7.out.var
                  refine hK.out _ _ trivial (fun _ => ?_)
                  clear hK K ba D6
                  try simp only [Act.put, List.setIfInBounds_toArray, List.set_cons_zero, List.set_cons_succ]
                  generalize w6.alloc (.cells #[.int .i64 n1, .string (mkS zSec)] 78) = W7 at *
                  generalize w6.heap.size = e7 at *
                  refine wpAnyH_ready (rs := [9]) (by kernel_rfl) (by simp) ?_
                  refine AllReadyH.cons (o := _) rfl (fun K hK => ?_) AllReadyH.nil
                  refine step_app_own rfl (.tmp 69) (.tmp 76) 24 rfl (w.heap.size + 1) e7 78 j0 (.agg #[.int .i64 0, .string ⟨#[]⟩]) 2 24 Try.underlying24 hj hy0 hy1 hy2 rfl (by decide) _ n2 _ rfl D7.out.cacheN _ 1 _ rfl R7.out (wr_one _ _) (by unfold maxLen; omega) (by omega) Z7.out ?_
                  intro v9 w9 o9 g9 l9
                  obtain ⟨ao9, cp9, hv9⟩ := own_shape' o9
                  subst hv9
                  have V9 := hide (D7.out.gput g9 D7.out.rowC).2.2.2
                  have D9 := hide (D7.out.appC (ownW_snoc o9 D7.out.len2.symm) g9 l9)
                  clear o9 g9 l9 x0 x1 xf
                  obtain ⟨x0, x1, xf⟩ := cells2 V9.out
                  refine hK.out _ _ trivial (fun _ => ?_)
                  clear hK K
                  simp only [List.getElem_toArray, List.getElem_cons_succ, List.getElem_cons_zero, Act.put, List.setIfInBounds_toArray, List.set_cons_zero, List.set_cons_succ]
                  refine takeD 10 78 (v := ?vc34) rfl rfl (by kernel_rfl) (by kernel_rfl) (by kernel_rfl) (fun _ _ _ h => h) (by kernel_rfl) ?hyc34 trivial ?rc34
                  case hyc34 => (intro W hSw; go_simp; try with_reducible rfl)
                  simp only [Act.put, List.setIfInBounds_toArray, List.set_cons_zero, List.set_cons_succ]
                  refine wpAnyH_ready (rs := [11]) (by kernel_rfl) (by simp) ?_
                  refine AllReadyH.cons (o := _) rfl (fun K hK => ?_) AllReadyH.nil
                  go_simp
                  refine hK.out _ _ trivial (fun _ => ?_)
                  clear hK K
                  try simp only [Act.put, List.setIfInBounds_toArray, List.set_cons_zero, List.set_cons_succ]
                  clear x0 x1 xf V9 hmk hcz
                  refine wpAnyH_done (by kernel_rfl) ?_ _
                  refine NoPanic.normal ?_
                  obtain ⟨x0, x1, xf⟩ := cells2 D9.out.var
                  obtain ⟨r0, r1, rf⟩ := cells2 D9.out.res
                  have F := D9.out.fin
                  have F1 := fits_of (d := ⟨d.secs, d.cache ++ [⟨(n1 : Int), mkS zSec⟩]⟩) (by have := HLN.out; show d.secs.length ≤ _; omega) (by have := HLN.out; show (d.cache ++ _).length ≤ _; simp; omega)
                  go_wp2
                  refine bodyPost_ret (resDisk Try.results34 _ _ w.heap.size _ _ rfl F.1) rfl ?_
                  exact ⟨_, _, _, rfl, F.2.1.base (Nat.le_succ _), in_cache HIN.out ⟨by unfold wI64; simp only; omega, by simp only; rw [mkS_size, zSec_len]; unfold maxLen; omega⟩, F1, F.2.2⟩
                · skip
                  go_simp
                  have ba := (Below.refl w6.heap.size w6).alloc (Nat.le_refl _) (.cells #[.int .i64 n1, .string (mkS zSec)] 78)
                  have D7 := hide (D6.out.below ba)
                  have R7 := hide (own_wr_one w6 n1 (mkS zSec))
                  have Z7 := hide (Nat.le_of_lt (Nat.lt_of_le_of_lt D7.out.gap (blkS D7.out.var)))
                  clear x0 x1 xf hcv X6
                  obtain ⟨x0, x1, xf⟩ := cells2 D7.out.var
                  refine hK.out _ _ trivial (fun _ => ?_)
                  clear hK K ba D6
                  try simp only [Act.put, List.setIfInBounds_toArray, List.set_cons_zero, List.set_cons_succ]
                  generalize w6.alloc (.cells #[.int .i64 n1, .string (mkS zSec)] 78) = W7 at *
                  generalize w6.heap.size = e7 at *
                  refine wpAnyH_ready (rs := [1]) (by kernel_rfl) (by simp) ?_
                  refine AllReadyH.cons (o := _) rfl (fun K hK => ?_) AllReadyH.nil
                  go_simp
                  refine hK.out _ _ trivial (fun _ => ?_)
                  clear hK K
                  try simp only [Act.put, List.setIfInBounds_toArray, List.set_cons_zero, List.set_cons_succ]
                  refine wpAnyH_ready (rs := [9]) (by kernel_rfl) (by simp) ?_
                  refine AllReadyH.cons (o := _) rfl (fun K hK => ?_) AllReadyH.nil
                  refine step_app_own rfl (.tmp 69) (.tmp 76) 24 rfl (w.heap.size + 1) e7 78 j0 (.agg #[.int .i64 0, .string ⟨#[]⟩]) 2 24 Try.underlying24 hj hy0 hy1 hy2 rfl (by decide) _ n2 _ rfl D7.out.cacheN _ 1 _ rfl R7.out (wr_one _ _) (by unfold maxLen; omega) (by omega) Z7.out ?_
                  intro v9 w9 o9 g9 l9
                  obtain ⟨ao9, cp9, hv9⟩ := own_shape' o9
                  subst hv9
                  have V9 := hide (D7.out.gput g9 D7.out.rowC).2.2.2
                  have D9 := hide (D7.out.appC (ownW_snoc o9 D7.out.len2.symm) g9 l9)
                  clear o9 g9 l9 x0 x1 xf
                  obtain ⟨x0, x1, xf⟩ := cells2 V9.out
                  refine hK.out _ _ trivial (fun _ => ?_)
                  clear hK K
                  simp only [List.getElem_toArray, List.getElem_cons_succ, List.getElem_cons_zero, Act.put, List.setIfInBounds_toArray, List.set_cons_zero, List.set_cons_succ]
                  refine takeD 10 78 (v := ?vc35) rfl rfl (by kernel_rfl) (by kernel_rfl) (by kernel_rfl) (fun _ _ _ h => h) (by kernel_rfl) ?hyc35 trivial ?rc35
                  case hyc35 => (intro W hSw; go_simp; try with_reducible rfl)
                  simp only [Act.put, List.setIfInBounds_toArray, List.set_cons_zero, List.set_cons_succ]
                  refine wpAnyH_ready (rs := [11]) (by kernel_rfl) (by simp) ?_
                  refine AllReadyH.cons (o := _) rfl (fun K hK => ?_) AllReadyH.nil
                  go_simp
                  refine hK.out _ _ trivial (fun _ => ?_)
                  clear hK K
                  try simp only [Act.put, List.setIfInBounds_toArray, List.set_cons_zero, List.set_cons_succ]
                  clear x0 x1 xf V9 hmk hcz
                  refine wpAnyH_done (by kernel_rfl) ?_ _
                  refine NoPanic.normal ?_
                  obtain ⟨x0, x1, xf⟩ := cells2 D9.out.var
                  obtain ⟨r0, r1, rf⟩ := cells2 D9.out.res
                  have F := D9.out.fin
                  have F1 := fits_of (d := ⟨d.secs, d.cache ++ [⟨(n1 : Int), mkS zSec⟩]⟩) (by have := HLN.out; show d.secs.length ≤ _; omega) (by have := HLN.out; show (d.cache ++ _).length ≤ _; simp; omega)
                  go_wp2
                  refine bodyPost_ret (resDisk Try.results34 _ _ w.heap.size _ _ rfl F.1) rfl ?_
                  exact ⟨_, _, _, rfl, F.2.1.base (Nat.le_succ _), in_cache HIN.out ⟨by unfold wI64; simp only; omega, by simp only; rw [mkS_size, zSec_len]; unfold maxLen; omega⟩, F1, F.2.2⟩
            · skip
              go_simp
              refine hK.out _ _ trivial (fun _ => ?_)
              clear hK K
              try simp only [Act.put, List.setIfInBounds_toArray, List.set_cons_zero, List.set_cons_succ]
              refine wpAnyH_ready (rs := [1, 3]) (by kernel_rfl) (by simp) ?_
              refine AllReadyH.cons (o := _) rfl (fun K hK => ?_) (AllReadyH.cons (o := _) rfl (fun K hK => ?_) AllReadyH.nil)
              · skip
                go_simp
                refine hK.out _ _ trivial (fun _ => ?_)
                clear hK K
                try simp only [Act.put, List.setIfInBounds_toArray, List.set_cons_zero, List.set_cons_succ]
                refine wpAnyH_ready (rs := [3]) (by kernel_rfl) (by simp) ?_
                refine AllReadyH.cons (o := _) rfl (fun K hK => ?_) AllReadyH.nil
                go_simp
                refine hK.out _ _ trivial (fun _ => ?_)
                clear hK K
                try simp only [Act.put, List.setIfInBounds_toArray, List.set_cons_zero, List.set_cons_succ]
                refine takeD 4 72 (v := ?vc36) rfl rfl (by kernel_rfl) (by kernel_rfl) (by kernel_rfl) (fun _ _ _ h => h) (by kernel_rfl) ?hyc36 trivial ?rc36
                case hyc36 => (intro W hSw; go_simp; try with_reducible rfl)
                simp only [Act.put, List.setIfInBounds_toArray, List.set_cons_zero, List.set_cons_succ]
                refine takeD 7 75 (v := ?vc37) rfl rfl (by kernel_rfl) (by kernel_rfl) (by kernel_rfl) (fun _ _ _ h => h) (by kernel_rfl) ?hyc37 trivial ?rc37
                case hyc37 => (intro W hSw; go_simp; try with_reducible rfl)
                simp only [Act.put, List.setIfInBounds_toArray, List.set_cons_zero, List.set_cons_succ]
                refine wpAnyH_ready (rs := [8]) (by kernel_rfl) (by simp) ?_
                refine AllReadyH.cons (o := _) rfl (fun K hK => ?_) AllReadyH.nil
                go_simp
                have ba := (Below.refl w6.heap.size w6).alloc (Nat.le_refl _) (.cells #[.int .i64 n1, .string (mkS zSec)] 78)
                have D7 := hide (D6.out.below ba)
                have R7 := hide (own_wr_one w6 n1 (mkS zSec))
                have Z7 := hide (Nat.le_of_lt (Nat.lt_of_le_of_lt D7.out.gap (blkS D7.out.var)))
                clear x0 x1 xf hcv X6
                obtain ⟨x0, x1, xf⟩ := cells2 D7.out.var
                refine hK.out _ _ trivial (fun _ => ?_)
                clear hK K ba D6
                try simp only [Act.put, List.setIfInBounds_toArray, List.set_cons_zero, List.set_cons_succ]
                generalize w6.alloc (.cells #[.int .i64 n1, .string (mkS zSec)] 78) = W7 at *
                generalize w6.heap.size = e7 at *
                refine wpAnyH_ready (rs := [9]) (by kernel_rfl) (by simp) ?_
                refine AllReadyH.cons (o := _) rfl (fun K hK => ?_) AllReadyH.nil
                refine step_app_own rfl (.tmp 69) (.tmp 76) 24 rfl (w.heap.size + 1) e7 78 j0 (.agg #[.int .i64 0, .string ⟨#[]⟩]) 2 24 Try.underlying24 hj hy0 hy1 hy2 rfl (by decide) _ n2 _ rfl D7.out.cacheN _ 1 _ rfl R7.out (wr_one _ _) (by unfold maxLen; omega) (by omega) Z7.out ?_
                intro v9 w9 o9 g9 l9
                obtain ⟨ao9, cp9, hv9⟩ := own_shape' o9
                subst hv9
                have V9 := hide (D7.out.gput g9 D7.out.rowC).2.2.2
                have D9 := hide (D7.out.appC (ownW_snoc o9 D7.out.len2.symm) g9 l9)
                clear o9 g9 l9 x0 x1 xf
                obtain ⟨x0, x1, xf⟩ := cells2 V9.out
                refine hK.out _ _ trivial (fun _ => ?_)
                clear hK K
                simp only [List.getElem_toArray, List.getElem_cons_succ, List.getElem_cons_zero, Act.put, List.setIfInBounds_toArray, List.set_cons_zero, List.set_cons_succ]
                refine takeD 10 78 (v := ?vc38) rfl rfl (by kernel_rfl) (by kernel_rfl) (by kernel_rfl) (fun _ _ _ h => h) (by kernel_rfl) ?hyc38 trivial ?rc38
                case hyc38 => (intro W hSw; go_simp; try with_reducible rfl)
                simp only [Act.put, List.setIfInBounds_toArray, List.set_cons_zero, List.set_cons_succ]
                refine wpAnyH_ready (rs := [11]) (by kernel_rfl) (by simp) ?_
                refine AllReadyH.cons (o := _) rfl (fun K hK => ?_) AllReadyH.nil
                go_simp
                refine hK.out _ _ trivial (fun _ => ?_)
                clear hK K
                try simp only [Act.put, List.setIfInBounds_toArray, List.set_cons_zero, List.set_cons_succ]
                clear x0 x1 xf V9 hmk hcz
                refine wpAnyH_done (by kernel_rfl) ?_ _
                refine NoPanic.normal ?_
                obtain ⟨x0, x1, xf⟩ := cells2 D9.out.var
                obtain ⟨r0, r1, rf⟩ := cells2 D9.out.res
                have F := D9.out.fin
                have F1 := fits_of (d := ⟨d.secs, d.cache ++ [⟨(n1 : Int), mkS zSec⟩]⟩) (by have := HLN.out; show d.secs.length ≤ _; omega) (by have := HLN.out; show (d.cache ++ _).length ≤ _; simp; omega)
                go_wp2
                refine bodyPost_ret (resDisk Try.results34 _ _ w.heap.size _ _ rfl F.1) rfl ?_
                exact ⟨_, _, _, rfl, F.2.1.base (Nat.le_succ _), in_cache HIN.out ⟨by unfold wI64; simp only; omega, by simp only; rw [mkS_size, zSec_len]; unfold maxLen; omega⟩, F1, F.2.2⟩
              · skip
                go_simp
                refine hK.out _ _ trivial (fun _ => ?_)
                clear hK K
                try simp only [Act.put, List.setIfInBounds_toArray, List.set_cons_zero, List.set_cons_succ]
                refine takeD 4 72 (v := ?vc39) rfl rfl (by kernel_rfl) (by kernel_rfl) (by kernel_rfl) (fun _ _ _ h => h) (by kernel_rfl) ?hyc39 trivial ?rc39
                case hyc39 => (intro W hSw; go_simp; try with_reducible rfl)
                simp only [Act.put, List.setIfInBounds_toArray, List.set_cons_zero, List.set_cons_succ]
                refine takeD 7 75 (v := ?vc40) rfl rfl (by kernel_rfl) (by kernel_rfl) (by kernel_rfl) (fun _ _ _ h => h) (by kernel_rfl) ?hyc40 trivial ?rc40
                case hyc40 => (intro W hSw; go_simp; try with_reducible rfl)
                simp only [Act.put, List.setIfInBounds_toArray, List.set_cons_zero, List.set_cons_succ]
                refine wpAnyH_ready (rs := [1, 8]) (by kernel_rfl) (by simp) ?_
                refine AllReadyH.cons (o := _) rfl (fun K hK => ?_) (AllReadyH.cons (o := _) rfl (fun K hK => ?_) AllReadyH.nil)
                · skip
                  go_simp
                  refine hK.out _ _ trivial (fun _ => ?_)
                  clear hK K
                  try simp only [Act.put, List.setIfInBounds_toArray, List.set_cons_zero, List.set_cons_succ]
                  refine wpAnyH_ready (rs := [8]) (by kernel_rfl) (by simp) ?_
                  refine AllReadyH.cons (o := _) rfl (fun K hK => ?_) AllReadyH.nil
                  go_simp
                  have ba := (Below.refl w6.heap.size w6).alloc (Nat.le_refl _) (.cells #[.int .i64 n1, .string (mkS zSec)] 78)
                  have D7 := hide (D6.out.below ba)
                  have R7 := hide (own_wr_one w6 n1 (mkS zSec))
                  have Z7 := hide (Nat.le_of_lt (Nat.lt_of_le_of_lt D7.out.gap (blkS D7.out.var)))
                  clear x0 x1 xf hcv X6
                  obtain ⟨x0, x1, xf⟩ := cells2 D7.out.var
                  refine hK.out _ _ trivial (fun _ => ?_)
                  clear hK K ba D6
                  try simp only [Act.put, List.setIfInBounds_toArray, List.set_cons_zero, List.set_cons_succ]
                  generalize w6.alloc (.cells #[.int .i64 n1, .string (mkS zSec)] 78) = W7 at *
                  generalize w6.heap.size = e7 at *
                  refine wpAnyH_ready (rs := [9]) (by kernel_rfl) (by simp) ?_
                  refine AllReadyH.cons (o := _) rfl (fun K hK => ?_) AllReadyH.nil
                  refine step_app_own rfl (.tmp 69) (.tmp 76) 24 rfl (w.heap.size + 1) e7 78 j0 (.agg #[.int .i64 0, .string ⟨#[]⟩]) 2 24 Try.underlying24 hj hy0 hy1 hy2 rfl (by decide) _ n2 _ rfl D7.out.cacheN _ 1 _ rfl R7.out (wr_one _ _) (by unfold maxLen; omega) (by omega) Z7.out ?_
                  intro v9 w9 o9 g9 l9
                  obtain ⟨ao9, cp9, hv9⟩ := own_shape' o9
                  subst hv9
                  have V9 := hide (D7.out.gput g9 D7.out.rowC).2.2.2
                  have D9 := hide (D7.out.appC (ownW_snoc o9 D7.out.len2.symm) g9 l9)
                  clear o9 g9 l9 x0 x1 xf
                  obtain ⟨x0, x1, xf⟩ := cells2 V9.out
                  refine hK.out _ _ trivial (fun _ => ?_)
                  clear hK K
                  simp only [List.getElem_toArray, List.getElem_cons_succ, List.getElem_cons_zero, Act.put, List.setIfInBounds_toArray, List.set_cons_zero, List.set_cons_succ]
                  refine takeD 10 78 (v := ?vc41) rfl rfl (by kernel_rfl) (by kernel_rfl) (by kernel_rfl) (fun _ _ _ h => h) (by kernel_rfl) ?hyc41 trivial ?rc41
                  case hyc41 => (intro W hSw; go_simp; try with_reducible rfl)
                  simp only [Act.put, List.setIfInBounds_toArray, List.set_cons_zero, List.set_cons_succ]
                  refine wpAnyH_ready (rs := [11]) (by kernel_rfl) (by simp) ?_
                  refine AllReadyH.cons (o := _) rfl (fun K hK => ?_) AllReadyH.nil
                  go_simp
                  refine hK.out _ _ trivial (fun _ => ?_)
                  clear hK K
                  try simp only [Act.put, List.setIfInBounds_toArray, List.set_cons_zero, List.set_cons_succ]
                  clear x0 x1 xf V9 hmk hcz
                  refine wpAnyH_done (by kernel_rfl) ?_ _
                  refine NoPanic.normal ?_
                  obtain ⟨x0, x1, xf⟩ := cells2 D9.out.var
                  obtain ⟨r0, r1, rf⟩ := cells2 D9.out.res
                  have F := D9.out.fin
                  have F1 := fits_of (d := ⟨d.secs, d.cache ++ [⟨(n1 : Int), mkS zSec⟩]⟩) (by have := HLN.out; show d.secs.length ≤ _; omega) (by have := HLN.out; show (d.cache ++ _).length ≤ _; simp; omega)
                  go_wp2
                  refine bodyPost_ret (resDisk Try.results34 _ _ w.heap.size _ _ rfl F.1) rfl ?_
                  exact ⟨_, _, _, rfl, F.2.1.base (Nat.le_succ _), in_cache HIN.out ⟨by unfold wI64; simp only; omega, by simp only; rw [mkS_size, zSec_len]; unfold maxLen; omega⟩, F1, F.2.2⟩
                · skip
                  go_simp
                  have ba := (Below.refl w6.heap.size w6).alloc (Nat.le_refl _) (.cells #[.int .i64 n1, .string (mkS zSec)] 78)
                  have D7 := hide (D6.out.below ba)
                  have R7 := hide (own_wr_one w6 n1 (mkS zSec))
                  have Z7 := hide (Nat.le_of_lt (Nat.lt_of_le_of_lt D7.out.gap (blkS D7.out.var)))
                  clear x0 x1 xf hcv X6
                  obtain ⟨x0, x1, xf⟩ := cells2 D7.out.var
                  refine hK.out _ _ trivial (fun _ => ?_)
                  clear hK K ba D6
                  try simp only [Act.put, List.setIfInBounds_toArray, List.set_cons_zero, List.set_cons_succ]
                  generalize w6.alloc (.cells #[.int .i64 n1, .string (mkS zSec)] 78) = W7 at *
                  generalize w6.heap.size = e7 at *
                  refine wpAnyH_ready (rs := [1]) (by kernel_rfl) (by simp) ?_
                  refine AllReadyH.cons (o := _) rfl (fun K hK => ?_) AllReadyH.nil
                  go_simp
                  refine hK.out _ _ trivial (fun _ => ?_)
                  clear hK K
                  try simp only [Act.put, List.setIfInBounds_toArray, List.set_cons_zero, List.set_cons_succ]
                  refine wpAnyH_ready (rs := [9]) (by kernel_rfl) (by simp) ?_
                  refine AllReadyH.cons (o := _) rfl (fun K hK => ?_) AllReadyH.nil
                  refine step_app_own rfl (.tmp 69) (.tmp 76) 24 rfl (w.heap.size + 1) e7 78 j0 (.agg #[.int .i64 0, .string ⟨#[]⟩]) 2 24 Try.underlying24 hj hy0 hy1 hy2 rfl (by decide) _ n2 _ rfl D7.out.cacheN _ 1 _ rfl R7.out (wr_one _ _) (by unfold maxLen; omega) (by omega) Z7.out ?_
                  intro v9 w9 o9 g9 l9
                  obtain ⟨ao9, cp9, hv9⟩ := own_shape' o9
                  subst hv9
                  have V9 := hide (D7.out.gput g9 D7.out.rowC).2.2.2
                  have D9 := hide (D7.out.appC (ownW_snoc o9 D7.out.len2.symm) g9 l9)
                  clear o9 g9 l9 x0 x1 xf
                  obtain ⟨x0, x1, xf⟩ := cells2 V9.out
                  refine hK.out _ _ trivial (fun _ => ?_)
                  clear hK K
                  simp only [List.getElem_toArray, List.getElem_cons_succ, List.getElem_cons_zero, Act.put, List.setIfInBounds_toArray, List.set_cons_zero, List.set_cons_succ]
                  refine takeD 10 78 (v := ?vc42) rfl rfl (by kernel_rfl) (by kernel_rfl) (by kernel_rfl) (fun _ _ _ h => h) (by kernel_rfl) ?hyc42 trivial ?rc42
                  case hyc42 => (intro W hSw; go_simp; try with_reducible rfl)
                  simp only [Act.put, List.setIfInBounds_toArray, List.set_cons_zero, List.set_cons_succ]
                  refine wpAnyH_ready (rs := [11]) (by kernel_rfl) (by simp) ?_
                  refine AllReadyH.cons (o := _) rfl (fun K hK => ?_) AllReadyH.nil
                  go_simp
                  refine hK.out _ _ trivial (fun _ => ?_)
                  clear hK K
                  try simp only [Act.put, List.setIfInBounds_toArray, List.set_cons_zero, List.set_cons_succ]
                  clear x0 x1 xf V9 hmk hcz
                  refine wpAnyH_done (by kernel_rfl) ?_ _
                  refine NoPanic.normal ?_
                  obtain ⟨x0, x1, xf⟩ := cells2 D9.out.var
                  obtain ⟨r0, r1, rf⟩ := cells2 D9.out.res
                  have F := D9.out.fin
                  have F1 := fits_of (d := ⟨d.secs, d.cache ++ [⟨(n1 : Int), mkS zSec⟩]⟩) (by have := HLN.out; show d.secs.length ≤ _; omega) (by have := HLN.out; show (d.cache ++ _).length ≤ _; simp; omega)
                  go_wp2
                  refine bodyPost_ret (resDisk Try.results34 _ _ w.heap.size _ _ rfl F.1) rfl ?_
                  exact ⟨_, _, _, rfl, F.2.1.base (Nat.le_succ _), in_cache HIN.out ⟨by unfold wI64; simp only; omega, by simp only; rw [mkS_size, zSec_len]; unfold maxLen; omega⟩, F1, F.2.2⟩
        · clear HLN x0 x1 xf
          have HB2 : Hid (n2 ≤ 401) := by have := HBD.out; show _ ≤ _; omega
          have HB1 := hide HBD.out.1
          clear HBD
          go_wp2
          go_loopw [] (fun wr => ∃ (co : Option Addr) (n2 q : Nat) (d : Dk), Hid (DS B g h w (.slice so n1 p) (.slice co n2 q) d wr) ∧ Hid (dkIn d) ∧ Hid (n2 ≤ 401)) (fun wr => 401 - (match wr.cell? ⟨h, 1, none⟩ with | some (.slice _ n _) => n | _ => 0))
          case atStart => exact ⟨_, _, _, _, D5, HIN, HB2⟩
          case round =>
            obtain ⟨co, n2, q, d, D, HI, HB⟩ := hrel
            clear D5 HIN HB2
            obtain ⟨x0, x1, xf⟩ := cells2 D.out.var
            have hb2 := HB.out
            have HU1 := hide x1
            by_cases hn : 0 < n1
            · have hd : decide ((0 : Int) < (n1 : Int)) = true := by simpa using hn
              have hd' : decide ((n1 : Int) > 0) = true := by simpa using hn
              go_upto_region 12 with fail
              go_region_held3 (fun W => W.cell? ⟨h, 0, none⟩ = some (.slice so n1 p) ∧ W.cell? ⟨h, 1, none⟩ = some (.slice co n2 q)) (go_keep) (first | (go_at_call 35; refine (n_any g B 3 (by omega) (by omega) _ (D.out.below (Below.refl _ _).drew).src hB).mono ?_; rintro e w6 ⟨v6, rfl, hv60, hv61, hs6, hg6, hz6⟩; have D6 := hide ((D.out.below (Below.refl _ _).drew).step hs6 hg6); clear x0 x1 xf hs6 hg6 hz6; obtain ⟨x0, x1, xf⟩ := cells2 D6.out.var))
              have hw6 : IntKind.i64.wrap (399 + v6) = 399 + v6 := by rw [IntKind.wrap_i64]; omega
              clear D
              by_cases hc : (n2 : Int) < 399 + v6
              · obtain ⟨sg, rfl, cf, csz, sgh, sgl⟩ := D6.out.first hn HI.out
                obtain ⟨t0, ht0⟩ : ∃ x, x = d.secs.getD 0 ByteArray.empty := ⟨_, rfl⟩
                rw [← ht0] at cf csz
                clear ht0
                have hn0 : (0 : Int) < (n1 : Int) := by omega
                go_upto_region 13 with fail
                refine wp_region_noPanic ?_
                refine wp_region_held_drew (S := fun _ => True) (by kernel_rfl) trivial (fun _ => ?_)
                have D6' := hide (D6.out.below (Below.refl _ _).drew)
                have cf' : w6.drew.cell? ⟨sg, 0, none⟩ = some (.string t0) := cf
                have sgl' : sg < w6.drew.heap.size := sgl
                clear D6 cf sgl x0 x1 xf
                have D6 := D6'
                have cf := cf'
                have sgl := sgl'
                clear D6' cf' sgl'
                generalize w6.drew = w6 at *
                obtain ⟨x0, x1, xf⟩ := cells2 D6.out.var
                refine takeD 0 49 (v := ?vc43) rfl rfl (by kernel_rfl) (by kernel_rfl) (by kernel_rfl) (fun _ _ _ h => h) (by kernel_rfl) ?hyc43 trivial ?rc43
                case hyc43 => (intro W hSw; go_simp; try with_reducible rfl)
                simp only [Act.put, List.setIfInBounds_toArray, List.set_cons_zero, List.set_cons_succ]
                refine takeD 2 51 (v := ?vc44) rfl rfl (by kernel_rfl) (by kernel_rfl) (by kernel_rfl) (fun _ _ _ h => h) (by kernel_rfl) ?hyc44 trivial ?rc44
                case hyc44 => (intro W hSw; go_simp; try with_reducible rfl)
                simp only [Act.put, List.setIfInBounds_toArray, List.set_cons_zero, List.set_cons_succ]
                refine wpAnyH_ready (rs := [1, 3]) (by kernel_rfl) (by simp) ?_
                refine AllReadyH.cons (o := _) rfl (fun K hK => ?_) (AllReadyH.cons (o := _) rfl (fun K hK => ?_) AllReadyH.nil)
                · skip
                  go_simp
                  refine hK.out _ _ trivial (fun _ => ?_)
                  clear hK K
                  try simp only [Act.put, List.setIfInBounds_toArray, List.set_cons_zero, List.set_cons_succ]
                  refine wpAnyH_ready (rs := [3]) (by kernel_rfl) (by simp) ?_
                  refine AllReadyH.cons (o := _) rfl (fun K hK => ?_) AllReadyH.nil
                  go_simp
                  refine hK.out _ _ trivial (fun _ => ?_)
                  clear hK K
                  try simp only [Act.put, List.setIfInBounds_toArray, List.set_cons_zero, List.set_cons_succ]
                  refine takeD 4 53 (v := ?vc45) rfl rfl (by kernel_rfl) (by kernel_rfl) (by kernel_rfl) (fun _ _ _ h => h) (by kernel_rfl) ?hyc45 trivial ?rc45
                  case hyc45 => (intro W hSw; go_simp; try with_reducible rfl)
                  simp only [Act.put, List.setIfInBounds_toArray, List.set_cons_zero, List.set_cons_succ]
                  refine wpAnyH_ready (rs := [5]) (by kernel_rfl) (by simp) ?_
                  refine AllReadyH.cons (o := _) rfl (fun K hK => ?_) AllReadyH.nil
                  go_simp
                  refine hK.out _ _ trivial (fun _ => ?_)
                  clear hK K
                  try simp only [Act.put, List.setIfInBounds_toArray, List.set_cons_zero, List.set_cons_succ]
                  refine takeD 6 55 (v := ?vc46) rfl rfl (by kernel_rfl) (by kernel_rfl) (by kernel_rfl) (fun _ _ _ h => h) (by kernel_rfl) ?hyc46 trivial ?rc46
                  case hyc46 => (intro W hSw; go_simp; try with_reducible rfl)
                  simp only [Act.put, List.setIfInBounds_toArray, List.set_cons_zero, List.set_cons_succ]
                  refine wpAnyH_ready (rs := [7]) (by kernel_rfl) (by simp) ?_
                  refine AllReadyH.cons (o := _) rfl (fun K hK => ?_) AllReadyH.nil
                  go_simp
                  have ba := (Below.refl w6.heap.size w6).alloc (Nat.le_refl _) (.cells #[.int .i64 0, .string t0] 78)
                  have D7 := hide (D6.out.below ba)
                  have R7 := hide (own_wr_one w6 0 t0)
                  have Z7 := hide (Nat.le_of_lt (Nat.lt_of_le_of_lt D7.out.gap (blkS D7.out.var)))
                  have cf7 := (ba.cell (p := ⟨sg, 0, none⟩) sgl).trans cf
                  clear x0 x1 xf
                  obtain ⟨x0, x1, xf⟩ := cells2 D7.out.var
                  refine hK.out _ _ trivial (fun _ => ?_)
                  clear hK K ba cf
                  try simp only [Act.put, List.setIfInBounds_toArray, List.set_cons_zero, List.set_cons_succ]
                  generalize w6.alloc (.cells #[.int .i64 0, .string t0] 78) = W7 at *
                  generalize w6.heap.size = e7 at *
                  refine wpAnyH_ready (rs := [8]) (by kernel_rfl) (by simp) ?_
                  refine AllReadyH.cons (o := _) rfl (fun K hK => ?_) AllReadyH.nil
                  refine step_app_own rfl (.tmp 50) (.tmp 56) 24 rfl (w.heap.size + 1) e7 78 j0 (.agg #[.int .i64 0, .string ⟨#[]⟩]) 2 24 Try.underlying24 hj hy0 hy1 hy2 rfl (by decide) _ n2 _ rfl D7.out.cacheN _ 1 _ rfl R7.out (wr_one _ _) (by unfold maxLen; omega) (by omega) Z7.out ?_
                  intro v9 w9 o9 g9 l9
                  obtain ⟨ao9, cp9, hv9⟩ := own_shape' o9
                  subst hv9
                  have V9 := hide (D7.out.gput g9 D7.out.rowC).2.2.2
                  have D9 := hide (D7.out.appC (ownW_snoc o9 D7.out.len2.symm) g9 l9)
                  clear o9 g9 l9 x0 x1 xf
                  obtain ⟨x0, x1, xf⟩ := cells2 V9.out
                  refine hK.out _ _ trivial (fun _ => ?_)
                  clear hK K
                  simp only [List.getElem_toArray, List.getElem_cons_succ, List.getElem_cons_zero, Act.put, List.setIfInBounds_toArray, List.set_cons_zero, List.set_cons_succ]
                  refine takeD 9 58 (v := ?vc47) rfl rfl (by kernel_rfl) (by kernel_rfl) (by kernel_rfl) (fun _ _ _ h => h) (by kernel_rfl) ?hyc47 trivial ?rc47
                  case hyc47 => (intro W hSw; go_simp; try with_reducible rfl)
                  simp only [Act.put, List.setIfInBounds_toArray, List.set_cons_zero, List.set_cons_succ]
                  refine wpAnyH_ready (rs := [10]) (by kernel_rfl) (by simp) ?_
                  refine AllReadyH.cons (o := _) rfl (fun K hK => ?_) AllReadyH.nil
                  go_simp
                  refine hK.out _ _ trivial (fun _ => ?_)
                  clear hK K
                  try simp only [Act.put, List.setIfInBounds_toArray, List.set_cons_zero, List.set_cons_succ]
                  refine wpAnyH_done (by kernel_rfl) ?_ _
                  refine NoPanic.normal ?_
                  obtain ⟨z0, z1, zf⟩ := cells2 D9.out.var
                  go_wp2
                  go_roundw
                  case rel => exact ⟨_, _, _, _, D9, hide (in_cache HI.out ⟨by unfold wI64; simp, csz⟩), by show _ ≤ _; omega⟩
                  case measure => rw [HU1.out, z1]; show _ - (n2 + 1) < _ - n2; omega
                · skip
                  go_simp
                  refine hK.out _ _ trivial (fun _ => ?_)
                  clear hK K
                  try simp only [Act.put, List.setIfInBounds_toArray, List.set_cons_zero, List.set_cons_succ]
                  refine takeD 4 53 (v := ?vc48) rfl rfl (by kernel_rfl) (by kernel_rfl) (by kernel_rfl) (fun _ _ _ h => h) (by kernel_rfl) ?hyc48 trivial ?rc48
                  case hyc48 => (intro W hSw; go_simp; try with_reducible rfl)
                  simp only [Act.put, List.setIfInBounds_toArray, List.set_cons_zero, List.set_cons_succ]
                  refine wpAnyH_ready (rs := [1, 5]) (by kernel_rfl) (by simp) ?_
                  refine AllReadyH.cons (o := _) rfl (fun K hK => ?_) (AllReadyH.cons (o := _) rfl (fun K hK => ?_) AllReadyH.nil)
                  · skip
                    go_simp
                    refine hK.out _ _ trivial (fun _ => ?_)
                    clear hK K
                    try simp only [Act.put, List.setIfInBounds_toArray, List.set_cons_zero, List.set_cons_succ]
                    refine wpAnyH_ready (rs := [5]) (by kernel_rfl) (by simp) ?_
                    refine AllReadyH.cons (o := _) rfl (fun K hK => ?_) AllReadyH.nil
                    go_simp
                    refine hK.out _ _ trivial (fun _ => ?_)
                    clear hK K
                    try simp only [Act.put, List.setIfInBounds_toArray, List.set_cons_zero, List.set_cons_succ]
                    refine takeD 6 55 (v := ?vc49) rfl rfl (by kernel_rfl) (by kernel_rfl) (by kernel_rfl) (fun _ _ _ h => h) (by kernel_rfl) ?hyc49 trivial ?rc49
                    case hyc49 => (intro W hSw; go_simp; try with_reducible rfl)
                    simp only [Act.put, List.setIfInBounds_toArray, List.set_cons_zero, List.set_cons_succ]
                    refine wpAnyH_ready (rs := [7]) (by kernel_rfl) (by simp) ?_
                    refine AllReadyH.cons (o := _) rfl (fun K hK => ?_) AllReadyH.nil
                    go_simp
                    have ba := (Below.refl w6.heap.size w6).alloc (Nat.le_refl _) (.cells #[.int .i64 0, .string t0] 78)
                    have D7 := hide (D6.out.below ba)
                    have R7 := hide (own_wr_one w6 0 t0)
                    have Z7 := hide (Nat.le_of_lt (Nat.lt_of_le_of_lt D7.out.gap (blkS D7.out.var)))
                    have cf7 := (ba.cell (p := ⟨sg, 0, none⟩) sgl).trans cf
                    clear x0 x1 xf
                    obtain ⟨x0, x1, xf⟩ := cells2 D7.out.var
                    refine hK.out _ _ trivial (fun _ => ?_)
                    clear hK K ba cf
                    try simp only [Act.put, List.setIfInBounds_toArray, List.set_cons_zero, List.set_cons_succ]
                    generalize w6.alloc (.cells #[.int .i64 0, .string t0] 78) = W7 at *
                    generalize w6.heap.size = e7 at *
                    refine wpAnyH_ready (rs := [8]) (by kernel_rfl) (by simp) ?_
                    refine AllReadyH.cons (o := _) rfl (fun K hK => ?_) AllReadyH.nil
                    refine step_app_own rfl (.tmp 50) (.tmp 56) 24 rfl (w.heap.size + 1) e7 78 j0 (.agg #[.int .i64 0, .string ⟨#[]⟩]) 2 24 Try.underlying24 hj hy0 hy1 hy2 rfl (by decide) _ n2 _ rfl D7.out.cacheN _ 1 _ rfl R7.out (wr_one _ _) (by unfold maxLen; omega) (by omega) Z7.out ?_
                    intro v9 w9 o9 g9 l9
                    obtain ⟨ao9, cp9, hv9⟩ := own_shape' o9
                    subst hv9
                    have V9 := hide (D7.out.gput g9 D7.out.rowC).2.2.2
                    have D9 := hide (D7.out.appC (ownW_snoc o9 D7.out.len2.symm) g9 l9)
                    clear o9 g9 l9 x0 x1 xf
                    obtain ⟨x0, x1, xf⟩ := cells2 V9.out
                    refine hK.out _ _ trivial (fun _ => ?_)
                    clear hK K
                    simp only [List.getElem_toArray, List.getElem_cons_succ, List.getElem_cons_zero, Act.put, List.setIfInBounds_toArray, List.set_cons_zero, List.set_cons_succ]
                    refine takeD 9 58 (v := ?vc50) rfl rfl (by kernel_rfl) (by kernel_rfl) (by kernel_rfl) (fun _ _ _ h => h) (by kernel_rfl) ?hyc50 trivial ?rc50
                    case hyc50 => (intro W hSw; go_simp; try with_reducible rfl)
                    simp only [Act.put, List.setIfInBounds_toArray, List.set_cons_zero, List.set_cons_succ]
                    refine wpAnyH_ready (rs := [10]) (by kernel_rfl) (by simp) ?_
                    refine AllReadyH.cons (o := _) rfl (fun K hK => ?_) AllReadyH.nil
                    go_simp
                    refine hK.out _ _ trivial (fun _ => ?_)
                    clear hK K
                    try simp only [Act.put, List.setIfInBounds_toArray, List.set_cons_zero, List.set_cons_succ]
                    refine wpAnyH_done (by kernel_rfl) ?_ _
                    refine NoPanic.normal ?_
                    obtain ⟨z0, z1, zf⟩ := cells2 D9.out.var
                    go_wp2
                    go_roundw
                    case rel => exact ⟨_, _, _, _, D9, hide (in_cache HI.out ⟨by unfold wI64; simp, csz⟩), by show _ ≤ _; omega⟩
                    case measure => rw [HU1.out, z1]; show _ - (n2 + 1) < _ - n2; omega
                  · skip
                    go_simp
                    refine hK.out _ _ trivial (fun _ => ?_)
                    clear hK K
                    try simp only [Act.put, List.setIfInBounds_toArray, List.set_cons_zero, List.set_cons_succ]
                    refine takeD 6 55 (v := ?vc51) rfl rfl (by kernel_rfl) (by kernel_rfl) (by kernel_rfl) (fun _ _ _ h => h) (by kernel_rfl) ?hyc51 trivial ?rc51
                    case hyc51 => (intro W hSw; go_simp; try with_reducible rfl)
                    simp only [Act.put, List.setIfInBounds_toArray, List.set_cons_zero, List.set_cons_succ]
                    refine wpAnyH_ready (rs := [1, 7]) (by kernel_rfl) (by simp) ?_
                    refine AllReadyH.cons (o := _) rfl (fun K hK => ?_) (AllReadyH.cons (o := _) rfl (fun K hK => ?_) AllReadyH.nil)
                    · skip
                      go_simp
                      refine hK.out _ _ trivial (fun _ => ?_)
                      clear hK K
                      try simp only [Act.put, List.setIfInBounds_toArray, List.set_cons_zero, List.set_cons_succ]
                      refine wpAnyH_ready (rs := [7]) (by kernel_rfl) (by simp) ?_
                      refine AllReadyH.cons (o := _) rfl (fun K hK => ?_) AllReadyH.nil
                      go_simp
                      have ba := (Below.refl w6.heap.size w6).alloc (Nat.le_refl _) (.cells #[.int .i64 0, .string t0] 78)
                      have D7 := hide (D6.out.below ba)
                      have R7 := hide (own_wr_one w6 0 t0)
                      have Z7 := hide (Nat.le_of_lt (Nat.lt_of_le_of_lt D7.out.gap (blkS D7.out.var)))
                      have cf7 := (ba.cell (p := ⟨sg, 0, none⟩) sgl).trans cf
                      clear x0 x1 xf
                      obtain ⟨x0, x1, xf⟩ := cells2 D7.out.var
                      refine hK.out _ _ trivial (fun _ => ?_)
                      clear hK K ba cf
                      try simp only [Act.put, List.setIfInBounds_toArray, List.set_cons_zero, List.set_cons_succ]
                      generalize w6.alloc (.cells #[.int .i64 0, .string t0] 78) = W7 at *
                      generalize w6.heap.size = e7 at *
                      refine wpAnyH_ready (rs := [8]) (by kernel_rfl) (by simp) ?_
                      refine AllReadyH.cons (o := _) rfl (fun K hK => ?_) AllReadyH.nil
                      refine step_app_own rfl (.tmp 50) (.tmp 56) 24 rfl (w.heap.size + 1) e7 78 j0 (.agg #[.int .i64 0, .string ⟨#[]⟩]) 2 24 Try.underlying24 hj hy0 hy1 hy2 rfl (by decide) _ n2 _ rfl D7.out.cacheN _ 1 _ rfl R7.out (wr_one _ _) (by unfold maxLen; omega) (by omega) Z7.out ?_
                      intro v9 w9 o9 g9 l9
                      obtain ⟨ao9, cp9, hv9⟩ := own_shape' o9
                      subst hv9
                      have V9 := hide (D7.out.gput g9 D7.out.rowC).2.2.2
                      have D9 := hide (D7.out.appC (ownW_snoc o9 D7.out.len2.symm) g9 l9)
                      clear o9 g9 l9 x0 x1 xf
                      obtain ⟨x0, x1, xf⟩ := cells2 V9.out
                      refine hK.out _ _ trivial (fun _ => ?_)
                      clear hK K
                      simp only [List.getElem_toArray, List.getElem_cons_succ, List.getElem_cons_zero, Act.put, List.setIfInBounds_toArray, List.set_cons_zero, List.set_cons_succ]
                      refine takeD 9 58 (v := ?vc52) rfl rfl (by kernel_rfl) (by kernel_rfl) (by kernel_rfl) (fun _ _ _ h => h) (by kernel_rfl) ?hyc52 trivial ?rc52
                      case hyc52 => (intro W hSw; go_simp; try with_reducible rfl)
                      simp only [Act.put, List.setIfInBounds_toArray, List.set_cons_zero, List.set_cons_succ]
                      refine wpAnyH_ready (rs := [10]) (by kernel_rfl) (by simp) ?_
                      refine AllReadyH.cons (o := _) rfl (fun K hK => ?_) AllReadyH.nil
                      go_simp
                      refine hK.out _ _ trivial (fun _ => ?_)
                      clear hK K
                      try simp only [Act.put, List.setIfInBounds_toArray, List.set_cons_zero, List.set_cons_succ]
                      refine wpAnyH_done (by kernel_rfl) ?_ _
                      refine NoPanic.normal ?_
                      obtain ⟨z0, z1, zf⟩ := cells2 D9.out.var
                      go_wp2
                      go_roundw
                      case rel => exact ⟨_, _, _, _, D9, hide (in_cache HI.out ⟨by unfold wI64; simp, csz⟩), by show _ ≤ _; omega⟩
                      case measure => rw [HU1.out, z1]; show _ - (n2 + 1) < _ - n2; omega
                    · skip
                      go_simp
                      have ba := (Below.refl w6.heap.size w6).alloc (Nat.le_refl _) (.cells #[.int .i64 0, .string t0] 78)
                      have D7 := hide (D6.out.below ba)
                      have R7 := hide (own_wr_one w6 0 t0)
                      have Z7 := hide (Nat.le_of_lt (Nat.lt_of_le_of_lt D7.out.gap (blkS D7.out.var)))
                      have cf7 := (ba.cell (p := ⟨sg, 0, none⟩) sgl).trans cf
                      clear x0 x1 xf
                      obtain ⟨x0, x1, xf⟩ := cells2 D7.out.var
                      refine hK.out _ _ trivial (fun _ => ?_)
                      clear hK K ba cf
                      try simp only [Act.put, List.setIfInBounds_toArray, List.set_cons_zero, List.set_cons_succ]
                      generalize w6.alloc (.cells #[.int .i64 0, .string t0] 78) = W7 at *
                      generalize w6.heap.size = e7 at *
                      refine wpAnyH_ready (rs := [1]) (by kernel_rfl) (by simp) ?_
                      refine AllReadyH.cons (o := _) rfl (fun K hK => ?_) AllReadyH.nil
                      go_simp
                      refine hK.out _ _ trivial (fun _ => ?_)
                      clear hK K
                      try simp only [Act.put, List.setIfInBounds_toArray, List.set_cons_zero, List.set_cons_succ]
                      refine wpAnyH_ready (rs := [8]) (by kernel_rfl) (by simp) ?_
                      refine AllReadyH.cons (o := _) rfl (fun K hK => ?_) AllReadyH.nil
                      refine step_app_own rfl (.tmp 50) (.tmp 56) 24 rfl (w.heap.size + 1) e7 78 j0 (.agg #[.int .i64 0, .string ⟨#[]⟩]) 2 24 Try.underlying24 hj hy0 hy1 hy2 rfl (by decide) _ n2 _ rfl D7.out.cacheN _ 1 _ rfl R7.out (wr_one _ _) (by unfold maxLen; omega) (by omega) Z7.out ?_
                      intro v9 w9 o9 g9 l9
                      obtain ⟨ao9, cp9, hv9⟩ := own_shape' o9
                      subst hv9
                      have V9 := hide (D7.out.gput g9 D7.out.rowC).2.2.2
                      have D9 := hide (D7.out.appC (ownW_snoc o9 D7.out.len2.symm) g9 l9)
                      clear o9 g9 l9 x0 x1 xf
                      obtain ⟨x0, x1, xf⟩ := cells2 V9.out
                      refine hK.out _ _ trivial (fun _ => ?_)
                      clear hK K
                      simp only [List.getElem_toArray, List.getElem_cons_succ, List.getElem_cons_zero, Act.put, List.setIfInBounds_toArray, List.set_cons_zero, List.set_cons_succ]
                      refine takeD 9 58 (v := ?vc53) rfl rfl (by kernel_rfl) (by kernel_rfl) (by kernel_rfl) (fun _ _ _ h => h) (by kernel_rfl) ?hyc53 trivial ?rc53
                      case hyc53 => (intro W hSw; go_simp; try with_reducible rfl)
                      simp only [Act.put, List.setIfInBounds_toArray, List.set_cons_zero, List.set_cons_succ]
                      refine wpAnyH_ready (rs := [10]) (by kernel_rfl) (by simp) ?_
                      refine AllReadyH.cons (o := _) rfl (fun K hK => ?_) AllReadyH.nil
                      go_simp
                      refine hK.out _ _ trivial (fun _ => ?_)
                      clear hK K
                      try simp only [Act.put, List.setIfInBounds_toArray, List.set_cons_zero, List.set_cons_succ]
                      refine wpAnyH_done (by kernel_rfl) ?_ _
                      refine NoPanic.normal ?_
                      obtain ⟨z0, z1, zf⟩ := cells2 D9.out.var
                      go_wp2
                      go_roundw
                      case rel => exact ⟨_, _, _, _, D9, hide (in_cache HI.out ⟨by unfold wI64; simp, csz⟩), by show _ ≤ _; omega⟩
                      case measure => rw [HU1.out, z1]; show _ - (n2 + 1) < _ - n2; omega
              · clear HU1
                try clear x0 x1 xf
                try clear r0 r1 rf
                obtain ⟨x0, x1, xf⟩ := cells2 D6.out.var
                obtain ⟨r0, r1, rf⟩ := cells2 D6.out.res
                have HL1 := hide HB1.out
                go_wp2
                have F := D6.out.fin
                have F1 := fits_of (d := d) (by have := D6.out.len1; have := HL1.out; omega) (by have := D6.out.len2; have := HB.out; omega)
                first | refine bodyPost_ret (resDisk Try.results34 _ _ w.heap.size _ _ rfl F.1) rfl ?_ | fail "FINSTATE"
                first | exact ⟨_, _, rfl, d, F.2.1.base (Nat.le_succ _), HI.out, F1, F.2.2⟩ | exact ⟨_, _, d, rfl, F.2.1.base (Nat.le_succ _), HI.out, F1, F.2.2⟩
            · have hd : decide ((0 : Int) < (n1 : Int)) = false := by simpa using hn
              have hd' : decide ((n1 : Int) > 0) = false := by simpa using hn
              clear HU1
              go_upto_region 12 with fail
              refine wp_region_noPanic ?_
              refine wp_region_held_drew (S := fun W => W.heap[h]? = some (.cells #[.slice so n1 p, .slice co n2 q] 26 (0, 0))) (by kernel_rfl) D.out.var (fun hS1 => ?_)
              refine takeD 0 36 (v := ?vc54) rfl rfl (by kernel_rfl) (by kernel_rfl) (by kernel_rfl) (fun _ _ _ h => h) (by kernel_rfl) ?hyc54 (by assumption) ?rc54
              case hyc54 => (intro W hSw; obtain ⟨x0, x1, xf⟩ := cells2 hSw; go_simp; try with_reducible rfl)
              simp only [Act.put, List.setIfInBounds_toArray, List.set_cons_zero, List.set_cons_succ]
              refine takeD 1 37 (v := ?vc55) rfl rfl (by kernel_rfl) (by kernel_rfl) (by kernel_rfl) (fun _ _ _ h => h) (by kernel_rfl) ?hyc55 (by assumption) ?rc55
              case hyc55 => (intro W hSw; obtain ⟨x0, x1, xf⟩ := cells2 hSw; go_simp; try with_reducible rfl)
              simp only [Act.put, List.setIfInBounds_toArray, List.set_cons_zero, List.set_cons_succ]
              refine takeD 2 38 (v := ?vc56) rfl rfl (by kernel_rfl) (by kernel_rfl) (by kernel_rfl) (fun _ _ _ h => h) (by kernel_rfl) ?hyc56 (by assumption) ?rc56
              case hyc56 => (intro W hSw; obtain ⟨x0, x1, xf⟩ := cells2 hSw; go_simp; try with_reducible rfl)
              simp only [Act.put, List.setIfInBounds_toArray, List.set_cons_zero, List.set_cons_succ]
              refine takeD 3 39 (v := ?vc57) rfl rfl (by kernel_rfl) (by kernel_rfl) (by kernel_rfl) (fun _ _ _ h => h) (by kernel_rfl) ?hyc57 (by assumption) ?rc57
              case hyc57 => (intro W hSw; obtain ⟨x0, x1, xf⟩ := cells2 hSw; go_simp; try with_reducible rfl)
              simp only [Act.put, List.setIfInBounds_toArray, List.set_cons_zero, List.set_cons_succ]
              refine takeD 4 40 (v := ?vc58) rfl rfl (by kernel_rfl) (by kernel_rfl) (by kernel_rfl) (fun _ _ _ h => h) (by kernel_rfl) ?hyc58 (by assumption) ?rc58
              case hyc58 => (intro W hSw; obtain ⟨x0, x1, xf⟩ := cells2 hSw; go_simp; try with_reducible rfl)
              simp only [Act.put, List.setIfInBounds_toArray, List.set_cons_zero, List.set_cons_succ]
              refine skipAll [(5, 41), (6, 42), (7, 43), (8, 44), (9, 45), (10, 46), (11, 47)] (by kernel_rfl) (fun _ _ _ _ _ h => h) (by assumption) (by kernel_rfl) ?_
              simp only [putAll, listAll, List.foldl_cons, List.foldl_nil, Act.put, List.setIfInBounds_toArray, List.set_cons_zero, List.set_cons_succ]
              refine takeD 12 48 (v := ?vc59) rfl rfl (by kernel_rfl) (by kernel_rfl) (by kernel_rfl) (fun _ _ _ h => h) (by kernel_rfl) ?hyc59 (by assumption) ?rc59
              case hyc59 => (intro W hSw; obtain ⟨x0, x1, xf⟩ := cells2 hSw; go_simp; try with_reducible rfl)
              simp only [Act.put, List.setIfInBounds_toArray, List.set_cons_zero, List.set_cons_succ]
              refine wpAnyH_done (by kernel_rfl) ?_ _
              refine NoPanic.normal ?_
              have D6 := hide (D.out.below (Below.refl _ _).drew)
              clear D hS1 x0 x1 xf
              generalize wr.drew = w6 at *
              try clear x0 x1 xf
              try clear r0 r1 rf
              obtain ⟨x0, x1, xf⟩ := cells2 D6.out.var
              obtain ⟨r0, r1, rf⟩ := cells2 D6.out.res
              have HL1 := hide HB1.out
              go_wp2
              have F := D6.out.fin
              have F1 := fits_of (d := d) (by have := D6.out.len1; have := HL1.out; omega) (by have := D6.out.len2; have := HB.out; omega)
              first | refine bodyPost_ret (resDisk Try.results34 _ _ w.heap.size _ _ rfl F.1) rfl ?_ | fail "FINSTATE"
              first | exact ⟨_, _, rfl, d, F.2.1.base (Nat.le_succ _), HI.out, F1, F.2.2⟩ | exact ⟨_, _, d, rfl, F.2.1.base (Nat.le_succ _), HI.out, F1, F.2.2⟩
end Go.Proofs.Ythglidcfbdigiaa
