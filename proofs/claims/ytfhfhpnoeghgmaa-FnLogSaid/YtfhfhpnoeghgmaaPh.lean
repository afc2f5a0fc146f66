/-
  Contracts and plain laws, part 8 of 12: LgDraw, LgDrRd, DrawSl, RcM, InI, FaultV, Jumps, ReadNum, OutN, GetDef, GetText, OutT, GetDefT, RdSt
-/
import Derived.Test.YtfhfhpnoeghgmaaRows
import Derived.WalkKit
import Derived.Scope
import Derived.WalkMore
import Derived.Outline
import Derived.Test.YtfhfhpnoeghgmaaPg

/-
  Contract: the disk with records that is drawn (l08Logged). Written by gen_lgdraw.py.
-/
namespace Go.Proofs.Ytfhfhpnoeghgmaa
open Go.RowKit
set_option maxRecDepth 100000

theorem resLgD {fn : Func} {p q : Tmp} (h : fn.results = #[.cell p 26, .tmp q]) (tmps : Array Value) (w : World) (g : Nat) (x y u : Value) (hp : tmps.getD p undef = .pointer (some ⟨g, 0, none⟩)) (hq : tmps.getD q undef = u)
    (hg : w.heap[g]? = some (.cells #[x, y] 26 (0, 0))) : (results fn tmps).run Try.prog w = .ok (.tuple #[.agg #[x, y], u]) w := by
  have hp' : tmps[p]?.getD undef = .pointer (some ⟨g, 0, none⟩) := by simpa using hp
  have hc' : tmps[q]?.getD undef = u := by simpa using hq
  have hl := run_loadVar_row (P := Try.prog) w g 26 26 #[x, y] (0, 0) _ hg Try.underlying26 rfl (by kernel_rfl)
  simp [results, h, hp', hc', asAddr, hl]
theorem app_right (d : Dk) (a q : Int) (t : ByteArray) : (dkApp d a q t).2 = 0 → dkRight (dkApp d a q t).1 = true := fun h => by
  cases hr : recRight q t with
  | false => rw [dkApp_no hr] at h; cases h
  | true => rw [dkApp_yes hr] at h ⊢; exact write_right d a _ h
theorem crash_right {d : Dk} (kl : List Bool) (hr : dkRight d = true) (hk : kl.length ≤ 400) : dkRight (dkCrash d kl) = true := by
  rw [dkCrash_y (by omega) hr]
  exact flushed_r (kept_right kl hr)
set_option maxHeartbeats 8000000 in
theorem l08Logged_any (g B : Nat) (w : World) (hs : Src w B g) (hB : B ≤ g) :
    Calls Try.prog 51 #[.pointer (some ⟨g, 0, none⟩)] w fun e w' => ∃ (s c : Value) (d : Dk) (a : Nat), e = .returned (.tuple #[.agg #[s, c], .int .i64 a]) ∧ a ≤ 3 ∧ OwnD w.heap.size s c d w' ∧ dkRight d = true ∧ Src w' B g ∧ w.grownBy w' (some g) := by
  have hlt := hs.lt
  have HS : Hid (Src w B g) := hs
  clear hs
  go_enter Try.func51, Try.ntmps51
  go_wp2_with fail
  refine (n_any g B 12 (by omega) (by omega) _ ((HS.out).kept ((Below.refl _ _).alloc (by omega) _) (Below.heap_alloc _ _ _ hlt)) hB).mono ?_
  rintro e w1 ⟨v, rfl, hv0, hv1, hs1, hg1, hz1⟩
  have R1 : Hid (w1.heap[w.heap.size]? = some (.cells #[.slice none 0 0, .slice none 0 0] 26 (0, 0))) := (hg1.block w.heap.size (by simp) (fun e => by simp at e; omega)).trans (heap_alloc_new w _)
  have G1 : Hid (w.grownBy w1 (some g)) := grown_trans (grown_alloc (grown_self w g) _) hg1 (fun j hj => .inl (by simpa using hj.symm))
  have S1 := hide hs1
  have hwv : IntKind.i64.wrap (3 + v) = 3 + v := by rw [IntKind.wrap_i64]; omega
  clear hs1 hg1 hz1 HS
  go_wp2_with fail
  refine (specDiskNew_any (3 + v) _).mono ?_
  rintro e w2 ⟨s0, c0, rfl, o2, b2⟩
  have HR0 := hide (new_right (3 + v))
  generalize dkNew (3 + v) = d0 at *
  obtain ⟨so0, n10, p0, co0, n20, q0, rfl, rfl, hn⟩ := o2.shp
  have D2 := hide (DS.start (S1.out.kept (b2.mono (by have := blkS R1.out; omega)) (b2.block g (by have := blkS R1.out; omega))) (grown_trans G1.out (grownBelow (some g) b2) (fun j hj => .inl (by simpa using hj.symm))) ((b2.block _ (blkS R1.out)).trans R1.out) hlt hB (o2.base (blkS R1.out)))
  clear o2 b2 R1 G1 S1 hn
  go_wp2_with fail
  refine (n_any g B 3 (by omega) (by omega) _ D2.out.src hB).mono ?_
  rintro e w3 ⟨a0, rfl, ha0, ha1, hs3, hg3, hz3⟩
  have D3 := hide (D2.out.step hs3 hg3)
  obtain ⟨a0, rfl⟩ := Int.eq_ofNat_of_zero_le ha0
  have HA0 : Hid (a0 ≤ 3) := by show _ ≤ _; omega
  clear hs3 hg3 hz3 D2 ha0 ha1 hwv
  generalize w2.heap.size = h at *
  go_wp2
  go_loopw [5, 7] (fun i1 i2 wr => ∃ (a k : Nat) (so : Option Addr) (n1 p : Nat) (co : Option Addr) (n2 q : Nat) (d : Dk), a ≤ 200 * k ∧ 1 ≤ k ∧ k ≤ 6 ∧ i1 = .int .i64 a ∧ i2 = .int .i64 k ∧ Hid (DS B g h w (.slice so n1 p) (.slice co n2 q) d wr) ∧ Hid (dkRight d = true)) (fun _ i2 _ => 6 - (intOf i2).toNat)
  case atStart => exact ⟨a0, 1, _, _, _, _, _, _, _, by have := HA0.out; omega, by omega, by omega, rfl, rfl, D3, HR0⟩
  case round =>
    obtain ⟨a, k, so, n1, p, co, n2, q, d, ha, hk1, hk6, rfl, rfl, D, HR⟩ := hrel
    clear D3 HR0
    go_wp2_with fail
    refine (n_any g B 5 (by omega) (by omega) _ D.out.src hB).mono ?_
    rintro e w4 ⟨v4, rfl, hv40, hv41, hs4, hg4, hz4⟩
    have D4 := hide (D.out.step hs4 hg4)
    have hw4 : IntKind.i64.wrap (1 + v4) = 1 + v4 := by rw [IntKind.wrap_i64]; omega
    clear hs4 hg4 hz4 D
    by_cases hc : (k : Int) ≤ 1 + v4
    · have hk5 : k ≤ 5 := by omega
      have HK5 := hide hk5
      have HAK := hide (And.intro ha hk1)
      clear hk6 ha
      go_wp2_with fail
      refine (one_any g B 8 (by omega) (by omega) _ D4.out.src hB).mono ?_
      rintro e w5 ⟨bo, rfl, hs5, hg5, hz5⟩
      have D5 := hide (D4.out.step hs5 hg5)
      have hwk : IntKind.i64.wrap ((k : Int) + 1) = (k : Int) + 1 := by rw [IntKind.wrap_i64]; omega
      clear hs5 hg5 hz5 D4 hc hw4 hv40 hv41
      cases bo with
      | true =>
        obtain ⟨X, hX⟩ : ∃ X : Int, X = (k : Int) + 1 := ⟨_, rfl⟩
        have HX : Hid (wI64 X) := by show _ ∧ _; rw [hX]; omega
        go_upto_region 10 with fail
        rw [← hX]
        clear hX
        go_wp2_with fail
        refine (n_any g B 80 (by omega) (by omega) _ D5.out.src hB).mono ?_
        rintro e w6 ⟨v6, rfl, hv60, hv61, hs6, hg6, hz6⟩
        have D6 := hide (D5.out.step hs6 hg6)
        obtain ⟨v6, rfl⟩ := Int.eq_ofNat_of_zero_le hv60
        clear hs6 hg6 hz6 D5
        go_wp2_with fail
        refine (bytes_any g B v6 (by omega) _ D6.out.src hB).mono ?_
        rintro e w7 ⟨t, rfl, ht, hs7, hg7⟩
        have D7 := hide (D6.out.step hs7 hg7)
        have ba := (Below.refl w7.heap.size w7).alloc (Nat.le_refl _) (.cells #[.int .i64 X, .string t] 34)
        have D8 := hide (D7.out.below ba)
        have R8 := hide (heap_alloc_new w7 (.cells #[.int .i64 X, .string t] 34))
        have Z8 : Hid (h < w7.heap.size) := blkS D7.out.var
        clear hs7 hg7 ba D6 D7 hv60 hv61 ht
        go_upto_region 11 with fail
        generalize w7.alloc (.cells #[.int .i64 X, .string t] 34) = w8 at *
        generalize w7.heap.size = r8 at *
        obtain ⟨x0, x1, xf⟩ := cells2 D8.out.var
        obtain ⟨r0, r1, rf⟩ := cells2 R8.out
        go_wp2_with fail
        have KR := hide (app_right d (a : Int) X t)
        refine (specLogAppend_any _ _ _ d (a : Int) X t _ (right_inn HR.out) (right_fits HR.out) (by unfold wI64; have := HAK.out; have := HK5.out; omega) HX.out D8.out.own).mono ?_
        generalize dkApp d (a : Int) X t = RR at *
        obtain ⟨DD, KK⟩ := RR
        simp only at *
        rintro e w9 ⟨s9, c9, rfl, o9, b9⟩
        obtain ⟨so9, m1, p9, co9, m2, q9, rfl, rfl, hm9⟩ := o9.shp
        have ba := (Below.refl w9.heap.size w9).alloc (Nat.le_refl _) (.cells #[.slice so9 m1 p9, .slice co9 m2 q9, .string ⟨#[]⟩, .int .i64 KK] 37)
        have bb := b9.trans (ba.mono b9.size)
        have D9 := hide (D8.out.below bb)
        have R9 := hide ((bb.block _ (blkS R8.out)).trans R8.out)
        have Y9 := hide (heap_alloc_new w9 (.cells #[.slice so9 m1 p9, .slice co9 m2 q9, .string ⟨#[]⟩, .int .i64 KK] 37))
        have F9 := hide (own_above o9 (blkS D8.out.var))
        have O9 := hide ((o9.below ba).base (base' := w.heap.size + 1) (by have := blkS D8.out.var; have := D8.out.gap; omega))
        have Z9 : Hid (h < w9.heap.size) := blkS ((b9.block _ (blkS D8.out.var)).trans D8.out.var)
        clear hm9 ba bb b9 o9 D8 R8 x0 x1 xf r0 r1 rf
        go_upto_region 12 with fail
        generalize w9.alloc (.cells #[.slice so9 m1 p9, .slice co9 m2 q9, .string ⟨#[]⟩, .int .i64 KK] 37) = w10 at *
        generalize w9.heap.size = z9 at *
        obtain ⟨x0, x1, xf⟩ := cells2 D9.out.var
        obtain ⟨y0, y1, y2, y3, yf⟩ := cells4 Y9.out
        by_cases hK : KK = 0
        · subst hK
          have hrz : r8 ≠ h := Nat.ne_of_gt Z8.out
          have D10 := hide (D9.out.put O9.out F9.out)
          have R10 : Hid (((w10.setCell ⟨h, 0, none⟩ (.slice so9 m1 p9)).setCell ⟨h, 1, none⟩ (.slice co9 m2 q9)).heap[r8]? = some (.cells #[.int .i64 X, .string t] 34 (0, 0))) := by show _ = _; rw [heap_setCell_other _ _ _ _ (show r8 ≠ h from hrz), heap_setCell_other _ _ _ _ (show r8 ≠ h from hrz)]; exact R9.out
          have HR2 := hide (KR.out rfl)
          go_upto_region 14 with fail
          generalize (w10.setCell ⟨h, 0, none⟩ (.slice so9 m1 p9)).setCell ⟨h, 1, none⟩ (.slice co9 m2 q9) = w11 at *
          clear D9 R9 Y9 O9 F9 KR x0 x1 xf y0 y1 y2 y3 yf
          obtain ⟨r0, r1, rf⟩ := cells2 R10.out
          go_wp2_with fail
          refine (specRecordBytes_any X t _ HX.out).mono ?_
          rintro e w12 ⟨rfl, b12⟩
          have D12 := hide (D10.out.below b12)
          have hsz := recBytes_len X t
          generalize recBytes X t = RB at *
          obtain ⟨mm, hmm⟩ : ∃ m : Nat, m = many RB := ⟨_, rfl⟩
          have hm100 : mm ≤ 100 := by rw [hmm]; unfold many; omega
          have HE1 : ((RB.size : Int) + 64 - 1) / 64 = (mm : Int) := by rw [hmm]; unfold many; omega
          have hwa : IntKind.i64.wrap ((a : Int) + (mm : Int)) = ((a + mm : Nat) : Int) := by have := HAK.out; have := HK5.out; rw [IntKind.wrap_i64]; omega
          clear b12 D10 R10 r0 r1 rf hmm
          go_wp2
          go_roundw
          case rel => exact ⟨a + mm, k + 1, _, _, _, _, _, _, _, by have := HAK.out; omega, by omega, by have := HK5.out; omega, by go_num, by go_num, D12, HR2⟩
          case measure => have := HK5.out; simp [intOf]; omega
        · have hK0 : (KK == 0) = false := by simpa using hK
          go_wp2
          go_roundw
          case rel => exact ⟨a, k + 1, _, _, _, _, _, _, _, by have := HAK.out; omega, by omega, by have := HK5.out; omega, rfl, by go_num, D9, HR⟩
          case measure => have := HK5.out; simp [intOf]; omega
      | false =>
        have HX : Hid (wI64 (k : Int)) := by show _ ∧ _; omega
        go_upto_region 10 with fail
        go_wp2_with fail
        refine (n_any g B 80 (by omega) (by omega) _ D5.out.src hB).mono ?_
        rintro e w6 ⟨v6, rfl, hv60, hv61, hs6, hg6, hz6⟩
        have D6 := hide (D5.out.step hs6 hg6)
        obtain ⟨v6, rfl⟩ := Int.eq_ofNat_of_zero_le hv60
        clear hs6 hg6 hz6 D5
        go_wp2_with fail
        refine (bytes_any g B v6 (by omega) _ D6.out.src hB).mono ?_
        rintro e w7 ⟨t, rfl, ht, hs7, hg7⟩
        have D7 := hide (D6.out.step hs7 hg7)
        have ba := (Below.refl w7.heap.size w7).alloc (Nat.le_refl _) (.cells #[.int .i64 (k : Int), .string t] 34)
        have D8 := hide (D7.out.below ba)
        have R8 := hide (heap_alloc_new w7 (.cells #[.int .i64 (k : Int), .string t] 34))
        have Z8 : Hid (h < w7.heap.size) := blkS D7.out.var
        clear hs7 hg7 ba D6 D7 hv60 hv61 ht
        go_upto_region 11 with fail
        generalize w7.alloc (.cells #[.int .i64 (k : Int), .string t] 34) = w8 at *
        generalize w7.heap.size = r8 at *
        obtain ⟨x0, x1, xf⟩ := cells2 D8.out.var
        obtain ⟨r0, r1, rf⟩ := cells2 R8.out
        go_wp2_with fail
        have KR := hide (app_right d (a : Int) (k : Int) t)
        refine (specLogAppend_any _ _ _ d (a : Int) (k : Int) t _ (right_inn HR.out) (right_fits HR.out) (by unfold wI64; have := HAK.out; have := HK5.out; omega) HX.out D8.out.own).mono ?_
        generalize dkApp d (a : Int) (k : Int) t = RR at *
        obtain ⟨DD, KK⟩ := RR
        simp only at *
        rintro e w9 ⟨s9, c9, rfl, o9, b9⟩
        obtain ⟨so9, m1, p9, co9, m2, q9, rfl, rfl, hm9⟩ := o9.shp
        have ba := (Below.refl w9.heap.size w9).alloc (Nat.le_refl _) (.cells #[.slice so9 m1 p9, .slice co9 m2 q9, .string ⟨#[]⟩, .int .i64 KK] 37)
        have bb := b9.trans (ba.mono b9.size)
        have D9 := hide (D8.out.below bb)
        have R9 := hide ((bb.block _ (blkS R8.out)).trans R8.out)
        have Y9 := hide (heap_alloc_new w9 (.cells #[.slice so9 m1 p9, .slice co9 m2 q9, .string ⟨#[]⟩, .int .i64 KK] 37))
        have F9 := hide (own_above o9 (blkS D8.out.var))
        have O9 := hide ((o9.below ba).base (base' := w.heap.size + 1) (by have := blkS D8.out.var; have := D8.out.gap; omega))
        have Z9 : Hid (h < w9.heap.size) := blkS ((b9.block _ (blkS D8.out.var)).trans D8.out.var)
        clear hm9 ba bb b9 o9 D8 R8 x0 x1 xf r0 r1 rf
        go_upto_region 12 with fail
        generalize w9.alloc (.cells #[.slice so9 m1 p9, .slice co9 m2 q9, .string ⟨#[]⟩, .int .i64 KK] 37) = w10 at *
        generalize w9.heap.size = z9 at *
        obtain ⟨x0, x1, xf⟩ := cells2 D9.out.var
        obtain ⟨y0, y1, y2, y3, yf⟩ := cells4 Y9.out
        by_cases hK : KK = 0
        · subst hK
          have hrz : r8 ≠ h := Nat.ne_of_gt Z8.out
          have D10 := hide (D9.out.put O9.out F9.out)
          have R10 : Hid (((w10.setCell ⟨h, 0, none⟩ (.slice so9 m1 p9)).setCell ⟨h, 1, none⟩ (.slice co9 m2 q9)).heap[r8]? = some (.cells #[.int .i64 (k : Int), .string t] 34 (0, 0))) := by show _ = _; rw [heap_setCell_other _ _ _ _ (show r8 ≠ h from hrz), heap_setCell_other _ _ _ _ (show r8 ≠ h from hrz)]; exact R9.out
          have HR2 := hide (KR.out rfl)
          go_upto_region 14 with fail
          generalize (w10.setCell ⟨h, 0, none⟩ (.slice so9 m1 p9)).setCell ⟨h, 1, none⟩ (.slice co9 m2 q9) = w11 at *
          clear D9 R9 Y9 O9 F9 KR x0 x1 xf y0 y1 y2 y3 yf
          obtain ⟨r0, r1, rf⟩ := cells2 R10.out
          go_wp2_with fail
          refine (specRecordBytes_any (k : Int) t _ HX.out).mono ?_
          rintro e w12 ⟨rfl, b12⟩
          have D12 := hide (D10.out.below b12)
          have hsz := recBytes_len (k : Int) t
          generalize recBytes (k : Int) t = RB at *
          obtain ⟨mm, hmm⟩ : ∃ m : Nat, m = many RB := ⟨_, rfl⟩
          have hm100 : mm ≤ 100 := by rw [hmm]; unfold many; omega
          have HE1 : ((RB.size : Int) + 64 - 1) / 64 = (mm : Int) := by rw [hmm]; unfold many; omega
          have hwa : IntKind.i64.wrap ((a : Int) + (mm : Int)) = ((a + mm : Nat) : Int) := by have := HAK.out; have := HK5.out; rw [IntKind.wrap_i64]; omega
          clear b12 D10 R10 r0 r1 rf hmm
          go_wp2
          go_roundw
          case rel => exact ⟨a + mm, k + 1, _, _, _, _, _, _, _, by have := HAK.out; omega, by omega, by have := HK5.out; omega, by go_num, by go_num, D12, HR2⟩
          case measure => have := HK5.out; simp [intOf]; omega
        · have hK0 : (KK == 0) = false := by simpa using hK
          go_wp2
          go_roundw
          case rel => exact ⟨a, k + 1, _, _, _, _, _, _, _, by have := HAK.out; omega, by omega, by have := HK5.out; omega, rfl, by go_num, D9, HR⟩
          case measure => have := HK5.out; simp [intOf]; omega
    · have hcf : decide ((k : Int) ≤ 1 + v4) = false := by simpa using hc
      clear hk6 ha
      obtain ⟨x0, x1, xf⟩ := cells2 D4.out.var
      go_wp2_with fail
      refine (one_any g B 2 (by omega) (by omega) _ D4.out.src hB).mono ?_
      rintro e w5 ⟨b5, rfl, hs5, hg5, hz5⟩
      have D5 := hide (D4.out.step hs5 hg5)
      clear hs5 hg5 hz5 D4 x0 x1 xf hc hw4
      cases b5 with
      | true =>
        obtain ⟨x0, x1, xf⟩ := cells2 D5.out.var
        go_wp2_with fail
        refine (specDiskFlush_any _ _ _ d _ (right_inn HR.out) (right_fits HR.out) D5.out.own).mono ?_
        have HR2 := hide (flush_right HR.out)
        generalize dkFlush d = d6 at *
        rintro e w6 ⟨s6, c6, rfl, o6, b6⟩
        obtain ⟨so6, m1, p6, co6, m2, q6, rfl, rfl, hm6⟩ := o6.shp
        have D6 := hide (D5.out.below b6)
        have F6 := hide (own_above o6 (blkS D5.out.var))
        have D7 := hide (D6.out.put (o6.base (base' := w.heap.size + 1) (by have := blkS D5.out.var; have := D5.out.gap; omega)) F6.out)
        clear x0 x1 xf
        obtain ⟨x0, x1, xf⟩ := cells2 D6.out.var
        clear b6 o6 hm6 D5
        go_upto_region 17 with fail
        generalize (w6.setCell ⟨h, 0, none⟩ (.slice so6 m1 p6)).setCell ⟨h, 1, none⟩ (.slice co6 m2 q6) = w7 at *
        clear D6 F6 x0 x1 xf
        go_wp2_with fail
        refine (one_any g B 5 (by omega) (by omega) _ D7.out.src hB).mono ?_
        rintro e wA ⟨bA, rfl, hsA, hgA, hzA⟩
        have DA := hide (D7.out.step hsA hgA)
        clear hsA hgA hzA D7
        cases bA with
        | true =>
          go_upto_region 18 with fail
          refine wp_region_noPanic ?_
          refine wp_region_held_drew (S := fun _ => True) (by kernel_rfl) trivial (fun hS1 => ?_)
          have DB := hide (DA.out.below (Below.refl _ _).drew)
          clear DA hS1
          generalize wA.drew = WB at *
          refine takeD 1 60 (v := ?vtD7) rfl rfl (by kernel_rfl) (by kernel_rfl) (by kernel_rfl) (fun _ _ _ h => h) (by kernel_rfl) ?hytD7 trivial ?rtD7
          case hytD7 => (intro W hSw; go_simp; try with_reducible rfl)
          try simp only [Act.put, List.setIfInBounds_toArray, List.set_cons_zero, List.set_cons_succ]
          refine wpAnyH_ready (rs := [0, 2]) (by kernel_rfl) (by simp) ?_
          refine AllReadyH.cons (o := _) rfl (fun K hK => ?_) (AllReadyH.cons (o := _) rfl (fun K hK => ?_) AllReadyH.nil)
          · obtain ⟨x0, x1, xf⟩ := cells2 DB.out.var
            go_simp
            refine hK.out _ _ trivial (fun _ => ?_)
            clear hK K x0 x1 xf
            try simp only [Act.put, List.setIfInBounds_toArray, List.set_cons_zero, List.set_cons_succ]
            refine wpAnyH_ready (rs := [2]) (by kernel_rfl) (by simp) ?_
            refine AllReadyH.cons (o := _) rfl (fun K hK => ?_) AllReadyH.nil
            go_simp
            go_at_call 98; refine (l07Keep_any g B 12 (by omega) _ DB.out.src hB).mono ?_
            rintro e WC ⟨vk, kl, rfl, ok, hkl, hsC, hgC⟩
            have DC := hide (DB.out.step hsC hgC)
            have OK := hide ok
            have HKL := hide hkl
            obtain ⟨ak, ck, hvk⟩ := ownL_sh ok
            subst hvk
            clear ok hkl hsC hgC
            go_wp2_with fail
            refine hK.out _ _ trivial (fun _ => ?_)
            clear hK K
            try simp only [Act.put, List.setIfInBounds_toArray, List.set_cons_zero, List.set_cons_succ]
            refine wpAnyH_ready (rs := [3]) (by kernel_rfl) (by simp) ?_
            refine AllReadyH.cons (o := _) rfl (fun K hK => ?_) AllReadyH.nil
            go_simp
            go_at_call 38; refine (specDiskCrash_any _ _ _ _ _ d6 kl _ (right_inn HR2.out) (right_fits HR2.out) (by have := HKL.out; omega) DC.out.own OK.out).mono ?_
            have HRC := hide (crash_right kl HR2.out (by have := HKL.out; omega))
            generalize dkCrash d6 kl = dC at *
            rintro e WD ⟨sD, cD, rfl, oD, bD⟩
            obtain ⟨soD, l1, pD, coD, l2, qD, rfl, rfl, hmD⟩ := oD.shp
            have DD := hide (DC.out.below bD)
            have FD := hide (own_above oD (blkS DC.out.var))
            have DE := hide (DD.out.put (oD.base (base' := w.heap.size + 1) (by have := blkS DC.out.var; have := DC.out.gap; omega)) FD.out)
            clear bD hmD oD OK
            go_wp2_with fail
            refine hK.out _ _ trivial (fun _ => ?_)
            clear hK K
            try simp only [Act.put, List.setIfInBounds_toArray, List.set_cons_zero, List.set_cons_succ]
            refine wpAnyH_ready (rs := [4]) (by kernel_rfl) (by simp) ?_
            refine AllReadyH.cons (o := _) rfl (fun K hK => ?_) AllReadyH.nil
            obtain ⟨x0, x1, xf⟩ := cells2 DD.out.var
            go_simp
            refine hK.out _ _ trivial (fun _ => ?_)
            clear hK K x0 x1 xf
            try simp only [Act.put, List.setIfInBounds_toArray, List.set_cons_zero, List.set_cons_succ]
            refine wpAnyH_done (by kernel_rfl) ?_ _
            refine NoPanic.normal ?_
            generalize (WD.setCell ⟨h, 0, none⟩ (.slice soD l1 pD)).setCell ⟨h, 1, none⟩ (.slice coD l2 qD) = WE at *
            clear DD FD
            have hh1 : ¬ h = w.heap.size := by have := DE.out.gap; omega
            have hh2 : ¬ w.heap.size = h := fun e => hh1 e.symm
            obtain ⟨x0, x1, xf⟩ := cells2 DE.out.var
            obtain ⟨r0, r1, rf⟩ := cells2 DE.out.res
            have F := DE.out.fin
            go_wp2
            refine bodyPost_ret (v := .tuple #[.agg #[_, _], .int .i64 a0]) (resLgD Try.results51 _ _ w.heap.size _ _ _ rfl rfl F.1) rfl ⟨_, _, _, a0, rfl, HA0.out, F.2.1.base (Nat.le_succ _), HRC.out, F.2.2.1, F.2.2.2⟩
          · go_simp
            go_at_call 98; refine (l07Keep_any g B 12 (by omega) _ DB.out.src hB).mono ?_
            rintro e WC ⟨vk, kl, rfl, ok, hkl, hsC, hgC⟩
            have DC := hide (DB.out.step hsC hgC)
            have OK := hide ok
            have HKL := hide hkl
            obtain ⟨ak, ck, hvk⟩ := ownL_sh ok
            subst hvk
            clear ok hkl hsC hgC
            go_wp2_with fail
            refine hK.out _ _ trivial (fun _ => ?_)
            clear hK K
            try simp only [Act.put, List.setIfInBounds_toArray, List.set_cons_zero, List.set_cons_succ]
            refine wpAnyH_ready (rs := [0]) (by kernel_rfl) (by simp) ?_
            refine AllReadyH.cons (o := _) rfl (fun K hK => ?_) AllReadyH.nil
            obtain ⟨x0, x1, xf⟩ := cells2 DC.out.var
            go_simp
            refine hK.out _ _ trivial (fun _ => ?_)
            clear hK K x0 x1 xf
            try simp only [Act.put, List.setIfInBounds_toArray, List.set_cons_zero, List.set_cons_succ]
            refine wpAnyH_ready (rs := [3]) (by kernel_rfl) (by simp) ?_
            refine AllReadyH.cons (o := _) rfl (fun K hK => ?_) AllReadyH.nil
            go_simp
            go_at_call 38; refine (specDiskCrash_any _ _ _ _ _ d6 kl _ (right_inn HR2.out) (right_fits HR2.out) (by have := HKL.out; omega) DC.out.own OK.out).mono ?_
            have HRC := hide (crash_right kl HR2.out (by have := HKL.out; omega))
            generalize dkCrash d6 kl = dC at *
            rintro e WD ⟨sD, cD, rfl, oD, bD⟩
            obtain ⟨soD, l1, pD, coD, l2, qD, rfl, rfl, hmD⟩ := oD.shp
            have DD := hide (DC.out.below bD)
            have FD := hide (own_above oD (blkS DC.out.var))
            have DE := hide (DD.out.put (oD.base (base' := w.heap.size + 1) (by have := blkS DC.out.var; have := DC.out.gap; omega)) FD.out)
            clear bD hmD oD OK
            go_wp2_with fail
            refine hK.out _ _ trivial (fun _ => ?_)
            clear hK K
            try simp only [Act.put, List.setIfInBounds_toArray, List.set_cons_zero, List.set_cons_succ]
            refine wpAnyH_ready (rs := [4]) (by kernel_rfl) (by simp) ?_
            refine AllReadyH.cons (o := _) rfl (fun K hK => ?_) AllReadyH.nil
            obtain ⟨x0, x1, xf⟩ := cells2 DD.out.var
            go_simp
            refine hK.out _ _ trivial (fun _ => ?_)
            clear hK K x0 x1 xf
            try simp only [Act.put, List.setIfInBounds_toArray, List.set_cons_zero, List.set_cons_succ]
            refine wpAnyH_done (by kernel_rfl) ?_ _
            refine NoPanic.normal ?_
            generalize (WD.setCell ⟨h, 0, none⟩ (.slice soD l1 pD)).setCell ⟨h, 1, none⟩ (.slice coD l2 qD) = WE at *
            clear DD FD
            have hh1 : ¬ h = w.heap.size := by have := DE.out.gap; omega
            have hh2 : ¬ w.heap.size = h := fun e => hh1 e.symm
            obtain ⟨x0, x1, xf⟩ := cells2 DE.out.var
            obtain ⟨r0, r1, rf⟩ := cells2 DE.out.res
            have F := DE.out.fin
            go_wp2
            refine bodyPost_ret (v := .tuple #[.agg #[_, _], .int .i64 a0]) (resLgD Try.results51 _ _ w.heap.size _ _ _ rfl rfl F.1) rfl ⟨_, _, _, a0, rfl, HA0.out, F.2.1.base (Nat.le_succ _), HRC.out, F.2.2.1, F.2.2.2⟩
        | false =>
          have hh1 : ¬ h = w.heap.size := by have := DA.out.gap; omega
          have hh2 : ¬ w.heap.size = h := fun e => hh1 e.symm
          obtain ⟨x0, x1, xf⟩ := cells2 DA.out.var
          obtain ⟨r0, r1, rf⟩ := cells2 DA.out.res
          have F := DA.out.fin
          go_wp2
          refine bodyPost_ret (v := .tuple #[.agg #[_, _], .int .i64 a0]) (resLgD Try.results51 _ _ w.heap.size _ _ _ rfl rfl F.1) rfl ⟨_, _, _, a0, rfl, HA0.out, F.2.1.base (Nat.le_succ _), HR2.out, F.2.2.1, F.2.2.2⟩
      | false =>
        go_upto_region 17 with fail
        go_wp2_with fail
        refine (one_any g B 5 (by omega) (by omega) _ D5.out.src hB).mono ?_
        rintro e wA ⟨bA, rfl, hsA, hgA, hzA⟩
        have DA := hide (D5.out.step hsA hgA)
        clear hsA hgA hzA D5
        cases bA with
        | true =>
          go_upto_region 18 with fail
          refine wp_region_noPanic ?_
          refine wp_region_held_drew (S := fun _ => True) (by kernel_rfl) trivial (fun hS1 => ?_)
          have DB := hide (DA.out.below (Below.refl _ _).drew)
          clear DA hS1
          generalize wA.drew = WB at *
          refine takeD 1 60 (v := ?vtD5) rfl rfl (by kernel_rfl) (by kernel_rfl) (by kernel_rfl) (fun _ _ _ h => h) (by kernel_rfl) ?hytD5 trivial ?rtD5
          case hytD5 => (intro W hSw; go_simp; try with_reducible rfl)
          try simp only [Act.put, List.setIfInBounds_toArray, List.set_cons_zero, List.set_cons_succ]
          refine wpAnyH_ready (rs := [0, 2]) (by kernel_rfl) (by simp) ?_
          refine AllReadyH.cons (o := _) rfl (fun K hK => ?_) (AllReadyH.cons (o := _) rfl (fun K hK => ?_) AllReadyH.nil)
          · obtain ⟨x0, x1, xf⟩ := cells2 DB.out.var
            go_simp
            refine hK.out _ _ trivial (fun _ => ?_)
            clear hK K x0 x1 xf
            try simp only [Act.put, List.setIfInBounds_toArray, List.set_cons_zero, List.set_cons_succ]
            refine wpAnyH_ready (rs := [2]) (by kernel_rfl) (by simp) ?_
            refine AllReadyH.cons (o := _) rfl (fun K hK => ?_) AllReadyH.nil
            go_simp
            go_at_call 98; refine (l07Keep_any g B 12 (by omega) _ DB.out.src hB).mono ?_
            rintro e WC ⟨vk, kl, rfl, ok, hkl, hsC, hgC⟩
            have DC := hide (DB.out.step hsC hgC)
            have OK := hide ok
            have HKL := hide hkl
            obtain ⟨ak, ck, hvk⟩ := ownL_sh ok
            subst hvk
            clear ok hkl hsC hgC
            go_wp2_with fail
            refine hK.out _ _ trivial (fun _ => ?_)
            clear hK K
            try simp only [Act.put, List.setIfInBounds_toArray, List.set_cons_zero, List.set_cons_succ]
            refine wpAnyH_ready (rs := [3]) (by kernel_rfl) (by simp) ?_
            refine AllReadyH.cons (o := _) rfl (fun K hK => ?_) AllReadyH.nil
            go_simp
            go_at_call 38; refine (specDiskCrash_any _ _ _ _ _ d kl _ (right_inn HR.out) (right_fits HR.out) (by have := HKL.out; omega) DC.out.own OK.out).mono ?_
            have HRC := hide (crash_right kl HR.out (by have := HKL.out; omega))
            generalize dkCrash d kl = dC at *
            rintro e WD ⟨sD, cD, rfl, oD, bD⟩
            obtain ⟨soD, l1, pD, coD, l2, qD, rfl, rfl, hmD⟩ := oD.shp
            have DD := hide (DC.out.below bD)
            have FD := hide (own_above oD (blkS DC.out.var))
            have DE := hide (DD.out.put (oD.base (base' := w.heap.size + 1) (by have := blkS DC.out.var; have := DC.out.gap; omega)) FD.out)
            clear bD hmD oD OK
            go_wp2_with fail
            refine hK.out _ _ trivial (fun _ => ?_)
            clear hK K
            try simp only [Act.put, List.setIfInBounds_toArray, List.set_cons_zero, List.set_cons_succ]
            refine wpAnyH_ready (rs := [4]) (by kernel_rfl) (by simp) ?_
            refine AllReadyH.cons (o := _) rfl (fun K hK => ?_) AllReadyH.nil
            obtain ⟨x0, x1, xf⟩ := cells2 DD.out.var
            go_simp
            refine hK.out _ _ trivial (fun _ => ?_)
            clear hK K x0 x1 xf
            try simp only [Act.put, List.setIfInBounds_toArray, List.set_cons_zero, List.set_cons_succ]
            refine wpAnyH_done (by kernel_rfl) ?_ _
            refine NoPanic.normal ?_
            generalize (WD.setCell ⟨h, 0, none⟩ (.slice soD l1 pD)).setCell ⟨h, 1, none⟩ (.slice coD l2 qD) = WE at *
            clear DD FD
            have hh1 : ¬ h = w.heap.size := by have := DE.out.gap; omega
            have hh2 : ¬ w.heap.size = h := fun e => hh1 e.symm
            obtain ⟨x0, x1, xf⟩ := cells2 DE.out.var
            obtain ⟨r0, r1, rf⟩ := cells2 DE.out.res
            have F := DE.out.fin
            go_wp2
            refine bodyPost_ret (v := .tuple #[.agg #[_, _], .int .i64 a0]) (resLgD Try.results51 _ _ w.heap.size _ _ _ rfl rfl F.1) rfl ⟨_, _, _, a0, rfl, HA0.out, F.2.1.base (Nat.le_succ _), HRC.out, F.2.2.1, F.2.2.2⟩
          · go_simp
            go_at_call 98; refine (l07Keep_any g B 12 (by omega) _ DB.out.src hB).mono ?_
            rintro e WC ⟨vk, kl, rfl, ok, hkl, hsC, hgC⟩
            have DC := hide (DB.out.step hsC hgC)
            have OK := hide ok
            have HKL := hide hkl
            obtain ⟨ak, ck, hvk⟩ := ownL_sh ok
            subst hvk
            clear ok hkl hsC hgC
            go_wp2_with fail
            refine hK.out _ _ trivial (fun _ => ?_)
            clear hK K
            try simp only [Act.put, List.setIfInBounds_toArray, List.set_cons_zero, List.set_cons_succ]
            refine wpAnyH_ready (rs := [0]) (by kernel_rfl) (by simp) ?_
            refine AllReadyH.cons (o := _) rfl (fun K hK => ?_) AllReadyH.nil
            obtain ⟨x0, x1, xf⟩ := cells2 DC.out.var
            go_simp
            refine hK.out _ _ trivial (fun _ => ?_)
            clear hK K x0 x1 xf
            try simp only [Act.put, List.setIfInBounds_toArray, List.set_cons_zero, List.set_cons_succ]
            refine wpAnyH_ready (rs := [3]) (by kernel_rfl) (by simp) ?_
            refine AllReadyH.cons (o := _) rfl (fun K hK => ?_) AllReadyH.nil
            go_simp
            go_at_call 38; refine (specDiskCrash_any _ _ _ _ _ d kl _ (right_inn HR.out) (right_fits HR.out) (by have := HKL.out; omega) DC.out.own OK.out).mono ?_
            have HRC := hide (crash_right kl HR.out (by have := HKL.out; omega))
            generalize dkCrash d kl = dC at *
            rintro e WD ⟨sD, cD, rfl, oD, bD⟩
            obtain ⟨soD, l1, pD, coD, l2, qD, rfl, rfl, hmD⟩ := oD.shp
            have DD := hide (DC.out.below bD)
            have FD := hide (own_above oD (blkS DC.out.var))
            have DE := hide (DD.out.put (oD.base (base' := w.heap.size + 1) (by have := blkS DC.out.var; have := DC.out.gap; omega)) FD.out)
            clear bD hmD oD OK
            go_wp2_with fail
            refine hK.out _ _ trivial (fun _ => ?_)
            clear hK K
            try simp only [Act.put, List.setIfInBounds_toArray, List.set_cons_zero, List.set_cons_succ]
            refine wpAnyH_ready (rs := [4]) (by kernel_rfl) (by simp) ?_
            refine AllReadyH.cons (o := _) rfl (fun K hK => ?_) AllReadyH.nil
            obtain ⟨x0, x1, xf⟩ := cells2 DD.out.var
            go_simp
            refine hK.out _ _ trivial (fun _ => ?_)
            clear hK K x0 x1 xf
            try simp only [Act.put, List.setIfInBounds_toArray, List.set_cons_zero, List.set_cons_succ]
            refine wpAnyH_done (by kernel_rfl) ?_ _
            refine NoPanic.normal ?_
            generalize (WD.setCell ⟨h, 0, none⟩ (.slice soD l1 pD)).setCell ⟨h, 1, none⟩ (.slice coD l2 qD) = WE at *
            clear DD FD
            have hh1 : ¬ h = w.heap.size := by have := DE.out.gap; omega
            have hh2 : ¬ w.heap.size = h := fun e => hh1 e.symm
            obtain ⟨x0, x1, xf⟩ := cells2 DE.out.var
            obtain ⟨r0, r1, rf⟩ := cells2 DE.out.res
            have F := DE.out.fin
            go_wp2
            refine bodyPost_ret (v := .tuple #[.agg #[_, _], .int .i64 a0]) (resLgD Try.results51 _ _ w.heap.size _ _ _ rfl rfl F.1) rfl ⟨_, _, _, a0, rfl, HA0.out, F.2.1.base (Nat.le_succ _), HRC.out, F.2.2.1, F.2.2.2⟩
        | false =>
          have hh1 : ¬ h = w.heap.size := by have := DA.out.gap; omega
          have hh2 : ¬ w.heap.size = h := fun e => hh1 e.symm
          obtain ⟨x0, x1, xf⟩ := cells2 DA.out.var
          obtain ⟨r0, r1, rf⟩ := cells2 DA.out.res
          have F := DA.out.fin
          go_wp2
          refine bodyPost_ret (v := .tuple #[.agg #[_, _], .int .i64 a0]) (resLgD Try.results51 _ _ w.heap.size _ _ _ rfl rfl F.1) rfl ⟨_, _, _, a0, rfl, HA0.out, F.2.1.base (Nat.le_succ _), HR.out, F.2.2.1, F.2.2.2⟩
end Go.Proofs.Ytfhfhpnoeghgmaa

/-
  Contract: DrawLogRead.
-/
namespace Go.Proofs.Ytfhfhpnoeghgmaa
open Go.RowKit
set_option maxRecDepth 100000

set_option maxHeartbeats 4000000 in
theorem drawLogRead_any (B : Nat) (ao : Option Addr) (len cap : Nat) (zs : List Int) (w : World) (hB : B ≤ w.heap.size) (hl : len ≤ 1048576) (hr : ByteRow w B ao len zs) :
    Calls Try.prog 13 #[.slice ao len cap] w fun e w' => ∃ s c d a q, e = .returned (.tuple #[.agg #[s, c], .int .i64 a, .int .i64 q]) ∧ OwnD w.heap.size s c d w' ∧ dkRight d = true ∧ wI64 a ∧ wI64 q ∧ Below w.heap.size w w' := by
  have HR : Hid (ByteRow w B ao len zs) := hr
  clear hr
  have ba := (Below.refl w.heap.size w).alloc (Nat.le_refl _) (.cells #[.slice none 0 0, .slice none 0 0] 26)
  have B0 := hide ba
  have R0 := hide (heap_alloc_new w (.cells #[.slice none 0 0, .slice none 0 0] 26))
  clear ba
  go_enter Try.func13, Try.ntmps13
  go_wp2_with fail
  refine (source_any B ao len cap zs _ (Nat.le_trans hB B0.out.size) hl (HR.out.kept (B0.out.mono hB))).mono ?_
  rintro e w1 ⟨g, rfl, hg, hs1, b1⟩
  have Z1 : Hid (w.heap.size < g) := Nat.lt_of_lt_of_le (blkS R0.out) hg
  have R1 := hide ((b1.block _ (blkS R0.out)).trans R0.out)
  have B1 := hide (B0.out.trans (b1.mono B0.out.size))
  have S1 := hide hs1
  clear hs1 b1 hg R0 B0
  go_wp2_with fail
  refine (l08Logged_any g B _ S1.out (Nat.le_trans hB (Nat.le_of_lt Z1.out))).mono ?_
  rintro e w2 ⟨s, c, d, a, rfl, ha, o2, hi, hs2, g2⟩
  have HA := hide ha
  have HI := hide hi
  have hgl := S1.out.lt
  obtain ⟨so, n1, p, co, n2, q, rfl, rfl, hm⟩ := o2.shp
  have D2 := hide (DT.start hs2 (B1.out.grown g2 (by have := B1.out.size; omega) (fun j hj => by simp at hj; have := Z1.out; omega)) ((g2.block _ (blkS R1.out) (fun e => by simp at e; have := Z1.out; omega)).trans R1.out) (o2.base hgl) Z1.out hB)
  clear o2 hs2 g2 hi ha hm hgl R1 B1 S1 HR
  go_wp2_with fail
  refine (one_any g B 10 (by omega) (by omega) _ D2.out.src (Nat.le_trans hB (Nat.le_of_lt Z1.out))).mono ?_
  rintro e w3 ⟨b3, rfl, hs3, hg3, hz3⟩
  have D3 := hide (D2.out.step hs3 hg3)
  clear hs3 hg3 hz3 D2
  generalize w2.heap.size = h at *
  have hBg : B ≤ g := Nat.le_trans hB (Nat.le_of_lt Z1.out)
  cases b3 with
  | true =>
    obtain ⟨x0, x1, xf⟩ := cells2 D3.out.var
    obtain ⟨r0, r1, rf⟩ := cells2 D3.out.res
    go_upto_region 4 with fail
    go_region_held3 (fun W => W.cell? ⟨h, 0, none⟩ = some (.slice so n1 p) ∧ W.cell? ⟨h, 1, none⟩ = some (.slice co n2 q)) (go_keep) (first
      | (go_at_call 53; refine (n_any g B 20 (by omega) (by omega) _ D3.out.drew.src hBg).mono ?_; rintro e w6 ⟨v6, rfl, h60, h61, hs6, hg6, hz6⟩; have D6 := hide (D3.out.drew.step hs6 hg6); have hw6 : IntKind.i64.wrap (v6 - 1) = v6 - 1 := (by rw [IntKind.wrap_i64]; omega); clear hs6 hg6 hz6 x0 x1 xf r0 r1 rf; obtain ⟨x0, x1, xf⟩ := cells2 D6.out.var; obtain ⟨r0, r1, rf⟩ := cells2 D6.out.res)
      | (go_at_call 54; refine (edge_any g B _ D6.out.src hBg).mono ?_; rintro e w7 ⟨q7, rfl, hq0, hq1, hs7, hg7⟩; have D7 := hide (D6.out.step hs7 hg7); have HQ := hide (show wI64 q7 from ⟨hq0, hq1⟩); clear hs7 hg7 x0 x1 xf r0 r1 rf hq0 hq1; obtain ⟨x0, x1, xf⟩ := cells2 D7.out.var; obtain ⟨r0, r1, rf⟩ := cells2 D7.out.res; have hh1 : ¬ h = w.heap.size := (by have := D7.out.g1; have := D7.out.g2; omega); have hh2 : ¬ w.heap.size = h := (fun e => hh1 e.symm)))
    all_goals
      have F := D7.out.fin
      go_wp2
      refine bodyPost_ret (v := .tuple #[.agg #[.slice so n1 p, .slice co n2 q], .int .i64 (v6 - 1), .int .i64 q7]) (resDT Try.results13 _ _ w.heap.size _ _ _ _ rfl rfl rfl F.1) rfl ?_
      exact ⟨_, _, d, _, _, rfl, F.2.1, HI.out, by unfold wI64; omega, HQ.out, F.2.2⟩
  | false =>
    go_wp2_with fail
    refine (one_any g B 6 (by omega) (by omega) _ D3.out.src hBg).mono ?_
    rintro e w4 ⟨b4, rfl, hs4, hg4, hz4⟩
    have D4 := hide (D3.out.step hs4 hg4)
    clear hs4 hg4 hz4 D3
    cases b4 with
    | true =>
      go_wp2_with fail
      refine (n_any g B 3 (by omega) (by omega) _ D4.out.src hBg).mono ?_
      rintro e w5 ⟨v5, rfl, h50, h51, hs5, hg5, hz5⟩
      have D5 := hide (D4.out.step hs5 hg5)
      have hw5 : IntKind.i64.wrap (1 + v5) = 1 + v5 := by rw [IntKind.wrap_i64]; omega
      clear hs5 hg5 hz5 D4
      obtain ⟨x0, x1, xf⟩ := cells2 D5.out.var
      obtain ⟨r0, r1, rf⟩ := cells2 D5.out.res
      have hh1 : ¬ h = w.heap.size := by have := D5.out.g1; have := D5.out.g2; omega
      have hh2 : ¬ w.heap.size = h := fun e => hh1 e.symm
      have F := D5.out.fin
      go_wp2
      refine bodyPost_ret (v := .tuple #[.agg #[.slice so n1 p, .slice co n2 q], .int .i64 (a : Int), .int .i64 (1 + v5)]) (resDT Try.results13 _ _ w.heap.size _ _ _ _ rfl rfl rfl F.1) rfl ?_
      exact ⟨_, _, d, _, _, rfl, F.2.1, HI.out, by have := HA.out; unfold wI64; omega, by unfold wI64; omega, F.2.2⟩
    | false =>
      obtain ⟨x0, x1, xf⟩ := cells2 D4.out.var
      obtain ⟨r0, r1, rf⟩ := cells2 D4.out.res
      have hh1 : ¬ h = w.heap.size := by have := D4.out.g1; have := D4.out.g2; omega
      have hh2 : ¬ w.heap.size = h := fun e => hh1 e.symm
      have F := D4.out.fin
      go_wp2
      refine bodyPost_ret (v := .tuple #[.agg #[.slice so n1 p, .slice co n2 q], .int .i64 (a : Int), .int .i64 1]) (resDT Try.results13 _ _ w.heap.size _ _ _ _ rfl rfl rfl F.1) rfl ?_
      exact ⟨_, _, d, _, _, rfl, F.2.1, HI.out, by have := HA.out; unfold wI64; omega, by unfold wI64; omega, F.2.2⟩
end Go.Proofs.Ytfhfhpnoeghgmaa

/-
  Contract: DrawSeal.
-/
namespace Go.Proofs.Ytfhfhpnoeghgmaa
open Go.RowKit

set_option maxHeartbeats 1000000 in
theorem drawSeal_any (B : Nat) (ao : Option Addr) (len cap : Nat) (zs : List Int) (w : World) (hB : B ≤ w.heap.size) (hl : len ≤ 1048576) (hr : ByteRow w B ao len zs) :
    Calls Try.prog 16 #[.slice ao len cap] w fun e w' => ∃ t : ByteArray, e = .returned (.string t) ∧ t.size ≤ 20000 ∧ Below w.heap.size w w' := by
  obtain ⟨i0, hi, hz0, hz1, hz2⟩ := info_parts Try.infoU8
  have HR : Hid (ByteRow w B ao len zs) := hr
  clear hr
  go_enter Try.func16, Try.ntmps16
  go_wp2_with fail
  refine (source_any B ao len cap zs _ hB hl HR.out).mono ?_
  rintro e w1 ⟨g, rfl, hg, hs1, hb1⟩
  have hBg : B ≤ g := by omega
  have HS1 : Hid (Src w1 B g) := hs1
  clear hs1
  go_wp2_with fail
  refine (one_any g B 30 (by omega) (by omega) _ HS1.out hBg).mono ?_
  rintro e w2 ⟨b, rfl, hs2, hg2, hz2'⟩
  have hb2 := below_draw hb1 hg hg2
  have HS2 : Hid (Src w2 B g) := hs2
  clear hs2 hg2 hz2' HS1
  cases b with
  | true =>
    go_wp2_with fail
    refine (n_any g B 3 (by omega) (by omega) _ HS2.out hBg).mono ?_
    rintro e w3 ⟨v, rfl, hv0, hv1, hs3, hg3, hz3⟩
    have hb3 := below_draw hb2 hg hg3
    obtain ⟨k, rfl⟩ := Int.eq_ofNat_of_zero_le hv0
    have hzw := hb3.size
    clear hs3 hg3 hz3 HS2
    go_wp2_with (at_make; refine wpList_make_full _ rfl _ _ 22 rfl w3.heap.size 5 i0 (.int .u8 0) 1 Try.underlying22 hi hz0 hz1 .i64 .i64 _ _ (19995 + k) rfl rfl (by omega) (by omega) (by rw [hz2]; omega) (by unfold maxLen; omega) (Nat.le_refl _) ?_; intro w4 hown4 hgrow4; obtain ⟨t, ht, hcv⟩ := ownsStr hown4 (made_bytes _))
    have hb4 := hb3.grown hgrow4 hzw (fun j hj => by simp at hj)
    clear hown4 hgrow4
    go_ret
    exact ⟨t, rfl, by omega, hb4⟩
  | false =>
    go_wp2_with fail
    refine (n_any g B 20 (by omega) (by omega) _ HS2.out hBg).mono ?_
    rintro e w3 ⟨v, rfl, hv0, hv1, hs3, hg3, hz3⟩
    have hb3 := below_draw hb2 hg hg3
    obtain ⟨k, rfl⟩ := Int.eq_ofNat_of_zero_le hv0
    have HS3 : Hid (Src w3 B g) := hs3
    clear hs3 hg3 hz3 HS2
    go_wp2_with fail
    refine (bytes_any g B k (by omega) _ HS3.out hBg).mono ?_
    rintro e w4 ⟨t, rfl, ht, hs4, hg4⟩
    have hb4 := below_draw hb3 hg hg4
    clear hs4 hg4
    go_wp2
    go_ret
    exact ⟨t, rfl, by omega, hb4⟩
end Go.Proofs.Ytfhfhpnoeghgmaa

/-
  Records in a row of their own: compared, marked, looked at again.
-/
namespace Go.Proofs.Ytfhfhpnoeghgmaa
open Go.RowKit
set_option maxRecDepth 100000

theorem Try.infoRc : (Try.prog.info? 34).map (fun i => (i.zero, i.size, i.bytes)) = some (some (.agg #[.int .i64 0, .string ⟨#[]⟩]), 2, 24) := by kernel_rfl
def OwnR (base : Nat) (v : Value) (l : List Wr) (w : World) : Prop := w.ownsRow base 34 2 v l.length (flatW l)
theorem ownR_nil (base : Nat) (w : World) : OwnR base (.slice none 0 0) [] w := ⟨rfl, .inl ⟨rfl, rfl⟩⟩
theorem ownR_shape {base : Nat} {v : Value} {l : List Wr} {w : World} (h : OwnR base v l w) : ∃ ao cap, v = .slice ao l.length cap := by
  rcases h.2 with ⟨h1, h2⟩ | ⟨g, cap, cur, h1, _⟩
  · exact ⟨none, 0, by rw [h1, h2]⟩
  · exact ⟨_, _, h1⟩
theorem eqRecord_same (n : Int) (t : ByteArray) (w : World) :
    Calls Try.prog 116 #[.agg #[.int .i64 n, .string t], .agg #[.int .i64 n, .string t]] w fun e w' => e = .returned (.bool true) ∧ Below w.heap.size w w' := by
  go_enter Try.func116, Try.ntmps116
  go_wp2
  go_ret
  exact ⟨rfl, ((Below.refl _ _).alloc (Nat.le_refl _) _).alloc (by simp) _⟩
theorem ownR_at {base : Nat} {v : Value} {l : List Wr} {w : World} (h : OwnR base v l w) : ∃ ao cap, v = .slice ao l.length cap ∧ ∀ k, k < l.length → ∃ b off n t, ao = some ⟨b, off, none⟩ ∧ b < w.heap.size ∧ l.getD k noWr = ⟨n, t⟩ ∧ w.cell? ⟨b, off + k * 2, none⟩ = some (.int .i64 n) ∧ w.cell? ⟨b, off + k * 2 + 1, none⟩ = some (.string t) := by
  rcases h.2 with ⟨rfl, h0⟩ | ⟨g, cap, cur, rfl, hB, hq, hn', hm, hs, hc⟩
  · exact ⟨none, 0, by rw [h0], fun k hk => by omega⟩
  · have hget : ∀ j, j < l.length * 2 → cur[j]? = (flatW l)[j]? := fun j hj => by
      have h1 : cur.toList.take (l.length * 2) = flatW l := by simpa using hc
      rw [← h1, List.getElem?_take_of_lt hj, Array.getElem?_toList]
    refine ⟨_, _, rfl, fun k hk => ⟨g, 0, (l.getD k noWr).pos, (l.getD k noWr).text, rfl, (Array.getElem?_eq_some_iff.1 hq).1, rfl, ?_, ?_⟩⟩
    · rw [cell_of_row _ _ _ _ _ _ hq, Nat.zero_add, hget _ (by omega), (flatW_get l k hk).1]
    · rw [cell_of_row _ _ _ _ _ _ hq, Nat.zero_add, hget _ (by omega), (flatW_get l k hk).2]
set_option maxHeartbeats 2000000 in
theorem eqRecordS_own (base base' : Nat) (v v' : Value) (l : List Wr) (w : World) (hl : l.length ≤ 1048576) (ha : OwnR base v l w) (hb : OwnR base' v' l w) :
    Calls Try.prog 95 #[v, v'] w fun e w' => e = .returned (.bool true) ∧ Below w.heap.size w w' := by
  obtain ⟨ao, cap, rfl, hka⟩ := ownR_at ha
  obtain ⟨bo, cp, rfl, hkb⟩ := ownR_at hb
  have HA := hide hka
  have HB := hide hkb
  clear ha hb hka hkb
  go_enter Try.func95, Try.ntmps95
  go_wp2
  go_loopw [5] (fun i wr => ∃ k : Nat, k ≤ l.length ∧ i = .int .i64 k ∧ Below w.heap.size w wr) (fun i _ => l.length - (intOf i).toNat)
  case atStart => exact ⟨0, Nat.zero_le _, rfl, Below.refl _ _⟩
  case round =>
    obtain ⟨k, hk, rfl, hbw⟩ := hrel
    by_cases hlt : k < l.length
    · obtain ⟨b, off, nn, tt, rfl, hbB, hv, d00, d01⟩ := HA.out k hlt
      obtain ⟨b', off', nn', tt', rfl, hbB', hv', e00, e01⟩ := HB.out k hlt
      rw [hv] at hv'
      simp only [Wr.mk.injEq] at hv'
      obtain ⟨rfl, rfl⟩ := hv'
      have hz := hbw.size
      have d0 := (hbw.cell (p := ⟨b, off + k * 2, none⟩) hbB).trans d00
      have d1 := (hbw.cell (p := ⟨b, off + k * 2 + 1, none⟩) hbB).trans d01
      have e0 := (hbw.cell (p := ⟨b', off' + k * 2, none⟩) hbB').trans e00
      have e1 := (hbw.cell (p := ⟨b', off' + k * 2 + 1, none⟩) hbB').trans e01
      have hi0 : (0 : Int) ≤ (k : Int) := by omega
      have hi1 : (k : Int) < (l.length : Int) := by omega
      have ht := (Int.toNat_natCast k)
      have hq1 : b < wr.heap.size := by omega
      have hq2 : b' < wr.heap.size := by omega
      clear hv d00 e00 d01 e01 hbB hbB'
      go_wp2
      go_region_held3 (fun W => W.cell? ⟨b, off + k * 2, none⟩ = some (.int .i64 nn) ∧ W.cell? ⟨b, off + k * 2 + 1, none⟩ = some (.string tt) ∧ W.cell? ⟨b', off' + k * 2, none⟩ = some (.int .i64 nn) ∧ W.cell? ⟨b', off' + k * 2 + 1, none⟩ = some (.string tt)) (go_keep) (first | (go_at_call 116; refine (eqRecord_same nn tt _).mono ?_; rintro e w1 ⟨rfl, hb1⟩; have hb1' : Below wr.heap.size wr w1 := (Below.refl _ _).drew.trans hb1; obtain ⟨hc1, hf1⟩ := bcell hb1'))
      all_goals
        have hb2 := hbw.trans (hb1'.mono hz)
        clear d0 d1 e0 e1 hb1 hb1' hbw hc1 hf1
        go_wp2
        go_roundw
        case rel => exact ⟨k + 1, by omega, by go_num, hb2⟩
        case measure => simp [intOf]; omega
    · go_wp2
      go_ret
      exact ⟨rfl, hbw⟩
def RM (g m k0 k : Nat) (w : World) : Prop := ∃ cur : List Value, w.heap[g]? = some (.cells cur.toArray 34 (0, 0)) ∧ cur.length = m ∧ cur.take (k * 2) = flatW (mWrs k0 k)
set_option maxHeartbeats 4000000 in
theorem markRecordS_at (g n cap k0 m : Nat) (w : World) (hk0 : 0 < k0) (hk1 : k0 + 2 * n ≤ 5000000) (hl0 : n * 2 ≤ m) (hw : RM g m k0 0 w) :
    Calls Try.prog 96 #[.slice (some ⟨g, 0, none⟩) n cap, .int .i64 k0] w fun e w' => e = .returned (.int .i64 ((k0 + 2 * n : Nat) : Int)) ∧ RM g m k0 n w' ∧ w.grownBy w' (some g) := by
  have HW := hide hw
  clear hw
  go_enter Try.func96, Try.ntmps96
  go_wp2
  go_loopw [1, 5] (fun s i wr => ∃ k q : Nat, k ≤ n ∧ i = .int .i64 k ∧ s = .int .i64 q ∧ Hid (q = k0 + 2 * k) ∧ (0 < q ∧ q ≤ 5000000) ∧ Hid (RM g m k0 k wr) ∧ w.grownBy wr (some g)) (fun _ i _ => n - (intOf i).toNat)
  case atStart => exact ⟨0, k0, Nat.zero_le _, rfl, rfl, (by show _ = _; omega), ⟨hk0, by omega⟩, HW, grown_refl _ _⟩
  case round =>
    obtain ⟨k, q, hk, rfl, rfl, HQ, ⟨hq0, hq1⟩, HM, hb⟩ := hrel
    by_cases hlt : k < n
    · obtain ⟨cur, hg, hl, htk⟩ := HM.out
      have hgs : g < wr.heap.size := (Array.getElem?_eq_some_iff.1 hg).1
      have hmt := hide (fun W => markText_pos (q + 1) (by omega) (by omega) W)
      have hq3 : ((q + 1 : Nat) : Int) = (q : Int) + 1 := by omega
      rw [hq3] at hmt
      have HG := hide hg
      have HL := hide htk
      have hq2 : q + 2 ≤ 5000000 := by have := HQ.out; omega
      have HC : Hid (mWr (k0 + 2 * k) = ⟨(q : Int), markS (q + 1)⟩) := by show _ = _; rw [← HQ.out]; rfl
      generalize markS (q + 1) = T at *
      obtain ⟨x0, hx0⟩ : ∃ v, cur[k * 2]? = some v := ⟨_, List.getElem?_eq_getElem (by omega)⟩
      obtain ⟨x1, hx1⟩ : ∃ v, cur[k * 2 + 1]? = some v := ⟨_, List.getElem?_eq_getElem (by omega)⟩
      have d0 : wr.cell? ⟨g, k * 2, none⟩ = some x0 := by rw [cell_of_row _ _ _ _ _ _ hg, List.getElem?_toArray, hx0]
      have df : ∀ j, wr.frozen? ⟨g, j, none⟩ = false := fun j => frozen_of_row _ _ _ _ _ hg
      clear HM hg htk hq3
      go_wp2_with fail
      refine (hmt.out _).mono ?_
      rintro e w1 ⟨rfl, hb1⟩
      have hg1 := (hb1.block g (by simpa using hgs)).trans (setL_heap (m := k * 2) (x := .int .i64 (q : Int)) HG.out)
      have d1 : w1.cell? ⟨g, k * 2 + 1, none⟩ = some x1 := by rw [cell_of_row _ _ _ _ _ _ hg1, List.getElem?_toArray, List.getElem?_set_ne (by omega), hx1]
      have df1 : ∀ j, w1.frozen? ⟨g, j, none⟩ = false := fun j => frozen_of_row _ _ _ _ _ hg1
      have HM2 : Hid (RM g m k0 (k + 1) (w1.setCell ⟨g, k * 2 + 1, none⟩ (.string T)) ∧ w.grownBy (w1.setCell ⟨g, k * 2 + 1, none⟩ (.string T)) (some g)) := by
        refine ⟨⟨_, setL_heap hg1, by simpa using hl, ?_⟩, grown_setG (grown_below (grown_setG hb) hb1)⟩
        rw [show (k + 1) * 2 = k * 2 + 2 by omega, take_set2w _ _ _ _ (by omega), HL.out, mWrs_succ, flatW_append, HC.out]; rfl
      clear hmt HG HL HC hg1 hx0 hx1 hb1 hb d0 df
      go_wp2
      go_roundw
      case rel => exact ⟨k + 1, q + 2, by omega, by go_num, by go_num, (by show _ = _; have := HQ.out; omega), ⟨by omega, hq2⟩, HM2.out.1, HM2.out.2⟩
      case measure => simp [intOf]; omega
    · obtain rfl : k = n := by omega
      have HZ : Hid ((q : Int) = ((k0 + 2 * k : Nat) : Int)) := by show _ = _; rw [HQ.out]
      go_wp2
      go_ret
      exact ⟨by rw [HZ.out]; rfl, HM.out, hb⟩
theorem markRecordS_nil (k0 : Nat) (w : World) : Calls Try.prog 96 #[.slice none 0 0, .int .i64 k0] w fun e w' => e = .returned (.int .i64 k0) ∧ w' = w := by
  go_enter Try.func96, Try.ntmps96
  go_wp2
  go_loop [1, 5] (fun q i => i = .int .i64 0 ∧ q = .int .i64 k0) (fun _ _ => 0)
  case atStart => exact ⟨rfl, rfl⟩
  case round =>
    obtain ⟨rfl, rfl⟩ := hrel
    go_wp2
    go_ret
    exact ⟨rfl, rfl⟩
theorem markRecordS_mk (base : Nat) (v : Value) (l : List Wr) (k0 : Nat) (w : World) (hk0 : 0 < k0) (hk1 : k0 + 2 * l.length ≤ 5000000) (h : OwnR base v l w) :
    Calls Try.prog 96 #[v, .int .i64 k0] w fun e w' => e = .returned (.int .i64 ((k0 + 2 * l.length : Nat) : Int)) ∧ OwnR base v (mWrs k0 l.length) w' ∧ w.grownBy w' v.ownBlock := by
  rcases h.2 with ⟨rfl, h0⟩ | ⟨g, cap, cur, rfl, hB, hq, hn', hm, hs, ht⟩
  · refine (markRecordS_nil k0 w).mono ?_
    rintro e w' ⟨rfl, rfl⟩
    rw [h0]
    exact ⟨rfl, ownR_nil _ _, grown_refl _ _⟩
  · refine (markRecordS_at g l.length cap k0 (cap * 2) w hk0 hk1 (Nat.mul_le_mul_right 2 hn') ⟨cur.toList, by simpa using hq, by simpa using hs, by simp [mWrs, flatW]⟩).mono ?_
    rintro e w' ⟨rfl, ⟨cur', hg', hl', ht'⟩, hb⟩
    refine ⟨rfl, ⟨by rw [flatW_len], .inr ⟨g, cap, cur'.toArray, by rw [mWrs_len], hB, hg', by rw [mWrs_len]; exact hn', hm, by simpa using hl', ?_⟩⟩, hb⟩
    rw [mWrs_len]; simpa using ht'
set_option maxHeartbeats 4000000 in
theorem heldRecordS_mk (base : Nat) (v : Value) (n k0 : Nat) (w : World) (hk0 : 0 < k0) (hk1 : k0 + 2 * n ≤ 5000000) (h : OwnR base v (mWrs k0 n) w) :
    Calls Try.prog 97 #[v, .int .i64 k0] w fun e w' => e = .returned (.int .i64 ((k0 + 2 * n : Nat) : Int)) ∧ Below w.heap.size w w' := by
  obtain ⟨ao, cap, rfl, hka⟩ := ownR_at h
  rw [mWrs_len] at hka ⊢
  have HA : Hid (∀ k, k < n → ∃ b off, ao = some ⟨b, off, none⟩ ∧ b < w.heap.size ∧ w.cell? ⟨b, off + k * 2, none⟩ = some (.int .i64 ((k0 + 2 * k : Nat) : Int)) ∧ w.cell? ⟨b, off + k * 2 + 1, none⟩ = some (.string (markS (k0 + 2 * k + 1)))) := fun k hk => by
    obtain ⟨b, off, x, t, e, hb, hx, hc, hc2⟩ := hka k hk
    rw [mWrs_get _ _ _ hk] at hx
    unfold mWr at hx
    simp only [Wr.mk.injEq] at hx
    obtain ⟨rfl, rfl⟩ := hx
    exact ⟨b, off, e, hb, hc, hc2⟩
  clear h hka
  go_enter Try.func97, Try.ntmps97
  go_wp2
  go_loopw [1, 5] (fun s i wr => ∃ k q : Nat, k ≤ n ∧ i = .int .i64 k ∧ s = .int .i64 q ∧ Hid (q = k0 + 2 * k) ∧ (0 < q ∧ q ≤ 5000000) ∧ Below w.heap.size w wr) (fun _ i _ => n - (intOf i).toNat)
  case atStart => exact ⟨0, k0, Nat.zero_le _, rfl, rfl, (by show _ = _; omega), ⟨hk0, by omega⟩, Below.refl _ _⟩
  case round =>
    obtain ⟨k, q, hk, rfl, rfl, HQ, ⟨hq0, hq1⟩, hb⟩ := hrel
    have hz := hb.size
    by_cases hlt : k < n
    · obtain ⟨b, off, rfl, hbB, d00, d01⟩ := HA.out k hlt
      rw [← HQ.out] at d00 d01
      have d0 := (hb.cell (p := ⟨b, off + k * 2, none⟩) hbB).trans d00
      have d1 := (hb.cell (p := ⟨b, off + k * 2 + 1, none⟩) hbB).trans d01
      have hi0 : (0 : Int) ≤ (k : Int) := by omega
      have hi1 : (k : Int) < (n : Int) := by omega
      have ht := (Int.toNat_natCast k)
      have hq2 : q + 2 ≤ 5000000 := by have := HQ.out; omega
      have hmt := fun W => markText_pos (q + 1) (by omega) (by omega) W
      have hq3 : ((q + 1 : Nat) : Int) = (q : Int) + 1 := by omega
      rw [hq3] at hmt
      generalize markS (q + 1) = T at *
      have hgr : b < wr.heap.size := by omega
      clear d00 d01 hq3
      go_wp2
      go_region_held3 (fun W => W.cell? ⟨b, off + k * 2 + 1, none⟩ = some (.string T)) (go_keep) (first | (go_at_call 110; refine (hmt _).mono ?_; rintro e w1 ⟨rfl, hb1⟩; have hb1' : Below wr.heap.size wr w1 := (Below.refl _ _).drew.trans hb1; obtain ⟨hc1, hf1⟩ := bcell hb1'))
      all_goals
        have hb2 := hb.trans (hb1'.mono hz)
        clear d0 d1 hb1 hb1' hb hc1 hf1
        go_wp2
        go_roundw
        case rel => exact ⟨k + 1, q + 2, by omega, by go_num, by go_num, (by show _ = _; have := HQ.out; omega), ⟨by omega, hq2⟩, hb2⟩
        case measure => simp [intOf]; omega
    · obtain rfl : k = n := by omega
      have HZ : Hid ((q : Int) = ((k0 + 2 * k : Nat) : Int)) := by show _ = _; rw [HQ.out]
      go_wp2
      go_ret
      exact ⟨by rw [HZ.out]; rfl, hb⟩
end Go.Proofs.Ytfhfhpnoeghgmaa

/-
  A number of 64 bits.
-/
namespace Go.Proofs.Ytfhfhpnoeghgmaa
open Go.RowKit
def inI64 (x : Int) : Prop := -9223372036854775808 ≤ x ∧ x ≤ 9223372036854775807
end Go.Proofs.Ytfhfhpnoeghgmaa

/-
  A fault as an error.
-/
namespace Go.Proofs.Ytfhfhpnoeghgmaa
open Go.RowKit

def faultV (c : Int) : Value := .iface 163 (.agg #[.int .i64 c])
end Go.Proofs.Ytfhfhpnoeghgmaa

/-
  A scope with three labels: 0 is jumped back to (a measure falls), 2 and 1 are jumped on to. Plain laws of the walk, no program.
-/
namespace Go.Proofs.Ytfhfhpnoeghgmaa
open Go

def jumpAll (J : Nat → Act → World → Prop) (Q : Exit → Act → World → Prop) : Exit → Act → World → Prop
  | .goto l, a, w => J l a w
  | e, a, w => Q e a w
theorem wp_scope_all {P : Program} {a : Act} {w : World} {Q : Exit → Act → World → Prop} {c : Code} (rest : Nat → Code) (J : Nat → Act → World → Prop) (μ : Nat → Act → World → Nat)
    (hf : ∀ l a w, J l a w → findLabel c l = some (rest l)) (first : c.wp P (jumpAll J Q) a w)
    (pass : ∀ l a w, J l a w → (rest l).wp P (jumpAll (fun l' a' w' => J l' a' w' ∧ μ l' a' w' < μ l a w) Q) a w) : (Code.scope c).wp P Q a w := by
  intro b k cs
  have key : ∀ n l a w, μ l a w = n → J l a w → ∃ e a' w', Q e a' w' ∧ Arrives P (lone (b.at a (.code (rest l) :: .inScope c :: k)) cs w) b k cs e a' w' := by
    intro n
    induction n using Nat.strongRecOn with
    | _ n ih =>
      intro l a w hn hJ
      obtain ⟨e, a₁, w₁, hq, harr⟩ := pass l a w hJ b (.inScope c :: k) cs
      cases e with
      | normal => exact ⟨.normal, a₁, w₁, hq, Steps.trans harr (.one step_inScope)⟩
      | exit id => exact ⟨.exit id, a₁, w₁, hq, fun k' hk => harr k' (by simp [exitTo, hk])⟩
      | goto l' =>
        obtain ⟨hJ', hlt⟩ := hq
        have hg : gotoIn l' (.inScope c :: k) = some (.code (rest l') :: .inScope c :: k) := by simp [gotoIn, hf l' a₁ w₁ hJ']
        obtain ⟨e₂, a₂, w₂, hq₂, harr₂⟩ := ih _ (by omega) l' a₁ w₁ rfl hJ'
        exact ⟨e₂, a₂, w₂, hq₂, .of_steps (harr _ hg) harr₂⟩
      | ret => exact ⟨_, a₁, w₁, hq, harr⟩
      | panic ch => exact ⟨_, a₁, w₁, hq, harr⟩
      | outgrown => exact ⟨_, a₁, w₁, hq, harr⟩
  obtain ⟨e, a₁, w₁, hq, harr⟩ := first b (.inScope c :: k) cs
  cases e with
  | normal => exact ⟨.normal, a₁, w₁, hq, .head step_scope (Steps.trans harr (.one step_inScope))⟩
  | exit id => exact ⟨.exit id, a₁, w₁, hq, fun k' hk => .head step_scope (harr k' (by simp [exitTo, hk]))⟩
  | goto l' =>
    have hg : gotoIn l' (.inScope c :: k) = some (.code (rest l') :: .inScope c :: k) := by simp [gotoIn, hf l' a₁ w₁ hq]
    obtain ⟨e₂, a₂, w₂, hq₂, harr₂⟩ := key _ l' a₁ w₁ rfl hq
    exact ⟨e₂, a₂, w₂, hq₂, .of_steps (.head step_scope (harr _ hg)) harr₂⟩
  | ret => exact ⟨_, a₁, w₁, hq, .of_steps (.one step_scope) harr⟩
  | panic ch => exact ⟨_, a₁, w₁, hq, .of_steps (.one step_scope) harr⟩
  | outgrown => exact ⟨_, a₁, w₁, hq, .of_steps (.one step_scope) harr⟩

def jump3 (J0 J1 J2 : Act → World → Prop) (Q : Exit → Act → World → Prop) : Exit → Act → World → Prop
  | .goto 0, a, w => J0 a w
  | .goto 1, a, w => J1 a w
  | .goto 2, a, w => J2 a w
  | .goto _, _, _ => False
  | e, a, w => Q e a w
theorem jump3_0 {J0 J1 J2 Q a w} : jump3 J0 J1 J2 Q (.goto 0) a w = J0 a w := rfl
theorem jump3_1 {J0 J1 J2 Q a w} : jump3 J0 J1 J2 Q (.goto 1) a w = J1 a w := rfl
theorem jump3_2 {J0 J1 J2 Q a w} : jump3 J0 J1 J2 Q (.goto 2) a w = J2 a w := rfl
theorem jump3_ret {J0 J1 J2 Q a w} : jump3 J0 J1 J2 Q .ret a w = Q .ret a w := rfl

theorem wp_scope_three {P : Program} {a : Act} {w : World} {Q : Exit → Act → World → Prop} {c r0 r1 r2 : Code} (J0 J1 J2 : Act → World → Prop) (m : Act → World → Nat)
    (h0 : findLabel c 0 = some r0) (h1 : findLabel c 1 = some r1) (h2 : findLabel c 2 = some r2) (first : c.wp P (jump3 J0 J1 J2 Q) a w)
    (pass0 : ∀ a w, J0 a w → r0.wp P (jump3 (fun a' w' => J0 a' w' ∧ m a' w' < m a w) J1 J2 Q) a w)
    (pass2 : ∀ a w, J2 a w → r2.wp P (jump3 (fun _ _ => False) J1 (fun _ _ => False) Q) a w)
    (pass1 : ∀ a w, J1 a w → r1.wp P (jump3 (fun _ _ => False) (fun _ _ => False) (fun _ _ => False) Q) a w) : (Code.scope c).wp P Q a w := by
  refine wp_scope_all (fun l => if l = 0 then r0 else if l = 1 then r1 else r2) (fun l a w => (l = 0 ∧ J0 a w) ∨ (l = 1 ∧ J1 a w) ∨ (l = 2 ∧ J2 a w)) (fun l a w => if l = 0 then m a w + 2 else if l = 2 then 1 else 0) ?_ ?_ ?_
  · rintro l a w (⟨rfl, _⟩ | ⟨rfl, _⟩ | ⟨rfl, _⟩)
    · simpa using h0
    · simpa using h1
    · simpa using h2
  · refine Code.wp_mono ?_ first
    intro e a w h
    cases e with
    | goto l =>
      match l, h with
      | 0, h => exact .inl ⟨rfl, h⟩
      | 1, h => exact .inr (.inl ⟨rfl, h⟩)
      | 2, h => exact .inr (.inr ⟨rfl, h⟩)
    | _ => exact h
  · rintro l a w (⟨rfl, hJ⟩ | ⟨rfl, hJ⟩ | ⟨rfl, hJ⟩)
    · refine Code.wp_mono ?_ (pass0 a w hJ)
      intro e a' w' h
      cases e with
      | goto l =>
        match l, h with
        | 0, h => exact ⟨.inl ⟨rfl, h.1⟩, by simpa using h.2⟩
        | 1, h => exact ⟨.inr (.inl ⟨rfl, h⟩), by simp⟩
        | 2, h => exact ⟨.inr (.inr ⟨rfl, h⟩), by simp⟩
      | _ => exact h
    · refine Code.wp_mono ?_ (pass1 a w hJ)
      intro e a' w' h
      cases e with
      | goto l =>
        match l, h with
        | 0, h => exact h.elim
        | 1, h => exact h.elim
        | 2, h => exact h.elim
      | _ => exact h
    · refine Code.wp_mono ?_ (pass2 a w hJ)
      intro e a' w' h
      cases e with
      | goto l =>
        match l, h with
        | 0, h => exact h.elim
        | 1, h => exact ⟨.inr (.inl ⟨rfl, h⟩), by simp⟩
        | 2, h => exact h.elim
      | _ => exact h
end Go.Proofs.Ytfhfhpnoeghgmaa

/-
  Contract: readNum.
-/
namespace Go.Proofs.Ytfhfhpnoeghgmaa
open Go.RowKit

def errV (c : Nat) : Value := if c = 0 then .nilIface else faultV c
def behind (at' : Nat) (r : Int × Nat × Nat) : Int := if r.2.2 = 0 then ((at' + r.2.1 : Nat) : Int) else 0

def RJ0 (s : ByteArray) (p : Nat) (w : World) : Act → World → Prop := fun a' w' => w' = w ∧ ∃ (k u : Nat) (at' kk : Int) (u8 u10 u11 u12 u13 u14 u15 u16 u17 u18 u19 u20 u21 u22 u23 u24 u25 u26 u27 u28 u29 u30 u31 u32 u33 u34 u35 u36 u37 u38 : Value), a' = ⟨#[.string s, .int .i64 at', undef, undef, .int .i64 0, .int .i64 0, .nilIface, .int .u64 (u : Nat), u8, .int .i64 kk, u10, u11, u12, u13, u14, u15, u16, u17, u18, u19, u20, u21, u22, u23, u24, u25, u26, u27, u28, u29, u30, u31, u32, u33, u34, u35, u36, u37, u38, undef, undef, undef, undef, undef, undef, undef, undef, undef, undef, undef, undef, undef, undef, undef, undef, undef], []⟩ ∧ at' = (p : Int) + k ∧ kk = (k : Int) ∧ k ≤ 9 ∧ Hid (u < 2 ^ (7 * k)) ∧ Hid (rdAt s.data.toList p = rd k u (s.data.toList.drop (p + k)))
def RJ1 (s : ByteArray) (p : Nat) (w : World) : Act → World → Prop := fun a' w' => w' = w ∧ ∃ (u1 u2 u3 u4 u5 u6 u7 u8 u9 u10 u11 u12 u13 u14 u15 u16 u17 u18 u19 u20 u21 u22 u23 u24 u25 u26 u27 u28 u29 u30 u31 u32 u33 u34 u35 u36 u37 u38 u39 u40 u41 u42 u43 u44 u45 u46 u47 u48 u49 u50 u51 u52 u53 : Value), a' = ⟨#[.string s, u1, u2, u3, u4, u5, u6, u7, u8, u9, u10, u11, u12, u13, u14, u15, u16, u17, u18, u19, u20, u21, u22, u23, u24, u25, u26, u27, u28, u29, u30, u31, u32, u33, u34, u35, u36, u37, u38, u39, u40, u41, u42, u43, u44, u45, u46, u47, u48, u49, u50, u51, u52, u53, undef, undef], []⟩ ∧ Hid (rdAt s.data.toList p = (0, 0, 3))
def RJ2 (s : ByteArray) (p : Nat) (w : World) : Act → World → Prop := fun a' w' => w' = w ∧ ∃ (k u b : Nat) (at' kk : Int) (u10 u11 u12 u13 u14 u15 u16 u17 u18 u19 u20 u21 u22 u23 u24 u25 u26 u27 u28 u29 u30 u31 u32 u33 u34 u35 u36 u37 u38 : Value), a' = ⟨#[.string s, .int .i64 at', undef, undef, .int .i64 0, .int .i64 0, .nilIface, .int .u64 (u : Nat), .int .u8 (b : Nat), .int .i64 kk, u10, u11, u12, u13, u14, u15, u16, u17, u18, u19, u20, u21, u22, u23, u24, u25, u26, u27, u28, u29, u30, u31, u32, u33, u34, u35, u36, u37, u38, undef, undef, undef, undef, undef, undef, undef, undef, undef, undef, undef, undef, undef, undef, undef, undef, undef], []⟩ ∧ at' = (p : Int) + k + 1 ∧ kk = (k : Int) + 1 ∧ k ≤ 9 ∧ p + k + 1 ≤ s.size ∧ b < 128 ∧ Hid (u < 18446744073709551616) ∧ Hid (b = 0 ∧ 0 < k → rdAt s.data.toList p = (0, 0, 3)) ∧ Hid (¬ (b = 0 ∧ 0 < k) → rdAt s.data.toList p = (unz u, k + 1, 0))
set_option maxRecDepth 1000000 in
set_option maxHeartbeats 4000000 in
theorem readNum_big (s : ByteArray) (p : Nat) (hs : s.size ≤ 1048576) (w : World) :
    Calls Try.prog 125 #[.string s, .int .i64 p] w fun e w' => e = .returned (.tuple #[.int .i64 (rdAt s.data.toList p).1, .int .i64 (behind p (rdAt s.data.toList p)), errV (rdAt s.data.toList p).2.2]) ∧ w' = w := by
  go_enter Try.func125, Try.ntmps125
  go_wp2
  refine wp_scope_three (RJ0 s p w) (RJ1 s p w) (RJ2 s p w) (fun a' _ => 10 - (intOf (a'.tmps.getD 9 undef)).toNat) rfl rfl rfl ?_ ?_ ?_ ?_
  · by_cases hlt : p < s.size
    · have hbl : s[p].toNat < 256 := s[p].toNat_lt
      have hand := u8_and127 s[p].toNat hbl
      have hor := or_first s[p].toNat
      have HD : Hid (s.data.toList.drop p = s[p] :: s.data.toList.drop (p + 1)) := drop_cons s p hlt
      by_cases hb : s[p].toNat < 128
      · have HV : Hid (rdAt s.data.toList p = (unz (s[p].toNat % 128), 1, 0)) := by
          show rd 0 0 _ = _
          rw [HD.out, rd_last (by omega) hb (by omega)]; simp
        have hu2 : s[p].toNat % 128 < 18446744073709551616 := by omega
        have HU2 : Hid (s[p].toNat % 128 < 18446744073709551616) := hu2
        clear hu2
        generalize s[p].toNat % 128 = u2 at hor HV HU2
        go_wp2
        go_step3
        go_wp2
        go_step3
        show RJ2 s p w _ _
        exact ⟨rfl, 0, u2, s[p].toNat, _, _, _, _, _, _, _, _, _, _, _, _, _, _, _, _, _, _, _, _, _, _, _, _, _, _, _, _, _, _, _, rfl, by simp, by simp, by omega, by omega, hb, HU2, fun h => absurd h.2 (by omega), fun _ => HV.out⟩
      · have HV : Hid (rdAt s.data.toList p = rd 1 (s[p].toNat % 128) (s.data.toList.drop (p + 1))) := by
          show rd 0 0 _ = _
          rw [HD.out, rd_more (by omega) hb]; simp
        have HU2 : Hid (s[p].toNat % 128 < 2 ^ (7 * 1)) := by show _ < _; omega
        generalize s[p].toNat % 128 = u2 at hor HV HU2
        go_wp2
        go_step3
        go_wp2
        go_step3
        show RJ0 s p w _ _
        exact ⟨rfl, 1, u2, _, _, _, _, _, _, _, _, _, _, _, _, _, _, _, _, _, _, _, _, _, _, _, _, _, _, _, _, _, _, _, _, rfl, by simp, by simp, by omega, HU2, HV⟩
    · have HF : Hid (rdAt s.data.toList p = (0, 0, 4)) := by
        show rd 0 0 _ = _
        rw [drop_none _ _ (by omega), rd_short]
      go_wp2
      go_step3
      go_wp2
      rw [jump3_ret]
      go_ret3
      exact ⟨by rw [HF.out]; rfl, rfl⟩
  · rintro a' w' ⟨rfl, k, u, at', kk, u8, u10, u11, u12, u13, u14, u15, u16, u17, u18, u19, u20, u21, u22, u23, u24, u25, u26, u27, u28, u29, u30, u31, u32, u33, u34, u35, u36, u37, u38, rfl, rfl, rfl, hk, HU, HR⟩
    by_cases hlt : p + k < s.size
    · have hbl : s[p + k].toNat < 256 := s[p + k].toNat_lt
      have hand := u8_and127 s[p + k].toNat hbl
      have HD : Hid (s.data.toList.drop (p + k) = s[p + k] :: s.data.toList.drop (p + k + 1)) := drop_cons s (p + k) hlt
      by_cases hA : k = 9 ∧ 1 < s[p + k].toNat
      · have HF : Hid (rdAt s.data.toList p = (0, 0, 3)) := by
          show _ = _
          rw [HR.out, HD.out, rd_big hA.1 hA.2]
        have h9 : 9 ≤ k := by omega
        have h1 := hA.2
        clear hA HR HD HU
        go_wp2
        go_step3
        show RJ1 s p w' _ _
        exact ⟨rfl, _, _, _, _, _, _, _, _, _, _, _, _, _, _, _, _, _, _, _, _, _, _, _, _, _, _, _, _, _, _, _, _, _, _, _, _, _, _, _, _, _, _, _, _, _, _, _, _, _, _, _, _, _, rfl, HF⟩
      · have hpl := prod_lt hk hA
        have hor := or_u64 HU.out hpl hk
        by_cases hb : s[p + k].toNat < 128
        · have HZ : Hid (s[p + k].toNat = 0 ∧ 0 < k → rdAt s.data.toList p = (0, 0, 3)) := fun h => by rw [HR.out, HD.out, rd_nought h.2 h.1]
          have HV : Hid (¬ (s[p + k].toNat = 0 ∧ 0 < k) → rdAt s.data.toList p = (unz (u + s[p + k].toNat % 128 * 2 ^ (7 * k)), k + 1, 0)) := fun h => by rw [HR.out, HD.out, rd_last hA hb h]
          have HU2 : Hid (u + s[p + k].toNat % 128 * 2 ^ (7 * k) < 18446744073709551616) := by
            show _ < _
            have := pow_le hk
            have := HU.out
            rcases Nat.lt_or_ge k 9 with h9 | h9
            · have := next_lt (b := s[p + k].toNat) HU.out
              have := pow_le (k := k + 1) (by omega)
              omega
            · obtain rfl : k = 9 := by omega
              have h1 : ¬ 1 < s[p + 9].toNat := fun h => hA ⟨rfl, h⟩
              have : s[p + 9].toNat % 128 ≤ 1 := by omega
              have : s[p + 9].toNat % 128 * 2 ^ (7 * 9) ≤ 1 * 2 ^ (7 * 9) := Nat.mul_le_mul_right _ this
              omega
          generalize u + s[p + k].toNat % 128 * 2 ^ (7 * k) = u2 at hor HV HU2
          clear hpl HR HD HU
          have hA' : ((k : Int) + 1 == 10 && decide (1 < (s[p + k].toNat : Int))) = false := by
            rw [Bool.and_eq_false_iff]
            by_cases h9 : k = 9
            · right; have : ¬ 1 < s[p + k].toNat := fun h => hA ⟨h9, h⟩
              simp; omega
            · left; simp; omega
          rcases Nat.lt_or_ge k 9 with h9 | h9
          · go_wp2
            go_step3
            show RJ2 s p w' _ _
            exact ⟨rfl, k, u2, s[p + k].toNat, _, _, _, _, _, _, _, _, _, _, _, _, _, _, _, _, _, _, _, _, _, _, _, _, _, _, _, _, _, _, _, rfl, rfl, rfl, hk, by omega, hb, HU2, HZ, HV⟩
          · have h1 : ¬ 1 < s[p + k].toNat := fun h => hA ⟨by omega, h⟩
            clear hA' hA
            go_wp2
            go_step3
            show RJ2 s p w' _ _
            exact ⟨rfl, k, u2, s[p + k].toNat, _, _, _, _, _, _, _, _, _, _, _, _, _, _, _, _, _, _, _, _, _, _, _, _, _, _, _, _, _, _, _, rfl, by omega, by omega, hk, by omega, hb, HU2, HZ, HV⟩
        · have hk8 : k < 9 := by
            rcases Nat.lt_or_ge k 9 with h9 | h9
            · exact h9
            · exact absurd ⟨by omega, by omega⟩ hA
          have HU2 : Hid (u + s[p + k].toNat % 128 * 2 ^ (7 * k) < 2 ^ (7 * (k + 1))) := next_lt HU.out
          have HR2 : Hid (rdAt s.data.toList p = rd (k + 1) (u + s[p + k].toNat % 128 * 2 ^ (7 * k)) (s.data.toList.drop (p + (k + 1)))) := by
            show _ = _
            rw [HR.out, HD.out, rd_more (by omega) hb]; rfl
          generalize u + s[p + k].toNat % 128 * 2 ^ (7 * k) = u2 at hor HU2 HR2
          clear hpl HR HD HU hA
          go_wp2
          go_step3
          show RJ0 s p w' _ _ ∧ _
          exact ⟨⟨rfl, k + 1, u2, _, _, _, _, _, _, _, _, _, _, _, _, _, _, _, _, _, _, _, _, _, _, _, _, _, _, _, _, _, _, _, _, rfl, by omega, by omega, by omega, HU2, HR2⟩, by simp [intOf]; omega⟩
    · have HF : Hid (rdAt s.data.toList p = (0, 0, 4)) := by
        show _ = _
        rw [HR.out, drop_none _ _ (by omega), rd_short]
      go_wp2
      rw [jump3_ret]
      go_ret3
      exact ⟨by rw [HF.out]; rfl, rfl⟩
  · rintro a' w' ⟨rfl, k, u, b, at', kk, u10, u11, u12, u13, u14, u15, u16, u17, u18, u19, u20, u21, u22, u23, u24, u25, u26, u27, u28, u29, u30, u31, u32, u33, u34, u35, u36, u37, u38, rfl, rfl, rfl, hk, hle, hb, HU, HZ, HV⟩
    by_cases hz : b = 0 ∧ 0 < k
    · have HF : Hid (rdAt s.data.toList p = (0, 0, 3)) := HZ.out hz
      obtain ⟨rfl, hk0⟩ := hz
      clear HZ HV HU
      go_wp2
      go_step3
      show RJ1 s p w' _ _
      exact ⟨rfl, _, _, _, _, _, _, _, _, _, _, _, _, _, _, _, _, _, _, _, _, _, _, _, _, _, _, _, _, _, _, _, _, _, _, _, _, _, _, _, _, _, _, _, _, _, _, _, _, _, _, _, _, _, rfl, HF⟩
    · have HF : Hid (rdAt s.data.toList p = (unz u, k + 1, 0)) := HV.out hz
      have hu : u < 18446744073709551616 := HU.out
      have ha1 := u64_and1 u hu
      have hcon : ((b : Int) == 0 && decide (1 < (k : Int) + 1)) = false := by
        rw [Bool.and_eq_false_iff]
        by_cases hb0 : b = 0
        · right; have : ¬ 0 < k := fun h => hz ⟨hb0, h⟩
          simp; omega
        · left; simp; omega
      clear HZ HV HU
      rcases Nat.mod_two_eq_zero_or_one u with hm | hm
      · have HX : Hid (bits .xor .i64 ((u : Int) / 2) 0 = unz u) := unz_even hu (by omega)
        rw [hm] at ha1
        go_wp2
        all_goals
          rw [jump3_ret]
          go_ret3
          exact ⟨ret3n (by rw [HF.out]; exact HX.out) (by rw [HF.out]; simp [behind]; omega) (by rw [HF.out]; rfl), rfl⟩
      · have HX : Hid (bits .xor .i64 ((u : Int) / 2) (-1) = unz u) := unz_odd hu hm
        rw [hm] at ha1
        go_wp2
        all_goals
          rw [jump3_ret]
          go_ret3
          exact ⟨ret3n (by rw [HF.out]; exact HX.out) (by rw [HF.out]; simp [behind]; omega) (by rw [HF.out]; rfl), rfl⟩
  · rintro a' w' ⟨rfl, u1, u2, u3, u4, u5, u6, u7, u8, u9, u10, u11, u12, u13, u14, u15, u16, u17, u18, u19, u20, u21, u22, u23, u24, u25, u26, u27, u28, u29, u30, u31, u32, u33, u34, u35, u36, u37, u38, u39, u40, u41, u42, u43, u44, u45, u46, u47, u48, u49, u50, u51, u52, u53, rfl, HF⟩
    go_wp2
    rw [jump3_ret]
    go_ret3
    exact ⟨by rw [HF.out]; rfl, rfl⟩
theorem readNum_any (s : ByteArray) (p : Nat) (hs : s.size ≤ 20000) (w : World) :
    Calls Try.prog 125 #[.string s, .int .i64 p] w fun e w' => e = .returned (.tuple #[.int .i64 (rdAt s.data.toList p).1, .int .i64 (behind p (rdAt s.data.toList p)), errV (rdAt s.data.toList p).2.2]) ∧ w' = w := readNum_big s p (by omega) w
end Go.Proofs.Ytfhfhpnoeghgmaa

/-
  NumOut as a value, and as a result in its block.
-/
namespace Go.Proofs.Ytfhfhpnoeghgmaa
open Go.RowKit

def nOut (n a c : Int) : Value := .agg #[.int .i64 n, .int .i64 a, .int .i64 c]
theorem resNum {fn : Func} {p : Tmp} (h : fn.results = #[.cell p 165]) (tmps : Array Value) (w : World) (g : Nat) (x y z : Value) (hp : tmps.getD p undef = .pointer (some ⟨g, 0, none⟩))
    (hg : w.heap[g]? = some (.cells #[x, y, z] 165 (0, 0))) : (results fn tmps).run Try.prog w = .ok (.agg #[x, y, z]) w :=
  results_cell_row h tmps w g 165 #[x, y, z] (0, 0) _ hp hg Try.underlying165 rfl (by kernel_rfl)
end Go.Proofs.Ytfhfhpnoeghgmaa

/-
  What GetNum answers. Plain.
-/
namespace Go.Proofs.Ytfhfhpnoeghgmaa
open Go.RowKit

/-- What GetNum answers: the number, the place behind it, the code. -/
def getNum3 (s : ByteArray) (a : Int) : Int × Int × Nat :=
  if 20000 < s.size then (0, 0, 2) else if a < 0 then (0, 0, 1) else ((rdAt s.data.toList a.toNat).1, behind a.toNat (rdAt s.data.toList a.toNat), (rdAt s.data.toList a.toNat).2.2)
def getNumV (s : ByteArray) (a : Int) : Value := nOut (getNum3 s a).1 (getNum3 s a).2.1 (getNum3 s a).2.2

end Go.Proofs.Ytfhfhpnoeghgmaa

/-
  Contracts: readText and GetText of the program.
-/
namespace Go.Proofs.Ytfhfhpnoeghgmaa
open Go.RowKit

theorem rd_count : ∀ (l : List UInt8) (k u : Nat), (rd k u l).2.1 ≤ k + l.length
  | [], k, u => by simp [rd]
  | b :: l, k, u => by
    unfold rd
    split
    · simp
    · split
      · split
        · simp
        · simp
      · have := rd_count l (k + 1) (u + b.toNat % 128 * 2 ^ (7 * k)); simp; omega
/-- What is behind a number that is there lies within the text. -/
theorem behind_le (s : ByteArray) (p : Nat) (h : (rdAt s.data.toList p).2.2 = 0) : 0 ≤ behind p (rdAt s.data.toList p) ∧ behind p (rdAt s.data.toList p) ≤ s.size := by
  unfold behind
  rw [if_pos h]
  have hc := rd_count (s.data.toList.drop p) 0 0
  rw [List.length_drop, len_data] at hc
  have hp : p ≤ s.size := by
    rcases Nat.lt_or_ge s.size p with hlt | hge
    · unfold rdAt at h
      rw [drop_none _ _ (by omega)] at h
      simp [rd] at h
    · exact hge
  have hc' : (rdAt s.data.toList p).2.1 ≤ s.size - p := by unfold rdAt; omega
  omega

/-- The text that stands behind a number that was read: the text, the place behind it, the code. -/
def textOf (s : ByteArray) (n q : Int) (c : Nat) : ByteArray × Int × Nat :=
  if ¬ c = 0 then (ByteArray.empty, 0, c) else if n < 0 ∨ 20000 < n then (ByteArray.empty, 0, 3) else if (s.size : Int) - q < n then (ByteArray.empty, 0, 4)
  else (s.extract q.toNat (q + n).toNat, q + n, 0)

theorem ret3t {t t' : ByteArray} {b b' : Int} {v v' : Value} (h1 : t = t') (h2 : b = b') (h3 : v = v') : Ending.returned (.tuple #[.string t, .int .i64 b, v]) = .returned (.tuple #[.string t', .int .i64 b', v']) := by rw [h1, h2, h3]

set_option maxRecDepth 100000 in
set_option maxHeartbeats 2000000 in
theorem readText_big (s : ByteArray) (p : Nat) (hs : s.size ≤ 1048576) (n q : Int) (c : Nat) (hn : n = (rdAt s.data.toList p).1) (hq : q = behind p (rdAt s.data.toList p)) (hc : c = (rdAt s.data.toList p).2.2) (w : World) :
    Calls Try.prog 117 #[.string s, .int .i64 p] w fun e w' => e = .returned (.tuple #[.string (textOf s n q c).1, .int .i64 (textOf s n q c).2.1, errV (textOf s n q c).2.2]) ∧ Below w.heap.size w w' := by
  have hrd := readNum_big s p hs
  have hbl : c = 0 → 0 ≤ q ∧ q ≤ s.size := fun h => by rw [hq]; exact behind_le s p (by rw [← hc]; exact h)
  rw [← hn, ← hq, ← hc] at hrd
  have HR : Hid (∀ w, Calls Try.prog 125 #[.string s, .int .i64 p] w fun e w' => e = .returned (.tuple #[.int .i64 n, .int .i64 q, errV c]) ∧ w' = w) := hrd
  clear hrd hn hq hc
  by_cases h0 : c = 0
  · obtain ⟨hq0, hq1⟩ := hbl h0
    have HR0 : Hid (∀ w, Calls Try.prog 125 #[.string s, .int .i64 p] w fun e w' => e = .returned (.tuple #[.int .i64 n, .int .i64 q, .nilIface]) ∧ w' = w) := by
      have h := HR.out; rw [h0] at h; exact h
    clear HR hbl
    by_cases h1 : n < 0
    · have H : Hid (textOf s n q c = (ByteArray.empty, 0, 3)) := by show _ = _; unfold textOf; rw [if_neg (by simp [h0]), if_pos (Or.inl h1)]
      go_enter Try.func117, Try.ntmps117
      go_wp2_with fail
      refine (HR0.out _).mono ?_
      rintro e w0 ⟨rfl, rfl⟩
      go_wp2
      go_ret3
      exact ⟨by rw [H.out]; rfl, Below.refl _ _⟩
    by_cases h2 : 20000 < n
    · have H : Hid (textOf s n q c = (ByteArray.empty, 0, 3)) := by show _ = _; unfold textOf; rw [if_neg (by simp [h0]), if_pos (Or.inr h2)]
      go_enter Try.func117, Try.ntmps117
      go_wp2_with fail
      refine (HR0.out _).mono ?_
      rintro e w0 ⟨rfl, rfl⟩
      go_wp2
      go_ret3
      exact ⟨by rw [H.out]; rfl, Below.refl _ _⟩
    by_cases h3 : (s.size : Int) - q < n
    · have H : Hid (textOf s n q c = (ByteArray.empty, 0, 4)) := by show _ = _; unfold textOf; rw [if_neg (by simp [h0]), if_neg (by omega), if_pos h3]
      go_enter Try.func117, Try.ntmps117
      go_wp2_with fail
      refine (HR0.out _).mono ?_
      rintro e w0 ⟨rfl, rfl⟩
      go_wp2
      go_ret3
      exact ⟨by rw [H.out]; rfl, Below.refl _ _⟩
    have H : Hid (textOf s n q c = (s.extract q.toNat (q + n).toNat, q + n, 0)) := by show _ = _; unfold textOf; rw [if_neg (by simp [h0]), if_neg (by omega), if_neg h3]
    have hz : (s.extract q.toNat (q + n).toNat).size ≤ 20000 := by simp; omega
    have h4 : q ≤ q + n := by omega
    have h5 : q + n ≤ s.size := by omega
    clear h0
    go_enter Try.func117, Try.ntmps117
    go_wp2_with fail
    refine (HR0.out _).mono ?_
    rintro e w0 ⟨rfl, rfl⟩
    go_wp2_with fail
    refine (join1 (s.extract q.toNat (q + n).toNat) _ _ _ (by omega) (by simp)).mono ?_
    rintro e w2 ⟨rfl, hb2⟩
    go_wp2
    go_ret3
    exact ⟨by rw [H.out]; rfl, ((Below.refl _ _).alloc (Nat.le_refl _) _).trans (hb2.mono (by simp))⟩
  · have H : Hid (textOf s n q c = (ByteArray.empty, 0, c)) := if_pos h0
    have HR0 : Hid (∀ w, Calls Try.prog 125 #[.string s, .int .i64 p] w fun e w' => e = .returned (.tuple #[.int .i64 n, .int .i64 q, .iface 163 (.agg #[.int .i64 c])]) ∧ w' = w) := by
      have h := HR.out; unfold errV at h; rw [if_neg h0] at h; exact h
    have HE : Hid (errV c = .iface 163 (.agg #[.int .i64 c])) := if_neg h0
    clear HR hbl h0
    go_enter Try.func117, Try.ntmps117
    go_wp2_with fail
    refine (HR0.out _).mono ?_
    rintro e w0 ⟨rfl, rfl⟩
    go_wp2
    go_ret3
    exact ⟨ret3t (by rw [H.out]; rfl) (by rw [H.out]) (by rw [H.out]; exact HE.out.symm), Below.refl _ _⟩
theorem readText_any (s : ByteArray) (p : Nat) (hs : s.size ≤ 20000) (n q : Int) (c : Nat) (hn : n = (rdAt s.data.toList p).1) (hq : q = behind p (rdAt s.data.toList p)) (hc : c = (rdAt s.data.toList p).2.2) (w : World) :
    Calls Try.prog 117 #[.string s, .int .i64 p] w fun e w' => e = .returned (.tuple #[.string (textOf s n q c).1, .int .i64 (textOf s n q c).2.1, errV (textOf s n q c).2.2]) ∧ Below w.heap.size w w' := readText_big s p (by omega) n q c hn hq hc w
end Go.Proofs.Ytfhfhpnoeghgmaa

/-
  TextOut as a value, and as a result in its block.
-/
namespace Go.Proofs.Ytfhfhpnoeghgmaa
open Go.RowKit

def tOut (t : ByteArray) (at' code : Int) : Value := .agg #[.string t, .int .i64 at', .int .i64 code]
theorem resOutT {fn : Func} {p : Tmp} (h : fn.results = #[.cell p 168]) (tmps : Array Value) (w : World) (g : Nat) (x y z : Value) (hp : tmps.getD p undef = .pointer (some ⟨g, 0, none⟩))
    (hg : w.heap[g]? = some (.cells #[x, y, z] 168 (0, 0))) : (results fn tmps).run Try.prog w = .ok (.agg #[x, y, z]) w :=
  results_cell_row h tmps w g 168 #[x, y, z] (0, 0) _ hp hg Try.underlying168 rfl (by kernel_rfl)
end Go.Proofs.Ytfhfhpnoeghgmaa

/-
  What GetText answers. Plain.
-/
namespace Go.Proofs.Ytfhfhpnoeghgmaa
open Go.RowKit

/-- What GetText answers: the text, the place behind it, the code. -/
def getText3 (s : ByteArray) (a : Int) : ByteArray × Int × Nat := textOf s (getNum3 s a).1 (getNum3 s a).2.1 (getNum3 s a).2.2
def getTextV (s : ByteArray) (a : Int) : Value := tOut (getText3 s a).1 (getText3 s a).2.1 (getText3 s a).2.2

end Go.Proofs.Ytfhfhpnoeghgmaa

/-
  The readers' state: plain.
-/
namespace Go.Proofs.Ytfhfhpnoeghgmaa
open Go.RowKit
set_option maxRecDepth 100000

/-- Where the reading stands; none: something was wrong. -/
abbrev St := Option Nat
def rNum (s : ByteArray) : St → Int × St
  | none => (0, none)
  | some p => if (rdAt s.data.toList p).2.2 = 0 then ((rdAt s.data.toList p).1, some (p + (rdAt s.data.toList p).2.1)) else (0, none)
/-- What stands as a text at a place. -/
def txtAt (s : ByteArray) (p : Nat) : ByteArray × Int × Nat := textOf s (rdAt s.data.toList p).1 (behind p (rdAt s.data.toList p)) (rdAt s.data.toList p).2.2
def rTxt (s : ByteArray) : St → ByteArray × St
  | none => (ByteArray.empty, none)
  | some p => if (txtAt s p).2.2 = 0 then ((txtAt s p).1, some (txtAt s p).2.1.toNat) else (ByteArray.empty, none)
def rMany (s : ByteArray) (most : Int) (st : St) : Int × St := if (rNum s st).1 < 0 ∨ most < (rNum s st).1 then (0, none) else rNum s st
def rFlag (s : ByteArray) (st : St) : Bool × St := (decide ((rMany s 1 st).1 = 1), (rMany s 1 st).2)
def rRep {α : Type} (f : St → α × St) : Nat → St → List α × St
  | 0, st => ([], st)
  | k + 1, st => ((rRep f k st).1 ++ [(f (rRep f k st).2).1], (f (rRep f k st).2).2)
def rNums (s : ByteArray) (st : St) : List Int × St := rRep (rNum s) (rMany s 10 st).1.toNat (rMany s 10 st).2
theorem rRep_len {α : Type} (f : St → α × St) (st : St) : ∀ k, (rRep f k st).1.length = k
  | 0 => rfl
  | k + 1 => by simp [rRep, rRep_len f st k]
theorem unz_in (u : Nat) (h : u < 18446744073709551616) : inI64 (unz u) := by
  unfold inI64 unz; split <;> omega
theorem rd_in : ∀ (l : List UInt8) (k u : Nat), k ≤ 9 → u < 2 ^ (7 * k) → inI64 (rd k u l).1
  | [], k, u, _, _ => by simp [rd, inI64]
  | b :: l, k, u, hk, hu => by
    unfold rd
    split
    · simp [inI64]
    · rename_i hA
      split
      · split
        · simp [inI64]
        · exact unz_in _ (sum_lt hk hu hA)
      · rename_i hb
        by_cases h9 : k = 9
        · exact absurd ⟨h9, by omega⟩ hA
        · exact rd_in l (k + 1) _ (by omega) (next_lt hu)
theorem rNum_in (s : ByteArray) (st : St) : inI64 (rNum s st).1 := by
  cases st with
  | none => simp [rNum, inI64]
  | some p =>
    unfold rNum
    simp only
    split
    · exact rd_in _ 0 0 (by omega) (by simp)
    · simp [inI64]
theorem rMany_in (s : ByteArray) (most : Int) (st : St) (h : 0 ≤ most) : 0 ≤ (rMany s most st).1 ∧ (rMany s most st).1 ≤ most := by
  unfold rMany
  split
  · exact ⟨Int.le_refl _, h⟩
  · omega
theorem rNum_place (s : ByteArray) (st : St) (p' : Nat) (h : (rNum s st).2 = some p') : p' ≤ s.size := by
  cases st with
  | none => simp [rNum] at h
  | some p =>
    unfold rNum at h
    simp only at h
    split at h
    · rename_i h0
      simp only [Option.some.injEq] at h
      have := behind_le s p h0
      unfold behind at this
      rw [if_pos h0] at this
      omega
    · simp at h
theorem txt_place (s : ByteArray) (p : Nat) (h : (txtAt s p).2.2 = 0) : 0 ≤ (txtAt s p).2.1 ∧ (txtAt s p).2.1 ≤ s.size := by
  unfold txtAt textOf at *
  split at h
  · rename_i hc; exact absurd h hc
  · rename_i hc
    split at h
    · simp at h
    · split at h
      · simp at h
      · rename_i h1 h2
        rw [if_neg hc, if_neg h1, if_neg h2]
        have := behind_le s p (by simpa using hc)
        simp only
        omega
theorem rTxt_place (s : ByteArray) (st : St) (p' : Nat) (h : (rTxt s st).2 = some p') : p' ≤ s.size := by
  cases st with
  | none => simp [rTxt] at h
  | some p =>
    unfold rTxt at h
    simp only at h
    split at h
    · rename_i h0
      simp only [Option.some.injEq] at h
      have := txt_place s p h0
      omega
    · simp at h
end Go.Proofs.Ytfhfhpnoeghgmaa
