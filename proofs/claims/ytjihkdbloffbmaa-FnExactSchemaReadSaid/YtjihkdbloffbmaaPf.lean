/-
  Contracts and plain laws, part 6 of 6: SRight, SSpec, RdF, SMark3, SMark4, RdF2, RdLaw
-/
import Derived.Test.YtjihkdbloffbmaaPe

/-
  Contracts: is a schema right? The program's answer.
-/
namespace Go.Proofs.Ytjihkdbloffbmaa
open Go.RowKit
set_option maxRecDepth 100000

def keyOk (s : Sch) : Bool := isCols s.cols.length s.key && upto (keyAt s) s.key.length
def idxOk (s : Sch) : Bool := decide (s.idx.length ≤ 4) && upto (idxAt s) s.idx.length
theorem and7 : ∀ a b c d e f g : Bool, (a && b && c && d && e && f && g) = ((b && e) && a && (c && f) && (d && g)) := by decide
theorem schRight_eq (s : Sch) : schRight s = (colsOk s.cols && nameOk s.name.data.toList && keyOk s && idxOk s) := by
  unfold schRight colsOk keyOk idxOk; exact and7 _ _ _ _ _ _ _
theorem cells4a (w : World) (a b c d : Value) (t : TypeId) : (w.alloc (.cells #[a, b, c, d] t)).cell? ⟨w.heap.size, 0, none⟩ = some a ∧ (w.alloc (.cells #[a, b, c, d] t)).cell? ⟨w.heap.size, 1, none⟩ = some b ∧ (w.alloc (.cells #[a, b, c, d] t)).cell? ⟨w.heap.size, 2, none⟩ = some c ∧ (w.alloc (.cells #[a, b, c, d] t)).cell? ⟨w.heap.size, 3, none⟩ = some d := by
  have h := heap_alloc_new w (.cells #[a, b, c, d] t)
  exact ⟨by rw [cell_of_row _ _ _ _ _ _ h]; rfl, by rw [cell_of_row _ _ _ _ _ _ h]; rfl, by rw [cell_of_row _ _ _ _ _ _ h]; rfl, by rw [cell_of_row _ _ _ _ _ _ h]; rfl⟩
set_option maxHeartbeats 2000000 in
theorem keyRight_any (A B : Nat) (ao : Option Addr) (c1 : Nat) (ko : Option Addr) (c2 : Nat) (xo : Option Addr) (c3 : Nat) (s : Sch) (w : World) (hB : B ≤ w.heap.size) (hr : SchRow w A B ao ko xo c2 s) :
    Calls Try.prog 91 #[.agg #[.string s.name, .slice ao s.cols.length c1, .slice ko s.key.length c2, .slice xo s.idx.length c3]] w fun e w' => e = .returned (.bool (keyOk s)) ∧ Below w.heap.size w w' := by
  obtain ⟨nm, cs, ky, xs⟩ := s
  simp only
  obtain ⟨⟨hn0, hn1, hn2, hn3⟩, hr1, hr2, hr3⟩ := hr
  simp only at hn0 hn1 hn2 hn3 hr1 hr2 hr3
  obtain ⟨hk1, hk2⟩ := hn2
  have B0 : Hid (Below w.heap.size w (w.alloc (.cells #[.string nm, .slice ao cs.length c1, .slice ko ky.length c2, .slice xo xs.length c3] 27))) := (Below.refl _ _).alloc (Nat.le_refl _) _
  have R1 : Hid (ColRow (w.alloc (.cells #[.string nm, .slice ao cs.length c1, .slice ko ky.length c2, .slice xo xs.length c3] 27)) A B ao cs) := hr1.kept (B0.out.mono hB)
  have R2 : Hid (IntRow (w.alloc (.cells #[.string nm, .slice ao cs.length c1, .slice ko ky.length c2, .slice xo xs.length c3] 27)) A B ko ky) := hr2.kept (B0.out.mono hB)
  have hca := areColumns_any A B ko c2 ky cs.length _ hk1 hk2 R2.out
  clear hr1 hr2 hr3 hn0 hn3
  unfold maxLen at hn1 hk2
  cases hic : isCols cs.length ky with
  | false =>
    rw [hic] at hca
    have HC : Hid (Calls Try.prog 124 #[.slice ko ky.length c2, .int .i64 cs.length] (w.alloc (.cells #[.string nm, .slice ao cs.length c1, .slice ko ky.length c2, .slice xo xs.length c3] 27)) fun e w' => e = .returned (.bool false) ∧ w' = (w.alloc (.cells #[.string nm, .slice ao cs.length c1, .slice ko ky.length c2, .slice xo xs.length c3] 27))) := hca
    have HF : Hid (keyOk ⟨nm, cs, ky, xs⟩ = false) := by show _ = _; unfold keyOk; simp only; rw [hic]; rfl
    clear hca hic R1 R2
    go_enter Try.func91, Try.ntmps91
    go_wp2_with fail
    refine HC.out.mono ?_
    rintro e w1 ⟨rfl, rfl⟩
    go_wp2
    go_ret
    exact ⟨ret_bool HF.out.symm, B0.out⟩
  | true =>
    rw [hic] at hca
    have HC : Hid (Calls Try.prog 124 #[.slice ko ky.length c2, .int .i64 cs.length] (w.alloc (.cells #[.string nm, .slice ao cs.length c1, .slice ko ky.length c2, .slice xo xs.length c3] 27)) fun e w' => e = .returned (.bool true) ∧ w' = (w.alloc (.cells #[.string nm, .slice ao cs.length c1, .slice ko ky.length c2, .slice xo xs.length c3] 27))) := hca
    have HI : Hid (isCols cs.length ky = true) := hic
    have HV : Hid (keyOk ⟨nm, cs, ky, xs⟩ = upto (keyAt ⟨nm, cs, ky, xs⟩) ky.length) := by show _ = _; unfold keyOk; simp only; rw [hic]; rfl
    clear hca hic
    obtain ⟨x0, x1, x2, x3⟩ := cells4a w (.string nm) (.slice ao cs.length c1) (.slice ko ky.length c2) (.slice xo xs.length c3) 27
    go_enter Try.func91, Try.ntmps91
    go_wp2_with fail
    refine HC.out.mono ?_
    rintro e w1 ⟨rfl, rfl⟩
    clear HC
    go_wp2
    generalize w.alloc (.cells #[.string nm, .slice ao cs.length c1, .slice ko ky.length c2, .slice xo xs.length c3] 27) = W0 at *
    go_loop [15] (fun i => ∃ j : Nat, j ≤ ky.length ∧ i = .int .i64 j ∧ Hid (upto (keyAt ⟨nm, cs, ky, xs⟩) j = true)) (fun i => ky.length - (intOf i).toNat)
    case atStart => exact ⟨0, Nat.zero_le _, rfl, rfl⟩
    case round =>
      obtain ⟨j, hj, rfl, HU⟩ := hrel
      by_cases hlt : j < ky.length
      · obtain ⟨b, off, x, rfl, hbB, hv, hx, d0⟩ := R2.out.at j hlt
        have hxr := isCols_at HI.out j hlt
        rw [hv] at hxr
        obtain ⟨m, rfl⟩ : ∃ m : Nat, x = (m : Int) := ⟨x.toNat, by omega⟩
        have hm : m < cs.length := by omega
        obtain ⟨b1, off1, n1, kd, nu, rfl, hbB1, hv1, htt, hki, e0, e1, e2⟩ := R1.out.at m hm
        have HK : Hid (keyAt ⟨nm, cs, ky, xs⟩ j = !nu) := by
          show _ = _
          unfold keyAt; simp only; rw [hv, Int.toNat_natCast, hv1]
        clear hv hx hxr hv1 hki htt
        cases nu with
        | true =>
          have HF : Hid (keyOk ⟨nm, cs, ky, xs⟩ = false) := by show _ = _; rw [HV.out]; exact upto_false hlt HK.out
          clear HV HK HU
          go_wp2
          go_ret
          exact ⟨ret_bool HF.out.symm, B0.out⟩
        | false =>
          have HU2 : Hid (upto (keyAt ⟨nm, cs, ky, xs⟩) (j + 1) = true) := by show _ = _; rw [upto_succ, HU.out, HK.out]; rfl
          clear HK HU
          go_wp2
          go_round
          case rel => exact ⟨j + 1, by omega, by go_num, HU2⟩
          case measure => simp [intOf]; omega
      · obtain rfl : j = ky.length := by omega
        have HF : Hid (keyOk ⟨nm, cs, ky, xs⟩ = true) := by show _ = _; rw [HV.out]; exact HU.out
        go_wp2
        go_ret
        exact ⟨ret_bool HF.out.symm, B0.out⟩
set_option maxHeartbeats 2000000 in
theorem indexesRight_any (A B : Nat) (ao : Option Addr) (c1 : Nat) (ko : Option Addr) (c2 : Nat) (xo : Option Addr) (c3 : Nat) (s : Sch) (w : World) (hB : B ≤ w.heap.size) (hr : SchRow w A B ao ko xo c2 s) :
    Calls Try.prog 92 #[.agg #[.string s.name, .slice ao s.cols.length c1, .slice ko s.key.length c2, .slice xo s.idx.length c3]] w fun e w' => e = .returned (.bool (idxOk s)) ∧ Below w.heap.size w w' := by
  obtain ⟨nm, cs, ky, xs⟩ := s
  simp only
  obtain ⟨⟨hn0, hn1, hn2, hn3⟩, hr1, hr2, hr3⟩ := hr
  simp only at hn0 hn1 hn2 hn3 hr1 hr2 hr3
  have B0 : Hid (Below w.heap.size w (w.alloc (.cells #[.string nm, .slice ao cs.length c1, .slice ko ky.length c2, .slice xo xs.length c3] 27))) := (Below.refl _ _).alloc (Nat.le_refl _) _
  have R3 : Hid (IdxRow (w.alloc (.cells #[.string nm, .slice ao cs.length c1, .slice ko ky.length c2, .slice xo xs.length c3] 27)) A B xo xs) := hr3.kept (B0.out.mono hB)
  clear hr1 hr2 hr3 hn0 hn2
  unfold maxLen at hn1 hn3
  by_cases h4 : 4 < xs.length
  · have HF : Hid (idxOk ⟨nm, cs, ky, xs⟩ = false) := by show _ = _; unfold idxOk; simp [show ¬ (xs.length ≤ 4) by omega]
    go_enter Try.func92, Try.ntmps92
    go_wp2
    go_ret
    exact ⟨ret_bool HF.out.symm, B0.out⟩
  · have HV : Hid (idxOk ⟨nm, cs, ky, xs⟩ = upto (idxAt ⟨nm, cs, ky, xs⟩) xs.length) := by show _ = _; unfold idxOk; simp [show xs.length ≤ 4 by omega]
    obtain ⟨x0, x1, x2, x3⟩ := cells4a w (.string nm) (.slice ao cs.length c1) (.slice ko ky.length c2) (.slice xo xs.length c3) 27
    have hs0 : w.heap.size < (w.alloc (.cells #[.string nm, .slice ao cs.length c1, .slice ko ky.length c2, .slice xo xs.length c3] 27)).heap.size := by simp
    go_enter Try.func92, Try.ntmps92
    go_wp2
    generalize w.alloc (.cells #[.string nm, .slice ao cs.length c1, .slice ko ky.length c2, .slice xo xs.length c3] 27) = W0 at *
    go_loopw [12] (fun i wr => ∃ j : Nat, j ≤ xs.length ∧ i = .int .i64 j ∧ Hid (upto (idxAt ⟨nm, cs, ky, xs⟩) j = true) ∧ Below W0.heap.size W0 wr) (fun i _ => xs.length - (intOf i).toNat)
    case atStart => exact ⟨0, Nat.zero_le _, rfl, rfl, Below.refl _ _⟩
    case round =>
      obtain ⟨j, hj, rfl, HU, hb⟩ := hrel
      have y1 : wr.cell? ⟨w.heap.size, 1, none⟩ = some (.slice ao cs.length c1) := (hb.cell (p := ⟨_, _, none⟩) hs0).trans x1
      have hz := hb.size
      have hzz : w.heap.size < wr.heap.size := by omega
      have hzn : ¬ (w.heap.size = wr.heap.size) := by omega
      by_cases hlt : j < xs.length
      · obtain ⟨b, off, io, cp, l, u, rfl, hbB, hv, hcp, hir, d0, d1⟩ := (R3.out.kept (hb.mono (Nat.le_trans hB B0.out.size))).at j hlt
        have HK : Hid (idxAt ⟨nm, cs, ky, xs⟩ j = isCols cs.length l) := by show _ = _; unfold idxAt; simp only; rw [hv]
        have hca := areColumns_any A B io cp l cs.length (wr.alloc (.cells #[.slice io l.length cp, .bool u] 83)) hcp.1 hcp.2 (hir.kept ((Below.refl _ _).alloc (by have := B0.out.size; omega) _))
        clear hv hir hcp
        cases hic : isCols cs.length l with
        | false =>
          rw [hic] at hca
          have HC : Hid (Calls Try.prog 124 #[.slice io l.length cp, .int .i64 cs.length] (wr.alloc (.cells #[.slice io l.length cp, .bool u] 83)) fun e w' => e = .returned (.bool false) ∧ w' = (wr.alloc (.cells #[.slice io l.length cp, .bool u] 83))) := hca
          have HF : Hid (idxOk ⟨nm, cs, ky, xs⟩ = false) := by show _ = _; rw [HV.out]; exact upto_false hlt (HK.out.trans hic)
          have B2 : Hid (Below w.heap.size w (wr.alloc (.cells #[.slice io l.length cp, .bool u] 83))) := (B0.out.trans (hb.mono B0.out.size)).alloc (by omega) _
          clear hca hic HV HK HU
          go_wp2_with fail
          refine HC.out.mono ?_
          rintro e w1 ⟨rfl, rfl⟩
          go_wp2
          go_ret
          exact ⟨ret_bool HF.out.symm, B2.out⟩
        | true =>
          rw [hic] at hca
          have HC : Hid (Calls Try.prog 124 #[.slice io l.length cp, .int .i64 cs.length] (wr.alloc (.cells #[.slice io l.length cp, .bool u] 83)) fun e w' => e = .returned (.bool true) ∧ w' = (wr.alloc (.cells #[.slice io l.length cp, .bool u] 83))) := hca
          have HU2 : Hid (upto (idxAt ⟨nm, cs, ky, xs⟩) (j + 1) = true) := by show _ = _; rw [upto_succ, HU.out, HK.out, hic]; rfl
          have B2 : Hid (Below W0.heap.size W0 (wr.alloc (.cells #[.slice io l.length cp, .bool u] 83))) := hb.alloc hb.size _
          clear hca hic HK HU
          go_wp2_with fail
          refine HC.out.mono ?_
          rintro e w1 ⟨rfl, rfl⟩
          clear hb y1 d0 d1 HC hz hzz hzn
          go_wp2
          go_roundw
          case rel => exact ⟨j + 1, by omega, by go_num, HU2, B2.out⟩
          case measure => simp [intOf]; omega
      · obtain rfl : j = xs.length := by omega
        have HF : Hid (idxOk ⟨nm, cs, ky, xs⟩ = true) := by show _ = _; rw [HV.out]; exact HU.out
        go_wp2
        go_ret
        exact ⟨ret_bool HF.out.symm, B0.out.trans (hb.mono B0.out.size)⟩
set_option maxHeartbeats 2000000 in
theorem schemaNumbers_any (A B : Nat) (ao : Option Addr) (c1 : Nat) (ko : Option Addr) (c2 : Nat) (xo : Option Addr) (c3 : Nat) (s : Sch) (w : World) (hB : B ≤ w.heap.size) (hr : SchRow w A B ao ko xo c2 s) :
    Calls Try.prog 53 #[.agg #[.string s.name, .slice ao s.cols.length c1, .slice ko s.key.length c2, .slice xo s.idx.length c3]] w fun e w' => MapRes e (schRight s) ∧ Below w.heap.size w w' := by
  have HR : Hid (SchRow w A B ao ko xo c2 s) := hr
  have HS : Hid (schRight s = (colsOk s.cols && nameOk s.name.data.toList && keyOk s && idxOk s)) := schRight_eq s
  have hkr := fun (W : World) (hb : Below w.heap.size w W) => keyRight_any A B ao c1 ko c2 xo c3 s W (Nat.le_trans hB hb.size) (hr.kept (hb.mono hB))
  have hir := fun (W : World) (hb : Below w.heap.size w W) => indexesRight_any A B ao c1 ko c2 xo c3 s W (Nat.le_trans hB hb.size) (hr.kept (hb.mono hB))
  have hnr := fun (W : World) => implName_any s.name W
  have hnb := fun (W : World) (hb : Below w.heap.size w W) => numbersByName_any A B ao c1 s.cols W (Nat.le_trans hB hb.size) hr.1.2.1 (hr.2.1.kept (hb.mono hB))
  generalize keyOk s = qk at *
  generalize idxOk s = qi at *
  generalize nameOk s.name.data.toList = qn at *
  generalize colsOk s.cols = qc at *
  generalize schRight s = q at *
  obtain ⟨nm, cs, ky, xs⟩ := s
  simp only at hkr hir hnr hnb ⊢
  have HK : Hid (∀ (W : World), Below w.heap.size w W → Calls Try.prog 91 #[.agg #[.string nm, .slice ao cs.length c1, .slice ko ky.length c2, .slice xo xs.length c3]] W fun e w' => e = .returned (.bool qk) ∧ Below W.heap.size W w') := hkr
  have HI : Hid (∀ (W : World), Below w.heap.size w W → Calls Try.prog 92 #[.agg #[.string nm, .slice ao cs.length c1, .slice ko ky.length c2, .slice xo xs.length c3]] W fun e w' => e = .returned (.bool qi) ∧ Below W.heap.size W w') := hir
  have HN : Hid (∀ (W : World), Calls Try.prog 90 #[.string nm] W fun e w' => e = .returned (.bool qn) ∧ w' = W) := hnr
  have B0 : Hid (Below w.heap.size w (w.alloc (.cells #[.string nm, .slice ao cs.length c1, .slice ko ky.length c2, .slice xo xs.length c3] 27))) := (Below.refl _ _).alloc (Nat.le_refl _) _
  have HB : Hid (∀ (W : World), Below w.heap.size w W → Calls Try.prog 89 #[.slice ao cs.length c1] W fun e w' => MapRes e qc ∧ Below W.heap.size W w') := hnb
  clear hkr hir hnr hnb hr HR
  go_enter Try.func53, Try.ntmps53
  go_wp2_with fail
  refine (HB.out _ B0.out).mono ?_
  rintro e w1 ⟨⟨mo, rfl⟩, hb1⟩
  have X1 : Hid (w1.heap[w.heap.size]? = some (.cells #[.string nm, .slice ao cs.length c1, .slice ko ky.length c2, .slice xo xs.length c3] 27 (0, 0))) := (hb1.block _ (by simp)).trans (heap_alloc_new _ _)
  obtain ⟨x0, x1, x2, x3, xf⟩ := cells4 X1.out
  have hs1 : w.heap.size < w1.heap.size := by have := hb1.size; simp at this; omega
  have B1 : Hid (Below w.heap.size w w1) := B0.out.trans (hb1.mono B0.out.size)
  clear hb1 B0 HB
  cases qc with
  | false =>
    have HF : Hid (q = false) := by show _ = _; rw [HS.out]; rfl
    clear HS
    go_wp2
    go_ret2
    exact ⟨⟨none, by rw [HF.out]; rfl⟩, B1.out⟩
  | true =>
    cases qn with
    | false =>
      have HF : Hid (q = false) := by show _ = _; rw [HS.out]; rfl
      clear HS
      go_wp2_with (go_at_call 90; refine (HN.out _).mono ?_; rintro e w2 ⟨rfl, rfl⟩)
      go_ret2
      exact ⟨⟨none, by rw [HF.out]; rfl⟩, B1.out⟩
    | true =>
      cases qk with
      | false =>
        have HF : Hid (q = false) := by show _ = _; rw [HS.out]; rfl
        clear HS
        go_wp2_with (first | (go_at_call 90; refine (HN.out _).mono ?_; rintro e w2 ⟨rfl, rfl⟩) | (go_at_call 91; refine (HK.out _ B1.out).mono ?_; rintro e w3 ⟨rfl, hb3⟩))
        go_ret2
        exact ⟨⟨none, by rw [HF.out]; rfl⟩, B1.out.trans (hb3.mono B1.out.size)⟩
      | true =>
        cases qi with
        | false =>
          have HF : Hid (q = false) := by show _ = _; rw [HS.out]; rfl
          clear HS
          go_wp2_with (first | (go_at_call 90; refine (HN.out _).mono ?_; rintro e w2 ⟨rfl, rfl⟩) | (go_at_call 91; refine (HK.out _ B1.out).mono ?_; rintro e w3 ⟨rfl, hb3⟩; obtain ⟨hc3, hf3⟩ := bcell hb3; have B3 : Hid (Below w.heap.size w w3) := B1.out.trans (hb3.mono B1.out.size)) | (go_at_call 92; refine (HI.out _ B3.out).mono ?_; rintro e w4 ⟨rfl, hb4⟩))
          go_ret2
          exact ⟨⟨none, by rw [HF.out]; rfl⟩, B3.out.trans (hb4.mono B3.out.size)⟩
        | true =>
          have HF : Hid (q = true) := by show _ = _; rw [HS.out]; rfl
          clear HS
          go_wp2_with (first | (go_at_call 90; refine (HN.out _).mono ?_; rintro e w2 ⟨rfl, rfl⟩) | (go_at_call 91; refine (HK.out _ B1.out).mono ?_; rintro e w3 ⟨rfl, hb3⟩; obtain ⟨hc3, hf3⟩ := bcell hb3; have B3 : Hid (Below w.heap.size w w3) := B1.out.trans (hb3.mono B1.out.size)) | (go_at_call 92; refine (HI.out _ B3.out).mono ?_; rintro e w4 ⟨rfl, hb4⟩))
          go_ret2
          exact ⟨⟨_, by rw [HF.out]; rfl⟩, B3.out.trans (hb4.mono B3.out.size)⟩
theorem implSchemaRight_any (A B : Nat) (ao : Option Addr) (c1 : Nat) (ko : Option Addr) (c2 : Nat) (xo : Option Addr) (c3 : Nat) (s : Sch) (w : World) (hB : B ≤ w.heap.size) (hr : SchRow w A B ao ko xo c2 s) :
    Calls Try.prog 13 #[.agg #[.string s.name, .slice ao s.cols.length c1, .slice ko s.key.length c2, .slice xo s.idx.length c3]] w fun e w' => e = .returned (.bool (schRight s)) ∧ Below w.heap.size w w' := by
  have B0 : Hid (Below w.heap.size w (w.alloc (.cells #[.string s.name, .slice ao s.cols.length c1, .slice ko s.key.length c2, .slice xo s.idx.length c3] 27))) := (Below.refl _ _).alloc (Nat.le_refl _) _
  have hsn := schemaNumbers_any A B ao c1 ko c2 xo c3 s _ (Nat.le_trans hB B0.out.size) (hr.kept (B0.out.mono hB))
  generalize schRight s = q at *
  obtain ⟨nm, cs, ky, xs⟩ := s
  simp only at *
  have HSN : Hid (Calls Try.prog 53 #[.agg #[.string nm, .slice ao cs.length c1, .slice ko ky.length c2, .slice xo xs.length c3]] (w.alloc (.cells #[.string nm, .slice ao cs.length c1, .slice ko ky.length c2, .slice xo xs.length c3] 27)) fun e w' => MapRes e q ∧ Below (w.alloc (.cells #[.string nm, .slice ao cs.length c1, .slice ko ky.length c2, .slice xo xs.length c3] 27)).heap.size (w.alloc (.cells #[.string nm, .slice ao cs.length c1, .slice ko ky.length c2, .slice xo xs.length c3] 27)) w') := hsn
  clear hsn hr
  go_enter Try.func13, Try.ntmps13
  go_wp2_with fail
  refine HSN.out.mono ?_
  rintro e w1 ⟨⟨mo, rfl⟩, hb1⟩
  have B1 : Hid (Below w.heap.size w w1) := B0.out.trans (hb1.mono B0.out.size)
  clear hb1 HSN B0
  go_wp2
  go_ret
  exact ⟨rfl, B1.out⟩
end Go.Proofs.Ytjihkdbloffbmaa

/-
  Contracts: is a schema right? The specification's answer.
-/
namespace Go.Proofs.Ytjihkdbloffbmaa
open Go.RowKit
set_option maxRecDepth 100000

theorem and7f : ∀ a b c d e f g : Bool, (a = false ∨ b = false ∨ c = false ∨ d = false ∨ e = false ∨ f = false ∨ g = false) → (a && b && c && d && e && f && g) = false := by
  intro a b c d e f g h
  rcases h with rfl | rfl | rfl | rfl | rfl | rfl | rfl <;> simp
theorem str_ne {a b : ByteArray} (h : a ≠ b) : (a.toList == b.toList) = false := by
  rw [Bool.eq_false_iff]
  intro e
  rw [beq_iff_eq, ByteArray.toList_eq, ByteArray.toList_eq] at e
  exact h (ba_extS e)
set_option maxHeartbeats 4000000 in
theorem specSchemaRight_any (A B : Nat) (ao : Option Addr) (c1 : Nat) (ko : Option Addr) (c2 : Nat) (xo : Option Addr) (c3 : Nat) (s : Sch) (w : World) (hB : B ≤ w.heap.size) (hr : SchRow w A B ao ko xo c2 s) :
    Calls Try.prog 22 #[.agg #[.string s.name, .slice ao s.cols.length c1, .slice ko s.key.length c2, .slice xo s.idx.length c3]] w fun e w' => e = .returned (.bool (schRight s)) ∧ Below w.heap.size w w' := by
  have hkr := fun (W : World) (hb : Below w.heap.size w W) => specColumns_any A B ko c2 s.key s.cols.length W (Nat.le_trans hB hb.size) (Nat.le_trans hr.1.2.2.1.1 hr.1.2.2.1.2) (hr.2.2.1.kept (hb.mono hB))
  have hnr := fun (W : World) => specName_any s.name W
  obtain ⟨⟨hn0, hn1, hn2, hn3⟩, hr1, hr2, hr3⟩ := hr
  have HS : Hid (schRight s = (nameOk s.name.data.toList && manyOk s.cols.length && isCols s.cols.length s.key && decide (s.idx.length ≤ 4) && upto (colOk s.cols) s.cols.length && upto (keyAt s) s.key.length && upto (idxAt s) s.idx.length)) := rfl
  have HI : Hid (isCols s.cols.length s.key = isCols s.cols.length s.key) := rfl
  generalize nameOk s.name.data.toList = qn at *
  generalize hqk : isCols s.cols.length s.key = qk at *
  generalize hq : schRight s = q at *
  obtain ⟨nm, cs, ky, xs⟩ := s
  simp only at *
  have HN : Hid (∀ (W : World), Calls Try.prog 67 #[.string nm] W fun e w' => e = .returned (.bool qn) ∧ w' = W) := hnr
  have HC : Hid (∀ (W : World), Below w.heap.size w W → Calls Try.prog 68 #[.slice ko ky.length c2, .int .i64 cs.length] W fun e w' => e = .returned (.bool qk) ∧ Below W.heap.size W w') := hkr
  have HQ : Hid (isCols cs.length ky = qk) := hqk
  have R1 : Hid (ColRow w A B ao cs) := hr1
  have R2 : Hid (IntRow w A B ko ky) := hr2
  have R3 : Hid (IdxRow w A B xo xs) := hr3
  have B0 : Hid (Below w.heap.size w (w.alloc (.cells #[.string nm, .slice ao cs.length c1, .slice ko ky.length c2, .slice xo xs.length c3] 27))) := (Below.refl _ _).alloc (Nat.le_refl _) _
  clear hr1 hr2 hr3 hkr hnr hqk hq HI
  obtain ⟨hk1, hk2⟩ := hn2
  unfold maxLen at hn0 hn1 hk2 hn3
  cases qn with
  | false =>
    have HF : Hid (q = false) := by show _ = _; rw [HS.out]; exact and7f _ _ _ _ _ _ _ (.inl rfl)
    clear HS
    go_enter Try.func22, Try.ntmps22
    go_wp2_with (go_at_call 67; refine (HN.out _).mono ?_; rintro e w2 ⟨rfl, rfl⟩)
    go_ret
    exact ⟨ret_bool HF.out.symm, B0.out⟩
  | true =>
    by_cases h1 : cs.length < 1
    · have HF : Hid (q = false) := by show _ = _; rw [HS.out]; exact and7f _ _ _ _ _ _ _ (.inr (.inl (by unfold manyOk; simp [show ¬ (1 ≤ cs.length) by omega])))
      clear HS
      go_enter Try.func22, Try.ntmps22
      go_wp2_with (go_at_call 67; refine (HN.out _).mono ?_; rintro e w2 ⟨rfl, rfl⟩)
      go_ret
      exact ⟨ret_bool HF.out.symm, B0.out⟩
    · by_cases h2 : 10 < cs.length
      · have HF : Hid (q = false) := by show _ = _; rw [HS.out]; exact and7f _ _ _ _ _ _ _ (.inr (.inl (by unfold manyOk; simp [show ¬ (cs.length ≤ 10) by omega])))
        clear HS
        go_enter Try.func22, Try.ntmps22
        go_wp2_with (go_at_call 67; refine (HN.out _).mono ?_; rintro e w2 ⟨rfl, rfl⟩)
        go_ret
        exact ⟨ret_bool HF.out.symm, B0.out⟩
      · cases qk with
        | false =>
          have HF : Hid (q = false) := by show _ = _; rw [HS.out]; exact and7f _ _ _ _ _ _ _ (.inr (.inr (.inl rfl)))
          clear HS
          go_enter Try.func22, Try.ntmps22
          go_wp2_with (first | (go_at_call 67; refine (HN.out _).mono ?_; rintro e w2 ⟨rfl, rfl⟩) | (go_at_call 68; refine (HC.out _ B0.out).mono ?_; rintro e w3 ⟨rfl, hb3⟩))
          go_ret
          exact ⟨ret_bool HF.out.symm, B0.out.trans (hb3.mono B0.out.size)⟩
        | true =>
          by_cases h4 : 4 < xs.length
          · have HF : Hid (q = false) := by show _ = _; rw [HS.out]; exact and7f _ _ _ _ _ _ _ (.inr (.inr (.inr (.inl (by simp [show ¬ (xs.length ≤ 4) by omega])))))
            clear HS
            go_enter Try.func22, Try.ntmps22
            go_wp2_with (first | (go_at_call 67; refine (HN.out _).mono ?_; rintro e w2 ⟨rfl, rfl⟩) | (go_at_call 68; refine (HC.out _ B0.out).mono ?_; rintro e w3 ⟨rfl, hb3⟩; obtain ⟨hc3, hf3⟩ := bcell hb3))
            go_ret
            exact ⟨ret_bool HF.out.symm, B0.out.trans (hb3.mono B0.out.size)⟩
          · have HV : Hid (q = (upto (colOk cs) cs.length && upto (keyAt ⟨nm, cs, ky, xs⟩) ky.length && upto (idxAt ⟨nm, cs, ky, xs⟩) xs.length)) := by
              show _ = _
              rw [HS.out]
              unfold manyOk
              simp [show 1 ≤ cs.length by omega, show cs.length ≤ 10 by omega, show xs.length ≤ 4 by omega]
            clear HS
            go_enter Try.func22, Try.ntmps22
            go_wp2_with (first | (go_at_call 67; refine (HN.out _).mono ?_; rintro e w2 ⟨rfl, rfl⟩) | (go_at_call 68; refine (HC.out _ B0.out).mono ?_; rintro e w3 ⟨rfl, hb3⟩; obtain ⟨hc3, hf3⟩ := bcell hb3))
            have X3 : Hid (w3.heap[w.heap.size]? = some (.cells #[.string nm, .slice ao cs.length c1, .slice ko ky.length c2, .slice xo xs.length c3] 27 (0, 0))) := (hb3.block _ (by simp)).trans (heap_alloc_new _ _)
            have B3 : Hid (Below w.heap.size w w3) := B0.out.trans (hb3.mono B0.out.size)
            have hs3 : w.heap.size < w3.heap.size := by have := hb3.size; simp at this; omega
            clear hc3 hf3 hb3 B0 HN HC
            go_loopw [4] (fun i wr => ∃ j : Nat, j ≤ cs.length ∧ i = .int .i64 j ∧ Hid (upto (colOk cs) j = true) ∧ Below w3.heap.size w3 wr) (fun i _ => cs.length - (intOf i).toNat)
            case atStart => exact ⟨0, Nat.zero_le _, rfl, rfl, Below.refl _ _⟩
            case round =>
              obtain ⟨j, hj, rfl, HU, hb⟩ := hrel
              obtain ⟨x0, x1, x2, x3, xf⟩ := cells4 ((hb.block _ hs3).trans X3.out)
              have hz : w.heap.size < wr.heap.size := by have := hb.size; omega
              by_cases hlt : j < cs.length
              · obtain ⟨b, off, cn, kd, nu, rfl, hbB, hv, htt, hki, d0, d1, d2⟩ := (R1.out.kept ((B3.out.trans (hb.mono B3.out.size)).mono hB)).at j hlt
                have HX : Hid (cs.getD j noCol = ⟨cn, kd, nu⟩) := hv
                have hc0 := fun w => specName_any cn w
                clear hv hki htt x0 x2 x3 xf
                cases hnm : nameOk cn.data.toList with
                | false =>
                  rw [hnm] at hc0
                  have HCn : Hid (∀ w, Calls Try.prog 67 #[.string cn] w fun e w' => e = .returned (.bool false) ∧ w' = w) := hc0
                  have HF : Hid (q = false) := by show _ = _; rw [HV.out, upto_false hlt (colOk_name HX.out hnm)]; rfl
                  have BF : Hid (Below w.heap.size w (wr.alloc (.cells #[.string cn, .int .i64 kd, .bool nu] 78))) := (B3.out.trans (hb.mono B3.out.size)).alloc (by omega) _
                  clear hc0 hnm HV HX HU
                  go_wp2_with (go_at_call 67; refine (HCn.out _).mono ?_; rintro e w4 ⟨rfl, rfl⟩)
                  go_ret
                  exact ⟨ret_bool HF.out.symm, BF.out⟩
                | true =>
                  rw [hnm] at hc0
                  have HCn : Hid (∀ w, Calls Try.prog 67 #[.string cn] w fun e w' => e = .returned (.bool true) ∧ w' = w) := hc0
                  clear hc0
                  by_cases hkd : kd ≤ 0 ∨ 3 < kd
                  · have HF : Hid (q = false) := by show _ = _; rw [HV.out, upto_false hlt (colOk_kind HX.out hkd)]; rfl
                    have BF : Hid (Below w.heap.size w (wr.alloc (.cells #[.string cn, .int .i64 kd, .bool nu] 78))) := (B3.out.trans (hb.mono B3.out.size)).alloc (by omega) _
                    clear hnm HV HX HU
                    rcases hkd with hkd | hkd
                    all_goals
                      go_wp2_with (go_at_call 67; refine (HCn.out _).mono ?_; rintro e w4 ⟨rfl, rfl⟩)
                      go_ret
                      exact ⟨ret_bool HF.out.symm, BF.out⟩
                  · have hk1' : 1 ≤ kd := by omega
                    have hk2' : kd ≤ 3 := by omega
                    have B2 : Below w3.heap.size w3 (wr.alloc (.cells #[.string cn, .int .i64 kd, .bool nu] 78)) := hb.alloc hb.size _
                    have hcc : (wr.alloc (.cells #[.string cn, .int .i64 kd, .bool nu] 78)).cell? ⟨wr.heap.size, 0, none⟩ = some (.string cn) := by rw [cell_of_row _ _ _ _ _ _ (heap_alloc_new _ _)]; rfl
                    have hss : wr.heap.size < (wr.alloc (.cells #[.string cn, .int .i64 kd, .bool nu] 78)).heap.size := by simp
                    have HB2 : Hid (Below w3.heap.size w3 (wr.alloc (.cells #[.string cn, .int .i64 kd, .bool nu] 78))) := B2
                    have HCC : Hid ((wr.alloc (.cells #[.string cn, .int .i64 kd, .bool nu] 78)).cell? ⟨wr.heap.size, 0, none⟩ = some (.string cn)) := hcc
                    have HSS : Hid (wr.heap.size < (wr.alloc (.cells #[.string cn, .int .i64 kd, .bool nu] 78)).heap.size) := hss
                    clear B2 hcc hss hkd
                    go_wp2_with (go_at_call 67; refine (HCn.out _).mono ?_; rintro e w4 ⟨rfl, rfl⟩)
                    clear hb HCn d0 d1 d2 x1 hz
                    generalize wr.alloc (.cells #[.string cn, .int .i64 kd, .bool nu] 78) = W2 at *
                    generalize wr.heap.size = g at *
                    go_loopw [6] (fun i wi => ∃ k : Nat, k ≤ j ∧ i = .int .i64 k ∧ Hid ((cs.take k).any (fun c => decide (c.name = cn)) = false) ∧ Below W2.heap.size W2 wi) (fun i _ => j - (intOf i).toNat)
                    case atStart => exact ⟨0, Nat.zero_le _, rfl, rfl, Below.refl _ _⟩
                    case round =>
                      obtain ⟨k, hk, rfl, HA, hbi⟩ := hrel
                      have hbj := HB2.out.trans (hbi.mono HB2.out.size)
                      by_cases hki : k < j
                      · obtain ⟨x0, x1, x2, x3, xf⟩ := cells4 ((hbj.block _ hs3).trans X3.out)
                        have hcn := (hbi.cell (p := ⟨g, 0, none⟩) HSS.out).trans HCC.out
                        obtain ⟨b1, off1, nk, kk, uk, he1, _, hv1, _, _, e0, e1, e2⟩ := (R1.out.kept ((B3.out.trans (hbj.mono B3.out.size)).mono hB)).at k (by omega)
                        simp only [Option.some.injEq, Addr.mk.injEq, and_true] at he1
                        obtain ⟨rfl, rfl⟩ := he1
                        have HY : Hid ((cs.getD k noCol).name = nk) := by show _ = _; rw [hv1]
                        have hi0 : (0 : Int) ≤ (k : Int) := by omega
                        have hi1 : (k : Int) < (cs.length : Int) := by omega
                        have ht := (Int.toNat_natCast k)
                        clear hv1 e1 e2 x0 x2 x3 xf
                        by_cases hxy : nk = cn
                        · subst hxy
                          have HF : Hid (q = false) := by
                            show _ = _
                            rw [HV.out, upto_false hlt (colOk_seen HX.out ?_)]
                            · rfl
                            · have h1 : (cs.take (k + 1)).any (fun c => decide (c.name = nk)) = true := by rw [seen_succ cs nk k (by omega), HY.out]; simp
                              rw [List.any_eq_true] at h1 ⊢
                              obtain ⟨c, hc, hd⟩ := h1
                              exact ⟨c, (List.take_subset_take_left cs (by omega : k + 1 ≤ j)) hc, hd⟩
                          clear HV HX HU HA HY hnm
                          go_wp2
                          go_region_held3 (fun W => W.cell? ⟨w.heap.size, 1, none⟩ = some (.slice (some ⟨b, off, none⟩) cs.length c1) ∧ W.cell? ⟨b, off + k * 3, none⟩ = some (.string nk) ∧ W.cell? ⟨g, 0, none⟩ = some (.string nk)) (go_keep) (fail)
                          all_goals
                            have hb2 : Below w.heap.size w _ := (B3.out.trans (hbj.mono B3.out.size)).drew
                            go_wp2
                            go_ret
                            exact ⟨ret_bool HF.out.symm, hb2⟩
                        · have HA2 : Hid ((cs.take (k + 1)).any (fun c => decide (c.name = cn)) = false) := by show _ = _; rw [seen_succ cs cn k (by omega), HA.out, HY.out]; simp [hxy]
                          have hne := str_ne hxy
                          clear HA HY hxy
                          go_wp2
                          go_region_held3 (fun W => W.cell? ⟨w.heap.size, 1, none⟩ = some (.slice (some ⟨b, off, none⟩) cs.length c1) ∧ W.cell? ⟨b, off + k * 3, none⟩ = some (.string nk) ∧ W.cell? ⟨g, 0, none⟩ = some (.string cn)) (go_keep) (fail)
                          all_goals
                            have hb2 : Below W2.heap.size W2 _ := hbi.drew
                            clear hbi hbj e0 x1 hcn hne
                            go_wp2
                            go_roundw
                            case rel => exact ⟨k + 1, by omega, by go_num, HA2, hb2⟩
                            case measure => simp [intOf]; omega
                      · obtain rfl : k = j := by omega
                        have HU2 : Hid (upto (colOk cs) (k + 1) = true) := by show _ = _; rw [upto_succ, HU.out, colOk_true HX.out hnm hk1' hk2' HA.out]; rfl
                        clear HX HA HU hnm
                        go_wp2
                        go_roundw
                        case rel => exact ⟨k + 1, by omega, by go_num, HU2, hbj⟩
                        case measure => simp [intOf]; omega
              · obtain rfl : j = cs.length := by omega
                have HV2 : Hid (q = (upto (keyAt ⟨nm, cs, ky, xs⟩) ky.length && upto (idxAt ⟨nm, cs, ky, xs⟩) xs.length)) := by show _ = _; rw [HV.out, HU.out]; rfl
                clear HV HU
                go_wp2
                clear x0 x1 x2 x3 xf
                go_loopw [7] (fun i wr2 => ∃ j : Nat, j ≤ ky.length ∧ i = .int .i64 j ∧ Hid (upto (keyAt ⟨nm, cs, ky, xs⟩) j = true) ∧ Below w3.heap.size w3 wr2) (fun i _ => ky.length - (intOf i).toNat)
                case atStart => exact ⟨0, Nat.zero_le _, rfl, rfl, hb⟩
                case round =>
                  clear hb hz
                  obtain ⟨j, hj, rfl, HU, hb⟩ := hrel
                  obtain ⟨x0, x1, x2, x3, xf⟩ := cells4 ((hb.block _ hs3).trans X3.out)
                  by_cases hlt : j < ky.length
                  · obtain ⟨b, off, x, rfl, hbB, hv, hx, d0⟩ := (R2.out.kept ((B3.out.trans (hb.mono B3.out.size)).mono hB)).at j hlt
                    have hxr := isCols_at HQ.out j hlt
                    rw [hv] at hxr
                    obtain ⟨m, rfl⟩ : ∃ m : Nat, x = (m : Int) := ⟨x.toNat, by omega⟩
                    have hm : m < cs.length := by omega
                    obtain ⟨b1, off1, n1, kd, nu, rfl, hbB1, hv1, htt, hki, e0, e1, e2⟩ := (R1.out.kept ((B3.out.trans (hb.mono B3.out.size)).mono hB)).at m hm
                    have HK : Hid (keyAt ⟨nm, cs, ky, xs⟩ j = !nu) := by
                      show _ = _
                      unfold keyAt; simp only; rw [hv, Int.toNat_natCast, hv1]
                    have hi0 : (0 : Int) ≤ (j : Int) := by omega
                    have hi1 : (j : Int) < (ky.length : Int) := by omega
                    have hi2 : (0 : Int) ≤ (m : Int) := by omega
                    have hi3 : (m : Int) < (cs.length : Int) := by omega
                    have ht := (Int.toNat_natCast j)
                    have ht2 := (Int.toNat_natCast m)
                    clear hv hx hxr hv1 hki htt e0 e1 xf x0 x3
                    cases nu with
                    | true =>
                      have HF : Hid (q = false) := by show _ = _; rw [HV2.out, upto_false hlt HK.out]; rfl
                      clear HV2 HK HU
                      go_wp2
                      go_region_held3 (fun W => W.cell? ⟨w.heap.size, 1, none⟩ = some (.slice (some ⟨b1, off1, none⟩) cs.length c1) ∧ W.cell? ⟨w.heap.size, 2, none⟩ = some (.slice (some ⟨b, off, none⟩) ky.length c2) ∧ W.cell? ⟨b, off + j, none⟩ = some (.int .i64 m) ∧ W.cell? ⟨b1, off1 + m * 3 + 2, none⟩ = some (.bool true)) (go_keep) (fail)
                      all_goals
                        have hb2 : Below w.heap.size w _ := (B3.out.trans (hb.mono B3.out.size)).drew
                        go_wp2
                        go_ret
                        exact ⟨ret_bool HF.out.symm, hb2⟩
                    | false =>
                      have HU2 : Hid (upto (keyAt ⟨nm, cs, ky, xs⟩) (j + 1) = true) := by show _ = _; rw [upto_succ, HU.out, HK.out]; rfl
                      clear HK HU
                      go_wp2
                      go_region_held3 (fun W => W.cell? ⟨w.heap.size, 1, none⟩ = some (.slice (some ⟨b1, off1, none⟩) cs.length c1) ∧ W.cell? ⟨w.heap.size, 2, none⟩ = some (.slice (some ⟨b, off, none⟩) ky.length c2) ∧ W.cell? ⟨b, off + j, none⟩ = some (.int .i64 m) ∧ W.cell? ⟨b1, off1 + m * 3 + 2, none⟩ = some (.bool false)) (go_keep) (fail)
                      all_goals
                        have hb2 : Below w3.heap.size w3 _ := hb.drew
                        clear hb d0 e2 x1 x2
                        go_wp2
                        go_roundw
                        case rel => exact ⟨j + 1, by omega, by go_num, HU2, hb2⟩
                        case measure => simp [intOf]; omega
                  · obtain rfl : j = ky.length := by omega
                    have HV3 : Hid (q = upto (idxAt ⟨nm, cs, ky, xs⟩) xs.length) := by show _ = _; rw [HV2.out, HU.out]; rfl
                    clear HV2 HU
                    go_wp2
                    clear x0 x1 x2 x3 xf
                    go_loopw [8] (fun i wr3 => ∃ j : Nat, j ≤ xs.length ∧ i = .int .i64 j ∧ Hid (upto (idxAt ⟨nm, cs, ky, xs⟩) j = true) ∧ Below w3.heap.size w3 wr3) (fun i _ => xs.length - (intOf i).toNat)
                    case atStart => exact ⟨0, Nat.zero_le _, rfl, rfl, hb⟩
                    case round =>
                      clear hb
                      obtain ⟨j, hj, rfl, HU, hb⟩ := hrel
                      obtain ⟨x0, x1, x2, x3, xf⟩ := cells4 ((hb.block _ hs3).trans X3.out)
                      have hbw := B3.out.trans (hb.mono B3.out.size)
                      by_cases hlt : j < xs.length
                      · obtain ⟨b, off, io, cp, l, u, rfl, hbB, hv, hcp, hir, d0, d1⟩ := (R3.out.kept (hbw.mono hB)).at j hlt
                        have HK : Hid (idxAt ⟨nm, cs, ky, xs⟩ j = isCols cs.length l) := by show _ = _; unfold idxAt; simp only; rw [hv]
                        have hca := specColumns_any A B io cp l cs.length _ (Nat.le_trans hB hbw.size) (Nat.le_trans hcp.1 hcp.2) hir
                        generalize isCols cs.length l = qi at *
                        have HC : Hid (Calls Try.prog 68 #[.slice io l.length cp, .int .i64 cs.length] _ fun e w' => e = .returned (.bool qi) ∧ Below _ _ w') := hca
                        clear hv hir hcp hca
                        go_wp2_with fail
                        refine HC.out.mono ?_
                        rintro e w5 ⟨rfl, hb5⟩
                        have hb6 : Below w3.heap.size w3 w5 := hb.trans (hb5.mono hb.size)
                        clear HC hb5 hb hbw x0 x1 x2 x3 xf d0 d1
                        cases qi with
                        | false =>
                          have HF : Hid (q = false) := by show _ = _; rw [HV3.out, upto_false hlt HK.out]
                          clear HV3 HK HU
                          go_wp2
                          go_ret
                          exact ⟨ret_bool HF.out.symm, B3.out.trans (hb6.mono B3.out.size)⟩
                        | true =>
                          have HU2 : Hid (upto (idxAt ⟨nm, cs, ky, xs⟩) (j + 1) = true) := by show _ = _; rw [upto_succ, HU.out, HK.out]; rfl
                          clear HK HU
                          go_wp2
                          go_roundw
                          case rel => exact ⟨j + 1, by omega, by go_num, HU2, hb6⟩
                          case measure => simp [intOf]; omega
                      · obtain rfl : j = xs.length := by omega
                        have HF : Hid (q = true) := by show _ = _; rw [HV3.out, HU.out]
                        clear HV3 HU
                        go_wp2
                        go_ret
                        exact ⟨ret_bool HF.out.symm, hbw⟩
end Go.Proofs.Ytjihkdbloffbmaa

/-
  Contracts: a schema is read of a text, by the program and by the specification.
-/
namespace Go.Proofs.Ytjihkdbloffbmaa
open Go.RowKit
set_option maxRecDepth 100000

theorem resSO {fn : Func} {p : Tmp} (h : fn.results = #[.cell p 34]) (tmps : Array Value) (w : World) (g : Nat) (x y z u c : Value) (hp : tmps.getD p undef = .pointer (some ⟨g, 0, none⟩))
    (hg : w.heap[g]? = some (.cells #[x, y, z, u, c] 34 (0, 0))) : (results fn tmps).run Try.prog w = .ok (.agg #[x, y, z, u, c]) w :=
  results_cell_row h tmps w g 34 #[x, y, z, u, c] (0, 0) _ hp hg Try.underlying34 rfl (by kernel_rfl)
theorem set5 {W : World} {g : Nat} {a b c d e x y z u v : Value} {t : TypeId} (h : W.heap[g]? = some (.cells #[a, b, c, d, e] t (0, 0))) :
    (((((W.setCell ⟨g, 0, none⟩ x).setCell ⟨g, 1, none⟩ y).setCell ⟨g, 2, none⟩ z).setCell ⟨g, 3, none⟩ u).setCell ⟨g, 4, none⟩ v).heap[g]? = some (.cells #[x, y, z, u, v] t (0, 0)) := by
  have h0 := heap_setCell_same W g 0 _ t x h
  have h1 := heap_setCell_same _ g 1 _ t y h0
  have h2 := heap_setCell_same _ g 2 _ t z h1
  have h3 := heap_setCell_same _ g 3 _ t u h2
  have h4 := heap_setCell_same _ g 4 _ t v h3
  simpa using h4
theorem cells5 {w : World} {g : Nat} {a b c d e : Value} {t : TypeId} (h : w.heap[g]? = some (.cells #[a, b, c, d, e] t (0, 0))) :
    w.cell? ⟨g, 0, none⟩ = some a ∧ w.cell? ⟨g, 1, none⟩ = some b ∧ w.cell? ⟨g, 2, none⟩ = some c ∧ w.cell? ⟨g, 3, none⟩ = some d ∧ w.cell? ⟨g, 4, none⟩ = some e ∧ ∀ j, w.frozen? ⟨g, j, none⟩ = false :=
  ⟨by rw [cell_of_row _ _ _ _ _ _ h]; rfl, by rw [cell_of_row _ _ _ _ _ _ h]; rfl, by rw [cell_of_row _ _ _ _ _ _ h]; rfl, by rw [cell_of_row _ _ _ _ _ _ h]; rfl, by rw [cell_of_row _ _ _ _ _ _ h]; rfl, fun j => frozen_of_row _ _ _ _ _ h⟩
theorem below5 {B g : Nat} {w W : World} {x y z u v : Value} (h : Below B w W) (hg : B ≤ g) : Below B w (((((W.setCell ⟨g, 0, none⟩ x).setCell ⟨g, 1, none⟩ y).setCell ⟨g, 2, none⟩ z).setCell ⟨g, 3, none⟩ u).setCell ⟨g, 4, none⟩ v) :=
  ((((h.setCell hg _).setCell hg _).setCell hg _).setCell hg _).setCell hg _
theorem SOwn.set5 {W : World} {base g : Nat} {a k x p q r s t : Value} {us : List Value} {S : Sch} (h : SOwn base a k x us S W) (hg : g < base) : SOwn base a k x us S (((((W.setCell ⟨g, 0, none⟩ p).setCell ⟨g, 1, none⟩ q).setCell ⟨g, 2, none⟩ r).setCell ⟨g, 3, none⟩ s).setCell ⟨g, 4, none⟩ t) :=
  ((((h.set hg).set hg).set hg).set hg).set hg
theorem readSch_long {t : ByteArray} (h : 20000 < t.size) : readSch t = (noSch, 2) := by unfold readSch; rw [if_pos h]
theorem readSch_bad {t : ByteArray} (h : ¬ 20000 < t.size) {S : Sch} {st : St} (he : rSch t (some 0) = (S, st)) (hn : ¬ (st = some t.size ∧ schRight S = true)) : readSch t = (noSch, 3) := by unfold readSch; rw [if_neg h, he, if_neg hn]
theorem readSch_good {t : ByteArray} (h : ¬ 20000 < t.size) {S : Sch} {st : St} (he : rSch t (some 0) = (S, st)) (hn : st = some t.size ∧ schRight S = true) : readSch t = (S, 0) := by unfold readSch; rw [if_neg h, he, if_pos hn]
set_option maxHeartbeats 4000000 in
theorem implSchemaRead_any (t : ByteArray) (w : World) :
    Calls Try.prog 14 #[.string t] w fun e w' => ∃ a k x us, e = .returned (.agg #[.string (readSch t).1.name, a, k, x, .int .i64 (readSch t).2]) ∧ SOwn w.heap.size a k x us (readSch t).1 w' ∧ Below w.heap.size w w' := by
  have HK : Hid ((w.alloc (.cells #[.string ⟨#[]⟩, .slice none 0 0, .slice none 0 0, .slice none 0 0, .int .i64 0] 34)).heap[w.heap.size]? = some (.cells #[.string ⟨#[]⟩, .slice none 0 0, .slice none 0 0, .slice none 0 0, .int .i64 0] 34 (0, 0))) := heap_alloc_new _ _
  have B0 := hide ((Below.refl w.heap.size w).alloc (Nat.le_refl _) (.cells #[.string ⟨#[]⟩, .slice none 0 0, .slice none 0 0, .slice none 0 0, .int .i64 0] 34))
  by_cases hl : 20000 < t.size
  · have HR := hide (readSch_long hl)
    have HT := hide (fun W => tooLong_yes t hl W)
    clear hl
    go_enter Try.func14, Try.ntmps14
    go_wp2_with fail
    refine (HT.out _).mono ?_
    rintro e w1 ⟨rfl, rfl⟩
    obtain ⟨x0, x1, x2, x3, x4, xf⟩ := cells5 HK.out
    go_wp2
    refine bodyPost_ret (v := .agg #[.string ⟨#[]⟩, .slice none 0 0, .slice none 0 0, .slice none 0 0, .int .i64 2]) (resSO Try.results14 _ _ w.heap.size _ _ _ _ _ rfl (heap_alloc_new _ _)) rfl ⟨_, _, _, [], by rw [HR.out]; rfl, by rw [HR.out]; exact noSch_own _ _, (Below.refl _ _).alloc (Nat.le_refl _) _⟩
  · have HT := hide (fun W => tooLong_no t (by omega) W)
    have HL := hide hl
    obtain ⟨S, st, he⟩ : ∃ S st, rSch t (some 0) = (S, st) := ⟨_, _, rfl⟩
    have HSI := hide (show schIn S by have := rSch_in t (some 0) (by unfold maxLen; omega); rw [he] at this; exact this)
    have HE := hide he
    have HC1 : Hid (CurAt (w.heap.size + 1) t (some 0) ((w.alloc (.cells #[.string ⟨#[]⟩, .slice none 0 0, .slice none 0 0, .slice none 0 0, .int .i64 0] 34)).alloc (.cells #[.string t, .int .i64 0, .nilIface] 91))) := by
      refine ⟨by omega, 0, .nilIface, ?_, .inl ⟨0, rfl, rfl, rfl, Nat.zero_le _⟩⟩
      have := heap_alloc_new (w.alloc (.cells #[.string ⟨#[]⟩, .slice none 0 0, .slice none 0 0, .slice none 0 0, .int .i64 0] 34)) (.cells #[.string t, .int .i64 0, .nilIface] 91)
      simpa using this
    have HK1 := hide ((heap_old _ (.cells #[.string t, .int .i64 0, .nilIface] 91) _ (by simp)).trans HK.out)
    have B1 := hide (B0.out.alloc (by simp) (.cells #[.string t, .int .i64 0, .nilIface] 91))
    have HRD := hide (schema_rd (w.heap.size + 1) t (some 0) _ HC1.out)
    have HZ : Hid (((w.alloc (.cells #[.string ⟨#[]⟩, .slice none 0 0, .slice none 0 0, .slice none 0 0, .int .i64 0] 34)).alloc (.cells #[.string t, .int .i64 0, .nilIface] 91)).heap.size = w.heap.size + 2) := by show _ = _; simp
    rw [he] at HRD
    clear hl he HK B0 HC1
    go_enter Try.func14, Try.ntmps14
    go_wp2_with fail
    refine (HT.out _).mono ?_
    rintro e w1 ⟨rfl, rfl⟩
    go_wp2_with fail
    refine HRD.out.mono ?_
    generalize (w.alloc (.cells #[.string ⟨#[]⟩, .slice none 0 0, .slice none 0 0, .slice none 0 0, .int .i64 0] 34)).alloc (.cells #[.string t, .int .i64 0, .nilIface] 91) = W1 at *
    rintro e w2 ⟨a, k, x, us, rfl, o2, c2, g2⟩
    obtain ⟨ao, p1, ko, p2, xo, p3, rfl, rfl, rfl, hrow⟩ := o2.row HSI.out
    obtain ⟨nm, cs, ky, xs⟩ := S
    simp only at *
    have hz2 : w.heap.size + 2 ≤ w2.heap.size := by have := g2.size; rw [HZ.out] at this; exact this
    have HK2 := hide ((heap_old w2 (.cells #[.string nm, .slice ao cs.length p1, .slice ko ky.length p2, .slice xo xs.length p3] 27) w.heap.size (by omega)).trans ((g2.block w.heap.size (by rw [HZ.out]; omega) (fun e => by have := Option.some.inj e; omega)).trans HK1.out))
    have B2 := hide ((B1.out.grown g2 (by rw [HZ.out]; omega) (fun j hj => by have := Option.some.inj hj; omega)).alloc (by omega) (.cells #[.string nm, .slice ao cs.length p1, .slice ko ky.length p2, .slice xo xs.length p3] 27))
    have BA := (Below.refl w2.heap.size w2).alloc (Nat.le_refl _) (.cells #[.string nm, .slice ao cs.length p1, .slice ko ky.length p2, .slice xo xs.length p3] 27)
    have O2 := hide ((o2.below BA).base (show w.heap.size + 1 ≤ W1.heap.size + 1 by rw [HZ.out]; omega))
    have C2 := hide (c2.below BA (by omega))
    have R2 := hide (hrow.kept BA)
    have X2 := hide (heap_alloc_new w2 (.cells #[.string nm, .slice ao cs.length p1, .slice ko ky.length p2, .slice xo xs.length p3] 27))
    have hza : (w2.alloc (.cells #[.string nm, .slice ao cs.length p1, .slice ko ky.length p2, .slice xo xs.length p3] 27)).heap.size = w2.heap.size + 1 := by simp
    have HRA := hide (readAll_any (w.heap.size + 1) t st _ C2.out)
    have HSR := hide (implSchemaRight_any _ _ ao p1 ko p2 xo p3 ⟨nm, cs, ky, xs⟩ (w2.alloc (.cells #[.string nm, .slice ao cs.length p1, .slice ko ky.length p2, .slice xo xs.length p3] 27)).drew (show w2.heap.size ≤ _ by show w2.heap.size ≤ (w2.alloc _).heap.size; rw [hza]; omega) (R2.out.kept (Below.refl _ _).drew))
    have HZA := hide hza
    clear hza BA o2 c2 g2 hrow HK1 B1 HRD HZ HT R2
    obtain ⟨y0, y1, y2, y3, yf⟩ := cells4 X2.out
    go_wp2_with fail
    refine HRA.out.mono ?_
    rintro e w3 ⟨rfl, rfl⟩
    have B3 := hide B2.out.drew
    have O3 : Hid (SOwn (w.heap.size + 1) (.slice ao cs.length p1) (.slice ko ky.length p2) (.slice xo xs.length p3) us ⟨nm, cs, ky, xs⟩ (w2.alloc (.cells #[.string nm, .slice ao cs.length p1, .slice ko ky.length p2, .slice xo xs.length p3] 27)).drew) := O2.out.below (Below.refl _ _).drew
    have HK3 : Hid ((w2.alloc (.cells #[.string nm, .slice ao cs.length p1, .slice ko ky.length p2, .slice xo xs.length p3] 27)).drew.heap[w.heap.size]? = some (.cells #[.string ⟨#[]⟩, .slice none 0 0, .slice none 0 0, .slice none 0 0, .int .i64 0] 34 (0, 0))) := HK2.out
    have X3 : Hid ((w2.alloc (.cells #[.string nm, .slice ao cs.length p1, .slice ko ky.length p2, .slice xo xs.length p3] 27)).drew.heap[w2.heap.size]? = some (.cells #[.string nm, .slice ao cs.length p1, .slice ko ky.length p2, .slice xo xs.length p3] 27 (0, 0))) := X2.out
    have hz3 : w2.heap.size < (w2.alloc (.cells #[.string nm, .slice ao cs.length p1, .slice ko ky.length p2, .slice xo xs.length p3] 27)).drew.heap.size := by show w2.heap.size < (w2.alloc _).heap.size; rw [HZA.out]; omega
    clear B2 O2 HK2 X2 C2 HRA HZA y0 y1 y2 y3 yf
    generalize (w2.alloc (.cells #[.string nm, .slice ao cs.length p1, .slice ko ky.length p2, .slice xo xs.length p3] 27)).drew = W3 at *
    generalize w2.heap.size = g3 at *
    obtain ⟨y0, y1, y2, y3, yf⟩ := cells4 X3.out
    obtain ⟨x0, x1, x2, x3, x4, xf⟩ := cells5 HK3.out
    by_cases hst : st = some t.size
    · have hd : decide (st = some t.size) = true := decide_eq_true hst
      rw [hd]
      clear hd
      have HST := hide hst
      clear hst x0 x1 x2 x3 x4 xf
      go_wp2_with fail
      refine HSR.out.mono ?_
      rintro e w4 ⟨rfl, hb4⟩
      have HK4 := hide ((hb4.block w.heap.size (by omega)).trans HK3.out)
      have X4 := hide ((hb4.block g3 hz3).trans X3.out)
      have O4 := hide (O3.out.below hb4)
      have B4 := hide (B3.out.trans (hb4.mono (by omega)))
      clear hb4 B3 O3 HK3 X3 HSR y0 y1 y2 y3 yf
      obtain ⟨y0, y1, y2, y3, yf⟩ := cells4 X4.out
      obtain ⟨x0, x1, x2, x3, x4, xf⟩ := cells5 HK4.out
      by_cases hr : schRight ⟨nm, cs, ky, xs⟩ = true
      · have HG := hide (readSch_good HL.out HE.out ⟨HST.out, hr⟩)
        rw [hr]
        clear hr
        go_wp2
        refine bodyPost_ret (v := .agg #[.string nm, .slice ao cs.length p1, .slice ko ky.length p2, .slice xo xs.length p3, .int .i64 0]) (resSO Try.results14 _ _ w.heap.size _ _ _ _ _ rfl (set5 HK4.out)) rfl ⟨_, _, _, us, by rw [HG.out], by rw [HG.out]; exact (O4.out.set5 (Nat.lt_succ_self _)).base (Nat.le_succ _), below5 B4.out (Nat.le_refl _)⟩
      · have HG := hide (readSch_bad HL.out HE.out (fun h => hr h.2))
        rw [Bool.not_eq_true] at hr
        rw [hr]
        clear hr
        go_wp2
        refine bodyPost_ret (v := .agg #[.string ⟨#[]⟩, .slice none 0 0, .slice none 0 0, .slice none 0 0, .int .i64 3]) (resSO Try.results14 _ _ w.heap.size _ _ _ _ _ rfl (set5 HK4.out)) rfl ⟨_, _, _, [], by rw [HG.out]; rfl, by rw [HG.out]; exact noSch_own _ _, below5 B4.out (Nat.le_refl _)⟩
    · have hd : decide (st = some t.size) = false := decide_eq_false hst
      have HG := hide (readSch_bad HL.out HE.out (fun h => hst h.1))
      rw [hd]
      clear hd hst HSR
      go_wp2
      refine bodyPost_ret (v := .agg #[.string ⟨#[]⟩, .slice none 0 0, .slice none 0 0, .slice none 0 0, .int .i64 3]) (resSO Try.results14 _ _ w.heap.size _ _ _ _ _ rfl (set5 HK3.out)) rfl ⟨_, _, _, [], by rw [HG.out]; rfl, by rw [HG.out]; exact noSch_own _ _, below5 B3.out (Nat.le_refl _)⟩
end Go.Proofs.Ytjihkdbloffbmaa

/-
  Contracts: a schema is marked, held and compared as a whole.
-/
namespace Go.Proofs.Ytjihkdbloffbmaa
open Go.RowKit
set_option maxRecDepth 100000

theorem figs_size (j : Nat) : ∀ o : ByteArray, (figs j o).size ≤ j + o.size := by
  induction j using Nat.strongRecOn with
  | _ j ih =>
    intro o
    by_cases h : j = 0
    · subst h; rw [figs_zero]; omega
    · rw [figs_pos j o (by omega)]
      have := ih (j / 10) (by omega) (mkS [UInt8.ofNat (48 + j % 10)] ++ o)
      rw [ByteArray.size_append, mkS_size] at this
      simp only [List.length_cons, List.length_nil] at this
      omega
theorem markS_size (k : Nat) : (markS k).size ≤ k + 1 := by
  have := figs_size k ⟨#[]⟩
  rw [m_size, ByteArray.size_append]
  have e1 : (⟨#[109]⟩ : ByteArray).size = 1 := rfl
  have e2 : (⟨#[]⟩ : ByteArray).size = 0 := rfl
  omega
def mSch (s : Sch) : Sch := ⟨s.name, mCols 1 s.cols.length, mNums (1 + 3 * s.cols.length) s.key.length, mIdx (1 + 3 * s.cols.length + s.key.length) s.idx⟩
def cntS (s : Sch) : Nat := 1 + 3 * s.cols.length + s.key.length + nI s.idx
theorem mNums_in (k0 n : Nat) (h0 : k0 ≤ 1000) (hn : n ≤ 10) : ∀ x ∈ mNums k0 n, inI64 x := fun x hx => by
  unfold mNums at hx
  rw [List.mem_map] at hx
  obtain ⟨i, hi, rfl⟩ := hx
  rw [List.mem_range] at hi
  unfold inI64
  omega
theorem mIdx_in : ∀ (xs : List Idx) (q : Nat), q + 11 * xs.length ≤ 1000 → (∀ x ∈ xs, x.cols.length ≤ 10) → ∀ y ∈ mIdx q xs, y.cols.length ≤ 10 ∧ ∀ z ∈ y.cols, inI64 z
  | [], q, _, _, y, hy => by simp [mIdx] at hy
  | x :: r, q, hq, h, y, hy => by
    simp only [mIdx, List.mem_cons] at hy
    have hx := h x (by simp)
    simp only [List.length_cons] at hq
    rcases hy with rfl | hy
    · unfold mI
      simp only [mNums_len]
      exact ⟨hx, mNums_in q _ (by omega) hx⟩
    · exact mIdx_in r _ (by omega) (fun z hz => h z (by simp [hz])) y hy
theorem mSch_in {s : Sch} (h : schIn s) : schIn (mSch s) := by
  have h1 := h.nc
  have h2 := h.nk
  have h3 := h.nx
  refine ⟨h.name, by unfold mSch; rw [mCols_len]; exact h1, by unfold mSch; rw [mNums_len]; exact h2, by unfold mSch; rw [mIdx_len]; exact h3, fun c hc => ?_, mNums_in _ _ (by omega) h2, mIdx_in _ _ (by omega) (fun x hx => (h.idx x hx).1)⟩
  unfold mSch mCols at hc
  rw [List.mem_map] at hc
  obtain ⟨i, hi, rfl⟩ := hc
  rw [List.mem_range] at hi
  have := markS_size (1 + 3 * i)
  unfold mCol inI64 maxLen
  simp only
  omega
theorem ownBlock_lt {base n size : Nat} {t : TypeId} {v : Value} {xs : List Value} {w : World} (h : w.ownsRow base t size v n xs) : some w.heap.size ≠ v.ownBlock := fun e => by
  have := (World.ownsRow.lt h _ e.symm).2
  omega
set_option maxHeartbeats 4000000 in
theorem markSchema_own (base : Nat) (a k x : Value) (us : List Value) (s : Sch) (w : World) (hs : schIn s) (h : SOwn base a k x us s w) :
    Calls Try.prog 73 #[.agg #[.string s.name, a, k, x], .int .i64 1] w fun e w' => e = .returned (.int .i64 ((cntS s : Nat) : Int)) ∧ SOwn base a k x us (mSch s) w' ∧ GL (a :: k :: x :: us) w w' := by
  obtain ⟨q1, hq1⟩ : ∃ q, q = 1 + 3 * s.cols.length := ⟨_, rfl⟩
  obtain ⟨q2, hq2⟩ : ∃ q, q = q1 + s.key.length := ⟨_, rfl⟩
  have HM : Hid (mSch s = ⟨s.name, mCols 1 s.cols.length, mNums q1 s.key.length, mIdx q2 s.idx⟩ ∧ cntS s = q2 + nI s.idx) := by rw [hq2, hq1]; exact ⟨rfl, rfl⟩
  have n1 := hs.nc
  have n2 := hs.nk
  have HC1 := hide (fun (W : World) (hW : OwnC base a s.cols W) => show Calls Try.prog 112 #[a, .int .i64 1] W fun e w' => e = .returned (.int .i64 (q1 : Int)) ∧ OwnC base a (mCols 1 s.cols.length) w' ∧ W.grownBy w' a.ownBlock by rw [hq1]; exact markColumnS_own base a s.cols 1 W n1 (by omega) (by omega) hW)
  have HC2 := hide (fun (W : World) (hW : OwnN base k s.key W) => show Calls Try.prog 37 #[k, .int .i64 (q1 : Int)] W fun e w' => e = .returned (.int .i64 (q2 : Int)) ∧ OwnN base k (mNums q1 s.key.length) w' ∧ W.grownBy w' k.ownBlock by rw [hq2]; exact markInt64S_mk base k s.key q1 W n2 (by omega) hW)
  have hap := h.apart
  have hapx : Apart (x :: us) := by unfold Apart at hap ⊢; simp only [List.pairwise_cons] at hap ⊢; exact ⟨hap.2.2.1, hap.2.2.2⟩
  have HC3 := hide (fun (W : World) (hW : OwnX base x us s.idx W) => markIndexS_own base x us s.idx q2 W hs.nx (by omega) (fun y hy => (hs.idx y hy).1) hapx hW)
  have HAP := hide hap
  have HBU := hide h.blocks
  obtain ⟨ao, p1, rfl⟩ := ownC_shape h.cols
  obtain ⟨ko, p2, rfl⟩ := ownN_shape h.key
  obtain ⟨xo, p3, rfl⟩ := ownX_shape h.idx
  obtain ⟨nm, cs, ky, xs⟩ := s
  simp only at *
  have BA := (Below.refl w.heap.size w).alloc (Nat.le_refl _) (.cells #[.string nm, .slice ao cs.length p1, .slice ko ky.length p2, .slice xo xs.length p3] 27)
  have HS0 := hide (h.below BA)
  have HX0 := hide (heap_alloc_new w (.cells #[.string nm, .slice ao cs.length p1, .slice ko ky.length p2, .slice xo xs.length p3] 27))
  have B0 := hide (GL.alloc (.slice ao cs.length p1 :: .slice ko ky.length p2 :: .slice xo xs.length p3 :: us) w (.cells #[.string nm, .slice ao cs.length p1, .slice ko ky.length p2, .slice xo xs.length p3] 27))
  have HZ : Hid ((w.alloc (.cells #[.string nm, .slice ao cs.length p1, .slice ko ky.length p2, .slice xo xs.length p3] 27)).heap.size = w.heap.size + 1) := by show _ = _; simp
  clear h hs hap hapx BA hq1 hq2 n1 n2
  go_enter Try.func73, Try.ntmps73
  go_wp2_with fail
  refine (HC1.out _ HS0.out.cols).mono ?_
  generalize w.alloc (.cells #[.string nm, .slice ao cs.length p1, .slice ko ky.length p2, .slice xo xs.length p3] 27) = W0 at *
  rintro e w1 ⟨rfl, o1, g1⟩
  have hap := HAP.out
  unfold Apart at hap
  simp only [List.pairwise_cons, List.mem_cons, forall_eq_or_imp] at hap
  obtain ⟨⟨hak, hax, hau⟩, ⟨hkx, hku⟩, hxu, huu⟩ := hap
  have nb : ∀ v ∈ (.slice ao cs.length p1 : Value) :: .slice ko ky.length p2 :: .slice xo xs.length p3 :: us, some w.heap.size ≠ v.ownBlock := fun v hv e => by have := HBU.out v hv _ e.symm; omega
  have HX1 := hide ((g1.block w.heap.size (by rw [HZ.out]; omega) (nb _ (by simp))).trans HX0.out)
  have K1 := hide (World.ownsRow.kept HS0.out.key g1 (ne_symm hak))
  have I1 : Hid (OwnX base (.slice xo xs.length p3) us xs w1) := ⟨HS0.out.idx.len, World.ownsRow.kept HS0.out.idx.row g1 (ne_symm hax), fun p hp => World.ownsRow.kept (HS0.out.idx.inner p hp) g1 (ne_symm (hau _ (List.of_mem_zip hp).1))⟩
  have O1 := hide o1
  have B1 := hide (B0.out.trans (GL.of g1 (by simp)))
  have z1 : w.heap.size + 1 ≤ w1.heap.size := by have := g1.size; rw [HZ.out] at this; exact this
  clear o1 g1 HX0 B0 HS0 HC1 HZ
  obtain ⟨x0, x1, x2, x3, xf⟩ := cells4 HX1.out
  go_wp2_with fail
  refine (HC2.out _ K1.out).mono ?_
  rintro e w2 ⟨rfl, o2, g2⟩
  have HX2 := hide ((g2.block w.heap.size (by omega) (nb _ (by simp))).trans HX1.out)
  have O2 := hide (World.ownsRow.kept O1.out g2 (hak))
  have I2 : Hid (OwnX base (.slice xo xs.length p3) us xs w2) := ⟨I1.out.len, World.ownsRow.kept I1.out.row g2 (ne_symm hkx), fun p hp => World.ownsRow.kept (I1.out.inner p hp) g2 (ne_symm (hku _ (List.of_mem_zip hp).1))⟩
  have K2 := hide o2
  have B2 := hide (B1.out.trans (GL.of g2 (by simp)))
  have z2 : w.heap.size + 1 ≤ w2.heap.size := by have := g2.size; omega
  clear o2 g2 HX1 B1 K1 I1 O1 HC2 x0 x1 x2 x3 xf
  obtain ⟨x0, x1, x2, x3, xf⟩ := cells4 HX2.out
  go_wp2_with fail
  refine (HC3.out _ I2.out).mono ?_
  rintro e w3 ⟨rfl, o3, g3⟩
  have O3 := hide (g3.own O2.out (fun v hv => by
    rcases List.mem_cons.1 hv with rfl | hv
    · exact hax
    · exact hau v hv))
  have K3 := hide (g3.own K2.out (fun v hv => by
    rcases List.mem_cons.1 hv with rfl | hv
    · exact hkx
    · exact hku v hv))
  have I3 := hide o3
  have B3 := hide (B2.out.trans (g3.mono (fun v hv => by
    rcases List.mem_cons.1 hv with rfl | hv
    · simp
    · simp [hv])))
  clear o3 g3 HX2 B2 K2 I2 O2 HC3 x0 x1 x2 x3 xf nb
  have HCN := hide HM.out.2
  go_wp2
  go_ret
  refine ⟨by rw [HCN.out]; rfl, ?_, B3.out⟩
  rw [HM.out.1]
  exact ⟨by unfold OwnC at *; exact O3.out, K3.out, I3.out, HAP.out⟩
set_option maxHeartbeats 4000000 in
theorem heldSchema_any (A B : Nat) (ao : Option Addr) (p1 : Nat) (ko : Option Addr) (p2 : Nat) (xo : Option Addr) (p3 : Nat) (s : Sch) (w : World) (hB : B ≤ w.heap.size) (hs : schIn s) (hr : SchRow w A B ao ko xo p2 (mSch s)) :
    Calls Try.prog 74 #[.agg #[.string s.name, .slice ao s.cols.length p1, .slice ko s.key.length p2, .slice xo s.idx.length p3], .int .i64 1] w fun e w' => e = .returned (.int .i64 ((cntS s : Nat) : Int)) ∧ Below w.heap.size w w' := by
  obtain ⟨q1, hq1⟩ : ∃ q, q = 1 + 3 * s.cols.length := ⟨_, rfl⟩
  obtain ⟨q2, hq2⟩ : ∃ q, q = q1 + s.key.length := ⟨_, rfl⟩
  have HM : Hid (cntS s = q2 + nI s.idx) := by rw [hq2, hq1]; rfl
  have n1 := hs.nc
  have n2 := hs.nk
  have HC1 := hide (fun (W : World) (hW : Below w.heap.size w W) => show Calls Try.prog 114 #[.slice ao s.cols.length p1, .int .i64 1] W fun e w' => e = .returned (.int .i64 (q1 : Int)) ∧ Below W.heap.size W w' by rw [hq1]; exact heldColumnS_any A B ao s.cols.length p1 1 W (Nat.le_trans hB hW.size) n1 (by omega) (by omega) (hr.2.1.kept (hW.mono hB)))
  have HC2 := hide (fun (W : World) (hW : Below w.heap.size w W) => show Calls Try.prog 115 #[.slice ko s.key.length p2, .int .i64 (q1 : Int)] W fun e w' => e = .returned (.int .i64 (q2 : Int)) ∧ Below W.heap.size W w' by
    have h2 := hr.2.2.1
    unfold mSch at h2
    simp only [← hq1] at h2
    rw [hq2]; exact heldInt64S_any A B ko s.key.length p2 q1 W (Nat.le_trans hB hW.size) n2 (by omega) (h2.kept (hW.mono hB)))
  have HC3 := hide (fun (W : World) (hW : Below w.heap.size w W) => show Calls Try.prog 116 #[.slice xo s.idx.length p3, .int .i64 (q2 : Int)] W fun e w' => e = .returned (.int .i64 ((q2 + nI s.idx : Nat) : Int)) ∧ Below W.heap.size W w' by
    have h3 := hr.2.2.2
    unfold mSch at h3
    simp only [← hq1, ← hq2] at h3
    exact heldIndexS_any A B xo s.idx s.idx.length p3 q2 W (Nat.le_trans hB hW.size) rfl hs.nx (by omega) (fun y hy => (hs.idx y hy).1) (h3.kept (hW.mono hB)))
  obtain ⟨nm, cs, ky, xs⟩ := s
  simp only at *
  have B0 := hide ((Below.refl w.heap.size w).alloc (Nat.le_refl _) (.cells #[.string nm, .slice ao cs.length p1, .slice ko ky.length p2, .slice xo xs.length p3] 27))
  have HX0 := hide (heap_alloc_new w (.cells #[.string nm, .slice ao cs.length p1, .slice ko ky.length p2, .slice xo xs.length p3] 27))
  have HZ : Hid ((w.alloc (.cells #[.string nm, .slice ao cs.length p1, .slice ko ky.length p2, .slice xo xs.length p3] 27)).heap.size = w.heap.size + 1) := by show _ = _; simp
  have hn1 : ¬ ((q1 : Int) < 0) := by omega
  have hn2 : ¬ ((q2 : Int) < 0) := by omega
  have hn3 : ¬ (((q2 + nI xs : Nat) : Int) < 0) := by omega
  clear hr hs hq1 hq2 n1 n2
  generalize q2 + nI xs = q3 at *
  go_enter Try.func74, Try.ntmps74
  go_wp2_with fail
  refine (HC1.out _ B0.out).mono ?_
  generalize w.alloc (.cells #[.string nm, .slice ao cs.length p1, .slice ko ky.length p2, .slice xo xs.length p3] 27) = W0 at *
  rintro e w1 ⟨rfl, g1⟩
  have HX1 := hide ((g1.block w.heap.size (by rw [HZ.out]; omega)).trans HX0.out)
  have B1 := hide (B0.out.trans (g1.mono (by rw [HZ.out]; omega)))
  have z1 : w.heap.size + 1 ≤ w1.heap.size := by have := g1.size; rw [HZ.out] at this; exact this
  clear g1 HX0 B0 HC1 HZ
  obtain ⟨x0, x1, x2, x3, xf⟩ := cells4 HX1.out
  go_wp2_with fail
  refine (HC2.out _ B1.out).mono ?_
  rintro e w2 ⟨rfl, g2⟩
  have HX2 := hide ((g2.block w.heap.size (by omega)).trans HX1.out)
  have B2 := hide (B1.out.trans (g2.mono (by omega)))
  have z2 : w.heap.size + 1 ≤ w2.heap.size := by have := g2.size; omega
  clear g2 HX1 B1 HC2 x0 x1 x2 x3 xf
  obtain ⟨x0, x1, x2, x3, xf⟩ := cells4 HX2.out
  go_wp2_with fail
  refine (HC3.out _ B2.out).mono ?_
  rintro e w3 ⟨rfl, g3⟩
  have B3 := hide (B2.out.trans (g3.mono (by omega)))
  clear g3 HX2 B2 HC3 x0 x1 x2 x3 xf
  go_wp2
  go_ret
  exact ⟨by rw [HM.out]; rfl, B3.out⟩
end Go.Proofs.Ytjihkdbloffbmaa

/-
  Contracts: what was read is marked, held and compared.
-/
namespace Go.Proofs.Ytjihkdbloffbmaa
open Go.RowKit
set_option maxRecDepth 100000

theorem two_allocs (w : World) (o1 o2 : Obj) : ((w.alloc o1).alloc o2).heap[w.heap.size]? = some o1 ∧ ((w.alloc o1).alloc o2).heap[w.heap.size + 1]? = some o2 ∧ ((w.alloc o1).alloc o2).heap.size = w.heap.size + 2 := by
  have s1 : (w.alloc o1).heap.size = w.heap.size + 1 := by simp
  refine ⟨?_, ?_, by simp⟩
  · rw [heap_old _ _ _ (by omega), heap_alloc_new]
  · rw [← s1, heap_alloc_new]
set_option maxHeartbeats 2000000 in
theorem eqSchemaOut_own (b1 b2 : Nat) (a k x a' k' x' : Value) (us us' : List Value) (s : Sch) (c : Int) (w : World) (hs : schIn s) (h : SOwn b1 a k x us s w) (h' : SOwn b2 a' k' x' us' s w) :
    Calls Try.prog 25 #[.agg #[.string s.name, a, k, x, .int .i64 c], .agg #[.string s.name, a', k', x', .int .i64 c]] w fun e w' => e = .returned (.bool true) ∧ Below w.heap.size w w' := by
  obtain ⟨ao, p1, ko, p2, xo, p3, rfl, rfl, rfl, hr⟩ := h.row hs
  obtain ⟨ao', p1', ko', p2', xo', p3', rfl, rfl, rfl, hr'⟩ := h'.row hs
  have HEQ := hide (fun (W : World) (hW : Below w.heap.size w W) => eqSchema_same _ _ _ _ ao p1 ko p2 xo p3 ao' p1' ko' p2' xo' p3' s W hW.size hW.size hs.fits (hr.kept hW) (hr'.kept hW))
  obtain ⟨nm, cs, ky, xs⟩ := s
  simp only at *
  clear h h' hs hr hr'
  have B0 := hide (((Below.refl w.heap.size w).alloc (Nat.le_refl _) (.cells #[.string nm, .slice ao cs.length p1, .slice ko ky.length p2, .slice xo xs.length p3, .int .i64 c] 34)).alloc (by simp) (.cells #[.string nm, .slice ao' cs.length p1', .slice ko' ky.length p2', .slice xo' xs.length p3', .int .i64 c] 34))
  have HT := hide (two_allocs w (.cells #[.string nm, .slice ao cs.length p1, .slice ko ky.length p2, .slice xo xs.length p3, .int .i64 c] 34) (.cells #[.string nm, .slice ao' cs.length p1', .slice ko' ky.length p2', .slice xo' xs.length p3', .int .i64 c] 34))
  go_enter Try.func25, Try.ntmps25
  go_wp2_with fail
  refine (HEQ.out _ B0.out).mono ?_
  generalize (w.alloc (.cells #[.string nm, .slice ao cs.length p1, .slice ko ky.length p2, .slice xo xs.length p3, .int .i64 c] 34)).alloc (.cells #[.string nm, .slice ao' cs.length p1', .slice ko' ky.length p2', .slice xo' xs.length p3', .int .i64 c] 34) = W0 at *
  rintro e w1 ⟨rfl, g1⟩
  obtain ⟨hx, hy, hz⟩ := HT.out
  obtain ⟨x0, x1, x2, x3, x4, xf⟩ := cells5 ((g1.block w.heap.size (by omega)).trans hx)
  obtain ⟨y0, y1, y2, y3, y4, yf⟩ := cells5 ((g1.block (w.heap.size + 1) (by omega)).trans hy)
  have B1 := hide (B0.out.trans (g1.mono (by omega)))
  clear g1 hx hy hz HT B0 HEQ
  go_wp2
  go_ret
  exact ⟨rfl, B1.out⟩
set_option maxHeartbeats 2000000 in
theorem markSchemaOut_own (base : Nat) (a k x : Value) (us : List Value) (s : Sch) (c : Int) (w : World) (hs : schIn s) (h : SOwn base a k x us s w) :
    Calls Try.prog 26 #[.agg #[.string s.name, a, k, x, .int .i64 c], .int .i64 1] w fun e w' => e = .returned (.int .i64 ((cntS s : Nat) : Int)) ∧ SOwn base a k x us (mSch s) w' ∧ GL (a :: k :: x :: us) w w' := by
  have BA := (Below.refl w.heap.size w).alloc (Nat.le_refl _) (.cells #[.string s.name, a, k, x, .int .i64 c] 34)
  have HC := hide (markSchema_own base a k x us s _ hs (h.below BA))
  have B0 := hide (GL.alloc (a :: k :: x :: us) w (.cells #[.string s.name, a, k, x, .int .i64 c] 34))
  obtain ⟨ao, p1, rfl⟩ := ownC_shape h.cols
  obtain ⟨ko, p2, rfl⟩ := ownN_shape h.key
  obtain ⟨xo, p3, rfl⟩ := ownX_shape h.idx
  generalize mSch s = ms at *
  generalize cntS s = n at *
  obtain ⟨nm, cs, ky, xs⟩ := s
  simp only at *
  clear h hs BA
  go_enter Try.func26, Try.ntmps26
  go_wp2_with fail
  refine HC.out.mono ?_
  generalize w.alloc (.cells #[.string nm, .slice ao cs.length p1, .slice ko ky.length p2, .slice xo xs.length p3, .int .i64 c] 34) = W0 at *
  rintro e w1 ⟨rfl, o1, g1⟩
  have O1 := hide o1
  have B1 := hide (B0.out.trans g1)
  clear o1 g1 HC B0
  go_wp2
  go_ret
  exact ⟨rfl, O1.out, B1.out⟩
set_option maxHeartbeats 2000000 in
theorem heldSchemaOut_own (base : Nat) (a k x : Value) (us : List Value) (s : Sch) (c : Int) (w : World) (hs : schIn s) (h : SOwn base a k x us (mSch s) w) :
    Calls Try.prog 27 #[.agg #[.string s.name, a, k, x, .int .i64 c], .int .i64 1] w fun e w' => e = .returned (.int .i64 ((cntS s : Nat) : Int)) ∧ Below w.heap.size w w' := by
  obtain ⟨ao, p1, ko, p2, xo, p3, rfl, rfl, rfl, hr⟩ := h.row (mSch_in hs)
  have BA := (Below.refl w.heap.size w).alloc (Nat.le_refl _) (.cells #[.string s.name, .slice ao s.cols.length p1, .slice ko s.key.length p2, .slice xo s.idx.length p3, .int .i64 c] 34)
  have HC := hide (heldSchema_any _ _ ao p1 ko p2 xo p3 s _ BA.size hs (hr.kept BA))
  have B0 := hide BA
  have e1 : (mSch s).cols.length = s.cols.length := mCols_len _ _
  have e2 : (mSch s).key.length = s.key.length := mNums_len _ _
  have e3 : (mSch s).idx.length = s.idx.length := mIdx_len _ _
  rw [e1, e2, e3]
  generalize cntS s = n at *
  obtain ⟨nm, cs, ky, xs⟩ := s
  simp only at *
  clear h hs BA hr e1 e2 e3
  have hn : ¬ ((n : Int) < 0) := by omega
  go_enter Try.func27, Try.ntmps27
  go_wp2_with fail
  refine HC.out.mono ?_
  generalize hW : w.alloc (.cells #[.string nm, .slice ao cs.length p1, .slice ko ky.length p2, .slice xo xs.length p3, .int .i64 c] 34) = W0 at *
  rintro e w1 ⟨rfl, g1⟩
  have B1 := hide (B0.out.trans (g1.mono B0.out.size))
  clear g1 HC B0 hW
  go_wp2
  go_ret
  exact ⟨rfl, B1.out⟩
end Go.Proofs.Ytjihkdbloffbmaa

/-
  Contracts: a schema is read of a text, by the specification.
-/
namespace Go.Proofs.Ytjihkdbloffbmaa
open Go.RowKit
set_option maxRecDepth 100000

set_option maxHeartbeats 4000000 in
theorem specSchemaRead_any (t : ByteArray) (w : World) :
    Calls Try.prog 16 #[.string t] w fun e w' => ∃ a k x us, e = .returned (.agg #[.string (readSch t).1.name, a, k, x, .int .i64 (readSch t).2]) ∧ SOwn w.heap.size a k x us (readSch t).1 w' ∧ Below w.heap.size w w' := by
  have HK : Hid ((w.alloc (.cells #[.string ⟨#[]⟩, .slice none 0 0, .slice none 0 0, .slice none 0 0, .int .i64 0] 34)).heap[w.heap.size]? = some (.cells #[.string ⟨#[]⟩, .slice none 0 0, .slice none 0 0, .slice none 0 0, .int .i64 0] 34 (0, 0))) := heap_alloc_new _ _
  have B0 := hide ((Below.refl w.heap.size w).alloc (Nat.le_refl _) (.cells #[.string ⟨#[]⟩, .slice none 0 0, .slice none 0 0, .slice none 0 0, .int .i64 0] 34))
  by_cases hl : 20000 < t.size
  · have HR := hide (readSch_long hl)
    have h1 : 20000 < (t.size : Int) := by omega
    clear hl
    go_enter Try.func16, Try.ntmps16
    obtain ⟨x0, x1, x2, x3, x4, xf⟩ := cells5 HK.out
    go_wp2
    refine bodyPost_ret (v := .agg #[.string ⟨#[]⟩, .slice none 0 0, .slice none 0 0, .slice none 0 0, .int .i64 2]) (resSO Try.results16 _ _ w.heap.size _ _ _ _ _ rfl (heap_alloc_new _ _)) rfl ⟨_, _, _, [], by rw [HR.out]; rfl, by rw [HR.out]; exact noSch_own _ _, (Below.refl _ _).alloc (Nat.le_refl _) _⟩
  · have h1 : ¬ 20000 < (t.size : Int) := by omega
    have HL := hide hl
    obtain ⟨S, st, he⟩ : ∃ S st, rSch t (some 0) = (S, st) := ⟨_, _, rfl⟩
    have HSI := hide (show schIn S by have := rSch_in t (some 0) (by unfold maxLen; omega); rw [he] at this; exact this)
    have HE := hide he
    have HC1 : Hid (SpAt (w.heap.size + 1) t (some 0) ((w.alloc (.cells #[.string ⟨#[]⟩, .slice none 0 0, .slice none 0 0, .slice none 0 0, .int .i64 0] 34)).alloc (.cells #[.string t, .int .i64 0, .bool false] 96))) := by
      refine ⟨by omega, 0, false, ?_, by omega, .inl ⟨0, rfl, rfl, rfl, Nat.zero_le _⟩⟩
      have := heap_alloc_new (w.alloc (.cells #[.string ⟨#[]⟩, .slice none 0 0, .slice none 0 0, .slice none 0 0, .int .i64 0] 34)) (.cells #[.string t, .int .i64 0, .bool false] 96)
      simpa using this
    have HK1 := hide ((heap_old _ (.cells #[.string t, .int .i64 0, .bool false] 96) _ (by simp)).trans HK.out)
    have B1 := hide (B0.out.alloc (by simp) (.cells #[.string t, .int .i64 0, .bool false] 96))
    have HRD := hide (spSchema_rd (w.heap.size + 1) t (some 0) _ HC1.out)
    have HZ : Hid (((w.alloc (.cells #[.string ⟨#[]⟩, .slice none 0 0, .slice none 0 0, .slice none 0 0, .int .i64 0] 34)).alloc (.cells #[.string t, .int .i64 0, .bool false] 96)).heap.size = w.heap.size + 2) := by show _ = _; simp
    rw [he] at HRD
    clear hl he HK B0 HC1
    go_enter Try.func16, Try.ntmps16
    go_wp2_with fail
    refine HRD.out.mono ?_
    generalize (w.alloc (.cells #[.string ⟨#[]⟩, .slice none 0 0, .slice none 0 0, .slice none 0 0, .int .i64 0] 34)).alloc (.cells #[.string t, .int .i64 0, .bool false] 96) = W1 at *
    rintro e w2 ⟨a, k, x, us, rfl, o2, c2, g2⟩
    obtain ⟨ao, p1, ko, p2, xo, p3, rfl, rfl, rfl, hrow⟩ := o2.row HSI.out
    obtain ⟨nm, cs, ky, xs⟩ := S
    simp only at *
    have hz2 : w.heap.size + 2 ≤ w2.heap.size := by have := g2.size; rw [HZ.out] at this; exact this
    have HK2 := hide ((heap_old w2 (.cells #[.string nm, .slice ao cs.length p1, .slice ko ky.length p2, .slice xo xs.length p3] 27) w.heap.size (by omega)).trans ((g2.block w.heap.size (by rw [HZ.out]; omega) (fun e => by have := Option.some.inj e; omega)).trans HK1.out))
    have B2 := hide ((B1.out.grown g2 (by rw [HZ.out]; omega) (fun j hj => by have := Option.some.inj hj; omega)).alloc (by omega) (.cells #[.string nm, .slice ao cs.length p1, .slice ko ky.length p2, .slice xo xs.length p3] 27))
    have BA := (Below.refl w2.heap.size w2).alloc (Nat.le_refl _) (.cells #[.string nm, .slice ao cs.length p1, .slice ko ky.length p2, .slice xo xs.length p3] 27)
    have O2 := hide ((o2.below BA).base (show w.heap.size + 1 ≤ W1.heap.size + 1 by rw [HZ.out]; omega))
    have C2 := hide (c2.below BA (by omega))
    have R2 := hide (hrow.kept BA)
    have X2 := hide (heap_alloc_new w2 (.cells #[.string nm, .slice ao cs.length p1, .slice ko ky.length p2, .slice xo xs.length p3] 27))
    have hza : (w2.alloc (.cells #[.string nm, .slice ao cs.length p1, .slice ko ky.length p2, .slice xo xs.length p3] 27)).heap.size = w2.heap.size + 1 := by simp
    have HRA := hide (spDone_any (w.heap.size + 1) t st _ C2.out)
    have HSR := hide (specSchemaRight_any _ _ ao p1 ko p2 xo p3 ⟨nm, cs, ky, xs⟩ (w2.alloc (.cells #[.string nm, .slice ao cs.length p1, .slice ko ky.length p2, .slice xo xs.length p3] 27)).drew (show w2.heap.size ≤ _ by show w2.heap.size ≤ (w2.alloc _).heap.size; rw [hza]; omega) (R2.out.kept (Below.refl _ _).drew))
    have HZA := hide hza
    clear hza BA o2 c2 g2 hrow HK1 B1 HRD HZ R2
    obtain ⟨y0, y1, y2, y3, yf⟩ := cells4 X2.out
    go_wp2_with fail
    refine HRA.out.mono ?_
    rintro e w3 ⟨rfl, rfl⟩
    have B3 := hide B2.out.drew
    have O3 : Hid (SOwn (w.heap.size + 1) (.slice ao cs.length p1) (.slice ko ky.length p2) (.slice xo xs.length p3) us ⟨nm, cs, ky, xs⟩ (w2.alloc (.cells #[.string nm, .slice ao cs.length p1, .slice ko ky.length p2, .slice xo xs.length p3] 27)).drew) := O2.out.below (Below.refl _ _).drew
    have HK3 : Hid ((w2.alloc (.cells #[.string nm, .slice ao cs.length p1, .slice ko ky.length p2, .slice xo xs.length p3] 27)).drew.heap[w.heap.size]? = some (.cells #[.string ⟨#[]⟩, .slice none 0 0, .slice none 0 0, .slice none 0 0, .int .i64 0] 34 (0, 0))) := HK2.out
    have X3 : Hid ((w2.alloc (.cells #[.string nm, .slice ao cs.length p1, .slice ko ky.length p2, .slice xo xs.length p3] 27)).drew.heap[w2.heap.size]? = some (.cells #[.string nm, .slice ao cs.length p1, .slice ko ky.length p2, .slice xo xs.length p3] 27 (0, 0))) := X2.out
    have hz3 : w2.heap.size < (w2.alloc (.cells #[.string nm, .slice ao cs.length p1, .slice ko ky.length p2, .slice xo xs.length p3] 27)).drew.heap.size := by show w2.heap.size < (w2.alloc _).heap.size; rw [HZA.out]; omega
    clear B2 O2 HK2 X2 C2 HRA HZA y0 y1 y2 y3 yf
    generalize (w2.alloc (.cells #[.string nm, .slice ao cs.length p1, .slice ko ky.length p2, .slice xo xs.length p3] 27)).drew = W3 at *
    generalize w2.heap.size = g3 at *
    obtain ⟨y0, y1, y2, y3, yf⟩ := cells4 X3.out
    obtain ⟨x0, x1, x2, x3, x4, xf⟩ := cells5 HK3.out
    by_cases hst : st = some t.size
    · have hd : decide (st = some t.size) = true := decide_eq_true hst
      rw [hd]
      clear hd
      have HST := hide hst
      clear hst x0 x1 x2 x3 x4 xf
      go_wp2_with fail
      refine HSR.out.mono ?_
      rintro e w4 ⟨rfl, hb4⟩
      have HK4 := hide ((hb4.block w.heap.size (by omega)).trans HK3.out)
      have X4 := hide ((hb4.block g3 hz3).trans X3.out)
      have O4 := hide (O3.out.below hb4)
      have B4 := hide (B3.out.trans (hb4.mono (by omega)))
      clear hb4 B3 O3 HK3 X3 HSR y0 y1 y2 y3 yf
      obtain ⟨y0, y1, y2, y3, yf⟩ := cells4 X4.out
      obtain ⟨x0, x1, x2, x3, x4, xf⟩ := cells5 HK4.out
      by_cases hr : schRight ⟨nm, cs, ky, xs⟩ = true
      · have HG := hide (readSch_good HL.out HE.out ⟨HST.out, hr⟩)
        rw [hr]
        clear hr
        go_wp2
        refine bodyPost_ret (v := .agg #[.string nm, .slice ao cs.length p1, .slice ko ky.length p2, .slice xo xs.length p3, .int .i64 0]) (resSO Try.results16 _ _ w.heap.size _ _ _ _ _ rfl (set5 HK4.out)) rfl ⟨_, _, _, us, by rw [HG.out], by rw [HG.out]; exact (O4.out.set5 (Nat.lt_succ_self _)).base (Nat.le_succ _), below5 B4.out (Nat.le_refl _)⟩
      · have HG := hide (readSch_bad HL.out HE.out (fun h => hr h.2))
        rw [Bool.not_eq_true] at hr
        rw [hr]
        clear hr
        go_wp2
        refine bodyPost_ret (v := .agg #[.string ⟨#[]⟩, .slice none 0 0, .slice none 0 0, .slice none 0 0, .int .i64 3]) (resSO Try.results16 _ _ w.heap.size _ _ _ _ _ rfl (set5 HK4.out)) rfl ⟨_, _, _, [], by rw [HG.out]; rfl, by rw [HG.out]; exact noSch_own _ _, below5 B4.out (Nat.le_refl _)⟩
    · have hd : decide (st = some t.size) = false := decide_eq_false hst
      have HG := hide (readSch_bad HL.out HE.out (fun h => hst h.1))
      rw [hd]
      clear hd hst HSR
      go_wp2
      refine bodyPost_ret (v := .agg #[.string ⟨#[]⟩, .slice none 0 0, .slice none 0 0, .slice none 0 0, .int .i64 3]) (resSO Try.results16 _ _ w.heap.size _ _ _ _ _ rfl (set5 HK3.out)) rfl ⟨_, _, _, [], by rw [HG.out]; rfl, by rw [HG.out]; exact noSch_own _ _, below5 B3.out (Nat.le_refl _)⟩
end Go.Proofs.Ytjihkdbloffbmaa

/-
  The law on SchemaRead, out of the contracts.
-/
namespace Go.Proofs.Ytjihkdbloffbmaa
open Go.RowKit
set_option maxRecDepth 100000

theorem owns_keepB {w w' : World} {B base n size : Nat} {t : TypeId} {v : Value} {xs : List Value} (h : w.ownsRow base t size v n xs) (hb : Below B w w') (hlt : ∀ b, v.ownBlock = some b → b < B) : w'.ownsRow base t size v n xs := by
  refine ⟨h.1, ?_⟩
  rcases h.2 with h0 | ⟨g, cap, cur, rfl, hB, hg, rest⟩
  · exact .inl h0
  · exact .inr ⟨g, cap, cur, rfl, hB, (hb.block _ (hlt g rfl)).trans hg, rest⟩
theorem SOwn.keepB {base B : Nat} {a k x : Value} {us : List Value} {S : Sch} {w w' : World} (h : SOwn base a k x us S w) (hb : Below B w w') (hlt : ∀ v ∈ a :: k :: x :: us, ∀ b, v.ownBlock = some b → b < B) : SOwn base a k x us S w' :=
  ⟨owns_keepB h.cols hb (hlt _ (by simp)), owns_keepB h.key hb (hlt _ (by simp)), ⟨h.idx.len, owns_keepB h.idx.row hb (hlt _ (by simp)), fun p hp => owns_keepB (h.idx.inner p hp) hb (hlt _ (by simp [(List.of_mem_zip hp).1]))⟩, h.apart⟩
theorem SOwn.from {base : Nat} {a k x : Value} {us : List Value} {S : Sch} {w : World} (h : SOwn base a k x us S w) : ∀ v ∈ a :: k :: x :: us, ∀ b, v.ownBlock = some b → base ≤ b := by
  intro v hv b hb
  simp only [List.mem_cons] at hv
  rcases hv with rfl | rfl | rfl | hv
  · exact (World.ownsRow.lt h.cols b hb).1
  · exact (World.ownsRow.lt h.key b hb).1
  · exact (World.ownsRow.lt h.idx.row b hb).1
  · obtain ⟨y, hy⟩ := mem_zip h.idx.len hv
    exact (World.ownsRow.lt (h.idx.inner _ hy) b hb).1
/-- What was read lies in a variable of block g, its rows behind 'base'. -/
structure RdAt (g base : Nat) (a k x : Value) (us : List Value) (nm : ByteArray) (S : Sch) (c : Int) (w : World) : Prop where
  own : SOwn base a k x us S w
  at' : w.heap[g]? = some (.cells #[.string nm, a, k, x, .int .i64 c] 34 (0, 0))
theorem RdAt.below {g base : Nat} {a k x : Value} {us : List Value} {nm : ByteArray} {S : Sch} {c : Int} {w w' : World} (h : RdAt g base a k x us nm S c w) (hb : Below w.heap.size w w') : RdAt g base a k x us nm S c w' :=
  ⟨h.own.below hb, (hb.block g (Array.getElem?_eq_some_iff.1 h.at').1).trans h.at'⟩
theorem RdAt.keepB {g base B : Nat} {a k x : Value} {us : List Value} {nm : ByteArray} {S : Sch} {c : Int} {w w' : World} (h : RdAt g base a k x us nm S c w) (hb : Below B w w') (hg : g < B) (hlt : ∀ v ∈ a :: k :: x :: us, ∀ b, v.ownBlock = some b → b < B) : RdAt g base a k x us nm S c w' :=
  ⟨h.own.keepB hb hlt, (hb.block g hg).trans h.at'⟩
theorem RdAt.new {base : Nat} {a k x : Value} {us : List Value} {nm : ByteArray} {S : Sch} {c : Int} {w : World} (h : SOwn base a k x us S w) : RdAt w.heap.size base a k x us nm S c (w.alloc (.cells #[.string nm, a, k, x, .int .i64 c] 34)) :=
  ⟨h.below ((Below.refl _ _).alloc (Nat.le_refl _) _), heap_alloc_new _ _⟩
set_option maxHeartbeats 4000000 in
theorem lawSchemaRead (t : ByteArray) (_w0 : t.size ≤ maxLen) (w : World) :
    Calls Try.prog 6 #[.string t] w fun e w' => e = .returned (.bool true) ∧ Below w.heap.size w w' := by
  by_cases hl : 1048576 < t.size
  · have h1 : 1048576 < (t.size : Int) := by omega
    go_enter Try.func6, Try.ntmps6
    go_wp2
    go_ret
    exact ⟨rfl, Below.refl _ _⟩
  · have h1 : ¬ 1048576 < (t.size : Int) := by omega
    have HSP := hide (fun W => specSchemaRead_any t W)
    have HIM := hide (fun W => implSchemaRead_any t W)
    have HIN := hide (readSch_in t)
    clear hl _w0
    generalize readSch t = y at *
    obtain ⟨S, c⟩ := y
    simp only at HSP HIM HIN
    have HEQ := hide (fun b1 b2 a k x a' k' x' us us' W => eqSchemaOut_own b1 b2 a k x a' k' x' us us' S c W HIN.out)
    have HMK := hide (fun base a k x us W => markSchemaOut_own base a k x us S c W HIN.out)
    have HHD := hide (fun base a k x us W => heldSchemaOut_own base a k x us S c W HIN.out)
    have hn : ¬ ((cntS S : Int) < 0) := by omega
    have HSH := hide (fun base a k x us W => show SOwn base a k x us S W → ∃ ao p1 ko p2 xo p3, a = .slice ao S.cols.length p1 ∧ k = .slice ko S.key.length p2 ∧ x = .slice xo S.idx.length p3 from fun h => by
      obtain ⟨ao, p1, rfl⟩ := ownC_shape h.cols
      obtain ⟨ko, p2, rfl⟩ := ownN_shape h.key
      obtain ⟨xo, p3, rfl⟩ := ownX_shape h.idx
      exact ⟨ao, p1, ko, p2, xo, p3, rfl, rfl, rfl⟩)
    generalize mSch S = M at *
    generalize cntS S = N at *
    generalize S.cols.length = n1 at *
    generalize S.key.length = n2 at *
    generalize S.idx.length = n3 at *
    generalize S.name = nm at *
    go_enter Try.func6, Try.ntmps6
    go_wp2_with fail
    refine (HSP.out _).mono ?_
    rintro e w1 ⟨a1, k1, x1, us1, rfl, o1, b1⟩
    obtain ⟨ao1, p11, ko1, p12, xo1, p13, rfl, rfl, rfl⟩ := HSH.out _ _ _ _ _ _ o1
    have R1 := hide (RdAt.new (nm := nm) (c := c) o1)
    have K1 := hide (b1.alloc b1.size (.cells #[.string nm, .slice ao1 n1 p11, .slice ko1 n2 p12, .slice xo1 n3 p13, .int .i64 c] 34))
    have L1 := hide o1.blocks
    have Z1 : Hid ((w1.alloc (.cells #[.string nm, .slice ao1 n1 p11, .slice ko1 n2 p12, .slice xo1 n3 p13, .int .i64 c] 34)).heap.size = w1.heap.size + 1) := by show _ = _; simp
    have y1 : w.heap.size ≤ w1.heap.size := b1.size
    clear o1 b1 HSP
    go_wp2_with fail
    refine (HIM.out _).mono ?_
    generalize w1.alloc (.cells #[.string nm, .slice ao1 n1 p11, .slice ko1 n2 p12, .slice xo1 n3 p13, .int .i64 c] 34) = W1 at *
    generalize w1.heap.size = g1 at *
    rintro e w2 ⟨a2, k2, x2, us2, rfl, o2, b2⟩
    obtain ⟨ao2, p21, ko2, p22, xo2, p23, rfl, rfl, rfl⟩ := HSH.out _ _ _ _ _ _ o2
    have BA := (Below.refl w2.heap.size w2).alloc (Nat.le_refl _) (.cells #[.string nm, .slice ao2 n1 p21, .slice ko2 n2 p22, .slice xo2 n3 p23, .int .i64 c] 34)
    have R12 := hide ((R1.out.below b2).below BA)
    have R2 := hide (RdAt.new (nm := nm) (c := c) o2)
    have K2 := hide (K1.out.trans ((b2.alloc b2.size (.cells #[.string nm, .slice ao2 n1 p21, .slice ko2 n2 p22, .slice xo2 n3 p23, .int .i64 c] 34)).mono K1.out.size))
    have L2 := hide o2.blocks
    have F2 := hide o2.from
    have Z2 : Hid ((w2.alloc (.cells #[.string nm, .slice ao2 n1 p21, .slice ko2 n2 p22, .slice xo2 n3 p23, .int .i64 c] 34)).heap.size = w2.heap.size + 1) := by show _ = _; simp
    have y2 : g1 + 1 ≤ w2.heap.size := by have := b2.size; rw [Z1.out] at this; exact this
    obtain ⟨x0, x1, x2, x3, x4, xf⟩ := cells5 R12.out.at'
    clear o2 b2 BA R1 K1
    go_wp2_with fail
    refine (HEQ.out _ _ _ _ _ _ _ _ _ _ _ R2.out.own R12.out.own).mono ?_
    generalize w2.alloc (.cells #[.string nm, .slice ao2 n1 p21, .slice ko2 n2 p22, .slice xo2 n3 p23, .int .i64 c] 34) = W2 at *
    generalize w2.heap.size = g2 at *
    rintro e w3 ⟨rfl, b3⟩
    have R13 := hide (R12.out.below b3)
    have R23 := hide (R2.out.below b3)
    have K3 := hide (K2.out.trans (b3.mono K2.out.size))
    have y3 : g2 + 1 ≤ w3.heap.size := by have := b3.size; rw [Z2.out] at this; exact this
    clear b3 R12 R2 K2 Z2 x0 x1 x2 x3 x4 xf
    obtain ⟨x0, x1, x2, x3, x4, xf⟩ := cells5 R23.out.at'
    go_wp2_with fail
    refine (HMK.out _ _ _ _ _ _ R23.out.own).mono ?_
    rintro e w4 ⟨rfl, o4, b4⟩
    have hbel : Below (g1 + 1) w3 w4 := b4.below (fun v hv b e => by have := F2.out v hv b e; rw [Z1.out] at this; exact this) (by omega)
    have R14 := hide (R13.out.keepB hbel (Nat.lt_succ_self _) (fun v hv b e => Nat.lt_succ_of_lt (L1.out v hv b e)))
    have R24 : Hid (RdAt g2 W1.heap.size (.slice ao2 n1 p21) (.slice ko2 n2 p22) (.slice xo2 n3 p23) us2 nm M c w4) := ⟨o4, (b4.block g2 (by omega) (fun v hv e => Nat.lt_irrefl _ (L2.out v hv _ e))).trans R23.out.at'⟩
    have K4 := hide (K3.out.trans (hbel.mono (by omega)))
    have y4 : g2 + 1 ≤ w4.heap.size := by have := b4.size; omega
    clear o4 b4 hbel R13 R23 K3 L1 L2 F2 Z1 x0 x1 x2 x3 x4 xf HMK
    obtain ⟨x0, x1, x2, x3, x4, xf⟩ := cells5 R24.out.at'
    go_wp2_with fail
    refine (HHD.out _ _ _ _ _ _ R24.out.own).mono ?_
    rintro e w5 ⟨rfl, b5⟩
    have R15 := hide (R14.out.below b5)
    have R25 := hide (R24.out.below b5)
    have K5 := hide (K4.out.trans (b5.mono K4.out.size))
    have y5 : g2 + 1 ≤ w5.heap.size := by have := b5.size; omega
    clear b5 R14 R24 K4 x0 x1 x2 x3 x4 xf
    go_wp2_with fail
    refine (HIM.out _).mono ?_
    rintro e w6 ⟨a6, k6, x6, us6, rfl, o6, b6⟩
    obtain ⟨ao6, p61, ko6, p62, xo6, p63, rfl, rfl, rfl⟩ := HSH.out _ _ _ _ _ _ o6
    have BA := (Below.refl w6.heap.size w6).alloc (Nat.le_refl _) (.cells #[.string nm, .slice ao6 n1 p61, .slice ko6 n2 p62, .slice xo6 n3 p63, .int .i64 c] 34)
    have R16 := hide ((R15.out.below b6).below BA)
    have R26 := hide ((R25.out.below b6).below BA)
    have R66 := hide (RdAt.new (nm := nm) (c := c) o6)
    have K6 := hide (K5.out.trans ((b6.alloc b6.size (.cells #[.string nm, .slice ao6 n1 p61, .slice ko6 n2 p62, .slice xo6 n3 p63, .int .i64 c] 34)).mono K5.out.size))
    have y6 : g2 + 1 ≤ w6.heap.size := by have := b6.size; omega
    obtain ⟨x0, x1, x2, x3, x4, xf⟩ := cells5 R16.out.at'
    clear o6 b6 BA R15 R25 K5
    go_wp2_with fail
    refine (HEQ.out _ _ _ _ _ _ _ _ _ _ _ R66.out.own R16.out.own).mono ?_
    generalize w6.alloc (.cells #[.string nm, .slice ao6 n1 p61, .slice ko6 n2 p62, .slice xo6 n3 p63, .int .i64 c] 34) = W6 at *
    generalize w6.heap.size = g6 at *
    rintro e w7 ⟨rfl, b7⟩
    have R27 := hide (R26.out.below b7)
    have K7 := hide (K6.out.trans (b7.mono K6.out.size))
    clear b7 R16 R26 R66 K6 x0 x1 x2 x3 x4 xf HEQ HIM
    obtain ⟨x0, x1, x2, x3, x4, xf⟩ := cells5 R27.out.at'
    go_wp2_with fail
    refine (HHD.out _ _ _ _ _ _ R27.out.own).mono ?_
    rintro e w8 ⟨rfl, b8⟩
    have K8 := hide (K7.out.trans (b8.mono K7.out.size))
    clear b8 R27 K7 x0 x1 x2 x3 x4 xf HHD
    go_wp2
    go_ret
    exact ⟨rfl, K8.out⟩
end Go.Proofs.Ytjihkdbloffbmaa
