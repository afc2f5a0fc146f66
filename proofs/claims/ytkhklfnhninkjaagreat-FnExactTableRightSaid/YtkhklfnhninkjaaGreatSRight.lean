/-
  Contracts: is a schema right? The program's answer.
-/
import Derived.Test.YtkhklfnhninkjaaGreatSMap
import Derived.Test.YtkhklfnhninkjaaGreatSCopy3
namespace Go.Proofs.YtkhklfnhninkjaaGreat
open Go.RowKit
set_option maxRecDepth 100000

def keyOk (s : Sch) : Bool := isCols s.cols.length s.key && upto (keyAt s) s.key.length
def idxOk (s : Sch) : Bool := decide (s.idx.length ≤ 4) && upto (idxAt s) s.idx.length
theorem and7 : ∀ a b c d e f g : Bool, (a && b && c && d && e && f && g) = ((b && e) && a && (c && f) && (d && g)) := by decide
theorem schRight_eq (s : Sch) : schRight s = (colsOk s.cols && nameOk s.name.data.toList && keyOk s && idxOk s) := by
  unfold schRight colsOk keyOk idxOk; exact and7 _ _ _ _ _ _ _
theorem cells4a (w : World) (a b c d : Value) (t : TypeId) : (w.alloc (.cells #[a, b, c, d] t)).cell? ⟨w.heap.size, 0, none⟩ = some a ∧ (w.alloc (.cells #[a, b, c, d] t)).cell? ⟨w.heap.size, 1, none⟩ = some b ∧ (w.alloc (.cells #[a, b, c, d] t)).cell? ⟨w.heap.size, 2, none⟩ = some c ∧ (w.alloc (.cells #[a, b, c, d] t)).cell? ⟨w.heap.size, 3, none⟩ = some d := by
  have h := heap_alloc_new w (.cells #[a, b, c, d] t)
  exact ⟨by rw [cell_of_row _ _ _ _ _ _ h]; rfl, by rw [cell_of_row _ _ _ _ _ _ h]; rfl, by rw [cell_of_row _ _ _ _ _ _ h]; rfl, by rw [cell_of_row _ _ _ _ _ _ h]; rfl⟩
set_option maxHeartbeats 2000000 in
theorem keyRight_any (A B : Nat) (ao : Option Addr) (c1 : Nat) (ko : Option Addr) (c2 : Nat) (xo : Option Addr) (c3 : Nat) (s : Sch) (w : World) (hB : B ≤ w.heap.size) (hr : SchRow w A B ao ko xo c2 s) :
    Calls Tryz.prog 58 #[.agg #[.string s.name, .slice ao s.cols.length c1, .slice ko s.key.length c2, .slice xo s.idx.length c3]] w fun e w' => e = .returned (.bool (keyOk s)) ∧ Below w.heap.size w w' := by
  obtain ⟨nm, cs, ky, xs⟩ := s
  simp only
  obtain ⟨⟨hn0, hn1, hn2, hn3⟩, hr1, hr2, hr3⟩ := hr
  simp only at hn0 hn1 hn2 hn3 hr1 hr2 hr3
  obtain ⟨hk1, hk2⟩ := hn2
  have B0 : Hid (Below w.heap.size w (w.alloc (.cells #[.string nm, .slice ao cs.length c1, .slice ko ky.length c2, .slice xo xs.length c3] 35))) := (Below.refl _ _).alloc (Nat.le_refl _) _
  have R1 : Hid (ColRow (w.alloc (.cells #[.string nm, .slice ao cs.length c1, .slice ko ky.length c2, .slice xo xs.length c3] 35)) A B ao cs) := hr1.kept (B0.out.mono hB)
  have R2 : Hid (IntRow (w.alloc (.cells #[.string nm, .slice ao cs.length c1, .slice ko ky.length c2, .slice xo xs.length c3] 35)) A B ko ky) := hr2.kept (B0.out.mono hB)
  have hca := areColumns_any A B ko c2 ky cs.length _ hk1 hk2 R2.out
  clear hr1 hr2 hr3 hn0 hn3
  unfold maxLen at hn1 hk2
  cases hic : isCols cs.length ky with
  | false =>
    rw [hic] at hca
    have HC : Hid (Calls Tryz.prog 70 #[.slice ko ky.length c2, .int .i64 cs.length] (w.alloc (.cells #[.string nm, .slice ao cs.length c1, .slice ko ky.length c2, .slice xo xs.length c3] 35)) fun e w' => e = .returned (.bool false) ∧ w' = (w.alloc (.cells #[.string nm, .slice ao cs.length c1, .slice ko ky.length c2, .slice xo xs.length c3] 35))) := hca
    have HF : Hid (keyOk ⟨nm, cs, ky, xs⟩ = false) := by show _ = _; unfold keyOk; simp only; rw [hic]; rfl
    clear hca hic R1 R2
    go_enter Tryz.func58, Tryz.ntmps58
    go_wp2_with fail
    refine HC.out.mono ?_
    rintro e w1 ⟨rfl, rfl⟩
    go_wp2
    go_ret
    exact ⟨ret_bool HF.out.symm, B0.out⟩
  | true =>
    rw [hic] at hca
    have HC : Hid (Calls Tryz.prog 70 #[.slice ko ky.length c2, .int .i64 cs.length] (w.alloc (.cells #[.string nm, .slice ao cs.length c1, .slice ko ky.length c2, .slice xo xs.length c3] 35)) fun e w' => e = .returned (.bool true) ∧ w' = (w.alloc (.cells #[.string nm, .slice ao cs.length c1, .slice ko ky.length c2, .slice xo xs.length c3] 35))) := hca
    have HI : Hid (isCols cs.length ky = true) := hic
    have HV : Hid (keyOk ⟨nm, cs, ky, xs⟩ = upto (keyAt ⟨nm, cs, ky, xs⟩) ky.length) := by show _ = _; unfold keyOk; simp only; rw [hic]; rfl
    clear hca hic
    obtain ⟨x0, x1, x2, x3⟩ := cells4a w (.string nm) (.slice ao cs.length c1) (.slice ko ky.length c2) (.slice xo xs.length c3) 35
    go_enter Tryz.func58, Tryz.ntmps58
    go_wp2_with fail
    refine HC.out.mono ?_
    rintro e w1 ⟨rfl, rfl⟩
    clear HC
    go_wp2
    generalize w.alloc (.cells #[.string nm, .slice ao cs.length c1, .slice ko ky.length c2, .slice xo xs.length c3] 35) = W0 at *
    go_loop [15] (fun i => ∃ j : Nat, j ≤ ky.length ∧ i = .int .i64 j ∧ Hid (upto (keyAt ⟨nm, cs, ky, xs⟩) j = true)) (fun i => ky.length - (intOf i).toNat)
    case atStart => exact ⟨0, Nat.zero_le _, rfl, rfl⟩
    case round =>
      obtain ⟨j, hj, rfl, HU⟩ := hrel
      by_cases hlt : j < ky.length
      · obtain ⟨b, off, x, rfl, hbB, hv, hx, d0⟩ := R2.out.at j hlt
        have hxr := isCols_at HI.out j hlt
        rw [hv] at hxr
        obtain ⟨m, rfl⟩ : ∃ m : Nat, x = (m : Int) := ⟨x.toNat, by omega⟩
        have hm : m < cs.length := by omega
        obtain ⟨b1, off1, n1, kd, nu, rfl, hbB1, hv1, htt, hki, e0, e1, e2⟩ := R1.out.at m hm
        have HK : Hid (keyAt ⟨nm, cs, ky, xs⟩ j = !nu) := by
          show _ = _
          unfold keyAt; simp only; rw [hv, Int.toNat_natCast, hv1]
        clear hv hx hxr hv1 hki htt
        cases nu with
        | true =>
          have HF : Hid (keyOk ⟨nm, cs, ky, xs⟩ = false) := by show _ = _; rw [HV.out]; exact upto_false hlt HK.out
          clear HV HK HU
          go_wp2
          go_ret
          exact ⟨ret_bool HF.out.symm, B0.out⟩
        | false =>
          have HU2 : Hid (upto (keyAt ⟨nm, cs, ky, xs⟩) (j + 1) = true) := by show _ = _; rw [upto_succ, HU.out, HK.out]; rfl
          clear HK HU
          go_wp2
          go_round
          case rel => exact ⟨j + 1, by omega, by go_num, HU2⟩
          case measure => simp [intOf]; omega
      · obtain rfl : j = ky.length := by omega
        have HF : Hid (keyOk ⟨nm, cs, ky, xs⟩ = true) := by show _ = _; rw [HV.out]; exact HU.out
        go_wp2
        go_ret
        exact ⟨ret_bool HF.out.symm, B0.out⟩
set_option maxHeartbeats 2000000 in
theorem indexesRight_any (A B : Nat) (ao : Option Addr) (c1 : Nat) (ko : Option Addr) (c2 : Nat) (xo : Option Addr) (c3 : Nat) (s : Sch) (w : World) (hB : B ≤ w.heap.size) (hr : SchRow w A B ao ko xo c2 s) :
    Calls Tryz.prog 59 #[.agg #[.string s.name, .slice ao s.cols.length c1, .slice ko s.key.length c2, .slice xo s.idx.length c3]] w fun e w' => e = .returned (.bool (idxOk s)) ∧ Below w.heap.size w w' := by
  obtain ⟨nm, cs, ky, xs⟩ := s
  simp only
  obtain ⟨⟨hn0, hn1, hn2, hn3⟩, hr1, hr2, hr3⟩ := hr
  simp only at hn0 hn1 hn2 hn3 hr1 hr2 hr3
  have B0 : Hid (Below w.heap.size w (w.alloc (.cells #[.string nm, .slice ao cs.length c1, .slice ko ky.length c2, .slice xo xs.length c3] 35))) := (Below.refl _ _).alloc (Nat.le_refl _) _
  have R3 : Hid (IdxRow (w.alloc (.cells #[.string nm, .slice ao cs.length c1, .slice ko ky.length c2, .slice xo xs.length c3] 35)) A B xo xs) := hr3.kept (B0.out.mono hB)
  clear hr1 hr2 hr3 hn0 hn2
  unfold maxLen at hn1 hn3
  by_cases h4 : 4 < xs.length
  · have HF : Hid (idxOk ⟨nm, cs, ky, xs⟩ = false) := by show _ = _; unfold idxOk; simp [show ¬ (xs.length ≤ 4) by omega]
    go_enter Tryz.func59, Tryz.ntmps59
    go_wp2
    go_ret
    exact ⟨ret_bool HF.out.symm, B0.out⟩
  · have HV : Hid (idxOk ⟨nm, cs, ky, xs⟩ = upto (idxAt ⟨nm, cs, ky, xs⟩) xs.length) := by show _ = _; unfold idxOk; simp [show xs.length ≤ 4 by omega]
    obtain ⟨x0, x1, x2, x3⟩ := cells4a w (.string nm) (.slice ao cs.length c1) (.slice ko ky.length c2) (.slice xo xs.length c3) 35
    have hs0 : w.heap.size < (w.alloc (.cells #[.string nm, .slice ao cs.length c1, .slice ko ky.length c2, .slice xo xs.length c3] 35)).heap.size := by simp
    go_enter Tryz.func59, Tryz.ntmps59
    go_wp2
    generalize w.alloc (.cells #[.string nm, .slice ao cs.length c1, .slice ko ky.length c2, .slice xo xs.length c3] 35) = W0 at *
    go_loopw [12] (fun i wr => ∃ j : Nat, j ≤ xs.length ∧ i = .int .i64 j ∧ Hid (upto (idxAt ⟨nm, cs, ky, xs⟩) j = true) ∧ Below W0.heap.size W0 wr) (fun i _ => xs.length - (intOf i).toNat)
    case atStart => exact ⟨0, Nat.zero_le _, rfl, rfl, Below.refl _ _⟩
    case round =>
      obtain ⟨j, hj, rfl, HU, hb⟩ := hrel
      have y1 : wr.cell? ⟨w.heap.size, 1, none⟩ = some (.slice ao cs.length c1) := (hb.cell (p := ⟨_, _, none⟩) hs0).trans x1
      have hz := hb.size
      have hzz : w.heap.size < wr.heap.size := by omega
      have hzn : ¬ (w.heap.size = wr.heap.size) := by omega
      by_cases hlt : j < xs.length
      · obtain ⟨b, off, io, cp, l, u, rfl, hbB, hv, hcp, hir, d0, d1⟩ := (R3.out.kept (hb.mono (Nat.le_trans hB B0.out.size))).at j hlt
        have HK : Hid (idxAt ⟨nm, cs, ky, xs⟩ j = isCols cs.length l) := by show _ = _; unfold idxAt; simp only; rw [hv]
        have hca := areColumns_any A B io cp l cs.length (wr.alloc (.cells #[.slice io l.length cp, .bool u] 69)) hcp.1 hcp.2 (hir.kept ((Below.refl _ _).alloc (by have := B0.out.size; omega) _))
        clear hv hir hcp
        cases hic : isCols cs.length l with
        | false =>
          rw [hic] at hca
          have HC : Hid (Calls Tryz.prog 70 #[.slice io l.length cp, .int .i64 cs.length] (wr.alloc (.cells #[.slice io l.length cp, .bool u] 69)) fun e w' => e = .returned (.bool false) ∧ w' = (wr.alloc (.cells #[.slice io l.length cp, .bool u] 69))) := hca
          have HF : Hid (idxOk ⟨nm, cs, ky, xs⟩ = false) := by show _ = _; rw [HV.out]; exact upto_false hlt (HK.out.trans hic)
          have B2 : Hid (Below w.heap.size w (wr.alloc (.cells #[.slice io l.length cp, .bool u] 69))) := (B0.out.trans (hb.mono B0.out.size)).alloc (by omega) _
          clear hca hic HV HK HU
          go_wp2_with fail
          refine HC.out.mono ?_
          rintro e w1 ⟨rfl, rfl⟩
          go_wp2
          go_ret
          exact ⟨ret_bool HF.out.symm, B2.out⟩
        | true =>
          rw [hic] at hca
          have HC : Hid (Calls Tryz.prog 70 #[.slice io l.length cp, .int .i64 cs.length] (wr.alloc (.cells #[.slice io l.length cp, .bool u] 69)) fun e w' => e = .returned (.bool true) ∧ w' = (wr.alloc (.cells #[.slice io l.length cp, .bool u] 69))) := hca
          have HU2 : Hid (upto (idxAt ⟨nm, cs, ky, xs⟩) (j + 1) = true) := by show _ = _; rw [upto_succ, HU.out, HK.out, hic]; rfl
          have B2 : Hid (Below W0.heap.size W0 (wr.alloc (.cells #[.slice io l.length cp, .bool u] 69))) := hb.alloc hb.size _
          clear hca hic HK HU
          go_wp2_with fail
          refine HC.out.mono ?_
          rintro e w1 ⟨rfl, rfl⟩
          clear hb y1 d0 d1 HC hz hzz hzn
          go_wp2
          go_roundw
          case rel => exact ⟨j + 1, by omega, by go_num, HU2, B2.out⟩
          case measure => simp [intOf]; omega
      · obtain rfl : j = xs.length := by omega
        have HF : Hid (idxOk ⟨nm, cs, ky, xs⟩ = true) := by show _ = _; rw [HV.out]; exact HU.out
        go_wp2
        go_ret
        exact ⟨ret_bool HF.out.symm, B0.out.trans (hb.mono B0.out.size)⟩
set_option maxHeartbeats 2000000 in
theorem schemaNumbers_any (A B : Nat) (ao : Option Addr) (c1 : Nat) (ko : Option Addr) (c2 : Nat) (xo : Option Addr) (c3 : Nat) (s : Sch) (w : World) (hB : B ≤ w.heap.size) (hr : SchRow w A B ao ko xo c2 s) :
    Calls Tryz.prog 48 #[.agg #[.string s.name, .slice ao s.cols.length c1, .slice ko s.key.length c2, .slice xo s.idx.length c3]] w fun e w' => MapRes e (schRight s) ∧ Below w.heap.size w w' := by
  have HR : Hid (SchRow w A B ao ko xo c2 s) := hr
  have HS : Hid (schRight s = (colsOk s.cols && nameOk s.name.data.toList && keyOk s && idxOk s)) := schRight_eq s
  have hkr := fun (W : World) (hb : Below w.heap.size w W) => keyRight_any A B ao c1 ko c2 xo c3 s W (Nat.le_trans hB hb.size) (hr.kept (hb.mono hB))
  have hir := fun (W : World) (hb : Below w.heap.size w W) => indexesRight_any A B ao c1 ko c2 xo c3 s W (Nat.le_trans hB hb.size) (hr.kept (hb.mono hB))
  have hnr := fun (W : World) => implName_any s.name W
  have hnb := fun (W : World) (hb : Below w.heap.size w W) => numbersByName_any A B ao c1 s.cols W (Nat.le_trans hB hb.size) hr.1.2.1 (hr.2.1.kept (hb.mono hB))
  generalize keyOk s = qk at *
  generalize idxOk s = qi at *
  generalize nameOk s.name.data.toList = qn at *
  generalize colsOk s.cols = qc at *
  generalize schRight s = q at *
  obtain ⟨nm, cs, ky, xs⟩ := s
  simp only at hkr hir hnr hnb ⊢
  have HK : Hid (∀ (W : World), Below w.heap.size w W → Calls Tryz.prog 58 #[.agg #[.string nm, .slice ao cs.length c1, .slice ko ky.length c2, .slice xo xs.length c3]] W fun e w' => e = .returned (.bool qk) ∧ Below W.heap.size W w') := hkr
  have HI : Hid (∀ (W : World), Below w.heap.size w W → Calls Tryz.prog 59 #[.agg #[.string nm, .slice ao cs.length c1, .slice ko ky.length c2, .slice xo xs.length c3]] W fun e w' => e = .returned (.bool qi) ∧ Below W.heap.size W w') := hir
  have HN : Hid (∀ (W : World), Calls Tryz.prog 57 #[.string nm] W fun e w' => e = .returned (.bool qn) ∧ w' = W) := hnr
  have B0 : Hid (Below w.heap.size w (w.alloc (.cells #[.string nm, .slice ao cs.length c1, .slice ko ky.length c2, .slice xo xs.length c3] 35))) := (Below.refl _ _).alloc (Nat.le_refl _) _
  have HB : Hid (∀ (W : World), Below w.heap.size w W → Calls Tryz.prog 56 #[.slice ao cs.length c1] W fun e w' => MapRes e qc ∧ Below W.heap.size W w') := hnb
  clear hkr hir hnr hnb hr HR
  go_enter Tryz.func48, Tryz.ntmps48
  go_wp2_with fail
  refine (HB.out _ B0.out).mono ?_
  rintro e w1 ⟨⟨mo, rfl⟩, hb1⟩
  have X1 : Hid (w1.heap[w.heap.size]? = some (.cells #[.string nm, .slice ao cs.length c1, .slice ko ky.length c2, .slice xo xs.length c3] 35 (0, 0))) := (hb1.block _ (by simp)).trans (heap_alloc_new _ _)
  obtain ⟨x0, x1, x2, x3, xf⟩ := cells4 X1.out
  have hs1 : w.heap.size < w1.heap.size := by have := hb1.size; simp at this; omega
  have B1 : Hid (Below w.heap.size w w1) := B0.out.trans (hb1.mono B0.out.size)
  clear hb1 B0 HB
  cases qc with
  | false =>
    have HF : Hid (q = false) := by show _ = _; rw [HS.out]; rfl
    clear HS
    go_wp2
    go_ret2
    exact ⟨⟨none, by rw [HF.out]; rfl⟩, B1.out⟩
  | true =>
    cases qn with
    | false =>
      have HF : Hid (q = false) := by show _ = _; rw [HS.out]; rfl
      clear HS
      go_wp2_with (go_at_call 57; refine (HN.out _).mono ?_; rintro e w2 ⟨rfl, rfl⟩)
      go_ret2
      exact ⟨⟨none, by rw [HF.out]; rfl⟩, B1.out⟩
    | true =>
      cases qk with
      | false =>
        have HF : Hid (q = false) := by show _ = _; rw [HS.out]; rfl
        clear HS
        go_wp2_with (first | (go_at_call 57; refine (HN.out _).mono ?_; rintro e w2 ⟨rfl, rfl⟩) | (go_at_call 58; refine (HK.out _ B1.out).mono ?_; rintro e w3 ⟨rfl, hb3⟩))
        go_ret2
        exact ⟨⟨none, by rw [HF.out]; rfl⟩, B1.out.trans (hb3.mono B1.out.size)⟩
      | true =>
        cases qi with
        | false =>
          have HF : Hid (q = false) := by show _ = _; rw [HS.out]; rfl
          clear HS
          go_wp2_with (first | (go_at_call 57; refine (HN.out _).mono ?_; rintro e w2 ⟨rfl, rfl⟩) | (go_at_call 58; refine (HK.out _ B1.out).mono ?_; rintro e w3 ⟨rfl, hb3⟩; obtain ⟨hc3, hf3⟩ := bcell hb3; have B3 : Hid (Below w.heap.size w w3) := B1.out.trans (hb3.mono B1.out.size)) | (go_at_call 59; refine (HI.out _ B3.out).mono ?_; rintro e w4 ⟨rfl, hb4⟩))
          go_ret2
          exact ⟨⟨none, by rw [HF.out]; rfl⟩, B3.out.trans (hb4.mono B3.out.size)⟩
        | true =>
          have HF : Hid (q = true) := by show _ = _; rw [HS.out]; rfl
          clear HS
          go_wp2_with (first | (go_at_call 57; refine (HN.out _).mono ?_; rintro e w2 ⟨rfl, rfl⟩) | (go_at_call 58; refine (HK.out _ B1.out).mono ?_; rintro e w3 ⟨rfl, hb3⟩; obtain ⟨hc3, hf3⟩ := bcell hb3; have B3 : Hid (Below w.heap.size w w3) := B1.out.trans (hb3.mono B1.out.size)) | (go_at_call 59; refine (HI.out _ B3.out).mono ?_; rintro e w4 ⟨rfl, hb4⟩))
          go_ret2
          exact ⟨⟨_, by rw [HF.out]; rfl⟩, B3.out.trans (hb4.mono B3.out.size)⟩
theorem implSchemaRight_any (A B : Nat) (ao : Option Addr) (c1 : Nat) (ko : Option Addr) (c2 : Nat) (xo : Option Addr) (c3 : Nat) (s : Sch) (w : World) (hB : B ≤ w.heap.size) (hr : SchRow w A B ao ko xo c2 s) :
    Calls Tryz.prog 34 #[.agg #[.string s.name, .slice ao s.cols.length c1, .slice ko s.key.length c2, .slice xo s.idx.length c3]] w fun e w' => e = .returned (.bool (schRight s)) ∧ Below w.heap.size w w' := by
  have B0 : Hid (Below w.heap.size w (w.alloc (.cells #[.string s.name, .slice ao s.cols.length c1, .slice ko s.key.length c2, .slice xo s.idx.length c3] 35))) := (Below.refl _ _).alloc (Nat.le_refl _) _
  have hsn := schemaNumbers_any A B ao c1 ko c2 xo c3 s _ (Nat.le_trans hB B0.out.size) (hr.kept (B0.out.mono hB))
  generalize schRight s = q at *
  obtain ⟨nm, cs, ky, xs⟩ := s
  simp only at *
  have HSN : Hid (Calls Tryz.prog 48 #[.agg #[.string nm, .slice ao cs.length c1, .slice ko ky.length c2, .slice xo xs.length c3]] (w.alloc (.cells #[.string nm, .slice ao cs.length c1, .slice ko ky.length c2, .slice xo xs.length c3] 35)) fun e w' => MapRes e q ∧ Below (w.alloc (.cells #[.string nm, .slice ao cs.length c1, .slice ko ky.length c2, .slice xo xs.length c3] 35)).heap.size (w.alloc (.cells #[.string nm, .slice ao cs.length c1, .slice ko ky.length c2, .slice xo xs.length c3] 35)) w') := hsn
  clear hsn hr
  go_enter Tryz.func34, Tryz.ntmps34
  go_wp2_with fail
  refine HSN.out.mono ?_
  rintro e w1 ⟨⟨mo, rfl⟩, hb1⟩
  have B1 : Hid (Below w.heap.size w w1) := B0.out.trans (hb1.mono B0.out.size)
  clear hb1 HSN B0
  go_wp2
  go_ret
  exact ⟨rfl, B1.out⟩
end Go.Proofs.YtkhklfnhninkjaaGreat
