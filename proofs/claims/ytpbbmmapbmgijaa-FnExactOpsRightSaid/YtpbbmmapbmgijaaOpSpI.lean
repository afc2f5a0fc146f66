/-
  Contracts: is an op right? Are ops? The program's answer.
-/
import Derived.Test.YtpbbmmapbmgijaaOpSz
import Derived.Test.YtpbbmmapbmgijaaSSpec
import Derived.Test.YtpbbmmapbmgijaaInnersR
namespace Go.Proofs.Ytpbbmmapbmgijaa
open Go.RowKit
set_option maxRecDepth 100000

set_option maxHeartbeats 1000000 in
theorem implNoSch_any (s : Sch) (a1 : Option Addr) (c1 : Nat) (a2 : Option Addr) (c2 : Nat) (a3 : Option Addr) (c3 : Nat) (w : World) :
    Calls Try.prog 50 #[.agg #[.string s.name, .slice a1 s.cols.length c1, .slice a2 s.key.length c2, .slice a3 s.idx.length c3]] w fun e w' => e = .returned (.bool (noSchB s)) ∧ Below w.heap.size w w' := by
  obtain ⟨nm, cs, ky, xs⟩ := s
  have HQ : Hid (noSchB ⟨nm, cs, ky, xs⟩ = (nm.toList.isEmpty && decide (cs.length = 0) && decide (ky.length = 0) && decide (xs.length = 0))) := rfl
  simp only
  generalize noSchB ⟨nm, cs, ky, xs⟩ = q at *
  generalize cs.length = n1 at *
  generalize ky.length = n2 at *
  generalize xs.length = n3 at *
  have B0 := hide ((Below.refl w.heap.size w).alloc (Nat.le_refl _) (.cells #[.string nm, .slice a1 n1 c1, .slice a2 n2 c2, .slice a3 n3 c3] 39))
  cases hte : nm.toList.isEmpty with
  | false =>
    have HF : Hid (q = false) := by show _ = _; rw [HQ.out, hte]; rfl
    clear HQ
    go_enter Try.func50, Try.ntmps50
    go_wp2
    go_ret
    exact ⟨ret_bool HF.out.symm, B0.out⟩
  | true =>
    by_cases h1 : n1 = 0
    · by_cases h2 : n2 = 0
      · by_cases h3 : n3 = 0
        · have HF : Hid (q = true) := by show _ = _; rw [HQ.out, hte, h1, h2, h3]; rfl
          clear HQ
          subst h1 h2 h3
          go_enter Try.func50, Try.ntmps50
          go_wp2
          go_ret
          exact ⟨ret_bool HF.out.symm, B0.out⟩
        · have HF : Hid (q = false) := by show _ = _; rw [HQ.out, decide_eq_false h3]; simp
          clear HQ
          subst h1 h2
          go_enter Try.func50, Try.ntmps50
          go_wp2
          go_ret
          exact ⟨ret_bool (by rw [HF.out, beq_eq_false_iff_ne]; omega), B0.out⟩
      · have HF : Hid (q = false) := by show _ = _; rw [HQ.out, decide_eq_false h2]; simp
        clear HQ
        subst h1
        go_enter Try.func50, Try.ntmps50
        go_wp2
        go_ret
        exact ⟨ret_bool HF.out.symm, B0.out⟩
    · have HF : Hid (q = false) := by show _ = _; rw [HQ.out, decide_eq_false h1]; simp
      clear HQ
      go_enter Try.func50, Try.ntmps50
      go_wp2
      go_ret
      exact ⟨ret_bool HF.out.symm, B0.out⟩
set_option maxHeartbeats 4000000 in
theorem implOp_any (A B : Nat) (o : Opn) (a1 : Option Addr) (c1 : Nat) (a2 : Option Addr) (c2 : Nat) (a3 : Option Addr) (c3 : Nat) (a4 : Option Addr) (c4 : Nat) (w : World) (hB : B ≤ w.heap.size) (hk : inI64 o.kind ∧ o.table.size ≤ maxLen ∧ o.row.length ≤ maxLen) (hs : SchRow w A B a1 a2 a3 c2 o.sch) (hv : VRowA w A B a4 o.row) :
    Calls Try.prog 27 #[(.agg #[.int .i64 o.kind, .string o.table, .string o.sch.name, .slice a1 o.sch.cols.length c1, .slice a2 o.sch.key.length c2, .slice a3 o.sch.idx.length c3, .slice a4 o.row.length c4])] w fun e w' => e = .returned (.bool (opOk o)) ∧ Below w.heap.size w w' := by
  have hsr := fun (W : World) (hb : Below w.heap.size w W) => implSchemaRight_any A B a1 c1 a2 c2 a3 c3 o.sch W (Nat.le_trans hB hb.size) (hs.kept (hb.mono hB))
  have hns := fun (W : World) => implNoSch_any o.sch a1 c1 a2 c2 a3 c3 W
  have hvr := fun (W : World) (hb : Below w.heap.size w W) => implValuesRight_any B a4 c4 o.row W (Nat.le_trans hB hb.size) hk.2.2 (hv.1.kept (hb.mono hB))
  have hnr := fun (W : World) => implName_any o.table W
  have HQ : Hid (opOk o = if o.kind = 1 then schRight o.sch && o.table.toList.isEmpty && decide (o.row.length = 0) else if o.kind = 2 ∨ o.kind = 3 ∨ o.kind = 4 then nameOk o.table.data.toList && noSchB o.sch && vsRight o.row else false) := rfl
  clear hk hs hv hB
  generalize opOk o = q at *
  generalize schRight o.sch = qs at *
  generalize noSchB o.sch = qz at *
  generalize vsRight o.row = qv at *
  generalize nameOk o.table.data.toList = qn at *
  generalize o.kind = kd at *
  generalize o.table = tb at *
  generalize o.sch.name = nm at *
  generalize o.sch.cols.length = n1 at *
  generalize o.sch.key.length = n2 at *
  generalize o.sch.idx.length = n3 at *
  generalize o.row.length = n4 at *
  have HSR := hide hsr
  have HNS := hide hns
  have HVR := hide hvr
  have HNR := hide hnr
  clear hsr hns hvr hnr
  have B0 := hide ((Below.refl w.heap.size w).alloc (Nat.le_refl _) (.cells #[.int .i64 kd, .string tb, .string nm, .slice a1 n1 c1, .slice a2 n2 c2, .slice a3 n3 c3, .slice a4 n4 c4] 57))
  by_cases hk1 : kd = 1
  · subst hk1
    have HF : Hid (q = (qs && tb.toList.isEmpty && decide (n4 = 0))) := by show _ = _; rw [HQ.out, if_pos rfl]
    clear HQ HNS HVR HNR
    cases qs with
    | false =>
      go_enter Try.func27, Try.ntmps27
      go_wp2_with (go_at_call 15; refine (HSR.out _ B0.out).mono ?_; rintro e w1 ⟨rfl, hb1⟩)
      go_ret
      exact ⟨ret_bool (by rw [HF.out]; rfl), B0.out.trans (hb1.mono B0.out.size)⟩
    | true =>
      cases hte : tb.toList.isEmpty with
      | false =>
        have HG : Hid (q = false) := by show _ = _; rw [HF.out, hte]; rfl
        clear HF
        go_enter Try.func27, Try.ntmps27
        go_wp2_with (go_at_call 15; refine (HSR.out _ B0.out).mono ?_; rintro e w1 ⟨rfl, hb1⟩; obtain ⟨hc1, hf1⟩ := bcell hb1)
        go_ret
        exact ⟨ret_bool HG.out.symm, B0.out.trans (hb1.mono B0.out.size)⟩
      | true =>
        by_cases h4 : n4 = 0
        · have HG : Hid (q = true) := by show _ = _; rw [HF.out, hte, h4]; rfl
          clear HF
          subst h4
          go_enter Try.func27, Try.ntmps27
          go_wp2_with (go_at_call 15; refine (HSR.out _ B0.out).mono ?_; rintro e w1 ⟨rfl, hb1⟩; obtain ⟨hc1, hf1⟩ := bcell hb1)
          go_ret
          exact ⟨ret_bool HG.out.symm, B0.out.trans (hb1.mono B0.out.size)⟩
        · have HG : Hid (q = false) := by show _ = _; rw [HF.out, decide_eq_false h4]; simp
          clear HF
          go_enter Try.func27, Try.ntmps27
          go_wp2_with (go_at_call 15; refine (HSR.out _ B0.out).mono ?_; rintro e w1 ⟨rfl, hb1⟩; obtain ⟨hc1, hf1⟩ := bcell hb1)
          go_ret
          exact ⟨ret_bool (by rw [HG.out, beq_eq_false_iff_ne]; omega), B0.out.trans (hb1.mono B0.out.size)⟩
  · by_cases hk2 : kd = 2 ∨ kd = 3 ∨ kd = 4
    · have HF : Hid (q = (qn && qz && qv)) := by show _ = _; rw [HQ.out, if_neg hk1, if_pos hk2]
      clear HQ HSR
      have HB := hide (fun (w1 : World) (h : Below (w.alloc (.cells #[.int .i64 kd, .string tb, .string nm, .slice a1 n1 c1, .slice a2 n2 c2, .slice a3 n3 c3, .slice a4 n4 c4] 57)).heap.size (w.alloc (.cells #[.int .i64 kd, .string tb, .string nm, .slice a1 n1 c1, .slice a2 n2 c2, .slice a3 n3 c3, .slice a4 n4 c4] 57)) w1) => B0.out.trans (h.mono B0.out.size))
      rcases hk2 with hk2 | hk2 | hk2
      all_goals
        subst hk2
        cases qn with
        | false =>
          go_enter Try.func27, Try.ntmps27
          go_wp2_with (go_at_call 49; refine (HNR.out _).mono ?_; rintro e w1 ⟨rfl, rfl⟩)
          go_ret
          exact ⟨ret_bool (by rw [HF.out]; rfl), B0.out⟩
        | true =>
          cases qz with
          | false =>
            go_enter Try.func27, Try.ntmps27
            go_wp2_with (first | (go_at_call 49; refine (HNR.out _).mono ?_; rintro e w1 ⟨rfl, rfl⟩) | (go_at_call 50; refine (HNS.out _).mono ?_; rintro e w2 ⟨rfl, hb2⟩; obtain ⟨hc2, hf2⟩ := bcell hb2))
            go_ret
            exact ⟨ret_bool (by rw [HF.out]; rfl), HB.out _ hb2⟩
          | true =>
            have HG : Hid (q = qv) := by show _ = _; rw [HF.out]; rfl
            clear HF
            go_enter Try.func27, Try.ntmps27
            go_wp2_with (first | (go_at_call 49; refine (HNR.out _).mono ?_; rintro e w1 ⟨rfl, rfl⟩) | (go_at_call 50; refine (HNS.out _).mono ?_; rintro e w2 ⟨rfl, hb2⟩; have BX := hide (HB.out _ hb2); obtain ⟨hc2, hf2⟩ := bcell hb2) | (go_at_call 20; refine (HVR.out _ BX.out).mono ?_; rintro e w3 ⟨rfl, hb3⟩; have BY := hide (BX.out.trans (hb3.mono BX.out.size))))
            go_ret
            exact ⟨ret_bool HG.out.symm, BY.out⟩
    · have HF : Hid (q = false) := by show _ = _; rw [HQ.out, if_neg hk1, if_neg hk2]
      have hk3 : ¬ kd = 2 := fun e => hk2 (.inl e)
      have hk4 : ¬ kd = 3 := fun e => hk2 (.inr (.inl e))
      have hk5 : ¬ kd = 4 := fun e => hk2 (.inr (.inr e))
      clear HQ HSR HNS HVR HNR hk2
      go_enter Try.func27, Try.ntmps27
      go_wp2
      go_ret
      exact ⟨ret_bool HF.out.symm, B0.out⟩
set_option maxHeartbeats 2000000 in
theorem implOpsRight_any (A B : Nat) (ao : Option Addr) (cap : Nat) (l : List Opn) (w : World) (hB : B ≤ w.heap.size) (hl : l.length ≤ 1048576) (hr : OpRow w A B ao l) :
    Calls Try.prog 10 #[.slice ao l.length cap] w fun e w' => e = .returned (.bool (opsOk l)) ∧ Below w.heap.size w w' := by
  have HQ : Hid (opsOk l = (decide (1 ≤ l.length) && decide (l.length ≤ 20) && upto (fun i => opOk (l.getD i noOp)) l.length)) := rfl
  generalize opsOk l = q at *
  by_cases h1 : l.length < 1
  · have HF : Hid (q = false) := by show _ = _; rw [HQ.out, decide_eq_false (by omega)]; rfl
    clear HQ hr
    go_enter Try.func10, Try.ntmps10
    go_wp2
    go_ret
    exact ⟨ret_bool HF.out.symm, Below.refl _ _⟩
  · by_cases h20 : 20 < l.length
    · have HF : Hid (q = false) := by show _ = _; rw [HQ.out, decide_eq_false (show ¬ l.length ≤ 20 by omega)]; simp
      clear HQ hr
      go_enter Try.func10, Try.ntmps10
      go_wp2
      go_ret
      exact ⟨ret_bool HF.out.symm, Below.refl _ _⟩
    · have HV : Hid (q = upto (fun i => opOk (l.getD i noOp)) l.length) := by show _ = _; rw [HQ.out, decide_eq_true (show 1 ≤ l.length by omega), decide_eq_true (show l.length ≤ 20 by omega)]; rfl
      clear HQ
      have HR : Hid (OpRow w A B ao l) := hr
      clear hr
      go_enter Try.func10, Try.ntmps10
      go_wp2
      go_loopw [15] (fun i wr => ∃ k : Nat, k ≤ l.length ∧ i = .int .i64 k ∧ Hid (upto (fun i => opOk (l.getD i noOp)) k = true) ∧ Below w.heap.size w wr) (fun i _ => l.length - (intOf i).toNat)
      case atStart => exact ⟨0, Nat.zero_le _, rfl, rfl, Below.refl _ _⟩
      case round =>
        obtain ⟨k, hk, rfl, HU, hb⟩ := hrel
        by_cases hlt : k < l.length
        · obtain ⟨b, off, o, a1, c1, a2, c2, a3, c3, a4, c4, rfl, hbB, hv, hok, hs, hva, d0, d1, d2, d3, d4, d5, d6⟩ := (HR.out.kept (hb.mono hB)).at k hlt
          have hz := hb.size
          have HX : Hid (l.getD k noOp = o) := hv
          have HO := hide (fun (W : World) (hbW : Below wr.heap.size wr W) => implOp_any A B o a1 c1 a2 c2 a3 c3 a4 c4 W (by have := hbW.size; omega) hok (hs.kept (hbW.mono (by omega))) (hva.kept (hbW.mono (by omega))))
          have HA := hide ((Below.refl wr.heap.size wr).alloc (Nat.le_refl _) (.cells #[.int .i64 o.kind, .string o.table, .string o.sch.name, .slice a1 o.sch.cols.length c1, .slice a2 o.sch.key.length c2, .slice a3 o.sch.idx.length c3, .slice a4 o.row.length c4] 57))
          clear hv hok hs hva
          have HP := hide (upto_succ (fun i => opOk (l.getD i noOp)) k)
          cases hoo : opOk o with
          | false =>
            have HF : Hid (q = false) := by show _ = _; rw [HV.out]; exact upto_false hlt (by show opOk (l.getD k noOp) = false; rw [HX.out]; exact hoo)
            simp only [hoo] at HO
            clear HV HX HP HU hoo
            go_wp2_with (go_at_call 27; refine (HO.out _ HA.out).mono ?_; rintro e w1 ⟨rfl, hb1⟩; have BX := hide (hb.trans ((HA.out.trans (hb1.mono HA.out.size)).mono hz)))
            go_ret
            exact ⟨ret_bool HF.out.symm, BX.out⟩
          | true =>
            have HU2 : Hid (upto (fun i => opOk (l.getD i noOp)) (k + 1) = true) := by show _ = _; rw [HP.out, HU.out]; show (true && opOk (l.getD k noOp)) = true; rw [HX.out, hoo]; rfl
            simp only [hoo] at HO
            clear HX HP HU hoo
            go_wp2_with (go_at_call 27; refine (HO.out _ HA.out).mono ?_; rintro e w1 ⟨rfl, hb1⟩; have BX := hide (hb.trans ((HA.out.trans (hb1.mono HA.out.size)).mono hz)))
            clear hb hb1 hz HO d0 d1 d2 d3 d4 d5 d6
            go_roundw
            case rel => exact ⟨k + 1, by omega, by go_num, HU2, BX.out⟩
            case measure => simp [intOf]; omega
        · obtain rfl : k = l.length := by omega
          have HF : Hid (q = true) := by show _ = _; rw [HV.out]; exact HU.out
          clear HV HU
          go_wp2
          go_ret
          exact ⟨ret_bool HF.out.symm, hb⟩
end Go.Proofs.Ytpbbmmapbmgijaa
