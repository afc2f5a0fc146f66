/-
  Contracts and plain laws: OpSpS, OpSpI, OpBy, OpBS, OpBI, OpBLaw
-/
import Derived.Test.YtnangmjcgjlndaaGreatSBytes
import Derived.Test.YtnangmjcgjlndaaGreatKeyB
import Derived.Test.YtnangmjcgjlndaaGreatQa
import Derived.Test.YtnangmjcgjlndaaGreatSSpec
import Derived.Test.YtnangmjcgjlndaaGreatVals0
import Derived.Test.YtnangmjcgjlndaaGreatSBytes3
import Derived.Test.YtnangmjcgjlndaaGreatKeyS
import Derived.Test.YtnangmjcgjlndaaGreatInnersR
import Derived.Test.YtnangmjcgjlndaaGreatSBytes2
import Derived.Test.YtnangmjcgjlndaaGreatKeyI

/-
  Ops: their bytes. Plain laws.
-/
namespace Go.Proofs.YtnangmjcgjlndaaGreat
open Go.RowKit
set_option maxRecDepth 100000

/-- What an op has behind the bytes of its kind. -/
def opT (o : Opn) : ByteArray := if o.kind = 1 then putT (schB o.sch) else mkS ((putT o.table).data.toList ++ (putT (keyOf o.row)).data.toList)
def opL (o : Opn) : List UInt8 := numL o.kind ++ (opT o).data.toList
def opsL (l : List Opn) (k : Nat) : List UInt8 := numL l.length ++ (l.take k).flatMap opL
def opsB (l : List Opn) : ByteArray := if opsOk l = true then mkS (opsL l l.length) else ByteArray.empty
theorem putT_le (t : ByteArray) : (putT t).size ≤ 20010 := textL_len t
theorem opT_len (o : Opn) : (opT o).size ≤ 40020 := by
  unfold opT
  split
  · have := putT_le (schB o.sch); omega
  · have h1 := putT_le o.table
    have h2 := putT_le (keyOf o.row)
    rw [mkS_size, List.length_append, len_data, len_data]
    omega
theorem opL_len (o : Opn) : (opL o).length ≤ 40030 := by
  have h1 := numL_len o.kind
  have h2 := opT_len o
  unfold opL
  rw [List.length_append, len_data]
  omega
theorem opsL_len (l : List Opn) (k : Nat) (h : l.length ≤ 20) : (opsL l k).length ≤ 1000000 := by
  have h1 := numL_len (l.length : Int)
  have h2 := flat_len opL 40030 opL_len (l.take k)
  have h3 : (l.take k).length ≤ l.length := List.length_take_le' ..
  have h4 := Nat.mul_le_mul_right 40030 (Nat.le_trans h3 h)
  unfold opsL
  rw [List.length_append]
  omega
theorem opsL_succ (l : List Opn) (k : Nat) (h : k < l.length) : opsL l (k + 1) = opsL l k ++ opL (l.getD k noOp) := by
  unfold opsL; rw [flat_succ opL l noOp k h]; simp only [List.append_assoc]
theorem opsOk_len {l : List Opn} (h : opsOk l = true) : 1 ≤ l.length ∧ l.length ≤ 20 := by
  unfold opsOk at h
  simp only [Bool.and_eq_true, decide_eq_true_eq] at h
  exact ⟨h.1.1, h.1.2⟩
theorem opsOk_at {l : List Opn} (h : opsOk l = true) (i : Nat) (hi : i < l.length) : opOk (l.getD i noOp) = true := by
  unfold opsOk at h
  simp only [Bool.and_eq_true] at h
  exact (upto_iff _ _).1 h.2 i hi
theorem opOk_row {o : Opn} (h : opOk o = true) (hk : ¬ o.kind = 1) : vsRight o.row = true := by
  unfold opOk at h
  rw [if_neg hk] at h
  split at h
  · simp only [Bool.and_eq_true] at h
    exact h.2
  · cases h
end Go.Proofs.YtnangmjcgjlndaaGreat

/-
  Contracts: is an op right? Are ops? The specification's answer.
-/
namespace Go.Proofs.YtnangmjcgjlndaaGreat
open Go.RowKit
set_option maxRecDepth 100000

set_option maxHeartbeats 1000000 in
theorem specNoSch_any (s : Sch) (a1 : Option Addr) (c1 : Nat) (a2 : Option Addr) (c2 : Nat) (a3 : Option Addr) (c3 : Nat) (w : World) :
    Calls Tryz.prog 44 #[.agg #[.string s.name, .slice a1 s.cols.length c1, .slice a2 s.key.length c2, .slice a3 s.idx.length c3]] w fun e w' => e = .returned (.bool (noSchB s)) ∧ Below w.heap.size w w' := by
  obtain ⟨nm, cs, ky, xs⟩ := s
  have HQ : Hid (noSchB ⟨nm, cs, ky, xs⟩ = (nm.toList.isEmpty && decide (cs.length = 0) && decide (ky.length = 0) && decide (xs.length = 0))) := rfl
  simp only
  generalize noSchB ⟨nm, cs, ky, xs⟩ = q at *
  generalize cs.length = n1 at *
  generalize ky.length = n2 at *
  generalize xs.length = n3 at *
  have B0 := hide ((Below.refl w.heap.size w).alloc (Nat.le_refl _) (.cells #[.string nm, .slice a1 n1 c1, .slice a2 n2 c2, .slice a3 n3 c3] 43))
  cases hte : nm.toList.isEmpty with
  | false =>
    have HF : Hid (q = false) := by show _ = _; rw [HQ.out, hte]; rfl
    clear HQ
    go_enter Tryz.func44, Tryz.ntmps44
    go_wp2
    go_ret
    exact ⟨ret_bool HF.out.symm, B0.out⟩
  | true =>
    by_cases h1 : n1 = 0
    · by_cases h2 : n2 = 0
      · by_cases h3 : n3 = 0
        · have HF : Hid (q = true) := by show _ = _; rw [HQ.out, hte, h1, h2, h3]; rfl
          clear HQ
          subst h1 h2 h3
          go_enter Tryz.func44, Tryz.ntmps44
          go_wp2
          go_ret
          exact ⟨ret_bool HF.out.symm, B0.out⟩
        · have HF : Hid (q = false) := by show _ = _; rw [HQ.out, decide_eq_false h3]; simp
          clear HQ
          subst h1 h2
          go_enter Tryz.func44, Tryz.ntmps44
          go_wp2
          go_ret
          exact ⟨ret_bool (by rw [HF.out, beq_eq_false_iff_ne]; omega), B0.out⟩
      · have HF : Hid (q = false) := by show _ = _; rw [HQ.out, decide_eq_false h2]; simp
        clear HQ
        subst h1
        go_enter Tryz.func44, Tryz.ntmps44
        go_wp2
        go_ret
        exact ⟨ret_bool HF.out.symm, B0.out⟩
    · have HF : Hid (q = false) := by show _ = _; rw [HQ.out, decide_eq_false h1]; simp
      clear HQ
      go_enter Tryz.func44, Tryz.ntmps44
      go_wp2
      go_ret
      exact ⟨ret_bool HF.out.symm, B0.out⟩
set_option maxHeartbeats 4000000 in
theorem specOp_any (A B : Nat) (o : Opn) (a1 : Option Addr) (c1 : Nat) (a2 : Option Addr) (c2 : Nat) (a3 : Option Addr) (c3 : Nat) (a4 : Option Addr) (c4 : Nat) (w : World) (hB : B ≤ w.heap.size) (hk : inI64 o.kind ∧ o.table.size ≤ maxLen ∧ o.row.length ≤ maxLen) (hs : SchRow w A B a1 a2 a3 c2 o.sch) (hv : VRowA w A B a4 o.row) :
    Calls Tryz.prog 25 #[(.agg #[.int .i64 o.kind, .string o.table, .string o.sch.name, .slice a1 o.sch.cols.length c1, .slice a2 o.sch.key.length c2, .slice a3 o.sch.idx.length c3, .slice a4 o.row.length c4])] w fun e w' => e = .returned (.bool (opOk o)) ∧ Below w.heap.size w w' := by
  have hsr := fun (W : World) (hb : Below w.heap.size w W) => specSchemaRight_any A B a1 c1 a2 c2 a3 c3 o.sch W (Nat.le_trans hB hb.size) (hs.kept (hb.mono hB))
  have hns := fun (W : World) => specNoSch_any o.sch a1 c1 a2 c2 a3 c3 W
  have hvr := fun (W : World) (hb : Below w.heap.size w W) => specValuesRight_any B a4 c4 o.row W (Nat.le_trans hB hb.size) hk.2.2 (hv.1.kept (hb.mono hB))
  have hnr := fun (W : World) => specName_any o.table W
  have HQ : Hid (opOk o = if o.kind = 1 then schRight o.sch && o.table.toList.isEmpty && decide (o.row.length = 0) else if o.kind = 2 ∨ o.kind = 3 ∨ o.kind = 4 then nameOk o.table.data.toList && noSchB o.sch && vsRight o.row else false) := rfl
  clear hk hs hv hB
  generalize opOk o = q at *
  generalize schRight o.sch = qs at *
  generalize noSchB o.sch = qz at *
  generalize vsRight o.row = qv at *
  generalize nameOk o.table.data.toList = qn at *
  generalize o.kind = kd at *
  generalize o.table = tb at *
  generalize o.sch.name = nm at *
  generalize o.sch.cols.length = n1 at *
  generalize o.sch.key.length = n2 at *
  generalize o.sch.idx.length = n3 at *
  generalize o.row.length = n4 at *
  have HSR := hide hsr
  have HNS := hide hns
  have HVR := hide hvr
  have HNR := hide hnr
  clear hsr hns hvr hnr
  have B0 := hide ((Below.refl w.heap.size w).alloc (Nat.le_refl _) (.cells #[.int .i64 kd, .string tb, .string nm, .slice a1 n1 c1, .slice a2 n2 c2, .slice a3 n3 c3, .slice a4 n4 c4] 46))
  by_cases hk1 : kd = 1
  · subst hk1
    have HF : Hid (q = (qs && tb.toList.isEmpty && decide (n4 = 0))) := by show _ = _; rw [HQ.out, if_pos rfl]
    clear HQ HNS HVR HNR
    cases qs with
    | false =>
      go_enter Tryz.func25, Tryz.ntmps25
      go_wp2_with (go_at_call 27; refine (HSR.out _ B0.out).mono ?_; rintro e w1 ⟨rfl, hb1⟩)
      go_ret
      exact ⟨ret_bool (by rw [HF.out]; rfl), B0.out.trans (hb1.mono B0.out.size)⟩
    | true =>
      cases hte : tb.toList.isEmpty with
      | false =>
        have HG : Hid (q = false) := by show _ = _; rw [HF.out, hte]; rfl
        clear HF
        go_enter Tryz.func25, Tryz.ntmps25
        go_wp2_with (go_at_call 27; refine (HSR.out _ B0.out).mono ?_; rintro e w1 ⟨rfl, hb1⟩; obtain ⟨hc1, hf1⟩ := bcell hb1)
        go_ret
        exact ⟨ret_bool HG.out.symm, B0.out.trans (hb1.mono B0.out.size)⟩
      | true =>
        by_cases h4 : n4 = 0
        · have HG : Hid (q = true) := by show _ = _; rw [HF.out, hte, h4]; rfl
          clear HF
          subst h4
          go_enter Tryz.func25, Tryz.ntmps25
          go_wp2_with (go_at_call 27; refine (HSR.out _ B0.out).mono ?_; rintro e w1 ⟨rfl, hb1⟩; obtain ⟨hc1, hf1⟩ := bcell hb1)
          go_ret
          exact ⟨ret_bool HG.out.symm, B0.out.trans (hb1.mono B0.out.size)⟩
        · have HG : Hid (q = false) := by show _ = _; rw [HF.out, decide_eq_false h4]; simp
          clear HF
          go_enter Tryz.func25, Tryz.ntmps25
          go_wp2_with (go_at_call 27; refine (HSR.out _ B0.out).mono ?_; rintro e w1 ⟨rfl, hb1⟩; obtain ⟨hc1, hf1⟩ := bcell hb1)
          go_ret
          exact ⟨ret_bool (by rw [HG.out, beq_eq_false_iff_ne]; omega), B0.out.trans (hb1.mono B0.out.size)⟩
  · by_cases hk2 : kd = 2 ∨ kd = 3 ∨ kd = 4
    · have HF : Hid (q = (qn && qz && qv)) := by show _ = _; rw [HQ.out, if_neg hk1, if_pos hk2]
      clear HQ HSR
      have HB := hide (fun (w1 : World) (h : Below (w.alloc (.cells #[.int .i64 kd, .string tb, .string nm, .slice a1 n1 c1, .slice a2 n2 c2, .slice a3 n3 c3, .slice a4 n4 c4] 46)).heap.size (w.alloc (.cells #[.int .i64 kd, .string tb, .string nm, .slice a1 n1 c1, .slice a2 n2 c2, .slice a3 n3 c3, .slice a4 n4 c4] 46)) w1) => B0.out.trans (h.mono B0.out.size))
      rcases hk2 with hk2 | hk2 | hk2
      all_goals
        subst hk2
        cases qn with
        | false =>
          go_enter Tryz.func25, Tryz.ntmps25
          go_wp2_with (go_at_call 43; refine (HNR.out _).mono ?_; rintro e w1 ⟨rfl, rfl⟩)
          go_ret
          exact ⟨ret_bool (by rw [HF.out]; rfl), B0.out⟩
        | true =>
          cases qz with
          | false =>
            go_enter Tryz.func25, Tryz.ntmps25
            go_wp2_with (first | (go_at_call 43; refine (HNR.out _).mono ?_; rintro e w1 ⟨rfl, rfl⟩) | (go_at_call 44; refine (HNS.out _).mono ?_; rintro e w2 ⟨rfl, hb2⟩; obtain ⟨hc2, hf2⟩ := bcell hb2))
            go_ret
            exact ⟨ret_bool (by rw [HF.out]; rfl), HB.out _ hb2⟩
          | true =>
            have HG : Hid (q = qv) := by show _ = _; rw [HF.out]; rfl
            clear HF
            go_enter Tryz.func25, Tryz.ntmps25
            go_wp2_with (first | (go_at_call 43; refine (HNR.out _).mono ?_; rintro e w1 ⟨rfl, rfl⟩) | (go_at_call 44; refine (HNS.out _).mono ?_; rintro e w2 ⟨rfl, hb2⟩; have BX := hide (HB.out _ hb2); obtain ⟨hc2, hf2⟩ := bcell hb2) | (go_at_call 45; refine (HVR.out _ BX.out).mono ?_; rintro e w3 ⟨rfl, hb3⟩; have BY := hide (BX.out.trans (hb3.mono BX.out.size))))
            go_ret
            exact ⟨ret_bool HG.out.symm, BY.out⟩
    · have HF : Hid (q = false) := by show _ = _; rw [HQ.out, if_neg hk1, if_neg hk2]
      have hk3 : ¬ kd = 2 := fun e => hk2 (.inl e)
      have hk4 : ¬ kd = 3 := fun e => hk2 (.inr (.inl e))
      have hk5 : ¬ kd = 4 := fun e => hk2 (.inr (.inr e))
      clear HQ HSR HNS HVR HNR hk2
      go_enter Tryz.func25, Tryz.ntmps25
      go_wp2
      go_ret
      exact ⟨ret_bool HF.out.symm, B0.out⟩
set_option maxHeartbeats 2000000 in
theorem specOpsRight_any (A B : Nat) (ao : Option Addr) (cap : Nat) (l : List Opn) (w : World) (hB : B ≤ w.heap.size) (hl : l.length ≤ 1048576) (hr : OpRow w A B ao l) :
    Calls Tryz.prog 10 #[.slice ao l.length cap] w fun e w' => e = .returned (.bool (opsOk l)) ∧ Below w.heap.size w w' := by
  have HQ : Hid (opsOk l = (decide (1 ≤ l.length) && decide (l.length ≤ 20) && upto (fun i => opOk (l.getD i noOp)) l.length)) := rfl
  generalize opsOk l = q at *
  by_cases h1 : l.length < 1
  · have HF : Hid (q = false) := by show _ = _; rw [HQ.out, decide_eq_false (by omega)]; rfl
    clear HQ hr
    go_enter Tryz.func10, Tryz.ntmps10
    go_wp2
    go_ret
    exact ⟨ret_bool HF.out.symm, Below.refl _ _⟩
  · by_cases h20 : 20 < l.length
    · have HF : Hid (q = false) := by show _ = _; rw [HQ.out, decide_eq_false (show ¬ l.length ≤ 20 by omega)]; simp
      clear HQ hr
      go_enter Tryz.func10, Tryz.ntmps10
      go_wp2
      go_ret
      exact ⟨ret_bool HF.out.symm, Below.refl _ _⟩
    · have HV : Hid (q = upto (fun i => opOk (l.getD i noOp)) l.length) := by show _ = _; rw [HQ.out, decide_eq_true (show 1 ≤ l.length by omega), decide_eq_true (show l.length ≤ 20 by omega)]; rfl
      clear HQ
      have HR : Hid (OpRow w A B ao l) := hr
      clear hr
      go_enter Tryz.func10, Tryz.ntmps10
      go_wp2
      go_loopw [3] (fun i wr => ∃ k : Nat, k ≤ l.length ∧ i = .int .i64 k ∧ Hid (upto (fun i => opOk (l.getD i noOp)) k = true) ∧ Below w.heap.size w wr) (fun i _ => l.length - (intOf i).toNat)
      case atStart => exact ⟨0, Nat.zero_le _, rfl, rfl, Below.refl _ _⟩
      case round =>
        obtain ⟨k, hk, rfl, HU, hb⟩ := hrel
        by_cases hlt : k < l.length
        · obtain ⟨b, off, o, a1, c1, a2, c2, a3, c3, a4, c4, rfl, hbB, hv, hok, hs, hva, d0, d1, d2, d3, d4, d5, d6⟩ := (HR.out.kept (hb.mono hB)).at k hlt
          have hz := hb.size
          have HX : Hid (l.getD k noOp = o) := hv
          have HO := hide (fun (W : World) (hbW : Below wr.heap.size wr W) => specOp_any A B o a1 c1 a2 c2 a3 c3 a4 c4 W (by have := hbW.size; omega) hok (hs.kept (hbW.mono (by omega))) (hva.kept (hbW.mono (by omega))))
          clear hv hok hs hva
          have HP := hide (upto_succ (fun i => opOk (l.getD i noOp)) k)
          cases hoo : opOk o with
          | false =>
            have HF : Hid (q = false) := by show _ = _; rw [HV.out]; exact upto_false hlt (by show opOk (l.getD k noOp) = false; rw [HX.out]; exact hoo)
            simp only [hoo] at HO
            clear HV HX HP HU hoo
            go_wp2_with (go_at_call 25; refine (HO.out _ (Below.refl _ _)).mono ?_; rintro e w1 ⟨rfl, hb1⟩; have BX := hide (hb.trans ((hb1).mono hz)))
            go_ret
            exact ⟨ret_bool HF.out.symm, BX.out⟩
          | true =>
            have HU2 : Hid (upto (fun i => opOk (l.getD i noOp)) (k + 1) = true) := by show _ = _; rw [HP.out, HU.out]; show (true && opOk (l.getD k noOp)) = true; rw [HX.out, hoo]; rfl
            simp only [hoo] at HO
            clear HX HP HU hoo
            go_wp2_with (go_at_call 25; refine (HO.out _ (Below.refl _ _)).mono ?_; rintro e w1 ⟨rfl, hb1⟩; have BX := hide (hb.trans ((hb1).mono hz)))
            clear hb hb1 hz HO d0 d1 d2 d3 d4 d5 d6
            go_roundw
            case rel => exact ⟨k + 1, by omega, by go_num, HU2, BX.out⟩
            case measure => simp [intOf]; omega
        · obtain rfl : k = l.length := by omega
          have HF : Hid (q = true) := by show _ = _; rw [HV.out]; exact HU.out
          clear HV HU
          go_wp2
          go_ret
          exact ⟨ret_bool HF.out.symm, hb⟩
end Go.Proofs.YtnangmjcgjlndaaGreat

/-
  Contracts: the specification's bytes of ops.
-/
namespace Go.Proofs.YtnangmjcgjlndaaGreat
open Go.RowKit
set_option maxRecDepth 100000

set_option maxHeartbeats 4000000 in
theorem specOpsBytes_any (A B : Nat) (ao : Option Addr) (cap : Nat) (l : List Opn) (w : World) (hB : B ≤ w.heap.size) (hl : l.length ≤ 1048576) (hr : OpRow w A B ao l) :
    Calls Tryz.prog 5 #[.slice ao l.length cap] w fun e w' => e = .returned (.string (opsB l)) ∧ Below w.heap.size w w' := by
  by_cases h4 : 400 < l.length
  · have HF : Hid (opsB l = ByteArray.empty) := by show _ = _; unfold opsB; rw [if_neg (fun h => by have := (opsOk_len h).2; omega)]
    clear hr
    go_enter Tryz.func5, Tryz.ntmps5
    go_wp2
    go_ret
    exact ⟨ret_str (by rw [HF.out]; rfl), Below.refl _ _⟩
  have h1 := specOpsRight_any A B ao cap l w hB hl hr
  cases hq : opsOk l with
  | false =>
    rw [hq] at h1
    have H1 := hide h1
    have HF : Hid (opsB l = ByteArray.empty) := by show _ = _; unfold opsB; rw [hq]; rfl
    clear hq hr h1
    go_enter Tryz.func5, Tryz.ntmps5
    go_wp2_with (go_at_call 10; refine H1.out.mono ?_; rintro e w1 ⟨rfl, b1⟩)
    go_ret
    exact ⟨ret_str (by rw [HF.out]; rfl), b1⟩
  | true =>
    rw [hq] at h1
    have H1 := hide h1
    have HF : Hid (opsB l = mkS (opsL l l.length)) := by show _ = _; unfold opsB; rw [if_pos hq]
    have hn20 := (opsOk_len hq).2
    have HOK := hide (fun i hi => opsOk_at hq i hi)
    have HLE : Hid (∀ k, (mkS (opsL l k)).size ≤ 1000000) := fun k => by rw [mkS_size]; exact opsL_len l k hn20
    have HSU := hide (opsL_succ l)
    have HL0 : Hid (mkS (opsL l 0) = numS l.length) := by show _ = _; unfold opsL; simp only [List.take_zero, List.flatMap_nil, List.append_nil]; exact numS_mk _
    have HR : Hid (OpRow w A B ao l) := hr
    clear hq hr h1
    generalize opsB l = ob at *
    generalize hFL : opsL l = fL at *
    clear hFL
    go_enter Tryz.func5, Tryz.ntmps5
    go_wp2_with (go_at_call 10; refine H1.out.mono ?_; rintro e w1 ⟨rfl, b1⟩; have B1 := hide b1; clear b1)
    refine (specNum_any l.length (nat_in _ (by unfold maxLen; omega)) _).mono ?_
    rintro e w2 ⟨rfl, b2⟩
    have B2 := hide (B1.out.trans (b2.mono B1.out.size))
    clear b2
    go_wp2
    go_loopw [3, 4] (fun t i wr => ∃ k : Nat, k ≤ l.length ∧ i = .int .i64 k ∧ t = .string (mkS (fL k)) ∧ Below w.heap.size w wr) (fun _ i _ => l.length - (intOf i).toNat)
    case atStart => exact ⟨0, Nat.zero_le _, rfl, by rw [HL0.out], B2.out⟩
    case round =>
      clear B2 HL0
      obtain ⟨k, hk, rfl, rfl, hb⟩ := hrel
      have hz := hb.size
      by_cases hlt : k < l.length
      · obtain ⟨b, off, o, a1, c1, a2, c2, a3, c3, a4, c4, rfl, hbB, hv, hok, hs, hva, d0, d1, d2, d3, d4, d5, d6⟩ := (HR.out.kept (hb.mono hB)).at k hlt
        have HS1 : Hid (o.kind = 1 → mkS (fL (k + 1)) = mkS (fL k) ++ numS o.kind ++ putT (schB o.sch)) := by
          intro e
          rw [HSU.out k hlt, hv]; unfold opL opT; rw [if_pos e]; unfold numL; rw [← List.append_assoc, mkS_cat, mkS_cat]
        have HSB := hide (fun (W : World) (hbW : Below wr.heap.size wr W) => specSchemaBytes_any A B a1 c1 a2 c2 a3 c3 o.sch W (by have := hbW.size; omega) (hs.kept (hbW.mono (by omega))))
        have HPN := hide (fun (W : World) => specNum_any o.kind hok.1 W)
        have HPT := hide (fun (W : World) => specPutText_any o.table W)
        have hvr : ¬ o.kind = 1 → vsRight o.row = true := fun e => opOk_row (by rw [← hv]; exact HOK.out k hlt) e
        have HKR := hide (fun (e : ¬ o.kind = 1) (W : World) (hbW : Below wr.heap.size wr W) => l02Key_any a4 c4 o.row W (hvr e) ((hva.1.kept (hbW.mono (by omega))).mono (by have := hbW.size; omega)))
        have HS2 : Hid (¬ o.kind = 1 → mkS (fL (k + 1)) = mkS (fL k) ++ numS o.kind ++ putT o.table ++ putT (mkS (keyL o.row))) := by
          intro e
          have hkk : keyOf o.row = mkS (keyL o.row) := if_pos (hvr e)
          rw [HSU.out k hlt, hv]; unfold opL opT; rw [if_neg e, hkk]; unfold numL; rw [mkS_list, ← List.append_assoc, ← List.append_assoc, mkS_cat, mkS_cat, mkS_cat]
        have hcl := HLE.out k
        have hp1 : (numS o.kind).size ≤ 10 := num_size _
        have hp2 := putT_le o.table
        have hp3 := putT_le (mkS (keyL o.row))
        have hp4 := putT_le (schB o.sch)
        have hq1 : b < wr.heap.size := by omega
        have hi0 : (0 : Int) ≤ (k : Int) := by omega
        have hi1 : (k : Int) < (l.length : Int) := by omega
        have ht := (Int.toNat_natCast k)
        have HPS := hide (fun (W : World) => specPutText_any (schB o.sch) W)
        have HPK := hide (fun (W : World) => specPutText_any (mkS (keyL o.row)) W)
        clear hv hok hs hva hvr
        generalize mkS (fL k) = T at *
        generalize schB o.sch = qs at *
        generalize mkS (keyL o.row) = qk at *
        generalize putT qs = us at *
        generalize putT qk = u3 at *
        generalize putT o.table = u2 at *
        generalize hn1 : numS o.kind = u1 at *
        clear hn1
        generalize o.kind = kd at *
        generalize o.table = tb at *
        generalize o.sch.name = nm at *
        generalize o.sch.cols.length = n1 at *
        generalize o.sch.key.length = n2 at *
        generalize o.sch.idx.length = n3 at *
        generalize o.row.length = n4 at *
        have ad1 := fun W => run_string_add_sum (P := Tryz.prog) (w := W) T u1 (by omega)
        have ad2 := fun W => run_string_add_sum (P := Tryz.prog) (w := W) (T ++ u1) u2 (by rw [ByteArray.size_append]; omega)
        have ad3 := fun W => run_string_add_sum (P := Tryz.prog) (w := W) (T ++ u1 ++ u2) u3 (by rw [ByteArray.size_append, ByteArray.size_append]; omega)
        have ad4 := fun W => run_string_add_sum (P := Tryz.prog) (w := W) (T ++ u1) us (by rw [ByteArray.size_append]; omega)
        go_wp2_with fail
        refine (HPN.out _).mono ?_
        rintro e y1 ⟨rfl, r1⟩
        have D0 := (r1.cell (p := ⟨b, off + k * 7, none⟩) hq1).trans d0
        have D1 := (r1.cell (p := ⟨b, off + k * 7 + 1, none⟩) hq1).trans d1
        have D2 := (r1.cell (p := ⟨b, off + k * 7 + 2, none⟩) hq1).trans d2
        have D3 := (r1.cell (p := ⟨b, off + k * 7 + 3, none⟩) hq1).trans d3
        have D4 := (r1.cell (p := ⟨b, off + k * 7 + 4, none⟩) hq1).trans d4
        have D5 := (r1.cell (p := ⟨b, off + k * 7 + 5, none⟩) hq1).trans d5
        have D6 := (r1.cell (p := ⟨b, off + k * 7 + 6, none⟩) hq1).trans d6
        have R1 := hide r1
        have hq2 : b < y1.heap.size := by have := r1.size; omega
        clear d0 d1 d2 d3 d4 d5 d6 r1 HPN
        by_cases hk1 : kd = 1
        · subst hk1
          have HX := hide (HS1.out rfl)
          clear HS1 HS2 HPT HPK HKR
          go_wp2_with fail
          refine (HSB.out _ R1.out).mono ?_
          rintro e y2 ⟨rfl, r2⟩
          have R2 := hide (R1.out.trans (r2.mono R1.out.size))
          clear r2 D0 D1 D2 D3 D4 D5 D6
          go_wp2_with fail
          refine (HPS.out _).mono ?_
          rintro e y3 ⟨rfl, r3⟩
          have R3 := hide (hb.trans ((R2.out.trans (r3.mono R2.out.size)).mono hz))
          clear r3 HSB hb
          go_wp2
          go_roundw
          case rel => exact ⟨k + 1, by omega, by go_num, by rw [HX.out], R3.out⟩
          case measure => simp [intOf]; omega
        · have HX := hide (HS2.out hk1)
          have HK2 := hide (HKR.out hk1)
          clear HS1 HS2 HSB HPS HKR
          go_wp2
          go_region_held3 (fun W => W.cell? ⟨b, off + k * 7 + 1, none⟩ = some (.string tb) ∧ W.cell? ⟨b, off + k * 7 + 6, none⟩ = some (.slice a4 n4 c4)) (go_keep) (first
            | (go_at_call 12; have hh := r3'; refine (HPK.out _).mono ?_; rintro e y4 ⟨rfl, r4⟩; have r4' : Below y1.heap.size y1 y4 := r3'.trans (r4.mono r3'.size); obtain ⟨hc4, hf4⟩ := bcell r4')
            | (go_at_call 12; refine (HPT.out _).mono ?_; rintro e y2 ⟨rfl, r2⟩; have r2' : Below y1.heap.size y1 y2 := (Below.refl _ _).drew.trans r2; obtain ⟨hc2, hf2⟩ := bcell r2')
            | (go_at_call 14; refine (HK2.out _ (R1.out.trans (r2'.mono R1.out.size))).mono ?_; rintro e y3 ⟨rfl, r3⟩; have r3' : Below y1.heap.size y1 y3 := r2'.trans (r3.mono r2'.size); obtain ⟨hc3, hf3⟩ := bcell r3'))
          all_goals
            have R4 := hide (hb.trans ((R1.out.trans (r4'.mono R1.out.size)).mono hz))
            clear r4' r4 r3' r3 r2' r2 hc2 hf2 hc3 hf3 hc4 hf4 D0 D1 D2 D3 D4 D5 D6 HPT HPK HK2 hb ad1 ad2 ad3 ad4
            go_wp2
            go_roundw
            case rel => exact ⟨k + 1, by omega, by go_num, by rw [HX.out], R4.out⟩
            case measure => simp [intOf]; omega
      · obtain rfl : k = l.length := by omega
        go_wp2
        go_ret
        exact ⟨ret_str (by rw [HF.out]), hb⟩
end Go.Proofs.YtnangmjcgjlndaaGreat

/-
  Contracts: is an op right? Are ops? The program's answer.
-/
namespace Go.Proofs.YtnangmjcgjlndaaGreat
open Go.RowKit
set_option maxRecDepth 100000

set_option maxHeartbeats 1000000 in
theorem implNoSch_any (s : Sch) (a1 : Option Addr) (c1 : Nat) (a2 : Option Addr) (c2 : Nat) (a3 : Option Addr) (c3 : Nat) (w : World) :
    Calls Tryz.prog 53 #[.agg #[.string s.name, .slice a1 s.cols.length c1, .slice a2 s.key.length c2, .slice a3 s.idx.length c3]] w fun e w' => e = .returned (.bool (noSchB s)) ∧ Below w.heap.size w w' := by
  obtain ⟨nm, cs, ky, xs⟩ := s
  have HQ : Hid (noSchB ⟨nm, cs, ky, xs⟩ = (nm.toList.isEmpty && decide (cs.length = 0) && decide (ky.length = 0) && decide (xs.length = 0))) := rfl
  simp only
  generalize noSchB ⟨nm, cs, ky, xs⟩ = q at *
  generalize cs.length = n1 at *
  generalize ky.length = n2 at *
  generalize xs.length = n3 at *
  have B0 := hide ((Below.refl w.heap.size w).alloc (Nat.le_refl _) (.cells #[.string nm, .slice a1 n1 c1, .slice a2 n2 c2, .slice a3 n3 c3] 43))
  cases hte : nm.toList.isEmpty with
  | false =>
    have HF : Hid (q = false) := by show _ = _; rw [HQ.out, hte]; rfl
    clear HQ
    go_enter Tryz.func53, Tryz.ntmps53
    go_wp2
    go_ret
    exact ⟨ret_bool HF.out.symm, B0.out⟩
  | true =>
    by_cases h1 : n1 = 0
    · by_cases h2 : n2 = 0
      · by_cases h3 : n3 = 0
        · have HF : Hid (q = true) := by show _ = _; rw [HQ.out, hte, h1, h2, h3]; rfl
          clear HQ
          subst h1 h2 h3
          go_enter Tryz.func53, Tryz.ntmps53
          go_wp2
          go_ret
          exact ⟨ret_bool HF.out.symm, B0.out⟩
        · have HF : Hid (q = false) := by show _ = _; rw [HQ.out, decide_eq_false h3]; simp
          clear HQ
          subst h1 h2
          go_enter Tryz.func53, Tryz.ntmps53
          go_wp2
          go_ret
          exact ⟨ret_bool (by rw [HF.out, beq_eq_false_iff_ne]; omega), B0.out⟩
      · have HF : Hid (q = false) := by show _ = _; rw [HQ.out, decide_eq_false h2]; simp
        clear HQ
        subst h1
        go_enter Tryz.func53, Tryz.ntmps53
        go_wp2
        go_ret
        exact ⟨ret_bool HF.out.symm, B0.out⟩
    · have HF : Hid (q = false) := by show _ = _; rw [HQ.out, decide_eq_false h1]; simp
      clear HQ
      go_enter Tryz.func53, Tryz.ntmps53
      go_wp2
      go_ret
      exact ⟨ret_bool HF.out.symm, B0.out⟩
set_option maxHeartbeats 4000000 in
theorem implOp_any (A B : Nat) (o : Opn) (a1 : Option Addr) (c1 : Nat) (a2 : Option Addr) (c2 : Nat) (a3 : Option Addr) (c3 : Nat) (a4 : Option Addr) (c4 : Nat) (w : World) (hB : B ≤ w.heap.size) (hk : inI64 o.kind ∧ o.table.size ≤ maxLen ∧ o.row.length ≤ maxLen) (hs : SchRow w A B a1 a2 a3 c2 o.sch) (hv : VRowA w A B a4 o.row) :
    Calls Tryz.prog 32 #[(.agg #[.int .i64 o.kind, .string o.table, .string o.sch.name, .slice a1 o.sch.cols.length c1, .slice a2 o.sch.key.length c2, .slice a3 o.sch.idx.length c3, .slice a4 o.row.length c4])] w fun e w' => e = .returned (.bool (opOk o)) ∧ Below w.heap.size w w' := by
  have hsr := fun (W : World) (hb : Below w.heap.size w W) => implSchemaRight_any A B a1 c1 a2 c2 a3 c3 o.sch W (Nat.le_trans hB hb.size) (hs.kept (hb.mono hB))
  have hns := fun (W : World) => implNoSch_any o.sch a1 c1 a2 c2 a3 c3 W
  have hvr := fun (W : World) (hb : Below w.heap.size w W) => implValuesRight_any B a4 c4 o.row W (Nat.le_trans hB hb.size) hk.2.2 (hv.1.kept (hb.mono hB))
  have hnr := fun (W : World) => implName_any o.table W
  have HQ : Hid (opOk o = if o.kind = 1 then schRight o.sch && o.table.toList.isEmpty && decide (o.row.length = 0) else if o.kind = 2 ∨ o.kind = 3 ∨ o.kind = 4 then nameOk o.table.data.toList && noSchB o.sch && vsRight o.row else false) := rfl
  clear hk hs hv hB
  generalize opOk o = q at *
  generalize schRight o.sch = qs at *
  generalize noSchB o.sch = qz at *
  generalize vsRight o.row = qv at *
  generalize nameOk o.table.data.toList = qn at *
  generalize o.kind = kd at *
  generalize o.table = tb at *
  generalize o.sch.name = nm at *
  generalize o.sch.cols.length = n1 at *
  generalize o.sch.key.length = n2 at *
  generalize o.sch.idx.length = n3 at *
  generalize o.row.length = n4 at *
  have HSR := hide hsr
  have HNS := hide hns
  have HVR := hide hvr
  have HNR := hide hnr
  clear hsr hns hvr hnr
  have B0 := hide ((Below.refl w.heap.size w).alloc (Nat.le_refl _) (.cells #[.int .i64 kd, .string tb, .string nm, .slice a1 n1 c1, .slice a2 n2 c2, .slice a3 n3 c3, .slice a4 n4 c4] 46))
  by_cases hk1 : kd = 1
  · subst hk1
    have HF : Hid (q = (qs && tb.toList.isEmpty && decide (n4 = 0))) := by show _ = _; rw [HQ.out, if_pos rfl]
    clear HQ HNS HVR HNR
    cases qs with
    | false =>
      go_enter Tryz.func32, Tryz.ntmps32
      go_wp2_with (go_at_call 51; refine (HSR.out _ B0.out).mono ?_; rintro e w1 ⟨rfl, hb1⟩)
      go_ret
      exact ⟨ret_bool (by rw [HF.out]; rfl), B0.out.trans (hb1.mono B0.out.size)⟩
    | true =>
      cases hte : tb.toList.isEmpty with
      | false =>
        have HG : Hid (q = false) := by show _ = _; rw [HF.out, hte]; rfl
        clear HF
        go_enter Tryz.func32, Tryz.ntmps32
        go_wp2_with (go_at_call 51; refine (HSR.out _ B0.out).mono ?_; rintro e w1 ⟨rfl, hb1⟩; obtain ⟨hc1, hf1⟩ := bcell hb1)
        go_ret
        exact ⟨ret_bool HG.out.symm, B0.out.trans (hb1.mono B0.out.size)⟩
      | true =>
        by_cases h4 : n4 = 0
        · have HG : Hid (q = true) := by show _ = _; rw [HF.out, hte, h4]; rfl
          clear HF
          subst h4
          go_enter Tryz.func32, Tryz.ntmps32
          go_wp2_with (go_at_call 51; refine (HSR.out _ B0.out).mono ?_; rintro e w1 ⟨rfl, hb1⟩; obtain ⟨hc1, hf1⟩ := bcell hb1)
          go_ret
          exact ⟨ret_bool HG.out.symm, B0.out.trans (hb1.mono B0.out.size)⟩
        · have HG : Hid (q = false) := by show _ = _; rw [HF.out, decide_eq_false h4]; simp
          clear HF
          go_enter Tryz.func32, Tryz.ntmps32
          go_wp2_with (go_at_call 51; refine (HSR.out _ B0.out).mono ?_; rintro e w1 ⟨rfl, hb1⟩; obtain ⟨hc1, hf1⟩ := bcell hb1)
          go_ret
          exact ⟨ret_bool (by rw [HG.out, beq_eq_false_iff_ne]; omega), B0.out.trans (hb1.mono B0.out.size)⟩
  · by_cases hk2 : kd = 2 ∨ kd = 3 ∨ kd = 4
    · have HF : Hid (q = (qn && qz && qv)) := by show _ = _; rw [HQ.out, if_neg hk1, if_pos hk2]
      clear HQ HSR
      have HB := hide (fun (w1 : World) (h : Below (w.alloc (.cells #[.int .i64 kd, .string tb, .string nm, .slice a1 n1 c1, .slice a2 n2 c2, .slice a3 n3 c3, .slice a4 n4 c4] 46)).heap.size (w.alloc (.cells #[.int .i64 kd, .string tb, .string nm, .slice a1 n1 c1, .slice a2 n2 c2, .slice a3 n3 c3, .slice a4 n4 c4] 46)) w1) => B0.out.trans (h.mono B0.out.size))
      rcases hk2 with hk2 | hk2 | hk2
      all_goals
        subst hk2
        cases qn with
        | false =>
          go_enter Tryz.func32, Tryz.ntmps32
          go_wp2_with (go_at_call 52; refine (HNR.out _).mono ?_; rintro e w1 ⟨rfl, rfl⟩)
          go_ret
          exact ⟨ret_bool (by rw [HF.out]; rfl), B0.out⟩
        | true =>
          cases qz with
          | false =>
            go_enter Tryz.func32, Tryz.ntmps32
            go_wp2_with (first | (go_at_call 52; refine (HNR.out _).mono ?_; rintro e w1 ⟨rfl, rfl⟩) | (go_at_call 53; refine (HNS.out _).mono ?_; rintro e w2 ⟨rfl, hb2⟩; obtain ⟨hc2, hf2⟩ := bcell hb2))
            go_ret
            exact ⟨ret_bool (by rw [HF.out]; rfl), HB.out _ hb2⟩
          | true =>
            have HG : Hid (q = qv) := by show _ = _; rw [HF.out]; rfl
            clear HF
            go_enter Tryz.func32, Tryz.ntmps32
            go_wp2_with (first | (go_at_call 52; refine (HNR.out _).mono ?_; rintro e w1 ⟨rfl, rfl⟩) | (go_at_call 53; refine (HNS.out _).mono ?_; rintro e w2 ⟨rfl, hb2⟩; have BX := hide (HB.out _ hb2); obtain ⟨hc2, hf2⟩ := bcell hb2) | (go_at_call 54; refine (HVR.out _ BX.out).mono ?_; rintro e w3 ⟨rfl, hb3⟩; have BY := hide (BX.out.trans (hb3.mono BX.out.size))))
            go_ret
            exact ⟨ret_bool HG.out.symm, BY.out⟩
    · have HF : Hid (q = false) := by show _ = _; rw [HQ.out, if_neg hk1, if_neg hk2]
      have hk3 : ¬ kd = 2 := fun e => hk2 (.inl e)
      have hk4 : ¬ kd = 3 := fun e => hk2 (.inr (.inl e))
      have hk5 : ¬ kd = 4 := fun e => hk2 (.inr (.inr e))
      clear HQ HSR HNS HVR HNR hk2
      go_enter Tryz.func32, Tryz.ntmps32
      go_wp2
      go_ret
      exact ⟨ret_bool HF.out.symm, B0.out⟩
set_option maxHeartbeats 2000000 in
theorem implOpsRight_any (A B : Nat) (ao : Option Addr) (cap : Nat) (l : List Opn) (w : World) (hB : B ≤ w.heap.size) (hl : l.length ≤ 1048576) (hr : OpRow w A B ao l) :
    Calls Tryz.prog 16 #[.slice ao l.length cap] w fun e w' => e = .returned (.bool (opsOk l)) ∧ Below w.heap.size w w' := by
  have HQ : Hid (opsOk l = (decide (1 ≤ l.length) && decide (l.length ≤ 20) && upto (fun i => opOk (l.getD i noOp)) l.length)) := rfl
  generalize opsOk l = q at *
  by_cases h1 : l.length < 1
  · have HF : Hid (q = false) := by show _ = _; rw [HQ.out, decide_eq_false (by omega)]; rfl
    clear HQ hr
    go_enter Tryz.func16, Tryz.ntmps16
    go_wp2
    go_ret
    exact ⟨ret_bool HF.out.symm, Below.refl _ _⟩
  · by_cases h20 : 20 < l.length
    · have HF : Hid (q = false) := by show _ = _; rw [HQ.out, decide_eq_false (show ¬ l.length ≤ 20 by omega)]; simp
      clear HQ hr
      go_enter Tryz.func16, Tryz.ntmps16
      go_wp2
      go_ret
      exact ⟨ret_bool HF.out.symm, Below.refl _ _⟩
    · have HV : Hid (q = upto (fun i => opOk (l.getD i noOp)) l.length) := by show _ = _; rw [HQ.out, decide_eq_true (show 1 ≤ l.length by omega), decide_eq_true (show l.length ≤ 20 by omega)]; rfl
      clear HQ
      have HR : Hid (OpRow w A B ao l) := hr
      clear hr
      go_enter Tryz.func16, Tryz.ntmps16
      go_wp2
      go_loopw [15] (fun i wr => ∃ k : Nat, k ≤ l.length ∧ i = .int .i64 k ∧ Hid (upto (fun i => opOk (l.getD i noOp)) k = true) ∧ Below w.heap.size w wr) (fun i _ => l.length - (intOf i).toNat)
      case atStart => exact ⟨0, Nat.zero_le _, rfl, rfl, Below.refl _ _⟩
      case round =>
        obtain ⟨k, hk, rfl, HU, hb⟩ := hrel
        by_cases hlt : k < l.length
        · obtain ⟨b, off, o, a1, c1, a2, c2, a3, c3, a4, c4, rfl, hbB, hv, hok, hs, hva, d0, d1, d2, d3, d4, d5, d6⟩ := (HR.out.kept (hb.mono hB)).at k hlt
          have hz := hb.size
          have HX : Hid (l.getD k noOp = o) := hv
          have HO := hide (fun (W : World) (hbW : Below wr.heap.size wr W) => implOp_any A B o a1 c1 a2 c2 a3 c3 a4 c4 W (by have := hbW.size; omega) hok (hs.kept (hbW.mono (by omega))) (hva.kept (hbW.mono (by omega))))
          have HA := hide ((Below.refl wr.heap.size wr).alloc (Nat.le_refl _) (.cells #[.int .i64 o.kind, .string o.table, .string o.sch.name, .slice a1 o.sch.cols.length c1, .slice a2 o.sch.key.length c2, .slice a3 o.sch.idx.length c3, .slice a4 o.row.length c4] 46))
          clear hv hok hs hva
          have HP := hide (upto_succ (fun i => opOk (l.getD i noOp)) k)
          cases hoo : opOk o with
          | false =>
            have HF : Hid (q = false) := by show _ = _; rw [HV.out]; exact upto_false hlt (by show opOk (l.getD k noOp) = false; rw [HX.out]; exact hoo)
            simp only [hoo] at HO
            clear HV HX HP HU hoo
            go_wp2_with (go_at_call 32; refine (HO.out _ HA.out).mono ?_; rintro e w1 ⟨rfl, hb1⟩; have BX := hide (hb.trans ((HA.out.trans (hb1.mono HA.out.size)).mono hz)))
            go_ret
            exact ⟨ret_bool HF.out.symm, BX.out⟩
          | true =>
            have HU2 : Hid (upto (fun i => opOk (l.getD i noOp)) (k + 1) = true) := by show _ = _; rw [HP.out, HU.out]; show (true && opOk (l.getD k noOp)) = true; rw [HX.out, hoo]; rfl
            simp only [hoo] at HO
            clear HX HP HU hoo
            go_wp2_with (go_at_call 32; refine (HO.out _ HA.out).mono ?_; rintro e w1 ⟨rfl, hb1⟩; have BX := hide (hb.trans ((HA.out.trans (hb1.mono HA.out.size)).mono hz)))
            clear hb hb1 hz HO d0 d1 d2 d3 d4 d5 d6
            go_roundw
            case rel => exact ⟨k + 1, by omega, by go_num, HU2, BX.out⟩
            case measure => simp [intOf]; omega
        · obtain rfl : k = l.length := by omega
          have HF : Hid (q = true) := by show _ = _; rw [HV.out]; exact HU.out
          clear HV HU
          go_wp2
          go_ret
          exact ⟨ret_bool HF.out.symm, hb⟩
end Go.Proofs.YtnangmjcgjlndaaGreat

/-
  Contracts: the program's bytes of ops.
-/
namespace Go.Proofs.YtnangmjcgjlndaaGreat
open Go.RowKit
set_option maxRecDepth 100000

set_option maxHeartbeats 2000000 in
theorem implOpBytes_any (A B : Nat) (o : Opn) (a1 : Option Addr) (c1 : Nat) (a2 : Option Addr) (c2 : Nat) (a3 : Option Addr) (c3 : Nat) (a4 : Option Addr) (c4 : Nat) (w : World) (hB : B ≤ w.heap.size) (hk : inI64 o.kind ∧ o.table.size ≤ maxLen ∧ o.row.length ≤ maxLen) (hs : SchRow w A B a1 a2 a3 c2 o.sch) (hv : VRowA w A B a4 o.row) (m : Int) (hm : w.cell? ⟨0, 0, none⟩ = some (.int .i64 m)) :
    Calls Tryz.prog 20 #[(.agg #[.int .i64 o.kind, .string o.table, .string o.sch.name, .slice a1 o.sch.cols.length c1, .slice a2 o.sch.key.length c2, .slice a3 o.sch.idx.length c3, .slice a4 o.row.length c4])] w fun e w' => e = .returned (.string (opT o)) ∧ Below w.heap.size w w' := by
  have hlt : 0 < w.heap.size := block_lt_of_cell hm
  have HSB := hide (fun (W : World) (hb : Below w.heap.size w W) => implSchemaBytes_any A B a1 c1 a2 c2 a3 c3 o.sch W (Nat.le_trans hB hb.size) (hs.kept (hb.mono hB)))
  have HKB := hide (fun (W : World) (hb : Below w.heap.size w W) => implKeyBytes_any a4 c4 o.row W hk.2.2 ((hv.1.kept (hb.mono hB)).mono (Nat.le_trans hB hb.size)) m ((hb.cell (p := ⟨0, 0, none⟩) hlt).trans hm))
  have HQ : Hid (opT o = if o.kind = 1 then putT (schB o.sch) else mkS ((putT o.table).data.toList ++ (putT (keyOf o.row)).data.toList)) := rfl
  clear hk hs hv hB hm hlt
  generalize opT o = q at *
  generalize schB o.sch = qs at *
  generalize keyOf o.row = qk at *
  generalize o.kind = kd at *
  generalize o.table = tb at *
  generalize o.sch.name = nm at *
  generalize o.sch.cols.length = n1 at *
  generalize o.sch.key.length = n2 at *
  generalize o.sch.idx.length = n3 at *
  generalize o.row.length = n4 at *
  have X0 := hide (heap_alloc_new w (.cells #[.int .i64 kd, .string tb, .string nm, .slice a1 n1 c1, .slice a2 n2 c2, .slice a3 n3 c3, .slice a4 n4 c4] 46))
  have B0 := hide ((Below.refl w.heap.size w).alloc (Nat.le_refl _) (.cells #[.int .i64 kd, .string tb, .string nm, .slice a1 n1 c1, .slice a2 n2 c2, .slice a3 n3 c3, .slice a4 n4 c4] 46))
  by_cases hk1 : kd = 1
  · have HF : Hid (q = putT qs) := by show _ = _; rw [HQ.out, if_pos hk1]
    subst hk1
    clear HQ HKB
    go_enter Tryz.func20, Tryz.ntmps20
    go_wp2_with fail
    refine (HSB.out _ B0.out).mono ?_
    rintro e w1 ⟨rfl, b1⟩
    have B1 := hide (B0.out.trans (b1.mono B0.out.size))
    clear b1 HSB
    go_wp2_with fail
    refine (implPutText_any qs _).mono ?_
    rintro e w2 ⟨rfl, b2⟩
    have B2 := hide (B1.out.trans (b2.mono B1.out.size))
    clear b2
    go_wp2
    go_ret
    exact ⟨ret_str (by rw [HF.out]), B2.out⟩
  · have HF : Hid (q = mkS ((putT tb).data.toList ++ (putT qk).data.toList)) := by show _ = _; rw [HQ.out, if_neg hk1]
    clear HQ HSB
    have HPT := hide (fun W => implPutText_any tb W)
    have HPK := hide (fun W => implPutText_any qk W)
    have h1 := putT_le tb
    have h2 := putT_le qk
    generalize putT tb = t1 at *
    generalize putT qk = t2 at *
    go_enter Tryz.func20, Tryz.ntmps20
    go_wp2
    have hgA : w.heap.size < (w.alloc (.cells #[.int .i64 kd, .string tb, .string nm, .slice a1 n1 c1, .slice a2 n2 c2, .slice a3 n3 c3, .slice a4 n4 c4] 46)).heap.size := by simp
    generalize w.alloc (.cells #[.int .i64 kd, .string tb, .string nm, .slice a1 n1 c1, .slice a2 n2 c2, .slice a3 n3 c3, .slice a4 n4 c4] 46) = WA at *
    obtain ⟨x0, x1, x2, x3, x4, x5, x6, xf⟩ := cells7 X0.out
    clear x0 x2 x3 x4 x5
    have hg := hgA
    go_region_with (first
      | (go_at_call 34; have hh := r2'; refine (HPK.out _).mono ?_; rintro e y3 ⟨rfl, r3⟩; have r3' : Below WA.heap.size WA y3 := r2'.trans (r3.mono r2'.size); obtain ⟨hc3, hf3⟩ := bcell r3')
      | (go_at_call 34; refine (HPT.out _).mono ?_; rintro e y1 ⟨rfl, r1⟩; have r1' : Below WA.heap.size WA y1 := (Below.refl _ _).drew.trans r1; obtain ⟨hc1, hf1⟩ := bcell r1')
      | (go_at_call 36; refine (HKB.out _ (B0.out.trans (r1'.mono B0.out.size))).mono ?_; rintro e y2 ⟨rfl, r2⟩; have r2' : Below WA.heap.size WA y2 := r1'.trans (r2.mono r1'.size); obtain ⟨hc2, hf2⟩ := bcell r2')
      | (go_at_call 19; refine (join2 t1 t2 _ _ _ (by omega) (by simp) (by simp)).mono ?_; rintro e y4 ⟨rfl, r4⟩; have r4' : Below WA.heap.size WA y4 := (r3'.alloc r3'.size _).trans (r4.mono (by have := r3'.size; simp; omega))))
    all_goals
      have B9 := hide (B0.out.trans (r4'.mono B0.out.size))
      go_wp2
      go_ret
      exact ⟨ret_str (by rw [HF.out]), B9.out⟩
set_option maxHeartbeats 4000000 in
theorem implOpsBytes_any (A B : Nat) (ao : Option Addr) (cap : Nat) (l : List Opn) (w : World) (hB : B ≤ w.heap.size) (hl : l.length ≤ 1048576) (hr : OpRow w A B ao l) (m : Int) (hm : w.cell? ⟨0, 0, none⟩ = some (.int .i64 m)) :
    Calls Tryz.prog 7 #[.slice ao l.length cap] w fun e w' => e = .returned (.string (opsB l)) ∧ Below w.heap.size w w' := by
  have hlt : 0 < w.heap.size := block_lt_of_cell hm
  have h1 := implOpsRight_any A B ao cap l w hB hl hr
  cases hq : opsOk l with
  | false =>
    rw [hq] at h1
    have H1 := hide h1
    have HF : Hid (opsB l = ByteArray.empty) := by show _ = _; unfold opsB; rw [hq]; rfl
    clear hq hr hm h1
    go_enter Tryz.func7, Tryz.ntmps7
    go_wp2_with fail
    refine H1.out.mono ?_
    rintro e w1 ⟨rfl, b1⟩
    go_wp2
    go_ret
    exact ⟨ret_str (by rw [HF.out]; rfl), b1⟩
  | true =>
    rw [hq] at h1
    have H1 := hide h1
    have HF : Hid (opsB l = mkS (opsL l l.length)) := by show _ = _; unfold opsB; rw [if_pos hq]
    have hn20 := (opsOk_len hq).2
    have HLE := hide (fun k => opsL_len l k hn20)
    have HSU := hide (opsL_succ l)
    have HL0 : Hid (opsL l 0 = [] ++ (numS l.length).data.toList) := by show _ = _; unfold opsL numL; simp
    have HM := hide (fun (W : World) (hb : Below w.heap.size w W) => (hb.cell (p := ⟨0, 0, none⟩) hlt).trans hm)
    have HR : Hid (OpRow w A B ao l) := hr
    clear hq hr hm hlt h1
    generalize opsB l = ob at *
    generalize hFL : opsL l = fL at *
    clear hFL
    go_enter Tryz.func7, Tryz.ntmps7
    go_wp2_with fail
    refine H1.out.mono ?_
    rintro e w1 ⟨rfl, b1⟩
    have B1 := hide b1
    have BN := hide (bhas_new w1)
    have BA : Hid (Below w1.heap.size w1 (w1.alloc (.cells #[.pointer none, .slice none 0 0] 54))) := (Below.refl _ _).alloc (Nat.le_refl _) _
    clear b1 H1
    go_wp2_with fail
    refine (implNum_any l.length (nat_in _ (by unfold maxLen; omega)) _).mono ?_
    rintro e w2 ⟨rfl, b2⟩
    have k2 := hide (BA.out.trans (b2.mono BA.out.size))
    have K2 := hide (BN.out.kept b2)
    clear b2 BN BA
    go_wp2_with fail
    refine (write_any w1.heap.size [] _ _ K2.out (by have h1 : (numS (l.length : Int)).size ≤ 10 := num_size _; simp; omega) k2.out.size).mono ?_
    rintro e w3 ⟨rfl, hk3, b3⟩
    have K3 : Hid (BHas w1.heap.size (fL 0) w3) := by rw [HL0.out]; exact hk3
    have k3 := hide (k2.out.trans b3)
    clear hk3 b3 k2 K2 HL0
    go_wp2
    go_loopw [15] (fun i wr => ∃ k : Nat, k ≤ l.length ∧ i = .int .i64 k ∧ Hid (BHas w1.heap.size (fL k) wr) ∧ Below w1.heap.size w1 wr) (fun i _ => l.length - (intOf i).toNat)
    case atStart => exact ⟨0, Nat.zero_le _, rfl, K3, k3.out⟩
    case round =>
      clear K3 k3
      obtain ⟨k, hk, rfl, HK, hb⟩ := hrel
      have hz := hb.size
      by_cases hlt : k < l.length
      · have BW := B1.out.trans (hb.mono B1.out.size)
        obtain ⟨b, off, o, a1, c1, a2, c2, a3, c3, a4, c4, rfl, hbB, hv, hok, hs, hva, d0, d1, d2, d3, d4, d5, d6⟩ := (HR.out.kept (BW.mono hB)).at k hlt
        have HS : Hid (fL (k + 1) = fL k ++ (mkS ((numS o.kind).data.toList ++ (opT o).data.toList)).data.toList) := by
          show _ = _
          rw [HSU.out k hlt, hv, mkS_list]
          rfl
        have HOB := hide (fun (W : World) (hbW : Below wr.heap.size wr W) => implOpBytes_any A B o a1 c1 a2 c2 a3 c3 a4 c4 W (by have := BW.size; have := hbW.size; omega) hok (hs.kept (hbW.mono (by have := BW.size; omega))) (hva.kept (hbW.mono (by have := BW.size; omega))) m (HM.out W (BW.trans (hbW.mono BW.size))))
        have HPN := hide (fun (W : World) => implNum_any o.kind hok.1 W)
        have hcl := HLE.out k
        have hp1 : (numS o.kind).size ≤ 10 := num_size _
        have hp2 := opT_len o
        have HA1 := hide (HK.out.kept ((Below.refl _ wr).alloc (Nat.le_refl _) (.cells #[.int .i64 o.kind, .string o.table, .string o.sch.name, .slice a1 o.sch.cols.length c1, .slice a2 o.sch.key.length c2, .slice a3 o.sch.idx.length c3, .slice a4 o.row.length c4] 46)))
        have HA2 := hide (hb.alloc hz (.cells #[.int .i64 o.kind, .string o.table, .string o.sch.name, .slice a1 o.sch.cols.length c1, .slice a2 o.sch.key.length c2, .slice a3 o.sch.idx.length c3, .slice a4 o.row.length c4] 46))
        have HA3 := hide ((Below.refl wr.heap.size wr).alloc (Nat.le_refl _) (.cells #[.int .i64 o.kind, .string o.table, .string o.sch.name, .slice a1 o.sch.cols.length c1, .slice a2 o.sch.key.length c2, .slice a3 o.sch.idx.length c3, .slice a4 o.row.length c4] 46))
        have X0 := hide (heap_alloc_new wr (.cells #[.int .i64 o.kind, .string o.table, .string o.sch.name, .slice a1 o.sch.cols.length c1, .slice a2 o.sch.key.length c2, .slice a3 o.sch.idx.length c3, .slice a4 o.row.length c4] 46))
        clear hv hok hs hva HK hb BW
        generalize opT o = t2 at *
        generalize hn1 : numS o.kind = t1 at *
        clear hn1
        generalize o.kind = kd at *
        generalize o.table = tb at *
        generalize o.sch.name = nm at *
        generalize o.sch.cols.length = n1 at *
        generalize o.sch.key.length = n2 at *
        generalize o.sch.idx.length = n3 at *
        generalize o.row.length = n4 at *
        go_wp2
        have hgA : wr.heap.size < (wr.alloc (.cells #[.int .i64 kd, .string tb, .string nm, .slice a1 n1 c1, .slice a2 n2 c2, .slice a3 n3 c3, .slice a4 n4 c4] 46)).heap.size := by simp
        have hcat : (mkS (t1.data.toList ++ t2.data.toList)).size ≤ 40030 := by rw [mkS_size, List.length_append, len_data, len_data]; omega
        generalize wr.alloc (.cells #[.int .i64 kd, .string tb, .string nm, .slice a1 n1 c1, .slice a2 n2 c2, .slice a3 n3 c3, .slice a4 n4 c4] 46) = WA at *
        obtain ⟨x0, x1, x2, x3, x4, x5, x6, xf⟩ := cells7 X0.out
        clear d0 d1 d2 d3 d4 d5 d6 X0
        go_region_with (first
          | (go_at_call 18; refine (HPN.out _).mono ?_; rintro e y1 ⟨rfl, r1⟩; have r1' : Below WA.heap.size WA y1 := (Below.refl _ _).drew.trans r1; obtain ⟨hc1, hf1⟩ := bcell r1')
          | (go_at_call 20; refine (HOB.out _ (HA3.out.trans (r1'.mono HA3.out.size))).mono ?_; rintro e y2 ⟨rfl, r2⟩; have r2' : Below WA.heap.size WA y2 := r1'.trans (r2.mono r1'.size); obtain ⟨hc2, hf2⟩ := bcell r2')
          | (go_at_call 19; refine (join2 t1 t2 _ _ _ (by omega) (by simp) (by simp)).mono ?_; rintro e y4 ⟨rfl, r4⟩; have r4' : Below WA.heap.size WA y4 := (r2'.alloc r2'.size _).trans (r4.mono (by have := r2'.size; simp; omega)))
          | (go_at_call 17; refine (write_any w1.heap.size (fL k) _ _ (HA1.out.kept r4') (by omega) (Nat.le_trans HA2.out.size r4'.size)).mono ?_; rintro e y5 ⟨rfl, q5, r5⟩))
        all_goals
          have K6 : Hid (BHas w1.heap.size (fL (k + 1)) y5) := by rw [HS.out]; exact q5
          have k6 := hide ((HA2.out.trans (r4'.mono HA2.out.size)).trans r5)
          clear q5 r5 r4' r4 r2' r2 r1' r1 hc1 hf1 hc2 hf2 HA1 HA2 HA3 HPN HOB HS x0 x1 x2 x3 x4 x5 x6 xf
          go_wp2
          go_roundw
          case rel => exact ⟨k + 1, by omega, by go_num, K6, k6.out⟩
          case measure => simp [intOf]; omega
      · obtain rfl : k = l.length := by omega
        have KB := hide hb
        clear hb
        go_wp2_with fail
        refine (string_any w1.heap.size _ _ HK.out KB.out.size).mono ?_
        rintro e w9 ⟨rfl, b9⟩
        have B9 := hide (B1.out.trans ((KB.out.trans b9).mono B1.out.size))
        clear b9
        go_wp2
        go_ret
        exact ⟨ret_str (by rw [HF.out]), B9.out⟩
end Go.Proofs.YtnangmjcgjlndaaGreat

/-
  The law on OpsBytes, out of the contracts.
-/
namespace Go.Proofs.YtnangmjcgjlndaaGreat
open Go.RowKit
set_option maxRecDepth 100000

set_option maxHeartbeats 2000000 in
theorem lawOpsBytes (v0 : Value) (w : World) (h0 : IsOps w v0) (hsh : w.ShapedOpen Tryz.prog) :
    Calls Tryz.prog 3 #[v0] w fun e w' => e = .returned (.bool true) ∧ Below w.heap.size w w' := by
  obtain ⟨m, hm⟩ : ∃ m, w.cell? ⟨0, 0, none⟩ = some (.int .i64 m) := maxLen_some hsh
  have hlt : 0 < w.heap.size := block_lt_of_cell hm
  have HM := hide (fun (W : World) (hb : Below w.heap.size w W) => (hb.cell (p := ⟨0, 0, none⟩) hlt).trans hm)
  obtain ⟨ao, cap, l, rfl, hl, hr⟩ := h0
  have HSZ := hide (szOpS_any 0 w.heap.size ao cap l 1048576 w (Nat.le_refl _) hl hr (by omega) (by omega))
  have HTO := hide (fun (hn : l.length ≤ 1048576) (hf : ∀ i, i < l.length → opFits (l.getD i noOp)) (W : World) (hb : Below w.heap.size w W) => toOpS_any 0 w.heap.size ao cap l W hb.size hn hf (hr.kept hb))
  have HSP := hide (fun (hn : l.length ≤ 1048576) (A B : Nat) (bo : Option Addr) (cp : Nat) (W : World) (hB : B ≤ W.heap.size) (h : OpRow W A B bo l) => specOpsBytes_any A B bo cp l W hB hn h)
  have HIM := hide (fun (hn : l.length ≤ 1048576) (A B : Nat) (bo : Option Addr) (cp : Nat) (W : World) (hb : Below w.heap.size w W) (hB : B ≤ W.heap.size) (h : OpRow W A B bo l) => implOpsBytes_any A B bo cp l W hB hn h m (HM.out W hb))
  have HEQ := hide (fun (hn : l.length ≤ 1048576) (hf : ∀ i, i < l.length → opFits (l.getD i noOp)) (A B A' B' : Nat) (bo : Option Addr) (cp : Nat) (co : Option Addr) (cq : Nat) (W : World) (hB : B ≤ W.heap.size) (hB' : B' ≤ W.heap.size) (h : OpRow W A B bo l) (h' : OpRow W A' B' co l) => eqOpS_same A B A' B' bo cp co cq l W hB hB' hn hf h h')
  generalize opsB l = q at *
  clear hr hl hm hlt HM hsh
  go_enter Tryz.func3, Tryz.ntmps3
  go_wp2_with fail
  refine HSZ.out.mono ?_
  rintro e w1 ⟨r, rfl, hr1, hcase, b1⟩
  have B1 := hide b1
  clear b1 HSZ
  rcases hcase with hneg | ⟨hr0, hn0, hf0⟩
  · go_wp2
    go_ret
    exact ⟨rfl, B1.out⟩
  · have HN := hide hn0
    have HF := hide hf0
    clear hn0 hf0
    go_wp2_with fail
    refine (HTO.out HN.out HF.out _ B1.out).mono ?_
    rintro e w2 ⟨bo, cp, rfl, r2, b2⟩
    have B2 := hide (B1.out.trans (b2.mono B1.out.size))
    have R2 := hide r2
    clear r2 b2
    go_wp2_with fail
    refine (HSP.out HN.out _ _ _ _ _ (Nat.le_refl _) R2.out).mono ?_
    rintro e w3 ⟨rfl, b3⟩
    have B3 := hide (B2.out.trans (b3.mono B2.out.size))
    clear b3 R2
    go_wp2_with fail
    refine (HTO.out HN.out HF.out _ B3.out).mono ?_
    rintro e w4 ⟨co, cq, rfl, r4, b4⟩
    have B4 := hide (B3.out.trans (b4.mono B3.out.size))
    have R4 := hide r4
    clear r4 b4
    go_wp2_with fail
    refine (HIM.out HN.out _ _ _ _ _ B4.out (Nat.le_refl _) R4.out).mono ?_
    rintro e w5 ⟨rfl, b5⟩
    have B5 := hide (B4.out.trans (b5.mono B4.out.size))
    have R5 := hide (R4.out.kept b5)
    have Z5 : Hid (w4.heap.size ≤ w5.heap.size) := b5.size
    clear b5 R4
    go_wp2_with fail
    refine (HTO.out HN.out HF.out _ B5.out).mono ?_
    rintro e w6 ⟨d1, d2, rfl, r6, b6⟩
    have B6 := hide (B5.out.trans (b6.mono B5.out.size))
    have R6 := hide r6
    have R56 := hide (R5.out.kept (b6.mono Z5.out))
    have Z6 : Hid (w4.heap.size ≤ w6.heap.size) := by have := Z5.out; have := b6.size; show _ ≤ _; omega
    clear r6 b6 R5
    go_wp2_with fail
    refine (HEQ.out HN.out HF.out _ _ _ _ _ _ _ _ _ Z6.out (Nat.le_refl _) R56.out R6.out).mono ?_
    rintro e w7 ⟨rfl, b7⟩
    have B7 := hide (B6.out.trans (b7.mono B6.out.size))
    clear b7 R56 R6 HTO HSP HIM HEQ
    go_wp2
    go_ret
    exact ⟨rfl, B7.out⟩
end Go.Proofs.YtnangmjcgjlndaaGreat
