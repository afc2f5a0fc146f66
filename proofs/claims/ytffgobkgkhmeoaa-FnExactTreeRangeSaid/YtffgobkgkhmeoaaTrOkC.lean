/-
  Contracts: the specification's look at a tree, node by node: its keys.
-/
import Derived.Test.YtffgobkgkhmeoaaTrOkA
namespace Go.Proofs.Ytffgobkgkhmeoaa
open Go.RowKit
set_option maxRecDepth 100000
set_option linter.unusedVariables false

set_option maxHeartbeats 40000000 in
theorem ok_keys2 (A B n d : Nat) (ko : Option Addr) (kc : Nat) (vo : Option Addr) (vc : Nat) (xo : Option Addr) (xc : Nat) (ks vs : List ByteArray) (cs : List Tr) (root : Bool) (ls : ByteArray) (hl : Bool) (hs : ByteArray) (hh : Bool) (w : World) (hd : d ≤ 12) (hB : B ≤ w.heap.size) (hr : TrRow w A B (n + 1) (.node ks vs cs) ko vo xo) (hks : 1 ≤ ks.length) (hyes : nodeS root (.node ks vs cs) = true) (hdd : cs.length = 0 ↔ d = 0) (hcs : cs.length = ks.length + 1) (ih : ∀ (ko : Option Addr) (kc : Nat) (vo : Option Addr) (vc : Nat) (xo : Option Addr) (xc : Nat) (t : Tr) (ls : ByteArray) (hl : Bool) (hs : ByteArray) (hh : Bool) (w : World), B ≤ w.heap.size → TrRow w A B n t ko vo xo → Calls Try.prog 25 #[.agg #[.slice ko t.keys.length kc, .slice vo t.vals.length vc, .slice xo t.kids.length xc], .bool false, .int .i64 (d : Int), .string ls, .bool hl, .string hs, .bool hh] w fun e w' => e = .returned (.bool (okS d false t (optB hl ls) (optB hh hs))) ∧ Below w.heap.size w w') :
    Calls Try.prog 25 #[.agg #[.slice ko ks.length kc, .slice vo vs.length vc, .slice xo cs.length xc], .bool root, .int .i64 ((d + 1 : Nat) : Int), .string ls, .bool hl, .string hs, .bool hh] w fun e w' =>  e = .returned (.bool (okS (d + 1) root (.node ks vs cs) (optB hl ls) (optB hh hs))) ∧ Below w.heap.size w w' := by
  obtain ⟨g1, g2, g3, g4⟩ := nodeS_yes hyes
  change ks.length ≤ 3 at g1
  change vs.length = ks.length at g3
  change cs.length = 0 ∨ (cs.length = ks.length + 1 ∧ 1 ≤ ks.length) at g4
  have HG3 := hide g3
  have HRES := hide (okS_rest (lo := optB hl ls) (hi := optB hh hs) hyes hdd)
  generalize okS (d + 1) root (.node ks vs cs) (optB hl ls) (optB hh hs) = res at *
  obtain ⟨_, hk, hv, hx⟩ := hr
  change StrRow w A B ko ks at hk
  change StrRow w A B vo vs at hv
  change KidRow w A B (TrRow w A B n) xo cs at hx
  have B0 := hide ((Below.refl w.heap.size w).alloc (Nat.le_refl _) (.cells #[.slice ko ks.length kc, .slice vo vs.length vc, .slice xo cs.length xc] 30))
  have HK := hide (hk.kept (B0.out.mono hB))
  have HV := hide (hv.kept (B0.out.mono hB))
  have HX := hide (hx.kept (B0.out.mono hB) (TrRow.kept (B0.out.mono hB) n))
  have e1 : ¬ 3 < (ks.length : Int) := by omega
  have e3 : ((vs.length : Int) != (ks.length : Int)) = false := by rw [bne_eq_false_iff_eq]; omega
  have e2 : ((ks.length : Int) == 0) = false := by rw [beq_eq_false_iff_ne]; omega
  have e4 : ((cs.length : Int) != 0) = true := by rw [bne_iff_ne]; omega
  have e5 : ((cs.length : Int) != (ks.length : Int) + 1) = false := by rw [bne_eq_false_iff_eq]; omega
  have e6 : ((cs.length : Int) == 0) = false := by rw [beq_eq_false_iff_ne]; omega
  have e7 : ((d : Int) + 1 == 1) = false := by rw [beq_eq_false_iff_ne]; omega
  have X0 := hide (heap_alloc_new w (.cells #[.slice ko ks.length kc, .slice vo vs.length vc, .slice xo cs.length xc] 30))
  have HZW : Hid ((w.alloc (.cells #[.slice ko ks.length kc, .slice vo vs.length vc, .slice xo cs.length xc] 30)).heap.size = w.heap.size + 1) := by show _ = _; simp
  obtain ⟨x0, x1, x2, xf⟩ := cells3 X0.out
  have HDD := hide hdd
  have HCS := hide hcs
  clear hyes hdd g2 g3 g4 hk hv hx hcs
  go_enter Try.func25, Try.ntmps25
  go_wp2
  generalize w.alloc (.cells #[.slice ko ks.length kc, .slice vo vs.length vc, .slice xo cs.length xc] 30) = W0 at *
  go_loopw [16] (fun i wr => ∃ k : Nat, k ≤ ks.length ∧ i = .int .i64 k ∧ Hid (upto (keyS (.node ks vs cs) (optB hl ls) (optB hh hs)) k = true) ∧ Hid (wr = W0)) (fun i _ => ks.length - (intOf i).toNat)
  case atStart => exact ⟨0, Nat.zero_le _, rfl, rfl, rfl⟩
  case round =>
    obtain ⟨k, hk, rfl, HUP, HR⟩ := hrel
    obtain rfl : wr = W0 := HR.out
    by_cases hlt : k < ks.length
    · obtain ⟨b, off, x, rfl, hbB, hxk, hxs, d0⟩ := HK.out.at k hlt
      obtain ⟨b', off', v, rfl, hbB', hvk, hvs, d1⟩ := HV.out.at k (by rw [HG3.out]; exact hlt)
      have HKE := hide (keyS_eq ks vs cs (optB hl ls) (optB hh hs) k)
      rw [hxk, hvk] at HKE
      have HBAD : Hid (keyS (.node ks vs cs) (optB hl ls) (optB hh hs) k = false → res = false) := fun h => by rw [HRES.out, upto_false hlt h]; rfl
      unfold maxLen at hxs hvs
      have hlv : k < vs.length := by rw [HG3.out]; exact hlt
      clear hxk hvk HRES HX
      by_cases s1 : 20000 < x.size
      · have t1 : 20000 < (x.size : Int) := by omega
        have HZ : Hid (res = false) := HBAD.out (by rw [HKE.out]; exact a5_1 (decide_eq_false (by omega)))
        clear HUP HKE HBAD
        go_wp2
        go_ret
        exact ⟨by rw [HZ.out]; rfl, B0.out⟩
      by_cases s2 : 20000 < v.size
      · have t1 : ¬ 20000 < (x.size : Int) := by omega
        have t2 : 20000 < (v.size : Int) := by omega
        have HZ : Hid (res = false) := HBAD.out (by rw [HKE.out]; exact a5_2 (decide_eq_false (by omega)))
        clear HUP HKE HBAD
        go_wp2
        go_ret
        exact ⟨by rw [HZ.out]; rfl, B0.out⟩
      have t1 : ¬ 20000 < (x.size : Int) := by omega
      have t2 : ¬ 20000 < (v.size : Int) := by omega
      have s1' : x.size ≤ 20000 := by omega
      have s2' : v.size ≤ 20000 := by omega
      cases k with
      | zero =>
        simp only [Nat.add_zero] at d0 d1
        cases hl with
        | false =>
          cases hh with
          | false =>
            have HU2 : Hid (upto (keyS (.node ks vs cs) (optB false ls) (optB false hs)) (0 + 1) = true) := by show _ = _; rw [upto_succ, HUP.out, HKE.out, Bool.true_and]; exact a5_t (decide_eq_true s1') (decide_eq_true s2') rfl rfl rfl
            clear HUP HKE HBAD
            go_wp2
            go_roundw
            case rel => exact ⟨0 + 1, by omega, by go_num, HU2, by first | exact HR | exact True.intro⟩
            case measure => simp [intOf]; omega
          | true =>
            by_cases q3 : Go.Op.bytesLess x.toList hs.toList = true
            · skip
              have HU2 : Hid (upto (keyS (.node ks vs cs) (optB false ls) (optB true hs)) (0 + 1) = true) := by show _ = _; rw [upto_succ, HUP.out, HKE.out, Bool.true_and]; exact a5_t (decide_eq_true s1') (decide_eq_true s2') rfl rfl q3
              clear HUP HKE HBAD
              go_wp2
              go_roundw
              case rel => exact ⟨0 + 1, by omega, by go_num, HU2, by first | exact HR | exact True.intro⟩
              case measure => simp [intOf]; omega
            · rw [Bool.not_eq_true] at q3
              have HZ : Hid (res = false) := HBAD.out (by rw [HKE.out]; exact a5_5 q3)
              clear HUP HKE HBAD
              go_wp2
              go_ret
              exact ⟨by rw [HZ.out]; rfl, B0.out⟩
        | true =>
          by_cases q1 : Go.Op.bytesLess ls.toList x.toList = true
          · have q2 := le_not_lt x ls
            unfold lt' at q2
            rw [q1, Bool.not_true, Bool.or_eq_false_iff] at q2
            obtain ⟨q2, q2'⟩ := q2
            cases hh with
            | false =>
              have HU2 : Hid (upto (keyS (.node ks vs cs) (optB true ls) (optB false hs)) (0 + 1) = true) := by show _ = _; rw [upto_succ, HUP.out, HKE.out, Bool.true_and]; exact a5_t (decide_eq_true s1') (decide_eq_true s2') rfl q1 rfl
              clear HUP HKE HBAD
              go_wp2
              go_roundw
              case rel => exact ⟨0 + 1, by omega, by go_num, HU2, by first | exact HR | exact True.intro⟩
              case measure => simp [intOf]; omega
            | true =>
              by_cases q3 : Go.Op.bytesLess x.toList hs.toList = true
              · skip
                have HU2 : Hid (upto (keyS (.node ks vs cs) (optB true ls) (optB true hs)) (0 + 1) = true) := by show _ = _; rw [upto_succ, HUP.out, HKE.out, Bool.true_and]; exact a5_t (decide_eq_true s1') (decide_eq_true s2') rfl q1 q3
                clear HUP HKE HBAD
                go_wp2
                go_roundw
                case rel => exact ⟨0 + 1, by omega, by go_num, HU2, by first | exact HR | exact True.intro⟩
                case measure => simp [intOf]; omega
              · rw [Bool.not_eq_true] at q3
                have HZ : Hid (res = false) := HBAD.out (by rw [HKE.out]; exact a5_5 q3)
                clear HUP HKE HBAD
                go_wp2
                go_ret
                exact ⟨by rw [HZ.out]; rfl, B0.out⟩
          · rw [Bool.not_eq_true] at q1
            have HZ : Hid (res = false) := HBAD.out (by rw [HKE.out]; exact a5_4 q1)
            have q2 := le_not_lt x ls
            unfold lt' at q2
            rw [q1, Bool.not_false] at q2
            by_cases q3 : Go.Op.bytesLess x.toList ls.toList = true
            · clear HUP HKE HBAD q2
              go_wp2
              go_ret
              exact ⟨by rw [HZ.out]; rfl, B0.out⟩
            · rw [Bool.not_eq_true] at q3
              rw [q3, Bool.false_or] at q2
              clear HUP HKE HBAD
              go_wp2
              go_ret
              exact ⟨by rw [HZ.out]; rfl, B0.out⟩
      | succ j =>
        have p0 := HK.out.cellAt j (by omega)
        simp only [Nat.add_sub_cancel] at HKE
        generalize ks.getD j ByteArray.empty = p at *
        by_cases q0 : Go.Op.bytesLess p.toList x.toList = true
        · skip
          cases hl with
          | false =>
            cases hh with
            | false =>
              have HU2 : Hid (upto (keyS (.node ks vs cs) (optB false ls) (optB false hs)) ((j + 1) + 1) = true) := by show _ = _; rw [upto_succ, HUP.out, HKE.out, Bool.true_and]; exact a5_t (decide_eq_true s1') (decide_eq_true s2') (or_yes q0) rfl rfl
              clear HUP HKE HBAD
              go_wp2
              go_roundw
              case rel => exact ⟨(j + 1) + 1, by omega, by go_num, HU2, by first | exact HR | exact True.intro⟩
              case measure => simp [intOf]; omega
            | true =>
              by_cases q3 : Go.Op.bytesLess x.toList hs.toList = true
              · skip
                have HU2 : Hid (upto (keyS (.node ks vs cs) (optB false ls) (optB true hs)) ((j + 1) + 1) = true) := by show _ = _; rw [upto_succ, HUP.out, HKE.out, Bool.true_and]; exact a5_t (decide_eq_true s1') (decide_eq_true s2') (or_yes q0) rfl q3
                clear HUP HKE HBAD
                go_wp2
                go_roundw
                case rel => exact ⟨(j + 1) + 1, by omega, by go_num, HU2, by first | exact HR | exact True.intro⟩
                case measure => simp [intOf]; omega
              · rw [Bool.not_eq_true] at q3
                have HZ : Hid (res = false) := HBAD.out (by rw [HKE.out]; exact a5_5 q3)
                clear HUP HKE HBAD
                go_wp2
                go_ret
                exact ⟨by rw [HZ.out]; rfl, B0.out⟩
          | true =>
            by_cases q1 : Go.Op.bytesLess ls.toList x.toList = true
            · have q2 := le_not_lt x ls
              unfold lt' at q2
              rw [q1, Bool.not_true, Bool.or_eq_false_iff] at q2
              obtain ⟨q2, q2'⟩ := q2
              cases hh with
              | false =>
                have HU2 : Hid (upto (keyS (.node ks vs cs) (optB true ls) (optB false hs)) ((j + 1) + 1) = true) := by show _ = _; rw [upto_succ, HUP.out, HKE.out, Bool.true_and]; exact a5_t (decide_eq_true s1') (decide_eq_true s2') (or_yes q0) q1 rfl
                clear HUP HKE HBAD
                go_wp2
                go_roundw
                case rel => exact ⟨(j + 1) + 1, by omega, by go_num, HU2, by first | exact HR | exact True.intro⟩
                case measure => simp [intOf]; omega
              | true =>
                by_cases q3 : Go.Op.bytesLess x.toList hs.toList = true
                · skip
                  have HU2 : Hid (upto (keyS (.node ks vs cs) (optB true ls) (optB true hs)) ((j + 1) + 1) = true) := by show _ = _; rw [upto_succ, HUP.out, HKE.out, Bool.true_and]; exact a5_t (decide_eq_true s1') (decide_eq_true s2') (or_yes q0) q1 q3
                  clear HUP HKE HBAD
                  go_wp2
                  go_roundw
                  case rel => exact ⟨(j + 1) + 1, by omega, by go_num, HU2, by first | exact HR | exact True.intro⟩
                  case measure => simp [intOf]; omega
                · rw [Bool.not_eq_true] at q3
                  have HZ : Hid (res = false) := HBAD.out (by rw [HKE.out]; exact a5_5 q3)
                  clear HUP HKE HBAD
                  go_wp2
                  go_ret
                  exact ⟨by rw [HZ.out]; rfl, B0.out⟩
            · rw [Bool.not_eq_true] at q1
              have HZ : Hid (res = false) := HBAD.out (by rw [HKE.out]; exact a5_4 q1)
              have q2 := le_not_lt x ls
              unfold lt' at q2
              rw [q1, Bool.not_false] at q2
              by_cases q3 : Go.Op.bytesLess x.toList ls.toList = true
              · clear HUP HKE HBAD q2
                go_wp2
                go_ret
                exact ⟨by rw [HZ.out]; rfl, B0.out⟩
              · rw [Bool.not_eq_true] at q3
                rw [q3, Bool.false_or] at q2
                clear HUP HKE HBAD
                go_wp2
                go_ret
                exact ⟨by rw [HZ.out]; rfl, B0.out⟩
        · rw [Bool.not_eq_true] at q0
          have HZ : Hid (res = false) := HBAD.out (by rw [HKE.out]; exact a5_3 (or_no q0))
          clear HUP HKE HBAD
          go_wp2
          go_ret
          exact ⟨by rw [HZ.out]; rfl, B0.out⟩
    · obtain rfl : k = ks.length := by omega
      have HR2 : Hid (res = upto (fun i => okS d false (cs.getD i noTr) (loB (optB hl ls) ks i) (hiB (optB hh hs) ks i)) cs.length) := by show _ = _; rw [HRES.out, HUP.out]; rfl
      have BW := hide B0.out
      have hz0 : w.heap.size < wr.heap.size := by have := HZW.out; omega
      have hBw : B ≤ wr.heap.size := by omega
      have IH := hide ih
      obtain ⟨bk, ok, xk, rfl, hj1, hj2, hj3, hj4⟩ := HK.out.at 0 (by omega)
      clear hj1 hj2 hj3 hj4
      obtain ⟨V, hV⟩ : ∃ V, V = wr := ⟨_, rfl⟩
      subst hV
      have hdq : (d : Int) + 1 - 1 = (d : Int) := by omega
      clear HRES HUP ih HDD HR HV hlt hk
      go_wp2
      go_loopw [18] (fun i wq => ∃ k : Nat, k ≤ cs.length ∧ i = .int .i64 k ∧ Hid (upto (fun i => okS d false (cs.getD i noTr) (loB (optB hl ls) ks i) (hiB (optB hh hs) ks i)) k = true) ∧ Hid (Below V.heap.size V wq)) (fun i _ => cs.length - (intOf i).toNat)
      case atStart => exact ⟨0, Nat.zero_le _, rfl, rfl, Below.refl _ _⟩
      case round =>
        clear x0 x1 x2 xf
        obtain ⟨k, hk2, rfl, HUP, HB2⟩ := hrel
        have hz2 := HB2.out.size
        obtain ⟨x0, x1, x2, xf⟩ := cells3 ((HB2.out.block w.heap.size hz0).trans X0.out)
        have HK2 := hide (HK.out.kept (HB2.out.mono hBw))
        by_cases hlt : k < cs.length
        · obtain ⟨b, off, ko', kc', vo', vc', yo, yc, ks', vs', ds, rfl, hbB, hv, hp, d0, d1, d2⟩ := (HX.out.kept (HB2.out.mono hBw) (TrRow.kept (HB2.out.mono hBw) n)).at k hlt
          cases k with
          | zero =>
            have p1 := HK2.out.cellAt 0 hks
            have hloE : loB (optB hl ls) ks 0 = optB hl ls := rfl
            have hhiE : hiB (optB hh hs) ks 0 = some (ks.getD 0 ByteArray.empty) := if_pos hks
            have i1 : 0 < (ks.length : Int) := by omega
            simp only [Nat.zero_mul, Nat.add_zero] at d0 d1 d2 p1
            generalize ks.getD 0 ByteArray.empty = hx at *
            have HC := hide (fun W (hW : B ≤ W.heap.size) hp => IH.out ko' kc' vo' vc' yo yc (.node ks' vs' ds) ls hl hx true W hW hp)
            have HQ : Hid (okS d false (cs.getD 0 noTr) (loB (optB hl ls) ks 0) (hiB (optB hh hs) ks 0) = okS d false (.node ks' vs' ds) (optB hl ls) (optB true hx)) := by show _ = _; rw [hv, hloE, hhiE]; rfl
            have HC1 := hide (HC.out _ (by omega) hp)
            simp only [Tr.keys, Tr.vals, Tr.kids] at HC1
            generalize okS d false (.node ks' vs' ds) (optB hl ls) (optB true hx) = q at *
            clear HC hv hp IH
            cases q with
            | false =>
              have HZ : Hid (res = false) := by show _ = _; rw [HR2.out]; exact upto_false hlt HQ.out
              clear HR2 HUP HQ
              go_wp2_with fail
              refine HC1.out.mono ?_
              rintro e w2 ⟨rfl, hb2⟩
              have B3 := hide (BW.out.trans ((HB2.out.trans (hb2.mono hz2)).mono (by omega)))
              clear hb2 HC1
              go_wp2
              go_ret
              exact ⟨by rw [HZ.out]; rfl, B3.out⟩
            | true =>
              have HU2 : Hid (upto (fun i => okS d false (cs.getD i noTr) (loB (optB hl ls) ks i) (hiB (optB hh hs) ks i)) (0 + 1) = true) := by show _ = _; rw [upto_succ, HUP.out, HQ.out]; rfl
              clear HR2 HUP HQ
              go_wp2_with fail
              refine HC1.out.mono ?_
              rintro e w2 ⟨rfl, hb2⟩
              have HB3 := hide (HB2.out.trans (hb2.mono hz2))
              clear hb2 HC1
              go_wp2
              go_roundw
              case rel => exact ⟨0 + 1, by omega, by go_num, HU2, HB3⟩
              case measure => simp [intOf]; omega
          | succ j =>
            have p0 := HK2.out.cellAt j (by have := HCS.out; omega)
            have hloE : loB (optB hl ls) ks (j + 1) = some (ks.getD j ByteArray.empty) := rfl
            by_cases hjn : j + 1 < ks.length
            · have p1 := HK2.out.cellAt (j + 1) hjn
              have hhiE : hiB (optB hh hs) ks (j + 1) = some (ks.getD (j + 1) ByteArray.empty) := if_pos hjn
              have i1 : (j : Int) + 1 < (ks.length : Int) := by omega
              generalize ks.getD (j + 1) ByteArray.empty = hx at *
              generalize ks.getD j ByteArray.empty = lx at *
              have HC := hide (fun W (hW : B ≤ W.heap.size) hp => IH.out ko' kc' vo' vc' yo yc (.node ks' vs' ds) lx true hx true W hW hp)
              have HQ : Hid (okS d false (cs.getD (j + 1) noTr) (loB (optB hl ls) ks (j + 1)) (hiB (optB hh hs) ks (j + 1)) = okS d false (.node ks' vs' ds) (optB true lx) (optB true hx)) := by show _ = _; rw [hv, hloE, hhiE]; rfl
              have HC1 := hide (HC.out _ (by omega) hp)
              simp only [Tr.keys, Tr.vals, Tr.kids] at HC1
              generalize okS d false (.node ks' vs' ds) (optB true lx) (optB true hx) = q at *
              clear HC hv hp IH
              cases q with
              | false =>
                have HZ : Hid (res = false) := by show _ = _; rw [HR2.out]; exact upto_false hlt HQ.out
                clear HR2 HUP HQ
                go_wp2_with fail
                refine HC1.out.mono ?_
                rintro e w2 ⟨rfl, hb2⟩
                have B3 := hide (BW.out.trans ((HB2.out.trans (hb2.mono hz2)).mono (by omega)))
                clear hb2 HC1
                go_wp2
                go_ret
                exact ⟨by rw [HZ.out]; rfl, B3.out⟩
              | true =>
                have HU2 : Hid (upto (fun i => okS d false (cs.getD i noTr) (loB (optB hl ls) ks i) (hiB (optB hh hs) ks i)) ((j + 1) + 1) = true) := by show _ = _; rw [upto_succ, HUP.out, HQ.out]; rfl
                clear HR2 HUP HQ
                go_wp2_with fail
                refine HC1.out.mono ?_
                rintro e w2 ⟨rfl, hb2⟩
                have HB3 := hide (HB2.out.trans (hb2.mono hz2))
                clear hb2 HC1
                go_wp2
                go_roundw
                case rel => exact ⟨(j + 1) + 1, by omega, by go_num, HU2, HB3⟩
                case measure => simp [intOf]; omega
            · have hhiE : hiB (optB hh hs) ks (j + 1) = optB hh hs := if_neg hjn
              have hjl : j < ks.length := by have := HCS.out; omega
              have i1 : ¬ (j : Int) + 1 < (ks.length : Int) := by omega
              generalize ks.getD j ByteArray.empty = lx at *
              have HC := hide (fun W (hW : B ≤ W.heap.size) hp => IH.out ko' kc' vo' vc' yo yc (.node ks' vs' ds) lx true hs hh W hW hp)
              have HQ : Hid (okS d false (cs.getD (j + 1) noTr) (loB (optB hl ls) ks (j + 1)) (hiB (optB hh hs) ks (j + 1)) = okS d false (.node ks' vs' ds) (optB true lx) (optB hh hs)) := by show _ = _; rw [hv, hloE, hhiE]; rfl
              have HC1 := hide (HC.out _ (by omega) hp)
              simp only [Tr.keys, Tr.vals, Tr.kids] at HC1
              generalize okS d false (.node ks' vs' ds) (optB true lx) (optB hh hs) = q at *
              clear HC hv hp IH
              cases q with
              | false =>
                have HZ : Hid (res = false) := by show _ = _; rw [HR2.out]; exact upto_false hlt HQ.out
                clear HR2 HUP HQ
                go_wp2_with fail
                refine HC1.out.mono ?_
                rintro e w2 ⟨rfl, hb2⟩
                have B3 := hide (BW.out.trans ((HB2.out.trans (hb2.mono hz2)).mono (by omega)))
                clear hb2 HC1
                go_wp2
                go_ret
                exact ⟨by rw [HZ.out]; rfl, B3.out⟩
              | true =>
                have HU2 : Hid (upto (fun i => okS d false (cs.getD i noTr) (loB (optB hl ls) ks i) (hiB (optB hh hs) ks i)) ((j + 1) + 1) = true) := by show _ = _; rw [upto_succ, HUP.out, HQ.out]; rfl
                clear HR2 HUP HQ
                go_wp2_with fail
                refine HC1.out.mono ?_
                rintro e w2 ⟨rfl, hb2⟩
                have HB3 := hide (HB2.out.trans (hb2.mono hz2))
                clear hb2 HC1
                go_wp2
                go_roundw
                case rel => exact ⟨(j + 1) + 1, by omega, by go_num, HU2, HB3⟩
                case measure => simp [intOf]; omega
        · obtain rfl : k = cs.length := by omega
          have HZ : Hid (res = true) := by show _ = _; rw [HR2.out, HUP.out]
          have B3 := hide (BW.out.trans (HB2.out.mono (by omega)))
          clear HR2 HUP IH
          go_wp2
          go_ret
          exact ⟨by rw [HZ.out]; rfl, B3.out⟩
end Go.Proofs.Ytffgobkgkhmeoaa
