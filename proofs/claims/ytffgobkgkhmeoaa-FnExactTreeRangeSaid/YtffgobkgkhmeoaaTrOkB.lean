/-
  Contracts: the specification's look at a tree, node by node: its keys.
-/
import Derived.Test.YtffgobkgkhmeoaaTrOkA
namespace Go.Proofs.Ytffgobkgkhmeoaa
open Go.RowKit
set_option maxRecDepth 100000
set_option linter.unusedVariables false

set_option maxHeartbeats 40000000 in
theorem ok_keys1 (A B n d : Nat) (ko : Option Addr) (kc : Nat) (vo : Option Addr) (vc : Nat) (xo : Option Addr) (xc : Nat) (ks vs : List ByteArray) (cs : List Tr) (root : Bool) (ls : ByteArray) (hl : Bool) (hs : ByteArray) (hh : Bool) (w : World) (hd : d ≤ 12) (hB : B ≤ w.heap.size) (hr : TrRow w A B (n + 1) (.node ks vs cs) ko vo xo) (hks : 1 ≤ ks.length) (hyes : nodeS root (.node ks vs cs) = true) (hdd : cs.length = 0 ↔ d = 0) (hcs : cs.length = 0) :
    Calls Try.prog 25 #[.agg #[.slice ko ks.length kc, .slice vo vs.length vc, .slice xo cs.length xc], .bool root, .int .i64 ((d + 1 : Nat) : Int), .string ls, .bool hl, .string hs, .bool hh] w fun e w' =>  e = .returned (.bool (okS (d + 1) root (.node ks vs cs) (optB hl ls) (optB hh hs))) ∧ Below w.heap.size w w' := by
  obtain ⟨g1, g2, g3, g4⟩ := nodeS_yes hyes
  change ks.length ≤ 3 at g1
  change vs.length = ks.length at g3
  change cs.length = 0 ∨ (cs.length = ks.length + 1 ∧ 1 ≤ ks.length) at g4
  have HG3 := hide g3
  have HRES := hide (okS_rest (lo := optB hl ls) (hi := optB hh hs) hyes hdd)
  generalize okS (d + 1) root (.node ks vs cs) (optB hl ls) (optB hh hs) = res at *
  obtain ⟨_, hk, hv, hx⟩ := hr
  change StrRow w A B ko ks at hk
  change StrRow w A B vo vs at hv
  change KidRow w A B (TrRow w A B n) xo cs at hx
  have B0 := hide ((Below.refl w.heap.size w).alloc (Nat.le_refl _) (.cells #[.slice ko ks.length kc, .slice vo vs.length vc, .slice xo cs.length xc] 30))
  have HK := hide (hk.kept (B0.out.mono hB))
  have HV := hide (hv.kept (B0.out.mono hB))
  have HX := hide (hx.kept (B0.out.mono hB) (TrRow.kept (B0.out.mono hB) n))
  have e1 : ¬ 3 < (ks.length : Int) := by omega
  have e3 : ((vs.length : Int) != (ks.length : Int)) = false := by rw [bne_eq_false_iff_eq]; omega
  have e2 : ((ks.length : Int) == 0) = false := by rw [beq_eq_false_iff_ne]; omega
  have e4 : ((cs.length : Int) != 0) = false := by rw [bne_eq_false_iff_eq]; omega
  have e6 : ((cs.length : Int) == 0) = true := by rw [beq_iff_eq]; omega
  have e7 : ((d : Int) + 1 == 1) = true := by rw [beq_iff_eq]; omega
  have X0 := hide (heap_alloc_new w (.cells #[.slice ko ks.length kc, .slice vo vs.length vc, .slice xo cs.length xc] 30))
  have HZW : Hid ((w.alloc (.cells #[.slice ko ks.length kc, .slice vo vs.length vc, .slice xo cs.length xc] 30)).heap.size = w.heap.size + 1) := by show _ = _; simp
  obtain ⟨x0, x1, x2, xf⟩ := cells3 X0.out
  have HDD := hide hdd
  have HCS := hide hcs
  clear hyes hdd g2 g3 g4 hk hv hx hcs
  go_enter Try.func25, Try.ntmps25
  go_wp2
  generalize w.alloc (.cells #[.slice ko ks.length kc, .slice vo vs.length vc, .slice xo cs.length xc] 30) = W0 at *
  go_loopw [16] (fun i wr => ∃ k : Nat, k ≤ ks.length ∧ i = .int .i64 k ∧ Hid (upto (keyS (.node ks vs cs) (optB hl ls) (optB hh hs)) k = true) ∧ Hid (wr = W0)) (fun i _ => ks.length - (intOf i).toNat)
  case atStart => exact ⟨0, Nat.zero_le _, rfl, rfl, rfl⟩
  case round =>
    obtain ⟨k, hk, rfl, HUP, HR⟩ := hrel
    obtain rfl : wr = W0 := HR.out
    by_cases hlt : k < ks.length
    · obtain ⟨b, off, x, rfl, hbB, hxk, hxs, d0⟩ := HK.out.at k hlt
      obtain ⟨b', off', v, rfl, hbB', hvk, hvs, d1⟩ := HV.out.at k (by rw [HG3.out]; exact hlt)
      have HKE := hide (keyS_eq ks vs cs (optB hl ls) (optB hh hs) k)
      rw [hxk, hvk] at HKE
      have HBAD : Hid (keyS (.node ks vs cs) (optB hl ls) (optB hh hs) k = false → res = false) := fun h => by rw [HRES.out, upto_false hlt h]; rfl
      unfold maxLen at hxs hvs
      have hlv : k < vs.length := by rw [HG3.out]; exact hlt
      clear hxk hvk HRES HX
      by_cases s1 : 20000 < x.size
      · have t1 : 20000 < (x.size : Int) := by omega
        have HZ : Hid (res = false) := HBAD.out (by rw [HKE.out]; exact a5_1 (decide_eq_false (by omega)))
        clear HUP HKE HBAD
        go_wp2
        go_ret
        exact ⟨by rw [HZ.out]; rfl, B0.out⟩
      by_cases s2 : 20000 < v.size
      · have t1 : ¬ 20000 < (x.size : Int) := by omega
        have t2 : 20000 < (v.size : Int) := by omega
        have HZ : Hid (res = false) := HBAD.out (by rw [HKE.out]; exact a5_2 (decide_eq_false (by omega)))
        clear HUP HKE HBAD
        go_wp2
        go_ret
        exact ⟨by rw [HZ.out]; rfl, B0.out⟩
      have t1 : ¬ 20000 < (x.size : Int) := by omega
      have t2 : ¬ 20000 < (v.size : Int) := by omega
      have s1' : x.size ≤ 20000 := by omega
      have s2' : v.size ≤ 20000 := by omega
      cases k with
      | zero =>
        simp only [Nat.add_zero] at d0 d1
        cases hl with
        | false =>
          cases hh with
          | false =>
            have HU2 : Hid (upto (keyS (.node ks vs cs) (optB false ls) (optB false hs)) (0 + 1) = true) := by show _ = _; rw [upto_succ, HUP.out, HKE.out, Bool.true_and]; exact a5_t (decide_eq_true s1') (decide_eq_true s2') rfl rfl rfl
            clear HUP HKE HBAD
            go_wp2
            go_roundw
            case rel => exact ⟨0 + 1, by omega, by go_num, HU2, by first | exact HR | exact True.intro⟩
            case measure => simp [intOf]; omega
          | true =>
            by_cases q3 : Go.Op.bytesLess x.toList hs.toList = true
            · skip
              have HU2 : Hid (upto (keyS (.node ks vs cs) (optB false ls) (optB true hs)) (0 + 1) = true) := by show _ = _; rw [upto_succ, HUP.out, HKE.out, Bool.true_and]; exact a5_t (decide_eq_true s1') (decide_eq_true s2') rfl rfl q3
              clear HUP HKE HBAD
              go_wp2
              go_roundw
              case rel => exact ⟨0 + 1, by omega, by go_num, HU2, by first | exact HR | exact True.intro⟩
              case measure => simp [intOf]; omega
            · rw [Bool.not_eq_true] at q3
              have HZ : Hid (res = false) := HBAD.out (by rw [HKE.out]; exact a5_5 q3)
              clear HUP HKE HBAD
              go_wp2
              go_ret
              exact ⟨by rw [HZ.out]; rfl, B0.out⟩
        | true =>
          by_cases q1 : Go.Op.bytesLess ls.toList x.toList = true
          · have q2 := le_not_lt x ls
            unfold lt' at q2
            rw [q1, Bool.not_true, Bool.or_eq_false_iff] at q2
            obtain ⟨q2, q2'⟩ := q2
            cases hh with
            | false =>
              have HU2 : Hid (upto (keyS (.node ks vs cs) (optB true ls) (optB false hs)) (0 + 1) = true) := by show _ = _; rw [upto_succ, HUP.out, HKE.out, Bool.true_and]; exact a5_t (decide_eq_true s1') (decide_eq_true s2') rfl q1 rfl
              clear HUP HKE HBAD
              go_wp2
              go_roundw
              case rel => exact ⟨0 + 1, by omega, by go_num, HU2, by first | exact HR | exact True.intro⟩
              case measure => simp [intOf]; omega
            | true =>
              by_cases q3 : Go.Op.bytesLess x.toList hs.toList = true
              · skip
                have HU2 : Hid (upto (keyS (.node ks vs cs) (optB true ls) (optB true hs)) (0 + 1) = true) := by show _ = _; rw [upto_succ, HUP.out, HKE.out, Bool.true_and]; exact a5_t (decide_eq_true s1') (decide_eq_true s2') rfl q1 q3
                clear HUP HKE HBAD
                go_wp2
                go_roundw
                case rel => exact ⟨0 + 1, by omega, by go_num, HU2, by first | exact HR | exact True.intro⟩
                case measure => simp [intOf]; omega
              · rw [Bool.not_eq_true] at q3
                have HZ : Hid (res = false) := HBAD.out (by rw [HKE.out]; exact a5_5 q3)
                clear HUP HKE HBAD
                go_wp2
                go_ret
                exact ⟨by rw [HZ.out]; rfl, B0.out⟩
          · rw [Bool.not_eq_true] at q1
            have HZ : Hid (res = false) := HBAD.out (by rw [HKE.out]; exact a5_4 q1)
            have q2 := le_not_lt x ls
            unfold lt' at q2
            rw [q1, Bool.not_false] at q2
            by_cases q3 : Go.Op.bytesLess x.toList ls.toList = true
            · clear HUP HKE HBAD q2
              go_wp2
              go_ret
              exact ⟨by rw [HZ.out]; rfl, B0.out⟩
            · rw [Bool.not_eq_true] at q3
              rw [q3, Bool.false_or] at q2
              clear HUP HKE HBAD
              go_wp2
              go_ret
              exact ⟨by rw [HZ.out]; rfl, B0.out⟩
      | succ j =>
        have p0 := HK.out.cellAt j (by omega)
        simp only [Nat.add_sub_cancel] at HKE
        generalize ks.getD j ByteArray.empty = p at *
        by_cases q0 : Go.Op.bytesLess p.toList x.toList = true
        · skip
          cases hl with
          | false =>
            cases hh with
            | false =>
              have HU2 : Hid (upto (keyS (.node ks vs cs) (optB false ls) (optB false hs)) ((j + 1) + 1) = true) := by show _ = _; rw [upto_succ, HUP.out, HKE.out, Bool.true_and]; exact a5_t (decide_eq_true s1') (decide_eq_true s2') (or_yes q0) rfl rfl
              clear HUP HKE HBAD
              go_wp2
              go_roundw
              case rel => exact ⟨(j + 1) + 1, by omega, by go_num, HU2, by first | exact HR | exact True.intro⟩
              case measure => simp [intOf]; omega
            | true =>
              by_cases q3 : Go.Op.bytesLess x.toList hs.toList = true
              · skip
                have HU2 : Hid (upto (keyS (.node ks vs cs) (optB false ls) (optB true hs)) ((j + 1) + 1) = true) := by show _ = _; rw [upto_succ, HUP.out, HKE.out, Bool.true_and]; exact a5_t (decide_eq_true s1') (decide_eq_true s2') (or_yes q0) rfl q3
                clear HUP HKE HBAD
                go_wp2
                go_roundw
                case rel => exact ⟨(j + 1) + 1, by omega, by go_num, HU2, by first | exact HR | exact True.intro⟩
                case measure => simp [intOf]; omega
              · rw [Bool.not_eq_true] at q3
                have HZ : Hid (res = false) := HBAD.out (by rw [HKE.out]; exact a5_5 q3)
                clear HUP HKE HBAD
                go_wp2
                go_ret
                exact ⟨by rw [HZ.out]; rfl, B0.out⟩
          | true =>
            by_cases q1 : Go.Op.bytesLess ls.toList x.toList = true
            · have q2 := le_not_lt x ls
              unfold lt' at q2
              rw [q1, Bool.not_true, Bool.or_eq_false_iff] at q2
              obtain ⟨q2, q2'⟩ := q2
              cases hh with
              | false =>
                have HU2 : Hid (upto (keyS (.node ks vs cs) (optB true ls) (optB false hs)) ((j + 1) + 1) = true) := by show _ = _; rw [upto_succ, HUP.out, HKE.out, Bool.true_and]; exact a5_t (decide_eq_true s1') (decide_eq_true s2') (or_yes q0) q1 rfl
                clear HUP HKE HBAD
                go_wp2
                go_roundw
                case rel => exact ⟨(j + 1) + 1, by omega, by go_num, HU2, by first | exact HR | exact True.intro⟩
                case measure => simp [intOf]; omega
              | true =>
                by_cases q3 : Go.Op.bytesLess x.toList hs.toList = true
                · skip
                  have HU2 : Hid (upto (keyS (.node ks vs cs) (optB true ls) (optB true hs)) ((j + 1) + 1) = true) := by show _ = _; rw [upto_succ, HUP.out, HKE.out, Bool.true_and]; exact a5_t (decide_eq_true s1') (decide_eq_true s2') (or_yes q0) q1 q3
                  clear HUP HKE HBAD
                  go_wp2
                  go_roundw
                  case rel => exact ⟨(j + 1) + 1, by omega, by go_num, HU2, by first | exact HR | exact True.intro⟩
                  case measure => simp [intOf]; omega
                · rw [Bool.not_eq_true] at q3
                  have HZ : Hid (res = false) := HBAD.out (by rw [HKE.out]; exact a5_5 q3)
                  clear HUP HKE HBAD
                  go_wp2
                  go_ret
                  exact ⟨by rw [HZ.out]; rfl, B0.out⟩
            · rw [Bool.not_eq_true] at q1
              have HZ : Hid (res = false) := HBAD.out (by rw [HKE.out]; exact a5_4 q1)
              have q2 := le_not_lt x ls
              unfold lt' at q2
              rw [q1, Bool.not_false] at q2
              by_cases q3 : Go.Op.bytesLess x.toList ls.toList = true
              · clear HUP HKE HBAD q2
                go_wp2
                go_ret
                exact ⟨by rw [HZ.out]; rfl, B0.out⟩
              · rw [Bool.not_eq_true] at q3
                rw [q3, Bool.false_or] at q2
                clear HUP HKE HBAD
                go_wp2
                go_ret
                exact ⟨by rw [HZ.out]; rfl, B0.out⟩
        · rw [Bool.not_eq_true] at q0
          have HZ : Hid (res = false) := HBAD.out (by rw [HKE.out]; exact a5_3 (or_no q0))
          clear HUP HKE HBAD
          go_wp2
          go_ret
          exact ⟨by rw [HZ.out]; rfl, B0.out⟩
    · obtain rfl : k = ks.length := by omega
      have HZ : Hid (res = true) := by show _ = _; rw [HRES.out, HUP.out, HCS.out]; rfl
      have i2 : ¬ 0 < (cs.length : Int) := by have := HCS.out; omega
      clear HRES HUP HX HCS HDD
      go_wp2
      go_loopw [18] (fun i wq => i = .int .i64 0 ∧ Hid (wq = wr)) (fun i _ => 0)
      case atStart => exact ⟨rfl, rfl⟩
      case round =>
        obtain ⟨rfl, HR2⟩ := hrel
        have hEq := HR2.out
        subst hEq
        go_wp2
        go_ret
        exact ⟨by rw [HZ.out]; rfl, B0.out⟩
end Go.Proofs.Ytffgobkgkhmeoaa
