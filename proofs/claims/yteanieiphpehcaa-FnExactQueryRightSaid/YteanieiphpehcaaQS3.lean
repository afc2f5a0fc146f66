/-
  Contracts: is a query of groups? Are its items right? The specification's answer.
-/
import Derived.Test.YteanieiphpehcaaQS2
import Derived.Test.YteanieiphpehcaaQPl2
import Derived.Test.YteanieiphpehcaaQyTo
namespace Go.Proofs.Yteanieiphpehcaa
open Go.RowKit
set_option maxRecDepth 100000

set_option maxHeartbeats 4000000 in
theorem specGrouped_any (A B : Nat) (q : Qry) (a1 : Option Addr) (c1 : Nat) (a2 : Option Addr) (c2 : Nat) (w : World) (hB : B ≤ w.heap.size) (hl : q.items.length ≤ 1048576) (hr : ItmRow w A B a1 q.items) :
    Calls Try.prog 25 #[.agg #[.slice a1 q.items.length c1, .string q.table, .string q.join, .string q.left, .string q.right, .slice a2 q.wh.length c2, .string q.group, .string q.order, .bool q.down, .int .i64 q.limit]] w fun e w' => e = .returned (.bool (groupedB q)) ∧ Below w.heap.size w w' := by
  have HQ : Hid (groupedB q = (decide (q.group.size ≠ 0) || !upto (fun i => decide ((q.items.getD i noItm).agg = 0)) q.items.length)) := rfl
  have HR : Hid (ItmRow w A B a1 q.items) := hr
  clear hr
  generalize groupedB q = r at *
  generalize q.items = l at *
  generalize q.table = qt at *
  generalize q.join = qj at *
  generalize q.left = ql at *
  generalize q.right = qr at *
  generalize q.group = qg at *
  generalize q.order = qo at *
  generalize q.down = qd at *
  generalize q.limit = qm at *
  generalize q.wh.length = n2 at *
  have B0 := hide ((Below.refl w.heap.size w).alloc (Nat.le_refl _) (.cells #[.slice a1 l.length c1, .string qt, .string qj, .string ql, .string qr, .slice a2 n2 c2, .string qg, .string qo, .bool qd, .int .i64 qm] 39))
  have X0 := hide (heap_alloc_new w (.cells #[.slice a1 l.length c1, .string qt, .string qj, .string ql, .string qr, .slice a2 n2 c2, .string qg, .string qo, .bool qd, .int .i64 qm] 39))
  go_enter Try.func25, Try.ntmps25
  go_upto_region 1 with fail
  generalize w.alloc (.cells #[.slice a1 l.length c1, .string qt, .string qj, .string ql, .string qr, .slice a2 n2 c2, .string qg, .string qo, .bool qd, .int .i64 qm] 39) = W0 at *
  obtain ⟨y0, y1, y2, y3, y4, y5, y6, y7, y8, y9, yf⟩ := cellsN10 X0.out
  go_wp2
  go_loopw [3] (fun i wr => ∃ k : Nat, k ≤ l.length ∧ i = .int .i64 k ∧ Hid (upto (fun i => decide ((l.getD i noItm).agg = 0)) k = true) ∧ Below W0.heap.size W0 wr) (fun i _ => l.length - (intOf i).toNat)
  case atStart => exact ⟨0, Nat.zero_le _, rfl, rfl, Below.refl _ _⟩
  case round =>
    obtain ⟨k, hk, rfl, HU, hb⟩ := hrel
    clear y0 y1 y2 y3 y4 y5 y6 y7 y8 y9 yf
    have X1 := hide ((hb.block _ (blkG X0.out)).trans X0.out)
    have B1 := hide (B0.out.trans (hb.mono B0.out.size))
    have hz := hb.size
    obtain ⟨y0, y1, y2, y3, y4, y5, y6, y7, y8, y9, yf⟩ := cellsN10 X1.out
    by_cases hlt : k < l.length
    · obtain ⟨b, off, ag, c, rfl, hbB, hv, hfit, d0, d1⟩ := ItmRow.at (FRow.kept HR.out (B1.out.mono hB)) k hlt
      have HP := hide (upto_succ (fun i => decide ((l.getD i noItm).agg = 0)) k)
      have HX : Hid ((l.getD k noItm).agg = ag) := by show _ = _; rw [hv]
      clear hv hfit d1
      by_cases g0 : ag = 0
      · have HU2 : Hid (upto (fun i => decide ((l.getD i noItm).agg = 0)) (k + 1) = true) := by show _ = _; rw [HP.out, HU.out, HX.out, decide_eq_true g0]; rfl
        subst g0
        clear HP HU HX
        go_wp2
        clear hz d0 y0 y1 y2 y3 y4 y5 y6 y7 y8 y9 yf X1
        go_roundw
        case rel => exact ⟨k + 1, by omega, by go_num, HU2, hb⟩
        case measure => simp [intOf]; omega
      · have HF : Hid (r = true) := by show _ = _; rw [HQ.out, upto_false hlt (by show decide ((l.getD k noItm).agg = 0) = false; rw [HX.out]; exact decide_eq_false g0)]; simp
        have hkb : (ag != 0) = true := by simp; exact g0
        clear HP HU HX HQ
        go_wp2
        go_ret
        exact ⟨ret_bool HF.out.symm, B1.out⟩
    · obtain rfl : k = l.length := by omega
      have HF : Hid (r = decide (qg.size ≠ 0)) := by show _ = _; rw [HQ.out, HU.out]; simp
      clear HQ HU
      by_cases hg : qg.size = 0
      · have hge := emp_tlS hg
        go_wp2
        go_ret
        exact ⟨ret_bool (by rw [HF.out]; simp [hg]), B1.out⟩
      · have hge := emp_neS hg
        go_wp2
        go_ret
        exact ⟨ret_bool (by rw [HF.out]; simp [hg]), B1.out⟩
set_option maxHeartbeats 8000000 in
theorem specItems_any (A B : Nat) (q : Qry) (a1 : Option Addr) (c1 : Nat) (a2 : Option Addr) (c2 : Nat) (w : World) (hB : B ≤ w.heap.size) (hs : q.small) (hr : ItmRow w A B a1 q.items) :
    Calls Try.prog 22 #[.agg #[.slice a1 q.items.length c1, .string q.table, .string q.join, .string q.left, .string q.right, .slice a2 q.wh.length c2, .string q.group, .string q.order, .bool q.down, .int .i64 q.limit]] w fun e w' => e = .returned (.bool (itemsSp q)) ∧ Below w.heap.size w w' := by
  have HQ : Hid (itemsSp q = (decide (1 ≤ q.items.length) && decide (q.items.length ≤ 10) && upto (fun i => itemSp q.group (groupedB q) (q.items.getD i noItm)) q.items.length)) := rfl
  have HG := hide (fun (W : World) (hb : Below w.heap.size w W) => specGrouped_any A B q a1 c1 a2 c2 W (Nat.le_trans hB hb.size) hs.1 (FRow.kept hr (hb.mono hB)))
  have HR : Hid (ItmRow w A B a1 q.items) := hr
  have HSM := hide hs.2.2.2.2.2.2.2.2.1
  have hl := hs.1
  clear hr hs
  generalize itemsSp q = r at *
  generalize groupedB q = xg at *
  generalize q.items = l at *
  generalize q.table = qt at *
  generalize q.join = qj at *
  generalize q.left = ql at *
  generalize q.right = qr at *
  generalize q.group = qg at *
  generalize q.order = qo at *
  generalize q.down = qd at *
  generalize q.limit = qm at *
  generalize q.wh.length = n2 at *
  have B0 := hide ((Below.refl w.heap.size w).alloc (Nat.le_refl _) (.cells #[.slice a1 l.length c1, .string qt, .string qj, .string ql, .string qr, .slice a2 n2 c2, .string qg, .string qo, .bool qd, .int .i64 qm] 39))
  have X0 := hide (heap_alloc_new w (.cells #[.slice a1 l.length c1, .string qt, .string qj, .string ql, .string qr, .slice a2 n2 c2, .string qg, .string qo, .bool qd, .int .i64 qm] 39))
  go_enter Try.func22, Try.ntmps22
  go_upto_region 1 with fail
  generalize w.alloc (.cells #[.slice a1 l.length c1, .string qt, .string qj, .string ql, .string qr, .slice a2 n2 c2, .string qg, .string qo, .bool qd, .int .i64 qm] 39) = W0 at *
  obtain ⟨y0, y1, y2, y3, y4, y5, y6, y7, y8, y9, yf⟩ := cellsN10 X0.out
  by_cases h1 : l.length < 1
  · have HF : Hid (r = false) := by show _ = _; rw [HQ.out, decide_eq_false (by omega)]; rfl
    clear HQ HG
    go_wp2
    go_ret
    exact ⟨ret_bool HF.out.symm, B0.out⟩
  by_cases h10 : 10 < l.length
  · have HF : Hid (r = false) := by show _ = _; rw [HQ.out, decide_eq_false (show ¬ l.length ≤ 10 by omega)]; simp
    clear HQ HG
    go_wp2
    go_ret
    exact ⟨ret_bool HF.out.symm, B0.out⟩
  have HV : Hid (r = upto (fun i => itemSp qg xg (l.getD i noItm)) l.length) := by show _ = _; rw [HQ.out, decide_eq_true (show 1 ≤ l.length by omega), decide_eq_true (show l.length ≤ 10 by omega)]; rfl
  clear HQ
  go_wp2
  go_loopw [3] (fun i wr => ∃ k : Nat, k ≤ l.length ∧ i = .int .i64 k ∧ Hid (upto (fun i => itemSp qg xg (l.getD i noItm)) k = true) ∧ Below W0.heap.size W0 wr) (fun i _ => l.length - (intOf i).toNat)
  case atStart => exact ⟨0, Nat.zero_le _, rfl, rfl, Below.refl _ _⟩
  case round =>
    obtain ⟨k, hk, rfl, HU, hb⟩ := hrel
    clear y0 y1 y2 y3 y4 y5 y6 y7 y8 y9 yf
    have X1 := hide ((hb.block _ (blkG X0.out)).trans X0.out)
    have hz := hb.size
    have B1 := hide (B0.out.trans (hb.mono B0.out.size))
    obtain ⟨y0, y1, y2, y3, y4, y5, y6, y7, y8, y9, yf⟩ := cellsN10 X1.out
    by_cases hlt : k < l.length
    · obtain ⟨b, off, ag, c, rfl, hbB, hv, hfit, d0, d1⟩ := ItmRow.at (FRow.kept HR.out (B1.out.mono hB)) k hlt
      have hs := HSM.out k hlt
      rw [hv] at hs
      have HC := hide (fun (W : World) => specCol_any c W hs)
      have HE : Hid (itemSp qg xg (l.getD k noItm) = (decide (0 ≤ ag) && decide (ag ≤ 4) && (if ag = 1 then decide (c.size = 0) else colOk c) && !(decide (ag = 0) && (xg && decide (c ≠ qg))))) := by show _ = _; rw [hv]; rfl
      have HP := hide (upto_succ (fun i => itemSp qg xg (l.getD i noItm)) k)
      have HNF : Hid (itemSp qg xg (l.getD k noItm) = false → r = false) := fun h => by rw [HV.out]; exact upto_false hlt h
      have HNT : Hid (itemSp qg xg (l.getD k noItm) = true → upto (fun i => itemSp qg xg (l.getD i noItm)) (k + 1) = true) := fun h => by rw [HP.out, HU.out]; exact h
      have BA := hide ((Below.refl wr.heap.size wr).alloc (Nat.le_refl _) (.cells #[.int .i64 ag, .string c] 75))
      have XA := hide (heap_alloc_new wr (.cells #[.int .i64 ag, .string c] 75))
      have XQ := hide ((BA.out.block _ (blkG X1.out)).trans X1.out)
      go_upto_region 7 with fail
      generalize wr.alloc (.cells #[.int .i64 ag, .string c] 75) = W2 at *
      clear hv hfit hs HP HU HV HSM y0 y1 y2 y3 y4 y5 y6 y7 y8 y9 yf d0 d1
      obtain ⟨y0, y1, y2, y3, y4, y5, y6, y7, y8, y9, yf⟩ := cellsN10 XQ.out
      obtain ⟨z0, z1, zf⟩ := cells2 XA.out
      have BW2 := hide (B1.out.trans (BA.out.mono B1.out.size))
      have BR2 := hide (hb.trans (BA.out.mono hz))
      have ZR : Hid (W0.heap.size ≤ wr.heap.size) := hz
      clear hb hz X1 B1 hbB
      generalize wr.heap.size = gi at *
      generalize colOk c = x1 at *
      by_cases g0 : ag < 0
      · have HF := hide (HNF.out (by rw [HE.out, decide_eq_false (by omega)]; rfl))
        clear HNF HNT HE HC
        go_wp2
        go_ret
        exact ⟨ret_bool HF.out.symm, BW2.out⟩
      by_cases g4 : 4 < ag
      · have HF := hide (HNF.out (by rw [HE.out, decide_eq_false (show ¬ ag ≤ 4 by omega)]; simp))
        clear HNF HNT HE HC
        go_wp2
        go_ret
        exact ⟨ret_bool HF.out.symm, BW2.out⟩
      have HE2 : Hid (itemSp qg xg (l.getD k noItm) = ((if ag = 1 then decide (c.size = 0) else x1) && !(decide (ag = 0) && (xg && decide (c ≠ qg))))) := by show _ = _; rw [HE.out, decide_eq_true (by omega), decide_eq_true (show ag ≤ 4 by omega)]; rfl
      clear HE
      by_cases g1 : ag = 1
      · subst g1
        by_cases gc : c.size = 0
        · obtain rfl := ba_empty gc
          have HU2 := hide (HNT.out (by rw [HE2.out]; rfl))
          clear HNF HNT HE2 HC HG
          go_wp2
          clear y0 y1 y2 y3 y4 y5 y6 y7 y8 y9 yf z0 z1 zf XQ XA BA ZR
          go_roundw
          case rel => exact ⟨k + 1, by omega, by go_num, HU2, BR2.out⟩
          case measure => simp [intOf]; omega
        · have HF := hide (HNF.out (by rw [HE2.out, if_pos rfl, decide_eq_false gc]; rfl))
          have hne := emp_neS gc
          clear HNF HNT HE2 HC HG
          go_wp2
          go_ret
          exact ⟨ret_bool HF.out.symm, BW2.out⟩
      · have hkb : (ag != 1) = true := by simp; exact g1
        have hkc : (ag == 1) = false := by simp; exact g1
        have HE3 : Hid (itemSp qg xg (l.getD k noItm) = (x1 && !(decide (ag = 0) && (xg && decide (c ≠ qg))))) := by show _ = _; rw [HE2.out, if_neg g1]
        clear HE2
        cases x1 with
        | false =>
          have HF := hide (HNF.out HE3.out)
          clear HNF HNT HE3 HG
          go_wp2_with (go_at_call 23; refine (HC.out _).mono ?_; rintro e w3 ⟨rfl, b3⟩; have XQ3 := hide ((b3.block _ (blkG XQ.out)).trans XQ.out); have XA3 := hide ((b3.block _ (blkG XA.out)).trans XA.out); have BW3 := hide (BW2.out.trans (b3.mono BW2.out.size)); have BR3 := hide (BR2.out.trans (b3.mono BR2.out.size)); clear b3 y0 y1 y2 y3 y4 y5 y6 y7 y8 y9 yf z0 z1 zf XQ XA; obtain ⟨y0, y1, y2, y3, y4, y5, y6, y7, y8, y9, yf⟩ := cellsN10 XQ3.out; obtain ⟨z0, z1, zf⟩ := cells2 XA3.out)
          go_ret
          exact ⟨ret_bool HF.out.symm, BW3.out⟩
        | true =>
          by_cases g00 : ag = 0
          · subst g00
            cases xg with
            | false =>
              have HU2 := hide (HNT.out (by rw [HE3.out]; rfl))
              clear HNF HNT HE3
              go_wp2_with (first | (go_at_call 23; refine (HC.out _).mono ?_; rintro e w3 ⟨rfl, b3⟩; have XQ3 := hide ((b3.block _ (blkG XQ.out)).trans XQ.out); have XA3 := hide ((b3.block _ (blkG XA.out)).trans XA.out); have BW3 := hide (BW2.out.trans (b3.mono BW2.out.size)); have BR3 := hide (BR2.out.trans (b3.mono BR2.out.size)); clear b3 y0 y1 y2 y3 y4 y5 y6 y7 y8 y9 yf z0 z1 zf XQ XA; obtain ⟨y0, y1, y2, y3, y4, y5, y6, y7, y8, y9, yf⟩ := cellsN10 XQ3.out; obtain ⟨z0, z1, zf⟩ := cells2 XA3.out) | (go_at_call 25; refine (HG.out _ BW3.out).mono ?_; rintro e w4 ⟨rfl, b4⟩; have XQ4 := hide ((b4.block _ (blkG XQ3.out)).trans XQ3.out); have XA4 := hide ((b4.block _ (blkG XA3.out)).trans XA3.out); have BW4 := hide (BW3.out.trans (b4.mono BW3.out.size)); have BR4 := hide (BR3.out.trans (b4.mono BR3.out.size)); clear b4 y0 y1 y2 y3 y4 y5 y6 y7 y8 y9 yf z0 z1 zf XQ3 XA3; obtain ⟨y0, y1, y2, y3, y4, y5, y6, y7, y8, y9, yf⟩ := cellsN10 XQ4.out; obtain ⟨z0, z1, zf⟩ := cells2 XA4.out))
              clear y0 y1 y2 y3 y4 y5 y6 y7 y8 y9 yf z0 z1 zf XQ4 XA4 BW4 HC HG
              go_roundw
              case rel => exact ⟨k + 1, by omega, by go_num, HU2, BR4.out⟩
              case measure => simp [intOf]; omega
            | true =>
              by_cases gc : c = qg
              · have HU2 := hide (HNT.out (by rw [HE3.out]; simp [gc]))
                subst gc
                clear HNF HNT HE3
                go_wp2_with (first | (go_at_call 23; refine (HC.out _).mono ?_; rintro e w3 ⟨rfl, b3⟩; have XQ3 := hide ((b3.block _ (blkG XQ.out)).trans XQ.out); have XA3 := hide ((b3.block _ (blkG XA.out)).trans XA.out); have BW3 := hide (BW2.out.trans (b3.mono BW2.out.size)); have BR3 := hide (BR2.out.trans (b3.mono BR2.out.size)); clear b3 y0 y1 y2 y3 y4 y5 y6 y7 y8 y9 yf z0 z1 zf XQ XA; obtain ⟨y0, y1, y2, y3, y4, y5, y6, y7, y8, y9, yf⟩ := cellsN10 XQ3.out; obtain ⟨z0, z1, zf⟩ := cells2 XA3.out) | (go_at_call 25; refine (HG.out _ BW3.out).mono ?_; rintro e w4 ⟨rfl, b4⟩; have XQ4 := hide ((b4.block _ (blkG XQ3.out)).trans XQ3.out); have XA4 := hide ((b4.block _ (blkG XA3.out)).trans XA3.out); have BW4 := hide (BW3.out.trans (b4.mono BW3.out.size)); have BR4 := hide (BR3.out.trans (b4.mono BR3.out.size)); clear b4 y0 y1 y2 y3 y4 y5 y6 y7 y8 y9 yf z0 z1 zf XQ3 XA3; obtain ⟨y0, y1, y2, y3, y4, y5, y6, y7, y8, y9, yf⟩ := cellsN10 XQ4.out; obtain ⟨z0, z1, zf⟩ := cells2 XA4.out))
                clear y0 y1 y2 y3 y4 y5 y6 y7 y8 y9 yf z0 z1 zf XQ4 XA4 BW4 HC HG
                go_roundw
                case rel => exact ⟨k + 1, by omega, by go_num, HU2, BR4.out⟩
                case measure => simp [intOf]; omega
              · have HF := hide (HNF.out (by rw [HE3.out]; simp [gc]))
                have hgc := str_neS gc
                clear HNF HNT HE3
                go_wp2_with (first | (go_at_call 23; refine (HC.out _).mono ?_; rintro e w3 ⟨rfl, b3⟩; have XQ3 := hide ((b3.block _ (blkG XQ.out)).trans XQ.out); have XA3 := hide ((b3.block _ (blkG XA.out)).trans XA.out); have BW3 := hide (BW2.out.trans (b3.mono BW2.out.size)); have BR3 := hide (BR2.out.trans (b3.mono BR2.out.size)); clear b3 y0 y1 y2 y3 y4 y5 y6 y7 y8 y9 yf z0 z1 zf XQ XA; obtain ⟨y0, y1, y2, y3, y4, y5, y6, y7, y8, y9, yf⟩ := cellsN10 XQ3.out; obtain ⟨z0, z1, zf⟩ := cells2 XA3.out) | (go_at_call 25; refine (HG.out _ BW3.out).mono ?_; rintro e w4 ⟨rfl, b4⟩; have XQ4 := hide ((b4.block _ (blkG XQ3.out)).trans XQ3.out); have XA4 := hide ((b4.block _ (blkG XA3.out)).trans XA3.out); have BW4 := hide (BW3.out.trans (b4.mono BW3.out.size)); have BR4 := hide (BR3.out.trans (b4.mono BR3.out.size)); clear b4 y0 y1 y2 y3 y4 y5 y6 y7 y8 y9 yf z0 z1 zf XQ3 XA3; obtain ⟨y0, y1, y2, y3, y4, y5, y6, y7, y8, y9, yf⟩ := cellsN10 XQ4.out; obtain ⟨z0, z1, zf⟩ := cells2 XA4.out))
                go_ret
                exact ⟨ret_bool HF.out.symm, BW4.out⟩
          · have hkd : (ag == 0) = false := by simp; exact g00
            have HU2 := hide (HNT.out (by rw [HE3.out]; simp [g00]))
            clear HNF HNT HE3 HG
            go_wp2_with (go_at_call 23; refine (HC.out _).mono ?_; rintro e w3 ⟨rfl, b3⟩; have XQ3 := hide ((b3.block _ (blkG XQ.out)).trans XQ.out); have XA3 := hide ((b3.block _ (blkG XA.out)).trans XA.out); have BW3 := hide (BW2.out.trans (b3.mono BW2.out.size)); have BR3 := hide (BR2.out.trans (b3.mono BR2.out.size)); clear b3 y0 y1 y2 y3 y4 y5 y6 y7 y8 y9 yf z0 z1 zf XQ XA; obtain ⟨y0, y1, y2, y3, y4, y5, y6, y7, y8, y9, yf⟩ := cellsN10 XQ3.out; obtain ⟨z0, z1, zf⟩ := cells2 XA3.out)
            clear y0 y1 y2 y3 y4 y5 y6 y7 y8 y9 yf z0 z1 zf XQ3 XA3 BW3 HC
            go_roundw
            case rel => exact ⟨k + 1, by omega, by go_num, HU2, BR3.out⟩
            case measure => simp [intOf]; omega
    · obtain rfl : k = l.length := by omega
      have HF : Hid (r = true) := by show _ = _; rw [HV.out]; exact HU.out
      clear HV HU
      go_wp2
      go_ret
      exact ⟨ret_bool HF.out.symm, B1.out⟩
end Go.Proofs.Yteanieiphpehcaa
