/-
  Contract: a query's groups, as the program asks of them.
-/
import Derived.Test.YteanieiphpehcaaQI4
import Derived.Test.YteanieiphpehcaaQyTo
namespace Go.Proofs.Yteanieiphpehcaa
open Go.RowKit
set_option maxRecDepth 100000

set_option maxHeartbeats 8000000 in
theorem implGroup_any (A B : Nat) (q : Qry) (a1 : Option Addr) (c1 : Nat) (a2 : Option Addr) (c2 : Nat) (m : Int) (w : World) (hB : B ≤ w.heap.size) (hs : q.small) (hr : ItmRow w A B a1 q.items) (hm : MaxL m w) :
    Calls Try.prog 31 #[.agg #[.slice a1 q.items.length c1, .string q.table, .string q.join, .string q.left, .string q.right, .slice a2 q.wh.length c2, .string q.group, .string q.order, .bool q.down, .int .i64 q.limit]] w fun e w' => e = .returned (.bool (groupOk q)) ∧ Below w.heap.size w w' := by
  have HQ : Hid (groupOk q = (colNone q.group && (!groupedB q || (upto (fun i => itemIn q.group (q.items.getD i noItm)) q.items.length && (decide (q.order.size = 0) || decide (q.order = q.group)))))) := rfl
  have HO := hide (fun (W : World) (hb : Below w.heap.size w W) => implColNone_any q.group m W hs.2.2.2.2.2.2.1 (hm.kept hb))
  have HG := hide (fun (W : World) (hb : Below w.heap.size w W) => implGrouped_any A B q a1 c1 a2 c2 W (Nat.le_trans hB hb.size) hs.1 (FRow.kept hr (hb.mono hB)))
  have HR : Hid (ItmRow w A B a1 q.items) := hr
  have hl := hs.1
  clear hr hs hm
  generalize groupOk q = r at *
  generalize groupedB q = xg at *
  generalize colNone q.group = xc at *
  generalize q.items = l at *
  generalize q.table = qt at *
  generalize q.join = qj at *
  generalize q.left = ql at *
  generalize q.right = qr at *
  generalize q.group = qg at *
  generalize q.order = qo at *
  generalize q.down = qd at *
  generalize q.limit = qm at *
  generalize q.wh.length = n2 at *
  have B0 := hide ((Below.refl w.heap.size w).alloc (Nat.le_refl _) (.cells #[.slice a1 l.length c1, .string qt, .string qj, .string ql, .string qr, .slice a2 n2 c2, .string qg, .string qo, .bool qd, .int .i64 qm] 39))
  have X0 := hide (heap_alloc_new w (.cells #[.slice a1 l.length c1, .string qt, .string qj, .string ql, .string qr, .slice a2 n2 c2, .string qg, .string qo, .bool qd, .int .i64 qm] 39))
  go_enter Try.func31, Try.ntmps31
  go_upto_region 1 with fail
  generalize w.alloc (.cells #[.slice a1 l.length c1, .string qt, .string qj, .string ql, .string qr, .slice a2 n2 c2, .string qg, .string qo, .bool qd, .int .i64 qm] 39) = W0 at *
  obtain ⟨x0, x1, x2, x3, x4, x5, x6, x7, x8, x9, xf⟩ := cellsN10 X0.out
  go_wp2_with fail
  refine (HO.out _ B0.out).mono ?_
  rintro e w1 ⟨rfl, b1⟩
  have X1 := hide ((b1.block _ (blkG X0.out)).trans X0.out)
  have B1 := hide (B0.out.trans (b1.mono B0.out.size))
  clear b1 X0 B0 HO x0 x1 x2 x3 x4 x5 x6 x7 x8 x9 xf
  cases xc with
  | false =>
    have HF : Hid (r = false) := by show _ = _; rw [HQ.out]; rfl
    clear HQ HG
    go_wp2
    go_ret
    exact ⟨ret_bool HF.out.symm, B1.out⟩
  | true =>
    obtain ⟨x0, x1, x2, x3, x4, x5, x6, x7, x8, x9, xf⟩ := cellsN10 X1.out
    go_wp2_with fail
    refine (HG.out _ B1.out).mono ?_
    rintro e w2 ⟨rfl, b2⟩
    have X2 := hide ((b2.block _ (blkG X1.out)).trans X1.out)
    have B2 := hide (B1.out.trans (b2.mono B1.out.size))
    clear b2 X1 B1 HG x0 x1 x2 x3 x4 x5 x6 x7 x8 x9 xf
    cases xg with
    | false =>
      have HF : Hid (r = true) := by show _ = _; rw [HQ.out]; rfl
      clear HQ
      go_wp2
      go_ret
      exact ⟨ret_bool HF.out.symm, B2.out⟩
    | true =>
      have HV : Hid (r = (upto (fun i => itemIn qg (l.getD i noItm)) l.length && (decide (qo.size = 0) || decide (qo = qg)))) := by show _ = _; rw [HQ.out]; rfl
      clear HQ
      obtain ⟨x0, x1, x2, x3, x4, x5, x6, x7, x8, x9, xf⟩ := cellsN10 X2.out
      go_wp2
      go_loopw [15] (fun i wr => ∃ k : Nat, k ≤ l.length ∧ i = .int .i64 k ∧ Hid (upto (fun i => itemIn qg (l.getD i noItm)) k = true) ∧ Below w2.heap.size w2 wr) (fun i _ => l.length - (intOf i).toNat)
      case atStart => exact ⟨0, Nat.zero_le _, rfl, rfl, Below.refl _ _⟩
      case round =>
        obtain ⟨k, hk, rfl, HU, hb⟩ := hrel
        clear x0 x1 x2 x3 x4 x5 x6 x7 x8 x9 xf
        have X3 := hide ((hb.block _ (blkG X2.out)).trans X2.out)
        have hz := hb.size
        have B3 := hide (B2.out.trans (hb.mono B2.out.size))
        obtain ⟨x0, x1, x2, x3, x4, x5, x6, x7, x8, x9, xf⟩ := cellsN10 X3.out
        have hzw : w.heap.size < wr.heap.size := blkG X3.out
        by_cases hlt : k < l.length
        · obtain ⟨b, off, ag, c, rfl, hbB, hv, hfit, d0, d1⟩ := ItmRow.at (FRow.kept HR.out (B3.out.mono hB)) k hlt
          have HP := hide (upto_succ (fun i => itemIn qg (l.getD i noItm)) k)
          have HX : Hid (itemIn qg (l.getD k noItm) = !(decide (ag = 0) && decide (c ≠ qg))) := by show _ = _; rw [hv]; rfl
          have HA := hide (hb.trans (((Below.refl wr.heap.size wr).alloc (Nat.le_refl _) (.cells #[.int .i64 ag, .string c] 75)).mono hz))
          have HAW := hide (B3.out.trans (((Below.refl wr.heap.size wr).alloc (Nat.le_refl _) (.cells #[.int .i64 ag, .string c] 75)).mono B3.out.size))
          have HNF : Hid (itemIn qg (l.getD k noItm) = false → r = false) := fun h => by rw [HV.out, upto_false hlt h]; rfl
          have HNT : Hid (itemIn qg (l.getD k noItm) = true → upto (fun i => itemIn qg (l.getD i noItm)) (k + 1) = true) := fun h => by rw [HP.out, HU.out]; exact h
          clear hv hfit HP HU B3
          by_cases g0 : ag = 0
          · subst g0
            by_cases gc : c = qg
            · have HU2 := hide (HNT.out (by rw [HX.out]; simp [gc]))
              subst gc
              clear HNF HNT HX
              go_wp2
              clear hb hz d0 d1 x0 x1 x2 x3 x4 x5 x6 x7 x8 x9 xf X3
              go_roundw
              case rel => exact ⟨k + 1, by omega, by go_num, HU2, HA.out⟩
              case measure => simp [intOf]; omega
            · have HF := hide (HNF.out (by rw [HX.out]; simp [gc]))
              have hgc := str_ne gc
              clear HNF HNT HX
              go_wp2
              go_ret
              exact ⟨ret_bool HF.out.symm, HAW.out⟩
          · have HU2 := hide (HNT.out (by rw [HX.out]; simp [g0]))
            have hkb : (ag == 0) = false := by simp; exact g0
            clear HNF HNT HX
            go_wp2
            clear hb hz d0 d1 x0 x1 x2 x3 x4 x5 x6 x7 x8 x9 xf X3
            go_roundw
            case rel => exact ⟨k + 1, by omega, by go_num, HU2, HA.out⟩
            case measure => simp [intOf]; omega
        · obtain rfl : k = l.length := by omega
          have HV2 : Hid (r = (decide (qo.size = 0) || decide (qo = qg))) := by show _ = _; rw [HV.out, HU.out]; rfl
          clear HV HU
          by_cases ho : qo.size = 0
          · have hoe := emp_tl ho
            have HF : Hid (r = true) := by show _ = _; rw [HV2.out]; simp [ho]
            go_wp2
            go_ret
            exact ⟨ret_bool HF.out.symm, B3.out⟩
          · have hoe := emp_ne ho
            by_cases hg : qo = qg
            · have HF : Hid (r = true) := by show _ = _; rw [HV2.out]; simp [hg]
              subst hg
              go_wp2
              go_ret
              exact ⟨ret_bool HF.out.symm, B3.out⟩
            · have hge := str_ne hg
              have HF : Hid (r = false) := by show _ = _; rw [HV2.out]; simp [hg, ho]
              go_wp2
              go_ret
              exact ⟨ret_bool HF.out.symm, B3.out⟩
end Go.Proofs.Yteanieiphpehcaa
