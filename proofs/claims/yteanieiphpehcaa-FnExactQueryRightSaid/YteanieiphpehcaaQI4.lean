/-
  Contracts: is a query of groups, as the program asks.
-/
import Derived.Test.YteanieiphpehcaaQI3
namespace Go.Proofs.Yteanieiphpehcaa
open Go.RowKit
set_option maxRecDepth 100000

theorem emp_tl {s : ByteArray} (h : s.size = 0) : s.toList.isEmpty = true := by rw [tl_empty, decide_eq_true h]
theorem emp_ne {s : ByteArray} (h : ¬ s.size = 0) : s.toList.isEmpty = false := by rw [tl_empty, decide_eq_false h]
theorem str_ne {s t : ByteArray} (h : ¬ s = t) : (s.toList == t.toList) = false := by
  rw [beq_eq_false_iff_ne]
  intro e
  rw [ByteArray.toList_eq, ByteArray.toList_eq] at e
  exact h (ba_ext e)
set_option maxHeartbeats 4000000 in
theorem implGrouped_any (A B : Nat) (q : Qry) (a1 : Option Addr) (c1 : Nat) (a2 : Option Addr) (c2 : Nat) (w : World) (hB : B ≤ w.heap.size) (hl : q.items.length ≤ 1048576) (hr : ItmRow w A B a1 q.items) :
    Calls Try.prog 49 #[.agg #[.slice a1 q.items.length c1, .string q.table, .string q.join, .string q.left, .string q.right, .slice a2 q.wh.length c2, .string q.group, .string q.order, .bool q.down, .int .i64 q.limit]] w fun e w' => e = .returned (.bool (groupedB q)) ∧ Below w.heap.size w w' := by
  have HQ : Hid (groupedB q = (decide (q.group.size ≠ 0) || !upto (fun i => decide ((q.items.getD i noItm).agg = 0)) q.items.length)) := rfl
  have HR : Hid (ItmRow w A B a1 q.items) := hr
  clear hr
  generalize groupedB q = r at *
  generalize q.items = l at *
  generalize q.table = qt at *
  generalize q.join = qj at *
  generalize q.left = ql at *
  generalize q.right = qr at *
  generalize q.group = qg at *
  generalize q.order = qo at *
  generalize q.down = qd at *
  generalize q.limit = qm at *
  generalize q.wh.length = n2 at *
  have B0 := hide ((Below.refl w.heap.size w).alloc (Nat.le_refl _) (.cells #[.slice a1 l.length c1, .string qt, .string qj, .string ql, .string qr, .slice a2 n2 c2, .string qg, .string qo, .bool qd, .int .i64 qm] 39))
  by_cases hg : qg.size = 0
  · have hge := emp_tl hg
    have HV : Hid (r = !upto (fun i => decide ((l.getD i noItm).agg = 0)) l.length) := by show _ = _; rw [HQ.out]; simp [hg]
    clear HQ hg
    go_enter Try.func49, Try.ntmps49
    go_wp2
    have Z0 : Hid (w.heap.size ≤ (w.alloc (.cells #[.slice a1 l.length c1, .string qt, .string qj, .string ql, .string qr, .slice a2 n2 c2, .string qg, .string qo, .bool qd, .int .i64 qm] 39)).heap.size) := B0.out.size
    go_loopw [11] (fun i wr => ∃ k : Nat, k ≤ l.length ∧ i = .int .i64 k ∧ Hid (upto (fun i => decide ((l.getD i noItm).agg = 0)) k = true) ∧ Below w.heap.size w wr) (fun i _ => l.length - (intOf i).toNat)
    case atStart => exact ⟨0, Nat.zero_le _, rfl, rfl, B0.out⟩
    case round =>
      obtain ⟨k, hk, rfl, HU, hb⟩ := hrel
      clear B0 Z0
      by_cases hlt : k < l.length
      · obtain ⟨b, off, ag, c, rfl, hbB, hv, hfit, d0, d1⟩ := ItmRow.at (FRow.kept HR.out (hb.mono hB)) k hlt
        have hz := hb.size
        have HP := hide (upto_succ (fun i => decide ((l.getD i noItm).agg = 0)) k)
        have HX : Hid ((l.getD k noItm).agg = ag) := by show _ = _; rw [hv]
        have HA := hide (hb.trans (((Below.refl wr.heap.size wr).alloc (Nat.le_refl _) (.cells #[.int .i64 ag, .string c] 75)).mono hz))
        clear hv hfit
        by_cases g0 : ag = 0
        · have HU2 : Hid (upto (fun i => decide ((l.getD i noItm).agg = 0)) (k + 1) = true) := by show _ = _; rw [HP.out, HU.out, HX.out, decide_eq_true g0]; rfl
          subst g0
          clear HP HU HX
          go_wp2
          clear hb hz d0 d1
          go_roundw
          case rel => exact ⟨k + 1, by omega, by go_num, HU2, HA.out⟩
          case measure => simp [intOf]; omega
        · have HF : Hid (r = true) := by show _ = _; rw [HV.out, upto_false hlt (by show decide ((l.getD k noItm).agg = 0) = false; rw [HX.out]; exact decide_eq_false g0)]; rfl
          have hkb : (ag != 0) = true := by simp; exact g0
          clear HP HU HX HV
          go_wp2
          go_ret
          exact ⟨ret_bool HF.out.symm, HA.out⟩
      · obtain rfl : k = l.length := by omega
        have HF : Hid (r = false) := by show _ = _; rw [HV.out, HU.out]; rfl
        clear HV HU
        go_wp2
        go_ret
        exact ⟨ret_bool HF.out.symm, hb⟩
  · have hge := emp_ne hg
    have HF : Hid (r = true) := by show _ = _; rw [HQ.out]; simp [hg]
    clear HQ
    go_enter Try.func49, Try.ntmps49
    go_wp2
    go_ret
    exact ⟨ret_bool HF.out.symm, B0.out⟩
end Go.Proofs.Yteanieiphpehcaa
