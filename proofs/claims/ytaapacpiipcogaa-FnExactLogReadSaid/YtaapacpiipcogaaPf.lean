/-
  Contracts and plain laws, part 6 of 8: RcM, LgLogP, RecR, RecB, LgR, DkRd, LgIter, LgIt2
-/
import Derived.Deep.RegionHeld3
import Derived.Deep.DrawnRows
import Derived.Laws.MakeOwn
import Derived.Shelf.Abstract
import Derived.Shelf.RegionOpen
import Derived.OwnWalkIn
import Derived.TacticsInMore
import Derived.LoopNIn
import Derived.LoopIn
import Derived.Test.YtaapacpiipcogaaPe

/-
  Records in a row of their own: compared, marked, looked at again.
-/
namespace Go.Proofs.Ytaapacpiipcogaa
open Go.RowKit
set_option maxRecDepth 100000

theorem Try.infoRc : (Try.prog.info? 43).map (fun i => (i.zero, i.size, i.bytes)) = some (some (.agg #[.int .i64 0, .string ⟨#[]⟩]), 2, 24) := by kernel_rfl
def OwnR (base : Nat) (v : Value) (l : List Wr) (w : World) : Prop := w.ownsRow base 43 2 v l.length (flatW l)
theorem ownR_nil (base : Nat) (w : World) : OwnR base (.slice none 0 0) [] w := ⟨rfl, .inl ⟨rfl, rfl⟩⟩
theorem ownR_shape {base : Nat} {v : Value} {l : List Wr} {w : World} (h : OwnR base v l w) : ∃ ao cap, v = .slice ao l.length cap := by
  rcases h.2 with ⟨h1, h2⟩ | ⟨g, cap, cur, h1, _⟩
  · exact ⟨none, 0, by rw [h1, h2]⟩
  · exact ⟨_, _, h1⟩
theorem eqRecord_same (n : Int) (t : ByteArray) (w : World) :
    Calls Try.prog 80 #[.agg #[.int .i64 n, .string t], .agg #[.int .i64 n, .string t]] w fun e w' => e = .returned (.bool true) ∧ Below w.heap.size w w' := by
  go_enter Try.func80, Try.ntmps80
  go_wp2
  go_ret
  exact ⟨rfl, ((Below.refl _ _).alloc (Nat.le_refl _) _).alloc (by simp) _⟩
theorem ownR_at {base : Nat} {v : Value} {l : List Wr} {w : World} (h : OwnR base v l w) : ∃ ao cap, v = .slice ao l.length cap ∧ ∀ k, k < l.length → ∃ b off n t, ao = some ⟨b, off, none⟩ ∧ b < w.heap.size ∧ l.getD k noWr = ⟨n, t⟩ ∧ w.cell? ⟨b, off + k * 2, none⟩ = some (.int .i64 n) ∧ w.cell? ⟨b, off + k * 2 + 1, none⟩ = some (.string t) := by
  rcases h.2 with ⟨rfl, h0⟩ | ⟨g, cap, cur, rfl, hB, hq, hn', hm, hs, hc⟩
  · exact ⟨none, 0, by rw [h0], fun k hk => by omega⟩
  · have hget : ∀ j, j < l.length * 2 → cur[j]? = (flatW l)[j]? := fun j hj => by
      have h1 : cur.toList.take (l.length * 2) = flatW l := by simpa using hc
      rw [← h1, List.getElem?_take_of_lt hj, Array.getElem?_toList]
    refine ⟨_, _, rfl, fun k hk => ⟨g, 0, (l.getD k noWr).pos, (l.getD k noWr).text, rfl, (Array.getElem?_eq_some_iff.1 hq).1, rfl, ?_, ?_⟩⟩
    · rw [cell_of_row _ _ _ _ _ _ hq, Nat.zero_add, hget _ (by omega), (flatW_get l k hk).1]
    · rw [cell_of_row _ _ _ _ _ _ hq, Nat.zero_add, hget _ (by omega), (flatW_get l k hk).2]
set_option maxHeartbeats 2000000 in
theorem eqRecordS_own (base base' : Nat) (v v' : Value) (l : List Wr) (w : World) (hl : l.length ≤ 1048576) (ha : OwnR base v l w) (hb : OwnR base' v' l w) :
    Calls Try.prog 56 #[v, v'] w fun e w' => e = .returned (.bool true) ∧ Below w.heap.size w w' := by
  obtain ⟨ao, cap, rfl, hka⟩ := ownR_at ha
  obtain ⟨bo, cp, rfl, hkb⟩ := ownR_at hb
  have HA := hide hka
  have HB := hide hkb
  clear ha hb hka hkb
  go_enter Try.func56, Try.ntmps56
  go_wp2
  go_loopw [5] (fun i wr => ∃ k : Nat, k ≤ l.length ∧ i = .int .i64 k ∧ Below w.heap.size w wr) (fun i _ => l.length - (intOf i).toNat)
  case atStart => exact ⟨0, Nat.zero_le _, rfl, Below.refl _ _⟩
  case round =>
    obtain ⟨k, hk, rfl, hbw⟩ := hrel
    by_cases hlt : k < l.length
    · obtain ⟨b, off, nn, tt, rfl, hbB, hv, d00, d01⟩ := HA.out k hlt
      obtain ⟨b', off', nn', tt', rfl, hbB', hv', e00, e01⟩ := HB.out k hlt
      rw [hv] at hv'
      simp only [Wr.mk.injEq] at hv'
      obtain ⟨rfl, rfl⟩ := hv'
      have hz := hbw.size
      have d0 := (hbw.cell (p := ⟨b, off + k * 2, none⟩) hbB).trans d00
      have d1 := (hbw.cell (p := ⟨b, off + k * 2 + 1, none⟩) hbB).trans d01
      have e0 := (hbw.cell (p := ⟨b', off' + k * 2, none⟩) hbB').trans e00
      have e1 := (hbw.cell (p := ⟨b', off' + k * 2 + 1, none⟩) hbB').trans e01
      have hi0 : (0 : Int) ≤ (k : Int) := by omega
      have hi1 : (k : Int) < (l.length : Int) := by omega
      have ht := (Int.toNat_natCast k)
      have hq1 : b < wr.heap.size := by omega
      have hq2 : b' < wr.heap.size := by omega
      clear hv d00 e00 d01 e01 hbB hbB'
      go_wp2
      go_region_held3 (fun W => W.cell? ⟨b, off + k * 2, none⟩ = some (.int .i64 nn) ∧ W.cell? ⟨b, off + k * 2 + 1, none⟩ = some (.string tt) ∧ W.cell? ⟨b', off' + k * 2, none⟩ = some (.int .i64 nn) ∧ W.cell? ⟨b', off' + k * 2 + 1, none⟩ = some (.string tt)) (go_keep) (first | (go_at_call 80; refine (eqRecord_same nn tt _).mono ?_; rintro e w1 ⟨rfl, hb1⟩; have hb1' : Below wr.heap.size wr w1 := (Below.refl _ _).drew.trans hb1; obtain ⟨hc1, hf1⟩ := bcell hb1'))
      all_goals
        have hb2 := hbw.trans (hb1'.mono hz)
        clear d0 d1 e0 e1 hb1 hb1' hbw hc1 hf1
        go_wp2
        go_roundw
        case rel => exact ⟨k + 1, by omega, by go_num, hb2⟩
        case measure => simp [intOf]; omega
    · go_wp2
      go_ret
      exact ⟨rfl, hbw⟩
def RM (g m k0 k : Nat) (w : World) : Prop := ∃ cur : List Value, w.heap[g]? = some (.cells cur.toArray 43 (0, 0)) ∧ cur.length = m ∧ cur.take (k * 2) = flatW (mWrs k0 k)
set_option maxHeartbeats 4000000 in
theorem markRecordS_at (g n cap k0 m : Nat) (w : World) (hk0 : 0 < k0) (hk1 : k0 + 2 * n ≤ 5000000) (hl0 : n * 2 ≤ m) (hw : RM g m k0 0 w) :
    Calls Try.prog 57 #[.slice (some ⟨g, 0, none⟩) n cap, .int .i64 k0] w fun e w' => e = .returned (.int .i64 ((k0 + 2 * n : Nat) : Int)) ∧ RM g m k0 n w' ∧ w.grownBy w' (some g) := by
  have HW := hide hw
  clear hw
  go_enter Try.func57, Try.ntmps57
  go_wp2
  go_loopw [1, 5] (fun s i wr => ∃ k q : Nat, k ≤ n ∧ i = .int .i64 k ∧ s = .int .i64 q ∧ Hid (q = k0 + 2 * k) ∧ (0 < q ∧ q ≤ 5000000) ∧ Hid (RM g m k0 k wr) ∧ w.grownBy wr (some g)) (fun _ i _ => n - (intOf i).toNat)
  case atStart => exact ⟨0, k0, Nat.zero_le _, rfl, rfl, (by show _ = _; omega), ⟨hk0, by omega⟩, HW, grown_refl _ _⟩
  case round =>
    obtain ⟨k, q, hk, rfl, rfl, HQ, ⟨hq0, hq1⟩, HM, hb⟩ := hrel
    by_cases hlt : k < n
    · obtain ⟨cur, hg, hl, htk⟩ := HM.out
      have hgs : g < wr.heap.size := (Array.getElem?_eq_some_iff.1 hg).1
      have hmt := hide (fun W => markText_pos (q + 1) (by omega) (by omega) W)
      have hq3 : ((q + 1 : Nat) : Int) = (q : Int) + 1 := by omega
      rw [hq3] at hmt
      have HG := hide hg
      have HL := hide htk
      have hq2 : q + 2 ≤ 5000000 := by have := HQ.out; omega
      have HC : Hid (mWr (k0 + 2 * k) = ⟨(q : Int), markS (q + 1)⟩) := by show _ = _; rw [← HQ.out]; rfl
      generalize markS (q + 1) = T at *
      obtain ⟨x0, hx0⟩ : ∃ v, cur[k * 2]? = some v := ⟨_, List.getElem?_eq_getElem (by omega)⟩
      obtain ⟨x1, hx1⟩ : ∃ v, cur[k * 2 + 1]? = some v := ⟨_, List.getElem?_eq_getElem (by omega)⟩
      have d0 : wr.cell? ⟨g, k * 2, none⟩ = some x0 := by rw [cell_of_row _ _ _ _ _ _ hg, List.getElem?_toArray, hx0]
      have df : ∀ j, wr.frozen? ⟨g, j, none⟩ = false := fun j => frozen_of_row _ _ _ _ _ hg
      clear HM hg htk hq3
      go_wp2_with fail
      refine (hmt.out _).mono ?_
      rintro e w1 ⟨rfl, hb1⟩
      have hg1 := (hb1.block g (by simpa using hgs)).trans (setL_heap (m := k * 2) (x := .int .i64 (q : Int)) HG.out)
      have d1 : w1.cell? ⟨g, k * 2 + 1, none⟩ = some x1 := by rw [cell_of_row _ _ _ _ _ _ hg1, List.getElem?_toArray, List.getElem?_set_ne (by omega), hx1]
      have df1 : ∀ j, w1.frozen? ⟨g, j, none⟩ = false := fun j => frozen_of_row _ _ _ _ _ hg1
      have HM2 : Hid (RM g m k0 (k + 1) (w1.setCell ⟨g, k * 2 + 1, none⟩ (.string T)) ∧ w.grownBy (w1.setCell ⟨g, k * 2 + 1, none⟩ (.string T)) (some g)) := by
        refine ⟨⟨_, setL_heap hg1, by simpa using hl, ?_⟩, grown_setG (grown_below (grown_setG hb) hb1)⟩
        rw [show (k + 1) * 2 = k * 2 + 2 by omega, take_set2w _ _ _ _ (by omega), HL.out, mWrs_succ, flatW_append, HC.out]; rfl
      clear hmt HG HL HC hg1 hx0 hx1 hb1 hb d0 df
      go_wp2
      go_roundw
      case rel => exact ⟨k + 1, q + 2, by omega, by go_num, by go_num, (by show _ = _; have := HQ.out; omega), ⟨by omega, hq2⟩, HM2.out.1, HM2.out.2⟩
      case measure => simp [intOf]; omega
    · obtain rfl : k = n := by omega
      have HZ : Hid ((q : Int) = ((k0 + 2 * k : Nat) : Int)) := by show _ = _; rw [HQ.out]
      go_wp2
      go_ret
      exact ⟨by rw [HZ.out]; rfl, HM.out, hb⟩
theorem markRecordS_nil (k0 : Nat) (w : World) : Calls Try.prog 57 #[.slice none 0 0, .int .i64 k0] w fun e w' => e = .returned (.int .i64 k0) ∧ w' = w := by
  go_enter Try.func57, Try.ntmps57
  go_wp2
  go_loop [1, 5] (fun q i => i = .int .i64 0 ∧ q = .int .i64 k0) (fun _ _ => 0)
  case atStart => exact ⟨rfl, rfl⟩
  case round =>
    obtain ⟨rfl, rfl⟩ := hrel
    go_wp2
    go_ret
    exact ⟨rfl, rfl⟩
theorem markRecordS_mk (base : Nat) (v : Value) (l : List Wr) (k0 : Nat) (w : World) (hk0 : 0 < k0) (hk1 : k0 + 2 * l.length ≤ 5000000) (h : OwnR base v l w) :
    Calls Try.prog 57 #[v, .int .i64 k0] w fun e w' => e = .returned (.int .i64 ((k0 + 2 * l.length : Nat) : Int)) ∧ OwnR base v (mWrs k0 l.length) w' ∧ w.grownBy w' v.ownBlock := by
  rcases h.2 with ⟨rfl, h0⟩ | ⟨g, cap, cur, rfl, hB, hq, hn', hm, hs, ht⟩
  · refine (markRecordS_nil k0 w).mono ?_
    rintro e w' ⟨rfl, rfl⟩
    rw [h0]
    exact ⟨rfl, ownR_nil _ _, grown_refl _ _⟩
  · refine (markRecordS_at g l.length cap k0 (cap * 2) w hk0 hk1 (Nat.mul_le_mul_right 2 hn') ⟨cur.toList, by simpa using hq, by simpa using hs, by simp [mWrs, flatW]⟩).mono ?_
    rintro e w' ⟨rfl, ⟨cur', hg', hl', ht'⟩, hb⟩
    refine ⟨rfl, ⟨by rw [flatW_len], .inr ⟨g, cap, cur'.toArray, by rw [mWrs_len], hB, hg', by rw [mWrs_len]; exact hn', hm, by simpa using hl', ?_⟩⟩, hb⟩
    rw [mWrs_len]; simpa using ht'
set_option maxHeartbeats 4000000 in
theorem heldRecordS_mk (base : Nat) (v : Value) (n k0 : Nat) (w : World) (hk0 : 0 < k0) (hk1 : k0 + 2 * n ≤ 5000000) (h : OwnR base v (mWrs k0 n) w) :
    Calls Try.prog 58 #[v, .int .i64 k0] w fun e w' => e = .returned (.int .i64 ((k0 + 2 * n : Nat) : Int)) ∧ Below w.heap.size w w' := by
  obtain ⟨ao, cap, rfl, hka⟩ := ownR_at h
  rw [mWrs_len] at hka ⊢
  have HA : Hid (∀ k, k < n → ∃ b off, ao = some ⟨b, off, none⟩ ∧ b < w.heap.size ∧ w.cell? ⟨b, off + k * 2, none⟩ = some (.int .i64 ((k0 + 2 * k : Nat) : Int)) ∧ w.cell? ⟨b, off + k * 2 + 1, none⟩ = some (.string (markS (k0 + 2 * k + 1)))) := fun k hk => by
    obtain ⟨b, off, x, t, e, hb, hx, hc, hc2⟩ := hka k hk
    rw [mWrs_get _ _ _ hk] at hx
    unfold mWr at hx
    simp only [Wr.mk.injEq] at hx
    obtain ⟨rfl, rfl⟩ := hx
    exact ⟨b, off, e, hb, hc, hc2⟩
  clear h hka
  go_enter Try.func58, Try.ntmps58
  go_wp2
  go_loopw [1, 5] (fun s i wr => ∃ k q : Nat, k ≤ n ∧ i = .int .i64 k ∧ s = .int .i64 q ∧ Hid (q = k0 + 2 * k) ∧ (0 < q ∧ q ≤ 5000000) ∧ Below w.heap.size w wr) (fun _ i _ => n - (intOf i).toNat)
  case atStart => exact ⟨0, k0, Nat.zero_le _, rfl, rfl, (by show _ = _; omega), ⟨hk0, by omega⟩, Below.refl _ _⟩
  case round =>
    obtain ⟨k, q, hk, rfl, rfl, HQ, ⟨hq0, hq1⟩, hb⟩ := hrel
    have hz := hb.size
    by_cases hlt : k < n
    · obtain ⟨b, off, rfl, hbB, d00, d01⟩ := HA.out k hlt
      rw [← HQ.out] at d00 d01
      have d0 := (hb.cell (p := ⟨b, off + k * 2, none⟩) hbB).trans d00
      have d1 := (hb.cell (p := ⟨b, off + k * 2 + 1, none⟩) hbB).trans d01
      have hi0 : (0 : Int) ≤ (k : Int) := by omega
      have hi1 : (k : Int) < (n : Int) := by omega
      have ht := (Int.toNat_natCast k)
      have hq2 : q + 2 ≤ 5000000 := by have := HQ.out; omega
      have hmt := fun W => markText_pos (q + 1) (by omega) (by omega) W
      have hq3 : ((q + 1 : Nat) : Int) = (q : Int) + 1 := by omega
      rw [hq3] at hmt
      generalize markS (q + 1) = T at *
      have hgr : b < wr.heap.size := by omega
      clear d00 d01 hq3
      go_wp2
      go_region_held3 (fun W => W.cell? ⟨b, off + k * 2 + 1, none⟩ = some (.string T)) (go_keep) (first | (go_at_call 69; refine (hmt _).mono ?_; rintro e w1 ⟨rfl, hb1⟩; have hb1' : Below wr.heap.size wr w1 := (Below.refl _ _).drew.trans hb1; obtain ⟨hc1, hf1⟩ := bcell hb1'))
      all_goals
        have hb2 := hb.trans (hb1'.mono hz)
        clear d0 d1 hb1 hb1' hb hc1 hf1
        go_wp2
        go_roundw
        case rel => exact ⟨k + 1, q + 2, by omega, by go_num, by go_num, (by show _ = _; have := HQ.out; omega), ⟨by omega, hq2⟩, hb2⟩
        case measure => simp [intOf]; omega
    · obtain rfl : k = n := by omega
      have HZ : Hid ((q : Int) = ((k0 + 2 * k : Nat) : Int)) := by show _ = _; rw [HQ.out]
      go_wp2
      go_ret
      exact ⟨by rw [HZ.out]; rfl, hb⟩
end Go.Proofs.Ytaapacpiipcogaa

/-
  A log as it is read: plain.
-/
namespace Go.Proofs.Ytaapacpiipcogaa
open Go.RowKit
set_option maxRecDepth 100000

theorem dkRight_flushed {d : Dk} (h : dkRight d = true) : dkRight ⟨flushL d.secs d.cache, []⟩ = true := by
  have h64 := flush64 h
  refine dkRight_yes ?_ (by simp) ?_ (by rfl)
  · show (flushL d.secs d.cache).length ≤ 700
    rw [flushL_len]; exact (dkRight_bounds h).1
  · rw [upto_iff]
    intro i hi
    exact decide_eq_true (h64 i hi)
theorem flushed_in {d : Dk} (h : dkRight d = true) : dkIn ⟨flushL d.secs d.cache, []⟩ := ⟨fun s hs => flush_mem h s hs, fun x hx => by simp at hx⟩
theorem flushed_fits {d : Dk} (h : dkFits d) : dkFits ⟨flushL d.secs d.cache, []⟩ := ⟨by show (flushL d.secs d.cache).length ≤ _; rw [flushL_len]; exact h.1, by simp⟩
theorem secsT_prefix (l : List ByteArray) (a j : Nat) : ∀ m, j ≤ m → secsT l a j <+: secsT l a m
  | 0, h => by obtain rfl : j = 0 := by omega
               exact List.prefix_refl _
  | m + 1, h => by
    by_cases e : j = m + 1
    · subst e; exact List.prefix_refl _
    · exact (secsT_prefix l a j m (by omega)).trans (List.prefix_append _ _)
/-- The text of the first 100 sectors is the first 6400 bytes. -/
theorem text_take {fl : List ByteArray} (h64 : ∀ i, i < fl.length → (fl.getD i ByteArray.empty).size = 64) {k : Nat} (hk : k ≤ fl.length) : (mkS (secsT fl k (min 100 (fl.length - k)))).data.toList = (restT fl k).data.toList.take ((min 100 (fl.length - k)) * 64) := by
  unfold restT
  rw [mkS_list, mkS_list]
  have hp := secsT_prefix fl k (min 100 (fl.length - k)) (fl.length - k) (Nat.min_le_right _ _)
  have hl := secsT_len h64 k (min 100 (fl.length - k)) (by omega)
  rw [← hl]
  exact List.prefix_iff_eq_take.1 hp
/-- Is a log not read? -/
def lgBad (d : Dk) (a q : Int) : Prop := dkRight d = false ∨ a < 0 ∨ (d.secs.length : Int) ≤ a ∨ seqOk q = false
instance (d : Dk) (a q : Int) : Decidable (lgBad d a q) := by unfold lgBad; infer_instance
/-- What a reading of a log answers: records, the sector behind, a code. -/
def dkLog (d : Dk) (a q : Int) : List Wr × Int × Int :=
  if lgBad d a q then ([], 0, 1) else ((logR (flushL d.secs d.cache) (d.secs.length - a.toNat + 1) a.toNat q).1, ((logR (flushL d.secs d.cache) (d.secs.length - a.toNat + 1) a.toNat q).2 : Int), 0)
theorem dkLog_bad {d : Dk} {a q : Int} (h : lgBad d a q) : dkLog d a q = ([], 0, 1) := if_pos h
theorem dkLog_ok {d : Dk} {a q : Int} (h : ¬ lgBad d a q) : dkLog d a q = ((logR (flushL d.secs d.cache) (d.secs.length - a.toNat + 1) a.toNat q).1, ((logR (flushL d.secs d.cache) (d.secs.length - a.toNat + 1) a.toNat q).2 : Int), 0) := if_neg h
theorem logR_len {fl : List ByteArray} (h64 : ∀ i, i < fl.length → (fl.getD i ByteArray.empty).size = 64) : ∀ (f k : Nat) (q : Int), k ≤ fl.length → (logR fl f k q).1.length + k ≤ fl.length
  | 0, k, q, h => by simp [logR]; exact h
  | f + 1, k, q, h => by
    cases hr : recAt (restT fl k) q with
    | none => rw [logR_none hr]; simpa using h
    | some t =>
      rw [logR_some hr]
      have hm := recAt_many h64 h hr
      have := logR_len h64 f (k + many (recS q t)) (q + 1) hm.2.1
      simp only [List.length_cons]
      omega
theorem ownR_snoc {base : Nat} {v : Value} {l : List Wr} {w : World} {n : Nat} {x : Int} {t : ByteArray} (h : w.ownsRow base 43 2 v (n + 1) (flatW l ++ [.int .i64 x, .string t])) (hn : l.length = n) : OwnR base v (l ++ [⟨x, t⟩]) w := by
  unfold OwnR
  rw [flatW_snoc, List.length_append]
  simpa [hn] using h
theorem own_rc_one (w : World) (x : Int) (t : ByteArray) : (w.alloc (.cells #[.int .i64 x, .string t] 43)).ownsRow w.heap.size 43 2 (.slice (some ⟨w.heap.size, 0, none⟩) 1 1) 1 [.int .i64 x, .string t] :=
  ⟨rfl, .inr ⟨w.heap.size, 1, _, rfl, Nat.le_refl _, heap_alloc_new _ _, Nat.le_refl _, by decide, rfl, rfl⟩⟩
end Go.Proofs.Ytaapacpiipcogaa

/-
  Contracts: is a record right, of both; the bytes of a record, of both.
-/
namespace Go.Proofs.Ytaapacpiipcogaa
open Go.RowKit
set_option maxRecDepth 100000

theorem blkR {W : World} {g : Nat} {o : Obj} (h : W.heap[g]? = some o) : g < W.heap.size := (Array.getElem?_eq_some_iff.1 h).1
theorem seqRight_any (q : Int) (w : World) : Calls Try.prog 46 #[.int .i64 q] w fun e w' => e = .returned (.bool (seqOk q)) ∧ w' = w := by
  by_cases h1 : 1 ≤ q
  · go_enter Try.func46, Try.ntmps46
    go_wp2
    go_ret
    exact ⟨ret_bool (by simp [seqOk, h1]), rfl⟩
  · go_enter Try.func46, Try.ntmps46
    go_wp2
    go_ret
    exact ⟨ret_bool (by simp [seqOk]; intros; omega), rfl⟩
theorem l08Seq_any (q : Int) (w : World) : Calls Try.prog 45 #[.int .i64 q] w fun e w' => e = .returned (.bool (seqOk q)) ∧ w' = w := by
  by_cases h1 : 1 ≤ q
  · go_enter Try.func45, Try.ntmps45
    go_wp2
    go_ret
    exact ⟨ret_bool (by simp [seqOk, h1]), rfl⟩
  · go_enter Try.func45, Try.ntmps45
    go_wp2
    go_ret
    exact ⟨ret_bool (by simp [seqOk]; intros; omega), rfl⟩
theorem implRecordRight_any (q : Int) (t : ByteArray) (w : World) : Calls Try.prog 20 #[.agg #[.int .i64 q, .string t]] w fun e w' => e = .returned (.bool (recRight q t)) ∧ Below w.heap.size w w' := by
  have B0 := hide ((Below.refl w.heap.size w).alloc (Nat.le_refl _) (.cells #[.int .i64 q, .string t] 43))
  have X0 := hide (heap_alloc_new w (.cells #[.int .i64 q, .string t] 43))
  obtain ⟨x0, x1, xf⟩ := cells2 X0.out
  have HS := hide (seqRight_any q)
  have HR : Hid (recRight q t = (seqOk q && decide (t.size ≤ 6000))) := rfl
  cases hs : seqOk q with
  | false =>
    rw [hs] at HS HR
    go_enter Try.func20, Try.ntmps20
    go_wp2_with (go_at_call 46; refine (HS.out _).mono ?_; rintro e w1 ⟨rfl, rfl⟩)
    go_ret
    exact ⟨ret_bool (by rw [HR.out]; rfl), B0.out⟩
  | true =>
    rw [hs] at HS HR
    go_enter Try.func20, Try.ntmps20
    go_wp2_with (go_at_call 46; refine (HS.out _).mono ?_; rintro e w1 ⟨rfl, rfl⟩)
    go_ret
    exact ⟨ret_bool (by rw [HR.out]; simp; omega), B0.out⟩
theorem specRecordRight_any (q : Int) (t : ByteArray) (w : World) : Calls Try.prog 18 #[.agg #[.int .i64 q, .string t]] w fun e w' => e = .returned (.bool (recRight q t)) ∧ Below w.heap.size w w' := by
  have B0 := hide ((Below.refl w.heap.size w).alloc (Nat.le_refl _) (.cells #[.int .i64 q, .string t] 43))
  have X0 := hide (heap_alloc_new w (.cells #[.int .i64 q, .string t] 43))
  obtain ⟨x0, x1, xf⟩ := cells2 X0.out
  have HS := hide (l08Seq_any q)
  have HR : Hid (recRight q t = (seqOk q && decide (t.size ≤ 6000))) := rfl
  cases hs : seqOk q with
  | false =>
    rw [hs] at HS HR
    go_enter Try.func18, Try.ntmps18
    go_wp2_with (go_at_call 45; refine (HS.out _).mono ?_; rintro e w1 ⟨rfl, rfl⟩)
    go_ret
    exact ⟨ret_bool (by rw [HR.out]; rfl), B0.out⟩
  | true =>
    rw [hs] at HS HR
    go_enter Try.func18, Try.ntmps18
    go_wp2_with (go_at_call 45; refine (HS.out _).mono ?_; rintro e w1 ⟨rfl, rfl⟩)
    go_ret
    exact ⟨ret_bool (by rw [HR.out]; simp; omega), B0.out⟩
end Go.Proofs.Ytaapacpiipcogaa

/-
  Contracts: the bytes of a record, of both.
-/
namespace Go.Proofs.Ytaapacpiipcogaa
open Go.RowKit
set_option maxRecDepth 100000


set_option maxHeartbeats 1000000 in
theorem specRecordBytes_any (q : Int) (t : ByteArray) (w : World) (hq : -9223372036854775808 ≤ q ∧ q ≤ 9223372036854775807) : Calls Try.prog 21 #[.agg #[.int .i64 q, .string t]] w fun e w' => e = .returned (.string (recBytes q t)) ∧ Below w.heap.size w w' := by
  have B0 := hide ((Below.refl w.heap.size w).alloc (Nat.le_refl _) (.cells #[.int .i64 q, .string t] 43))
  have X0 := hide (heap_alloc_new w (.cells #[.int .i64 q, .string t] 43))
  obtain ⟨x0, x1, xf⟩ := cells2 X0.out
  have HR := hide (specRecordRight_any q t)
  cases hr : recRight q t with
  | false =>
    rw [hr] at HR
    rw [recBytes_no hr]
    go_enter Try.func21, Try.ntmps21
    go_wp2_with (go_at_call 18; refine (HR.out _).mono ?_; rintro e w1 ⟨rfl, b1⟩; have B1 := hide (B0.out.trans (b1.mono B0.out.size)); clear b1)
    go_ret
    exact ⟨rfl, B1.out⟩
  | true =>
    rw [hr] at HR
    rw [recBytes_yes hr]
    have HE : Hid (recS q t = sealS (mkS (recL q t))) := rfl
    have HL : Hid (mkS (recL q t) = (⟨#[76]⟩ : ByteArray) ++ numS q ++ putT t) := rfl
    have HN := hide (fun W => specPutNum_any q hq.1 hq.2 W)
    have HP := hide (fun W => specPutText_any t W)
    have HS := hide (fun s W => specSeal_any s W)
    rw [show strOfNums (putL 9 (foldN q)) = numS q from rfl] at HN
    have hA := numS_len q
    have hB := putT_len t ((recRight_iff q t).1 hr).2
    generalize numS q = A at *
    generalize putT t = B at *
    have hD1 : ¬ 9223372036854775807 < 1 + A.size := by omega
    have hD2 : ¬ 9223372036854775807 < 1 + A.size + B.size := by omega
    clear hr
    go_enter Try.func21, Try.ntmps21
    go_wp2_with (go_at_call 18; refine (HR.out _).mono ?_; rintro e w1 ⟨rfl, b1⟩; have B1 := hide (B0.out.trans (b1.mono B0.out.size)); have X1 := hide ((b1.block w.heap.size (by simp)).trans X0.out); clear b1 x0 x1 xf; obtain ⟨x0, x1, xf⟩ := cells2 X1.out)
    go_region_held3 (fun W => W.cell? ⟨w.heap.size, 0, none⟩ = some (.int .i64 q) ∧ W.cell? ⟨w.heap.size, 1, none⟩ = some (.string t)) (go_keep) (first
      | (go_at_call 48; refine (HN.out _).mono ?_; rintro e w2 ⟨rfl, b2⟩; have X2 : Hid (w2.heap[w.heap.size]? = some (.cells #[.int .i64 q, .string t] 43 (0, 0))) := (b2.block w.heap.size (blkR X1.out)).trans X1.out; have B2 : Hid (Below w.heap.size w w2) := B1.out.drew.trans (b2.mono B1.out.size); have y2 := cells2 X2.out; have x02 := y2.1; have x12 := y2.2.1; clear y2 b2)
      | (go_at_call 49; refine (HP.out _).mono ?_; rintro e w3 ⟨rfl, b3⟩; have X3 : Hid (w3.heap[w.heap.size]? = some (.cells #[.int .i64 q, .string t] 43 (0, 0))) := (b3.block w.heap.size (blkR X2.out)).trans X2.out; have B3 : Hid (Below w.heap.size w w3) := B2.out.trans (b3.mono B2.out.size); have y3 := cells2 X3.out; have x03 := y3.1; have x13 := y3.2.1; clear y3 b3)
      | (go_at_call 47; refine (HS.out _ _).mono ?_; rintro e w4 ⟨rfl, b4⟩; have X4 : Hid (w4.heap[w.heap.size]? = some (.cells #[.int .i64 q, .string t] 43 (0, 0))) := (b4.block w.heap.size (blkR X3.out)).trans X3.out; have B4 : Hid (Below w.heap.size w w4) := B3.out.trans (b4.mono B3.out.size); have y4 := cells2 X4.out; have x04 := y4.1; have x14 := y4.2.1; clear y4 b4))
    all_goals
      go_wp2
      go_ret
      exact ⟨ret_str (by rw [HE.out, HL.out]), B4.out⟩
theorem cellsT (w : World) (t : TypeId) (a b c : Value) : (w.alloc (.cells #[a, b, c] t)).cell? ⟨w.heap.size, 0, none⟩ = some a ∧ (w.alloc (.cells #[a, b, c] t)).cell? ⟨w.heap.size, 1, none⟩ = some b ∧ (w.alloc (.cells #[a, b, c] t)).cell? ⟨w.heap.size, 2, none⟩ = some c := by
  have h := heap_alloc_new w (.cells #[a, b, c] t)
  refine ⟨?_, ?_, ?_⟩ <;> rw [cell_of_row _ _ _ _ _ _ h] <;> rfl
theorem join3 (s t u : ByteArray) (pb cap : Nat) (w : World) (hb : s.size + t.size + u.size ≤ 1000000000) (h0 : w.cell? ⟨pb, 0, none⟩ = some (.string s)) (h1 : w.cell? ⟨pb, 1, none⟩ = some (.string t)) (h2 : w.cell? ⟨pb, 2, none⟩ = some (.string u)) :
    Calls Try.prog 51 #[.slice (some ⟨pb, 0, none⟩) 3 cap] w fun e w' => e = .returned (.string (mkS (s.data.toList ++ (t.data.toList ++ u.data.toList)))) ∧ Below w.heap.size w w' := by
  have h := join_any [s, t, u] pb 0 cap w (by simp only [catL, List.map_cons, List.map_nil, List.flatten_cons, List.flatten_nil, List.append_nil, List.length_append, len_data]; omega) (by simp) (fun j hj => by
    match j, hj with
    | 0, _ => simpa using h0
    | 1, _ => simpa using h1
    | 2, _ => simpa using h2)
  simpa [catL] using h
set_option maxHeartbeats 1000000 in
theorem implRecordBytes_any (q : Int) (t : ByteArray) (w : World) (hq : -9223372036854775808 ≤ q ∧ q ≤ 9223372036854775807) : Calls Try.prog 22 #[.agg #[.int .i64 q, .string t]] w fun e w' => e = .returned (.string (recBytes q t)) ∧ Below w.heap.size w w' := by
  have B0 := hide ((Below.refl w.heap.size w).alloc (Nat.le_refl _) (.cells #[.int .i64 q, .string t] 43))
  have X0 := hide (heap_alloc_new w (.cells #[.int .i64 q, .string t] 43))
  obtain ⟨x0, x1, xf⟩ := cells2 X0.out
  have HR := hide (implRecordRight_any q t)
  cases hr : recRight q t with
  | false =>
    rw [hr] at HR
    rw [recBytes_no hr]
    go_enter Try.func22, Try.ntmps22
    go_wp2_with (go_at_call 20; refine (HR.out _).mono ?_; rintro e w1 ⟨rfl, b1⟩; have B1 := hide (B0.out.trans (b1.mono B0.out.size)); clear b1)
    go_ret
    exact ⟨rfl, B1.out⟩
  | true =>
    rw [hr] at HR
    rw [recBytes_yes hr]
    have HE : Hid (recS q t = sealS (mkS (recL q t))) := rfl
    have HL : Hid (recL q t = (⟨#[76]⟩ : ByteArray).data.toList ++ ((numS q).data.toList ++ (putT t).data.toList)) := rfl
    have HN := hide (fun W => implPutNum_any q hq.1 hq.2 W)
    have HP := hide (fun W => implPutText_any t W)
    have HS := hide (fun s W => implSeal_any s W)
    rw [show strOfNums (putL 9 (foldN q)) = numS q from rfl] at HN
    have hA := numS_len q
    have hB := putT_len t ((recRight_iff q t).1 hr).2
    generalize numS q = A at *
    generalize putT t = B at *
    have HJ := hide (fun (pb cap : Nat) (W : World) => join3 ⟨#[76]⟩ A B pb cap W (by show 1 + _ + _ ≤ _; omega))
    clear hr
    go_enter Try.func22, Try.ntmps22
    go_wp2_with (go_at_call 20; refine (HR.out _).mono ?_; rintro e w1 ⟨rfl, b1⟩; have B1 := hide (B0.out.trans (b1.mono B0.out.size)); have X1 := hide ((b1.block w.heap.size (by simp)).trans X0.out); clear b1 x0 x1 xf; obtain ⟨x0, x1, xf⟩ := cells2 X1.out)
    go_region_held3 (fun W => W.cell? ⟨w.heap.size, 0, none⟩ = some (.int .i64 q) ∧ W.cell? ⟨w.heap.size, 1, none⟩ = some (.string t)) (go_keep) (first
      | (go_at_call 52; refine (HN.out _).mono ?_; rintro e w2 ⟨rfl, b2⟩; have X2 : Hid (w2.heap[w.heap.size]? = some (.cells #[.int .i64 q, .string t] 43 (0, 0))) := (b2.block w.heap.size (blkR X1.out)).trans X1.out; have B2 : Hid (Below w.heap.size w w2) := B1.out.drew.trans (b2.mono B1.out.size); have y2 := cells2 X2.out; have x02 := y2.1; have x12 := y2.2.1; clear y2 b2)
      | (go_at_call 53; refine (HP.out _).mono ?_; rintro e w3 ⟨rfl, b3⟩; have X3 : Hid (w3.heap[w.heap.size]? = some (.cells #[.int .i64 q, .string t] 43 (0, 0))) := (b3.block w.heap.size (blkR X2.out)).trans X2.out; have B3 : Hid (Below w.heap.size w w3) := B2.out.trans (b3.mono B2.out.size); have y3 := cells2 X3.out; have x03 := y3.1; have x13 := y3.2.1; have hn3 := Nat.ne_of_lt (blkR X3.out); clear y3 b3)
      | (go_at_call 51; have z3 := cellsT w3 9 (.string ⟨#[76]⟩) (.string A) (.string B); refine (HJ.out _ _ _ z3.1 z3.2.1 z3.2.2).mono ?_; rintro e w5 ⟨rfl, b5⟩; have X5 : Hid (w5.heap[w.heap.size]? = some (.cells #[.int .i64 q, .string t] 43 (0, 0))) := (b5.block w.heap.size (by have := blkR X3.out; rw [World.size_alloc]; omega)).trans ((heap_old w3 _ _ (blkR X3.out)).trans X3.out); have B5 : Hid (Below w.heap.size w w5) := (B3.out.alloc B3.out.size _).trans (b5.mono (by have := B3.out.size; rw [World.size_alloc]; omega)); have y5 := cells2 X5.out; have x05 := y5.1; have x15 := y5.2.1; clear y5 b5)
      | (go_at_call 50; refine (HS.out _ _).mono ?_; rintro e w4 ⟨rfl, b4⟩; have X4 : Hid (w4.heap[w.heap.size]? = some (.cells #[.int .i64 q, .string t] 43 (0, 0))) := (b4.block w.heap.size (blkR X5.out)).trans X5.out; have B4 : Hid (Below w.heap.size w w4) := B5.out.trans (b4.mono B5.out.size); have y4 := cells2 X4.out; have x04 := y4.1; have x14 := y4.2.1; clear y4 b4))
    all_goals
      go_wp2
      go_ret
      exact ⟨ret_str (by rw [HE.out, HL.out]; rfl), B4.out⟩
end Go.Proofs.Ytaapacpiipcogaa

/-
  Contracts: a prefix; the record with whose bytes a text begins, by the program.
-/
namespace Go.Proofs.Ytaapacpiipcogaa
open Go.RowKit
set_option maxRecDepth 100000

theorem prefix_iff (s p : ByteArray) : p.data.toList <+: s.data.toList ↔ p.size ≤ s.size ∧ s.extract 0 p.size = p := by
  have h1 : p.data.toList.length = p.size := rfl
  constructor
  · intro h
    have hl := h.length_le
    refine ⟨hl, ?_⟩
    apply ba_ext
    rw [ext_list, List.drop_zero, Nat.sub_zero, ← h1]
    exact (List.prefix_iff_eq_take.1 h).symm
  · rintro ⟨_, h⟩
    rw [← h, ext_list]
    exact List.take_prefix _ _
theorem sliteHasPrefix_any (s p : ByteArray) (w : World) :
    Calls Try.prog 99 #[.string s, .string p] w fun e w' => e = .returned (.bool (decide (p.data.toList <+: s.data.toList))) ∧ w' = w := by
  by_cases hl : p.size ≤ s.size
  · have hl' : (p.size : Int) ≤ (s.size : Int) := by omega
    by_cases he : s.extract 0 p.size = p
    · have HD : Hid (decide (p.data.toList <+: s.data.toList) = true) := decide_eq_true ((prefix_iff s p).2 ⟨hl, he⟩)
      go_enter Try.func99, Try.ntmps99
      go_wp2
      go_ret
      exact ⟨ret_bool (by rw [HD.out]), rfl⟩
    · have HD : Hid (decide (p.data.toList <+: s.data.toList) = false) := decide_eq_false (fun h => he ((prefix_iff s p).1 h).2)
      go_enter Try.func99, Try.ntmps99
      go_wp2
      go_ret
      exact ⟨ret_bool (by rw [HD.out]; exact str_neL he), rfl⟩
  · have HD : Hid (decide (p.data.toList <+: s.data.toList) = false) := decide_eq_false (fun h => hl ((prefix_iff s p).1 h).1)
    have hl' : ¬ (p.size : Int) ≤ (s.size : Int) := by omega
    go_enter Try.func99, Try.ntmps99
    go_wp2
    go_ret
    exact ⟨ret_bool (by rw [HD.out]), rfl⟩
theorem hasPrefix_any (s p : ByteArray) (w : World) :
    Calls Try.prog 91 #[.string s, .string p] w fun e w' => e = .returned (.bool (decide (p.data.toList <+: s.data.toList))) ∧ w' = w := by
  have H := hide (fun W => sliteHasPrefix_any s p W)
  generalize decide (p.data.toList <+: s.data.toList) = b at *
  go_enter Try.func91, Try.ntmps91
  go_wp2_with (go_at_call 99; refine (H.out _).mono ?_; rintro e w1 ⟨rfl, rfl⟩)
  go_ret
  exact ⟨rfl, rfl⟩
theorem resRec {fn : Func} {p1 p2 : Tmp} (h : fn.results = #[.cell p1 43, .tmp p2]) (tmps : Array Value) (w : World) (g : Nat) (a b c : Value) (hp : tmps.getD p1 undef = .pointer (some ⟨g, 0, none⟩)) (hc : tmps.getD p2 undef = c)
    (hg : w.heap[g]? = some (.cells #[a, b] 43 (0, 0))) : (results fn tmps).run Try.prog w = .ok (.tuple #[.agg #[a, b], c]) w := by
  have hp' : tmps[p1]?.getD undef = .pointer (some ⟨g, 0, none⟩) := by simpa using hp
  have hc' : tmps[p2]?.getD undef = c := by simpa using hc
  have hl := run_loadVar_row (P := Try.prog) w g 43 43 #[a, b] (0, 0) _ hg Try.underlying43 rfl (by kernel_rfl)
  simp [results, h, hp', hc', asAddr, hl]
/-- What recordIn answers. -/
def recV (s : ByteArray) (q : Int) : Value := match recAt s q with
  | some t => .tuple #[.agg #[.int .i64 q, .string t], .int .i64 (many (recS q t) : Nat)]
  | none => .tuple #[.agg #[.int .i64 0, .string ⟨#[]⟩], .int .i64 0]
theorem recV_some {s : ByteArray} {q : Int} {t : ByteArray} (h : recAt s q = some t) : recV s q = .tuple #[.agg #[.int .i64 q, .string t], .int .i64 (many (recS q t) : Nat)] := by unfold recV; rw [h]
theorem recV_none {s : ByteArray} {q : Int} (h : recAt s q = none) : recV s q = .tuple #[.agg #[.int .i64 0, .string ⟨#[]⟩], .int .i64 0] := by unfold recV; rw [h]
theorem recAt_no {s : ByteArray} {q : Int} (h : ¬ ((txtAt s (1 + (numS q).size)).2.2 = 0 ∧ recRight q (txtAt s (1 + (numS q).size)).1 = true ∧ (recS q (txtAt s (1 + (numS q).size)).1).data.toList <+: s.data.toList)) : recAt s q = none := if_neg h
theorem recAt_yes {s : ByteArray} {q : Int} (h1 : (txtAt s (1 + (numS q).size)).2.2 = 0) (h2 : recRight q (txtAt s (1 + (numS q).size)).1 = true) (h3 : (recS q (txtAt s (1 + (numS q).size)).1).data.toList <+: s.data.toList) : recAt s q = some (txtAt s (1 + (numS q).size)).1 := if_pos ⟨h1, h2, h3⟩
set_option maxHeartbeats 4000000 in
theorem recordIn_any (s : ByteArray) (q : Int) (hs : s.size ≤ 44800) (hq : -9223372036854775808 ≤ q ∧ q ≤ 9223372036854775807) (w : World) :
    Calls Try.prog 79 #[.string s, .int .i64 q] w fun e w' => e = .returned (recV s q) ∧ Below w.heap.size w w' := by
  have B0 := hide ((Below.refl w.heap.size w).alloc (Nat.le_refl _) (.cells #[.int .i64 0, .string ⟨#[]⟩] 43))
  have X0 := hide (heap_alloc_new w (.cells #[.int .i64 0, .string ⟨#[]⟩] 43))
  have HN := hide (fun W => implPutNum_any q hq.1 hq.2 W)
  rw [show strOfNums (putL 9 (foldN q)) = numS q from rfl] at HN
  have hnl := numS_len q
  have HT := hide (fun W => readText_big s (1 + (numS q).size) (by omega) _ _ _ rfl rfl rfl W)
  have hY := @recAt_yes s q
  have hNo := @recAt_no s q
  change Hid (∀ W, Calls Try.prog 90 #[.string s, .int .i64 ((1 + (numS q).size : Nat) : Int)] W fun e w' => e = .returned (.tuple #[.string (txtAt s (1 + (numS q).size)).1, .int .i64 (txtAt s (1 + (numS q).size)).2.1, errV (txtAt s (1 + (numS q).size)).2.2]) ∧ Below W.heap.size W w') at HT
  rw [show ((1 + (numS q).size : Nat) : Int) = 1 + ((numS q).size : Int) by omega] at HT
  generalize txtAt s (1 + (numS q).size) = R at *
  generalize numS q = A at *
  obtain ⟨t, z, c⟩ := R
  simp only at HT hY hNo
  have HRR := hide (fun W => implRecordRight_any q t W)
  by_cases hc : c = 0
  · subst hc
    have he : errV 0 = .nilIface := rfl
    rw [he] at HT
    cases hr : recRight q t with
    | false =>
      rw [hr] at HRR
      have HV := hide (recV_none (hNo (by rw [hr]; simp)))
      clear hY hNo hq hs
      rw [HV.out]
      go_enter Try.func79, Try.ntmps79
      go_wp2_with (first | (go_at_call 52; refine (HN.out _).mono ?_; rintro e w1 ⟨rfl, b1⟩; have B1 := hide (B0.out.trans (b1.mono B0.out.size)); have X1 := hide ((b1.block w.heap.size (blkR X0.out)).trans X0.out); clear b1) | (go_at_call 90; refine (HT.out _).mono ?_; rintro e w2 ⟨rfl, b2⟩; have B2 := hide (B1.out.trans (b2.mono B1.out.size)); have X2 := hide ((b2.block w.heap.size (blkR X1.out)).trans X1.out); clear b2; have X2b := hide ((heap_old w2 (.cells #[.int .i64 q, .string t] 43) _ (blkR X2.out)).trans X2.out); have B2b := hide (B2.out.alloc B2.out.size (.cells #[.int .i64 q, .string t] 43)); obtain ⟨x0, x1, xf⟩ := cells2 X2.out; obtain ⟨u0, u1, uf⟩ := cells2 X2b.out) | (go_at_call 20; refine (HRR.out _).mono ?_; rintro e w3 ⟨rfl, b3⟩; have R3 := hide ((b3.block w2.heap.size (by simp)).trans (heap_alloc_new w2 (.cells #[.int .i64 q, .string t] 43))); have X3 := hide ((b3.block w.heap.size (by have := blkR X2.out; rw [World.size_alloc]; omega)).trans ((heap_old w2 (.cells #[.int .i64 q, .string t] 43) _ (blkR X2.out)).trans X2.out)); have B3 := hide ((B2.out.alloc B2.out.size (.cells #[.int .i64 q, .string t] 43)).trans (b3.mono (by have := B2.out.size; rw [World.size_alloc]; omega))); clear b3 x0 x1 xf; obtain ⟨x0, x1, xf⟩ := cells2 X3.out; obtain ⟨r0, r1, rf⟩ := cells2 R3.out))
      refine bodyPost_ret (v := .tuple #[.agg #[.int .i64 0, .string ⟨#[]⟩], .int .i64 0]) (resRec Try.results79 _ _ w.heap.size _ _ _ rfl rfl (set2 X3.out)) rfl ⟨rfl, ?_⟩
      exact ((B3.out.setCell (by simp) _).setCell (by simp) _)
    | true =>
      rw [hr] at HRR
      have HRB := hide (fun W => implRecordBytes_any q t W hq)
      rw [recBytes_yes hr] at HRB
      have hbl := recBytes_len q t
      rw [recBytes_yes hr] at hbl
      have HHP := hide (fun W => hasPrefix_any s (recS q t) W)
      have HPC := hide (fun W => piecesOf_any (recS q t) (by omega) W)
      by_cases hp : (recS q t).data.toList <+: s.data.toList
      · have HV := hide (recV_some (hY rfl hr hp))
        rw [decide_eq_true hp] at HHP
        generalize many (recS q t) = mm at *
        generalize recS q t = TB at *
        clear hY hNo hq hs hp hr hbl
        rw [HV.out]
        go_enter Try.func79, Try.ntmps79
        go_wp2_with (first | (go_at_call 52; refine (HN.out _).mono ?_; rintro e w1 ⟨rfl, b1⟩; have B1 := hide (B0.out.trans (b1.mono B0.out.size)); have X1 := hide ((b1.block w.heap.size (blkR X0.out)).trans X0.out); clear b1) | (go_at_call 90; refine (HT.out _).mono ?_; rintro e w2 ⟨rfl, b2⟩; have B2 := hide (B1.out.trans (b2.mono B1.out.size)); have X2 := hide ((b2.block w.heap.size (blkR X1.out)).trans X1.out); clear b2; have X2b := hide ((heap_old w2 (.cells #[.int .i64 q, .string t] 43) _ (blkR X2.out)).trans X2.out); have B2b := hide (B2.out.alloc B2.out.size (.cells #[.int .i64 q, .string t] 43)); obtain ⟨x0, x1, xf⟩ := cells2 X2.out; obtain ⟨u0, u1, uf⟩ := cells2 X2b.out) | (go_at_call 20; refine (HRR.out _).mono ?_; rintro e w3 ⟨rfl, b3⟩; have R3 := hide ((b3.block w2.heap.size (by simp)).trans (heap_alloc_new w2 (.cells #[.int .i64 q, .string t] 43))); have X3 := hide ((b3.block w.heap.size (by have := blkR X2.out; rw [World.size_alloc]; omega)).trans ((heap_old w2 (.cells #[.int .i64 q, .string t] 43) _ (blkR X2.out)).trans X2.out)); have B3 := hide ((B2.out.alloc B2.out.size (.cells #[.int .i64 q, .string t] 43)).trans (b3.mono (by have := B2.out.size; rw [World.size_alloc]; omega))); clear b3 x0 x1 xf; obtain ⟨x0, x1, xf⟩ := cells2 X3.out; obtain ⟨r0, r1, rf⟩ := cells2 R3.out) | (go_at_call 22; refine (HRB.out _).mono ?_; rintro e w4 ⟨rfl, b4⟩; have R4 := hide ((b4.block w2.heap.size (blkR R3.out)).trans R3.out); have X4 := hide ((b4.block w.heap.size (blkR X3.out)).trans X3.out); have B4 := hide (B3.out.trans (b4.mono B3.out.size)); clear b4 x0 x1 xf r0 r1 rf; obtain ⟨x0, x1, xf⟩ := cells2 X4.out; obtain ⟨r0, r1, rf⟩ := cells2 R4.out) | (go_at_call 91; refine (HHP.out _).mono ?_; rintro e w5 ⟨rfl, rfl⟩))
        have hne1 : ¬ w.heap.size = w2.heap.size := Nat.ne_of_lt (blkR X2.out)
        have hne2 : ¬ w2.heap.size = w.heap.size := fun e => hne1 e.symm
        go_region_held3 (fun W => W.cell? ⟨w2.heap.size, 0, none⟩ = some (.int .i64 q) ∧ W.cell? ⟨w2.heap.size, 1, none⟩ = some (.string t)) (go_keep) (first | (go_at_call 82; refine (HPC.out _).mono ?_; rintro e w6 ⟨rfl, rfl⟩) | fail)
        go_wp2
        refine bodyPost_ret (v := .tuple #[.agg #[.int .i64 q, .string t], .int .i64 (mm : Nat)]) (resRec Try.results79 _ _ w.heap.size _ _ _ rfl rfl (set2 X4.out)) rfl ⟨rfl, ?_⟩
        exact ((B4.out.setCell (by simp) _).setCell (by simp) _).drew
      · have HV := hide (recV_none (hNo (fun h => hp h.2.2)))
        rw [decide_eq_false hp] at HHP
        generalize recS q t = TB at *
        clear hY hNo hq hs hp hr hbl HPC
        rw [HV.out]
        go_enter Try.func79, Try.ntmps79
        go_wp2_with (first | (go_at_call 52; refine (HN.out _).mono ?_; rintro e w1 ⟨rfl, b1⟩; have B1 := hide (B0.out.trans (b1.mono B0.out.size)); have X1 := hide ((b1.block w.heap.size (blkR X0.out)).trans X0.out); clear b1) | (go_at_call 90; refine (HT.out _).mono ?_; rintro e w2 ⟨rfl, b2⟩; have B2 := hide (B1.out.trans (b2.mono B1.out.size)); have X2 := hide ((b2.block w.heap.size (blkR X1.out)).trans X1.out); clear b2; have X2b := hide ((heap_old w2 (.cells #[.int .i64 q, .string t] 43) _ (blkR X2.out)).trans X2.out); have B2b := hide (B2.out.alloc B2.out.size (.cells #[.int .i64 q, .string t] 43)); obtain ⟨x0, x1, xf⟩ := cells2 X2.out; obtain ⟨u0, u1, uf⟩ := cells2 X2b.out) | (go_at_call 20; refine (HRR.out _).mono ?_; rintro e w3 ⟨rfl, b3⟩; have R3 := hide ((b3.block w2.heap.size (by simp)).trans (heap_alloc_new w2 (.cells #[.int .i64 q, .string t] 43))); have X3 := hide ((b3.block w.heap.size (by have := blkR X2.out; rw [World.size_alloc]; omega)).trans ((heap_old w2 (.cells #[.int .i64 q, .string t] 43) _ (blkR X2.out)).trans X2.out)); have B3 := hide ((B2.out.alloc B2.out.size (.cells #[.int .i64 q, .string t] 43)).trans (b3.mono (by have := B2.out.size; rw [World.size_alloc]; omega))); clear b3 x0 x1 xf; obtain ⟨x0, x1, xf⟩ := cells2 X3.out; obtain ⟨r0, r1, rf⟩ := cells2 R3.out) | (go_at_call 22; refine (HRB.out _).mono ?_; rintro e w4 ⟨rfl, b4⟩; have R4 := hide ((b4.block w2.heap.size (blkR R3.out)).trans R3.out); have X4 := hide ((b4.block w.heap.size (blkR X3.out)).trans X3.out); have B4 := hide (B3.out.trans (b4.mono B3.out.size)); clear b4 x0 x1 xf r0 r1 rf; obtain ⟨x0, x1, xf⟩ := cells2 X4.out; obtain ⟨r0, r1, rf⟩ := cells2 R4.out) | (go_at_call 91; refine (HHP.out _).mono ?_; rintro e w5 ⟨rfl, rfl⟩))
        refine bodyPost_ret (v := .tuple #[.agg #[.int .i64 0, .string ⟨#[]⟩], .int .i64 0]) (resRec Try.results79 _ _ w.heap.size _ _ _ rfl rfl (set2 X4.out)) rfl ⟨rfl, ?_⟩
        exact ((B4.out.setCell (by simp) _).setCell (by simp) _)
  · have HV := hide (recV_none (hNo (fun h => hc h.1)))
    have HE : errV c = .iface 138 (.agg #[.int .i64 c]) := if_neg hc
    rw [HE] at HT
    clear hY hNo hq hs hc HRR HE
    rw [HV.out]
    go_enter Try.func79, Try.ntmps79
    go_wp2_with (first | (go_at_call 52; refine (HN.out _).mono ?_; rintro e w1 ⟨rfl, b1⟩; have B1 := hide (B0.out.trans (b1.mono B0.out.size)); have X1 := hide ((b1.block w.heap.size (blkR X0.out)).trans X0.out); clear b1) | (go_at_call 90; refine (HT.out _).mono ?_; rintro e w2 ⟨rfl, b2⟩; have B2 := hide (B1.out.trans (b2.mono B1.out.size)); have X2 := hide ((b2.block w.heap.size (blkR X1.out)).trans X1.out); clear b2; have X2b := hide ((heap_old w2 (.cells #[.int .i64 q, .string t] 43) _ (blkR X2.out)).trans X2.out); have B2b := hide (B2.out.alloc B2.out.size (.cells #[.int .i64 q, .string t] 43)); obtain ⟨x0, x1, xf⟩ := cells2 X2.out; obtain ⟨u0, u1, uf⟩ := cells2 X2b.out))
    refine bodyPost_ret (v := .tuple #[.agg #[.int .i64 0, .string ⟨#[]⟩], .int .i64 0]) (resRec Try.results79 _ _ w.heap.size _ _ _ rfl rfl (set2 X2b.out)) rfl ⟨rfl, ?_⟩
    exact ((B2b.out.setCell (by simp) _).setCell (by simp) _)
end Go.Proofs.Ytaapacpiipcogaa

/-
  Contract: what so many sectors of a drive have.
-/
namespace Go.Proofs.Ytaapacpiipcogaa
open Go.RowKit
set_option maxRecDepth 100000

set_option maxHeartbeats 4000000 in
theorem drvRead_any (A B : Nat) (so : Option Addr) (p bm n : Nat) (d : Dk) (a m : Nat) (w : World) (hB : B ≤ w.heap.size) (hdr : dkRight d = true) (hbd : d.secs.length ≤ 700) (ham : a + m ≤ d.secs.length) (hS : StrRow w A B so d.secs) (hM : w.ownsMap Try.prog 2 secR bm n (cacheD d.cache)) :
    Calls Try.prog 39 #[.agg #[.slice so d.secs.length p, .map (some bm)], .int .i64 (a : Int), .int .i64 (m : Int)] w fun e w' => e = .returned (.string (mkS (secsT (flushL d.secs d.cache) a m))) ∧ Below w.heap.size w w' := by
  obtain ⟨i0, hj, hz0, hz1, hz2⟩ := info_parts Try.infoU8
  obtain ⟨n1, hn1⟩ : ∃ n, n = d.secs.length := ⟨_, rfl⟩
  have HH := hide (fun (k : Nat) (W : World) (hk : k < n1) (hb : Below w.heap.size w W) => has_any A B so p bm n d k W (Nat.le_trans hB hb.size) (by rw [← hn1]; exact hk) hdr hbd (hS.kept (hb.mono hB)) (ownsMap_below hM hb))
  have hlenF : (flushL d.secs d.cache).length = n1 := by rw [flushL_len, hn1]
  have H64 : Hid (∀ i, i < n1 → ((flushL d.secs d.cache).getD i ByteArray.empty).data.toList.length = 64) := by rw [← hlenF]; exact flush64 hdr
  have HTL := hide (fun k (hk : a + k ≤ n1) => secsT_len (flush64 hdr) a k (by rw [hlenF]; exact hk))
  have HN := hide (fun k => show secsT (flushL d.secs d.cache) a (k + 1) = secsT (flushL d.secs d.cache) a k ++ ((flushL d.secs d.cache).getD (a + k) ByteArray.empty).data.toList from rfl)
  have H0 : Hid (secsT (flushL d.secs d.cache) a 0 = []) := rfl
  rw [← hn1] at HH ham hbd ⊢
  have hml : m ≤ 700 := by omega
  have hmul : IntKind.i64.wrap ((m : Int) * 64) = (m : Int) * 64 := by rw [IntKind.wrap_i64]; omega
  have hmk : ∀ W : World, (Instr.makeSlice 87 (.int .i64 0) (.int .i64 ((m : Int) * 64))).run Try.prog W = .ok (.slice (some ⟨W.heap.size, 0, none⟩) 0 (m * 64)) (W.alloc (.cells (madeCells #[.int .u8 0] (m * 64)) 5)) := fun W => by
    have h := run_makeSlice (P := Try.prog) (w := W) 87 5 i0 (.int .u8 0) Try.underlying87 hj hz0 .i64 .i64 0 ((m * 64 : Nat) : Int) (by omega) (by omega) (by rw [hz1]; simp; omega) (by rw [hz2]; omega) (by omega)
    rw [hz1, Int.toNat_natCast, Nat.mul_one] at h
    rw [show (m : Int) * 64 = ((m * 64 : Nat) : Int) from by omega]
    exact h
  generalize secsT (flushL d.secs d.cache) a = ST at *
  generalize flushL d.secs d.cache = fl at *
  have B4 := hide ((Below.refl w.heap.size w).alloc (Nat.le_refl _) (.cells #[.slice so n1 p, .map (some bm)] 64))
  have V4 := hide (heap_alloc_new w (.cells #[.slice so n1 p, .map (some bm)] 64))
  have Z4 : Hid ((w.alloc (.cells #[.slice so n1 p, .map (some bm)] 64)).heap.size = w.heap.size + 1) := by show _ = _; simp
  clear hn1 hS hM hdr hlenF hB
  go_enter Try.func39, Try.ntmps39
  go_wp2
  generalize w.alloc (.cells #[.slice so n1 p, .map (some bm)] 64) = w4 at *
  have E5 : w.heap.size + 1 = w4.heap.size := Z4.out.symm
  have O5 : Hid (OwnB w4.heap.size (.slice (some ⟨w.heap.size + 1, 0, none⟩) 0 (m * 64)) (ST 0) (w4.alloc (.cells (madeCells #[.int .u8 0] (m * 64)) 5))) := by
    rw [H0.out, E5]
    exact World.ownsRow_made w4 _ (m * 64) (Nat.le_refl _) (by unfold maxLen; omega) (by simpa using size_madeCells #[.int .u8 0] (m * 64))
  have B5 := hide ((Below.refl w4.heap.size w4).alloc (Nat.le_refl _) (.cells (madeCells #[.int .u8 0] (m * 64)) 5))
  clear E5 Z4 H0
  go_loopw [7, 13] (fun l i wr => ∃ (k : Nat) (v : Value), k ≤ m ∧ i = .int .i64 (k : Int) ∧ l = v ∧ Hid (OwnB w4.heap.size v (ST k) wr) ∧ Hid (Below w4.heap.size w4 wr)) (fun _ i _ => m - (intOf i).toNat)
  case atStart => exact ⟨0, _, Nat.zero_le _, rfl, rfl, O5, B5⟩
  case round =>
    obtain ⟨k, v, hk, rfl, rfl, HO, HB⟩ := hrel
    clear O5 B5
    obtain ⟨ao', cap', hv⟩ := ownB_shape HO.out
    rw [HTL.out k (by omega)] at hv
    subst hv
    by_cases hlt : k < m
    · obtain ⟨v0, v1, vf⟩ := cells2 ((HB.out.block _ (blk_lt' V4.out)).trans V4.out)
      have hc := HH.out (a + k) wr (by omega) (B4.out.trans (HB.out.mono B4.out.size))
      rw [Int.natCast_add] at hc
      have HC := hide hc
      clear hc
      have HX := H64.out (a + k) (by omega)
      have HT := hide (HN.out k)
      generalize (fl.getD (a + k) ByteArray.empty).data.toList = L at *
      have HST := hide (fun W => sectorText_any L HX W)
      have hsz : (mkS L).size = 64 := HX
      have HTK := HTL.out k (by omega)
      have HS63 : Hid ((ST k).length + (mkS L).size ≤ maxLen ∧ (ST k).length + (mkS L).size ≤ 140737488355328) := by rw [HTK, hsz]; show _ ∧ _; unfold maxLen; omega
      have hwr : IntKind.i64.wrap ((a : Int) + (k : Int)) = (a : Int) + (k : Int) := by rw [IntKind.wrap_i64]; omega
      clear HX hsz HTK
      go_wp2_with (first | (go_at_call 66; refine HC.out.mono ?_; rintro e w5 ⟨rfl, b5⟩; have O6 := hide (HO.out.below b5); have B6 := hide (HB.out.trans (b5.mono HB.out.size)); clear b5) | (go_at_call 67; refine (HST.out _).mono ?_; rintro e w6 ⟨rfl, b6⟩; have O7 := hide (O6.out.below b6); have B7 := hide (B6.out.trans (b6.mono B6.out.size)); have HW : Hid (w6.ownsRow w4.heap.size 5 1 (.slice ao' (k * 64) cap') (ST k).length ((numsU (ST k)).map (Value.int .u8))) := O7; clear b6) | (at_builtin; refine Lib.wpList_append_own_string _ rfl _ _ 87 9 rfl w4.heap.size 5 i0 Try.underlying87 Try.underlying9 hj hz0 hz1 hz2 (.slice ao' (k * 64) cap') (ST k).length _ rfl HW.out (mkS L) rfl HS63.out.1 HS63.out.2 B7.out.size ?_; intro v5 w7 o5 g5 l5; have O8 := hide (ownB_str (mkS L) o5); have B8 := hide (B7.out.grown g5 B7.out.size (fun b hb => (World.ownsRow.lt HW.out b hb).1)); clear o5 g5 l5))
      have O9 : Hid (OwnB w4.heap.size v5 (ST (k + 1)) w7) := by rw [HT.out]; exact O8.out
      go_roundw
      case rel => exact ⟨k + 1, _, by omega, by go_num, rfl, O9, B8⟩
      case measure => simp [intOf]; omega
    · obtain rfl : k = m := by omega
      have HCV := hide (OwnB.conv HO.out)
      have hconv := HCV.out
      go_wp2
      go_ret
      exact ⟨rfl, B4.out.trans (HB.out.mono B4.out.size)⟩
end Go.Proofs.Ytaapacpiipcogaa

/-
  Contract: the records of a log are told one by one, by the program.
-/
namespace Go.Proofs.Ytaapacpiipcogaa
open Go.RowKit Go.Shelf
attribute [local go_sem] Oper.semAt_some
set_option maxRecDepth 100000

theorem room_noneL {F : Fence} (hd : F.depth = none) (k : Nat) : F.room k := fun d h => by rw [hd] at h; cases h
theorem roundAnyL {F : Fence} (hd : F.depth = none) {m m' : Nat} {P : Program} {l : Nat} {f : FuncId} {tmps : Array Value} {assign body : Code} {w : World} {R : Ending → World → Prop}
    (h : RoundIn F m P l f tmps assign body w R) : RoundIn F m' P l f tmps assign body w R := ⟨h.1, fun c cs _ => h.2 c cs (room_noneL hd _)⟩
theorem yieldAnyL {F : Fence} (hd : F.depth = none) {m : Nat} (m' : Nat) {P : Program} {l : Nat} {args : Array Value} {W : World} {R : Ending → World → Prop} (h : YieldAt F m P l args W R) : YieldAt F m' P l args W R := by
  obtain ⟨fn, tmps, assign, body, hy, hR⟩ := h
  exact ⟨fn, tmps, assign, body, hy, roundAnyL hd hR⟩
/-- What is told: a record, and how many sectors it lies on. -/
structure El where
  seq : Int
  text : ByteArray
  many : Nat
  le : many ≤ 700
def encEl (x : El) : Array Value := #[.agg #[.int .i64 x.seq, .string x.text], .int .i64 (x.many : Int)]
def elWr (x : El) : Wr := ⟨x.seq, x.text⟩
/-- These have been told from sector k0 on; the next is looked for at k, with number q. -/
inductive Tld (fl : List ByteArray) (k0 : Nat) (q0 : Int) : List El → Nat → Int → Prop
  | nil : Tld fl k0 q0 [] k0 q0
  | snoc {pre : List El} {k : Nat} {q : Int} {t : ByteArray} {x : El} : Tld fl k0 q0 pre k q → recAt (restT fl k) q = some t → x.seq = q → x.text = t → x.many = many (recS q t) → Tld fl k0 q0 (pre ++ [x]) (k + many (recS q t)) (q + 1)
theorem Tld.log {fl : List ByteArray} (h64 : ∀ i, i < fl.length → (fl.getD i ByteArray.empty).size = 64) {k0 : Nat} {q0 : Int} {pre : List El} {k : Nat} {q : Int} (h : Tld fl k0 q0 pre k q) (hk0 : k0 ≤ fl.length) (F : Nat) (hF : fl.length - k0 < F) :
    k0 ≤ k ∧ k ≤ fl.length ∧ k = k0 + (pre.map El.many).sum ∧ pre.length ≤ k - k0 ∧ ∃ f, fl.length - k < f ∧ logR fl F k0 q0 = (pre.map elWr ++ (logR fl f k q).1, (logR fl f k q).2) := by
  induction h with
  | nil => exact ⟨Nat.le_refl _, hk0, by simp, by simp, F, hF, by simp⟩
  | @snoc pre k q t x h hr h1 h2 h3 ih =>
    obtain ⟨i1, i2, i3, i4, f, i5, i6⟩ := ih
    obtain ⟨m1, m2, _⟩ := recAt_many h64 i2 hr
    refine ⟨by omega, m2, ?_, ?_, f - 1, by omega, ?_⟩
    · rw [List.map_append, List.sum_append, ← Nat.add_assoc, ← i3]; simp [h3]
    · rw [List.length_append, List.length_singleton]; omega
    · obtain ⟨f', rfl⟩ : ∃ f', f = f' + 1 := ⟨f - 1, by omega⟩
      rw [i6, logR_some hr, Nat.add_sub_cancel]
      simp [elWr, h1, h2]
theorem Tld.stop {fl : List ByteArray} (h64 : ∀ i, i < fl.length → (fl.getD i ByteArray.empty).size = 64) {k0 : Nat} {q0 : Int} {pre : List El} {k : Nat} {q : Int} (h : Tld fl k0 q0 pre k q) (hk0 : k0 ≤ fl.length) (hn : recAt (restT fl k) q = none) :
    logR fl (fl.length - k0 + 1) k0 q0 = (pre.map elWr, k0 + (pre.map El.many).sum) := by
  obtain ⟨_, _, i3, _, f, i5, i6⟩ := h.log h64 hk0 (fl.length - k0 + 1) (by omega)
  obtain ⟨f', rfl⟩ : ∃ f', f = f' + 1 := ⟨f - 1, by omega⟩
  rw [i6, logR_none hn, ← i3]
  simp
theorem secsT_split (l : List ByteArray) (a j : Nat) : ∀ m, secsT l a (j + m) = secsT l a j ++ secsT l (a + j) m
  | 0 => by simp [secsT]
  | m + 1 => by
    rw [← Nat.add_assoc]
    show secsT l a (j + m) ++ _ = _ ++ (secsT l (a + j) m ++ _)
    rw [secsT_split l a j m, List.append_assoc, Nat.add_assoc]
theorem restT_drop {fl : List ByteArray} (h64 : ∀ i, i < fl.length → (fl.getD i ByteArray.empty).size = 64) {k0 k : Nat} (h1 : k0 ≤ k) (h2 : k ≤ fl.length) : (restT fl k0).extract ((k - k0) * 64) (restT fl k0).size = restT fl k := by
  apply ba_ext
  have hs := secsT_split fl k0 (k - k0) (fl.length - k)
  rw [show k - k0 + (fl.length - k) = fl.length - k0 by omega, show k0 + (k - k0) = k by omega] at hs
  have hl := secsT_len h64 k0 (k - k0) (by omega)
  rw [drop_extract]
  unfold restT
  rw [mkS_list, mkS_list, hs, ← hl, List.drop_left]
theorem J_below {α : Type} {B : Nat} {J : List α → World → Prop} (h : AbidesFrom B J) {s : List α} {W W' : World} (hs : J s W) (hb : Below W.heap.size W W') : J s W' :=
  h s W W' none hs (grown_drew.grown_below' (grown_refl W none) hb) (fun r e => by cases e)
theorem J_drew {α : Type} {B : Nat} {J : List α → World → Prop} (h : AbidesFrom B J) {s : List α} {W : World} (hs : J s W) : J s W.drew :=
  h s W W.drew none hs grown_drew (fun r e => by cases e)
end Go.Proofs.Ytaapacpiipcogaa

/-
  Contract: the iterator over a log's records.
-/
namespace Go.Proofs.Ytaapacpiipcogaa
open Go.RowKit Go.Shelf
attribute [local go_sem] Oper.semAt_some
set_option maxRecDepth 100000

/-- What has come when the loop is left: what was told, and one more. -/
def StopAt (fl : List ByteArray) (k0 : Nat) (q0 : Int) (p : List El) : Prop := ∃ (pre : List El) (k : Nat) (q : Int) (x : El), Tld fl k0 q0 pre k q ∧ p = pre ++ [x] ∧ (x.many = 0 → recAt (restT fl k) q = none)
set_option maxHeartbeats 4000000 in
theorem recs_ends (F : Fence) (hF : F = Fence.wide) (n n₀ A B b1 b2 b3 : Nat) (so : Option Addr) (p : Nat) (co : Option Addr) (z : Nat) (d : Dk) (k0 : Nat) (q0 : Int) (w : World)
    (hB : B ≤ w.heap.size) (hr : DkRow w A B so co d) (hR : dkRight d = true) (hk0 : k0 < d.secs.length) (hq0 : 1 ≤ q0 ∧ q0 ≤ 1000000000)
    (h1 : w.heap[b1]? = some (.cells #[.slice so d.secs.length p, .slice co d.cache.length z] 29 (0, 0))) (h2 : w.heap[b2]? = some (.cells #[.int .i64 (k0 : Int)] 2 (0, 0))) (h3 : w.heap[b3]? = some (.cells #[.int .i64 q0] 2 (0, 0))) :
    EndsBy F n Try.prog 78 #[.pointer (some ⟨b1, 0, none⟩), .pointer (some ⟨b2, 0, none⟩), .pointer (some ⟨b3, 0, none⟩)] encEl n₀ 701 (fun pre => ∀ x ∈ pre, 0 < x.many) (StopAt (flushL d.secs d.cache) k0 q0) w := by
  intro l J Jx W hW hJ hG hY hJ0
  have hd : F.depth = none := by rw [hF]; rfl
  have hf : F.fn 78 := by rw [hF]; trivial
  have hf2 : F.fn 79 := by rw [hF]; trivial
  have hro : F.round = none := by rw [hF]; rfl
  have hdd : ∀ k : Nat, (F.depth.isSome = true → 1 ≤ k) := fun k h => by rw [hd] at h; cases h
  have HF := hide hF
  obtain ⟨n1, hn1⟩ : ∃ n, n = d.secs.length := ⟨_, rfl⟩
  obtain ⟨n2, hn2⟩ : ∃ n, n = d.cache.length := ⟨_, rfl⟩
  have hbd := dkRight_bounds hR
  have hrW := hr.kept (hW.mono hB)
  have hBW : B ≤ W.heap.size := Nat.le_trans hB hW.size
  have HD := hide (fun (X : World) (hb : Below W.heap.size W X) => driveOf_any A B so p co z d X (Nat.le_trans hBW hb.size) hbd.2 (hrW.kept (hb.mono hBW)))
  have HRD := hide (fun (bm nn : Nat) (X : World) (hb : Below W.heap.size W X) (hM : X.ownsMap Try.prog 2 secR bm nn (cacheD d.cache)) => drvRead_any A B so p bm nn d k0 (d.secs.length - k0) X (Nat.le_trans hBW hb.size) hR hbd.1 (by omega) ((hrW.kept (hb.mono hBW)).2.1) hM)
  have hfl : (flushL d.secs d.cache).length = n1 := by rw [flushL_len, hn1]
  have H64 := hide (flush64 hR)
  have HTE : Hid (mkS (secsT (flushL d.secs d.cache) k0 (d.secs.length - k0)) = restT (flushL d.secs d.cache) k0) := by show _ = _; unfold restT; rw [hfl, hn1]
  rw [HTE.out] at HRD
  rw [← hn1] at h1 hk0 HD HRD hbd
  rw [← hn2] at h1 HD
  have hsub : (n1 : Int) - (k0 : Int) = ((n1 - k0 : Nat) : Int) := by omega
  rw [show (((n1 - k0 : Nat)) : Int) = (n1 : Int) - (k0 : Int) from hsub.symm] at HRD
  have X1 := hide ((hW.block b1 (blkR h1)).trans h1)
  have X2 := hide ((hW.block b2 (blkR h2)).trans h2)
  have X3 := hide ((hW.block b3 (blkR h3)).trans h3)
  have HJA := hide hJ
  have HG := hide hG
  have HY := hide hY
  have HJ0 := hide hJ0
  have zz1 : b1 < W.heap.size := blkR X1.out
  have zz2 : b2 < W.heap.size := blkR X2.out
  have zz3 : b3 < W.heap.size := blkR X3.out
  have HK : Hid (k0 ≤ (flushL d.secs d.cache).length) := by show _ ≤ _; omega
  have hFL := hide hfl
  generalize flushL d.secs d.cache = fl at *
  generalize cacheD d.cache = CD at *
  obtain ⟨x10, x11, x1f⟩ := cells2 X1.out
  have x20 : W.cell? ⟨b2, 0, none⟩ = some (.int .i64 (k0 : Int)) := by rw [cell_of_row _ _ _ _ _ _ X2.out]; rfl
  have x30 : W.cell? ⟨b3, 0, none⟩ = some (.int .i64 q0) := by rw [cell_of_row _ _ _ _ _ _ X3.out]; rfl
  have hbn := hbd.1
  have hwr : IntKind.i64.wrap ((n1 : Int) - (k0 : Int)) = (n1 : Int) - (k0 : Int) := by rw [IntKind.wrap_i64]; omega
  clear hF hW hJ hG hY hJ0 h1 h2 h3 hr hrW hBW hB hR hn1 hn2 hfl HTE hbd hsub
  refine callsIn_of_wp Try.func78 rfl hf ?_ hro
  simp only [Try.ntmps78, List.size_toArray, List.length_cons, List.length_nil, Nat.reduceAdd, Nat.reduceSub, Array.replicate_succ, Array.replicate_zero, List.push_toArray, List.append_toArray, List.nil_append, List.cons_append]
  gi_wp2
  rw [HF.out]
  refine wpIn_wide.2 ?_
  go_region_held3 (fun X => (X.cell? ⟨b1, 0, none⟩ = some (.slice so n1 p) ∧ X.cell? ⟨b1, 1, none⟩ = some (.slice co n2 z)) ∧ X.cell? ⟨b2, 0, none⟩ = some (.int .i64 (k0 : Int)) ∧ X.cell? ⟨b3, 0, none⟩ = some (.int .i64 q0)) (go_keep) (first
    | (go_at_call 38; refine (HD.out _ (Below.refl _ _).drew).mono ?_; rintro e w1 ⟨bm, rfl, M1, hbm, c1⟩; have B1 : Hid (Below W.heap.size W w1) := (Below.refl _ _).drew.trans c1; have M1' := hide M1; obtain ⟨hc1, hf1⟩ := bcell B1.out; clear M1 hbm c1)
    | (go_at_call 39; refine (HRD.out _ _ _ B1.out M1'.out).mono ?_; rintro e w2 ⟨rfl, c2⟩; have B2 : Hid (Below W.heap.size W w2) := B1.out.trans (c2.mono B1.out.size); obtain ⟨hc2, hf2⟩ := bcell B2.out; clear c2))
  all_goals
    have HJ2 := hide (J_below HJA.out HJ0.out B2.out)
    have x32 : w2.cell? ⟨b3, 0, none⟩ = some (.int .i64 q0) := (B2.out.cell (p := ⟨b3, 0, none⟩) zz3).trans x30
    have hts : (restT fl k0).size ≤ 44800 := by
      rw [restT_len H64.out HK.out]
      have := hFL.out
      omega
    clear x10 x11 x1f x20 x30 X1 X2 X3 HD HRD B1 B2 hc1 hf1 hc2 hf2 M1' HJ0 hwr
    gi_wp2
    gi_loopw [6, 7] (fun av qv wr => ∃ (j : Nat) (qq : Int) (pre : List El), av = .int .i64 (j : Int) ∧ qv = .int .i64 qq ∧ (k0 + j ≤ n1 ∧ 1 ≤ qq ∧ qq ≤ 1000000000 + k0 + j ∧ pre.length ≤ j) ∧ Hid (Tld fl k0 q0 pre (k0 + j) qq) ∧ Hid (J pre wr)) (fun av _ _ => n1 - k0 - (intOf av).toNat)
    case atStart => exact ⟨0, q0, [], by simp, rfl, ⟨by omega, hq0.1, by omega, by simp⟩, .nil, HJ2.out⟩
    case round =>
      obtain ⟨j, qq, pre, rfl, rfl, ⟨hj, hq1, hq2, hpl⟩, HT, HJ⟩ := hrel
      clear HJ2
      have hfl2 := hFL.out
      have hk700 : k0 + j ≤ 700 := by omega
      have hlen : pre.length < 701 := by omega
      have hsz := restT_len H64.out HK.out
      have hdl : ((j : Int) * 64) ≤ ((restT fl k0).size : Int) := by omega
      have hd0 : (0 : Int) ≤ (j : Int) * 64 := by omega
      have hdn : ((j : Int) * 64).toNat = j * 64 := by omega
      have hmw : IntKind.i64.wrap ((j : Int) * 64) = (j : Int) * 64 := by rw [IntKind.wrap_i64]; omega
      have hDR : (restT fl k0).extract (j * 64) (restT fl k0).size = restT fl (k0 + j) := by
        have := restT_drop H64.out (Nat.le_add_right k0 j) (by omega : k0 + j ≤ fl.length)
        rwa [Nat.add_sub_cancel_left] at this
      have HRI := hide (fun (m : Nat) (X : World) => show CallsIn F m Try.prog 79 #[.string (restT fl (k0 + j)), .int .i64 qq] X fun e w' => e = .returned (recV (restT fl (k0 + j)) qq) ∧ Below X.heap.size X w' by rw [HF.out]; exact callsIn_wide.2 (recordIn_any (restT fl (k0 + j)) qq (by rw [restT_len H64.out (by omega)]; omega) (by omega) X))
      cases hrec : recAt (restT fl (k0 + j)) qq with
      | none =>
        rw [recV_none hrec] at HRI
        obtain ⟨x, hx⟩ : ∃ x : El, x = ⟨0, ⟨#[]⟩, 0, by omega⟩ := ⟨_, rfl⟩
        have HXE : Hid (encEl x = #[.agg #[.int .i64 0, .string ⟨#[]⟩], .int .i64 0]) := by rw [hx]; rfl
        have HNO : Hid (∀ X, ¬ J (pre ++ [x]) X) := fun X hJX => by
          have := HG.out _ X hJX x (by simp)
          rw [hx] at this
          exact absurd this (by simp)
        have HSP : Hid (StopAt fl k0 q0 (pre ++ [x])) := ⟨pre, k0 + j, qq, x, HT.out, rfl, fun _ => hrec⟩
        clear hx hrec hsz
        gi_wp2_with (first
          | ((try refine ⟨hdd _, ?_⟩); gi_at_call 79; refine (HRI.out _ _).mono ?_; rintro e w5 ⟨rfl, b5⟩; have HJ5 := hide (J_below HJA.out HJ.out (b5.trans (((Below.refl w5.heap.size w5).alloc (Nat.le_refl _) (.cells #[.int .i64 0, .string ⟨#[]⟩] 43)).mono b5.size))); obtain ⟨fn, tmps, assign, body, hy, hRd⟩ := yieldAnyL hd (n - 1) (HY.out pre x _ HJ5.out hlen); rw [HXE.out] at hy; clear b5)
          | ((try refine ⟨hdd _, ?_⟩); refine hRd.mono ?_; clear hRd hy; rintro e w6 (⟨rfl, hJ6, _⟩ | ⟨rfl, hx6⟩)))
        · exact absurd hJ6 (HNO.out _)
        · exact bodyPost_ret (results_none rfl _ _ _) rfl ⟨⟨_, rfl⟩, _, HSP.out, hx6⟩
      | some t =>
        rw [recV_some hrec] at HRI
        obtain ⟨m1, m2, _⟩ := recAt_many H64.out (by omega) hrec
        obtain ⟨x, hx⟩ : ∃ x : El, x = ⟨qq, t, many (recS qq t), by omega⟩ := ⟨_, rfl⟩
        have HXE : Hid (encEl x = #[.agg #[.int .i64 qq, .string t], .int .i64 (many (recS qq t) : Nat)]) := by rw [hx]; rfl
        have HT2 : Hid (Tld fl k0 q0 (pre ++ [x]) (k0 + j + many (recS qq t)) (qq + 1)) := .snoc HT.out hrec (by rw [hx]) (by rw [hx]) (by rw [hx])
        have HSP : Hid (StopAt fl k0 q0 (pre ++ [x])) := ⟨pre, k0 + j, qq, x, HT.out, rfl, fun h0 => by rw [hx] at h0; simp only at h0; omega⟩
        clear hx hrec hsz
        generalize many (recS qq t) = mm at *
        gi_wp2_with (first
          | ((try refine ⟨hdd _, ?_⟩); gi_at_call 79; refine (HRI.out _ _).mono ?_; rintro e w5 ⟨rfl, b5⟩; have HJ5 := hide (J_below HJA.out HJ.out (b5.trans (((Below.refl w5.heap.size w5).alloc (Nat.le_refl _) (.cells #[.int .i64 qq, .string t] 43)).mono b5.size))); obtain ⟨fn, tmps, assign, body, hy, hRd⟩ := yieldAnyL hd (n - 1) (HY.out pre x _ HJ5.out hlen); rw [HXE.out] at hy; clear b5)
          | ((try refine ⟨hdd _, ?_⟩); refine hRd.mono ?_; clear hRd hy; rintro e w6 (⟨rfl, hJ6, _⟩ | ⟨rfl, hx6⟩)))
        · have HJ6 := hide hJ6
          clear hJ6
          gi_wp2
          go_roundw
          case rel => exact ⟨j + mm, qq + 1, pre ++ [x], by go_num, by go_num, ⟨by omega, by omega, by omega, by simp; omega⟩, by rw [← Nat.add_assoc]; exact HT2.out, HJ6.out⟩
          case measure => simp [intOf]; omega
        · exact bodyPost_ret (results_none rfl _ _ _) rfl ⟨⟨_, rfl⟩, _, HSP.out, hx6⟩
end Go.Proofs.Ytaapacpiipcogaa
