/-
  Contracts: texts in a row of their own: held against others, marked, looked at again. How many keys a tree has at most.
-/
import Derived.Test.YtffgobkgkhmeoaaTrMark
import Derived.Test.YtffgobkgkhmeoaaTrRange
import Derived.Test.YtffgobkgkhmeoaaTrEq
namespace Go.Proofs.Ytffgobkgkhmeoaa
open Go.RowKit
set_option maxRecDepth 100000

theorem strsV_len (l : List ByteArray) : (strsV l).length = l.length := by simp [strsV]
theorem ownS_row {base : Nat} {v : Value} {l : List ByteArray} {w : World} (h : OwnS base v l w) : ∃ ao cap, v = .slice ao l.length cap ∧ ∀ k, k < l.length → ∃ b off x, ao = some ⟨b, off, none⟩ ∧ b < w.heap.size ∧ l.getD k ByteArray.empty = x ∧ w.cell? ⟨b, off + k, none⟩ = some (.string x) := by
  obtain ⟨ao, cap, hv, hc⟩ := cellRow_of_owns h
  rw [strsV_len] at hv
  refine ⟨ao, cap, hv, fun k hk => ?_⟩
  obtain ⟨b, off, e, hb, hk'⟩ := hc.at k (by rw [strsV_len]; exact hk)
  refine ⟨b, off, _, e, hb, rfl, hk'.trans ?_⟩
  simp [strsV, List.getD_eq_getElem?_getD, hk]
set_option maxHeartbeats 2000000 in
theorem eqStringS_own (base base' : Nat) (v v' : Value) (l : List ByteArray) (w : World) (hl : l.length ≤ 1048576) (ha : OwnS base v l w) (hb : OwnS base' v' l w) :
    Calls Try.prog 18 #[v, v'] w fun e w' => e = .returned (.bool true) ∧ Below w.heap.size w w' := by
  obtain ⟨ao, cap, rfl, hka⟩ := ownS_row ha
  obtain ⟨bo, cp, rfl, hkb⟩ := ownS_row hb
  have HA := hide hka
  have HB := hide hkb
  clear ha hb hka hkb
  go_enter Try.func18, Try.ntmps18
  go_wp2
  go_loopw [5] (fun i wr => ∃ k : Nat, k ≤ l.length ∧ i = .int .i64 k ∧ Below w.heap.size w wr) (fun i _ => l.length - (intOf i).toNat)
  case atStart => exact ⟨0, Nat.zero_le _, rfl, Below.refl _ _⟩
  case round =>
    obtain ⟨k, hk, rfl, hbw⟩ := hrel
    by_cases hlt : k < l.length
    · obtain ⟨b, off, x, rfl, hbB, hv, d00⟩ := HA.out k hlt
      obtain ⟨b', off', x', rfl, hbB', hv', e00⟩ := HB.out k hlt
      rw [hv] at hv'
      subst hv'
      have d0 := (hbw.cell (p := ⟨b, off + k, none⟩) hbB).trans d00
      have e0 := (hbw.cell (p := ⟨b', off' + k, none⟩) hbB').trans e00
      have hi0 : (0 : Int) ≤ (k : Int) := by omega
      have hi1 : (k : Int) < (l.length : Int) := by omega
      have ht := (Int.toNat_natCast k)
      clear hv d00 e00
      go_wp2
      go_region_held3 (fun W => W.cell? ⟨b, off + k, none⟩ = some (.string x) ∧ W.cell? ⟨b', off' + k, none⟩ = some (.string x)) (go_keep) (fail)
      all_goals
        have hb2 : Below w.heap.size w _ := hbw.drew
        clear d0 e0 hbw
        go_wp2
        go_roundw
        case rel => exact ⟨k + 1, by omega, by go_num, hb2⟩
        case measure => simp [intOf]; omega
    · go_wp2
      go_ret
      exact ⟨rfl, hbw⟩
/-- A slice of n texts that is marked. -/
def MarkedS (v : Value) (n : Nat) (w : World) : Prop := (v = .slice none 0 0 ∧ n = 0) ∨ ∃ g cap, v = .slice (some ⟨g, 0, none⟩) n cap ∧ MkAt g n 1 n w
theorem MarkedS.kept {v : Value} {n : Nat} {w w' : World} (h : MarkedS v n w) (hb : Below w.heap.size w w') : MarkedS v n w' := by
  rcases h with h | ⟨g, cap, rfl, h⟩
  · exact .inl h
  · exact .inr ⟨g, cap, rfl, h.kept hb h.lt⟩
theorem markStringS_nil (w : World) : Calls Try.prog 20 #[.slice none 0 0, .int .i64 1] w fun e w' => e = .returned (.int .i64 1) ∧ w' = w := by
  go_enter Try.func20, Try.ntmps20
  go_wp2
  go_loop [1, 5] (fun q i => i = .int .i64 0 ∧ q = .int .i64 1) (fun _ _ => 0)
  case atStart => exact ⟨rfl, rfl⟩
  case round =>
    obtain ⟨rfl, rfl⟩ := hrel
    go_wp2
    go_ret
    exact ⟨rfl, rfl⟩
theorem heldStringS_nil (w : World) : Calls Try.prog 21 #[.slice none 0 0, .int .i64 1] w fun e w' => e = .returned (.int .i64 1) ∧ w' = w := by
  go_enter Try.func21, Try.ntmps21
  go_wp2
  go_loop [1, 5] (fun q i => i = .int .i64 0 ∧ q = .int .i64 1) (fun _ _ => 0)
  case atStart => exact ⟨rfl, rfl⟩
  case round =>
    obtain ⟨rfl, rfl⟩ := hrel
    go_wp2
    go_ret
    exact ⟨rfl, rfl⟩
theorem markStringS_own (base : Nat) (v : Value) (l : List ByteArray) (w : World) (hn : l.length ≤ 1048576) (h : OwnS base v l w) :
    Calls Try.prog 20 #[v, .int .i64 1] w fun e w' => e = .returned (.int .i64 ((1 + l.length : Nat) : Int)) ∧ MarkedS v l.length w' ∧ w.grownBy w' v.ownBlock := by
  rcases h.2 with ⟨rfl, h0⟩ | ⟨g, cap, cur, rfl, hB, hq, hn', hm, hs, ht⟩
  · refine (markStringS_nil w).mono ?_
    rintro e w' ⟨rfl, rfl⟩
    rw [h0]
    exact ⟨rfl, .inl ⟨rfl, rfl⟩, grown_refl _ _⟩
  · refine (markStringS_at g l.length cap 1 w hn (by omega) (by omega) ⟨cur.toList, by simpa using hq, by simp; omega, fun i hi => by omega⟩).mono ?_
    rintro e w' ⟨rfl, hm', hb⟩
    exact ⟨rfl, .inr ⟨g, cap, rfl, hm'⟩, hb⟩
theorem heldStringS_own (v : Value) (n : Nat) (w : World) (hn : n ≤ 1048576) (h : MarkedS v n w) :
    Calls Try.prog 21 #[v, .int .i64 1] w fun e w' => e = .returned (.int .i64 ((1 + n : Nat) : Int)) ∧ Below w.heap.size w w' := by
  rcases h with ⟨rfl, rfl⟩ | ⟨g, cap, rfl, hm⟩
  · refine (heldStringS_nil w).mono ?_
    rintro e w' ⟨rfl, rfl⟩
    exact ⟨rfl, Below.refl _ _⟩
  · exact heldStringS_at g n cap 1 w hn (by omega) (by omega) hm
theorem sum_le_cnt (f : Tr → List ByteArray) (g : Tr → Nat) (cs : List Tr) : ∀ k, k ≤ cs.length → (∀ i, i < cs.length → (f (cs.getD i noTr)).length ≤ g (cs.getD i noTr)) → sumK f cs k ≤ cntTo (fun i => g (cs.getD i noTr)) k
  | 0, _, _ => Nat.zero_le _
  | k + 1, hk, h => by
    have h1 := sum_le_cnt f g cs k (by omega) h
    have h2 := h k (by omega)
    simp only [sumK, cntTo]; omega
theorem cnt_ge {w : World} {A B : Nat} : ∀ (r n : Nat) (t : Tr) (ko vo xo : Option Addr), TrRow w A B n t ko vo xo → (lev r t).isSome = true → (inord r t).length ≤ trCnt n t
  | 0, _, _, _, _, _, _, h => by simp [lev] at h
  | _ + 1, 0, _, _, _, _, h, _ => h.elim
  | r + 1, n + 1, t, ko, vo, xo, ⟨_, _, _, hx⟩, hl => by
    obtain ⟨hok, hk⟩ := lev_node hl
    rw [inord_count hok]
    have h1 := sum_le_cnt (inord r) (trCnt n) t.kids t.kids.length (Nat.le_refl _) (fun i hi => by
      rcases hx with h0 | ⟨b, off, _, _, _, hc⟩
      · omega
      · obtain ⟨ko, kc, vo, vc, yo, yc, _, _, _, hp⟩ := hc i hi
        exact cnt_ge r n _ ko vo yo hp (hk i hi))
    show _ ≤ t.keys.length + t.vals.length + cntTo (fun i => trCnt n (t.kids.getD i noTr)) t.kids.length
    omega
theorem range_cnt {w : World} {A B n : Nat} {t : Tr} {ko vo xo : Option Addr} (hr : TrRow w A B n t ko vo xo) (low high : ByteArray) : (rangeOut t low high).length ≤ trCnt n t := by
  unfold rangeOut
  split
  · exact Nat.zero_le _
  · split
    · rename_i hl
      refine Nat.le_trans (inR_len low high _) ?_
      unfold allOf
      split
      · exact Nat.zero_le _
      · rename_i hk
        exact cnt_ge 12 n t ko vo xo hr (lev_of_right hl hk)
    · exact Nat.zero_le _
end Go.Proofs.Ytffgobkgkhmeoaa
