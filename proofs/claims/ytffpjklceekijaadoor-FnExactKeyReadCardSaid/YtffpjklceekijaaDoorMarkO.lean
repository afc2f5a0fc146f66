/-
  Contracts: the law's helpers on what KeyRead hands back.
-/
import Derived.Test.YtffpjklceekijaaDoorHeldV
namespace Go.Proofs.YtffpjklceekijaaDoor
open Go.RowKit

/-- A slice of n values that is marked. -/
def Marked (v : Value) (n : Nat) (w : World) : Prop := (v = .slice none 0 0 ∧ n = 0) ∨ ∃ g cap, v = .slice (some ⟨g, 0, none⟩) n cap ∧ MarkAt g n n w
theorem Marked.kept {v : Value} {n : Nat} {w w' : World} (h : Marked v n w) (hb : Below w.heap.size w w') : Marked v n w' := by
  rcases h with h | ⟨g, cap, rfl, h⟩
  · exact .inl h
  · exact .inr ⟨g, cap, rfl, h.kept hb h.lt⟩
theorem markAt_of {g n : Nat} {vs : List Val} {cur : Array Value} {w : World} (hg : w.heap[g]? = some (.cells cur 41 (0, 0))) (hn : vs.length = n) (hl : n * 3 ≤ cur.size) (hc : cur.toList.take (n * 3) = flatV vs) : MarkAt g n 0 w := by
  refine ⟨cur.toList, by simpa using hg, by simpa using hl, by simp [marks, flatV], fun i hi => ?_⟩
  have hget : ∀ j, j < n * 3 → cur.toList[j]? = (flatV vs)[j]? := fun j hj => by rw [← hc, List.getElem?_take_of_lt hj]
  obtain ⟨h0, h1, h2⟩ := flatV_get vs i (by omega)
  exact ⟨_, _, _, (hget _ (by omega)).trans h0, (hget _ (by omega)).trans h1, (hget _ (by omega)).trans h2⟩
theorem markValueS_nil (w : World) : Calls Tryd.prog 15 #[.slice none 0 0, .int .i64 1] w fun e w' => e = .returned (.int .i64 1) ∧ w' = w := by
  go_enter Tryd.func15, Tryd.ntmps15
  go_wp2
  go_loop [1, 5] (fun q i => i = .int .i64 0 ∧ q = .int .i64 1) (fun _ _ => 0)
  case atStart => exact ⟨rfl, rfl⟩
  case round =>
    obtain ⟨rfl, rfl⟩ := hrel
    go_wp2
    go_ret
    exact ⟨rfl, rfl⟩
theorem heldValueS_nil (w : World) : Calls Tryd.prog 16 #[.slice none 0 0, .int .i64 1] w fun e w' => e = .returned (.int .i64 1) ∧ w' = w := by
  go_enter Tryd.func16, Tryd.ntmps16
  go_wp2
  go_loop [1, 5] (fun q i => i = .int .i64 0 ∧ q = .int .i64 1) (fun _ _ => 0)
  case atStart => exact ⟨rfl, rfl⟩
  case round =>
    obtain ⟨rfl, rfl⟩ := hrel
    go_wp2
    go_ret
    exact ⟨rfl, rfl⟩
theorem markValueS_own (base : Nat) (v : Value) (vs : List Val) (w : World) (hn : vs.length ≤ 12) (h : OwnV base v vs w) :
    Calls Tryd.prog 15 #[v, .int .i64 1] w fun e w' => e = .returned (.int .i64 ((1 + 3 * vs.length : Nat) : Int)) ∧ Marked v vs.length w' ∧ w.grownBy w' v.ownBlock := by
  rcases h.2 with ⟨rfl, h0⟩ | ⟨g, cap, cur, rfl, hB, hq, hn', hm, hs, ht⟩
  · refine (markValueS_nil w).mono ?_
    rintro e w' ⟨rfl, rfl⟩
    rw [h0]
    exact ⟨rfl, .inl ⟨rfl, rfl⟩, grown_refl _ _⟩
  · refine (markValueS_at g vs.length cap w hn (markAt_of hq rfl ?_ ht)).mono ?_
    · rw [hs]; exact Nat.mul_le_mul_right 3 hn'
    · rintro e w' ⟨rfl, hm', hb⟩
      exact ⟨rfl, .inr ⟨g, cap, rfl, hm'⟩, hb⟩
theorem heldValueS_own (v : Value) (n : Nat) (w : World) (hn : n ≤ 12) (h : Marked v n w) :
    Calls Tryd.prog 16 #[v, .int .i64 1] w fun e w' => e = .returned (.int .i64 ((1 + 3 * n : Nat) : Int)) ∧ Below w.heap.size w w' := by
  rcases h with ⟨rfl, rfl⟩ | ⟨g, cap, rfl, hm⟩
  · refine (heldValueS_nil w).mono ?_
    rintro e w' ⟨rfl, rfl⟩
    exact ⟨rfl, Below.refl _ _⟩
  · exact heldValueS_at g n cap w hn hm
theorem valRow_own {base : Nat} {v : Value} {vs : List Val} {w : World} (h : OwnV base v vs w) (ho : ∀ x ∈ vs, x.ok) (ht : ∀ x ∈ vs, x.text.size ≤ maxLen) : ∃ ao cap, v = .slice ao vs.length cap ∧ ValRow w w.heap.size ao vs := by
  rcases h.2 with ⟨rfl, h0⟩ | ⟨g, cap, cur, rfl, hB, hq, hn', hm, hs, hc⟩
  · exact ⟨none, 0, by rw [h0], ho, ht, .inl h0⟩
  · exact ⟨_, _, rfl, valRow_of (cur := cur.toList) (by simpa using hq) hc ho ht⟩
set_option maxHeartbeats 1000000 in
theorem eqValuesOut_same (b0 b1 : Nat) (v0 v1 : Value) (c : Int) (vs : List Val) (w : World) (hl : vs.length ≤ 12) (ho : ∀ x ∈ vs, x.ok) (ht : ∀ x ∈ vs, x.text.size ≤ maxLen) (h0 : OwnV b0 v0 vs w) (h1 : OwnV b1 v1 vs w) :
    Calls Tryd.prog 6 #[.agg #[v0, .int .i64 c], .agg #[v1, .int .i64 c]] w fun e w' => e = .returned (.bool true) ∧ Below w.heap.size w w' := by
  obtain ⟨ao, cap, rfl, ha⟩ := valRow_own h0 ho ht
  obtain ⟨bo, cp, rfl, hb⟩ := valRow_own h1 ho ht
  have HA : Hid (ValRow w w.heap.size ao vs) := ha
  have HB : Hid (ValRow w w.heap.size bo vs) := hb
  clear ha hb h0 h1
  go_enter Tryd.func6, Tryd.ntmps6
  go_wp2_with fail
  have k1 := ((Below.refl w.heap.size w).alloc (Nat.le_refl _) (.cells #[.slice ao vs.length cap, .int .i64 c] 24)).alloc (by simp) (.cells #[.slice bo vs.length cp, .int .i64 c] 24)
  refine (eqValueS_same ao cap bo cp vs _ (by omega) ((HA.out.kept k1).mono k1.size) ((HB.out.kept k1).mono k1.size)).mono ?_
  rintro e w1 ⟨rfl, hb1⟩
  have k2 := k1.trans (hb1.mono k1.size)
  obtain ⟨hc1, hf1⟩ := bcell hb1
  have hz1 : w.heap.size + 1 < w1.heap.size := by (have := hb1.size; simp at this; omega)
  clear HA HB k1
  go_wp2
  go_ret
  exact ⟨rfl, k2⟩
set_option maxHeartbeats 1000000 in
theorem markValuesOut_own (base : Nat) (v : Value) (c : Int) (vs : List Val) (w : World) (hn : vs.length ≤ 12) (h : OwnV base v vs w) :
    Calls Tryd.prog 7 #[.agg #[v, .int .i64 c], .int .i64 1] w fun e w' => e = .returned (.int .i64 ((1 + 3 * vs.length : Nat) : Int)) ∧ Marked v vs.length w' ∧ w.grownBy w' v.ownBlock := by
  have HO : Hid (OwnV base v vs w) := h
  clear h
  obtain ⟨ao, cap, rfl⟩ := ownV_shape HO.out
  go_enter Tryd.func7, Tryd.ntmps7
  go_wp2_with fail
  have k1 := (Below.refl w.heap.size w).alloc (Nat.le_refl _) (.cells #[.slice ao vs.length cap, .int .i64 c] 24)
  refine (markValueS_own base _ vs _ hn (owns_below HO.out k1)).mono ?_
  rintro e w1 ⟨rfl, hm1, hb1⟩
  have HM : Hid (Marked (.slice ao vs.length cap) vs.length w1) := hm1
  have k2 := (World.grownBy_alloc w (.cells #[.slice ao vs.length cap, .int .i64 c] 24) _).trans hb1
  clear k1 hb1 hm1 HO
  go_wp2
  go_ret
  exact ⟨rfl, HM.out, k2⟩
set_option maxHeartbeats 1000000 in
theorem heldValuesOut_own (v : Value) (c : Int) (n : Nat) (w : World) (hn : n ≤ 12) (h : Marked v n w) :
    Calls Tryd.prog 8 #[.agg #[v, .int .i64 c], .int .i64 1] w fun e w' => e = .returned (.int .i64 ((1 + 3 * n : Nat) : Int)) ∧ Below w.heap.size w w' := by
  have HO : Hid (Marked v n w) := h
  clear h
  have hs : ∃ ao cap, v = .slice ao n cap := by
    rcases HO.out with ⟨rfl, rfl⟩ | ⟨g, cap, rfl, _⟩
    · exact ⟨none, 0, rfl⟩
    · exact ⟨_, _, rfl⟩
  obtain ⟨ao, cap, rfl⟩ := hs
  go_enter Tryd.func8, Tryd.ntmps8
  go_wp2_with fail
  have k1 := (Below.refl w.heap.size w).alloc (Nat.le_refl _) (.cells #[.slice ao n cap, .int .i64 c] 24)
  refine (heldValueS_own _ n _ hn (HO.out.kept k1)).mono ?_
  rintro e w1 ⟨rfl, hb1⟩
  have k2 := k1.trans (hb1.mono k1.size)
  clear k1 hb1 HO
  go_wp2
  go_ret
  exact ⟨rfl, k2⟩
end Go.Proofs.YtffpjklceekijaaDoor
