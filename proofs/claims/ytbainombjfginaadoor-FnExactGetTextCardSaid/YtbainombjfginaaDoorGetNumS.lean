/-
  Contracts: GetNum of the specification.
-/
import Derived.Test.YtbainombjfginaaDoorGetNum
namespace Go.Proofs.YtbainombjfginaaDoor
open Go.RowKit

theorem prod9 (b k : Nat) (h : k = 9) : (b : Int) % 128 * 9223372036854775808 = ((b % 128 * 2 ^ (7 * k) : Nat) : Int) := by subst h; simp
theorem retN {V : Value} {a b n q : Int} (hV : V = nOut n q 0) (h1 : a = n) (h2 : b = q) : Ending.returned (.agg #[.int .i64 a, .int .i64 b, .int .i64 0]) = .returned V := by rw [hV, h1, h2]; rfl

set_option maxRecDepth 100000 in
set_option maxHeartbeats 4000000 in
theorem specGetNum_any (s : ByteArray) (a : Int) (ha : a ≤ 9223372036854775807) (w : World) :
    Calls Tryd.prog 14 #[.string s, .int .i64 a] w fun e w' => e = .returned (getNumV s a) ∧ Below w.heap.size w w' := by
  by_cases h1 : 20000 < s.size
  · have H : Hid (getNumV s a = nOut 0 0 2) := by show _ = _; unfold getNumV getNum3; rw [if_pos h1]; rfl
    go_enter Tryd.func14, Tryd.ntmps14
    go_wp2
    refine bodyPost_ret (v := nOut 0 0 2) (resNum Tryd.results14 _ _ w.heap.size _ _ _ rfl (heap_alloc_new _ _)) rfl ⟨by rw [H.out], (Below.refl _ _).alloc (Nat.le_refl _) _⟩
  by_cases h2 : a < 0
  · have H : Hid (getNumV s a = nOut 0 0 1) := by show _ = _; unfold getNumV getNum3; rw [if_neg h1, if_pos h2]; rfl
    go_enter Tryd.func14, Tryd.ntmps14
    go_wp2
    refine bodyPost_ret (v := nOut 0 0 1) (resNum Tryd.results14 _ _ w.heap.size _ _ _ rfl (heap_alloc_new _ _)) rfl ⟨by rw [H.out], (Below.refl _ _).alloc (Nat.le_refl _) _⟩
  obtain ⟨p, rfl⟩ := Int.eq_ofNat_of_zero_le (show 0 ≤ a by omega)
  have H : Hid (getNumV s p = nOut (rdAt s.data.toList p).1 (behind p (rdAt s.data.toList p)) (rdAt s.data.toList p).2.2) := by
    show _ = _; unfold getNumV getNum3; rw [if_neg h1, if_neg (by omega), Int.toNat_natCast]
  go_enter Tryd.func14, Tryd.ntmps14
  go_wp2
  go_loop [5, 6] (fun x i => ∃ k u : Nat, k ≤ 9 ∧ i = .int .i64 k ∧ x = .int .u64 u ∧ Hid (u < 2 ^ (7 * k)) ∧ Hid (rdAt s.data.toList p = rd k u (s.data.toList.drop (p + k)))) (fun _ i => 10 - (intOf i).toNat)
  case atStart => exact ⟨0, 0, by omega, rfl, rfl, by show _ < _; omega, rfl⟩
  case round =>
    obtain ⟨k, u, hk, rfl, rfl, HU, HR⟩ := hrel
    by_cases hlt : p + k < s.size
    · have hbl : s[p + k].toNat < 256 := s[p + k].toNat_lt
      have HD : Hid (s.data.toList.drop (p + k) = s[p + k] :: s.data.toList.drop (p + k + 1)) := drop_cons s (p + k) hlt
      by_cases hA : k = 9 ∧ 1 < s[p + k].toNat
      · have HF : Hid (rdAt s.data.toList p = (0, 0, 3)) := by
          show _ = _
          rw [HR.out, HD.out, rd_big hA.1 hA.2]
        have h9 : 9 ≤ k := by omega
        have hb1 := hA.2
        clear hA HR HD HU
        go_wp2
        refine bodyPost_ret (v := nOut 0 0 3) (resNum Tryd.results14 _ _ w.heap.size _ _ _ rfl (heap_alloc_new _ _)) rfl ⟨by rw [H.out, HF.out]; rfl, (Below.refl _ _).alloc (Nat.le_refl _) _⟩
      · by_cases hb : s[p + k].toNat < 128
        · by_cases hz : s[p + k].toNat = 0 ∧ 0 < k
          · have HF : Hid (rdAt s.data.toList p = (0, 0, 3)) := by
              show _ = _
              rw [HR.out, HD.out, rd_nought hz.2 hz.1]
            have hz1 : s[p + k].toNat < 1 := by omega
            have hz2 := hz.2
            clear hz HR HD HU hA
            go_wp2
            all_goals refine bodyPost_ret (v := nOut 0 0 3) (resNum Tryd.results14 _ _ w.heap.size _ _ _ rfl (heap_alloc_new _ _)) rfl ⟨by rw [H.out, HF.out]; rfl, (Below.refl _ _).alloc (Nat.le_refl _) _⟩
          · have HF : Hid (rdAt s.data.toList p = (unz (u + s[p + k].toNat % 128 * 2 ^ (7 * k)), k + 1, 0)) := by
              show _ = _
              rw [HR.out, HD.out, rd_last hA hb hz]
            have hpl := prod_lt hk hA
            have hsl := sum_lt hk HU.out hA
            rcases Nat.lt_or_ge k 9 with h9 | h9
            · have hwp := wrap_prod hpl
              generalize s[p + k].toNat % 128 * 2 ^ (7 * k) = pr at *
              clear HR HD HU hpl
              rcases Nat.mod_two_eq_zero_or_one (u + pr) with hm | hm
              · have HX : Hid (unz (u + pr) = (((u + pr) / 2 : Nat) : Int)) := if_neg (by omega)
                go_wp2
                all_goals refine bodyPost_ret (v := .agg #[.int .i64 _, .int .i64 _, .int .i64 0]) (resNum Tryd.results14 _ _ w.heap.size _ _ _ rfl (heap_alloc_new _ _)) rfl ⟨retN (by rw [H.out, HF.out]; rfl) (by rw [HX.out]; omega) (by simp [behind]; omega), (Below.refl _ _).alloc (Nat.le_refl _) _⟩
              · have HX : Hid (unz (u + pr) = -(((u + pr) / 2 : Nat) : Int) - 1) := if_pos hm
                go_wp2
                all_goals refine bodyPost_ret (v := .agg #[.int .i64 _, .int .i64 _, .int .i64 0]) (resNum Tryd.results14 _ _ w.heap.size _ _ _ rfl (heap_alloc_new _ _)) rfl ⟨retN (by rw [H.out, HF.out]; rfl) (by rw [HX.out]; omega) (by simp [behind]; omega), (Below.refl _ _).alloc (Nat.le_refl _) _⟩
            · have h9p : (s[p + k].toNat : Int) % 128 * 9223372036854775808 = ((s[p + k].toNat % 128 * 2 ^ (7 * k) : Nat) : Int) := prod9 _ k (by omega)
              have hb1 : ¬ 1 < s[p + k].toNat := fun h => hA ⟨by omega, h⟩
              generalize s[p + k].toNat % 128 * 2 ^ (7 * k) = pr at *
              clear HR HD HU hpl hA
              rcases Nat.mod_two_eq_zero_or_one (u + pr) with hm | hm
              · have HX : Hid (unz (u + pr) = (((u + pr) / 2 : Nat) : Int)) := if_neg (by omega)
                go_wp2
                all_goals refine bodyPost_ret (v := .agg #[.int .i64 _, .int .i64 _, .int .i64 0]) (resNum Tryd.results14 _ _ w.heap.size _ _ _ rfl (heap_alloc_new _ _)) rfl ⟨retN (by rw [H.out, HF.out]; rfl) (by rw [HX.out]; omega) (by simp [behind]; omega), (Below.refl _ _).alloc (Nat.le_refl _) _⟩
              · have HX : Hid (unz (u + pr) = -(((u + pr) / 2 : Nat) : Int) - 1) := if_pos hm
                go_wp2
                all_goals refine bodyPost_ret (v := .agg #[.int .i64 _, .int .i64 _, .int .i64 0]) (resNum Tryd.results14 _ _ w.heap.size _ _ _ rfl (heap_alloc_new _ _)) rfl ⟨retN (by rw [H.out, HF.out]; rfl) (by rw [HX.out]; omega) (by simp [behind]; omega), (Below.refl _ _).alloc (Nat.le_refl _) _⟩
        · have hk8 : k < 9 := by
            rcases Nat.lt_or_ge k 9 with h9 | h9
            · exact h9
            · exact absurd ⟨by omega, by omega⟩ hA
          have hpl := prod_lt hk hA
          have hwp := wrap_prod hpl
          have hsl := sum_lt hk HU.out hA
          have HU2 : Hid (u + s[p + k].toNat % 128 * 2 ^ (7 * k) < 2 ^ (7 * (k + 1))) := next_lt HU.out
          have HR2 : Hid (rdAt s.data.toList p = rd (k + 1) (u + s[p + k].toNat % 128 * 2 ^ (7 * k)) (s.data.toList.drop (p + (k + 1)))) := by
            show _ = _
            rw [HR.out, HD.out, rd_more (by omega) hb]; rfl
          generalize s[p + k].toNat % 128 * 2 ^ (7 * k) = pr at *
          clear HR HD HU hpl hA
          go_wp2
          go_round
          case rel => exact ⟨k + 1, u + pr, by omega, by go_num, by go_num, HU2, HR2⟩
          case measure => simp [intOf]; omega
    · have HF : Hid (rdAt s.data.toList p = (0, 0, 4)) := by
        show _ = _
        rw [HR.out, drop_none _ _ (by omega), rd_short]
      clear HR HU
      go_wp2
      refine bodyPost_ret (v := nOut 0 0 4) (resNum Tryd.results14 _ _ w.heap.size _ _ _ rfl (heap_alloc_new _ _)) rfl ⟨by rw [H.out, HF.out]; rfl, (Below.refl _ _).alloc (Nat.le_refl _) _⟩
end Go.Proofs.YtbainombjfginaaDoor
