/-
  Contracts: the draws of the law on seals.
-/
import Derived.Test.YtbainombjfginaaDrawMake
import Derived.Test.YtbainombjfginaaCrc
namespace Go.Proofs.Ytbainombjfginaa
open Go.RowKit

set_option maxHeartbeats 1000000 in
theorem drawSeal_any (B : Nat) (ao : Option Addr) (len cap : Nat) (zs : List Int) (w : World) (hB : B ≤ w.heap.size) (hl : len ≤ 1048576) (hr : ByteRow w B ao len zs) :
    Calls Try.prog 11 #[.slice ao len cap] w fun e w' => ∃ t : ByteArray, e = .returned (.string t) ∧ t.size ≤ 20000 ∧ Below w.heap.size w w' := by
  obtain ⟨i0, hi, hz0, hz1, hz2⟩ := info_parts Try.infoU8
  have HR : Hid (ByteRow w B ao len zs) := hr
  clear hr
  go_enter Try.func11, Try.ntmps11
  go_wp2_with fail
  refine (source_any B ao len cap zs _ hB hl HR.out).mono ?_
  rintro e w1 ⟨g, rfl, hg, hs1, hb1⟩
  have hBg : B ≤ g := by omega
  have HS1 : Hid (Src w1 B g) := hs1
  clear hs1
  go_wp2_with fail
  refine (one_any g B 30 (by omega) (by omega) _ HS1.out hBg).mono ?_
  rintro e w2 ⟨b, rfl, hs2, hg2, hz2'⟩
  have hb2 := below_draw hb1 hg hg2
  have HS2 : Hid (Src w2 B g) := hs2
  clear hs2 hg2 hz2' HS1
  cases b with
  | true =>
    go_wp2_with fail
    refine (n_any g B 3 (by omega) (by omega) _ HS2.out hBg).mono ?_
    rintro e w3 ⟨v, rfl, hv0, hv1, hs3, hg3, hz3⟩
    have hb3 := below_draw hb2 hg hg3
    obtain ⟨k, rfl⟩ := Int.eq_ofNat_of_zero_le hv0
    have hzw := hb3.size
    clear hs3 hg3 hz3 HS2
    go_wp2_with (at_make; refine wpList_make_full _ rfl _ _ 22 rfl w3.heap.size 5 i0 (.int .u8 0) 1 Try.underlying22 hi hz0 hz1 .i64 .i64 _ _ (19995 + k) rfl rfl (by omega) (by omega) (by rw [hz2]; omega) (by unfold maxLen; omega) (Nat.le_refl _) ?_; intro w4 hown4 hgrow4; obtain ⟨t, ht, hcv⟩ := ownsStr hown4 (made_bytes _))
    have hb4 := hb3.grown hgrow4 hzw (fun j hj => by simp at hj)
    clear hown4 hgrow4
    go_ret
    exact ⟨t, rfl, by omega, hb4⟩
  | false =>
    go_wp2_with fail
    refine (n_any g B 20 (by omega) (by omega) _ HS2.out hBg).mono ?_
    rintro e w3 ⟨v, rfl, hv0, hv1, hs3, hg3, hz3⟩
    have hb3 := below_draw hb2 hg hg3
    obtain ⟨k, rfl⟩ := Int.eq_ofNat_of_zero_le hv0
    have HS3 : Hid (Src w3 B g) := hs3
    clear hs3 hg3 hz3 HS2
    go_wp2_with fail
    refine (bytes_any g B k (by omega) _ HS3.out hBg).mono ?_
    rintro e w4 ⟨t, rfl, ht, hs4, hg4⟩
    have hb4 := below_draw hb3 hg hg4
    clear hs4 hg4
    go_wp2
    go_ret
    exact ⟨t, rfl, by omega, hb4⟩

set_option maxHeartbeats 1000000 in
theorem drawCrcMore_any (B : Nat) (ao : Option Addr) (len cap : Nat) (zs : List Int) (w : World) (hB : B ≤ w.heap.size) (hl : len ≤ 1048576) (hr : ByteRow w B ao len zs) :
    Calls Try.prog 16 #[.slice ao len cap] w fun e w' => ∃ (c : Int) (u : ByteArray), e = .returned (.tuple #[.int .i64 c, .string u]) ∧ u.size ≤ 20000 ∧ Below w.heap.size w w' := by
  have HR : Hid (ByteRow w B ao len zs) := hr
  clear hr
  go_enter Try.func16, Try.ntmps16
  go_wp2_with fail
  refine (source_any B ao len cap zs _ hB hl HR.out).mono ?_
  rintro e w1 ⟨g, rfl, hg, hs1, hb1⟩
  have hBg : B ≤ g := by omega
  have HS1 : Hid (Src w1 B g) := hs1
  clear hs1
  go_wp2_with fail
  refine (n_any g B 9 (by omega) (by omega) _ HS1.out hBg).mono ?_
  rintro e w2 ⟨v, rfl, hv0, hv1, hs2, hg2, hz2⟩
  have hb2 := below_draw hb1 hg hg2
  obtain ⟨k, rfl⟩ := Int.eq_ofNat_of_zero_le hv0
  have HS2 : Hid (Src w2 B g) := hs2
  clear hs2 hg2 hz2 HS1
  go_wp2_with fail
  refine (bytes_any g B k (by omega) _ HS2.out hBg).mono ?_
  rintro e w3 ⟨u, rfl, hu, hs3, hg3⟩
  have hb3 := below_draw hb2 hg hg3
  have HS3 : Hid (Src w3 B g) := hs3
  clear hs3 hg3 HS2
  go_wp2_with fail
  refine (one_any g B 5 (by omega) (by omega) _ HS3.out hBg).mono ?_
  rintro e w4 ⟨b, rfl, hs4, hg4, hz4⟩
  have hb4 := below_draw hb3 hg hg4
  have HS4 : Hid (Src w4 B g) := hs4
  clear hs4 hg4 hz4 HS3
  cases b with
  | true =>
    go_wp2_with fail
    refine (edge_any g B _ HS4.out hBg).mono ?_
    rintro e w5 ⟨c, rfl, _, _, hs5, hg5⟩
    have hb5 := below_draw hb4 hg hg5
    clear hs5 hg5
    go_wp2
    go_ret2
    exact ⟨c, u, rfl, by omega, hb5⟩
  | false =>
    go_wp2_with fail
    refine (n_any g B 9 (by omega) (by omega) _ HS4.out hBg).mono ?_
    rintro e w5 ⟨v, rfl, hv0', hv1', hs5, hg5, hz5⟩
    have hb5 := below_draw hb4 hg hg5
    obtain ⟨j, rfl⟩ := Int.eq_ofNat_of_zero_le hv0'
    have HS5 : Hid (Src w5 B g) := hs5
    clear hs5 hg5 hz5
    go_wp2_with fail
    refine (bytes_any g B j (by omega) _ HS5.out hBg).mono ?_
    rintro e w6 ⟨t, rfl, ht, hs6, hg6⟩
    have hb6 := below_draw hb5 hg hg6
    clear hs6 hg6
    go_wp2_with fail
    refine (specCrcT_any t _).mono ?_
    rintro e w7 ⟨rfl, rfl⟩
    go_wp2
    go_ret2
    exact ⟨_, u, rfl, by omega, hb6⟩

/-- lwAt: a number below most. -/
theorem lwAt_any (B : Nat) (ao : Option Addr) (len cap : Nat) (zs : List Int) (q : Int) (hp0 : 0 ≤ q) (most : Int) (hm : 1 < most) (hm2 : most ≤ 9223372036854775807) (w : World) (hl : len ≤ 1048576) (hr : ByteRow w B ao len zs) :
    Calls Try.prog 14 #[.slice ao len cap, .int .i64 q, .int .i64 most] w fun e w' => ∃ v : Int, e = .returned (.int .i64 v) ∧ 0 ≤ v ∧ v < most ∧ w' = w := by
  obtain ⟨p, rfl⟩ := Int.eq_ofNat_of_zero_le hp0
  by_cases h0 : len = 0
  · subst h0
    go_enter Try.func14, Try.ntmps14
    go_wp2
    go_ret
    exact ⟨0, rfl, by omega, by omega, rfl⟩
  · rcases hr.2 with h | ⟨b, off, rfl, hbB, hc⟩
    · omega
    · have hq0 : 0 ≤ (p : Int) % len := Int.emod_nonneg _ (by omega)
      have hq1 : (p : Int) % len < len := Int.emod_lt_of_pos _ (by omega)
      have hpm : p % len < len := Nat.mod_lt _ (by omega)
      have hcb := hc (p % len) hpm
      have hz := hr.1 (p % len)
      have hne : ((len : Int) == 0) = false := by simp; omega
      have e1 : (p : Int) % len = ((p % len : Nat) : Int) := by simp
      generalize zs.getD (p % len) 0 = z at *
      generalize hP : p % len = pp at *
      have hr0 := Int.emod_nonneg z (show most ≠ 0 by omega)
      have hr1 := Int.emod_lt_of_pos z (show 0 < most by omega)
      clear hc hP hr
      go_enter Try.func14, Try.ntmps14
      go_wp2
      go_ret
      exact ⟨_, rfl, hr0, hr1, rfl⟩
end Go.Proofs.Ytbainombjfginaa
