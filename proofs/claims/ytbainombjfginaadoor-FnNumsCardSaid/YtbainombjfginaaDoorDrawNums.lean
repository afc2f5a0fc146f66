/-
  Contracts: the draws of the law on numbers and texts.
-/
import Derived.Test.YtbainombjfginaaDoorDrawMake
namespace Go.Proofs.YtbainombjfginaaDoor
open Go.RowKit

theorem l01Any_any (g B : Nat) (w : World) (hs : Src w B g) (hB : B ≤ g) :
    Calls Tryd.prog 19 #[.pointer (some ⟨g, 0, none⟩)] w fun e w' => ∃ v : Int, e = .returned (.int .i64 v) ∧ -9223372036854775808 ≤ v ∧ v ≤ 9223372036854775807 ∧ Src w' B g ∧ w.grownBy w' (some g) := by
  have HS : Hid (Src w B g) := hs
  clear hs
  go_enter Tryd.func19, Tryd.ntmps19
  go_wp2_with fail
  refine (one_any g B 4 (by omega) (by omega) _ HS.out hB).mono ?_
  rintro e w1 ⟨b, rfl, hs1, hg1, hz1⟩
  have HS1 : Hid (Src w1 B g) := hs1
  have HG1 : Hid (w.grownBy w1 (some g)) := hg1
  clear hs1 hg1 hz1
  cases b with
  | true =>
    go_wp2_with fail
    refine (edge_any g B _ HS1.out hB).mono ?_
    rintro e w2 ⟨v, rfl, hv0, hv1, hs2, hg2⟩
    have H : Hid (-9223372036854775808 ≤ v ∧ v ≤ 9223372036854775807 ∧ Src w2 B g ∧ w.grownBy w2 (some g)) := ⟨hv0, hv1, hs2, grown_trans HG1.out hg2 (fun j hj => .inl (by simpa using hj.symm))⟩
    clear hv0 hv1 hs2 hg2
    go_wp2
    go_ret
    exact ⟨v, rfl, H.out⟩
  | false =>
    go_wp2_with fail
    refine (n_any g B 1099511627776 (by omega) (by omega) _ HS1.out hB).mono ?_
    rintro e w2 ⟨v, rfl, hv0, hv1, hs2, hg2, hz2⟩
    have H : Hid (Src w2 B g ∧ w.grownBy w2 (some g)) := ⟨hs2, grown_trans HG1.out hg2 (fun j hj => .inl (by simpa using hj.symm))⟩
    clear hs2 hg2 hz2
    go_wp2
    go_ret
    exact ⟨v - 1048576, rfl, by omega, by omega, H.out⟩

theorem drawPutNum_any (B : Nat) (ao : Option Addr) (len cap : Nat) (zs : List Int) (w : World) (hB : B ≤ w.heap.size) (hl : len ≤ 1048576) (hr : ByteRow w B ao len zs) :
    Calls Tryd.prog 6 #[.slice ao len cap] w fun e w' => ∃ v : Int, e = .returned (.int .i64 v) ∧ -9223372036854775808 ≤ v ∧ v ≤ 9223372036854775807 ∧ Below w.heap.size w w' := by
  have HR : Hid (ByteRow w B ao len zs) := hr
  clear hr
  go_enter Tryd.func6, Tryd.ntmps6
  go_wp2_with fail
  refine (source_any B ao len cap zs _ hB hl HR.out).mono ?_
  rintro e w1 ⟨g, rfl, hg, hs1, hb1⟩
  have hBg : B ≤ g := by omega
  have HS1 : Hid (Src w1 B g) := hs1
  clear hs1
  go_wp2_with fail
  refine (l01Any_any g B _ HS1.out hBg).mono ?_
  rintro e w2 ⟨v, rfl, hv0, hv1, hs2, hg2⟩
  have H : Hid (-9223372036854775808 ≤ v ∧ v ≤ 9223372036854775807 ∧ Below w.heap.size w w2) := ⟨hv0, hv1, below_draw hb1 hg hg2⟩
  clear hs2 hg2 hv0 hv1
  go_wp2
  go_ret
  exact ⟨v, rfl, H.out⟩

set_option maxHeartbeats 1000000 in
theorem drawPutText_any (B : Nat) (ao : Option Addr) (len cap : Nat) (zs : List Int) (w : World) (hB : B ≤ w.heap.size) (hl : len ≤ 1048576) (hr : ByteRow w B ao len zs) :
    Calls Tryd.prog 10 #[.slice ao len cap] w fun e w' => ∃ t : ByteArray, e = .returned (.string t) ∧ t.size ≤ 1000000 ∧ Below w.heap.size w w' := by
  obtain ⟨i0, hi, hz0, hz1, hz2⟩ := info_parts Tryd.infoU8
  have HR : Hid (ByteRow w B ao len zs) := hr
  clear hr
  go_enter Tryd.func10, Tryd.ntmps10
  go_wp2_with fail
  refine (source_any B ao len cap zs _ hB hl HR.out).mono ?_
  rintro e w1 ⟨g, rfl, hg, hs1, hb1⟩
  have hBg : B ≤ g := by omega
  have HS1 : Hid (Src w1 B g) := hs1
  clear hs1
  go_wp2_with fail
  refine (one_any g B 8 (by omega) (by omega) _ HS1.out hBg).mono ?_
  rintro e w2 ⟨b, rfl, hs2, hg2, hz2'⟩
  have hb2 := below_draw hb1 hg hg2
  have HS2 : Hid (Src w2 B g) := hs2
  clear hs2 hg2 hz2' HS1
  cases b with
  | true =>
    go_wp2_with fail
    refine (n_any g B 3 (by omega) (by omega) _ HS2.out hBg).mono ?_
    rintro e w3 ⟨v, rfl, hv0, hv1, hs3, hg3, hz3⟩
    have hb3 := below_draw hb2 hg hg3
    obtain ⟨k, rfl⟩ := Int.eq_ofNat_of_zero_le hv0
    have hzw := hb3.size
    clear hs3 hg3 hz3 HS2
    go_wp2_with (at_make; refine wpList_make_full _ rfl _ _ 22 rfl w3.heap.size 5 i0 (.int .u8 0) 1 Tryd.underlying22 hi hz0 hz1 .i64 .i64 _ _ (19999 + k) rfl rfl (by omega) (by omega) (by rw [hz2]; omega) (by unfold maxLen; omega) (Nat.le_refl _) ?_; intro w4 hown4 hgrow4; obtain ⟨t, ht, hcv⟩ := ownsStr hown4 (made_bytes _))
    have hb4 := hb3.grown hgrow4 hzw (fun j hj => by simp at hj)
    clear hown4 hgrow4
    go_ret
    exact ⟨t, rfl, by omega, hb4⟩
  | false =>
    go_wp2_with fail
    refine (n_any g B 20 (by omega) (by omega) _ HS2.out hBg).mono ?_
    rintro e w3 ⟨v, rfl, hv0, hv1, hs3, hg3, hz3⟩
    have hb3 := below_draw hb2 hg hg3
    obtain ⟨k, rfl⟩ := Int.eq_ofNat_of_zero_le hv0
    have HS3 : Hid (Src w3 B g) := hs3
    clear hs3 hg3 hz3 HS2
    go_wp2_with fail
    refine (bytes_any g B k (by omega) _ HS3.out hBg).mono ?_
    rintro e w4 ⟨t, rfl, ht, hs4, hg4⟩
    have hb4 := below_draw hb3 hg hg4
    clear hs4 hg4
    go_wp2
    go_ret
    exact ⟨t, rfl, by omega, hb4⟩
end Go.Proofs.YtbainombjfginaaDoor
