/-
  Contract: readNum.
-/
import Derived.Test.YtbainombjfginaaDoorFault
import Derived.Test.YtbainombjfginaaDoorJumps
import Derived.Test.YtbainombjfginaaDoorGetPlain
import Derived.Outline
namespace Go.Proofs.YtbainombjfginaaDoor
open Go.RowKit

def errV (c : Nat) : Value := if c = 0 then .nilIface else faultV c
def behind (at' : Nat) (r : Int × Nat × Nat) : Int := if r.2.2 = 0 then ((at' + r.2.1 : Nat) : Int) else 0

def RJ0 (s : ByteArray) (p : Nat) (w : World) : Act → World → Prop := fun a' w' => w' = w ∧ ∃ (k u : Nat) (at' kk : Int) (u8 u10 u11 u12 u13 u14 u15 u16 u17 u18 u19 u20 u21 u22 u23 u24 u25 u26 u27 u28 u29 u30 u31 u32 u33 u34 u35 u36 u37 u38 : Value), a' = ⟨#[.string s, .int .i64 at', undef, undef, .int .i64 0, .int .i64 0, .nilIface, .int .u64 (u : Nat), u8, .int .i64 kk, u10, u11, u12, u13, u14, u15, u16, u17, u18, u19, u20, u21, u22, u23, u24, u25, u26, u27, u28, u29, u30, u31, u32, u33, u34, u35, u36, u37, u38, undef, undef, undef, undef, undef, undef, undef, undef, undef, undef, undef, undef, undef, undef, undef, undef, undef], []⟩ ∧ at' = (p : Int) + k ∧ kk = (k : Int) ∧ k ≤ 9 ∧ Hid (u < 2 ^ (7 * k)) ∧ Hid (rdAt s.data.toList p = rd k u (s.data.toList.drop (p + k)))
def RJ1 (s : ByteArray) (p : Nat) (w : World) : Act → World → Prop := fun a' w' => w' = w ∧ ∃ (u1 u2 u3 u4 u5 u6 u7 u8 u9 u10 u11 u12 u13 u14 u15 u16 u17 u18 u19 u20 u21 u22 u23 u24 u25 u26 u27 u28 u29 u30 u31 u32 u33 u34 u35 u36 u37 u38 u39 u40 u41 u42 u43 u44 u45 u46 u47 u48 u49 u50 u51 u52 u53 : Value), a' = ⟨#[.string s, u1, u2, u3, u4, u5, u6, u7, u8, u9, u10, u11, u12, u13, u14, u15, u16, u17, u18, u19, u20, u21, u22, u23, u24, u25, u26, u27, u28, u29, u30, u31, u32, u33, u34, u35, u36, u37, u38, u39, u40, u41, u42, u43, u44, u45, u46, u47, u48, u49, u50, u51, u52, u53, undef, undef], []⟩ ∧ Hid (rdAt s.data.toList p = (0, 0, 3))
def RJ2 (s : ByteArray) (p : Nat) (w : World) : Act → World → Prop := fun a' w' => w' = w ∧ ∃ (k u b : Nat) (at' kk : Int) (u10 u11 u12 u13 u14 u15 u16 u17 u18 u19 u20 u21 u22 u23 u24 u25 u26 u27 u28 u29 u30 u31 u32 u33 u34 u35 u36 u37 u38 : Value), a' = ⟨#[.string s, .int .i64 at', undef, undef, .int .i64 0, .int .i64 0, .nilIface, .int .u64 (u : Nat), .int .u8 (b : Nat), .int .i64 kk, u10, u11, u12, u13, u14, u15, u16, u17, u18, u19, u20, u21, u22, u23, u24, u25, u26, u27, u28, u29, u30, u31, u32, u33, u34, u35, u36, u37, u38, undef, undef, undef, undef, undef, undef, undef, undef, undef, undef, undef, undef, undef, undef, undef, undef, undef], []⟩ ∧ at' = (p : Int) + k + 1 ∧ kk = (k : Int) + 1 ∧ k ≤ 9 ∧ p + k + 1 ≤ s.size ∧ b < 128 ∧ Hid (u < 18446744073709551616) ∧ Hid (b = 0 ∧ 0 < k → rdAt s.data.toList p = (0, 0, 3)) ∧ Hid (¬ (b = 0 ∧ 0 < k) → rdAt s.data.toList p = (unz u, k + 1, 0))
set_option maxRecDepth 1000000 in
set_option maxHeartbeats 4000000 in
theorem readNum_any (s : ByteArray) (p : Nat) (hs : s.size ≤ 20000) (w : World) :
    Calls Tryd.prog 23 #[.string s, .int .i64 p] w fun e w' => e = .returned (.tuple #[.int .i64 (rdAt s.data.toList p).1, .int .i64 (behind p (rdAt s.data.toList p)), errV (rdAt s.data.toList p).2.2]) ∧ w' = w := by
  go_enter Tryd.func23, Tryd.ntmps23
  go_wp2
  refine wp_scope_three (RJ0 s p w) (RJ1 s p w) (RJ2 s p w) (fun a' _ => 10 - (intOf (a'.tmps.getD 9 undef)).toNat) rfl rfl rfl ?_ ?_ ?_ ?_
  · by_cases hlt : p < s.size
    · have hbl : s[p].toNat < 256 := s[p].toNat_lt
      have hand := u8_and127 s[p].toNat hbl
      have hor := or_first s[p].toNat
      have HD : Hid (s.data.toList.drop p = s[p] :: s.data.toList.drop (p + 1)) := drop_cons s p hlt
      by_cases hb : s[p].toNat < 128
      · have HV : Hid (rdAt s.data.toList p = (unz (s[p].toNat % 128), 1, 0)) := by
          show rd 0 0 _ = _
          rw [HD.out, rd_last (by omega) hb (by omega)]; simp
        have hu2 : s[p].toNat % 128 < 18446744073709551616 := by omega
        have HU2 : Hid (s[p].toNat % 128 < 18446744073709551616) := hu2
        clear hu2
        generalize s[p].toNat % 128 = u2 at hor HV HU2
        go_wp2
        go_step3
        go_wp2
        go_step3
        show RJ2 s p w _ _
        exact ⟨rfl, 0, u2, s[p].toNat, _, _, _, _, _, _, _, _, _, _, _, _, _, _, _, _, _, _, _, _, _, _, _, _, _, _, _, _, _, _, _, rfl, by simp, by simp, by omega, by omega, hb, HU2, fun h => absurd h.2 (by omega), fun _ => HV.out⟩
      · have HV : Hid (rdAt s.data.toList p = rd 1 (s[p].toNat % 128) (s.data.toList.drop (p + 1))) := by
          show rd 0 0 _ = _
          rw [HD.out, rd_more (by omega) hb]; simp
        have HU2 : Hid (s[p].toNat % 128 < 2 ^ (7 * 1)) := by show _ < _; omega
        generalize s[p].toNat % 128 = u2 at hor HV HU2
        go_wp2
        go_step3
        go_wp2
        go_step3
        show RJ0 s p w _ _
        exact ⟨rfl, 1, u2, _, _, _, _, _, _, _, _, _, _, _, _, _, _, _, _, _, _, _, _, _, _, _, _, _, _, _, _, _, _, _, _, rfl, by simp, by simp, by omega, HU2, HV⟩
    · have HF : Hid (rdAt s.data.toList p = (0, 0, 4)) := by
        show rd 0 0 _ = _
        rw [drop_none _ _ (by omega), rd_short]
      go_wp2
      go_step3
      go_wp2
      rw [jump3_ret]
      go_ret3
      exact ⟨by rw [HF.out]; rfl, rfl⟩
  · rintro a' w' ⟨rfl, k, u, at', kk, u8, u10, u11, u12, u13, u14, u15, u16, u17, u18, u19, u20, u21, u22, u23, u24, u25, u26, u27, u28, u29, u30, u31, u32, u33, u34, u35, u36, u37, u38, rfl, rfl, rfl, hk, HU, HR⟩
    by_cases hlt : p + k < s.size
    · have hbl : s[p + k].toNat < 256 := s[p + k].toNat_lt
      have hand := u8_and127 s[p + k].toNat hbl
      have HD : Hid (s.data.toList.drop (p + k) = s[p + k] :: s.data.toList.drop (p + k + 1)) := drop_cons s (p + k) hlt
      by_cases hA : k = 9 ∧ 1 < s[p + k].toNat
      · have HF : Hid (rdAt s.data.toList p = (0, 0, 3)) := by
          show _ = _
          rw [HR.out, HD.out, rd_big hA.1 hA.2]
        have h9 : 9 ≤ k := by omega
        have h1 := hA.2
        clear hA HR HD HU
        go_wp2
        go_step3
        show RJ1 s p w' _ _
        exact ⟨rfl, _, _, _, _, _, _, _, _, _, _, _, _, _, _, _, _, _, _, _, _, _, _, _, _, _, _, _, _, _, _, _, _, _, _, _, _, _, _, _, _, _, _, _, _, _, _, _, _, _, _, _, _, _, rfl, HF⟩
      · have hpl := prod_lt hk hA
        have hor := or_u64 HU.out hpl hk
        by_cases hb : s[p + k].toNat < 128
        · have HZ : Hid (s[p + k].toNat = 0 ∧ 0 < k → rdAt s.data.toList p = (0, 0, 3)) := fun h => by rw [HR.out, HD.out, rd_nought h.2 h.1]
          have HV : Hid (¬ (s[p + k].toNat = 0 ∧ 0 < k) → rdAt s.data.toList p = (unz (u + s[p + k].toNat % 128 * 2 ^ (7 * k)), k + 1, 0)) := fun h => by rw [HR.out, HD.out, rd_last hA hb h]
          have HU2 : Hid (u + s[p + k].toNat % 128 * 2 ^ (7 * k) < 18446744073709551616) := by
            show _ < _
            have := pow_le hk
            have := HU.out
            rcases Nat.lt_or_ge k 9 with h9 | h9
            · have := next_lt (b := s[p + k].toNat) HU.out
              have := pow_le (k := k + 1) (by omega)
              omega
            · obtain rfl : k = 9 := by omega
              have h1 : ¬ 1 < s[p + 9].toNat := fun h => hA ⟨rfl, h⟩
              have : s[p + 9].toNat % 128 ≤ 1 := by omega
              have : s[p + 9].toNat % 128 * 2 ^ (7 * 9) ≤ 1 * 2 ^ (7 * 9) := Nat.mul_le_mul_right _ this
              omega
          generalize u + s[p + k].toNat % 128 * 2 ^ (7 * k) = u2 at hor HV HU2
          clear hpl HR HD HU
          have hA' : ((k : Int) + 1 == 10 && decide (1 < (s[p + k].toNat : Int))) = false := by
            rw [Bool.and_eq_false_iff]
            by_cases h9 : k = 9
            · right; have : ¬ 1 < s[p + k].toNat := fun h => hA ⟨h9, h⟩
              simp; omega
            · left; simp; omega
          rcases Nat.lt_or_ge k 9 with h9 | h9
          · go_wp2
            go_step3
            show RJ2 s p w' _ _
            exact ⟨rfl, k, u2, s[p + k].toNat, _, _, _, _, _, _, _, _, _, _, _, _, _, _, _, _, _, _, _, _, _, _, _, _, _, _, _, _, _, _, _, rfl, rfl, rfl, hk, by omega, hb, HU2, HZ, HV⟩
          · have h1 : ¬ 1 < s[p + k].toNat := fun h => hA ⟨by omega, h⟩
            clear hA' hA
            go_wp2
            go_step3
            show RJ2 s p w' _ _
            exact ⟨rfl, k, u2, s[p + k].toNat, _, _, _, _, _, _, _, _, _, _, _, _, _, _, _, _, _, _, _, _, _, _, _, _, _, _, _, _, _, _, _, rfl, by omega, by omega, hk, by omega, hb, HU2, HZ, HV⟩
        · have hk8 : k < 9 := by
            rcases Nat.lt_or_ge k 9 with h9 | h9
            · exact h9
            · exact absurd ⟨by omega, by omega⟩ hA
          have HU2 : Hid (u + s[p + k].toNat % 128 * 2 ^ (7 * k) < 2 ^ (7 * (k + 1))) := next_lt HU.out
          have HR2 : Hid (rdAt s.data.toList p = rd (k + 1) (u + s[p + k].toNat % 128 * 2 ^ (7 * k)) (s.data.toList.drop (p + (k + 1)))) := by
            show _ = _
            rw [HR.out, HD.out, rd_more (by omega) hb]; rfl
          generalize u + s[p + k].toNat % 128 * 2 ^ (7 * k) = u2 at hor HU2 HR2
          clear hpl HR HD HU hA
          go_wp2
          go_step3
          show RJ0 s p w' _ _ ∧ _
          exact ⟨⟨rfl, k + 1, u2, _, _, _, _, _, _, _, _, _, _, _, _, _, _, _, _, _, _, _, _, _, _, _, _, _, _, _, _, _, _, _, _, rfl, by omega, by omega, by omega, HU2, HR2⟩, by simp [intOf]; omega⟩
    · have HF : Hid (rdAt s.data.toList p = (0, 0, 4)) := by
        show _ = _
        rw [HR.out, drop_none _ _ (by omega), rd_short]
      go_wp2
      rw [jump3_ret]
      go_ret3
      exact ⟨by rw [HF.out]; rfl, rfl⟩
  · rintro a' w' ⟨rfl, k, u, b, at', kk, u10, u11, u12, u13, u14, u15, u16, u17, u18, u19, u20, u21, u22, u23, u24, u25, u26, u27, u28, u29, u30, u31, u32, u33, u34, u35, u36, u37, u38, rfl, rfl, rfl, hk, hle, hb, HU, HZ, HV⟩
    by_cases hz : b = 0 ∧ 0 < k
    · have HF : Hid (rdAt s.data.toList p = (0, 0, 3)) := HZ.out hz
      obtain ⟨rfl, hk0⟩ := hz
      clear HZ HV HU
      go_wp2
      go_step3
      show RJ1 s p w' _ _
      exact ⟨rfl, _, _, _, _, _, _, _, _, _, _, _, _, _, _, _, _, _, _, _, _, _, _, _, _, _, _, _, _, _, _, _, _, _, _, _, _, _, _, _, _, _, _, _, _, _, _, _, _, _, _, _, _, _, rfl, HF⟩
    · have HF : Hid (rdAt s.data.toList p = (unz u, k + 1, 0)) := HV.out hz
      have hu : u < 18446744073709551616 := HU.out
      have ha1 := u64_and1 u hu
      have hcon : ((b : Int) == 0 && decide (1 < (k : Int) + 1)) = false := by
        rw [Bool.and_eq_false_iff]
        by_cases hb0 : b = 0
        · right; have : ¬ 0 < k := fun h => hz ⟨hb0, h⟩
          simp; omega
        · left; simp; omega
      clear HZ HV HU
      rcases Nat.mod_two_eq_zero_or_one u with hm | hm
      · have HX : Hid (bits .xor .i64 ((u : Int) / 2) 0 = unz u) := unz_even hu (by omega)
        rw [hm] at ha1
        go_wp2
        all_goals
          rw [jump3_ret]
          go_ret3
          exact ⟨ret3n (by rw [HF.out]; exact HX.out) (by rw [HF.out]; simp [behind]; omega) (by rw [HF.out]; rfl), rfl⟩
      · have HX : Hid (bits .xor .i64 ((u : Int) / 2) (-1) = unz u) := unz_odd hu hm
        rw [hm] at ha1
        go_wp2
        all_goals
          rw [jump3_ret]
          go_ret3
          exact ⟨ret3n (by rw [HF.out]; exact HX.out) (by rw [HF.out]; simp [behind]; omega) (by rw [HF.out]; rfl), rfl⟩
  · rintro a' w' ⟨rfl, u1, u2, u3, u4, u5, u6, u7, u8, u9, u10, u11, u12, u13, u14, u15, u16, u17, u18, u19, u20, u21, u22, u23, u24, u25, u26, u27, u28, u29, u30, u31, u32, u33, u34, u35, u36, u37, u38, u39, u40, u41, u42, u43, u44, u45, u46, u47, u48, u49, u50, u51, u52, u53, rfl, HF⟩
    go_wp2
    rw [jump3_ret]
    go_ret3
    exact ⟨by rw [HF.out]; rfl, rfl⟩
end Go.Proofs.YtbainombjfginaaDoor
