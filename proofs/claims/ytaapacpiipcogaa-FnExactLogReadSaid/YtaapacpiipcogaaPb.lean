/-
  Contracts and plain laws, part 2 of 8: ReadNum, Out3, OutN, GetDef, GetText, OutT, GetDefT, RdSt, LgP, GrowG, Skips, RdG, GetNumS, GetTextS, RdS, RdSA
-/
import Derived.Outline
import Derived.WalkKit
import Derived.Test.YtaapacpiipcogaaRows
import Derived.Below
import Derived.Maps.AppendAt
import Derived.WalkLawsBesides
import Derived.Deep.RegionHeld3
import Derived.Deep.DrawnRows
import Derived.Test.YtaapacpiipcogaaPa

/-
  Contract: readNum.
-/
namespace Go.Proofs.Ytaapacpiipcogaa
open Go.RowKit

def errV (c : Nat) : Value := if c = 0 then .nilIface else faultV c
def behind (at' : Nat) (r : Int × Nat × Nat) : Int := if r.2.2 = 0 then ((at' + r.2.1 : Nat) : Int) else 0

def RJ0 (s : ByteArray) (p : Nat) (w : World) : Act → World → Prop := fun a' w' => w' = w ∧ ∃ (k u : Nat) (at' kk : Int) (u8 u10 u11 u12 u13 u14 u15 u16 u17 u18 u19 u20 u21 u22 u23 u24 u25 u26 u27 u28 u29 u30 u31 u32 u33 u34 u35 u36 u37 u38 : Value), a' = ⟨#[.string s, .int .i64 at', undef, undef, .int .i64 0, .int .i64 0, .nilIface, .int .u64 (u : Nat), u8, .int .i64 kk, u10, u11, u12, u13, u14, u15, u16, u17, u18, u19, u20, u21, u22, u23, u24, u25, u26, u27, u28, u29, u30, u31, u32, u33, u34, u35, u36, u37, u38, undef, undef, undef, undef, undef, undef, undef, undef, undef, undef, undef, undef, undef, undef, undef, undef, undef], []⟩ ∧ at' = (p : Int) + k ∧ kk = (k : Int) ∧ k ≤ 9 ∧ Hid (u < 2 ^ (7 * k)) ∧ Hid (rdAt s.data.toList p = rd k u (s.data.toList.drop (p + k)))
def RJ1 (s : ByteArray) (p : Nat) (w : World) : Act → World → Prop := fun a' w' => w' = w ∧ ∃ (u1 u2 u3 u4 u5 u6 u7 u8 u9 u10 u11 u12 u13 u14 u15 u16 u17 u18 u19 u20 u21 u22 u23 u24 u25 u26 u27 u28 u29 u30 u31 u32 u33 u34 u35 u36 u37 u38 u39 u40 u41 u42 u43 u44 u45 u46 u47 u48 u49 u50 u51 u52 u53 : Value), a' = ⟨#[.string s, u1, u2, u3, u4, u5, u6, u7, u8, u9, u10, u11, u12, u13, u14, u15, u16, u17, u18, u19, u20, u21, u22, u23, u24, u25, u26, u27, u28, u29, u30, u31, u32, u33, u34, u35, u36, u37, u38, u39, u40, u41, u42, u43, u44, u45, u46, u47, u48, u49, u50, u51, u52, u53, undef, undef], []⟩ ∧ Hid (rdAt s.data.toList p = (0, 0, 3))
def RJ2 (s : ByteArray) (p : Nat) (w : World) : Act → World → Prop := fun a' w' => w' = w ∧ ∃ (k u b : Nat) (at' kk : Int) (u10 u11 u12 u13 u14 u15 u16 u17 u18 u19 u20 u21 u22 u23 u24 u25 u26 u27 u28 u29 u30 u31 u32 u33 u34 u35 u36 u37 u38 : Value), a' = ⟨#[.string s, .int .i64 at', undef, undef, .int .i64 0, .int .i64 0, .nilIface, .int .u64 (u : Nat), .int .u8 (b : Nat), .int .i64 kk, u10, u11, u12, u13, u14, u15, u16, u17, u18, u19, u20, u21, u22, u23, u24, u25, u26, u27, u28, u29, u30, u31, u32, u33, u34, u35, u36, u37, u38, undef, undef, undef, undef, undef, undef, undef, undef, undef, undef, undef, undef, undef, undef, undef, undef, undef], []⟩ ∧ at' = (p : Int) + k + 1 ∧ kk = (k : Int) + 1 ∧ k ≤ 9 ∧ p + k + 1 ≤ s.size ∧ b < 128 ∧ Hid (u < 18446744073709551616) ∧ Hid (b = 0 ∧ 0 < k → rdAt s.data.toList p = (0, 0, 3)) ∧ Hid (¬ (b = 0 ∧ 0 < k) → rdAt s.data.toList p = (unz u, k + 1, 0))
set_option maxRecDepth 1000000 in
set_option maxHeartbeats 4000000 in
theorem readNum_big (s : ByteArray) (p : Nat) (hs : s.size ≤ 1048576) (w : World) :
    Calls Try.prog 98 #[.string s, .int .i64 p] w fun e w' => e = .returned (.tuple #[.int .i64 (rdAt s.data.toList p).1, .int .i64 (behind p (rdAt s.data.toList p)), errV (rdAt s.data.toList p).2.2]) ∧ w' = w := by
  go_enter Try.func98, Try.ntmps98
  go_wp2
  refine wp_scope_three (RJ0 s p w) (RJ1 s p w) (RJ2 s p w) (fun a' _ => 10 - (intOf (a'.tmps.getD 9 undef)).toNat) rfl rfl rfl ?_ ?_ ?_ ?_
  · by_cases hlt : p < s.size
    · have hbl : s[p].toNat < 256 := s[p].toNat_lt
      have hand := u8_and127 s[p].toNat hbl
      have hor := or_first s[p].toNat
      have HD : Hid (s.data.toList.drop p = s[p] :: s.data.toList.drop (p + 1)) := drop_cons s p hlt
      by_cases hb : s[p].toNat < 128
      · have HV : Hid (rdAt s.data.toList p = (unz (s[p].toNat % 128), 1, 0)) := by
          show rd 0 0 _ = _
          rw [HD.out, rd_last (by omega) hb (by omega)]; simp
        have hu2 : s[p].toNat % 128 < 18446744073709551616 := by omega
        have HU2 : Hid (s[p].toNat % 128 < 18446744073709551616) := hu2
        clear hu2
        generalize s[p].toNat % 128 = u2 at hor HV HU2
        go_wp2
        go_step3
        go_wp2
        go_step3
        show RJ2 s p w _ _
        exact ⟨rfl, 0, u2, s[p].toNat, _, _, _, _, _, _, _, _, _, _, _, _, _, _, _, _, _, _, _, _, _, _, _, _, _, _, _, _, _, _, _, rfl, by simp, by simp, by omega, by omega, hb, HU2, fun h => absurd h.2 (by omega), fun _ => HV.out⟩
      · have HV : Hid (rdAt s.data.toList p = rd 1 (s[p].toNat % 128) (s.data.toList.drop (p + 1))) := by
          show rd 0 0 _ = _
          rw [HD.out, rd_more (by omega) hb]; simp
        have HU2 : Hid (s[p].toNat % 128 < 2 ^ (7 * 1)) := by show _ < _; omega
        generalize s[p].toNat % 128 = u2 at hor HV HU2
        go_wp2
        go_step3
        go_wp2
        go_step3
        show RJ0 s p w _ _
        exact ⟨rfl, 1, u2, _, _, _, _, _, _, _, _, _, _, _, _, _, _, _, _, _, _, _, _, _, _, _, _, _, _, _, _, _, _, _, _, rfl, by simp, by simp, by omega, HU2, HV⟩
    · have HF : Hid (rdAt s.data.toList p = (0, 0, 4)) := by
        show rd 0 0 _ = _
        rw [drop_none _ _ (by omega), rd_short]
      go_wp2
      go_step3
      go_wp2
      rw [jump3_ret]
      go_ret3
      exact ⟨by rw [HF.out]; rfl, rfl⟩
  · rintro a' w' ⟨rfl, k, u, at', kk, u8, u10, u11, u12, u13, u14, u15, u16, u17, u18, u19, u20, u21, u22, u23, u24, u25, u26, u27, u28, u29, u30, u31, u32, u33, u34, u35, u36, u37, u38, rfl, rfl, rfl, hk, HU, HR⟩
    by_cases hlt : p + k < s.size
    · have hbl : s[p + k].toNat < 256 := s[p + k].toNat_lt
      have hand := u8_and127 s[p + k].toNat hbl
      have HD : Hid (s.data.toList.drop (p + k) = s[p + k] :: s.data.toList.drop (p + k + 1)) := drop_cons s (p + k) hlt
      by_cases hA : k = 9 ∧ 1 < s[p + k].toNat
      · have HF : Hid (rdAt s.data.toList p = (0, 0, 3)) := by
          show _ = _
          rw [HR.out, HD.out, rd_big hA.1 hA.2]
        have h9 : 9 ≤ k := by omega
        have h1 := hA.2
        clear hA HR HD HU
        go_wp2
        go_step3
        show RJ1 s p w' _ _
        exact ⟨rfl, _, _, _, _, _, _, _, _, _, _, _, _, _, _, _, _, _, _, _, _, _, _, _, _, _, _, _, _, _, _, _, _, _, _, _, _, _, _, _, _, _, _, _, _, _, _, _, _, _, _, _, _, _, rfl, HF⟩
      · have hpl := prod_lt hk hA
        have hor := or_u64 HU.out hpl hk
        by_cases hb : s[p + k].toNat < 128
        · have HZ : Hid (s[p + k].toNat = 0 ∧ 0 < k → rdAt s.data.toList p = (0, 0, 3)) := fun h => by rw [HR.out, HD.out, rd_nought h.2 h.1]
          have HV : Hid (¬ (s[p + k].toNat = 0 ∧ 0 < k) → rdAt s.data.toList p = (unz (u + s[p + k].toNat % 128 * 2 ^ (7 * k)), k + 1, 0)) := fun h => by rw [HR.out, HD.out, rd_last hA hb h]
          have HU2 : Hid (u + s[p + k].toNat % 128 * 2 ^ (7 * k) < 18446744073709551616) := by
            show _ < _
            have := pow_le hk
            have := HU.out
            rcases Nat.lt_or_ge k 9 with h9 | h9
            · have := next_lt (b := s[p + k].toNat) HU.out
              have := pow_le (k := k + 1) (by omega)
              omega
            · obtain rfl : k = 9 := by omega
              have h1 : ¬ 1 < s[p + 9].toNat := fun h => hA ⟨rfl, h⟩
              have : s[p + 9].toNat % 128 ≤ 1 := by omega
              have : s[p + 9].toNat % 128 * 2 ^ (7 * 9) ≤ 1 * 2 ^ (7 * 9) := Nat.mul_le_mul_right _ this
              omega
          generalize u + s[p + k].toNat % 128 * 2 ^ (7 * k) = u2 at hor HV HU2
          clear hpl HR HD HU
          have hA' : ((k : Int) + 1 == 10 && decide (1 < (s[p + k].toNat : Int))) = false := by
            rw [Bool.and_eq_false_iff]
            by_cases h9 : k = 9
            · right; have : ¬ 1 < s[p + k].toNat := fun h => hA ⟨h9, h⟩
              simp; omega
            · left; simp; omega
          rcases Nat.lt_or_ge k 9 with h9 | h9
          · go_wp2
            go_step3
            show RJ2 s p w' _ _
            exact ⟨rfl, k, u2, s[p + k].toNat, _, _, _, _, _, _, _, _, _, _, _, _, _, _, _, _, _, _, _, _, _, _, _, _, _, _, _, _, _, _, _, rfl, rfl, rfl, hk, by omega, hb, HU2, HZ, HV⟩
          · have h1 : ¬ 1 < s[p + k].toNat := fun h => hA ⟨by omega, h⟩
            clear hA' hA
            go_wp2
            go_step3
            show RJ2 s p w' _ _
            exact ⟨rfl, k, u2, s[p + k].toNat, _, _, _, _, _, _, _, _, _, _, _, _, _, _, _, _, _, _, _, _, _, _, _, _, _, _, _, _, _, _, _, rfl, by omega, by omega, hk, by omega, hb, HU2, HZ, HV⟩
        · have hk8 : k < 9 := by
            rcases Nat.lt_or_ge k 9 with h9 | h9
            · exact h9
            · exact absurd ⟨by omega, by omega⟩ hA
          have HU2 : Hid (u + s[p + k].toNat % 128 * 2 ^ (7 * k) < 2 ^ (7 * (k + 1))) := next_lt HU.out
          have HR2 : Hid (rdAt s.data.toList p = rd (k + 1) (u + s[p + k].toNat % 128 * 2 ^ (7 * k)) (s.data.toList.drop (p + (k + 1)))) := by
            show _ = _
            rw [HR.out, HD.out, rd_more (by omega) hb]; rfl
          generalize u + s[p + k].toNat % 128 * 2 ^ (7 * k) = u2 at hor HU2 HR2
          clear hpl HR HD HU hA
          go_wp2
          go_step3
          show RJ0 s p w' _ _ ∧ _
          exact ⟨⟨rfl, k + 1, u2, _, _, _, _, _, _, _, _, _, _, _, _, _, _, _, _, _, _, _, _, _, _, _, _, _, _, _, _, _, _, _, _, rfl, by omega, by omega, by omega, HU2, HR2⟩, by simp [intOf]; omega⟩
    · have HF : Hid (rdAt s.data.toList p = (0, 0, 4)) := by
        show _ = _
        rw [HR.out, drop_none _ _ (by omega), rd_short]
      go_wp2
      rw [jump3_ret]
      go_ret3
      exact ⟨by rw [HF.out]; rfl, rfl⟩
  · rintro a' w' ⟨rfl, k, u, b, at', kk, u10, u11, u12, u13, u14, u15, u16, u17, u18, u19, u20, u21, u22, u23, u24, u25, u26, u27, u28, u29, u30, u31, u32, u33, u34, u35, u36, u37, u38, rfl, rfl, rfl, hk, hle, hb, HU, HZ, HV⟩
    by_cases hz : b = 0 ∧ 0 < k
    · have HF : Hid (rdAt s.data.toList p = (0, 0, 3)) := HZ.out hz
      obtain ⟨rfl, hk0⟩ := hz
      clear HZ HV HU
      go_wp2
      go_step3
      show RJ1 s p w' _ _
      exact ⟨rfl, _, _, _, _, _, _, _, _, _, _, _, _, _, _, _, _, _, _, _, _, _, _, _, _, _, _, _, _, _, _, _, _, _, _, _, _, _, _, _, _, _, _, _, _, _, _, _, _, _, _, _, _, _, rfl, HF⟩
    · have HF : Hid (rdAt s.data.toList p = (unz u, k + 1, 0)) := HV.out hz
      have hu : u < 18446744073709551616 := HU.out
      have ha1 := u64_and1 u hu
      have hcon : ((b : Int) == 0 && decide (1 < (k : Int) + 1)) = false := by
        rw [Bool.and_eq_false_iff]
        by_cases hb0 : b = 0
        · right; have : ¬ 0 < k := fun h => hz ⟨hb0, h⟩
          simp; omega
        · left; simp; omega
      clear HZ HV HU
      rcases Nat.mod_two_eq_zero_or_one u with hm | hm
      · have HX : Hid (bits .xor .i64 ((u : Int) / 2) 0 = unz u) := unz_even hu (by omega)
        rw [hm] at ha1
        go_wp2
        all_goals
          rw [jump3_ret]
          go_ret3
          exact ⟨ret3n (by rw [HF.out]; exact HX.out) (by rw [HF.out]; simp [behind]; omega) (by rw [HF.out]; rfl), rfl⟩
      · have HX : Hid (bits .xor .i64 ((u : Int) / 2) (-1) = unz u) := unz_odd hu hm
        rw [hm] at ha1
        go_wp2
        all_goals
          rw [jump3_ret]
          go_ret3
          exact ⟨ret3n (by rw [HF.out]; exact HX.out) (by rw [HF.out]; simp [behind]; omega) (by rw [HF.out]; rfl), rfl⟩
  · rintro a' w' ⟨rfl, u1, u2, u3, u4, u5, u6, u7, u8, u9, u10, u11, u12, u13, u14, u15, u16, u17, u18, u19, u20, u21, u22, u23, u24, u25, u26, u27, u28, u29, u30, u31, u32, u33, u34, u35, u36, u37, u38, u39, u40, u41, u42, u43, u44, u45, u46, u47, u48, u49, u50, u51, u52, u53, rfl, HF⟩
    go_wp2
    rw [jump3_ret]
    go_ret3
    exact ⟨by rw [HF.out]; rfl, rfl⟩
theorem readNum_any (s : ByteArray) (p : Nat) (hs : s.size ≤ 20000) (w : World) :
    Calls Try.prog 98 #[.string s, .int .i64 p] w fun e w' => e = .returned (.tuple #[.int .i64 (rdAt s.data.toList p).1, .int .i64 (behind p (rdAt s.data.toList p)), errV (rdAt s.data.toList p).2.2]) ∧ w' = w := readNum_big s p (by omega) w
end Go.Proofs.Ytaapacpiipcogaa

/-
  Structs of three fields in a block of their own. Plain laws, no program.
-/
namespace Go.Proofs.Ytaapacpiipcogaa
open Go.RowKit

theorem set3 {W : World} {g : Nat} {a b c x y z : Value} {t : TypeId} (h : W.heap[g]? = some (.cells #[a, b, c] t (0, 0))) :
    (((W.setCell ⟨g, 0, none⟩ x).setCell ⟨g, 1, none⟩ y).setCell ⟨g, 2, none⟩ z).heap[g]? = some (.cells #[x, y, z] t (0, 0)) := by
  have h1 := heap_setCell_same W g 0 _ t x h
  have h2 := heap_setCell_same _ g 1 _ t y h1
  have h3 := heap_setCell_same _ g 2 _ t z h2
  simpa using h3
theorem below3 {B g : Nat} {w W : World} {x y z : Value} (h : Below B w W) (hg : B ≤ g) : Below B w (((W.setCell ⟨g, 0, none⟩ x).setCell ⟨g, 1, none⟩ y).setCell ⟨g, 2, none⟩ z) :=
  ((h.setCell hg _).setCell hg _).setCell hg _
theorem cells3 {W : World} {g : Nat} {a b c : Value} {t : TypeId} (h : W.heap[g]? = some (.cells #[a, b, c] t (0, 0))) :
    W.cell? ⟨g, 0, none⟩ = some a ∧ W.cell? ⟨g, 1, none⟩ = some b ∧ W.cell? ⟨g, 2, none⟩ = some c ∧ (∀ j, W.frozen? ⟨g, j, none⟩ = false) :=
  ⟨by rw [cell_of_row _ _ _ _ _ _ h]; rfl, by rw [cell_of_row _ _ _ _ _ _ h]; rfl, by rw [cell_of_row _ _ _ _ _ _ h]; rfl, fun j => frozen_of_row _ _ _ _ _ h⟩

end Go.Proofs.Ytaapacpiipcogaa

/-
  NumOut as a value, and as a result in its block.
-/
namespace Go.Proofs.Ytaapacpiipcogaa
open Go.RowKit

def nOut (n a c : Int) : Value := .agg #[.int .i64 n, .int .i64 a, .int .i64 c]
theorem resNum {fn : Func} {p : Tmp} (h : fn.results = #[.cell p 130]) (tmps : Array Value) (w : World) (g : Nat) (x y z : Value) (hp : tmps.getD p undef = .pointer (some ⟨g, 0, none⟩))
    (hg : w.heap[g]? = some (.cells #[x, y, z] 130 (0, 0))) : (results fn tmps).run Try.prog w = .ok (.agg #[x, y, z]) w :=
  results_cell_row h tmps w g 130 #[x, y, z] (0, 0) _ hp hg Try.underlying130 rfl (by kernel_rfl)
end Go.Proofs.Ytaapacpiipcogaa

/-
  What GetNum answers. Plain.
-/
namespace Go.Proofs.Ytaapacpiipcogaa
open Go.RowKit

/-- What GetNum answers: the number, the place behind it, the code. -/
def getNum3 (s : ByteArray) (a : Int) : Int × Int × Nat :=
  if 20000 < s.size then (0, 0, 2) else if a < 0 then (0, 0, 1) else ((rdAt s.data.toList a.toNat).1, behind a.toNat (rdAt s.data.toList a.toNat), (rdAt s.data.toList a.toNat).2.2)
def getNumV (s : ByteArray) (a : Int) : Value := nOut (getNum3 s a).1 (getNum3 s a).2.1 (getNum3 s a).2.2

end Go.Proofs.Ytaapacpiipcogaa

/-
  Contracts: readText and GetText of the program.
-/
namespace Go.Proofs.Ytaapacpiipcogaa
open Go.RowKit

theorem rd_count : ∀ (l : List UInt8) (k u : Nat), (rd k u l).2.1 ≤ k + l.length
  | [], k, u => by simp [rd]
  | b :: l, k, u => by
    unfold rd
    split
    · simp
    · split
      · split
        · simp
        · simp
      · have := rd_count l (k + 1) (u + b.toNat % 128 * 2 ^ (7 * k)); simp; omega
/-- What is behind a number that is there lies within the text. -/
theorem behind_le (s : ByteArray) (p : Nat) (h : (rdAt s.data.toList p).2.2 = 0) : 0 ≤ behind p (rdAt s.data.toList p) ∧ behind p (rdAt s.data.toList p) ≤ s.size := by
  unfold behind
  rw [if_pos h]
  have hc := rd_count (s.data.toList.drop p) 0 0
  rw [List.length_drop, len_data] at hc
  have hp : p ≤ s.size := by
    rcases Nat.lt_or_ge s.size p with hlt | hge
    · unfold rdAt at h
      rw [drop_none _ _ (by omega)] at h
      simp [rd] at h
    · exact hge
  have hc' : (rdAt s.data.toList p).2.1 ≤ s.size - p := by unfold rdAt; omega
  omega

/-- The text that stands behind a number that was read: the text, the place behind it, the code. -/
def textOf (s : ByteArray) (n q : Int) (c : Nat) : ByteArray × Int × Nat :=
  if ¬ c = 0 then (ByteArray.empty, 0, c) else if n < 0 ∨ 20000 < n then (ByteArray.empty, 0, 3) else if (s.size : Int) - q < n then (ByteArray.empty, 0, 4)
  else (s.extract q.toNat (q + n).toNat, q + n, 0)

theorem ret3t {t t' : ByteArray} {b b' : Int} {v v' : Value} (h1 : t = t') (h2 : b = b') (h3 : v = v') : Ending.returned (.tuple #[.string t, .int .i64 b, v]) = .returned (.tuple #[.string t', .int .i64 b', v']) := by rw [h1, h2, h3]

set_option maxRecDepth 100000 in
set_option maxHeartbeats 2000000 in
theorem readText_big (s : ByteArray) (p : Nat) (hs : s.size ≤ 1048576) (n q : Int) (c : Nat) (hn : n = (rdAt s.data.toList p).1) (hq : q = behind p (rdAt s.data.toList p)) (hc : c = (rdAt s.data.toList p).2.2) (w : World) :
    Calls Try.prog 90 #[.string s, .int .i64 p] w fun e w' => e = .returned (.tuple #[.string (textOf s n q c).1, .int .i64 (textOf s n q c).2.1, errV (textOf s n q c).2.2]) ∧ Below w.heap.size w w' := by
  have hrd := readNum_big s p hs
  have hbl : c = 0 → 0 ≤ q ∧ q ≤ s.size := fun h => by rw [hq]; exact behind_le s p (by rw [← hc]; exact h)
  rw [← hn, ← hq, ← hc] at hrd
  have HR : Hid (∀ w, Calls Try.prog 98 #[.string s, .int .i64 p] w fun e w' => e = .returned (.tuple #[.int .i64 n, .int .i64 q, errV c]) ∧ w' = w) := hrd
  clear hrd hn hq hc
  by_cases h0 : c = 0
  · obtain ⟨hq0, hq1⟩ := hbl h0
    have HR0 : Hid (∀ w, Calls Try.prog 98 #[.string s, .int .i64 p] w fun e w' => e = .returned (.tuple #[.int .i64 n, .int .i64 q, .nilIface]) ∧ w' = w) := by
      have h := HR.out; rw [h0] at h; exact h
    clear HR hbl
    by_cases h1 : n < 0
    · have H : Hid (textOf s n q c = (ByteArray.empty, 0, 3)) := by show _ = _; unfold textOf; rw [if_neg (by simp [h0]), if_pos (Or.inl h1)]
      go_enter Try.func90, Try.ntmps90
      go_wp2_with fail
      refine (HR0.out _).mono ?_
      rintro e w0 ⟨rfl, rfl⟩
      go_wp2
      go_ret3
      exact ⟨by rw [H.out]; rfl, Below.refl _ _⟩
    by_cases h2 : 20000 < n
    · have H : Hid (textOf s n q c = (ByteArray.empty, 0, 3)) := by show _ = _; unfold textOf; rw [if_neg (by simp [h0]), if_pos (Or.inr h2)]
      go_enter Try.func90, Try.ntmps90
      go_wp2_with fail
      refine (HR0.out _).mono ?_
      rintro e w0 ⟨rfl, rfl⟩
      go_wp2
      go_ret3
      exact ⟨by rw [H.out]; rfl, Below.refl _ _⟩
    by_cases h3 : (s.size : Int) - q < n
    · have H : Hid (textOf s n q c = (ByteArray.empty, 0, 4)) := by show _ = _; unfold textOf; rw [if_neg (by simp [h0]), if_neg (by omega), if_pos h3]
      go_enter Try.func90, Try.ntmps90
      go_wp2_with fail
      refine (HR0.out _).mono ?_
      rintro e w0 ⟨rfl, rfl⟩
      go_wp2
      go_ret3
      exact ⟨by rw [H.out]; rfl, Below.refl _ _⟩
    have H : Hid (textOf s n q c = (s.extract q.toNat (q + n).toNat, q + n, 0)) := by show _ = _; unfold textOf; rw [if_neg (by simp [h0]), if_neg (by omega), if_neg h3]
    have hz : (s.extract q.toNat (q + n).toNat).size ≤ 20000 := by simp; omega
    have h4 : q ≤ q + n := by omega
    have h5 : q + n ≤ s.size := by omega
    clear h0
    go_enter Try.func90, Try.ntmps90
    go_wp2_with fail
    refine (HR0.out _).mono ?_
    rintro e w0 ⟨rfl, rfl⟩
    go_wp2_with fail
    refine (join1 (s.extract q.toNat (q + n).toNat) _ _ _ (by omega) (by simp)).mono ?_
    rintro e w2 ⟨rfl, hb2⟩
    go_wp2
    go_ret3
    exact ⟨by rw [H.out]; rfl, ((Below.refl _ _).alloc (Nat.le_refl _) _).trans (hb2.mono (by simp))⟩
  · have H : Hid (textOf s n q c = (ByteArray.empty, 0, c)) := if_pos h0
    have HR0 : Hid (∀ w, Calls Try.prog 98 #[.string s, .int .i64 p] w fun e w' => e = .returned (.tuple #[.int .i64 n, .int .i64 q, .iface 138 (.agg #[.int .i64 c])]) ∧ w' = w) := by
      have h := HR.out; unfold errV at h; rw [if_neg h0] at h; exact h
    have HE : Hid (errV c = .iface 138 (.agg #[.int .i64 c])) := if_neg h0
    clear HR hbl h0
    go_enter Try.func90, Try.ntmps90
    go_wp2_with fail
    refine (HR0.out _).mono ?_
    rintro e w0 ⟨rfl, rfl⟩
    go_wp2
    go_ret3
    exact ⟨ret3t (by rw [H.out]; rfl) (by rw [H.out]) (by rw [H.out]; exact HE.out.symm), Below.refl _ _⟩
theorem readText_any (s : ByteArray) (p : Nat) (hs : s.size ≤ 20000) (n q : Int) (c : Nat) (hn : n = (rdAt s.data.toList p).1) (hq : q = behind p (rdAt s.data.toList p)) (hc : c = (rdAt s.data.toList p).2.2) (w : World) :
    Calls Try.prog 90 #[.string s, .int .i64 p] w fun e w' => e = .returned (.tuple #[.string (textOf s n q c).1, .int .i64 (textOf s n q c).2.1, errV (textOf s n q c).2.2]) ∧ Below w.heap.size w w' := readText_big s p (by omega) n q c hn hq hc w
end Go.Proofs.Ytaapacpiipcogaa

/-
  TextOut as a value, and as a result in its block.
-/
namespace Go.Proofs.Ytaapacpiipcogaa
open Go.RowKit

def tOut (t : ByteArray) (at' code : Int) : Value := .agg #[.string t, .int .i64 at', .int .i64 code]
theorem resOutT {fn : Func} {p : Tmp} (h : fn.results = #[.cell p 133]) (tmps : Array Value) (w : World) (g : Nat) (x y z : Value) (hp : tmps.getD p undef = .pointer (some ⟨g, 0, none⟩))
    (hg : w.heap[g]? = some (.cells #[x, y, z] 133 (0, 0))) : (results fn tmps).run Try.prog w = .ok (.agg #[x, y, z]) w :=
  results_cell_row h tmps w g 133 #[x, y, z] (0, 0) _ hp hg Try.underlying133 rfl (by kernel_rfl)
end Go.Proofs.Ytaapacpiipcogaa

/-
  What GetText answers. Plain.
-/
namespace Go.Proofs.Ytaapacpiipcogaa
open Go.RowKit

/-- What GetText answers: the text, the place behind it, the code. -/
def getText3 (s : ByteArray) (a : Int) : ByteArray × Int × Nat := textOf s (getNum3 s a).1 (getNum3 s a).2.1 (getNum3 s a).2.2
def getTextV (s : ByteArray) (a : Int) : Value := tOut (getText3 s a).1 (getText3 s a).2.1 (getText3 s a).2.2

end Go.Proofs.Ytaapacpiipcogaa

/-
  The readers' state: plain.
-/
namespace Go.Proofs.Ytaapacpiipcogaa
open Go.RowKit
set_option maxRecDepth 100000

/-- Where the reading stands; none: something was wrong. -/
abbrev St := Option Nat
def rNum (s : ByteArray) : St → Int × St
  | none => (0, none)
  | some p => if (rdAt s.data.toList p).2.2 = 0 then ((rdAt s.data.toList p).1, some (p + (rdAt s.data.toList p).2.1)) else (0, none)
/-- What stands as a text at a place. -/
def txtAt (s : ByteArray) (p : Nat) : ByteArray × Int × Nat := textOf s (rdAt s.data.toList p).1 (behind p (rdAt s.data.toList p)) (rdAt s.data.toList p).2.2
def rTxt (s : ByteArray) : St → ByteArray × St
  | none => (ByteArray.empty, none)
  | some p => if (txtAt s p).2.2 = 0 then ((txtAt s p).1, some (txtAt s p).2.1.toNat) else (ByteArray.empty, none)
def rMany (s : ByteArray) (most : Int) (st : St) : Int × St := if (rNum s st).1 < 0 ∨ most < (rNum s st).1 then (0, none) else rNum s st
def rFlag (s : ByteArray) (st : St) : Bool × St := (decide ((rMany s 1 st).1 = 1), (rMany s 1 st).2)
def rRep {α : Type} (f : St → α × St) : Nat → St → List α × St
  | 0, st => ([], st)
  | k + 1, st => ((rRep f k st).1 ++ [(f (rRep f k st).2).1], (f (rRep f k st).2).2)
def rNums (s : ByteArray) (st : St) : List Int × St := rRep (rNum s) (rMany s 10 st).1.toNat (rMany s 10 st).2
theorem rRep_len {α : Type} (f : St → α × St) (st : St) : ∀ k, (rRep f k st).1.length = k
  | 0 => rfl
  | k + 1 => by simp [rRep, rRep_len f st k]
theorem unz_in (u : Nat) (h : u < 18446744073709551616) : inI64 (unz u) := by
  unfold inI64 unz; split <;> omega
theorem rd_in : ∀ (l : List UInt8) (k u : Nat), k ≤ 9 → u < 2 ^ (7 * k) → inI64 (rd k u l).1
  | [], k, u, _, _ => by simp [rd, inI64]
  | b :: l, k, u, hk, hu => by
    unfold rd
    split
    · simp [inI64]
    · rename_i hA
      split
      · split
        · simp [inI64]
        · exact unz_in _ (sum_lt hk hu hA)
      · rename_i hb
        by_cases h9 : k = 9
        · exact absurd ⟨h9, by omega⟩ hA
        · exact rd_in l (k + 1) _ (by omega) (next_lt hu)
theorem rNum_in (s : ByteArray) (st : St) : inI64 (rNum s st).1 := by
  cases st with
  | none => simp [rNum, inI64]
  | some p =>
    unfold rNum
    simp only
    split
    · exact rd_in _ 0 0 (by omega) (by simp)
    · simp [inI64]
theorem rMany_in (s : ByteArray) (most : Int) (st : St) (h : 0 ≤ most) : 0 ≤ (rMany s most st).1 ∧ (rMany s most st).1 ≤ most := by
  unfold rMany
  split
  · exact ⟨Int.le_refl _, h⟩
  · omega
theorem rNum_place (s : ByteArray) (st : St) (p' : Nat) (h : (rNum s st).2 = some p') : p' ≤ s.size := by
  cases st with
  | none => simp [rNum] at h
  | some p =>
    unfold rNum at h
    simp only at h
    split at h
    · rename_i h0
      simp only [Option.some.injEq] at h
      have := behind_le s p h0
      unfold behind at this
      rw [if_pos h0] at this
      omega
    · simp at h
theorem txt_place (s : ByteArray) (p : Nat) (h : (txtAt s p).2.2 = 0) : 0 ≤ (txtAt s p).2.1 ∧ (txtAt s p).2.1 ≤ s.size := by
  unfold txtAt textOf at *
  split at h
  · rename_i hc; exact absurd h hc
  · rename_i hc
    split at h
    · simp at h
    · split at h
      · simp at h
      · rename_i h1 h2
        rw [if_neg hc, if_neg h1, if_neg h2]
        have := behind_le s p (by simpa using hc)
        simp only
        omega
theorem rTxt_place (s : ByteArray) (st : St) (p' : Nat) (h : (rTxt s st).2 = some p') : p' ≤ s.size := by
  cases st with
  | none => simp [rTxt] at h
  | some p =>
    unfold rTxt at h
    simp only at h
    split at h
    · rename_i h0
      simp only [Option.some.injEq] at h
      have := txt_place s p h0
      omega
    · simp at h
end Go.Proofs.Ytaapacpiipcogaa

/-
  Records that stand at the beginning of a text: plain.
-/
namespace Go.Proofs.Ytaapacpiipcogaa
open Go.RowKit
set_option maxRecDepth 100000

theorem ba_ext {a b : ByteArray} (h : a.data.toList = b.data.toList) : a = b := by
  cases a; cases b
  simp only [ByteArray.mk.injEq]
  exact Array.toList_inj.1 h
theorem ext_list (s : ByteArray) (i j : Nat) : (s.extract i j).data.toList = (s.data.toList.drop i).take (j - i) := by
  have e : s.extract i j = (ByteArray.mk s.data.toList.toArray).extract i j := rfl
  rw [e, ByteArray.extract_mk]
theorem fold_unz (U : Nat) : foldN (unz U) = U := by
  unfold unz foldN
  split <;> split <;> omega
/-- What is read as a number has just that number's bytes. -/
theorem rd_canon : ∀ (l : List UInt8) (k u m : Nat) (v : Int), k ≤ 9 → rd k u l = (v, m, 0) →
    ∃ U, v = unz (u + U * 2 ^ (7 * k)) ∧ m = k + (putL (9 - k) U).length ∧ l.take (m - k) = (putL (9 - k) U).map toB ∧ U < 2 ^ (64 - 7 * k) ∧ (0 < k → 0 < U)
  | [], k, u, m, v, _, h => by simp [rd] at h
  | b :: l, k, u, m, v, hk, h => by
    have hb256 : b.toNat < 256 := b.toNat_lt
    by_cases hA : k = 9 ∧ 1 < b.toNat
    · rw [rd_big hA.1 hA.2] at h; simp at h
    by_cases hb : b.toNat < 128
    · by_cases hz : b.toNat = 0 ∧ 0 < k
      · rw [rd_nought hz.2 hz.1] at h; simp at h
      · rw [rd_last hA hb hz] at h
        simp only [Prod.mk.injEq, and_true] at h
        obtain ⟨h1, h2⟩ := h
        subst h1 h2
        refine ⟨b.toNat, by rw [Nat.mod_eq_of_lt hb], by rw [putL_small _ _ hb]; rfl, ?_, ?_, fun hk0 => by omega⟩
        · rw [putL_small _ _ hb, show k + 1 - k = 1 by omega]
          simp only [List.take_succ_cons, List.take_zero, List.map_cons, List.map_nil, List.cons.injEq, and_true]
          apply UInt8.toNat.inj
          rw [toB_small hb256]
        · by_cases h9 : k = 9
          · subst h9
            have : ¬ 1 < b.toNat := fun e => hA ⟨rfl, e⟩
            show _ < 2
            omega
          · have h1 : 2 ^ 8 ≤ 2 ^ (64 - 7 * k) := Nat.pow_le_pow_right (by omega) (by omega)
            omega
    · have h9 : ¬ k = 9 := fun e => hA ⟨e, by omega⟩
      rw [rd_more h9 hb] at h
      obtain ⟨U, e1, e2, e3, e4, e5⟩ := rd_canon l (k + 1) _ m v (by omega) h
      have hd : (b.toNat % 128 + 128 * U) / 128 = U := by omega
      have hm : (b.toNat % 128 + 128 * U) % 128 = b.toNat % 128 := by omega
      have hU : 0 < U := e5 (by omega)
      have hbig : ¬ b.toNat % 128 + 128 * U < 128 := by omega
      have hp : putL (9 - k) (b.toNat % 128 + 128 * U) = ((b.toNat % 128 + 128 : Nat) : Int) :: putL (9 - (k + 1)) U := by
        rw [show 9 - k = (9 - (k + 1)) + 1 by omega, putL_big _ _ hbig, hd, hm]
      refine ⟨b.toNat % 128 + 128 * U, ?_, ?_, ?_, ?_, fun _ => by omega⟩
      · rw [e1]
        congr 1
        have := sum_step k u (b.toNat % 128 + 128 * U)
        rw [hd, hm] at this
        exact this
      · rw [hp, List.length_cons, e2]; omega
      · have hmk : m - k = (m - (k + 1)) + 1 := by rw [e2]; omega
        rw [hp, hmk, List.take_succ_cons, e3, List.map_cons]
        congr 1
        apply UInt8.toNat.inj
        rw [toB_small (by omega)]
        omega
      · have e : 2 ^ (64 - 7 * k) = 128 * 2 ^ (64 - 7 * (k + 1)) := by
          rw [show 64 - 7 * k = 7 + (64 - 7 * (k + 1)) by omega, Nat.pow_add]
        rw [e]
        omega
theorem rdAt_canon {L : List UInt8} {p m : Nat} {v : Int} (h : rdAt L p = (v, m, 0)) : L.drop p = numB v ++ L.drop (p + m) ∧ m = (numB v).length := by
  obtain ⟨U, e1, e2, e3, _, _⟩ := rd_canon (L.drop p) 0 0 m v (by omega) h
  have ev : v = unz U := by simpa using e1
  have hn : numB v = (putL 9 U).map toB := by unfold numB; rw [ev, fold_unz]
  have e3' : (L.drop p).take m = numB v := by rw [hn]; exact e3
  refine ⟨?_, by rw [hn, List.length_map]; simpa using e2⟩
  rw [← e3', ← List.drop_drop, List.take_append_drop]
/-- What stands as a text at a place: a number's bytes, then so many bytes. -/
theorem txtAt_canon {s : ByteArray} {p : Nat} (h : (txtAt s p).2.2 = 0) : ∃ at2 : Nat, (txtAt s p).2.1 = (at2 : Int) ∧ s.data.toList.drop p = numB ((txtAt s p).1.size : Int) ++ ((txtAt s p).1.data.toList ++ s.data.toList.drop at2) ∧ at2 = p + (numB ((txtAt s p).1.size : Int)).length + (txtAt s p).1.size := by
  have hbl := behind_le s p
  unfold txtAt at *
  obtain ⟨r, hr⟩ : ∃ r, r = rdAt s.data.toList p := ⟨_, rfl⟩
  rw [← hr] at h hbl ⊢
  obtain ⟨v, m, c⟩ := r
  simp only at h hbl ⊢
  have hc : c = 0 := by
    unfold textOf at h
    split at h
    · exact h
    · rename_i h1; omega
  subst hc
  have hbe : behind p (v, m, 0) = ((p + m : Nat) : Int) := rfl
  rw [hbe] at h hbl ⊢
  have hb := hbl rfl
  obtain ⟨hd, hm⟩ := rdAt_canon hr.symm
  unfold textOf at h ⊢
  rw [if_neg (by simp)] at h ⊢
  split at h
  · simp at h
  rename_i h1
  split at h
  · simp at h
  rename_i h2
  rw [if_neg h1, if_neg h2]
  obtain ⟨n, rfl⟩ : ∃ n : Nat, v = (n : Int) := ⟨v.toNat, by omega⟩
  have hsz : (s.extract (p + m) (p + m + n)).size = n := by rw [ByteArray.size_extract]; omega
  have e1 : (((p + m : Nat) : Int)).toNat = p + m := by omega
  have e2 : (((p + m : Nat) : Int) + (n : Int)).toNat = p + m + n := by omega
  simp only [e1, e2]
  refine ⟨p + m + n, by omega, ?_, by rw [hsz]; omega⟩
  have e3 : s.data.toList.drop (p + m + n) = (s.data.toList.drop (p + m)).drop n := by rw [List.drop_drop]
  rw [hsz, hd, ext_list, show p + m + n - (p + m) = n by omega, e3, List.take_append_drop]
/-- A text's bytes behind others: the text is read. -/
theorem txtAt_put {s t : ByteArray} {a rest : List UInt8} (ht : t.size ≤ 6000) (hs : s.data.toList = a ++ (numB (t.size : Int) ++ (t.data.toList ++ rest))) : txtAt s a.length = (t, ((a.length + (numB (t.size : Int)).length + t.size : Nat) : Int), 0) := by
  have hr : rdAt s.data.toList a.length = ((t.size : Int), (numB (t.size : Int)).length, 0) := by
    rw [hs, ← List.append_assoc]
    exact rdAt_put _ (by omega) (by omega) a _
  have hl : s.size = a.length + (numB (t.size : Int)).length + t.size + rest.length := by
    have h1 : s.data.toList.length = s.size := rfl
    have h2 : t.data.toList.length = t.size := rfl
    rw [hs] at h1
    simp only [List.length_append] at h1
    omega
  have hx : s.extract (a.length + (numB (t.size : Int)).length) (a.length + (numB (t.size : Int)).length + t.size) = t := by
    apply ba_ext
    have h2 : t.data.toList.length = t.size := rfl
    rw [ext_list, hs, ← List.append_assoc, List.drop_append_of_le_length (by simp), List.drop_of_length_le (by simp), List.nil_append, show a.length + (numB (t.size : Int)).length + t.size - (a.length + (numB (t.size : Int)).length) = t.size by omega, ← h2, List.take_left']
    rfl
  unfold txtAt
  rw [hr]
  show textOf s (t.size : Int) ((a.length + (numB (t.size : Int)).length : Nat) : Int) 0 = _
  generalize (numB (t.size : Int)).length = m at *
  unfold textOf
  rw [if_neg (by simp), if_neg (by omega), if_neg (by omega)]
  have e1 : (((a.length + m : Nat) : Int)).toNat = a.length + m := by omega
  have e2 : (((a.length + m : Nat) : Int) + (t.size : Int)).toNat = a.length + m + t.size := by omega
  rw [e1, e2, hx]
  simp
theorem recL_eq (q : Int) {t : ByteArray} (h : t.size ≤ 20000) : recL q t = (76 :: numB q) ++ (numB (t.size : Int) ++ t.data.toList) := by
  unfold recL
  rw [numS_data, putT_yes h, mkS_list, numS_data]
  simp
/-- A record's bytes at the beginning: the record is read. -/
theorem txtAt_rec {s : ByteArray} {q : Int} {t : ByteArray} {rest : List UInt8} (ht : t.size ≤ 6000) (hs : s.data.toList = recL q t ++ rest) : (txtAt s (1 + (numS q).size)).1 = t ∧ (txtAt s (1 + (numS q).size)).2.2 = 0 := by
  have hn : (76 :: numB q).length = 1 + (numS q).size := by
    have : (numS q).data.toList.length = (numS q).size := rfl
    rw [← this, numS_data, List.length_cons]; omega
  have hs' : s.data.toList = (76 :: numB q) ++ (numB (t.size : Int) ++ (t.data.toList ++ rest)) := by rw [hs, recL_eq q (by omega)]; simp
  have h := txtAt_put ht hs'
  rw [hn] at h
  rw [h]
  exact ⟨rfl, rfl⟩
/-- The record of that number that stands at the beginning of a text. -/
def recAt (s : ByteArray) (q : Int) : Option ByteArray :=
  if (txtAt s (1 + (numS q).size)).2.2 = 0 ∧ recRight q (txtAt s (1 + (numS q).size)).1 = true ∧ (recS q (txtAt s (1 + (numS q).size)).1).data.toList <+: s.data.toList then some (txtAt s (1 + (numS q).size)).1 else none
theorem recAt_iff (s : ByteArray) (q : Int) (t : ByteArray) : recAt s q = some t ↔ recRight q t = true ∧ (recS q t).data.toList <+: s.data.toList := by
  unfold recAt
  constructor
  · intro h
    split at h
    · rename_i hc
      simp only [Option.some.injEq] at h
      subst h
      exact hc.2
    · simp at h
  · rintro ⟨hr, rest, hp⟩
    have ht := ((recRight_iff q t).1 hr).2
    rw [recS_eq ht, mkS_list, List.append_assoc] at hp
    obtain ⟨hx1, hx2⟩ := txtAt_rec ht hp.symm
    rw [hx1, hx2]
    rw [if_pos ⟨rfl, hr, ⟨rest, by rw [recS_eq ht, mkS_list, List.append_assoc]; exact hp⟩⟩]
end Go.Proofs.Ytaapacpiipcogaa

/-
  Frames: one block is written, and behind it all is new. Plain laws.
-/
namespace Go.Proofs.Ytaapacpiipcogaa
open Go.RowKit

theorem grown_setG {w W : World} {g m : Nat} {x : Value} (h : w.grownBy W (some g)) : w.grownBy (W.setCell ⟨g, m, none⟩ x) (some g) := by
  have hb : Below 0 W (W.setCell ⟨g, m, none⟩ x) := (Below.refl 0 W).setCell (Nat.zero_le _) x
  exact ⟨hb.os.trans h.os, hb.tape.trans h.tape, hb.output.trans h.output, Nat.le_trans h.size hb.size, fun k hk hne => (heap_setCell_other W ⟨g, m, none⟩ k x (fun e => hne (by rw [e]))).trans (h.block k hk hne)⟩
theorem grown_below {w W W' : World} {g : Nat} (h : w.grownBy W (some g)) (hb : Below W.heap.size W W') : w.grownBy W' (some g) :=
  ⟨hb.os.trans h.os, hb.tape.trans h.tape, hb.output.trans h.output, Nat.le_trans h.size hb.size, fun k hk hne => (hb.block k (Nat.lt_of_lt_of_le hk h.size)).trans (h.block k hk hne)⟩
theorem grown_refl (a : World) (r : Option Nat) : a.grownBy a r := ⟨rfl, rfl, rfl, Nat.le_refl _, fun _ _ _ => rfl⟩
end Go.Proofs.Ytaapacpiipcogaa

/-
  Regions that draw their order: an operation taken first, its slot named; a row of operations passed over whose guards say no.
-/
namespace Go.Proofs.Ytaapacpiipcogaa
open Go.RowKit

section
variable {P : Program} {ops : Array Oper} {Q : Exit → Act → World → Prop} {md : Region.Mode} {S : World → Prop}

theorem takeD (i d : Nat) {oi : Oper} {v : Value} {fuel : Nat} {listed : Array Bool} {a : Act} {w : World} (hi : ops[i]? = some oi) (hd : oi.dst = some d)
    (hs : Region.noSelect ops = true) (hf : Region.free md ops listed i = true) (hr : (Region.ready md ops listed).contains i = true)
    (hQ : ∀ c a w, Q (.panic c) (a.put oi.dst v) w → Q (.panic c) a w) (hw : Region.wanted oi (yielded ops a.tmps) = true) (hy : ∀ w, S w → (execOp a.eval oi).run P w = .ok (.value v) w) (hS : S w)
    (h : wpAnyH P md ops Q S fuel (listed.setIfInBounds i true) (a.put (some d) v) w) : wpAnyH P md ops Q S (fuel + 1) listed a w :=
  wpAnyH_take hi hs hf hr hQ (.inl ⟨hw, hy⟩) hS (by rw [hd]; exact h)
def putAll (a : Act) (l : List (Nat × Nat)) : Act := l.foldl (fun a p => a.put (some p.2) undef) a
def listAll (b : Array Bool) (l : List (Nat × Nat)) : Array Bool := l.foldl (fun b p => b.setIfInBounds p.1 true) b
/-- May these come up one behind the other, and do their guards all say no? -/
def skipOk (md : Region.Mode) (ops : Array Oper) : List (Nat × Nat) → Array Bool → Act → Bool
  | [], _, _ => true
  | (i, d) :: r, b, a => (match ops[i]? with | some o => (o.dst == some d) && !(Region.wanted o (yielded ops a.tmps)) | none => false) && Region.free md ops b i && (Region.ready md ops b).contains i && skipOk md ops r (b.setIfInBounds i true) (a.put (some d) undef)
theorem skipAll (l : List (Nat × Nat)) (hs : Region.noSelect ops = true) (hQ : ∀ c d v a w, Q (.panic c) (Act.put a d v) w → Q (.panic c) a w) {w : World} (hS : S w) :
    ∀ {fuel : Nat} {listed : Array Bool} {a : Act}, skipOk md ops l listed a = true → wpAnyH P md ops Q S fuel (listAll listed l) (putAll a l) w → wpAnyH P md ops Q S (fuel + l.length) listed a w := by
  induction l with
  | nil => intro fuel listed a _ h; exact h
  | cons p r ih =>
    intro fuel listed a hok h
    obtain ⟨i, d⟩ := p
    simp only [skipOk, Bool.and_eq_true] at hok
    obtain ⟨⟨⟨h1, h2⟩, h3⟩, h4⟩ := hok
    cases ho : ops[i]? with
    | none => rw [ho] at h1; cases h1
    | some o =>
      rw [ho] at h1
      simp only [Bool.and_eq_true, beq_iff_eq, Bool.not_eq_true'] at h1
      have := ih h4 h
      exact wpAnyH_take (i := i) (oi := o) (v := undef) ho hs h2 h3 (fun c a w => hQ c _ _ a w) (.inr ⟨h1.2, rfl⟩) hS (by rw [h1.1]; exact this)
end
end Go.Proofs.Ytaapacpiipcogaa

/-
  What the readers' walks share.
-/
namespace Go.Proofs.Ytaapacpiipcogaa
open Go.RowKit
set_option maxRecDepth 100000

theorem set12 {W : World} {g : Nat} {x a b y z : Value} {t : TypeId} (h : W.heap[g]? = some (.cells #[x, a, b] t (0, 0))) :
    ((W.setCell ⟨g, 1, none⟩ y).setCell ⟨g, 2, none⟩ z).heap[g]? = some (.cells #[x, y, z] t (0, 0)) := by
  have h1 := heap_setCell_same W g 1 _ t y h
  have h2 := heap_setCell_same _ g 2 _ t z h1
  simpa using h2
theorem setc2 {W : World} {g : Nat} {x a b z : Value} {t : TypeId} (h : W.heap[g]? = some (.cells #[x, a, b] t (0, 0))) :
    (W.setCell ⟨g, 2, none⟩ z).heap[g]? = some (.cells #[x, a, z] t (0, 0)) := by
  have h2 := heap_setCell_same W g 2 _ t z h
  simpa using h2
theorem grown_drew {w : World} {r : Option Nat} : w.grownBy w.drew r := grown_below' (grown_refl w r) ((Below.refl _ _).drew)
where grown_below' {w W W' : World} {r : Option Nat} (h : w.grownBy W r) (hb : Below W.heap.size W W') : w.grownBy W' r :=
  ⟨hb.os.trans h.os, hb.tape.trans h.tape, hb.output.trans h.output, Nat.le_trans h.size hb.size, fun k hk hne => (hb.block k (Nat.lt_of_lt_of_le hk h.size)).trans (h.block k hk hne)⟩
theorem rd_zero : ∀ (l : List UInt8) (k u : Nat), (rd k u l).2.2 ≠ 0 → (rd k u l).1 = 0
  | [], _, _, _ => rfl
  | b :: l, k, u, h => by
    unfold rd at *
    split
    · rfl
    · rename_i hA
      rw [if_neg hA] at h
      split
      · rename_i hb
        rw [if_pos hb] at h
        split
        · rfl
        · rename_i hz
          rw [if_neg hz] at h
          exact absurd rfl h
      · rename_i hb
        rw [if_neg hb] at h
        exact rd_zero l _ _ h
theorem txt_zero (s : ByteArray) (p : Nat) (h : (txtAt s p).2.2 ≠ 0) : (txtAt s p).1 = ByteArray.empty := by
  unfold txtAt textOf at *
  split
  · rfl
  · split
    · rfl
    · split
      · rfl
      · rename_i h1 h2 h3
        rw [if_neg h1, if_neg h2, if_neg h3] at h
        exact absurd rfl h
theorem grown_some {w w1 w2 : World} {g base : Nat} {v : Value} (h : w.grownBy w1 (some g)) (hg : w1.grownBy w2 v.ownBlock) (hb : w.heap.size ≤ base) (hv : ∀ k, v.ownBlock = some k → base ≤ k) : w.grownBy w2 (some g) :=
  ⟨hg.os.trans h.os, hg.tape.trans h.tape, hg.output.trans h.output, Nat.le_trans h.size hg.size, fun k hk hne => (hg.block k (Nat.lt_of_lt_of_le hk h.size) (fun e => by have := hv k e.symm; omega)).trans (h.block k hk hne)⟩
theorem grown_alloc' {w w1 : World} {g : Nat} (h : w.grownBy w1 (some g)) (o : Obj) : w.grownBy (w1.alloc o) (some g) := grown_below h ((Below.refl _ _).alloc (Nat.le_refl _) o)
/-- What a block that was made behind the start holds does not matter to the frame. -/
theorem grown_new {w w1 : World} {g R : Nat} (h : w.grownBy w1 (some g)) (hR : w.heap.size ≤ R) (m : Nat) (x : Value) : w.grownBy (w1.setCell ⟨R, m, none⟩ x) (some g) := by
  have hb : Below 0 w1 (w1.setCell ⟨R, m, none⟩ x) := (Below.refl 0 w1).setCell (Nat.zero_le _) x
  exact ⟨hb.os.trans h.os, hb.tape.trans h.tape, hb.output.trans h.output, Nat.le_trans h.size hb.size, fun k hk hne => (heap_setCell_other w1 ⟨R, m, none⟩ k x (show k ≠ R by omega)).trans (h.block k hk hne)⟩
end Go.Proofs.Ytaapacpiipcogaa

/-
  Contracts: GetNum of the specification.
-/
namespace Go.Proofs.Ytaapacpiipcogaa
open Go.RowKit

theorem prod9 (b k : Nat) (h : k = 9) : (b : Int) % 128 * 9223372036854775808 = ((b % 128 * 2 ^ (7 * k) : Nat) : Int) := by subst h; simp
theorem retN {V : Value} {a b n q : Int} (hV : V = nOut n q 0) (h1 : a = n) (h2 : b = q) : Ending.returned (.agg #[.int .i64 a, .int .i64 b, .int .i64 0]) = .returned V := by rw [hV, h1, h2]; rfl

set_option maxRecDepth 100000 in
set_option maxHeartbeats 4000000 in
theorem specGetNum_any (s : ByteArray) (a : Int) (ha : a ≤ 9223372036854775807) (w : World) :
    Calls Try.prog 96 #[.string s, .int .i64 a] w fun e w' => e = .returned (getNumV s a) ∧ Below w.heap.size w w' := by
  by_cases h1 : 20000 < s.size
  · have H : Hid (getNumV s a = nOut 0 0 2) := by show _ = _; unfold getNumV getNum3; rw [if_pos h1]; rfl
    go_enter Try.func96, Try.ntmps96
    go_wp2
    refine bodyPost_ret (v := nOut 0 0 2) (resNum Try.results96 _ _ w.heap.size _ _ _ rfl (heap_alloc_new _ _)) rfl ⟨by rw [H.out], (Below.refl _ _).alloc (Nat.le_refl _) _⟩
  by_cases h2 : a < 0
  · have H : Hid (getNumV s a = nOut 0 0 1) := by show _ = _; unfold getNumV getNum3; rw [if_neg h1, if_pos h2]; rfl
    go_enter Try.func96, Try.ntmps96
    go_wp2
    refine bodyPost_ret (v := nOut 0 0 1) (resNum Try.results96 _ _ w.heap.size _ _ _ rfl (heap_alloc_new _ _)) rfl ⟨by rw [H.out], (Below.refl _ _).alloc (Nat.le_refl _) _⟩
  obtain ⟨p, rfl⟩ := Int.eq_ofNat_of_zero_le (show 0 ≤ a by omega)
  have H : Hid (getNumV s p = nOut (rdAt s.data.toList p).1 (behind p (rdAt s.data.toList p)) (rdAt s.data.toList p).2.2) := by
    show _ = _; unfold getNumV getNum3; rw [if_neg h1, if_neg (by omega), Int.toNat_natCast]
  go_enter Try.func96, Try.ntmps96
  go_wp2
  go_loop [5, 6] (fun x i => ∃ k u : Nat, k ≤ 9 ∧ i = .int .i64 k ∧ x = .int .u64 u ∧ Hid (u < 2 ^ (7 * k)) ∧ Hid (rdAt s.data.toList p = rd k u (s.data.toList.drop (p + k)))) (fun _ i => 10 - (intOf i).toNat)
  case atStart => exact ⟨0, 0, by omega, rfl, rfl, by show _ < _; omega, rfl⟩
  case round =>
    obtain ⟨k, u, hk, rfl, rfl, HU, HR⟩ := hrel
    by_cases hlt : p + k < s.size
    · have hbl : s[p + k].toNat < 256 := s[p + k].toNat_lt
      have HD : Hid (s.data.toList.drop (p + k) = s[p + k] :: s.data.toList.drop (p + k + 1)) := drop_cons s (p + k) hlt
      by_cases hA : k = 9 ∧ 1 < s[p + k].toNat
      · have HF : Hid (rdAt s.data.toList p = (0, 0, 3)) := by
          show _ = _
          rw [HR.out, HD.out, rd_big hA.1 hA.2]
        have h9 : 9 ≤ k := by omega
        have hb1 := hA.2
        clear hA HR HD HU
        go_wp2
        refine bodyPost_ret (v := nOut 0 0 3) (resNum Try.results96 _ _ w.heap.size _ _ _ rfl (heap_alloc_new _ _)) rfl ⟨by rw [H.out, HF.out]; rfl, (Below.refl _ _).alloc (Nat.le_refl _) _⟩
      · by_cases hb : s[p + k].toNat < 128
        · by_cases hz : s[p + k].toNat = 0 ∧ 0 < k
          · have HF : Hid (rdAt s.data.toList p = (0, 0, 3)) := by
              show _ = _
              rw [HR.out, HD.out, rd_nought hz.2 hz.1]
            have hz1 : s[p + k].toNat < 1 := by omega
            have hz2 := hz.2
            clear hz HR HD HU hA
            go_wp2
            all_goals refine bodyPost_ret (v := nOut 0 0 3) (resNum Try.results96 _ _ w.heap.size _ _ _ rfl (heap_alloc_new _ _)) rfl ⟨by rw [H.out, HF.out]; rfl, (Below.refl _ _).alloc (Nat.le_refl _) _⟩
          · have HF : Hid (rdAt s.data.toList p = (unz (u + s[p + k].toNat % 128 * 2 ^ (7 * k)), k + 1, 0)) := by
              show _ = _
              rw [HR.out, HD.out, rd_last hA hb hz]
            have hpl := prod_lt hk hA
            have hsl := sum_lt hk HU.out hA
            rcases Nat.lt_or_ge k 9 with h9 | h9
            · have hwp := wrap_prod hpl
              generalize s[p + k].toNat % 128 * 2 ^ (7 * k) = pr at *
              clear HR HD HU hpl
              rcases Nat.mod_two_eq_zero_or_one (u + pr) with hm | hm
              · have HX : Hid (unz (u + pr) = (((u + pr) / 2 : Nat) : Int)) := if_neg (by omega)
                go_wp2
                all_goals refine bodyPost_ret (v := .agg #[.int .i64 _, .int .i64 _, .int .i64 0]) (resNum Try.results96 _ _ w.heap.size _ _ _ rfl (heap_alloc_new _ _)) rfl ⟨retN (by rw [H.out, HF.out]; rfl) (by rw [HX.out]; omega) (by simp [behind]; omega), (Below.refl _ _).alloc (Nat.le_refl _) _⟩
              · have HX : Hid (unz (u + pr) = -(((u + pr) / 2 : Nat) : Int) - 1) := if_pos hm
                go_wp2
                all_goals refine bodyPost_ret (v := .agg #[.int .i64 _, .int .i64 _, .int .i64 0]) (resNum Try.results96 _ _ w.heap.size _ _ _ rfl (heap_alloc_new _ _)) rfl ⟨retN (by rw [H.out, HF.out]; rfl) (by rw [HX.out]; omega) (by simp [behind]; omega), (Below.refl _ _).alloc (Nat.le_refl _) _⟩
            · have h9p : (s[p + k].toNat : Int) % 128 * 9223372036854775808 = ((s[p + k].toNat % 128 * 2 ^ (7 * k) : Nat) : Int) := prod9 _ k (by omega)
              have hb1 : ¬ 1 < s[p + k].toNat := fun h => hA ⟨by omega, h⟩
              generalize s[p + k].toNat % 128 * 2 ^ (7 * k) = pr at *
              clear HR HD HU hpl hA
              rcases Nat.mod_two_eq_zero_or_one (u + pr) with hm | hm
              · have HX : Hid (unz (u + pr) = (((u + pr) / 2 : Nat) : Int)) := if_neg (by omega)
                go_wp2
                all_goals refine bodyPost_ret (v := .agg #[.int .i64 _, .int .i64 _, .int .i64 0]) (resNum Try.results96 _ _ w.heap.size _ _ _ rfl (heap_alloc_new _ _)) rfl ⟨retN (by rw [H.out, HF.out]; rfl) (by rw [HX.out]; omega) (by simp [behind]; omega), (Below.refl _ _).alloc (Nat.le_refl _) _⟩
              · have HX : Hid (unz (u + pr) = -(((u + pr) / 2 : Nat) : Int) - 1) := if_pos hm
                go_wp2
                all_goals refine bodyPost_ret (v := .agg #[.int .i64 _, .int .i64 _, .int .i64 0]) (resNum Try.results96 _ _ w.heap.size _ _ _ rfl (heap_alloc_new _ _)) rfl ⟨retN (by rw [H.out, HF.out]; rfl) (by rw [HX.out]; omega) (by simp [behind]; omega), (Below.refl _ _).alloc (Nat.le_refl _) _⟩
        · have hk8 : k < 9 := by
            rcases Nat.lt_or_ge k 9 with h9 | h9
            · exact h9
            · exact absurd ⟨by omega, by omega⟩ hA
          have hpl := prod_lt hk hA
          have hwp := wrap_prod hpl
          have hsl := sum_lt hk HU.out hA
          have HU2 : Hid (u + s[p + k].toNat % 128 * 2 ^ (7 * k) < 2 ^ (7 * (k + 1))) := next_lt HU.out
          have HR2 : Hid (rdAt s.data.toList p = rd (k + 1) (u + s[p + k].toNat % 128 * 2 ^ (7 * k)) (s.data.toList.drop (p + (k + 1)))) := by
            show _ = _
            rw [HR.out, HD.out, rd_more (by omega) hb]; rfl
          generalize s[p + k].toNat % 128 * 2 ^ (7 * k) = pr at *
          clear HR HD HU hpl hA
          go_wp2
          go_round
          case rel => exact ⟨k + 1, u + pr, by omega, by go_num, by go_num, HU2, HR2⟩
          case measure => simp [intOf]; omega
    · have HF : Hid (rdAt s.data.toList p = (0, 0, 4)) := by
        show _ = _
        rw [HR.out, drop_none _ _ (by omega), rd_short]
      clear HR HU
      go_wp2
      refine bodyPost_ret (v := nOut 0 0 4) (resNum Try.results96 _ _ w.heap.size _ _ _ rfl (heap_alloc_new _ _)) rfl ⟨by rw [H.out, HF.out]; rfl, (Below.refl _ _).alloc (Nat.le_refl _) _⟩
end Go.Proofs.Ytaapacpiipcogaa

/-
  Contracts: GetText of the specification.
-/
namespace Go.Proofs.Ytaapacpiipcogaa
open Go.RowKit
attribute [local go_sem ↓] Go.wp_at_zero Go.wp_at_succ

theorem getNum3_in (s : ByteArray) (a : Int) (h : (getNum3 s a).2.2 = 0) : 0 ≤ (getNum3 s a).2.1 ∧ (getNum3 s a).2.1 ≤ s.size ∧ s.size ≤ 20000 := by
  unfold getNum3 at *
  by_cases h1 : 20000 < s.size
  · rw [if_pos h1] at h; simp at h
  · rw [if_neg h1] at *
    by_cases h2 : a < 0
    · rw [if_pos h2] at h; simp at h
    · rw [if_neg h2] at *
      have := behind_le s a.toNat h
      exact ⟨this.1, this.2, by omega⟩
theorem set3a {W : World} {g : Nat} {a b c x y z : Value} {t : TypeId} (hlt : g < W.heap.size) (h : W.heap[g]? = some (.cells #[a, b, c] t (0, 0))) (o : Obj) :
    ((((W.setCell ⟨g, 0, none⟩ x).setCell ⟨g, 1, none⟩ y).setCell ⟨g, 2, none⟩ z).alloc o).heap[g]? = some (.cells #[x, y, z] t (0, 0)) :=
  (Below.heap_alloc _ _ _ (by simpa using hlt)).trans (set3 h)
theorem cell_new3 {W : World} {x y z : Value} {t : TypeId} {g : Nat} (hg : g = W.heap.size) : (W.alloc (.cells #[x, y, z] t)).drew.cell? ⟨g, 0, none⟩ = some x ∧ (W.alloc (.cells #[x, y, z] t)).drew.cell? ⟨g, 1, none⟩ = some y := by
  subst hg
  have h := heap_alloc_new W (.cells #[x, y, z] t)
  have h' : (W.alloc (.cells #[x, y, z] t)).drew.heap[W.heap.size]? = some (.cells #[x, y, z] t (0, 0)) := h
  exact ⟨(cells3 h').1, (cells3 h').2.1⟩
theorem retT {V : Value} {t t' : ByteArray} {b q : Int} {c : Int} {k : Int} (hV : V = tOut t' q k) (h1 : t = t') (h2 : b = q) (h3 : c = k) : Ending.returned (.agg #[.string t, .int .i64 b, .int .i64 c]) = .returned V := by rw [hV, h1, h2, h3]; rfl

set_option maxRecDepth 100000 in
set_option maxHeartbeats 4000000 in
theorem specGetText_any (s : ByteArray) (a : Int) (ha : a ≤ 9223372036854775807) (w : World) :
    Calls Try.prog 97 #[.string s, .int .i64 a] w fun e w' => e = .returned (getTextV s a) ∧ Below w.heap.size w w' := by
  have hsp := specGetNum_any s a ha
  have hin := getNum3_in s a
  have H : Hid (getTextV s a = tOut (textOf s (getNum3 s a).1 (getNum3 s a).2.1 (getNum3 s a).2.2).1 (textOf s (getNum3 s a).1 (getNum3 s a).2.1 (getNum3 s a).2.2).2.1 (textOf s (getNum3 s a).1 (getNum3 s a).2.1 (getNum3 s a).2.2).2.2) := rfl
  unfold getNumV at hsp
  generalize getNum3 s a = r at *
  obtain ⟨n, q, c⟩ := r
  have HS : Hid (∀ w, Calls Try.prog 96 #[.string s, .int .i64 a] w fun e w' => e = .returned (.agg #[.int .i64 n, .int .i64 q, .int .i64 c]) ∧ Below w.heap.size w w') := hsp
  clear hsp
  simp only at hin H
  by_cases h0 : c = 0
  · obtain ⟨hq0, hq1, hs⟩ := hin h0
    subst h0
    clear hin
    by_cases h1 : n < 0
    · have HT : Hid (textOf s n q 0 = (ByteArray.empty, 0, 3)) := by show _ = _; unfold textOf; rw [if_neg (by simp), if_pos (Or.inl h1)]
      go_enter Try.func97, Try.ntmps97
      go_wp2_with fail
      refine (HS.out _).mono ?_
      rintro e w1 ⟨rfl, hb1⟩
      have hz1 : w.heap.size < w1.heap.size := by (have := hb1.size; simp at this; omega)
      have hk : w1.heap[w.heap.size]? = some (.cells #[.string ⟨#[]⟩, .int .i64 0, .int .i64 0] 133 (0, 0)) := (hb1.block _ (by simp)).trans (heap_alloc_new w _)
      obtain ⟨c0, c1, c2, cf⟩ := cells3 hk
      have HK : Hid (w1.heap[w.heap.size]? = some (.cells #[.string ⟨#[]⟩, .int .i64 0, .int .i64 0] 133 (0, 0))) := hk
      clear hk
      go_wp2
      refine bodyPost_ret (v := .agg #[.string ⟨#[]⟩, .int .i64 0, .int .i64 3]) (resOutT Try.results97 _ _ w.heap.size _ _ _ rfl (set3a hz1 HK.out _)) rfl ⟨by rw [H.out, HT.out]; rfl, ?_⟩
      exact (below3 (((Below.refl _ _).alloc (Nat.le_refl _) _).trans (hb1.mono (by simp))) (Nat.le_refl _)).alloc (by simp; omega) _
    by_cases h2 : 20000 < n
    · have HT : Hid (textOf s n q 0 = (ByteArray.empty, 0, 3)) := by show _ = _; unfold textOf; rw [if_neg (by simp), if_pos (Or.inr h2)]
      go_enter Try.func97, Try.ntmps97
      go_wp2_with fail
      refine (HS.out _).mono ?_
      rintro e w1 ⟨rfl, hb1⟩
      have hz1 : w.heap.size < w1.heap.size := by (have := hb1.size; simp at this; omega)
      have hk : w1.heap[w.heap.size]? = some (.cells #[.string ⟨#[]⟩, .int .i64 0, .int .i64 0] 133 (0, 0)) := (hb1.block _ (by simp)).trans (heap_alloc_new w _)
      obtain ⟨c0, c1, c2, cf⟩ := cells3 hk
      have HK : Hid (w1.heap[w.heap.size]? = some (.cells #[.string ⟨#[]⟩, .int .i64 0, .int .i64 0] 133 (0, 0))) := hk
      clear hk
      go_wp2
      refine bodyPost_ret (v := .agg #[.string ⟨#[]⟩, .int .i64 0, .int .i64 3]) (resOutT Try.results97 _ _ w.heap.size _ _ _ rfl (set3a hz1 HK.out _)) rfl ⟨by rw [H.out, HT.out]; rfl, ?_⟩
      exact (below3 (((Below.refl _ _).alloc (Nat.le_refl _) _).trans (hb1.mono (by simp))) (Nat.le_refl _)).alloc (by simp; omega) _
    by_cases h3 : (s.size : Int) - q < n
    · have HT : Hid (textOf s n q 0 = (ByteArray.empty, 0, 4)) := by show _ = _; unfold textOf; rw [if_neg (by simp), if_neg (by omega), if_pos h3]
      have h3' : (s.size : Int) - n < q := by omega
      go_enter Try.func97, Try.ntmps97
      go_wp2_with fail
      refine (HS.out _).mono ?_
      rintro e w1 ⟨rfl, hb1⟩
      have hz1 : w.heap.size < w1.heap.size := by (have := hb1.size; simp at this; omega)
      have hk : w1.heap[w.heap.size]? = some (.cells #[.string ⟨#[]⟩, .int .i64 0, .int .i64 0] 133 (0, 0)) := (hb1.block _ (by simp)).trans (heap_alloc_new w _)
      obtain ⟨c0, c1, c2, cf⟩ := cells3 hk
      have HK : Hid (w1.heap[w.heap.size]? = some (.cells #[.string ⟨#[]⟩, .int .i64 0, .int .i64 0] 133 (0, 0))) := hk
      clear hk
      go_wp2
      refine bodyPost_ret (v := .agg #[.string ⟨#[]⟩, .int .i64 0, .int .i64 4]) (resOutT Try.results97 _ _ w.heap.size _ _ _ rfl (set3a hz1 HK.out _)) rfl ⟨by rw [H.out, HT.out]; rfl, ?_⟩
      exact (below3 (((Below.refl _ _).alloc (Nat.le_refl _) _).trans (hb1.mono (by simp))) (Nat.le_refl _)).alloc (by simp; omega) _
    have HT : Hid (textOf s n q 0 = (s.extract q.toNat (q + n).toNat, q + n, 0)) := by show _ = _; unfold textOf; rw [if_neg (by simp), if_neg (by omega), if_neg h3]
    have h4 : q ≤ q + n := by omega
    have h5 : q + n ≤ s.size := by omega
    have h6 : IntKind.i64.wrap (q + n) = q + n := by rw [IntKind.wrap_i64]; omega
    go_enter Try.func97, Try.ntmps97
    go_wp2_with fail
    refine (HS.out _).mono ?_
    rintro e w1 ⟨rfl, hb1⟩
    have hz1 : w.heap.size < w1.heap.size := by (have := hb1.size; simp at this; omega)
    have hk : w1.heap[w.heap.size]? = some (.cells #[.string ⟨#[]⟩, .int .i64 0, .int .i64 0] 133 (0, 0)) := (hb1.block _ (by simp)).trans (heap_alloc_new w _)
    obtain ⟨c0, c1, c2, cf⟩ := cells3 hk
    have HK : Hid (w1.heap[w.heap.size]? = some (.cells #[.string ⟨#[]⟩, .int .i64 0, .int .i64 0] 133 (0, 0))) := hk
    clear hk
    go_wp2
    go_region_held3 (fun w' => w'.cell? ⟨w1.heap.size, 0, none⟩ = some (.int .i64 n) ∧ w'.cell? ⟨w1.heap.size, 1, none⟩ = some (.int .i64 q)) (first | exact cell_new3 (by simp) | go_keep) (fail)
    go_wp2
    refine bodyPost_ret (v := .agg #[.string (s.extract q.toNat (q + n).toNat), .int .i64 (q + n), .int .i64 0]) (resOutT Try.results97 _ _ w.heap.size _ _ _ rfl (set3a hz1 HK.out _)) rfl ⟨by rw [H.out, HT.out]; rfl, ?_⟩
    exact ((below3 (((Below.refl _ _).alloc (Nat.le_refl _) _).trans (hb1.mono (by simp))) (Nat.le_refl _)).alloc (by simp; omega) _).drew
  · have HT : Hid (textOf s n q c = (ByteArray.empty, 0, c)) := if_pos h0
    have hc1 : ((c : Int) != 0) = true := by simp; omega
    clear hin
    go_enter Try.func97, Try.ntmps97
    go_wp2_with fail
    refine (HS.out _).mono ?_
    rintro e w1 ⟨rfl, hb1⟩
    have hz1 : w.heap.size < w1.heap.size := by (have := hb1.size; simp at this; omega)
    have hk : w1.heap[w.heap.size]? = some (.cells #[.string ⟨#[]⟩, .int .i64 0, .int .i64 0] 133 (0, 0)) := (hb1.block _ (by simp)).trans (heap_alloc_new w _)
    obtain ⟨c0, c1, c2, cf⟩ := cells3 hk
    have HK : Hid (w1.heap[w.heap.size]? = some (.cells #[.string ⟨#[]⟩, .int .i64 0, .int .i64 0] 133 (0, 0))) := hk
    clear hk
    go_wp2
    refine bodyPost_ret (v := .agg #[.string ⟨#[]⟩, .int .i64 0, .int .i64 c]) (resOutT Try.results97 _ _ w.heap.size _ _ _ rfl (set3a hz1 HK.out _)) rfl ⟨by rw [H.out, HT.out]; rfl, ?_⟩
    exact (below3 (((Below.refl _ _).alloc (Nat.le_refl _) _).trans (hb1.mono (by simp))) (Nat.le_refl _)).alloc (by simp; omega) _
end Go.Proofs.Ytaapacpiipcogaa

/-
  Contracts: the specification's reader: its number and its text.
-/
namespace Go.Proofs.Ytaapacpiipcogaa
open Go.RowKit
set_option maxRecDepth 100000

theorem setc1 {W : World} {g : Nat} {x a b z : Value} {t : TypeId} (h : W.heap[g]? = some (.cells #[x, a, b] t (0, 0))) :
    (W.setCell ⟨g, 1, none⟩ z).heap[g]? = some (.cells #[x, z, b] t (0, 0)) := by
  have h2 := heap_setCell_same W g 1 _ t z h
  simpa using h2
theorem far3_at {W : World} {g R : Nat} {x y z : Value} {o : Obj} (h : W.heap[g]? = some o) (hne : g ≠ R) : (((W.setCell ⟨R, 0, none⟩ x).setCell ⟨R, 1, none⟩ y).setCell ⟨R, 2, none⟩ z).heap[g]? = some o := by
  rw [heap_far _ _ _ _ _ hne, heap_far _ _ _ _ _ hne, heap_far _ _ _ _ _ hne]; exact h
theorem far3_set1 {W : World} {g R : Nat} {x y z q a b v : Value} {t : TypeId} (h : W.heap[g]? = some (.cells #[q, a, b] t (0, 0))) (hne : g ≠ R) :
    ((((W.setCell ⟨R, 0, none⟩ x).setCell ⟨R, 1, none⟩ y).setCell ⟨R, 2, none⟩ z).setCell ⟨g, 1, none⟩ v).heap[g]? = some (.cells #[q, v, b] t (0, 0)) := setc1 (far3_at h hne)
theorem far3_set2 {W : World} {g R : Nat} {x y z q a b v : Value} {t : TypeId} (h : W.heap[g]? = some (.cells #[q, a, b] t (0, 0))) (hne : g ≠ R) :
    ((((W.setCell ⟨R, 0, none⟩ x).setCell ⟨R, 1, none⟩ y).setCell ⟨R, 2, none⟩ z).setCell ⟨g, 2, none⟩ v).heap[g]? = some (.cells #[q, a, v] t (0, 0)) := setc2 (far3_at h hne)
theorem new_set1 {W : World} {g : Nat} {q a b v : Value} {t : TypeId} {o : Obj} (h : W.heap[g]? = some (.cells #[q, a, b] t (0, 0))) : ((W.setCell ⟨g, 1, none⟩ v).alloc o).heap[g]? = some (.cells #[q, v, b] t (0, 0)) :=
  (heap_old _ _ _ (Array.getElem?_eq_some_iff.1 (setc1 h)).1).trans (setc1 h)
theorem new_set2 {W : World} {g : Nat} {q a b v : Value} {t : TypeId} {o : Obj} (h : W.heap[g]? = some (.cells #[q, a, b] t (0, 0))) : ((W.setCell ⟨g, 2, none⟩ v).alloc o).heap[g]? = some (.cells #[q, a, v] t (0, 0)) :=
  (heap_old _ _ _ (Array.getElem?_eq_some_iff.1 (setc2 h)).1).trans (setc2 h)
set_option maxHeartbeats 1000000 in
theorem spNum_gen (g : Nat) (s : ByteArray) (a y c : Int) (x : Int) (b : Bool) (w : World) (h : w.heap[g]? = some (.cells #[.string s, .int .i64 a, .bool b] 120 (0, 0))) (ha : a ≤ 20000) (hx : getNumV s a = nOut x y c) :
    Calls Try.prog 88 #[.pointer (some ⟨g, 0, none⟩)] w fun e w' => (if b = true ∨ ¬ c = 0 then e = .returned (.int .i64 0) ∧ w'.heap[g]? = some (.cells #[.string s, .int .i64 a, .bool true] 120 (0, 0)) else e = .returned (.int .i64 x) ∧ w'.heap[g]? = some (.cells #[.string s, .int .i64 y, .bool false] 120 (0, 0))) ∧ w.grownBy w' (some g) := by
  have HN : Hid (∀ w, Calls Try.prog 96 #[.string s, .int .i64 a] w fun e w' => e = .returned (.agg #[.int .i64 x, .int .i64 y, .int .i64 c]) ∧ Below w.heap.size w w') := fun w => by have := specGetNum_any s a (by omega) w; rw [hx] at this; exact this
  have hgl := (Array.getElem?_eq_some_iff.1 h).1
  obtain ⟨c0, c1, c2, cf⟩ := cells3 h
  have HG0 : Hid ((w.alloc (.cells #[.int .i64 0, .int .i64 0, .int .i64 0] 130)).drew.heap[g]? = some (.cells #[.string s, .int .i64 a, .bool b] 120 (0, 0))) := (heap_old _ _ _ hgl).trans h
  have HK0 : Hid ((w.alloc (.cells #[.int .i64 0, .int .i64 0, .int .i64 0] 130)).drew.heap[w.heap.size]? = some (.cells #[.int .i64 0, .int .i64 0, .int .i64 0] 130 (0, 0))) := heap_alloc_new _ _
  have HZ0 : Hid ((w.alloc (.cells #[.int .i64 0, .int .i64 0, .int .i64 0] 130)).drew.heap.size = w.heap.size + 1) := by show _ = _; simp
  have HR0 : Hid (w.grownBy (w.alloc (.cells #[.int .i64 0, .int .i64 0, .int .i64 0] 130)).drew (some g)) := grown_below (grown_refl w (some g)) (((Below.refl w.heap.size w).alloc (Nat.le_refl _) _).drew)
  have HL0 : Hid (g < (w.alloc (.cells #[.int .i64 0, .int .i64 0, .int .i64 0] 130)).drew.heap.size) := by show _ < _; rw [HZ0.out]; omega
  have HM0 : Hid (w.heap.size < (w.alloc (.cells #[.int .i64 0, .int .i64 0, .int .i64 0] 130)).drew.heap.size) := by show _ < _; rw [HZ0.out]; omega
  have hne : g ≠ w.heap.size := by omega
  have hne' : w.heap.size ≠ g := by omega
  have HGD : Hid (w.drew.heap[g]? = some (.cells #[.string s, .int .i64 a, .bool b] 120 (0, 0))) := h
  have HLD : Hid (g < w.drew.heap.size) := hgl
  have HRD : Hid (w.grownBy w.drew (some g)) := grown_drew
  clear h hx ha
  go_enter Try.func88, Try.ntmps88
  go_wp2
  go_region_held3 (fun W => W.cell? ⟨g, 0, none⟩ = some (.string s) ∧ W.cell? ⟨g, 1, none⟩ = some (.int .i64 a)) (go_keep) (first
    | (go_at_call 96; refine (HN.out _).mono ?_; rintro e w1 ⟨rfl, hb1⟩; have G1 := hide (grown_below HR0.out hb1); have P1 := hide ((hb1.block g HL0.out).trans HG0.out); have Q1 := hide ((hb1.block w.heap.size HM0.out).trans HK0.out); obtain ⟨d0, d1, d2, df⟩ := cells3 P1.out; obtain ⟨q0, q1, q2, qf⟩ := cells3 Q1.out; clear hb1)
    | (go_at_call 96; refine (HN.out _).mono ?_; rintro e w1 ⟨rfl, hb1⟩; have G1 := hide (grown_below HRD.out hb1); have P1 := hide ((hb1.block g HLD.out).trans HGD.out); have hg1 := (Array.getElem?_eq_some_iff.1 P1.out).1; have hne1 := Nat.ne_of_lt hg1; have P2 := hide ((heap_old w1 (.cells #[.int .i64 0, .int .i64 0, .int .i64 0] 130) g hg1).trans P1.out); have Q2 := hide (heap_alloc_new w1 (.cells #[.int .i64 0, .int .i64 0, .int .i64 0] 130)); obtain ⟨p0, p1, p2, pf⟩ := cells3 P1.out; obtain ⟨d0, d1, d2, df⟩ := cells3 P2.out; obtain ⟨q0, q1, q2, qf⟩ := cells3 Q2.out; clear hb1))
  · cases b
    · by_cases hc : c = 0
      · subst hc
        go_wp2
        go_ret
        refine ⟨⟨rfl, ?_⟩, ?_⟩
        · exact new_set1 P1.out
        · exact grown_alloc' (grown_setG G1.out) _
      · have hcb : (c == 0) = false := by simp [hc]
        go_wp2
        go_ret
        refine ⟨⟨rfl, ?_⟩, ?_⟩
        · exact new_set2 P1.out
        · exact grown_alloc' (grown_setG G1.out) _
    · go_wp2
      go_ret
      refine ⟨⟨rfl, ?_⟩, ?_⟩
      · exact new_set2 P1.out
      · exact grown_alloc' (grown_setG G1.out) _
  · cases b
    · by_cases hc : c = 0
      · subst hc
        go_wp2
        go_ret
        refine ⟨⟨rfl, ?_⟩, ?_⟩
        · exact far3_set1 P1.out hne
        · exact grown_setG (grown_new (grown_new (grown_new G1.out (Nat.le_refl _) _ _) (Nat.le_refl _) _ _) (Nat.le_refl _) _ _)
      · have hcb : (c == 0) = false := by simp [hc]
        go_wp2
        go_ret
        refine ⟨⟨rfl, ?_⟩, ?_⟩
        · exact far3_set2 P1.out hne
        · exact grown_setG (grown_new (grown_new (grown_new G1.out (Nat.le_refl _) _ _) (Nat.le_refl _) _ _) (Nat.le_refl _) _ _)
    · go_wp2
      go_ret
      refine ⟨⟨rfl, ?_⟩, ?_⟩
      · exact far3_set2 P1.out hne
      · exact grown_setG (grown_new (grown_new (grown_new G1.out (Nat.le_refl _) _ _) (Nat.le_refl _) _ _) (Nat.le_refl _) _ _)
set_option maxHeartbeats 1000000 in
theorem spText_gen (g : Nat) (s : ByteArray) (a y c : Int) (x : ByteArray) (b : Bool) (w : World) (h : w.heap[g]? = some (.cells #[.string s, .int .i64 a, .bool b] 120 (0, 0))) (ha : a ≤ 20000) (hx : getTextV s a = tOut x y c) :
    Calls Try.prog 89 #[.pointer (some ⟨g, 0, none⟩)] w fun e w' => (if b = true ∨ ¬ c = 0 then e = .returned (.string ⟨#[]⟩) ∧ w'.heap[g]? = some (.cells #[.string s, .int .i64 a, .bool true] 120 (0, 0)) else e = .returned (.string x) ∧ w'.heap[g]? = some (.cells #[.string s, .int .i64 y, .bool false] 120 (0, 0))) ∧ w.grownBy w' (some g) := by
  have HN : Hid (∀ w, Calls Try.prog 97 #[.string s, .int .i64 a] w fun e w' => e = .returned (.agg #[.string x, .int .i64 y, .int .i64 c]) ∧ Below w.heap.size w w') := fun w => by have := specGetText_any s a (by omega) w; rw [hx] at this; exact this
  have hgl := (Array.getElem?_eq_some_iff.1 h).1
  obtain ⟨c0, c1, c2, cf⟩ := cells3 h
  have HG0 : Hid ((w.alloc (.cells #[.string ⟨#[]⟩, .int .i64 0, .int .i64 0] 133)).drew.heap[g]? = some (.cells #[.string s, .int .i64 a, .bool b] 120 (0, 0))) := (heap_old _ _ _ hgl).trans h
  have HK0 : Hid ((w.alloc (.cells #[.string ⟨#[]⟩, .int .i64 0, .int .i64 0] 133)).drew.heap[w.heap.size]? = some (.cells #[.string ⟨#[]⟩, .int .i64 0, .int .i64 0] 133 (0, 0))) := heap_alloc_new _ _
  have HZ0 : Hid ((w.alloc (.cells #[.string ⟨#[]⟩, .int .i64 0, .int .i64 0] 133)).drew.heap.size = w.heap.size + 1) := by show _ = _; simp
  have HR0 : Hid (w.grownBy (w.alloc (.cells #[.string ⟨#[]⟩, .int .i64 0, .int .i64 0] 133)).drew (some g)) := grown_below (grown_refl w (some g)) (((Below.refl w.heap.size w).alloc (Nat.le_refl _) _).drew)
  have HL0 : Hid (g < (w.alloc (.cells #[.string ⟨#[]⟩, .int .i64 0, .int .i64 0] 133)).drew.heap.size) := by show _ < _; rw [HZ0.out]; omega
  have HM0 : Hid (w.heap.size < (w.alloc (.cells #[.string ⟨#[]⟩, .int .i64 0, .int .i64 0] 133)).drew.heap.size) := by show _ < _; rw [HZ0.out]; omega
  have hne : g ≠ w.heap.size := by omega
  have hne' : w.heap.size ≠ g := by omega
  have HGD : Hid (w.drew.heap[g]? = some (.cells #[.string s, .int .i64 a, .bool b] 120 (0, 0))) := h
  have HLD : Hid (g < w.drew.heap.size) := hgl
  have HRD : Hid (w.grownBy w.drew (some g)) := grown_drew
  clear h hx ha
  go_enter Try.func89, Try.ntmps89
  go_wp2
  go_region_held3 (fun W => W.cell? ⟨g, 0, none⟩ = some (.string s) ∧ W.cell? ⟨g, 1, none⟩ = some (.int .i64 a)) (go_keep) (first
    | (go_at_call 97; refine (HN.out _).mono ?_; rintro e w1 ⟨rfl, hb1⟩; have G1 := hide (grown_below HR0.out hb1); have P1 := hide ((hb1.block g HL0.out).trans HG0.out); have Q1 := hide ((hb1.block w.heap.size HM0.out).trans HK0.out); obtain ⟨d0, d1, d2, df⟩ := cells3 P1.out; obtain ⟨q0, q1, q2, qf⟩ := cells3 Q1.out; clear hb1)
    | (go_at_call 97; refine (HN.out _).mono ?_; rintro e w1 ⟨rfl, hb1⟩; have G1 := hide (grown_below HRD.out hb1); have P1 := hide ((hb1.block g HLD.out).trans HGD.out); have hg1 := (Array.getElem?_eq_some_iff.1 P1.out).1; have hne1 := Nat.ne_of_lt hg1; have P2 := hide ((heap_old w1 (.cells #[.string ⟨#[]⟩, .int .i64 0, .int .i64 0] 133) g hg1).trans P1.out); have Q2 := hide (heap_alloc_new w1 (.cells #[.string ⟨#[]⟩, .int .i64 0, .int .i64 0] 133)); obtain ⟨p0, p1, p2, pf⟩ := cells3 P1.out; obtain ⟨d0, d1, d2, df⟩ := cells3 P2.out; obtain ⟨q0, q1, q2, qf⟩ := cells3 Q2.out; clear hb1))
  · cases b
    · by_cases hc : c = 0
      · subst hc
        go_wp2
        go_ret
        refine ⟨⟨rfl, ?_⟩, ?_⟩
        · exact new_set1 P1.out
        · exact grown_alloc' (grown_setG G1.out) _
      · have hcb : (c == 0) = false := by simp [hc]
        go_wp2
        go_ret
        refine ⟨⟨rfl, ?_⟩, ?_⟩
        · exact new_set2 P1.out
        · exact grown_alloc' (grown_setG G1.out) _
    · go_wp2
      go_ret
      refine ⟨⟨rfl, ?_⟩, ?_⟩
      · exact new_set2 P1.out
      · exact grown_alloc' (grown_setG G1.out) _
  · cases b
    · by_cases hc : c = 0
      · subst hc
        go_wp2
        go_ret
        refine ⟨⟨rfl, ?_⟩, ?_⟩
        · exact far3_set1 P1.out hne
        · exact grown_setG (grown_new (grown_new (grown_new G1.out (Nat.le_refl _) _ _) (Nat.le_refl _) _ _) (Nat.le_refl _) _ _)
      · have hcb : (c == 0) = false := by simp [hc]
        go_wp2
        go_ret
        refine ⟨⟨rfl, ?_⟩, ?_⟩
        · exact far3_set2 P1.out hne
        · exact grown_setG (grown_new (grown_new (grown_new G1.out (Nat.le_refl _) _ _) (Nat.le_refl _) _ _) (Nat.le_refl _) _ _)
    · go_wp2
      go_ret
      refine ⟨⟨rfl, ?_⟩, ?_⟩
      · exact far3_set2 P1.out hne
      · exact grown_setG (grown_new (grown_new (grown_new G1.out (Nat.le_refl _) _ _) (Nat.le_refl _) _ _) (Nat.le_refl _) _ _)
end Go.Proofs.Ytaapacpiipcogaa

/-
  Contracts: the specification's reader, over the plain model: its number and its text.
-/
namespace Go.Proofs.Ytaapacpiipcogaa
open Go.RowKit
set_option maxRecDepth 100000

/-- The specification's reader in block g, at a state. -/
def SpAt (g : Nat) (s : ByteArray) (st : St) (w : World) : Prop :=
  s.size ≤ 20000 ∧ ∃ (a : Int) (b : Bool), w.heap[g]? = some (.cells #[.string s, .int .i64 a, .bool b] 120 (0, 0)) ∧ a ≤ 20000 ∧ ((∃ p : Nat, st = some p ∧ a = (p : Int) ∧ b = false ∧ p ≤ s.size) ∨ (st = none ∧ b = true))
theorem SpAt.kept {g : Nat} {s : ByteArray} {st : St} {w w' : World} {r : Option Nat} (h : SpAt g s st w) (hg : w.grownBy w' r) (hr : r ≠ some g) : SpAt g s st w' := by
  obtain ⟨h1, a, e, h2, h3⟩ := h
  exact ⟨h1, a, e, (hg.block g (Array.getElem?_eq_some_iff.1 h2).1 (fun e => hr e.symm)).trans h2, h3⟩
theorem SpAt.below {g B : Nat} {s : ByteArray} {st : St} {w w' : World} (h : SpAt g s st w) (hb : Below B w w') (hg : g < B) : SpAt g s st w' := by
  obtain ⟨h1, a, e, h2, h3⟩ := h
  exact ⟨h1, a, e, (hb.block g hg).trans h2, h3⟩
theorem SpAt.lt {g : Nat} {s : ByteArray} {st : St} {w : World} (h : SpAt g s st w) : g < w.heap.size := by
  obtain ⟨h1, a, e, h2, h3⟩ := h
  exact (Array.getElem?_eq_some_iff.1 h2).1
theorem SpAt.other {g R : Nat} {s : ByteArray} {st : St} {w : World} (h : SpAt g s st w) (hne : g ≠ R) (m : Nat) (x : Value) : SpAt g s st (w.setCell ⟨R, m, none⟩ x) := by
  obtain ⟨h1, a, e, h2, h3⟩ := h
  exact ⟨h1, a, e, (heap_setCell_other w ⟨R, m, none⟩ g x hne).trans h2, h3⟩
theorem getNum3_nat (s : ByteArray) (p : Nat) (hs : s.size ≤ 20000) : getNum3 s (p : Int) = ((rdAt s.data.toList p).1, behind p (rdAt s.data.toList p), (rdAt s.data.toList p).2.2) := by
  unfold getNum3
  rw [if_neg (by omega), if_neg (by omega), Int.toNat_natCast]
theorem rNum_none (s : ByteArray) (st : St) (h : (rNum s st).2 = none) : (rNum s st).1 = 0 := by
  cases st with
  | none => rfl
  | some p =>
    unfold rNum at h ⊢
    simp only at h ⊢
    split at h
    · simp at h
    · rename_i h1; rw [if_neg h1]
theorem spNum_any (g : Nat) (s : ByteArray) (st : St) (w : World) (h : SpAt g s st w) :
    Calls Try.prog 88 #[.pointer (some ⟨g, 0, none⟩)] w fun e w' => e = .returned (.int .i64 (rNum s st).1) ∧ SpAt g s (rNum s st).2 w' ∧ w.grownBy w' (some g) := by
  obtain ⟨hs, a, b, hg, ha, hst⟩ := h
  rcases hst with ⟨p, rfl, rfl, rfl, hp⟩ | ⟨rfl, rfl⟩
  · have hv : getNumV s (p : Int) = nOut (rdAt s.data.toList p).1 (behind p (rdAt s.data.toList p)) ((rdAt s.data.toList p).2.2 : Nat) := by unfold getNumV; rw [getNum3_nat s p hs]
    refine (spNum_gen g s p _ _ _ false w hg ha hv).mono ?_
    rintro e w' ⟨h1, h2⟩
    have hpl := rNum_place s (some p)
    unfold rNum at hpl ⊢
    simp only at hpl ⊢
    by_cases h0 : (rdAt s.data.toList p).2.2 = 0
    · rw [if_neg (by rw [h0]; simp)] at h1
      rw [if_pos h0] at hpl ⊢
      have hb : behind p (rdAt s.data.toList p) = ((p + (rdAt s.data.toList p).2.1 : Nat) : Int) := by unfold behind; rw [if_pos h0]
      rw [hb] at h1
      have := hpl _ rfl
      exact ⟨h1.1, ⟨hs, _, _, h1.2, by omega, .inl ⟨_, rfl, rfl, rfl, this⟩⟩, h2⟩
    · rw [if_pos (.inr (by omega))] at h1
      rw [if_neg h0]
      exact ⟨h1.1, ⟨hs, _, _, h1.2, ha, .inr ⟨rfl, rfl⟩⟩, h2⟩
  · refine (spNum_gen g s a _ _ _ true w hg ha rfl).mono ?_
    rintro e w' ⟨h1, h2⟩
    rw [if_pos (.inl rfl)] at h1
    exact ⟨h1.1, ⟨hs, _, _, h1.2, ha, .inr ⟨rfl, rfl⟩⟩, h2⟩
theorem spText_any (g : Nat) (s : ByteArray) (st : St) (w : World) (h : SpAt g s st w) :
    Calls Try.prog 89 #[.pointer (some ⟨g, 0, none⟩)] w fun e w' => e = .returned (.string (rTxt s st).1) ∧ SpAt g s (rTxt s st).2 w' ∧ w.grownBy w' (some g) := by
  obtain ⟨hs, a, b, hg, ha, hst⟩ := h
  rcases hst with ⟨p, rfl, rfl, rfl, hp⟩ | ⟨rfl, rfl⟩
  · have hv : getTextV s (p : Int) = tOut (txtAt s p).1 (txtAt s p).2.1 ((txtAt s p).2.2 : Nat) := by unfold getTextV getText3; rw [getNum3_nat s p hs]; rfl
    refine (spText_gen g s p _ _ _ false w hg ha hv).mono ?_
    rintro e w' ⟨h1, h2⟩
    have hpl := txt_place s p
    unfold rTxt
    simp only
    by_cases h0 : (txtAt s p).2.2 = 0
    · rw [if_neg (by rw [h0]; simp)] at h1
      rw [if_pos h0]
      have := hpl h0
      exact ⟨h1.1, ⟨hs, _, _, h1.2, by omega, .inl ⟨_, rfl, by omega, rfl, by omega⟩⟩, h2⟩
    · rw [if_pos (.inr (by omega))] at h1
      rw [if_neg h0]
      exact ⟨h1.1, ⟨hs, _, _, h1.2, ha, .inr ⟨rfl, rfl⟩⟩, h2⟩
  · refine (spText_gen g s a _ _ _ true w hg ha rfl).mono ?_
    rintro e w' ⟨h1, h2⟩
    rw [if_pos (.inl rfl)] at h1
    exact ⟨h1.1, ⟨hs, _, _, h1.2, ha, .inr ⟨rfl, rfl⟩⟩, h2⟩
end Go.Proofs.Ytaapacpiipcogaa
