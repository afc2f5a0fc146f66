/-
  Contracts: a value is read by the specification.
-/
import Derived.Test.YtkkggbbpaflieaaGreatDoorReadK3
namespace Go.Proofs.YtkkggbbpaflieaaGreatDoor
open Go.RowKit

/-- What l02Value answers, held against what is read. -/
def ReadAs (s : ByteArray) (o : Option (Val × List UInt8)) (v : Val) (a : Int) (ok : Bool) : Prop :=
  match o with
  | none => ok = false ∨ vRight v = false
  | some (x, r) => ok = true ∧ v = x ∧ a = (s.size : Int) - r.length

def L02Post (s : ByteArray) (a : Nat) (w : World) (e : Ending) (w' : World) : Prop :=
  ∃ (v : Val) (a' : Int) (ok : Bool), e = .returned (.tuple #[.agg #[.int .i64 v.kind, .int .i64 v.num, .string v.text], .int .i64 a', .bool ok]) ∧ v.text.size ≤ 20000 ∧ ReadAs s (readV (s.data.toList.drop a)) v a' ok ∧ Below w.heap.size w w'
theorem l02_mk {s : ByteArray} {a : Nat} {w : World} {e : Ending} {w' : World} (v : Val) (a' : Int) (ok : Bool) (h1 : e = .returned (.tuple #[.agg #[.int .i64 v.kind, .int .i64 v.num, .string v.text], .int .i64 a', .bool ok])) (h2 : v.text.size ≤ 20000) (h3 : ReadAs s (readV (s.data.toList.drop a)) v a' ok) (h4 : Below w.heap.size w w') : L02Post s a w e w' := ⟨v, a', ok, h1, h2, h3, h4⟩
section
variable (s : ByteArray) (a : Nat) (hsz : s.size ≤ 20000) (h : a < s.size) (w : World)
include hsz

set_option maxRecDepth 100000 in
theorem l02Value_null (hc : s[a].toNat = 0) :
    Calls Tryz.prog 48 #[.string s, .int .i64 a] w (L02Post s a w) := by
  have HF : Hid (readV (s.data.toList.drop a) = some (⟨0, 0, ByteArray.empty⟩, s.data.toList.drop (a + 1))) := by
    show _ = _
    have e : s[a] = 0 := UInt8.toNat_inj.1 hc
    rw [drop_one s a h, readV.eq_def]
    simp only [e, if_true]
  go_enter Tryz.func48, Tryz.ntmps48
  go_wp2
  refine bodyPost_ret (v := .tuple #[.agg #[.int .i64 0, .int .i64 0, .string ⟨#[]⟩], .int .i64 ((a : Int) + 1), .bool true]) (by simp [results, Tryz.results48, go_sem]) rfl (l02_mk ⟨0, 0, ⟨#[]⟩⟩ ((a : Int) + 1) true rfl (by simp [ByteArray.size]) ?_ ?_)
  · rw [HF.out]
    exact ⟨rfl, rfl, (rest_len s a 1 (by omega)).symm⟩
  · exact ((Below.refl _ _).alloc (Nat.le_refl _) _).alloc (by simp) _
set_option maxRecDepth 100000 in
theorem l02Value_other (h0 : ¬ s[a].toNat = 0) (h1 : ¬ s[a].toNat = 1) (h2 : ¬ s[a].toNat = 2) (h3 : ¬ s[a].toNat = 3) :
    Calls Tryz.prog 48 #[.string s, .int .i64 a] w (L02Post s a w) := by
  have hb : s[a].toNat < 256 := s[a].toNat_lt
  have HF : Hid (readV (s.data.toList.drop a) = none) := by
    show _ = _
    have e0 : ¬ s[a] = 0 := fun e => h0 (by rw [e]; rfl)
    have e1 : ¬ s[a] = 1 := fun e => h1 (by rw [e]; rfl)
    have e2 : ¬ s[a] = 2 := fun e => h2 (by rw [e]; rfl)
    have e3 : ¬ s[a] = 3 := fun e => h3 (by rw [e]; rfl)
    rw [drop_one s a h, readV.eq_def]
    simp only [if_neg e0, if_neg e1, if_neg e2, if_neg e3]
  go_enter Tryz.func48, Tryz.ntmps48
  go_wp2
  refine bodyPost_ret (v := .tuple #[.agg #[.int .i64 (s[a].toNat : Int), .int .i64 0, .string ⟨#[]⟩], .int .i64 ((a : Int) + 1), .bool false]) (by simp [results, Tryz.results48, go_sem]) rfl (l02_mk ⟨(s[a].toNat : Int), 0, ⟨#[]⟩⟩ ((a : Int) + 1) false rfl (by simp [ByteArray.size]) ?_ ?_)
  · rw [HF.out]; exact .inl rfl
  · exact ((Below.refl _ _).alloc (Nat.le_refl _) _).alloc (by simp) _
set_option maxRecDepth 100000 in
theorem l02Value_bool (hc : s[a].toNat = 1) :
    Calls Tryz.prog 48 #[.string s, .int .i64 a] w (L02Post s a w) := by
  have ec : s[a] = 1 := UInt8.toNat_inj.1 hc
  by_cases hl : a + 1 < s.size
  · have hb : s[a + 1].toNat < 256 := s[a + 1].toNat_lt
    have hR : readV (s.data.toList.drop a) = if s[a + 1].toNat ≤ 1 then some (⟨1, s[a + 1].toNat, ByteArray.empty⟩, s.data.toList.drop (a + 2)) else none := by
      rw [drop_two s a hl, readV.eq_def]
      simp only [ec]
      rfl
    have HRD : Hid (ReadAs s (readV (s.data.toList.drop a)) ⟨1, s[a + 1].toNat, ⟨#[]⟩⟩ ((a : Int) + 1 + 1) true) := by
      show ReadAs ..
      rw [hR]
      by_cases hb1 : s[a + 1].toNat ≤ 1
      · rw [if_pos hb1]
        refine ⟨rfl, rfl, ?_⟩
        have := rest_len s a 2 (by omega)
        rw [this, Int.add_assoc]; rfl
      · rw [if_neg hb1]
        refine .inr ?_
        show decide (((s[a + 1].toNat : Int) = 0 ∨ (s[a + 1].toNat : Int) = 1) ∧ _) = false
        exact decide_eq_false (fun hh => by omega)
    clear hR ec
    go_enter Tryz.func48, Tryz.ntmps48
    go_wp2
    refine bodyPost_ret (v := .tuple #[.agg #[.int .i64 1, .int .i64 (s[a + 1].toNat : Int), .string ⟨#[]⟩], .int .i64 ((a : Int) + 1 + 1), .bool true]) (by simp [results, Tryz.results48, go_sem]) rfl (l02_mk ⟨1, (s[a + 1].toNat : Int), ⟨#[]⟩⟩ ((a : Int) + 1 + 1) true rfl (by simp [ByteArray.size]) HRD.out ?_)
    exact ((Below.refl _ _).alloc (Nat.le_refl _) _).alloc (by simp) _
  · have HF : Hid (readV (s.data.toList.drop a) = none) := by
      show _ = _
      rw [drop_one s a h, readV.eq_def, List.drop_eq_nil_of_le (by rw [← ba_size]; omega)]
      simp only [ec]
      rfl
    clear ec
    go_enter Tryz.func48, Tryz.ntmps48
    go_wp2
    refine bodyPost_ret (v := .tuple #[.agg #[.int .i64 1, .int .i64 0, .string ⟨#[]⟩], .int .i64 ((a : Int) + 1), .bool false]) (by simp [results, Tryz.results48, go_sem]) rfl (l02_mk ⟨1, 0, ⟨#[]⟩⟩ ((a : Int) + 1) false rfl (by simp [ByteArray.size]) ?_ ?_)
    · rw [HF.out]; exact .inl rfl
    · exact ((Below.refl _ _).alloc (Nat.le_refl _) _).alloc (by simp) _
set_option maxRecDepth 100000 in
set_option maxHeartbeats 1000000 in
theorem l02Value_int (hc : s[a].toNat = 2) :
    Calls Tryz.prog 48 #[.string s, .int .i64 a] w (L02Post s a w) := by
  have ec : s[a] = 2 := UInt8.toNat_inj.1 hc
  have hR : readV (s.data.toList.drop a) = if (s.data.toList.drop (a + 1)).length < 8 then none else some (⟨2, (beVal ((s.data.toList.drop (a + 1)).take 8) : Int) - 9223372036854775808, ByteArray.empty⟩, (s.data.toList.drop (a + 1)).drop 8) := by
    rw [drop_one s a h, readV.eq_def]
    simp only [ec]
    rfl
  by_cases hl : s.size < a + 9
  · have HF : Hid (readV (s.data.toList.drop a) = none) := by
      show _ = _
      rw [hR, if_pos (by rw [List.length_drop, ← ba_size]; omega)]
    clear hR ec
    go_enter Tryz.func48, Tryz.ntmps48
    go_wp2
    refine bodyPost_ret (v := .tuple #[.agg #[.int .i64 2, .int .i64 0, .string ⟨#[]⟩], .int .i64 ((a : Int) + 1), .bool false]) (by simp [results, Tryz.results48, go_sem]) rfl (l02_mk ⟨2, 0, ⟨#[]⟩⟩ ((a : Int) + 1) false rfl (by simp [ByteArray.size]) ?_ ?_)
    · rw [HF.out]; exact .inl rfl
    · exact ((Below.refl _ _).alloc (Nat.le_refl _) _).alloc (by simp) _
  · have HRD : Hid (ReadAs s (readV (s.data.toList.drop a)) ⟨2, (beVal ((s.data.toList.drop (a + 1)).take 8) : Int) - 9223372036854775808, ⟨#[]⟩⟩ ((a : Int) + 1 + 8) true) := by
      show ReadAs ..
      rw [hR, if_neg (by rw [List.length_drop, ← ba_size]; omega)]
      refine ⟨rfl, rfl, ?_⟩
      rw [List.drop_drop]
      have := rest_len s a 9 (by omega)
      rw [show a + 1 + 8 = a + 9 by omega, this, Int.add_assoc]; rfl
    have HV : Hid (∀ j (hj : a + 1 + j < s.size), beVal ((s.data.toList.drop (a + 1)).take (j + 1)) = beVal ((s.data.toList.drop (a + 1)).take j) * 256 + (s[a + 1 + j]).toNat) := fun j hj => by
      have hlj : j < (s.data.toList.drop (a + 1)).length := by rw [List.length_drop, ← ba_size]; omega
      rw [List.take_succ_eq_append_getElem hlj, beVal_snoc, List.getElem_drop]; rfl
    have HL : Hid (∀ j, beVal ((s.data.toList.drop (a + 1)).take j) < 256 ^ j) := fun j => by
      have h1 := beVal_lt ((s.data.toList.drop (a + 1)).take j)
      have h2 : ((s.data.toList.drop (a + 1)).take j).length ≤ j := List.length_take_le _ _
      exact Nat.lt_of_lt_of_le h1 (Nat.pow_le_pow_right (by omega) h2)
    clear hR ec
    go_enter Tryz.func48, Tryz.ntmps48
    go_wp2
    go_loop [8, 9] (fun u i => ∃ (j U : Nat), j ≤ 8 ∧ i = .int .i64 j ∧ u = .int .u64 U ∧ Hid (U = beVal ((s.data.toList.drop (a + 1)).take j))) (fun _ i => 8 - (intOf i).toNat)
    case atStart => exact ⟨0, 0, by omega, rfl, rfl, rfl⟩
    case round =>
      obtain ⟨j, U, hj, rfl, rfl, HU⟩ := hrel
      by_cases hj8 : j < 8
      · have hUl := HL.out j
        rw [← HU.out] at hUl
        have hU56 : U < 72057594037927936 := Nat.lt_of_lt_of_le hUl (Nat.le_trans (Nat.pow_le_pow_right (n := 256) (by omega) (show j ≤ 7 by omega)) (by decide))
        have hlt : a + 1 + j < s.size := by omega
        have hbj : (s[a + 1 + j]).toNat < 256 := (s[a + 1 + j]).toNat_lt
        have hor := or_byte U (s[a + 1 + j]).toNat hU56 hbj
        have HU2 : Hid (U * 256 + (s[a + 1 + j]).toNat = beVal ((s.data.toList.drop (a + 1)).take (j + 1))) := by show _ = _; rw [HV.out j hlt, HU.out]
        have hix : ((a : Int) + 1 + (j : Int)).toNat = a + 1 + j := by omega
        clear hUl HU
        go_wp2
        go_round
        case rel => exact ⟨j + 1, U * 256 + (s[a + 1 + j]).toNat, by omega, by go_num, by go_num, HU2⟩
        case measure => simp [intOf]; omega
      · obtain rfl : j = 8 := by omega
        have hUl : U < 18446744073709551616 := by have := HL.out 8; rw [← HU.out] at this; exact this
        have htb := turnBack U hUl
        have HRD2 : Hid (ReadAs s (readV (s.data.toList.drop a)) ⟨2, (U : Int) - 9223372036854775808, ⟨#[]⟩⟩ ((a : Int) + 1 + 8) true) := by show ReadAs ..; rw [HU.out]; exact HRD.out
        clear HU HRD
        go_wp2
        refine bodyPost_ret (v := .tuple #[.agg #[.int .i64 2, .int .i64 ((U : Int) - 9223372036854775808), .string ⟨#[]⟩], .int .i64 ((a : Int) + 1 + 8), .bool true]) (by simp [results, Tryz.results48, go_sem]) rfl (l02_mk ⟨2, (U : Int) - 9223372036854775808, ⟨#[]⟩⟩ ((a : Int) + 1 + 8) true rfl (by simp [ByteArray.size]) HRD2.out ?_)
        exact ((Below.refl _ _).alloc (Nat.le_refl _) _).alloc (by simp) _
end
end Go.Proofs.YtkkggbbpaflieaaGreatDoor
