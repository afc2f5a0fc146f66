/-
  Contracts: a right value is read at a place by the program.
-/
import Derived.Test.YtkkggbbpaflieaaGreatDoorReadK
namespace Go.Proofs.YtkkggbbpaflieaaGreatDoor
open Go.RowKit

theorem ext_drop (s : ByteArray) (k : Nat) : (s.extract k s.size).data.toList = s.data.toList.drop k := by
  have e : s.extract k s.size = (ByteArray.mk s.data.toList.toArray).extract k s.size := rfl
  rw [e, ByteArray.extract_mk]
  show List.take (s.size - k) (s.data.toList.drop k) = _
  exact List.take_of_length_le (by rw [List.length_drop, ← ba_size]; omega)
theorem ext_size (s : ByteArray) (k : Nat) : (s.extract k s.size).size = s.size - k := by rw [ba_size, ext_drop, List.length_drop, ← ba_size]
theorem drop_one (s : ByteArray) (a : Nat) (h : a < s.size) : s.data.toList.drop a = s[a] :: s.data.toList.drop (a + 1) := by
  rw [List.drop_eq_getElem_cons (by rw [← ba_size]; exact h)]; rfl
/-- What readInner answers. -/
def innerOut (s : ByteArray) (o : Option (Val × List UInt8)) : Value :=
  match o with
  | none => .tuple #[.nilIface, .int .i64 0, faultV 3]
  | some (v, r) => .tuple #[innerV v, .int .i64 ((s.size : Int) - r.length), .nilIface]
theorem ret_val {a b : Value} (h : a = b) : Ending.returned a = .returned b := by rw [h]
theorem rest_len (s : ByteArray) (a k : Nat) (h : a + k ≤ s.size) : (s.size : Int) - (s.data.toList.drop (a + k)).length = (a : Int) + k := by
  rw [List.length_drop, ← ba_size]; omega

section
variable (s : ByteArray) (a : Nat) (hsz : s.size ≤ 20000) (h : a < s.size) (w : World)
include hsz

set_option maxRecDepth 100000 in
theorem readInner_null (hc : s[a].toNat = 0) :
    Calls Tryz.prog 28 #[.string s, .int .i64 a] w fun e w' => e = .returned (innerOut s (readV (s.data.toList.drop a))) ∧ Below w.heap.size w w' := by
  have HF : Hid (innerOut s (readV (s.data.toList.drop a)) = .tuple #[.iface 86 (.agg #[]), .int .i64 ((a : Int) + 1), .nilIface]) := by
    show _ = _
    have e : s[a] = 0 := UInt8.toNat_inj.1 hc
    rw [drop_one s a h, readV.eq_def]
    simp only [e, if_true]
    show Value.tuple #[_, .int .i64 ((s.size : Int) - (s.data.toList.drop (a + 1)).length), _] = _
    rw [rest_len s a 1 (by omega)]; rfl
  go_enter Tryz.func28, Tryz.ntmps28
  go_wp2_with fail
  refine (inBounds_null _).mono ?_
  rintro e w1 ⟨rfl, hb1⟩
  go_wp2
  go_ret3
  exact ⟨Eq.trans (b := Ending.returned (.tuple #[.iface 86 (.agg #[]), .int .i64 ((a : Int) + 1), .nilIface])) rfl (ret_val HF.out.symm), hb1⟩
set_option maxRecDepth 100000 in
theorem readInner_other (h0 : ¬ s[a].toNat = 0) (h1 : ¬ s[a].toNat = 1) (h2 : ¬ s[a].toNat = 2) (h3 : ¬ s[a].toNat = 3) :
    Calls Tryz.prog 28 #[.string s, .int .i64 a] w fun e w' => e = .returned (innerOut s (readV (s.data.toList.drop a))) ∧ Below w.heap.size w w' := by
  have HF : Hid (innerOut s (readV (s.data.toList.drop a)) = .tuple #[.nilIface, .int .i64 0, faultV 3]) := by
    show _ = _
    have e0 : ¬ s[a] = 0 := fun e => h0 (by rw [e]; rfl)
    have e1 : ¬ s[a] = 1 := fun e => h1 (by rw [e]; rfl)
    have e2 : ¬ s[a] = 2 := fun e => h2 (by rw [e]; rfl)
    have e3 : ¬ s[a] = 3 := fun e => h3 (by rw [e]; rfl)
    rw [drop_one s a h, readV.eq_def]
    simp only [if_neg e0, if_neg e1, if_neg e2, if_neg e3]
    rfl
  go_enter Tryz.func28, Tryz.ntmps28
  go_wp2
  go_ret3
  exact ⟨Eq.trans (b := Ending.returned (.tuple #[.nilIface, .int .i64 0, faultV 3])) rfl (ret_val HF.out.symm), Below.refl _ _⟩
set_option maxRecDepth 100000 in
theorem readInner_bool (hc : s[a].toNat = 1) :
    Calls Tryz.prog 28 #[.string s, .int .i64 a] w fun e w' => e = .returned (innerOut s (readV (s.data.toList.drop a))) ∧ Below w.heap.size w w' := by
  have ec : s[a] = 1 := UInt8.toNat_inj.1 hc
  have hes := ext_size s (a + 1)
  by_cases hl : a + 1 < s.size
  · have hp : 0 < (s.extract (a + 1) s.size).size := by rw [hes]; omega
    have hx : (s.extract (a + 1) s.size)[0]'hp = s[a + 1] := by
      have e1 : (s.extract (a + 1) s.size).data.toList[0]'(by rw [← ba_size]; exact hp) = s.data.toList[a + 1]'(by rw [← ba_size]; exact hl) := by
        simp only [ext_drop, List.getElem_drop, Nat.add_zero]
      exact e1
    have hrb := fun W => readBool_some (s.extract (a + 1) s.size) hp W
    rw [hx] at hrb
    have hR : readV (s.data.toList.drop a) = if s[a + 1].toNat ≤ 1 then some (⟨1, s[a + 1].toNat, ByteArray.empty⟩, s.data.toList.drop (a + 2)) else none := by
      rw [drop_two s a hl, readV.eq_def]
      simp only [ec]
      rfl
    have HRB : Hid (∀ W, Calls Tryz.prog 43 #[.string (s.extract (a + 1) s.size)] W fun e w' => e = .returned (.tuple #[.iface 93 (.agg #[.int .i64 s[a + 1].toNat]), .int .i64 1]) ∧ w' = W) := hrb
    clear hrb hx
    have hib := fun W => inBounds_bool (s[a + 1].toNat : Int) W
    by_cases hb : s[a + 1].toNat ≤ 1
    · rw [if_pos hb] at hR
      have HF : Hid (innerOut s (readV (s.data.toList.drop a)) = .tuple #[.iface 93 (.agg #[.int .i64 s[a + 1].toNat]), .int .i64 ((a : Int) + 2), .nilIface]) := by
        show _ = _
        rw [hR]
        show Value.tuple #[_, .int .i64 ((s.size : Int) - (s.data.toList.drop (a + 2)).length), _] = _
        rw [rest_len s a 2 (by omega)]; rfl
      have hd : decide ((s[a + 1].toNat : Int) = 0 ∨ (s[a + 1].toNat : Int) = 1) = true := decide_eq_true (by omega)
      rw [hd] at hib
      generalize s[a + 1].toNat = n at *
      clear hR hd hp
      go_enter Tryz.func28, Tryz.ntmps28
      go_wp2_with fail
      refine (HRB.out _).mono ?_
      rintro e w1 ⟨rfl, rfl⟩
      go_wp2_with fail
      refine (hib _).mono ?_
      rintro e w2 ⟨rfl, hb2⟩
      clear hib
      go_wp2
      go_ret3
      exact ⟨Eq.trans (b := Ending.returned (.tuple #[.iface 93 (.agg #[.int .i64 (n : Int)]), .int .i64 ((a : Int) + 1 + 1), .nilIface])) rfl (ret_val (by rw [HF.out, Int.add_assoc]; rfl)), hb2⟩
    · rw [if_neg hb] at hR
      have HF : Hid (innerOut s (readV (s.data.toList.drop a)) = .tuple #[.nilIface, .int .i64 0, faultV 3]) := by
        show _ = _
        rw [hR]; rfl
      have hd : decide ((s[a + 1].toNat : Int) = 0 ∨ (s[a + 1].toNat : Int) = 1) = false := decide_eq_false (by omega)
      rw [hd] at hib
      generalize s[a + 1].toNat = n at *
      clear hR hd hp
      go_enter Tryz.func28, Tryz.ntmps28
      go_wp2_with fail
      refine (HRB.out _).mono ?_
      rintro e w1 ⟨rfl, rfl⟩
      go_wp2_with fail
      refine (hib _).mono ?_
      rintro e w2 ⟨rfl, hb2⟩
      clear hib
      go_wp2
      go_ret3
      exact ⟨Eq.trans (b := Ending.returned (.tuple #[.nilIface, .int .i64 0, faultV 3])) rfl (ret_val HF.out.symm), hb2⟩
  · have hz : (s.extract (a + 1) s.size).size = 0 := by rw [hes]; omega
    have HF : Hid (innerOut s (readV (s.data.toList.drop a)) = .tuple #[.nilIface, .int .i64 0, faultV 3]) := by
      show _ = _
      rw [drop_one s a h, readV.eq_def, List.drop_eq_nil_of_le (by rw [← ba_size]; omega)]
      simp only [ec]
      rfl
    go_enter Tryz.func28, Tryz.ntmps28
    go_wp2_with fail
    refine (readBool_none _ hz _).mono ?_
    rintro e w1 ⟨rfl, rfl⟩
    go_wp2
    go_ret3
    exact ⟨Eq.trans (b := Ending.returned (.tuple #[.nilIface, .int .i64 0, faultV 3])) rfl (ret_val HF.out.symm), Below.refl _ _⟩
set_option maxRecDepth 100000 in
theorem readInner_int (hc : s[a].toNat = 2) :
    Calls Tryz.prog 28 #[.string s, .int .i64 a] w fun e w' => e = .returned (innerOut s (readV (s.data.toList.drop a))) ∧ Below w.heap.size w w' := by
  have ec : s[a] = 2 := UInt8.toNat_inj.1 hc
  have hes := ext_size s (a + 1)
  have hed := ext_drop s (a + 1)
  have hR : readV (s.data.toList.drop a) = if (s.data.toList.drop (a + 1)).length < 8 then none else some (⟨2, (beVal ((s.data.toList.drop (a + 1)).take 8) : Int) - 9223372036854775808, ByteArray.empty⟩, (s.data.toList.drop (a + 1)).drop 8) := by
    rw [drop_one s a h, readV.eq_def]
    simp only [ec]
    rfl
  by_cases hl : s.size < a + 9
  · have HF : Hid (innerOut s (readV (s.data.toList.drop a)) = .tuple #[.nilIface, .int .i64 0, faultV 3]) := by
      show _ = _
      rw [hR, if_pos (by rw [List.length_drop, ← ba_size]; omega)]; rfl
    clear hR hed
    go_enter Tryz.func28, Tryz.ntmps28
    go_wp2_with fail
    refine (readInt_short _ (by omega) _).mono ?_
    rintro e w1 ⟨rfl, hb1⟩
    go_wp2
    go_ret3
    exact ⟨Eq.trans (b := Ending.returned (.tuple #[.nilIface, .int .i64 0, faultV 3])) rfl (ret_val HF.out.symm), hb1⟩
  · have hri := fun W => readInt_full (s.extract (a + 1) s.size) (by omega) W
    rw [hed] at hri
    have HF : Hid (innerOut s (readV (s.data.toList.drop a)) = .tuple #[.iface 94 (.agg #[.int .i64 ((beVal ((s.data.toList.drop (a + 1)).take 8) : Int) - 9223372036854775808)]), .int .i64 ((a : Int) + 9), .nilIface]) := by
      show _ = _
      rw [hR, if_neg (by rw [List.length_drop, ← ba_size]; omega)]
      show Value.tuple #[_, .int .i64 ((s.size : Int) - ((s.data.toList.drop (a + 1)).drop 8).length), _] = _
      rw [List.drop_drop]
      have := rest_len s a 9 (by omega)
      rw [show a + 1 + 8 = a + 9 by omega, this]; rfl
    generalize ((beVal ((s.data.toList.drop (a + 1)).take 8) : Int) - 9223372036854775808) = n at *
    clear hR hed
    go_enter Tryz.func28, Tryz.ntmps28
    go_wp2_with fail
    refine (hri _).mono ?_
    rintro e w1 ⟨rfl, hb1⟩
    clear hri
    go_wp2_with fail
    refine (inBounds_int n _).mono ?_
    rintro e w2 ⟨rfl, hb2⟩
    go_wp2
    go_ret3
    exact ⟨Eq.trans (b := Ending.returned (.tuple #[.iface 94 (.agg #[.int .i64 n]), .int .i64 ((a : Int) + 1 + 8), .nilIface])) rfl (ret_val (by rw [HF.out, Int.add_assoc]; rfl)), hb1.trans (hb2.mono hb1.size)⟩
set_option maxRecDepth 100000 in
theorem readInner_text (hc : s[a].toNat = 3) :
    Calls Tryz.prog 28 #[.string s, .int .i64 a] w fun e w' => e = .returned (innerOut s (readV (s.data.toList.drop a))) ∧ Below w.heap.size w w' := by
  have ec : s[a] = 3 := UInt8.toNat_inj.1 hc
  have hes := ext_size s (a + 1)
  have hed := ext_drop s (a + 1)
  have hR : readV (s.data.toList.drop a) = match unesc (s.data.toList.drop (a + 1)) with | none => none | some (p, t) => if p.length ≤ 200 then some (⟨3, 0, ⟨p.toArray⟩⟩, t) else none := by
    rw [drop_one s a h, readV.eq_def]
    simp only [ec]
    rfl
  have hrm := fun W => readMarked_any (s.extract (a + 1) s.size) (by omega) W
  rw [hed] at hrm
  cases hu : unesc (s.data.toList.drop (a + 1)) with
  | none =>
    rw [hu] at hR hrm
    have HF : Hid (innerOut s (readV (s.data.toList.drop a)) = .tuple #[.nilIface, .int .i64 0, faultV 3]) := by
      show _ = _
      rw [hR]; rfl
    have hrm' : ∀ W, Calls Tryz.prog 45 #[.string (s.extract (a + 1) s.size)] W fun e w' => e = .returned (.tuple #[.nilIface, .int .i64 0]) ∧ Below W.heap.size W w' := hrm
    clear hR hed hrm hu
    go_enter Tryz.func28, Tryz.ntmps28
    go_wp2_with fail
    refine (hrm' _).mono ?_
    rintro e w1 ⟨rfl, hb1⟩
    clear hrm'
    go_wp2
    go_ret3
    exact ⟨Eq.trans (b := Ending.returned (.tuple #[.nilIface, .int .i64 0, faultV 3])) rfl (ret_val HF.out.symm), hb1⟩
  | some q =>
    obtain ⟨p, r⟩ := q
    rw [hu] at hR hrm
    have hrl : r.length ≤ s.size - (a + 1) := by
      have := esc_unesc _ _ _ hu
      have h2 := congrArg List.length this
      rw [List.length_drop, List.length_append, ← ba_size] at h2
      simp at h2; omega
    have hrm' : ∀ W, Calls Tryz.prog 45 #[.string (s.extract (a + 1) s.size)] W fun e w' => e = .returned (.tuple #[.iface 96 (.agg #[.string (mkS p)]), .int .i64 (((s.extract (a + 1) s.size).size : Int) - r.length)]) ∧ Below W.heap.size W w' := hrm
    rw [hes] at hrm'
    have hns : ((s.size - (a + 1) : Nat) : Int) - r.length = ((s.size - (a + 1) - r.length : Nat) : Int) := by omega
    rw [hns] at hrm'
    simp only at hR
    have hib := fun W => inBounds_text (mkS p) W
    have hmz : (mkS p).size = p.length := mkS_size p
    by_cases hp : p.length ≤ 200
    · rw [if_pos hp] at hR
      have HF : Hid (innerOut s (readV (s.data.toList.drop a)) = .tuple #[.iface 96 (.agg #[.string (mkS p)]), .int .i64 ((a : Int) + 1 + ((s.size - (a + 1) - r.length : Nat) : Int)), .nilIface]) := by
        show _ = _
        rw [hR]
        show Value.tuple #[_, .int .i64 ((s.size : Int) - r.length), _] = _
        have : (s.size : Int) - r.length = (a : Int) + 1 + ((s.size - (a + 1) - r.length : Nat) : Int) := by omega
        rw [this]; rfl
      have hd : decide ((mkS p).size ≤ 200) = true := decide_eq_true (by omega)
      rw [hd] at hib
      have hnl : s.size - (a + 1) - r.length ≤ 20000 := by omega
      generalize s.size - (a + 1) - r.length = n at *
      clear hR hed hrm hu hns hd
      go_enter Tryz.func28, Tryz.ntmps28
      go_wp2_with fail
      refine (hrm' _).mono ?_
      rintro e w1 ⟨rfl, hb1⟩
      clear hrm'
      go_wp2_with fail
      refine (hib _).mono ?_
      rintro e w2 ⟨rfl, hb2⟩
      clear hib
      go_wp2
      go_ret3
      exact ⟨Eq.trans (b := Ending.returned (.tuple #[.iface 96 (.agg #[.string (mkS p)]), .int .i64 ((a : Int) + 1 + (n : Int)), .nilIface])) rfl (ret_val HF.out.symm), hb1.trans (hb2.mono hb1.size)⟩
    · rw [if_neg hp] at hR
      have HF : Hid (innerOut s (readV (s.data.toList.drop a)) = .tuple #[.nilIface, .int .i64 0, faultV 3]) := by
        show _ = _
        rw [hR]; rfl
      have hd : decide ((mkS p).size ≤ 200) = false := decide_eq_false (by omega)
      rw [hd] at hib
      generalize s.size - (a + 1) - r.length = n at *
      clear hR hed hrm hu hns hd
      go_enter Tryz.func28, Tryz.ntmps28
      go_wp2_with fail
      refine (hrm' _).mono ?_
      rintro e w1 ⟨rfl, hb1⟩
      clear hrm'
      go_wp2_with fail
      refine (hib _).mono ?_
      rintro e w2 ⟨rfl, hb2⟩
      clear hib
      go_wp2
      go_ret3
      exact ⟨Eq.trans (b := Ending.returned (.tuple #[.nilIface, .int .i64 0, faultV 3])) rfl (ret_val HF.out.symm), hb1.trans (hb2.mono hb1.size)⟩
include h in
theorem readInner_any :
    Calls Tryz.prog 28 #[.string s, .int .i64 a] w fun e w' => e = .returned (innerOut s (readV (s.data.toList.drop a))) ∧ Below w.heap.size w w' := by
  by_cases h0 : s[a].toNat = 0
  · exact readInner_null s a hsz h w h0
  by_cases h1 : s[a].toNat = 1
  · exact readInner_bool s a hsz h w h1
  by_cases h2 : s[a].toNat = 2
  · exact readInner_int s a hsz h w h2
  by_cases h3 : s[a].toNat = 3
  · exact readInner_text s a hsz h w h3
  · exact readInner_other s a hsz h w h0 h1 h2 h3
end
end Go.Proofs.YtkkggbbpaflieaaGreatDoor
