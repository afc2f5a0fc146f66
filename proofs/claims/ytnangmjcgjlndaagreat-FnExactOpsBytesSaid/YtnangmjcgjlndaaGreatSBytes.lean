/-
  A schema's bytes: plain facts, and the contracts of numbers and flags in a row.
-/
import Derived.Test.YtnangmjcgjlndaaGreatSRow
import Derived.Test.YtnangmjcgjlndaaGreatJoin
import Derived.Test.YtnangmjcgjlndaaGreatBuildW
import Derived.Test.YtnangmjcgjlndaaGreatOwns
import Derived.Test.YtnangmjcgjlndaaGreatMkS
import Derived.Deep.RegionHeld3
namespace Go.Proofs.YtnangmjcgjlndaaGreat
open Go.RowKit
set_option maxRecDepth 100000

def numS (n : Int) : ByteArray := strOfNums (putL 9 (foldN n))
def numL (n : Int) : List UInt8 := (numS n).data.toList
def textL (t : ByteArray) : List UInt8 := (putT t).data.toList
def flagN (b : Bool) : Int := if b then 1 else 0
def placesL (l : List Int) (k : Nat) : List UInt8 := numL l.length ++ (l.take k).flatMap numL
def colL (c : Col) : List UInt8 := textL c.name ++ (numL c.kind ++ numL (flagN c.nul))
def idxL (x : Idx) : List UInt8 := placesL x.cols x.cols.length ++ numL (flagN x.uniq)
def colsL (s : Sch) (k : Nat) : List UInt8 := textL s.name ++ numL s.cols.length ++ (s.cols.take k).flatMap colL
def idxsL (s : Sch) (k : Nat) : List UInt8 := colsL s s.cols.length ++ placesL s.key s.key.length ++ numL s.idx.length ++ (s.idx.take k).flatMap idxL
def schL (s : Sch) : List UInt8 := idxsL s s.idx.length
def schB (s : Sch) : ByteArray := if schRight s = true then mkS (schL s) else ByteArray.empty
theorem mkS_cat (l : List UInt8) (u : ByteArray) : mkS (l ++ u.data.toList) = mkS l ++ u := by
  have h : (mkS l ++ u).data.toList = l ++ u.data.toList := by rw [ByteArray.data_append, Array.toList_append, mkS_list]
  rw [← h, mkS_data]
theorem numS_mk (n : Int) : mkS (numL n) = numS n := mkS_data _
theorem textS_mk (t : ByteArray) : mkS (textL t) = putT t := mkS_data _
theorem numL_len (n : Int) : (numL n).length ≤ 10 := num_size n
theorem textL_len (t : ByteArray) : (textL t).length ≤ 20010 := by
  unfold textL putT
  split
  · rw [mkS_list, List.length_append]
    have := num_size t.size
    have e1 : (strOfNums (putL 9 (foldN t.size))).data.toList.length = (strOfNums (putL 9 (foldN t.size))).size := rfl
    have e2 : t.data.toList.length = t.size := rfl
    omega
  · simp
theorem flat_len {α : Type} (f : α → List UInt8) (c : Nat) (h : ∀ x, (f x).length ≤ c) : ∀ l : List α, (l.flatMap f).length ≤ l.length * c
  | [] => by simp
  | x :: r => by
    have := flat_len f c h r
    have := h x
    simp only [List.flatMap_cons, List.length_append, List.length_cons, Nat.succ_mul]
    omega
theorem flat_succ {α : Type} (f : α → List UInt8) (l : List α) (d : α) (k : Nat) (h : k < l.length) : (l.take (k + 1)).flatMap f = (l.take k).flatMap f ++ f (l.getD k d) := by
  rw [List.take_succ_eq_append_getElem h, List.flatMap_append, List.getD_eq_getElem?_getD, List.getElem?_eq_getElem h]; simp
theorem placesL_len (l : List Int) (k : Nat) (h : l.length ≤ 1000) : (placesL l k).length ≤ 10010 := by
  unfold placesL
  rw [List.length_append]
  have h1 := numL_len l.length
  have h2 := flat_len numL 10 numL_len (l.take k)
  have h3 : (l.take k).length ≤ l.length := List.length_take_le' ..
  have := Nat.mul_le_mul_right 10 h3
  omega
theorem placesL_succ (l : List Int) (k : Nat) (h : k < l.length) : placesL l (k + 1) = placesL l k ++ numL (l.getD k 0) := by
  unfold placesL; rw [flat_succ numL l 0 k h, List.append_assoc]
theorem builder_kept {T e : TypeId} {B b : Nat} {bs : List Value} {w w' : World} (h : Lib.IsBuilder T e B b bs w) (hb : Below w.heap.size w w') : Lib.IsBuilder T e B b bs w' := by
  rcases h with ⟨h0, v, hk, ho, hne⟩ | ⟨h0, v, hk, ho, hne⟩
  · exact .inl ⟨h0, v, (hb.block _ (Array.getElem?_eq_some_iff.1 hk).1).trans hk, owns_below ho hb, hne⟩
  · exact .inr ⟨h0, v, (hb.block _ (Array.getElem?_eq_some_iff.1 hk).1).trans hk, owns_below ho hb, hne⟩
theorem bCells_len (l : List UInt8) : (Lib.byteCells l).length = l.length := by simp [Lib.byteCells]
theorem bCells_str (l : List UInt8) (s : ByteArray) : Lib.byteCells l ++ Lib.strCells s = Lib.byteCells (l ++ s.data.toList) := by simp [Lib.byteCells, Lib.strCells]
/-- A builder in block b that holds these bytes; whatever it makes lies from b on. -/
def BHas (b : Nat) (l : List UInt8) (w : World) : Prop := Lib.IsBuilder 54 5 b b (Lib.byteCells l) w
theorem bhas_new (w : World) : BHas w.heap.size [] (w.alloc (.cells #[.pointer none, .slice none 0 0] 54)) := Lib.fresh_isBuilder 54 5 w
theorem BHas.kept {b : Nat} {l : List UInt8} {w w' : World} (h : BHas b l w) (hb : Below w.heap.size w w') : BHas b l w' := builder_kept h hb
theorem write_any (b : Nat) (l : List UInt8) (s : ByteArray) (w : World) (h : BHas b l w) (hl : l.length + s.size ≤ 1000000000) (hb : b ≤ w.heap.size) :
    Calls Tryz.prog 17 #[.pointer (some ⟨b, 0, none⟩), .string s] w fun e w' => e = .returned (.tuple #[.int .i64 s.size, .nilIface]) ∧ BHas b (l ++ s.data.toList) w' ∧ Below b w w' :=
  (Tryz.Builder_WriteString b b _ s w h (by rw [bCells_len]; omega) hb).mono (fun e w' ⟨he, h1, h2⟩ => ⟨he, by rw [bCells_str] at h1; exact .inr h1, h2⟩)
theorem string_any (b : Nat) (l : List UInt8) (w : World) (h : BHas b l w) (hb : b ≤ w.heap.size) :
    Calls Tryz.prog 21 #[.pointer (some ⟨b, 0, none⟩)] w fun e w' => e = .returned (.string (mkS l)) ∧ Below b w w' := Tryz.Builder_String_any b b l w h hb
theorem flag_in (u : Bool) : inI64 (flagN u) := by cases u <;> unfold flagN inI64 <;> simp
theorem implNum_any (n : Int) (h : inI64 n) (w : World) : Calls Tryz.prog 18 #[.int .i64 n] w fun e w' => e = .returned (.string (numS n)) ∧ Below w.heap.size w w' := implPutNum_any n h.1 h.2 w
theorem specNum_any (n : Int) (h : inI64 n) (w : World) : Calls Tryz.prog 11 #[.int .i64 n] w fun e w' => e = .returned (.string (numS n)) ∧ Below w.heap.size w w' := specPutNum_any n h.1 h.2 w
theorem nat_in (n : Nat) (h : n ≤ maxLen) : inI64 (n : Int) := by unfold maxLen at h; unfold inI64; omega
theorem putFlag_any (u : Bool) (w : World) : Calls Tryz.prog 57 #[.bool u] w fun e w' => e = .returned (.string (numS (flagN u))) ∧ Below w.heap.size w w' := by
  cases u with
  | true =>
    go_enter Tryz.func57, Tryz.ntmps57
    go_wp2_with fail
    refine (implNum_any 1 (flag_in true) _).mono ?_
    rintro e w1 ⟨rfl, hb1⟩
    go_wp2
    go_ret
    exact ⟨rfl, hb1⟩
  | false =>
    go_enter Tryz.func57, Tryz.ntmps57
    go_wp2_with fail
    refine (implNum_any 0 (flag_in false) _).mono ?_
    rintro e w1 ⟨rfl, hb1⟩
    go_wp2
    go_ret
    exact ⟨rfl, hb1⟩
theorem specFlag_any (u : Bool) (w : World) : Calls Tryz.prog 28 #[.bool u] w fun e w' => e = .returned (.string (numS (flagN u))) ∧ Below w.heap.size w w' := by
  cases u with
  | true =>
    go_enter Tryz.func28, Tryz.ntmps28
    go_wp2_with fail
    refine (specNum_any 1 (flag_in true) _).mono ?_
    rintro e w1 ⟨rfl, hb1⟩
    go_wp2
    go_ret
    exact ⟨rfl, hb1⟩
  | false =>
    go_enter Tryz.func28, Tryz.ntmps28
    go_wp2_with fail
    refine (specNum_any 0 (flag_in false) _).mono ?_
    rintro e w1 ⟨rfl, hb1⟩
    go_wp2
    go_ret
    exact ⟨rfl, hb1⟩
set_option maxHeartbeats 1000000 in
theorem putPlaces_any (A B : Nat) (ao : Option Addr) (cap : Nat) (l : List Int) (w : World) (hB : B ≤ w.heap.size) (hl : l.length ≤ 1000) (hr : IntRow w A B ao l) :
    Calls Tryz.prog 58 #[.slice ao l.length cap] w fun e w' => e = .returned (.string (mkS (placesL l l.length))) ∧ Below w.heap.size w w' := by
  have HR := hide hr
  clear hr
  have BN := hide (bhas_new w)
  have BA : Hid (Below w.heap.size w (w.alloc (.cells #[.pointer none, .slice none 0 0] 54))) := (Below.refl _ _).alloc (Nat.le_refl _) _
  have HLN := hide (numL_len (l.length : Int))
  have HP0 : Hid ([] ++ (numS (l.length : Int)).data.toList = placesL l 0) := by show _ = _; unfold placesL numL; simp
  go_enter Tryz.func58, Tryz.ntmps58
  go_wp2_with fail
  refine (implNum_any l.length (nat_in _ (by unfold maxLen; omega)) _).mono ?_
  rintro e w1 ⟨rfl, hb1⟩
  have B1 := hide (BA.out.trans (hb1.mono BA.out.size))
  have K1 := hide (BN.out.kept hb1)
  clear hb1 BN BA
  go_wp2_with fail
  refine (write_any w.heap.size [] _ _ K1.out (by have := num_size (l.length : Int); unfold numS; simp; omega) B1.out.size).mono ?_
  rintro e w2 ⟨rfl, hk2, hb2⟩
  have K2 : Hid (BHas w.heap.size (placesL l 0) w2) := by rw [← HP0.out]; exact hk2
  have B2 := hide (B1.out.trans hb2)
  clear hk2 hb2 B1 K1 HP0
  go_wp2
  go_loopw [12] (fun i wr => ∃ k : Nat, k ≤ l.length ∧ i = .int .i64 k ∧ Hid (BHas w.heap.size (placesL l k) wr) ∧ Below w.heap.size w wr) (fun i _ => l.length - (intOf i).toNat)
  case atStart => exact ⟨0, Nat.zero_le _, rfl, K2, B2.out⟩
  case round =>
    clear K2 B2
    obtain ⟨k, hk, rfl, HK, hb⟩ := hrel
    by_cases hlt : k < l.length
    · obtain ⟨b, off, x, rfl, hbB, hv, hx, d0⟩ := (HR.out.kept (hb.mono hB)).at k hlt
      have HS : Hid (placesL l (k + 1) = placesL l k ++ (numS x).data.toList) := by show _ = _; rw [placesL_succ l k hlt, hv]; rfl
      have HL1 := hide (placesL_len l k hl)
      have HL2 := hide (numL_len x)
      clear hv
      go_wp2_with fail
      refine (implNum_any x hx _).mono ?_
      rintro e w3 ⟨rfl, hb3⟩
      have B3 := hide (hb.trans (hb3.mono hb.size))
      have K3 := hide (HK.out.kept hb3)
      clear hb3 HK hb d0
      go_wp2_with fail
      refine (write_any w.heap.size _ _ _ K3.out (by have h1 := HL1.out; have h2 : (numS x).size ≤ 10 := HL2.out; omega) B3.out.size).mono ?_
      rintro e w4 ⟨rfl, hk4, hb4⟩
      have K4 : Hid (BHas w.heap.size (placesL l (k + 1)) w4) := by rw [HS.out]; exact hk4
      have B4 := hide (B3.out.trans hb4)
      clear hk4 hb4 B3 K3 HS HL1 HL2
      go_wp2
      go_roundw
      case rel => exact ⟨k + 1, by omega, by go_num, K4, B4.out⟩
      case measure => simp [intOf]; omega
    · obtain rfl : k = l.length := by omega
      go_wp2_with fail
      refine (string_any w.heap.size _ _ HK.out hb.size).mono ?_
      rintro e w5 ⟨rfl, hb5⟩
      have B5 := hide (hb.trans hb5)
      clear hb5 hb HK
      go_wp2
      go_ret
      exact ⟨rfl, B5.out⟩
set_option maxHeartbeats 1000000 in
theorem specNums_any (A B : Nat) (ao : Option Addr) (cap : Nat) (l : List Int) (w : World) (hB : B ≤ w.heap.size) (hl : l.length ≤ 1000) (hr : IntRow w A B ao l) :
    Calls Tryz.prog 29 #[.slice ao l.length cap] w fun e w' => e = .returned (.string (mkS (placesL l l.length))) ∧ Below w.heap.size w w' := by
  have HR := hide hr
  clear hr
  have HP0 : Hid (numS (l.length : Int) = mkS (placesL l 0)) := by show _ = _; unfold placesL numL; simp [mkS_data]
  go_enter Tryz.func29, Tryz.ntmps29
  go_wp2_with fail
  refine (specNum_any l.length (nat_in _ (by unfold maxLen; omega)) _).mono ?_
  rintro e w1 ⟨rfl, hb1⟩
  have B1 := hide hb1
  clear hb1
  go_wp2
  go_loopw [3, 4] (fun t i wr => ∃ k : Nat, k ≤ l.length ∧ i = .int .i64 k ∧ t = .string (mkS (placesL l k)) ∧ Below w.heap.size w wr) (fun _ i _ => l.length - (intOf i).toNat)
  case atStart => exact ⟨0, Nat.zero_le _, rfl, by rw [HP0.out], B1.out⟩
  case round =>
    clear B1
    obtain ⟨k, hk, rfl, rfl, hb⟩ := hrel
    by_cases hlt : k < l.length
    · obtain ⟨b, off, x, rfl, hbB, hv, hx, d0⟩ := (HR.out.kept (hb.mono hB)).at k hlt
      have HS : Hid (placesL l (k + 1) = placesL l k ++ (numS x).data.toList) := by show _ = _; rw [placesL_succ l k hlt, hv]; rfl
      have hsz : (mkS (placesL l k)).size ≤ 10010 := by rw [mkS_size]; exact placesL_len l k hl
      have hsz2 : (numS x).size ≤ 10 := num_size x
      have HSM : Hid (mkS (placesL l k ++ (numS x).data.toList) = mkS (placesL l k) ++ numS x) := mkS_cat _ _
      clear hv
      go_wp2_with fail
      refine (specNum_any x hx _).mono ?_
      rintro e w3 ⟨rfl, hb3⟩
      have B3 := hide (hb.trans (hb3.mono hb.size))
      clear hb3 hb d0
      generalize hT : mkS (placesL l k) = T at *
      have HT := hide hT
      generalize hU : numS x = U at *
      clear hT hU
      go_wp2
      go_roundw
      case rel => exact ⟨k + 1, by omega, by go_num, by rw [HS.out, HSM.out], B3.out⟩
      case measure => simp [intOf]; omega
    · obtain rfl : k = l.length := by omega
      go_wp2
      go_ret
      exact ⟨rfl, hb⟩
end Go.Proofs.YtnangmjcgjlndaaGreat
