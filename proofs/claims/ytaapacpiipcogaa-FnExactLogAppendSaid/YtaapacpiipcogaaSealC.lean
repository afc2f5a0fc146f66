/-
  Contracts: sumText, l01Four, Seal and Unseal of the program and of the specification; the laws on them.
-/
import Derived.Test.YtaapacpiipcogaaCrcC
import Derived.Test.YtaapacpiipcogaaJoin
namespace Go.Proofs.Ytaapacpiipcogaa
open Go.RowKit

def fourL (c : Nat) : List Int := [(c : Int) % 256, (c : Int) / 256 % 256, (c : Int) / 65536 % 256, (c : Int) / 16777216]
def fourS (c : Nat) : ByteArray := strOfNums (fourL c)
theorem fourS_size (c : Nat) : (fourS c).size = 4 := by simp [fourS, strOfNums_size, fourL]
theorem conv4 (c : Nat) (t : TypeId) (W : World) :
    (convert 87 9 (.slice (some ⟨W.heap.size, 0, none⟩) 4 4)).run Try.prog (W.alloc (.cells #[.int .u8 ((c : Int) % 256), .int .u8 ((c : Int) / 256 % 256), .int .u8 ((c : Int) / 65536 % 256), .int .u8 ((c : Int) / 16777216)] t)) =
      .ok (.string (fourS c)) (W.alloc (.cells #[.int .u8 ((c : Int) % 256), .int .u8 ((c : Int) / 256 % 256), .int .u8 ((c : Int) / 65536 % 256), .int .u8 ((c : Int) / 16777216)] t)) := by
  refine run_convert_bytes_arg _ 87 5 Try.underlying87 Try.underlying5 W.heap.size 0 4 4 (fourL c) rfl (fun i hi => ?_) 9 Try.underlying9
  rw [Nat.zero_add, cell_of_row _ _ i _ _ _ (heap_alloc_new W _)]
  match i, hi with
  | 0, _ => rfl
  | 1, _ => rfl
  | 2, _ => rfl
  | 3, _ => rfl

theorem sumText_any (s : ByteArray) (w : World) :
    Calls Try.prog 75 #[.string s] w fun e w' => e = .returned (.string (fourS (crcOf s))) ∧ Below w.heap.size w w' := by
  have hc := crcOf_lt s
  have hcv := fun t W => conv4 (crcOf s) t W
  go_enter Try.func75, Try.ntmps75
  go_wp2_with (go_at_call 86; refine (implCrc_any _ _).mono ?_; rintro e w' ⟨rfl, rfl⟩)
  go_ret
  exact ⟨rfl, (Below.refl _ _).alloc (Nat.le_refl _) _⟩
theorem four_any (c : Nat) (hc : c < 4294967296) (w : World) :
    Calls Try.prog 72 #[.int .i64 c] w fun e w' => e = .returned (.string (fourS c)) ∧ Below w.heap.size w w' := by
  have hcv := fun t W => conv4 c t W
  go_enter Try.func72, Try.ntmps72
  go_wp2
  go_ret
  exact ⟨rfl, (Below.refl _ _).alloc (Nat.le_refl _) _⟩

theorem crcOf_in (s : ByteArray) (h : s.size ≤ 20000) : crcOf s = crcMoreN 0 s.data.toList := if_pos h
/-- The seal of a text: the empty text where it does not fit. -/
def sealS (s : ByteArray) : ByteArray := if s.size ≤ 19996 then mkS (s.data.toList ++ (fourS (crcOf s)).data.toList) else ByteArray.empty

theorem implSeal_any (s : ByteArray) (w : World) :
    Calls Try.prog 50 #[.string s] w fun e w' => e = .returned (.string (sealS s)) ∧ Below w.heap.size w w' := by
  by_cases hs : s.size ≤ 19996
  · have HP : Hid (sealS s = mkS (s.data.toList ++ (fourS (crcOf s)).data.toList)) := if_pos hs
    have hn := fourS_size (crcOf s)
    go_enter Try.func50, Try.ntmps50
    go_wp2_with fail
    refine (sumText_any s _).mono ?_
    rintro e w1 ⟨rfl, hb1⟩
    generalize fourS (crcOf s) = t at *
    go_wp2_with fail
    refine (join2 s t _ _ _ (by omega) (by simp) (by simp)).mono ?_
    rintro e w2 ⟨rfl, hb2⟩
    go_wp2
    go_ret
    exact ⟨ret_str (by rw [HP.out]), (hb1.alloc hb1.size _).trans (hb2.mono (by simp; have := hb1.size; omega))⟩
  · have HP : Hid (sealS s = ByteArray.empty) := if_neg hs
    go_enter Try.func50, Try.ntmps50
    go_wp2
    go_ret
    exact ⟨ret_str (by rw [HP.out]; rfl), Below.refl _ _⟩
theorem specSeal_any (s : ByteArray) (w : World) :
    Calls Try.prog 47 #[.string s] w fun e w' => e = .returned (.string (sealS s)) ∧ Below w.heap.size w w' := by
  by_cases hs : s.size ≤ 19996
  · have HP : Hid (sealS s = mkS (s.data.toList ++ (fourS (crcMoreN 0 s.data.toList)).data.toList)) := by
      show _ = _
      rw [← crcOf_in s (by omega)]; exact if_pos hs
    have hn := fourS_size (crcMoreN 0 s.data.toList)
    go_enter Try.func47, Try.ntmps47
    go_wp2_with fail
    refine (specCrc_any 0 (by omega) s (by omega) _).mono ?_
    rintro e w0 ⟨rfl, rfl⟩
    go_wp2_with fail
    refine (four_any _ (crcMoreN_lt (by omega) _) _).mono ?_
    rintro e w1 ⟨rfl, hb1⟩
    generalize fourS (crcMoreN 0 s.data.toList) = t at *
    go_wp2
    go_ret
    exact ⟨ret_str (by rw [HP.out]; rfl), hb1⟩
  · have HP : Hid (sealS s = ByteArray.empty) := if_neg hs
    go_enter Try.func47, Try.ntmps47
    go_wp2
    go_ret
    exact ⟨ret_str (by rw [HP.out]; rfl), Below.refl _ _⟩

end Go.Proofs.Ytaapacpiipcogaa
