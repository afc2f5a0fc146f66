/-
  Contracts: PutText of the program and of the specification.
-/
import Derived.Test.YtnangmjcgjlndaaGreatLong
import Derived.Test.YtnangmjcgjlndaaGreatNum
import Derived.Test.YtnangmjcgjlndaaGreatJoinC
namespace Go.Proofs.YtnangmjcgjlndaaGreat
open Go.RowKit

/-- PutText of a text: the empty text beyond MaxBytes. -/
def putT (s : ByteArray) : ByteArray := if s.size ≤ 20000 then mkS ((strOfNums (putL 9 (foldN s.size))).data.toList ++ s.data.toList) else ByteArray.empty
theorem putL_len : ∀ f u, (putL f u).length ≤ f + 1
  | 0, u => by simp [putL]
  | f + 1, u => by
    unfold putL
    split
    · simp
    · have := putL_len f (u / 128); simp; omega
theorem num_size (n : Int) : (strOfNums (putL 9 (foldN n))).size ≤ 10 := by
  rw [strOfNums_size]; exact putL_len 9 _

set_option maxHeartbeats 400000 in
theorem implPutText_any (s : ByteArray) (w : World) :
    Calls Tryz.prog 34 #[.string s] w fun e w' => e = .returned (.string (putT s)) ∧ Below w.heap.size w w' := by
  by_cases hs : s.size ≤ 20000
  · have HP : Hid (putT s = mkS ((strOfNums (putL 9 (foldN s.size))).data.toList ++ s.data.toList)) := if_pos hs
    have hn := num_size s.size
    go_enter Tryz.func34, Tryz.ntmps34
    go_wp2_with fail
    refine (tooLong_no _ hs _).mono ?_
    rintro e w0 ⟨rfl, rfl⟩
    go_wp2_with fail
    refine (implPutNum_any _ (by omega) (by omega) _).mono ?_
    rintro e w1 ⟨rfl, hb1⟩
    generalize strOfNums (putL 9 (foldN s.size)) = t at *
    go_wp2_with fail
    refine (join2 t s _ _ _ (by omega) (by simp) (by simp)).mono ?_
    rintro e w2 ⟨rfl, hb2⟩
    go_wp2
    go_ret
    exact ⟨ret_str (by rw [HP.out]), (hb1.alloc hb1.size _).trans (hb2.mono (by simp; have := hb1.size; omega))⟩
  · have HP : Hid (putT s = ByteArray.empty) := if_neg hs
    go_enter Tryz.func34, Tryz.ntmps34
    go_wp2_with (go_at_call 56; refine (tooLong_yes _ (by omega) _).mono ?_; rintro e w' ⟨rfl, rfl⟩)
    go_ret
    exact ⟨ret_str (by rw [HP.out]; rfl), Below.refl _ _⟩

theorem specPutText_any (s : ByteArray) (w : World) :
    Calls Tryz.prog 12 #[.string s] w fun e w' => e = .returned (.string (putT s)) ∧ Below w.heap.size w w' := by
  by_cases hs : s.size ≤ 20000
  · have HP : Hid (putT s = mkS ((strOfNums (putL 9 (foldN s.size))).data.toList ++ s.data.toList)) := if_pos hs
    have hn := num_size s.size
    go_enter Tryz.func12, Tryz.ntmps12
    go_wp2_with fail
    refine (specPutNum_any _ (by omega) (by omega) _).mono ?_
    rintro e w1 ⟨rfl, hb1⟩
    generalize strOfNums (putL 9 (foldN s.size)) = t at *
    go_wp2
    go_ret
    exact ⟨ret_str (by rw [HP.out]; rfl), hb1⟩
  · have HP : Hid (putT s = ByteArray.empty) := if_neg hs
    go_enter Tryz.func12, Tryz.ntmps12
    go_wp2
    go_ret
    exact ⟨ret_str (by rw [HP.out]; rfl), Below.refl _ _⟩

end Go.Proofs.YtnangmjcgjlndaaGreat
