/-
  Contracts: the look at a text's length.
-/
import Derived.Test.YtnangmjcgjlndaaGreatRows
import Derived.Test.YtnangmjcgjlndaaGreatPlain
import Derived.WalkKit
import Derived.WalkLawsBesides
namespace Go.Proofs.YtnangmjcgjlndaaGreat
open Go.RowKit

theorem tooLong_no (s : ByteArray) (hs : s.size ≤ 20000) (w : World) :
    Calls Tryz.prog 56 #[.string s] w fun e w' => e = .returned (.bool false) ∧ w' = w := by
  have h1 : ¬ 20000 < (s.size : Int) := by omega
  go_enter Tryz.func56, Tryz.ntmps56
  go_wp2
  go_ret
  exact ⟨ret_bool (by simp), rfl⟩
theorem tooLong_yes (s : ByteArray) (hs : 20000 < s.size) (w : World) :
    Calls Tryz.prog 56 #[.string s] w fun e w' => e = .returned (.bool true) ∧ w' = w := by
  have h1 : 20000 < (s.size : Int) := by omega
  go_enter Tryz.func56, Tryz.ntmps56
  go_wp2
  go_ret
  exact ⟨ret_bool (by simp), rfl⟩
end Go.Proofs.YtnangmjcgjlndaaGreat
