/-
  Plain: keys that rise, up to the first one over a bound: what lies between two keys.
-/
import Derived.Test.YtffgobkgkhmeoaaTrKeys2
namespace Go.Proofs.Ytffgobkgkhmeoaa
open Go.RowKit
theorem srt_mem : ∀ (l : List ByteArray) (a : ByteArray) (hi : Option ByteArray), srt (some a) hi l = true → ∀ x ∈ l, lt' a x = true
  | [], _, _, _, x, hx => by simp at hx
  | b :: l, a, hi, h, x, hx => by
    simp only [srt, Bool.and_eq_true] at h
    have hab : lt' a b = true := h.1.1
    rcases List.mem_cons.1 hx with rfl | hx
    · exact hab
    · exact lt_trans' hab (srt_mem l b hi h.2 x hx)
theorem stop_inR (low high : ByteArray) : ∀ (l : List ByteArray) (lo hi : Option ByteArray), srt lo hi l = true → (l.takeWhile (fun x => !lt' high x)).filter (fun x => !lt' x low) = inR low high l
  | [], _, _, _ => rfl
  | a :: l, lo, hi, h => by
    simp only [srt, Bool.and_eq_true] at h
    by_cases q : lt' high a = true
    · rw [List.takeWhile_cons, if_neg (by rw [q]; decide)]
      symm
      unfold inR
      rw [List.filter_eq_nil_iff.2]
      · rfl
      · intro x hx
        have hx2 : lt' high x = true := by
          rcases List.mem_cons.1 hx with rfl | hx
          · exact q
          · exact lt_trans' q (srt_mem l a hi h.2 x hx)
        simp [hx2]
    · rw [Bool.not_eq_true] at q
      rw [List.takeWhile_cons, if_pos (by rw [q]; rfl)]
      have ih := stop_inR low high l (some a) hi h.2
      unfold inR at ih ⊢
      rw [List.filter_cons, List.filter_cons, ih, q, Bool.not_false, Bool.and_true]
end Go.Proofs.Ytffgobkgkhmeoaa
