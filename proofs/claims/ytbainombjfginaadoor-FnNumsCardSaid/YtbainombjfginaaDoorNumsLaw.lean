/-
  The law on numbers and texts, out of the contracts.
-/
import Derived.Test.YtbainombjfginaaDoorDrawNums
import Derived.Test.YtbainombjfginaaDoorGetBack
import Derived.Test.YtbainombjfginaaDoorGetText2
namespace Go.Proofs.YtbainombjfginaaDoor
open Go.RowKit

theorem num_list_size (n : Int) : (strOfNums (putL 9 (foldN n))).size = (numB n).length := by rw [← numS_list, len_data]
theorem getNum_back (n : Int) (h1 : -9223372036854775808 ≤ n) (h2 : n ≤ 9223372036854775807) (T : ByteArray) (hT : T.data.toList = numB n) (h10 : T.size ≤ 10) :
    getNumV (⟨#[120, 121]⟩ ++ T ++ ⟨#[122]⟩) 2 = nOut n ((T.size : Int) + 2) 0 := by
  have hl : (⟨#[120, 121]⟩ ++ T ++ ⟨#[122]⟩ : ByteArray).data.toList = [120, 121] ++ numB n ++ [122] := by simp [hT]
  have hz : (⟨#[120, 121]⟩ ++ T ++ ⟨#[122]⟩ : ByteArray).size = T.size + 3 := by rw [← len_data, hl]; simp [← hT]
  have hr := rdAt_put n h1 h2 [120, 121] [122]
  have ht : (2 : Int).toNat = 2 := rfl
  have hn : (numB n).length = T.size := by rw [← hT, len_data]
  unfold getNumV getNum3
  rw [if_neg (by omega), if_neg (by omega), ht, hl]
  have hr' : rdAt ([120, 121] ++ numB n ++ [122]) 2 = (n, (numB n).length, 0) := hr
  rw [hr', hn]
  simp [behind, nOut]; omega
theorem getNum_back2 (n : Int) (h1 : -9223372036854775808 ≤ n) (h2 : n ≤ 9223372036854775807) (T : ByteArray) (hT : T.data.toList = numB n) (h10 : T.size ≤ 10) (X : ByteArray) (hX : X.data.toList = [120, 121] ++ T.data.toList ++ [122]) :
    getNumV X 2 = nOut n ((T.size : Int) + 2) 0 := by
  have e : X = (⟨#[120, 121]⟩ ++ T ++ ⟨#[122]⟩ : ByteArray) := by
    apply ByteArray.ext
    apply Array.ext'
    rw [hX]; simp
  rw [e]; exact getNum_back n h1 h2 T hT h10
theorem extract_drop (T : ByteArray) : (T.extract 0 (T.size - 1)).data.toList = T.data.toList.dropLast := by
  show ((ByteArray.mk T.data.toList.toArray).extract 0 (T.size - 1)).data.toList = _
  rw [ByteArray.extract_mk, List.drop_zero, Nat.sub_zero, List.dropLast_eq_take, len_data]
theorem extract_size (T : ByteArray) : (T.extract 0 (T.size - 1)).size = T.size - 1 := by simp
theorem getNum_cut (n : Int) (h1 : -9223372036854775808 ≤ n) (h2 : n ≤ 9223372036854775807) (T : ByteArray) (hT : T.data.toList = numB n) (h10 : T.size ≤ 10) :
    getNumV (T.extract 0 (T.size - 1)) 0 = nOut 0 0 4 := by
  unfold getNumV getNum3
  have ht : (0 : Int).toNat = 0 := rfl
  rw [if_neg (by rw [extract_size]; omega), if_neg (by omega), ht, extract_drop, hT, rdAt_cut n h1 h2]
  rfl

theorem putT_list (u : ByteArray) (h : u.size ≤ 20000) : (putT u).data.toList = numB u.size ++ u.data.toList := by
  unfold putT; rw [if_pos h, mkS_list, numS_list]
theorem putT_size (u : ByteArray) (h : u.size ≤ 20000) : (putT u).size = (numB u.size).length + u.size := by
  rw [← len_data, putT_list u h, List.length_append, len_data]
theorem getText_back (u : ByteArray) (h : u.size ≤ 20000) (hp : (putT u).size + 1 ≤ 20000) : getTextV (⟨#[120]⟩ ++ putT u) 1 = tOut u (((putT u).size : Int) + 1) 0 := by
  have hl : (⟨#[120]⟩ ++ putT u : ByteArray).data.toList = [120] ++ numB u.size ++ u.data.toList := by simp [putT_list u h]
  have hz : (⟨#[120]⟩ ++ putT u : ByteArray).size = (putT u).size + 1 := by
    have hs := putT_size u h
    rw [← len_data, hl, List.length_append, List.length_append, len_data]
    show 1 + _ + _ = _
    omega
  have hs := putT_size u h
  have hr : rdAt ([120] ++ numB u.size ++ u.data.toList) 1 = ((u.size : Int), (numB u.size).length, 0) := rdAt_put u.size (by omega) (by omega) [120] u.data.toList
  have ht : (1 : Int).toNat = 1 := rfl
  have e3 : getNum3 (⟨#[120]⟩ ++ putT u) 1 = ((u.size : Int), ((1 + (numB u.size).length : Nat) : Int), 0) := by
    unfold getNum3
    rw [if_neg (by omega), if_neg (by omega), ht, hl, hr]
    rfl
  unfold getTextV getText3
  rw [e3]
  unfold textOf
  simp only
  rw [if_neg (by simp), if_neg (by omega), if_neg (by omega)]
  have hq : ((1 + (numB u.size).length : Nat) : Int).toNat = 1 + (numB u.size).length := by omega
  have hq2 : (((1 + (numB u.size).length : Nat) : Int) + (u.size : Int)).toNat = 1 + (numB u.size).length + u.size := by omega
  have hx : (⟨#[120]⟩ ++ putT u : ByteArray).extract (1 + (numB u.size).length) (1 + (numB u.size).length + u.size) = u := by
    have hb : (⟨#[120]⟩ ++ putT u : ByteArray) = ⟨([120] ++ numB u.size ++ u.data.toList).toArray⟩ := by rw [← hl]
    rw [hb, ByteArray.extract_mk, List.drop_append_of_le_length (by rw [List.length_append]; exact Nat.le_refl _)]
    have hd : ([120] ++ numB u.size).drop (1 + (numB u.size).length) = [] := List.drop_eq_nil_of_le (by rw [List.length_append]; exact Nat.le_refl _)
    rw [hd, List.nil_append, List.take_of_length_le (by rw [len_data]; omega)]
  rw [hq, hq2, hx]
  have he : (((1 + (numB u.size).length : Nat) : Int) + (u.size : Int)) = ((putT u).size : Int) + 1 := by omega
  rw [he]; rfl
theorem getText_back2 (u : ByteArray) (h : u.size ≤ 20000) (hp : (putT u).size + 1 ≤ 20000) (X : ByteArray) (hX : X.data.toList = [120] ++ (putT u).data.toList) : getTextV X 1 = tOut u (((putT u).size : Int) + 1) 0 := by
  have e : X = (⟨#[120]⟩ ++ putT u : ByteArray) := by
    apply ByteArray.ext
    apply Array.ext'
    rw [hX]; simp
  rw [e]; exact getText_back u h hp
theorem getText_cut (u : ByteArray) (h : u.size ≤ 20000) (hp : (putT u).size ≤ 20000) : ∃ t q, getTextV ((putT u).extract 0 ((putT u).size - 1)) 0 = tOut t q 4 := by
  have hs := putT_size u h
  have hn := numB_pos u.size
  have ht : (0 : Int).toNat = 0 := rfl
  unfold getTextV getText3
  by_cases h0 : u.size = 0
  · have hu : u.data.toList = [] := List.eq_nil_of_length_eq_zero h0
    have e3 : getNum3 ((putT u).extract 0 ((putT u).size - 1)) 0 = (0, 0, 4) := by
      unfold getNum3
      rw [if_neg (by rw [extract_size]; omega), if_neg (by omega), ht, extract_drop, putT_list u h, hu, List.append_nil, rdAt_cut _ (by omega) (by omega)]
      rfl
    rw [e3]; exact ⟨_, _, rfl⟩
  · have hdl : (numB u.size ++ u.data.toList).dropLast = [] ++ numB u.size ++ u.data.toList.dropLast := by
      rw [List.dropLast_append_of_ne_nil (by intro e; rw [← len_data, e] at h0; exact h0 rfl), List.nil_append]
    have e3 : getNum3 ((putT u).extract 0 ((putT u).size - 1)) 0 = ((u.size : Int), (((numB u.size).length : Nat) : Int), 0) := by
      have hr := rdAt_put u.size (by omega) (by omega) [] u.data.toList.dropLast
      unfold getNum3
      rw [if_neg (by rw [extract_size]; omega), if_neg (by omega), ht, extract_drop, putT_list u h, hdl]
      have hr' : rdAt ([] ++ numB u.size ++ u.data.toList.dropLast) 0 = ((u.size : Int), (numB u.size).length, 0) := hr
      rw [hr']
      simp [behind]
    rw [e3]
    unfold textOf
    simp only
    rw [if_neg (by simp), if_neg (by omega), if_pos (by rw [extract_size]; omega)]
    exact ⟨_, _, rfl⟩
end Go.Proofs.YtbainombjfginaaDoor
