/-
  Contracts: PutNum of the program and of the specification.
-/
import Derived.Test.YtnangmjcgjlndaaGreatRows
import Derived.Test.YtnangmjcgjlndaaGreatConv
import Derived.WalkKit
import Derived.WalkLawsBesides
import Derived.Laws.BytesArg
import Derived.OpenShut
import Derived.Maps.AppendAt
namespace Go.Proofs.YtnangmjcgjlndaaGreat
open Go.RowKit

/-- The number's bytes, seven bits each, the lowest first. -/
def putL : Nat → Nat → List Int
  | 0, u => [(u : Int)]
  | f + 1, u => if u < 128 then [(u : Int)] else ((u % 128 + 128 : Nat) : Int) :: putL f (u / 128)
def foldN (n : Int) : Nat := if n < 0 then (-2 * n - 1).toNat else (2 * n).toNat
theorem foldN_lt (n : Int) (h1 : -9223372036854775808 ≤ n) (h2 : n ≤ 9223372036854775807) : foldN n < 18446744073709551616 := by
  unfold foldN; split <;> omega

theorem fold_any (n : Int) (h1 : -9223372036854775808 ≤ n) (h2 : n ≤ 9223372036854775807) (w : World) :
    Calls Tryz.prog 26 #[.int .i64 n] w fun e w' => e = .returned (.int .u64 (foldN n : Nat)) ∧ w' = w := by
  by_cases h : n < 0
  · have H : Hid ((foldN n : Int) = -2 * n - 1) := by show _ = _; simp only [foldN, if_pos h]; omega
    go_enter Tryz.func26, Tryz.ntmps26
    go_wp2
    go_ret
    exact ⟨ret_int (by rw [H.out]; omega), rfl⟩
  · have H : Hid ((foldN n : Int) = 2 * n) := by show _ = _; simp only [foldN, if_neg h]; omega
    go_enter Tryz.func26, Tryz.ntmps26
    go_wp2
    go_ret
    exact ⟨ret_int (by rw [H.out]), rfl⟩

theorem u64_notN (X : Nat) (h : X < 18446744073709551616) : bits .xor .u64 (X : Int) 18446744073709551615 = ((18446744073709551615 - X : Nat) : Int) := by
  have := u64_xor_nat X 18446744073709551615 h (by omega)
  have e : (BitVec.ofNat 64 X ^^^ BitVec.allOnes 64).toNat = 18446744073709551615 - X := by
    rw [BitVec.xor_allOnes, BitVec.toNat_not, BitVec.toNat_ofNat, Nat.mod_eq_of_lt h]
  rw [BitVec.toNat_xor, BitVec.toNat_allOnes, BitVec.toNat_ofNat, Nat.mod_eq_of_lt h] at e
  have e' : X ^^^ 18446744073709551615 = 18446744073709551615 - X := e
  rw [e'] at this
  exact this
theorem u64_xor0 (X : Nat) (h : X < 18446744073709551616) : bits .xor .u64 (X : Int) 0 = (X : Int) := by
  have := u64_xor_nat X 0 h (by omega)
  simpa using this
theorem putFold (n : Int) (h1 : -9223372036854775808 ≤ n) (h2 : n ≤ 9223372036854775807) :
    bits .xor .u64 (IntKind.u64.wrap (IntKind.u64.wrap n * 2)) (IntKind.u64.wrap (n / 9223372036854775808)) = (foldN n : Nat) := by
  simp only [IntKind.wrap_u64]
  by_cases h : n < 0
  · have e1 : n % 18446744073709551616 * 2 % 18446744073709551616 = ((2 * n + 18446744073709551616).toNat : Int) := by omega
    have e2 : n / 9223372036854775808 % 18446744073709551616 = 18446744073709551615 := by omega
    rw [e1, e2, u64_notN _ (by omega)]
    simp only [foldN, if_pos h]; omega
  · have e1 : n % 18446744073709551616 * 2 % 18446744073709551616 = ((2 * n).toNat : Int) := by omega
    have e2 : n / 9223372036854775808 % 18446744073709551616 = 0 := by omega
    rw [e1, e2, u64_xor0 _ (by omega)]
    simp only [foldN, if_neg h]

theorem or128 : ∀ x : Fin 256, x.val ||| 128 = x.val % 128 + 128 := by decide +kernel
theorem u8_or128N (U : Nat) : bits .or .u8 ((U : Int) % 256) 128 = ((U % 128 + 128 : Nat) : Int) := by
  have h := u8_or_nat (U % 256) 128 (by omega) (by omega)
  rw [or128 ⟨U % 256, by omega⟩] at h
  have e : (((U % 256 : Nat)) : Int) = (U : Int) % 256 := by omega
  rw [e] at h
  simp only at h
  rw [show U % 256 % 128 = U % 128 by omega] at h
  exact h
theorem putL_small (f U : Nat) (h : U < 128) : putL f U = [(U : Int)] := by cases f <;> simp [putL, h]
theorem putL_big (f U : Nat) (h : ¬ U < 128) : putL (f + 1) U = ((U % 128 + 128 : Nat) : Int) :: putL f (U / 128) := by simp [putL, h]
theorem pow_step (k U : Nat) (hk : k < 9) (h : U < 2 ^ (64 - 7 * k)) : U / 128 < 2 ^ (64 - 7 * (k + 1)) := by
  have e : 64 - 7 * k = (64 - 7 * (k + 1)) + 7 := by omega
  rw [e, Nat.pow_add] at h
  exact Nat.div_lt_of_lt_mul (by rw [Nat.mul_comm]; exact h)
theorem lt_nine (k U : Nat) (hk : k ≤ 9) (h : U < 2 ^ (64 - 7 * k)) (hb : ¬ U < 128) : k < 9 := by
  rcases Nat.lt_or_ge k 9 with h9 | h9
  · exact h9
  · obtain rfl : k = 9 := by omega
    omega

theorem sliceArr10 (W : World) (g k : Nat) (hk : k ≤ 9) :
    (Instr.sliceAt 80 (.pointer (some ⟨g, 0, none⟩)) none (some (.int .i64 ((k : Int) + 1))) none).run Tryz.prog W = .ok (.slice (some ⟨g, 0, none⟩) (k + 1) 10) W := by
  have ht : Tryz.prog.underlying 80 = some (.array (Tryz.prog.arrayLen 80) (Tryz.prog.elem 80)) := by kernel_rfl
  have hl : Tryz.prog.arrayLen 80 = 10 := by kernel_rfl
  have hs : ∀ w, (sizeOf (Tryz.prog.elem 80)).run Tryz.prog w = .ok 1 w := fun w => by kernel_rfl
  rw [run_sliceAt_array_h W 80 _ ht .i64 ((k : Int) + 1) (by omega) (by rw [hl]; omega), hs, hl]
  have e : ((k : Int) + 1).toNat = k + 1 := by omega
  simp [Result.andThen, slicedAt, e, Addr.add]
set_option maxRecDepth 100000 in
theorem implPutNum_any (n : Int) (h1 : -9223372036854775808 ≤ n) (h2 : n ≤ 9223372036854775807) (w : World) :
    Calls Tryz.prog 18 #[.int .i64 n] w fun e w' => e = .returned (.string (strOfNums (putL 9 (foldN n)))) ∧ Below w.heap.size w w' := by
  go_enter Tryz.func18, Tryz.ntmps18
  go_wp2
  rw [putFold n h1 h2]
  have hf := foldN_lt n h1 h2
  generalize hF : foldN n = U0 at hf
  have HF : Hid (foldN n = U0) := hF
  clear h1 h2 hF
  generalize IntKind.u64.wrap (IntKind.u64.wrap n * 2) = q2
  generalize IntKind.u64.wrap n = q1
  generalize IntKind.u64.wrap (n / 9223372036854775808) = q3
  generalize n / 9223372036854775808 = q4
  go_loopw [3, 5] (fun u i wr => ∃ (k U : Nat) (arr : Array Value) (xs : List Int), k ≤ 9 ∧ Hid (U < 2 ^ (64 - 7 * k)) ∧ i = .int .i64 k ∧ u = .int .u64 U ∧ xs.length = k ∧ Hid (putL 9 U0 = xs ++ putL (9 - k) U) ∧
      arr.size = 10 ∧ wr.heap[w.heap.size]? = some (.cells arr 80 (0, 0)) ∧ (∀ j, j < k → arr[j]? = some (.int .u8 (xs.getD j 0))) ∧ Below w.heap.size w wr)
    (fun _ i _ => 9 - (intOf i).toNat)
  case atStart =>
    refine ⟨0, U0, _, [], by omega, hf, rfl, rfl, rfl, rfl, ?_, heap_alloc_new _ _, fun j hj => absurd hj (by omega), (Below.refl _ _).alloc (Nat.le_refl _) _⟩
    rfl
  case round =>
    obtain ⟨k, U, arr, xs, hk, HU, rfl, rfl, hxs, HP, hsz, hg, hcs, hb⟩ := hrel
    clear hf
    obtain ⟨old, hold⟩ : ∃ v, arr[k]? = some v := ⟨arr[k]'(by omega), Array.getElem?_eq_getElem (by omega)⟩
    have hcell : wr.cell? ⟨w.heap.size, k, none⟩ = some old := by rw [cell_of_row wr _ k arr _ _ hg, hold]
    have hfr : wr.frozen? ⟨w.heap.size, k, none⟩ = false := frozen_of_row wr _ k arr _ hg
    by_cases hlt : U < 128
    · have hsl : ∀ W, (Instr.sliceAt 80 (.pointer (some ⟨w.heap.size, 0, none⟩)) none (some (.int .i64 ((k : Int) + 1))) none).run Tryz.prog W = .ok (.slice (some ⟨w.heap.size, 0, none⟩) (k + 1) 10) W := fun W => sliceArr10 W _ k hk
      have hcv : (convert 52 9 (.slice (some ⟨w.heap.size, 0, none⟩) (k + 1) 10)).run Tryz.prog (wr.setCell ⟨w.heap.size, k, none⟩ (.int .u8 (U : Int))) = .ok (.string (strOfNums (xs ++ [(U : Int)]))) (wr.setCell ⟨w.heap.size, k, none⟩ (.int .u8 (U : Int))) := by
        refine run_convert_bytes_arg _ 52 5 Tryz.underlying52 Tryz.underlying5 w.heap.size 0 (k + 1) 10 (xs ++ [(U : Int)]) (by simp [hxs]) (fun i hi => ?_) 9 Tryz.underlying9
        rw [Nat.zero_add, cell_of_row _ w.heap.size i _ _ _ (heap_setCell_same wr w.heap.size k arr _ _ hg), Array.getElem?_setIfInBounds]
        by_cases e : k = i
        · subst e; simp [hsz, ← hxs]; omega
        · rw [if_neg e, hcs i (by omega)]
          simp [List.getElem?_append_left (show i < xs.length by omega)]
      have HE : Hid (putL 9 U0 = xs ++ [(U : Int)]) := by
        show _ = _
        rw [HP.out, putL_small _ _ hlt]
      have hb' := hb.setCell (p := ⟨w.heap.size, k, none⟩) (Nat.le_refl _) (.int .u8 (U : Int))
      clear HU HP hxs hsz hg hcs hold hb
      go_wp2
      go_ret
      exact ⟨ret_str (by rw [HF.out, HE.out]), hb'⟩
    · have hk9 := lt_nine k U hk HU.out hlt
      have hor := u8_or128N U
      have HU' : Hid (U / 128 < 2 ^ (64 - 7 * (k + 1))) := pow_step k U hk9 HU.out
      have HP' : Hid (putL 9 U0 = (xs ++ [((U % 128 + 128 : Nat) : Int)]) ++ putL (9 - (k + 1)) (U / 128)) := by
        show _ = _
        rw [HP.out, show 9 - k = (9 - (k + 1)) + 1 by omega, putL_big _ _ hlt]; simp
      have hg' := heap_setCell_same wr w.heap.size k arr _ (.int .u8 ((U % 128 + 128 : Nat) : Int)) hg
      have hb' := hb.setCell (p := ⟨w.heap.size, k, none⟩) (Nat.le_refl _) (.int .u8 ((U % 128 + 128 : Nat) : Int))
      have HG : Hid ((wr.setCell ⟨w.heap.size, k, none⟩ (.int .u8 ((U % 128 + 128 : Nat) : Int))).heap[w.heap.size]? = some (.cells (arr.setIfInBounds k (.int .u8 ((U % 128 + 128 : Nat) : Int))) 80 (0, 0))) := hg'
      have HC : Hid (∀ j, j < k + 1 → (arr.setIfInBounds k (.int .u8 ((U % 128 + 128 : Nat) : Int)))[j]? = some (.int .u8 ((xs ++ [((U % 128 + 128 : Nat) : Int)]).getD j 0))) := by
        intro j hj
        rw [Array.getElem?_setIfInBounds]
        by_cases e : k = j
        · subst e; simp [hsz, ← hxs]; omega
        · rw [if_neg e, hcs j (by omega)]
          simp [List.getElem?_append_left (show j < xs.length by omega)]
      clear HU HP hg hg' hcs hold hb
      go_wp2
      go_roundw
      case rel => exact ⟨k + 1, U / 128, _, xs ++ [((U % 128 + 128 : Nat) : Int)], by omega, HU'.out, by go_num, by go_num, by simp [hxs], HP'.out, by simp [hsz], HG.out, HC.out, hb'⟩
      case measure => simp [intOf]; omega

set_option maxRecDepth 100000 in
set_option maxHeartbeats 400000 in
theorem specPutNum_any (n : Int) (h1 : -9223372036854775808 ≤ n) (h2 : n ≤ 9223372036854775807) (w : World) :
    Calls Tryz.prog 11 #[.int .i64 n] w fun e w' => e = .returned (.string (strOfNums (putL 9 (foldN n)))) ∧ Below w.heap.size w w' := by
  obtain ⟨i0, hi, hz0, hz1, hz2⟩ := info_parts Tryz.infoU8
  go_enter Tryz.func11, Tryz.ntmps11
  go_wp2_with (go_at_call 26; refine (fold_any n h1 h2 _).mono ?_; rintro e w ⟨rfl, rfl⟩)
  have hf := foldN_lt n h1 h2
  generalize hF : foldN n = U0 at hf
  have HF : Hid (foldN n = U0) := hF
  clear h1 h2 hF
  go_loopw [3, 4] (fun u v wr => ∃ (k U : Nat) (xs : List Int), k ≤ 9 ∧ Hid (U < 2 ^ (64 - 7 * k)) ∧ u = .int .u64 U ∧ Hid (putL 9 U0 = xs ++ putL (9 - k) U) ∧
      wr.ownsRow w.heap.size 5 1 v k (xs.map (Value.int .u8)) ∧ Below w.heap.size w wr)
    (fun u _ _ => (intOf u).toNat)
  case atStart => exact ⟨0, U0, [], by omega, hf, rfl, rfl, ⟨rfl, .inr ⟨w.heap.size, 0, #[], rfl, Nat.le_refl _, heap_alloc_new _ _, Nat.le_refl _, Nat.zero_le _, rfl, rfl⟩⟩, (Below.refl _ _).alloc (Nat.le_refl _) _⟩
  case round =>
    obtain ⟨k, U, xs, hk, HU, rfl, HP, hown, hb⟩ := hrel
    clear hf
    have hB := hb.size
    by_cases hlt : U < 128
    · have HE : Hid (putL 9 U0 = xs ++ [(U : Int)]) := by
        show _ = _
        rw [HP.out, putL_small _ _ hlt]
      clear HU HP
      go_wp2_with (at_builtin; refine wpList_append_own _ rfl _ _ 52 rfl w.heap.size 5 i0 (.int .u8 0) 1 1 Tryz.underlying52 hi hz0 hz1 hz2 rfl (by decide) _ _ _ rfl (hown.alloc _) ⟨wr.heap.size, 0, none⟩ 1 1 [.int .u8 (U : Int)] rfl rfl ?c1 ?c2 ?c3 ?c4 ?c5 ?_)
      case c1 => exact cell_one_new _ _ _
      case c2 => intro u hu; simp at hu; subst hu; rfl
      case c3 => unfold maxLen; omega
      case c4 => omega
      case c5 => simp; omega
      · intro v' w1 hown' hgrow _
        have hcv := convOwn (xs := xs ++ [(U : Int)]) (by simpa using hown')
        have hb' := (hb.alloc hB _).grown hgrow (by simp; omega) (fun j hj => (hown.lt j hj).1)
        go_wp2
        go_ret
        exact ⟨ret_str (by rw [HF.out, HE.out]), hb'⟩
    · have hk9 := lt_nine k U hk HU.out hlt
      have HU' : Hid (U / 128 < 2 ^ (64 - 7 * (k + 1))) := pow_step k U hk9 HU.out
      have HP' : Hid (putL 9 U0 = (xs ++ [((U % 128 + 128 : Nat) : Int)]) ++ putL (9 - (k + 1)) (U / 128)) := by
        show _ = _
        rw [HP.out, show 9 - k = (9 - (k + 1)) + 1 by omega, putL_big _ _ hlt]; simp
      have hU64 : U < 18446744073709551616 := Nat.lt_of_lt_of_le HU.out (Nat.pow_le_pow_right (n := 2) (by omega) (show 64 - 7 * k ≤ 64 by omega))
      clear HU HP
      go_wp2_with (at_builtin; refine wpList_append_own _ rfl _ _ 52 rfl w.heap.size 5 i0 (.int .u8 0) 1 1 Tryz.underlying52 hi hz0 hz1 hz2 rfl (by decide) _ _ _ rfl (hown.alloc _) ⟨wr.heap.size, 0, none⟩ 1 1 [.int .u8 ((U % 128 + 128 : Nat) : Int)] rfl rfl ?d1 ?d2 ?d3 ?d4 ?d5 ?_)
      case d1 => exact cell_one_new _ _ _
      case d2 => intro u hu; simp at hu; subst hu; rfl
      case d3 => unfold maxLen; omega
      case d4 => omega
      case d5 => simp; omega
      · intro v' w1 hown' hgrow _
        have hb' := (hb.alloc hB _).grown hgrow (by simp; omega) (fun j hj => (hown.lt j hj).1)
        go_wp2
        go_roundw
        case rel => exact ⟨k + 1, U / 128, xs ++ [((U % 128 + 128 : Nat) : Int)], by omega, HU'.out, by go_num, HP'.out, by simpa using hown', hb'⟩
        case measure => simp [intOf]; omega

end Go.Proofs.YtnangmjcgjlndaaGreat
