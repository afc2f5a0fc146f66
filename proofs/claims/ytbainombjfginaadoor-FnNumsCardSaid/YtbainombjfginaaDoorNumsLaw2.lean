/-
  The law on numbers and texts: its walk.
-/
import Derived.Test.YtbainombjfginaaDoorNumsLaw
namespace Go.Proofs.YtbainombjfginaaDoor
open Go.RowKit

set_option maxRecDepth 100000 in
set_option maxHeartbeats 4000000 in
theorem lawNums (a0 : Option Addr) (len0 cap0 : Nat) (z0 : List Int) (a1 : Option Addr) (len1 cap1 : Nat) (z1 : List Int) (w : World) (w0 : ByteRow w w.heap.size a0 len0 z0) (w1 : ByteRow w w.heap.size a1 len1 z1) (hg : w.cell? ⟨0, 0, none⟩ = some errTypeV) :
    Calls Tryd.prog 3 #[.slice a0 len0 cap0, .slice a1 len1 cap1] w fun e w' => e = .returned (.bool true) ∧ Below w.heap.size w w' := by
  by_cases h0 : 1048576 < len0
  · go_enter Tryd.func3, Tryd.ntmps3
    go_wp2
    go_ret
    exact ⟨rfl, Below.refl _ _⟩
  by_cases h1 : 1048576 < len1
  · go_enter Tryd.func3, Tryd.ntmps3
    go_wp2
    go_ret
    exact ⟨rfl, Below.refl _ _⟩
  have hfldN : ∀ (a b c : Value) (W : World), (Instr.field 26 (.agg #[a, b, c]) 2).run Tryd.prog W = .ok c W := fun a b c W => by kernel_rfl
  have hfldT : ∀ (a b c : Value) (W : World), (Instr.field 31 (.agg #[a, b, c]) 2).run Tryd.prog W = .ok c W := fun a b c W => by kernel_rfl
  have hlt : (0 : Nat) < w.heap.size := block_lt_of_cell hg
  have HG : Hid (∀ W, Below w.heap.size w W → W.cell? ⟨0, 0, none⟩ = some errTypeV) := fun W hb => (hb.cell (p := ⟨0, 0, none⟩) hlt).trans hg
  have R0 : Hid (ByteRow w w.heap.size a0 len0 z0) := w0
  have R1 : Hid (ByteRow w w.heap.size a1 len1 z1) := w1
  clear w0 w1 hg
  go_enter Tryd.func3, Tryd.ntmps3
  go_wp2_with fail
  refine (drawPutNum_any w.heap.size a0 len0 cap0 z0 _ (Nat.le_refl _) (by omega) R0.out).mono ?_
  rintro e u1 ⟨n, rfl, hn0, hn1, b1⟩
  have hN1 := num_size n
  have hN0 : 1 ≤ (strOfNums (putL 9 (foldN n))).size := by rw [num_list_size]; exact numB_pos n
  have NB := getNum_back2 n hn0 hn1 _ (numS_list n) hN1
  have NC := getNum_cut n hn0 hn1 _ (numS_list n) hN1
  have himpl := implPutNum_any n hn0 hn1
  have hspec := specPutNum_any n hn0 hn1
  generalize strOfNums (putL 9 (foldN n)) = T at *
  have HI : Hid (∀ w, Calls Tryd.prog 7 #[.int .i64 n] w fun e w' => e = .returned (.string T) ∧ Below w.heap.size w w') := himpl
  have HSp : Hid (∀ w, Calls Tryd.prog 8 #[.int .i64 n] w fun e w' => e = .returned (.string T) ∧ Below w.heap.size w w') := hspec
  have HNB : Hid (∀ X : ByteArray, X.data.toList = [120, 121] ++ T.data.toList ++ [122] → getNumV X 2 = nOut n ((T.size : Int) + 2) 0) := NB
  have HNC : Hid (getNumV (T.extract 0 (T.size - 1)) 0 = nOut 0 0 4) := NC
  clear himpl hspec NB NC hn0 hn1
  go_wp2_with fail
  refine (HI.out _).mono ?_
  rintro e u2 ⟨rfl, b2⟩
  go_wp2_with fail
  refine (HSp.out _).mono ?_
  rintro e u3 ⟨rfl, b3⟩
  have B3 : Hid (Below w.heap.size w u3) := (b1.trans (b2.mono b1.size)).trans (b3.mono (Nat.le_trans b1.size b2.size))
  clear b1 b2 b3 HI HSp
  go_wp2_with fail
  refine (implGetNum_any _ 2 (by omega) _ (HG.out _ B3.out)).mono ?_
  rintro e u4 ⟨rfl, b4⟩
  rw [HNB.out _ (by simp)]
  unfold nOut
  have B4 : Hid (Below w.heap.size w u4) := (B3.out).trans (b4.mono (B3.out).size)
  clear b4
  have k4 := (B4.out).alloc (B4.out).size (.cells #[.int .i64 n, .int .i64 ((T.size : Int) + 2), .int .i64 0] 26)
  have K4 : Hid (Below w.heap.size w (u4.alloc (.cells #[.int .i64 n, .int .i64 ((T.size : Int) + 2), .int .i64 0] 26))) := k4
  clear k4
  go_wp2_with fail
  refine (implGetNum_any _ 0 (by omega) _ (HG.out _ K4.out)).mono ?_
  rintro e u5 ⟨rfl, b5⟩
  rw [HNC.out]
  unfold nOut
  have B5 : Hid (Below w.heap.size w u5) := (K4.out).trans (b5.mono (K4.out).size)
  clear b5
  go_wp2_with fail
  refine (drawPutText_any w.heap.size a1 len1 cap1 z1 _ (B5.out).size (by omega) ((R1.out).kept B5.out)).mono ?_
  rintro e u6 ⟨u, rfl, hu, b6⟩
  have B6 : Hid (Below w.heap.size w u6) := (B5.out).trans (b6.mono (B5.out).size)
  clear b6
  have himpl := implPutText_any u
  have hspec := specPutText_any u
  by_cases hs : u.size ≤ 20000
  · have hps := putT_size u hs
    have hpos := numB_pos u.size
    have hp1 : 1 ≤ (putT u).size := by omega
    have hp2 : (putT u).size ≤ 30000 := by
      have := num_size u.size
      rw [num_list_size] at this
      omega
    have TB := getText_back2 u hs
    have TC := getText_cut u hs
    have hne : (putT u).toList.isEmpty = false := by
      rw [ByteArray.toList_eq]
      have : (putT u).data.toList.length = (putT u).size := len_data _
      cases h : (putT u).data.toList with
      | nil => rw [h] at this; simp at this; omega
      | cons => rfl
    clear hps hpos
    generalize putT u = P at *
    have HI : Hid (∀ w, Calls Tryd.prog 11 #[.string u] w fun e w' => e = .returned (.string P) ∧ Below w.heap.size w w') := himpl
    have HSp : Hid (∀ w, Calls Tryd.prog 12 #[.string u] w fun e w' => e = .returned (.string P) ∧ Below w.heap.size w w') := hspec
    have HTB : Hid (P.size + 1 ≤ 20000 → ∀ X : ByteArray, X.data.toList = [120] ++ P.data.toList → getTextV X 1 = tOut u ((P.size : Int) + 1) 0) := TB
    have HTC : Hid (P.size ≤ 20000 → ∃ t q, getTextV (P.extract 0 (P.size - 1)) 0 = tOut t q 4) := TC
    clear himpl hspec TB TC
    go_wp2_with fail
    refine (HI.out _).mono ?_
    rintro e u7 ⟨rfl, b7⟩
    go_wp2_with fail
    refine (HSp.out _).mono ?_
    rintro e u8 ⟨rfl, b8⟩
    have B8 : Hid (Below w.heap.size w u8) := ((B6.out).trans (b7.mono (B6.out).size)).trans (b8.mono (Nat.le_trans (B6.out).size b7.size))
    clear b7 b8
    by_cases hl : 20000 < P.size + 1
    · go_wp2
      go_ret
      exact ⟨rfl, B8.out⟩
    · have HTB1 : Hid (∀ X : ByteArray, X.data.toList = [120] ++ P.data.toList → getTextV X 1 = tOut u ((P.size : Int) + 1) 0) := HTB.out (by omega)
      obtain ⟨tc, qc, hcut⟩ := HTC.out (by omega)
      have HCU : Hid (getTextV (P.extract 0 (P.size - 1)) 0 = tOut tc qc 4) := hcut
      clear hcut HTB HTC
      go_wp2_with fail
      refine (implGetText_any _ 1 (by omega) _ (HG.out _ B8.out)).mono ?_
      rintro e u9 ⟨rfl, b9⟩
      rw [HTB1.out _ (by simp)]
      unfold tOut
      have B9 : Hid (Below w.heap.size w u9) := (B8.out).trans (b9.mono (B8.out).size)
      clear b9
      go_wp2_with fail
      refine (implGetText_any _ 0 (by omega) _ (HG.out _ B9.out)).mono ?_
      rintro e u10 ⟨rfl, b10⟩
      rw [HCU.out]
      unfold tOut
      have B10 : Hid (Below w.heap.size w u10) := (B9.out).trans (b10.mono (B9.out).size)
      clear b10
      go_wp2
      go_ret
      exact ⟨rfl, B10.out⟩
  · have hpe : putT u = ByteArray.empty := if_neg hs
    rw [hpe] at himpl hspec
    have hne : ByteArray.empty.toList.isEmpty = true := by rw [ByteArray.toList_eq]; rfl
    have HI : Hid (∀ w, Calls Tryd.prog 11 #[.string u] w fun e w' => e = .returned (.string ByteArray.empty) ∧ Below w.heap.size w w') := himpl
    have HSp : Hid (∀ w, Calls Tryd.prog 12 #[.string u] w fun e w' => e = .returned (.string ByteArray.empty) ∧ Below w.heap.size w w') := hspec
    clear himpl hspec hpe
    generalize ByteArray.empty = P at *
    go_wp2_with fail
    refine (HI.out _).mono ?_
    rintro e u7 ⟨rfl, b7⟩
    go_wp2_with fail
    refine (HSp.out _).mono ?_
    rintro e u8 ⟨rfl, b8⟩
    have B8 : Hid (Below w.heap.size w u8) := ((B6.out).trans (b7.mono (B6.out).size)).trans (b8.mono (Nat.le_trans (B6.out).size b7.size))
    clear b7 b8
    go_wp2_with fail
    refine (HSp.out _).mono ?_
    rintro e u9 ⟨rfl, b9⟩
    have B9 : Hid (Below w.heap.size w u9) := (B8.out).trans (b9.mono (B8.out).size)
    clear b9
    go_wp2
    go_ret
    exact ⟨rfl, B9.out⟩
end Go.Proofs.YtbainombjfginaaDoor
