/-
  Contracts: the bytes of a record, of both.
-/
import Derived.Test.YtaapacpiipcogaaRecR
namespace Go.Proofs.Ytaapacpiipcogaa
open Go.RowKit
set_option maxRecDepth 100000


set_option maxHeartbeats 1000000 in
theorem specRecordBytes_any (q : Int) (t : ByteArray) (w : World) (hq : -9223372036854775808 ≤ q ∧ q ≤ 9223372036854775807) : Calls Try.prog 21 #[.agg #[.int .i64 q, .string t]] w fun e w' => e = .returned (.string (recBytes q t)) ∧ Below w.heap.size w w' := by
  have B0 := hide ((Below.refl w.heap.size w).alloc (Nat.le_refl _) (.cells #[.int .i64 q, .string t] 43))
  have X0 := hide (heap_alloc_new w (.cells #[.int .i64 q, .string t] 43))
  obtain ⟨x0, x1, xf⟩ := cells2 X0.out
  have HR := hide (specRecordRight_any q t)
  cases hr : recRight q t with
  | false =>
    rw [hr] at HR
    rw [recBytes_no hr]
    go_enter Try.func21, Try.ntmps21
    go_wp2_with (go_at_call 18; refine (HR.out _).mono ?_; rintro e w1 ⟨rfl, b1⟩; have B1 := hide (B0.out.trans (b1.mono B0.out.size)); clear b1)
    go_ret
    exact ⟨rfl, B1.out⟩
  | true =>
    rw [hr] at HR
    rw [recBytes_yes hr]
    have HE : Hid (recS q t = sealS (mkS (recL q t))) := rfl
    have HL : Hid (mkS (recL q t) = (⟨#[76]⟩ : ByteArray) ++ numS q ++ putT t) := rfl
    have HN := hide (fun W => specPutNum_any q hq.1 hq.2 W)
    have HP := hide (fun W => specPutText_any t W)
    have HS := hide (fun s W => specSeal_any s W)
    rw [show strOfNums (putL 9 (foldN q)) = numS q from rfl] at HN
    have hA := numS_len q
    have hB := putT_len t ((recRight_iff q t).1 hr).2
    generalize numS q = A at *
    generalize putT t = B at *
    have hD1 : ¬ 9223372036854775807 < 1 + A.size := by omega
    have hD2 : ¬ 9223372036854775807 < 1 + A.size + B.size := by omega
    clear hr
    go_enter Try.func21, Try.ntmps21
    go_wp2_with (go_at_call 18; refine (HR.out _).mono ?_; rintro e w1 ⟨rfl, b1⟩; have B1 := hide (B0.out.trans (b1.mono B0.out.size)); have X1 := hide ((b1.block w.heap.size (by simp)).trans X0.out); clear b1 x0 x1 xf; obtain ⟨x0, x1, xf⟩ := cells2 X1.out)
    go_region_held3 (fun W => W.cell? ⟨w.heap.size, 0, none⟩ = some (.int .i64 q) ∧ W.cell? ⟨w.heap.size, 1, none⟩ = some (.string t)) (go_keep) (first
      | (go_at_call 48; refine (HN.out _).mono ?_; rintro e w2 ⟨rfl, b2⟩; have X2 : Hid (w2.heap[w.heap.size]? = some (.cells #[.int .i64 q, .string t] 43 (0, 0))) := (b2.block w.heap.size (blk_lt X1.out)).trans X1.out; have B2 : Hid (Below w.heap.size w w2) := B1.out.drew.trans (b2.mono B1.out.size); have y2 := cells2 X2.out; have x02 := y2.1; have x12 := y2.2.1; clear y2 b2)
      | (go_at_call 49; refine (HP.out _).mono ?_; rintro e w3 ⟨rfl, b3⟩; have X3 : Hid (w3.heap[w.heap.size]? = some (.cells #[.int .i64 q, .string t] 43 (0, 0))) := (b3.block w.heap.size (blk_lt X2.out)).trans X2.out; have B3 : Hid (Below w.heap.size w w3) := B2.out.trans (b3.mono B2.out.size); have y3 := cells2 X3.out; have x03 := y3.1; have x13 := y3.2.1; clear y3 b3)
      | (go_at_call 47; refine (HS.out _ _).mono ?_; rintro e w4 ⟨rfl, b4⟩; have X4 : Hid (w4.heap[w.heap.size]? = some (.cells #[.int .i64 q, .string t] 43 (0, 0))) := (b4.block w.heap.size (blk_lt X3.out)).trans X3.out; have B4 : Hid (Below w.heap.size w w4) := B3.out.trans (b4.mono B3.out.size); have y4 := cells2 X4.out; have x04 := y4.1; have x14 := y4.2.1; clear y4 b4))
    all_goals
      go_wp2
      go_ret
      exact ⟨ret_str (by rw [HE.out, HL.out]), B4.out⟩
theorem cellsT (w : World) (t : TypeId) (a b c : Value) : (w.alloc (.cells #[a, b, c] t)).cell? ⟨w.heap.size, 0, none⟩ = some a ∧ (w.alloc (.cells #[a, b, c] t)).cell? ⟨w.heap.size, 1, none⟩ = some b ∧ (w.alloc (.cells #[a, b, c] t)).cell? ⟨w.heap.size, 2, none⟩ = some c := by
  have h := heap_alloc_new w (.cells #[a, b, c] t)
  refine ⟨?_, ?_, ?_⟩ <;> rw [cell_of_row _ _ _ _ _ _ h] <;> rfl
theorem join3 (s t u : ByteArray) (pb cap : Nat) (w : World) (hb : s.size + t.size + u.size ≤ 1000000000) (h0 : w.cell? ⟨pb, 0, none⟩ = some (.string s)) (h1 : w.cell? ⟨pb, 1, none⟩ = some (.string t)) (h2 : w.cell? ⟨pb, 2, none⟩ = some (.string u)) :
    Calls Try.prog 51 #[.slice (some ⟨pb, 0, none⟩) 3 cap] w fun e w' => e = .returned (.string (mkS (s.data.toList ++ (t.data.toList ++ u.data.toList)))) ∧ Below w.heap.size w w' := by
  have h := join_any [s, t, u] pb 0 cap w (by simp only [catL, List.map_cons, List.map_nil, List.flatten_cons, List.flatten_nil, List.append_nil, List.length_append, len_data]; omega) (by simp) (fun j hj => by
    match j, hj with
    | 0, _ => simpa using h0
    | 1, _ => simpa using h1
    | 2, _ => simpa using h2)
  simpa [catL] using h
set_option maxHeartbeats 1000000 in
theorem implRecordBytes_any (q : Int) (t : ByteArray) (w : World) (hq : -9223372036854775808 ≤ q ∧ q ≤ 9223372036854775807) : Calls Try.prog 22 #[.agg #[.int .i64 q, .string t]] w fun e w' => e = .returned (.string (recBytes q t)) ∧ Below w.heap.size w w' := by
  have B0 := hide ((Below.refl w.heap.size w).alloc (Nat.le_refl _) (.cells #[.int .i64 q, .string t] 43))
  have X0 := hide (heap_alloc_new w (.cells #[.int .i64 q, .string t] 43))
  obtain ⟨x0, x1, xf⟩ := cells2 X0.out
  have HR := hide (implRecordRight_any q t)
  cases hr : recRight q t with
  | false =>
    rw [hr] at HR
    rw [recBytes_no hr]
    go_enter Try.func22, Try.ntmps22
    go_wp2_with (go_at_call 20; refine (HR.out _).mono ?_; rintro e w1 ⟨rfl, b1⟩; have B1 := hide (B0.out.trans (b1.mono B0.out.size)); clear b1)
    go_ret
    exact ⟨rfl, B1.out⟩
  | true =>
    rw [hr] at HR
    rw [recBytes_yes hr]
    have HE : Hid (recS q t = sealS (mkS (recL q t))) := rfl
    have HL : Hid (recL q t = (⟨#[76]⟩ : ByteArray).data.toList ++ ((numS q).data.toList ++ (putT t).data.toList)) := rfl
    have HN := hide (fun W => implPutNum_any q hq.1 hq.2 W)
    have HP := hide (fun W => implPutText_any t W)
    have HS := hide (fun s W => implSeal_any s W)
    rw [show strOfNums (putL 9 (foldN q)) = numS q from rfl] at HN
    have hA := numS_len q
    have hB := putT_len t ((recRight_iff q t).1 hr).2
    generalize numS q = A at *
    generalize putT t = B at *
    have HJ := hide (fun (pb cap : Nat) (W : World) => join3 ⟨#[76]⟩ A B pb cap W (by show 1 + _ + _ ≤ _; omega))
    clear hr
    go_enter Try.func22, Try.ntmps22
    go_wp2_with (go_at_call 20; refine (HR.out _).mono ?_; rintro e w1 ⟨rfl, b1⟩; have B1 := hide (B0.out.trans (b1.mono B0.out.size)); have X1 := hide ((b1.block w.heap.size (by simp)).trans X0.out); clear b1 x0 x1 xf; obtain ⟨x0, x1, xf⟩ := cells2 X1.out)
    go_region_held3 (fun W => W.cell? ⟨w.heap.size, 0, none⟩ = some (.int .i64 q) ∧ W.cell? ⟨w.heap.size, 1, none⟩ = some (.string t)) (go_keep) (first
      | (go_at_call 52; refine (HN.out _).mono ?_; rintro e w2 ⟨rfl, b2⟩; have X2 : Hid (w2.heap[w.heap.size]? = some (.cells #[.int .i64 q, .string t] 43 (0, 0))) := (b2.block w.heap.size (blk_lt X1.out)).trans X1.out; have B2 : Hid (Below w.heap.size w w2) := B1.out.drew.trans (b2.mono B1.out.size); have y2 := cells2 X2.out; have x02 := y2.1; have x12 := y2.2.1; clear y2 b2)
      | (go_at_call 53; refine (HP.out _).mono ?_; rintro e w3 ⟨rfl, b3⟩; have X3 : Hid (w3.heap[w.heap.size]? = some (.cells #[.int .i64 q, .string t] 43 (0, 0))) := (b3.block w.heap.size (blk_lt X2.out)).trans X2.out; have B3 : Hid (Below w.heap.size w w3) := B2.out.trans (b3.mono B2.out.size); have y3 := cells2 X3.out; have x03 := y3.1; have x13 := y3.2.1; have hn3 := Nat.ne_of_lt (blk_lt X3.out); clear y3 b3)
      | (go_at_call 51; have z3 := cellsT w3 9 (.string ⟨#[76]⟩) (.string A) (.string B); refine (HJ.out _ _ _ z3.1 z3.2.1 z3.2.2).mono ?_; rintro e w5 ⟨rfl, b5⟩; have X5 : Hid (w5.heap[w.heap.size]? = some (.cells #[.int .i64 q, .string t] 43 (0, 0))) := (b5.block w.heap.size (by have := blk_lt X3.out; rw [World.size_alloc]; omega)).trans ((heap_old w3 _ _ (blk_lt X3.out)).trans X3.out); have B5 : Hid (Below w.heap.size w w5) := (B3.out.alloc B3.out.size _).trans (b5.mono (by have := B3.out.size; rw [World.size_alloc]; omega)); have y5 := cells2 X5.out; have x05 := y5.1; have x15 := y5.2.1; clear y5 b5)
      | (go_at_call 50; refine (HS.out _ _).mono ?_; rintro e w4 ⟨rfl, b4⟩; have X4 : Hid (w4.heap[w.heap.size]? = some (.cells #[.int .i64 q, .string t] 43 (0, 0))) := (b4.block w.heap.size (blk_lt X5.out)).trans X5.out; have B4 : Hid (Below w.heap.size w w4) := B5.out.trans (b4.mono B5.out.size); have y4 := cells2 X4.out; have x04 := y4.1; have x14 := y4.2.1; clear y4 b4))
    all_goals
      go_wp2
      go_ret
      exact ⟨ret_str (by rw [HE.out, HL.out]; rfl), B4.out⟩
end Go.Proofs.Ytaapacpiipcogaa
