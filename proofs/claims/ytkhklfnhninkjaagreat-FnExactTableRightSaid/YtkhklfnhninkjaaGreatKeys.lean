/-
  Contracts: what stands in a key's bytes behind the byte of the kind.
-/
import Derived.Test.YtkhklfnhninkjaaGreatInners
import Derived.Test.YtkhklfnhninkjaaGreatKeyRep
import Derived.Test.YtkhklfnhninkjaaGreatJoinC
import Derived.Test.YtkhklfnhninkjaaGreatShelf
namespace Go.Proofs.YtkhklfnhninkjaaGreat
open Go.RowKit

theorem ahead1 {P : Program} {a b : TypeId} {n c : Nat} {r : Value} {o k : Obj} {W : World} (h : (convert a b (.slice (some ⟨(W.alloc o).heap.size, 0, none⟩) n c)).run P ((W.alloc o).alloc k) = .ok r ((W.alloc o).alloc k)) :
    (convert a b (.slice (some ⟨W.heap.size + 1, 0, none⟩) n c)).run P ((W.alloc o).alloc k) = .ok r ((W.alloc o).alloc k) := by
  have e : (W.alloc o).heap.size = W.heap.size + 1 := by simp
  rw [e] at h
  exact h
theorem keyNull_any (w : World) :
    Calls Tryz.prog 95 #[.agg #[]] w fun e w' => e = .returned (.string ⟨#[]⟩) ∧ Below w.heap.size w w' := by
  go_enter Tryz.func95, Tryz.ntmps95
  go_wp2
  go_ret
  exact ⟨rfl, (Below.refl _ _).alloc (Nat.le_refl _) _⟩
theorem conv1 (x : Int) (t : TypeId) (W : World) :
    (convert 109 9 (.slice (some ⟨W.heap.size, 0, none⟩) 1 1)).run Tryz.prog (W.alloc (.cells #[.int .u8 x] t)) = .ok (.string (strOfNums [x])) (W.alloc (.cells #[.int .u8 x] t)) := by
  refine run_convert_bytes_arg _ 109 5 Tryz.underlying109 Tryz.underlying5 W.heap.size 0 1 1 [x] rfl (fun i hi => ?_) 9 Tryz.underlying9
  rw [Nat.zero_add, cell_of_row _ _ i _ _ _ (heap_alloc_new W _)]
  match i, hi with
  | 0, _ => rfl
theorem conv2 (x y : Int) (t : TypeId) (W : World) :
    (convert 109 9 (.slice (some ⟨W.heap.size, 0, none⟩) 2 2)).run Tryz.prog (W.alloc (.cells #[.int .u8 x, .int .u8 y] t)) = .ok (.string (strOfNums [x, y])) (W.alloc (.cells #[.int .u8 x, .int .u8 y] t)) := by
  refine run_convert_bytes_arg _ 109 5 Tryz.underlying109 Tryz.underlying5 W.heap.size 0 2 2 [x, y] rfl (fun i hi => ?_) 9 Tryz.underlying9
  rw [Nat.zero_add, cell_of_row _ _ i _ _ _ (heap_alloc_new W _)]
  match i, hi with
  | 0, _ => rfl
  | 1, _ => rfl
set_option maxRecDepth 100000 in
theorem keyBool_any (n : Int) (hn : n = 0 ∨ n = 1) (w : World) :
    Calls Tryz.prog 97 #[.agg #[.int .i64 n]] w fun e w' => e = .returned (.string (mkS [UInt8.ofNat n.toNat])) ∧ Below w.heap.size w w' := by
  have hcv := fun t W o => ahead1 (conv1 n t (World.alloc W o))
  have hw : IntKind.u8.wrap n = n := by rcases hn with rfl | rfl <;> rfl
  have HS : Hid (strOfNums [n] = mkS [UInt8.ofNat n.toNat]) := by
    rcases hn with rfl | rfl <;> rfl
  go_enter Tryz.func97, Tryz.ntmps97
  go_wp2
  go_ret
  exact ⟨ret_str (by rw [HS.out]), ((Below.refl _ _).alloc (Nat.le_refl _) _).alloc (by simp) _⟩
theorem conv8 (x0 x1 x2 x3 x4 x5 x6 x7 : Int) (t : TypeId) (W : World) :
    (convert 109 9 (.slice (some ⟨W.heap.size, 0, none⟩) 8 8)).run Tryz.prog (W.alloc (.cells #[.int .u8 x0, .int .u8 x1, .int .u8 x2, .int .u8 x3, .int .u8 x4, .int .u8 x5, .int .u8 x6, .int .u8 x7] t)) = .ok (.string (strOfNums [x0, x1, x2, x3, x4, x5, x6, x7])) (W.alloc (.cells #[.int .u8 x0, .int .u8 x1, .int .u8 x2, .int .u8 x3, .int .u8 x4, .int .u8 x5, .int .u8 x6, .int .u8 x7] t)) := by
  refine run_convert_bytes_arg _ 109 5 Tryz.underlying109 Tryz.underlying5 W.heap.size 0 8 8 [x0, x1, x2, x3, x4, x5, x6, x7] rfl (fun i hi => ?_) 9 Tryz.underlying9
  rw [Nat.zero_add, cell_of_row _ _ i _ _ _ (heap_alloc_new W _)]
  match i, hi with
  | 0, _ => rfl
  | 1, _ => rfl
  | 2, _ => rfl
  | 3, _ => rfl
  | 4, _ => rfl
  | 5, _ => rfl
  | 6, _ => rfl
  | 7, _ => rfl
theorem be8_str (u : Nat) (hu : u < 18446744073709551616) : strOfNums [(u : Int) / 72057594037927936, (u : Int) / 281474976710656 % 256, (u : Int) / 1099511627776 % 256, (u : Int) / 4294967296 % 256, (u : Int) / 16777216 % 256, (u : Int) / 65536 % 256, (u : Int) / 256 % 256, (u : Int) % 256] = mkS (be 8 u) := by
  rw [← strOfNums_bytes, be8_eq]
  have e := fun (a b : Int) (x y : List Int) (h1 : a = b) (h2 : x = y) => show a :: x = b :: y by rw [h1, h2]
  refine congrArg strOfNums ?_
  simp only [List.map_cons, List.map_nil, UInt8.toNat_ofNat']
  refine e _ _ _ _ (by omega) (e _ _ _ _ (by omega) (e _ _ _ _ (by omega) (e _ _ _ _ (by omega) (e _ _ _ _ (by omega) (e _ _ _ _ (by omega) (e _ _ _ _ (by omega) (e _ _ _ _ (by omega) rfl)))))))
set_option maxRecDepth 100000 in
set_option maxHeartbeats 1000000 in
theorem keyInt_any (n : Int) (h1 : -9223372036854775808 ≤ n) (h2 : n ≤ 9223372036854775807) (w : World) :
    Calls Tryz.prog 99 #[.agg #[.int .i64 n]] w fun e w' => e = .returned (.string (mkS (be 8 (n + 9223372036854775808).toNat))) ∧ Below w.heap.size w w' := by
  have hcv := fun x0 x1 x2 x3 x4 x5 x6 x7 t W o => ahead1 (conv8 x0 x1 x2 x3 x4 x5 x6 x7 t (World.alloc W o))
  have HB : Hid (∀ u : Nat, u < 18446744073709551616 → strOfNums [(u : Int) / 72057594037927936, (u : Int) / 281474976710656 % 256, (u : Int) / 1099511627776 % 256, (u : Int) / 4294967296 % 256, (u : Int) / 16777216 % 256, (u : Int) / 65536 % 256, (u : Int) / 256 % 256, (u : Int) % 256] = mkS (be 8 u)) := be8_str
  go_enter Tryz.func99, Tryz.ntmps99
  go_wp2
  rw [turnBit n h1 h2]
  have hu : (n + 9223372036854775808).toNat < 18446744073709551616 := by omega
  generalize hU : (n + 9223372036854775808).toNat = u at hu ⊢
  have HU : Hid ((n + 9223372036854775808).toNat = u) := hU
  clear hU
  generalize IntKind.u64.wrap n = q
  clear h1 h2
  refine wp_loop_rounds 9 ?_
  rw [rounds_succ]
  go_wp2
  rw [rounds_succ]
  go_wp2
  rw [rounds_succ]
  go_wp2
  rw [rounds_succ]
  go_wp2
  rw [rounds_succ]
  go_wp2
  rw [rounds_succ]
  go_wp2
  rw [rounds_succ]
  go_wp2
  rw [rounds_succ]
  go_wp2
  rw [rounds_succ]
  go_wp2
  go_ret
  exact ⟨ret_str (by rw [HB.out u hu, HU.out]), ((Below.refl _ _).alloc (Nat.le_refl _) _).alloc (by simp) _⟩
theorem replace_any (t : ByteArray) (m : Int) (ht : t.size ≤ 200) (w : World) (hm : w.cell? ⟨0, 0, none⟩ = some (.int .i64 m)) :
    Calls Tryz.prog 103 #[.string t, .string ⟨#[0]⟩, .string (strOfNums [0, 255])] w fun e w' => e = .returned (.string (mkS (esc t.data.toList))) ∧ Below w.heap.size w w' := by
  have hc := Lib.count_le t.data.toList [0]
  rw [← ba_size] at hc
  have hz : (strOfNums [0, 255]).size = 2 := rfl
  have hl : (strOfNums [0, 255]).data.toList = [0, 255] := rfl
  have h := Tryz.strings_ReplaceAll t ⟨#[0]⟩ (strOfNums [0, 255]) m w (by omega) hm (by decide) (by
    rw [hz]
    show t.size + Lib.count t.data.toList [0] * 2 ≤ _
    omega)
  rw [hl] at h
  have e : Lib.replaceAll t.data.toList (ByteArray.mk #[0]).data.toList [0, 255] = esc t.data.toList := replaceAll_esc _
  rw [e] at h
  exact h
set_option maxRecDepth 100000 in
theorem keyText_any (t : ByteArray) (m : Int) (ht : t.size ≤ 200) (w : World) (hm : w.cell? ⟨0, 0, none⟩ = some (.int .i64 m)) :
    Calls Tryz.prog 101 #[.agg #[.string t]] w fun e w' => e = .returned (.string (mkS (esc t.data.toList ++ [0, 0]))) ∧ Below w.heap.size w w' := by
  have hcv := fun x y t W => conv2 x y t W
  have hcv1 := fun x y t W o => ahead1 (conv2 x y t (World.alloc W o))
  have hlt : 0 < w.heap.size := block_lt_of_cell hm
  have HM : Hid (∀ W, Below w.heap.size w W → W.cell? ⟨0, 0, none⟩ = some (.int .i64 m)) := fun W hb => (hb.cell (p := ⟨0, 0, none⟩) hlt).trans hm
  have he := esc_len t.data.toList
  rw [← ba_size] at he
  have HJ : Hid (mkS ((mkS (esc t.data.toList)).data.toList ++ (strOfNums [0, 0]).data.toList) = mkS (esc t.data.toList ++ [0, 0])) := by show _ = _; rw [mkS_list]; rfl
  have hs1 : (mkS (esc t.data.toList)).size ≤ 400 := by rw [mkS_size]; omega
  have hs2 : (strOfNums [0, 0]).size = 2 := rfl
  clear hm
  go_enter Tryz.func101, Tryz.ntmps101
  go_wp2_with fail
  refine (replace_any t m ht _ (HM.out _ (((Below.refl _ _).alloc (Nat.le_refl _) _).alloc (by simp) _))).mono ?_
  rintro e w1 ⟨rfl, hb1⟩
  have hb2 : Below w.heap.size w w1 := (((Below.refl _ _).alloc (Nat.le_refl _) _).alloc (by simp) _).trans (hb1.mono (by simp; omega))
  have hz2 := hb2.size
  clear hb1
  generalize mkS (esc t.data.toList) = E at HJ hs1 ⊢
  go_wp2_with fail
  generalize strOfNums [0, 0] = Z at HJ hs2 ⊢
  refine (join2 E Z _ _ _ (by omega) (by simp) (by simp)).mono ?_
  rintro e w3 ⟨rfl, hb3⟩
  have hb4 := ((hb2.alloc hz2 _).alloc (by simp; omega) _).trans (hb3.mono (by simp; omega))
  clear hb3 hb2 hcv hcv1
  go_wp2
  go_ret
  exact ⟨ret_str (by rw [HJ.out]), hb4⟩
/-- What stands behind the byte of the kind. -/
def keyTail (v : Val) : List UInt8 := (keyV v).tail
theorem keyV_split (v : Val) (h : vRight v = true) : keyV v = UInt8.ofNat v.kind.toNat :: keyTail v := by
  obtain ⟨t, ht⟩ := keyV_head h
  unfold keyTail
  rw [ht]; rfl
end Go.Proofs.YtkhklfnhninkjaaGreat
