/-
  Contracts: KeyBytes of the program.
-/
import Derived.Test.YtnangmjcgjlndaaGreatKeys
import Derived.Test.YtnangmjcgjlndaaGreatVsLen
import Derived.Test.YtnangmjcgjlndaaGreatToIn
import Derived.Test.YtnangmjcgjlndaaGreatBuildW
namespace Go.Proofs.YtnangmjcgjlndaaGreat
open Go.RowKit

theorem kind_null (w : World) :
    Calls Tryz.prog 101 #[.agg #[]] w fun e w' => e = .returned (.int .i64 0) ∧ Below w.heap.size w w' := by
  go_enter Tryz.func101, Tryz.ntmps101
  go_wp2
  go_ret
  exact ⟨rfl, (Below.refl _ _).alloc (Nat.le_refl _) _⟩
theorem keyM_null (w : World) : (Go.method 269 127 (.agg #[]) "loop.example/g00271/impl.key").run Tryz.prog w = .ok (100, .agg #[]) w := by kernel_rfl
theorem kind_bool (n : Int) (w : World) :
    Calls Tryz.prog 103 #[.agg #[.int .i64 n]] w fun e w' => e = .returned (.int .i64 1) ∧ Below w.heap.size w w' := by
  go_enter Tryz.func103, Tryz.ntmps103
  go_wp2
  go_ret
  exact ⟨rfl, (Below.refl _ _).alloc (Nat.le_refl _) _⟩
theorem keyM_bool (x : Value) (w : World) : (Go.method 269 129 (.agg #[x]) "loop.example/g00271/impl.key").run Tryz.prog w = .ok (102, .agg #[x]) w := by kernel_rfl
theorem kind_int (n : Int) (w : World) :
    Calls Tryz.prog 105 #[.agg #[.int .i64 n]] w fun e w' => e = .returned (.int .i64 2) ∧ Below w.heap.size w w' := by
  go_enter Tryz.func105, Tryz.ntmps105
  go_wp2
  go_ret
  exact ⟨rfl, (Below.refl _ _).alloc (Nat.le_refl _) _⟩
theorem keyM_int (x : Value) (w : World) : (Go.method 269 130 (.agg #[x]) "loop.example/g00271/impl.key").run Tryz.prog w = .ok (104, .agg #[x]) w := by kernel_rfl
theorem kind_text (t : ByteArray) (w : World) :
    Calls Tryz.prog 107 #[.agg #[.string t]] w fun e w' => e = .returned (.int .i64 3) ∧ Below w.heap.size w w' := by
  go_enter Tryz.func107, Tryz.ntmps107
  go_wp2
  go_ret
  exact ⟨rfl, (Below.refl _ _).alloc (Nat.le_refl _) _⟩
theorem keyM_text (x : Value) (w : World) : (Go.method 269 132 (.agg #[x]) "loop.example/g00271/impl.key").run Tryz.prog w = .ok (106, .agg #[x]) w := by kernel_rfl
theorem builder_below {T e : TypeId} {B b : Nat} {bs : List Value} {w w' : World} (h : Lib.IsBuilder T e B b bs w) (hb : Below w.heap.size w w') : Lib.IsBuilder T e B b bs w' := by
  rcases h with ⟨h0, v, hk, ho, hne⟩ | ⟨h0, v, hk, ho, hne⟩
  · exact .inl ⟨h0, v, (hb.block _ (Array.getElem?_eq_some_iff.1 hk).1).trans hk, owns_below ho hb, hne⟩
  · exact .inr ⟨h0, v, (hb.block _ (Array.getElem?_eq_some_iff.1 hk).1).trans hk, owns_below ho hb, hne⟩
theorem byteCells_snoc (l : List UInt8) (c : UInt8) : Lib.byteCells l ++ [.int .u8 (c.toNat : Int)] = Lib.byteCells (l ++ [c]) := by simp [Lib.byteCells]
theorem byteCells_str (l r : List UInt8) : Lib.byteCells l ++ Lib.strCells (mkS r) = Lib.byteCells (l ++ r) := by simp [Lib.byteCells, Lib.strCells, mkS]
theorem byteCells_len (l : List UInt8) : (Lib.byteCells l).length = l.length := by simp [Lib.byteCells]
theorem keyL_take (vs : List Val) (k : Nat) (hk : k < vs.length) (h : vRight vs[k] = true) : keyL (vs.take (k + 1)) = keyL (vs.take k) ++ [UInt8.ofNat vs[k].kind.toNat] ++ keyTail vs[k] := by
  rw [List.take_succ_eq_append_getElem hk, keyL_snoc, keyV_split _ h]; simp
theorem take_right (vs : List Val) (k : Nat) (h : vs.all vRight = true) : (vs.take k).all vRight = true := by
  rw [List.all_eq_true] at h ⊢
  exact fun v hv => h v (List.mem_of_mem_take hv)
theorem keyL_le (vs : List Val) (k : Nat) (h : vs.all vRight = true) (hl : vs.length ≤ 12) : (keyL (vs.take k)).length ≤ 4836 := by
  have := keyL_len (vs.take k) (take_right vs k h)
  have h2 : (vs.take k).length ≤ vs.length := List.length_take_le' ..
  have := Nat.mul_le_mul_left 403 h2
  omega
def keyOf (vs : List Val) : ByteArray := if vsRight vs = true then mkS (keyL vs) else ByteArray.empty
set_option maxRecDepth 100000 in
set_option maxHeartbeats 4000000 in
theorem implKeyBytes_right (ao : Option Addr) (cap : Nat) (vs : List Val) (w : World) (hv : vsRight vs = true) (ha : ValRow w w.heap.size ao vs) (m : Int) (hm : w.cell? ⟨0, 0, none⟩ = some (.int .i64 m)) :
    Calls Tryz.prog 36 #[.slice ao vs.length cap] w fun e w' => e = .returned (.string (mkS (keyL vs))) ∧ Below w.heap.size w w' := by
  obtain ⟨hl, hva⟩ := vsRight_len hv
  have HVA : Hid (vs.all vRight = true) := hva
  have HA : Hid (ValRow w w.heap.size ao vs) := ha
  have hlt0 : 0 < w.heap.size := block_lt_of_cell hm
  have HM : Hid (∀ W, Below w.heap.size w W → W.cell? ⟨0, 0, none⟩ = some (.int .i64 m)) := fun W hb => (hb.cell (p := ⟨0, 0, none⟩) hlt0).trans hm
  clear ha hv hva hm
  go_enter Tryz.func36, Tryz.ntmps36
  go_wp2_with fail
  refine (toInners_any w.heap.size ao cap vs _ (Nat.le_refl _) hl HA.out).mono ?_
  rintro e w1 ⟨hb1, h⟩
  rcases h with ⟨_, ao1, cap1, rfl, hrow1⟩ | ⟨hf, rfl⟩
  rotate_left
  · exact absurd HVA.out (by rw [hf]; simp)
  have R1 : Hid (CellRow w1 w1.heap.size ao1 (vs.map innerV)) := hrow1
  have B1 : Hid (Below w.heap.size w w1) := hb1
  have hz1 := hb1.size
  clear hrow1 hb1
  have HS1 : Hid (∀ j (h : j < vs.length), (vs.map innerV)[j]'(by rw [List.length_map]; exact h) = innerV vs[j]) := fun j h => by simp
  have HBd := Lib.fresh_isBuilder 54 5 w1
  have HB0 : Hid (Lib.IsBuilder 54 5 w1.heap.size w1.heap.size [] (w1.alloc (.cells #[.pointer none, .slice none 0 0] 54))) := HBd
  clear HBd
  go_wp2
  go_loopw [17] (fun i wr => ∃ k : Nat, k ≤ vs.length ∧ i = .int .i64 k ∧ Hid (Lib.IsBuilder 54 5 w1.heap.size w1.heap.size (Lib.byteCells (keyL (vs.take k))) wr) ∧ Below w1.heap.size w1 wr) (fun i _ => vs.length - (intOf i).toNat)
  case atStart => exact ⟨0, Nat.zero_le _, rfl, HB0, (Below.refl _ _).alloc (Nat.le_refl _) _⟩
  case round =>
    obtain ⟨k, hk, rfl, HK, hbw⟩ := hrel
    have hz := hbw.size
    have hkl := keyL_le vs k HVA.out hl
    by_cases hlt : k < vs.length
    · have hvr : vRight vs[k] = true := List.all_eq_true.1 HVA.out _ (List.getElem_mem hlt)
      obtain ⟨b, off, rfl, hbB, d0⟩ := (R1.out.kept hbw).at k (by rw [List.length_map]; exact hlt)
      rw [HS1.out k hlt] at d0
      have hrk := right_kind hvr
      have hstep := keyL_take vs k hlt hvr
      have hkl2 := keyL_le vs (k + 1) HVA.out hl
      have htl : (keyTail vs[k]).length ≤ 4836 := by rw [hstep] at hkl2; simp at hkl2; omega
      have HST : Hid (keyL (vs.take (k + 1)) = keyL (vs.take k) ++ [UInt8.ofNat vs[k].kind.toNat] ++ keyTail vs[k]) := hstep
      have hok := HA.out.1 _ (List.getElem_mem hlt)
      clear hstep hkl2
      generalize vs[k] = v at *
      obtain ⟨kk, n, t⟩ := v
      obtain ⟨_, _, hn1, hn2⟩ := hok
      simp only at hn1 hn2 hrk HST
      rcases hrk with rfl | rfl | rfl | rfl
      · have d1 : wr.cell? ⟨b, off + k, none⟩ = some (.iface 127 (.agg #[])) := d0
        have hkm := kindM_null
        have hqm := keyM_null
        have HQ : Hid (∀ W, Below w.heap.size w W → Calls Tryz.prog 100 #[.agg #[]] W fun e w' => e = .returned (.string (mkS (keyTail ⟨0, n, t⟩))) ∧ Below W.heap.size W w') := fun W hb => keyNull_any W
        generalize keyTail ⟨0, n, t⟩ = tl at *
        have hmz : (mkS tl).size = tl.length := mkS_size tl
        clear d0 hvr
        go_wp2_with fail
        refine (kind_null _).mono ?_
        rintro e w2 ⟨rfl, hb2⟩
        have K2 : Hid (Lib.IsBuilder 54 5 w1.heap.size w1.heap.size (Lib.byteCells (keyL (vs.take k))) w2) := builder_below HK.out hb2
        have b2 := hbw.trans (hb2.mono hz)
        have hz2 := b2.size
        clear hb2 HK hbw hz d1 hkm
        go_wp2_with fail
        refine (Tryz.Builder_WriteByte w1.heap.size w1.heap.size _ _ _ K2.out (by rw [byteCells_len]; omega) hz2).mono ?_
        rintro e w3 ⟨rfl, hbd3, hb3⟩
        have K3 : Hid (Lib.IsBuilder 54 5 w1.heap.size w1.heap.size (Lib.byteCells (keyL (vs.take k) ++ [UInt8.ofNat 0])) w3) := by show Lib.IsBuilder ..; rw [← byteCells_snoc]; exact .inr hbd3
        have b3 := b2.trans hb3
        have hz3 := b3.size
        clear hb3 hbd3 K2 b2 hz2
        go_wp2_with fail
        refine (HQ.out _ (B1.out.trans (b3.mono hz1))).mono ?_
        rintro e w4 ⟨rfl, hb4⟩
        have K4 : Hid (Lib.IsBuilder 54 5 w1.heap.size w1.heap.size (Lib.byteCells (keyL (vs.take k) ++ [UInt8.ofNat 0])) w4) := builder_below K3.out hb4
        have b4 := b3.trans (hb4.mono hz3)
        have hz4 := b4.size
        clear hb4 K3 b3 hz3 hqm
        go_wp2_with fail
        refine (Tryz.Builder_WriteString w1.heap.size w1.heap.size _ (mkS tl) _ K4.out (by rw [byteCells_len, List.length_append]; simp; omega) hz4).mono ?_
        rintro e w5 ⟨rfl, hbd5, hb5⟩
        have K5 : Hid (Lib.IsBuilder 54 5 w1.heap.size w1.heap.size (Lib.byteCells (keyL (vs.take (k + 1)))) w5) := by show Lib.IsBuilder ..; rw [HST.out]; rw [byteCells_str] at hbd5; exact .inr hbd5
        have b5 := b4.trans hb5
        clear hb5 hbd5 K4 b4 hz4
        go_wp2
        go_roundw
        case rel => exact ⟨k + 1, by omega, by go_num, K5, b5⟩
        case measure => simp [intOf]; omega
      · have d1 : wr.cell? ⟨b, off + k, none⟩ = some (.iface 129 (.agg #[.int .i64 n])) := d0
        have hkm := kindM_bool (.int .i64 n)
        have hqm := keyM_bool (.int .i64 n)
        have hn : n = 0 ∨ n = 1 := (of_decide_eq_true (show decide ((n = 0 ∨ n = 1) ∧ t.size = 0) = true from hvr)).1
        have HQ : Hid (∀ W, Below w.heap.size w W → Calls Tryz.prog 102 #[.agg #[.int .i64 n]] W fun e w' => e = .returned (.string (mkS (keyTail ⟨1, n, t⟩))) ∧ Below W.heap.size W w') := fun W hb => keyBool_any n hn W
        generalize keyTail ⟨1, n, t⟩ = tl at *
        have hmz : (mkS tl).size = tl.length := mkS_size tl
        clear d0 hvr
        go_wp2_with fail
        refine (kind_bool n _).mono ?_
        rintro e w2 ⟨rfl, hb2⟩
        have K2 : Hid (Lib.IsBuilder 54 5 w1.heap.size w1.heap.size (Lib.byteCells (keyL (vs.take k))) w2) := builder_below HK.out hb2
        have b2 := hbw.trans (hb2.mono hz)
        have hz2 := b2.size
        clear hb2 HK hbw hz d1 hkm
        go_wp2_with fail
        refine (Tryz.Builder_WriteByte w1.heap.size w1.heap.size _ _ _ K2.out (by rw [byteCells_len]; omega) hz2).mono ?_
        rintro e w3 ⟨rfl, hbd3, hb3⟩
        have K3 : Hid (Lib.IsBuilder 54 5 w1.heap.size w1.heap.size (Lib.byteCells (keyL (vs.take k) ++ [UInt8.ofNat 1])) w3) := by show Lib.IsBuilder ..; rw [← byteCells_snoc]; exact .inr hbd3
        have b3 := b2.trans hb3
        have hz3 := b3.size
        clear hb3 hbd3 K2 b2 hz2
        go_wp2_with fail
        refine (HQ.out _ (B1.out.trans (b3.mono hz1))).mono ?_
        rintro e w4 ⟨rfl, hb4⟩
        have K4 : Hid (Lib.IsBuilder 54 5 w1.heap.size w1.heap.size (Lib.byteCells (keyL (vs.take k) ++ [UInt8.ofNat 1])) w4) := builder_below K3.out hb4
        have b4 := b3.trans (hb4.mono hz3)
        have hz4 := b4.size
        clear hb4 K3 b3 hz3 hqm
        go_wp2_with fail
        refine (Tryz.Builder_WriteString w1.heap.size w1.heap.size _ (mkS tl) _ K4.out (by rw [byteCells_len, List.length_append]; simp; omega) hz4).mono ?_
        rintro e w5 ⟨rfl, hbd5, hb5⟩
        have K5 : Hid (Lib.IsBuilder 54 5 w1.heap.size w1.heap.size (Lib.byteCells (keyL (vs.take (k + 1)))) w5) := by show Lib.IsBuilder ..; rw [HST.out]; rw [byteCells_str] at hbd5; exact .inr hbd5
        have b5 := b4.trans hb5
        clear hb5 hbd5 K4 b4 hz4
        go_wp2
        go_roundw
        case rel => exact ⟨k + 1, by omega, by go_num, K5, b5⟩
        case measure => simp [intOf]; omega
      · have d1 : wr.cell? ⟨b, off + k, none⟩ = some (.iface 130 (.agg #[.int .i64 n])) := d0
        have hkm := kindM_int (.int .i64 n)
        have hqm := keyM_int (.int .i64 n)
        have HQ : Hid (∀ W, Below w.heap.size w W → Calls Tryz.prog 104 #[.agg #[.int .i64 n]] W fun e w' => e = .returned (.string (mkS (keyTail ⟨2, n, t⟩))) ∧ Below W.heap.size W w') := fun W hb => keyInt_any n hn1 hn2 W
        generalize keyTail ⟨2, n, t⟩ = tl at *
        have hmz : (mkS tl).size = tl.length := mkS_size tl
        clear d0 hvr
        go_wp2_with fail
        refine (kind_int n _).mono ?_
        rintro e w2 ⟨rfl, hb2⟩
        have K2 : Hid (Lib.IsBuilder 54 5 w1.heap.size w1.heap.size (Lib.byteCells (keyL (vs.take k))) w2) := builder_below HK.out hb2
        have b2 := hbw.trans (hb2.mono hz)
        have hz2 := b2.size
        clear hb2 HK hbw hz d1 hkm
        go_wp2_with fail
        refine (Tryz.Builder_WriteByte w1.heap.size w1.heap.size _ _ _ K2.out (by rw [byteCells_len]; omega) hz2).mono ?_
        rintro e w3 ⟨rfl, hbd3, hb3⟩
        have K3 : Hid (Lib.IsBuilder 54 5 w1.heap.size w1.heap.size (Lib.byteCells (keyL (vs.take k) ++ [UInt8.ofNat 2])) w3) := by show Lib.IsBuilder ..; rw [← byteCells_snoc]; exact .inr hbd3
        have b3 := b2.trans hb3
        have hz3 := b3.size
        clear hb3 hbd3 K2 b2 hz2
        go_wp2_with fail
        refine (HQ.out _ (B1.out.trans (b3.mono hz1))).mono ?_
        rintro e w4 ⟨rfl, hb4⟩
        have K4 : Hid (Lib.IsBuilder 54 5 w1.heap.size w1.heap.size (Lib.byteCells (keyL (vs.take k) ++ [UInt8.ofNat 2])) w4) := builder_below K3.out hb4
        have b4 := b3.trans (hb4.mono hz3)
        have hz4 := b4.size
        clear hb4 K3 b3 hz3 hqm
        go_wp2_with fail
        refine (Tryz.Builder_WriteString w1.heap.size w1.heap.size _ (mkS tl) _ K4.out (by rw [byteCells_len, List.length_append]; simp; omega) hz4).mono ?_
        rintro e w5 ⟨rfl, hbd5, hb5⟩
        have K5 : Hid (Lib.IsBuilder 54 5 w1.heap.size w1.heap.size (Lib.byteCells (keyL (vs.take (k + 1)))) w5) := by show Lib.IsBuilder ..; rw [HST.out]; rw [byteCells_str] at hbd5; exact .inr hbd5
        have b5 := b4.trans hb5
        clear hb5 hbd5 K4 b4 hz4
        go_wp2
        go_roundw
        case rel => exact ⟨k + 1, by omega, by go_num, K5, b5⟩
        case measure => simp [intOf]; omega
      · have d1 : wr.cell? ⟨b, off + k, none⟩ = some (.iface 132 (.agg #[.string t])) := d0
        have hkm := kindM_text (.string t)
        have hqm := keyM_text (.string t)
        have ht : t.size ≤ 200 := (of_decide_eq_true (show decide (n = 0 ∧ t.size ≤ 200) = true from hvr)).2
        have HQ : Hid (∀ W, Below w.heap.size w W → Calls Tryz.prog 106 #[.agg #[.string t]] W fun e w' => e = .returned (.string (mkS (keyTail ⟨3, n, t⟩))) ∧ Below W.heap.size W w') := fun W hb => keyText_any t m ht W (HM.out W hb)
        generalize keyTail ⟨3, n, t⟩ = tl at *
        have hmz : (mkS tl).size = tl.length := mkS_size tl
        clear d0 hvr
        go_wp2_with fail
        refine (kind_text t _).mono ?_
        rintro e w2 ⟨rfl, hb2⟩
        have K2 : Hid (Lib.IsBuilder 54 5 w1.heap.size w1.heap.size (Lib.byteCells (keyL (vs.take k))) w2) := builder_below HK.out hb2
        have b2 := hbw.trans (hb2.mono hz)
        have hz2 := b2.size
        clear hb2 HK hbw hz d1 hkm
        go_wp2_with fail
        refine (Tryz.Builder_WriteByte w1.heap.size w1.heap.size _ _ _ K2.out (by rw [byteCells_len]; omega) hz2).mono ?_
        rintro e w3 ⟨rfl, hbd3, hb3⟩
        have K3 : Hid (Lib.IsBuilder 54 5 w1.heap.size w1.heap.size (Lib.byteCells (keyL (vs.take k) ++ [UInt8.ofNat 3])) w3) := by show Lib.IsBuilder ..; rw [← byteCells_snoc]; exact .inr hbd3
        have b3 := b2.trans hb3
        have hz3 := b3.size
        clear hb3 hbd3 K2 b2 hz2
        go_wp2_with fail
        refine (HQ.out _ (B1.out.trans (b3.mono hz1))).mono ?_
        rintro e w4 ⟨rfl, hb4⟩
        have K4 : Hid (Lib.IsBuilder 54 5 w1.heap.size w1.heap.size (Lib.byteCells (keyL (vs.take k) ++ [UInt8.ofNat 3])) w4) := builder_below K3.out hb4
        have b4 := b3.trans (hb4.mono hz3)
        have hz4 := b4.size
        clear hb4 K3 b3 hz3 hqm
        go_wp2_with fail
        refine (Tryz.Builder_WriteString w1.heap.size w1.heap.size _ (mkS tl) _ K4.out (by rw [byteCells_len, List.length_append]; simp; omega) hz4).mono ?_
        rintro e w5 ⟨rfl, hbd5, hb5⟩
        have K5 : Hid (Lib.IsBuilder 54 5 w1.heap.size w1.heap.size (Lib.byteCells (keyL (vs.take (k + 1)))) w5) := by show Lib.IsBuilder ..; rw [HST.out]; rw [byteCells_str] at hbd5; exact .inr hbd5
        have b5 := b4.trans hb5
        clear hb5 hbd5 K4 b4 hz4
        go_wp2
        go_roundw
        case rel => exact ⟨k + 1, by omega, by go_num, K5, b5⟩
        case measure => simp [intOf]; omega
    · obtain rfl : k = vs.length := by omega
      go_wp2_with fail
      refine (Tryz.Builder_String_any w1.heap.size w1.heap.size (keyL (vs.take vs.length)) _ HK.out hz).mono ?_
      rintro e w2 ⟨rfl, hb2⟩
      rw [List.take_length]
      have b2 := hbw.trans hb2
      clear hb2 HK hbw
      go_wp2
      go_ret
      exact ⟨rfl, B1.out.trans (b2.mono hz1)⟩
end Go.Proofs.YtnangmjcgjlndaaGreat
