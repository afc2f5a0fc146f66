/-
  Contracts and plain laws: VsLen, ToIn, BuildW, KeyB, KeyI, VTo, RwTo
-/
import Derived.Test.YtkhklfnhninkjaaGreatKeyPlain
import Derived.Test.YtkhklfnhninkjaaGreatInners
import Derived.Shelf.Strings.Builder1
import Derived.Test.YtkhklfnhninkjaaGreatProg
import Derived.Test.YtkhklfnhninkjaaGreatKeys
import Derived.Shelf.Vars
import Derived.Test.YtkhklfnhninkjaaGreatOwnV
import Derived.Test.YtkhklfnhninkjaaGreatVals2
import Derived.Test.YtkhklfnhninkjaaGreatQa
import Derived.Deep.RegionHeld3
import Derived.OwnWalk

/-
  Right values are few.
-/
namespace Go.Proofs.YtkhklfnhninkjaaGreat
open Go.RowKit

theorem vsRight_len {vs : List Val} (h : vsRight vs = true) : vs.length ≤ 12 ∧ vs.all vRight = true := by
  unfold vsRight at h
  rw [Bool.and_eq_true] at h
  exact ⟨of_decide_eq_true h.1, h.2⟩
end Go.Proofs.YtkhklfnhninkjaaGreat

/-
  Values taken in, all of them.
-/
namespace Go.Proofs.YtkhklfnhninkjaaGreat
open Go.RowKit

theorem toInners_all (B : Nat) (ao : Option Addr) (cap : Nat) (vs : List Val) (w : World) (hB : B ≤ w.heap.size) (hl : vs.length ≤ maxLen) (hr : ValRow w B ao vs) :
    Calls Tryz.prog 61 #[.slice ao vs.length cap] w fun e w' => Below w.heap.size w w' ∧ ∃ bo n cp, e = .returned (.tuple #[.slice bo n cp, .bool (vsRight vs)]) := by
  by_cases h12 : 12 < vs.length
  · refine (toInners_long ao vs.length cap w hl h12).mono ?_
    rintro e w1 ⟨rfl, hb1⟩
    have hv : vsRight vs = false := by unfold vsRight; rw [decide_eq_false (by omega)]; rfl
    exact ⟨hb1, none, 0, 0, by rw [hv]⟩
  · refine (toInners_any B ao cap vs w hB (by omega) hr).mono ?_
    have hv : vsRight vs = vs.all vRight := by unfold vsRight; rw [decide_eq_true (by omega)]; rfl
    rintro e w1 ⟨hb1, h⟩
    rcases h with ⟨ha, bo, cp, rfl, _⟩ | ⟨ha, rfl⟩
    · exact ⟨hb1, bo, vs.length, cp, by rw [hv, ha]⟩
    · exact ⟨hb1, none, 0, 0, by rw [hv, ha]⟩
end Go.Proofs.YtkhklfnhninkjaaGreat

/-
  The library's contracts on strings.Builder that this claim uses, laid at this program.
-/
namespace Go.Proofs
open Go.Shelf
def Tryz.laysW_ren : Go.Shelf.Ren := ⟨fun | 166 => 63 | 240 => 72 | 276 => 76 | 169 => 64 | n => n, fun | 0 => 0 | 3 => 3 | 4 => 4 | 5 => 5 | 9 => 9 | 20 => 20 | 37 => 109 | 70 => 108 | 72 => 111 | 75 => 115 | 164 => 137 | 127 => 126 | 80 => 120 | n => n, fun | n => n⟩
theorem Tryz.laysW166 : Go.Proofs.Lays.n166 Tryz.prog Tryz.laysW_ren := {
  mixed := by kernel_rfl
  f166 := Tryz.func63.trans (congrArg some (by kernel_rfl))
  f240 := Tryz.func72.trans (congrArg some (by kernel_rfl))
  f276 := Tryz.func76.trans (congrArg some (by kernel_rfl))
  t0 := Tryz.underlying0
  a0 := Tryz.isAgg0
  z0 := Tryz.sizeOf0
  v0 := Tryz.zeroValue0
  t3 := Tryz.underlying3
  a3 := Tryz.isAgg3
  z3 := Tryz.sizeOf3
  v3 := Tryz.zeroValue3
  t4 := Tryz.underlying4
  a4 := Tryz.isAgg4
  z4 := Tryz.sizeOf4
  v4 := Tryz.zeroValue4
  t9 := Tryz.underlying9
  a9 := Tryz.isAgg9
  z9 := Tryz.sizeOf9
  v9 := Tryz.zeroValue9
  t20 := Tryz.underlying20
  a20 := Tryz.isAgg20
  z20 := Tryz.sizeOf20
  v20 := Tryz.zeroValue20
  t37 := Tryz.underlying109
  a37 := Tryz.isAgg109
  z37 := Tryz.sizeOf109
  v37 := Tryz.zeroValue109
  t70 := Tryz.underlying108
  a70 := Tryz.isAgg108
  z70 := Tryz.sizeOf108
  v70 := Tryz.zeroValue108
  t72 := Tryz.underlying111
  a72 := Tryz.isAgg111
  z72 := Tryz.sizeOf111
  v72 := Tryz.zeroValue111
  t75 := Tryz.underlying115
  a75 := Tryz.isAgg115
  z75 := Tryz.sizeOf115
  v75 := Tryz.zeroValue115
  t164 := Tryz.underlying137
  a164 := Tryz.isAgg137
  z164 := Tryz.sizeOf137
  v164 := Tryz.zeroValue137 }
theorem Tryz.laysW169 : Go.Proofs.Lays.n169 Tryz.prog Tryz.laysW_ren := {
  mixed := by kernel_rfl
  f169 := Tryz.func64.trans (congrArg some (by kernel_rfl))
  t0 := Tryz.underlying0
  a0 := Tryz.isAgg0
  z0 := Tryz.sizeOf0
  v0 := Tryz.zeroValue0
  t3 := Tryz.underlying3
  a3 := Tryz.isAgg3
  z3 := Tryz.sizeOf3
  v3 := Tryz.zeroValue3
  t9 := Tryz.underlying9
  a9 := Tryz.isAgg9
  z9 := Tryz.sizeOf9
  v9 := Tryz.zeroValue9
  t37 := Tryz.underlying109
  a37 := Tryz.isAgg109
  z37 := Tryz.sizeOf109
  v37 := Tryz.zeroValue109
  t70 := Tryz.underlying108
  a70 := Tryz.isAgg108
  z70 := Tryz.sizeOf108
  v70 := Tryz.zeroValue108
  t72 := Tryz.underlying111
  a72 := Tryz.isAgg111
  z72 := Tryz.sizeOf111
  v72 := Tryz.zeroValue111
  t127 := Tryz.underlying126
  a127 := Tryz.isAgg126
  z127 := Tryz.sizeOf126
  v127 := Tryz.zeroValue126 }
theorem Tryz.BuilderW_Extra : Builder.Extra Tryz.prog Tryz.laysW_ren := {
  sizeBuilder := by kernel_rfl
  liesBuilder := by kernel_rfl
  t5 := Tryz.underlying5
  a5 := Tryz.isAgg5
  z5 := Tryz.sizeOf5
  v5 := Tryz.zeroValue5
  infoByte := by kernel_rfl
  cellsByte := by kernel_rfl
  sizeByte := by kernel_rfl
  neB5 := by decide }
open Go.RowKit in
theorem Tryz.Builder_WriteString (B b : Nat) (bs : List Value) (s : ByteArray) (w : World) (h : Lib.IsBuilder 111 5 B b bs w) (hlen : bs.length + s.size ≤ 140737488355328) (hBw : B ≤ w.heap.size) :
    Calls Tryz.prog 63 #[.pointer (some ⟨b, 0, none⟩), .string s] w fun e w' => e = .returned (.tuple #[.int .i64 s.size, .nilIface]) ∧ (Lib.BuilderAt 111 5 B b (.pointer (some ⟨b, 0, none⟩)) (bs ++ Lib.strCells s) w' ∧ Below B w w') := Any.Builder_WriteString Tryz.laysW166 Tryz.BuilderW_Extra B b bs s w h hlen hBw
open Go.RowKit in
theorem Tryz.Builder_String_any (B b : Nat) (l : List UInt8) (w : World) (h : Lib.IsBuilder 111 5 B b (Lib.byteCells l) w) (hBw : B ≤ w.heap.size) :
    Calls Tryz.prog 64 #[.pointer (some ⟨b, 0, none⟩)] w fun e w' => e = .returned (.string ⟨l.toArray⟩) ∧ Below B w w' := Any.Builder_String_any Tryz.laysW169 Tryz.BuilderW_Extra B b l w h hBw
end Go.Proofs

/-
  Contracts: KeyBytes of the program.
-/
namespace Go.Proofs.YtkhklfnhninkjaaGreat
open Go.RowKit

theorem kind_null (w : World) :
    Calls Tryz.prog 96 #[.agg #[]] w fun e w' => e = .returned (.int .i64 0) ∧ Below w.heap.size w w' := by
  go_enter Tryz.func96, Tryz.ntmps96
  go_wp2
  go_ret
  exact ⟨rfl, (Below.refl _ _).alloc (Nat.le_refl _) _⟩
theorem keyM_null (w : World) : (Go.method 275 129 (.agg #[]) "loop.example/g00271/impl.key").run Tryz.prog w = .ok (95, .agg #[]) w := by kernel_rfl
theorem kind_bool (n : Int) (w : World) :
    Calls Tryz.prog 98 #[.agg #[.int .i64 n]] w fun e w' => e = .returned (.int .i64 1) ∧ Below w.heap.size w w' := by
  go_enter Tryz.func98, Tryz.ntmps98
  go_wp2
  go_ret
  exact ⟨rfl, (Below.refl _ _).alloc (Nat.le_refl _) _⟩
theorem keyM_bool (x : Value) (w : World) : (Go.method 275 131 (.agg #[x]) "loop.example/g00271/impl.key").run Tryz.prog w = .ok (97, .agg #[x]) w := by kernel_rfl
theorem kind_int (n : Int) (w : World) :
    Calls Tryz.prog 100 #[.agg #[.int .i64 n]] w fun e w' => e = .returned (.int .i64 2) ∧ Below w.heap.size w w' := by
  go_enter Tryz.func100, Tryz.ntmps100
  go_wp2
  go_ret
  exact ⟨rfl, (Below.refl _ _).alloc (Nat.le_refl _) _⟩
theorem keyM_int (x : Value) (w : World) : (Go.method 275 132 (.agg #[x]) "loop.example/g00271/impl.key").run Tryz.prog w = .ok (99, .agg #[x]) w := by kernel_rfl
theorem kind_text (t : ByteArray) (w : World) :
    Calls Tryz.prog 102 #[.agg #[.string t]] w fun e w' => e = .returned (.int .i64 3) ∧ Below w.heap.size w w' := by
  go_enter Tryz.func102, Tryz.ntmps102
  go_wp2
  go_ret
  exact ⟨rfl, (Below.refl _ _).alloc (Nat.le_refl _) _⟩
theorem keyM_text (x : Value) (w : World) : (Go.method 275 134 (.agg #[x]) "loop.example/g00271/impl.key").run Tryz.prog w = .ok (101, .agg #[x]) w := by kernel_rfl
theorem builder_below {T e : TypeId} {B b : Nat} {bs : List Value} {w w' : World} (h : Lib.IsBuilder T e B b bs w) (hb : Below w.heap.size w w') : Lib.IsBuilder T e B b bs w' := by
  rcases h with ⟨h0, v, hk, ho, hne⟩ | ⟨h0, v, hk, ho, hne⟩
  · exact .inl ⟨h0, v, (hb.block _ (Array.getElem?_eq_some_iff.1 hk).1).trans hk, owns_below ho hb, hne⟩
  · exact .inr ⟨h0, v, (hb.block _ (Array.getElem?_eq_some_iff.1 hk).1).trans hk, owns_below ho hb, hne⟩
theorem byteCells_snoc (l : List UInt8) (c : UInt8) : Lib.byteCells l ++ [.int .u8 (c.toNat : Int)] = Lib.byteCells (l ++ [c]) := by simp [Lib.byteCells]
theorem byteCells_str (l r : List UInt8) : Lib.byteCells l ++ Lib.strCells (mkS r) = Lib.byteCells (l ++ r) := by simp [Lib.byteCells, Lib.strCells, mkS]
theorem byteCells_len (l : List UInt8) : (Lib.byteCells l).length = l.length := by simp [Lib.byteCells]
theorem keyL_take (vs : List Val) (k : Nat) (hk : k < vs.length) (h : vRight vs[k] = true) : keyL (vs.take (k + 1)) = keyL (vs.take k) ++ [UInt8.ofNat vs[k].kind.toNat] ++ keyTail vs[k] := by
  rw [List.take_succ_eq_append_getElem hk, keyL_snoc, keyV_split _ h]; simp
theorem take_right (vs : List Val) (k : Nat) (h : vs.all vRight = true) : (vs.take k).all vRight = true := by
  rw [List.all_eq_true] at h ⊢
  exact fun v hv => h v (List.mem_of_mem_take hv)
theorem keyL_le (vs : List Val) (k : Nat) (h : vs.all vRight = true) (hl : vs.length ≤ 12) : (keyL (vs.take k)).length ≤ 4836 := by
  have := keyL_len (vs.take k) (take_right vs k h)
  have h2 : (vs.take k).length ≤ vs.length := List.length_take_le' ..
  have := Nat.mul_le_mul_left 403 h2
  omega
def keyOf (vs : List Val) : ByteArray := if vsRight vs = true then mkS (keyL vs) else ByteArray.empty
set_option maxRecDepth 100000 in
set_option maxHeartbeats 4000000 in
theorem implKeyBytes_right (ao : Option Addr) (cap : Nat) (vs : List Val) (w : World) (hv : vsRight vs = true) (ha : ValRow w w.heap.size ao vs) (m : Int) (hm : w.cell? ⟨0, 0, none⟩ = some (.int .i64 m)) :
    Calls Tryz.prog 50 #[.slice ao vs.length cap] w fun e w' => e = .returned (.string (mkS (keyL vs))) ∧ Below w.heap.size w w' := by
  obtain ⟨hl, hva⟩ := vsRight_len hv
  have HVA : Hid (vs.all vRight = true) := hva
  have HA : Hid (ValRow w w.heap.size ao vs) := ha
  have hlt0 : 0 < w.heap.size := block_lt_of_cell hm
  have HM : Hid (∀ W, Below w.heap.size w W → W.cell? ⟨0, 0, none⟩ = some (.int .i64 m)) := fun W hb => (hb.cell (p := ⟨0, 0, none⟩) hlt0).trans hm
  clear ha hv hva hm
  go_enter Tryz.func50, Tryz.ntmps50
  go_wp2_with fail
  refine (toInners_any w.heap.size ao cap vs _ (Nat.le_refl _) hl HA.out).mono ?_
  rintro e w1 ⟨hb1, h⟩
  rcases h with ⟨_, ao1, cap1, rfl, hrow1⟩ | ⟨hf, rfl⟩
  rotate_left
  · exact absurd HVA.out (by rw [hf]; simp)
  have R1 : Hid (CellRow w1 w1.heap.size ao1 (vs.map innerV)) := hrow1
  have B1 : Hid (Below w.heap.size w w1) := hb1
  have hz1 := hb1.size
  clear hrow1 hb1
  have HS1 : Hid (∀ j (h : j < vs.length), (vs.map innerV)[j]'(by rw [List.length_map]; exact h) = innerV vs[j]) := fun j h => by simp
  have HBd := Lib.fresh_isBuilder 111 5 w1
  have HB0 : Hid (Lib.IsBuilder 111 5 w1.heap.size w1.heap.size [] (w1.alloc (.cells #[.pointer none, .slice none 0 0] 111))) := HBd
  clear HBd
  go_wp2
  go_loopw [17] (fun i wr => ∃ k : Nat, k ≤ vs.length ∧ i = .int .i64 k ∧ Hid (Lib.IsBuilder 111 5 w1.heap.size w1.heap.size (Lib.byteCells (keyL (vs.take k))) wr) ∧ Below w1.heap.size w1 wr) (fun i _ => vs.length - (intOf i).toNat)
  case atStart => exact ⟨0, Nat.zero_le _, rfl, HB0, (Below.refl _ _).alloc (Nat.le_refl _) _⟩
  case round =>
    obtain ⟨k, hk, rfl, HK, hbw⟩ := hrel
    have hz := hbw.size
    have hkl := keyL_le vs k HVA.out hl
    by_cases hlt : k < vs.length
    · have hvr : vRight vs[k] = true := List.all_eq_true.1 HVA.out _ (List.getElem_mem hlt)
      obtain ⟨b, off, rfl, hbB, d0⟩ := (R1.out.kept hbw).at k (by rw [List.length_map]; exact hlt)
      rw [HS1.out k hlt] at d0
      have hrk := right_kind hvr
      have hstep := keyL_take vs k hlt hvr
      have hkl2 := keyL_le vs (k + 1) HVA.out hl
      have htl : (keyTail vs[k]).length ≤ 4836 := by rw [hstep] at hkl2; simp at hkl2; omega
      have HST : Hid (keyL (vs.take (k + 1)) = keyL (vs.take k) ++ [UInt8.ofNat vs[k].kind.toNat] ++ keyTail vs[k]) := hstep
      have hok := HA.out.1 _ (List.getElem_mem hlt)
      clear hstep hkl2
      generalize vs[k] = v at *
      obtain ⟨kk, n, t⟩ := v
      obtain ⟨_, _, hn1, hn2⟩ := hok
      simp only at hn1 hn2 hrk HST
      rcases hrk with rfl | rfl | rfl | rfl
      · have d1 : wr.cell? ⟨b, off + k, none⟩ = some (.iface 129 (.agg #[])) := d0
        have hkm := kindM_null
        have hqm := keyM_null
        have HQ : Hid (∀ W, Below w.heap.size w W → Calls Tryz.prog 95 #[.agg #[]] W fun e w' => e = .returned (.string (mkS (keyTail ⟨0, n, t⟩))) ∧ Below W.heap.size W w') := fun W hb => keyNull_any W
        generalize keyTail ⟨0, n, t⟩ = tl at *
        have hmz : (mkS tl).size = tl.length := mkS_size tl
        clear d0 hvr
        go_wp2_with fail
        refine (kind_null _).mono ?_
        rintro e w2 ⟨rfl, hb2⟩
        have K2 : Hid (Lib.IsBuilder 111 5 w1.heap.size w1.heap.size (Lib.byteCells (keyL (vs.take k))) w2) := builder_below HK.out hb2
        have b2 := hbw.trans (hb2.mono hz)
        have hz2 := b2.size
        clear hb2 HK hbw hz d1 hkm
        go_wp2_with fail
        refine (Tryz.Builder_WriteByte w1.heap.size w1.heap.size _ _ _ K2.out (by rw [byteCells_len]; omega) hz2).mono ?_
        rintro e w3 ⟨rfl, hbd3, hb3⟩
        have K3 : Hid (Lib.IsBuilder 111 5 w1.heap.size w1.heap.size (Lib.byteCells (keyL (vs.take k) ++ [UInt8.ofNat 0])) w3) := by show Lib.IsBuilder ..; rw [← byteCells_snoc]; exact .inr hbd3
        have b3 := b2.trans hb3
        have hz3 := b3.size
        clear hb3 hbd3 K2 b2 hz2
        go_wp2_with fail
        refine (HQ.out _ (B1.out.trans (b3.mono hz1))).mono ?_
        rintro e w4 ⟨rfl, hb4⟩
        have K4 : Hid (Lib.IsBuilder 111 5 w1.heap.size w1.heap.size (Lib.byteCells (keyL (vs.take k) ++ [UInt8.ofNat 0])) w4) := builder_below K3.out hb4
        have b4 := b3.trans (hb4.mono hz3)
        have hz4 := b4.size
        clear hb4 K3 b3 hz3 hqm
        go_wp2_with fail
        refine (Tryz.Builder_WriteString w1.heap.size w1.heap.size _ (mkS tl) _ K4.out (by rw [byteCells_len, List.length_append]; simp; omega) hz4).mono ?_
        rintro e w5 ⟨rfl, hbd5, hb5⟩
        have K5 : Hid (Lib.IsBuilder 111 5 w1.heap.size w1.heap.size (Lib.byteCells (keyL (vs.take (k + 1)))) w5) := by show Lib.IsBuilder ..; rw [HST.out]; rw [byteCells_str] at hbd5; exact .inr hbd5
        have b5 := b4.trans hb5
        clear hb5 hbd5 K4 b4 hz4
        go_wp2
        go_roundw
        case rel => exact ⟨k + 1, by omega, by go_num, K5, b5⟩
        case measure => simp [intOf]; omega
      · have d1 : wr.cell? ⟨b, off + k, none⟩ = some (.iface 131 (.agg #[.int .i64 n])) := d0
        have hkm := kindM_bool (.int .i64 n)
        have hqm := keyM_bool (.int .i64 n)
        have hn : n = 0 ∨ n = 1 := (of_decide_eq_true (show decide ((n = 0 ∨ n = 1) ∧ t.size = 0) = true from hvr)).1
        have HQ : Hid (∀ W, Below w.heap.size w W → Calls Tryz.prog 97 #[.agg #[.int .i64 n]] W fun e w' => e = .returned (.string (mkS (keyTail ⟨1, n, t⟩))) ∧ Below W.heap.size W w') := fun W hb => keyBool_any n hn W
        generalize keyTail ⟨1, n, t⟩ = tl at *
        have hmz : (mkS tl).size = tl.length := mkS_size tl
        clear d0 hvr
        go_wp2_with fail
        refine (kind_bool n _).mono ?_
        rintro e w2 ⟨rfl, hb2⟩
        have K2 : Hid (Lib.IsBuilder 111 5 w1.heap.size w1.heap.size (Lib.byteCells (keyL (vs.take k))) w2) := builder_below HK.out hb2
        have b2 := hbw.trans (hb2.mono hz)
        have hz2 := b2.size
        clear hb2 HK hbw hz d1 hkm
        go_wp2_with fail
        refine (Tryz.Builder_WriteByte w1.heap.size w1.heap.size _ _ _ K2.out (by rw [byteCells_len]; omega) hz2).mono ?_
        rintro e w3 ⟨rfl, hbd3, hb3⟩
        have K3 : Hid (Lib.IsBuilder 111 5 w1.heap.size w1.heap.size (Lib.byteCells (keyL (vs.take k) ++ [UInt8.ofNat 1])) w3) := by show Lib.IsBuilder ..; rw [← byteCells_snoc]; exact .inr hbd3
        have b3 := b2.trans hb3
        have hz3 := b3.size
        clear hb3 hbd3 K2 b2 hz2
        go_wp2_with fail
        refine (HQ.out _ (B1.out.trans (b3.mono hz1))).mono ?_
        rintro e w4 ⟨rfl, hb4⟩
        have K4 : Hid (Lib.IsBuilder 111 5 w1.heap.size w1.heap.size (Lib.byteCells (keyL (vs.take k) ++ [UInt8.ofNat 1])) w4) := builder_below K3.out hb4
        have b4 := b3.trans (hb4.mono hz3)
        have hz4 := b4.size
        clear hb4 K3 b3 hz3 hqm
        go_wp2_with fail
        refine (Tryz.Builder_WriteString w1.heap.size w1.heap.size _ (mkS tl) _ K4.out (by rw [byteCells_len, List.length_append]; simp; omega) hz4).mono ?_
        rintro e w5 ⟨rfl, hbd5, hb5⟩
        have K5 : Hid (Lib.IsBuilder 111 5 w1.heap.size w1.heap.size (Lib.byteCells (keyL (vs.take (k + 1)))) w5) := by show Lib.IsBuilder ..; rw [HST.out]; rw [byteCells_str] at hbd5; exact .inr hbd5
        have b5 := b4.trans hb5
        clear hb5 hbd5 K4 b4 hz4
        go_wp2
        go_roundw
        case rel => exact ⟨k + 1, by omega, by go_num, K5, b5⟩
        case measure => simp [intOf]; omega
      · have d1 : wr.cell? ⟨b, off + k, none⟩ = some (.iface 132 (.agg #[.int .i64 n])) := d0
        have hkm := kindM_int (.int .i64 n)
        have hqm := keyM_int (.int .i64 n)
        have HQ : Hid (∀ W, Below w.heap.size w W → Calls Tryz.prog 99 #[.agg #[.int .i64 n]] W fun e w' => e = .returned (.string (mkS (keyTail ⟨2, n, t⟩))) ∧ Below W.heap.size W w') := fun W hb => keyInt_any n hn1 hn2 W
        generalize keyTail ⟨2, n, t⟩ = tl at *
        have hmz : (mkS tl).size = tl.length := mkS_size tl
        clear d0 hvr
        go_wp2_with fail
        refine (kind_int n _).mono ?_
        rintro e w2 ⟨rfl, hb2⟩
        have K2 : Hid (Lib.IsBuilder 111 5 w1.heap.size w1.heap.size (Lib.byteCells (keyL (vs.take k))) w2) := builder_below HK.out hb2
        have b2 := hbw.trans (hb2.mono hz)
        have hz2 := b2.size
        clear hb2 HK hbw hz d1 hkm
        go_wp2_with fail
        refine (Tryz.Builder_WriteByte w1.heap.size w1.heap.size _ _ _ K2.out (by rw [byteCells_len]; omega) hz2).mono ?_
        rintro e w3 ⟨rfl, hbd3, hb3⟩
        have K3 : Hid (Lib.IsBuilder 111 5 w1.heap.size w1.heap.size (Lib.byteCells (keyL (vs.take k) ++ [UInt8.ofNat 2])) w3) := by show Lib.IsBuilder ..; rw [← byteCells_snoc]; exact .inr hbd3
        have b3 := b2.trans hb3
        have hz3 := b3.size
        clear hb3 hbd3 K2 b2 hz2
        go_wp2_with fail
        refine (HQ.out _ (B1.out.trans (b3.mono hz1))).mono ?_
        rintro e w4 ⟨rfl, hb4⟩
        have K4 : Hid (Lib.IsBuilder 111 5 w1.heap.size w1.heap.size (Lib.byteCells (keyL (vs.take k) ++ [UInt8.ofNat 2])) w4) := builder_below K3.out hb4
        have b4 := b3.trans (hb4.mono hz3)
        have hz4 := b4.size
        clear hb4 K3 b3 hz3 hqm
        go_wp2_with fail
        refine (Tryz.Builder_WriteString w1.heap.size w1.heap.size _ (mkS tl) _ K4.out (by rw [byteCells_len, List.length_append]; simp; omega) hz4).mono ?_
        rintro e w5 ⟨rfl, hbd5, hb5⟩
        have K5 : Hid (Lib.IsBuilder 111 5 w1.heap.size w1.heap.size (Lib.byteCells (keyL (vs.take (k + 1)))) w5) := by show Lib.IsBuilder ..; rw [HST.out]; rw [byteCells_str] at hbd5; exact .inr hbd5
        have b5 := b4.trans hb5
        clear hb5 hbd5 K4 b4 hz4
        go_wp2
        go_roundw
        case rel => exact ⟨k + 1, by omega, by go_num, K5, b5⟩
        case measure => simp [intOf]; omega
      · have d1 : wr.cell? ⟨b, off + k, none⟩ = some (.iface 134 (.agg #[.string t])) := d0
        have hkm := kindM_text (.string t)
        have hqm := keyM_text (.string t)
        have ht : t.size ≤ 200 := (of_decide_eq_true (show decide (n = 0 ∧ t.size ≤ 200) = true from hvr)).2
        have HQ : Hid (∀ W, Below w.heap.size w W → Calls Tryz.prog 101 #[.agg #[.string t]] W fun e w' => e = .returned (.string (mkS (keyTail ⟨3, n, t⟩))) ∧ Below W.heap.size W w') := fun W hb => keyText_any t m ht W (HM.out W hb)
        generalize keyTail ⟨3, n, t⟩ = tl at *
        have hmz : (mkS tl).size = tl.length := mkS_size tl
        clear d0 hvr
        go_wp2_with fail
        refine (kind_text t _).mono ?_
        rintro e w2 ⟨rfl, hb2⟩
        have K2 : Hid (Lib.IsBuilder 111 5 w1.heap.size w1.heap.size (Lib.byteCells (keyL (vs.take k))) w2) := builder_below HK.out hb2
        have b2 := hbw.trans (hb2.mono hz)
        have hz2 := b2.size
        clear hb2 HK hbw hz d1 hkm
        go_wp2_with fail
        refine (Tryz.Builder_WriteByte w1.heap.size w1.heap.size _ _ _ K2.out (by rw [byteCells_len]; omega) hz2).mono ?_
        rintro e w3 ⟨rfl, hbd3, hb3⟩
        have K3 : Hid (Lib.IsBuilder 111 5 w1.heap.size w1.heap.size (Lib.byteCells (keyL (vs.take k) ++ [UInt8.ofNat 3])) w3) := by show Lib.IsBuilder ..; rw [← byteCells_snoc]; exact .inr hbd3
        have b3 := b2.trans hb3
        have hz3 := b3.size
        clear hb3 hbd3 K2 b2 hz2
        go_wp2_with fail
        refine (HQ.out _ (B1.out.trans (b3.mono hz1))).mono ?_
        rintro e w4 ⟨rfl, hb4⟩
        have K4 : Hid (Lib.IsBuilder 111 5 w1.heap.size w1.heap.size (Lib.byteCells (keyL (vs.take k) ++ [UInt8.ofNat 3])) w4) := builder_below K3.out hb4
        have b4 := b3.trans (hb4.mono hz3)
        have hz4 := b4.size
        clear hb4 K3 b3 hz3 hqm
        go_wp2_with fail
        refine (Tryz.Builder_WriteString w1.heap.size w1.heap.size _ (mkS tl) _ K4.out (by rw [byteCells_len, List.length_append]; simp; omega) hz4).mono ?_
        rintro e w5 ⟨rfl, hbd5, hb5⟩
        have K5 : Hid (Lib.IsBuilder 111 5 w1.heap.size w1.heap.size (Lib.byteCells (keyL (vs.take (k + 1)))) w5) := by show Lib.IsBuilder ..; rw [HST.out]; rw [byteCells_str] at hbd5; exact .inr hbd5
        have b5 := b4.trans hb5
        clear hb5 hbd5 K4 b4 hz4
        go_wp2
        go_roundw
        case rel => exact ⟨k + 1, by omega, by go_num, K5, b5⟩
        case measure => simp [intOf]; omega
    · obtain rfl : k = vs.length := by omega
      go_wp2_with fail
      refine (Tryz.Builder_String_any w1.heap.size w1.heap.size (keyL (vs.take vs.length)) _ HK.out hz).mono ?_
      rintro e w2 ⟨rfl, hb2⟩
      rw [List.take_length]
      have b2 := hbw.trans hb2
      clear hb2 HK hbw
      go_wp2
      go_ret
      exact ⟨rfl, B1.out.trans (b2.mono hz1)⟩
end Go.Proofs.YtkhklfnhninkjaaGreat

/-
  KeyBytes of the program, at all values.
-/
namespace Go.Proofs.YtkhklfnhninkjaaGreat
open Go.RowKit

theorem maxLen_some {w : World} (hsh : w.ShapedOpen Tryz.prog) : ∃ m, w.cell? ⟨0, 0, none⟩ = some (.int .i64 m) :=
  cell_of_shapedOpen_int (g := 0) (t := 3) (zero := #[.int .i64 0]) hsh (of_decide_eq_true (by kernel_rfl)) (by kernel_rfl) rfl (by kernel_rfl) (by kernel_rfl) Tryz.underlying3
theorem implKeyBytes_any (ao : Option Addr) (cap : Nat) (vs : List Val) (w : World) (hl : vs.length ≤ maxLen) (ha : ValRow w w.heap.size ao vs) (m : Int) (hm : w.cell? ⟨0, 0, none⟩ = some (.int .i64 m)) :
    Calls Tryz.prog 50 #[.slice ao vs.length cap] w fun e w' => e = .returned (.string (keyOf vs)) ∧ Below w.heap.size w w' := by
  cases hv : vsRight vs with
  | true =>
    have e : keyOf vs = mkS (keyL vs) := if_pos hv
    rw [e]
    exact implKeyBytes_right ao cap vs w hv ha m hm
  | false =>
    have HF : Hid (keyOf vs = ByteArray.empty) := if_neg (by rw [hv]; simp)
    have HA : Hid (ValRow w w.heap.size ao vs) := ha
    clear ha hm
    go_enter Tryz.func50, Tryz.ntmps50
    go_wp2_with fail
    refine (toInners_all w.heap.size ao cap vs _ (Nat.le_refl _) hl HA.out).mono ?_
    rw [hv]
    rintro e w1 ⟨hb1, b1, n1, c1, rfl⟩
    go_wp2
    go_ret
    exact ⟨ret_str (by rw [HF.out]; rfl), hb1⟩
end Go.Proofs.YtkhklfnhninkjaaGreat

/-
  Contract: values copied into a row of their own.
-/
namespace Go.Proofs.YtkhklfnhninkjaaGreat
open Go.RowKit
set_option maxRecDepth 100000

set_option maxHeartbeats 1000000 in
theorem toValueS_own (B : Nat) (ao : Option Addr) (cap : Nat) (vs : List Val) (w : World) (hB : B ≤ w.heap.size) (hl : vs.length ≤ 1048576) (hr : ValRow w B ao vs) :
    Calls Tryz.prog 33 #[.slice ao vs.length cap] w fun e w' => ∃ v, e = .returned v ∧ OwnV w.heap.size v vs w' ∧ Below w.heap.size w w' := by
  obtain ⟨i0, hi, hz0, hz1, hz2⟩ := info_parts Tryz.infoVal
  have HR : Hid (ValRow w B ao vs) := hr
  clear hr
  go_enter Tryz.func33, Tryz.ntmps33
  go_wp2_with (at_make; refine wpList_make_full _ rfl _ _ 46 rfl w.heap.size 72 i0 (.agg #[.int .i64 0, .int .i64 0, .string ⟨#[]⟩]) 3 Tryz.underlying46 hi hz0 hz1 .i64 .i64 _ _ vs.length rfl rfl rfl rfl (by rw [hz2]; omega) (by unfold maxLen; omega) (Nat.le_refl _) ?_; intro w1 hown1 hgrow1)
  obtain ⟨cur0, hg0, hl0⟩ : ∃ cur : List Value, w1.heap[w.heap.size]? = some (.cells cur.toArray 72 (0, 0)) ∧ cur.length = vs.length * 3 := by
    rcases hown1.2 with ⟨h, _⟩ | ⟨g, cap', cur, hv, _, hg, _, _, hs, _⟩
    · simp at h
    · simp at hv
      obtain ⟨rfl, rfl⟩ := hv
      exact ⟨cur.toList, by simpa using hg, by simpa using hs⟩
  have hb1 : Below w.heap.size w w1 := (Below.refl _ _).grown hgrow1 (Nat.le_refl _) (fun j hj => by simp at hj)
  clear hown1 hgrow1
  go_loopw [4] (fun i wr => ∃ (k : Nat) (cur : List Value), k ≤ vs.length ∧ i = .int .i64 k ∧ cur.length = vs.length * 3 ∧ wr.heap[w.heap.size]? = some (.cells cur.toArray 72 (0, 0)) ∧ Hid (cur.take (k * 3) = flatV (vs.take k)) ∧ Below w.heap.size w wr) (fun i _ => vs.length - (intOf i).toNat)
  case atStart => exact ⟨0, cur0, Nat.zero_le _, rfl, hl0, hg0, by show _ = _; simp [flatV], hb1⟩
  case round =>
    obtain ⟨k, cur, hk, rfl, hlen, hg, HC, hb⟩ := hrel
    clear hb1 hg0 hl0
    have hlt0 : w.heap.size < wr.heap.size := (Array.getElem?_eq_some_iff.1 hg).1
    by_cases hlt : k < vs.length
    · obtain ⟨b, off, kk, nn, tt, rfl, hbB, hv, htt, d0, d1, d2⟩ := (HR.out.kept (hb.mono hB)).at k hlt
      obtain ⟨HC2, hlen2⟩ := flatV_step cur vs k hlt hlen HC.out kk nn tt hv
      have HC3 : Hid ((((cur.set (k * 3) (.int .i64 kk)).set (k * 3 + 1) (.int .i64 nn)).set (k * 3 + 2) (.string tt)).take ((k + 1) * 3) = flatV (vs.take (k + 1))) := HC2
      clear hv HC HC2
      go_wp2_with fail
      refine (toValue_any kk nn tt _).mono ?_
      rintro e w2 ⟨rfl, hb2⟩
      have hg2 : w2.heap[w.heap.size]? = some (.cells cur.toArray 72 (0, 0)) := (hb2.block _ hlt0).trans hg
      have hb3 := hb.trans (hb2.mono hb.size)
      obtain ⟨x0, hx0⟩ : ∃ v, cur[k * 3]? = some v := ⟨_, List.getElem?_eq_getElem (by omega)⟩
      obtain ⟨x1, hx1⟩ : ∃ v, cur[k * 3 + 1]? = some v := ⟨_, List.getElem?_eq_getElem (by omega)⟩
      obtain ⟨x2, hx2⟩ : ∃ v, cur[k * 3 + 2]? = some v := ⟨_, List.getElem?_eq_getElem (by omega)⟩
      have e0 : w2.cell? ⟨w.heap.size, k * 3, none⟩ = some x0 := by rw [cell_of_row _ _ _ _ _ _ hg2, List.getElem?_toArray, hx0]
      have e1 : w2.cell? ⟨w.heap.size, k * 3 + 1, none⟩ = some x1 := by rw [cell_of_row _ _ _ _ _ _ hg2, List.getElem?_toArray, hx1]
      have e2 : w2.cell? ⟨w.heap.size, k * 3 + 2, none⟩ = some x2 := by rw [cell_of_row _ _ _ _ _ _ hg2, List.getElem?_toArray, hx2]
      have ef : ∀ j, w2.frozen? ⟨w.heap.size, j, none⟩ = false := fun j => frozen_of_row _ _ _ _ _ hg2
      have HG : Hid (w2.heap[w.heap.size]? = some (.cells cur.toArray 72 (0, 0))) := hg2
      clear hx0 hx1 hx2 hg2 hg d0 d1 d2 hb hb2
      go_wp2
      go_roundw
      case rel => exact ⟨k + 1, _, by omega, by go_num, hlen2, set3_heap HG.out, HC3, ((hb3.setCell (Nat.le_refl _) _).setCell (Nat.le_refl _) _).setCell (Nat.le_refl _) _⟩
      case measure => simp [intOf]; omega
    · obtain rfl : k = vs.length := by omega
      have HF : Hid (OwnV w.heap.size (.slice (some ⟨w.heap.size, 0, none⟩) vs.length vs.length) vs wr) := ⟨by rw [flatV_len], .inr ⟨w.heap.size, vs.length, cur.toArray, rfl, Nat.le_refl _, hg, Nat.le_refl _, by unfold maxLen; omega, by simpa using hlen, by have := HC.out; rw [List.take_length] at this; simpa using this⟩⟩
      go_wp2
      go_ret
      exact ⟨_, rfl, HF.out, hb⟩
end Go.Proofs.YtkhklfnhninkjaaGreat

/-
  Contracts: rows of values copied.
-/
namespace Go.Proofs.YtkhklfnhninkjaaGreat
open Go.RowKit
set_option maxRecDepth 100000

theorem Tryz.infoVals : (Tryz.prog.info? 46).map (fun i => (i.zero, i.size, i.bytes)) = some (some (.slice none 0 0), 1, 24) := by kernel_rfl
theorem vEl_own {base : Nat} {v : Value} {vs : List Val} {w : World} (h : OwnV base v vs w) (ho : ∀ x ∈ vs, x.ok) (ht : ∀ x ∈ vs, x.text.size ≤ maxLen) : ∃ vo c, v = .slice vo vs.length c ∧ VEl w base w.heap.size vs [.slice vo vs.length c] := by
  obtain ⟨ao, cap, hv, hr⟩ := valRow_own h ho ht
  refine ⟨ao, cap, hv, ao, cap, rfl, ?_, hr, ?_⟩
  · rcases h.2 with ⟨h1, h0⟩ | ⟨g, cp, cur, h1, hB, _, hn, hm, _⟩
    · rw [h1] at hv
      injection hv with e1 e2 e3
      omega
    · rw [h1] at hv
      injection hv with e1 e2 e3
      omega
  · rcases h.2 with ⟨_, h0⟩ | ⟨g, cp, cur, h1, hB, _⟩
    · exact .inl h0
    · rw [h1] at hv
      injection hv with e1 e2 e3
      exact .inr ⟨g, 0, e1.symm, hB⟩
set_option maxHeartbeats 2000000 in
theorem toValueSS_any (A B : Nat) (ao : Option Addr) (cap : Nat) (l : List (List Val)) (w : World) (hB : B ≤ w.heap.size) (hl : l.length ≤ 1048576) (hx : ∀ i, i < l.length → (l.getD i []).length ≤ 1048576) (hr : RwRow w A B ao l) :
    Calls Tryz.prog 17 #[.slice ao l.length cap] w fun e w' => ∃ bo cp, e = .returned (.slice bo l.length cp) ∧ RwRow w' w.heap.size w'.heap.size bo l ∧ Below w.heap.size w w' := by
  obtain ⟨i0, hi, hz0, hz1, hz2⟩ := info_parts Tryz.infoVals
  have HR : Hid (RwRow w A B ao l) := hr
  have HX := hide hx
  clear hr hx
  go_enter Tryz.func17, Tryz.ntmps17
  go_wp2_with (at_make; refine wpList_make_full _ rfl _ _ 36 rfl w.heap.size 46 i0 (.slice none 0 0) 1 Tryz.underlying36 hi hz0 hz1 .i64 .i64 _ _ l.length rfl rfl rfl rfl (by rw [hz2]; omega) (by unfold maxLen; omega) (Nat.le_refl _) ?_; intro w1 hown1 hgrow1)
  obtain ⟨cur0, hg0, hl0⟩ : ∃ cur : List Value, w1.heap[w.heap.size]? = some (.cells cur.toArray 46 (0, 0)) ∧ cur.length = l.length := by
    rcases hown1.2 with ⟨h, _⟩ | ⟨g, cap', cur, hv, _, hg, _, _, hs, _⟩
    · simp at h
    · simp at hv
      obtain ⟨rfl, rfl⟩ := hv
      exact ⟨cur.toList, by simpa using hg, by simpa using hs⟩
  have hb1 : Below w.heap.size w w1 := (Below.refl _ _).grown hgrow1 (Nat.le_refl _) (fun j hj => by simp at hj)
  clear hown1 hgrow1
  go_loopw [4] (fun i wr => ∃ (k : Nat) (cur : List Value), k ≤ l.length ∧ i = .int .i64 k ∧ cur.length = l.length ∧ wr.heap[w.heap.size]? = some (.cells cur.toArray 46 (0, 0)) ∧ Hid (ECur VEl [] 1 wr w.heap.size cur l k) ∧ Below w.heap.size w wr) (fun i _ => l.length - (intOf i).toNat)
  case atStart => exact ⟨0, cur0, Nat.zero_le _, rfl, hl0, hg0, ECur.zero _ _ _ _, hb1⟩
  case round =>
    obtain ⟨k, cur, hk, rfl, hlen, hg, HC, hb⟩ := hrel
    clear hb1 hg0 hl0
    have hlt0 : w.heap.size < wr.heap.size := (Array.getElem?_eq_some_iff.1 hg).1
    by_cases hlt : k < l.length
    · obtain ⟨b, off, vs, vo, c, rfl, hbB, hv, hc, hva, d0⟩ := (HR.out.kept (hb.mono hB)).at k hlt
      have hxl := HX.out k hlt
      rw [hv] at hxl
      have HT : Hid (Calls Tryz.prog 33 #[.slice vo vs.length c] wr fun e w' => ∃ b4 q4, e = .returned (.slice b4 vs.length q4) ∧ VEl w' wr.heap.size w'.heap.size vs [.slice b4 vs.length q4] ∧ Below wr.heap.size wr w') := by
        refine (toValueS_own B vo c vs wr (Nat.le_trans hB hb.size) hxl hva.1).mono ?_
        rintro e w' ⟨v, rfl, ov, kk⟩
        obtain ⟨b4, q4, rfl, hvr⟩ := vEl_own ov hva.1.1 hva.1.2.1
        exact ⟨b4, q4, rfl, hvr, kk⟩
      have HV := hide hv
      clear hv hva hc
      generalize vs.length = vn at *
      go_wp2_with fail
      refine HT.out.mono ?_
      rintro e w2 ⟨b4, q4, rfl, hel, hb2⟩
      have hg2 : w2.heap[w.heap.size]? = some (.cells cur.toArray 46 (0, 0)) := (hb2.block _ hlt0).trans hg
      have hb3 := hb.trans (hb2.mono hb.size)
      have HC2 := hide (ECur.step vElem HC.out hb2 (by omega) (by rw [HV.out]; exact vElem.mono hel (by omega) (Nat.le_refl _)))
      have HC3 : Hid (ECur VEl [] 1 (w2.setCell ⟨w.heap.size, k, none⟩ (.slice b4 vn q4)) w.heap.size (cur.set k (.slice b4 vn q4)) l (k + 1)) := by have := HC2.out; rw [Nat.mul_one] at this; exact this
      obtain ⟨x0, hx0⟩ : ∃ v, cur[k]? = some v := ⟨_, List.getElem?_eq_getElem (by omega)⟩
      have e0 : w2.cell? ⟨w.heap.size, k, none⟩ = some x0 := by rw [cell_of_row _ _ _ _ _ _ hg2, List.getElem?_toArray, hx0]
      have ef : ∀ j, w2.frozen? ⟨w.heap.size, j, none⟩ = false := fun j => frozen_of_row _ _ _ _ _ hg2
      have HG : Hid (w2.heap[w.heap.size]? = some (.cells cur.toArray 46 (0, 0))) := hg2
      clear hx0 d0 hg2 hg hb hb2 hel HC HC2 HT HV
      go_wp2
      go_roundw
      case rel => exact ⟨k + 1, _, by omega, by go_num, by simpa using hlen, setL_heap HG.out, HC3, hb3.setCell (Nat.le_refl _) _⟩
      case measure => simp [intOf]; omega
    · obtain rfl : k = l.length := by omega
      have HF : Hid (RwRow wr w.heap.size wr.heap.size (some ⟨w.heap.size, 0, none⟩) l) := eRow_of vElem hg HC.out
      go_wp2
      go_ret
      exact ⟨_, _, rfl, HF.out, hb⟩
end Go.Proofs.YtkhklfnhninkjaaGreat
