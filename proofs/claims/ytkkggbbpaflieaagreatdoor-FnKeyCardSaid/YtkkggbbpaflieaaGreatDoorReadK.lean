/-
  Contracts: a value is read by the program.
-/
import Derived.Test.YtkkggbbpaflieaaGreatDoorInnerV
import Derived.Test.YtkkggbbpaflieaaGreatDoorKeyRep
import Derived.Test.YtkkggbbpaflieaaGreatDoorOwnBytes
import Derived.Test.YtkkggbbpaflieaaGreatDoorFaultC
import Derived.Lib.BufferWrite
import Derived.Laws.CopyOwn
namespace Go.Proofs.YtkkggbbpaflieaaGreatDoor
open Go.RowKit

theorem readBool_none (s : ByteArray) (h : s.size = 0) (w : World) :
    Calls Tryz.prog 43 #[.string s] w fun e w' => e = .returned (.tuple #[.nilIface, .int .i64 0]) ∧ w' = w := by
  have hn : s.toList.isEmpty = true := by rw [tl_empty, h]; rfl
  go_enter Tryz.func43, Tryz.ntmps43
  go_wp2
  go_ret2
  exact ⟨rfl, rfl⟩
theorem readBool_some (s : ByteArray) (h : 0 < s.size) (w : World) :
    Calls Tryz.prog 43 #[.string s] w fun e w' => e = .returned (.tuple #[.iface 93 (.agg #[.int .i64 (s[0]'h).toNat]), .int .i64 1]) ∧ w' = w := by
  have hn : s.toList.isEmpty = false := by rw [tl_empty]; exact decide_eq_false (by omega)
  have hb : (s[0]'h).toNat < 256 := (s[0]'h).toNat_lt
  go_enter Tryz.func43, Tryz.ntmps43
  go_wp2
  go_ret2
  exact ⟨rfl, rfl⟩
/-- 'copy(dst, s)', s at least as long as dst: dst is filled with its first bytes. -/
theorem run_copy_fill {P : Program} (w : World) (dT sT ty elem : TypeId) (g dLen dCap : Nat) (s : ByteArray) (cur : Array Value) (t : TypeId)
    (hu : P.underlying dT = some (.slice elem)) (hs : (P.info? elem).map (·.size) = some 1) (hg : w.heap[g]? = some (.cells cur t (0, 0))) (hle : dLen ≤ s.size) (hfit : cur.size = dLen) :
    (Builtin.copy_ #[dT, sT] ty #[.slice (some ⟨g, 0, none⟩) dLen dCap, .string s]).run P w = .ok (goInt dLen) (w.setRow g (Lib.byteCells (s.data.toList.take dLen)).toArray) := by
  have hlen : (Lib.byteCells (s.data.toList.take dLen)).length = dLen := by
    rw [Lib.byteCells, List.length_map, List.length_take, ← ba_size]; omega
  have hst := run_storeCells_at P g 0 t (Lib.byteCells (s.data.toList.take dLen)) 0 cur w hg (by rw [hlen]; omega) (Lib.byteCells_one _)
  have hmin : Nat.min s.size dLen = dLen := Nat.min_eq_right hle
  rw [hlen] at hst
  simp only [Nat.add_zero, List.take_zero, List.nil_append, Nat.zero_add] at hst
  have hd : List.drop dLen cur.toList = [] := List.drop_eq_nil_of_le (by simp [hfit])
  rw [hd, List.append_nil] at hst
  cases hq : P.info? elem with
  | none => simp [hq] at hs
  | some i =>
    simp [Builtin.copy_, run_underlying hu, Builtin.lenOf, Builtin.firstCells, sizeOf, typeInfo, hq, hmin]
    have hst' : Sem.run P (storeCells ⟨g, 0, none⟩ (List.map (fun b : UInt8 => Value.int IntKind.u8 (b.toNat : Int)) (List.take dLen s.data.toList))) w = _ := hst
    rw [← List.map_take, hst']
    simp [Result.andThen]
theorem idx8_0 (x0 x1 x2 x3 x4 x5 x6 x7 : Int) (w : World) : (Instr.index 104 (.agg #[.int .u8 x0, .int .u8 x1, .int .u8 x2, .int .u8 x3, .int .u8 x4, .int .u8 x5, .int .u8 x6, .int .u8 x7]) (.int .i64 0)).run Tryz.prog w = .ok (.int .u8 x0) w := by kernel_rfl
theorem idx8_1 (x0 x1 x2 x3 x4 x5 x6 x7 : Int) (w : World) : (Instr.index 104 (.agg #[.int .u8 x0, .int .u8 x1, .int .u8 x2, .int .u8 x3, .int .u8 x4, .int .u8 x5, .int .u8 x6, .int .u8 x7]) (.int .i64 1)).run Tryz.prog w = .ok (.int .u8 x1) w := by kernel_rfl
theorem idx8_2 (x0 x1 x2 x3 x4 x5 x6 x7 : Int) (w : World) : (Instr.index 104 (.agg #[.int .u8 x0, .int .u8 x1, .int .u8 x2, .int .u8 x3, .int .u8 x4, .int .u8 x5, .int .u8 x6, .int .u8 x7]) (.int .i64 2)).run Tryz.prog w = .ok (.int .u8 x2) w := by kernel_rfl
theorem idx8_3 (x0 x1 x2 x3 x4 x5 x6 x7 : Int) (w : World) : (Instr.index 104 (.agg #[.int .u8 x0, .int .u8 x1, .int .u8 x2, .int .u8 x3, .int .u8 x4, .int .u8 x5, .int .u8 x6, .int .u8 x7]) (.int .i64 3)).run Tryz.prog w = .ok (.int .u8 x3) w := by kernel_rfl
theorem idx8_4 (x0 x1 x2 x3 x4 x5 x6 x7 : Int) (w : World) : (Instr.index 104 (.agg #[.int .u8 x0, .int .u8 x1, .int .u8 x2, .int .u8 x3, .int .u8 x4, .int .u8 x5, .int .u8 x6, .int .u8 x7]) (.int .i64 4)).run Tryz.prog w = .ok (.int .u8 x4) w := by kernel_rfl
theorem idx8_5 (x0 x1 x2 x3 x4 x5 x6 x7 : Int) (w : World) : (Instr.index 104 (.agg #[.int .u8 x0, .int .u8 x1, .int .u8 x2, .int .u8 x3, .int .u8 x4, .int .u8 x5, .int .u8 x6, .int .u8 x7]) (.int .i64 5)).run Tryz.prog w = .ok (.int .u8 x5) w := by kernel_rfl
theorem idx8_6 (x0 x1 x2 x3 x4 x5 x6 x7 : Int) (w : World) : (Instr.index 104 (.agg #[.int .u8 x0, .int .u8 x1, .int .u8 x2, .int .u8 x3, .int .u8 x4, .int .u8 x5, .int .u8 x6, .int .u8 x7]) (.int .i64 6)).run Tryz.prog w = .ok (.int .u8 x6) w := by kernel_rfl
theorem idx8_7 (x0 x1 x2 x3 x4 x5 x6 x7 : Int) (w : World) : (Instr.index 104 (.agg #[.int .u8 x0, .int .u8 x1, .int .u8 x2, .int .u8 x3, .int .u8 x4, .int .u8 x5, .int .u8 x6, .int .u8 x7]) (.int .i64 7)).run Tryz.prog w = .ok (.int .u8 x7) w := by kernel_rfl
theorem or_byte (U b : Nat) (hU : U < 72057594037927936) (hb : b < 256) : bits .or .u64 ((U : Int) * 256) (b : Int) = ((U * 256 + b : Nat) : Int) := by
  have h := u64_or_nat (U * 256) b (by omega) (by omega)
  have e : ((U * 256 : Nat) : Int) = (U : Int) * 256 := by omega
  rw [e] at h
  rw [h]
  have := Nat.two_pow_add_eq_or_of_lt (i := 8) (b := b) (by omega) U
  have e2 : U * 256 ||| b = U * 256 + b := by rw [Nat.mul_comm]; exact this.symm
  rw [e2]
set_option maxRecDepth 100000 in
theorem readInt_short (s : ByteArray) (h : s.size < 8) (w : World) :
    Calls Tryz.prog 44 #[.string s] w fun e w' => e = .returned (.tuple #[.nilIface, .int .i64 0]) ∧ Below w.heap.size w w' := by
  have hs : (Tryz.prog.info? 5).map (·.size) = some 1 := by kernel_rfl
  have hcp : ∀ (ty : TypeId) (W : World) (t : TypeId), ∃ w1, (Builtin.copy_ #[22, 9] ty #[.slice (some ⟨W.heap.size, 0, none⟩) 8 8, .string s]).run Tryz.prog (W.alloc (.cells #[.int .u8 0, .int .u8 0, .int .u8 0, .int .u8 0, .int .u8 0, .int .u8 0, .int .u8 0, .int .u8 0] t)) = .ok (goInt s.size) w1 ∧ Below W.heap.size W w1 := fun ty W t => by
    by_cases h0 : s.size = 0
    · refine ⟨W.alloc (.cells #[.int .u8 0, .int .u8 0, .int .u8 0, .int .u8 0, .int .u8 0, .int .u8 0, .int .u8 0, .int .u8 0] t), ?_, (Below.refl _ _).alloc (Nat.le_refl _) _⟩
      rw [Lib.run_copy_empty_string _ 22 9 ty 5 _ _ _ s Tryz.underlying22 (by rw [hs]; rfl) h0, h0]
      rfl
    · exact ⟨_, Lib.run_copy_row_string _ 22 9 ty 5 W.heap.size 0 8 8 s _ _ Tryz.underlying22 hs (heap_alloc_new W _) (by omega) (by simp; omega), below_setRow ((Below.refl _ _).alloc (Nat.le_refl _) _) (Nat.le_refl _) _⟩
  obtain ⟨w1, hc1, hb1⟩ := hcp 3 w 104
  go_enter Tryz.func44, Tryz.ntmps44
  go_wp2
  go_ret2
  exact ⟨rfl, hb1⟩
/-- The number that eight bytes tell. -/
theorem beVal_take (s : ByteArray) (j : Nat) (h : j < s.size) : beVal (s.data.toList.take (j + 1)) = beVal (s.data.toList.take j) * 256 + s[j].toNat := by
  rw [take_snoc s j h, beVal_snoc]
theorem beVal_lt8 (s : ByteArray) (j : Nat) : beVal (s.data.toList.take j) < 256 ^ j := by
  have h1 := beVal_lt (s.data.toList.take j)
  have h2 : (s.data.toList.take j).length ≤ j := List.length_take_le _ _
  exact Nat.lt_of_lt_of_le h1 (Nat.pow_le_pow_right (by omega) h2)
set_option maxRecDepth 100000 in
set_option maxHeartbeats 4000000 in
theorem readInt_full (s : ByteArray) (h : 8 ≤ s.size) (w : World) :
    Calls Tryz.prog 44 #[.string s] w fun e w' => e = .returned (.tuple #[.iface 94 (.agg #[.int .i64 ((beVal (s.data.toList.take 8) : Int) - 9223372036854775808)]), .int .i64 8]) ∧ Below w.heap.size w w' := by
  have hs : (Tryz.prog.info? 5).map (·.size) = some 1 := by kernel_rfl
  have hcp := fun ty => run_copy_fill (w.alloc (.cells #[.int .u8 0, .int .u8 0, .int .u8 0, .int .u8 0, .int .u8 0, .int .u8 0, .int .u8 0, .int .u8 0] 104)) 22 9 ty 5 w.heap.size 8 8 s _ _ Tryz.underlying22 hs (heap_alloc_new w _) h rfl
  obtain ⟨w1, hcp1, hg1, hb1⟩ : ∃ w1, (∀ ty, (Builtin.copy_ #[22, 9] ty #[.slice (some ⟨w.heap.size, 0, none⟩) 8 8, .string s]).run Tryz.prog (w.alloc (.cells #[.int .u8 0, .int .u8 0, .int .u8 0, .int .u8 0, .int .u8 0, .int .u8 0, .int .u8 0, .int .u8 0] 104)) = .ok (goInt 8) w1) ∧ w1.heap[w.heap.size]? = some (.cells (Lib.byteCells (s.data.toList.take 8)).toArray 104 (0, 0)) ∧ Below w.heap.size w w1 :=
    ⟨_, hcp, setRow_heap _ _ _ _ _ _ (heap_alloc_new w _), below_setRow ((Below.refl _ _).alloc (Nat.le_refl _) _) (Nat.le_refl _) _⟩
  have hcell : ∀ i (hi : i < 8), w1.cell? ⟨w.heap.size, i, none⟩ = some (.int .u8 (s[i]'(by omega)).toNat) := fun i hi => by
    rw [cell_of_row _ _ _ _ _ _ hg1, List.getElem?_toArray, Lib.byteCells, List.getElem?_map, List.getElem?_take_of_lt hi, List.getElem?_eq_getElem (by rw [← ba_size]; omega)]
    rfl
  have c0 := hcell 0 (by omega)
  have v0 := beVal_take s 0 (by omega)
  have t0 : (s[0]'(by omega)).toNat < 256 := (s[0]'(by omega)).toNat_lt
  have c1 := hcell 1 (by omega)
  have v1 := beVal_take s 1 (by omega)
  have t1 : (s[1]'(by omega)).toNat < 256 := (s[1]'(by omega)).toNat_lt
  have c2 := hcell 2 (by omega)
  have v2 := beVal_take s 2 (by omega)
  have t2 : (s[2]'(by omega)).toNat < 256 := (s[2]'(by omega)).toNat_lt
  have c3 := hcell 3 (by omega)
  have v3 := beVal_take s 3 (by omega)
  have t3 : (s[3]'(by omega)).toNat < 256 := (s[3]'(by omega)).toNat_lt
  have c4 := hcell 4 (by omega)
  have v4 := beVal_take s 4 (by omega)
  have t4 : (s[4]'(by omega)).toNat < 256 := (s[4]'(by omega)).toNat_lt
  have c5 := hcell 5 (by omega)
  have v5 := beVal_take s 5 (by omega)
  have t5 : (s[5]'(by omega)).toNat < 256 := (s[5]'(by omega)).toNat_lt
  have c6 := hcell 6 (by omega)
  have v6 := beVal_take s 6 (by omega)
  have t6 : (s[6]'(by omega)).toNat < 256 := (s[6]'(by omega)).toNat_lt
  have c7 := hcell 7 (by omega)
  have v7 := beVal_take s 7 (by omega)
  have t7 : (s[7]'(by omega)).toNat < 256 := (s[7]'(by omega)).toNat_lt
  generalize (s[0]'(by omega)).toNat = x0 at c0 v0 t0
  generalize (s[1]'(by omega)).toNat = x1 at c1 v1 t1
  generalize (s[2]'(by omega)).toNat = x2 at c2 v2 t2
  generalize (s[3]'(by omega)).toNat = x3 at c3 v3 t3
  generalize (s[4]'(by omega)).toNat = x4 at c4 v4 t4
  generalize (s[5]'(by omega)).toNat = x5 at c5 v5 t5
  generalize (s[6]'(by omega)).toNat = x6 at c6 v6 t6
  generalize (s[7]'(by omega)).toNat = x7 at c7 v7 t7
  clear hcp hcell hg1
  have HV : Hid (beVal (s.data.toList.take 1) = beVal (s.data.toList.take 0) * 256 + x0 ∧ beVal (s.data.toList.take 2) = beVal (s.data.toList.take 1) * 256 + x1 ∧ beVal (s.data.toList.take 3) = beVal (s.data.toList.take 2) * 256 + x2 ∧ beVal (s.data.toList.take 4) = beVal (s.data.toList.take 3) * 256 + x3 ∧ beVal (s.data.toList.take 5) = beVal (s.data.toList.take 4) * 256 + x4 ∧ beVal (s.data.toList.take 6) = beVal (s.data.toList.take 5) * 256 + x5 ∧ beVal (s.data.toList.take 7) = beVal (s.data.toList.take 6) * 256 + x6 ∧ beVal (s.data.toList.take 8) = beVal (s.data.toList.take 7) * 256 + x7) := ⟨v0, v1, v2, v3, v4, v5, v6, v7⟩
  clear v0 v1 v2 v3 v4 v5 v6 v7
  have i0 := idx8_0
  have i1 := idx8_1
  have i2 := idx8_2
  have i3 := idx8_3
  have i4 := idx8_4
  have i5 := idx8_5
  have i6 := idx8_6
  have i7 := idx8_7
  have HL : Hid (∀ j, beVal (s.data.toList.take j) < 256 ^ j) := beVal_lt8 s
  go_enter Tryz.func44, Tryz.ntmps44
  go_wp2
  go_loop [5, 13] (fun u i => ∃ (j U : Nat), j ≤ 8 ∧ i = .int .i64 j ∧ u = .int .u64 U ∧ Hid (U = beVal (s.data.toList.take j))) (fun _ i => 8 - (intOf i).toNat)
  case atStart => exact ⟨0, 0, by omega, rfl, rfl, rfl⟩
  case round =>
    obtain ⟨j, U, hj, rfl, rfl, HU⟩ := hrel
    by_cases hj8 : j < 8
    · have hUl := HL.out j
      rw [← HU.out] at hUl
      match j, hj8 with
      | 0, _ =>
        have hU56 : U < 72057594037927936 := Nat.lt_of_lt_of_le hUl (by decide)
        have hor := or_byte U x0 hU56 t0
        have HU2 : Hid (U * 256 + x0 = beVal (s.data.toList.take 1)) := by show _ = _; rw [HV.out.1, HU.out]
        clear hUl HU
        go_wp2
        go_round
        case rel => exact ⟨1, U * 256 + x0, by omega, rfl, by go_num, HU2⟩
        case measure => simp [intOf]
      | 1, _ =>
        have hU56 : U < 72057594037927936 := Nat.lt_of_lt_of_le hUl (by decide)
        have hor := or_byte U x1 hU56 t1
        have HU2 : Hid (U * 256 + x1 = beVal (s.data.toList.take 2)) := by show _ = _; rw [HV.out.2.1, HU.out]
        clear hUl HU
        go_wp2
        go_round
        case rel => exact ⟨2, U * 256 + x1, by omega, rfl, by go_num, HU2⟩
        case measure => simp [intOf]
      | 2, _ =>
        have hU56 : U < 72057594037927936 := Nat.lt_of_lt_of_le hUl (by decide)
        have hor := or_byte U x2 hU56 t2
        have HU2 : Hid (U * 256 + x2 = beVal (s.data.toList.take 3)) := by show _ = _; rw [HV.out.2.2.1, HU.out]
        clear hUl HU
        go_wp2
        go_round
        case rel => exact ⟨3, U * 256 + x2, by omega, rfl, by go_num, HU2⟩
        case measure => simp [intOf]
      | 3, _ =>
        have hU56 : U < 72057594037927936 := Nat.lt_of_lt_of_le hUl (by decide)
        have hor := or_byte U x3 hU56 t3
        have HU2 : Hid (U * 256 + x3 = beVal (s.data.toList.take 4)) := by show _ = _; rw [HV.out.2.2.2.1, HU.out]
        clear hUl HU
        go_wp2
        go_round
        case rel => exact ⟨4, U * 256 + x3, by omega, rfl, by go_num, HU2⟩
        case measure => simp [intOf]
      | 4, _ =>
        have hU56 : U < 72057594037927936 := Nat.lt_of_lt_of_le hUl (by decide)
        have hor := or_byte U x4 hU56 t4
        have HU2 : Hid (U * 256 + x4 = beVal (s.data.toList.take 5)) := by show _ = _; rw [HV.out.2.2.2.2.1, HU.out]
        clear hUl HU
        go_wp2
        go_round
        case rel => exact ⟨5, U * 256 + x4, by omega, rfl, by go_num, HU2⟩
        case measure => simp [intOf]
      | 5, _ =>
        have hU56 : U < 72057594037927936 := Nat.lt_of_lt_of_le hUl (by decide)
        have hor := or_byte U x5 hU56 t5
        have HU2 : Hid (U * 256 + x5 = beVal (s.data.toList.take 6)) := by show _ = _; rw [HV.out.2.2.2.2.2.1, HU.out]
        clear hUl HU
        go_wp2
        go_round
        case rel => exact ⟨6, U * 256 + x5, by omega, rfl, by go_num, HU2⟩
        case measure => simp [intOf]
      | 6, _ =>
        have hU56 : U < 72057594037927936 := Nat.lt_of_lt_of_le hUl (by decide)
        have hor := or_byte U x6 hU56 t6
        have HU2 : Hid (U * 256 + x6 = beVal (s.data.toList.take 7)) := by show _ = _; rw [HV.out.2.2.2.2.2.2.1, HU.out]
        clear hUl HU
        go_wp2
        go_round
        case rel => exact ⟨7, U * 256 + x6, by omega, rfl, by go_num, HU2⟩
        case measure => simp [intOf]
      | 7, _ =>
        have hU56 : U < 72057594037927936 := Nat.lt_of_lt_of_le hUl (by decide)
        have hor := or_byte U x7 hU56 t7
        have HU2 : Hid (U * 256 + x7 = beVal (s.data.toList.take 8)) := by show _ = _; rw [HV.out.2.2.2.2.2.2.2, HU.out]
        clear hUl HU
        go_wp2
        go_round
        case rel => exact ⟨8, U * 256 + x7, by omega, rfl, by go_num, HU2⟩
        case measure => simp [intOf]
    · obtain rfl : j = 8 := by omega
      have hUl : U < 18446744073709551616 := by have := HL.out 8; rw [← HU.out] at this; exact this
      have htb := turnBack U hUl
      have HU2 : Hid ((U : Int) - 9223372036854775808 = (beVal (s.data.toList.take 8) : Int) - 9223372036854775808) := by show _ = _; rw [HU.out]
      clear HU
      go_wp2
      go_ret2
      exact ⟨Eq.trans (b := Ending.returned (.tuple #[.iface 94 (.agg #[.int .i64 ((U : Int) - 9223372036854775808)]), .int .i64 8])) rfl (by rw [HU2.out]), hb1⟩
/-- Where a text goes on behind what was taken of it. -/
theorem unesc_drop_more (s : ByteArray) (j : Nat) (h : j < s.size) (hb : s[j] ≠ 0) : unesc (s.data.toList.drop j) = (unesc (s.data.toList.drop (j + 1))).map fun p => (s[j] :: p.1, p.2) := by
  have e : s.data.toList.drop j = s[j] :: s.data.toList.drop (j + 1) := by rw [List.drop_eq_getElem_cons (by rw [← ba_size]; exact h)]; rfl
  rw [e, unesc_more _ hb]
theorem drop_two (s : ByteArray) (j : Nat) (h : j + 1 < s.size) : s.data.toList.drop j = s[j] :: s[j + 1] :: s.data.toList.drop (j + 2) := by
  rw [List.drop_eq_getElem_cons (by rw [← ba_size]; omega), List.drop_eq_getElem_cons (by rw [← ba_size]; omega)]; rfl
theorem unesc_last (s : ByteArray) (j : Nat) (h : j + 1 = s.size) : unesc (s.data.toList.drop j) = none := by
  rw [List.drop_eq_getElem_cons (by rw [← ba_size]; omega), List.drop_eq_nil_of_le (by rw [← ba_size]; omega)]; rfl
theorem unesc_end (s : ByteArray) (j : Nat) (h : s.size ≤ j) : unesc (s.data.toList.drop j) = none := by
  rw [List.drop_eq_nil_of_le (by rw [← ba_size]; omega)]; rfl
/-- What stands behind P bytes that were read plain. -/
def unescAt (s : ByteArray) (l : List UInt8) (j : Nat) : Option (List UInt8 × List UInt8) := (unesc (s.data.toList.drop j)).map fun p => (l ++ p.1, p.2)
/-- What readMarked answers. -/
def markedV (s : ByteArray) (o : Option (List UInt8 × List UInt8)) : Value :=
  match o with
  | none => .tuple #[.nilIface, .int .i64 0]
  | some (p, r) => .tuple #[.iface 96 (.agg #[.string (mkS p)]), .int .i64 ((s.size : Int) - r.length)]
set_option maxRecDepth 100000 in
set_option maxHeartbeats 4000000 in
theorem readMarked_any (s : ByteArray) (hsz : s.size ≤ 20000) (w : World) :
    Calls Tryz.prog 45 #[.string s] w fun e w' => e = .returned (markedV s (unesc s.data.toList)) ∧ Below w.heap.size w w' := by
  obtain ⟨i0, hi, hz0, hz1, hz2⟩ := info_parts Tryz.infoU8
  go_enter Tryz.func45, Tryz.ntmps45
  go_wp2
  go_loopw [4, 5] (fun v i wr => ∃ (j : Nat) (l : List UInt8), j ≤ s.size ∧ l.length ≤ j ∧ i = .int .i64 j ∧ Hid (OwnB w.heap.size v l wr) ∧ Hid (unesc s.data.toList = unescAt s l j) ∧ Below w.heap.size w wr) (fun _ i _ => s.size - (intOf i).toNat)
  case atStart => exact ⟨0, [], by omega, by simp, rfl, ⟨rfl, .inl ⟨rfl, rfl⟩⟩, by show _ = _; unfold unescAt; rw [List.drop_zero]; cases unesc s.data.toList <;> rfl, Below.refl _ _⟩
  case round =>
    obtain ⟨j, l, hj, hlj, rfl, HO, HU, hb⟩ := hrel
    have hz := hb.size
    have hown := HO.out
    unfold OwnB at hown
    by_cases hlt : j < s.size
    · by_cases hb0 : s[j].toNat = 0
      · have hs0 : s[j] = 0 := UInt8.toNat_inj.1 hb0
        by_cases hend : j + 1 = s.size
        · have HF : Hid (markedV s (unesc s.data.toList) = .tuple #[.nilIface, .int .i64 0]) := by show _ = _; rw [HU.out]; unfold unescAt; rw [unesc_last s j hend]; rfl
          clear HU hs0 hown HO
          go_wp2
          go_ret2
          exact ⟨Eq.trans (b := Ending.returned (.tuple #[.nilIface, .int .i64 0])) rfl (by rw [HF.out]), hb⟩
        · have hlt2 : j + 1 < s.size := by omega
          have HD : Hid (unesc (s.data.toList.drop j) = if s[j + 1] = 0 then some ([], s.data.toList.drop (j + 2)) else if s[j + 1] = 255 then (unesc (s.data.toList.drop (j + 2))).map fun p => (0 :: p.1, p.2) else none) := by
            show _ = _
            rw [drop_two s j hlt2, hs0, unesc_zero]
          by_cases hc0 : s[j + 1].toNat = 0
          · have hs1 : s[j + 1] = 0 := UInt8.toNat_inj.1 hc0
            have hcv := HO.out.conv
            have HF : Hid (markedV s (unesc s.data.toList) = .tuple #[.iface 96 (.agg #[.string (mkS l)]), .int .i64 ((j : Int) + 2)]) := by
              show _ = _
              rw [HU.out]; unfold unescAt
              rw [HD.out, if_pos hs1]
              show Value.tuple #[.iface 96 (.agg #[.string (mkS (l ++ []))]), .int .i64 ((s.size : Int) - (s.data.toList.drop (j + 2)).length)] = _
              rw [List.append_nil, List.length_drop, ← ba_size]
              have : (s.size : Int) - ((s.size - (j + 2) : Nat) : Int) = (j : Int) + 2 := by omega
              rw [this]
            clear HU hs0 hs1 HD hown HO
            go_wp2
            go_ret2
            exact ⟨Eq.trans (b := Ending.returned (.tuple #[.iface 96 (.agg #[.string (mkS l)]), .int .i64 ((j : Int) + 1 + 1)])) rfl (by rw [HF.out, Int.add_assoc]; rfl), hb⟩
          · have hs1 : ¬ s[j + 1] = 0 := fun e => hc0 (by rw [e]; rfl)
            by_cases hc5 : s[j + 1].toNat = 255
            · have hs5 : s[j + 1] = 255 := UInt8.toNat_inj.1 hc5
              have HU2 : Hid (unesc s.data.toList = unescAt s (l ++ [0]) (j + 2)) := by
                show _ = _
                rw [HU.out]; unfold unescAt
                rw [HD.out, if_neg hs1, if_pos hs5]
                cases unesc (s.data.toList.drop (j + 2)) <;> simp
              clear HU hs0 hs1 hs5 HD HO
              go_wp2_with (at_builtin; refine wpList_append_own _ rfl _ _ 22 rfl w.heap.size 5 i0 (.int .u8 0) 1 1 Tryz.underlying22 hi hz0 hz1 hz2 rfl (by decide) _ _ _ rfl (hown.alloc _) ⟨wr.heap.size, 0, none⟩ 1 1 [.int .u8 0] rfl rfl (cell_one_new _ _ _) (one1 _ _) (by unfold maxLen; omega) (by omega) (size_alloc_le _ hz) ?_)
              intro v3 w3 hown3 hgrow3 _
              have b3 := (hb.alloc hz _).grown hgrow3 (size_alloc_le _ hz) (fun j hj => (hown.lt j hj).1)
              have HO3 : Hid (OwnB w.heap.size v3 (l ++ [0]) w3) := own_snoc _ hown3 rfl
              clear hown3 hgrow3 hown hb
              go_wp2
              go_roundw
              case rel => exact ⟨j + 2, l ++ [0], by omega, by simp; omega, by go_num, HO3, HU2, b3⟩
              case measure => simp [intOf]; omega
            · have hs5 : ¬ s[j + 1] = 255 := fun e => hc5 (by rw [e]; rfl)
              have HF : Hid (markedV s (unesc s.data.toList) = .tuple #[.nilIface, .int .i64 0]) := by
                show _ = _
                rw [HU.out]; unfold unescAt
                rw [HD.out, if_neg hs1, if_neg hs5]; rfl
              clear HU hs0 hs1 hs5 HD hown HO
              go_wp2
              go_ret2
              exact ⟨Eq.trans (b := Ending.returned (.tuple #[.nilIface, .int .i64 0])) rfl (by rw [HF.out]), hb⟩
      · have hs0 : s[j] ≠ 0 := fun e => hb0 (by rw [e]; rfl)
        have HU2 : Hid (unesc s.data.toList = unescAt s (l ++ [s[j]]) (j + 1)) := by
          show _ = _
          rw [HU.out]; unfold unescAt
          rw [unesc_drop_more s j hlt hs0]
          cases unesc (s.data.toList.drop (j + 1)) <;> simp
        clear HU hs0 HO
        go_wp2_with (at_builtin; refine wpList_append_own _ rfl _ _ 22 rfl w.heap.size 5 i0 (.int .u8 0) 1 1 Tryz.underlying22 hi hz0 hz1 hz2 rfl (by decide) _ _ _ rfl (hown.alloc _) ⟨wr.heap.size, 0, none⟩ 1 1 [.int .u8 (s[j].toNat : Int)] rfl rfl (cell_one_new _ _ _) (one1 _ _) (by unfold maxLen; omega) (by omega) (size_alloc_le _ hz) ?_)
        intro v3 w3 hown3 hgrow3 _
        have b3 := (hb.alloc hz _).grown hgrow3 (size_alloc_le _ hz) (fun j hj => (hown.lt j hj).1)
        have HO3 : Hid (OwnB w.heap.size v3 (l ++ [s[j]]) w3) := own_snoc _ hown3 rfl
        clear hown3 hgrow3 hown hb
        go_wp2
        go_roundw
        case rel => exact ⟨j + 1, l ++ [s[j]], by omega, by simp; omega, by go_num, HO3, HU2, b3⟩
        case measure => simp [intOf]; omega
    · have HF : Hid (markedV s (unesc s.data.toList) = .tuple #[.nilIface, .int .i64 0]) := by show _ = _; rw [HU.out]; unfold unescAt; rw [unesc_end s j (by omega)]; rfl
      clear HU hown HO
      go_wp2
      go_ret2
      exact ⟨Eq.trans (b := Ending.returned (.tuple #[.nilIface, .int .i64 0])) rfl (by rw [HF.out]), hb⟩
end Go.Proofs.YtkkggbbpaflieaaGreatDoor
