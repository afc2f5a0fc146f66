/-
  Contracts: errors.As at a byteFault and its variable; faultCode.
-/
import Derived.Test.YtkkggbbpaflieaaGreatDoorAs
namespace Go.Proofs.YtkkggbbpaflieaaGreatDoor
open Go.RowKit Go.Extern.Stop Go.Stop Go.Extern

theorem as_rls (v x : Value) : ReflectliteValue.set #[v, x] = (do
    let (some (dst, a, fl), some (src, b, _)) := (← ReflectliteValue.parts v, ← ReflectliteValue.parts x)
      | unsupported (.noEntry "extern/(internal/reflectlite.Value).Set.zeroValue")
    if fl / ReflectliteValue.flagAddr % 2 == 0 then unsupported (.noEntry "extern/(internal/reflectlite.Value).Set.unaddressable")
    let val ← loadVar src b
    if ← Rtype.directlyAssignable dst src then storeVar dst a val
    else if ← Rtype.implements dst src then
      if (← Rtype.kind src) == 20 then
        match val with
        | .nilIface => unsupported (.noEntry "extern/reflectlite: a nil value of one interface type handed on as a value of another")
        | _ => storeVar dst a val
      else storeVar dst a (.iface src val)
    else panicString ("reflectlite.Set: value of type " ++ (← Rtype.spelt src) ++ " is not assignable to type " ++ (← Rtype.spelt dst))
    pure (.tuple #[])) := rfl
theorem as_partsA (a : Addr) (w : World) : (ReflectliteValue.parts (.agg #[.pointer (some ⟨4, 64, none⟩), .pointer (some a), .int .u64 409])).run Tryz.prog w = .ok (some (64, a, 409)) w := by kernel_rfl
theorem as_partsS (a : Addr) (w : World) : (ReflectliteValue.parts (.agg #[.pointer (some ⟨4, 64, none⟩), .pointer (some a), .int .u64 153])).run Tryz.prog w = .ok (some (64, a, 153)) w := by kernel_rfl
theorem as_direct (w : World) : (Rtype.directlyAssignable 64 64).run Tryz.prog w = .ok true w := by kernel_rfl
theorem as_sizeS (w : World) : (sizeOf 64).run Tryz.prog w = .ok 1 w := by kernel_rfl
theorem as_store (tb : Nat) (c : Int) (old : Value) (W : World) (ht : W.cell? ⟨tb, 0, none⟩ = some old) (hf : W.frozen? ⟨tb, 0, none⟩ = false) :
    (storeVar 64 ⟨tb, 0, none⟩ (.agg #[.int .i64 c])).run Tryz.prog W = .ok () (W.setCell ⟨tb, 0, none⟩ (.int .i64 c)) := by
  have hs : (Value.agg #[.int .i64 c]).cells = #[.int .i64 c] := rfl
  unfold storeVar
  simp only [Sem.run_bind, as_sizeS, Result.andThen, hs]
  simp [storeCells, Addr.add, go_sem, stored, ht, hf]
theorem as_set (tb bb : Nat) (c : Int) (old : Value) (W : World) (hb : W.heap[bb]? = some (.cells #[.int .i64 c] 64 (0, 0))) (ht : W.cell? ⟨tb, 0, none⟩ = some old) (hf : W.frozen? ⟨tb, 0, none⟩ = false) :
    (ReflectliteValue.set #[.agg #[.pointer (some ⟨4, 64, none⟩), .pointer (some ⟨tb, 0, none⟩), .int .u64 409], .agg #[.pointer (some ⟨4, 64, none⟩), .pointer (some ⟨bb, 0, none⟩), .int .u64 153]]).run Tryz.prog W
      = .ok (.tuple #[]) (W.setCell ⟨tb, 0, none⟩ (.int .i64 c)) := by
  have hl := run_loadVar_row (P := Tryz.prog) W bb 64 64 #[.int .i64 c] (0, 0) _ hb Tryz.underlying64 rfl (by kernel_rfl)
  have hst := as_store tb c old W ht hf
  rw [as_rls]
  simp only [Sem.run_bind, as_partsA, as_partsS, Result.andThen]
  simp [ReflectliteValue.flagAddr, hl, Result.andThen, as_direct, hst]

set_option maxHeartbeats 4000000 in
theorem as_hit (c : Int) (tb : Nat) (w : World) (hg : w.cell? ⟨0, 0, none⟩ = some errTypeV) (ht0 : w.heap[tb]? = some (.cells #[.int .i64 0] 64 (0, 0))) :
    Calls Tryz.prog 47 #[faultV c, .iface 91 (.pointer (some ⟨tb, 0, none⟩))] w fun ev w' => ev = .returned (.bool true) ∧ ∃ w1, w' = w1.setCell ⟨tb, 0, none⟩ (.int .i64 c) ∧ Below w.heap.size w w1 := by
  have h6 := @run_callFunc_extern Tryz.prog 55 _ (fun args => ReflectliteValue.unpack (args.getD 0 (.tuple #[]))) Tryz.func55 (by kernel_rfl) (by kernel_rfl) (by kernel_rfl) (by kernel_rfl)
  have h7 := @run_callFunc_extern Tryz.prog 56 _ (ReflectliteValue.methodAny (ReflectliteValue.valueError "reflectlite.Value.Type" 0) (fun t _ _ _ => ReflectliteType.toType t)) Tryz.func56 (by kernel_rfl) (by kernel_rfl) (by kernel_rfl) (by kernel_rfl)
  have h8 := @run_callFunc_extern Tryz.prog 57 _ (ReflectliteValue.method (ReflectliteValue.valueError "reflectlite.Value.IsNil" 0) ReflectliteValue.isNil) Tryz.func57 (by kernel_rfl) (by kernel_rfl) (by kernel_rfl) (by kernel_rfl)
  have h27 := @run_callFunc_extern Tryz.prog 76 _ (ReflectliteType.abiMethod fun t => do pure (.int .u8 (← Rtype.kind t))) Tryz.func76 (by kernel_rfl) (by kernel_rfl) (by kernel_rfl) (by kernel_rfl)
  have h37 := @run_callFunc_extern Tryz.prog 114 _ (ReflectliteType.method ReflectliteType.elem) Tryz.func114 (by kernel_rfl) (by kernel_rfl) (by kernel_rfl) (by kernel_rfl)
  have h38 := @run_callFunc_extern Tryz.prog 115 _ (ReflectliteType.relation "Implements" ReflectliteType.implements_) Tryz.func115 (by kernel_rfl) (by kernel_rfl) (by kernel_rfl) (by kernel_rfl)
  have h10 := @run_callFunc_extern Tryz.prog 59 _ ReflectliteType.typeOf Tryz.func59 (by kernel_rfl) (by kernel_rfl) (by kernel_rfl) (by kernel_rfl)
  have h35 := @run_callFunc_extern Tryz.prog 112 _ (ReflectliteType.relation "AssignableTo" ReflectliteType.assignableTo) Tryz.func112 (by kernel_rfl) (by kernel_rfl) (by kernel_rfl) (by kernel_rfl)
  have h11 := @run_callFunc_extern Tryz.prog 60 _ (ReflectliteValue.method (ReflectliteValue.valueError "reflectlite.Value.Elem" 0) ReflectliteValue.elem) Tryz.func60 (by kernel_rfl) (by kernel_rfl) (by kernel_rfl) (by kernel_rfl)
  have h12 := @run_callFunc_extern Tryz.prog 61 _ ReflectliteValue.set Tryz.func61 (by kernel_rfl) (by kernel_rfl) (by kernel_rfl) (by kernel_rfl)
  have tO := as_typeOfS
  have mA := as_methodAssignableTo
  have a25 := as_assignableS
  have v25 := as_valueOfS
  have f6 := as_valueOfP
  have f7 := as_typeP
  have mK := as_methodKind
  have mE := as_methodElem
  have mI := as_methodImplements
  have k27 := as_kindP
  have k25 := as_kindS
  have e27 := as_elemP
  have i25 := as_implementsS
  let W1 := w.alloc (.cells #[.pointer (some ⟨tb, 0, none⟩)] 91)
  let W2 := W1.alloc (.cells #[.pointer (some ⟨4, 91, none⟩), .pointer (some ⟨w.heap.size, 0, none⟩), .int .u64 150] 107)
  let W3 := W2.alloc (.cells #[.pointer (some ⟨4, 91, none⟩), .pointer (some ⟨w.heap.size, 0, none⟩), .int .u64 150] 107)
  let W4 := W3.alloc (.cells #[.int .i64 c] 64)
  have htl : tb < w.heap.size := (Array.getElem?_eq_some_iff.1 ht0).1
  have hlt : 0 < w.heap.size := by omega
  have n8 := as_isNilP ⟨w.heap.size, 0, none⟩ ⟨tb, 0, none⟩ W2 (by simp [W2, W1])
  have hg2 : W2.cell? ⟨0, 0, none⟩ = some errTypeV := by
    show ((w.alloc _).alloc _).cell? ⟨0, 0, none⟩ = _
    rw [World.cell?_alloc_lt _ _ ⟨0, 0, none⟩ (by simp), World.cell?_alloc_lt _ _ ⟨0, 0, none⟩ hlt]; exact hg
  have el := as_elemVP ⟨w.heap.size, 0, none⟩ ⟨tb, 0, none⟩ W3 (by
    show (((w.alloc _).alloc _).alloc _).cell? _ = _
    rw [World.cell?_alloc_lt _ _ ⟨w.heap.size, 0, none⟩ (by simp; omega)]; simp)
  have bel : Below w.heap.size w W4 := ((((Below.refl _ _).alloc (Nat.le_refl _) _).alloc (by simp) _).alloc (by simp; omega) _).alloc (by simp; omega) _
  have hb4 : W4.heap[tb]? = some (.cells #[.int .i64 0] 64 (0, 0)) := (bel.block tb htl).trans ht0
  have st := as_set tb (w.heap.size + 1 + 1 + 1) c (.int .i64 0) W4 (by
      have := heap_alloc_new W3 (.cells #[.int .i64 c] 64)
      have e : W3.heap.size = w.heap.size + 1 + 1 + 1 := by simp [W3, W2, W1]
      rw [e] at this; exact this) (by rw [cell_of_row _ _ _ _ _ _ hb4]; rfl) (frozen_of_row _ _ _ _ _ hb4)
  have HB : Hid (Below w.heap.size w W4) := bel
  clear bel hb4
  unfold faultV
  unfold errTypeV at hg hg2
  simp only [W4, W3, W2, W1] at n8 hg2 el st HB
  clear W4 W3 W2 W1
  go_enter Tryz.func47, Tryz.ntmps47
  go_wp2
  refine wp_loop_rounds 1 ?_
  rw [rounds_succ]
  go_wp2
  go_ret
  exact ⟨rfl, _, rfl, HB.out⟩
end Go.Proofs.YtkkggbbpaflieaaGreatDoor
