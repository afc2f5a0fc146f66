/-
  Contracts: GetNum of the program.
-/
import Derived.Test.YtbainombjfginaaDoorReadNum
import Derived.Test.YtbainombjfginaaDoorOutN
namespace Go.Proofs.YtbainombjfginaaDoor
open Go.RowKit

/-- What GetNum answers: the number, the place behind it, the code. -/
def getNum3 (s : ByteArray) (a : Int) : Int × Int × Nat :=
  if 20000 < s.size then (0, 0, 2) else if a < 0 then (0, 0, 1) else ((rdAt s.data.toList a.toNat).1, behind a.toNat (rdAt s.data.toList a.toNat), (rdAt s.data.toList a.toNat).2.2)
def getNumV (s : ByteArray) (a : Int) : Value := nOut (getNum3 s a).1 (getNum3 s a).2.1 (getNum3 s a).2.2

/-- faultCode at whatever code. -/
theorem faultCode_any (c : Nat) (w : World) (hg : w.cell? ⟨0, 0, none⟩ = some errTypeV) :
    Calls Tryd.prog 22 #[errV c] w fun e w' => e = .returned (.int .i64 c) ∧ Below w.heap.size w w' := by
  unfold errV
  by_cases h : c = 0
  · rw [if_pos h, h]; exact faultCode_nil w
  · rw [if_neg h]; exact faultCode_fault c w hg

set_option maxHeartbeats 2000000 in
theorem implGetNum_any (s : ByteArray) (a : Int) (ha : a ≤ 9223372036854775807) (w : World) (hg : w.cell? ⟨0, 0, none⟩ = some errTypeV) :
    Calls Tryd.prog 9 #[.string s, .int .i64 a] w fun e w' => e = .returned (getNumV s a) ∧ Below w.heap.size w w' := by
  have hlt := block_lt_of_cell hg
  have hlt' : (0 : Nat) < w.heap.size := hlt
  have hg1 : (w.alloc (.cells #[.int .i64 0, .int .i64 0, .int .i64 0] 26)).cell? ⟨0, 0, none⟩ = some errTypeV := by rw [World.cell?_alloc_lt _ _ ⟨0, 0, none⟩ hlt]; exact hg
  have HG : Hid ((w.alloc (.cells #[.int .i64 0, .int .i64 0, .int .i64 0] 26)).cell? ⟨0, 0, none⟩ = some errTypeV) := hg1
  clear hg hg1 hlt
  by_cases h1 : 20000 < s.size
  · have H : Hid (getNumV s a = nOut 0 0 2) := by show _ = _; unfold getNumV getNum3; rw [if_pos h1]; rfl
    have hne : faultV 2 = .iface 59 (.agg #[.int .i64 2]) := rfl
    go_enter Tryd.func9, Tryd.ntmps9
    go_wp2_with fail
    refine (placeFault_long s a h1 _).mono ?_
    rintro e w0 ⟨rfl, rfl⟩
    unfold faultV
    go_wp2_with fail
    refine (faultCode_fault 2 _ HG.out).mono ?_
    rintro e w1 ⟨rfl, hb1⟩
    have hk : w1.heap[w.heap.size]? = some (.cells #[.int .i64 0, .int .i64 0, .int .i64 0] 26 (0, 0)) := (hb1.block _ (by simp)).trans (heap_alloc_new w _)
    obtain ⟨c0, c1, c2, cf⟩ := cells3 hk
    have HK : Hid (w1.heap[w.heap.size]? = some (.cells #[.int .i64 0, .int .i64 0, .int .i64 0] 26 (0, 0))) := hk
    clear hk
    go_wp2
    refine bodyPost_ret (v := nOut 0 0 2) (resNum Tryd.results9 _ _ w.heap.size _ _ _ rfl (set3 HK.out)) rfl ⟨by rw [H.out], ?_⟩
    exact below3 (((Below.refl _ _).alloc (Nat.le_refl _) _).trans (hb1.mono (by simp))) (Nat.le_refl _)
  by_cases h2 : a < 0
  · have H : Hid (getNumV s a = nOut 0 0 1) := by show _ = _; unfold getNumV getNum3; rw [if_neg h1, if_pos h2]; rfl
    go_enter Tryd.func9, Tryd.ntmps9
    go_wp2_with fail
    refine (placeFault_low s a (by omega) h2 _).mono ?_
    rintro e w0 ⟨rfl, rfl⟩
    unfold faultV
    go_wp2_with fail
    refine (faultCode_fault 1 _ HG.out).mono ?_
    rintro e w1 ⟨rfl, hb1⟩
    have hk : w1.heap[w.heap.size]? = some (.cells #[.int .i64 0, .int .i64 0, .int .i64 0] 26 (0, 0)) := (hb1.block _ (by simp)).trans (heap_alloc_new w _)
    obtain ⟨c0, c1, c2, cf⟩ := cells3 hk
    have HK : Hid (w1.heap[w.heap.size]? = some (.cells #[.int .i64 0, .int .i64 0, .int .i64 0] 26 (0, 0))) := hk
    clear hk
    go_wp2
    refine bodyPost_ret (v := nOut 0 0 1) (resNum Tryd.results9 _ _ w.heap.size _ _ _ rfl (set3 HK.out)) rfl ⟨by rw [H.out], ?_⟩
    exact below3 (((Below.refl _ _).alloc (Nat.le_refl _) _).trans (hb1.mono (by simp))) (Nat.le_refl _)
  obtain ⟨p, rfl⟩ := Int.eq_ofNat_of_zero_le (show 0 ≤ a by omega)
  have H : Hid (getNumV s p = nOut (rdAt s.data.toList p).1 (behind p (rdAt s.data.toList p)) (rdAt s.data.toList p).2.2) := by
    show _ = _; unfold getNumV getNum3; rw [if_neg h1, if_neg h2, Int.toNat_natCast]
  have hrd := readNum_any s p (by omega)
  generalize behind p (rdAt s.data.toList p) = q at *
  generalize (rdAt s.data.toList p).1 = n at *
  generalize (rdAt s.data.toList p).2.2 = c at *
  have HR : Hid (∀ w, Calls Tryd.prog 23 #[.string s, .int .i64 p] w fun e w' => e = .returned (.tuple #[.int .i64 n, .int .i64 q, errV c]) ∧ w' = w) := hrd
  clear hrd
  go_enter Tryd.func9, Tryd.ntmps9
  go_wp2_with fail
  refine (placeFault_ok s p (by omega) (by omega) _).mono ?_
  rintro e w0 ⟨rfl, rfl⟩
  go_wp2_with fail
  refine (HR.out _).mono ?_
  rintro e w0 ⟨rfl, rfl⟩
  go_wp2_with fail
  refine (faultCode_any c _ HG.out).mono ?_
  rintro e w1 ⟨rfl, hb1⟩
  have hk : w1.heap[w.heap.size]? = some (.cells #[.int .i64 0, .int .i64 0, .int .i64 0] 26 (0, 0)) := (hb1.block _ (by simp)).trans (heap_alloc_new w _)
  obtain ⟨c0, c1, c2, cf⟩ := cells3 hk
  have HK : Hid (w1.heap[w.heap.size]? = some (.cells #[.int .i64 0, .int .i64 0, .int .i64 0] 26 (0, 0))) := hk
  clear hk
  go_wp2
  refine bodyPost_ret (v := nOut n q c) (resNum Tryd.results9 _ _ w.heap.size _ _ _ rfl (set3 HK.out)) rfl ⟨by rw [H.out], ?_⟩
  exact below3 (((Below.refl _ _).alloc (Nat.le_refl _) _).trans (hb1.mono (by simp))) (Nat.le_refl _)
end Go.Proofs.YtbainombjfginaaDoor
