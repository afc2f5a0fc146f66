/-
  Contracts: GetText of the program.
-/
import Derived.Test.YtbainombjfginaaDoorGetText
import Derived.Test.YtbainombjfginaaDoorOutT
namespace Go.Proofs.YtbainombjfginaaDoor
open Go.RowKit

/-- What GetText answers: the text, the place behind it, the code. -/
def getText3 (s : ByteArray) (a : Int) : ByteArray × Int × Nat := textOf s (getNum3 s a).1 (getNum3 s a).2.1 (getNum3 s a).2.2
def getTextV (s : ByteArray) (a : Int) : Value := tOut (getText3 s a).1 (getText3 s a).2.1 (getText3 s a).2.2

set_option maxHeartbeats 2000000 in
theorem implGetText_any (s : ByteArray) (a : Int) (ha : a ≤ 9223372036854775807) (w : World) (hg : w.cell? ⟨0, 0, none⟩ = some errTypeV) :
    Calls Tryd.prog 13 #[.string s, .int .i64 a] w fun e w' => e = .returned (getTextV s a) ∧ Below w.heap.size w w' := by
  have hlt := block_lt_of_cell hg
  have hlt' : (0 : Nat) < w.heap.size := hlt
  have hg1 : (w.alloc (.cells #[.string ⟨#[]⟩, .int .i64 0, .int .i64 0] 31)).cell? ⟨0, 0, none⟩ = some errTypeV := by rw [World.cell?_alloc_lt _ _ ⟨0, 0, none⟩ hlt]; exact hg
  have HG : Hid ((w.alloc (.cells #[.string ⟨#[]⟩, .int .i64 0, .int .i64 0] 31)).cell? ⟨0, 0, none⟩ = some errTypeV) := hg1
  clear hg hg1 hlt
  by_cases h1 : 20000 < s.size
  · have H : Hid (getTextV s a = tOut ByteArray.empty 0 2) := by
      have e : getNum3 s a = (0, 0, 2) := if_pos h1
      show _ = _; unfold getTextV getText3; rw [e]; rfl
    go_enter Tryd.func13, Tryd.ntmps13
    go_wp2_with fail
    refine (placeFault_long s a h1 _).mono ?_
    rintro e w0 ⟨rfl, rfl⟩
    unfold faultV
    go_wp2_with fail
    refine (faultCode_fault 2 _ HG.out).mono ?_
    rintro e w1 ⟨rfl, hb1⟩
    have hk : w1.heap[w.heap.size]? = some (.cells #[.string ⟨#[]⟩, .int .i64 0, .int .i64 0] 31 (0, 0)) := (hb1.block _ (by simp)).trans (heap_alloc_new w _)
    obtain ⟨c0, c1, c2, cf⟩ := cells3 hk
    have HK : Hid (w1.heap[w.heap.size]? = some (.cells #[.string ⟨#[]⟩, .int .i64 0, .int .i64 0] 31 (0, 0))) := hk
    clear hk
    go_wp2
    refine bodyPost_ret (v := tOut ByteArray.empty 0 2) (resOut Tryd.results13 _ _ w.heap.size _ _ _ rfl (set3 HK.out)) rfl ⟨by rw [H.out], ?_⟩
    exact below3 (((Below.refl _ _).alloc (Nat.le_refl _) _).trans (hb1.mono (by simp))) (Nat.le_refl _)
  by_cases h2 : a < 0
  · have H : Hid (getTextV s a = tOut ByteArray.empty 0 1) := by
      have e : getNum3 s a = (0, 0, 1) := by unfold getNum3; rw [if_neg h1, if_pos h2]
      show _ = _; unfold getTextV getText3; rw [e]; rfl
    go_enter Tryd.func13, Tryd.ntmps13
    go_wp2_with fail
    refine (placeFault_low s a (by omega) h2 _).mono ?_
    rintro e w0 ⟨rfl, rfl⟩
    unfold faultV
    go_wp2_with fail
    refine (faultCode_fault 1 _ HG.out).mono ?_
    rintro e w1 ⟨rfl, hb1⟩
    have hk : w1.heap[w.heap.size]? = some (.cells #[.string ⟨#[]⟩, .int .i64 0, .int .i64 0] 31 (0, 0)) := (hb1.block _ (by simp)).trans (heap_alloc_new w _)
    obtain ⟨c0, c1, c2, cf⟩ := cells3 hk
    have HK : Hid (w1.heap[w.heap.size]? = some (.cells #[.string ⟨#[]⟩, .int .i64 0, .int .i64 0] 31 (0, 0))) := hk
    clear hk
    go_wp2
    refine bodyPost_ret (v := tOut ByteArray.empty 0 1) (resOut Tryd.results13 _ _ w.heap.size _ _ _ rfl (set3 HK.out)) rfl ⟨by rw [H.out], ?_⟩
    exact below3 (((Below.refl _ _).alloc (Nat.le_refl _) _).trans (hb1.mono (by simp))) (Nat.le_refl _)
  obtain ⟨p, rfl⟩ := Int.eq_ofNat_of_zero_le (show 0 ≤ a by omega)
  have e3 : getNum3 s p = ((rdAt s.data.toList p).1, behind p (rdAt s.data.toList p), (rdAt s.data.toList p).2.2) := by
    unfold getNum3; rw [if_neg h1, if_neg h2, Int.toNat_natCast]
  have H : Hid (getTextV s p = tOut (textOf s (rdAt s.data.toList p).1 (behind p (rdAt s.data.toList p)) (rdAt s.data.toList p).2.2).1 (textOf s (rdAt s.data.toList p).1 (behind p (rdAt s.data.toList p)) (rdAt s.data.toList p).2.2).2.1 (textOf s (rdAt s.data.toList p).1 (behind p (rdAt s.data.toList p)) (rdAt s.data.toList p).2.2).2.2) := by
    show _ = _; unfold getTextV getText3; rw [e3]
  have hrt := readText_any s p (by omega) _ _ _ rfl rfl rfl
  generalize textOf s (rdAt s.data.toList p).1 (behind p (rdAt s.data.toList p)) (rdAt s.data.toList p).2.2 = r at *
  obtain ⟨t, q, c⟩ := r
  have HR : Hid (∀ w, Calls Tryd.prog 29 #[.string s, .int .i64 p] w fun e w' => e = .returned (.tuple #[.string t, .int .i64 q, errV c]) ∧ Below w.heap.size w w') := hrt
  clear hrt e3
  go_enter Tryd.func13, Tryd.ntmps13
  go_wp2_with fail
  refine (placeFault_ok s p (by omega) (by omega) _).mono ?_
  rintro e w0 ⟨rfl, rfl⟩
  go_wp2_with fail
  refine (HR.out _).mono ?_
  rintro e w0 ⟨rfl, hb0⟩
  have HG0 : Hid (w0.cell? ⟨0, 0, none⟩ = some errTypeV) := (hb0.cell (p := ⟨0, 0, none⟩) (by simp)).trans HG.out
  go_wp2_with fail
  refine (faultCode_any c _ HG0.out).mono ?_
  rintro e w1 ⟨rfl, hb1⟩
  have hz0 : w.heap.size < w0.heap.size := by (have := hb0.size; simp at this; omega)
  have hk : w1.heap[w.heap.size]? = some (.cells #[.string ⟨#[]⟩, .int .i64 0, .int .i64 0] 31 (0, 0)) := (hb1.block _ hz0).trans ((hb0.block _ (by simp)).trans (heap_alloc_new w _))
  obtain ⟨c0, c1, c2, cf⟩ := cells3 hk
  have HK : Hid (w1.heap[w.heap.size]? = some (.cells #[.string ⟨#[]⟩, .int .i64 0, .int .i64 0] 31 (0, 0))) := hk
  clear hk
  go_wp2
  refine bodyPost_ret (v := tOut t q c) (resOut Tryd.results13 _ _ w.heap.size _ _ _ rfl (set3 HK.out)) rfl ⟨by rw [H.out], ?_⟩
  exact below3 ((((Below.refl _ _).alloc (Nat.le_refl _) _).trans (hb0.mono (by simp))).trans (hb1.mono (by omega))) (Nat.le_refl _)
end Go.Proofs.YtbainombjfginaaDoor
