/-
  Contracts: is a row right? The program's answer and the specification's.
-/
import Derived.Test.YtkhklfnhninkjaaGreatSSpec
import Derived.Test.YtkhklfnhninkjaaGreatSchLen
import Derived.Test.YtkhklfnhninkjaaGreatInnerR
import Derived.Test.YtkhklfnhninkjaaGreatVTake
import Derived.Test.YtkhklfnhninkjaaGreatInner3
import Derived.Deep.RegionHeld3
import Derived.OwnWalk
namespace Go.Proofs.YtkhklfnhninkjaaGreat
open Go.RowKit
set_option maxRecDepth 100000

def noVal : Val := ⟨0, 0, ByteArray.empty⟩
def fitV (c : Col) (v : Val) : Bool := vRight v && (decide (v.kind = c.kind) || (decide (v.kind = 0) && c.nul))
def fitAt (cs : List Col) (vs : List Val) (i : Nat) : Bool := fitV (cs.getD i noCol) (vs.getD i noVal)
def rowOk (cs : List Col) (vs : List Val) : Bool := decide (vs.length = cs.length) && upto (fitAt cs vs) vs.length
def rowRight (s : Sch) (vs : List Val) : Bool := schRight s && rowOk s.cols vs
theorem schRight_kind {s : Sch} (h : schRight s = true) (i : Nat) (hi : i < s.cols.length) : 1 ≤ (s.cols.getD i noCol).kind := by
  rw [schRight_eq] at h
  simp only [Bool.and_eq_true] at h
  have h1 := h.1.1.1
  unfold colsOk at h1
  rw [Bool.and_eq_true, upto_iff] at h1
  have h2 := h1.2 i hi
  unfold colOk at h2
  simp only [Bool.and_eq_true, decide_eq_true_eq] at h2
  exact h2.1.1.2
set_option maxHeartbeats 1000000 in
theorem fits_any (c : Col) (v : Val) (hk : 1 ≤ c.kind) (w : World) :
    Calls Tryz.prog 49 #[.agg #[.string c.name, .int .i64 c.kind, .bool c.nul], .agg #[.int .i64 v.kind, .int .i64 v.num, .string v.text]] w fun e w' => e = .returned (.bool (fitV c v)) ∧ Below w.heap.size w w' := by
  have B0 : Hid (Below w.heap.size w ((w.alloc (.cells #[.string c.name, .int .i64 c.kind, .bool c.nul] 67)).alloc (.cells #[.int .i64 v.kind, .int .i64 v.num, .string v.text] 72))) := ((Below.refl _ _).alloc (Nat.le_refl _) _).alloc (by simp) _
  have hc := fun w => implValueRight_any v w
  have HF : Hid (fitV c v = (vRight v && (decide (v.kind = c.kind) || (decide (v.kind = 0) && c.nul)))) := rfl
  generalize fitV c v = q at *
  generalize vRight v = r at *
  obtain ⟨kk, nn, tt⟩ := v
  obtain ⟨nm, kd, nu⟩ := c
  simp only at *
  have HC := hide hc
  clear hc
  by_cases h0 : kk = 0
  · subst h0
    have hne : ¬ ((0 : Int) = kd) := by omega
    cases nu with
    | true =>
      have HQ : Hid (q = r) := by show _ = _; rw [HF.out]; simp
      clear HF
      go_enter Tryz.func49, Tryz.ntmps49
      go_wp2_with fail
      refine (HC.out _).mono ?_
      rintro e w1 ⟨rfl, hb1⟩
      have B1 : Hid (Below w.heap.size w w1) := B0.out.trans (hb1.mono B0.out.size)
      clear hb1
      go_wp2
      go_ret
      exact ⟨ret_bool HQ.out.symm, B1.out⟩
    | false =>
      have HQ : Hid (q = false) := by show _ = _; rw [HF.out]; simp [hne]
      clear HF
      go_enter Tryz.func49, Tryz.ntmps49
      go_wp2
      go_ret
      exact ⟨ret_bool HQ.out.symm, B0.out⟩
  · by_cases h1 : kk = kd
    · subst h1
      have HQ : Hid (q = r) := by show _ = _; rw [HF.out]; simp
      have n0 : (kk != 0) = true := by simp [h0]
      have n2 : (kk == 0) = false := by simp [h0]
      clear HF h0
      go_enter Tryz.func49, Tryz.ntmps49
      go_wp2_with fail
      refine (HC.out _).mono ?_
      rintro e w1 ⟨rfl, hb1⟩
      have B1 : Hid (Below w.heap.size w w1) := B0.out.trans (hb1.mono B0.out.size)
      clear hb1
      go_wp2
      go_ret
      exact ⟨ret_bool HQ.out.symm, B1.out⟩
    · have HQ : Hid (q = false) := by show _ = _; rw [HF.out]; simp [h0, h1]
      have n0 : (kk != 0) = true := by simp [h0]
      have n1 : (kk != kd) = true := by simp [h1]
      have n2 : (kk == 0) = false := by simp [h0]
      clear HF h0 h1
      go_enter Tryz.func49, Tryz.ntmps49
      go_wp2
      go_ret
      exact ⟨ret_bool HQ.out.symm, B0.out⟩
end Go.Proofs.YtkhklfnhninkjaaGreat
