/-
  Contracts: TreeRange of the specification.
-/
import Derived.Test.YtffgobkgkhmeoaaTrKeys2
namespace Go.Proofs.Ytffgobkgkhmeoaa
open Go.RowKit Go.Shelf
set_option maxRecDepth 100000

def rangeOut (t : Tr) (low high : ByteArray) : List ByteArray :=
  if 20000 < low.size ∨ 20000 < high.size then [] else if (trLev t).isSome = true then inR low high (allOf t) else []
theorem rangeOut_long {t : Tr} {low high : ByteArray} (h : 20000 < low.size ∨ 20000 < high.size) : rangeOut t low high = [] := if_pos h
theorem rangeOut_bad {t : Tr} {low high : ByteArray} (h : ¬ (20000 < low.size ∨ 20000 < high.size)) (hr : (trLev t).isSome = false) : rangeOut t low high = [] := by unfold rangeOut; rw [if_neg h, if_neg (by rw [hr]; decide)]
theorem rangeOut_ok {t : Tr} {low high : ByteArray} (h : ¬ (20000 < low.size ∨ 20000 < high.size)) (hr : (trLev t).isSome = true) : rangeOut t low high = inR low high (allOf t) := by unfold rangeOut; rw [if_neg h, if_pos hr]
theorem ownS_new {base g : Nat} {w : World} (hg : w.heap[g]? = some (.cells #[] 9 (0, 0))) (hb : base ≤ g) : OwnS base (.slice (some ⟨g, 0, none⟩) 0 0) [] w :=
  ⟨rfl, .inr ⟨g, 0, #[], rfl, hb, hg, Nat.le_refl _, Nat.zero_le _, rfl, rfl⟩⟩
def RangePost (l : List ByteArray) (w : World) (e : Ending) (w' : World) : Prop := ∃ v', e = .returned v' ∧ OwnS w.heap.size v' l w' ∧ Below w.heap.size w w'
set_option maxHeartbeats 2000000 in
theorem specTreeRange_any (A B n : Nat) (ko : Option Addr) (kc : Nat) (vo : Option Addr) (vc : Nat) (xo : Option Addr) (xc : Nat) (t : Tr) (low high : ByteArray) (w : World) (hB : B ≤ w.heap.size) (hr : TrRow w A B n t ko vo xo) :
    Calls Try.prog 16 #[.agg #[.slice ko t.keys.length kc, .slice vo t.vals.length vc, .slice xo t.kids.length xc], .string low, .string high] w (RangePost (rangeOut t low high) w) := by
  have HA := hide (two_allocs w (.cells #[.slice ko t.keys.length kc, .slice vo t.vals.length vc, .slice xo t.kids.length xc] 30) (.cells #[] 9))
  have B0 := hide ((Below.refl w.heap.size w).alloc (Nat.le_refl _) (.cells #[.slice ko t.keys.length kc, .slice vo t.vals.length vc, .slice xo t.kids.length xc] 30))
  have B1 := hide (B0.out.alloc (by simp) (.cells #[] 9))
  have X0 := hide (heap_alloc_new w (.cells #[.slice ko t.keys.length kc, .slice vo t.vals.length vc, .slice xo t.kids.length xc] 30))
  have HZ : Hid ((w.alloc (.cells #[.slice ko t.keys.length kc, .slice vo t.vals.length vc, .slice xo t.kids.length xc] 30)).heap.size = w.heap.size + 1) := by show _ = _; simp
  have HT := hide (fun (W : World) (hW : Below w.heap.size w W) => specTreeRight_any A B n ko kc vo vc xo xc t W (Nat.le_trans hB hW.size) (TrRow.kept (hW.mono hB) n _ _ _ _ hr))
  have HG := hide (fun (h : (trLev t).isSome = true) (v : Value) (W : World) (hW : Below w.heap.size w W) (ho : OwnS w.heap.size v [] W) => keys_right w.heap.size A B n ko kc vo vc xo xc t low high v W hB hW.size (TrRow.kept (hW.mono hB) n _ _ _ _ hr) h ho)
  clear hr
  by_cases hl : 20000 < low.size
  · have e1 : 20000 < (low.size : Int) := by omega
    have HE := hide (rangeOut_long (t := t) (low := low) (high := high) (.inl hl))
    clear hl HT HG
    rw [HE.out]
    go_enter Try.func16, Try.ntmps16
    go_wp2
    go_ret
    exact ⟨_, rfl, ownS_new (HA.out.2.1) (by omega), B1.out⟩
  by_cases hh : 20000 < high.size
  · have e1 : ¬ 20000 < (low.size : Int) := by omega
    have e2 : 20000 < (high.size : Int) := by omega
    have HE := hide (rangeOut_long (t := t) (low := low) (high := high) (.inr hh))
    clear hl hh HT HG
    rw [HE.out]
    go_enter Try.func16, Try.ntmps16
    go_wp2
    go_ret
    exact ⟨_, rfl, ownS_new (HA.out.2.1) (by omega), B1.out⟩
  have e1 : ¬ 20000 < (low.size : Int) := by omega
  have e2 : ¬ 20000 < (high.size : Int) := by omega
  have hno : ¬ (20000 < low.size ∨ 20000 < high.size) := by omega
  clear hl hh B1 HA
  cases hq : (trLev t).isSome with
  | false =>
    rw [hq] at HT
    have HE := hide (rangeOut_bad hno hq)
    clear hno hq HG
    rw [HE.out]
    go_enter Try.func16, Try.ntmps16
    go_wp2_with fail
    refine (HT.out _ B0.out).mono ?_
    generalize w.alloc (.cells #[.slice ko t.keys.length kc, .slice vo t.vals.length vc, .slice xo t.kids.length xc] 30) = W0 at *
    rintro e w1 ⟨rfl, b1⟩
    have hz1 : w.heap.size + 1 ≤ w1.heap.size := by have := b1.size; rw [HZ.out] at this; exact this
    have B1 := hide ((B0.out.trans (b1.mono B0.out.size)).alloc (by omega) (.cells #[] 9))
    have HN := hide (heap_alloc_new w1 (.cells #[] 9))
    clear b1 HT
    go_wp2
    go_ret
    exact ⟨_, rfl, ownS_new HN.out (by omega), B1.out⟩
  | true =>
    rw [hq] at HT
    have HE := hide (rangeOut_ok hno hq)
    have HG2 := hide (HG.out hq)
    clear hno hq HG
    rw [HE.out]
    go_enter Try.func16, Try.ntmps16
    go_wp2_with fail
    refine (HT.out _ B0.out).mono ?_
    generalize w.alloc (.cells #[.slice ko t.keys.length kc, .slice vo t.vals.length vc, .slice xo t.kids.length xc] 30) = W0 at *
    rintro e w1 ⟨rfl, b1⟩
    have hz1 : w.heap.size + 1 ≤ w1.heap.size := by have := b1.size; rw [HZ.out] at this; exact this
    have B1 := hide ((B0.out.trans (b1.mono B0.out.size)).alloc (by omega) (.cells #[] 9))
    have HN := hide (heap_alloc_new w1 (.cells #[] 9))
    have HO := hide (ownS_new (base := w.heap.size) HN.out (by omega))
    obtain ⟨x0, x1, x2, xf⟩ := cells3 ((b1.block w.heap.size (by rw [HZ.out]; omega)).trans X0.out)
    obtain ⟨x0', x1', x2', xf'⟩ := cells3 ((heap_old w1 (.cells #[] 9) w.heap.size (by omega)).trans ((b1.block w.heap.size (by rw [HZ.out]; omega)).trans X0.out))
    clear b1 HT
    go_wp2_with fail
    refine (HG2.out _ _ B1.out HO.out).mono ?_
    rintro e w2 ⟨v', rfl, ho2, g2⟩
    have b2 := hide (B1.out.trans (g2.below HO.out B1.out.size))
    have HO2 := hide ho2
    clear ho2 g2
    go_wp2
    go_ret
    exact ⟨_, rfl, HO2.out, b2.out⟩
end Go.Proofs.Ytffgobkgkhmeoaa
