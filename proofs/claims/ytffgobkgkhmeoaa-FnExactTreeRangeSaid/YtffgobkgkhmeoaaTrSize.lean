/-
  Contracts: TreeSize, of the program and of the specification.
-/
import Derived.Test.YtffgobkgkhmeoaaTrAll
import Derived.Test.YtffgobkgkhmeoaaTrSpec
namespace Go.Proofs.Ytffgobkgkhmeoaa
open Go.RowKit Go.Shelf
set_option maxRecDepth 100000

set_option maxHeartbeats 2000000 in
theorem l04Size_node (A B n : Nat) (ko : Option Addr) (kc : Nat) (vo : Option Addr) (vc : Nat) (xo : Option Addr) (xc : Nat) (ks vs : List ByteArray) (cs : List Tr) (f : Tr → List ByteArray) (w : World) (hB : B ≤ w.heap.size) (hr : TrRow w A B (n + 1) (.node ks vs cs) ko vo xo) (hk3 : ks.length ≤ 3) (hc4 : cs.length ≤ 4) (hb : ∀ i, i < cs.length → (f (cs.getD i noTr)).length ≤ 16777216)
    (ih : ∀ (i : Nat) (ko : Option Addr) (kc : Nat) (vo : Option Addr) (vc : Nat) (xo : Option Addr) (xc : Nat) (W : World), i < cs.length → B ≤ W.heap.size → TrRow W A B n (cs.getD i noTr) ko vo xo → Calls Try.prog 30 #[.agg #[.slice ko (cs.getD i noTr).keys.length kc, .slice vo (cs.getD i noTr).vals.length vc, .slice xo (cs.getD i noTr).kids.length xc]] W fun e w' => e = .returned (.int .i64 (((f (cs.getD i noTr)).length : Nat) : Int)) ∧ Below W.heap.size W w') :
    Calls Try.prog 30 #[.agg #[.slice ko ks.length kc, .slice vo vs.length vc, .slice xo cs.length xc]] w fun e w' => e = .returned (.int .i64 ((ks.length + sumK f cs cs.length : Nat) : Int)) ∧ Below w.heap.size w w' := by
  have HX := hide hr.2.2.2
  change Hid (KidRow w A B (TrRow w A B n) xo cs) at HX
  have IH := hide ih
  have HS := hide (sumK_le hb)
  have B0 := hide ((Below.refl w.heap.size w).alloc (Nat.le_refl _) (.cells #[.slice ko ks.length kc, .slice vo vs.length vc, .slice xo cs.length xc] 30))
  have X0 := hide (heap_alloc_new w (.cells #[.slice ko ks.length kc, .slice vo vs.length vc, .slice xo cs.length xc] 30))
  have HZ : Hid ((w.alloc (.cells #[.slice ko ks.length kc, .slice vo vs.length vc, .slice xo cs.length xc] 30)).heap.size = w.heap.size + 1) := by show _ = _; simp
  clear hr ih hb
  go_enter Try.func30, Try.ntmps30
  go_wp2
  generalize w.alloc (.cells #[.slice ko ks.length kc, .slice vo vs.length vc, .slice xo cs.length xc] 30) = W0 at *
  go_loopw [3, 4] (fun s i wr => ∃ k q : Nat, k ≤ cs.length ∧ i = .int .i64 k ∧ s = .int .i64 q ∧ q ≤ 100000000 ∧ Hid (q = ks.length + sumK f cs k) ∧ Hid (Below W0.heap.size W0 wr)) (fun _ i _ => cs.length - (intOf i).toNat)
  case atStart => exact ⟨0, ks.length, Nat.zero_le _, rfl, rfl, by omega, rfl, Below.refl _ _⟩
  case round =>
    obtain ⟨k, q, hk, rfl, rfl, hq, HQ, HB⟩ := hrel
    have hz := HB.out.size
    obtain ⟨x0, x1, x2, xf⟩ := cells3 ((HB.out.block w.heap.size (by rw [HZ.out]; omega)).trans X0.out)
    have HBW : Hid (Below w.heap.size w wr) := B0.out.trans (HB.out.mono B0.out.size)
    by_cases hlt : k < cs.length
    · obtain ⟨b, off, ko', kc', vo', vc', yo, yc, ks', vs', ds, rfl, hbB, hv, hp, d0, d1, d2⟩ := (HX.out.kept (HBW.out.mono hB) (TrRow.kept (HBW.out.mono hB) n)).at k hlt
      have hc := IH.out k ko' kc' vo' vc' yo yc wr hlt (Nat.le_trans hB HBW.out.size) (by rw [hv]; exact hp)
      rw [hv] at hc
      simp only [Tr.keys, Tr.vals, Tr.kids] at hc
      have hs1 := HS.out (k + 1) hlt
      have HS2 : Hid (sumK f cs (k + 1) = sumK f cs k + (f (.node ks' vs' ds)).length) := by show _ = _; simp only [sumK]; rw [hv]
      have hq2 : q + (f (.node ks' vs' ds)).length ≤ 100000000 := by
        rw [HS2.out] at hs1
        have h1 := HQ.out
        have h2 : (k + 1) * 16777216 ≤ 4 * 16777216 := Nat.mul_le_mul_right _ (by omega)
        omega
      have HC := hide hc
      clear hc hv hp hs1
      generalize (f (.node ks' vs' ds)).length = m at *
      go_wp2_with fail
      refine HC.out.mono ?_
      rintro e w1 ⟨rfl, b1⟩
      have HB2 := hide (HB.out.trans (b1.mono hz))
      clear b1 HC d0 d1 d2 HB HBW
      go_wp2
      go_roundw
      case rel => exact ⟨k + 1, q + m, by omega, by go_num, by go_num, hq2, (by show _ = _; have h1 := HQ.out; have h2 := HS2.out; omega), HB2⟩
      case measure => simp [intOf]; omega
    · obtain rfl : k = cs.length := by omega
      have HE : Hid ((q : Int) = ((ks.length + sumK f cs cs.length : Nat) : Int)) := by show _ = _; rw [HQ.out]
      go_wp2
      go_ret
      exact ⟨by rw [HE.out]; rfl, HBW.out⟩
def sizeP (r : Nat) : Prop := ∀ (A B n : Nat) (ko : Option Addr) (kc : Nat) (vo : Option Addr) (vc : Nat) (xo : Option Addr) (xc : Nat) (t : Tr) (w : World), B ≤ w.heap.size → TrRow w A B n t ko vo xo → (lev r t).isSome = true →
    Calls Try.prog 30 #[.agg #[.slice ko t.keys.length kc, .slice vo t.vals.length vc, .slice xo t.kids.length xc]] w fun e w' => e = .returned (.int .i64 (((inord r t).length : Nat) : Int)) ∧ Below w.heap.size w w'
theorem pow_le12 {r : Nat} (h : r ≤ 12) : 4 ^ r ≤ 16777216 := Nat.le_trans (Nat.pow_le_pow_right (by omega) h) (Nat.le_refl _)
theorem size_all : ∀ r, r ≤ 12 → sizeP r
  | 0 => fun _ A B n ko kc vo vc xo xc t w hB hr hl => by simp [lev] at hl
  | r + 1 => fun hr12 A B n ko kc vo vc xo xc t w hB hr hl => by
    obtain ⟨hok, hk⟩ := lev_node hl
    rw [inord_count hok]
    have h1 : t.keys.length ≤ 3 ∧ t.kids.length ≤ 4 := by
      have := hok
      unfold nodeOk at this
      simp only [Bool.and_eq_true, decide_eq_true_eq, Bool.or_eq_true] at this
      omega
    obtain ⟨ks, vs, cs⟩ := t
    cases n with
    | zero => exact hr.elim
    | succ n => exact l04Size_node A B n ko kc vo vc xo xc ks vs cs (inord r) w hB hr h1.1 h1.2 (fun i hi => by have h5 : (inord r (cs.getD i noTr)).length + 1 ≤ 4 ^ r := inord_le r _ (hk i hi); have := pow_le12 (r := r) (by omega); omega) (fun i ko kc vo vc xo xc W hi hW hrW => size_all r (by omega) A B n ko kc vo vc xo xc _ W hW hrW (hk i hi))
theorem size_right (A B n : Nat) (ko : Option Addr) (kc : Nat) (vo : Option Addr) (vc : Nat) (xo : Option Addr) (xc : Nat) (t : Tr) (w : World) (hB : B ≤ w.heap.size) (hr : TrRow w A B n t ko vo xo) (hl : (trLev t).isSome = true) :
    Calls Try.prog 30 #[.agg #[.slice ko t.keys.length kc, .slice vo t.vals.length vc, .slice xo t.kids.length xc]] w fun e w' => e = .returned (.int .i64 (((allOf t).length : Nat) : Int)) ∧ Below w.heap.size w w' := by
  by_cases hk : t.keys.length = 0
  · have hc := kids_of_none hl hk
    have e : (allOf t).length = t.keys.length + sumK (fun _ => []) t.kids t.kids.length := by rw [show allOf t = [] from if_pos hk, hk, hc]; rfl
    rw [e]
    obtain ⟨ks, vs, cs⟩ := t
    change ks.length = 0 at hk
    change cs.length = 0 at hc
    cases n with
    | zero => exact hr.elim
    | succ n => exact l04Size_node A B n ko kc vo vc xo xc ks vs cs (fun _ => []) w hB hr (by omega) (by omega) (fun i hi => by omega) (fun i ko kc vo vc xo xc W hi _ _ => by omega)
  · rw [show allOf t = inord 12 t from if_neg hk]
    exact size_all 12 (Nat.le_refl _) A B n ko kc vo vc xo xc t w hB hr (lev_of_right hl hk)
/-- What TreeSize tells. -/
def sizeOf (t : Tr) : Nat := if (trLev t).isSome then (allOf t).length else 0
set_option maxHeartbeats 2000000 in
theorem specTreeSize_any (A B n : Nat) (ko : Option Addr) (kc : Nat) (vo : Option Addr) (vc : Nat) (xo : Option Addr) (xc : Nat) (t : Tr) (w : World) (hB : B ≤ w.heap.size) (hr : TrRow w A B n t ko vo xo) :
    Calls Try.prog 12 #[.agg #[.slice ko t.keys.length kc, .slice vo t.vals.length vc, .slice xo t.kids.length xc]] w fun e w' => e = .returned (.int .i64 ((sizeOf t : Nat) : Int)) ∧ Below w.heap.size w w' := by
  have B0 := hide ((Below.refl w.heap.size w).alloc (Nat.le_refl _) (.cells #[.slice ko t.keys.length kc, .slice vo t.vals.length vc, .slice xo t.kids.length xc] 30))
  have X0 := hide (heap_alloc_new w (.cells #[.slice ko t.keys.length kc, .slice vo t.vals.length vc, .slice xo t.kids.length xc] 30))
  have HZ : Hid ((w.alloc (.cells #[.slice ko t.keys.length kc, .slice vo t.vals.length vc, .slice xo t.kids.length xc] 30)).heap.size = w.heap.size + 1) := by show _ = _; simp
  have HD := hide (fun (hl : (trLev t).isSome = true) (W : World) (hW : Below w.heap.size w W) => size_right A B n ko kc vo vc xo xc t W (Nat.le_trans hB hW.size) (TrRow.kept (hW.mono hB) n _ _ _ _ hr) hl)
  have HT := hide (fun (W : World) (hW : Below w.heap.size w W) => specTreeRight_any A B n ko kc vo vc xo xc t W (Nat.le_trans hB hW.size) (TrRow.kept (hW.mono hB) n _ _ _ _ hr))
  clear hr
  by_cases hl : (trLev t).isSome = true
  · have HE : Hid (sizeOf t = (allOf t).length) := if_pos hl
    have HD2 := hide (HD.out hl)
    rw [hl] at HT
    generalize sizeOf t = z at *
    generalize (allOf t).length = y at *
    clear hl HD
    go_enter Try.func12, Try.ntmps12
    go_wp2_with fail
    refine (HT.out _ B0.out).mono ?_
    generalize w.alloc (.cells #[.slice ko t.keys.length kc, .slice vo t.vals.length vc, .slice xo t.kids.length xc] 30) = W0 at *
    rintro e w1 ⟨rfl, b1⟩
    obtain ⟨x0, x1, x2, xf⟩ := cells3 ((b1.block w.heap.size (by rw [HZ.out]; omega)).trans X0.out)
    have B1 := hide (B0.out.trans (b1.mono B0.out.size))
    clear b1 HT B0 X0
    go_wp2_with fail
    refine (HD2.out _ B1.out).mono ?_
    rintro e w2 ⟨rfl, b2⟩
    have B2 := hide (B1.out.trans (b2.mono B1.out.size))
    clear b2 HD2 B1
    go_wp2
    go_ret
    exact ⟨by rw [HE.out]; rfl, B2.out⟩
  · have HE : Hid (sizeOf t = 0) := if_neg hl
    rw [Bool.not_eq_true] at hl
    rw [hl] at HT
    generalize sizeOf t = z at *
    clear hl HD
    go_enter Try.func12, Try.ntmps12
    go_wp2_with fail
    refine (HT.out _ B0.out).mono ?_
    generalize w.alloc (.cells #[.slice ko t.keys.length kc, .slice vo t.vals.length vc, .slice xo t.kids.length xc] 30) = W0 at *
    rintro e w1 ⟨rfl, b1⟩
    have B1 := hide (B0.out.trans (b1.mono B0.out.size))
    clear b1 HT B0 X0
    go_wp2
    go_ret
    exact ⟨by rw [HE.out]; rfl, B1.out⟩
end Go.Proofs.Ytffgobkgkhmeoaa
