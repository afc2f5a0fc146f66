/-
  Contracts: the specification's look at a tree, node by node.
-/
import Derived.Test.YtffgobkgkhmeoaaTrSz
namespace Go.Proofs.Ytffgobkgkhmeoaa
open Go.RowKit
set_option maxRecDepth 100000
set_option linter.unusedVariables false

def optB (h : Bool) (s : ByteArray) : Option ByteArray := match h with | true => some s | false => none
theorem StrRow.cellAt {w : World} {A B b off : Nat} {l : List ByteArray} (h : StrRow w A B (some ⟨b, off, none⟩) l) (k : Nat) (hk : k < l.length) : w.cell? ⟨b, off + k, none⟩ = some (.string (l.getD k ByteArray.empty)) := by
  rcases h.2 with h0 | ⟨b', off', e, _, _, hc⟩
  · omega
  · simp only [Option.some.injEq, Addr.mk.injEq, and_true] at e
    obtain ⟨rfl, rfl⟩ := e
    exact hc k hk
theorem keyS_eq (ks vs : List ByteArray) (cs : List Tr) (lo hi : Option ByteArray) (k : Nat) : keyS (.node ks vs cs) lo hi k = (short (ks.getD k ByteArray.empty) && short (vs.getD k ByteArray.empty) && (decide (k = 0) || lt' (ks.getD (k - 1) ByteArray.empty) (ks.getD k ByteArray.empty)) && above lo (ks.getD k ByteArray.empty) && under (ks.getD k ByteArray.empty) hi) := rfl
theorem a5_1 {a b c d e : Bool} (h : a = false) : (a && b && c && d && e) = false := by rw [h]; rfl
theorem a5_2 {a b c d e : Bool} (h : b = false) : (a && b && c && d && e) = false := by rw [h]; cases a <;> rfl
theorem a5_3 {a b c d e : Bool} (h : c = false) : (a && b && c && d && e) = false := by rw [h]; cases a <;> cases b <;> rfl
theorem a5_4 {a b c d e : Bool} (h : d = false) : (a && b && c && d && e) = false := by rw [h]; cases a <;> cases b <;> cases c <;> rfl
theorem a5_5 {a b c d e : Bool} (h : e = false) : (a && b && c && d && e) = false := by rw [h]; cases a <;> cases b <;> cases c <;> cases d <;> rfl
theorem a5_t {a b c d e : Bool} (h1 : a = true) (h2 : b = true) (h3 : c = true) (h4 : d = true) (h5 : e = true) : (a && b && c && d && e) = true := by rw [h1, h2, h3, h4, h5]; rfl
theorem or_no {k : Nat} {c : Bool} (h : c = false) : (decide (k + 1 = 0) || c) = false := by rw [h]; simp
theorem or_yes {k : Nat} {c : Bool} (h : c = true) : (decide (k = 0) || c) = true := by rw [h]; simp
theorem nodeS_no {root : Bool} {t : Tr} (h : 3 < t.keys.length ∨ (root = false ∧ t.keys.length = 0) ∨ t.vals.length ≠ t.keys.length ∨ (t.kids.length ≠ 0 ∧ (t.kids.length ≠ t.keys.length + 1 ∨ t.keys.length = 0))) : nodeS root t = false := by
  rw [Bool.eq_false_iff]
  intro e
  unfold nodeS at e
  simp only [Bool.and_eq_true, decide_eq_true_eq, Bool.or_eq_true] at e
  obtain ⟨⟨⟨h1, h2⟩, h3⟩, h4⟩ := e
  rcases h with h | ⟨h, h'⟩ | h | ⟨h, h'⟩
  · omega
  · subst h
    rcases h2 with h2 | h2
    · cases h2
    · omega
  · omega
  · omega
theorem nodeS_yes {root : Bool} {t : Tr} (h : nodeS root t = true) : t.keys.length ≤ 3 ∧ (root = true ∨ 1 ≤ t.keys.length) ∧ t.vals.length = t.keys.length ∧ (t.kids.length = 0 ∨ (t.kids.length = t.keys.length + 1 ∧ 1 ≤ t.keys.length)) := by
  unfold nodeS at h
  simp only [Bool.and_eq_true, decide_eq_true_eq, Bool.or_eq_true] at h
  exact ⟨h.1.1.1, h.1.1.2, h.1.2, h.2⟩
theorem okS_node {d : Nat} {root : Bool} {t : Tr} {lo hi : Option ByteArray} (h : nodeS root t = false) : okS (d + 1) root t lo hi = false := by simp [okS, h]
theorem okS_deep {d : Nat} {root : Bool} {t : Tr} {lo hi : Option ByteArray} (h : ¬ (t.kids.length = 0 ↔ d = 0)) : okS (d + 1) root t lo hi = false := by
  have : (decide (t.kids.length = 0) == decide (d = 0)) = false := by
    rw [beq_eq_false_iff_ne]; intro e; rw [decide_eq_decide] at e; exact h e
  simp only [okS, this, Bool.and_false, Bool.false_and]
theorem okS_rest' {d : Nat} {root : Bool} {t : Tr} {lo hi : Option ByteArray} (h : nodeS root t = true) (hd : t.kids.length = 0 ↔ d = 0) : okS (d + 1) root t lo hi = (upto (keyS t lo hi) t.keys.length && upto (fun i => okS d false (t.kids.getD i noTr) (loB lo t.keys i) (hiB hi t.keys i)) t.kids.length) := by
  have : (decide (t.kids.length = 0) == decide (d = 0)) = true := by rw [beq_iff_eq, decide_eq_decide]; exact hd
  simp only [okS, h, this, Bool.true_and]
theorem okS_rest {d : Nat} {root : Bool} {ks vs : List ByteArray} {cs : List Tr} {lo hi : Option ByteArray} (h : nodeS root (.node ks vs cs) = true) (hd : cs.length = 0 ↔ d = 0) : okS (d + 1) root (.node ks vs cs) lo hi = (upto (keyS (.node ks vs cs) lo hi) ks.length && upto (fun i => okS d false (cs.getD i noTr) (loB lo ks i) (hiB hi ks i)) cs.length) := okS_rest' (t := .node ks vs cs) h hd
set_option maxHeartbeats 4000000 in
theorem ok_node_no (A B n d : Nat) (ko : Option Addr) (kc : Nat) (vo : Option Addr) (vc : Nat) (xo : Option Addr) (xc : Nat) (ks vs : List ByteArray) (cs : List Tr) (root : Bool) (ls : ByteArray) (hl : Bool) (hs : ByteArray) (hh : Bool) (w : World) (hd : d ≤ 12) (hlen : ks.length ≤ maxLen ∧ vs.length ≤ maxLen ∧ cs.length ≤ maxLen) (hno : nodeS root (.node ks vs cs) = false) :
    Calls Try.prog 25 #[.agg #[.slice ko ks.length kc, .slice vo vs.length vc, .slice xo cs.length xc], .bool root, .int .i64 ((d + 1 : Nat) : Int), .string ls, .bool hl, .string hs, .bool hh] w fun e w' =>  e = .returned (.bool false) ∧ Below w.heap.size w w' := by
  unfold maxLen at hlen
  obtain ⟨hl1, hl2, hl3⟩ := hlen
  have B0 := hide ((Below.refl w.heap.size w).alloc (Nat.le_refl _) (.cells #[.slice ko ks.length kc, .slice vo vs.length vc, .slice xo cs.length xc] 30))
  by_cases h1 : 3 < ks.length
  · have e1 : 3 < (ks.length : Int) := by omega
    clear hno h1
    go_enter Try.func25, Try.ntmps25
    go_wp2
    go_ret
    exact ⟨rfl, B0.out⟩
  by_cases h2 : root = false ∧ ks.length = 0
  · obtain ⟨rfl, h2⟩ := h2
    have e1 : ¬ 3 < (ks.length : Int) := by omega
    have e2 : ((ks.length : Int) == 0) = true := by rw [beq_iff_eq]; omega
    clear hno h1 h2
    go_enter Try.func25, Try.ntmps25
    go_wp2
    go_ret
    exact ⟨rfl, B0.out⟩
  by_cases h3 : vs.length ≠ ks.length
  · have e1 : ¬ 3 < (ks.length : Int) := by omega
    have e3 : ((vs.length : Int) != (ks.length : Int)) = true := by rw [bne_iff_ne]; omega
    clear hno h3
    by_cases h0 : ks.length = 0
    · have e2 : ((ks.length : Int) == 0) = true := by rw [beq_iff_eq]; omega
      obtain rfl : root = true := by cases root with | true => rfl | false => exact absurd ⟨rfl, h0⟩ h2
      clear h0 h2 h1
      go_enter Try.func25, Try.ntmps25
      go_wp2
      go_ret
      exact ⟨rfl, B0.out⟩
    · have e2 : ((ks.length : Int) == 0) = false := by rw [beq_eq_false_iff_ne]; omega
      clear h0 h2 h1
      go_enter Try.func25, Try.ntmps25
      go_wp2
      go_ret
      exact ⟨rfl, B0.out⟩
  have e1 : ¬ 3 < (ks.length : Int) := by omega
  have e3 : ((vs.length : Int) != (ks.length : Int)) = false := by rw [bne_eq_false_iff_eq]; omega
  by_cases h4 : cs.length = 0
  · exfalso
    have : nodeS root (.node ks vs cs) = true := by
      unfold nodeS
      simp only [Bool.and_eq_true, decide_eq_true_eq, Bool.or_eq_true]
      refine ⟨⟨⟨show ks.length ≤ 3 by omega, ?_⟩, show vs.length = ks.length by omega⟩, .inl h4⟩
      cases root with
      | true => exact .inl rfl
      | false => exact .inr (show 1 ≤ ks.length by have : ¬ ks.length = 0 := fun e => h2 ⟨rfl, e⟩; omega)
    rw [hno] at this; cases this
  have e4 : ((cs.length : Int) != 0) = true := by rw [bne_iff_ne]; omega
  by_cases h0 : ks.length = 0
  · have e2 : ((ks.length : Int) == 0) = true := by rw [beq_iff_eq]; omega
    obtain rfl : root = true := by cases root with | true => rfl | false => exact absurd ⟨rfl, h0⟩ h2
    have hvl : vs.length = 0 := by omega
    by_cases h5 : cs.length = 1
    · have e5 : ((cs.length : Int) != (ks.length : Int) + 1) = false := by rw [bne_eq_false_iff_eq]; omega
      clear hno h1 h2 h3 h4 h0 h5 hvl
      go_enter Try.func25, Try.ntmps25
      go_wp2
      go_ret
      exact ⟨rfl, B0.out⟩
    · have e5 : ((cs.length : Int) != (ks.length : Int) + 1) = true := by rw [bne_iff_ne]; omega
      clear hno h1 h2 h3 h4 h0 h5 hvl
      go_enter Try.func25, Try.ntmps25
      go_wp2
      go_ret
      exact ⟨rfl, B0.out⟩
  · have e2 : ((ks.length : Int) == 0) = false := by rw [beq_eq_false_iff_ne]; omega
    by_cases h5 : cs.length = ks.length + 1
    · exfalso
      have : nodeS root (.node ks vs cs) = true := by
        unfold nodeS
        simp only [Bool.and_eq_true, decide_eq_true_eq, Bool.or_eq_true]
        exact ⟨⟨⟨show ks.length ≤ 3 by omega, .inr (show 1 ≤ ks.length by omega)⟩, show vs.length = ks.length by omega⟩, .inr ⟨h5, show 1 ≤ ks.length by omega⟩⟩
      rw [hno] at this; cases this
    · have e5 : ((cs.length : Int) != (ks.length : Int) + 1) = true := by rw [bne_iff_ne]; omega
      clear hno h1 h2 h3 h4 h0 h5
      go_enter Try.func25, Try.ntmps25
      go_wp2
      go_ret
      exact ⟨rfl, B0.out⟩
set_option maxHeartbeats 4000000 in
theorem ok_deep_no (A B n d : Nat) (ko : Option Addr) (kc : Nat) (vo : Option Addr) (vc : Nat) (xo : Option Addr) (xc : Nat) (ks vs : List ByteArray) (cs : List Tr) (root : Bool) (ls : ByteArray) (hl : Bool) (hs : ByteArray) (hh : Bool) (w : World) (hd : d ≤ 12) (hlen : ks.length ≤ maxLen ∧ vs.length ≤ maxLen ∧ cs.length ≤ maxLen) (hyes : nodeS root (.node ks vs cs) = true) (hno : ¬ (cs.length = 0 ↔ d = 0)) :
    Calls Try.prog 25 #[.agg #[.slice ko ks.length kc, .slice vo vs.length vc, .slice xo cs.length xc], .bool root, .int .i64 ((d + 1 : Nat) : Int), .string ls, .bool hl, .string hs, .bool hh] w fun e w' =>  e = .returned (.bool false) ∧ Below w.heap.size w w' := by
  unfold maxLen at hlen
  obtain ⟨hl1, hl2, hl3⟩ := hlen
  have B0 := hide ((Below.refl w.heap.size w).alloc (Nat.le_refl _) (.cells #[.slice ko ks.length kc, .slice vo vs.length vc, .slice xo cs.length xc] 30))
  obtain ⟨g1, g2, g3, g4⟩ := nodeS_yes hyes
  change ks.length ≤ 3 at g1
  change root = true ∨ 1 ≤ ks.length at g2
  change vs.length = ks.length at g3
  change cs.length = 0 ∨ (cs.length = ks.length + 1 ∧ 1 ≤ ks.length) at g4
  by_cases hc : cs.length = 0
  · have hd0 : ¬ d = 0 := fun e => hno ⟨fun _ => e, fun _ => hc⟩
    by_cases h0 : ks.length = 0
    · obtain rfl : root = true := by rcases g2 with h | h; exact h; omega
      have e1 : ¬ 3 < (ks.length : Int) := by omega
      have e3 : ((vs.length : Int) != (ks.length : Int)) = false := by rw [bne_eq_false_iff_eq]; omega
      have e2 : ((ks.length : Int) == 0) = true := by rw [beq_iff_eq]; omega
      have e4 : ((cs.length : Int) != 0) = false := by rw [bne_eq_false_iff_eq]; omega
      have e6 : ((cs.length : Int) == 0) = true := by rw [beq_iff_eq]; omega
      have e7 : ((d : Int) + 1 == 1) = false := by rw [beq_eq_false_iff_ne]; omega
      clear hyes hno g1 g2 g3 g4 hc hd0 h0
      go_enter Try.func25, Try.ntmps25
      go_wp2
      go_ret
      exact ⟨rfl, B0.out⟩
    · skip
      have e1 : ¬ 3 < (ks.length : Int) := by omega
      have e3 : ((vs.length : Int) != (ks.length : Int)) = false := by rw [bne_eq_false_iff_eq]; omega
      have e2 : ((ks.length : Int) == 0) = false := by rw [beq_eq_false_iff_ne]; omega
      have e4 : ((cs.length : Int) != 0) = false := by rw [bne_eq_false_iff_eq]; omega
      have e6 : ((cs.length : Int) == 0) = true := by rw [beq_iff_eq]; omega
      have e7 : ((d : Int) + 1 == 1) = false := by rw [beq_eq_false_iff_ne]; omega
      clear hyes hno g1 g2 g3 g4 hc hd0 h0
      go_enter Try.func25, Try.ntmps25
      go_wp2
      go_ret
      exact ⟨rfl, B0.out⟩
  · have hd0 : d = 0 := by
      by_cases e : d = 0
      · exact e
      · exact absurd ⟨fun h => absurd h hc, fun h => absurd h e⟩ hno
    have e1 : ¬ 3 < (ks.length : Int) := by omega
    have e3 : ((vs.length : Int) != (ks.length : Int)) = false := by rw [bne_eq_false_iff_eq]; omega
    have e2 : ((ks.length : Int) == 0) = false := by rw [beq_eq_false_iff_ne]; omega
    have e4 : ((cs.length : Int) != 0) = true := by rw [bne_iff_ne]; omega
    have e5 : ((cs.length : Int) != (ks.length : Int) + 1) = false := by rw [bne_eq_false_iff_eq]; omega
    have e6 : ((cs.length : Int) == 0) = false := by rw [beq_eq_false_iff_ne]; omega
    have e7 : ((d : Int) + 1 == 1) = true := by rw [beq_iff_eq]; omega
    clear hyes hno g1 g2 g3 g4 hc hd0
    go_enter Try.func25, Try.ntmps25
    go_wp2
    go_ret
    exact ⟨rfl, B0.out⟩
set_option maxHeartbeats 4000000 in
theorem ok_none (A B n d : Nat) (ko : Option Addr) (kc : Nat) (vo : Option Addr) (vc : Nat) (xo : Option Addr) (xc : Nat) (ks vs : List ByteArray) (cs : List Tr) (root : Bool) (ls : ByteArray) (hl : Bool) (hs : ByteArray) (hh : Bool) (w : World) (hd : d ≤ 12) (hks : ks.length = 0) (hyes : nodeS root (.node ks vs cs) = true) (hdd : cs.length = 0 ↔ d = 0) :
    Calls Try.prog 25 #[.agg #[.slice ko ks.length kc, .slice vo vs.length vc, .slice xo cs.length xc], .bool root, .int .i64 ((d + 1 : Nat) : Int), .string ls, .bool hl, .string hs, .bool hh] w fun e w' =>  e = .returned (.bool true) ∧ Below w.heap.size w w' := by
  have B0 := hide ((Below.refl w.heap.size w).alloc (Nat.le_refl _) (.cells #[.slice ko ks.length kc, .slice vo vs.length vc, .slice xo cs.length xc] 30))
  obtain ⟨g1, g2, g3, g4⟩ := nodeS_yes hyes
  change root = true ∨ 1 ≤ ks.length at g2
  change vs.length = ks.length at g3
  change cs.length = 0 ∨ (cs.length = ks.length + 1 ∧ 1 ≤ ks.length) at g4
  obtain rfl : root = true := by rcases g2 with h | h; exact h; omega
  have hc : cs.length = 0 := by omega
  have hd0 : d = 0 := hdd.1 hc
  have e1 : ¬ 3 < (ks.length : Int) := by omega
  have e3 : ((vs.length : Int) != (ks.length : Int)) = false := by rw [bne_eq_false_iff_eq]; omega
  have e2 : ((ks.length : Int) == 0) = true := by rw [beq_iff_eq]; omega
  have e4 : ((cs.length : Int) != 0) = false := by rw [bne_eq_false_iff_eq]; omega
  have e6 : ((cs.length : Int) == 0) = true := by rw [beq_iff_eq]; omega
  have e7 : ((d : Int) + 1 == 1) = true := by rw [beq_iff_eq]; omega
  have X0 := hide (heap_alloc_new w (.cells #[.slice ko ks.length kc, .slice vo vs.length vc, .slice xo cs.length xc] 30))
  obtain ⟨x0, x1, x2, xf⟩ := cells3 X0.out
  have i1 : ¬ 0 < (ks.length : Int) := by omega
  have i2 : ¬ 0 < (cs.length : Int) := by omega
  have HW := hide (show ∀ W : World, Hid (W = W) from fun _ => rfl)
  clear hyes hdd g1 g2 g3 g4 hc hd0 hks
  go_enter Try.func25, Try.ntmps25
  go_wp2
  generalize w.alloc (.cells #[.slice ko ks.length kc, .slice vo vs.length vc, .slice xo cs.length xc] 30) = W0 at *
  go_loopw [16] (fun i wr => i = .int .i64 0 ∧ Hid (wr = W0)) (fun i _ => 0)
  case atStart => exact ⟨rfl, rfl⟩
  case round =>
    obtain ⟨rfl, HR⟩ := hrel
    obtain rfl : wr = W0 := HR.out
    go_wp2
    go_loopw [18] (fun i wq => i = .int .i64 0 ∧ Hid (wq = wr)) (fun i _ => 0)
    case atStart => exact ⟨rfl, rfl⟩
    case round =>
      obtain ⟨rfl, HR2⟩ := hrel
      have hEq := HR2.out
      subst hEq
      go_wp2
      go_ret
      exact ⟨rfl, B0.out⟩
end Go.Proofs.Ytffgobkgkhmeoaa
