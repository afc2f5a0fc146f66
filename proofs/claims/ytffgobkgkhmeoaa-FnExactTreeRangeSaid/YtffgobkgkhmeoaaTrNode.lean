/-
  Contracts: the program's look at a tree's shape.
-/
import Derived.Test.YtffgobkgkhmeoaaTrSz
import Derived.Test.YtffgobkgkhmeoaaLong
namespace Go.Proofs.Ytffgobkgkhmeoaa
open Go.RowKit
set_option maxRecDepth 100000

/-- A tree whose root lies at a place of a block. -/
def TrAt (w : World) (A B n : Nat) (t : Tr) (g o : Nat) : Prop := g < B ∧ ∃ ko kc vo vc xo xc, w.cell? ⟨g, o, none⟩ = some (.slice ko t.keys.length kc) ∧ w.cell? ⟨g, o + 1, none⟩ = some (.slice vo t.vals.length vc) ∧ w.cell? ⟨g, o + 2, none⟩ = some (.slice xo t.kids.length xc) ∧ TrRow w A B n t ko vo xo
theorem TrAt.kept {w w' : World} {A B n : Nat} {t : Tr} {g o : Nat} (h : TrAt w A B n t g o) (hb : Below B w w') : TrAt w' A B n t g o := by
  obtain ⟨hg, ko, kc, vo, vc, xo, xc, c0, c1, c2, hr⟩ := h
  exact ⟨hg, ko, kc, vo, vc, xo, xc, (hb.cell (p := ⟨g, _, none⟩) hg).trans c0, (hb.cell (p := ⟨g, _, none⟩) hg).trans c1, (hb.cell (p := ⟨g, _, none⟩) hg).trans c2, TrRow.kept hb n _ _ _ _ hr⟩
theorem TrAt.mono {w : World} {A B C n : Nat} {t : Tr} {g o : Nat} (h : TrAt w A B n t g o) (hC : B ≤ C) : TrAt w A C n t g o := by
  obtain ⟨hg, ko, kc, vo, vc, xo, xc, c0, c1, c2, hr⟩ := h
  exact ⟨by omega, ko, kc, vo, vc, xo, xc, c0, c1, c2, TrRow.mono (Nat.le_refl _) hC n _ _ _ _ hr⟩
theorem KidRow.kid {w : World} {A B n : Nat} {xo : Option Addr} {cs : List Tr} (h : KidRow w A B (TrRow w A B n) xo cs) (k : Nat) (hk : k < cs.length) : ∃ b off, xo = some ⟨b, off, none⟩ ∧ TrAt w A B n (cs.getD k noTr) b (off + k * 3) := by
  obtain ⟨b, off, ko, kc, vo, vc, yo, yc, ks, vs, ds, e, hb, ht, hp, c0, c1, c2⟩ := h.at k hk
  exact ⟨b, off, e, hb, ko, kc, vo, vc, yo, yc, by rw [ht]; exact c0, by rw [ht]; exact c1, by rw [ht]; exact c2, by rw [ht]; exact hp⟩
theorem all_take_succ (l : List ByteArray) (p : ByteArray → Bool) (k : Nat) (h : k < l.length) : (l.take (k + 1)).all p = ((l.take k).all p && p (l.getD k ByteArray.empty)) := by
  rw [List.take_succ_eq_append_getElem h, List.all_append, List.getD_eq_getElem?_getD, List.getElem?_eq_getElem h]; simp
theorem all_false_at (l : List ByteArray) (p : ByteArray → Bool) (k : Nat) (h : k < l.length) (hp : p (l.getD k ByteArray.empty) = false) : l.all p = false := by
  rw [Bool.eq_false_iff]; intro e
  have := (all_getD l ByteArray.empty p).1 e k h
  rw [hp] at this; cases this
set_option maxHeartbeats 2000000 in
theorem indexLong_any (A B : Nat) (ao : Option Addr) (cap : Nat) (l : List ByteArray) (w : World) (hB : B ≤ w.heap.size) (hl : l.length ≤ 1048576) (hr : StrRow w A B ao l) :
    Calls Try.prog 42 #[.slice ao l.length cap, .func (.func 33) #[] #[]] w fun e w' => ∃ r : Int, e = .returned (.int .i64 r) ∧ Hid (decide (0 ≤ r) = !l.all short) ∧ w' = w := by
  have HR := hide hr
  clear hr
  go_enter Try.func42, Try.ntmps42
  go_wp2
  go_loopw [8] (fun i wr => ∃ k : Nat, k ≤ l.length ∧ i = .int .i64 k ∧ Hid ((l.take k).all short = true) ∧ wr = w) (fun i _ => l.length - (intOf i).toNat)
  case atStart => exact ⟨0, Nat.zero_le _, rfl, (by show _ = _; rfl), rfl⟩
  case round =>
    obtain ⟨k, hk, rfl, HS, rfl⟩ := hrel
    by_cases hlt : k < l.length
    · obtain ⟨b, off, x, rfl, hbB, hv, hx, d0⟩ := HR.out.at k hlt
      have HV := hide hv
      clear hv hx
      by_cases hs : x.size ≤ 20000
      · have HS2 : Hid ((l.take (k + 1)).all short = true) := by show _ = _; rw [all_take_succ l short k hlt, HS.out, HV.out]; simp [short, hs]
        have HT := hide (fun W => tooLong_no x hs W)
        clear HS HV hs
        go_wp2_with (first | (go_at_call 33; refine (HT.out _).mono ?_; rintro e w1 ⟨rfl, rfl⟩))
        go_roundw
        case rel => exact ⟨k + 1, by omega, by go_num, HS2, by first | trivial | rfl⟩
        case measure => simp [intOf]; omega
      · have HF : Hid (decide (0 ≤ (k : Int)) = !l.all short) := by show _ = _; rw [all_false_at l short k hlt (by rw [HV.out]; simp [short, hs])]; simp
        have HT := hide (fun W => tooLong_yes x (by omega) W)
        clear HS HV hs
        go_wp2_with (first | (go_at_call 33; refine (HT.out _).mono ?_; rintro e w1 ⟨rfl, rfl⟩))
        go_ret
        exact ⟨_, rfl, HF, rfl⟩
    · obtain rfl : k = l.length := by omega
      have HF : Hid (decide ((0 : Int) ≤ -1) = !l.all short) := by show _ = _; have := HS.out; rw [List.take_length] at this; rw [this]; rfl
      go_wp2
      go_ret
      exact ⟨_, rfl, HF, rfl⟩
set_option maxHeartbeats 1000000 in
theorem containsLong_any (A B : Nat) (ao : Option Addr) (cap : Nat) (l : List ByteArray) (w : World) (hB : B ≤ w.heap.size) (hl : l.length ≤ 1048576) (hr : StrRow w A B ao l) :
    Calls Try.prog 41 #[.slice ao l.length cap, .func (.func 33) #[] #[]] w fun e w' => e = .returned (.bool (!l.all short)) ∧ w' = w := by
  have HC := hide (indexLong_any A B ao cap l w hB hl hr)
  clear hr
  go_enter Try.func41, Try.ntmps41
  go_wp2_with fail
  refine HC.out.mono ?_
  rintro e w1 ⟨r, rfl, HD, rfl⟩
  clear HC
  go_wp2
  go_ret
  exact ⟨by rw [← HD.out]; rfl, rfl⟩
theorem nodeOk_no {t : Tr} (h : t.keys.length < 1 ∨ 3 < t.keys.length ∨ t.vals.length ≠ t.keys.length ∨ (t.kids.length ≠ 0 ∧ t.kids.length ≠ t.keys.length + 1)) : nodeOk t = false := by
  rw [Bool.eq_false_iff]
  intro e
  unfold nodeOk at e
  simp only [Bool.and_eq_true, decide_eq_true_eq, Bool.or_eq_true] at e
  omega
theorem nodeOk_rest {t : Tr} (h1 : 1 ≤ t.keys.length) (h2 : t.keys.length ≤ 3) (h3 : t.vals.length = t.keys.length) (h4 : t.kids.length = 0 ∨ t.kids.length = t.keys.length + 1) : nodeOk t = (t.keys.all short && t.vals.all short) := by
  unfold nodeOk
  rw [decide_eq_true h1, decide_eq_true h2, decide_eq_true h3]
  rcases h4 with h4 | h4
  · rw [decide_eq_true h4]; simp
  · rw [decide_eq_true h4]; simp
set_option maxHeartbeats 4000000 in
theorem nodeRight_any (A B n : Nat) (t : Tr) (g o : Nat) (w : World) (hB : B ≤ w.heap.size) (h : TrAt w A B n t g o) :
    Calls Try.prog 40 #[.pointer (some ⟨g, o, none⟩)] w fun e w' => e = .returned (.bool (nodeOk t)) ∧ w' = w := by
  obtain ⟨hg, ko, kc, vo, vc, xo, xc, c0, c1, c2, hr⟩ := h
  obtain ⟨ks, vs, cs⟩ := t
  simp only [Tr.keys, Tr.vals, Tr.kids] at c0 c1 c2
  cases n with
  | zero => exact hr.elim
  | succ n =>
    obtain ⟨hlen, hk, hv, _⟩ := hr
    simp only [Tr.keys, Tr.vals, Tr.kids] at hlen hk hv
    unfold maxLen at hlen
    obtain ⟨hl1, hl2, hl3⟩ := hlen
    by_cases h1 : ks.length < 1
    · have HN := hide (nodeOk_no (t := .node ks vs cs) (.inl h1))
      have e1 : (ks.length : Int) < 1 := by omega
      go_enter Try.func40, Try.ntmps40
      go_wp2
      go_ret
      exact ⟨by rw [HN.out]; rfl, rfl⟩
    by_cases h2 : 3 < ks.length
    · have HN := hide (nodeOk_no (t := .node ks vs cs) (.inr (.inl h2)))
      have e1 : ¬ (ks.length : Int) < 1 := by omega
      have e2 : 3 < (ks.length : Int) := by omega
      go_enter Try.func40, Try.ntmps40
      go_wp2
      go_ret
      exact ⟨by rw [HN.out]; rfl, rfl⟩
    by_cases h3 : vs.length ≠ ks.length
    · have HN := hide (nodeOk_no (t := .node ks vs cs) (.inr (.inr (.inl h3))))
      have e1 : ¬ (ks.length : Int) < 1 := by omega
      have e2 : ¬ 3 < (ks.length : Int) := by omega
      have e3 : ¬ (vs.length : Int) = (ks.length : Int) := by omega
      go_enter Try.func40, Try.ntmps40
      go_wp2
      go_ret
      exact ⟨by rw [HN.out]; rfl, rfl⟩
    by_cases h4 : cs.length ≠ 0 ∧ cs.length ≠ ks.length + 1
    · have HN := hide (nodeOk_no (t := .node ks vs cs) (.inr (.inr (.inr h4))))
      have e1 : ¬ (ks.length : Int) < 1 := by omega
      have e2 : ¬ 3 < (ks.length : Int) := by omega
      have e3 : (vs.length : Int) = (ks.length : Int) := by omega
      have e4 : ((cs.length : Int) != 0) = true := by rw [bne_iff_ne]; omega
      have e5 : ((cs.length : Int) != (ks.length : Int) + 1) = true := by rw [bne_iff_ne]; omega
      go_enter Try.func40, Try.ntmps40
      go_wp2
      go_ret
      exact ⟨by rw [HN.out]; rfl, rfl⟩
    · have HN : Hid (nodeOk (.node ks vs cs) = (ks.all short && vs.all short)) := nodeOk_rest (t := .node ks vs cs) (by simp only [Tr.keys]; omega) (by simp only [Tr.keys]; omega) (by simp only [Tr.keys, Tr.vals]; omega) (by simp only [Tr.keys, Tr.kids]; omega)
      have HK := hide (containsLong_any A B ko kc ks w hB (by omega) hk)
      have HV := hide (containsLong_any A B vo vc vs w hB (by omega) hv)
      have e1 : ¬ (ks.length : Int) < 1 := by omega
      have e2 : ¬ 3 < (ks.length : Int) := by omega
      have e3 : (vs.length : Int) = (ks.length : Int) := by omega
      generalize ks.all short = qk at *
      generalize vs.all short = qv at *
      clear hk hv
      by_cases h5 : cs.length = 0
      · have e4 : (cs.length : Int) = 0 := by omega
        cases qk with
        | false =>
          go_enter Try.func40, Try.ntmps40
          go_wp2_with fail
          refine HK.out.mono ?_
          rintro e w1 ⟨rfl, rfl⟩
          go_wp2
          go_ret
          exact ⟨by rw [HN.out]; rfl, rfl⟩
        | true =>
          go_enter Try.func40, Try.ntmps40
          go_wp2_with fail
          refine HK.out.mono ?_
          rintro e w1 ⟨rfl, rfl⟩
          go_wp2_with fail
          refine HV.out.mono ?_
          rintro e w2 ⟨rfl, rfl⟩
          go_wp2
          go_ret
          exact ⟨by rw [HN.out]; cases qv <;> rfl, rfl⟩
      · have e4 : ¬ (cs.length : Int) = 0 := by omega
        have e5 : (cs.length : Int) = (ks.length : Int) + 1 := by omega
        cases qk with
        | false =>
          go_enter Try.func40, Try.ntmps40
          go_wp2_with fail
          refine HK.out.mono ?_
          rintro e w1 ⟨rfl, rfl⟩
          go_wp2
          go_ret
          exact ⟨by rw [HN.out]; rfl, rfl⟩
        | true =>
          go_enter Try.func40, Try.ntmps40
          go_wp2_with fail
          refine HK.out.mono ?_
          rintro e w1 ⟨rfl, rfl⟩
          go_wp2_with fail
          refine HV.out.mono ?_
          rintro e w2 ⟨rfl, rfl⟩
          go_wp2
          go_ret
          exact ⟨by rw [HN.out]; cases qv <;> rfl, rfl⟩
end Go.Proofs.Ytffgobkgkhmeoaa
