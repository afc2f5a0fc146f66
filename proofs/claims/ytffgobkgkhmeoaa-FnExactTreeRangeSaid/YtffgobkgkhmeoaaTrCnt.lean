/-
  Contracts: the sizes of trees, as the laws count them, with how many texts they have.
-/
import Derived.Test.YtffgobkgkhmeoaaTrSz
namespace Go.Proofs.Ytffgobkgkhmeoaa
open Go.RowKit
set_option maxRecDepth 100000

def cntTo (f : Nat → Nat) : Nat → Nat
  | 0 => 0
  | k + 1 => cntTo f k + f k
/-- How many texts a tree has. -/
def trCnt : Nat → Tr → Nat
  | 0, _ => 0
  | n + 1, t => t.keys.length + t.vals.length + cntTo (fun i => trCnt n (t.kids.getD i noTr)) t.kids.length
theorem cntTo_le (f : Nat → Nat) : ∀ (n k : Nat), k ≤ n → cntTo f k ≤ cntTo f n
  | 0, k, h => by obtain rfl : k = 0 := by omega
                  exact Nat.le_refl _
  | n + 1, k, h => by
    by_cases he : k = n + 1
    · subst he; exact Nat.le_refl _
    · have := cntTo_le f n k (by omega)
      simp only [cntTo]; omega
set_option maxHeartbeats 1000000 in
theorem szStringS_cnt (A B : Nat) (ao : Option Addr) (cap : Nat) (l : List ByteArray) (left : Int) (w : World) (hB : B ≤ w.heap.size) (hl : l.length ≤ maxLen) (hr : StrRow w A B ao l) (h0 : 0 ≤ left) (h1 : left ≤ 1048576) :
    Calls Try.prog 22 #[.slice ao l.length cap, .int .i64 left] w fun e w' => ∃ r : Int, e = .returned (.int .i64 r) ∧ r ≤ left ∧ (r < 0 ∨ 0 ≤ r ∧ l.length ≤ 1048576 ∧ r + l.length ≤ left) ∧ Below w.heap.size w w' := by
  unfold maxLen at hl
  by_cases hlong : left < l.length
  · go_enter Try.func22, Try.ntmps22
    go_wp2
    go_ret
    exact ⟨-1, rfl, by omega, .inl (by omega), Below.refl _ _⟩
  · have HR := hide hr
    clear hr
    go_enter Try.func22, Try.ntmps22
    go_wp2
    go_loopw [1, 5] (fun x i wr => ∃ (k : Nat) (r : Int), k ≤ l.length ∧ i = .int .i64 k ∧ x = .int .i64 r ∧ 0 ≤ r ∧ r + l.length ≤ left ∧ Below w.heap.size w wr) (fun _ i _ => l.length - (intOf i).toNat)
    case atStart => exact ⟨0, left - l.length, Nat.zero_le _, rfl, rfl, by omega, by omega, Below.refl _ _⟩
    case round =>
      obtain ⟨k, r, hk, rfl, rfl, hr0, hr1, hb⟩ := hrel
      by_cases hlt : k < l.length
      · obtain ⟨b, off, x, rfl, hbB, hv, hx, d0⟩ := (HR.out.kept (hb.mono hB)).at k hlt
        clear hv
        unfold maxLen at hx
        by_cases hs : r < x.size
        · go_wp2
          go_ret
          exact ⟨-1, rfl, by omega, .inl (by omega), hb⟩
        · go_wp2
          go_roundw
          case rel => exact ⟨k + 1, r - x.size, by omega, by go_num, by go_num, by omega, by omega, hb⟩
          case measure => simp [intOf]; omega
      · go_wp2
        go_ret
        exact ⟨r, rfl, by omega, .inr ⟨hr0, by omega, hr1⟩, hb⟩
def szC (n : Nat) : Prop := ∀ (A B : Nat) (ko : Option Addr) (kc : Nat) (vo : Option Addr) (vc : Nat) (xo : Option Addr) (xc : Nat) (t : Tr) (left : Int) (w : World), B ≤ w.heap.size → TrRow w A B n t ko vo xo → 0 ≤ left → left ≤ 1048576 →
    Calls Try.prog 7 #[.agg #[.slice ko t.keys.length kc, .slice vo t.vals.length vc, .slice xo t.kids.length xc], .int .i64 left] w fun e w' => ∃ r : Int, e = .returned (.int .i64 r) ∧ r ≤ left ∧ (r < 0 ∨ 0 ≤ r ∧ trFits n t ∧ r + trCnt n t ≤ left) ∧ Below w.heap.size w w'
set_option maxHeartbeats 2000000 in
theorem szTreeS_cnt {n : Nat} (ih : szC n) (A B : Nat) (xo : Option Addr) (cap : Nat) (cs : List Tr) (left : Int) (w : World) (hB : B ≤ w.heap.size) (hl : cs.length ≤ maxLen) (hr : KidRow w A B (TrRow w A B n) xo cs) (h0 : 0 ≤ left) (h1 : left ≤ 1048576) :
    Calls Try.prog 23 #[.slice xo cs.length cap, .int .i64 left] w fun e w' => ∃ r : Int, e = .returned (.int .i64 r) ∧ r ≤ left ∧ (r < 0 ∨ 0 ≤ r ∧ cs.length ≤ 1048576 ∧ (∀ i, i < cs.length → trFits n (cs.getD i noTr)) ∧ r + cntTo (fun i => trCnt n (cs.getD i noTr)) cs.length ≤ left) ∧ Below w.heap.size w w' := by
  unfold maxLen at hl
  by_cases hlong : left < cs.length
  · go_enter Try.func23, Try.ntmps23
    go_wp2
    go_ret
    exact ⟨-1, rfl, by omega, .inl (by omega), Below.refl _ _⟩
  · have HR := hide hr
    have IH := hide ih
    clear hr ih
    go_enter Try.func23, Try.ntmps23
    go_wp2
    go_loopw [1, 5] (fun x i wr => ∃ (k : Nat) (r : Int), k ≤ cs.length ∧ i = .int .i64 k ∧ x = .int .i64 r ∧ 0 ≤ r ∧ Hid (r + cs.length + cntTo (fun i => trCnt n (cs.getD i noTr)) k ≤ left) ∧ Hid (∀ i, i < k → trFits n (cs.getD i noTr)) ∧ Below w.heap.size w wr) (fun _ i _ => cs.length - (intOf i).toNat)
    case atStart => exact ⟨0, left - cs.length, Nat.zero_le _, rfl, rfl, by omega, (by show _ ≤ _; simp [cntTo]), fun i hi => absurd hi (Nat.not_lt_zero _), Below.refl _ _⟩
    case round =>
      obtain ⟨k, r, hk, rfl, rfl, hr0, HR1, HF, hb⟩ := hrel
      have hrl : r ≤ left := by have := HR1.out; omega
      by_cases hlt : k < cs.length
      · obtain ⟨b, off, ko, kc, vo, vc, yo, yc, ks, vs, ds, rfl, hbB, hv, hp, d0, d1, d2⟩ := (HR.out.kept (hb.mono hB) (TrRow.kept (hb.mono hB) n)).at k hlt
        have HC := hide (IH.out A B ko kc vo vc yo yc (.node ks vs ds) r wr (Nat.le_trans hB hb.size) hp hr0 (by omega))
        have HV := hide hv
        simp only [Tr.keys, Tr.vals, Tr.kids] at HC
        clear hv hp
        go_wp2_with fail
        refine HC.out.mono ?_
        rintro e w1 ⟨q, rfl, hq, hcase, hb1⟩
        have hb2 := hb.trans (hb1.mono hb.size)
        clear hb hb1 d0 d1 d2 HC
        rcases hcase with hs | ⟨hs, hfit, hcnt⟩
        · go_wp2
          go_ret
          exact ⟨-1, rfl, by omega, .inl (by omega), hb2⟩
        · have HF2 : Hid (∀ i, i < k + 1 → trFits n (cs.getD i noTr)) := fun i hi => by
            by_cases he : i = k
            · subst he; rw [HV.out]; exact hfit
            · exact HF.out i (by omega)
          have HR2 : Hid (q + cs.length + cntTo (fun i => trCnt n (cs.getD i noTr)) (k + 1) ≤ left) := by
            show _ ≤ _
            have h1 := HR1.out
            have h2 : cntTo (fun i => trCnt n (cs.getD i noTr)) (k + 1) = cntTo (fun i => trCnt n (cs.getD i noTr)) k + trCnt n (.node ks vs ds) := by show _ + trCnt n (cs.getD k noTr) = _; rw [HV.out]
            rw [h2]; omega
          have hq0 : 0 ≤ q := hs
          clear hfit HF HV HR1 hcnt
          go_wp2
          go_roundw
          case rel => exact ⟨k + 1, q, by omega, by go_num, rfl, hq0, HR2, HF2, hb2⟩
          case measure => simp [intOf]; omega
      · obtain rfl : k = cs.length := by omega
        go_wp2
        go_ret
        have h9 := HR1.out
        exact ⟨r, rfl, by omega, .inr ⟨hr0, by omega, HF.out, by omega⟩, hb⟩
set_option maxHeartbeats 2000000 in
theorem szTree_cnt : ∀ n, szC n
  | 0 => fun A B ko kc vo vc xo xc t left w hB hr h0 h1 => hr.elim
  | n + 1 => fun A B ko kc vo vc xo xc t left w hB hr h0 h1 => by
    have hIH := szTree_cnt n
    obtain ⟨ks, vs, cs⟩ := t
    obtain ⟨⟨hl1, hl2, hl3⟩, hk, hv, hx⟩ := hr
    simp only [Tr.keys, Tr.vals, Tr.kids] at *
    have C1 := hide (fun (W : World) (hW : Below w.heap.size w W) => szStringS_cnt A B ko kc ks left W (Nat.le_trans hB hW.size) hl1 (hk.kept (hW.mono hB)) h0 h1)
    have C2 := hide (fun (r : Int) (W : World) (hW : Below w.heap.size w W) (hr0 : 0 ≤ r) (hr1 : r ≤ 1048576) => szStringS_cnt A B vo vc vs r W (Nat.le_trans hB hW.size) hl2 (hv.kept (hW.mono hB)) hr0 hr1)
    have C3 := hide (fun (r : Int) (W : World) (hW : Below w.heap.size w W) (hr0 : 0 ≤ r) (hr1 : r ≤ 1048576) => szTreeS_cnt hIH A B xo xc cs r W (Nat.le_trans hB hW.size) hl3 (hx.kept (hW.mono hB) (TrRow.kept (hW.mono hB) n)) hr0 hr1)
    have X0 := hide (heap_alloc_new w (.cells #[.slice ko ks.length kc, .slice vo vs.length vc, .slice xo cs.length xc] 25))
    have B0 := hide ((Below.refl w.heap.size w).alloc (Nat.le_refl _) (.cells #[.slice ko ks.length kc, .slice vo vs.length vc, .slice xo cs.length xc] 25))
    have HZ : Hid ((w.alloc (.cells #[.slice ko ks.length kc, .slice vo vs.length vc, .slice xo cs.length xc] 25)).heap.size = w.heap.size + 1) := by show _ = _; simp
    clear hk hv hx hIH hl1 hl2 hl3
    go_enter Try.func7, Try.ntmps7
    go_wp2_with fail
    refine (C1.out _ B0.out).mono ?_
    generalize w.alloc (.cells #[.slice ko ks.length kc, .slice vo vs.length vc, .slice xo cs.length xc] 25) = W0 at *
    rintro e w1 ⟨r1, rfl, hr1, hcase, hb1⟩
    have X1 := hide ((hb1.block w.heap.size (by rw [HZ.out]; omega)).trans X0.out)
    have B1 := hide (B0.out.trans (hb1.mono B0.out.size))
    have Z1 : w.heap.size + 1 ≤ w1.heap.size := by have := hb1.size; rw [HZ.out] at this; exact this
    clear hb1 X0 B0 C1
    rcases hcase with hs | ⟨hs, hf1, hc1⟩
    · go_wp2
      go_ret
      exact ⟨-1, rfl, by omega, .inl (by omega), B1.out⟩
    · obtain ⟨x0, x1, x2, xf⟩ := cells3 X1.out
      go_wp2_with fail
      refine (C2.out r1 _ B1.out hs (by omega)).mono ?_
      rintro e w2 ⟨r2, rfl, hr2, hcase, hb2⟩
      have X2 := hide ((hb2.block w.heap.size (by omega)).trans X1.out)
      have B2 := hide (B1.out.trans (hb2.mono B1.out.size))
      have Z2 : w.heap.size + 1 ≤ w2.heap.size := by have := hb2.size; omega
      clear hb2 X1 B1 C2 x0 x1 x2 xf
      rcases hcase with hs2 | ⟨hs2, hf2, hc2⟩
      · go_wp2
        go_ret
        exact ⟨-1, rfl, by omega, .inl (by omega), B2.out⟩
      · obtain ⟨x0, x1, x2, xf⟩ := cells3 X2.out
        go_wp2_with fail
        refine (C3.out r2 _ B2.out hs2 (by omega)).mono ?_
        rintro e w3 ⟨r3, rfl, hr3, hcase, hb3⟩
        have B3 := hide (B2.out.trans (hb3.mono B2.out.size))
        clear hb3 X2 B2 C3 x0 x1 x2 xf
        rcases hcase with hs3 | ⟨hs3, hf3, hf4, hc3⟩
        · go_wp2
          go_ret
          exact ⟨-1, rfl, by omega, .inl (by omega), B3.out⟩
        · have HF : Hid (trFits (n + 1) (.node ks vs cs)) := ⟨⟨hf1, hf2, hf3⟩, hf4⟩
          have HCN : Hid (r3 + trCnt (n + 1) (.node ks vs cs) ≤ left) := by
            show _ ≤ _
            have h1 : trCnt (n + 1) (.node ks vs cs) = ks.length + vs.length + cntTo (fun i => trCnt n (cs.getD i noTr)) cs.length := rfl
            rw [h1]; omega
          clear hf4 hc1 hc2 hc3
          go_wp2
          go_ret
          exact ⟨r3, rfl, by omega, .inr ⟨hs3, HF.out, HCN.out⟩, B3.out⟩
end Go.Proofs.Ytffgobkgkhmeoaa
