/-
  Contracts: two trees of the same parts are the same.
-/
import Derived.Test.YtffgobkgkhmeoaaTrSz
namespace Go.Proofs.Ytffgobkgkhmeoaa
open Go.RowKit
set_option maxRecDepth 100000

set_option maxHeartbeats 2000000 in
theorem eqStringS_same (A B A' B' : Nat) (ao : Option Addr) (cap : Nat) (bo : Option Addr) (cp : Nat) (l : List ByteArray) (w : World) (hB : B ≤ w.heap.size) (hB' : B' ≤ w.heap.size) (hl : l.length ≤ 1048576) (ha : StrRow w A B ao l) (hb : StrRow w A' B' bo l) :
    Calls Try.prog 18 #[.slice ao l.length cap, .slice bo l.length cp] w fun e w' => e = .returned (.bool true) ∧ Below w.heap.size w w' := by
  have HA := hide ha
  have HB := hide hb
  clear ha hb
  go_enter Try.func18, Try.ntmps18
  go_wp2
  go_loopw [5] (fun i wr => ∃ k : Nat, k ≤ l.length ∧ i = .int .i64 k ∧ Below w.heap.size w wr) (fun i _ => l.length - (intOf i).toNat)
  case atStart => exact ⟨0, Nat.zero_le _, rfl, Below.refl _ _⟩
  case round =>
    obtain ⟨k, hk, rfl, hbw⟩ := hrel
    by_cases hlt : k < l.length
    · obtain ⟨b, off, x, rfl, hbB, hv, hx, d0⟩ := (HA.out.kept (hbw.mono hB)).at k hlt
      obtain ⟨b', off', x', rfl, hbB', hv', hx', e0⟩ := (HB.out.kept (hbw.mono hB')).at k hlt
      rw [hv] at hv'
      subst hv'
      have hi0 : (0 : Int) ≤ (k : Int) := by omega
      have hi1 : (k : Int) < (l.length : Int) := by omega
      have ht := (Int.toNat_natCast k)
      clear hv hx hx'
      go_wp2
      go_region_held3 (fun W => W.cell? ⟨b, off + k, none⟩ = some (.string x) ∧ W.cell? ⟨b', off' + k, none⟩ = some (.string x)) (go_keep) (fail)
      all_goals
        have hb2 : Below w.heap.size w _ := hbw.drew
        clear d0 e0 hbw
        go_wp2
        go_roundw
        case rel => exact ⟨k + 1, by omega, by go_num, hb2⟩
        case measure => simp [intOf]; omega
    · go_wp2
      go_ret
      exact ⟨rfl, hbw⟩
def eqP (n : Nat) : Prop := ∀ (A B A' B' : Nat) (ko : Option Addr) (kc : Nat) (vo : Option Addr) (vc : Nat) (xo : Option Addr) (xc : Nat) (ko' : Option Addr) (kc' : Nat) (vo' : Option Addr) (vc' : Nat) (xo' : Option Addr) (xc' : Nat) (t : Tr) (w : World), B ≤ w.heap.size → B' ≤ w.heap.size → trFits n t → TrRow w A B n t ko vo xo → TrRow w A' B' n t ko' vo' xo' →
    Calls Try.prog 11 #[.agg #[.slice ko t.keys.length kc, .slice vo t.vals.length vc, .slice xo t.kids.length xc], .agg #[.slice ko' t.keys.length kc', .slice vo' t.vals.length vc', .slice xo' t.kids.length xc']] w fun e w' => e = .returned (.bool true) ∧ Below w.heap.size w w'
set_option maxHeartbeats 4000000 in
theorem eqTreeS_of {n : Nat} (ih : eqP n) (A B A' B' : Nat) (xo : Option Addr) (cap : Nat) (yo : Option Addr) (cp : Nat) (cs : List Tr) (w : World) (hB : B ≤ w.heap.size) (hB' : B' ≤ w.heap.size) (hl : cs.length ≤ 1048576) (hf : ∀ i, i < cs.length → trFits n (cs.getD i noTr)) (ha : KidRow w A B (TrRow w A B n) xo cs) (hb : KidRow w A' B' (TrRow w A' B' n) yo cs) :
    Calls Try.prog 29 #[.slice xo cs.length cap, .slice yo cs.length cp] w fun e w' => e = .returned (.bool true) ∧ Below w.heap.size w w' := by
  have HA := hide ha
  have HB := hide hb
  have IH := hide ih
  have HF := hide hf
  clear ha hb ih hf
  go_enter Try.func29, Try.ntmps29
  go_wp2
  go_loopw [5] (fun i wr => ∃ k : Nat, k ≤ cs.length ∧ i = .int .i64 k ∧ Below w.heap.size w wr) (fun i _ => cs.length - (intOf i).toNat)
  case atStart => exact ⟨0, Nat.zero_le _, rfl, Below.refl _ _⟩
  case round =>
    obtain ⟨k, hk, rfl, hbw⟩ := hrel
    by_cases hlt : k < cs.length
    · have hfk := HF.out k hlt
      obtain ⟨b, off, ko, kc, vo, vc, zo, zc, ks, vs, ds, rfl, hbB, hv, hp, d0, d1, d2⟩ := (HA.out.kept (hbw.mono hB) (TrRow.kept (hbw.mono hB) n)).at k hlt
      obtain ⟨b', off', ko', kc', vo', vc', zo', zc', ks', vs', ds', rfl, hbB', hv', hp', e0, e1, e2⟩ := (HB.out.kept (hbw.mono hB') (TrRow.kept (hbw.mono hB') n)).at k hlt
      rw [hv] at hv' hfk
      simp only [Tr.node.injEq] at hv'
      obtain ⟨rfl, rfl, rfl⟩ := hv'
      have hz := hbw.size
      have HC := hide (fun (W : World) (hW : Below wr.heap.size wr W) => IH.out A B A' B' ko kc vo vc zo zc ko' kc' vo' vc' zo' zc' (.node ks vs ds) W (by have := hW.size; omega) (by have := hW.size; omega) hfk (TrRow.kept (hW.mono (by omega)) n _ _ _ _ hp) (TrRow.kept (hW.mono (by omega)) n _ _ _ _ hp'))
      simp only [Tr.keys, Tr.vals, Tr.kids] at HC
      have hi0 : (0 : Int) ≤ (k : Int) := by omega
      have hi1 : (k : Int) < (cs.length : Int) := by omega
      have ht := (Int.toNat_natCast k)
      have hq1 : b < wr.heap.size := by omega
      have hq2 : b' < wr.heap.size := by omega
      clear hv hfk hp hp'
      go_wp2
      go_region_held3 (fun W => (W.cell? ⟨b, off + k * 3, none⟩ = some (.slice ko ks.length kc) ∧ W.cell? ⟨b, off + k * 3 + 1, none⟩ = some (.slice vo vs.length vc) ∧ W.cell? ⟨b, off + k * 3 + 2, none⟩ = some (.slice zo ds.length zc)) ∧ W.cell? ⟨b', off' + k * 3, none⟩ = some (.slice ko' ks.length kc') ∧ W.cell? ⟨b', off' + k * 3 + 1, none⟩ = some (.slice vo' vs.length vc') ∧ W.cell? ⟨b', off' + k * 3 + 2, none⟩ = some (.slice zo' ds.length zc')) (go_keep) (first | (go_at_call 11; refine (HC.out _ (Below.refl _ _).drew).mono ?_; rintro e w1 ⟨rfl, hb1⟩; have hb1' : Below wr.heap.size wr w1 := (Below.refl _ _).drew.trans hb1; obtain ⟨hc1, hf1⟩ := bcell hb1'))
      all_goals
        have hb2 := hbw.trans (hb1'.mono hz)
        clear d0 d1 d2 e0 e1 e2 hb1 hb1' hbw hc1 hf1 HC
        go_wp2
        go_roundw
        case rel => exact ⟨k + 1, by omega, by go_num, hb2⟩
        case measure => simp [intOf]; omega
    · go_wp2
      go_ret
      exact ⟨rfl, hbw⟩
set_option maxHeartbeats 2000000 in
theorem eqTree_all : ∀ n, eqP n
  | 0 => fun A B A' B' ko kc vo vc xo xc ko' kc' vo' vc' xo' xc' t w hB hB' hf hr hr' => hr.elim
  | n + 1 => fun A B A' B' ko kc vo vc xo xc ko' kc' vo' vc' xo' xc' t w hB hB' hf hr hr' => by
    have hIH := eqTree_all n
    obtain ⟨ks, vs, cs⟩ := t
    obtain ⟨_, hk, hv, hx⟩ := hr
    obtain ⟨_, hk', hv', hx'⟩ := hr'
    obtain ⟨⟨hf1, hf2, hf3⟩, hf4⟩ := hf
    simp only [Tr.keys, Tr.vals, Tr.kids] at *
    have C1 := hide (fun (W : World) (hW : Below w.heap.size w W) => eqStringS_same A B A' B' ko kc ko' kc' ks W (Nat.le_trans hB hW.size) (Nat.le_trans hB' hW.size) hf1 (hk.kept (hW.mono hB)) (hk'.kept (hW.mono hB')))
    have C2 := hide (fun (W : World) (hW : Below w.heap.size w W) => eqStringS_same A B A' B' vo vc vo' vc' vs W (Nat.le_trans hB hW.size) (Nat.le_trans hB' hW.size) hf2 (hv.kept (hW.mono hB)) (hv'.kept (hW.mono hB')))
    have C3 := hide (fun (W : World) (hW : Below w.heap.size w W) => eqTreeS_of hIH A B A' B' xo xc xo' xc' cs W (Nat.le_trans hB hW.size) (Nat.le_trans hB' hW.size) hf3 hf4 (hx.kept (hW.mono hB) (TrRow.kept (hW.mono hB) n)) (hx'.kept (hW.mono hB') (TrRow.kept (hW.mono hB') n)))
    have HA := hide (two_allocs w (.cells #[.slice ko ks.length kc, .slice vo vs.length vc, .slice xo cs.length xc] 30) (.cells #[.slice ko' ks.length kc', .slice vo' vs.length vc', .slice xo' cs.length xc'] 30))
    have B0 := hide (((Below.refl w.heap.size w).alloc (Nat.le_refl _) (.cells #[.slice ko ks.length kc, .slice vo vs.length vc, .slice xo cs.length xc] 30)).alloc (by simp) (.cells #[.slice ko' ks.length kc', .slice vo' vs.length vc', .slice xo' cs.length xc'] 30))
    clear hk hv hx hk' hv' hx' hIH hf1 hf2 hf3 hf4
    go_enter Try.func11, Try.ntmps11
    go_wp2_with fail
    refine (C1.out _ B0.out).mono ?_
    generalize (w.alloc (.cells #[.slice ko ks.length kc, .slice vo vs.length vc, .slice xo cs.length xc] 30)).alloc (.cells #[.slice ko' ks.length kc', .slice vo' vs.length vc', .slice xo' cs.length xc'] 30) = W0 at *
    rintro e w1 ⟨rfl, b1⟩
    obtain ⟨hx0, hy0, hz0⟩ := HA.out
    have X1 := hide ((b1.block w.heap.size (by omega)).trans hx0)
    have Y1 := hide ((b1.block (w.heap.size + 1) (by omega)).trans hy0)
    have z1 : w.heap.size + 2 ≤ w1.heap.size := by have := b1.size; omega
    have B1 := hide (B0.out.trans (b1.mono B0.out.size))
    obtain ⟨x0, x1, x2, xf⟩ := cells3 X1.out
    obtain ⟨y0, y1, y2, yf⟩ := cells3 Y1.out
    clear b1 HA hx0 hy0 hz0 B0 C1
    go_wp2_with fail
    refine (C2.out _ B1.out).mono ?_
    rintro e w2 ⟨rfl, b2⟩
    have X2 := hide ((b2.block w.heap.size (by omega)).trans X1.out)
    have Y2 := hide ((b2.block (w.heap.size + 1) (by omega)).trans Y1.out)
    have B2 := hide (B1.out.trans (b2.mono B1.out.size))
    clear x0 x1 x2 xf y0 y1 y2 yf
    obtain ⟨x0, x1, x2, xf⟩ := cells3 X2.out
    obtain ⟨y0, y1, y2, yf⟩ := cells3 Y2.out
    clear b2 X1 Y1 B1 C2
    go_wp2_with fail
    refine (C3.out _ B2.out).mono ?_
    rintro e w3 ⟨rfl, b3⟩
    have B3 := hide (B2.out.trans (b3.mono B2.out.size))
    clear b3 x0 x1 x2 xf y0 y1 y2 yf X2 Y2 B2 C3
    go_wp2
    go_ret
    exact ⟨rfl, B3.out⟩
end Go.Proofs.Ytffgobkgkhmeoaa
