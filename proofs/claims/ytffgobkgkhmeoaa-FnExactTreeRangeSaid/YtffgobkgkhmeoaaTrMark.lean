/-
  Contracts: marks are written into all texts of a tree.
-/
import Derived.Test.YtffgobkgkhmeoaaTrTo2
import Derived.Test.YtffgobkgkhmeoaaTrCnt
import Derived.Test.YtffgobkgkhmeoaaTrMk
namespace Go.Proofs.Ytffgobkgkhmeoaa
open Go.RowKit
set_option maxRecDepth 100000

/-- Texts, whichever, that lie one behind the other in a block that can be written. -/
def ShStr (w : World) (A B : Nat) (ao : Option Addr) (n : Nat) : Prop :=
  n = 0 ∨ ∃ b off, ao = some ⟨b, off, none⟩ ∧ A ≤ b ∧ b < B ∧ (∀ o, w.frozen? ⟨b, o, none⟩ = false) ∧ ∀ i, i < n → ∃ s, w.cell? ⟨b, off + i, none⟩ = some (.string s)
theorem UStr.sh {w : World} {A B : Nat} {ao : Option Addr} {l : List ByteArray} (h : UStr w A B ao l) : ShStr w A B ao l.length := by
  rcases h.2 with h0 | ⟨b, off, e, hA, hB, hf, hc⟩
  · exact .inl h0
  · exact .inr ⟨b, off, e, hA, hB, hf, fun i hi => ⟨_, hc i hi⟩⟩
theorem ShStr.kept {w w' : World} {A B : Nat} {ao : Option Addr} {n : Nat} (h : ShStr w A B ao n) (hb : Below B w w') : ShStr w' A B ao n := by
  rcases h with h0 | ⟨b, off, e, hA, hB, hf, hc⟩
  · exact .inl h0
  · refine .inr ⟨b, off, e, hA, hB, fun o => (hb.frozen (p := ⟨b, o, none⟩) hB).trans (hf o), fun i hi => ?_⟩
    obtain ⟨s, hs⟩ := hc i hi
    exact ⟨s, (hb.cell (p := ⟨b, _, none⟩) hB).trans hs⟩
theorem ShStr.mark {w : World} {A B : Nat} {ao : Option Addr} {n : Nat} (h : ShStr w A B ao n) {p : Addr} {s0 : ByteArray} (s : ByteArray) (hp : w.cell? p = some (.string s0)) : ShStr (w.setCell p (.string s)) A B ao n := by
  rcases h with h0 | ⟨b, off, e, hA, hB, hf, hc⟩
  · exact .inl h0
  · refine .inr ⟨b, off, e, hA, hB, fun o => (World.frozen?_setCell ..).trans (hf o), fun i hi => ?_⟩
    obtain ⟨s1, hs⟩ := hc i hi
    by_cases ha : p = ⟨b, off + i, none⟩
    · subst ha
      exact ⟨s, World.cell?_setCell_same' _ _ _ (by rw [hp]; rfl)⟩
    · exact ⟨s1, (World.cell?_setCell_other w p ⟨b, off + i, none⟩ _ ha).trans hs⟩
/-- A tree of at most n levels with texts, whichever, that can be written. -/
def Sh (w : World) (A B : Nat) : Nat → Tr → Option Addr → Option Addr → Option Addr → Prop
  | 0, _, _, _, _ => False
  | n + 1, t, ko, vo, xo => ShStr w A B ko t.keys.length ∧ ShStr w A B vo t.vals.length ∧ KidRow w A B (Sh w A B n) xo t.kids
theorem URow.sh {w : World} {A B : Nat} : ∀ (n : Nat) (t : Tr) (ko vo xo : Option Addr), URow w A B n t ko vo xo → Sh w A B n t ko vo xo
  | 0, _, _, _, _, h => h.elim
  | n + 1, _, _, _, _, ⟨_, hk, hv, hx⟩ => ⟨hk.sh, hv.sh, hx.mono (Nat.le_refl _) (Nat.le_refl _) (URow.sh n)⟩
theorem Sh.kept {w w' : World} {A B : Nat} (hb : Below B w w') : ∀ (n : Nat) (t : Tr) (ko vo xo : Option Addr), Sh w A B n t ko vo xo → Sh w' A B n t ko vo xo
  | 0, _, _, _, _, h => h.elim
  | n + 1, _, _, _, _, ⟨hk, hv, hx⟩ => ⟨hk.kept hb, hv.kept hb, hx.kept hb (Sh.kept hb n)⟩
theorem KidRow.mark {w : World} {A B : Nat} {P P' : Tr → Option Addr → Option Addr → Option Addr → Prop} {xo : Option Addr} {cs : List Tr} (h : KidRow w A B P xo cs) {p : Addr} {s0 : ByteArray} (s : ByteArray) (hp : w.cell? p = some (.string s0)) (hP : ∀ t a b c, P t a b c → P' t a b c) : KidRow (w.setCell p (.string s)) A B P' xo cs := by
  rcases h with h0 | ⟨b, off, e, hA, hB, hc⟩
  · exact .inl h0
  · refine .inr ⟨b, off, e, hA, hB, fun i hi => ?_⟩
    obtain ⟨ko, kc, vo, vc, yo, yc, c0, c1, c2, hq⟩ := hc i hi
    have ho : ∀ o x n c, w.cell? ⟨b, o, none⟩ = some (.slice x n c) → (w.setCell p (.string s)).cell? ⟨b, o, none⟩ = some (.slice x n c) := fun o x n c hx =>
      (World.cell?_setCell_other w p ⟨b, o, none⟩ _ (fun e' => by subst e'; rw [hp] at hx; cases hx)).trans hx
    exact ⟨ko, kc, vo, vc, yo, yc, ho _ _ _ _ c0, ho _ _ _ _ c1, ho _ _ _ _ c2, hP _ _ _ _ hq⟩
theorem Sh.mark {w : World} {A B : Nat} {p : Addr} {s0 : ByteArray} (s : ByteArray) (hp : w.cell? p = some (.string s0)) : ∀ (n : Nat) (t : Tr) (ko vo xo : Option Addr), Sh w A B n t ko vo xo → Sh (w.setCell p (.string s)) A B n t ko vo xo
  | 0, _, _, _, _, h => h.elim
  | n + 1, _, _, _, _, ⟨hk, hv, hx⟩ => ⟨hk.mark s hp, hv.mark s hp, hx.mark s hp (Sh.mark s hp n)⟩
/-- What marks in blocks from A on and below B leave as it was. -/
structure Mk (A B : Nat) (w w' : World) : Prop where
  os : w'.os = w.os
  tape : w'.tape = w.tape
  output : w'.output = w.output
  size : w.heap.size ≤ w'.heap.size
  block : ∀ k, k < w.heap.size → (k < A ∨ B ≤ k) → w'.heap[k]? = w.heap[k]?
  str : ∀ ao n, ShStr w A B ao n → ShStr w' A B ao n
  kid : ∀ n t ko vo xo, Sh w A B n t ko vo xo → Sh w' A B n t ko vo xo
theorem Mk.row {A B : Nat} {w w' : World} (h : Mk A B w w') {n : Nat} {xo : Option Addr} {cs : List Tr} (hr : KidRow w A B (Sh w A B n) xo cs) : KidRow w' A B (Sh w' A B n) xo cs :=
  (h.kid (n + 1) (.node [] [] cs) none none xo ⟨.inl rfl, .inl rfl, hr⟩).2.2
theorem Mk.refl (A B : Nat) (w : World) : Mk A B w w := ⟨rfl, rfl, rfl, Nat.le_refl _, fun _ _ _ => rfl, fun _ _ h => h, fun _ _ _ _ _ h => h⟩
theorem Mk.trans {A B : Nat} {a b c : World} (h : Mk A B a b) (k : Mk A B b c) : Mk A B a c :=
  ⟨k.os.trans h.os, k.tape.trans h.tape, k.output.trans h.output, Nat.le_trans h.size k.size, fun i hi ho => (k.block i (Nat.lt_of_lt_of_le hi h.size) ho).trans (h.block i hi ho), fun ao n hs => k.str ao n (h.str ao n hs), fun n t ko vo xo hs => k.kid n t ko vo xo (h.kid n t ko vo xo hs)⟩
theorem Mk.ofBelow {A B : Nat} {w w' : World} (hb : Below w.heap.size w w') (hB : B ≤ w.heap.size) : Mk A B w w' :=
  ⟨hb.os, hb.tape, hb.output, hb.size, fun k hk _ => hb.block k hk, fun _ _ h => h.kept (hb.mono hB), fun n t ko vo xo h => Sh.kept (hb.mono hB) n t ko vo xo h⟩
theorem Mk.set {A B b o : Nat} {w : World} {s0 : ByteArray} (s : ByteArray) (hA : A ≤ b) (hB : b < B) (hp : w.cell? ⟨b, o, none⟩ = some (.string s0)) : Mk A B w (w.setCell ⟨b, o, none⟩ (.string s)) :=
  ⟨rfl, rfl, rfl, by simp, fun k _ hk => heap_far _ _ _ _ _ (by omega), fun _ _ h => h.mark s hp, fun n t ko vo xo h => Sh.mark s hp n t ko vo xo h⟩
theorem Mk.below {A B C : Nat} {w w' : World} (h : Mk A B w w') (hC : C ≤ A) (hw : C ≤ w.heap.size) : Below C w w' :=
  ⟨h.os, h.tape, h.output, h.size, fun k hk => h.block k (by omega) (.inl (by omega))⟩
set_option maxHeartbeats 2000000 in
theorem markStringS_sh (A B : Nat) (ao : Option Addr) (n cap k0 : Nat) (w : World) (hB : B ≤ w.heap.size) (h0 : 0 < k0) (hk : k0 + n ≤ 5000000) (hw : ShStr w A B ao n) :
    Calls Try.prog 20 #[.slice ao n cap, .int .i64 k0] w fun e w' => e = .returned (.int .i64 ((k0 + n : Nat) : Int)) ∧ Mk A B w w' := by
  have HW := hide hw
  clear hw
  go_enter Try.func20, Try.ntmps20
  go_wp2
  go_loopw [1, 5] (fun q i wr => ∃ k : Nat, k ≤ n ∧ i = .int .i64 k ∧ q = .int .i64 ((k0 + k : Nat) : Int) ∧ Hid (Mk A B w wr)) (fun _ i _ => n - (intOf i).toNat)
  case atStart => exact ⟨0, Nat.zero_le _, rfl, rfl, Mk.refl _ _ _⟩
  case round =>
    obtain ⟨k, hk', rfl, rfl, HM⟩ := hrel
    by_cases hlt : k < n
    · rcases HM.out.str ao n HW.out with hn0 | ⟨b, off, rfl, hA, hbB, hf, hc⟩
      · omega
      · obtain ⟨s0, hs0⟩ := hc k hlt
        have hz := HM.out.size
        have hmt := hide (markText_pos (k0 + k) (by omega) (by omega) wr)
        go_wp2_with fail
        refine hmt.out.mono ?_
        rintro e w1 ⟨rfl, b1⟩
        have e0 : w1.cell? ⟨b, off + k, none⟩ = some (.string s0) := (b1.cell (p := ⟨b, _, none⟩) (show b < wr.heap.size by omega)).trans hs0
        have ef : ∀ j, w1.frozen? ⟨b, j, none⟩ = false := fun j => (b1.frozen (p := ⟨b, j, none⟩) (show b < wr.heap.size by omega)).trans (hf j)
        have HM2 := hide ((HM.out.trans (Mk.ofBelow b1 (by omega))).trans (Mk.set (markS (k0 + k)) hA hbB e0))
        clear HM hf hc hs0 b1 hmt
        generalize markS (k0 + k) = T at *
        go_wp2
        go_roundw
        case rel => exact ⟨k + 1, by omega, by go_num, by go_num, HM2⟩
        case measure => simp [intOf]; omega
    · obtain rfl : k = n := by omega
      go_wp2
      go_ret
      exact ⟨rfl, HM.out⟩
theorem kidAt {w : World} {A B : Nat} {P : Tr → Option Addr → Option Addr → Option Addr → Prop} {xo : Option Addr} {cs : List Tr} (h : KidRow w A B P xo cs) {k : Nat} (hk : k < cs.length) {ks vs : List ByteArray} {ds : List Tr} (hv : cs.getD k noTr = .node ks vs ds) :
    ∃ b off ko kc vo vc yo yc, xo = some ⟨b, off, none⟩ ∧ b < B ∧ P (.node ks vs ds) ko vo yo ∧ w.cell? ⟨b, off + k * 3, none⟩ = some (.slice ko ks.length kc) ∧ w.cell? ⟨b, off + k * 3 + 1, none⟩ = some (.slice vo vs.length vc) ∧ w.cell? ⟨b, off + k * 3 + 2, none⟩ = some (.slice yo ds.length yc) := by
  obtain ⟨b, off, ko, kc, vo, vc, yo, yc, ks', vs', ds', e, hb, hv', hp, c0, c1, c2⟩ := h.at k hk
  rw [hv] at hv'
  cases hv'
  exact ⟨b, off, ko, kc, vo, vc, yo, yc, e, hb, hp, c0, c1, c2⟩
def mkP (n : Nat) : Prop := ∀ (A B : Nat) (xo : Option Addr) (cap : Nat) (cs : List Tr) (k0 : Nat) (w : World), B ≤ w.heap.size → 0 < k0 → cs.length ≤ 1048576 → (∀ i, i < cs.length → trFits n (cs.getD i noTr)) → k0 + cntTo (fun i => trCnt n (cs.getD i noTr)) cs.length ≤ 5000000 → KidRow w A B (Sh w A B n) xo cs →
    Calls Try.prog 34 #[.slice xo cs.length cap, .int .i64 k0] w fun e w' => e = .returned (.int .i64 ((k0 + cntTo (fun i => trCnt n (cs.getD i noTr)) cs.length : Nat) : Int)) ∧ Mk A B w w'
theorem kid_node (cs : List Tr) (k : Nat) : ∃ ks vs ds, cs.getD k noTr = .node ks vs ds := by
  cases cs.getD k noTr with
  | node ks vs ds => exact ⟨ks, vs, ds, rfl⟩
set_option maxHeartbeats 4000000 in
theorem markTreeS_step {n : Nat} (ih : mkP n) : mkP (n + 1) := by
  intro A B xo cap cs k0 w hB h0 hl hf hc hr
  have HR := hide hr
  have IH := hide ih
  have HF := hide hf
  have HCL := hide (cntTo_le (fun i => trCnt (n + 1) (cs.getD i noTr)) cs.length)
  have HST : Hid (∀ k, cntTo (fun i => trCnt (n + 1) (cs.getD i noTr)) (k + 1) = cntTo (fun i => trCnt (n + 1) (cs.getD i noTr)) k + trCnt (n + 1) (cs.getD k noTr)) := fun _ => rfl
  have HZ : Hid (cntTo (fun i => trCnt (n + 1) (cs.getD i noTr)) 0 = 0) := rfl
  generalize hg : cntTo (fun i => trCnt (n + 1) (cs.getD i noTr)) = f at *
  clear hr ih hf hg
  go_enter Try.func34, Try.ntmps34
  go_wp2
  go_loopw [1, 5] (fun q i wr => ∃ k c : Nat, k ≤ cs.length ∧ i = .int .i64 k ∧ q = .int .i64 ((c : Nat) : Int) ∧ Hid (c = k0 + f k) ∧ Hid (Mk A B w wr)) (fun _ i _ => cs.length - (intOf i).toNat)
  case atStart => exact ⟨0, k0, Nat.zero_le _, rfl, rfl, (by show _ = _; rw [HZ.out]; rfl), Mk.refl _ _ _⟩
  case round =>
    obtain ⟨k, c, hk, rfl, rfl, HCK, HM⟩ := hrel
    by_cases hlt : k < cs.length
    · obtain ⟨ks, vs, ds, hv⟩ := kid_node cs k
      have hfk := HF.out k hlt
      rw [hv] at hfk
      obtain ⟨⟨hf1, hf2, hf3⟩, hf4⟩ := hfk
      simp only [Tr.keys, Tr.vals, Tr.kids] at hf1 hf2 hf3 hf4
      have HF4 := hide hf4
      obtain ⟨m, hm⟩ : ∃ m, cntTo (fun i => trCnt n (ds.getD i noTr)) ds.length = m := ⟨_, rfl⟩
      have hst : f (k + 1) = f k + (ks.length + vs.length + m) := by rw [HST.out, hv, ← hm]; rfl
      have hle : f (k + 1) ≤ f cs.length := HCL.out (k + 1) hlt
      have hck := HCK.out
      have hsum : c + (ks.length + vs.length + m) ≤ 5000000 := by omega
      have hc0 : 0 < c := by omega
      have HS2 : Hid (c + ks.length + vs.length + m = k0 + f (k + 1)) := by show _ = _; omega
      have HV := hide hv
      have HMM := hide hm
      have hz := HM.out.size
      obtain ⟨b, off, ko, kc, vo, vc, yo, yc, rfl, hbB, hp, d0, d1, d2⟩ := kidAt (HM.out.row HR.out) hlt hv
      have C1 := hide (markStringS_sh A B ko ks.length kc c wr (by omega) hc0 (by omega) hp.1)
      clear hv hm hst hle hck hf4 hp
      go_wp2_with fail
      refine C1.out.mono ?_
      rintro e w1 ⟨rfl, m1⟩
      have HM1 := hide (HM.out.trans m1)
      have hz1 := HM1.out.size
      clear d0 d1 d2 m1 C1 HM
      obtain ⟨b', off', ko', kc', vo', vc', yo', yc', e', hbB', hp, d0, d1, d2⟩ := kidAt (HM1.out.row HR.out) hlt HV.out
      cases e'
      have C2 := hide (markStringS_sh A B vo' vs.length vc' (c + ks.length) w1 (by omega) (by omega) (by omega) hp.2.1)
      clear hp
      go_wp2_with fail
      refine C2.out.mono ?_
      rintro e w2 ⟨rfl, m2⟩
      have HM2 := hide (HM1.out.trans m2)
      have hz2 := HM2.out.size
      clear d0 d1 d2 m2 C2 HM1
      obtain ⟨b', off', ko'', kc'', vo'', vc'', yo'', yc'', e', hbB'', hp, d0, d1, d2⟩ := kidAt (HM2.out.row HR.out) hlt HV.out
      cases e'
      have C3 := hide (IH.out A B yo'' yc'' ds (c + ks.length + vs.length) w2 (by omega) (by omega) hf3 HF4.out (by rw [HMM.out]; omega) hp.2.2)
      rw [HMM.out] at C3
      clear hp
      go_wp2_with fail
      refine C3.out.mono ?_
      rintro e w3 ⟨rfl, m3⟩
      have HM3 := hide (HM2.out.trans m3)
      clear d0 d1 d2 m3 C3 HM2 HV HMM
      go_wp2
      go_roundw
      case rel => exact ⟨k + 1, c + ks.length + vs.length + m, by omega, by go_num, by go_num, HS2, HM3⟩
      case measure => simp [intOf]; omega
    · obtain rfl : k = cs.length := by omega
      have HE : Hid ((c : Int) = ((k0 + f cs.length : Nat) : Int)) := by show _ = _; rw [HCK.out]
      go_wp2
      go_ret
      exact ⟨by rw [HE.out]; rfl, HM.out⟩
set_option maxHeartbeats 1000000 in
theorem markTreeS_zero : mkP 0 := by
  intro A B xo cap cs k0 w hB h0 hl hf hc hr
  have h : cs.length = 0 := by
    rcases hr with h | ⟨b, off, _, _, _, hk⟩
    · exact h
    · by_cases h : cs.length = 0
      · exact h
      · obtain ⟨_, _, _, _, _, _, _, _, _, hp⟩ := hk 0 (by omega)
        exact hp.elim
  rw [h] at hc ⊢
  simp only [cntTo] at hc ⊢
  clear h hr hf hl
  go_enter Try.func34, Try.ntmps34
  go_wp2
  go_loopw [1, 5] (fun q i wr => i = .int .i64 0 ∧ q = .int .i64 k0 ∧ Hid (wr = w)) (fun _ _ _ => 0)
  case atStart => exact ⟨rfl, rfl, rfl⟩
  case round =>
    obtain ⟨rfl, rfl, hw⟩ := hrel
    go_wp2
    go_ret
    exact ⟨rfl, by rw [hw.out]; exact Mk.refl _ _ _⟩
theorem markTreeS_all : ∀ n, mkP n
  | 0 => markTreeS_zero
  | n + 1 => markTreeS_step (markTreeS_all n)
set_option maxHeartbeats 2000000 in
theorem markTree_all (n A B : Nat) (ko : Option Addr) (kc : Nat) (vo : Option Addr) (vc : Nat) (xo : Option Addr) (xc : Nat) (t : Tr) (k0 : Nat) (w : World) (hB : B ≤ w.heap.size) (h0 : 0 < k0) (hf : trFits n t) (hc : k0 + trCnt n t ≤ 5000000) (hr : Sh w A B n t ko vo xo) :
    Calls Try.prog 19 #[.agg #[.slice ko t.keys.length kc, .slice vo t.vals.length vc, .slice xo t.kids.length xc], .int .i64 k0] w fun e w' => e = .returned (.int .i64 ((k0 + trCnt n t : Nat) : Int)) ∧ Mk A B w w' := by
  cases n with
  | zero => exact hr.elim
  | succ n =>
    obtain ⟨ks, vs, cs⟩ := t
    obtain ⟨hk, hv, hx⟩ := hr
    obtain ⟨⟨hf1, hf2, hf3⟩, hf4⟩ := hf
    simp only [Tr.keys, Tr.vals, Tr.kids] at *
    have ht : trCnt (n + 1) (.node ks vs cs) = ks.length + vs.length + cntTo (fun i => trCnt n (cs.getD i noTr)) cs.length := rfl
    rw [ht] at hc ⊢
    have HC3 := hide (fun (k : Nat) (W : World) (hW : B ≤ W.heap.size) (hk0 : 0 < k) (hk1 : k + cntTo (fun i => trCnt n (cs.getD i noTr)) cs.length ≤ 5000000) (hr : KidRow W A B (Sh W A B n) xo cs) => markTreeS_all n A B xo xc cs k W hW hk0 hf3 hf4 hk1 hr)
    generalize cntTo (fun i => trCnt n (cs.getD i noTr)) cs.length = m at *
    have HK := hide hk
    have HV := hide hv
    have HX := hide hx
    have X0 := hide (heap_alloc_new w (.cells #[.slice ko ks.length kc, .slice vo vs.length vc, .slice xo cs.length xc] 30))
    have M0 := hide (Mk.ofBelow (A := A) ((Below.refl w.heap.size w).alloc (Nat.le_refl _) (.cells #[.slice ko ks.length kc, .slice vo vs.length vc, .slice xo cs.length xc] 30)) hB)
    have HZ : Hid ((w.alloc (.cells #[.slice ko ks.length kc, .slice vo vs.length vc, .slice xo cs.length xc] 30)).heap.size = w.heap.size + 1) := by show _ = _; simp
    have C1 := hide (markStringS_sh A B ko ks.length kc k0 _ (show B ≤ (w.alloc (.cells #[.slice ko ks.length kc, .slice vo vs.length vc, .slice xo cs.length xc] 30)).heap.size by rw [HZ.out]; omega) h0 (by omega) (M0.out.str _ _ HK.out))
    clear hk hv hx ht hf4
    go_enter Try.func19, Try.ntmps19
    go_wp2_with fail
    refine C1.out.mono ?_
    generalize w.alloc (.cells #[.slice ko ks.length kc, .slice vo vs.length vc, .slice xo cs.length xc] 30) = W0 at *
    rintro e w1 ⟨rfl, m1⟩
    have X1 := hide ((m1.block w.heap.size (by rw [HZ.out]; omega) (.inr hB)).trans X0.out)
    have M1 := hide (M0.out.trans m1)
    have z1 : w.heap.size + 1 ≤ w1.heap.size := by have := m1.size; rw [HZ.out] at this; exact this
    clear m1 X0 HZ C1
    obtain ⟨x0, x1, x2, xf⟩ := cells3 X1.out
    have C2 := hide (markStringS_sh A B vo vs.length vc (k0 + ks.length) w1 (by omega) (by omega) (by omega) (M1.out.str _ _ HV.out))
    go_wp2_with fail
    refine C2.out.mono ?_
    rintro e w2 ⟨rfl, m2⟩
    have X2 := hide ((m2.block w.heap.size (by omega) (.inr hB)).trans X1.out)
    have M2 := hide (M1.out.trans m2)
    have z2 : w1.heap.size ≤ w2.heap.size := m2.size
    clear m2 X1 x0 x1 x2 xf C2
    obtain ⟨x0, x1, x2, xf⟩ := cells3 X2.out
    have C3 := hide (HC3.out (k0 + ks.length + vs.length) w2 (by omega) (by omega) (by omega) (M2.out.row HX.out))
    go_wp2_with fail
    refine C3.out.mono ?_
    rintro e w3 ⟨rfl, m3⟩
    have M3 := hide (M2.out.trans m3)
    have HE : Hid (((k0 + ks.length + vs.length + m : Nat) : Int) = ((k0 + (ks.length + vs.length + m) : Nat) : Int)) := by show _ = _; omega
    clear m3 x0 x1 x2 xf C3
    go_wp2
    go_ret
    exact ⟨by rw [← HE.out]; rfl, M3.out⟩
end Go.Proofs.Ytffgobkgkhmeoaa
