/-
  Contracts: the way down to a key.
-/
import Derived.Test.YtcjcjchpdgaobaaTrGet
import Derived.Test.YtcjcjchpdgaobaaTrOkA
import Derived.Test.YtcjcjchpdgaobaaTrNode
import Derived.Test.YtcjcjchpdgaobaaTrDeep
namespace Go.Proofs.Ytcjcjchpdgaobaa
open Go.RowKit
set_option maxRecDepth 100000

theorem okS_facts {d : Nat} {root : Bool} {t : Tr} {lo hi : Option ByteArray} (h : okS (d + 1) root t lo hi = true) : t.keys.length ≤ 3 ∧ t.vals.length = t.keys.length ∧ (t.kids.length = 0 ∨ t.kids.length = t.keys.length + 1) ∧ (t.kids.length = 0 ↔ d = 0) ∧ srt lo hi t.keys = true ∧ ∀ i, i < t.kids.length → okS d false (t.kids.getD i noTr) (loB lo t.keys i) (hiB hi t.keys i) = true := by
  have h' := h
  simp only [okS, Bool.and_eq_true] at h'
  obtain ⟨⟨⟨hn, hd⟩, hk⟩, hc⟩ := h'
  obtain ⟨g1, _, g3, g4⟩ := nodeS_yes hn
  rw [beq_iff_eq, decide_eq_decide] at hd
  refine ⟨g1, g3, g4.imp id And.left, hd, ?_, (upto_iff _ _).1 hc⟩
  rw [← krow_srt, upto_iff]
  intro i hi'
  have := (upto_iff _ _).1 hk i hi'
  simp only [keyS, Bool.and_eq_true] at this
  simp only [krow, Bool.and_eq_true]
  exact ⟨⟨this.1.1.2, this.1.2⟩, this.2⟩
/-- What is found of a key. -/
def getT : Nat → Tr → ByteArray → Option ByteArray
  | 0, _, _ => none
  | d + 1, t, key => if hasK t.keys key = true then some (t.vals.getD (plc t.keys key) ByteArray.empty) else if t.kids.length = 0 then none else getT d (t.kids.getD (plc t.keys key) noTr) key
theorem hasK_lt {l : List ByteArray} {key : ByteArray} (h : hasK l key = true) : plc l key < l.length := by
  unfold hasK at h
  rw [Bool.and_eq_true, decide_eq_true_eq] at h
  exact h.1
/-- How deep the first kids go, read off the world. -/
def depM : Nat → World → Value → Nat
  | 0, _, _ => 0
  | f + 1, w, .slice (some ⟨b, off, _⟩) n _ => if n = 0 then 0 else 1 + depM f w ((w.cell? ⟨b, off + 2, none⟩).getD undef)
  | _ + 1, _, _ => 0
theorem depM_ok : ∀ (d f n : Nat) (w : World) (A B : Nat) (root : Bool) (t : Tr) (lo hi : Option ByteArray) (ko vo xo : Option Addr) (xc : Nat), d ≤ f → okS (d + 1) root t lo hi = true → TrRow w A B n t ko vo xo → depM f w (.slice xo t.kids.length xc) = d
  | d, f, 0, _, _, _, _, _, _, _, _, _, _, _, _, _, h => h.elim
  | 0, f, n + 1, w, A, B, root, t, lo, hi, ko, vo, xo, xc, hf, ho, hr => by
    have h0 := (okS_facts ho).2.2.2.1.2 rfl
    cases f with
    | zero => rfl
    | succ f =>
      cases xo with
      | none => rfl
      | some a => obtain ⟨b, off, sp⟩ := a; simp [depM, h0]
  | d + 1, 0, n + 1, _, _, _, _, _, _, _, _, _, _, _, hf, _, _ => by omega
  | d + 1, f + 1, n + 1, w, A, B, root, t, lo, hi, ko, vo, xo, xc, hf, ho, hr => by
    obtain ⟨_, _, _, h4, _, h6⟩ := okS_facts ho
    have hc : t.kids.length ≠ 0 := fun e => by have := h4.1 e; omega
    obtain ⟨b, off, ko', kc', vo', vc', yo, yc, ks, vs, ds, rfl, _, hv, hp, d0, d1, d2⟩ := hr.2.2.2.at 0 (by omega)
    have h7 := h6 0 (by omega)
    rw [hv] at h7
    have ih := depM_ok d f n w A B false (.node ks vs ds) _ _ ko' vo' yo yc (by omega) h7 hp
    simp only [Nat.zero_mul, Nat.add_zero] at d2
    simp only [depM, hc, if_false, d2, Option.getD_some]
    rw [show Value.slice yo ds.length yc = Value.slice yo (Tr.node ks vs ds).kids.length yc from rfl, ih]
    omega
/-- A right tree lies in the box. -/
def BoxO (w : World) (A B g d : Nat) (key : ByteArray) (res : Option ByteArray) : Prop := ∃ (n : Nat) (t : Tr) (root : Bool) (lo hi : Option ByteArray) (ko : Option Addr) (kc : Nat) (vo : Option Addr) (vc : Nat) (xo : Option Addr) (xc : Nat), w.heap[g]? = some (.cells #[.slice ko t.keys.length kc, .slice vo t.vals.length vc, .slice xo t.kids.length xc] 26 (0, 0)) ∧ TrRow w A B n t ko vo xo ∧ okS (d + 1) root t lo hi = true ∧ getT (d + 1) t key = res
set_option maxHeartbeats 2000000 in
theorem l04Get_any (A B n d : Nat) (ko : Option Addr) (kc : Nat) (vo : Option Addr) (vc : Nat) (xo : Option Addr) (xc : Nat) (t : Tr) (key : ByteArray) (w : World) (hB : B ≤ w.heap.size) (hr : TrRow w A B n t ko vo xo) (hd : d ≤ 11) (ho : okS (d + 1) true t none none = true) :
    Calls Try.prog 53 #[.agg #[.slice ko t.keys.length kc, .slice vo t.vals.length vc, .slice xo t.kids.length xc], .string key] w fun e w' => e = .returned (.tuple #[.string ((getT (d + 1) t key).getD ⟨#[]⟩), .bool (getT (d + 1) t key).isSome]) ∧ Below w.heap.size w w' := by
  have B0 := hide ((Below.refl w.heap.size w).alloc (Nat.le_refl _) (.cells #[.slice ko t.keys.length kc, .slice vo t.vals.length vc, .slice xo t.kids.length xc] 26))
  obtain ⟨res, hres⟩ : ∃ res, getT (d + 1) t key = res := ⟨_, rfl⟩
  have BX : Hid (BoxO (w.alloc (.cells #[.slice ko t.keys.length kc, .slice vo t.vals.length vc, .slice xo t.kids.length xc] 26)) A B w.heap.size d key res) := ⟨n, t, true, none, none, ko, kc, vo, vc, xo, xc, heap_alloc_new _ _, TrRow.kept (B0.out.mono hB) n _ _ _ _ hr, ho, hres⟩
  rw [hres]
  clear hr ho hres
  go_enter Try.func53, Try.ntmps53
  go_wp2
  generalize w.alloc (.cells #[.slice ko t.keys.length kc, .slice vo t.vals.length vc, .slice xo t.kids.length xc] 26) = W0 at *
  go_loopw [6] (fun _ wr => ∃ c : Nat, c ≤ 11 ∧ Hid (BoxO wr A B w.heap.size c key res) ∧ Hid (Below w.heap.size w wr)) (fun _ wr => depM 12 wr ((wr.cell? ⟨w.heap.size, 2, none⟩).getD undef))
  case atStart => exact ⟨d, hd, BX, B0⟩
  case round =>
    clear BX B0
    obtain ⟨c, hc11, HX, HB⟩ := hrel
    obtain ⟨m, s, root, lo, hi, ko', kc', vo', vc', xo', xc', hg, hrow, hok, hget⟩ := HX.out
    obtain ⟨x0, x1, x2, xf⟩ := cells3 hg
    have hgs : w.heap.size < wr.heap.size := (Array.getElem?_eq_some_iff.1 hg).1
    obtain ⟨f1, f2, f3, f4, f5, f6⟩ := okS_facts hok
    have HM := hide (depM_ok c 12 m wr A B root s lo hi ko' vo' xo' xc' (by omega) hok hrow)
    obtain ⟨ks, vs, cs⟩ := s
    cases m with
    | zero => exact hrow.elim
    | succ m =>
      simp only [Tr.keys, Tr.vals, Tr.kids] at x0 x1 x2 hg f1 f2 f3 f4 f5 f6 HM
      have HG := hide hg
      have HP := hide (place_any A B ko' kc' (.slice vo' vs.length vc') (.slice xo' cs.length xc') ks key wr (by omega) f1 ⟨_, _, _, rfl⟩ ⟨_, _, _, rfl⟩ hrow.2.1)
      have HK := hide hrow.2.1
      have HV := hide hrow.2.2.1
      have HC := hide hrow.2.2.2
      change Hid (StrRow wr A B vo' vs) at HV
      change Hid (KidRow wr A B (TrRow wr A B m) xo' cs) at HC
      have HF := hide (And.intro f2 (And.intro f3 (And.intro f4 f6)))
      have hpl := plc_le ks key
      have HGT : Hid (res = if hasK ks key = true then some (vs.getD (plc ks key) ByteArray.empty) else if cs.length = 0 then none else getT c (cs.getD (plc ks key) noTr) key) := hget.symm
      have HHK := hide (hasK_lt (l := ks) (key := key))
      clear HX hg hrow hok hget f2 f3 f4 f5 f6
      generalize plc ks key = p at *
      generalize hasK ks key = q at *
      go_wp2_with fail
      refine HP.out.mono ?_
      rintro e w1 ⟨rfl, b1⟩
      have G1 := hide ((b1.block _ hgs).trans HG.out)
      obtain ⟨y0, y1, y2, yf⟩ := cells3 G1.out
      have B1 := hide (HB.out.trans (b1.mono (by omega)))
      have hz1 : wr.heap.size ≤ w1.heap.size := b1.size
      cases q with
      | true =>
        obtain ⟨b, off, v, rfl, hbB, hv, _, d0⟩ := (HV.out.kept (b1.mono (by omega))).at p (by rw [HF.out.1]; exact HHK.out rfl)
        have hpv : p < vs.length := by rw [HF.out.1]; exact HHK.out rfl
        have HR : Hid (res = some v) := by show _ = _; rw [HGT.out, if_pos rfl, hv]
        clear b1 HP HG HGT HHK hv x0 x1 x2 xf
        go_wp2
        go_ret2
        exact ⟨by rw [HR.out]; rfl, B1.out⟩
      | false =>
        by_cases hc0 : cs.length = 0
        · have e0 : ((cs.length : Int) == 0) = true := by rw [beq_iff_eq]; omega
          have HR : Hid (res = none) := by show _ = _; rw [HGT.out, if_neg (by simp), if_pos hc0]
          clear b1 HP HG HGT HHK hc0 x0 x1 x2 xf
          go_wp2
          go_ret2
          exact ⟨by rw [HR.out]; rfl, B1.out⟩
        · have e0 : ((cs.length : Int) == 0) = false := by rw [beq_eq_false_iff_ne]; omega
          have hpc : p < cs.length := by rcases HF.out.2.1 with h | h <;> omega
          obtain ⟨c', rfl⟩ : ∃ c', c = c' + 1 := ⟨c - 1, by have : c ≠ 0 := fun e => hc0 (HF.out.2.2.1.2 e); omega⟩
          have hb1B := b1.mono (show B ≤ wr.heap.size by omega)
          obtain ⟨b, off, ko2, kc2, vo2, vc2, yo, yc, ks2, vs2, ds, rfl, hbB, hv, hp2, d0, d1, d2⟩ := (HC.out.kept hb1B (TrRow.kept hb1B m)).at p hpc
          have hok2 := HF.out.2.2.2 p hpc
          rw [hv] at hok2
          have HR : Hid (getT (c' + 1) (.node ks2 vs2 ds) key = res) := by show _ = _; rw [HGT.out, if_neg (by simp), if_neg hc0, hv]
          have hset := below3 (x := .slice ko2 ks2.length kc2) (y := .slice vo2 vs2.length vc2) (z := .slice yo ds.length yc) (Below.refl B w1) hB
          have HM2 : Hid (BoxO (((w1.setCell ⟨w.heap.size, 0, none⟩ (.slice ko2 ks2.length kc2)).setCell ⟨w.heap.size, 1, none⟩ (.slice vo2 vs2.length vc2)).setCell ⟨w.heap.size, 2, none⟩ (.slice yo ds.length yc)) A B w.heap.size c' key res) := ⟨m, .node ks2 vs2 ds, _, _, _, ko2, kc2, vo2, vc2, yo, yc, set3 G1.out, TrRow.kept hset m _ _ _ _ hp2, hok2, HR.out⟩
          have HD2 : Hid (depM 12 (((w1.setCell ⟨w.heap.size, 0, none⟩ (.slice ko2 ks2.length kc2)).setCell ⟨w.heap.size, 1, none⟩ (.slice vo2 vs2.length vc2)).setCell ⟨w.heap.size, 2, none⟩ (.slice yo ds.length yc)) (.slice yo ds.length yc) = c') := depM_ok c' 12 m _ A B _ (.node ks2 vs2 ds) _ _ ko2 vo2 yo yc (by omega) hok2 (TrRow.kept hset m _ _ _ _ hp2)
          have HC2 : Hid ((((w1.setCell ⟨w.heap.size, 0, none⟩ (.slice ko2 ks2.length kc2)).setCell ⟨w.heap.size, 1, none⟩ (.slice vo2 vs2.length vc2)).setCell ⟨w.heap.size, 2, none⟩ (.slice yo ds.length yc)).cell? ⟨w.heap.size, 2, none⟩ = some (.slice yo ds.length yc)) := (cells3 (set3 G1.out)).2.2.1
          have HB2 := hide (below3 (x := .slice ko2 ks2.length kc2) (y := .slice vo2 vs2.length vc2) (z := .slice yo ds.length yc) B1.out (Nat.le_refl _))
          have HX2 := hide x2
          clear b1 HP HG HGT HHK hc0 x0 x1 x2 xf hv hp2 hok2 hset B1
          go_wp2
          go_roundw
          case rel => exact ⟨c', by omega, HM2, HB2⟩
          case measure =>
            rw [HC2.out, HX2.out]
            simp only [Option.getD_some]
            rw [HD2.out, HM.out]
            omega
end Go.Proofs.Ytcjcjchpdgaobaa
