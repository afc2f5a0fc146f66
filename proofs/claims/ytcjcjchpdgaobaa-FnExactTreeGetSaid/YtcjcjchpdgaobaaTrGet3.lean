/-
  Contracts: TreeGet, of the program and of the specification.
-/
import Derived.Test.YtcjcjchpdgaobaaTrGet2
import Derived.Test.YtcjcjchpdgaobaaTrLaw
import Derived.WalkMore
namespace Go.Proofs.Ytcjcjchpdgaobaa
open Go.RowKit
set_option maxRecDepth 100000

def depP (p : Value) (w : World) : Nat := match p with
  | .pointer (some ⟨g, o, _⟩) => depM 12 w ((w.cell? ⟨g, o + 2, none⟩).getD undef)
  | _ => 0
/-- What findKey tells: the node's place, and the key's in it. -/
def FindAt (w : World) (v : ByteArray) (e : Ending) : Prop := ∃ (g o p b off vn vc : Nat), e = .returned (.tuple #[.pointer (some ⟨g, o, none⟩), .int .i64 (p : Int)]) ∧ p < vn ∧ vn ≤ 3 ∧ w.cell? ⟨g, o + 1, none⟩ = some (.slice (some ⟨b, off, none⟩) vn vc) ∧ w.cell? ⟨b, off + p, none⟩ = some (.string v)
def FindPost (w : World) (res : Option ByteArray) (e : Ending) : Prop := (res = none ∧ e = .returned (.tuple #[.pointer none, .int .i64 0])) ∨ ∃ v, res = some v ∧ FindAt w v e
def PtO (w : World) (A B g o d : Nat) (key : ByteArray) (res : Option ByteArray) : Prop := ∃ (n : Nat) (t : Tr) (root : Bool) (lo hi : Option ByteArray), TrAt w A B n t g o ∧ okS (d + 1) root t lo hi = true ∧ getT (d + 1) t key = res
set_option maxHeartbeats 2000000 in
theorem findKey_any (A B n d : Nat) (t : Tr) (g o : Nat) (key : ByteArray) (w : World) (hB : B ≤ w.heap.size) (hat : TrAt w A B n t g o) (hd : d ≤ 11) (ho : okS (d + 1) true t none none = true) :
    Calls Try.prog 49 #[.pointer (some ⟨g, o, none⟩), .string key] w fun e w' => FindPost w (getT (d + 1) t key) e ∧ w' = w := by
  obtain ⟨res, hres⟩ : ∃ res, getT (d + 1) t key = res := ⟨_, rfl⟩
  have BX : Hid (PtO w A B g o d key res) := ⟨n, t, true, none, none, hat, ho, hres⟩
  rw [hres]
  clear hat ho hres
  go_enter Try.func49, Try.ntmps49
  go_wp2
  go_step3
  go_wp2
  go_step3
  go_wp2
  go_loopw [6] (fun p wr => ∃ c g o : Nat, p = .pointer (some ⟨g, o, none⟩) ∧ c ≤ 11 ∧ Hid (PtO w A B g o c key res) ∧ Hid (wr = w)) (fun p wr => depP p wr)
  case atStart => exact ⟨d, g, o, rfl, hd, BX, rfl⟩
  case round =>
    clear BX
    obtain ⟨c, g', o', rfl, hc11, HX, HW⟩ := hrel
    obtain rfl : wr = w := HW.out
    obtain ⟨m, s, root, lo, hi, ⟨hgB, ko', kc', vo', vc', xo', xc', x0, x1, x2, hrow⟩, hok, hget⟩ := HX.out
    obtain ⟨f1, f2, f3, f4, f5, f6⟩ := okS_facts hok
    have HM := hide (depM_ok c 12 m _ A B root s lo hi ko' vo' xo' xc' (by omega) hok hrow)
    obtain ⟨ks, vs, cs⟩ := s
    cases m with
    | zero => exact hrow.elim
    | succ m =>
      simp only [Tr.keys, Tr.vals, Tr.kids] at x0 x1 x2 f1 f2 f3 f4 f5 f6 HM
      have HP := hide (search_any A B ko' kc' ks key lo hi _ hB f1 f5 hrow.2.1)
      have HV := hide hrow.2.2.1
      have HC := hide hrow.2.2.2
      change Hid (StrRow _ A B vo' vs) at HV
      change Hid (KidRow _ A B (TrRow _ A B m) xo' cs) at HC
      have HF := hide (And.intro f2 (And.intro f3 (And.intro f4 f6)))
      have hpl := plc_le ks key
      have HGT : Hid (res = if hasK ks key = true then some (vs.getD (plc ks key) ByteArray.empty) else if cs.length = 0 then none else getT c (cs.getD (plc ks key) noTr) key) := hget.symm
      have HHK := hide (hasK_lt (l := ks) (key := key))
      clear HX hrow hok hget f2 f3 f4 f5 f6
      generalize plc ks key = p at *
      generalize hasK ks key = q at *
      go_wp2_with fail
      refine HP.out.mono ?_
      rintro e w1 ⟨rfl, rfl⟩
      cases q with
      | true =>
        have hpv : p < vs.length := by rw [HF.out.1]; exact HHK.out rfl
        obtain ⟨b, off, v, rfl, hbB, hv, _, d0⟩ := HV.out.at p hpv
        have HR : Hid (res = some v) := by show _ = _; rw [HGT.out, if_pos rfl, hv]
        have HFA : Hid (∀ e, e = .returned (.tuple #[.pointer (some ⟨g', o', none⟩), .int .i64 (p : Int)]) → FindAt _ v e) := fun e he => ⟨g', o', p, b, off, vs.length, vc', he, hpv, by rw [HF.out.1]; exact f1, x1, d0⟩
        clear HP HGT HHK hv
        go_wp2
        rw [Exit.noGoto_ret]
        go_ret2
        exact ⟨.inr ⟨v, HR.out, HFA.out _ rfl⟩, rfl⟩
      | false =>
        by_cases hc0 : cs.length = 0
        · have e0 : ((cs.length : Int) == 0) = true := by rw [beq_iff_eq]; omega
          have HR : Hid (res = none) := by show _ = _; rw [HGT.out, if_neg (by simp), if_pos hc0]
          clear HP HGT HHK hc0
          go_wp2
          rw [Exit.noGoto_ret]
          go_ret2
          exact ⟨.inl ⟨HR.out, rfl⟩, rfl⟩
        · have e0 : ((cs.length : Int) == 0) = false := by rw [beq_eq_false_iff_ne]; omega
          have hpc : p < cs.length := by rcases HF.out.2.1 with h | h <;> omega
          obtain ⟨c', rfl⟩ : ∃ c', c = c' + 1 := ⟨c - 1, by have : c ≠ 0 := fun e => hc0 (HF.out.2.2.1.2 e); omega⟩
          obtain ⟨b, off, rfl, hatk⟩ := HC.out.kid p hpc
          have hok2 := HF.out.2.2.2 p hpc
          have HR : Hid (getT (c' + 1) (cs.getD p noTr) key = res) := by show _ = _; rw [HGT.out, if_neg (by simp), if_neg hc0]
          have HM2 := hide (show PtO _ A B b (off + p * 3) c' key res from ⟨m, _, _, _, _, hatk, hok2, HR.out⟩)
          have HD2 : Hid (depP (.pointer (some ⟨b, off + p * 3, none⟩)) w1 = c') := by
            obtain ⟨_, ko2, kc2, vo2, vc2, yo, yc, _, _, z2, hr2⟩ := hatk
            show depM 12 _ _ = c'
            rw [z2]
            exact depM_ok c' 12 m _ A B _ _ _ _ ko2 vo2 yo yc (by omega) hok2 hr2
          have HM1 : Hid (depP (.pointer (some ⟨g', o', none⟩)) w1 = c' + 1) := by show depM 12 _ _ = _; rw [x2]; exact HM.out
          clear HP HGT HHK hc0 hok2 hatk
          go_wp2
          go_roundw
          case rel => exact ⟨c', b, off + p * 3, by go_num, by omega, HM2, by first | exact HW | exact True.intro⟩
          case measure =>
            show depP (.pointer (some ⟨b, off + p * 3, none⟩)) w1 < depP (.pointer (some ⟨g', o', none⟩)) w1
            rw [HD2.out, HM1.out]
            omega
/-- What TreeGet tells. -/
def getOut (t : Tr) (key : ByteArray) : ByteArray × Int :=
  if 20000 < key.size then (⟨#[]⟩, 2) else if (trLev t).isSome = true then (match getT (dp 12 t) t key with | none => (⟨#[]⟩, 8) | some v => (v, 0)) else (⟨#[]⟩, 1)
theorem getOut_long {t : Tr} {key : ByteArray} (h : 20000 < key.size) : getOut t key = (⟨#[]⟩, 2) := if_pos h
theorem getOut_bad {t : Tr} {key : ByteArray} (h : ¬ 20000 < key.size) (hr : (trLev t).isSome = false) : getOut t key = (⟨#[]⟩, 1) := by unfold getOut; rw [if_neg h, hr]; rfl
theorem getOut_none {t : Tr} {key : ByteArray} (h : ¬ 20000 < key.size) (hr : (trLev t).isSome = true) (hg : getT (dp 12 t) t key = none) : getOut t key = (⟨#[]⟩, 8) := by unfold getOut; rw [if_neg h, if_pos hr, hg]
theorem getOut_some {t : Tr} {key v : ByteArray} (h : ¬ 20000 < key.size) (hr : (trLev t).isSome = true) (hg : getT (dp 12 t) t key = some v) : getOut t key = (v, 0) := by unfold getOut; rw [if_neg h, if_pos hr, hg]
theorem right_ok {t : Tr} (h : (trLev t).isSome = true) : ∃ d, d ≤ 11 ∧ dp 12 t = d + 1 ∧ okS (d + 1) true t none none = true := by
  rw [← right_same, Bool.and_eq_true, decide_eq_true_eq] at h
  have := dp_pos 12 t
  refine ⟨dp 12 t - 1, by omega, by omega, ?_⟩
  rw [show dp 12 t - 1 + 1 = dp 12 t by omega]
  exact h.2
theorem resTO {fn : Func} {p : Tmp} (h : fn.results = #[.cell p 33]) (tmps : Array Value) (w : World) (g : Nat) (x y : Value) (hp : tmps.getD p undef = .pointer (some ⟨g, 0, none⟩))
    (hg : w.heap[g]? = some (.cells #[x, y] 33 (0, 0))) : (results fn tmps).run Try.prog w = .ok (.agg #[x, y]) w :=
  results_cell_row h tmps w g 33 #[x, y] (0, 0) _ hp hg Try.underlying33 rfl (by kernel_rfl)
theorem setO2 {W : World} {g : Nat} {a b x y : Value} {t : TypeId} (h : W.heap[g]? = some (.cells #[a, b] t (0, 0))) : ((W.setCell ⟨g, 0, none⟩ x).setCell ⟨g, 1, none⟩ y).heap[g]? = some (.cells #[x, y] t (0, 0)) := by
  have h1 := heap_setCell_same W g 0 _ t x h
  have h2 := heap_setCell_same _ g 1 _ t y h1
  simpa using h2
theorem cellsO2 {W : World} {g : Nat} {a b : Value} {t : TypeId} (h : W.heap[g]? = some (.cells #[a, b] t (0, 0))) : W.cell? ⟨g, 0, none⟩ = some a ∧ W.cell? ⟨g, 1, none⟩ = some b ∧ (∀ j, W.frozen? ⟨g, j, none⟩ = false) :=
  ⟨by rw [cell_of_row _ _ _ _ _ _ h]; rfl, by rw [cell_of_row _ _ _ _ _ _ h]; rfl, fun j => frozen_of_row _ _ _ _ _ h⟩
theorem eqTreeOut_same (v : ByteArray) (c : Int) (w : World) : Calls Try.prog 31 #[.agg #[.string v, .int .i64 c], .agg #[.string v, .int .i64 c]] w fun e w' => e = .returned (.bool true) ∧ Below w.heap.size w w' := by
  have B0 := hide (((Below.refl w.heap.size w).alloc (Nat.le_refl _) (.cells #[.string v, .int .i64 c] 33)).alloc (by simp) (.cells #[.string v, .int .i64 c] 33))
  go_enter Try.func31, Try.ntmps31
  go_wp2
  go_ret
  exact ⟨rfl, B0.out⟩
end Go.Proofs.Ytcjcjchpdgaobaa
