/-
  Contracts: the specification's TreeRight.
-/
import Derived.Test.YtffgobkgkhmeoaaTrOkB
import Derived.Test.YtffgobkgkhmeoaaTrOkC
import Derived.Test.YtffgobkgkhmeoaaTrDeep
namespace Go.Proofs.Ytffgobkgkhmeoaa
open Go.RowKit
set_option maxRecDepth 100000

def okP (d : Nat) : Prop := ∀ (A B n : Nat) (ko : Option Addr) (kc : Nat) (vo : Option Addr) (vc : Nat) (xo : Option Addr) (xc : Nat) (t : Tr) (root : Bool) (ls : ByteArray) (hl : Bool) (hs : ByteArray) (hh : Bool) (w : World), B ≤ w.heap.size → TrRow w A B n t ko vo xo →
    Calls Try.prog 25 #[.agg #[.slice ko t.keys.length kc, .slice vo t.vals.length vc, .slice xo t.kids.length xc], .bool root, .int .i64 ((d + 1 : Nat) : Int), .string ls, .bool hl, .string hs, .bool hh] w fun e w' => e = .returned (.bool (okS (d + 1) root t (optB hl ls) (optB hh hs))) ∧ Below w.heap.size w w'
theorem ok_all : ∀ d, d ≤ 12 → okP d := fun d => by
  induction d using Nat.strongRecOn with
  | _ d ihd =>
    intro hd A B n ko kc vo vc xo xc t root ls hl hs hh w hB hr
    obtain ⟨ks, vs, cs⟩ := t
    cases n with
    | zero => exact hr.elim
    | succ n =>
      have hlen : ks.length ≤ maxLen ∧ vs.length ≤ maxLen ∧ cs.length ≤ maxLen := hr.1
      by_cases hyes : nodeS root (.node ks vs cs) = true
      · by_cases hdd : cs.length = 0 ↔ d = 0
        · by_cases hks : ks.length = 0
          · have hc : cs.length = 0 := by
              obtain ⟨_, _, _, g4⟩ := nodeS_yes hyes
              change cs.length = 0 ∨ (cs.length = ks.length + 1 ∧ 1 ≤ ks.length) at g4
              omega
            have he : okS (d + 1) root (.node ks vs cs) (optB hl ls) (optB hh hs) = true := by rw [okS_rest hyes hdd, hks, hc]; rfl
            rw [he]
            exact ok_none A B n d ko kc vo vc xo xc ks vs cs root ls hl hs hh w hd hks hyes hdd
          · by_cases hc : cs.length = 0
            · exact ok_keys1 A B n d ko kc vo vc xo xc ks vs cs root ls hl hs hh w hd hB hr (by omega) hyes hdd hc
            · have hc1 : cs.length = ks.length + 1 := by
                obtain ⟨_, _, _, g4⟩ := nodeS_yes hyes
                change cs.length = 0 ∨ (cs.length = ks.length + 1 ∧ 1 ≤ ks.length) at g4
                omega
              obtain ⟨e, rfl⟩ : ∃ e, d = e + 1 := ⟨d - 1, by have : d ≠ 0 := fun h => hc (hdd.2 h); omega⟩
              exact ok_keys2 A B n (e + 1) ko kc vo vc xo xc ks vs cs root ls hl hs hh w hd hB hr (by omega) hyes hdd hc1 (fun ko kc vo vc xo xc t ls hl hs hh w hB hr => ihd e (by omega) (by omega) A B n ko kc vo vc xo xc t false ls hl hs hh w hB hr)
        · rw [okS_deep (t := .node ks vs cs) hdd]
          exact ok_deep_no A B n d ko kc vo vc xo xc ks vs cs root ls hl hs hh w hd hlen hyes hdd
      · rw [Bool.not_eq_true] at hyes
        rw [okS_node hyes]
        exact ok_node_no A B n d ko kc vo vc xo xc ks vs cs root ls hl hs hh w hd hlen hyes
theorem dp_pos : ∀ (f : Nat) (t : Tr), 1 ≤ dp f t
  | 0, _ => Nat.le_refl _
  | f + 1, t => by
    simp only [dp]
    cases t.kids with
    | nil => exact Nat.le_refl _
    | cons c r => simp only; omega
set_option maxHeartbeats 2000000 in
theorem specTreeRight_any (A B n : Nat) (ko : Option Addr) (kc : Nat) (vo : Option Addr) (vc : Nat) (xo : Option Addr) (xc : Nat) (t : Tr) (w : World) (hB : B ≤ w.heap.size) (hr : TrRow w A B n t ko vo xo) :
    Calls Try.prog 8 #[.agg #[.slice ko t.keys.length kc, .slice vo t.vals.length vc, .slice xo t.kids.length xc]] w fun e w' => e = .returned (.bool (trLev t).isSome) ∧ Below w.heap.size w w' := by
  have B0 := hide ((Below.refl w.heap.size w).alloc (Nat.le_refl _) (.cells #[.slice ko t.keys.length kc, .slice vo t.vals.length vc, .slice xo t.kids.length xc] 30))
  have X0 := hide (heap_alloc_new w (.cells #[.slice ko t.keys.length kc, .slice vo t.vals.length vc, .slice xo t.kids.length xc] 30))
  have HZ : Hid ((w.alloc (.cells #[.slice ko t.keys.length kc, .slice vo t.vals.length vc, .slice xo t.kids.length xc] 30)).heap.size = w.heap.size + 1) := by show _ = _; simp
  have HD := hide (fun (W : World) (hW : Below w.heap.size w W) => deep_any A B n ko kc vo vc xo xc t W (Nat.le_trans hB hW.size) (TrRow.kept (hW.mono hB) n _ _ _ _ hr))
  have HE := hide (right_same t)
  have hpos := dp_pos 12 t
  have HO := hide (fun (W : World) (hW : Below w.heap.size w W) (d : Nat) (hd : d ≤ 12) => ok_all d hd A B n ko kc vo vc xo xc t true ⟨#[]⟩ false ⟨#[]⟩ false W (Nat.le_trans hB hW.size) (TrRow.kept (hW.mono hB) n _ _ _ _ hr))
  clear hr
  obtain ⟨D, hD⟩ : ∃ D, dp 12 t = D := ⟨_, rfl⟩
  rw [hD] at HE hpos HD
  clear hD
  generalize (trLev t).isSome = res at *
  by_cases hd : D ≤ 12
  · obtain ⟨d, rfl⟩ : ∃ d, D = d + 1 := ⟨D - 1, by omega⟩
    have HE2 : Hid (res = okS (d + 1) true t none none) := by show _ = _; rw [← HE.out, decide_eq_true hd, Bool.true_and]
    have HO2 := hide (fun (W : World) (hW : Below w.heap.size w W) => HO.out W hW d (by omega))
    change Hid (∀ (W : World), Below w.heap.size w W → Calls Try.prog 25 #[.agg #[.slice ko t.keys.length kc, .slice vo t.vals.length vc, .slice xo t.kids.length xc], .bool true, .int .i64 ((d + 1 : Nat) : Int), .string ⟨#[]⟩, .bool false, .string ⟨#[]⟩, .bool false] W fun e w' => e = .returned (.bool (okS (d + 1) true t none none)) ∧ Below W.heap.size W w') at HO2
    generalize okS (d + 1) true t none none = q at *
    have e1 : (d : Int) + 1 ≤ 12 := by omega
    clear HE HO hpos hd
    go_enter Try.func8, Try.ntmps8
    go_wp2_with fail
    refine (HD.out _ B0.out).mono ?_
    generalize w.alloc (.cells #[.slice ko t.keys.length kc, .slice vo t.vals.length vc, .slice xo t.kids.length xc] 30) = W0 at *
    rintro e w1 ⟨rfl, b1⟩
    obtain ⟨x0, x1, x2, xf⟩ := cells3 ((b1.block w.heap.size (by rw [HZ.out]; omega)).trans X0.out)
    have B1 := hide (B0.out.trans (b1.mono B0.out.size))
    clear b1 HD B0 X0
    go_wp2_with fail
    refine (HO2.out _ B1.out).mono ?_
    rintro e w2 ⟨rfl, b2⟩
    have B2 := hide (B1.out.trans (b2.mono B1.out.size))
    clear b2 B1 HO2
    go_wp2
    go_ret
    exact ⟨by rw [HE2.out]; rfl, B2.out⟩
  · have HE2 : Hid (res = false) := by show _ = _; rw [← HE.out, decide_eq_false hd, Bool.false_and]
    have e1 : ¬ (D : Int) ≤ 12 := by omega
    clear HE HO hpos hd
    go_enter Try.func8, Try.ntmps8
    go_wp2_with fail
    refine (HD.out _ B0.out).mono ?_
    generalize w.alloc (.cells #[.slice ko t.keys.length kc, .slice vo t.vals.length vc, .slice xo t.kids.length xc] 30) = W0 at *
    rintro e w1 ⟨rfl, b1⟩
    have B1 := hide (B0.out.trans (b1.mono B0.out.size))
    clear b1 HD B0 X0
    go_wp2
    go_ret
    exact ⟨by rw [HE2.out]; rfl, B1.out⟩
end Go.Proofs.Ytffgobkgkhmeoaa
