/-
  Contracts: a drawn text of values, spoiled or cut.
-/
import Derived.Test.YtkkggbbpaflieaaGreatDoorKDraw4
import Derived.Test.YtkkggbbpaflieaaGreatDoorConvOne
import Derived.Test.YtkkggbbpaflieaaGreatDoorKeyA
namespace Go.Proofs.YtkkggbbpaflieaaGreatDoor
open Go.RowKit

/-- A drawn text. -/
def DrawnT (g B n : Nat) (w : World) (e : Ending) (w' : World) : Prop := ∃ u : ByteArray, e = .returned (.string u) ∧ u.size ≤ n ∧ Src w' B g ∧ w.grownBy w' (some g)
theorem drawnT_mk {g B n : Nat} {w : World} {e : Ending} {w' : World} (u : ByteArray) (h1 : e = .returned (.string u)) (h2 : u.size ≤ n) (h3 : Src w' B g ∧ w.grownBy w' (some g)) : DrawnT g B n w e w' := ⟨u, h1, h2, h3⟩
theorem drewS {g B : Nat} {w W : World} (h : Src W B g ∧ w.grownBy W (some g)) : Src W.drew B g ∧ w.grownBy W.drew (some g) :=
  ⟨h.1.kept (Below.refl _ _).drew rfl, h.2.os, h.2.tape, h.2.output, h.2.size, h.2.block⟩
set_option maxRecDepth 100000 in
set_option maxHeartbeats 4000000 in
theorem spoil_any (g B : Nat) (t : ByteArray) (ht : t.size ≤ 20000) (w : World) (hs : Src w B g) (hB : B ≤ g) :
    Calls Tryz.prog 32 #[.pointer (some ⟨g, 0, none⟩), .string t] w (DrawnT g B (t.size + 1) w) := by
  have hlt := hs.lt
  have HS : Hid (Src w B g) := hs
  clear hs
  go_enter Tryz.func32, Tryz.ntmps32
  go_wp2_with fail
  refine (n_any g B ((t.size : Int) + 1) (by omega) (by omega) _ HS.out hB).mono ?_
  rintro e w1 ⟨k, rfl, hk0, hk1, hs1, hg1, hz1⟩
  obtain ⟨k, rfl⟩ := Int.eq_ofNat_of_zero_le hk0
  have H1 : Hid (Src w1 B g ∧ w.grownBy w1 (some g)) := ⟨hs1, hg1⟩
  clear hs1 hg1 hz1 HS
  go_wp2_with fail
  refine (n_any g B 17 (by omega) (by omega) _ H1.out.1 hB).mono ?_
  rintro e w2 ⟨r, rfl, hr0, hr1, hs2, hg2, hz2⟩
  obtain ⟨r, rfl⟩ := Int.eq_ofNat_of_zero_le hr0
  have H2 : Hid (Src w2 B g ∧ w.grownBy w2 (some g)) := ⟨hs2, grown_trans H1.out.2 hg2 (fun j hj => .inl (by simpa using hj.symm))⟩
  clear hs2 hg2 hz2 H1
  have hr17 : r < 17 := by omega
  have hcv := fun (W : World) (c : UInt8) => conv_one W c (c.toNat : Int) rfl
  have hcs : ∀ c : UInt8, (mkS [c]).size = 1 := fun c => mkS_size _
  have H3 : Hid (∀ o, Src (w2.alloc o) B g ∧ w.grownBy (w2.alloc o) (some g)) := fun o => ⟨H2.out.1.kept ((Below.refl _ _).alloc (by have := H2.out.1.lt; omega) _) (Below.heap_alloc _ _ _ H2.out.1.lt), grown_alloc H2.out.2 o⟩
  clear H2
  by_cases hk : k = t.size
  · subst hk
    go_wp2_with fail
    go_region
    go_wp2
    go_ret
    exact drawnT_mk _ rfl (by simp only [ByteArray.size_append, hcs]; omega) (drewS (H3.out _))
  · have hkl : k < t.size := by omega
    go_wp2_with fail
    refine (one_any g B 3 (by omega) (by omega) _ (H3.out _).1 hB).mono ?_
    rintro e w4 ⟨b, rfl, hs4, hg4, hz4⟩
    have H4 : Hid (Src w4 B g ∧ w.grownBy w4 (some g)) := ⟨hs4, grown_trans (H3.out _).2 hg4 (fun j hj => .inl (by simpa using hj.symm))⟩
    clear hs4 hg4 hz4 H3 hcv
    cases b with
    | true =>
      go_wp2_with fail
      go_region
      go_wp2
      go_ret
      exact drawnT_mk _ rfl (by simp only [ByteArray.size_append, ByteArray.size_extract, hcs]; omega) (drewS H4.out)
    | false =>
      go_wp2_with fail
      refine (one_any g B 2 (by omega) (by omega) _ H4.out.1 hB).mono ?_
      rintro e w5 ⟨b, rfl, hs5, hg5, hz5⟩
      have H5 : Hid (Src w5 B g ∧ w.grownBy w5 (some g)) := ⟨hs5, grown_trans H4.out.2 hg5 (fun j hj => .inl (by simpa using hj.symm))⟩
      clear hs5 hg5 hz5 H4
      cases b with
      | true =>
        go_wp2_with fail
        go_region
        go_wp2
        go_ret
        exact drawnT_mk _ rfl (by simp only [ByteArray.size_append, ByteArray.size_extract]; omega) (drewS H5.out)
      | false =>
        go_wp2_with fail
        go_region
        go_wp2
        go_ret
        exact drawnT_mk _ rfl (by simp only [ByteArray.size_append, ByteArray.size_extract, hcs]; omega) (drewS H5.out)
theorem VsOk.row {base : Nat} {v : Value} {vs : List Val} {w : World} (h : VsOk vs v base w) : ∃ ao cap, v = .slice ao vs.length cap ∧ ValRow w w.heap.size ao vs := by
  have ho : ∀ x ∈ vs, x.ok := fun x hx => (h.2.2 x hx).1
  have ht : ∀ x ∈ vs, x.text.size ≤ maxLen := fun x hx => Nat.le_trans (h.2.2 x hx).2 (by decide)
  rcases h.1.2 with ⟨rfl, h0⟩ | ⟨g, cap, cur, rfl, hB, hq, hn', hm, hs, hc⟩
  · exact ⟨none, 0, by rw [h0], ho, ht, .inl h0⟩
  · exact ⟨_, _, rfl, valRow_of (cur := cur.toList) (by simpa using hq) hc ho ht⟩
theorem keyOf_size (vs : List Val) : (keyOf vs).size ≤ 4836 := by
  unfold keyOf
  by_cases h : vsRight vs = true
  · rw [if_pos h, mkS_size]
    obtain ⟨h1, h2⟩ := vsRight_len h
    have := keyL_le vs vs.length h2 h1
    rwa [List.take_length] at this
  · rw [if_neg h]; decide
/-- What DrawKeyRead answers. -/
def DrawnKey (w : World) (e : Ending) (w' : World) : Prop := ∃ u : ByteArray, e = .returned (.string u) ∧ u.size ≤ 4837 ∧ Below w.heap.size w w'
theorem drawnKey_mk {w : World} {e : Ending} {w' : World} (u : ByteArray) (h1 : e = .returned (.string u)) (h2 : u.size ≤ 4837) (h3 : Below w.heap.size w w') : DrawnKey w e w' := ⟨u, h1, h2, h3⟩
set_option maxRecDepth 100000 in
set_option maxHeartbeats 4000000 in
theorem drawKeyRead_any (B : Nat) (ao : Option Addr) (len cap : Nat) (zs : List Int) (w : World) (hB : B ≤ w.heap.size) (hl : len ≤ 1048576) (hr : ByteRow w B ao len zs) :
    Calls Tryz.prog 12 #[.slice ao len cap] w (DrawnKey w) := by
  have HR : Hid (ByteRow w B ao len zs) := hr
  clear hr
  go_enter Tryz.func12, Tryz.ntmps12
  go_wp2_with fail
  refine (source_any B ao len cap zs _ hB hl HR.out).mono ?_
  rintro e w1 ⟨g, rfl, hg, hs1, hb1⟩
  have hBg : B ≤ g := by omega
  have HS1 : Hid (Src w1 B g) := hs1
  clear hs1
  go_wp2_with fail
  refine (drawVs_any g B _ HS1.out hBg).mono ?_
  rintro e w2 ⟨v, vs, rfl, hvl, hva⟩
  have b2 := below_draw hb1 hg hva.2.2.2
  have HS2 : Hid (Src w2 B g) := hva.2.2.1
  have A2 : VsOk vs v w1.heap.size w2 := ⟨hva.1, hvl, hva.2.1.1⟩
  obtain ⟨va, vc, rfl, hrow⟩ := A2.row
  have HW : Hid (ValRow w2 w2.heap.size va vs) := hrow
  clear hva hb1 HS1 A2 hrow
  go_wp2_with fail
  refine (specKeyBytes_any va vc vs _ (by unfold maxLen; omega) HW.out).mono ?_
  rintro e w3 ⟨rfl, hb3⟩
  have hts := keyOf_size vs
  generalize keyOf vs = t at *
  have hw2 := b2.size
  have b3 := b2.trans (hb3.mono hw2)
  have HS3 : Hid (Src w3 B g) := HS2.out.kept (hb3.mono (by have := HS2.out.lt; omega)) (hb3.block g HS2.out.lt)
  clear hb3 HS2 HW b2
  go_wp2_with fail
  refine (n_any g B 4 (by omega) (by omega) _ HS3.out hBg).mono ?_
  rintro e w4 ⟨q, rfl, hq0, hq1, hs4, hg4, hz4⟩
  have b4 := below_draw b3 hg hg4
  have HS4 : Hid (Src w4 B g) := hs4
  clear hs4 hg4 hz4 HS3 b3
  have hq : q = 0 ∨ q = 1 ∨ q = 2 ∨ q = 3 := by omega
  rcases hq with rfl | rfl | rfl | rfl
  · go_wp2_with fail
    refine (spoil_any g B t (by omega) _ HS4.out hBg).mono ?_
    rintro e w5 ⟨u, rfl, hu, hs5, hg5⟩
    have b5 := below_draw b4 hg hg5
    clear hs5 hg5 HS4 b4
    go_wp2
    go_ret
    exact drawnKey_mk u rfl (by omega) b5
  · go_wp2_with fail
    refine (n_any g B ((t.size : Int) + 1) (by omega) (by omega) _ HS4.out hBg).mono ?_
    rintro e w5 ⟨k, rfl, hk0, hk1, hs5, hg5, hz5⟩
    obtain ⟨k, rfl⟩ := Int.eq_ofNat_of_zero_le hk0
    have b5 := below_draw b4 hg hg5
    clear hs5 hg5 HS4 b4 hz5
    go_wp2
    go_ret
    exact drawnKey_mk (t.extract 0 k) rfl (by simp only [ByteArray.size_extract]; omega) b5
  · go_wp2
    go_ret
    exact drawnKey_mk t rfl (by omega) b4
  · go_wp2
    go_ret
    exact drawnKey_mk t rfl (by omega) b4
end Go.Proofs.YtkkggbbpaflieaaGreatDoor
