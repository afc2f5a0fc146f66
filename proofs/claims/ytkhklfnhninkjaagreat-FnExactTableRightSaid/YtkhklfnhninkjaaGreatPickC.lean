/-
  Contracts: values at places are picked, by the program and by the specification.
-/
import Derived.Test.YtkhklfnhninkjaaGreatSRowR
import Derived.Test.YtkhklfnhninkjaaGreatOwnV
import Derived.Test.YtkhklfnhninkjaaGreatInnersR
namespace Go.Proofs.YtkhklfnhninkjaaGreat
open Go.RowKit
set_option maxRecDepth 100000

def inAt (vs : List Val) (ns : List Int) (i : Nat) : Bool := decide (0 ≤ ns.getD i 0) && decide (ns.getD i 0 < (vs.length : Int))
def pickOk (vs : List Val) (ns : List Int) : Bool := vsRight vs && decide (ns.length ≤ 10) && upto (inAt vs ns) ns.length
def pickL (vs : List Val) (ns : List Int) (k : Nat) : List Val := (ns.take k).map fun n => vs.getD n.toNat noVal
def pickV (vs : List Val) (ns : List Int) : List Val := if pickOk vs ns = true then pickL vs ns ns.length else []
theorem pickL_len (vs : List Val) (ns : List Int) (k : Nat) (h : k ≤ ns.length) : (pickL vs ns k).length = k := by simp [pickL]; omega
theorem pickL_succ (vs : List Val) (ns : List Int) (k m : Nat) (h : k < ns.length) (hx : ns.getD k 0 = (m : Int)) : pickL vs ns (k + 1) = pickL vs ns k ++ [vs.getD m noVal] := by
  unfold pickL
  rw [List.getD_eq_getElem?_getD, List.getElem?_eq_getElem h] at hx
  simp only [Option.getD_some] at hx
  rw [List.take_succ_eq_append_getElem h, List.map_append, hx]; rfl
theorem pickV_no {vs : List Val} {ns : List Int} (h : pickOk vs ns = false) : pickV vs ns = [] := by unfold pickV; rw [h]; rfl
theorem pickV_yes {vs : List Val} {ns : List Int} (h : pickOk vs ns = true) : pickV vs ns = pickL vs ns ns.length := by unfold pickV; rw [if_pos h]
theorem ownV_nil (base : Nat) (w : World) : OwnV base (.slice none 0 0) [] w := ⟨rfl, .inl ⟨rfl, rfl⟩⟩
theorem ownV_new (w : World) (base : Nat) (h : base ≤ w.heap.size) : OwnV base (.slice (some ⟨w.heap.size, 0, none⟩) 0 0) [] (w.alloc (.cells #[] 72)) :=
  ⟨rfl, .inr ⟨w.heap.size, 0, #[], rfl, h, heap_alloc_new _ _, Nat.le_refl _, Nat.zero_le _, rfl, rfl⟩⟩
theorem size_alloc_le' {B : Nat} {w : World} (o : Obj) (h : B ≤ w.heap.size) : B ≤ (w.alloc o).heap.size := by simp; omega
theorem getD_some {α : Type} (l : List α) (d : α) (i : Nat) (h : i < l.length) : l.getD i d = l[i] := by
  rw [List.getD_eq_getElem?_getD, List.getElem?_eq_getElem h]; rfl
set_option maxHeartbeats 2000000 in
theorem implPick_any (A B B' : Nat) (vo : Option Addr) (c4 : Nat) (no : Option Addr) (c5 : Nat) (vs : List Val) (ns : List Int) (w : World) (hB : B ≤ w.heap.size) (hB' : B' ≤ w.heap.size) (hl : vs.length ≤ maxLen) (hnl : ns.length ≤ maxLen) (hn : IntRow w A B no ns) (hv : ValRow w B' vo vs) :
    Calls Tryz.prog 51 #[.slice vo vs.length c4, .slice no ns.length c5] w fun e w' => ∃ v, e = .returned v ∧ OwnV w.heap.size v (pickV vs ns) w' ∧ Below w.heap.size w w' := by
  obtain ⟨i0, hi, hz0, hz1, hz2⟩ := info_parts Tryz.infoVal
  have h1 := implValuesRight_any B' vo c4 vs w hB' hl hv
  have HP : Hid (pickOk vs ns = (vsRight vs && decide (ns.length ≤ 10) && upto (inAt vs ns) ns.length)) := rfl
  have HN := hide hn
  have HV := hide hv
  generalize vsRight vs = qv at *
  have H1 := hide h1
  clear h1 hn hv
  unfold maxLen at hl hnl
  cases qv with
  | false =>
    have HF : Hid (pickV vs ns = []) := pickV_no HP.out
    clear HP
    go_enter Tryz.func51, Tryz.ntmps51
    go_wp2_with fail
    refine H1.out.mono ?_
    rintro e w1 ⟨rfl, hb1⟩
    go_wp2
    go_ret
    exact ⟨_, rfl, by rw [HF.out]; exact ownV_nil _ _, hb1⟩
  | true =>
    by_cases h10 : 10 < ns.length
    · have HF : Hid (pickV vs ns = []) := pickV_no (by rw [HP.out]; simp [show ¬ (ns.length ≤ 10) by omega])
      clear HP
      go_enter Tryz.func51, Tryz.ntmps51
      go_wp2_with fail
      refine H1.out.mono ?_
      rintro e w1 ⟨rfl, hb1⟩
      go_wp2
      go_ret
      exact ⟨_, rfl, by rw [HF.out]; exact ownV_nil _ _, hb1⟩
    · have HU0 : Hid (pickOk vs ns = upto (inAt vs ns) ns.length) := by show _ = _; rw [HP.out]; simp [show ns.length ≤ 10 by omega]
      clear HP
      go_enter Tryz.func51, Tryz.ntmps51
      go_wp2_with fail
      refine H1.out.mono ?_
      rintro e w1 ⟨rfl, hb1⟩
      clear H1
      go_wp2
      go_loopw [5, 18] (fun u i wr => ∃ j : Nat, j ≤ ns.length ∧ i = .int .i64 j ∧ Hid (OwnV w.heap.size u (pickL vs ns j) wr) ∧ Hid (upto (inAt vs ns) j = true) ∧ Below w.heap.size w wr) (fun _ i _ => ns.length - (intOf i).toNat)
      case atStart => exact ⟨0, Nat.zero_le _, rfl, ownV_nil _ _, rfl, hb1⟩
      case round =>
        clear hb1
        obtain ⟨j, hj, rfl, HO, HU, hb⟩ := hrel
        by_cases hlt : j < ns.length
        · obtain ⟨b, off, x, rfl, hbB, hx, hxr, d0⟩ := (HN.out.kept (hb.mono hB)).at j hlt
          have HX := hide hx
          clear hx hxr
          by_cases hx0 : x < 0
          · have HF : Hid (pickV vs ns = []) := pickV_no (by rw [HU0.out]; exact upto_false hlt (by unfold inAt; rw [HX.out]; simp [show ¬ (0 ≤ x) by omega]))
            clear HX HU HU0 HO
            go_wp2
            go_ret
            exact ⟨_, rfl, by rw [HF.out]; exact ownV_nil _ _, hb⟩
          · by_cases hx1 : (vs.length : Int) ≤ x
            · have HF : Hid (pickV vs ns = []) := pickV_no (by rw [HU0.out]; exact upto_false hlt (by unfold inAt; rw [HX.out]; simp [show ¬ (x < (vs.length : Int)) by omega]))
              clear HX HU HU0 HO
              go_wp2
              go_ret
              exact ⟨_, rfl, by rw [HF.out]; exact ownV_nil _ _, hb⟩
            · obtain ⟨m, rfl⟩ : ∃ m : Nat, x = (m : Int) := ⟨x.toNat, by omega⟩
              have hm : m < vs.length := by omega
              obtain ⟨b1, off1, kk, nn, tt, rfl, hbB1, hv1, htt, e0, e1, e2⟩ := (HV.out.kept (hb.mono hB')).at m hm
              have HU2 : Hid (upto (inAt vs ns) (j + 1) = true) := by show _ = _; rw [upto_succ, HU.out]; unfold inAt; rw [HX.out]; simp [hm]
              have HL2 : Hid (pickL vs ns (j + 1) = pickL vs ns j ++ [⟨kk, nn, tt⟩]) := by show _ = _; rw [pickL_succ vs ns j m hlt HX.out, getD_some vs noVal m hm, hv1]
              have HFL : Hid (flatV (pickL vs ns j ++ [⟨kk, nn, tt⟩]) = flatV (pickL vs ns j) ++ [.int .i64 kk, .int .i64 nn, .string tt]) := by show _ = _; rw [flatV_append]; rfl
              have hpl := pickL_len vs ns j hj
              obtain ⟨ao, cap, hu⟩ := ownV_shape HO.out
              rw [hpl] at hu
              rw [hu] at HO ⊢
              have hown3 : wr.ownsRow w.heap.size 72 3 (.slice ao j cap) j (flatV (pickL vs ns j)) := by have := HO.out; unfold OwnV at this; rw [hpl] at this; exact this
              have hz3 := hb.size
              have hbl : b1 < wr.heap.size := by omega
              clear HX HU hv1 htt hu HO
              generalize pickL vs ns j = pl at *
              have HPL := hide hpl
              clear hpl
              go_wp2_with (at_builtin; refine wpList_append_own _ rfl _ _ 46 rfl w.heap.size 72 i0 (.agg #[.int .i64 0, .int .i64 0, .string ⟨#[]⟩]) 3 32 Tryz.underlying46 hi hz0 hz1 hz2 rfl (by decide) _ _ _ rfl (hown3.alloc _) ⟨wr.heap.size, 0, none⟩ 1 1 [.int .i64 kk, .int .i64 nn, .string tt] rfl rfl ?c1 ?c2 ?c3 ?c4 ?c5 ?_)
              try (case c1 => exact cell_val_new _ _ _ _ _)
              case c2 => first | exact one_val _ _ _ | exact ⟨rfl, rfl, rfl⟩
              case c3 => unfold maxLen; omega
              case c4 => omega
              case c5 => first | omega | (simp; omega)
              intro v5 w5 hown5 hgrow5 _
              have b5 := (hb.alloc hz3 _).grown hgrow5 (size_alloc_le' _ hz3) (fun j hj => (hown3.lt j hj).1)
              have HO5 : Hid (OwnV w.heap.size v5 (pickL vs ns (j + 1)) w5) := by rw [HL2.out]; exact ownV_of hown5 (by simp [HPL.out]) HFL.out.symm
              clear hown5 hgrow5 hown3 hb HFL HL2 d0 e0 e1 e2
              go_wp2
              go_roundw
              case rel => exact ⟨j + 1, by omega, by go_num, HO5, HU2, b5⟩
              case measure => simp [intOf]; omega
        · obtain rfl : j = ns.length := by omega
          have HF : Hid (pickV vs ns = pickL vs ns ns.length) := pickV_yes (by rw [HU0.out]; exact HU.out)
          clear HU HU0
          go_wp2
          go_ret
          exact ⟨_, rfl, by rw [HF.out]; exact HO.out, hb⟩
set_option maxHeartbeats 2000000 in
theorem specPick0_any (A B B' : Nat) (vo : Option Addr) (c4 : Nat) (no : Option Addr) (c5 : Nat) (vs : List Val) (ns : List Int) (w : World) (hB : B ≤ w.heap.size) (hB' : B' ≤ w.heap.size) (hnl : ns.length ≤ 10) (hin : upto (inAt vs ns) ns.length = true) (hn : IntRow w A B no ns) (hv : ValRow w B' vo vs) :
    Calls Tryz.prog 29 #[.slice vo vs.length c4, .slice no ns.length c5] w fun e w' => ∃ v, e = .returned v ∧ OwnV w.heap.size v (pickL vs ns ns.length) w' ∧ Below w.heap.size w w' := by
  obtain ⟨i0, hi, hz0, hz1, hz2⟩ := info_parts Tryz.infoVal
  have HN := hide hn
  have HV := hide hv
  have HI := hide ((upto_iff _ _).1 hin)
  clear hn hv hin
  have hO0 := ownV_new w w.heap.size (Nat.le_refl _)
  have hB0 : Below w.heap.size w (w.alloc (.cells #[] 72)) := (Below.refl _ _).alloc (Nat.le_refl _) _
  have HO0 := hide hO0
  have HB0 := hide hB0
  clear hO0 hB0
  go_enter Tryz.func29, Tryz.ntmps29
  go_wp2
  go_loopw [5, 6] (fun u i wr => ∃ j : Nat, j ≤ ns.length ∧ i = .int .i64 j ∧ Hid (OwnV w.heap.size u (pickL vs ns j) wr) ∧ Below w.heap.size w wr) (fun _ i _ => ns.length - (intOf i).toNat)
  case atStart => exact ⟨0, Nat.zero_le _, rfl, HO0, HB0.out⟩
  case round =>
    clear HO0 HB0
    obtain ⟨j, hj, rfl, HO, hb⟩ := hrel
    by_cases hlt : j < ns.length
    · obtain ⟨b, off, x, rfl, hbB, hx, hxr, d0⟩ := (HN.out.kept (hb.mono hB)).at j hlt
      have hxi := HI.out j hlt
      unfold inAt at hxi
      rw [hx] at hxi
      simp only [Bool.and_eq_true, decide_eq_true_eq] at hxi
      obtain ⟨m, rfl⟩ : ∃ m : Nat, x = (m : Int) := ⟨x.toNat, by omega⟩
      have hm : m < vs.length := by omega
      obtain ⟨b1, off1, kk, nn, tt, rfl, hbB1, hv1, htt, e0, e1, e2⟩ := (HV.out.kept (hb.mono hB')).at m hm
      have HL2 : Hid (pickL vs ns (j + 1) = pickL vs ns j ++ [⟨kk, nn, tt⟩]) := by show _ = _; rw [pickL_succ vs ns j m hlt hx, getD_some vs noVal m hm, hv1]
      have HFL : Hid (flatV (pickL vs ns j ++ [⟨kk, nn, tt⟩]) = flatV (pickL vs ns j) ++ [.int .i64 kk, .int .i64 nn, .string tt]) := by show _ = _; rw [flatV_append]; rfl
      have hpl := pickL_len vs ns j hj
      obtain ⟨ao, cap, hu⟩ := ownV_shape HO.out
      rw [hpl] at hu
      rw [hu] at HO ⊢
      have hown3 : wr.ownsRow w.heap.size 72 3 (.slice ao j cap) j (flatV (pickL vs ns j)) := by have := HO.out; unfold OwnV at this; rw [hpl] at this; exact this
      have hz3 := hb.size
      have hbl : b1 < wr.heap.size := by omega
      clear hv1 htt hu HO hx hxr hxi
      generalize pickL vs ns j = pl at *
      have HPL := hide hpl
      clear hpl
      go_wp2_with (at_builtin; refine wpList_append_own _ rfl _ _ 46 rfl w.heap.size 72 i0 (.agg #[.int .i64 0, .int .i64 0, .string ⟨#[]⟩]) 3 32 Tryz.underlying46 hi hz0 hz1 hz2 rfl (by decide) _ _ _ rfl (hown3.alloc _) ⟨wr.heap.size, 0, none⟩ 1 1 [.int .i64 kk, .int .i64 nn, .string tt] rfl rfl ?c1 ?c2 ?c3 ?c4 ?c5 ?_)
      try (case c1 => exact cell_val_new _ _ _ _ _)
      case c2 => first | exact one_val _ _ _ | exact ⟨rfl, rfl, rfl⟩
      case c3 => unfold maxLen; omega
      case c4 => omega
      case c5 => first | omega | (simp; omega)
      intro v5 w5 hown5 hgrow5 _
      have b5 := (hb.alloc hz3 _).grown hgrow5 (size_alloc_le' _ hz3) (fun j hj => (hown3.lt j hj).1)
      have HO5 : Hid (OwnV w.heap.size v5 (pickL vs ns (j + 1)) w5) := by rw [HL2.out]; exact ownV_of hown5 (by simp [HPL.out]) HFL.out.symm
      clear hown5 hgrow5 hown3 hb HFL HL2 d0 e0 e1 e2
      go_wp2
      go_roundw
      case rel => exact ⟨j + 1, by omega, by go_num, HO5, b5⟩
      case measure => simp [intOf]; omega
    · obtain rfl : j = ns.length := by omega
      go_wp2
      go_ret
      exact ⟨_, rfl, HO.out, hb⟩
end Go.Proofs.YtkhklfnhninkjaaGreat
