/-
  Contracts: values taken in behind the interface, if they are right.
-/
import Derived.Test.YtkhklfnhninkjaaGreatVTake
import Derived.Test.YtkhklfnhninkjaaGreatInner3
import Derived.Deep.RegionHeld3
import Derived.OwnWalk
import Derived.Test.YtkhklfnhninkjaaGreatFlatV
import Derived.Test.YtkhklfnhninkjaaGreatInfoV
import Derived.Test.YtkhklfnhninkjaaGreatOwns
import Derived.Maps.AppendAt
namespace Go.Proofs.YtkhklfnhninkjaaGreat
open Go.RowKit

theorem Tryz.infoInner : (Tryz.prog.info? 113).map (fun i => (i.zero, i.size, i.bytes)) = some (some .nilIface, 1, 16) := by kernel_rfl
theorem toInners_long (ao : Option Addr) (n cap : Nat) (w : World) (hl : n ≤ maxLen) (h12 : 12 < n) :
    Calls Tryz.prog 61 #[.slice ao n cap] w fun e w' => e = .returned (.tuple #[.slice none 0 0, .bool false]) ∧ Below w.heap.size w w' := by
  unfold maxLen at hl
  go_enter Tryz.func61, Tryz.ntmps61
  go_wp2
  go_ret2
  exact ⟨rfl, Below.refl _ _⟩
set_option maxRecDepth 100000 in
set_option maxHeartbeats 2000000 in
theorem toInners_any (B : Nat) (ao : Option Addr) (cap : Nat) (vs : List Val) (w : World) (hB : B ≤ w.heap.size) (hl : vs.length ≤ 12) (hr : ValRow w B ao vs) :
    Calls Tryz.prog 61 #[.slice ao vs.length cap] w fun e w' => Below w.heap.size w w' ∧ ((vs.all vRight = true ∧ ∃ bo cp, e = .returned (.tuple #[.slice bo vs.length cp, .bool true]) ∧ CellRow w' w'.heap.size bo (vs.map innerV)) ∨ (vs.all vRight = false ∧ e = .returned (.tuple #[.slice none 0 0, .bool false]))) := by
  obtain ⟨i0, hi, hz0, hz1, hz2⟩ := info_parts Tryz.infoInner
  have HR : Hid (ValRow w B ao vs) := hr
  clear hr
  go_enter Tryz.func61, Tryz.ntmps61
  go_wp2_with (at_make; refine wpList_make_own _ rfl _ _ 105 rfl w.heap.size 113 i0 .nilIface 1 Tryz.underlying105 hi hz0 hz1 .i64 .i64 _ vs.length rfl rfl rfl (by rw [hz2]; omega) (by unfold maxLen; omega) (Nat.le_refl _) ?_; intro w1 hown1 hgrow1)
  have hb1 : Below w.heap.size w w1 := (Below.refl _ _).grown hgrow1 (Nat.le_refl _) (fun j hj => by simp at hj)
  clear hgrow1
  go_loopw [4, 17] (fun v i wr => ∃ k : Nat, k ≤ vs.length ∧ i = .int .i64 k ∧ wr.ownsRow w.heap.size 113 1 v k ((vs.take k).map innerV) ∧ Hid ((vs.take k).all vRight = true) ∧ Below w.heap.size w wr) (fun _ i _ => vs.length - (intOf i).toNat)
  case atStart => exact ⟨0, Nat.zero_le _, rfl, hown1, rfl, hb1⟩
  case round =>
    obtain ⟨k, hk, rfl, hown, HA, hb⟩ := hrel
    clear hown1 hb1
    have hB1 := hb.size
    by_cases hlt : k < vs.length
    · obtain ⟨b, off, kk, nn, tt, rfl, hbB, hv, htt, d0, d1, d2⟩ := (HR.out.kept (hb.mono hB)).at k hlt
      have HVk : Hid (vs[k] = ⟨kk, nn, tt⟩) := hv
      clear hv
      cases hvr : vRight ⟨kk, nn, tt⟩ with
      | true =>
        have hc := fun w => toInner_yes ⟨kk, nn, tt⟩ hvr w
        have HA2 : Hid ((vs.take (k + 1)).all vRight = true) := by show _ = _; rw [take_all _ _ _ hlt, HA.out, HVk.out, hvr]; rfl
        obtain ⟨u, y, hx⟩ := innerV_iface ⟨kk, nn, tt⟩
        have HM : Hid ((vs.take (k + 1)).map innerV = (vs.take k).map innerV ++ [innerV ⟨kk, nn, tt⟩]) := by show _ = _; rw [List.take_succ_eq_append_getElem hlt, List.map_append, HVk.out]; rfl
        rw [hx] at hc HM
        simp only at hc
        clear hx
        clear hvr HVk HA
        go_wp2_with fail
        refine (hc _).mono ?_
        rintro e w2 ⟨rfl, hb2⟩
        have hown2 := owns_below hown (below_alloc hb2)
        have hb3 := hb.trans ((below_alloc hb2).mono hB1)
        have hB3 := hb3.size
        clear hc hb2 hb hown d0 d1 d2
        go_wp2_with (at_builtin; refine wpList_append_own _ rfl _ _ 105 rfl w.heap.size 113 i0 .nilIface 1 16 Tryz.underlying105 hi hz0 hz1 hz2 rfl (by decide) _ _ _ rfl (hown2.alloc _) ⟨w2.heap.size, 0, none⟩ 1 1 [.iface u y] rfl rfl ?c1 ?c2 ?c3 ?c4 ?c5 ?_)
        case c1 => exact cell_one_new _ _ _
        case c2 => intro u hu; simp at hu; subst hu; rfl
        case c3 => unfold maxLen; omega
        case c4 => omega
        case c5 => simp; omega
        intro v' w3 hown3 hgrow3 _
        have hb4 := (hb3.alloc hB3 _).grown hgrow3 (by simp; omega) (fun j hj => (hown2.lt j hj).1)
        have hown4 : w3.ownsRow w.heap.size 113 1 v' (k + 1) ((vs.take (k + 1)).map innerV) := by rw [HM.out, List.map_take]; exact hown3
        clear hown3 hgrow3 hown2 hb3
        go_wp2
        go_roundw
        case rel => exact ⟨k + 1, by omega, by go_num, hown4, HA2, hb4⟩
        case measure => simp [intOf]; omega
      | false =>
        have hc := fun w => toInner_no ⟨kk, nn, tt⟩ hvr w
        simp only at hc
        have HF : Hid (vs.all vRight = false) := all_false _ _ k hlt (by rw [HVk.out, hvr])
        clear hvr HVk HA
        go_wp2_with fail
        refine (hc _).mono ?_
        rintro e w2 ⟨rfl, hb2⟩
        have hb3 := hb.trans ((below_alloc hb2).mono hB1)
        clear hc hb2 hb hown d0 d1 d2
        go_wp2
        go_ret2
        exact ⟨hb3, .inr ⟨HF.out, rfl⟩⟩
    · obtain rfl : k = vs.length := by omega
      have HF : Hid (vs.all vRight = true) := by show _ = _; rw [← HA.out, List.take_length]
      rw [List.take_length] at hown
      obtain ⟨bo, cp, rfl, hrow⟩ := cellRow_of_owns hown
      rw [List.length_map]
      have HW : Hid (CellRow wr wr.heap.size bo (vs.map innerV)) := hrow
      clear hown hrow
      go_wp2
      go_ret2
      exact ⟨hb, .inl ⟨HF.out, bo, cp, rfl, HW.out⟩⟩
end Go.Proofs.YtkhklfnhninkjaaGreat
