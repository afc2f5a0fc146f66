/-
  Texts in a row of their own: held against others.
-/
import Derived.Test.YtgnegidgeegknaaRows
import Derived.Test.YtgnegidgeegknaaTrRow
import Derived.Test.YtgnegidgeegknaaOwns
import Derived.Test.YtgnegidgeegknaaGrowG
import Derived.Deep.RegionHeld3
import Derived.OwnWalk
import Derived.WalkLawsBesides
namespace Go.Proofs.Ytgnegidgeegknaa
open Go.RowKit
set_option maxRecDepth 100000

theorem Try.infoStr' : (Try.prog.info? 9).map (fun i => (i.zero, i.size, i.bytes)) = some (some (.string ⟨#[]⟩), 1, 16) := by kernel_rfl
/-- Texts that a call has made, in a row of their own. -/
def OwnS (base : Nat) (v : Value) (l : List ByteArray) (w : World) : Prop := w.ownsRow base 9 1 v l.length (strsV l)
theorem strsV_len (l : List ByteArray) : (strsV l).length = l.length := by simp [strsV]
theorem ownS_row {base : Nat} {v : Value} {l : List ByteArray} {w : World} (h : OwnS base v l w) : ∃ ao cap, v = .slice ao l.length cap ∧ ∀ k, k < l.length → ∃ b off x, ao = some ⟨b, off, none⟩ ∧ b < w.heap.size ∧ l.getD k ByteArray.empty = x ∧ w.cell? ⟨b, off + k, none⟩ = some (.string x) := by
  obtain ⟨ao, cap, hv, hc⟩ := cellRow_of_owns h
  rw [strsV_len] at hv
  refine ⟨ao, cap, hv, fun k hk => ?_⟩
  obtain ⟨b, off, e, hb, hk'⟩ := hc.at k (by rw [strsV_len]; exact hk)
  refine ⟨b, off, _, e, hb, rfl, hk'.trans ?_⟩
  simp [strsV, List.getD_eq_getElem?_getD, hk]
set_option maxHeartbeats 2000000 in
theorem eqStringS_own (base base' : Nat) (v v' : Value) (l : List ByteArray) (w : World) (hl : l.length ≤ 1048576) (ha : OwnS base v l w) (hb : OwnS base' v' l w) :
    Calls Try.prog 43 #[v, v'] w fun e w' => e = .returned (.bool true) ∧ Below w.heap.size w w' := by
  obtain ⟨ao, cap, rfl, hka⟩ := ownS_row ha
  obtain ⟨bo, cp, rfl, hkb⟩ := ownS_row hb
  have HA := hide hka
  have HB := hide hkb
  clear ha hb hka hkb
  go_enter Try.func43, Try.ntmps43
  go_wp2
  go_loopw [5] (fun i wr => ∃ k : Nat, k ≤ l.length ∧ i = .int .i64 k ∧ Below w.heap.size w wr) (fun i _ => l.length - (intOf i).toNat)
  case atStart => exact ⟨0, Nat.zero_le _, rfl, Below.refl _ _⟩
  case round =>
    obtain ⟨k, hk, rfl, hbw⟩ := hrel
    by_cases hlt : k < l.length
    · obtain ⟨b, off, x, rfl, hbB, hv, d00⟩ := HA.out k hlt
      obtain ⟨b', off', x', rfl, hbB', hv', e00⟩ := HB.out k hlt
      rw [hv] at hv'
      subst hv'
      have d0 := (hbw.cell (p := ⟨b, off + k, none⟩) hbB).trans d00
      have e0 := (hbw.cell (p := ⟨b', off' + k, none⟩) hbB').trans e00
      have hi0 : (0 : Int) ≤ (k : Int) := by omega
      have hi1 : (k : Int) < (l.length : Int) := by omega
      have ht := (Int.toNat_natCast k)
      clear hv d00 e00
      go_wp2
      go_region_held3 (fun W => W.cell? ⟨b, off + k, none⟩ = some (.string x) ∧ W.cell? ⟨b', off' + k, none⟩ = some (.string x)) (go_keep) (fail)
      all_goals
        have hb2 : Below w.heap.size w _ := hbw.drew
        clear d0 e0 hbw
        go_wp2
        go_roundw
        case rel => exact ⟨k + 1, by omega, by go_num, hb2⟩
        case measure => simp [intOf]; omega
    · go_wp2
      go_ret
      exact ⟨rfl, hbw⟩
theorem ownS_block {base : Nat} {v : Value} {l : List ByteArray} {w : World} (h : OwnS base v l w) : ∀ b, v.ownBlock = some b → base ≤ b ∧ b < w.heap.size := fun b hb => World.ownsRow.lt h b hb
theorem ownS_grown {base : Nat} {v u : Value} {l : List ByteArray} {w w' : World} (h : OwnS base v l w) (hm : w.grownBy w' u.ownBlock) (ho : ∀ b, v.ownBlock = some b → u.ownBlock ≠ some b) : OwnS base v l w' := by
  refine ⟨h.1, ?_⟩
  rcases h.2 with h0 | ⟨g, cap, cur, rfl, hB, hg, hn, hq, hs, ht⟩
  · exact .inl h0
  · exact .inr ⟨g, cap, cur, rfl, hB, (hm.block g (Array.getElem?_eq_some_iff.1 hg).1 (ho g rfl).symm).trans hg, hn, hq, hs, ht⟩
theorem ownS_shape {base : Nat} {v : Value} {l : List ByteArray} {w : World} (h : OwnS base v l w) : ∃ ao cap, v = .slice ao l.length cap := by
  obtain ⟨ao, cap, e, _⟩ := ownS_row h
  exact ⟨ao, cap, e⟩
end Go.Proofs.Ytgnegidgeegknaa
