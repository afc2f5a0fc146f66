/-
  Contracts and plain laws, part 3 of 8: RdFst, Owns, OwnBytes, DkSec, TrPlain, TrRow, DkRow
-/
import Derived.WalkKit
import Derived.Laws.AppendOwn
import Derived.Below
import Derived.Maps.AppendAt
import Derived.Lib.BufferWrite
import Derived.Laws.ResultCell
import Derived.Deep.WholeRow
import Derived.Laws.CopyOwn
import Derived.Test.YtaapacpiipcogaaPb

/-
  Contract: the specification's reader's first byte.
-/
namespace Go.Proofs.Ytaapacpiipcogaa
open Go.RowKit
set_option maxRecDepth 100000

/-- Behind the first byte, where it is the one that is asked for. -/
def rFst (s : ByteArray) (b : Nat) : St := match s.data.toList with
  | [] => none
  | x :: _ => if x.toNat = b then some 1 else none
theorem rFst_nil {s : ByteArray} {b : Nat} (h : s.size = 0) : rFst s b = none := by
  have : s.data.toList = [] := List.eq_nil_of_length_eq_zero h
  unfold rFst; rw [this]
theorem rFst_cons {s : ByteArray} {b : Nat} (h : 0 < s.size) : rFst s b = if (s[0]'h).toNat = b then some 1 else none := by
  have e : s.data.toList = s[0] :: s.data.toList.drop 1 := by have := drop_cons s 0 h; rw [List.drop_zero] at this; exact this
  unfold rFst; rw [e]
set_option maxHeartbeats 1000000 in
theorem spFirst_any (g : Nat) (s : ByteArray) (b : Nat) (w : World) (h : SpAt g s (some 0) w) :
    Calls Try.prog 87 #[.pointer (some ⟨g, 0, none⟩), .int .u8 (b : Int)] w fun e w' => e = .returned (.tuple #[]) ∧ SpAt g s (rFst s b) w' ∧ w.grownBy w' (some g) := by
  obtain ⟨hs, a, t, hg, ha, hst⟩ := h
  rcases hst with ⟨p, hp, rfl, rfl, hp2⟩ | ⟨h0, _⟩
  · cases hp
    have hg' : w.heap[g]? = some (.cells #[.string s, .int .i64 0, .bool false] 120 (0, 0)) := hg
    clear hg
    have hg := hg'
    clear hg'
    obtain ⟨c0, c1, c2, cf⟩ := cells3 hg
    have HG := hide hg
    clear hg
    by_cases h0 : s.size = 0
    · have HR := hide (rFst_nil (b := b) h0)
      go_enter Try.func87, Try.ntmps87
      go_wp2
      refine wp_region_noPanic ?_
      refine wp_region_held_drew (S := fun W => W.cell? ⟨g, 0, none⟩ = some (.string s) ∧ W.cell? ⟨g, 1, none⟩ = some (.int .i64 0) ∧ W.cell? ⟨g, 2, none⟩ = some (.bool false)) (by kernel_rfl) ?_ (fun hHeld => ?_)
      · (try dsimp only); go_keep
      refine takeD 0 4 (v := ?v1x0) rfl rfl (by kernel_rfl) (by kernel_rfl) (by kernel_rfl) (fun _ _ _ h => h) (by kernel_rfl) ?hy1x0 (by assumption) ?r1x0
      case hy1x0 => (intro W hSw; (try dsimp only at hSw); go_simp; try with_reducible rfl)
      simp only [Act.put, List.setIfInBounds_toArray, List.set_cons_zero, List.set_cons_succ]
      refine takeD 1 5 (v := ?v1x1) rfl rfl (by kernel_rfl) (by kernel_rfl) (by kernel_rfl) (fun _ _ _ h => h) (by kernel_rfl) ?hy1x1 (by assumption) ?r1x1
      case hy1x1 => (intro W hSw; (try dsimp only at hSw); go_simp; try with_reducible rfl)
      simp only [Act.put, List.setIfInBounds_toArray, List.set_cons_zero, List.set_cons_succ]
      refine takeD 2 6 (v := ?v1x2) rfl rfl (by kernel_rfl) (by kernel_rfl) (by kernel_rfl) (fun _ _ _ h => h) (by kernel_rfl) ?hy1x2 (by assumption) ?r1x2
      case hy1x2 => (intro W hSw; (try dsimp only at hSw); go_simp; try with_reducible rfl)
      simp only [Act.put, List.setIfInBounds_toArray, List.set_cons_zero, List.set_cons_succ]
      refine takeD 3 7 (v := ?v1x3) rfl rfl (by kernel_rfl) (by kernel_rfl) (by kernel_rfl) (fun _ _ _ h => h) (by kernel_rfl) ?hy1x3 (by assumption) ?r1x3
      case hy1x3 => (intro W hSw; (try dsimp only at hSw); go_simp; try with_reducible rfl)
      simp only [Act.put, List.setIfInBounds_toArray, List.set_cons_zero, List.set_cons_succ]
      refine takeD 4 8 (v := ?v1x4) rfl rfl (by kernel_rfl) (by kernel_rfl) (by kernel_rfl) (fun _ _ _ h => h) (by kernel_rfl) ?hy1x4 (by assumption) ?r1x4
      case hy1x4 => (intro W hSw; (try dsimp only at hSw); go_simp; try with_reducible rfl)
      simp only [Act.put, List.setIfInBounds_toArray, List.set_cons_zero, List.set_cons_succ]
      refine takeD 5 9 (v := ?v1x5) rfl rfl (by kernel_rfl) (by kernel_rfl) (by kernel_rfl) (fun _ _ _ h => h) (by kernel_rfl) ?hy1x5 (by assumption) ?r1x5
      case hy1x5 => (intro W hSw; (try dsimp only at hSw); go_simp; try with_reducible rfl)
      simp only [Act.put, List.setIfInBounds_toArray, List.set_cons_zero, List.set_cons_succ]
      refine takeD 6 10 (v := ?v1x6) rfl rfl (by kernel_rfl) (by kernel_rfl) (by kernel_rfl) (fun _ _ _ h => h) (by kernel_rfl) ?hy1x6 (by assumption) ?r1x6
      case hy1x6 => (intro W hSw; (try dsimp only at hSw); go_simp; try with_reducible rfl)
      simp only [Act.put, List.setIfInBounds_toArray, List.set_cons_zero, List.set_cons_succ]
      refine takeD 7 11 (v := ?v1x7) rfl rfl (by kernel_rfl) (by kernel_rfl) (by kernel_rfl) (fun _ _ _ h => h) (by kernel_rfl) ?hy1x7 (by assumption) ?r1x7
      case hy1x7 => (intro W hSw; (try dsimp only at hSw); go_simp; try with_reducible rfl)
      simp only [Act.put, List.setIfInBounds_toArray, List.set_cons_zero, List.set_cons_succ]
      refine takeD 8 12 (v := ?v1x8) rfl rfl (by kernel_rfl) (by kernel_rfl) (by kernel_rfl) (fun _ _ _ h => h) (by kernel_rfl) ?hy1x8 (by assumption) ?r1x8
      case hy1x8 => (intro W hSw; (try dsimp only at hSw); go_simp; try with_reducible rfl)
      simp only [Act.put, List.setIfInBounds_toArray, List.set_cons_zero, List.set_cons_succ]
      refine takeD 9 13 (v := ?v1x9) rfl rfl (by kernel_rfl) (by kernel_rfl) (by kernel_rfl) (fun _ _ _ h => h) (by kernel_rfl) ?hy1x9 (by assumption) ?r1x9
      case hy1x9 => (intro W hSw; (try dsimp only at hSw); go_simp; try with_reducible rfl)
      simp only [Act.put, List.setIfInBounds_toArray, List.set_cons_zero, List.set_cons_succ]
      refine takeD 10 14 (v := ?v1x10) rfl rfl (by kernel_rfl) (by kernel_rfl) (by kernel_rfl) (fun _ _ _ h => h) (by kernel_rfl) ?hy1x10 (by assumption) ?r1x10
      case hy1x10 => (intro W hSw; (try dsimp only at hSw); go_simp; try with_reducible rfl)
      simp only [Act.put, List.setIfInBounds_toArray, List.set_cons_zero, List.set_cons_succ]
      refine takeD 11 15 (v := ?v1x11) rfl rfl (by kernel_rfl) (by kernel_rfl) (by kernel_rfl) (fun _ _ _ h => h) (by kernel_rfl) ?hy1x11 (by assumption) ?r1x11
      case hy1x11 => (intro W hSw; (try dsimp only at hSw); go_simp; try with_reducible rfl)
      simp only [Act.put, List.setIfInBounds_toArray, List.set_cons_zero, List.set_cons_succ]
      refine takeD 12 16 (v := ?v1x12) rfl rfl (by kernel_rfl) (by kernel_rfl) (by kernel_rfl) (fun _ _ _ h => h) (by kernel_rfl) ?hy1x12 (by assumption) ?r1x12
      case hy1x12 => (intro W hSw; (try dsimp only at hSw); go_simp; try with_reducible rfl)
      simp only [Act.put, List.setIfInBounds_toArray, List.set_cons_zero, List.set_cons_succ]
      refine takeD 13 17 (v := ?v1x13) rfl rfl (by kernel_rfl) (by kernel_rfl) (by kernel_rfl) (fun _ _ _ h => h) (by kernel_rfl) ?hy1x13 (by assumption) ?r1x13
      case hy1x13 => (intro W hSw; (try dsimp only at hSw); go_simp; try with_reducible rfl)
      simp only [Act.put, List.setIfInBounds_toArray, List.set_cons_zero, List.set_cons_succ]
      refine takeD 14 18 (v := ?v1x14) rfl rfl (by kernel_rfl) (by kernel_rfl) (by kernel_rfl) (fun _ _ _ h => h) (by kernel_rfl) ?hy1x14 (by assumption) ?r1x14
      case hy1x14 => (intro W hSw; (try dsimp only at hSw); go_simp; try with_reducible rfl)
      simp only [Act.put, List.setIfInBounds_toArray, List.set_cons_zero, List.set_cons_succ]
      refine takeD 15 19 (v := ?v1x15) rfl rfl (by kernel_rfl) (by kernel_rfl) (by kernel_rfl) (fun _ _ _ h => h) (by kernel_rfl) ?hy1x15 (by assumption) ?r1x15
      case hy1x15 => (intro W hSw; (try dsimp only at hSw); go_simp; try with_reducible rfl)
      simp only [Act.put, List.setIfInBounds_toArray, List.set_cons_zero, List.set_cons_succ]
      refine takeD 16 20 (v := ?v1x16) rfl rfl (by kernel_rfl) (by kernel_rfl) (by kernel_rfl) (fun _ _ _ h => h) (by kernel_rfl) ?hy1x16 (by assumption) ?r1x16
      case hy1x16 => (intro W hSw; (try dsimp only at hSw); go_simp; try with_reducible rfl)
      simp only [Act.put, List.setIfInBounds_toArray, List.set_cons_zero, List.set_cons_succ]
      refine skipAll [(17, 21), (18, 22), (19, 23), (20, 24), (21, 25), (22, 26), (23, 27), (24, 28), (25, 29), (26, 30), (27, 31)] (by kernel_rfl) (fun _ _ _ _ _ h => h) (by assumption) (by kernel_rfl) ?_
      simp only [putAll, listAll, List.foldl_cons, List.foldl_nil, Act.put, List.setIfInBounds_toArray, List.set_cons_zero, List.set_cons_succ]
      refine takeD 28 32 (v := ?v1x28) rfl rfl (by kernel_rfl) (by kernel_rfl) (by kernel_rfl) (fun _ _ _ h => h) (by kernel_rfl) ?hy1x28 (by assumption) ?r1x28
      case hy1x28 => (intro W hSw; (try dsimp only at hSw); go_simp; try with_reducible rfl)
      simp only [Act.put, List.setIfInBounds_toArray, List.set_cons_zero, List.set_cons_succ]
      refine wpAnyH_done (by kernel_rfl) ?_ _
      refine NoPanic.normal ?_
      go_wp2
      refine bodyPost_ret (v := .tuple #[]) (by simp [results, Try.results87, go_sem]) rfl ⟨rfl, ?_, (grown_setG (grown_refl _ _)).trans grown_drew⟩
      rw [HR.out]
      exact ⟨hs, _, _, setc2 HG.out, by omega, .inr ⟨rfl, rfl⟩⟩
    · have hpos : 0 < s.size := by omega
      have HR := hide (rFst_cons (b := b) hpos)
      have hx : (s[0]'hpos).toNat < 256 := (s[0]'hpos).toNat_lt
      by_cases hq : (s[0]'hpos).toNat = b
      · have hq' : (((s[0]'hpos).toNat : Int) = (b : Int)) := by omega
        have hR2 : Hid (rFst s b = some 1) := by show _ = _; rw [HR.out, if_pos hq]
        clear HR hq
        go_enter Try.func87, Try.ntmps87
        go_wp2
        refine wp_region_noPanic ?_
        refine wp_region_held_drew (S := fun W => W.cell? ⟨g, 0, none⟩ = some (.string s) ∧ W.cell? ⟨g, 1, none⟩ = some (.int .i64 0) ∧ W.cell? ⟨g, 2, none⟩ = some (.bool false)) (by kernel_rfl) ?_ (fun hHeld => ?_)
        · (try dsimp only); go_keep
        refine takeD 0 4 (v := ?v2x0) rfl rfl (by kernel_rfl) (by kernel_rfl) (by kernel_rfl) (fun _ _ _ h => h) (by kernel_rfl) ?hy2x0 (by assumption) ?r2x0
        case hy2x0 => (intro W hSw; (try dsimp only at hSw); go_simp; try with_reducible rfl)
        simp only [Act.put, List.setIfInBounds_toArray, List.set_cons_zero, List.set_cons_succ]
        refine takeD 1 5 (v := ?v2x1) rfl rfl (by kernel_rfl) (by kernel_rfl) (by kernel_rfl) (fun _ _ _ h => h) (by kernel_rfl) ?hy2x1 (by assumption) ?r2x1
        case hy2x1 => (intro W hSw; (try dsimp only at hSw); go_simp; try with_reducible rfl)
        simp only [Act.put, List.setIfInBounds_toArray, List.set_cons_zero, List.set_cons_succ]
        refine takeD 2 6 (v := ?v2x2) rfl rfl (by kernel_rfl) (by kernel_rfl) (by kernel_rfl) (fun _ _ _ h => h) (by kernel_rfl) ?hy2x2 (by assumption) ?r2x2
        case hy2x2 => (intro W hSw; (try dsimp only at hSw); go_simp; try with_reducible rfl)
        simp only [Act.put, List.setIfInBounds_toArray, List.set_cons_zero, List.set_cons_succ]
        refine takeD 3 7 (v := ?v2x3) rfl rfl (by kernel_rfl) (by kernel_rfl) (by kernel_rfl) (fun _ _ _ h => h) (by kernel_rfl) ?hy2x3 (by assumption) ?r2x3
        case hy2x3 => (intro W hSw; (try dsimp only at hSw); go_simp; try with_reducible rfl)
        simp only [Act.put, List.setIfInBounds_toArray, List.set_cons_zero, List.set_cons_succ]
        refine takeD 4 8 (v := ?v2x4) rfl rfl (by kernel_rfl) (by kernel_rfl) (by kernel_rfl) (fun _ _ _ h => h) (by kernel_rfl) ?hy2x4 (by assumption) ?r2x4
        case hy2x4 => (intro W hSw; (try dsimp only at hSw); go_simp; try with_reducible rfl)
        simp only [Act.put, List.setIfInBounds_toArray, List.set_cons_zero, List.set_cons_succ]
        refine takeD 5 9 (v := ?v2x5) rfl rfl (by kernel_rfl) (by kernel_rfl) (by kernel_rfl) (fun _ _ _ h => h) (by kernel_rfl) ?hy2x5 (by assumption) ?r2x5
        case hy2x5 => (intro W hSw; (try dsimp only at hSw); go_simp; try with_reducible rfl)
        simp only [Act.put, List.setIfInBounds_toArray, List.set_cons_zero, List.set_cons_succ]
        refine takeD 6 10 (v := ?v2x6) rfl rfl (by kernel_rfl) (by kernel_rfl) (by kernel_rfl) (fun _ _ _ h => h) (by kernel_rfl) ?hy2x6 (by assumption) ?r2x6
        case hy2x6 => (intro W hSw; (try dsimp only at hSw); go_simp; try with_reducible rfl)
        simp only [Act.put, List.setIfInBounds_toArray, List.set_cons_zero, List.set_cons_succ]
        refine takeD 7 11 (v := ?v2x7) rfl rfl (by kernel_rfl) (by kernel_rfl) (by kernel_rfl) (fun _ _ _ h => h) (by kernel_rfl) ?hy2x7 (by assumption) ?r2x7
        case hy2x7 => (intro W hSw; (try dsimp only at hSw); go_simp; try with_reducible rfl)
        simp only [Act.put, List.setIfInBounds_toArray, List.set_cons_zero, List.set_cons_succ]
        refine takeD 8 12 (v := ?v2x8) rfl rfl (by kernel_rfl) (by kernel_rfl) (by kernel_rfl) (fun _ _ _ h => h) (by kernel_rfl) ?hy2x8 (by assumption) ?r2x8
        case hy2x8 => (intro W hSw; (try dsimp only at hSw); go_simp; try with_reducible rfl)
        simp only [Act.put, List.setIfInBounds_toArray, List.set_cons_zero, List.set_cons_succ]
        refine takeD 9 13 (v := ?v2x9) rfl rfl (by kernel_rfl) (by kernel_rfl) (by kernel_rfl) (fun _ _ _ h => h) (by kernel_rfl) ?hy2x9 (by assumption) ?r2x9
        case hy2x9 => (intro W hSw; (try dsimp only at hSw); go_simp; try with_reducible rfl)
        simp only [Act.put, List.setIfInBounds_toArray, List.set_cons_zero, List.set_cons_succ]
        refine takeD 10 14 (v := ?v2x10) rfl rfl (by kernel_rfl) (by kernel_rfl) (by kernel_rfl) (fun _ _ _ h => h) (by kernel_rfl) ?hy2x10 (by assumption) ?r2x10
        case hy2x10 => (intro W hSw; (try dsimp only at hSw); go_simp; try with_reducible rfl)
        simp only [Act.put, List.setIfInBounds_toArray, List.set_cons_zero, List.set_cons_succ]
        refine takeD 11 15 (v := ?v2x11) rfl rfl (by kernel_rfl) (by kernel_rfl) (by kernel_rfl) (fun _ _ _ h => h) (by kernel_rfl) ?hy2x11 (by assumption) ?r2x11
        case hy2x11 => (intro W hSw; (try dsimp only at hSw); go_simp; try with_reducible rfl)
        simp only [Act.put, List.setIfInBounds_toArray, List.set_cons_zero, List.set_cons_succ]
        refine takeD 12 16 (v := ?v2x12) rfl rfl (by kernel_rfl) (by kernel_rfl) (by kernel_rfl) (fun _ _ _ h => h) (by kernel_rfl) ?hy2x12 (by assumption) ?r2x12
        case hy2x12 => (intro W hSw; (try dsimp only at hSw); go_simp; try with_reducible rfl)
        simp only [Act.put, List.setIfInBounds_toArray, List.set_cons_zero, List.set_cons_succ]
        refine takeD 13 17 (v := ?v2x13) rfl rfl (by kernel_rfl) (by kernel_rfl) (by kernel_rfl) (fun _ _ _ h => h) (by kernel_rfl) ?hy2x13 (by assumption) ?r2x13
        case hy2x13 => (intro W hSw; (try dsimp only at hSw); go_simp; try with_reducible rfl)
        simp only [Act.put, List.setIfInBounds_toArray, List.set_cons_zero, List.set_cons_succ]
        refine takeD 14 18 (v := ?v2x14) rfl rfl (by kernel_rfl) (by kernel_rfl) (by kernel_rfl) (fun _ _ _ h => h) (by kernel_rfl) ?hy2x14 (by assumption) ?r2x14
        case hy2x14 => (intro W hSw; (try dsimp only at hSw); go_simp; try with_reducible rfl)
        simp only [Act.put, List.setIfInBounds_toArray, List.set_cons_zero, List.set_cons_succ]
        refine takeD 15 19 (v := ?v2x15) rfl rfl (by kernel_rfl) (by kernel_rfl) (by kernel_rfl) (fun _ _ _ h => h) (by kernel_rfl) ?hy2x15 (by assumption) ?r2x15
        case hy2x15 => (intro W hSw; (try dsimp only at hSw); go_simp; try with_reducible rfl)
        simp only [Act.put, List.setIfInBounds_toArray, List.set_cons_zero, List.set_cons_succ]
        refine takeD 16 20 (v := ?v2x16) rfl rfl (by kernel_rfl) (by kernel_rfl) (by kernel_rfl) (fun _ _ _ h => h) (by kernel_rfl) ?hy2x16 (by assumption) ?r2x16
        case hy2x16 => (intro W hSw; (try dsimp only at hSw); go_simp; try with_reducible rfl)
        simp only [Act.put, List.setIfInBounds_toArray, List.set_cons_zero, List.set_cons_succ]
        refine takeD 17 21 (v := ?v2x17) rfl rfl (by kernel_rfl) (by kernel_rfl) (by kernel_rfl) (fun _ _ _ h => h) (by kernel_rfl) ?hy2x17 (by assumption) ?r2x17
        case hy2x17 => (intro W hSw; (try dsimp only at hSw); go_simp; try with_reducible rfl)
        simp only [Act.put, List.setIfInBounds_toArray, List.set_cons_zero, List.set_cons_succ]
        refine takeD 18 22 (v := ?v2x18) rfl rfl (by kernel_rfl) (by kernel_rfl) (by kernel_rfl) (fun _ _ _ h => h) (by kernel_rfl) ?hy2x18 (by assumption) ?r2x18
        case hy2x18 => (intro W hSw; (try dsimp only at hSw); go_simp; try with_reducible rfl)
        simp only [Act.put, List.setIfInBounds_toArray, List.set_cons_zero, List.set_cons_succ]
        refine takeD 19 23 (v := ?v2x19) rfl rfl (by kernel_rfl) (by kernel_rfl) (by kernel_rfl) (fun _ _ _ h => h) (by kernel_rfl) ?hy2x19 (by assumption) ?r2x19
        case hy2x19 => (intro W hSw; (try dsimp only at hSw); go_simp; try with_reducible rfl)
        simp only [Act.put, List.setIfInBounds_toArray, List.set_cons_zero, List.set_cons_succ]
        refine takeD 20 24 (v := ?v2x20) rfl rfl (by kernel_rfl) (by kernel_rfl) (by kernel_rfl) (fun _ _ _ h => h) (by kernel_rfl) ?hy2x20 (by assumption) ?r2x20
        case hy2x20 => (intro W hSw; (try dsimp only at hSw); go_simp; try with_reducible rfl)
        simp only [Act.put, List.setIfInBounds_toArray, List.set_cons_zero, List.set_cons_succ]
        refine takeD 21 25 (v := ?v2x21) rfl rfl (by kernel_rfl) (by kernel_rfl) (by kernel_rfl) (fun _ _ _ h => h) (by kernel_rfl) ?hy2x21 (by assumption) ?r2x21
        case hy2x21 => (intro W hSw; (try dsimp only at hSw); go_simp; try with_reducible rfl)
        simp only [Act.put, List.setIfInBounds_toArray, List.set_cons_zero, List.set_cons_succ]
        refine takeD 22 26 (v := ?v2x22) rfl rfl (by kernel_rfl) (by kernel_rfl) (by kernel_rfl) (fun _ _ _ h => h) (by kernel_rfl) ?hy2x22 (by assumption) ?r2x22
        case hy2x22 => (intro W hSw; (try dsimp only at hSw); go_simp; try with_reducible rfl)
        simp only [Act.put, List.setIfInBounds_toArray, List.set_cons_zero, List.set_cons_succ]
        refine takeD 23 27 (v := ?v2x23) rfl rfl (by kernel_rfl) (by kernel_rfl) (by kernel_rfl) (fun _ _ _ h => h) (by kernel_rfl) ?hy2x23 (by assumption) ?r2x23
        case hy2x23 => (intro W hSw; (try dsimp only at hSw); go_simp; try with_reducible rfl)
        simp only [Act.put, List.setIfInBounds_toArray, List.set_cons_zero, List.set_cons_succ]
        refine takeD 24 28 (v := ?v2x24) rfl rfl (by kernel_rfl) (by kernel_rfl) (by kernel_rfl) (fun _ _ _ h => h) (by kernel_rfl) ?hy2x24 (by assumption) ?r2x24
        case hy2x24 => (intro W hSw; (try dsimp only at hSw); go_simp; try with_reducible rfl)
        simp only [Act.put, List.setIfInBounds_toArray, List.set_cons_zero, List.set_cons_succ]
        refine takeD 25 29 (v := ?v2x25) rfl rfl (by kernel_rfl) (by kernel_rfl) (by kernel_rfl) (fun _ _ _ h => h) (by kernel_rfl) ?hy2x25 (by assumption) ?r2x25
        case hy2x25 => (intro W hSw; (try dsimp only at hSw); go_simp; try with_reducible rfl)
        simp only [Act.put, List.setIfInBounds_toArray, List.set_cons_zero, List.set_cons_succ]
        refine takeD 26 30 (v := ?v2x26) rfl rfl (by kernel_rfl) (by kernel_rfl) (by kernel_rfl) (fun _ _ _ h => h) (by kernel_rfl) ?hy2x26 (by assumption) ?r2x26
        case hy2x26 => (intro W hSw; (try dsimp only at hSw); go_simp; try with_reducible rfl)
        simp only [Act.put, List.setIfInBounds_toArray, List.set_cons_zero, List.set_cons_succ]
        refine takeD 27 31 (v := ?v2x27) rfl rfl (by kernel_rfl) (by kernel_rfl) (by kernel_rfl) (fun _ _ _ h => h) (by kernel_rfl) ?hy2x27 (by assumption) ?r2x27
        case hy2x27 => (intro W hSw; (try dsimp only at hSw); go_simp; try with_reducible rfl)
        simp only [Act.put, List.setIfInBounds_toArray, List.set_cons_zero, List.set_cons_succ]
        refine takeD 28 32 (v := ?v2x28) rfl rfl (by kernel_rfl) (by kernel_rfl) (by kernel_rfl) (fun _ _ _ h => h) (by kernel_rfl) ?hy2x28 (by assumption) ?r2x28
        case hy2x28 => (intro W hSw; (try dsimp only at hSw); go_simp; try with_reducible rfl)
        simp only [Act.put, List.setIfInBounds_toArray, List.set_cons_zero, List.set_cons_succ]
        refine wpAnyH_done (by kernel_rfl) ?_ _
        refine NoPanic.normal ?_
        go_wp2
        refine bodyPost_end (v := .tuple #[]) (by simp [results, Try.results87, go_sem]) rfl ⟨rfl, ?_, (grown_setG (grown_refl _ _)).trans grown_drew⟩
        rw [hR2.out]
        exact ⟨hs, _, _, setc1 HG.out, by omega, .inl ⟨1, rfl, rfl, rfl, by omega⟩⟩
      · have hq' : ¬ (((s[0]'hpos).toNat : Int) = (b : Int)) := by omega
        have hR2 : Hid (rFst s b = none) := by show _ = _; rw [HR.out, if_neg hq]
        clear HR hq
        go_enter Try.func87, Try.ntmps87
        go_wp2
        refine wp_region_noPanic ?_
        refine wp_region_held_drew (S := fun W => W.cell? ⟨g, 0, none⟩ = some (.string s) ∧ W.cell? ⟨g, 1, none⟩ = some (.int .i64 0) ∧ W.cell? ⟨g, 2, none⟩ = some (.bool false)) (by kernel_rfl) ?_ (fun hHeld => ?_)
        · (try dsimp only); go_keep
        refine takeD 0 4 (v := ?v3x0) rfl rfl (by kernel_rfl) (by kernel_rfl) (by kernel_rfl) (fun _ _ _ h => h) (by kernel_rfl) ?hy3x0 (by assumption) ?r3x0
        case hy3x0 => (intro W hSw; (try dsimp only at hSw); go_simp; try with_reducible rfl)
        simp only [Act.put, List.setIfInBounds_toArray, List.set_cons_zero, List.set_cons_succ]
        refine takeD 1 5 (v := ?v3x1) rfl rfl (by kernel_rfl) (by kernel_rfl) (by kernel_rfl) (fun _ _ _ h => h) (by kernel_rfl) ?hy3x1 (by assumption) ?r3x1
        case hy3x1 => (intro W hSw; (try dsimp only at hSw); go_simp; try with_reducible rfl)
        simp only [Act.put, List.setIfInBounds_toArray, List.set_cons_zero, List.set_cons_succ]
        refine takeD 2 6 (v := ?v3x2) rfl rfl (by kernel_rfl) (by kernel_rfl) (by kernel_rfl) (fun _ _ _ h => h) (by kernel_rfl) ?hy3x2 (by assumption) ?r3x2
        case hy3x2 => (intro W hSw; (try dsimp only at hSw); go_simp; try with_reducible rfl)
        simp only [Act.put, List.setIfInBounds_toArray, List.set_cons_zero, List.set_cons_succ]
        refine takeD 3 7 (v := ?v3x3) rfl rfl (by kernel_rfl) (by kernel_rfl) (by kernel_rfl) (fun _ _ _ h => h) (by kernel_rfl) ?hy3x3 (by assumption) ?r3x3
        case hy3x3 => (intro W hSw; (try dsimp only at hSw); go_simp; try with_reducible rfl)
        simp only [Act.put, List.setIfInBounds_toArray, List.set_cons_zero, List.set_cons_succ]
        refine takeD 4 8 (v := ?v3x4) rfl rfl (by kernel_rfl) (by kernel_rfl) (by kernel_rfl) (fun _ _ _ h => h) (by kernel_rfl) ?hy3x4 (by assumption) ?r3x4
        case hy3x4 => (intro W hSw; (try dsimp only at hSw); go_simp; try with_reducible rfl)
        simp only [Act.put, List.setIfInBounds_toArray, List.set_cons_zero, List.set_cons_succ]
        refine takeD 5 9 (v := ?v3x5) rfl rfl (by kernel_rfl) (by kernel_rfl) (by kernel_rfl) (fun _ _ _ h => h) (by kernel_rfl) ?hy3x5 (by assumption) ?r3x5
        case hy3x5 => (intro W hSw; (try dsimp only at hSw); go_simp; try with_reducible rfl)
        simp only [Act.put, List.setIfInBounds_toArray, List.set_cons_zero, List.set_cons_succ]
        refine takeD 6 10 (v := ?v3x6) rfl rfl (by kernel_rfl) (by kernel_rfl) (by kernel_rfl) (fun _ _ _ h => h) (by kernel_rfl) ?hy3x6 (by assumption) ?r3x6
        case hy3x6 => (intro W hSw; (try dsimp only at hSw); go_simp; try with_reducible rfl)
        simp only [Act.put, List.setIfInBounds_toArray, List.set_cons_zero, List.set_cons_succ]
        refine takeD 7 11 (v := ?v3x7) rfl rfl (by kernel_rfl) (by kernel_rfl) (by kernel_rfl) (fun _ _ _ h => h) (by kernel_rfl) ?hy3x7 (by assumption) ?r3x7
        case hy3x7 => (intro W hSw; (try dsimp only at hSw); go_simp; try with_reducible rfl)
        simp only [Act.put, List.setIfInBounds_toArray, List.set_cons_zero, List.set_cons_succ]
        refine takeD 8 12 (v := ?v3x8) rfl rfl (by kernel_rfl) (by kernel_rfl) (by kernel_rfl) (fun _ _ _ h => h) (by kernel_rfl) ?hy3x8 (by assumption) ?r3x8
        case hy3x8 => (intro W hSw; (try dsimp only at hSw); go_simp; try with_reducible rfl)
        simp only [Act.put, List.setIfInBounds_toArray, List.set_cons_zero, List.set_cons_succ]
        refine takeD 9 13 (v := ?v3x9) rfl rfl (by kernel_rfl) (by kernel_rfl) (by kernel_rfl) (fun _ _ _ h => h) (by kernel_rfl) ?hy3x9 (by assumption) ?r3x9
        case hy3x9 => (intro W hSw; (try dsimp only at hSw); go_simp; try with_reducible rfl)
        simp only [Act.put, List.setIfInBounds_toArray, List.set_cons_zero, List.set_cons_succ]
        refine takeD 10 14 (v := ?v3x10) rfl rfl (by kernel_rfl) (by kernel_rfl) (by kernel_rfl) (fun _ _ _ h => h) (by kernel_rfl) ?hy3x10 (by assumption) ?r3x10
        case hy3x10 => (intro W hSw; (try dsimp only at hSw); go_simp; try with_reducible rfl)
        simp only [Act.put, List.setIfInBounds_toArray, List.set_cons_zero, List.set_cons_succ]
        refine takeD 11 15 (v := ?v3x11) rfl rfl (by kernel_rfl) (by kernel_rfl) (by kernel_rfl) (fun _ _ _ h => h) (by kernel_rfl) ?hy3x11 (by assumption) ?r3x11
        case hy3x11 => (intro W hSw; (try dsimp only at hSw); go_simp; try with_reducible rfl)
        simp only [Act.put, List.setIfInBounds_toArray, List.set_cons_zero, List.set_cons_succ]
        refine takeD 12 16 (v := ?v3x12) rfl rfl (by kernel_rfl) (by kernel_rfl) (by kernel_rfl) (fun _ _ _ h => h) (by kernel_rfl) ?hy3x12 (by assumption) ?r3x12
        case hy3x12 => (intro W hSw; (try dsimp only at hSw); go_simp; try with_reducible rfl)
        simp only [Act.put, List.setIfInBounds_toArray, List.set_cons_zero, List.set_cons_succ]
        refine takeD 13 17 (v := ?v3x13) rfl rfl (by kernel_rfl) (by kernel_rfl) (by kernel_rfl) (fun _ _ _ h => h) (by kernel_rfl) ?hy3x13 (by assumption) ?r3x13
        case hy3x13 => (intro W hSw; (try dsimp only at hSw); go_simp; try with_reducible rfl)
        simp only [Act.put, List.setIfInBounds_toArray, List.set_cons_zero, List.set_cons_succ]
        refine takeD 14 18 (v := ?v3x14) rfl rfl (by kernel_rfl) (by kernel_rfl) (by kernel_rfl) (fun _ _ _ h => h) (by kernel_rfl) ?hy3x14 (by assumption) ?r3x14
        case hy3x14 => (intro W hSw; (try dsimp only at hSw); go_simp; try with_reducible rfl)
        simp only [Act.put, List.setIfInBounds_toArray, List.set_cons_zero, List.set_cons_succ]
        refine takeD 15 19 (v := ?v3x15) rfl rfl (by kernel_rfl) (by kernel_rfl) (by kernel_rfl) (fun _ _ _ h => h) (by kernel_rfl) ?hy3x15 (by assumption) ?r3x15
        case hy3x15 => (intro W hSw; (try dsimp only at hSw); go_simp; try with_reducible rfl)
        simp only [Act.put, List.setIfInBounds_toArray, List.set_cons_zero, List.set_cons_succ]
        refine takeD 16 20 (v := ?v3x16) rfl rfl (by kernel_rfl) (by kernel_rfl) (by kernel_rfl) (fun _ _ _ h => h) (by kernel_rfl) ?hy3x16 (by assumption) ?r3x16
        case hy3x16 => (intro W hSw; (try dsimp only at hSw); go_simp; try with_reducible rfl)
        simp only [Act.put, List.setIfInBounds_toArray, List.set_cons_zero, List.set_cons_succ]
        refine takeD 17 21 (v := ?v3x17) rfl rfl (by kernel_rfl) (by kernel_rfl) (by kernel_rfl) (fun _ _ _ h => h) (by kernel_rfl) ?hy3x17 (by assumption) ?r3x17
        case hy3x17 => (intro W hSw; (try dsimp only at hSw); go_simp; try with_reducible rfl)
        simp only [Act.put, List.setIfInBounds_toArray, List.set_cons_zero, List.set_cons_succ]
        refine takeD 18 22 (v := ?v3x18) rfl rfl (by kernel_rfl) (by kernel_rfl) (by kernel_rfl) (fun _ _ _ h => h) (by kernel_rfl) ?hy3x18 (by assumption) ?r3x18
        case hy3x18 => (intro W hSw; (try dsimp only at hSw); go_simp; try with_reducible rfl)
        simp only [Act.put, List.setIfInBounds_toArray, List.set_cons_zero, List.set_cons_succ]
        refine takeD 19 23 (v := ?v3x19) rfl rfl (by kernel_rfl) (by kernel_rfl) (by kernel_rfl) (fun _ _ _ h => h) (by kernel_rfl) ?hy3x19 (by assumption) ?r3x19
        case hy3x19 => (intro W hSw; (try dsimp only at hSw); go_simp; try with_reducible rfl)
        simp only [Act.put, List.setIfInBounds_toArray, List.set_cons_zero, List.set_cons_succ]
        refine takeD 20 24 (v := ?v3x20) rfl rfl (by kernel_rfl) (by kernel_rfl) (by kernel_rfl) (fun _ _ _ h => h) (by kernel_rfl) ?hy3x20 (by assumption) ?r3x20
        case hy3x20 => (intro W hSw; (try dsimp only at hSw); go_simp; try with_reducible rfl)
        simp only [Act.put, List.setIfInBounds_toArray, List.set_cons_zero, List.set_cons_succ]
        refine takeD 21 25 (v := ?v3x21) rfl rfl (by kernel_rfl) (by kernel_rfl) (by kernel_rfl) (fun _ _ _ h => h) (by kernel_rfl) ?hy3x21 (by assumption) ?r3x21
        case hy3x21 => (intro W hSw; (try dsimp only at hSw); go_simp; try with_reducible rfl)
        simp only [Act.put, List.setIfInBounds_toArray, List.set_cons_zero, List.set_cons_succ]
        refine takeD 22 26 (v := ?v3x22) rfl rfl (by kernel_rfl) (by kernel_rfl) (by kernel_rfl) (fun _ _ _ h => h) (by kernel_rfl) ?hy3x22 (by assumption) ?r3x22
        case hy3x22 => (intro W hSw; (try dsimp only at hSw); go_simp; try with_reducible rfl)
        simp only [Act.put, List.setIfInBounds_toArray, List.set_cons_zero, List.set_cons_succ]
        refine takeD 23 27 (v := ?v3x23) rfl rfl (by kernel_rfl) (by kernel_rfl) (by kernel_rfl) (fun _ _ _ h => h) (by kernel_rfl) ?hy3x23 (by assumption) ?r3x23
        case hy3x23 => (intro W hSw; (try dsimp only at hSw); go_simp; try with_reducible rfl)
        simp only [Act.put, List.setIfInBounds_toArray, List.set_cons_zero, List.set_cons_succ]
        refine takeD 24 28 (v := ?v3x24) rfl rfl (by kernel_rfl) (by kernel_rfl) (by kernel_rfl) (fun _ _ _ h => h) (by kernel_rfl) ?hy3x24 (by assumption) ?r3x24
        case hy3x24 => (intro W hSw; (try dsimp only at hSw); go_simp; try with_reducible rfl)
        simp only [Act.put, List.setIfInBounds_toArray, List.set_cons_zero, List.set_cons_succ]
        refine takeD 25 29 (v := ?v3x25) rfl rfl (by kernel_rfl) (by kernel_rfl) (by kernel_rfl) (fun _ _ _ h => h) (by kernel_rfl) ?hy3x25 (by assumption) ?r3x25
        case hy3x25 => (intro W hSw; (try dsimp only at hSw); go_simp; try with_reducible rfl)
        simp only [Act.put, List.setIfInBounds_toArray, List.set_cons_zero, List.set_cons_succ]
        refine takeD 26 30 (v := ?v3x26) rfl rfl (by kernel_rfl) (by kernel_rfl) (by kernel_rfl) (fun _ _ _ h => h) (by kernel_rfl) ?hy3x26 (by assumption) ?r3x26
        case hy3x26 => (intro W hSw; (try dsimp only at hSw); go_simp; try with_reducible rfl)
        simp only [Act.put, List.setIfInBounds_toArray, List.set_cons_zero, List.set_cons_succ]
        refine takeD 27 31 (v := ?v3x27) rfl rfl (by kernel_rfl) (by kernel_rfl) (by kernel_rfl) (fun _ _ _ h => h) (by kernel_rfl) ?hy3x27 (by assumption) ?r3x27
        case hy3x27 => (intro W hSw; (try dsimp only at hSw); go_simp; try with_reducible rfl)
        simp only [Act.put, List.setIfInBounds_toArray, List.set_cons_zero, List.set_cons_succ]
        refine takeD 28 32 (v := ?v3x28) rfl rfl (by kernel_rfl) (by kernel_rfl) (by kernel_rfl) (fun _ _ _ h => h) (by kernel_rfl) ?hy3x28 (by assumption) ?r3x28
        case hy3x28 => (intro W hSw; (try dsimp only at hSw); go_simp; try with_reducible rfl)
        simp only [Act.put, List.setIfInBounds_toArray, List.set_cons_zero, List.set_cons_succ]
        refine wpAnyH_done (by kernel_rfl) ?_ _
        refine NoPanic.normal ?_
        go_wp2
        refine bodyPost_ret (v := .tuple #[]) (by simp [results, Try.results87, go_sem]) rfl ⟨rfl, ?_, (grown_setG (grown_refl _ _)).trans grown_drew⟩
        rw [hR2.out]
        exact ⟨hs, _, _, setc2 HG.out, by omega, .inr ⟨rfl, rfl⟩⟩
  · cases h0
end Go.Proofs.Ytaapacpiipcogaa

/-
  Rows of cells that a call has made, or that can be read. Plain laws.
-/
namespace Go.Proofs.Ytaapacpiipcogaa
open Go.RowKit

/-- Cells that can be read one behind the other, below block B. -/
def CellRow (w : World) (B : Nat) (ao : Option Addr) (xs : List Value) : Prop :=
  xs.length = 0 ∨ ∃ b off, ao = some ⟨b, off, none⟩ ∧ b < B ∧ ∀ i (h : i < xs.length), w.cell? ⟨b, off + i, none⟩ = some xs[i]
theorem CellRow.kept {w w' : World} {B : Nat} {ao : Option Addr} {xs : List Value} (h : CellRow w B ao xs) (hb : Below B w w') : CellRow w' B ao xs := by
  rcases h with h0 | ⟨b, off, e, hB, hc⟩
  · exact .inl h0
  · exact .inr ⟨b, off, e, hB, fun i hi => (hb.cell (p := ⟨b, off + i, none⟩) hB).trans (hc i hi)⟩
theorem CellRow.mono {w : World} {B C : Nat} {ao : Option Addr} {xs : List Value} (h : CellRow w B ao xs) (hc : B ≤ C) : CellRow w C ao xs := by
  rcases h with h0 | ⟨b, off, e, hB, hc'⟩
  · exact .inl h0
  · exact .inr ⟨b, off, e, by omega, hc'⟩
theorem CellRow.at {w : World} {B : Nat} {ao : Option Addr} {xs : List Value} (h : CellRow w B ao xs) (k : Nat) (hk : k < xs.length) : ∃ b off, ao = some ⟨b, off, none⟩ ∧ b < B ∧ w.cell? ⟨b, off + k, none⟩ = some xs[k] := by
  rcases h with h0 | ⟨b, off, e, hB, hc⟩
  · omega
  · exact ⟨b, off, e, hB, hc k hk⟩
theorem cellRow_of_owns {w : World} {base n : Nat} {t : TypeId} {v : Value} {xs : List Value} (h : w.ownsRow base t 1 v n xs) : ∃ ao cap, v = .slice ao xs.length cap ∧ CellRow w w.heap.size ao xs := by
  have hx : xs.length = n := by simpa using h.1
  rcases h.2 with ⟨rfl, rfl⟩ | ⟨g, cap, cur, rfl, hb, hg, hn, hm, hs, ht⟩
  · obtain rfl : xs = [] := List.eq_nil_of_length_eq_zero hx
    exact ⟨none, 0, rfl, .inl rfl⟩
  · refine ⟨some ⟨g, 0, none⟩, cap, by rw [hx], .inr ⟨g, 0, rfl, (Array.getElem?_eq_some_iff.1 hg).1, fun i hi => ?_⟩⟩
    have hc := World.ownsRow.cellAt h i (by omega)
    rw [Nat.zero_add, hc, List.getElem?_eq_getElem hi]

theorem owns_below {w w' : World} {base n size : Nat} {t : TypeId} {v : Value} {xs : List Value} (h : w.ownsRow base t size v n xs) (hb : Below w.heap.size w w') : w'.ownsRow base t size v n xs := by
  refine ⟨h.1, ?_⟩
  rcases h.2 with h0 | ⟨g, cap, cur, rfl, hB, hg, hn, hm, hs, ht⟩
  · exact .inl h0
  · exact .inr ⟨g, cap, cur, rfl, hB, (hb.block _ (Array.getElem?_eq_some_iff.1 hg).1).trans hg, hn, hm, hs, ht⟩
theorem below_alloc {w w' : World} {o : Obj} (h : Below (w.alloc o).heap.size (w.alloc o) w') : Below w.heap.size w w' :=
  ((Below.refl _ _).alloc (Nat.le_refl _) o).trans (h.mono (by simp))
end Go.Proofs.Ytaapacpiipcogaa

/-
  A slice of bytes that the call has made.
-/
namespace Go.Proofs.Ytaapacpiipcogaa
open Go.RowKit

def numsU (l : List UInt8) : List Int := l.map fun b => (b.toNat : Int)
theorem numsU_append (a b : List UInt8) : numsU (a ++ b) = numsU a ++ numsU b := by simp [numsU]
theorem numsU_len (l : List UInt8) : (numsU l).length = l.length := by simp [numsU]
/-- A slice of bytes that the call has made. -/
def OwnB (base : Nat) (v : Value) (l : List UInt8) (w : World) : Prop := w.ownsRow base 5 1 v l.length ((numsU l).map (Value.int .u8))
theorem OwnB.below {base : Nat} {v : Value} {l : List UInt8} {w w' : World} (h : OwnB base v l w) (hb : Below w.heap.size w w') : OwnB base v l w' := owns_below h hb
theorem ownB_of {base : Nat} {v : Value} {l : List UInt8} {w : World} {n : Nat} {xs : List Value} (h : w.ownsRow base 5 1 v n xs) (hn : n = l.length) (hx : xs = (numsU l).map (Value.int .u8)) : OwnB base v l w := by subst hn hx; exact h
theorem OwnB.conv {base : Nat} {v : Value} {l : List UInt8} {w : World} (h : OwnB base v l w) : (convert 87 9 v).run Try.prog w = .ok (.string (mkS l)) w := by
  have := convOwn h
  rwa [numsU, strOfNums_bytes] at this
theorem own_snoc {base : Nat} {v : Value} {l : List UInt8} {w : World} {x : Int} (c : UInt8) (h : w.ownsRow base 5 1 v (l.length + 1) ((numsU l).map (Value.int .u8) ++ [.int .u8 x])) (hx : x = (c.toNat : Int)) : OwnB base v (l ++ [c]) w := by
  subst hx
  exact ownB_of h (by simp) (by rw [numsU_append, List.map_append]; rfl)
theorem own_snoc2 {base : Nat} {v : Value} {l : List UInt8} {w : World} {x y : Int} (c d : UInt8) (h : w.ownsRow base 5 1 v (l.length + 2) ((numsU l).map (Value.int .u8) ++ [.int .u8 x, .int .u8 y])) (hx : x = (c.toNat : Int)) (hy : y = (d.toNat : Int)) : OwnB base v (l ++ [c, d]) w := by
  subst hx hy
  exact ownB_of h (by simp) (by rw [numsU_append, List.map_append]; rfl)
theorem cell_two_new (w : World) (x y : Value) (t : TypeId) : ∀ j u, [x, y][j]? = some u → (w.alloc (.cells #[x, y] t)).cell? ((⟨w.heap.size, 0, none⟩ : Addr).add j) = some u := by
  intro j u hj
  have hadd : (⟨w.heap.size, 0, none⟩ : Addr).add j = ⟨w.heap.size, j, none⟩ := by unfold Addr.add; split <;> simp_all
  rw [hadd, cell_of_row _ _ _ _ _ _ (heap_alloc_new w _)]
  simpa using hj
theorem one1 (k : IntKind) (x : Int) : ∀ u ∈ [Value.int k x], u.oneCell' = true := fun u hu => by simp at hu; subst hu; rfl
theorem one2 (k : IntKind) (x y : Int) : ∀ u ∈ [Value.int k x, Value.int k y], u.oneCell' = true := fun u hu => by
  simp at hu
  rcases hu with rfl | rfl <;> rfl
theorem size_alloc_le {B : Nat} {w : World} (o : Obj) (h : B ≤ w.heap.size) : B ≤ (w.alloc o).heap.size := by simp; omega
end Go.Proofs.Ytaapacpiipcogaa

/-
  Contracts: a text's first 64 bytes as a sector; a sector as a text.
-/
namespace Go.Proofs.Ytaapacpiipcogaa
open Go.RowKit
set_option maxRecDepth 100000

/-- A text's first 64 bytes, bytes 0 filling them up. -/
def pad (l : List UInt8) : List UInt8 := l.take 64 ++ List.replicate (64 - l.length) 0
/-- 64 bytes 0. -/
def zSec : List UInt8 := List.replicate 64 0
theorem zSec_len : zSec.length = 64 := by simp [zSec]
theorem pad_len (l : List UInt8) : (pad l).length = 64 := by simp [pad]; omega
theorem pad_full {l : List UInt8} (h : l.length = 64) : pad l = l := by unfold pad; rw [List.take_of_length_le (by omega), h]; simp
def secV (l : List UInt8) : Array Value := (Lib.byteCells l).toArray
theorem secV_size (l : List UInt8) : (secV l).size = l.length := by simp [secV, Lib.byteCells]
theorem secV_one (l : List UInt8) : (secV l).all (·.oneCell') = true := by
  rw [Array.all_eq_true_iff_forall_mem]
  intro v hv
  exact Lib.byteCells_one l v (by simpa [secV] using hv)
theorem byteCells_nums (l : List UInt8) : Lib.byteCells l = (numsU l).map (Value.int .u8) := by simp [Lib.byteCells, numsU, Function.comp_def]
theorem cells_zero (n : Nat) : Lib.byteCells (List.replicate n 0) = List.replicate n (Value.int .u8 0) := by simp [Lib.byteCells]
theorem cells_app (a b : List UInt8) : Lib.byteCells (a ++ b) = Lib.byteCells a ++ Lib.byteCells b := by simp [Lib.byteCells]
/-- 'copy(dst, s)' over 64 bytes 0. -/
theorem run_copy_pad {P : Program} (w : World) (dT sT elem : TypeId) (g : Nat) (s : ByteArray) (t : TypeId)
    (hu : P.underlying dT = some (.slice elem)) (hs : (P.info? elem).map (·.size) = some 1) (hg : w.heap[g]? = some (.cells (secV zSec) t (0, 0))) :
    ∃ n : Nat, ∀ ty, (Builtin.copy_ #[dT, sT] ty #[.slice (some ⟨g, 0, none⟩) 64 64, .string s]).run P w = .ok (goInt n) (w.setRow g (secV (pad s.data.toList))) := by
  have hds : s.data.toList.length = s.size := rfl
  by_cases h : s.size ≤ 64
  · refine ⟨s.size, fun ty => ?_⟩
    rw [Lib.run_copy_row_string w dT sT ty elem g 0 64 64 s _ t hu hs hg h (by rw [secV_size, zSec_len]; simpa using h)]
    congr 2
    have e1 : (secV zSec).toList = List.replicate 64 (Value.int .u8 0) := by unfold secV zSec; rw [cells_zero]
    rw [e1]
    unfold secV pad
    rw [cells_app, cells_zero, List.take_of_length_le (show s.data.toList.length ≤ 64 by rw [hds]; exact h), hds, List.take_zero, List.nil_append, Nat.zero_add, List.drop_replicate]
  · refine ⟨64, fun ty => ?_⟩
    have hst := run_storeCells_at P g 0 t (Lib.byteCells (s.data.toList.take 64)) 0 (secV zSec) w hg (by simp [Lib.byteCells, secV, zSec]; omega) (Lib.byteCells_one _)
    have hmin : Nat.min s.size 64 = 64 := Nat.min_eq_right (by omega)
    have hlen : (Lib.byteCells (s.data.toList.take 64)).length = 64 := by simp [Lib.byteCells]; omega
    rw [hlen] at hst
    simp only [Nat.add_zero, List.take_zero, List.nil_append, Nat.zero_add] at hst
    have hd : List.drop 64 (secV zSec).toList = [] := List.drop_eq_nil_of_le (by simp [secV, Lib.byteCells, zSec])
    rw [hd, List.append_nil] at hst
    have hp : secV (pad s.data.toList) = (Lib.byteCells (s.data.toList.take 64)).toArray := by
      unfold secV pad
      rw [show 64 - s.data.toList.length = 0 by omega]; simp
    cases hq : P.info? elem with
    | none => simp [hq] at hs
    | some i =>
      simp [Builtin.copy_, run_underlying hu, Builtin.lenOf, Builtin.firstCells, sizeOf, typeInfo, hq, hmin]
      have hst' : Sem.run P (storeCells ⟨g, 0, none⟩ (List.map (fun b : UInt8 => Value.int IntKind.u8 (b.toNat : Int)) (List.take 64 s.data.toList))) w = _ := hst
      rw [← List.map_take, hst', hp]
      simp [Result.andThen]
theorem Try.infoSec : (Try.prog.info? 92).map (fun i => (i.zero, i.size)) = some (some (.agg (secV zSec)), 64) := by kernel_rfl
set_option maxHeartbeats 1000000 in
theorem sectorText_any (l : List UInt8) (hl : l.length = 64) (w : World) :
    Calls Try.prog 67 #[.agg (secV l)] w fun e w' => e = .returned (.string (mkS l)) ∧ Below w.heap.size w w' := by
  have hrun : (convert 87 9 (.slice (some ⟨w.heap.size, 0, none⟩) 64 64)).run Try.prog (w.alloc (.cells (secV l) 92)) = .ok (.string (mkS l)) (w.alloc (.cells (secV l) 92)) := by
    rw [← strOfNums_bytes]
    refine run_convert_bytes_arg _ 87 5 Try.underlying87 Try.underlying5 w.heap.size 0 64 64 (l.map fun b => (b.toNat : Int)) (by simpa using hl) (fun i hi => ?_) 9 Try.underlying9
    rw [Nat.zero_add, cell_of_row _ _ _ _ _ _ (heap_alloc_new w _)]
    unfold secV Lib.byteCells
    rw [List.getElem?_toArray, List.getElem?_map, List.getElem?_eq_getElem (by omega)]
    simp [List.getElem?_eq_getElem (show i < l.length by omega)]
  have B0 := hide ((Below.refl w.heap.size w).alloc (Nat.le_refl _) (.cells (secV l) 92))
  go_enter Try.func67, Try.ntmps67
  go_wp2
  go_ret
  exact ⟨rfl, B0.out⟩
set_option maxHeartbeats 1000000 in
theorem sectorOf_any (s : ByteArray) (w : World) :
    Calls Try.prog 65 #[.string s] w fun e w' => e = .returned (.agg (secV (pad s.data.toList))) ∧ Below w.heap.size w w' := by
  have hz := zero_of_info Try.infoSec
  have hzz := hz.1
  have HS64 := hide hz.2
  have hs : (Try.prog.info? 5).map (·.size) = some 1 := by kernel_rfl
  have HA := two_allocs w (.cells (secV zSec) 92) (.cells (secV zSec) 92)
  have B0 := hide (((Below.refl w.heap.size w).alloc (Nat.le_refl _) (.cells (secV zSec) 92)).alloc (by simp) (.cells (secV zSec) 92))
  obtain ⟨n, w1, hcp, hg1, hr1, hb1⟩ : ∃ (n : Nat) (w1 : World), (∀ ty, (Builtin.copy_ #[87, 9] ty #[.slice (some ⟨w.heap.size + 1, 0, none⟩) 64 64, .string s]).run Try.prog ((w.alloc (.cells (secV zSec) 92)).alloc (.cells (secV zSec) 92)) = .ok (goInt n) w1) ∧ w1.heap[w.heap.size + 1]? = some (.cells (secV (pad s.data.toList)) 92 (0, 0)) ∧ w1.heap[w.heap.size]? = some (.cells (secV zSec) 92 (0, 0)) ∧ Below w.heap.size w w1 := by
    obtain ⟨n, h⟩ := run_copy_pad (P := Try.prog) ((w.alloc (.cells (secV zSec) 92)).alloc (.cells (secV zSec) 92)) 87 9 5 (w.heap.size + 1) s _ Try.underlying87 hs HA.2.1
    exact ⟨n, _, h, setRow_heap _ _ _ _ _ _ HA.2.1, (setRow_other _ _ _ _ (by omega)).trans HA.1, below_setRow B0.out (Nat.le_succ _) _⟩
  have HG1 := hide hg1
  have HR1 := hide hr1
  have B1 := hide hb1
  clear hz HA B0 hg1 hr1 hb1 hs
  go_enter Try.func65, Try.ntmps65
  go_wp2_with (first | (refine wpList_load_row rfl 92 _ rfl (w.heap.size + 1) rfl 92 _ (0, 0) _ HG1.out Try.underlying92 rfl (by rw [secV_size, pad_len]; exact HS64.out) ?_) | (refine wpList_store_row rfl 92 _ _ rfl w.heap.size _ rfl rfl 92 _ HR1.out (by rw [secV_size, pad_len]; exact HS64.out) (by rw [secV_size, secV_size, zSec_len, pad_len]) (secV_one _) ?_))
  refine bodyPost_ret (v := .agg (secV (pad s.data.toList))) (results_cell_row (p := 2) rfl _ _ w.heap.size 92 _ (0, 0) _ rfl (setRow_heap _ _ _ _ _ _ HR1.out) Try.underlying92 rfl (by rw [secV_size, pad_len]; exact HS64.out)) rfl ⟨rfl, below_setRow B1.out (Nat.le_refl _) _⟩
end Go.Proofs.Ytaapacpiipcogaa

/-
  Trees of keys: plain facts.
-/
namespace Go.Proofs.Ytaapacpiipcogaa
open Go.RowKit

/-- A text stands ahead of another. -/
def lt' (a b : ByteArray) : Bool := Go.Op.bytesLess a.toList b.toList
theorem bl_trans : ∀ (a b c : List UInt8), Go.Op.bytesLess a b = true → Go.Op.bytesLess b c = true → Go.Op.bytesLess a c = true
  | _, [], _, h, _ => by simp [Go.Op.bytesLess] at h
  | _, _ :: _, [], _, h => by simp [Go.Op.bytesLess] at h
  | [], _ :: _, _ :: _, _, _ => by simp [Go.Op.bytesLess]
  | a :: x, b :: y, c :: z, h1, h2 => by
    simp only [Go.Op.bytesLess, Bool.or_eq_true, decide_eq_true_eq, Bool.and_eq_true, beq_iff_eq] at h1 h2 ⊢
    rcases h1 with h1 | ⟨rfl, h1⟩
    · rcases h2 with h2 | ⟨rfl, h2⟩
      · exact .inl (UInt8.lt_trans h1 h2)
      · exact .inl h1
    · rcases h2 with h2 | ⟨rfl, h2⟩
      · exact .inl h2
      · exact .inr ⟨rfl, bl_trans x y z h1 h2⟩
theorem bl_irr : ∀ a : List UInt8, Go.Op.bytesLess a a = false
  | [] => by simp [Go.Op.bytesLess]
  | a :: x => by simp [Go.Op.bytesLess, bl_irr x, UInt8.lt_irrefl]
theorem bl_tri : ∀ a b : List UInt8, Go.Op.bytesLess a b = false → Go.Op.bytesLess b a = false → a = b
  | [], [], _, _ => rfl
  | [], _ :: _, h, _ => by simp [Go.Op.bytesLess] at h
  | _ :: _, [], _, h => by simp [Go.Op.bytesLess] at h
  | a :: x, b :: y, h1, h2 => by
    simp only [Go.Op.bytesLess, Bool.or_eq_false_iff, decide_eq_false_iff_not, Bool.and_eq_false_iff, beq_eq_false_iff_ne] at h1 h2
    have hab : a = b := UInt8.le_antisymm (UInt8.not_lt.1 h2.1) (UInt8.not_lt.1 h1.1)
    subst hab
    rcases h1.2 with h | h
    · exact absurd rfl h
    · rcases h2.2 with h' | h'
      · exact absurd rfl h'
      · rw [bl_tri x y h h']
theorem lt_trans' {a b c : ByteArray} (h1 : lt' a b = true) (h2 : lt' b c = true) : lt' a c = true := bl_trans _ _ _ h1 h2
theorem lt_irr' (a : ByteArray) : lt' a a = false := bl_irr _
/-- Ahead of or the same: as the program asks it. -/
theorem le_not_lt (a b : ByteArray) : (Go.Op.bytesLess a.toList b.toList || a.toList == b.toList) = !lt' b a := by
  unfold lt'
  by_cases h : Go.Op.bytesLess b.toList a.toList = true
  · rw [h]
    have h1 : Go.Op.bytesLess a.toList b.toList = false := by
      rw [Bool.eq_false_iff]; intro e
      have := bl_trans _ _ _ h e
      rw [bl_irr] at this; cases this
    have h2 : (a.toList == b.toList) = false := by
      rw [Bool.eq_false_iff]; intro e
      rw [beq_iff_eq] at e
      rw [e, bl_irr] at h; cases h
    rw [h1, h2]; rfl
  · rw [Bool.not_eq_true] at h
    rw [h]
    by_cases h1 : Go.Op.bytesLess a.toList b.toList = true
    · rw [h1]; rfl
    · rw [Bool.not_eq_true] at h1
      have := bl_tri _ _ h1 h
      rw [h1, this]; simp

inductive Tr where
  | node (keys vals : List ByteArray) (kids : List Tr)
def Tr.keys : Tr → List ByteArray | .node k _ _ => k
def Tr.vals : Tr → List ByteArray | .node _ v _ => v
def Tr.kids : Tr → List Tr | .node _ _ c => c
def noTr : Tr := .node [] [] []

theorem upto_shift (p : Nat → Bool) (n : Nat) : upto p (n + 1) = (p 0 && upto (fun i => p (i + 1)) n) := by
  rw [Bool.eq_iff_iff, Bool.and_eq_true, upto_iff, upto_iff]
  constructor
  · intro h; exact ⟨h 0 (by omega), fun i hi => h (i + 1) (by omega)⟩
  · rintro ⟨h0, h1⟩ i hi
    cases i with
    | zero => exact h0
    | succ i => exact h1 i (by omega)

/-! What is right of one node: the program's look, and the specification's. -/
def short (s : ByteArray) : Bool := decide (s.size ≤ 20000)
def nodeOk (t : Tr) : Bool :=
  decide (1 ≤ t.keys.length) && decide (t.keys.length ≤ 3) && decide (t.vals.length = t.keys.length) && (decide (t.kids.length = 0) || decide (t.kids.length = t.keys.length + 1)) && t.keys.all short && t.vals.all short
def nodeS (root : Bool) (t : Tr) : Bool :=
  decide (t.keys.length ≤ 3) && (root || decide (1 ≤ t.keys.length)) && decide (t.vals.length = t.keys.length) && (decide (t.kids.length = 0) || (decide (t.kids.length = t.keys.length + 1) && decide (1 ≤ t.keys.length)))
/-- Kids that are all equally deep: how deep. -/
def sameL : List (Option Nat) → Option Nat
  | [] => some 0
  | none :: _ => none
  | some a :: r => if r.all (fun x => decide (x = some a)) then some a else none
/-- How many levels there are from a node on, if its shape is right and there are at most so many. -/
def lev : Nat → Tr → Option Nat
  | 0, _ => none
  | r + 1, t => if nodeOk t then (sameL (t.kids.map (lev r))).map (· + 1) else none
def weave : List ByteArray → List (List ByteArray) → List ByteArray
  | ks, [] => ks
  | [], c :: _ => c
  | k :: ks, c :: cs => c ++ k :: weave ks cs
def inord : Nat → Tr → List ByteArray
  | 0, _ => []
  | r + 1, t => weave t.keys (t.kids.map (inord r))
def rises : List ByteArray → Bool
  | a :: b :: l => lt' a b && rises (b :: l)
  | _ => true
/-- How many levels a right tree has (none: it is not right). -/
def trLev (t : Tr) : Option Nat :=
  if t.keys.length = 0 then (if t.vals.length = 0 ∧ t.kids.length = 0 then some 0 else none)
  else (lev 12 t).bind fun L => if rises (inord 12 t) then some L else none
/-- The way down by the first kids. -/
def dp : Nat → Tr → Nat
  | 0, _ => 1
  | f + 1, t => match t.kids with | [] => 1 | c :: _ => 1 + dp f c
def above (lo : Option ByteArray) (k : ByteArray) : Bool := match lo with | none => true | some a => lt' a k
def under (k : ByteArray) (hi : Option ByteArray) : Bool := match hi with | none => true | some a => lt' k a
def keyS (t : Tr) (lo hi : Option ByteArray) (i : Nat) : Bool :=
  short (t.keys.getD i ByteArray.empty) && short (t.vals.getD i ByteArray.empty) && (decide (i = 0) || lt' (t.keys.getD (i - 1) ByteArray.empty) (t.keys.getD i ByteArray.empty)) && above lo (t.keys.getD i ByteArray.empty) && under (t.keys.getD i ByteArray.empty) hi
def loB (lo : Option ByteArray) (ks : List ByteArray) (i : Nat) : Option ByteArray := if i = 0 then lo else some (ks.getD (i - 1) ByteArray.empty)
def hiB (hi : Option ByteArray) (ks : List ByteArray) (i : Nat) : Option ByteArray := if i < ks.length then some (ks.getD i ByteArray.empty) else hi
/-- The specification's look. -/
def okS : Nat → Bool → Tr → Option ByteArray → Option ByteArray → Bool
  | 0, _, _, _, _ => false
  | d + 1, root, t, lo, hi => nodeS root t && (decide (t.kids.length = 0) == decide (d = 0)) && upto (keyS t lo hi) t.keys.length && upto (fun i => okS d false (t.kids.getD i noTr) (loB lo t.keys i) (hiB hi t.keys i)) t.kids.length

/-! Both looks are one. -/
def srt (lo hi : Option ByteArray) : List ByteArray → Bool
  | [] => true
  | a :: l => above lo a && under a hi && srt (some a) hi l
theorem rises_srt : ∀ l : List ByteArray, rises l = srt none none l
  | [] => rfl
  | [a] => rfl
  | a :: b :: l => by
    have ih := rises_srt (b :: l)
    simp only [rises, srt, above, under, Bool.true_and] at ih ⊢
    rw [ih]
    simp
theorem above_trans {lo : Option ByteArray} {a k : ByteArray} (h : above lo a = true) (h2 : lt' a k = true) : above lo k = true := by
  cases lo with
  | none => rfl
  | some x => exact lt_trans' h h2
theorem under_trans {hi : Option ByteArray} {a k : ByteArray} (h : lt' a k = true) (h2 : under k hi = true) : under a hi = true := by
  cases hi with
  | none => rfl
  | some x => exact lt_trans' h h2
theorem srt_mid : ∀ (c : List ByteArray) (lo hi : Option ByteArray) (k : ByteArray) (r : List ByteArray), srt lo hi (c ++ k :: r) = true ↔ (srt lo (some k) c = true ∧ above lo k = true ∧ under k hi = true ∧ srt (some k) hi r = true)
  | [], lo, hi, k, r => by simp [srt, and_assoc]
  | a :: c, lo, hi, k, r => by
    have ih := srt_mid c (some a) hi k r
    simp only [List.cons_append, srt, Bool.and_eq_true] at ih ⊢
    rw [ih]
    constructor
    · rintro ⟨⟨h1, h2⟩, h3, h4, h5, h6⟩
      exact ⟨⟨⟨h1, h4⟩, h3⟩, above_trans h1 h4, h5, h6⟩
    · rintro ⟨⟨⟨h1, h4⟩, h3⟩, _, h5, h6⟩
      exact ⟨⟨h1, under_trans h4 h5⟩, h3, h4, h5, h6⟩
/-- Keys in order, each within the bounds: as the specification asks it, place by place. -/
def krow (lo hi : Option ByteArray) (ks : List ByteArray) (i : Nat) : Bool := (decide (i = 0) || lt' (ks.getD (i - 1) ByteArray.empty) (ks.getD i ByteArray.empty)) && above lo (ks.getD i ByteArray.empty) && under (ks.getD i ByteArray.empty) hi
theorem krow_srt : ∀ (ks : List ByteArray) (lo hi : Option ByteArray), upto (krow lo hi ks) ks.length = true ↔ srt lo hi ks = true
  | [], lo, hi => by simp [upto, srt]
  | k :: ks, lo, hi => by
    rw [List.length_cons, upto_shift]
    have ih := krow_srt ks (some k) hi
    simp only [srt, Bool.and_eq_true]
    rw [← ih]
    constructor
    · rintro ⟨h0, h1⟩
      have h0' : above lo k = true ∧ under k hi = true := by simpa [krow] using h0
      refine ⟨h0', ?_⟩
      rw [upto_iff] at h1 ⊢
      have hk : ∀ i, i < ks.length → lt' k (ks.getD i ByteArray.empty) = true := by
        intro i
        induction i with
        | zero => intro hi0; have := h1 0 hi0; simp only [krow, Bool.and_eq_true] at this; simpa using this.1.1
        | succ i ihk =>
          intro hi1
          have h2 := ihk (by omega)
          have h3 := h1 (i + 1) hi1
          simp only [krow, Bool.and_eq_true] at h3
          have h4 : lt' (ks.getD i ByteArray.empty) (ks.getD (i + 1) ByteArray.empty) = true := by simpa using h3.1.1
          exact lt_trans' h2 h4
      intro i hi'
      have h2 := h1 i hi'
      simp only [krow, Bool.and_eq_true] at h2 ⊢
      refine ⟨⟨?_, hk i hi'⟩, by simpa using h2.2⟩
      cases i with
      | zero => simp
      | succ i => simpa using h2.1.1
    · rintro ⟨⟨ha, hu⟩, h1⟩
      refine ⟨by simp [krow, ha, hu], ?_⟩
      rw [upto_iff] at h1 ⊢
      intro i hi'
      have h2 := h1 i hi'
      simp only [krow, Bool.and_eq_true] at h2 ⊢
      have hka : lt' k (ks.getD i ByteArray.empty) = true := h2.1.2
      refine ⟨⟨?_, ?_⟩, by simpa using h2.2⟩
      · cases i with
        | zero => simpa using hka
        | succ i => simpa using h2.1.1
      · have := above_trans (lo := lo) ha hka
        simpa using this
theorem srt_weave : ∀ (ks : List ByteArray) (cs : List (List ByteArray)) (lo hi : Option ByteArray), cs.length = ks.length + 1 →
    (srt lo hi (weave ks cs) = true ↔ (srt lo hi ks = true ∧ ∀ i, i < cs.length → srt (loB lo ks i) (hiB hi ks i) (cs.getD i []) = true))
  | [], [c], lo, hi, _ => by
    simp only [weave, srt, true_and, List.length_singleton]
    constructor
    · intro h i hi'
      obtain rfl : i = 0 := by omega
      simpa [loB, hiB] using h
    · intro h
      simpa [loB, hiB] using h 0 (by omega)
  | [], [], _, _, h => by simp at h
  | [], _ :: _ :: _, _, _, h => by simp at h
  | _ :: _, [], _, _, h => by simp at h
  | k :: ks, c :: cs, lo, hi, h => by
    have ih := srt_weave ks cs (some k) hi (by simpa using h)
    rw [weave, srt_mid, ih]
    simp only [srt, Bool.and_eq_true]
    constructor
    · rintro ⟨h1, h2, h3, h4, h5⟩
      refine ⟨⟨⟨h2, h3⟩, h4⟩, fun i hi' => ?_⟩
      cases i with
      | zero => simpa [loB, hiB] using h1
      | succ i =>
        have := h5 i (by simpa using hi')
        simp only [loB, hiB, List.length_cons, List.getD_cons_succ, Nat.add_sub_cancel, Nat.add_lt_add_iff_right] at this ⊢
        cases i with
        | zero => simpa using this
        | succ i => simpa using this
    · rintro ⟨⟨⟨h2, h3⟩, h4⟩, h5⟩
      refine ⟨by simpa [loB, hiB] using h5 0 (by simp), h2, h3, h4, fun i hi' => ?_⟩
      have := h5 (i + 1) (by simpa using hi')
      simp only [loB, hiB, List.length_cons, List.getD_cons_succ, Nat.add_sub_cancel, Nat.add_lt_add_iff_right] at this ⊢
      cases i with
      | zero => simpa using this
      | succ i => simpa using this
theorem all_getD {α : Type} (l : List α) (d : α) (p : α → Bool) : l.all p = true ↔ ∀ i, i < l.length → p (l.getD i d) = true := by
  rw [List.all_eq_true]
  constructor
  · intro h i hi
    rw [List.getD_eq_getElem?_getD, List.getElem?_eq_getElem hi]
    exact h _ (List.getElem_mem hi)
  · intro h x hx
    obtain ⟨i, hi, rfl⟩ := List.getElem_of_mem hx
    have := h i hi
    rw [List.getD_eq_getElem?_getD, List.getElem?_eq_getElem hi] at this
    exact this
theorem sameL_some {l : List (Option Nat)} {a : Nat} (hl : l ≠ []) : sameL l = some a ↔ ∀ x ∈ l, x = some a := by
  cases l with
  | nil => exact absurd rfl hl
  | cons x r =>
    cases x with
    | none => simp [sameL]
    | some b =>
      simp only [sameL]
      by_cases h : (r.all fun x => decide (x = some b)) = true
      · rw [if_pos h]
        rw [List.all_eq_true] at h
        simp only [decide_eq_true_eq] at h
        constructor
        · intro e y hy
          obtain rfl := Option.some.inj e
          rcases List.mem_cons.1 hy with rfl | hy
          · rfl
          · exact h y hy
        · intro h2; exact h2 _ (by simp)
      · rw [if_neg h]
        constructor
        · intro e; cases e
        · intro h2
          refine absurd ?_ h
          rw [List.all_eq_true]
          intro y hy
          have e1 := h2 (some b) (by simp)
          have e2 := h2 y (by simp [hy])
          rw [e2, ← e1]; simp
theorem nodeOk_nodeS {t : Tr} (h : nodeOk t = true) (root : Bool) : nodeS root t = true ∧ (∀ i, i < t.keys.length → short (t.keys.getD i ByteArray.empty) = true ∧ short (t.vals.getD i ByteArray.empty) = true) := by
  unfold nodeOk at h
  simp only [Bool.and_eq_true, decide_eq_true_eq, Bool.or_eq_true] at h
  obtain ⟨⟨⟨⟨⟨h1, h2⟩, h3⟩, h4⟩, h5⟩, h6⟩ := h
  refine ⟨?_, fun i hi => ⟨(all_getD _ ByteArray.empty _).1 h5 i hi, (all_getD _ ByteArray.empty _).1 h6 i (by omega)⟩⟩
  unfold nodeS
  simp only [Bool.and_eq_true, decide_eq_true_eq, Bool.or_eq_true]
  exact ⟨⟨⟨h2, .inr h1⟩, h3⟩, h4.imp id (fun e => ⟨e, h1⟩)⟩
theorem nodeS_nodeOk {t : Tr} {root : Bool} (h : nodeS root t = true) (h1 : 1 ≤ t.keys.length) (hs : ∀ i, i < t.keys.length → short (t.keys.getD i ByteArray.empty) = true ∧ short (t.vals.getD i ByteArray.empty) = true) : nodeOk t = true := by
  unfold nodeS at h
  simp only [Bool.and_eq_true, decide_eq_true_eq, Bool.or_eq_true] at h
  obtain ⟨⟨⟨h2, _⟩, h3⟩, h4⟩ := h
  unfold nodeOk
  simp only [Bool.and_eq_true, decide_eq_true_eq, Bool.or_eq_true]
  exact ⟨⟨⟨⟨⟨h1, h2⟩, h3⟩, h4.imp id And.left⟩, (all_getD _ ByteArray.empty _).2 fun i hi => (hs i hi).1⟩, (all_getD _ ByteArray.empty _).2 fun i hi => (hs i (by omega)).2⟩
theorem map_getD {α β : Type} (l : List α) (f : α → β) (i : Nat) (d : α) (e : β) (h : i < l.length) : (l.map f).getD i e = f (l.getD i d) := by
  simp [List.getD_eq_getElem?_getD, h]
/-- Of a right shape with d levels below so much room: both looks are one. -/
theorem ok_iff : ∀ (d r : Nat) (root : Bool) (t : Tr) (lo hi : Option ByteArray), d ≤ r → 1 ≤ t.keys.length →
    (okS d root t lo hi = true ↔ (lev r t = some d ∧ srt lo hi (inord r t) = true))
  | 0, r, root, t, lo, hi, _, _ => by
    constructor
    · intro h; simp [okS] at h
    · rintro ⟨h, _⟩
      cases r with
      | zero => simp [lev] at h
      | succ r =>
        simp only [lev] at h
        split at h
        · cases hs : sameL (t.kids.map (lev r)) <;> rw [hs] at h <;> simp at h
        · cases h
  | d + 1, 0, _, _, _, _, h, _ => by omega
  | d + 1, r + 1, root, t, lo, hi, hd, hk => by
    have hkeys : upto (keyS t lo hi) t.keys.length = true ↔ ((∀ i, i < t.keys.length → short (t.keys.getD i ByteArray.empty) = true ∧ short (t.vals.getD i ByteArray.empty) = true) ∧ srt lo hi t.keys = true) := by
      rw [← krow_srt, upto_iff, upto_iff]
      simp only [keyS, krow, Bool.and_eq_true]
      constructor
      · intro h; exact ⟨fun i hi' => ⟨(h i hi').1.1.1.1, (h i hi').1.1.1.2⟩, fun i hi' => ⟨⟨(h i hi').1.1.2, (h i hi').1.2⟩, (h i hi').2⟩⟩
      · rintro ⟨h1, h2⟩ i hi'; exact ⟨⟨⟨⟨(h1 i hi').1, (h1 i hi').2⟩, (h2 i hi').1.1⟩, (h2 i hi').1.2⟩, (h2 i hi').2⟩
    simp only [okS, Bool.and_eq_true, hkeys, lev, inord]
    constructor
    · rintro ⟨⟨⟨hn, hdd⟩, hs, hsrt⟩, hkid⟩
      have hok := nodeS_nodeOk hn hk hs
      rw [if_pos hok]
      have hn' := hn
      unfold nodeS at hn'
      simp only [Bool.and_eq_true, decide_eq_true_eq, Bool.or_eq_true] at hn'
      rw [beq_iff_eq, decide_eq_decide] at hdd
      rw [upto_iff] at hkid
      by_cases hc : t.kids.length = 0
      · obtain hc' := List.eq_nil_of_length_eq_zero hc
        have hd0 := hdd.1 hc
        subst hd0
        rw [hc']
        exact ⟨rfl, by simpa [weave] using hsrt⟩
      · have hcl : t.kids.length = t.keys.length + 1 := by
          rcases hn'.2 with h | h
          · exact absurd h hc
          · exact h.1
        have hkn : ∀ i, i < t.kids.length → 1 ≤ (t.kids.getD i noTr).keys.length := fun i hi' => by
          have := hkid i hi'
          cases d with
          | zero => simp [okS] at this
          | succ d =>
            simp only [okS, Bool.and_eq_true] at this
            have h2 := this.1.1.1
            unfold nodeS at h2
            simp only [Bool.and_eq_true, decide_eq_true_eq, Bool.or_eq_true] at h2
            rcases h2.1.1.2 with h3 | h3
            · cases h3
            · exact h3
        have hrec := fun i hi' => (ok_iff d r false (t.kids.getD i noTr) (loB lo t.keys i) (hiB hi t.keys i) (by omega) (hkn i hi')).1 (hkid i hi')
        refine ⟨?_, ?_⟩
        · have : sameL (t.kids.map (lev r)) = some d := by
            rw [sameL_some (by simp; intro e; rw [e] at hc; exact hc rfl)]
            intro x hx
            rw [List.mem_map] at hx
            obtain ⟨c, hc1, rfl⟩ := hx
            obtain ⟨i, hi', rfl⟩ := List.getElem_of_mem hc1
            have := (hrec i hi').1
            rw [List.getD_eq_getElem?_getD, List.getElem?_eq_getElem hi'] at this
            exact this
          rw [this]; rfl
        · rw [srt_weave _ _ _ _ (by simpa using hcl)]
          refine ⟨hsrt, fun i hi' => ?_⟩
          have hi2 : i < t.kids.length := by simpa using hi'
          rw [map_getD _ _ _ noTr _ hi2]
          exact (hrec i hi2).2
    · rintro ⟨hl, hs⟩
      by_cases hok : nodeOk t = true
      · rw [if_pos hok] at hl
        obtain ⟨hn, hsz⟩ := nodeOk_nodeS hok root
        have hn' := hok
        unfold nodeOk at hn'
        simp only [Bool.and_eq_true, decide_eq_true_eq, Bool.or_eq_true] at hn'
        by_cases hc : t.kids.length = 0
        · obtain hc' := List.eq_nil_of_length_eq_zero hc
          rw [hc'] at hl hs ⊢
          simp only [List.map_nil, sameL, Option.map_some, Option.some.injEq] at hl
          obtain rfl : d = 0 := by omega
          exact ⟨⟨⟨hn, by simp⟩, hsz, by simpa [weave] using hs⟩, by simp [upto]⟩
        · have hcl : t.kids.length = t.keys.length + 1 := by
            rcases hn'.1.1.2 with h | h
            · exact absurd h hc
            · exact h
          rw [srt_weave _ _ _ _ (by simpa using hcl)] at hs
          have hsm : sameL (t.kids.map (lev r)) = some d := by
            cases h : sameL (t.kids.map (lev r)) with
            | none => rw [h] at hl; cases hl
            | some a => rw [h] at hl; simp at hl; rw [hl]
          rw [sameL_some (by simp; intro e; rw [e] at hc; exact hc rfl)] at hsm
          have hlev : ∀ i, i < t.kids.length → lev r (t.kids.getD i noTr) = some d := fun i hi' => by
            rw [List.getD_eq_getElem?_getD, List.getElem?_eq_getElem hi']
            exact hsm _ (List.mem_map.2 ⟨_, List.getElem_mem hi', rfl⟩)
          have hkn : ∀ i, i < t.kids.length → 1 ≤ (t.kids.getD i noTr).keys.length := fun i hi' => by
            have := hlev i hi'
            cases r with
            | zero => simp [lev] at this
            | succ r =>
              simp only [lev] at this
              split at this
              · rename_i h2
                unfold nodeOk at h2
                simp only [Bool.and_eq_true, decide_eq_true_eq] at h2
                exact h2.1.1.1.1.1
              · cases this
          have hd0 : d ≠ 0 := fun e => by
            subst e
            have := (ok_iff 0 r false (t.kids.getD 0 noTr) none none (by omega) (hkn 0 (by omega)))
            have h3 := hlev 0 (by omega)
            cases r with
            | zero => simp [lev] at h3
            | succ r =>
              simp only [lev] at h3
              split at h3
              · cases hs2 : sameL ((t.kids.getD 0 noTr).kids.map (lev r)) <;> rw [hs2] at h3 <;> simp at h3
              · cases h3
          refine ⟨⟨⟨hn, by simp [hc, hd0]⟩, hsz, hs.1⟩, ?_⟩
          rw [upto_iff]
          intro i hi'
          refine (ok_iff d r false (t.kids.getD i noTr) (loB lo t.keys i) (hiB hi t.keys i) (by omega) (hkn i hi')).2 ⟨hlev i hi', ?_⟩
          have := hs.2 i (by simpa using hi')
          rw [map_getD _ _ _ noTr _ hi'] at this
          exact this
      · rw [if_neg hok] at hl; cases hl
theorem lev_dp : ∀ (r f : Nat) (t : Tr) (L : Nat), lev r t = some L → L ≤ f + 1 → 1 ≤ L ∧ L ≤ r ∧ dp f t = L
  | 0, _, _, _, h, _ => by simp [lev] at h
  | r + 1, f, t, L, h, hf => by
    simp only [lev] at h
    split at h
    · cases hs : sameL (t.kids.map (lev r)) with
      | none => rw [hs] at h; cases h
      | some a =>
        rw [hs] at h
        simp only [Option.map_some, Option.some.injEq] at h
        cases hk : t.kids with
        | nil =>
          rw [hk] at hs
          simp only [List.map_nil, sameL, Option.some.injEq] at hs
          refine ⟨by omega, by omega, ?_⟩
          cases f with
          | zero => simp [dp]; omega
          | succ f => simp [dp, hk]; omega
        | cons c cs =>
          rw [hk, sameL_some (by simp)] at hs
          have hc := hs (lev r c) (by simp)
          cases f with
          | zero =>
            obtain ⟨h1, _, _⟩ := lev_dp r a c a hc (by omega)
            omega
          | succ f =>
            obtain ⟨h1, h2, h3⟩ := lev_dp r f c a hc (by omega)
            refine ⟨by omega, by omega, ?_⟩
            simp only [dp, hk]
            omega
    · cases h
/-- What the specification's TreeRight tells: the program's levels. -/
theorem right_same (t : Tr) : (decide (dp 12 t ≤ 12) && okS (dp 12 t) true t none none) = (trLev t).isSome := by
  unfold trLev
  by_cases hk : t.keys.length = 0
  · rw [if_pos hk]
    by_cases hv : t.vals.length = 0 ∧ t.kids.length = 0
    · rw [if_pos hv]
      have hc := List.eq_nil_of_length_eq_zero hv.2
      have h1 : dp 12 t = 1 := by simp [dp, hc]
      rw [h1]
      simp [okS, nodeS, hk, hv.1, hc, upto]
    · rw [if_neg hv]
      have h0 : okS (dp 12 t) true t none none = false := by
        rw [Bool.eq_false_iff]
        intro h
        cases hd : dp 12 t with
        | zero => rw [hd] at h; simp [okS] at h
        | succ d =>
          rw [hd] at h
          simp only [okS, Bool.and_eq_true] at h
          have h2 := h.1.1.1
          unfold nodeS at h2
          simp only [Bool.and_eq_true, decide_eq_true_eq, Bool.or_eq_true] at h2
          refine hv ⟨by omega, ?_⟩
          rcases h2.2 with h3 | h3
          · exact h3
          · omega
      rw [h0]; simp
  · rw [if_neg hk]
    have hk1 : 1 ≤ t.keys.length := by omega
    rw [Bool.eq_iff_iff, Bool.and_eq_true, decide_eq_true_eq]
    constructor
    · rintro ⟨hd, ho⟩
      obtain ⟨h1, h2⟩ := (ok_iff (dp 12 t) 12 true t none none hd hk1).1 ho
      rw [h1, ← rises_srt] at *
      simp [h2]
    · intro h
      cases hl : lev 12 t with
      | none => rw [hl] at h; cases h
      | some L =>
        obtain ⟨h1, h2, h3⟩ := lev_dp 12 12 t L hl (by
          by_cases hL : L ≤ 13
          · exact hL
          · obtain ⟨_, h4, _⟩ := lev_dp 12 L t L hl (by omega)
            omega)
        rw [hl] at h
        by_cases hr : rises (inord 12 t) = true
        · rw [h3]
          refine ⟨by omega, (ok_iff L 12 true t none none (by omega) hk1).2 ⟨hl, ?_⟩⟩
          rw [← rises_srt]; exact hr
        · simp [hr] at h
theorem lev_deep (t : Tr) (L : Nat) (h : trLev t = some L) (hk : t.keys.length ≠ 0) : dp 12 t = L := by
  unfold trLev at h
  rw [if_neg hk] at h
  cases hl : lev 12 t with
  | none => rw [hl] at h; cases h
  | some M =>
    rw [hl] at h
    simp only [Option.bind_some] at h
    split at h
    · obtain rfl := Option.some.inj h
      by_cases hL : M ≤ 13
      · exact (lev_dp 12 12 t M hl hL).2.2
      · obtain ⟨_, h4, _⟩ := lev_dp 12 M t M hl (by omega)
        omega
    · cases h
end Go.Proofs.Ytaapacpiipcogaa

/-
  Trees as they lie in memory. Plain laws.
-/
namespace Go.Proofs.Ytaapacpiipcogaa
open Go.RowKit

/-- Texts that lie one behind the other, in blocks from A on and below B. -/
def StrRow (w : World) (A B : Nat) (ao : Option Addr) (l : List ByteArray) : Prop :=
  (∀ s ∈ l, s.size ≤ maxLen) ∧ (l.length = 0 ∨ ∃ b off, ao = some ⟨b, off, none⟩ ∧ A ≤ b ∧ b < B ∧ ∀ i, i < l.length → w.cell? ⟨b, off + i, none⟩ = some (.string (l.getD i ByteArray.empty)))
theorem StrRow.kept {w w' : World} {A B : Nat} {ao : Option Addr} {l : List ByteArray} (h : StrRow w A B ao l) (hb : Below B w w') : StrRow w' A B ao l := by
  refine ⟨h.1, ?_⟩
  rcases h.2 with h0 | ⟨b, off, e, hA, hB, hc⟩
  · exact .inl h0
  · exact .inr ⟨b, off, e, hA, hB, fun i hi => (hb.cell (p := ⟨b, _, none⟩) hB).trans (hc i hi)⟩
theorem StrRow.mono {w : World} {A B A' C : Nat} {ao : Option Addr} {l : List ByteArray} (h : StrRow w A B ao l) (ha : A' ≤ A) (hc : B ≤ C) : StrRow w A' C ao l := by
  refine ⟨h.1, ?_⟩
  rcases h.2 with h0 | ⟨b, off, e, hA, hB, hc'⟩
  · exact .inl h0
  · exact .inr ⟨b, off, e, by omega, by omega, hc'⟩
theorem StrRow.at {w : World} {A B : Nat} {ao : Option Addr} {l : List ByteArray} (h : StrRow w A B ao l) (k : Nat) (hk : k < l.length) :
    ∃ b off x, ao = some ⟨b, off, none⟩ ∧ b < B ∧ l.getD k ByteArray.empty = x ∧ x.size ≤ maxLen ∧ w.cell? ⟨b, off + k, none⟩ = some (.string x) := by
  rcases h.2 with h0 | ⟨b, off, e, hA, hB, hc⟩
  · omega
  · exact ⟨b, off, _, e, hB, rfl, h.1 _ (getD_mem l _ k hk), hc k hk⟩
theorem StrRow.other {w : World} {A B : Nat} {ao : Option Addr} {l : List ByteArray} (h : StrRow w A B ao l) (g m : Nat) (v : Value) (hg : g < A) : StrRow (w.setCell ⟨g, m, none⟩ v) A B ao l := by
  refine ⟨h.1, ?_⟩
  rcases h.2 with h0 | ⟨b, off, e, hA, hB, hc⟩
  · exact .inl h0
  · refine .inr ⟨b, off, e, hA, hB, fun i hi => ?_⟩
    exact (World.cell?_setCell_other w ⟨g, m, none⟩ ⟨b, off + i, none⟩ v (fun e' => by have : g = b := congrArg Addr.block e'; omega)).trans (hc i hi)
def strsV (l : List ByteArray) : List Value := l.map Value.string
theorem strRow_of {w : World} {g : Nat} {cur : List Value} {t : TypeId} {f : Nat × Nat} {l : List ByteArray} (hg : w.heap[g]? = some (.cells cur.toArray t f)) (hc : cur.take l.length = strsV l) (ho : ∀ x ∈ l, x.size ≤ maxLen) :
    StrRow w g w.heap.size (some ⟨g, 0, none⟩) l := by
  have hlt : g < w.heap.size := (Array.getElem?_eq_some_iff.1 hg).1
  refine ⟨ho, .inr ⟨g, 0, rfl, Nat.le_refl _, hlt, fun i hi => ?_⟩⟩
  rw [cell_of_row _ _ _ _ _ _ hg, List.getElem?_toArray, Nat.zero_add]
  have : (cur.take l.length)[i]? = cur[i]? := List.getElem?_take_of_lt hi
  rw [← this, hc, strsV, List.getElem?_map, List.getD_eq_getElem?_getD, List.getElem?_eq_getElem hi]; rfl
theorem strs_step (cur : List Value) (l : List ByteArray) (k : Nat) (hk : k < l.length) (hl : cur.length = l.length) (hc : cur.take k = strsV (l.take k)) (x : ByteArray) (hx : l.getD k ByteArray.empty = x) :
    (cur.set k (.string x)).take (k + 1) = strsV (l.take (k + 1)) ∧ (cur.set k (.string x)).length = l.length := by
  refine ⟨?_, by simpa using hl⟩
  rw [take_set1 _ _ _ (by omega), hc, List.take_succ_eq_append_getElem hk]
  rw [List.getD_eq_getElem?_getD, List.getElem?_eq_getElem hk] at hx
  simp only [Option.getD_some] at hx
  unfold strsV
  rw [List.map_append, hx]; rfl
/-- Kids that lie one behind the other, three cells each. -/
def KidRow (w : World) (A B : Nat) (P : Tr → Option Addr → Option Addr → Option Addr → Prop) (xo : Option Addr) (cs : List Tr) : Prop :=
  cs.length = 0 ∨ ∃ b off, xo = some ⟨b, off, none⟩ ∧ A ≤ b ∧ b < B ∧ ∀ i, i < cs.length → ∃ ko kc vo vc yo yc,
    w.cell? ⟨b, off + i * 3, none⟩ = some (.slice ko (cs.getD i noTr).keys.length kc) ∧ w.cell? ⟨b, off + i * 3 + 1, none⟩ = some (.slice vo (cs.getD i noTr).vals.length vc) ∧ w.cell? ⟨b, off + i * 3 + 2, none⟩ = some (.slice yo (cs.getD i noTr).kids.length yc) ∧ P (cs.getD i noTr) ko vo yo
/-- A tree of at most n levels, all of it in blocks from A on and below B. -/
def TrRow (w : World) (A B : Nat) : Nat → Tr → Option Addr → Option Addr → Option Addr → Prop
  | 0, _, _, _, _ => False
  | n + 1, t, ko, vo, xo => (t.keys.length ≤ maxLen ∧ t.vals.length ≤ maxLen ∧ t.kids.length ≤ maxLen) ∧ StrRow w A B ko t.keys ∧ StrRow w A B vo t.vals ∧ KidRow w A B (TrRow w A B n) xo t.kids
theorem KidRow.kept {w w' : World} {A B : Nat} {P P' : Tr → Option Addr → Option Addr → Option Addr → Prop} {xo : Option Addr} {cs : List Tr} (h : KidRow w A B P xo cs) (hb : Below B w w') (hP : ∀ t a b c, P t a b c → P' t a b c) : KidRow w' A B P' xo cs := by
  rcases h with h0 | ⟨b, off, e, hA, hB, hc⟩
  · exact .inl h0
  · refine .inr ⟨b, off, e, hA, hB, fun i hi => ?_⟩
    obtain ⟨ko, kc, vo, vc, yo, yc, c0, c1, c2, hp⟩ := hc i hi
    exact ⟨ko, kc, vo, vc, yo, yc, (hb.cell (p := ⟨b, _, none⟩) hB).trans c0, (hb.cell (p := ⟨b, _, none⟩) hB).trans c1, (hb.cell (p := ⟨b, _, none⟩) hB).trans c2, hP _ _ _ _ hp⟩
theorem TrRow.kept {w w' : World} {A B : Nat} (hb : Below B w w') : ∀ (n : Nat) (t : Tr) (ko vo xo : Option Addr), TrRow w A B n t ko vo xo → TrRow w' A B n t ko vo xo
  | 0, _, _, _, _, h => h.elim
  | n + 1, _, _, _, _, ⟨hl, hk, hv, hx⟩ => ⟨hl, hk.kept hb, hv.kept hb, hx.kept hb (TrRow.kept hb n)⟩
theorem KidRow.mono {w : World} {A B A' C : Nat} {P P' : Tr → Option Addr → Option Addr → Option Addr → Prop} {xo : Option Addr} {cs : List Tr} (h : KidRow w A B P xo cs) (ha : A' ≤ A) (hc : B ≤ C) (hP : ∀ t a b c, P t a b c → P' t a b c) : KidRow w A' C P' xo cs := by
  rcases h with h0 | ⟨b, off, e, hA, hB, hc'⟩
  · exact .inl h0
  · refine .inr ⟨b, off, e, by omega, by omega, fun i hi => ?_⟩
    obtain ⟨ko, kc, vo, vc, yo, yc, c0, c1, c2, hp⟩ := hc' i hi
    exact ⟨ko, kc, vo, vc, yo, yc, c0, c1, c2, hP _ _ _ _ hp⟩
theorem TrRow.mono {w : World} {A B A' C : Nat} (ha : A' ≤ A) (hc : B ≤ C) : ∀ (n : Nat) (t : Tr) (ko vo xo : Option Addr), TrRow w A B n t ko vo xo → TrRow w A' C n t ko vo xo
  | 0, _, _, _, _, h => h.elim
  | n + 1, _, _, _, _, ⟨hl, hk, hv, hx⟩ => ⟨hl, hk.mono ha hc, hv.mono ha hc, hx.mono ha hc (TrRow.mono ha hc n)⟩
theorem KidRow.other {w : World} {A B : Nat} {P P' : Tr → Option Addr → Option Addr → Option Addr → Prop} {xo : Option Addr} {cs : List Tr} (h : KidRow w A B P xo cs) (g m : Nat) (v : Value) (hg : g < A) (hP : ∀ t a b c, P t a b c → P' t a b c) : KidRow (w.setCell ⟨g, m, none⟩ v) A B P' xo cs := by
  rcases h with h0 | ⟨b, off, e, hA, hB, hc⟩
  · exact .inl h0
  · refine .inr ⟨b, off, e, hA, hB, fun i hi => ?_⟩
    obtain ⟨ko, kc, vo, vc, yo, yc, c0, c1, c2, hp⟩ := hc i hi
    have ho := fun o => World.cell?_setCell_other w ⟨g, m, none⟩ ⟨b, o, none⟩ v (fun e' => by have : g = b := congrArg Addr.block e'; omega)
    exact ⟨ko, kc, vo, vc, yo, yc, (ho _).trans c0, (ho _).trans c1, (ho _).trans c2, hP _ _ _ _ hp⟩
theorem TrRow.other {w : World} {A B : Nat} (g m : Nat) (v : Value) (hg : g < A) : ∀ (n : Nat) (t : Tr) (ko vo xo : Option Addr), TrRow w A B n t ko vo xo → TrRow (w.setCell ⟨g, m, none⟩ v) A B n t ko vo xo
  | 0, _, _, _, _, h => h.elim
  | n + 1, _, _, _, _, ⟨hl, hk, hv, hx⟩ => ⟨hl, hk.other g m v hg, hv.other g m v hg, hx.other g m v hg (TrRow.other g m v hg n)⟩
theorem KidRow.at {w : World} {A B : Nat} {P : Tr → Option Addr → Option Addr → Option Addr → Prop} {xo : Option Addr} {cs : List Tr} (h : KidRow w A B P xo cs) (k : Nat) (hk : k < cs.length) :
    ∃ b off ko kc vo vc yo yc ks vs ds, xo = some ⟨b, off, none⟩ ∧ b < B ∧ cs.getD k noTr = .node ks vs ds ∧ P (.node ks vs ds) ko vo yo ∧ w.cell? ⟨b, off + k * 3, none⟩ = some (.slice ko ks.length kc) ∧ w.cell? ⟨b, off + k * 3 + 1, none⟩ = some (.slice vo vs.length vc) ∧ w.cell? ⟨b, off + k * 3 + 2, none⟩ = some (.slice yo ds.length yc) := by
  rcases h with h0 | ⟨b, off, e, hA, hB, hc⟩
  · omega
  · obtain ⟨ko, kc, vo, vc, yo, yc, c0, c1, c2, hp⟩ := hc k hk
    cases ht : cs.getD k noTr with
    | node ks vs ds =>
      rw [ht] at c0 c1 c2 hp
      exact ⟨b, off, ko, kc, vo, vc, yo, yc, ks, vs, ds, e, hB, rfl, hp, c0, c1, c2⟩
/-- A tree whose lists can be copied. -/
def trFits : Nat → Tr → Prop
  | 0, _ => True
  | n + 1, t => (t.keys.length ≤ 1048576 ∧ t.vals.length ≤ 1048576 ∧ t.kids.length ≤ 1048576) ∧ ∀ i, i < t.kids.length → trFits n (t.kids.getD i noTr)
end Go.Proofs.Ytaapacpiipcogaa

/-
  Disks as they lie in memory. Plain laws.
-/
namespace Go.Proofs.Ytaapacpiipcogaa
open Go.RowKit
set_option maxRecDepth 100000

structure Wr where
  pos : Int
  text : ByteArray
structure Dk where
  secs : List ByteArray
  cache : List Wr
def noWr : Wr := ⟨0, ByteArray.empty⟩
def wI64 (x : Int) : Prop := -9223372036854775808 ≤ x ∧ x ≤ 9223372036854775807
/-- Writes that lie one behind the other, two cells each. -/
def WrRow (w : World) (A B : Nat) (ao : Option Addr) (l : List Wr) : Prop :=
  (∀ x ∈ l, wI64 x.pos ∧ x.text.size ≤ maxLen) ∧ (l.length = 0 ∨ ∃ b off, ao = some ⟨b, off, none⟩ ∧ A ≤ b ∧ b < B ∧ ∀ i, i < l.length →
    w.cell? ⟨b, off + i * 2, none⟩ = some (.int .i64 (l.getD i noWr).pos) ∧ w.cell? ⟨b, off + i * 2 + 1, none⟩ = some (.string (l.getD i noWr).text))
theorem WrRow.kept {w w' : World} {A B : Nat} {ao : Option Addr} {l : List Wr} (h : WrRow w A B ao l) (hb : Below B w w') : WrRow w' A B ao l := by
  refine ⟨h.1, ?_⟩
  rcases h.2 with h0 | ⟨b, off, e, hA, hB, hc⟩
  · exact .inl h0
  · refine .inr ⟨b, off, e, hA, hB, fun i hi => ?_⟩
    obtain ⟨c0, c1⟩ := hc i hi
    exact ⟨(hb.cell (p := ⟨b, _, none⟩) hB).trans c0, (hb.cell (p := ⟨b, _, none⟩) hB).trans c1⟩
theorem WrRow.mono {w : World} {A B A' C : Nat} {ao : Option Addr} {l : List Wr} (h : WrRow w A B ao l) (ha : A' ≤ A) (hc : B ≤ C) : WrRow w A' C ao l := by
  refine ⟨h.1, ?_⟩
  rcases h.2 with h0 | ⟨b, off, e, hA, hB, hc'⟩
  · exact .inl h0
  · exact .inr ⟨b, off, e, by omega, by omega, hc'⟩
theorem WrRow.at {w : World} {A B : Nat} {ao : Option Addr} {l : List Wr} (h : WrRow w A B ao l) (k : Nat) (hk : k < l.length) :
    ∃ b off n t, ao = some ⟨b, off, none⟩ ∧ b < B ∧ l.getD k noWr = ⟨n, t⟩ ∧ t.size ≤ maxLen ∧ wI64 n ∧ w.cell? ⟨b, off + k * 2, none⟩ = some (.int .i64 n) ∧ w.cell? ⟨b, off + k * 2 + 1, none⟩ = some (.string t) := by
  rcases h.2 with h0 | ⟨b, off, e, hA, hB, hc⟩
  · omega
  · obtain ⟨c0, c1⟩ := hc k hk
    have hm := h.1 _ (getD_mem l noWr k hk)
    exact ⟨b, off, _, _, e, hB, rfl, hm.2, hm.1, c0, c1⟩
theorem WrRow.other {w : World} {A B : Nat} {ao : Option Addr} {l : List Wr} (h : WrRow w A B ao l) (g m : Nat) (v : Value) (hg : g < A) : WrRow (w.setCell ⟨g, m, none⟩ v) A B ao l := by
  refine ⟨h.1, ?_⟩
  rcases h.2 with h0 | ⟨b, off, e, hA, hB, hc⟩
  · exact .inl h0
  · refine .inr ⟨b, off, e, hA, hB, fun i hi => ?_⟩
    obtain ⟨c0, c1⟩ := hc i hi
    have ho := fun o => World.cell?_setCell_other w ⟨g, m, none⟩ ⟨b, o, none⟩ v (fun e' => by have : g = b := congrArg Addr.block e'; omega)
    exact ⟨(ho _).trans c0, (ho _).trans c1⟩
/-- A disk whose lists lie in blocks from A on and below B. -/
def DkRow (w : World) (A B : Nat) (so co : Option Addr) (d : Dk) : Prop :=
  (d.secs.length ≤ maxLen ∧ d.cache.length ≤ maxLen) ∧ StrRow w A B so d.secs ∧ WrRow w A B co d.cache
theorem DkRow.kept {w w' : World} {A B : Nat} {so co : Option Addr} {d : Dk} (h : DkRow w A B so co d) (hb : Below B w w') : DkRow w' A B so co d := ⟨h.1, h.2.1.kept hb, h.2.2.kept hb⟩
theorem DkRow.mono {w : World} {A B A' C : Nat} {so co : Option Addr} {d : Dk} (h : DkRow w A B so co d) (ha : A' ≤ A) (hc : B ≤ C) : DkRow w A' C so co d := ⟨h.1, h.2.1.mono ha hc, h.2.2.mono ha hc⟩
theorem DkRow.other {w : World} {A B : Nat} {so co : Option Addr} {d : Dk} (h : DkRow w A B so co d) (g m : Nat) (v : Value) (hg : g < A) : DkRow (w.setCell ⟨g, m, none⟩ v) A B so co d := ⟨h.1, h.2.1.other g m v hg, h.2.2.other g m v hg⟩
/-- A disk whose texts and numbers are in their bounds. -/
def dkIn (d : Dk) : Prop := (∀ s ∈ d.secs, s.size ≤ maxLen) ∧ (∀ x ∈ d.cache, wI64 x.pos ∧ x.text.size ≤ maxLen)
theorem DkRow.inn {w : World} {A B : Nat} {so co : Option Addr} {d : Dk} (h : DkRow w A B so co d) : dkIn d := ⟨h.2.1.1, h.2.2.1⟩
def dkFits (d : Dk) : Prop := d.secs.length ≤ 1048576 ∧ d.cache.length ≤ 1048576

def flatW (l : List Wr) : List Value := l.flatMap fun x => [.int .i64 x.pos, .string x.text]
theorem flatW_cons (x : Wr) (l : List Wr) : flatW (x :: l) = .int .i64 x.pos :: .string x.text :: flatW l := rfl
theorem flatW_append (a b : List Wr) : flatW (a ++ b) = flatW a ++ flatW b := by simp [flatW]
theorem flatW_snoc (l : List Wr) (x : Wr) : flatW (l ++ [x]) = flatW l ++ [.int .i64 x.pos, .string x.text] := by rw [flatW_append]; rfl
theorem flatW_len (l : List Wr) : (flatW l).length = l.length * 2 := by
  induction l with
  | nil => rfl
  | cons v r ih => rw [flatW_cons]; simp [ih]; omega
theorem flatW_get (l : List Wr) : ∀ i, i < l.length → (flatW l)[i * 2]? = some (.int .i64 (l.getD i noWr).pos) ∧ (flatW l)[i * 2 + 1]? = some (.string (l.getD i noWr).text) := by
  induction l with
  | nil => intro i h; simp at h
  | cons v r ih =>
    intro i h
    rw [flatW_cons]
    match i, h with
    | 0, _ => exact ⟨rfl, rfl⟩
    | i + 1, h =>
      obtain ⟨h0, h1⟩ := ih i (by simpa using h)
      have e : (i + 1) * 2 = i * 2 + 1 + 1 := by omega
      rw [e, List.getD_cons_succ]
      simp only [List.getElem?_cons_succ]
      exact ⟨h0, h1⟩
theorem flatW_at (l : List Wr) (j : Nat) (u : Value) (h : (flatW l)[j]? = some u) : ∃ i, i < l.length ∧ (j = i * 2 ∧ u = .int .i64 (l.getD i noWr).pos ∨ j = i * 2 + 1 ∧ u = .string (l.getD i noWr).text) := by
  have hl : j < (flatW l).length := (List.getElem?_eq_some_iff.1 h).1
  rw [flatW_len] at hl
  have hi : j / 2 < l.length := by omega
  obtain ⟨h0, h1⟩ := flatW_get l (j / 2) hi
  refine ⟨j / 2, hi, ?_⟩
  rcases (by omega : j % 2 = 0 ∨ j % 2 = 1) with e | e
  · have ej : j = j / 2 * 2 := by omega
    rw [← ej, h] at h0
    exact .inl ⟨ej, Option.some.inj h0⟩
  · have ej : j = j / 2 * 2 + 1 := by omega
    rw [← ej, h] at h1
    exact .inr ⟨ej, Option.some.inj h1⟩
theorem flatW_one (l : List Wr) : ∀ u ∈ flatW l, u.oneCell' = true := by
  intro u hu
  obtain ⟨j, hj⟩ := List.mem_iff_getElem?.1 hu
  obtain ⟨i, _, h⟩ := flatW_at l j u hj
  rcases h with ⟨_, rfl⟩ | ⟨_, rfl⟩ <;> rfl
theorem take_set2w (cur : List Value) (k : Nat) (x y : Value) (h : k + 2 ≤ cur.length) : ((cur.set k x).set (k + 1) y).take (k + 2) = cur.take k ++ [x, y] := by
  have h1 : k + 1 < (cur.set k x).length := by simp; omega
  rw [take_set1 (cur.set k x) (k + 1) y h1, take_set1 cur k x (by omega)]; simp
theorem flatW_step (cur : List Value) (l : List Wr) (k : Nat) (hk : k < l.length) (hl : cur.length = l.length * 2) (hc : cur.take (k * 2) = flatW (l.take k)) (a : Int) (t : ByteArray) (hv : l.getD k noWr = ⟨a, t⟩) :
    ((cur.set (k * 2) (.int .i64 a)).set (k * 2 + 1) (.string t)).take ((k + 1) * 2) = flatW (l.take (k + 1)) ∧ ((cur.set (k * 2) (.int .i64 a)).set (k * 2 + 1) (.string t)).length = l.length * 2 := by
  have e : (k + 1) * 2 = k * 2 + 2 := by omega
  rw [List.getD_eq_getElem?_getD, List.getElem?_eq_getElem hk] at hv
  simp only [Option.getD_some] at hv
  refine ⟨?_, by simpa using hl⟩
  rw [e, take_set2w _ _ _ _ (by omega), hc, List.take_succ_eq_append_getElem hk, flatW_append, hv]
  rfl
theorem wrRow_of {w : World} {g : Nat} {cur : List Value} {t : TypeId} {f : Nat × Nat} {l : List Wr} (hg : w.heap[g]? = some (.cells cur.toArray t f)) (hc : cur.take (l.length * 2) = flatW l) (ho : ∀ x ∈ l, wI64 x.pos ∧ x.text.size ≤ maxLen) :
    WrRow w g w.heap.size (some ⟨g, 0, none⟩) l := by
  have hlt : g < w.heap.size := (Array.getElem?_eq_some_iff.1 hg).1
  refine ⟨ho, .inr ⟨g, 0, rfl, Nat.le_refl _, hlt, fun i hi => ?_⟩⟩
  have hget : ∀ j, j < l.length * 2 → cur[j]? = (flatW l)[j]? := fun j hj => by rw [← hc, List.getElem?_take_of_lt hj]
  obtain ⟨h0, h1⟩ := flatW_get l i hi
  refine ⟨?_, ?_⟩
  · rw [cell_of_row _ _ _ _ _ _ hg, List.getElem?_toArray, Nat.zero_add, hget _ (by omega), h0]
  · rw [cell_of_row _ _ _ _ _ _ hg, List.getElem?_toArray, Nat.zero_add, hget _ (by omega), h1]
theorem wrRow_news {w : World} {A B : Nat} {ad : Addr} {l : List Wr} (h : WrRow w A B (some ad) l) : ∀ j u, (flatW l)[j]? = some u → w.cell? (ad.add j) = some u := by
  intro j u hj
  obtain ⟨i, hi, hu⟩ := flatW_at l j u hj
  rcases h.2 with h0 | ⟨b, off, e, _, _, hc⟩
  · omega
  · obtain rfl := Option.some.inj e
    obtain ⟨c0, c1⟩ := hc i hi
    have ha : ∀ j, (⟨b, off, none⟩ : Addr).add j = ⟨b, off + j, none⟩ := fun j => by unfold Addr.add; split <;> simp_all
    rcases hu with ⟨rfl, rfl⟩ | ⟨rfl, rfl⟩
    · rw [ha]; exact c0
    · rw [ha]; exact c1
theorem strRow_news {w : World} {A B : Nat} {ad : Addr} {l : List ByteArray} (h : StrRow w A B (some ad) l) : ∀ j u, (strsV l)[j]? = some u → w.cell? (ad.add j) = some u := by
  intro j u hj
  have hlt : j < l.length := by have := (List.getElem?_eq_some_iff.1 hj).1; simpa [strsV] using this
  obtain ⟨b, off, x, e, _, hx, _, hc⟩ := h.at j hlt
  obtain rfl := Option.some.inj e
  have ha : ∀ j, (⟨b, off, none⟩ : Addr).add j = ⟨b, off + j, none⟩ := fun j => by unfold Addr.add; split <;> simp_all
  rw [ha, hc, ← hx]
  rw [strsV, List.getElem?_map, List.getElem?_eq_getElem hlt] at hj
  rw [← hj, List.getD_eq_getElem?_getD, List.getElem?_eq_getElem hlt]; rfl
theorem strsV_one (l : List ByteArray) : ∀ u ∈ strsV l, u.oneCell' = true := by
  intro u hu
  unfold strsV at hu
  rw [List.mem_map] at hu
  obtain ⟨x, _, rfl⟩ := hu
  rfl
end Go.Proofs.Ytaapacpiipcogaa
