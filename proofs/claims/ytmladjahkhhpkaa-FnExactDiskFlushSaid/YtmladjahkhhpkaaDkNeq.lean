/-
  Sectors held against each other as a whole. Plain facts.
-/
import Derived.Test.YtmladjahkhhpkaaDkMap
import Derived.DeepKeys
import Derived.DeepKeys2
import Derived.Laws.StructEq
namespace Go.Proofs.Ytmladjahkhhpkaa
open Go.RowKit
set_option maxRecDepth 100000

theorem mapM_some {α β : Type} {f : α → Option β} {h : α → β} : ∀ (l : List α), (∀ i ∈ l, f i = some (h i)) → l.mapM f = some (l.map h)
  | [], _ => rfl
  | x :: r, hx => by
    rw [List.mapM_cons, hx x (by simp), mapM_some r (fun i hi => hx i (by simp [hi]))]
    rfl
theorem range_flat (g : Nat → Lit) (n : Nat) : ((List.range n).map fun i => [g i]).flatten = (List.range n).map g := by
  induction n with
  | zero => rfl
  | succ n ih => simp [List.range_succ, ih]
theorem u8_lit (b : UInt8) : (Lit.int .u8 (b.toNat : Int)).wf = true := by
  have := b.toNat_lt
  have h1 : IntKind.u8.min = 0 := by decide
  have h2 : IntKind.u8.max = 255 := by decide
  simp [Lit.wf, h1, h2]
  omega
theorem secLits (l : List UInt8) (hl : l.length = 64) : ∃ L, Try.prog.keyLits 3 56 (secV l).toList = some L := by
  have h1 : Try.prog.cellsOf 56 = 64 := by kernel_rfl
  have h2 : Try.prog.cellsOf 54 = 64 := by kernel_rfl
  have h3 : Try.prog.cellsOf 5 = 1 := by kernel_rfl
  have hc : (secV l).toList.length = 64 := by simp [secV, Lib.byteCells, hl]
  have ha : Try.prog.keyLits 2 54 (secV l).toList = some (((List.range 64).map fun i => [Lit.int .u8 ((l.getD i 0).toNat : Int)]).flatten) := by
    unfold Program.keyLits
    rw [Try.underlying54]
    simp only [hc, h2, h3, if_true]
    rw [mapM_some (h := fun i => [Lit.int .u8 ((l.getD i 0).toNat : Int)])]
    · rfl
    · intro i hi
      have hi' : i < l.length := by rw [hl]; simpa using hi
      have hd : (List.drop (i * 1) (secV l).toList).take 1 = [Value.int .u8 ((l.getD i 0).toNat : Int)] := by
        rw [Nat.mul_one]
        unfold secV Lib.byteCells
        rw [← List.map_drop, ← List.map_take, List.drop_eq_getElem_cons hi', List.take_succ_cons, List.take_zero, List.getD_eq_getElem?_getD, List.getElem?_eq_getElem hi']
        rfl
      rw [hd]
      unfold Program.keyLits
      rw [Try.underlying5]
      simp [u8_lit]
  unfold Program.keyLits
  rw [Try.underlying56]
  simp only [hc, h1, true_and]
  rw [if_pos (by simp)]
  simp only [List.mapM_cons, List.mapM_nil, h2, List.drop_zero, List.take_of_length_le (Nat.le_of_eq hc), ha]
  exact ⟨_, rfl⟩
theorem sec_neq (a b : List UInt8) (ha : a.length = 64) (hb : b.length = 64) (W : World) : (binOp .neq 56 (.agg (secV a)) (.agg (secV b))).run Try.prog W = .ok (.bool (!decide (a = b))) W := by
  obtain ⟨la, hla⟩ := secLits a ha
  obtain ⟨lb, hlb⟩ := secLits b hb
  have hk : Try.prog.keyTypeAt 3 56 = true := by kernel_rfl
  have fm : ∀ l : List UInt8, l.length = 64 → (Value.agg (secV l)).formed Try.prog 56 = true := fun l hl => by
    have h1 : Try.prog.cellsOf 56 = 64 := by kernel_rfl
    unfold Value.formed
    rw [Try.underlying56]
    simp [h1, secV_size, hl]
  obtain ⟨r, hr, hiff⟩ := run_equalIn_deep 9997 3 56 hk W 3 3 (.agg (secV a)) (.agg (secV b)) la lb (fm a ha) (fm b hb) hla hlb
  rw [run_neq_struct, hr]
  have ht : Try.prog.tiled 3 56 = true := by kernel_rfl
  have hab : la = lb ↔ a = b := by
    refine ⟨fun e => ?_, fun e => ?_⟩
    · subst e
      have e1 := cells_of_lits 3 _ ht 3 _ _ hla
      have e2 := cells_of_lits 3 _ ht 3 _ _ hlb
      have e3 : (secV a).toList = (secV b).toList := e1.trans e2.symm
      exact secV_inj (by rw [show secV a = secV b from Array.toList_inj.1 e3])
    · subst e
      rw [hla] at hlb
      exact Option.some.inj hlb
  have hrr : r = decide (a = b) := by
    cases r
    · have : ¬ a = b := fun e => by have := hiff.2 (hab.2 e); cases this
      simp [this]
    · have : a = b := hab.1 (hiff.1 rfl)
      simp [this]
  rw [hrr]
  rfl
end Go.Proofs.Ytmladjahkhhpkaa
