/-
  Contracts: columns, indexes and schemas copied.
-/
import Derived.Test.YtkhklfnhninkjaaGreatSCopy
import Derived.Laws.ResultCell
namespace Go.Proofs.YtkhklfnhninkjaaGreat
open Go.RowKit
set_option maxRecDepth 100000

def cCells (c : Col) : List Value := [.string c.name, .int .i64 c.kind, .bool c.nul]
def flatC (cs : List Col) : List Value := cs.flatMap cCells
theorem flatC_cons (c : Col) (cs : List Col) : flatC (c :: cs) = .string c.name :: .int .i64 c.kind :: .bool c.nul :: flatC cs := rfl
theorem flatC_append (a b : List Col) : flatC (a ++ b) = flatC a ++ flatC b := by simp [flatC]
theorem flatC_len (cs : List Col) : (flatC cs).length = cs.length * 3 := by
  induction cs with
  | nil => rfl
  | cons v r ih => rw [flatC_cons]; simp [ih]; omega
theorem flatC_get (cs : List Col) : ∀ i, i < cs.length → (flatC cs)[i * 3]? = some (.string (cs.getD i noCol).name) ∧ (flatC cs)[i * 3 + 1]? = some (.int .i64 (cs.getD i noCol).kind) ∧ (flatC cs)[i * 3 + 2]? = some (.bool (cs.getD i noCol).nul) := by
  induction cs with
  | nil => intro i h; simp at h
  | cons v r ih =>
    intro i h
    rw [flatC_cons]
    match i, h with
    | 0, _ => exact ⟨rfl, rfl, rfl⟩
    | i + 1, h =>
      obtain ⟨h0, h1, h2⟩ := ih i (by simpa using h)
      have e : (i + 1) * 3 = i * 3 + 1 + 1 + 1 := by omega
      rw [e, List.getD_cons_succ]
      simp only [List.getElem?_cons_succ]
      exact ⟨h0, h1, h2⟩
theorem colRow_of {w : World} {g : Nat} {cur : List Value} {t : TypeId} {f : Nat × Nat} {cs : List Col} (hg : w.heap[g]? = some (.cells cur.toArray t f)) (hc : cur.take (cs.length * 3) = flatC cs) (ho : ∀ c ∈ cs, inI64 c.kind ∧ c.name.size ≤ maxLen) :
    ColRow w g w.heap.size (some ⟨g, 0, none⟩) cs := by
  have hlt : g < w.heap.size := (Array.getElem?_eq_some_iff.1 hg).1
  refine ⟨ho, .inr ⟨g, 0, rfl, Nat.le_refl _, hlt, fun i hi => ?_⟩⟩
  have hget : ∀ j, j < cs.length * 3 → cur[j]? = (flatC cs)[j]? := fun j hj => by rw [← hc, List.getElem?_take_of_lt hj]
  obtain ⟨h0, h1, h2⟩ := flatC_get cs i hi
  refine ⟨?_, ?_, ?_⟩
  · rw [cell_of_row _ _ _ _ _ _ hg, List.getElem?_toArray, Nat.zero_add, hget _ (by omega), h0]
  · rw [cell_of_row _ _ _ _ _ _ hg, List.getElem?_toArray, Nat.zero_add, hget _ (by omega), h1]
  · rw [cell_of_row _ _ _ _ _ _ hg, List.getElem?_toArray, Nat.zero_add, hget _ (by omega), h2]
theorem flatC_step (cur : List Value) (cs : List Col) (k : Nat) (hk : k < cs.length) (hl : cur.length = cs.length * 3) (hc : cur.take (k * 3) = flatC (cs.take k)) (a : ByteArray) (b : Int) (t : Bool) (hv : cs.getD k noCol = ⟨a, b, t⟩) :
    (((cur.set (k * 3) (.string a)).set (k * 3 + 1) (.int .i64 b)).set (k * 3 + 2) (.bool t)).take ((k + 1) * 3) = flatC (cs.take (k + 1)) ∧ (((cur.set (k * 3) (.string a)).set (k * 3 + 1) (.int .i64 b)).set (k * 3 + 2) (.bool t)).length = cs.length * 3 := by
  obtain ⟨h1, h2⟩ := set3_take cur (k * 3) (.string a) (.int .i64 b) (.bool t) (by omega)
  have e : (k + 1) * 3 = k * 3 + 3 := by omega
  rw [List.getD_eq_getElem?_getD, List.getElem?_eq_getElem hk] at hv
  simp only [Option.getD_some] at hv
  rw [e, h1, h2, hl, hc, List.take_succ_eq_append_getElem hk, flatC_append, hv]
  exact ⟨rfl, rfl⟩
set_option maxHeartbeats 1000000 in
theorem toColumnS_any (A B : Nat) (ao : Option Addr) (cap : Nat) (cs : List Col) (w : World) (hB : B ≤ w.heap.size) (hl : cs.length ≤ 1048576) (hr : ColRow w A B ao cs) :
    Calls Tryz.prog 30 #[.slice ao cs.length cap] w fun e w' => ∃ bo cp, e = .returned (.slice bo cs.length cp) ∧ ColRow w' w.heap.size w'.heap.size bo cs ∧ Below w.heap.size w w' := by
  obtain ⟨i0, hi, hz0, hz1, hz2⟩ := info_parts Tryz.infoCol
  have HR : Hid (ColRow w A B ao cs) := hr
  clear hr
  go_enter Tryz.func30, Tryz.ntmps30
  go_wp2_with (at_make; refine wpList_make_full _ rfl _ _ 32 rfl w.heap.size 67 i0 (.agg #[.string ⟨#[]⟩, .int .i64 0, .bool false]) 3 Tryz.underlying32 hi hz0 hz1 .i64 .i64 _ _ cs.length rfl rfl rfl rfl (by rw [hz2]; omega) (by unfold maxLen; omega) (Nat.le_refl _) ?_; intro w1 hown1 hgrow1)
  obtain ⟨cur0, hg0, hl0⟩ : ∃ cur : List Value, w1.heap[w.heap.size]? = some (.cells cur.toArray 67 (0, 0)) ∧ cur.length = cs.length * 3 := by
    rcases hown1.2 with ⟨h, _⟩ | ⟨g, cap', cur, hv, _, hg, _, _, hs, _⟩
    · simp at h
    · simp at hv
      obtain ⟨rfl, rfl⟩ := hv
      exact ⟨cur.toList, by simpa using hg, by simpa using hs⟩
  have hb1 : Below w.heap.size w w1 := (Below.refl _ _).grown hgrow1 (Nat.le_refl _) (fun j hj => by simp at hj)
  clear hown1 hgrow1
  go_loopw [4] (fun i wr => ∃ (k : Nat) (cur : List Value), k ≤ cs.length ∧ i = .int .i64 k ∧ cur.length = cs.length * 3 ∧ wr.heap[w.heap.size]? = some (.cells cur.toArray 67 (0, 0)) ∧ Hid (cur.take (k * 3) = flatC (cs.take k)) ∧ Below w.heap.size w wr) (fun i _ => cs.length - (intOf i).toNat)
  case atStart => exact ⟨0, cur0, Nat.zero_le _, rfl, hl0, hg0, by show _ = _; simp [flatC], hb1⟩
  case round =>
    obtain ⟨k, cur, hk, rfl, hlen, hg, HC, hb⟩ := hrel
    clear hb1 hg0 hl0
    have hlt0 : w.heap.size < wr.heap.size := (Array.getElem?_eq_some_iff.1 hg).1
    by_cases hlt : k < cs.length
    · obtain ⟨b, off, kk, nn, tt, rfl, hbB, hv, htt, hki, d0, d1, d2⟩ := (HR.out.kept (hb.mono hB)).at k hlt
      obtain ⟨HC2, hlen2⟩ := flatC_step cur cs k hlt hlen HC.out kk nn tt hv
      have HC3 : Hid ((((cur.set (k * 3) (.string kk)).set (k * 3 + 1) (.int .i64 nn)).set (k * 3 + 2) (.bool tt)).take ((k + 1) * 3) = flatC (cs.take (k + 1))) := HC2
      clear hv HC HC2 hki
      go_wp2_with fail
      refine (toColumn_any kk nn tt _).mono ?_
      rintro e w2 ⟨rfl, hb2⟩
      have hg2 : w2.heap[w.heap.size]? = some (.cells cur.toArray 67 (0, 0)) := (hb2.block _ hlt0).trans hg
      have hb3 := hb.trans (hb2.mono hb.size)
      obtain ⟨x0, hx0⟩ : ∃ v, cur[k * 3]? = some v := ⟨_, List.getElem?_eq_getElem (by omega)⟩
      obtain ⟨x1, hx1⟩ : ∃ v, cur[k * 3 + 1]? = some v := ⟨_, List.getElem?_eq_getElem (by omega)⟩
      obtain ⟨x2, hx2⟩ : ∃ v, cur[k * 3 + 2]? = some v := ⟨_, List.getElem?_eq_getElem (by omega)⟩
      have e0 : w2.cell? ⟨w.heap.size, k * 3, none⟩ = some x0 := by rw [cell_of_row _ _ _ _ _ _ hg2, List.getElem?_toArray, hx0]
      have e1 : w2.cell? ⟨w.heap.size, k * 3 + 1, none⟩ = some x1 := by rw [cell_of_row _ _ _ _ _ _ hg2, List.getElem?_toArray, hx1]
      have e2 : w2.cell? ⟨w.heap.size, k * 3 + 2, none⟩ = some x2 := by rw [cell_of_row _ _ _ _ _ _ hg2, List.getElem?_toArray, hx2]
      have ef : ∀ j, w2.frozen? ⟨w.heap.size, j, none⟩ = false := fun j => frozen_of_row _ _ _ _ _ hg2
      have HG : Hid (w2.heap[w.heap.size]? = some (.cells cur.toArray 67 (0, 0))) := hg2
      clear hx0 hx1 hx2 hg2 hg d0 d1 d2 hb hb2
      go_wp2
      go_roundw
      case rel => exact ⟨k + 1, _, by omega, by go_num, hlen2, set3_heap HG.out, HC3, ((hb3.setCell (Nat.le_refl _) _).setCell (Nat.le_refl _) _).setCell (Nat.le_refl _) _⟩
      case measure => simp [intOf]; omega
    · obtain rfl : k = cs.length := by omega
      have HF : Hid (ColRow wr w.heap.size wr.heap.size (some ⟨w.heap.size, 0, none⟩) cs) := colRow_of hg (by rw [HC.out, List.take_length]) HR.out.1
      go_wp2
      go_ret
      exact ⟨_, _, rfl, HF.out, hb⟩
set_option maxHeartbeats 1000000 in
theorem toIndex_any (A B : Nat) (io : Option Addr) (cap : Nat) (l : List Int) (u : Bool) (w : World) (hB : B ≤ w.heap.size) (hl : l.length ≤ 1048576) (hr : IntRow w A B io l) :
    Calls Tryz.prog 46 #[.agg #[.slice io l.length cap, .bool u]] w fun e w' => ∃ bo cp, e = .returned (.agg #[.slice bo l.length cp, .bool u]) ∧ (l.length ≤ cp ∧ cp ≤ maxLen) ∧ IntRow w' w.heap.size w'.heap.size bo l ∧ Below w.heap.size w w' := by
  have HR : Hid (IntRow w A B io l) := hr
  clear hr
  have hB0 : Below w.heap.size w (((w.alloc (.cells #[.slice io l.length cap, .bool u] 90)).alloc (.cells #[.slice none 0 0, .bool false] 69)).alloc (.cells #[.slice none 0 0, .bool false] 69)) := (((Below.refl _ _).alloc (Nat.le_refl _) _).alloc (by simp) _).alloc (by simp; omega) _
  go_enter Tryz.func46, Tryz.ntmps46
  go_wp2_with fail
  refine (toInt64S_any A w.heap.size io cap l _ hB0.size hl ((HR.out.mono (Nat.le_refl _) hB).kept hB0)).mono ?_
  rintro e w2 ⟨bo, cp, rfl, hcp, hr2, hb2⟩
  obtain ⟨hc, hf⟩ := bcell hb2
  have hsz := hb2.size
  simp at hsz
  have HR2 : Hid (IntRow w2 (w.heap.size + 3) w2.heap.size bo l) := hr2.mono (by simp) (Nat.le_refl _)
  clear hr2 hB0
  go_wp2
  refine bodyPost_ret (v := .agg #[.slice bo l.length cp, .bool u]) (by simp [results, Tryz.results46, go_sem, hc]) rfl ⟨bo, cp, rfl, hcp, ?_, ?_⟩
  · exact ((((HR2.out.other _ _ _ (by omega)).other _ _ _ (by omega)).other _ _ _ (by omega)).other _ _ _ (by omega)).mono (by omega) (by simp)
  · exact ((((((((Below.refl _ _).alloc (Nat.le_refl _) _).alloc (by simp) _).alloc (by simp; omega) _).trans (hb2.mono (by simp; omega))).setCell (by simp; omega) _).setCell (by simp; omega) _).setCell (by simp) _).setCell (by simp) _
end Go.Proofs.YtkhklfnhninkjaaGreat
