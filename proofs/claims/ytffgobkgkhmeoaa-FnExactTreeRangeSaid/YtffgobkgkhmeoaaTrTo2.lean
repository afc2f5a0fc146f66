/-
  Contracts: trees copied into memory of their own, which can be written.
-/
import Derived.Test.YtffgobkgkhmeoaaTrTo
namespace Go.Proofs.Ytffgobkgkhmeoaa
open Go.RowKit
set_option maxRecDepth 100000

/-- Texts that lie one behind the other, in a block that can be written. -/
def UStr (w : World) (A B : Nat) (ao : Option Addr) (l : List ByteArray) : Prop :=
  (∀ s ∈ l, s.size ≤ maxLen) ∧ (l.length = 0 ∨ ∃ b off, ao = some ⟨b, off, none⟩ ∧ A ≤ b ∧ b < B ∧ (∀ o, w.frozen? ⟨b, o, none⟩ = false) ∧ ∀ i, i < l.length → w.cell? ⟨b, off + i, none⟩ = some (.string (l.getD i ByteArray.empty)))
theorem UStr.plain {w : World} {A B : Nat} {ao : Option Addr} {l : List ByteArray} (h : UStr w A B ao l) : StrRow w A B ao l := by
  refine ⟨h.1, ?_⟩
  rcases h.2 with h0 | ⟨b, off, e, hA, hB, _, hc⟩
  · exact .inl h0
  · exact .inr ⟨b, off, e, hA, hB, hc⟩
theorem UStr.kept {w w' : World} {A B : Nat} {ao : Option Addr} {l : List ByteArray} (h : UStr w A B ao l) (hb : Below B w w') : UStr w' A B ao l := by
  refine ⟨h.1, ?_⟩
  rcases h.2 with h0 | ⟨b, off, e, hA, hB, hf, hc⟩
  · exact .inl h0
  · exact .inr ⟨b, off, e, hA, hB, fun o => (hb.frozen (p := ⟨b, o, none⟩) hB).trans (hf o), fun i hi => (hb.cell (p := ⟨b, _, none⟩) hB).trans (hc i hi)⟩
theorem UStr.mono {w : World} {A B A' C : Nat} {ao : Option Addr} {l : List ByteArray} (h : UStr w A B ao l) (ha : A' ≤ A) (hc : B ≤ C) : UStr w A' C ao l := by
  refine ⟨h.1, ?_⟩
  rcases h.2 with h0 | ⟨b, off, e, hA, hB, hf, hc'⟩
  · exact .inl h0
  · exact .inr ⟨b, off, e, by omega, by omega, hf, hc'⟩
theorem UStr.other {w : World} {A B : Nat} {ao : Option Addr} {l : List ByteArray} (h : UStr w A B ao l) (g m : Nat) (v : Value) (hg : g < A) : UStr (w.setCell ⟨g, m, none⟩ v) A B ao l := by
  refine ⟨h.1, ?_⟩
  rcases h.2 with h0 | ⟨b, off, e, hA, hB, hf, hc⟩
  · exact .inl h0
  · refine .inr ⟨b, off, e, hA, hB, fun o => (World.frozen?_setCell ..).trans (hf o), fun i hi => ?_⟩
    exact (World.cell?_setCell_other w ⟨g, m, none⟩ ⟨b, off + i, none⟩ v (fun e' => by have : g = b := congrArg Addr.block e'; omega)).trans (hc i hi)
theorem uStr_of {w : World} {g : Nat} {cur : List Value} {t : TypeId} {l : List ByteArray} (hg : w.heap[g]? = some (.cells cur.toArray t (0, 0))) (hc : cur.take l.length = strsV l) (ho : ∀ x ∈ l, x.size ≤ maxLen) :
    UStr w g w.heap.size (some ⟨g, 0, none⟩) l := by
  have hlt : g < w.heap.size := (Array.getElem?_eq_some_iff.1 hg).1
  refine ⟨ho, .inr ⟨g, 0, rfl, Nat.le_refl _, hlt, fun o => frozen_of_row _ _ _ _ _ hg, fun i hi => ?_⟩⟩
  rw [cell_of_row _ _ _ _ _ _ hg, List.getElem?_toArray, Nat.zero_add]
  have : (cur.take l.length)[i]? = cur[i]? := List.getElem?_take_of_lt hi
  rw [← this, hc, strsV, List.getElem?_map, List.getD_eq_getElem?_getD, List.getElem?_eq_getElem hi]; rfl
/-- A tree of at most n levels, whose texts can be written. -/
def URow (w : World) (A B : Nat) : Nat → Tr → Option Addr → Option Addr → Option Addr → Prop
  | 0, _, _, _, _ => False
  | n + 1, t, ko, vo, xo => (t.keys.length ≤ maxLen ∧ t.vals.length ≤ maxLen ∧ t.kids.length ≤ maxLen) ∧ UStr w A B ko t.keys ∧ UStr w A B vo t.vals ∧ KidRow w A B (URow w A B n) xo t.kids
theorem URow.plain {w : World} {A B : Nat} : ∀ (n : Nat) (t : Tr) (ko vo xo : Option Addr), URow w A B n t ko vo xo → TrRow w A B n t ko vo xo
  | 0, _, _, _, _, h => h.elim
  | n + 1, _, _, _, _, ⟨hl, hk, hv, hx⟩ => ⟨hl, hk.plain, hv.plain, hx.mono (Nat.le_refl _) (Nat.le_refl _) (URow.plain n)⟩
theorem URow.kept {w w' : World} {A B : Nat} (hb : Below B w w') : ∀ (n : Nat) (t : Tr) (ko vo xo : Option Addr), URow w A B n t ko vo xo → URow w' A B n t ko vo xo
  | 0, _, _, _, _, h => h.elim
  | n + 1, _, _, _, _, ⟨hl, hk, hv, hx⟩ => ⟨hl, hk.kept hb, hv.kept hb, hx.kept hb (URow.kept hb n)⟩
theorem URow.mono {w : World} {A B A' C : Nat} (ha : A' ≤ A) (hc : B ≤ C) : ∀ (n : Nat) (t : Tr) (ko vo xo : Option Addr), URow w A B n t ko vo xo → URow w A' C n t ko vo xo
  | 0, _, _, _, _, h => h.elim
  | n + 1, _, _, _, _, ⟨hl, hk, hv, hx⟩ => ⟨hl, hk.mono ha hc, hv.mono ha hc, hx.mono ha hc (URow.mono ha hc n)⟩
theorem URow.other {w : World} {A B : Nat} (g m : Nat) (v : Value) (hg : g < A) : ∀ (n : Nat) (t : Tr) (ko vo xo : Option Addr), URow w A B n t ko vo xo → URow (w.setCell ⟨g, m, none⟩ v) A B n t ko vo xo
  | 0, _, _, _, _, h => h.elim
  | n + 1, _, _, _, _, ⟨hl, hk, hv, hx⟩ => ⟨hl, hk.other g m v hg, hv.other g m v hg, hx.other g m v hg (URow.other g m v hg n)⟩
set_option maxHeartbeats 1000000 in
theorem toStringS_own (A B : Nat) (ao : Option Addr) (cap : Nat) (l : List ByteArray) (w : World) (hB : B ≤ w.heap.size) (hl : l.length ≤ 1048576) (hr : StrRow w A B ao l) :
    Calls Try.prog 26 #[.slice ao l.length cap] w fun e w' => ∃ bo cp, e = .returned (.slice bo l.length cp) ∧ UStr w' w.heap.size w'.heap.size bo l ∧ Below w.heap.size w w' := by
  obtain ⟨i0, hi, hz0, hz1, hz2⟩ := info_parts Try.infoStr
  have HR := hide hr
  clear hr
  go_enter Try.func26, Try.ntmps26
  go_wp2_with (at_make; refine wpList_make_full _ rfl _ _ 22 rfl w.heap.size 9 i0 (.string ⟨#[]⟩) 1 Try.underlying22 hi hz0 hz1 .i64 .i64 _ _ l.length rfl rfl rfl rfl (by rw [hz2]; omega) (by unfold maxLen; omega) (Nat.le_refl _) ?_; intro w1 hown1 hgrow1)
  obtain ⟨cur0, hg0, hl0⟩ : ∃ cur : List Value, w1.heap[w.heap.size]? = some (.cells cur.toArray 9 (0, 0)) ∧ cur.length = l.length := by
    rcases hown1.2 with ⟨h, _⟩ | ⟨g, cap', cur, hv, _, hg, _, _, hs, _⟩
    · simp at h
    · simp at hv
      obtain ⟨rfl, rfl⟩ := hv
      exact ⟨cur.toList, by simpa using hg, by simpa using hs⟩
  have hb1 : Below w.heap.size w w1 := (Below.refl _ _).grown hgrow1 (Nat.le_refl _) (fun j hj => by simp at hj)
  clear hown1 hgrow1
  go_loopw [4] (fun i wr => ∃ (k : Nat) (cur : List Value), k ≤ l.length ∧ i = .int .i64 k ∧ cur.length = l.length ∧ wr.heap[w.heap.size]? = some (.cells cur.toArray 9 (0, 0)) ∧ Hid (cur.take k = strsV (l.take k)) ∧ Below w.heap.size w wr) (fun i _ => l.length - (intOf i).toNat)
  case atStart => exact ⟨0, cur0, Nat.zero_le _, rfl, hl0, hg0, by show _ = _; simp [strsV], hb1⟩
  case round =>
    obtain ⟨k, cur, hk, rfl, hlen, hg, HC, hb⟩ := hrel
    clear hb1 hg0 hl0
    have hlt0 : w.heap.size < wr.heap.size := (Array.getElem?_eq_some_iff.1 hg).1
    by_cases hlt : k < l.length
    · obtain ⟨b, off, x, rfl, hbB, hv, hx, d0⟩ := (HR.out.kept (hb.mono hB)).at k hlt
      obtain ⟨HC2, hlen2⟩ := strs_step cur l k hlt hlen HC.out x hv
      have HC3 : Hid ((cur.set k (.string x)).take (k + 1) = strsV (l.take (k + 1))) := HC2
      clear hv HC HC2
      obtain ⟨x0, hx0⟩ : ∃ v, cur[k]? = some v := ⟨_, List.getElem?_eq_getElem (by omega)⟩
      have e0 : wr.cell? ⟨w.heap.size, k, none⟩ = some x0 := by rw [cell_of_row _ _ _ _ _ _ hg, List.getElem?_toArray, hx0]
      have ef : ∀ j, wr.frozen? ⟨w.heap.size, j, none⟩ = false := fun j => frozen_of_row _ _ _ _ _ hg
      have HG : Hid (wr.heap[w.heap.size]? = some (.cells cur.toArray 9 (0, 0))) := hg
      clear hx0 hg
      go_wp2
      go_roundw
      case rel => exact ⟨k + 1, _, by omega, by go_num, hlen2, (by rw [heap_setCell_same _ _ _ _ _ _ HG.out]; simp), HC3, hb.setCell (Nat.le_refl _) _⟩
      case measure => simp [intOf]; omega
    · obtain rfl : k = l.length := by omega
      have HF := hide (uStr_of hg (by rw [HC.out, List.take_length]) HR.out.1)
      go_wp2
      go_ret
      exact ⟨_, _, rfl, HF.out, hb⟩
/-- The first k kids stand in a block's cells, what they have in blocks behind it. -/
def UCur (w : World) (g n : Nat) (cur : List Value) (cs : List Tr) (k : Nat) : Prop :=
  ∀ i, i < k → ∃ ko kc vo vc yo yc, cur[i * 3]? = some (.slice ko (cs.getD i noTr).keys.length kc) ∧ cur[i * 3 + 1]? = some (.slice vo (cs.getD i noTr).vals.length vc) ∧ cur[i * 3 + 2]? = some (.slice yo (cs.getD i noTr).kids.length yc) ∧ URow w (g + 1) w.heap.size n (cs.getD i noTr) ko vo yo
theorem uCur_step {w w' : World} {g n : Nat} {cur : List Value} {cs : List Tr} {k : Nat} (h : UCur w g n cur cs k) (hb : Below w.heap.size w w') (hl : k * 3 + 3 ≤ cur.length) {ko vo yo : Option Addr} {kc vc yc : Nat} {ks vs : List ByteArray} {ds : List Tr} (hx : cs.getD k noTr = .node ks vs ds)
    (hr : URow w' (g + 1) w'.heap.size n (.node ks vs ds) ko vo yo) : UCur (((w'.setCell ⟨g, k * 3, none⟩ (.slice ko ks.length kc)).setCell ⟨g, k * 3 + 1, none⟩ (.slice vo vs.length vc)).setCell ⟨g, k * 3 + 2, none⟩ (.slice yo ds.length yc)) g n (((cur.set (k * 3) (.slice ko ks.length kc)).set (k * 3 + 1) (.slice vo vs.length vc)).set (k * 3 + 2) (.slice yo ds.length yc)) cs (k + 1) := by
  intro i hi
  by_cases he : i = k
  · subst he
    refine ⟨ko, kc, vo, vc, yo, yc, ?_, ?_, ?_, ?_⟩
    · rw [hx, List.getElem?_set_ne (by omega), List.getElem?_set_ne (by omega), List.getElem?_set_self (by omega)]; rfl
    · rw [hx, List.getElem?_set_ne (by omega), List.getElem?_set_self (by simp; omega)]; rfl
    · rw [hx, List.getElem?_set_self (by simp; omega)]; rfl
    · rw [hx]; exact URow.mono (Nat.le_refl _) (by simp) n _ _ _ _ (URow.other _ _ _ (by omega) n _ _ _ _ (URow.other _ _ _ (by omega) n _ _ _ _ (URow.other _ _ _ (by omega) n _ _ _ _ hr)))
  · obtain ⟨ko', kc', vo', vc', yo', yc', c0, c1, c2, hr0⟩ := h i (by omega)
    refine ⟨ko', kc', vo', vc', yo', yc', ?_, ?_, ?_, ?_⟩
    · rw [List.getElem?_set_ne (by omega), List.getElem?_set_ne (by omega), List.getElem?_set_ne (by omega)]; exact c0
    · rw [List.getElem?_set_ne (by omega), List.getElem?_set_ne (by omega), List.getElem?_set_ne (by omega)]; exact c1
    · rw [List.getElem?_set_ne (by omega), List.getElem?_set_ne (by omega), List.getElem?_set_ne (by omega)]; exact c2
    · exact URow.mono (Nat.le_refl _) (by simpa using hb.size) n _ _ _ _ (URow.other _ _ _ (by omega) n _ _ _ _ (URow.other _ _ _ (by omega) n _ _ _ _ (URow.other _ _ _ (by omega) n _ _ _ _ (URow.kept hb n _ _ _ _ hr0))))
theorem uKid_of {w : World} {g n : Nat} {cur : List Value} {t : TypeId} {f : Nat × Nat} {cs : List Tr} (hg : w.heap[g]? = some (.cells cur.toArray t f)) (hc : UCur w g n cur cs cs.length) : KidRow w g w.heap.size (URow w g w.heap.size n) (some ⟨g, 0, none⟩) cs := by
  have hlt : g < w.heap.size := (Array.getElem?_eq_some_iff.1 hg).1
  refine .inr ⟨g, 0, rfl, Nat.le_refl _, hlt, fun i hi => ?_⟩
  obtain ⟨ko, kc, vo, vc, yo, yc, c0, c1, c2, hr⟩ := hc i hi
  refine ⟨ko, kc, vo, vc, yo, yc, ?_, ?_, ?_, URow.mono (by omega) (Nat.le_refl _) n _ _ _ _ hr⟩
  · rw [cell_of_row _ _ _ _ _ _ hg, List.getElem?_toArray, Nat.zero_add, c0]
  · rw [cell_of_row _ _ _ _ _ _ hg, List.getElem?_toArray, Nat.zero_add, c1]
  · rw [cell_of_row _ _ _ _ _ _ hg, List.getElem?_toArray, Nat.zero_add, c2]
def toU (n : Nat) : Prop := ∀ (A B : Nat) (ko : Option Addr) (kc : Nat) (vo : Option Addr) (vc : Nat) (xo : Option Addr) (xc : Nat) (t : Tr) (w : World), B ≤ w.heap.size → trFits n t → TrRow w A B n t ko vo xo →
    Calls Try.prog 9 #[.agg #[.slice ko t.keys.length kc, .slice vo t.vals.length vc, .slice xo t.kids.length xc]] w fun e w' => ∃ ko' kc' vo' vc' xo' xc', e = .returned (.agg #[.slice ko' t.keys.length kc', .slice vo' t.vals.length vc', .slice xo' t.kids.length xc']) ∧ URow w' w.heap.size w'.heap.size n t ko' vo' xo' ∧ Below w.heap.size w w'
set_option maxHeartbeats 2000000 in
theorem toTreeS_own {n : Nat} (ih : toU n) (A B : Nat) (xo : Option Addr) (cap : Nat) (cs : List Tr) (w : World) (hB : B ≤ w.heap.size) (hl : cs.length ≤ 1048576) (hf : ∀ i, i < cs.length → trFits n (cs.getD i noTr)) (hr : KidRow w A B (TrRow w A B n) xo cs) :
    Calls Try.prog 27 #[.slice xo cs.length cap] w fun e w' => ∃ bo cp, e = .returned (.slice bo cs.length cp) ∧ KidRow w' w.heap.size w'.heap.size (URow w' w.heap.size w'.heap.size n) bo cs ∧ Below w.heap.size w w' := by
  obtain ⟨i0, hi, hz0, hz1, hz2⟩ := info_parts Try.infoTree
  have HR := hide hr
  have IH := hide ih
  have HF := hide hf
  clear hr ih hf
  go_enter Try.func27, Try.ntmps27
  go_wp2_with (at_make; refine wpList_make_full _ rfl _ _ 28 rfl w.heap.size 30 i0 (.agg #[.slice none 0 0, .slice none 0 0, .slice none 0 0]) 3 Try.underlying28 hi hz0 hz1 .i64 .i64 _ _ cs.length rfl rfl rfl rfl (by rw [hz2]; omega) (by unfold maxLen; omega) (Nat.le_refl _) ?_; intro w1 hown1 hgrow1)
  obtain ⟨cur0, hg0, hl0⟩ : ∃ cur : List Value, w1.heap[w.heap.size]? = some (.cells cur.toArray 30 (0, 0)) ∧ cur.length = cs.length * 3 := by
    rcases hown1.2 with ⟨h, _⟩ | ⟨g, cap', cur, hv, _, hg, _, _, hs, _⟩
    · simp at h
    · simp at hv
      obtain ⟨rfl, rfl⟩ := hv
      exact ⟨cur.toList, by simpa using hg, by simpa using hs⟩
  have hb1 : Below w.heap.size w w1 := (Below.refl _ _).grown hgrow1 (Nat.le_refl _) (fun j hj => by simp at hj)
  clear hown1 hgrow1
  go_loopw [4] (fun i wr => ∃ (k : Nat) (cur : List Value), k ≤ cs.length ∧ i = .int .i64 k ∧ cur.length = cs.length * 3 ∧ wr.heap[w.heap.size]? = some (.cells cur.toArray 30 (0, 0)) ∧ Hid (UCur wr w.heap.size n cur cs k) ∧ Below w.heap.size w wr) (fun i _ => cs.length - (intOf i).toNat)
  case atStart => exact ⟨0, cur0, Nat.zero_le _, rfl, hl0, hg0, fun i hi => absurd hi (Nat.not_lt_zero _), hb1⟩
  case round =>
    obtain ⟨k, cur, hk, rfl, hlen, hg, HC, hb⟩ := hrel
    clear hb1 hg0 hl0
    have hlt0 : w.heap.size < wr.heap.size := (Array.getElem?_eq_some_iff.1 hg).1
    by_cases hlt : k < cs.length
    · have hfk := HF.out k hlt
      obtain ⟨b, off, ko, kc, vo, vc, yo, yc, ks, vs, ds, rfl, hbB, hv, hp, d0, d1, d2⟩ := (HR.out.kept (hb.mono hB) (TrRow.kept (hb.mono hB) n)).at k hlt
      rw [hv] at hfk
      have HCA := hide (IH.out A B ko kc vo vc yo yc (.node ks vs ds) wr (Nat.le_trans hB hb.size) hfk hp)
      have HV := hide hv
      simp only [Tr.keys, Tr.vals, Tr.kids] at HCA
      clear hv hp hfk
      go_wp2_with fail
      refine HCA.out.mono ?_
      rintro e w2 ⟨ko', kc', vo', vc', xo', xc', rfl, hr2, hb2⟩
      have hg2 : w2.heap[w.heap.size]? = some (.cells cur.toArray 30 (0, 0)) := (hb2.block _ hlt0).trans hg
      have hb3 := hb.trans (hb2.mono hb.size)
      have HC3 := hide (uCur_step (kc := kc') (vc := vc') (yc := xc') HC.out hb2 (by omega) HV.out (URow.mono (by omega) (Nat.le_refl _) n _ _ _ _ hr2))
      obtain ⟨x0, hx0⟩ : ∃ v, cur[k * 3]? = some v := ⟨_, List.getElem?_eq_getElem (by omega)⟩
      obtain ⟨x1, hx1⟩ : ∃ v, cur[k * 3 + 1]? = some v := ⟨_, List.getElem?_eq_getElem (by omega)⟩
      obtain ⟨x2, hx2⟩ : ∃ v, cur[k * 3 + 2]? = some v := ⟨_, List.getElem?_eq_getElem (by omega)⟩
      have e0 : w2.cell? ⟨w.heap.size, k * 3, none⟩ = some x0 := by rw [cell_of_row _ _ _ _ _ _ hg2, List.getElem?_toArray, hx0]
      have e1 : w2.cell? ⟨w.heap.size, k * 3 + 1, none⟩ = some x1 := by rw [cell_of_row _ _ _ _ _ _ hg2, List.getElem?_toArray, hx1]
      have e2 : w2.cell? ⟨w.heap.size, k * 3 + 2, none⟩ = some x2 := by rw [cell_of_row _ _ _ _ _ _ hg2, List.getElem?_toArray, hx2]
      have ef : ∀ j, w2.frozen? ⟨w.heap.size, j, none⟩ = false := fun j => frozen_of_row _ _ _ _ _ hg2
      have HG := hide hg2
      clear hx0 hx1 hx2 hg2 hg d0 d1 d2 hb hb2 hr2 HC HV HCA
      go_wp2
      go_roundw
      case rel => exact ⟨k + 1, _, by omega, by go_num, by simpa using hlen, setL_heap (setL_heap (setL_heap HG.out)), HC3, ((hb3.setCell (Nat.le_refl _) _).setCell (Nat.le_refl _) _).setCell (Nat.le_refl _) _⟩
      case measure => simp [intOf]; omega
    · obtain rfl : k = cs.length := by omega
      have HK := hide (uKid_of hg HC.out)
      go_wp2
      go_ret
      exact ⟨_, _, rfl, HK.out, hb⟩
set_option maxHeartbeats 2000000 in
theorem toTree_own : ∀ n, toU n
  | 0 => fun A B ko kc vo vc xo xc t w hB hf hr => hr.elim
  | n + 1 => fun A B ko kc vo vc xo xc t w hB hf hr => by
    have hIH := toTree_own n
    obtain ⟨ks, vs, cs⟩ := t
    obtain ⟨hlen, hk, hv, hx⟩ := hr
    obtain ⟨⟨hf1, hf2, hf3⟩, hf4⟩ := hf
    simp only [Tr.keys, Tr.vals, Tr.kids] at *
    have C1 := hide (fun (W : World) (hW : Below w.heap.size w W) => toStringS_own A B ko kc ks W (Nat.le_trans hB hW.size) hf1 (hk.kept (hW.mono hB)))
    have C2 := hide (fun (W : World) (hW : Below w.heap.size w W) => toStringS_own A B vo vc vs W (Nat.le_trans hB hW.size) hf2 (hv.kept (hW.mono hB)))
    have C3 := hide (fun (W : World) (hW : Below w.heap.size w W) => toTreeS_own hIH A B xo xc cs W (Nat.le_trans hB hW.size) hf3 hf4 (hx.kept (hW.mono hB) (TrRow.kept (hW.mono hB) n)))
    have HLN := hide hlen
    have HA := hide (alloc3 w (.cells #[.slice ko ks.length kc, .slice vo vs.length vc, .slice xo cs.length xc] 25) (.cells #[.slice none 0 0, .slice none 0 0, .slice none 0 0] 30) (.cells #[.slice none 0 0, .slice none 0 0, .slice none 0 0] 30))
    have B0 := hide ((((Below.refl w.heap.size w).alloc (Nat.le_refl _) (.cells #[.slice ko ks.length kc, .slice vo vs.length vc, .slice xo cs.length xc] 25)).alloc (by simp) (.cells #[.slice none 0 0, .slice none 0 0, .slice none 0 0] 30)).alloc (by simp; omega) (.cells #[.slice none 0 0, .slice none 0 0, .slice none 0 0] 30))
    have HZ : Hid ((((w.alloc (.cells #[.slice ko ks.length kc, .slice vo vs.length vc, .slice xo cs.length xc] 25)).alloc (.cells #[.slice none 0 0, .slice none 0 0, .slice none 0 0] 30)).alloc (.cells #[.slice none 0 0, .slice none 0 0, .slice none 0 0] 30)).heap.size = w.heap.size + 3) := by show _ = _; simp
    clear hk hv hx hIH hlen hf1 hf2 hf3 hf4
    go_enter Try.func9, Try.ntmps9
    go_wp2_with fail
    refine (C1.out _ B0.out).mono ?_
    generalize ((w.alloc (.cells #[.slice ko ks.length kc, .slice vo vs.length vc, .slice xo cs.length xc] 25)).alloc (.cells #[.slice none 0 0, .slice none 0 0, .slice none 0 0] 30)).alloc (.cells #[.slice none 0 0, .slice none 0 0, .slice none 0 0] 30) = W0 at *
    rintro e w1 ⟨k1, q1, rfl, r1, b1⟩
    have z1 : w.heap.size + 3 ≤ w1.heap.size := by have := b1.size; rw [HZ.out] at this; exact this
    have X1 := hide ((b1.block w.heap.size (by rw [HZ.out]; omega)).trans HA.out.1)
    have Y1 := hide ((b1.block (w.heap.size + 1) (by rw [HZ.out]; omega)).trans HA.out.2.1)
    have L1 := hide ((b1.block (w.heap.size + 1 + 1) (by rw [HZ.out]; omega)).trans HA.out.2.2)
    have R1 : Hid (UStr w1 (w.heap.size + 3) w1.heap.size k1 ks) := r1.mono (by rw [HZ.out]; omega) (Nat.le_refl _)
    have B1 := hide ((B0.out.trans (b1.mono B0.out.size)).setCell (p := ⟨w.heap.size + 1 + 1, 0, none⟩) (by simp; omega) (.slice k1 ks.length q1))
    obtain ⟨x0, x1, x2, xf⟩ := cells3 X1.out
    obtain ⟨l0, l1, l2, lf⟩ := cells3 L1.out
    clear r1 b1 HA B0 HZ C1
    go_wp2_with fail
    refine (C2.out _ B1.out).mono ?_
    rintro e w2 ⟨k2, q2, rfl, r2, b2⟩
    have hs2 : (w1.setCell ⟨w.heap.size + 1 + 1, 0, none⟩ (.slice k1 ks.length q1)).heap.size = w1.heap.size := by simp
    have z2 : w1.heap.size ≤ w2.heap.size := by have := b2.size; rw [hs2] at this; exact this
    have X2 := hide (((b2.block w.heap.size (by rw [hs2]; omega)).trans (heap_far _ _ _ _ _ (by omega))).trans X1.out)
    have Y2 := hide (((b2.block (w.heap.size + 1) (by rw [hs2]; omega)).trans (heap_far _ _ _ _ _ (by omega))).trans Y1.out)
    have L2 : Hid (w2.heap[w.heap.size + 1 + 1]? = some (.cells #[.slice k1 ks.length q1, .slice none 0 0, .slice none 0 0] 30 (0, 0))) := (b2.block _ (by rw [hs2]; omega)).trans (by simpa using heap_setCell_same _ _ 0 _ _ (.slice k1 ks.length q1) L1.out)
    have R2 : Hid (UStr w2 (w.heap.size + 3) w2.heap.size k2 vs) := r2.mono (by rw [hs2]; omega) (Nat.le_refl _)
    have R12 : Hid (UStr w2 (w.heap.size + 3) w2.heap.size k1 ks) := (((R1.out.other _ _ _ (by omega)).mono (Nat.le_refl _) (by rw [hs2]; omega)).kept b2).mono (Nat.le_refl _) b2.size
    have B2 := hide ((B1.out.trans (b2.mono B1.out.size)).setCell (p := ⟨w.heap.size + 1 + 1, 1, none⟩) (by simp; omega) (.slice k2 vs.length q2))
    clear x0 x1 x2 xf l0 l1 l2 lf
    obtain ⟨x0, x1, x2, xf⟩ := cells3 X2.out
    obtain ⟨l0, l1, l2, lf⟩ := cells3 L2.out
    clear r2 b2 hs2 X1 Y1 L1 R1 B1 C2
    go_wp2_with fail
    refine (C3.out _ B2.out).mono ?_
    rintro e w3 ⟨k3, q3, rfl, r3, b3⟩
    have hs3 : (w2.setCell ⟨w.heap.size + 1 + 1, 1, none⟩ (.slice k2 vs.length q2)).heap.size = w2.heap.size := by simp
    have z3 : w2.heap.size ≤ w3.heap.size := by have := b3.size; rw [hs3] at this; exact this
    have Y3 := hide (((b3.block (w.heap.size + 1) (by rw [hs3]; omega)).trans (heap_far _ _ _ _ _ (by omega))).trans Y2.out)
    have L3 : Hid (w3.heap[w.heap.size + 1 + 1]? = some (.cells #[.slice k1 ks.length q1, .slice k2 vs.length q2, .slice none 0 0] 30 (0, 0))) := (b3.block _ (by rw [hs3]; omega)).trans (by simpa using heap_setCell_same _ _ 1 _ _ (.slice k2 vs.length q2) L2.out)
    have R3 : Hid (KidRow w3 (w.heap.size + 3) w3.heap.size (URow w3 (w.heap.size + 3) w3.heap.size n) k3 cs) := r3.mono (by rw [hs3]; omega) (Nat.le_refl _) (URow.mono (by rw [hs3]; omega) (Nat.le_refl _) n)
    have R13 : Hid (UStr w3 (w.heap.size + 3) w3.heap.size k1 ks) := (((R12.out.other _ _ _ (by omega)).mono (Nat.le_refl _) (by rw [hs3]; omega)).kept b3).mono (Nat.le_refl _) b3.size
    have R23 : Hid (UStr w3 (w.heap.size + 3) w3.heap.size k2 vs) := (((R2.out.other _ _ _ (by omega)).mono (Nat.le_refl _) (by rw [hs3]; omega)).kept b3).mono (Nat.le_refl _) b3.size
    have HT : Hid (URow w3 (w.heap.size + 3) w3.heap.size (n + 1) (.node ks vs cs) k1 k2 k3) := ⟨HLN.out, R13.out, R23.out, R3.out⟩
    have B3 := hide (B2.out.trans (b3.mono B2.out.size))
    clear x0 x1 x2 xf l0 l1 l2 lf
    obtain ⟨y0, y1, y2, yf⟩ := cells3 Y3.out
    obtain ⟨l0, l1, l2, lf⟩ := cells3 L3.out
    have HRS := hide Try.results9
    clear r3 b3 hs3 X2 Y2 L2 R2 R12 B2 C3 R13 R23 R3 HLN
    go_wp2
    refine bodyPost_ret (v := .agg #[.slice k1 ks.length q1, .slice k2 vs.length q2, .slice k3 cs.length q3]) (resTr Try.results9 _ _ (w.heap.size + 1) _ _ _ rfl (set3 ((heap_far _ _ _ _ _ (by omega)).trans Y3.out))) rfl ⟨k1, q1, k2, q2, k3, q3, rfl, ?_, ?_⟩
    · exact URow.mono (by omega) (by simp) _ _ _ _ _ (URow.other _ _ _ (by omega) _ _ _ _ _ (URow.other _ _ _ (by omega) _ _ _ _ _ (URow.other _ _ _ (by omega) _ _ _ _ _ (URow.other _ _ _ (by omega) _ _ _ _ _ HT.out))))
    · exact (((B3.out.setCell (by simp; omega) _).setCell (by simp) _).setCell (by simp) _).setCell (by simp) _
end Go.Proofs.Ytffgobkgkhmeoaa
