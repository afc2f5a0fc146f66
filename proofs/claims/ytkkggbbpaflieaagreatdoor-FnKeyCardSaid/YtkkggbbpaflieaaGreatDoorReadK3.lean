/-
  Contracts: KeyRead of the program.
-/
import Derived.Test.YtkkggbbpaflieaaGreatDoorReadK2
import Derived.Test.YtkkggbbpaflieaaGreatDoorFlatV
import Derived.Test.YtkkggbbpaflieaaGreatDoorInfoV
import Derived.Test.YtkkggbbpaflieaaGreatDoorLong
namespace Go.Proofs.YtkkggbbpaflieaaGreatDoor
open Go.RowKit

/-- What KeyRead answers. -/
def keyRd (s : ByteArray) : List Val × Nat :=
  if 20000 < s.size then ([], 2) else match readN 12 s.data.toList with | none => ([], 3) | some vs => (vs, 0)
/-- Values that the call has made, in a row of its own. -/
def OwnV (base : Nat) (v : Value) (vs : List Val) (w : World) : Prop := w.ownsRow base 40 3 v vs.length (flatV vs)
theorem ownV_of {base : Nat} {v : Value} {vs : List Val} {w : World} {n : Nat} {xs : List Value} (h : w.ownsRow base 40 3 v n xs) (hn : n = vs.length) (hx : xs = flatV vs) : OwnV base v vs w := by subst hn hx; exact h
theorem resVals {fn : Func} {p : Tmp} (h : fn.results = #[.cell p 31]) (tmps : Array Value) (w : World) (g : Nat) (x y : Value) (hp : tmps.getD p undef = .pointer (some ⟨g, 0, none⟩))
    (hg : w.heap[g]? = some (.cells #[x, y] 31 (0, 0))) : (results fn tmps).run Tryz.prog w = .ok (.agg #[x, y]) w :=
  results_cell_row h tmps w g 31 #[x, y] (0, 0) _ hp hg Tryz.underlying31 rfl (by kernel_rfl)
theorem readN_nil (n : Nat) : readN n [] = some [] := by cases n <;> rfl
theorem readN_step (n : Nat) (l : List UInt8) (hl : l ≠ []) : readN (n + 1) l = match readV l with | none => none | some (v, r) => (readN n r).map fun vs => v :: vs := by
  cases l with
  | nil => exact absurd rfl hl
  | cons b t => rfl
theorem readN_zero (l : List UInt8) (hl : l ≠ []) : readN 0 l = none := by
  cases l with
  | nil => exact absurd rfl hl
  | cons b t => rfl
/-- Where the reading stands behind vs, at place a. -/
def rdAtV (s : ByteArray) (vs : List Val) (a : Nat) : Option (List Val) := (readN (12 - vs.length) (s.data.toList.drop a)).map fun r => vs ++ r
theorem readV_len (l : List UInt8) (v : Val) (r : List UInt8) (h : readV l = some (v, r)) : r.length < l.length := by
  have := (key_readV l v r h).2.2
  have h2 := congrArg List.length this
  have h3 := keyV_pos v
  rw [List.length_append] at h2
  omega
theorem drop_of_suffix (s : ByteArray) (a : Nat) (v : Val) (r : List UInt8) (h : readV (s.data.toList.drop a) = some (v, r)) : r = s.data.toList.drop (s.size - r.length) := by
  have h2 := (key_readV _ v r h).2.2
  have hl := congrArg List.length h2
  rw [List.length_append, List.length_drop, ← ba_size] at hl
  have h3 : s.data.toList.drop (a + (keyV v).length) = r := by rw [← List.drop_drop, ← h2, List.drop_left]
  have hk := keyV_pos v
  have e : s.size - r.length = a + (keyV v).length := by omega
  rw [e, h3]
theorem drop_ne (s : ByteArray) (a : Nat) (h : a < s.size) : s.data.toList.drop a ≠ [] := by
  intro e
  have := congrArg List.length e
  rw [List.length_drop, ← ba_size] at this
  simp at this; omega
theorem cell_val_new (w : World) (k n : Int) (x : ByteArray) (t : TypeId) : ∀ j u, [Value.int .i64 k, Value.int .i64 n, Value.string x][j]? = some u → (w.alloc (.cells #[.int .i64 k, .int .i64 n, .string x] t)).cell? ((⟨w.heap.size, 0, none⟩ : Addr).add j) = some u := by
  intro j u hj
  have hadd : (⟨w.heap.size, 0, none⟩ : Addr).add j = ⟨w.heap.size, j, none⟩ := by unfold Addr.add; split <;> simp_all
  rw [hadd, cell_of_row _ _ _ _ _ _ (heap_alloc_new w _)]
  simpa using hj
theorem one_val (k n : Int) (x : ByteArray) : ∀ u ∈ [Value.int .i64 k, Value.int .i64 n, Value.string x], u.oneCell' = true := fun u hu => by
  simp at hu
  rcases hu with rfl | rfl | rfl <;> rfl
theorem set2 {W : World} {g : Nat} {a b x y : Value} {t : TypeId} (h : W.heap[g]? = some (.cells #[a, b] t (0, 0))) :
    ((W.setCell ⟨g, 0, none⟩ x).setCell ⟨g, 1, none⟩ y).heap[g]? = some (.cells #[x, y] t (0, 0)) := by
  have h1 := heap_setCell_same W g 0 _ t x h
  have h2 := heap_setCell_same _ g 1 _ t y h1
  simpa using h2
theorem below2 {B g : Nat} {w W : World} {x y : Value} (h : Below B w W) (hg : B ≤ g) : Below B w ((W.setCell ⟨g, 0, none⟩ x).setCell ⟨g, 1, none⟩ y) := (h.setCell hg _).setCell hg _
theorem cells2 {W : World} {g : Nat} {a b : Value} {t : TypeId} (h : W.heap[g]? = some (.cells #[a, b] t (0, 0))) : W.cell? ⟨g, 0, none⟩ = some a ∧ W.cell? ⟨g, 1, none⟩ = some b ∧ (∀ j, W.frozen? ⟨g, j, none⟩ = false) :=
  ⟨by rw [cell_of_row _ _ _ _ _ _ h]; rfl, by rw [cell_of_row _ _ _ _ _ _ h]; rfl, fun j => frozen_of_row _ _ _ _ _ h⟩
theorem owns_set2 {W : World} {base g n : Nat} {v x y : Value} {xs : List Value} {t : TypeId} {size : Nat} (h : W.ownsRow base t size v n xs) (hg : g < base) : ((W.setCell ⟨g, 0, none⟩ x).setCell ⟨g, 1, none⟩ y).ownsRow base t size v n xs := by
  refine ⟨h.1, ?_⟩
  rcases h.2 with h0 | ⟨q, cap, cur, rfl, hB, hq, hn, hm, hs, ht⟩
  · exact .inl h0
  · exact .inr ⟨q, cap, cur, rfl, hB, by rw [heap_setCell_other _ _ _ _ (show q ≠ g by omega), heap_setCell_other _ _ _ _ (show q ≠ g by omega)]; exact hq, hn, hm, hs, ht⟩
theorem owns_base {W : World} {base base' n size : Nat} {v : Value} {xs : List Value} {t : TypeId} (h : W.ownsRow base t size v n xs) (hb : base' ≤ base) : W.ownsRow base' t size v n xs := by
  refine ⟨h.1, ?_⟩
  rcases h.2 with h0 | ⟨q, cap, cur, rfl, hB, hq, hn, hm, hs, ht⟩
  · exact .inl h0
  · exact .inr ⟨q, cap, cur, rfl, by omega, hq, hn, hm, hs, ht⟩
set_option maxRecDepth 100000 in
set_option maxHeartbeats 4000000 in
theorem implKeyRead_any (s : ByteArray) (hsm : s.size ≤ maxLen) (w : World) (hg : w.cell? ⟨0, 0, none⟩ = some errTypeV) :
    Calls Tryz.prog 11 #[.string s] w fun e w' => ∃ v, e = .returned (.agg #[v, .int .i64 (keyRd s).2]) ∧ OwnV w.heap.size v (keyRd s).1 w' ∧ Below w.heap.size w w' := by
  obtain ⟨i0, hi, hz0, hz1, hz2⟩ := info_parts Tryz.infoVal
  have hlt0 : (0 : Nat) < w.heap.size := block_lt_of_cell hg
  have HG : Hid (∀ W, Below w.heap.size w W → W.cell? ⟨0, 0, none⟩ = some errTypeV) := fun W hb => (hb.cell (p := ⟨0, 0, none⟩) hlt0).trans hg
  clear hg
  unfold maxLen at hsm
  by_cases hs : 20000 < s.size
  · have HF : Hid (keyRd s = ([], 2)) := if_pos hs
    go_enter Tryz.func11, Tryz.ntmps11
    go_wp2_with (go_at_call 27; refine (tooLong_yes _ hs _).mono ?_; rintro e w' ⟨rfl, rfl⟩)
    refine bodyPost_ret (v := .agg #[.slice none 0 0, .int .i64 2]) (resVals Tryz.results11 _ _ w.heap.size _ _ rfl (heap_alloc_new _ _)) rfl ⟨.slice none 0 0, by rw [HF.out]; rfl, by rw [HF.out]; exact ⟨rfl, .inl ⟨rfl, rfl⟩⟩, (Below.refl _ _).alloc (Nat.le_refl _) _⟩
  · have HF : Hid (keyRd s = match readN 12 s.data.toList with | none => ([], 3) | some vs => (vs, 0)) := if_neg hs
    go_enter Tryz.func11, Tryz.ntmps11
    go_wp2_with (go_at_call 27; refine (tooLong_no _ (by omega) _).mono ?_; rintro e w' ⟨rfl, rfl⟩)
    go_loopw [3, 4] (fun v i wr => ∃ (vs : List Val) (a : Nat), vs.length ≤ 12 ∧ a ≤ s.size ∧ i = .int .i64 a ∧ Hid (OwnV (w.heap.size + 1) v vs wr) ∧ Hid (readN 12 s.data.toList = rdAtV s vs a) ∧ wr.heap[w.heap.size]? = some (.cells #[.slice none 0 0, .int .i64 0] 31 (0, 0)) ∧ Below w.heap.size w wr) (fun _ i _ => s.size - (intOf i).toNat)
    case atStart => exact ⟨[], 0, by simp, by omega, rfl, ⟨rfl, .inl ⟨rfl, rfl⟩⟩, by show _ = _; unfold rdAtV; rw [List.drop_zero]; show _ = Option.map _ (readN 12 _); cases readN 12 s.data.toList <;> rfl, heap_alloc_new _ _, (Below.refl _ _).alloc (Nat.le_refl _) _⟩
    case round =>
      obtain ⟨vs, a, hv12, ha, rfl, HO, HR, hgr, hb⟩ := hrel
      have hz := hb.size
      have hlt1 : w.heap.size < wr.heap.size := (Array.getElem?_eq_some_iff.1 hgr).1
      by_cases hlt : a < s.size
      · have hri := fun W => readInner_any s a (by omega) hlt W
        have hne := drop_ne s a hlt
        cases hrv : readV (s.data.toList.drop a) with
        | none =>
          rw [hrv] at hri
          have hri' : ∀ W, Calls Tryz.prog 28 #[.string s, .int .i64 a] W fun e w' => e = .returned (.tuple #[.nilIface, .int .i64 0, faultV 3]) ∧ Below W.heap.size W w' := hri
          have HN : Hid (keyRd s = ([], 3)) := by
            show _ = _
            have : rdAtV s vs a = none := by
              unfold rdAtV
              by_cases h12 : vs.length = 12
              · rw [h12, readN_zero _ hne]; rfl
              · obtain ⟨q, hq⟩ : ∃ q, 12 - vs.length = q + 1 := ⟨11 - vs.length, by omega⟩
                rw [hq, readN_step _ _ hne, hrv]; rfl
            rw [HF.out, HR.out, this]
          clear hri hrv HR HO
          go_wp2_with fail
          refine (hri' _).mono ?_
          rintro e w1 ⟨rfl, hb1⟩
          unfold faultV
          have hb2 := hb.trans (hb1.mono hz)
          have hg2 := (hb1.block _ hlt1).trans hgr
          have HG2 : Hid (w1.heap[w.heap.size]? = some (.cells #[.slice none 0 0, .int .i64 0] 31 (0, 0))) := hg2
          clear hri' hb1 hg2 hgr hb
          go_wp2_with fail
          refine (faultCode_fault 3 _ (HG.out _ hb2)).mono ?_
          rintro e w3 ⟨rfl, hb3⟩
          have hz2 := hb2.size
          have hlt2 : w.heap.size < w1.heap.size := (Array.getElem?_eq_some_iff.1 HG2.out).1
          have hg3 := (hb3.block _ hlt2).trans HG2.out
          have b3 := hb2.trans (hb3.mono hz2)
          obtain ⟨e0, e1, ef⟩ := cells2 hg3
          have HG3 : Hid (w3.heap[w.heap.size]? = some (.cells #[.slice none 0 0, .int .i64 0] 31 (0, 0))) := hg3
          clear hb3 hg3 hb2 HG2
          go_wp2
          refine bodyPost_ret (v := .agg #[.slice none 0 0, .int .i64 3]) (resVals Tryz.results11 _ _ w.heap.size _ _ rfl (set2 HG3.out)) rfl ⟨.slice none 0 0, by rw [HN.out]; rfl, by rw [HN.out]; exact ⟨rfl, .inl ⟨rfl, rfl⟩⟩, below2 b3 (Nat.le_refl _)⟩
        | some q =>
          obtain ⟨v, r⟩ := q
          rw [hrv] at hri
          have hrl := readV_len _ _ _ hrv
          rw [List.length_drop, ← ba_size] at hrl
          have hdr := drop_of_suffix s a v r hrv
          obtain ⟨hvr, hvo, _⟩ := key_readV _ _ _ hrv
          have hri' : ∀ W, Calls Tryz.prog 28 #[.string s, .int .i64 a] W fun e w' => e = .returned (.tuple #[innerV v, .int .i64 ((s.size : Int) - r.length), .nilIface]) ∧ Below W.heap.size W w' := hri
          have hsr : (s.size : Int) - r.length = ((s.size - r.length : Nat) : Int) := by omega
          rw [hsr] at hri'
          by_cases h12 : vs.length = 12
          · have HN : Hid (keyRd s = ([], 3)) := by
              show _ = _
              have : rdAtV s vs a = none := by
                unfold rdAtV
                rw [h12, readN_zero _ hne]; rfl
              rw [HF.out, HR.out, this]
            have hlen : ∃ ao cap, u3 = .slice ao 12 cap := by
              rcases HO.out.2 with ⟨h1, h2⟩ | ⟨g, cap, cur, h1, _⟩
              · omega
              · exact ⟨_, _, by rw [h1, h12]⟩
            obtain ⟨ao, cap, hu3⟩ := hlen
            rw [hu3]
            obtain ⟨u, y, hx⟩ := innerV_iface v
            rw [hx] at hri'
            clear hri hrv HR HO hu3 hx hsr hdr hvr hvo
            go_wp2_with fail
            refine (hri' _).mono ?_
            rintro e w1 ⟨rfl, hb1⟩
            have hb2 := hb.trans (hb1.mono hz)
            have hg2 := (hb1.block _ hlt1).trans hgr
            have HG2 : Hid (w1.heap[w.heap.size]? = some (.cells #[.slice none 0 0, .int .i64 0] 31 (0, 0))) := hg2
            clear hri' hb1 hg2 hgr hb
            go_wp2_with fail
            refine (faultCode_fault 3 _ (HG.out _ hb2)).mono ?_
            rintro e w3 ⟨rfl, hb3⟩
            have hz2 := hb2.size
            have hlt2 : w.heap.size < w1.heap.size := (Array.getElem?_eq_some_iff.1 HG2.out).1
            have hg3 := (hb3.block _ hlt2).trans HG2.out
            have b3 := hb2.trans (hb3.mono hz2)
            obtain ⟨e0, e1, ef⟩ := cells2 hg3
            have HG3 : Hid (w3.heap[w.heap.size]? = some (.cells #[.slice none 0 0, .int .i64 0] 31 (0, 0))) := hg3
            clear hb3 hg3 hb2 HG2
            go_wp2
            refine bodyPost_ret (v := .agg #[.slice none 0 0, .int .i64 3]) (resVals Tryz.results11 _ _ w.heap.size _ _ rfl (set2 HG3.out)) rfl ⟨.slice none 0 0, by rw [HN.out]; rfl, by rw [HN.out]; exact ⟨rfl, .inl ⟨rfl, rfl⟩⟩, below2 b3 (Nat.le_refl _)⟩
          · have HR2 : Hid (readN 12 s.data.toList = rdAtV s (vs ++ [v]) (s.size - r.length)) := by
              show _ = _
              rw [HR.out]; unfold rdAtV
              obtain ⟨q, hq⟩ : ∃ q, 12 - vs.length = q + 1 := ⟨11 - vs.length, by omega⟩
              have hq2 : 12 - (vs ++ [v]).length = q := by simp; omega
              rw [hq, hq2, readN_step _ _ hne, hrv, ← hdr]
              simp only
              cases readN q r <;> simp
            have hfr := fun W => fromInner_right v hvr W
            have HFL : Hid (flatV (vs ++ [v]) = flatV vs ++ [.int .i64 v.kind, .int .i64 v.num, .string v.text]) := by show _ = _; rw [flatV_append]; rfl
            have hlen : ∃ ao cap, u3 = .slice ao vs.length cap := by
              rcases HO.out.2 with ⟨h1, h2⟩ | ⟨g, cap, cur, h1, _⟩
              · exact ⟨none, 0, by rw [h1, h2]⟩
              · exact ⟨_, _, h1⟩
            obtain ⟨ao, cap, hu3⟩ := hlen
            rw [hu3] at HO ⊢
            obtain ⟨u, y, hx⟩ := innerV_iface v
            rw [hx] at hri' hfr
            obtain ⟨vk, vn, vt⟩ := v
            simp only at hfr HFL
            have hrs : s.size - r.length ≤ s.size := by omega
            have hra : a < s.size - r.length := by omega
            clear hri hrv HR hu3 hx hsr hdr hvr hvo
            generalize s.size - r.length = a2 at *
            have h12' : ¬ ((vs.length : Int) = 12) := by omega
            go_wp2_with fail
            refine (hri' _).mono ?_
            rintro e w1 ⟨rfl, hb1⟩
            have hb2 := hb.trans (hb1.mono hz)
            have HG2 : Hid (w1.heap[w.heap.size]? = some (.cells #[.slice none 0 0, .int .i64 0] 31 (0, 0))) := (hb1.block _ hlt1).trans hgr
            have HO2 : Hid (OwnV (w.heap.size + 1) (.slice ao vs.length cap) vs w1) := owns_below HO.out hb1
            have hy2 := hb2.size
            have hlt2 : w.heap.size < w1.heap.size := (Array.getElem?_eq_some_iff.1 HG2.out).1
            clear hri' hb1 hgr hb HO
            go_wp2_with fail
            refine (hfr _).mono ?_
            rintro e w3 ⟨rfl, hb3⟩
            have b3 := hb2.trans (hb3.mono hy2)
            have HG3 : Hid (w3.heap[w.heap.size]? = some (.cells #[.slice none 0 0, .int .i64 0] 31 (0, 0))) := (hb3.block _ hlt2).trans HG2.out
            have hown3 : w3.ownsRow (w.heap.size + 1) 40 3 (.slice ao vs.length cap) vs.length (flatV vs) := owns_below HO2.out hb3
            have hz3 := b3.size
            have hlt3 : w.heap.size < w3.heap.size := (Array.getElem?_eq_some_iff.1 HG3.out).1
            clear hfr hb3 hb2 HO2 HG2
            go_wp2_with (at_builtin; refine wpList_append_own _ rfl _ _ 23 rfl (w.heap.size + 1) 40 i0 (.agg #[.int .i64 0, .int .i64 0, .string ⟨#[]⟩]) 3 32 Tryz.underlying23 hi hz0 hz1 hz2 rfl (by decide) _ _ _ rfl (hown3.alloc _) ⟨w3.heap.size, 0, none⟩ 1 1 [.int .i64 vk, .int .i64 vn, .string vt] rfl rfl ?c1 ?c2 ?c3 ?c4 ?c5 ?_)
            case c1 => exact cell_val_new _ _ _ _ _
            case c2 => exact one_val _ _ _
            case c3 => unfold maxLen; omega
            case c4 => omega
            case c5 => simp; omega
            intro v5 w5 hown5 hgrow5 _
            have b5 := (b3.alloc hz3 _).grown hgrow5 (size_alloc_le _ hz3) (fun j hj => by have := (hown3.lt j hj).1; omega)
            have HO5 : Hid (OwnV (w.heap.size + 1) v5 (vs ++ [⟨vk, vn, vt⟩]) w5) := ownV_of hown5 (by simp) HFL.out.symm
            have HG5 : Hid (w5.heap[w.heap.size]? = some (.cells #[.slice none 0 0, .int .i64 0] 31 (0, 0))) := by
              show _ = _
              rw [hgrow5.block w.heap.size (by simp; omega) (fun e => by have := (hown3.lt _ e.symm).1; omega), Below.heap_alloc _ _ _ hlt3]
              exact HG3.out
            clear hown5 hgrow5 hown3 b3 HG3 HFL
            go_wp2
            go_roundw
            case rel => exact ⟨vs ++ [⟨vk, vn, vt⟩], a2, by simp; omega, hrs, rfl, HO5, HR2, HG5.out, b5⟩
            case measure => simp [intOf]; omega
      · obtain rfl : a = s.size := by omega
        have HN : Hid (keyRd s = (vs, 0)) := by
          show _ = _
          have : rdAtV s vs s.size = some vs := by
            unfold rdAtV
            rw [List.drop_eq_nil_of_le (by rw [← ba_size]; exact Nat.le_refl _), readN_nil]; simp
          rw [HF.out, HR.out, this]
        obtain ⟨e0, e1, ef⟩ := cells2 hgr
        have HGr : Hid (wr.heap[w.heap.size]? = some (.cells #[.slice none 0 0, .int .i64 0] 31 (0, 0))) := hgr
        have hshape : ∃ ao cap, u3 = .slice ao vs.length cap := by
          rcases HO.out.2 with ⟨h1, h2⟩ | ⟨g, cap, cur, h1, _⟩
          · exact ⟨none, 0, by rw [h1, h2]⟩
          · exact ⟨_, _, h1⟩
        obtain ⟨ao, cap, hu3⟩ := hshape
        rw [hu3] at HO ⊢
        clear HR hgr
        go_wp2
        refine bodyPost_ret (v := .agg #[.slice ao vs.length cap, .int .i64 0]) (resVals Tryz.results11 _ _ w.heap.size _ _ rfl (set2 HGr.out)) rfl ⟨.slice ao vs.length cap, by rw [HN.out]; rfl, by rw [HN.out]; exact owns_base (owns_set2 HO.out (by omega)) (by omega), below2 hb (Nat.le_refl _)⟩
end Go.Proofs.YtkkggbbpaflieaaGreatDoor
