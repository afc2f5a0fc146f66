/-
  Contracts: a text is read by the specification; a value; values.
-/
import Derived.Test.YtkkggbbpaflieaaGreatDoorReadS
namespace Go.Proofs.YtkkggbbpaflieaaGreatDoor
open Go.RowKit

theorem setThree {W : World} {g : Nat} {a b c x y z : Value} {t : TypeId} (h : W.heap[g]? = some (.cells #[a, b, c] t (0, 0))) :
    (((W.setCell ⟨g, 0, none⟩ x).setCell ⟨g, 1, none⟩ y).setCell ⟨g, 2, none⟩ z).heap[g]? = some (.cells #[x, y, z] t (0, 0)) := by
  have h1 := heap_setCell_same W g 0 _ t x h
  have h2 := heap_setCell_same _ g 1 _ t y h1
  have h3 := heap_setCell_same _ g 2 _ t z h2
  simpa using h3
theorem cellsThree {W : World} {g : Nat} {a b c : Value} {t : TypeId} (h : W.heap[g]? = some (.cells #[a, b, c] t (0, 0))) :
    W.cell? ⟨g, 0, none⟩ = some a ∧ W.cell? ⟨g, 1, none⟩ = some b ∧ W.cell? ⟨g, 2, none⟩ = some c ∧ (∀ j, W.frozen? ⟨g, j, none⟩ = false) :=
  ⟨by rw [cell_of_row _ _ _ _ _ _ h]; rfl, by rw [cell_of_row _ _ _ _ _ _ h]; rfl, by rw [cell_of_row _ _ _ _ _ _ h]; rfl, fun j => frozen_of_row _ _ _ _ _ h⟩
/-- Results of which the first lies in a block of three cells. -/
theorem resThree {fn : Func} {p q r : Tmp} (h : fn.results = #[.cell p 40, .tmp q, .tmp r]) (tmps : Array Value) (w : World) (g : Nat) (x y z b c : Value) (hp : tmps.getD p undef = .pointer (some ⟨g, 0, none⟩)) (hq : tmps.getD q undef = b) (hr : tmps.getD r undef = c)
    (hg : w.heap[g]? = some (.cells #[x, y, z] 40 (0, 0))) : (results fn tmps).run Tryz.prog w = .ok (.tuple #[.agg #[x, y, z], b, c]) w := by
  obtain ⟨c0, c1, c2, _⟩ := cellsThree hg
  have hsz : ∀ w, (sizeOf 40).run Tryz.prog w = .ok 3 w := fun w => by kernel_rfl
  rw [Array.getD_eq_getD_getElem?] at hp hq hr
  simp [results, h, hp, hq, hr, go_sem, c0, c1, c2]
theorem esc_ge : ∀ l, l.length ≤ (esc l).length
  | [] => Nat.le_refl _
  | b :: r => by
    have := esc_ge r
    by_cases h : b = 0 <;> simp [esc, h] <;> omega
theorem unescAt_len (s : ByteArray) (a : Nat) (l p r : List UInt8) (j : Nat) (h : unesc (s.data.toList.drop a) = unescAt s l j) (h2 : unescAt s l j = some (p, r)) : p.length ≤ s.size := by
  rw [h2] at h
  have := congrArg List.length (esc_unesc _ _ _ h)
  rw [List.length_drop, ← ba_size, List.length_append] at this
  have hp := esc_ge p
  omega
set_option maxRecDepth 100000 in
set_option maxHeartbeats 4000000 in
theorem l02Value_text (s : ByteArray) (a : Nat) (hsz : s.size ≤ 20000) (h : a < s.size) (w : World) (hc : s[a].toNat = 3) :
    Calls Tryz.prog 48 #[.string s, .int .i64 a] w (L02Post s a w) := by
  obtain ⟨i0, hi, hz0, hz1, hz2⟩ := info_parts Tryz.infoU8
  have ec : s[a] = 3 := UInt8.toNat_inj.1 hc
  have hR : readV (s.data.toList.drop a) = match unesc (s.data.toList.drop (a + 1)) with | none => none | some (p, t) => if p.length ≤ 200 then some (⟨3, 0, ⟨p.toArray⟩⟩, t) else none := by
    rw [drop_one s a h, readV.eq_def]
    simp only [ec]
    rfl
  have HR : Hid (readV (s.data.toList.drop a) = match unesc (s.data.toList.drop (a + 1)) with | none => none | some (p, t) => if p.length ≤ 200 then some (⟨3, 0, ⟨p.toArray⟩⟩, t) else none) := hR
  clear hR ec
  go_enter Tryz.func48, Tryz.ntmps48
  go_wp2
  go_loopw [1, 10] (fun i v wr => ∃ (j : Nat) (l : List UInt8), a < j ∧ j ≤ s.size ∧ l.length ≤ j ∧ i = .int .i64 j ∧ Hid (OwnB (w.heap.size + 2) v l wr) ∧ Hid (unesc (s.data.toList.drop (a + 1)) = unescAt s l j) ∧ wr.heap[w.heap.size]? = some (.cells #[.int .i64 0, .int .i64 0, .string ⟨#[]⟩] 40 (0, 0)) ∧ wr.heap[w.heap.size + 1]? = some (.cells #[.int .i64 3, .int .i64 0, .string ⟨#[]⟩] 40 (0, 0)) ∧ Below w.heap.size w wr) (fun i _ _ => s.size - (intOf i).toNat)
  case atStart =>
    refine ⟨a + 1, [], by omega, by omega, by simp, by go_num, ?_, ?_, ?_, ?_, ?_⟩
    · refine ⟨rfl, .inr ⟨w.heap.size + 1 + 1, 0, #[], rfl, Nat.le_refl _, ?_, Nat.le_refl _, Nat.zero_le _, rfl, rfl⟩⟩
      have := heap_alloc_new ((w.alloc (.cells #[.int .i64 0, .int .i64 0, .string ⟨#[]⟩] 40)).alloc (.cells #[.int .i64 3, .int .i64 0, .string ⟨#[]⟩] 40)) (.cells #[] 5)
      simpa using this
    · show _ = _
      unfold unescAt
      cases unesc (s.data.toList.drop (a + 1)) <;> simp
    · rw [Below.heap_alloc _ _ _ (by simp; omega), Below.heap_alloc _ _ _ (by simp)]; exact heap_alloc_new w _
    · rw [Below.heap_alloc _ _ _ (by simp)]
      have := heap_alloc_new (w.alloc (.cells #[.int .i64 0, .int .i64 0, .string ⟨#[]⟩] 40)) (.cells #[.int .i64 3, .int .i64 0, .string ⟨#[]⟩] 40)
      simpa using this
    · exact (((Below.refl _ _).alloc (Nat.le_refl _) _).alloc (by simp) _).alloc (by simp; omega) _
  case round =>
    obtain ⟨j, l, haj, hj, hlj, rfl, HO, HU, hg0, hg1, hb⟩ := hrel
    have hz := hb.size
    have hlt1 : w.heap.size + 1 < wr.heap.size := (Array.getElem?_eq_some_iff.1 hg1).1
    obtain ⟨e0, e1, e2, ef⟩ := cellsThree hg0
    obtain ⟨f0, f1, f2, ff⟩ := cellsThree hg1
    have G0 : Hid (wr.heap[w.heap.size]? = some (.cells #[.int .i64 0, .int .i64 0, .string ⟨#[]⟩] 40 (0, 0))) := hg0
    have G1 : Hid (wr.heap[w.heap.size + 1]? = some (.cells #[.int .i64 3, .int .i64 0, .string ⟨#[]⟩] 40 (0, 0))) := hg1
    clear hg0 hg1
    have hown := HO.out
    unfold OwnB at hown
    by_cases hlt : j + 1 < s.size
    · by_cases hb0 : s[j].toNat = 0
      · have hs0 : s[j] = 0 := UInt8.toNat_inj.1 hb0
        have HD : Hid (unesc (s.data.toList.drop j) = if s[j + 1] = 0 then some ([], s.data.toList.drop (j + 2)) else if s[j + 1] = 255 then (unesc (s.data.toList.drop (j + 2))).map fun p => (0 :: p.1, p.2) else none) := by
          show _ = _
          rw [drop_two s j hlt, hs0, unesc_zero]
        by_cases hc0 : s[j + 1].toNat = 0
        · have hs1 : s[j + 1] = 0 := UInt8.toNat_inj.1 hc0
          have hcv := HO.out.conv
          have HRD : Hid (ReadAs s (readV (s.data.toList.drop a)) ⟨3, 0, mkS l⟩ ((j : Int) + 2) true) := by
            show ReadAs ..
            rw [HR.out, HU.out]
            unfold unescAt
            rw [HD.out, if_pos hs1]
            simp only [Option.map_some, List.append_nil]
            by_cases hl2 : l.length ≤ 200
            · rw [if_pos hl2]
              exact ⟨rfl, rfl, (rest_len s j 2 (by omega)).symm⟩
            · rw [if_neg hl2]
              refine .inr ?_
              show decide ((0 : Int) = 0 ∧ (mkS l).size ≤ 200) = false
              exact decide_eq_false (fun hh => hl2 (by rw [← mkS_size]; exact hh.2))
          have hml : (mkS l).size ≤ 20000 := by rw [mkS_size]; omega
          generalize mkS l = X at *
          have hne1 : ¬ w.heap.size + 1 = w.heap.size := by omega
          clear HU hs0 hs1 HD hown HO
          go_wp2
          refine bodyPost_ret (v := .tuple #[.agg #[.int .i64 3, .int .i64 0, .string X], .int .i64 ((j : Int) + 2), .bool true]) (resThree Tryz.results48 _ _ w.heap.size _ _ _ _ _ rfl rfl rfl (setThree (by rw [heap_setCell_other _ _ _ _ (fun e => hne1 (by simpa using e.symm))]; exact G0.out))) rfl (l02_mk ⟨3, 0, X⟩ ((j : Int) + 2) true rfl hml HRD.out ?_)
          exact (((hb.setCell (by simp) _).setCell (by simp) _).setCell (by simp) _).setCell (by simp) _
        · have hs1 : ¬ s[j + 1] = 0 := fun e => hc0 (by rw [e]; rfl)
          by_cases hc5 : s[j + 1].toNat = 255
          · have hs5 : s[j + 1] = 255 := UInt8.toNat_inj.1 hc5
            have HU2 : Hid (unesc (s.data.toList.drop (a + 1)) = unescAt s (l ++ [0]) (j + 2)) := by
              show _ = _
              rw [HU.out]; unfold unescAt
              rw [HD.out, if_neg hs1, if_pos hs5]
              cases unesc (s.data.toList.drop (j + 2)) <;> simp
            clear HU hs0 hs1 hs5 HD HO
            have hz2' : w.heap.size + 2 ≤ wr.heap.size := by omega
            go_wp2_with (at_builtin; refine wpList_append_own _ rfl _ _ 22 rfl (w.heap.size + 2) 5 i0 (.int .u8 0) 1 1 Tryz.underlying22 hi hz0 hz1 hz2 rfl (by decide) _ _ _ rfl (hown.alloc _) ⟨wr.heap.size, 0, none⟩ 1 1 [.int .u8 0] rfl rfl (cell_one_new _ _ _) (one1 _ _) (by unfold maxLen; omega) (by omega) (size_alloc_le _ hz2') ?_)
            intro v3 w3 hown3 hgrow3 _
            have b3 := (hb.alloc hz _).grown hgrow3 (size_alloc_le _ hz) (fun j hj => Nat.le_trans (by omega) (hown.lt j hj).1)
            have HO3 : Hid (OwnB (w.heap.size + 2) v3 (l ++ [0]) w3) := own_snoc _ hown3 rfl
            have HG3 : Hid (w3.heap[w.heap.size]? = some (.cells #[.int .i64 0, .int .i64 0, .string ⟨#[]⟩] 40 (0, 0))) := by
              show _ = _
              rw [hgrow3.block w.heap.size (by simp; omega) (fun e => by have := (hown.lt _ e.symm).1; omega), Below.heap_alloc _ _ _ (by omega)]
              exact G0.out
            have HG4 : Hid (w3.heap[w.heap.size + 1]? = some (.cells #[.int .i64 3, .int .i64 0, .string ⟨#[]⟩] 40 (0, 0))) := by
              show _ = _
              rw [hgrow3.block (w.heap.size + 1) (by simp; omega) (fun e => by have := (hown.lt _ e.symm).1; omega), Below.heap_alloc _ _ _ (by omega)]
              exact G1.out
            clear hown3 hgrow3 hown hb e0 e1 e2 ef f0 f1 f2 ff G0 G1
            go_wp2
            go_roundw
            case rel => exact ⟨j + 2, l ++ [0], by omega, by omega, by simp; omega, by go_num, HO3, HU2, HG3.out, HG4.out, b3⟩
            case measure => simp [intOf]; omega
          · have hs5 : ¬ s[j + 1] = 255 := fun e => hc5 (by rw [e]; rfl)
            have HF : Hid (readV (s.data.toList.drop a) = none) := by
              show _ = _
              rw [HR.out, HU.out]; unfold unescAt
              rw [HD.out, if_neg hs1, if_neg hs5]; rfl
            clear HU hs0 hs1 hs5 HD hown HO
            go_wp2
            refine bodyPost_ret (v := .tuple #[.agg #[.int .i64 3, .int .i64 0, .string ⟨#[]⟩], .int .i64 (j : Int), .bool false]) (resThree Tryz.results48 _ _ w.heap.size _ _ _ _ _ rfl rfl rfl (setThree G0.out)) rfl (l02_mk ⟨3, 0, ⟨#[]⟩⟩ (j : Int) false rfl (by simp [ByteArray.size]) (by rw [HF.out]; exact .inl rfl) ?_)
            exact ((hb.setCell (by simp) _).setCell (by simp) _).setCell (by simp) _
      · have hs0 : s[j] ≠ 0 := fun e => hb0 (by rw [e]; rfl)
        have HU2 : Hid (unesc (s.data.toList.drop (a + 1)) = unescAt s (l ++ [s[j]]) (j + 1)) := by
          show _ = _
          rw [HU.out]; unfold unescAt
          rw [unesc_drop_more s j (by omega) hs0]
          cases unesc (s.data.toList.drop (j + 1)) <;> simp
        clear HU hs0 HO
        have hz2' : w.heap.size + 2 ≤ wr.heap.size := by omega
        go_wp2_with (at_builtin; refine wpList_append_own _ rfl _ _ 22 rfl (w.heap.size + 2) 5 i0 (.int .u8 0) 1 1 Tryz.underlying22 hi hz0 hz1 hz2 rfl (by decide) _ _ _ rfl (hown.alloc _) ⟨wr.heap.size, 0, none⟩ 1 1 [.int .u8 (s[j].toNat : Int)] rfl rfl (cell_one_new _ _ _) (one1 _ _) (by unfold maxLen; omega) (by omega) (size_alloc_le _ hz2') ?_)
        intro v3 w3 hown3 hgrow3 _
        have b3 := (hb.alloc hz _).grown hgrow3 (size_alloc_le _ hz) (fun j hj => Nat.le_trans (by omega) (hown.lt j hj).1)
        have HO3 : Hid (OwnB (w.heap.size + 2) v3 (l ++ [s[j]]) w3) := own_snoc _ hown3 rfl
        have HG3 : Hid (w3.heap[w.heap.size]? = some (.cells #[.int .i64 0, .int .i64 0, .string ⟨#[]⟩] 40 (0, 0))) := by
          show _ = _
          rw [hgrow3.block w.heap.size (by simp; omega) (fun e => by have := (hown.lt _ e.symm).1; omega), Below.heap_alloc _ _ _ (by omega)]
          exact G0.out
        have HG4 : Hid (w3.heap[w.heap.size + 1]? = some (.cells #[.int .i64 3, .int .i64 0, .string ⟨#[]⟩] 40 (0, 0))) := by
          show _ = _
          rw [hgrow3.block (w.heap.size + 1) (by simp; omega) (fun e => by have := (hown.lt _ e.symm).1; omega), Below.heap_alloc _ _ _ (by omega)]
          exact G1.out
        clear hown3 hgrow3 hown hb e0 e1 e2 ef f0 f1 f2 ff G0 G1
        go_wp2
        go_roundw
        case rel => exact ⟨j + 1, l ++ [s[j]], by omega, by omega, by simp; omega, by go_num, HO3, HU2, HG3.out, HG4.out, b3⟩
        case measure => simp [intOf]; omega
    · have HF : Hid (readV (s.data.toList.drop a) = none) := by
        show _ = _
        rw [HR.out, HU.out]; unfold unescAt
        by_cases hje : j + 1 = s.size
        · rw [unesc_last s j hje]; rfl
        · rw [unesc_end s j (by omega)]; rfl
      clear HU hown HO
      go_wp2
      refine bodyPost_ret (v := .tuple #[.agg #[.int .i64 3, .int .i64 0, .string ⟨#[]⟩], .int .i64 (j : Int), .bool false]) (resThree Tryz.results48 _ _ w.heap.size _ _ _ _ _ rfl rfl rfl (setThree G0.out)) rfl (l02_mk ⟨3, 0, ⟨#[]⟩⟩ (j : Int) false rfl (by simp [ByteArray.size]) (by rw [HF.out]; exact .inl rfl) ?_)
      exact ((hb.setCell (by simp) _).setCell (by simp) _).setCell (by simp) _
theorem l02Value_any (s : ByteArray) (a : Nat) (hsz : s.size ≤ 20000) (h : a < s.size) (w : World) :
    Calls Tryz.prog 48 #[.string s, .int .i64 a] w (L02Post s a w) := by
  by_cases h0 : s[a].toNat = 0
  · exact l02Value_null s a hsz h w h0
  by_cases h1 : s[a].toNat = 1
  · exact l02Value_bool s a hsz h w h1
  by_cases h2 : s[a].toNat = 2
  · exact l02Value_int s a hsz h w h2
  by_cases h3 : s[a].toNat = 3
  · exact l02Value_text s a hsz h w h3
  exact l02Value_other s a hsz h w h0 h1 h2 h3
end Go.Proofs.YtkkggbbpaflieaaGreatDoor
