/-
  Contracts: values are read by the specification.
-/
import Derived.Test.YtkkggbbpaflieaaGreatDoorReadS2
import Derived.Test.YtkkggbbpaflieaaGreatDoorVal0
namespace Go.Proofs.YtkkggbbpaflieaaGreatDoor
open Go.RowKit

/-- What l02Read answers. -/
def RdPost (s : ByteArray) (w : World) (e : Ending) (w' : World) : Prop :=
  ∃ (v : Value) (b : Bool), e = .returned (.tuple #[v, .bool b]) ∧ Below w.heap.size w w' ∧ match readN 12 s.data.toList with | none => b = false | some vs => b = true ∧ OwnV w.heap.size v vs w'
theorem rd_none {s : ByteArray} {w : World} {e : Ending} {w' : World} (v : Value) (h : readN 12 s.data.toList = none) (h1 : e = .returned (.tuple #[v, .bool false])) (h2 : Below w.heap.size w w') : RdPost s w e w' := ⟨v, false, h1, h2, by rw [h]⟩
theorem rd_some {s : ByteArray} {w : World} {e : Ending} {w' : World} (v : Value) (vs : List Val) (h : readN 12 s.data.toList = some vs) (h1 : e = .returned (.tuple #[v, .bool true])) (h2 : Below w.heap.size w w') (h3 : OwnV w.heap.size v vs w') : RdPost s w e w' := ⟨v, true, h1, h2, by rw [h]; exact ⟨rfl, h3⟩⟩
theorem ownV_shape {base : Nat} {v : Value} {vs : List Val} {w : World} (h : OwnV base v vs w) : ∃ ao cap, v = .slice ao vs.length cap := by
  rcases h.2 with ⟨h1, h2⟩ | ⟨g, cap, cur, h1, _⟩
  · exact ⟨none, 0, by rw [h1, h2]⟩
  · exact ⟨_, _, h1⟩
set_option maxRecDepth 100000 in
set_option maxHeartbeats 4000000 in
theorem l02Read_any (s : ByteArray) (hsz : s.size ≤ 20000) (w : World) :
    Calls Tryz.prog 33 #[.string s] w (RdPost s w) := by
  obtain ⟨i0, hi, hz0, hz1, hz2⟩ := info_parts Tryz.infoVal
  go_enter Tryz.func33, Tryz.ntmps33
  go_wp2
  go_loopw [4, 5] (fun v i wr => ∃ (vs : List Val) (a : Nat), vs.length ≤ 12 ∧ a ≤ s.size ∧ i = .int .i64 a ∧ Hid (OwnV w.heap.size v vs wr) ∧ Hid (readN 12 s.data.toList = rdAtV s vs a) ∧ Below w.heap.size w wr) (fun _ i _ => s.size - (intOf i).toNat)
  case atStart =>
    refine ⟨[], 0, by simp, by omega, rfl, ⟨rfl, .inr ⟨w.heap.size, 0, #[], rfl, Nat.le_refl _, heap_alloc_new _ _, Nat.le_refl _, Nat.zero_le _, rfl, rfl⟩⟩, ?_, (Below.refl _ _).alloc (Nat.le_refl _) _⟩
    show _ = _; unfold rdAtV; rw [List.drop_zero]; show _ = Option.map _ (readN 12 _); cases readN 12 s.data.toList <;> rfl
  case round =>
    obtain ⟨vs, a, hv12, ha, rfl, HO, HR, hb⟩ := hrel
    have hz := hb.size
    obtain ⟨ao, cap, hu4⟩ := ownV_shape HO.out
    rw [hu4] at HO ⊢
    clear hu4
    by_cases hlt : a < s.size
    · have hne := drop_ne s a hlt
      have HNE : Hid (s.data.toList.drop a ≠ []) := hne
      have hl2 := fun W => l02Value_any s a hsz hlt W
      clear hne
      go_wp2_with fail
      refine (hl2 _).mono ?_
      rintro e w1 ⟨⟨vk, vn, vt⟩, a', ok, rfl, hvt, hra, hb1⟩
      have hb2 := hb.trans (hb1.mono hz)
      have hy2 := hb2.size
      have HO2 : Hid (OwnV w.heap.size (.slice ao vs.length cap) vs w1) := owns_below HO.out hb1
      clear hl2 hb1 hb HO
      simp only at hvt ⊢
      unfold ReadAs at hra
      cases hrv : readV (s.data.toList.drop a) with
      | none =>
        rw [hrv] at hra
        simp only at hra
        have HN : Hid (readN 12 s.data.toList = none) := by
          show _ = _
          have : rdAtV s vs a = none := by
            unfold rdAtV
            by_cases h12 : vs.length = 12
            · rw [h12, readN_zero _ HNE.out]; rfl
            · obtain ⟨q, hq⟩ : ∃ q, 12 - vs.length = q + 1 := ⟨11 - vs.length, by omega⟩
              rw [hq, readN_step _ _ HNE.out, hrv]; rfl
          rw [HR.out, this]
        clear hrv HR HNE
        cases ok with
        | false =>
          clear hra
          go_wp2
          go_ret2
          exact rd_none (.slice ao vs.length cap) HN.out rfl (hb2.alloc hy2 _)
        | true =>
          have hvf : vRight ⟨vk, vn, vt⟩ = false := by rcases hra with h | h; exact absurd h (by simp); exact h
          have hvr := fun W => specValueRight_any vk vn vt W
          rw [hvf] at hvr
          clear hra hvf
          go_wp2_with fail
          refine (hvr _).mono ?_
          rintro e w3 ⟨rfl, hb3⟩
          have b3 := hb2.trans ((below_alloc hb3).mono hy2)
          clear hvr hb3
          go_wp2
          go_ret2
          exact rd_none (.slice ao vs.length cap) HN.out rfl b3
      | some q =>
        obtain ⟨v, r⟩ := q
        rw [hrv] at hra
        simp only at hra
        obtain ⟨rfl, rfl, rfl⟩ := hra
        have hrl := readV_len _ _ _ hrv
        rw [List.length_drop, ← ba_size] at hrl
        have hdr := drop_of_suffix s a _ r hrv
        obtain ⟨hvf, hvo, _⟩ := key_readV _ _ _ hrv
        have hsr : (s.size : Int) - r.length = ((s.size - r.length : Nat) : Int) := by omega
        rw [hsr]
        have hvr := fun W => specValueRight_any vk vn vt W
        rw [hvf] at hvr
        by_cases h12 : vs.length = 12
        · have HN : Hid (readN 12 s.data.toList = none) := by
            show _ = _
            have : rdAtV s vs a = none := by
              unfold rdAtV
              rw [h12, readN_zero _ HNE.out]; rfl
            rw [HR.out, this]
          rw [h12]
          clear hrv HR HNE hvf hvo hdr hsr HO2
          go_wp2_with fail
          refine (hvr _).mono ?_
          rintro e w3 ⟨rfl, hb3⟩
          have b3 := hb2.trans ((below_alloc hb3).mono hy2)
          clear hvr hb3
          go_wp2
          go_ret2
          exact rd_none (.slice ao 12 cap) HN.out rfl b3
        · have HR2 : Hid (readN 12 s.data.toList = rdAtV s (vs ++ [⟨vk, vn, vt⟩]) (s.size - r.length)) := by
            show _ = _
            rw [HR.out]; unfold rdAtV
            obtain ⟨q, hq⟩ : ∃ q, 12 - vs.length = q + 1 := ⟨11 - vs.length, by omega⟩
            have hq2 : 12 - (vs ++ [(⟨vk, vn, vt⟩ : Val)]).length = q := by simp; omega
            rw [hq, hq2, readN_step _ _ HNE.out, hrv, ← hdr]
            simp only
            cases readN q r <;> simp
          have HFL : Hid (flatV (vs ++ [⟨vk, vn, vt⟩]) = flatV vs ++ [.int .i64 vk, .int .i64 vn, .string vt]) := by show _ = _; rw [flatV_append]; rfl
          have hrs : s.size - r.length ≤ s.size := by omega
          have hra : a < s.size - r.length := by omega
          clear hrv HR HNE hvf hvo hdr hsr
          generalize s.size - r.length = a2 at *
          have h12' : ¬ ((12 : Int) ≤ (vs.length : Int)) := by omega
          go_wp2_with fail
          refine (hvr _).mono ?_
          rintro e w3 ⟨rfl, hb3⟩
          have b3 := hb2.trans ((below_alloc hb3).mono hy2)
          have hown3 : w3.ownsRow w.heap.size 40 3 (.slice ao vs.length cap) vs.length (flatV vs) := owns_below HO2.out (below_alloc hb3)
          have hz3 := b3.size
          obtain ⟨f0, f1, f2, ff⟩ := cellsThree ((hb3.block w1.heap.size (by simp)).trans (heap_alloc_new _ _))
          clear hvr hb3 hb2 HO2
          go_wp2_with (at_builtin; refine wpList_append_own _ rfl _ _ 23 rfl w.heap.size 40 i0 (.agg #[.int .i64 0, .int .i64 0, .string ⟨#[]⟩]) 3 32 Tryz.underlying23 hi hz0 hz1 hz2 rfl (by decide) _ _ _ rfl (hown3.alloc _) ⟨w3.heap.size, 0, none⟩ 1 1 [.int .i64 vk, .int .i64 vn, .string vt] rfl rfl ?c1 ?c2 ?c3 ?c4 ?c5 ?_)
          case c1 => exact cell_val_new _ _ _ _ _
          case c2 => exact one_val _ _ _
          case c3 => unfold maxLen; omega
          case c4 => omega
          case c5 => simp; omega
          intro v5 w5 hown5 hgrow5 _
          have b5 := (b3.alloc hz3 _).grown hgrow5 (size_alloc_le _ hz3) (fun j hj => by have := (hown3.lt j hj).1; omega)
          have HO5 : Hid (OwnV w.heap.size v5 (vs ++ [⟨vk, vn, vt⟩]) w5) := ownV_of hown5 (by simp) HFL.out.symm
          clear hown5 hgrow5 hown3 b3 HFL
          go_wp2
          go_roundw
          case rel => exact ⟨vs ++ [⟨vk, vn, vt⟩], a2, by simp; omega, hrs, rfl, HO5, HR2, b5⟩
          case measure => simp [intOf]; omega
    · obtain rfl : a = s.size := by omega
      have HN : Hid (readN 12 s.data.toList = some vs) := by
        show _ = _
        have : rdAtV s vs s.size = some vs := by
          unfold rdAtV
          rw [List.drop_eq_nil_of_le (by rw [← ba_size]; exact Nat.le_refl _), readN_nil]; simp
        rw [HR.out, this]
      clear HR
      go_wp2
      go_ret2
      exact rd_some (.slice ao vs.length cap) vs HN.out rfl hb HO.out
set_option maxRecDepth 100000 in
set_option maxHeartbeats 4000000 in
theorem specKeyRead_any (s : ByteArray) (hsm : s.size ≤ maxLen) (w : World) :
    Calls Tryz.prog 13 #[.string s] w fun e w' => ∃ v, e = .returned (.agg #[v, .int .i64 (keyRd s).2]) ∧ OwnV w.heap.size v (keyRd s).1 w' ∧ Below w.heap.size w w' := by
  unfold maxLen at hsm
  by_cases hs : 20000 < s.size
  · have HF : Hid (keyRd s = ([], 2)) := if_pos hs
    go_enter Tryz.func13, Tryz.ntmps13
    go_wp2
    refine bodyPost_ret (v := .agg #[.slice none 0 0, .int .i64 2]) (resVals Tryz.results13 _ _ w.heap.size _ _ rfl (heap_alloc_new _ _)) rfl ⟨.slice none 0 0, by rw [HF.out]; rfl, by rw [HF.out]; exact ⟨rfl, .inl ⟨rfl, rfl⟩⟩, (Below.refl _ _).alloc (Nat.le_refl _) _⟩
  · have HF : Hid (keyRd s = match readN 12 s.data.toList with | none => ([], 3) | some vs => (vs, 0)) := if_neg hs
    have hl := fun W => l02Read_any s (by omega) W
    go_enter Tryz.func13, Tryz.ntmps13
    go_wp2_with fail
    refine (hl _).mono ?_
    rintro e w1 ⟨v, b, rfl, hb1, hm⟩
    have hb2 := below_alloc hb1
    have hg1 := (hb1.block w.heap.size (by simp)).trans (heap_alloc_new _ _)
    obtain ⟨e0, e1, ef⟩ := cells2 hg1
    have HG : Hid (w1.heap[w.heap.size]? = some (.cells #[.slice none 0 0, .int .i64 0] 31 (0, 0))) := hg1
    clear hb1 hg1
    cases hr : readN 12 s.data.toList with
    | none =>
      rw [hr] at hm HF
      simp only at hm
      subst hm
      clear hl hr
      go_wp2
      refine bodyPost_ret (v := .agg #[.slice none 0 0, .int .i64 3]) (resVals Tryz.results13 _ _ w.heap.size _ _ rfl (set2 HG.out)) rfl ⟨.slice none 0 0, by rw [HF.out]; rfl, by rw [HF.out]; exact ⟨rfl, .inl ⟨rfl, rfl⟩⟩, below2 hb2 (Nat.le_refl _)⟩
    | some vs =>
      rw [hr] at hm HF
      simp only at hm
      obtain ⟨rfl, ho⟩ := hm
      obtain ⟨ao, cap, rfl⟩ := ownV_shape ho
      clear hl hr
      go_wp2
      refine bodyPost_ret (v := .agg #[.slice ao vs.length cap, .int .i64 0]) (resVals Tryz.results13 _ _ w.heap.size _ _ rfl (set2 HG.out)) rfl ⟨.slice ao vs.length cap, by rw [HF.out]; rfl, by rw [HF.out]; exact owns_base (owns_set2 ho (by simp)) (by simp), below2 hb2 (Nat.le_refl _)⟩
end Go.Proofs.YtkkggbbpaflieaaGreatDoor
