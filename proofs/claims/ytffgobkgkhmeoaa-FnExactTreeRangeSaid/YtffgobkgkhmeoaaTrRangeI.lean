/-
  Contracts: TreeRange of the program.
-/
import Derived.Test.YtffgobkgkhmeoaaTrRange
import Derived.Test.YtffgobkgkhmeoaaTrStop
import Derived.Test.YtffgobkgkhmeoaaTrSize2
import Derived.Test.YtffgobkgkhmeoaaLong
import Derived.RangeFuncBox
import Derived.Maps.AppendAt
namespace Go.Proofs.Ytffgobkgkhmeoaa
open Go.RowKit Go.Shelf
attribute [local go_sem] Oper.semAt_some
set_option maxRecDepth 100000
set_option linter.unusedVariables false

/-- What is not below low. -/
def selL (low : ByteArray) (l : List ByteArray) : List ByteArray := l.filter fun x => !lt' x low
theorem selL_hit {low : ByteArray} (pre : List ByteArray) {x : ByteArray} (h : lt' x low = false) : selL low (pre ++ [x]) = selL low pre ++ [x] := by simp [selL, h]
theorem selL_miss {low : ByteArray} (pre : List ByteArray) {x : ByteArray} (h : lt' x low = true) : selL low (pre ++ [x]) = selL low pre := by simp [selL, h]
theorem selL_len (low : ByteArray) (l : List ByteArray) : (selL low l).length ≤ l.length := List.length_filter_le ..
theorem selL_all {low high : ByteArray} {l : List ByteArray} (h : ∀ x ∈ l, lt' high x = false) : selL low l = inR low high l := by
  unfold selL inR
  refine List.filter_congr fun x hx => ?_
  rw [h x hx, Bool.not_false, Bool.and_true]
theorem right_srt {t : Tr} (h : (trLev t).isSome = true) : srt none none (allOf t) = true := by
  unfold allOf
  split
  · rfl
  · rename_i hk
    rw [trLev_keys hk] at h
    rw [← rises_srt]
    cases hl : lev 12 t with
    | none => rw [hl] at h; cases h
    | some L =>
      rw [hl] at h
      by_cases hr : rises (inord 12 t) = true
      · exact hr
      · simp [hr] at h
theorem selL_stop {low high : ByteArray} {pre all rest : List ByteArray} {x : ByteArray} (he : all = pre ++ x :: rest) (hs : srt none none all = true) (h : ∀ y ∈ pre, lt' high y = false) (hx : lt' high x = true) : selL low pre = inR low high all := by
  rw [← stop_inR low high all none none hs, he]
  have : (pre ++ x :: rest).takeWhile (fun x => !lt' high x) = pre := by
    rw [List.takeWhile_append_of_pos (fun y hy => by simp [h y hy]), List.takeWhile_cons, if_neg (by simp [hx]), List.append_nil]
  rw [this]; rfl
theorem owns_base {w : World} {a b : Nat} {t : TypeId} {n : Nat} {v : Value} {xs : List Value} (h : w.ownsRow b t 1 v n xs) (hab : a ≤ b) : w.ownsRow a t 1 v n xs := by
  refine ⟨h.1, ?_⟩
  rcases h.2 with h0 | ⟨g, cap, cur, h1, h2, h3⟩
  · exact .inl h0
  · exact .inr ⟨g, cap, cur, h1, by omega, h3⟩
/-- What the list of keys holds between two rounds. -/
def RgAt (R n₀ : Nat) (low high : ByteArray) (w : World) (pre : List ByteArray) (W : World) : Prop :=
  (∃ v, Boxed W R 22 v ∧ W.ownsRow n₀ 9 1 v (selL low pre).length (strsV (selL low pre)) ∧ ∀ x ∈ pre, lt' high x = false) ∧ Below n₀ w W
theorem rgAt_own (R n₀ : Nat) (low high : ByteArray) (w : World) (B : Nat) (hn : n₀ ≤ w.heap.size) (hB : n₀ ≤ B) : OwnFrom B (RgAt R n₀ low high w) :=
  OwnFrom.and (Own.from (holdsRow_own n₀ R 22 9 1 (fun pre => (selL low pre).length) (fun pre => strsV (selL low pre)) (fun pre _ => ∀ x ∈ pre, lt' high x = false)) _) (ownFrom_below hn hB)
def RgX (R n₀ : Nat) (low high : ByteArray) (w : World) (c : Code) (pre : List ByteArray) (W : World) : Prop :=
  (∃ v, Boxed W R 22 v ∧ W.ownsRow n₀ 9 1 v (selL low pre.dropLast).length (strsV (selL low pre.dropLast)) ∧ (c = .exit 0 ∧ ∃ x, pre = pre.dropLast ++ [x] ∧ lt' high x = true ∧ ∀ y ∈ pre.dropLast, lt' high y = false)) ∧ Below n₀ w W
theorem rgX_own (R n₀ : Nat) (low high : ByteArray) (w : World) (B : Nat) (hn : n₀ ≤ w.heap.size) (hB : n₀ ≤ B) (c : Code) : OwnFrom B (RgX R n₀ low high w c) :=
  OwnFrom.and (Own.from (holdsRow_own n₀ R 22 9 1 (fun pre => (selL low pre.dropLast).length) (fun pre => strsV (selL low pre.dropLast)) (fun pre _ => c = .exit 0 ∧ ∃ x, pre = pre.dropLast ++ [x] ∧ lt' high x = true ∧ ∀ y ∈ pre.dropLast, lt' high y = false)) _) (ownFrom_below hn hB)
theorem range_nil {t : Tr} {low high : ByteArray} {w w' : World} (h : rangeOut t low high = []) (hb : Below w.heap.size w w') : RangePost (rangeOut t low high) w (.returned (.slice none 0 0)) w' := by
  rw [h]
  exact ⟨_, rfl, World.ownsRow_nil _ _ _ _, hb⟩
set_option maxHeartbeats 4000000 in
theorem implTreeRange_in (F : Fence) (hF : F = Fence.wide) (n : Nat) (hn : 4 ≤ n) (A B k : Nat) (ko : Option Addr) (kc : Nat) (vo : Option Addr) (vc : Nat) (xo : Option Addr) (xc : Nat) (t : Tr) (low high : ByteArray) (w : World) (hB : B ≤ w.heap.size) (hr : TrRow w A B k t ko vo xo) :
    CallsIn F n Try.prog 17 #[.agg #[.slice ko t.keys.length kc, .slice vo t.vals.length vc, .slice xo t.kids.length xc], .string low, .string high] w (RangePost (rangeOut t low high) w) := by
  have h1 : 1 ≤ n := by omega
  have hf : F.fn 17 := by rw [hF]; trivial
  have hf0 : F.fn 10 := by rw [hF]; trivial
  have hf3 : F.fn 33 := by rw [hF]; trivial
  have hf1 : F.fn 31 := by rw [hF]; trivial
  have hf2 : F.fn 38 := by rw [hF]; trivial
  have hro : F.round = none := by rw [hF]; rfl
  have hd : F.depth = none := by rw [hF]; rfl
  have hdd : ∀ k : Nat, (F.depth.isSome = true → 1 ≤ k) := fun k h => by rw [hd] at h; cases h
  have HF := hide hF
  have HT := hide (fun (m : Nat) (W : World) (hW : Below w.heap.size w W) => show CallsIn F m Try.prog 10 #[.agg #[.slice ko t.keys.length kc, .slice vo t.vals.length vc, .slice xo t.kids.length xc]] W fun e w' => e = .returned (.bool (trLev t).isSome) ∧ Below W.heap.size W w' by rw [hF]; exact callsIn_wide.2 (implTreeRight_any A B k ko kc vo vc xo xc t W (Nat.le_trans hB hW.size) (TrRow.kept (hW.mono hB) k _ _ _ _ hr)))
  have HY := hide (fun (s : ByteArray) (hs : 20000 < s.size) (m : Nat) (W : World) => show CallsIn F m Try.prog 33 #[.string s] W fun e w' => e = .returned (.bool true) ∧ w' = W by rw [hF]; exact callsIn_wide.2 (tooLong_yes s hs W))
  have HN := hide (fun (s : ByteArray) (hs : s.size ≤ 20000) (m : Nat) (W : World) => show CallsIn F m Try.prog 33 #[.string s] W fun e w' => e = .returned (.bool false) ∧ w' = W by rw [hF]; exact callsIn_wide.2 (tooLong_no s hs W))
  have HA := hide (alloc3 w (.cells #[.slice ko t.keys.length kc, .slice vo t.vals.length vc, .slice xo t.kids.length xc] 30) (.cells #[.string low] 9) (.cells #[.string high] 9))
  have HAT := hide (box_tr kc vc xc 30 hB hr)
  have B0 := hide ((((Below.refl w.heap.size w).alloc (Nat.le_refl _) (.cells #[.slice ko t.keys.length kc, .slice vo t.vals.length vc, .slice xo t.kids.length xc] 30)).alloc (by simp) (.cells #[.string low] 9)).alloc (by simp; omega) (.cells #[.string high] 9))
  have HZ : Hid ((((w.alloc (.cells #[.slice ko t.keys.length kc, .slice vo t.vals.length vc, .slice xo t.kids.length xc] 30)).alloc (.cells #[.string low] 9)).alloc (.cells #[.string high] 9)).heap.size = w.heap.size + 3) := by show _ = _; simp
  have HZ1 : Hid ((w.alloc (.cells #[.slice ko t.keys.length kc, .slice vo t.vals.length vc, .slice xo t.kids.length xc] 30)).heap.size = w.heap.size + 1) := by show _ = _; simp
  have HB1 := hide (((Below.refl (w.alloc (.cells #[.slice ko t.keys.length kc, .slice vo t.vals.length vc, .slice xo t.kids.length xc] 30)).heap.size _).alloc (Nat.le_refl _) (.cells #[.string low] 9)).alloc (by simp) (.cells #[.string high] 9))
  have HAT2 := hide (HAT.out.kept HB1.out)
  rw [HZ1.out] at HAT2
  clear hF hr HAT HB1 HZ1
  by_cases hl : 20000 < low.size
  · have HE := hide (fun (W : World) (hb : Below w.heap.size w W) => range_nil (t := t) (low := low) (high := high) (rangeOut_long (.inl hl)) hb)
    have HL1 := hide (HY.out low hl)
    clear hl HY HN HT HAT2 HA HZ
    refine callsIn_of_wp_marks Try.func17 rfl hf ?_ hro
    simp only [Try.ntmps17, List.size_toArray, List.length_cons, List.length_nil, Nat.reduceAdd, Nat.reduceSub, Array.replicate_succ, Array.replicate_zero, List.push_toArray, List.append_toArray, List.nil_append, List.cons_append]
    gi_wp2_with (first | ((try refine ⟨hdd _, ?_⟩); gi_at_call 33; refine (HL1.out _ _).mono ?_; clear HL1; rintro e w1 ⟨rfl, rfl⟩))
    unfold bodyPostM
    exact ⟨_, results_tmp rfl _ _ _, by exact HE.out _ B0.out⟩
  have HL1 := hide (HN.out low (by omega))
  by_cases hh : 20000 < high.size
  · have HE := hide (fun (W : World) (hb : Below w.heap.size w W) => range_nil (t := t) (low := low) (high := high) (rangeOut_long (.inr hh)) hb)
    have HL2 := hide (HY.out high hh)
    clear hl hh HY HN HT HAT2 HA HZ
    refine callsIn_of_wp_marks Try.func17 rfl hf ?_ hro
    simp only [Try.ntmps17, List.size_toArray, List.length_cons, List.length_nil, Nat.reduceAdd, Nat.reduceSub, Array.replicate_succ, Array.replicate_zero, List.push_toArray, List.append_toArray, List.nil_append, List.cons_append]
    gi_wp2_with (first | ((try refine ⟨hdd _, ?_⟩); gi_at_call 33; refine (HL1.out _ _).mono ?_; clear HL1; rintro e w1 ⟨rfl, rfl⟩) | ((try refine ⟨hdd _, ?_⟩); gi_at_call 33; refine (HL2.out _ _).mono ?_; clear HL2; rintro e w1 ⟨rfl, rfl⟩))
    unfold bodyPostM
    exact ⟨_, results_tmp rfl _ _ _, by exact HE.out _ B0.out⟩
  have HL2 := hide (HN.out high (by omega))
  have hno : ¬ (20000 < low.size ∨ 20000 < high.size) := by omega
  clear hl hh HY HN
  cases hq : (trLev t).isSome with
  | false =>
    have HE := hide (fun (W : World) (hb : Below w.heap.size w W) => range_nil (t := t) (low := low) (high := high) (rangeOut_bad hno hq) hb)
    rw [hq] at HT
    clear hq hno HAT2 HA HZ
    refine callsIn_of_wp_marks Try.func17 rfl hf ?_ hro
    simp only [Try.ntmps17, List.size_toArray, List.length_cons, List.length_nil, Nat.reduceAdd, Nat.reduceSub, Array.replicate_succ, Array.replicate_zero, List.push_toArray, List.append_toArray, List.nil_append, List.cons_append]
    gi_wp2_with (first | ((try refine ⟨hdd _, ?_⟩); gi_at_call 33; refine (HL1.out _ _).mono ?_; clear HL1; rintro e w1 ⟨rfl, rfl⟩) | ((try refine ⟨hdd _, ?_⟩); gi_at_call 33; refine (HL2.out _ _).mono ?_; clear HL2; rintro e w1 ⟨rfl, rfl⟩) | ((try refine ⟨hdd _, ?_⟩); gi_at_call 10; refine (HT.out _ _ B0.out).mono ?_; rintro e w1 ⟨rfl, b1⟩; have BB1 := hide b1; clear b1))
    unfold bodyPostM
    exact ⟨_, results_tmp rfl _ _ _, by exact HE.out _ (B0.out.trans (BB1.out.mono B0.out.size))⟩
  | true =>
    have HE := hide (rangeOut_ok hno hq)
    have HSR := hide (right_srt hq)
    have HLE := hide (allOf_le hq)
    have HQ := hide hq
    rw [hq] at HT
    obtain ⟨res, hres⟩ : ∃ res, rangeOut t low high = res := ⟨_, rfl⟩
    have HRES := hide hres
    rw [hres]
    clear hq hno hres
    refine callsIn_of_wp_marks Try.func17 rfl hf ?_ hro
    simp only [Try.ntmps17, List.size_toArray, List.length_cons, List.length_nil, Nat.reduceAdd, Nat.reduceSub, Array.replicate_succ, Array.replicate_zero, List.push_toArray, List.append_toArray, List.nil_append, List.cons_append]
    gi_wp2_with (first | ((try refine ⟨hdd _, ?_⟩); gi_at_call 33; refine (HL1.out _ _).mono ?_; clear HL1; rintro e w1 ⟨rfl, rfl⟩) | ((try refine ⟨hdd _, ?_⟩); gi_at_call 33; refine (HL2.out _ _).mono ?_; clear HL2; rintro e w1 ⟨rfl, rfl⟩) | ((try refine ⟨hdd _, ?_⟩); gi_at_call 10; refine (HT.out _ _ B0.out).mono ?_; rintro e w1 ⟨rfl, b1⟩; have BB1 := hide b1; clear b1) | ((try refine ⟨hdd _, ?_⟩); gi_at_call 31; refine (keysOf_in F _ hf1 hro _ _).mono ?_; rintro e w' ⟨rfl, rfl⟩))
    have B1 := hide (B0.out.trans (BB1.out.mono B0.out.size))
    have hz1 : w.heap.size + 3 ≤ w1.heap.size := by have := BB1.out.size; rw [HZ.out] at this; exact this
    have HAT3 := hide (HAT2.out.kept (BB1.out.mono (by rw [HZ.out]; omega)))
    have LO1 := hide ((BB1.out.block (w.heap.size + 1) (by rw [HZ.out]; omega)).trans HA.out.2.1)
    have HI1 := hide ((BB1.out.block (w.heap.size + 1 + 1) (by rw [HZ.out]; omega)).trans HA.out.2.2)
    obtain ⟨W2, hW2⟩ : ∃ W2, (w1.alloc (.cells #[.slice none 0 0] 22)).alloc (.cells #[.pointer (some ⟨w.heap.size, 0, none⟩)] 47) = W2 := ⟨_, rfl⟩
    have hs2 : W2.heap.size = w1.heap.size + 2 := by rw [← hW2]; simp
    have hB2 : Below w1.heap.size w1 W2 := by
      rw [← hW2]
      exact ((Below.refl w1.heap.size w1).alloc (Nat.le_refl _) _).alloc (by simp) _
    have c0 : Boxed W2 w1.heap.size 22 (.slice none 0 0) := by
      rw [← hW2]; exact (Boxed.new w1 _ _).alloc _
    have c1 : W2.cell? ⟨w1.heap.size + 1, 0, none⟩ = some (.pointer (some ⟨w.heap.size, 0, none⟩)) := by
      rw [← hW2]
      have := (box_new (w1.alloc (.cells #[.slice none 0 0] 22)) (.pointer (some ⟨w.heap.size, 0, none⟩)) 47).1
      rw [World.size_alloc] at this
      exact this
    have LO2 : Hid (W2.cell? ⟨w.heap.size + 1, 0, none⟩ = some (.string low)) := by
      show _ = _
      rw [cell_of_row _ _ _ _ _ _ ((hB2.block _ (by omega)).trans LO1.out)]; rfl
    have HI2 : Hid (W2.cell? ⟨w.heap.size + 1 + 1, 0, none⟩ = some (.string high)) := by
      show _ = _
      rw [cell_of_row _ _ _ _ _ _ ((hB2.block _ (by omega)).trans HI1.out)]; rfl
    rw [hW2]
    have HST := right_stops F HF.out (n - 1) (w1.heap.size + 1) (w.heap.size + 3) A k t w.heap.size 0 W2 (by omega) (by omega) c1 HQ.out ((HAT3.out.mono (by omega)).kept (hB2.mono hz1))
    have HBW := hide (B1.out.trans (hB2.mono (by omega)))
    obtain ⟨i0, hi, hz0, hz1', hz2⟩ := info_parts Try.infoStr'
    clear hW2 HAT2 HAT3 HT BB1 B0 HZ LO1 HI1 HA B1
    refine wpIn_rangeFunc_ownF hro h1 (gf := 38) (lb := #[.pointer (some ⟨w1.heap.size + 1, 0, none⟩)]) rfl hf2 (enters_of Try.func38 (by kernel_rfl) rfl)
      HST belowK_t (belowK_b (by omega)) (Below.refl _ _) (fun _ => rfl)
      (RgAt w1.heap.size (w.heap.size + 3) low high W2) (RgX w1.heap.size (w.heap.size + 3) low high W2) (rgAt_own _ _ _ _ _ _ (by omega) (by omega)) (rgX_own _ _ _ _ _ _ (by omega) (by omega))
      ⟨⟨_, c0, World.ownsRow_nil _ _ _ _, fun x hx => by simp at hx⟩, Below.refl _ _⟩
      (fun x => { tmps := #[.agg #[.slice ko t.keys.length kc, .slice vo t.vals.length vc, .slice xo t.kids.length xc], .string low, .string high, .pointer (some ⟨w.heap.size, 0, none⟩), .pointer (some ⟨w.heap.size + 1, 0, none⟩), .pointer (some ⟨w.heap.size + 1 + 1, 0, none⟩), .slice none 0 0, .pointer (some ⟨w1.heap.size, 0, none⟩), .string x, .string low, .bool false, .bool false, .string high, .bool false, .bool false, .bool false, .agg #[.slice ko t.keys.length kc, .slice vo t.vals.length vc, .slice xo t.kids.length xc], .bool true, .bool false, .bool false, .func (.func 38) #[] #[.pointer (some ⟨w1.heap.size + 1, 0, none⟩)], .string x, undef, undef, undef, undef, undef, undef, undef, undef, undef, undef, undef], defers := [] }) ?assign ?body ?done ?stop
    case assign =>
      intro l x W K hK
      gi_wp2
      first | exact hK | simpa using hK | (simp [Array.zip, Array.zipWith]; exact hK)
    case body =>
      rintro l pre x W ⟨⟨v, hv, hrow, hall⟩, hBb⟩ hlen
      have hb : pre.length ≤ 16777216 := by have := HLE.out; omega
      have hsl := selL_len low pre
      have hc := hv.cell
      have clo : W.cell? ⟨w.heap.size + 1, 0, none⟩ = some (.string low) := (hBb.cell (p := ⟨w.heap.size + 1, 0, none⟩) (by show w.heap.size + 1 < w.heap.size + 3; omega)).trans LO2.out
      have chi : W.cell? ⟨w.heap.size + 1 + 1, 0, none⟩ = some (.string high) := (hBb.cell (p := ⟨w.heap.size + 1 + 1, 0, none⟩) (by show w.heap.size + 1 + 1 < w.heap.size + 3; omega)).trans HI2.out
      have hBs := hBb.size
      have q2 := le_not_lt x high
      by_cases q1 : lt' high x = true
      · have HP : Hid (KeepsOthers W W ∧ RgX w1.heap.size (w.heap.size + 3) low high W2 (.exit 0) (pre ++ [x]) W) := ⟨KeepsOthers.refl _, ⟨v, hv, by rw [List.dropLast_concat]; exact hrow, rfl, x, by rw [List.dropLast_concat], q1, by rw [List.dropLast_concat]; exact hall⟩, hBb⟩
        rw [q1, Bool.not_true, Bool.or_eq_false_iff] at q2
        obtain ⟨q4, q5⟩ := q2
        clear q1 hall hrow hc hv HST HLE
        gi_wp2
        exact HP.out
      · rw [Bool.not_eq_true] at q1
        have hall2 : ∀ y ∈ pre ++ [x], lt' high y = false := fun y hy => by
          rcases List.mem_append.1 hy with h | h
          · exact hall y h
          · simp at h; subst h; exact q1
        have HALL := hide hall2
        have hq4 : Hid (Go.Op.bytesLess x.toList high.toList = true ∨ (Go.Op.bytesLess x.toList high.toList = false ∧ (x.toList == high.toList) = true)) := by
          rw [q1, Bool.not_false] at q2
          cases hh : Go.Op.bytesLess x.toList high.toList with
          | true => exact .inl rfl
          | false => rw [hh, Bool.false_or] at q2; exact .inr ⟨rfl, q2⟩
        clear q2
        by_cases q3 : lt' x low = true
        · have HP : Hid (KeepsOthers W W ∧ Below (w.heap.size + 3) W W ∧ RgAt w1.heap.size (w.heap.size + 3) low high W2 (pre ++ [x]) W) := ⟨KeepsOthers.refl _, Below.refl _ _, ⟨v, hv, by rw [selL_miss pre q3]; exact hrow, HALL.out⟩, hBb⟩
          have q3' : Go.Op.bytesLess x.toList low.toList = true := q3
          clear q1 q3 hall hall2 hrow hc hv HST HLE
          rcases hq4.out with q5 | ⟨q5, q6⟩
          · gi_wp2
            exact HP.out
          · gi_wp2
            exact HP.out
        · rw [Bool.not_eq_true] at q3
          have q3' : Go.Op.bytesLess x.toList low.toList = false := q3
          have HP : Hid (∀ W' v', KeepsOthers W W' → Below (w.heap.size + 3) W W' → Boxed W' w1.heap.size 22 v' → W'.ownsRow (w.heap.size + 3) 9 1 v' ((selL low pre).length + 1) (strsV (selL low pre) ++ [.string x]) → (KeepsOthers W W' ∧ Below (w.heap.size + 3) W W' ∧ RgAt w1.heap.size (w.heap.size + 3) low high W2 (pre ++ [x]) W')) := fun W' v' k1 b1 x1 o1 => ⟨k1, b1, ⟨v', x1, by rw [selL_hit pre q3]; exact ownS_snoc o1, HALL.out⟩, hBb.trans b1⟩
          clear q1 q3 hall hall2 HST HLE
          rcases hq4.out with q5 | ⟨q5, q6⟩
          · gi_wp2_with (gi_at_builtin; refine wpListIn_append_own _ rfl _ _ 22 rfl (w.heap.size + 3) 9 i0 (.string ⟨#[]⟩) 1 16 Try.underlying22 hi hz0 hz1' hz2 rfl (by decide) _ _ _ rfl (hrow.alloc _) ⟨W.heap.size, 0, none⟩ 1 1 [.string x] rfl rfl (cell_one_new _ _ _) (by simp [Value.oneCell']) (by unfold maxLen; omega) (by omega) (by simp; omega) ?_; intro v' w2 hown' hgrow _; obtain ⟨g', cap', rfl⟩ := ownsRow_succ hown'; obtain ⟨hv1, hv2, hr2, hk2, hb2⟩ := hv.appended (by decide) hrow (by omega) (by omega) hown' hgrow; have hc1 := hv1.cell; have hf1 := hv1.frozen)
            exact HP.out _ _ hk2 hb2 hv2 hr2
          · gi_wp2_with (gi_at_builtin; refine wpListIn_append_own _ rfl _ _ 22 rfl (w.heap.size + 3) 9 i0 (.string ⟨#[]⟩) 1 16 Try.underlying22 hi hz0 hz1' hz2 rfl (by decide) _ _ _ rfl (hrow.alloc _) ⟨W.heap.size, 0, none⟩ 1 1 [.string x] rfl rfl (cell_one_new _ _ _) (by simp [Value.oneCell']) (by unfold maxLen; omega) (by omega) (by simp; omega) ?_; intro v' w2 hown' hgrow _; obtain ⟨g', cap', rfl⟩ := ownsRow_succ hown'; obtain ⟨hv1, hv2, hr2, hk2, hb2⟩ := hv.appended (by decide) hrow (by omega) (by omega) hown' hgrow; have hc1 := hv1.cell; have hf1 := hv1.frozen)
            exact HP.out _ _ hk2 hb2 hv2 hr2
    case done =>
      rintro D ys W hD rfl ⟨⟨v, hv, hrow, hall⟩, hBb⟩ hK
      have hc := hv.cell
      have HR := hide (selL_all (low := low) hall)
      gi_wp2
      refine ⟨by simp, .inl ⟨_, _, rfl, run_takeDeferred hK, ?_⟩⟩
      refine ⟨_, results_tmp rfl _ _ _, v, rfl, ?_, (HBW.out.trans (hBb.mono (by omega))).trans (belowK_b (w := w) (Nat.le_refl _) _ D _ _ (by omega) hK rfl rfl)⟩
      rw [← HRES.out, HE.out, ← HR.out]
      exact owns_base (ownsRow_putObj hrow _ hK rfl) (by omega)
    case stop =>
      rintro D c pre W hD hp ⟨⟨v, hv, hrow, rfl, x, he, hx, hall⟩, hBb⟩ hK
      have hc := hv.cell
      have HR : Hid (selL low pre.dropLast = inR low high (allOf t)) := by
        obtain ⟨rest, hrest⟩ := hp
        have h9 : allOf t = pre.dropLast ++ x :: rest := by
          rw [← hrest]
          conv => lhs; rw [he]
          simp
        exact selL_stop (rest := rest) (x := x) h9 HSR.out hall hx
      clear he
      gi_wp2
      refine ⟨by simp, .inl ⟨_, _, rfl, run_takeDeferred hK, ?_⟩⟩
      refine ⟨_, results_tmp rfl _ _ _, v, rfl, ?_, (HBW.out.trans (hBb.mono (by omega))).trans (belowK_b (w := w) (Nat.le_refl _) _ D _ _ (by omega) hK rfl rfl)⟩
      rw [← HRES.out, HE.out, ← HR.out]
      exact owns_base (ownsRow_putObj hrow _ hK rfl) (by omega)
theorem implTreeRange_any (A B n : Nat) (ko : Option Addr) (kc : Nat) (vo : Option Addr) (vc : Nat) (xo : Option Addr) (xc : Nat) (t : Tr) (low high : ByteArray) (w : World) (hB : B ≤ w.heap.size) (hr : TrRow w A B n t ko vo xo) :
    Calls Try.prog 17 #[.agg #[.slice ko t.keys.length kc, .slice vo t.vals.length vc, .slice xo t.kids.length xc], .string low, .string high] w (RangePost (rangeOut t low high) w) :=
  callsIn_wide.1 (implTreeRange_in Fence.wide rfl 4 (Nat.le_refl _) A B n ko kc vo vc xo xc t low high w hB hr)
end Go.Proofs.Ytffgobkgkhmeoaa
