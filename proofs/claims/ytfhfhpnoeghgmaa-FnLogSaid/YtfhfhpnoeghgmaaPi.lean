/-
  Contracts and plain laws, part 9 of 12: LgP, RdG, GetNumS, GetTextS, RdS, RdSA, RdFst, LgP2
-/
import Derived.Deep.RegionHeld3
import Derived.Deep.DrawnRows
import Derived.Test.YtfhfhpnoeghgmaaPh

/-
  Records that stand at the beginning of a text: plain.
-/
namespace Go.Proofs.Ytfhfhpnoeghgmaa
open Go.RowKit
set_option maxRecDepth 100000

theorem ba_ext {a b : ByteArray} (h : a.data.toList = b.data.toList) : a = b := by
  cases a; cases b
  simp only [ByteArray.mk.injEq]
  exact Array.toList_inj.1 h
theorem ext_list (s : ByteArray) (i j : Nat) : (s.extract i j).data.toList = (s.data.toList.drop i).take (j - i) := by
  have e : s.extract i j = (ByteArray.mk s.data.toList.toArray).extract i j := rfl
  rw [e, ByteArray.extract_mk]
theorem fold_unz (U : Nat) : foldN (unz U) = U := by
  unfold unz foldN
  split <;> split <;> omega
/-- What is read as a number has just that number's bytes. -/
theorem rd_canon : ∀ (l : List UInt8) (k u m : Nat) (v : Int), k ≤ 9 → rd k u l = (v, m, 0) →
    ∃ U, v = unz (u + U * 2 ^ (7 * k)) ∧ m = k + (putL (9 - k) U).length ∧ l.take (m - k) = (putL (9 - k) U).map toB ∧ U < 2 ^ (64 - 7 * k) ∧ (0 < k → 0 < U)
  | [], k, u, m, v, _, h => by simp [rd] at h
  | b :: l, k, u, m, v, hk, h => by
    have hb256 : b.toNat < 256 := b.toNat_lt
    by_cases hA : k = 9 ∧ 1 < b.toNat
    · rw [rd_big hA.1 hA.2] at h; simp at h
    by_cases hb : b.toNat < 128
    · by_cases hz : b.toNat = 0 ∧ 0 < k
      · rw [rd_nought hz.2 hz.1] at h; simp at h
      · rw [rd_last hA hb hz] at h
        simp only [Prod.mk.injEq, and_true] at h
        obtain ⟨h1, h2⟩ := h
        subst h1 h2
        refine ⟨b.toNat, by rw [Nat.mod_eq_of_lt hb], by rw [putL_small _ _ hb]; rfl, ?_, ?_, fun hk0 => by omega⟩
        · rw [putL_small _ _ hb, show k + 1 - k = 1 by omega]
          simp only [List.take_succ_cons, List.take_zero, List.map_cons, List.map_nil, List.cons.injEq, and_true]
          apply UInt8.toNat.inj
          rw [toB_small hb256]
        · by_cases h9 : k = 9
          · subst h9
            have : ¬ 1 < b.toNat := fun e => hA ⟨rfl, e⟩
            show _ < 2
            omega
          · have h1 : 2 ^ 8 ≤ 2 ^ (64 - 7 * k) := Nat.pow_le_pow_right (by omega) (by omega)
            omega
    · have h9 : ¬ k = 9 := fun e => hA ⟨e, by omega⟩
      rw [rd_more h9 hb] at h
      obtain ⟨U, e1, e2, e3, e4, e5⟩ := rd_canon l (k + 1) _ m v (by omega) h
      have hd : (b.toNat % 128 + 128 * U) / 128 = U := by omega
      have hm : (b.toNat % 128 + 128 * U) % 128 = b.toNat % 128 := by omega
      have hU : 0 < U := e5 (by omega)
      have hbig : ¬ b.toNat % 128 + 128 * U < 128 := by omega
      have hp : putL (9 - k) (b.toNat % 128 + 128 * U) = ((b.toNat % 128 + 128 : Nat) : Int) :: putL (9 - (k + 1)) U := by
        rw [show 9 - k = (9 - (k + 1)) + 1 by omega, putL_big _ _ hbig, hd, hm]
      refine ⟨b.toNat % 128 + 128 * U, ?_, ?_, ?_, ?_, fun _ => by omega⟩
      · rw [e1]
        congr 1
        have := sum_step k u (b.toNat % 128 + 128 * U)
        rw [hd, hm] at this
        exact this
      · rw [hp, List.length_cons, e2]; omega
      · have hmk : m - k = (m - (k + 1)) + 1 := by rw [e2]; omega
        rw [hp, hmk, List.take_succ_cons, e3, List.map_cons]
        congr 1
        apply UInt8.toNat.inj
        rw [toB_small (by omega)]
        omega
      · have e : 2 ^ (64 - 7 * k) = 128 * 2 ^ (64 - 7 * (k + 1)) := by
          rw [show 64 - 7 * k = 7 + (64 - 7 * (k + 1)) by omega, Nat.pow_add]
        rw [e]
        omega
theorem rdAt_canon {L : List UInt8} {p m : Nat} {v : Int} (h : rdAt L p = (v, m, 0)) : L.drop p = numB v ++ L.drop (p + m) ∧ m = (numB v).length := by
  obtain ⟨U, e1, e2, e3, _, _⟩ := rd_canon (L.drop p) 0 0 m v (by omega) h
  have ev : v = unz U := by simpa using e1
  have hn : numB v = (putL 9 U).map toB := by unfold numB; rw [ev, fold_unz]
  have e3' : (L.drop p).take m = numB v := by rw [hn]; exact e3
  refine ⟨?_, by rw [hn, List.length_map]; simpa using e2⟩
  rw [← e3', ← List.drop_drop, List.take_append_drop]
/-- What stands as a text at a place: a number's bytes, then so many bytes. -/
theorem txtAt_canon {s : ByteArray} {p : Nat} (h : (txtAt s p).2.2 = 0) : ∃ at2 : Nat, (txtAt s p).2.1 = (at2 : Int) ∧ s.data.toList.drop p = numB ((txtAt s p).1.size : Int) ++ ((txtAt s p).1.data.toList ++ s.data.toList.drop at2) ∧ at2 = p + (numB ((txtAt s p).1.size : Int)).length + (txtAt s p).1.size := by
  have hbl := behind_le s p
  unfold txtAt at *
  obtain ⟨r, hr⟩ : ∃ r, r = rdAt s.data.toList p := ⟨_, rfl⟩
  rw [← hr] at h hbl ⊢
  obtain ⟨v, m, c⟩ := r
  simp only at h hbl ⊢
  have hc : c = 0 := by
    unfold textOf at h
    split at h
    · exact h
    · rename_i h1; omega
  subst hc
  have hbe : behind p (v, m, 0) = ((p + m : Nat) : Int) := rfl
  rw [hbe] at h hbl ⊢
  have hb := hbl rfl
  obtain ⟨hd, hm⟩ := rdAt_canon hr.symm
  unfold textOf at h ⊢
  rw [if_neg (by simp)] at h ⊢
  split at h
  · simp at h
  rename_i h1
  split at h
  · simp at h
  rename_i h2
  rw [if_neg h1, if_neg h2]
  obtain ⟨n, rfl⟩ : ∃ n : Nat, v = (n : Int) := ⟨v.toNat, by omega⟩
  have hsz : (s.extract (p + m) (p + m + n)).size = n := by rw [ByteArray.size_extract]; omega
  have e1 : (((p + m : Nat) : Int)).toNat = p + m := by omega
  have e2 : (((p + m : Nat) : Int) + (n : Int)).toNat = p + m + n := by omega
  simp only [e1, e2]
  refine ⟨p + m + n, by omega, ?_, by rw [hsz]; omega⟩
  have e3 : s.data.toList.drop (p + m + n) = (s.data.toList.drop (p + m)).drop n := by rw [List.drop_drop]
  rw [hsz, hd, ext_list, show p + m + n - (p + m) = n by omega, e3, List.take_append_drop]
/-- A text's bytes behind others: the text is read. -/
theorem txtAt_put {s t : ByteArray} {a rest : List UInt8} (ht : t.size ≤ 6000) (hs : s.data.toList = a ++ (numB (t.size : Int) ++ (t.data.toList ++ rest))) : txtAt s a.length = (t, ((a.length + (numB (t.size : Int)).length + t.size : Nat) : Int), 0) := by
  have hr : rdAt s.data.toList a.length = ((t.size : Int), (numB (t.size : Int)).length, 0) := by
    rw [hs, ← List.append_assoc]
    exact rdAt_put _ (by omega) (by omega) a _
  have hl : s.size = a.length + (numB (t.size : Int)).length + t.size + rest.length := by
    have h1 : s.data.toList.length = s.size := rfl
    have h2 : t.data.toList.length = t.size := rfl
    rw [hs] at h1
    simp only [List.length_append] at h1
    omega
  have hx : s.extract (a.length + (numB (t.size : Int)).length) (a.length + (numB (t.size : Int)).length + t.size) = t := by
    apply ba_ext
    have h2 : t.data.toList.length = t.size := rfl
    rw [ext_list, hs, ← List.append_assoc, List.drop_append_of_le_length (by simp), List.drop_of_length_le (by simp), List.nil_append, show a.length + (numB (t.size : Int)).length + t.size - (a.length + (numB (t.size : Int)).length) = t.size by omega, ← h2, List.take_left']
    rfl
  unfold txtAt
  rw [hr]
  show textOf s (t.size : Int) ((a.length + (numB (t.size : Int)).length : Nat) : Int) 0 = _
  generalize (numB (t.size : Int)).length = m at *
  unfold textOf
  rw [if_neg (by simp), if_neg (by omega), if_neg (by omega)]
  have e1 : (((a.length + m : Nat) : Int)).toNat = a.length + m := by omega
  have e2 : (((a.length + m : Nat) : Int) + (t.size : Int)).toNat = a.length + m + t.size := by omega
  rw [e1, e2, hx]
  simp
theorem recL_eq (q : Int) {t : ByteArray} (h : t.size ≤ 20000) : recL q t = (76 :: numB q) ++ (numB (t.size : Int) ++ t.data.toList) := by
  unfold recL
  rw [numS_data, putT_yes h, mkS_list, numS_data]
  simp
/-- A record's bytes at the beginning: the record is read. -/
theorem txtAt_rec {s : ByteArray} {q : Int} {t : ByteArray} {rest : List UInt8} (ht : t.size ≤ 6000) (hs : s.data.toList = recL q t ++ rest) : (txtAt s (1 + (numS q).size)).1 = t ∧ (txtAt s (1 + (numS q).size)).2.2 = 0 := by
  have hn : (76 :: numB q).length = 1 + (numS q).size := by
    have : (numS q).data.toList.length = (numS q).size := rfl
    rw [← this, numS_data, List.length_cons]; omega
  have hs' : s.data.toList = (76 :: numB q) ++ (numB (t.size : Int) ++ (t.data.toList ++ rest)) := by rw [hs, recL_eq q (by omega)]; simp
  have h := txtAt_put ht hs'
  rw [hn] at h
  rw [h]
  exact ⟨rfl, rfl⟩
/-- The record of that number that stands at the beginning of a text. -/
def recAt (s : ByteArray) (q : Int) : Option ByteArray :=
  if (txtAt s (1 + (numS q).size)).2.2 = 0 ∧ recRight q (txtAt s (1 + (numS q).size)).1 = true ∧ (recS q (txtAt s (1 + (numS q).size)).1).data.toList <+: s.data.toList then some (txtAt s (1 + (numS q).size)).1 else none
theorem recAt_iff (s : ByteArray) (q : Int) (t : ByteArray) : recAt s q = some t ↔ recRight q t = true ∧ (recS q t).data.toList <+: s.data.toList := by
  unfold recAt
  constructor
  · intro h
    split at h
    · rename_i hc
      simp only [Option.some.injEq] at h
      subst h
      exact hc.2
    · simp at h
  · rintro ⟨hr, rest, hp⟩
    have ht := ((recRight_iff q t).1 hr).2
    rw [recS_eq ht, mkS_list, List.append_assoc] at hp
    obtain ⟨hx1, hx2⟩ := txtAt_rec ht hp.symm
    rw [hx1, hx2]
    rw [if_pos ⟨rfl, hr, ⟨rest, by rw [recS_eq ht, mkS_list, List.append_assoc]; exact hp⟩⟩]
end Go.Proofs.Ytfhfhpnoeghgmaa

/-
  What the readers' walks share.
-/
namespace Go.Proofs.Ytfhfhpnoeghgmaa
open Go.RowKit
set_option maxRecDepth 100000

theorem set12 {W : World} {g : Nat} {x a b y z : Value} {t : TypeId} (h : W.heap[g]? = some (.cells #[x, a, b] t (0, 0))) :
    ((W.setCell ⟨g, 1, none⟩ y).setCell ⟨g, 2, none⟩ z).heap[g]? = some (.cells #[x, y, z] t (0, 0)) := by
  have h1 := heap_setCell_same W g 1 _ t y h
  have h2 := heap_setCell_same _ g 2 _ t z h1
  simpa using h2
theorem setc2 {W : World} {g : Nat} {x a b z : Value} {t : TypeId} (h : W.heap[g]? = some (.cells #[x, a, b] t (0, 0))) :
    (W.setCell ⟨g, 2, none⟩ z).heap[g]? = some (.cells #[x, a, z] t (0, 0)) := by
  have h2 := heap_setCell_same W g 2 _ t z h
  simpa using h2
theorem grown_drew {w : World} {r : Option Nat} : w.grownBy w.drew r := grown_below' (grown_refl w r) ((Below.refl _ _).drew)
where grown_below' {w W W' : World} {r : Option Nat} (h : w.grownBy W r) (hb : Below W.heap.size W W') : w.grownBy W' r :=
  ⟨hb.os.trans h.os, hb.tape.trans h.tape, hb.output.trans h.output, Nat.le_trans h.size hb.size, fun k hk hne => (hb.block k (Nat.lt_of_lt_of_le hk h.size)).trans (h.block k hk hne)⟩
theorem rd_zero : ∀ (l : List UInt8) (k u : Nat), (rd k u l).2.2 ≠ 0 → (rd k u l).1 = 0
  | [], _, _, _ => rfl
  | b :: l, k, u, h => by
    unfold rd at *
    split
    · rfl
    · rename_i hA
      rw [if_neg hA] at h
      split
      · rename_i hb
        rw [if_pos hb] at h
        split
        · rfl
        · rename_i hz
          rw [if_neg hz] at h
          exact absurd rfl h
      · rename_i hb
        rw [if_neg hb] at h
        exact rd_zero l _ _ h
theorem txt_zero (s : ByteArray) (p : Nat) (h : (txtAt s p).2.2 ≠ 0) : (txtAt s p).1 = ByteArray.empty := by
  unfold txtAt textOf at *
  split
  · rfl
  · split
    · rfl
    · split
      · rfl
      · rename_i h1 h2 h3
        rw [if_neg h1, if_neg h2, if_neg h3] at h
        exact absurd rfl h
theorem grown_some {w w1 w2 : World} {g base : Nat} {v : Value} (h : w.grownBy w1 (some g)) (hg : w1.grownBy w2 v.ownBlock) (hb : w.heap.size ≤ base) (hv : ∀ k, v.ownBlock = some k → base ≤ k) : w.grownBy w2 (some g) :=
  ⟨hg.os.trans h.os, hg.tape.trans h.tape, hg.output.trans h.output, Nat.le_trans h.size hg.size, fun k hk hne => (hg.block k (Nat.lt_of_lt_of_le hk h.size) (fun e => by have := hv k e.symm; omega)).trans (h.block k hk hne)⟩
theorem grown_alloc' {w w1 : World} {g : Nat} (h : w.grownBy w1 (some g)) (o : Obj) : w.grownBy (w1.alloc o) (some g) := grown_below h ((Below.refl _ _).alloc (Nat.le_refl _) o)
/-- What a block that was made behind the start holds does not matter to the frame. -/
theorem grown_new {w w1 : World} {g R : Nat} (h : w.grownBy w1 (some g)) (hR : w.heap.size ≤ R) (m : Nat) (x : Value) : w.grownBy (w1.setCell ⟨R, m, none⟩ x) (some g) := by
  have hb : Below 0 w1 (w1.setCell ⟨R, m, none⟩ x) := (Below.refl 0 w1).setCell (Nat.zero_le _) x
  exact ⟨hb.os.trans h.os, hb.tape.trans h.tape, hb.output.trans h.output, Nat.le_trans h.size hb.size, fun k hk hne => (heap_setCell_other w1 ⟨R, m, none⟩ k x (show k ≠ R by omega)).trans (h.block k hk hne)⟩
end Go.Proofs.Ytfhfhpnoeghgmaa

/-
  Contracts: GetNum of the specification.
-/
namespace Go.Proofs.Ytfhfhpnoeghgmaa
open Go.RowKit

theorem prod9 (b k : Nat) (h : k = 9) : (b : Int) % 128 * 9223372036854775808 = ((b % 128 * 2 ^ (7 * k) : Nat) : Int) := by subst h; simp
theorem retN {V : Value} {a b n q : Int} (hV : V = nOut n q 0) (h1 : a = n) (h2 : b = q) : Ending.returned (.agg #[.int .i64 a, .int .i64 b, .int .i64 0]) = .returned V := by rw [hV, h1, h2]; rfl

set_option maxRecDepth 100000 in
set_option maxHeartbeats 4000000 in
theorem specGetNum_any (s : ByteArray) (a : Int) (ha : a ≤ 9223372036854775807) (w : World) :
    Calls Try.prog 127 #[.string s, .int .i64 a] w fun e w' => e = .returned (getNumV s a) ∧ Below w.heap.size w w' := by
  by_cases h1 : 20000 < s.size
  · have H : Hid (getNumV s a = nOut 0 0 2) := by show _ = _; unfold getNumV getNum3; rw [if_pos h1]; rfl
    go_enter Try.func127, Try.ntmps127
    go_wp2
    refine bodyPost_ret (v := nOut 0 0 2) (resNum Try.results127 _ _ w.heap.size _ _ _ rfl (heap_alloc_new _ _)) rfl ⟨by rw [H.out], (Below.refl _ _).alloc (Nat.le_refl _) _⟩
  by_cases h2 : a < 0
  · have H : Hid (getNumV s a = nOut 0 0 1) := by show _ = _; unfold getNumV getNum3; rw [if_neg h1, if_pos h2]; rfl
    go_enter Try.func127, Try.ntmps127
    go_wp2
    refine bodyPost_ret (v := nOut 0 0 1) (resNum Try.results127 _ _ w.heap.size _ _ _ rfl (heap_alloc_new _ _)) rfl ⟨by rw [H.out], (Below.refl _ _).alloc (Nat.le_refl _) _⟩
  obtain ⟨p, rfl⟩ := Int.eq_ofNat_of_zero_le (show 0 ≤ a by omega)
  have H : Hid (getNumV s p = nOut (rdAt s.data.toList p).1 (behind p (rdAt s.data.toList p)) (rdAt s.data.toList p).2.2) := by
    show _ = _; unfold getNumV getNum3; rw [if_neg h1, if_neg (by omega), Int.toNat_natCast]
  go_enter Try.func127, Try.ntmps127
  go_wp2
  go_loop [5, 6] (fun x i => ∃ k u : Nat, k ≤ 9 ∧ i = .int .i64 k ∧ x = .int .u64 u ∧ Hid (u < 2 ^ (7 * k)) ∧ Hid (rdAt s.data.toList p = rd k u (s.data.toList.drop (p + k)))) (fun _ i => 10 - (intOf i).toNat)
  case atStart => exact ⟨0, 0, by omega, rfl, rfl, by show _ < _; omega, rfl⟩
  case round =>
    obtain ⟨k, u, hk, rfl, rfl, HU, HR⟩ := hrel
    by_cases hlt : p + k < s.size
    · have hbl : s[p + k].toNat < 256 := s[p + k].toNat_lt
      have HD : Hid (s.data.toList.drop (p + k) = s[p + k] :: s.data.toList.drop (p + k + 1)) := drop_cons s (p + k) hlt
      by_cases hA : k = 9 ∧ 1 < s[p + k].toNat
      · have HF : Hid (rdAt s.data.toList p = (0, 0, 3)) := by
          show _ = _
          rw [HR.out, HD.out, rd_big hA.1 hA.2]
        have h9 : 9 ≤ k := by omega
        have hb1 := hA.2
        clear hA HR HD HU
        go_wp2
        refine bodyPost_ret (v := nOut 0 0 3) (resNum Try.results127 _ _ w.heap.size _ _ _ rfl (heap_alloc_new _ _)) rfl ⟨by rw [H.out, HF.out]; rfl, (Below.refl _ _).alloc (Nat.le_refl _) _⟩
      · by_cases hb : s[p + k].toNat < 128
        · by_cases hz : s[p + k].toNat = 0 ∧ 0 < k
          · have HF : Hid (rdAt s.data.toList p = (0, 0, 3)) := by
              show _ = _
              rw [HR.out, HD.out, rd_nought hz.2 hz.1]
            have hz1 : s[p + k].toNat < 1 := by omega
            have hz2 := hz.2
            clear hz HR HD HU hA
            go_wp2
            all_goals refine bodyPost_ret (v := nOut 0 0 3) (resNum Try.results127 _ _ w.heap.size _ _ _ rfl (heap_alloc_new _ _)) rfl ⟨by rw [H.out, HF.out]; rfl, (Below.refl _ _).alloc (Nat.le_refl _) _⟩
          · have HF : Hid (rdAt s.data.toList p = (unz (u + s[p + k].toNat % 128 * 2 ^ (7 * k)), k + 1, 0)) := by
              show _ = _
              rw [HR.out, HD.out, rd_last hA hb hz]
            have hpl := prod_lt hk hA
            have hsl := sum_lt hk HU.out hA
            rcases Nat.lt_or_ge k 9 with h9 | h9
            · have hwp := wrap_prod hpl
              generalize s[p + k].toNat % 128 * 2 ^ (7 * k) = pr at *
              clear HR HD HU hpl
              rcases Nat.mod_two_eq_zero_or_one (u + pr) with hm | hm
              · have HX : Hid (unz (u + pr) = (((u + pr) / 2 : Nat) : Int)) := if_neg (by omega)
                go_wp2
                all_goals refine bodyPost_ret (v := .agg #[.int .i64 _, .int .i64 _, .int .i64 0]) (resNum Try.results127 _ _ w.heap.size _ _ _ rfl (heap_alloc_new _ _)) rfl ⟨retN (by rw [H.out, HF.out]; rfl) (by rw [HX.out]; omega) (by simp [behind]; omega), (Below.refl _ _).alloc (Nat.le_refl _) _⟩
              · have HX : Hid (unz (u + pr) = -(((u + pr) / 2 : Nat) : Int) - 1) := if_pos hm
                go_wp2
                all_goals refine bodyPost_ret (v := .agg #[.int .i64 _, .int .i64 _, .int .i64 0]) (resNum Try.results127 _ _ w.heap.size _ _ _ rfl (heap_alloc_new _ _)) rfl ⟨retN (by rw [H.out, HF.out]; rfl) (by rw [HX.out]; omega) (by simp [behind]; omega), (Below.refl _ _).alloc (Nat.le_refl _) _⟩
            · have h9p : (s[p + k].toNat : Int) % 128 * 9223372036854775808 = ((s[p + k].toNat % 128 * 2 ^ (7 * k) : Nat) : Int) := prod9 _ k (by omega)
              have hb1 : ¬ 1 < s[p + k].toNat := fun h => hA ⟨by omega, h⟩
              generalize s[p + k].toNat % 128 * 2 ^ (7 * k) = pr at *
              clear HR HD HU hpl hA
              rcases Nat.mod_two_eq_zero_or_one (u + pr) with hm | hm
              · have HX : Hid (unz (u + pr) = (((u + pr) / 2 : Nat) : Int)) := if_neg (by omega)
                go_wp2
                all_goals refine bodyPost_ret (v := .agg #[.int .i64 _, .int .i64 _, .int .i64 0]) (resNum Try.results127 _ _ w.heap.size _ _ _ rfl (heap_alloc_new _ _)) rfl ⟨retN (by rw [H.out, HF.out]; rfl) (by rw [HX.out]; omega) (by simp [behind]; omega), (Below.refl _ _).alloc (Nat.le_refl _) _⟩
              · have HX : Hid (unz (u + pr) = -(((u + pr) / 2 : Nat) : Int) - 1) := if_pos hm
                go_wp2
                all_goals refine bodyPost_ret (v := .agg #[.int .i64 _, .int .i64 _, .int .i64 0]) (resNum Try.results127 _ _ w.heap.size _ _ _ rfl (heap_alloc_new _ _)) rfl ⟨retN (by rw [H.out, HF.out]; rfl) (by rw [HX.out]; omega) (by simp [behind]; omega), (Below.refl _ _).alloc (Nat.le_refl _) _⟩
        · have hk8 : k < 9 := by
            rcases Nat.lt_or_ge k 9 with h9 | h9
            · exact h9
            · exact absurd ⟨by omega, by omega⟩ hA
          have hpl := prod_lt hk hA
          have hwp := wrap_prod hpl
          have hsl := sum_lt hk HU.out hA
          have HU2 : Hid (u + s[p + k].toNat % 128 * 2 ^ (7 * k) < 2 ^ (7 * (k + 1))) := next_lt HU.out
          have HR2 : Hid (rdAt s.data.toList p = rd (k + 1) (u + s[p + k].toNat % 128 * 2 ^ (7 * k)) (s.data.toList.drop (p + (k + 1)))) := by
            show _ = _
            rw [HR.out, HD.out, rd_more (by omega) hb]; rfl
          generalize s[p + k].toNat % 128 * 2 ^ (7 * k) = pr at *
          clear HR HD HU hpl hA
          go_wp2
          go_round
          case rel => exact ⟨k + 1, u + pr, by omega, by go_num, by go_num, HU2, HR2⟩
          case measure => simp [intOf]; omega
    · have HF : Hid (rdAt s.data.toList p = (0, 0, 4)) := by
        show _ = _
        rw [HR.out, drop_none _ _ (by omega), rd_short]
      clear HR HU
      go_wp2
      refine bodyPost_ret (v := nOut 0 0 4) (resNum Try.results127 _ _ w.heap.size _ _ _ rfl (heap_alloc_new _ _)) rfl ⟨by rw [H.out, HF.out]; rfl, (Below.refl _ _).alloc (Nat.le_refl _) _⟩
end Go.Proofs.Ytfhfhpnoeghgmaa

/-
  Contracts: GetText of the specification.
-/
namespace Go.Proofs.Ytfhfhpnoeghgmaa
open Go.RowKit
attribute [local go_sem ↓] Go.wp_at_zero Go.wp_at_succ

theorem getNum3_in (s : ByteArray) (a : Int) (h : (getNum3 s a).2.2 = 0) : 0 ≤ (getNum3 s a).2.1 ∧ (getNum3 s a).2.1 ≤ s.size ∧ s.size ≤ 20000 := by
  unfold getNum3 at *
  by_cases h1 : 20000 < s.size
  · rw [if_pos h1] at h; simp at h
  · rw [if_neg h1] at *
    by_cases h2 : a < 0
    · rw [if_pos h2] at h; simp at h
    · rw [if_neg h2] at *
      have := behind_le s a.toNat h
      exact ⟨this.1, this.2, by omega⟩
theorem set3a {W : World} {g : Nat} {a b c x y z : Value} {t : TypeId} (hlt : g < W.heap.size) (h : W.heap[g]? = some (.cells #[a, b, c] t (0, 0))) (o : Obj) :
    ((((W.setCell ⟨g, 0, none⟩ x).setCell ⟨g, 1, none⟩ y).setCell ⟨g, 2, none⟩ z).alloc o).heap[g]? = some (.cells #[x, y, z] t (0, 0)) :=
  (Below.heap_alloc _ _ _ (by simpa using hlt)).trans (set3 h)
theorem cell_new3 {W : World} {x y z : Value} {t : TypeId} {g : Nat} (hg : g = W.heap.size) : (W.alloc (.cells #[x, y, z] t)).drew.cell? ⟨g, 0, none⟩ = some x ∧ (W.alloc (.cells #[x, y, z] t)).drew.cell? ⟨g, 1, none⟩ = some y := by
  subst hg
  have h := heap_alloc_new W (.cells #[x, y, z] t)
  have h' : (W.alloc (.cells #[x, y, z] t)).drew.heap[W.heap.size]? = some (.cells #[x, y, z] t (0, 0)) := h
  exact ⟨(cells3 h').1, (cells3 h').2.1⟩
theorem retT {V : Value} {t t' : ByteArray} {b q : Int} {c : Int} {k : Int} (hV : V = tOut t' q k) (h1 : t = t') (h2 : b = q) (h3 : c = k) : Ending.returned (.agg #[.string t, .int .i64 b, .int .i64 c]) = .returned V := by rw [hV, h1, h2, h3]; rfl

set_option maxRecDepth 100000 in
set_option maxHeartbeats 4000000 in
theorem specGetText_any (s : ByteArray) (a : Int) (ha : a ≤ 9223372036854775807) (w : World) :
    Calls Try.prog 128 #[.string s, .int .i64 a] w fun e w' => e = .returned (getTextV s a) ∧ Below w.heap.size w w' := by
  have hsp := specGetNum_any s a ha
  have hin := getNum3_in s a
  have H : Hid (getTextV s a = tOut (textOf s (getNum3 s a).1 (getNum3 s a).2.1 (getNum3 s a).2.2).1 (textOf s (getNum3 s a).1 (getNum3 s a).2.1 (getNum3 s a).2.2).2.1 (textOf s (getNum3 s a).1 (getNum3 s a).2.1 (getNum3 s a).2.2).2.2) := rfl
  unfold getNumV at hsp
  generalize getNum3 s a = r at *
  obtain ⟨n, q, c⟩ := r
  have HS : Hid (∀ w, Calls Try.prog 127 #[.string s, .int .i64 a] w fun e w' => e = .returned (.agg #[.int .i64 n, .int .i64 q, .int .i64 c]) ∧ Below w.heap.size w w') := hsp
  clear hsp
  simp only at hin H
  by_cases h0 : c = 0
  · obtain ⟨hq0, hq1, hs⟩ := hin h0
    subst h0
    clear hin
    by_cases h1 : n < 0
    · have HT : Hid (textOf s n q 0 = (ByteArray.empty, 0, 3)) := by show _ = _; unfold textOf; rw [if_neg (by simp), if_pos (Or.inl h1)]
      go_enter Try.func128, Try.ntmps128
      go_wp2_with fail
      refine (HS.out _).mono ?_
      rintro e w1 ⟨rfl, hb1⟩
      have hz1 : w.heap.size < w1.heap.size := by (have := hb1.size; simp at this; omega)
      have hk : w1.heap[w.heap.size]? = some (.cells #[.string ⟨#[]⟩, .int .i64 0, .int .i64 0] 168 (0, 0)) := (hb1.block _ (by simp)).trans (heap_alloc_new w _)
      obtain ⟨c0, c1, c2, cf⟩ := cells3 hk
      have HK : Hid (w1.heap[w.heap.size]? = some (.cells #[.string ⟨#[]⟩, .int .i64 0, .int .i64 0] 168 (0, 0))) := hk
      clear hk
      go_wp2
      refine bodyPost_ret (v := .agg #[.string ⟨#[]⟩, .int .i64 0, .int .i64 3]) (resOutT Try.results128 _ _ w.heap.size _ _ _ rfl (set3a hz1 HK.out _)) rfl ⟨by rw [H.out, HT.out]; rfl, ?_⟩
      exact (below3 (((Below.refl _ _).alloc (Nat.le_refl _) _).trans (hb1.mono (by simp))) (Nat.le_refl _)).alloc (by simp; omega) _
    by_cases h2 : 20000 < n
    · have HT : Hid (textOf s n q 0 = (ByteArray.empty, 0, 3)) := by show _ = _; unfold textOf; rw [if_neg (by simp), if_pos (Or.inr h2)]
      go_enter Try.func128, Try.ntmps128
      go_wp2_with fail
      refine (HS.out _).mono ?_
      rintro e w1 ⟨rfl, hb1⟩
      have hz1 : w.heap.size < w1.heap.size := by (have := hb1.size; simp at this; omega)
      have hk : w1.heap[w.heap.size]? = some (.cells #[.string ⟨#[]⟩, .int .i64 0, .int .i64 0] 168 (0, 0)) := (hb1.block _ (by simp)).trans (heap_alloc_new w _)
      obtain ⟨c0, c1, c2, cf⟩ := cells3 hk
      have HK : Hid (w1.heap[w.heap.size]? = some (.cells #[.string ⟨#[]⟩, .int .i64 0, .int .i64 0] 168 (0, 0))) := hk
      clear hk
      go_wp2
      refine bodyPost_ret (v := .agg #[.string ⟨#[]⟩, .int .i64 0, .int .i64 3]) (resOutT Try.results128 _ _ w.heap.size _ _ _ rfl (set3a hz1 HK.out _)) rfl ⟨by rw [H.out, HT.out]; rfl, ?_⟩
      exact (below3 (((Below.refl _ _).alloc (Nat.le_refl _) _).trans (hb1.mono (by simp))) (Nat.le_refl _)).alloc (by simp; omega) _
    by_cases h3 : (s.size : Int) - q < n
    · have HT : Hid (textOf s n q 0 = (ByteArray.empty, 0, 4)) := by show _ = _; unfold textOf; rw [if_neg (by simp), if_neg (by omega), if_pos h3]
      have h3' : (s.size : Int) - n < q := by omega
      go_enter Try.func128, Try.ntmps128
      go_wp2_with fail
      refine (HS.out _).mono ?_
      rintro e w1 ⟨rfl, hb1⟩
      have hz1 : w.heap.size < w1.heap.size := by (have := hb1.size; simp at this; omega)
      have hk : w1.heap[w.heap.size]? = some (.cells #[.string ⟨#[]⟩, .int .i64 0, .int .i64 0] 168 (0, 0)) := (hb1.block _ (by simp)).trans (heap_alloc_new w _)
      obtain ⟨c0, c1, c2, cf⟩ := cells3 hk
      have HK : Hid (w1.heap[w.heap.size]? = some (.cells #[.string ⟨#[]⟩, .int .i64 0, .int .i64 0] 168 (0, 0))) := hk
      clear hk
      go_wp2
      refine bodyPost_ret (v := .agg #[.string ⟨#[]⟩, .int .i64 0, .int .i64 4]) (resOutT Try.results128 _ _ w.heap.size _ _ _ rfl (set3a hz1 HK.out _)) rfl ⟨by rw [H.out, HT.out]; rfl, ?_⟩
      exact (below3 (((Below.refl _ _).alloc (Nat.le_refl _) _).trans (hb1.mono (by simp))) (Nat.le_refl _)).alloc (by simp; omega) _
    have HT : Hid (textOf s n q 0 = (s.extract q.toNat (q + n).toNat, q + n, 0)) := by show _ = _; unfold textOf; rw [if_neg (by simp), if_neg (by omega), if_neg h3]
    have h4 : q ≤ q + n := by omega
    have h5 : q + n ≤ s.size := by omega
    have h6 : IntKind.i64.wrap (q + n) = q + n := by rw [IntKind.wrap_i64]; omega
    go_enter Try.func128, Try.ntmps128
    go_wp2_with fail
    refine (HS.out _).mono ?_
    rintro e w1 ⟨rfl, hb1⟩
    have hz1 : w.heap.size < w1.heap.size := by (have := hb1.size; simp at this; omega)
    have hk : w1.heap[w.heap.size]? = some (.cells #[.string ⟨#[]⟩, .int .i64 0, .int .i64 0] 168 (0, 0)) := (hb1.block _ (by simp)).trans (heap_alloc_new w _)
    obtain ⟨c0, c1, c2, cf⟩ := cells3 hk
    have HK : Hid (w1.heap[w.heap.size]? = some (.cells #[.string ⟨#[]⟩, .int .i64 0, .int .i64 0] 168 (0, 0))) := hk
    clear hk
    go_wp2
    go_region_held3 (fun w' => w'.cell? ⟨w1.heap.size, 0, none⟩ = some (.int .i64 n) ∧ w'.cell? ⟨w1.heap.size, 1, none⟩ = some (.int .i64 q)) (first | exact cell_new3 (by simp) | go_keep) (fail)
    go_wp2
    refine bodyPost_ret (v := .agg #[.string (s.extract q.toNat (q + n).toNat), .int .i64 (q + n), .int .i64 0]) (resOutT Try.results128 _ _ w.heap.size _ _ _ rfl (set3a hz1 HK.out _)) rfl ⟨by rw [H.out, HT.out]; rfl, ?_⟩
    exact ((below3 (((Below.refl _ _).alloc (Nat.le_refl _) _).trans (hb1.mono (by simp))) (Nat.le_refl _)).alloc (by simp; omega) _).drew
  · have HT : Hid (textOf s n q c = (ByteArray.empty, 0, c)) := if_pos h0
    have hc1 : ((c : Int) != 0) = true := by simp; omega
    clear hin
    go_enter Try.func128, Try.ntmps128
    go_wp2_with fail
    refine (HS.out _).mono ?_
    rintro e w1 ⟨rfl, hb1⟩
    have hz1 : w.heap.size < w1.heap.size := by (have := hb1.size; simp at this; omega)
    have hk : w1.heap[w.heap.size]? = some (.cells #[.string ⟨#[]⟩, .int .i64 0, .int .i64 0] 168 (0, 0)) := (hb1.block _ (by simp)).trans (heap_alloc_new w _)
    obtain ⟨c0, c1, c2, cf⟩ := cells3 hk
    have HK : Hid (w1.heap[w.heap.size]? = some (.cells #[.string ⟨#[]⟩, .int .i64 0, .int .i64 0] 168 (0, 0))) := hk
    clear hk
    go_wp2
    refine bodyPost_ret (v := .agg #[.string ⟨#[]⟩, .int .i64 0, .int .i64 c]) (resOutT Try.results128 _ _ w.heap.size _ _ _ rfl (set3a hz1 HK.out _)) rfl ⟨by rw [H.out, HT.out]; rfl, ?_⟩
    exact (below3 (((Below.refl _ _).alloc (Nat.le_refl _) _).trans (hb1.mono (by simp))) (Nat.le_refl _)).alloc (by simp; omega) _
end Go.Proofs.Ytfhfhpnoeghgmaa

/-
  Contracts: the specification's reader: its number and its text.
-/
namespace Go.Proofs.Ytfhfhpnoeghgmaa
open Go.RowKit
set_option maxRecDepth 100000

theorem setc1 {W : World} {g : Nat} {x a b z : Value} {t : TypeId} (h : W.heap[g]? = some (.cells #[x, a, b] t (0, 0))) :
    (W.setCell ⟨g, 1, none⟩ z).heap[g]? = some (.cells #[x, z, b] t (0, 0)) := by
  have h2 := heap_setCell_same W g 1 _ t z h
  simpa using h2
theorem far3_at {W : World} {g R : Nat} {x y z : Value} {o : Obj} (h : W.heap[g]? = some o) (hne : g ≠ R) : (((W.setCell ⟨R, 0, none⟩ x).setCell ⟨R, 1, none⟩ y).setCell ⟨R, 2, none⟩ z).heap[g]? = some o := by
  rw [heap_far _ _ _ _ _ hne, heap_far _ _ _ _ _ hne, heap_far _ _ _ _ _ hne]; exact h
theorem far3_set1 {W : World} {g R : Nat} {x y z q a b v : Value} {t : TypeId} (h : W.heap[g]? = some (.cells #[q, a, b] t (0, 0))) (hne : g ≠ R) :
    ((((W.setCell ⟨R, 0, none⟩ x).setCell ⟨R, 1, none⟩ y).setCell ⟨R, 2, none⟩ z).setCell ⟨g, 1, none⟩ v).heap[g]? = some (.cells #[q, v, b] t (0, 0)) := setc1 (far3_at h hne)
theorem far3_set2 {W : World} {g R : Nat} {x y z q a b v : Value} {t : TypeId} (h : W.heap[g]? = some (.cells #[q, a, b] t (0, 0))) (hne : g ≠ R) :
    ((((W.setCell ⟨R, 0, none⟩ x).setCell ⟨R, 1, none⟩ y).setCell ⟨R, 2, none⟩ z).setCell ⟨g, 2, none⟩ v).heap[g]? = some (.cells #[q, a, v] t (0, 0)) := setc2 (far3_at h hne)
theorem new_set1 {W : World} {g : Nat} {q a b v : Value} {t : TypeId} {o : Obj} (h : W.heap[g]? = some (.cells #[q, a, b] t (0, 0))) : ((W.setCell ⟨g, 1, none⟩ v).alloc o).heap[g]? = some (.cells #[q, v, b] t (0, 0)) :=
  (heap_old _ _ _ (Array.getElem?_eq_some_iff.1 (setc1 h)).1).trans (setc1 h)
theorem new_set2 {W : World} {g : Nat} {q a b v : Value} {t : TypeId} {o : Obj} (h : W.heap[g]? = some (.cells #[q, a, b] t (0, 0))) : ((W.setCell ⟨g, 2, none⟩ v).alloc o).heap[g]? = some (.cells #[q, a, v] t (0, 0)) :=
  (heap_old _ _ _ (Array.getElem?_eq_some_iff.1 (setc2 h)).1).trans (setc2 h)
set_option maxHeartbeats 1000000 in
theorem spNum_gen (g : Nat) (s : ByteArray) (a y c : Int) (x : Int) (b : Bool) (w : World) (h : w.heap[g]? = some (.cells #[.string s, .int .i64 a, .bool b] 151 (0, 0))) (ha : a ≤ 20000) (hx : getNumV s a = nOut x y c) :
    Calls Try.prog 120 #[.pointer (some ⟨g, 0, none⟩)] w fun e w' => (if b = true ∨ ¬ c = 0 then e = .returned (.int .i64 0) ∧ w'.heap[g]? = some (.cells #[.string s, .int .i64 a, .bool true] 151 (0, 0)) else e = .returned (.int .i64 x) ∧ w'.heap[g]? = some (.cells #[.string s, .int .i64 y, .bool false] 151 (0, 0))) ∧ w.grownBy w' (some g) := by
  have HN : Hid (∀ w, Calls Try.prog 127 #[.string s, .int .i64 a] w fun e w' => e = .returned (.agg #[.int .i64 x, .int .i64 y, .int .i64 c]) ∧ Below w.heap.size w w') := fun w => by have := specGetNum_any s a (by omega) w; rw [hx] at this; exact this
  have hgl := (Array.getElem?_eq_some_iff.1 h).1
  obtain ⟨c0, c1, c2, cf⟩ := cells3 h
  have HG0 : Hid ((w.alloc (.cells #[.int .i64 0, .int .i64 0, .int .i64 0] 165)).drew.heap[g]? = some (.cells #[.string s, .int .i64 a, .bool b] 151 (0, 0))) := (heap_old _ _ _ hgl).trans h
  have HK0 : Hid ((w.alloc (.cells #[.int .i64 0, .int .i64 0, .int .i64 0] 165)).drew.heap[w.heap.size]? = some (.cells #[.int .i64 0, .int .i64 0, .int .i64 0] 165 (0, 0))) := heap_alloc_new _ _
  have HZ0 : Hid ((w.alloc (.cells #[.int .i64 0, .int .i64 0, .int .i64 0] 165)).drew.heap.size = w.heap.size + 1) := by show _ = _; simp
  have HR0 : Hid (w.grownBy (w.alloc (.cells #[.int .i64 0, .int .i64 0, .int .i64 0] 165)).drew (some g)) := grown_below (grown_refl w (some g)) (((Below.refl w.heap.size w).alloc (Nat.le_refl _) _).drew)
  have HL0 : Hid (g < (w.alloc (.cells #[.int .i64 0, .int .i64 0, .int .i64 0] 165)).drew.heap.size) := by show _ < _; rw [HZ0.out]; omega
  have HM0 : Hid (w.heap.size < (w.alloc (.cells #[.int .i64 0, .int .i64 0, .int .i64 0] 165)).drew.heap.size) := by show _ < _; rw [HZ0.out]; omega
  have hne : g ≠ w.heap.size := by omega
  have hne' : w.heap.size ≠ g := by omega
  have HGD : Hid (w.drew.heap[g]? = some (.cells #[.string s, .int .i64 a, .bool b] 151 (0, 0))) := h
  have HLD : Hid (g < w.drew.heap.size) := hgl
  have HRD : Hid (w.grownBy w.drew (some g)) := grown_drew
  clear h hx ha
  go_enter Try.func120, Try.ntmps120
  go_wp2
  go_region_held3 (fun W => W.cell? ⟨g, 0, none⟩ = some (.string s) ∧ W.cell? ⟨g, 1, none⟩ = some (.int .i64 a)) (go_keep) (first
    | (go_at_call 127; refine (HN.out _).mono ?_; rintro e w1 ⟨rfl, hb1⟩; have G1 := hide (grown_below HR0.out hb1); have P1 := hide ((hb1.block g HL0.out).trans HG0.out); have Q1 := hide ((hb1.block w.heap.size HM0.out).trans HK0.out); obtain ⟨d0, d1, d2, df⟩ := cells3 P1.out; obtain ⟨q0, q1, q2, qf⟩ := cells3 Q1.out; clear hb1)
    | (go_at_call 127; refine (HN.out _).mono ?_; rintro e w1 ⟨rfl, hb1⟩; have G1 := hide (grown_below HRD.out hb1); have P1 := hide ((hb1.block g HLD.out).trans HGD.out); have hg1 := (Array.getElem?_eq_some_iff.1 P1.out).1; have hne1 := Nat.ne_of_lt hg1; have P2 := hide ((heap_old w1 (.cells #[.int .i64 0, .int .i64 0, .int .i64 0] 165) g hg1).trans P1.out); have Q2 := hide (heap_alloc_new w1 (.cells #[.int .i64 0, .int .i64 0, .int .i64 0] 165)); obtain ⟨p0, p1, p2, pf⟩ := cells3 P1.out; obtain ⟨d0, d1, d2, df⟩ := cells3 P2.out; obtain ⟨q0, q1, q2, qf⟩ := cells3 Q2.out; clear hb1))
  · cases b
    · by_cases hc : c = 0
      · subst hc
        go_wp2
        go_ret
        refine ⟨⟨rfl, ?_⟩, ?_⟩
        · exact new_set1 P1.out
        · exact grown_alloc' (grown_setG G1.out) _
      · have hcb : (c == 0) = false := by simp [hc]
        go_wp2
        go_ret
        refine ⟨⟨rfl, ?_⟩, ?_⟩
        · exact new_set2 P1.out
        · exact grown_alloc' (grown_setG G1.out) _
    · go_wp2
      go_ret
      refine ⟨⟨rfl, ?_⟩, ?_⟩
      · exact new_set2 P1.out
      · exact grown_alloc' (grown_setG G1.out) _
  · cases b
    · by_cases hc : c = 0
      · subst hc
        go_wp2
        go_ret
        refine ⟨⟨rfl, ?_⟩, ?_⟩
        · exact far3_set1 P1.out hne
        · exact grown_setG (grown_new (grown_new (grown_new G1.out (Nat.le_refl _) _ _) (Nat.le_refl _) _ _) (Nat.le_refl _) _ _)
      · have hcb : (c == 0) = false := by simp [hc]
        go_wp2
        go_ret
        refine ⟨⟨rfl, ?_⟩, ?_⟩
        · exact far3_set2 P1.out hne
        · exact grown_setG (grown_new (grown_new (grown_new G1.out (Nat.le_refl _) _ _) (Nat.le_refl _) _ _) (Nat.le_refl _) _ _)
    · go_wp2
      go_ret
      refine ⟨⟨rfl, ?_⟩, ?_⟩
      · exact far3_set2 P1.out hne
      · exact grown_setG (grown_new (grown_new (grown_new G1.out (Nat.le_refl _) _ _) (Nat.le_refl _) _ _) (Nat.le_refl _) _ _)
set_option maxHeartbeats 1000000 in
theorem spText_gen (g : Nat) (s : ByteArray) (a y c : Int) (x : ByteArray) (b : Bool) (w : World) (h : w.heap[g]? = some (.cells #[.string s, .int .i64 a, .bool b] 151 (0, 0))) (ha : a ≤ 20000) (hx : getTextV s a = tOut x y c) :
    Calls Try.prog 121 #[.pointer (some ⟨g, 0, none⟩)] w fun e w' => (if b = true ∨ ¬ c = 0 then e = .returned (.string ⟨#[]⟩) ∧ w'.heap[g]? = some (.cells #[.string s, .int .i64 a, .bool true] 151 (0, 0)) else e = .returned (.string x) ∧ w'.heap[g]? = some (.cells #[.string s, .int .i64 y, .bool false] 151 (0, 0))) ∧ w.grownBy w' (some g) := by
  have HN : Hid (∀ w, Calls Try.prog 128 #[.string s, .int .i64 a] w fun e w' => e = .returned (.agg #[.string x, .int .i64 y, .int .i64 c]) ∧ Below w.heap.size w w') := fun w => by have := specGetText_any s a (by omega) w; rw [hx] at this; exact this
  have hgl := (Array.getElem?_eq_some_iff.1 h).1
  obtain ⟨c0, c1, c2, cf⟩ := cells3 h
  have HG0 : Hid ((w.alloc (.cells #[.string ⟨#[]⟩, .int .i64 0, .int .i64 0] 168)).drew.heap[g]? = some (.cells #[.string s, .int .i64 a, .bool b] 151 (0, 0))) := (heap_old _ _ _ hgl).trans h
  have HK0 : Hid ((w.alloc (.cells #[.string ⟨#[]⟩, .int .i64 0, .int .i64 0] 168)).drew.heap[w.heap.size]? = some (.cells #[.string ⟨#[]⟩, .int .i64 0, .int .i64 0] 168 (0, 0))) := heap_alloc_new _ _
  have HZ0 : Hid ((w.alloc (.cells #[.string ⟨#[]⟩, .int .i64 0, .int .i64 0] 168)).drew.heap.size = w.heap.size + 1) := by show _ = _; simp
  have HR0 : Hid (w.grownBy (w.alloc (.cells #[.string ⟨#[]⟩, .int .i64 0, .int .i64 0] 168)).drew (some g)) := grown_below (grown_refl w (some g)) (((Below.refl w.heap.size w).alloc (Nat.le_refl _) _).drew)
  have HL0 : Hid (g < (w.alloc (.cells #[.string ⟨#[]⟩, .int .i64 0, .int .i64 0] 168)).drew.heap.size) := by show _ < _; rw [HZ0.out]; omega
  have HM0 : Hid (w.heap.size < (w.alloc (.cells #[.string ⟨#[]⟩, .int .i64 0, .int .i64 0] 168)).drew.heap.size) := by show _ < _; rw [HZ0.out]; omega
  have hne : g ≠ w.heap.size := by omega
  have hne' : w.heap.size ≠ g := by omega
  have HGD : Hid (w.drew.heap[g]? = some (.cells #[.string s, .int .i64 a, .bool b] 151 (0, 0))) := h
  have HLD : Hid (g < w.drew.heap.size) := hgl
  have HRD : Hid (w.grownBy w.drew (some g)) := grown_drew
  clear h hx ha
  go_enter Try.func121, Try.ntmps121
  go_wp2
  go_region_held3 (fun W => W.cell? ⟨g, 0, none⟩ = some (.string s) ∧ W.cell? ⟨g, 1, none⟩ = some (.int .i64 a)) (go_keep) (first
    | (go_at_call 128; refine (HN.out _).mono ?_; rintro e w1 ⟨rfl, hb1⟩; have G1 := hide (grown_below HR0.out hb1); have P1 := hide ((hb1.block g HL0.out).trans HG0.out); have Q1 := hide ((hb1.block w.heap.size HM0.out).trans HK0.out); obtain ⟨d0, d1, d2, df⟩ := cells3 P1.out; obtain ⟨q0, q1, q2, qf⟩ := cells3 Q1.out; clear hb1)
    | (go_at_call 128; refine (HN.out _).mono ?_; rintro e w1 ⟨rfl, hb1⟩; have G1 := hide (grown_below HRD.out hb1); have P1 := hide ((hb1.block g HLD.out).trans HGD.out); have hg1 := (Array.getElem?_eq_some_iff.1 P1.out).1; have hne1 := Nat.ne_of_lt hg1; have P2 := hide ((heap_old w1 (.cells #[.string ⟨#[]⟩, .int .i64 0, .int .i64 0] 168) g hg1).trans P1.out); have Q2 := hide (heap_alloc_new w1 (.cells #[.string ⟨#[]⟩, .int .i64 0, .int .i64 0] 168)); obtain ⟨p0, p1, p2, pf⟩ := cells3 P1.out; obtain ⟨d0, d1, d2, df⟩ := cells3 P2.out; obtain ⟨q0, q1, q2, qf⟩ := cells3 Q2.out; clear hb1))
  · cases b
    · by_cases hc : c = 0
      · subst hc
        go_wp2
        go_ret
        refine ⟨⟨rfl, ?_⟩, ?_⟩
        · exact new_set1 P1.out
        · exact grown_alloc' (grown_setG G1.out) _
      · have hcb : (c == 0) = false := by simp [hc]
        go_wp2
        go_ret
        refine ⟨⟨rfl, ?_⟩, ?_⟩
        · exact new_set2 P1.out
        · exact grown_alloc' (grown_setG G1.out) _
    · go_wp2
      go_ret
      refine ⟨⟨rfl, ?_⟩, ?_⟩
      · exact new_set2 P1.out
      · exact grown_alloc' (grown_setG G1.out) _
  · cases b
    · by_cases hc : c = 0
      · subst hc
        go_wp2
        go_ret
        refine ⟨⟨rfl, ?_⟩, ?_⟩
        · exact far3_set1 P1.out hne
        · exact grown_setG (grown_new (grown_new (grown_new G1.out (Nat.le_refl _) _ _) (Nat.le_refl _) _ _) (Nat.le_refl _) _ _)
      · have hcb : (c == 0) = false := by simp [hc]
        go_wp2
        go_ret
        refine ⟨⟨rfl, ?_⟩, ?_⟩
        · exact far3_set2 P1.out hne
        · exact grown_setG (grown_new (grown_new (grown_new G1.out (Nat.le_refl _) _ _) (Nat.le_refl _) _ _) (Nat.le_refl _) _ _)
    · go_wp2
      go_ret
      refine ⟨⟨rfl, ?_⟩, ?_⟩
      · exact far3_set2 P1.out hne
      · exact grown_setG (grown_new (grown_new (grown_new G1.out (Nat.le_refl _) _ _) (Nat.le_refl _) _ _) (Nat.le_refl _) _ _)
end Go.Proofs.Ytfhfhpnoeghgmaa

/-
  Contracts: the specification's reader, over the plain model: its number and its text.
-/
namespace Go.Proofs.Ytfhfhpnoeghgmaa
open Go.RowKit
set_option maxRecDepth 100000

/-- The specification's reader in block g, at a state. -/
def SpAt (g : Nat) (s : ByteArray) (st : St) (w : World) : Prop :=
  s.size ≤ 20000 ∧ ∃ (a : Int) (b : Bool), w.heap[g]? = some (.cells #[.string s, .int .i64 a, .bool b] 151 (0, 0)) ∧ a ≤ 20000 ∧ ((∃ p : Nat, st = some p ∧ a = (p : Int) ∧ b = false ∧ p ≤ s.size) ∨ (st = none ∧ b = true))
theorem SpAt.kept {g : Nat} {s : ByteArray} {st : St} {w w' : World} {r : Option Nat} (h : SpAt g s st w) (hg : w.grownBy w' r) (hr : r ≠ some g) : SpAt g s st w' := by
  obtain ⟨h1, a, e, h2, h3⟩ := h
  exact ⟨h1, a, e, (hg.block g (Array.getElem?_eq_some_iff.1 h2).1 (fun e => hr e.symm)).trans h2, h3⟩
theorem SpAt.below {g B : Nat} {s : ByteArray} {st : St} {w w' : World} (h : SpAt g s st w) (hb : Below B w w') (hg : g < B) : SpAt g s st w' := by
  obtain ⟨h1, a, e, h2, h3⟩ := h
  exact ⟨h1, a, e, (hb.block g hg).trans h2, h3⟩
theorem SpAt.lt {g : Nat} {s : ByteArray} {st : St} {w : World} (h : SpAt g s st w) : g < w.heap.size := by
  obtain ⟨h1, a, e, h2, h3⟩ := h
  exact (Array.getElem?_eq_some_iff.1 h2).1
theorem SpAt.other {g R : Nat} {s : ByteArray} {st : St} {w : World} (h : SpAt g s st w) (hne : g ≠ R) (m : Nat) (x : Value) : SpAt g s st (w.setCell ⟨R, m, none⟩ x) := by
  obtain ⟨h1, a, e, h2, h3⟩ := h
  exact ⟨h1, a, e, (heap_setCell_other w ⟨R, m, none⟩ g x hne).trans h2, h3⟩
theorem getNum3_nat (s : ByteArray) (p : Nat) (hs : s.size ≤ 20000) : getNum3 s (p : Int) = ((rdAt s.data.toList p).1, behind p (rdAt s.data.toList p), (rdAt s.data.toList p).2.2) := by
  unfold getNum3
  rw [if_neg (by omega), if_neg (by omega), Int.toNat_natCast]
theorem rNum_none (s : ByteArray) (st : St) (h : (rNum s st).2 = none) : (rNum s st).1 = 0 := by
  cases st with
  | none => rfl
  | some p =>
    unfold rNum at h ⊢
    simp only at h ⊢
    split at h
    · simp at h
    · rename_i h1; rw [if_neg h1]
theorem spNum_any (g : Nat) (s : ByteArray) (st : St) (w : World) (h : SpAt g s st w) :
    Calls Try.prog 120 #[.pointer (some ⟨g, 0, none⟩)] w fun e w' => e = .returned (.int .i64 (rNum s st).1) ∧ SpAt g s (rNum s st).2 w' ∧ w.grownBy w' (some g) := by
  obtain ⟨hs, a, b, hg, ha, hst⟩ := h
  rcases hst with ⟨p, rfl, rfl, rfl, hp⟩ | ⟨rfl, rfl⟩
  · have hv : getNumV s (p : Int) = nOut (rdAt s.data.toList p).1 (behind p (rdAt s.data.toList p)) ((rdAt s.data.toList p).2.2 : Nat) := by unfold getNumV; rw [getNum3_nat s p hs]
    refine (spNum_gen g s p _ _ _ false w hg ha hv).mono ?_
    rintro e w' ⟨h1, h2⟩
    have hpl := rNum_place s (some p)
    unfold rNum at hpl ⊢
    simp only at hpl ⊢
    by_cases h0 : (rdAt s.data.toList p).2.2 = 0
    · rw [if_neg (by rw [h0]; simp)] at h1
      rw [if_pos h0] at hpl ⊢
      have hb : behind p (rdAt s.data.toList p) = ((p + (rdAt s.data.toList p).2.1 : Nat) : Int) := by unfold behind; rw [if_pos h0]
      rw [hb] at h1
      have := hpl _ rfl
      exact ⟨h1.1, ⟨hs, _, _, h1.2, by omega, .inl ⟨_, rfl, rfl, rfl, this⟩⟩, h2⟩
    · rw [if_pos (.inr (by omega))] at h1
      rw [if_neg h0]
      exact ⟨h1.1, ⟨hs, _, _, h1.2, ha, .inr ⟨rfl, rfl⟩⟩, h2⟩
  · refine (spNum_gen g s a _ _ _ true w hg ha rfl).mono ?_
    rintro e w' ⟨h1, h2⟩
    rw [if_pos (.inl rfl)] at h1
    exact ⟨h1.1, ⟨hs, _, _, h1.2, ha, .inr ⟨rfl, rfl⟩⟩, h2⟩
theorem spText_any (g : Nat) (s : ByteArray) (st : St) (w : World) (h : SpAt g s st w) :
    Calls Try.prog 121 #[.pointer (some ⟨g, 0, none⟩)] w fun e w' => e = .returned (.string (rTxt s st).1) ∧ SpAt g s (rTxt s st).2 w' ∧ w.grownBy w' (some g) := by
  obtain ⟨hs, a, b, hg, ha, hst⟩ := h
  rcases hst with ⟨p, rfl, rfl, rfl, hp⟩ | ⟨rfl, rfl⟩
  · have hv : getTextV s (p : Int) = tOut (txtAt s p).1 (txtAt s p).2.1 ((txtAt s p).2.2 : Nat) := by unfold getTextV getText3; rw [getNum3_nat s p hs]; rfl
    refine (spText_gen g s p _ _ _ false w hg ha hv).mono ?_
    rintro e w' ⟨h1, h2⟩
    have hpl := txt_place s p
    unfold rTxt
    simp only
    by_cases h0 : (txtAt s p).2.2 = 0
    · rw [if_neg (by rw [h0]; simp)] at h1
      rw [if_pos h0]
      have := hpl h0
      exact ⟨h1.1, ⟨hs, _, _, h1.2, by omega, .inl ⟨_, rfl, by omega, rfl, by omega⟩⟩, h2⟩
    · rw [if_pos (.inr (by omega))] at h1
      rw [if_neg h0]
      exact ⟨h1.1, ⟨hs, _, _, h1.2, ha, .inr ⟨rfl, rfl⟩⟩, h2⟩
  · refine (spText_gen g s a _ _ _ true w hg ha rfl).mono ?_
    rintro e w' ⟨h1, h2⟩
    rw [if_pos (.inl rfl)] at h1
    exact ⟨h1.1, ⟨hs, _, _, h1.2, ha, .inr ⟨rfl, rfl⟩⟩, h2⟩
end Go.Proofs.Ytfhfhpnoeghgmaa

/-
  Contract: the specification's reader's first byte.
-/
namespace Go.Proofs.Ytfhfhpnoeghgmaa
open Go.RowKit
set_option maxRecDepth 100000

/-- Behind the first byte, where it is the one that is asked for. -/
def rFst (s : ByteArray) (b : Nat) : St := match s.data.toList with
  | [] => none
  | x :: _ => if x.toNat = b then some 1 else none
theorem rFst_nil {s : ByteArray} {b : Nat} (h : s.size = 0) : rFst s b = none := by
  have : s.data.toList = [] := List.eq_nil_of_length_eq_zero h
  unfold rFst; rw [this]
theorem rFst_cons {s : ByteArray} {b : Nat} (h : 0 < s.size) : rFst s b = if (s[0]'h).toNat = b then some 1 else none := by
  have e : s.data.toList = s[0] :: s.data.toList.drop 1 := by have := drop_cons s 0 h; rw [List.drop_zero] at this; exact this
  unfold rFst; rw [e]
set_option maxHeartbeats 1000000 in
theorem spFirst_any (g : Nat) (s : ByteArray) (b : Nat) (w : World) (h : SpAt g s (some 0) w) :
    Calls Try.prog 119 #[.pointer (some ⟨g, 0, none⟩), .int .u8 (b : Int)] w fun e w' => e = .returned (.tuple #[]) ∧ SpAt g s (rFst s b) w' ∧ w.grownBy w' (some g) := by
  obtain ⟨hs, a, t, hg, ha, hst⟩ := h
  rcases hst with ⟨p, hp, rfl, rfl, hp2⟩ | ⟨h0, _⟩
  · cases hp
    have hg' : w.heap[g]? = some (.cells #[.string s, .int .i64 0, .bool false] 151 (0, 0)) := hg
    clear hg
    have hg := hg'
    clear hg'
    obtain ⟨c0, c1, c2, cf⟩ := cells3 hg
    have HG := hide hg
    clear hg
    by_cases h0 : s.size = 0
    · have HR := hide (rFst_nil (b := b) h0)
      go_enter Try.func119, Try.ntmps119
      go_wp2
      refine wp_region_noPanic ?_
      refine wp_region_held_drew (S := fun W => W.cell? ⟨g, 0, none⟩ = some (.string s) ∧ W.cell? ⟨g, 1, none⟩ = some (.int .i64 0) ∧ W.cell? ⟨g, 2, none⟩ = some (.bool false)) (by kernel_rfl) ?_ (fun hHeld => ?_)
      · (try dsimp only); go_keep
      refine takeD 0 4 (v := ?v1x0) rfl rfl (by kernel_rfl) (by kernel_rfl) (by kernel_rfl) (fun _ _ _ h => h) (by kernel_rfl) ?hy1x0 (by assumption) ?r1x0
      case hy1x0 => (intro W hSw; (try dsimp only at hSw); go_simp; try with_reducible rfl)
      simp only [Act.put, List.setIfInBounds_toArray, List.set_cons_zero, List.set_cons_succ]
      refine takeD 1 5 (v := ?v1x1) rfl rfl (by kernel_rfl) (by kernel_rfl) (by kernel_rfl) (fun _ _ _ h => h) (by kernel_rfl) ?hy1x1 (by assumption) ?r1x1
      case hy1x1 => (intro W hSw; (try dsimp only at hSw); go_simp; try with_reducible rfl)
      simp only [Act.put, List.setIfInBounds_toArray, List.set_cons_zero, List.set_cons_succ]
      refine takeD 2 6 (v := ?v1x2) rfl rfl (by kernel_rfl) (by kernel_rfl) (by kernel_rfl) (fun _ _ _ h => h) (by kernel_rfl) ?hy1x2 (by assumption) ?r1x2
      case hy1x2 => (intro W hSw; (try dsimp only at hSw); go_simp; try with_reducible rfl)
      simp only [Act.put, List.setIfInBounds_toArray, List.set_cons_zero, List.set_cons_succ]
      refine takeD 3 7 (v := ?v1x3) rfl rfl (by kernel_rfl) (by kernel_rfl) (by kernel_rfl) (fun _ _ _ h => h) (by kernel_rfl) ?hy1x3 (by assumption) ?r1x3
      case hy1x3 => (intro W hSw; (try dsimp only at hSw); go_simp; try with_reducible rfl)
      simp only [Act.put, List.setIfInBounds_toArray, List.set_cons_zero, List.set_cons_succ]
      refine takeD 4 8 (v := ?v1x4) rfl rfl (by kernel_rfl) (by kernel_rfl) (by kernel_rfl) (fun _ _ _ h => h) (by kernel_rfl) ?hy1x4 (by assumption) ?r1x4
      case hy1x4 => (intro W hSw; (try dsimp only at hSw); go_simp; try with_reducible rfl)
      simp only [Act.put, List.setIfInBounds_toArray, List.set_cons_zero, List.set_cons_succ]
      refine takeD 5 9 (v := ?v1x5) rfl rfl (by kernel_rfl) (by kernel_rfl) (by kernel_rfl) (fun _ _ _ h => h) (by kernel_rfl) ?hy1x5 (by assumption) ?r1x5
      case hy1x5 => (intro W hSw; (try dsimp only at hSw); go_simp; try with_reducible rfl)
      simp only [Act.put, List.setIfInBounds_toArray, List.set_cons_zero, List.set_cons_succ]
      refine takeD 6 10 (v := ?v1x6) rfl rfl (by kernel_rfl) (by kernel_rfl) (by kernel_rfl) (fun _ _ _ h => h) (by kernel_rfl) ?hy1x6 (by assumption) ?r1x6
      case hy1x6 => (intro W hSw; (try dsimp only at hSw); go_simp; try with_reducible rfl)
      simp only [Act.put, List.setIfInBounds_toArray, List.set_cons_zero, List.set_cons_succ]
      refine takeD 7 11 (v := ?v1x7) rfl rfl (by kernel_rfl) (by kernel_rfl) (by kernel_rfl) (fun _ _ _ h => h) (by kernel_rfl) ?hy1x7 (by assumption) ?r1x7
      case hy1x7 => (intro W hSw; (try dsimp only at hSw); go_simp; try with_reducible rfl)
      simp only [Act.put, List.setIfInBounds_toArray, List.set_cons_zero, List.set_cons_succ]
      refine takeD 8 12 (v := ?v1x8) rfl rfl (by kernel_rfl) (by kernel_rfl) (by kernel_rfl) (fun _ _ _ h => h) (by kernel_rfl) ?hy1x8 (by assumption) ?r1x8
      case hy1x8 => (intro W hSw; (try dsimp only at hSw); go_simp; try with_reducible rfl)
      simp only [Act.put, List.setIfInBounds_toArray, List.set_cons_zero, List.set_cons_succ]
      refine takeD 9 13 (v := ?v1x9) rfl rfl (by kernel_rfl) (by kernel_rfl) (by kernel_rfl) (fun _ _ _ h => h) (by kernel_rfl) ?hy1x9 (by assumption) ?r1x9
      case hy1x9 => (intro W hSw; (try dsimp only at hSw); go_simp; try with_reducible rfl)
      simp only [Act.put, List.setIfInBounds_toArray, List.set_cons_zero, List.set_cons_succ]
      refine takeD 10 14 (v := ?v1x10) rfl rfl (by kernel_rfl) (by kernel_rfl) (by kernel_rfl) (fun _ _ _ h => h) (by kernel_rfl) ?hy1x10 (by assumption) ?r1x10
      case hy1x10 => (intro W hSw; (try dsimp only at hSw); go_simp; try with_reducible rfl)
      simp only [Act.put, List.setIfInBounds_toArray, List.set_cons_zero, List.set_cons_succ]
      refine takeD 11 15 (v := ?v1x11) rfl rfl (by kernel_rfl) (by kernel_rfl) (by kernel_rfl) (fun _ _ _ h => h) (by kernel_rfl) ?hy1x11 (by assumption) ?r1x11
      case hy1x11 => (intro W hSw; (try dsimp only at hSw); go_simp; try with_reducible rfl)
      simp only [Act.put, List.setIfInBounds_toArray, List.set_cons_zero, List.set_cons_succ]
      refine takeD 12 16 (v := ?v1x12) rfl rfl (by kernel_rfl) (by kernel_rfl) (by kernel_rfl) (fun _ _ _ h => h) (by kernel_rfl) ?hy1x12 (by assumption) ?r1x12
      case hy1x12 => (intro W hSw; (try dsimp only at hSw); go_simp; try with_reducible rfl)
      simp only [Act.put, List.setIfInBounds_toArray, List.set_cons_zero, List.set_cons_succ]
      refine takeD 13 17 (v := ?v1x13) rfl rfl (by kernel_rfl) (by kernel_rfl) (by kernel_rfl) (fun _ _ _ h => h) (by kernel_rfl) ?hy1x13 (by assumption) ?r1x13
      case hy1x13 => (intro W hSw; (try dsimp only at hSw); go_simp; try with_reducible rfl)
      simp only [Act.put, List.setIfInBounds_toArray, List.set_cons_zero, List.set_cons_succ]
      refine takeD 14 18 (v := ?v1x14) rfl rfl (by kernel_rfl) (by kernel_rfl) (by kernel_rfl) (fun _ _ _ h => h) (by kernel_rfl) ?hy1x14 (by assumption) ?r1x14
      case hy1x14 => (intro W hSw; (try dsimp only at hSw); go_simp; try with_reducible rfl)
      simp only [Act.put, List.setIfInBounds_toArray, List.set_cons_zero, List.set_cons_succ]
      refine takeD 15 19 (v := ?v1x15) rfl rfl (by kernel_rfl) (by kernel_rfl) (by kernel_rfl) (fun _ _ _ h => h) (by kernel_rfl) ?hy1x15 (by assumption) ?r1x15
      case hy1x15 => (intro W hSw; (try dsimp only at hSw); go_simp; try with_reducible rfl)
      simp only [Act.put, List.setIfInBounds_toArray, List.set_cons_zero, List.set_cons_succ]
      refine takeD 16 20 (v := ?v1x16) rfl rfl (by kernel_rfl) (by kernel_rfl) (by kernel_rfl) (fun _ _ _ h => h) (by kernel_rfl) ?hy1x16 (by assumption) ?r1x16
      case hy1x16 => (intro W hSw; (try dsimp only at hSw); go_simp; try with_reducible rfl)
      simp only [Act.put, List.setIfInBounds_toArray, List.set_cons_zero, List.set_cons_succ]
      refine skipAll [(17, 21), (18, 22), (19, 23), (20, 24), (21, 25), (22, 26), (23, 27), (24, 28), (25, 29), (26, 30), (27, 31)] (by kernel_rfl) (fun _ _ _ _ _ h => h) (by assumption) (by kernel_rfl) ?_
      simp only [putAll, listAll, List.foldl_cons, List.foldl_nil, Act.put, List.setIfInBounds_toArray, List.set_cons_zero, List.set_cons_succ]
      refine takeD 28 32 (v := ?v1x28) rfl rfl (by kernel_rfl) (by kernel_rfl) (by kernel_rfl) (fun _ _ _ h => h) (by kernel_rfl) ?hy1x28 (by assumption) ?r1x28
      case hy1x28 => (intro W hSw; (try dsimp only at hSw); go_simp; try with_reducible rfl)
      simp only [Act.put, List.setIfInBounds_toArray, List.set_cons_zero, List.set_cons_succ]
      refine wpAnyH_done (by kernel_rfl) ?_ _
      refine NoPanic.normal ?_
      go_wp2
      refine bodyPost_ret (v := .tuple #[]) (by simp [results, Try.results119, go_sem]) rfl ⟨rfl, ?_, (grown_setG (grown_refl _ _)).trans grown_drew⟩
      rw [HR.out]
      exact ⟨hs, _, _, setc2 HG.out, by omega, .inr ⟨rfl, rfl⟩⟩
    · have hpos : 0 < s.size := by omega
      have HR := hide (rFst_cons (b := b) hpos)
      have hx : (s[0]'hpos).toNat < 256 := (s[0]'hpos).toNat_lt
      by_cases hq : (s[0]'hpos).toNat = b
      · have hq' : (((s[0]'hpos).toNat : Int) = (b : Int)) := by omega
        have hR2 : Hid (rFst s b = some 1) := by show _ = _; rw [HR.out, if_pos hq]
        clear HR hq
        go_enter Try.func119, Try.ntmps119
        go_wp2
        refine wp_region_noPanic ?_
        refine wp_region_held_drew (S := fun W => W.cell? ⟨g, 0, none⟩ = some (.string s) ∧ W.cell? ⟨g, 1, none⟩ = some (.int .i64 0) ∧ W.cell? ⟨g, 2, none⟩ = some (.bool false)) (by kernel_rfl) ?_ (fun hHeld => ?_)
        · (try dsimp only); go_keep
        refine takeD 0 4 (v := ?v2x0) rfl rfl (by kernel_rfl) (by kernel_rfl) (by kernel_rfl) (fun _ _ _ h => h) (by kernel_rfl) ?hy2x0 (by assumption) ?r2x0
        case hy2x0 => (intro W hSw; (try dsimp only at hSw); go_simp; try with_reducible rfl)
        simp only [Act.put, List.setIfInBounds_toArray, List.set_cons_zero, List.set_cons_succ]
        refine takeD 1 5 (v := ?v2x1) rfl rfl (by kernel_rfl) (by kernel_rfl) (by kernel_rfl) (fun _ _ _ h => h) (by kernel_rfl) ?hy2x1 (by assumption) ?r2x1
        case hy2x1 => (intro W hSw; (try dsimp only at hSw); go_simp; try with_reducible rfl)
        simp only [Act.put, List.setIfInBounds_toArray, List.set_cons_zero, List.set_cons_succ]
        refine takeD 2 6 (v := ?v2x2) rfl rfl (by kernel_rfl) (by kernel_rfl) (by kernel_rfl) (fun _ _ _ h => h) (by kernel_rfl) ?hy2x2 (by assumption) ?r2x2
        case hy2x2 => (intro W hSw; (try dsimp only at hSw); go_simp; try with_reducible rfl)
        simp only [Act.put, List.setIfInBounds_toArray, List.set_cons_zero, List.set_cons_succ]
        refine takeD 3 7 (v := ?v2x3) rfl rfl (by kernel_rfl) (by kernel_rfl) (by kernel_rfl) (fun _ _ _ h => h) (by kernel_rfl) ?hy2x3 (by assumption) ?r2x3
        case hy2x3 => (intro W hSw; (try dsimp only at hSw); go_simp; try with_reducible rfl)
        simp only [Act.put, List.setIfInBounds_toArray, List.set_cons_zero, List.set_cons_succ]
        refine takeD 4 8 (v := ?v2x4) rfl rfl (by kernel_rfl) (by kernel_rfl) (by kernel_rfl) (fun _ _ _ h => h) (by kernel_rfl) ?hy2x4 (by assumption) ?r2x4
        case hy2x4 => (intro W hSw; (try dsimp only at hSw); go_simp; try with_reducible rfl)
        simp only [Act.put, List.setIfInBounds_toArray, List.set_cons_zero, List.set_cons_succ]
        refine takeD 5 9 (v := ?v2x5) rfl rfl (by kernel_rfl) (by kernel_rfl) (by kernel_rfl) (fun _ _ _ h => h) (by kernel_rfl) ?hy2x5 (by assumption) ?r2x5
        case hy2x5 => (intro W hSw; (try dsimp only at hSw); go_simp; try with_reducible rfl)
        simp only [Act.put, List.setIfInBounds_toArray, List.set_cons_zero, List.set_cons_succ]
        refine takeD 6 10 (v := ?v2x6) rfl rfl (by kernel_rfl) (by kernel_rfl) (by kernel_rfl) (fun _ _ _ h => h) (by kernel_rfl) ?hy2x6 (by assumption) ?r2x6
        case hy2x6 => (intro W hSw; (try dsimp only at hSw); go_simp; try with_reducible rfl)
        simp only [Act.put, List.setIfInBounds_toArray, List.set_cons_zero, List.set_cons_succ]
        refine takeD 7 11 (v := ?v2x7) rfl rfl (by kernel_rfl) (by kernel_rfl) (by kernel_rfl) (fun _ _ _ h => h) (by kernel_rfl) ?hy2x7 (by assumption) ?r2x7
        case hy2x7 => (intro W hSw; (try dsimp only at hSw); go_simp; try with_reducible rfl)
        simp only [Act.put, List.setIfInBounds_toArray, List.set_cons_zero, List.set_cons_succ]
        refine takeD 8 12 (v := ?v2x8) rfl rfl (by kernel_rfl) (by kernel_rfl) (by kernel_rfl) (fun _ _ _ h => h) (by kernel_rfl) ?hy2x8 (by assumption) ?r2x8
        case hy2x8 => (intro W hSw; (try dsimp only at hSw); go_simp; try with_reducible rfl)
        simp only [Act.put, List.setIfInBounds_toArray, List.set_cons_zero, List.set_cons_succ]
        refine takeD 9 13 (v := ?v2x9) rfl rfl (by kernel_rfl) (by kernel_rfl) (by kernel_rfl) (fun _ _ _ h => h) (by kernel_rfl) ?hy2x9 (by assumption) ?r2x9
        case hy2x9 => (intro W hSw; (try dsimp only at hSw); go_simp; try with_reducible rfl)
        simp only [Act.put, List.setIfInBounds_toArray, List.set_cons_zero, List.set_cons_succ]
        refine takeD 10 14 (v := ?v2x10) rfl rfl (by kernel_rfl) (by kernel_rfl) (by kernel_rfl) (fun _ _ _ h => h) (by kernel_rfl) ?hy2x10 (by assumption) ?r2x10
        case hy2x10 => (intro W hSw; (try dsimp only at hSw); go_simp; try with_reducible rfl)
        simp only [Act.put, List.setIfInBounds_toArray, List.set_cons_zero, List.set_cons_succ]
        refine takeD 11 15 (v := ?v2x11) rfl rfl (by kernel_rfl) (by kernel_rfl) (by kernel_rfl) (fun _ _ _ h => h) (by kernel_rfl) ?hy2x11 (by assumption) ?r2x11
        case hy2x11 => (intro W hSw; (try dsimp only at hSw); go_simp; try with_reducible rfl)
        simp only [Act.put, List.setIfInBounds_toArray, List.set_cons_zero, List.set_cons_succ]
        refine takeD 12 16 (v := ?v2x12) rfl rfl (by kernel_rfl) (by kernel_rfl) (by kernel_rfl) (fun _ _ _ h => h) (by kernel_rfl) ?hy2x12 (by assumption) ?r2x12
        case hy2x12 => (intro W hSw; (try dsimp only at hSw); go_simp; try with_reducible rfl)
        simp only [Act.put, List.setIfInBounds_toArray, List.set_cons_zero, List.set_cons_succ]
        refine takeD 13 17 (v := ?v2x13) rfl rfl (by kernel_rfl) (by kernel_rfl) (by kernel_rfl) (fun _ _ _ h => h) (by kernel_rfl) ?hy2x13 (by assumption) ?r2x13
        case hy2x13 => (intro W hSw; (try dsimp only at hSw); go_simp; try with_reducible rfl)
        simp only [Act.put, List.setIfInBounds_toArray, List.set_cons_zero, List.set_cons_succ]
        refine takeD 14 18 (v := ?v2x14) rfl rfl (by kernel_rfl) (by kernel_rfl) (by kernel_rfl) (fun _ _ _ h => h) (by kernel_rfl) ?hy2x14 (by assumption) ?r2x14
        case hy2x14 => (intro W hSw; (try dsimp only at hSw); go_simp; try with_reducible rfl)
        simp only [Act.put, List.setIfInBounds_toArray, List.set_cons_zero, List.set_cons_succ]
        refine takeD 15 19 (v := ?v2x15) rfl rfl (by kernel_rfl) (by kernel_rfl) (by kernel_rfl) (fun _ _ _ h => h) (by kernel_rfl) ?hy2x15 (by assumption) ?r2x15
        case hy2x15 => (intro W hSw; (try dsimp only at hSw); go_simp; try with_reducible rfl)
        simp only [Act.put, List.setIfInBounds_toArray, List.set_cons_zero, List.set_cons_succ]
        refine takeD 16 20 (v := ?v2x16) rfl rfl (by kernel_rfl) (by kernel_rfl) (by kernel_rfl) (fun _ _ _ h => h) (by kernel_rfl) ?hy2x16 (by assumption) ?r2x16
        case hy2x16 => (intro W hSw; (try dsimp only at hSw); go_simp; try with_reducible rfl)
        simp only [Act.put, List.setIfInBounds_toArray, List.set_cons_zero, List.set_cons_succ]
        refine takeD 17 21 (v := ?v2x17) rfl rfl (by kernel_rfl) (by kernel_rfl) (by kernel_rfl) (fun _ _ _ h => h) (by kernel_rfl) ?hy2x17 (by assumption) ?r2x17
        case hy2x17 => (intro W hSw; (try dsimp only at hSw); go_simp; try with_reducible rfl)
        simp only [Act.put, List.setIfInBounds_toArray, List.set_cons_zero, List.set_cons_succ]
        refine takeD 18 22 (v := ?v2x18) rfl rfl (by kernel_rfl) (by kernel_rfl) (by kernel_rfl) (fun _ _ _ h => h) (by kernel_rfl) ?hy2x18 (by assumption) ?r2x18
        case hy2x18 => (intro W hSw; (try dsimp only at hSw); go_simp; try with_reducible rfl)
        simp only [Act.put, List.setIfInBounds_toArray, List.set_cons_zero, List.set_cons_succ]
        refine takeD 19 23 (v := ?v2x19) rfl rfl (by kernel_rfl) (by kernel_rfl) (by kernel_rfl) (fun _ _ _ h => h) (by kernel_rfl) ?hy2x19 (by assumption) ?r2x19
        case hy2x19 => (intro W hSw; (try dsimp only at hSw); go_simp; try with_reducible rfl)
        simp only [Act.put, List.setIfInBounds_toArray, List.set_cons_zero, List.set_cons_succ]
        refine takeD 20 24 (v := ?v2x20) rfl rfl (by kernel_rfl) (by kernel_rfl) (by kernel_rfl) (fun _ _ _ h => h) (by kernel_rfl) ?hy2x20 (by assumption) ?r2x20
        case hy2x20 => (intro W hSw; (try dsimp only at hSw); go_simp; try with_reducible rfl)
        simp only [Act.put, List.setIfInBounds_toArray, List.set_cons_zero, List.set_cons_succ]
        refine takeD 21 25 (v := ?v2x21) rfl rfl (by kernel_rfl) (by kernel_rfl) (by kernel_rfl) (fun _ _ _ h => h) (by kernel_rfl) ?hy2x21 (by assumption) ?r2x21
        case hy2x21 => (intro W hSw; (try dsimp only at hSw); go_simp; try with_reducible rfl)
        simp only [Act.put, List.setIfInBounds_toArray, List.set_cons_zero, List.set_cons_succ]
        refine takeD 22 26 (v := ?v2x22) rfl rfl (by kernel_rfl) (by kernel_rfl) (by kernel_rfl) (fun _ _ _ h => h) (by kernel_rfl) ?hy2x22 (by assumption) ?r2x22
        case hy2x22 => (intro W hSw; (try dsimp only at hSw); go_simp; try with_reducible rfl)
        simp only [Act.put, List.setIfInBounds_toArray, List.set_cons_zero, List.set_cons_succ]
        refine takeD 23 27 (v := ?v2x23) rfl rfl (by kernel_rfl) (by kernel_rfl) (by kernel_rfl) (fun _ _ _ h => h) (by kernel_rfl) ?hy2x23 (by assumption) ?r2x23
        case hy2x23 => (intro W hSw; (try dsimp only at hSw); go_simp; try with_reducible rfl)
        simp only [Act.put, List.setIfInBounds_toArray, List.set_cons_zero, List.set_cons_succ]
        refine takeD 24 28 (v := ?v2x24) rfl rfl (by kernel_rfl) (by kernel_rfl) (by kernel_rfl) (fun _ _ _ h => h) (by kernel_rfl) ?hy2x24 (by assumption) ?r2x24
        case hy2x24 => (intro W hSw; (try dsimp only at hSw); go_simp; try with_reducible rfl)
        simp only [Act.put, List.setIfInBounds_toArray, List.set_cons_zero, List.set_cons_succ]
        refine takeD 25 29 (v := ?v2x25) rfl rfl (by kernel_rfl) (by kernel_rfl) (by kernel_rfl) (fun _ _ _ h => h) (by kernel_rfl) ?hy2x25 (by assumption) ?r2x25
        case hy2x25 => (intro W hSw; (try dsimp only at hSw); go_simp; try with_reducible rfl)
        simp only [Act.put, List.setIfInBounds_toArray, List.set_cons_zero, List.set_cons_succ]
        refine takeD 26 30 (v := ?v2x26) rfl rfl (by kernel_rfl) (by kernel_rfl) (by kernel_rfl) (fun _ _ _ h => h) (by kernel_rfl) ?hy2x26 (by assumption) ?r2x26
        case hy2x26 => (intro W hSw; (try dsimp only at hSw); go_simp; try with_reducible rfl)
        simp only [Act.put, List.setIfInBounds_toArray, List.set_cons_zero, List.set_cons_succ]
        refine takeD 27 31 (v := ?v2x27) rfl rfl (by kernel_rfl) (by kernel_rfl) (by kernel_rfl) (fun _ _ _ h => h) (by kernel_rfl) ?hy2x27 (by assumption) ?r2x27
        case hy2x27 => (intro W hSw; (try dsimp only at hSw); go_simp; try with_reducible rfl)
        simp only [Act.put, List.setIfInBounds_toArray, List.set_cons_zero, List.set_cons_succ]
        refine takeD 28 32 (v := ?v2x28) rfl rfl (by kernel_rfl) (by kernel_rfl) (by kernel_rfl) (fun _ _ _ h => h) (by kernel_rfl) ?hy2x28 (by assumption) ?r2x28
        case hy2x28 => (intro W hSw; (try dsimp only at hSw); go_simp; try with_reducible rfl)
        simp only [Act.put, List.setIfInBounds_toArray, List.set_cons_zero, List.set_cons_succ]
        refine wpAnyH_done (by kernel_rfl) ?_ _
        refine NoPanic.normal ?_
        go_wp2
        refine bodyPost_end (v := .tuple #[]) (by simp [results, Try.results119, go_sem]) rfl ⟨rfl, ?_, (grown_setG (grown_refl _ _)).trans grown_drew⟩
        rw [hR2.out]
        exact ⟨hs, _, _, setc1 HG.out, by omega, .inl ⟨1, rfl, rfl, rfl, by omega⟩⟩
      · have hq' : ¬ (((s[0]'hpos).toNat : Int) = (b : Int)) := by omega
        have hR2 : Hid (rFst s b = none) := by show _ = _; rw [HR.out, if_neg hq]
        clear HR hq
        go_enter Try.func119, Try.ntmps119
        go_wp2
        refine wp_region_noPanic ?_
        refine wp_region_held_drew (S := fun W => W.cell? ⟨g, 0, none⟩ = some (.string s) ∧ W.cell? ⟨g, 1, none⟩ = some (.int .i64 0) ∧ W.cell? ⟨g, 2, none⟩ = some (.bool false)) (by kernel_rfl) ?_ (fun hHeld => ?_)
        · (try dsimp only); go_keep
        refine takeD 0 4 (v := ?v3x0) rfl rfl (by kernel_rfl) (by kernel_rfl) (by kernel_rfl) (fun _ _ _ h => h) (by kernel_rfl) ?hy3x0 (by assumption) ?r3x0
        case hy3x0 => (intro W hSw; (try dsimp only at hSw); go_simp; try with_reducible rfl)
        simp only [Act.put, List.setIfInBounds_toArray, List.set_cons_zero, List.set_cons_succ]
        refine takeD 1 5 (v := ?v3x1) rfl rfl (by kernel_rfl) (by kernel_rfl) (by kernel_rfl) (fun _ _ _ h => h) (by kernel_rfl) ?hy3x1 (by assumption) ?r3x1
        case hy3x1 => (intro W hSw; (try dsimp only at hSw); go_simp; try with_reducible rfl)
        simp only [Act.put, List.setIfInBounds_toArray, List.set_cons_zero, List.set_cons_succ]
        refine takeD 2 6 (v := ?v3x2) rfl rfl (by kernel_rfl) (by kernel_rfl) (by kernel_rfl) (fun _ _ _ h => h) (by kernel_rfl) ?hy3x2 (by assumption) ?r3x2
        case hy3x2 => (intro W hSw; (try dsimp only at hSw); go_simp; try with_reducible rfl)
        simp only [Act.put, List.setIfInBounds_toArray, List.set_cons_zero, List.set_cons_succ]
        refine takeD 3 7 (v := ?v3x3) rfl rfl (by kernel_rfl) (by kernel_rfl) (by kernel_rfl) (fun _ _ _ h => h) (by kernel_rfl) ?hy3x3 (by assumption) ?r3x3
        case hy3x3 => (intro W hSw; (try dsimp only at hSw); go_simp; try with_reducible rfl)
        simp only [Act.put, List.setIfInBounds_toArray, List.set_cons_zero, List.set_cons_succ]
        refine takeD 4 8 (v := ?v3x4) rfl rfl (by kernel_rfl) (by kernel_rfl) (by kernel_rfl) (fun _ _ _ h => h) (by kernel_rfl) ?hy3x4 (by assumption) ?r3x4
        case hy3x4 => (intro W hSw; (try dsimp only at hSw); go_simp; try with_reducible rfl)
        simp only [Act.put, List.setIfInBounds_toArray, List.set_cons_zero, List.set_cons_succ]
        refine takeD 5 9 (v := ?v3x5) rfl rfl (by kernel_rfl) (by kernel_rfl) (by kernel_rfl) (fun _ _ _ h => h) (by kernel_rfl) ?hy3x5 (by assumption) ?r3x5
        case hy3x5 => (intro W hSw; (try dsimp only at hSw); go_simp; try with_reducible rfl)
        simp only [Act.put, List.setIfInBounds_toArray, List.set_cons_zero, List.set_cons_succ]
        refine takeD 6 10 (v := ?v3x6) rfl rfl (by kernel_rfl) (by kernel_rfl) (by kernel_rfl) (fun _ _ _ h => h) (by kernel_rfl) ?hy3x6 (by assumption) ?r3x6
        case hy3x6 => (intro W hSw; (try dsimp only at hSw); go_simp; try with_reducible rfl)
        simp only [Act.put, List.setIfInBounds_toArray, List.set_cons_zero, List.set_cons_succ]
        refine takeD 7 11 (v := ?v3x7) rfl rfl (by kernel_rfl) (by kernel_rfl) (by kernel_rfl) (fun _ _ _ h => h) (by kernel_rfl) ?hy3x7 (by assumption) ?r3x7
        case hy3x7 => (intro W hSw; (try dsimp only at hSw); go_simp; try with_reducible rfl)
        simp only [Act.put, List.setIfInBounds_toArray, List.set_cons_zero, List.set_cons_succ]
        refine takeD 8 12 (v := ?v3x8) rfl rfl (by kernel_rfl) (by kernel_rfl) (by kernel_rfl) (fun _ _ _ h => h) (by kernel_rfl) ?hy3x8 (by assumption) ?r3x8
        case hy3x8 => (intro W hSw; (try dsimp only at hSw); go_simp; try with_reducible rfl)
        simp only [Act.put, List.setIfInBounds_toArray, List.set_cons_zero, List.set_cons_succ]
        refine takeD 9 13 (v := ?v3x9) rfl rfl (by kernel_rfl) (by kernel_rfl) (by kernel_rfl) (fun _ _ _ h => h) (by kernel_rfl) ?hy3x9 (by assumption) ?r3x9
        case hy3x9 => (intro W hSw; (try dsimp only at hSw); go_simp; try with_reducible rfl)
        simp only [Act.put, List.setIfInBounds_toArray, List.set_cons_zero, List.set_cons_succ]
        refine takeD 10 14 (v := ?v3x10) rfl rfl (by kernel_rfl) (by kernel_rfl) (by kernel_rfl) (fun _ _ _ h => h) (by kernel_rfl) ?hy3x10 (by assumption) ?r3x10
        case hy3x10 => (intro W hSw; (try dsimp only at hSw); go_simp; try with_reducible rfl)
        simp only [Act.put, List.setIfInBounds_toArray, List.set_cons_zero, List.set_cons_succ]
        refine takeD 11 15 (v := ?v3x11) rfl rfl (by kernel_rfl) (by kernel_rfl) (by kernel_rfl) (fun _ _ _ h => h) (by kernel_rfl) ?hy3x11 (by assumption) ?r3x11
        case hy3x11 => (intro W hSw; (try dsimp only at hSw); go_simp; try with_reducible rfl)
        simp only [Act.put, List.setIfInBounds_toArray, List.set_cons_zero, List.set_cons_succ]
        refine takeD 12 16 (v := ?v3x12) rfl rfl (by kernel_rfl) (by kernel_rfl) (by kernel_rfl) (fun _ _ _ h => h) (by kernel_rfl) ?hy3x12 (by assumption) ?r3x12
        case hy3x12 => (intro W hSw; (try dsimp only at hSw); go_simp; try with_reducible rfl)
        simp only [Act.put, List.setIfInBounds_toArray, List.set_cons_zero, List.set_cons_succ]
        refine takeD 13 17 (v := ?v3x13) rfl rfl (by kernel_rfl) (by kernel_rfl) (by kernel_rfl) (fun _ _ _ h => h) (by kernel_rfl) ?hy3x13 (by assumption) ?r3x13
        case hy3x13 => (intro W hSw; (try dsimp only at hSw); go_simp; try with_reducible rfl)
        simp only [Act.put, List.setIfInBounds_toArray, List.set_cons_zero, List.set_cons_succ]
        refine takeD 14 18 (v := ?v3x14) rfl rfl (by kernel_rfl) (by kernel_rfl) (by kernel_rfl) (fun _ _ _ h => h) (by kernel_rfl) ?hy3x14 (by assumption) ?r3x14
        case hy3x14 => (intro W hSw; (try dsimp only at hSw); go_simp; try with_reducible rfl)
        simp only [Act.put, List.setIfInBounds_toArray, List.set_cons_zero, List.set_cons_succ]
        refine takeD 15 19 (v := ?v3x15) rfl rfl (by kernel_rfl) (by kernel_rfl) (by kernel_rfl) (fun _ _ _ h => h) (by kernel_rfl) ?hy3x15 (by assumption) ?r3x15
        case hy3x15 => (intro W hSw; (try dsimp only at hSw); go_simp; try with_reducible rfl)
        simp only [Act.put, List.setIfInBounds_toArray, List.set_cons_zero, List.set_cons_succ]
        refine takeD 16 20 (v := ?v3x16) rfl rfl (by kernel_rfl) (by kernel_rfl) (by kernel_rfl) (fun _ _ _ h => h) (by kernel_rfl) ?hy3x16 (by assumption) ?r3x16
        case hy3x16 => (intro W hSw; (try dsimp only at hSw); go_simp; try with_reducible rfl)
        simp only [Act.put, List.setIfInBounds_toArray, List.set_cons_zero, List.set_cons_succ]
        refine takeD 17 21 (v := ?v3x17) rfl rfl (by kernel_rfl) (by kernel_rfl) (by kernel_rfl) (fun _ _ _ h => h) (by kernel_rfl) ?hy3x17 (by assumption) ?r3x17
        case hy3x17 => (intro W hSw; (try dsimp only at hSw); go_simp; try with_reducible rfl)
        simp only [Act.put, List.setIfInBounds_toArray, List.set_cons_zero, List.set_cons_succ]
        refine takeD 18 22 (v := ?v3x18) rfl rfl (by kernel_rfl) (by kernel_rfl) (by kernel_rfl) (fun _ _ _ h => h) (by kernel_rfl) ?hy3x18 (by assumption) ?r3x18
        case hy3x18 => (intro W hSw; (try dsimp only at hSw); go_simp; try with_reducible rfl)
        simp only [Act.put, List.setIfInBounds_toArray, List.set_cons_zero, List.set_cons_succ]
        refine takeD 19 23 (v := ?v3x19) rfl rfl (by kernel_rfl) (by kernel_rfl) (by kernel_rfl) (fun _ _ _ h => h) (by kernel_rfl) ?hy3x19 (by assumption) ?r3x19
        case hy3x19 => (intro W hSw; (try dsimp only at hSw); go_simp; try with_reducible rfl)
        simp only [Act.put, List.setIfInBounds_toArray, List.set_cons_zero, List.set_cons_succ]
        refine takeD 20 24 (v := ?v3x20) rfl rfl (by kernel_rfl) (by kernel_rfl) (by kernel_rfl) (fun _ _ _ h => h) (by kernel_rfl) ?hy3x20 (by assumption) ?r3x20
        case hy3x20 => (intro W hSw; (try dsimp only at hSw); go_simp; try with_reducible rfl)
        simp only [Act.put, List.setIfInBounds_toArray, List.set_cons_zero, List.set_cons_succ]
        refine takeD 21 25 (v := ?v3x21) rfl rfl (by kernel_rfl) (by kernel_rfl) (by kernel_rfl) (fun _ _ _ h => h) (by kernel_rfl) ?hy3x21 (by assumption) ?r3x21
        case hy3x21 => (intro W hSw; (try dsimp only at hSw); go_simp; try with_reducible rfl)
        simp only [Act.put, List.setIfInBounds_toArray, List.set_cons_zero, List.set_cons_succ]
        refine takeD 22 26 (v := ?v3x22) rfl rfl (by kernel_rfl) (by kernel_rfl) (by kernel_rfl) (fun _ _ _ h => h) (by kernel_rfl) ?hy3x22 (by assumption) ?r3x22
        case hy3x22 => (intro W hSw; (try dsimp only at hSw); go_simp; try with_reducible rfl)
        simp only [Act.put, List.setIfInBounds_toArray, List.set_cons_zero, List.set_cons_succ]
        refine takeD 23 27 (v := ?v3x23) rfl rfl (by kernel_rfl) (by kernel_rfl) (by kernel_rfl) (fun _ _ _ h => h) (by kernel_rfl) ?hy3x23 (by assumption) ?r3x23
        case hy3x23 => (intro W hSw; (try dsimp only at hSw); go_simp; try with_reducible rfl)
        simp only [Act.put, List.setIfInBounds_toArray, List.set_cons_zero, List.set_cons_succ]
        refine takeD 24 28 (v := ?v3x24) rfl rfl (by kernel_rfl) (by kernel_rfl) (by kernel_rfl) (fun _ _ _ h => h) (by kernel_rfl) ?hy3x24 (by assumption) ?r3x24
        case hy3x24 => (intro W hSw; (try dsimp only at hSw); go_simp; try with_reducible rfl)
        simp only [Act.put, List.setIfInBounds_toArray, List.set_cons_zero, List.set_cons_succ]
        refine takeD 25 29 (v := ?v3x25) rfl rfl (by kernel_rfl) (by kernel_rfl) (by kernel_rfl) (fun _ _ _ h => h) (by kernel_rfl) ?hy3x25 (by assumption) ?r3x25
        case hy3x25 => (intro W hSw; (try dsimp only at hSw); go_simp; try with_reducible rfl)
        simp only [Act.put, List.setIfInBounds_toArray, List.set_cons_zero, List.set_cons_succ]
        refine takeD 26 30 (v := ?v3x26) rfl rfl (by kernel_rfl) (by kernel_rfl) (by kernel_rfl) (fun _ _ _ h => h) (by kernel_rfl) ?hy3x26 (by assumption) ?r3x26
        case hy3x26 => (intro W hSw; (try dsimp only at hSw); go_simp; try with_reducible rfl)
        simp only [Act.put, List.setIfInBounds_toArray, List.set_cons_zero, List.set_cons_succ]
        refine takeD 27 31 (v := ?v3x27) rfl rfl (by kernel_rfl) (by kernel_rfl) (by kernel_rfl) (fun _ _ _ h => h) (by kernel_rfl) ?hy3x27 (by assumption) ?r3x27
        case hy3x27 => (intro W hSw; (try dsimp only at hSw); go_simp; try with_reducible rfl)
        simp only [Act.put, List.setIfInBounds_toArray, List.set_cons_zero, List.set_cons_succ]
        refine takeD 28 32 (v := ?v3x28) rfl rfl (by kernel_rfl) (by kernel_rfl) (by kernel_rfl) (fun _ _ _ h => h) (by kernel_rfl) ?hy3x28 (by assumption) ?r3x28
        case hy3x28 => (intro W hSw; (try dsimp only at hSw); go_simp; try with_reducible rfl)
        simp only [Act.put, List.setIfInBounds_toArray, List.set_cons_zero, List.set_cons_succ]
        refine wpAnyH_done (by kernel_rfl) ?_ _
        refine NoPanic.normal ?_
        go_wp2
        refine bodyPost_ret (v := .tuple #[]) (by simp [results, Try.results119, go_sem]) rfl ⟨rfl, ?_, (grown_setG (grown_refl _ _)).trans grown_drew⟩
        rw [hR2.out]
        exact ⟨hs, _, _, setc2 HG.out, by omega, .inr ⟨rfl, rfl⟩⟩
  · cases h0
end Go.Proofs.Ytfhfhpnoeghgmaa

/-
  The specification's reading of a record, and the program's: they tell the same. Plain.
-/
namespace Go.Proofs.Ytfhfhpnoeghgmaa
open Go.RowKit
set_option maxRecDepth 100000

/-- What the specification reads of a text: number, text, how many bytes, was it there? -/
def spRead (s : ByteArray) : (Int × ByteArray) × Int × Bool :=
  let n := rNum s (rFst s 76)
  let t := rTxt s n.2
  match t.2 with
  | none => ((n.1, t.1), 0, false)
  | some a => if a + 4 ≤ s.size ∧ fourS (crcMoreN 0 (s.data.toList.take a)) = s.extract a (a + 4) then ((n.1, t.1), ((a + 4 : Nat) : Int), true) else ((n.1, t.1), 0, false)
theorem cons_of_first {s : ByteArray} {b p : Nat} (h : rFst s b = some p) : ∃ x l, s.data.toList = x :: l ∧ x.toNat = b ∧ p = 1 := by
  unfold rFst at h
  split at h
  · cases h
  · rename_i x l hl
    split at h
    · rename_i hx
      cases h
      exact ⟨x, l, hl, hx, rfl⟩
    · cases h
theorem rNum_some {s : ByteArray} {p : Nat} {v : Int} {m : Nat} (h : rdAt s.data.toList p = (v, m, 0)) : rNum s (some p) = (v, some (p + m)) := by
  unfold rNum
  simp only [h]
  rfl
theorem rNum_bad {s : ByteArray} {p : Nat} (h : ¬ (rdAt s.data.toList p).2.2 = 0) : rNum s (some p) = (0, none) := if_neg h
theorem rTxt_some {s : ByteArray} {p : Nat} (h : (txtAt s p).2.2 = 0) : rTxt s (some p) = ((txtAt s p).1, some (txtAt s p).2.1.toNat) := if_pos h
theorem rTxt_bad {s : ByteArray} {p : Nat} (h : ¬ (txtAt s p).2.2 = 0) : rTxt s (some p) = (ByteArray.empty, none) := if_neg h
theorem spRead_eq (s : ByteArray) : spRead s = (match (rTxt s (rNum s (rFst s 76)).2).2 with
  | none => (((rNum s (rFst s 76)).1, (rTxt s (rNum s (rFst s 76)).2).1), 0, false)
  | some a => if a + 4 ≤ s.size ∧ fourS (crcMoreN 0 (s.data.toList.take a)) = s.extract a (a + 4) then (((rNum s (rFst s 76)).1, (rTxt s (rNum s (rFst s 76)).2).1), ((a + 4 : Nat) : Int), true) else (((rNum s (rFst s 76)).1, (rTxt s (rNum s (rFst s 76)).2).1), 0, false)) := rfl
theorem crc_small {l : List UInt8} (h : l.length ≤ 20000) : crcOf (mkS l) = crcMoreN 0 l := by
  rw [crcOf_in _ (by rw [mkS_size]; exact h), mkS_list]
/-- What the specification reads as a record has just that record's bytes. -/
theorem spRead_canon {s : ByteArray} {q n : Int} {t : ByteArray} (hr : recRight q t = true) (h : spRead s = ((q, t), n, true)) : (recS q t).data.toList <+: s.data.toList := by
  have ht := ((recRight_iff q t).1 hr).2
  rw [spRead_eq] at h
  cases h1 : rFst s 76 with
  | none => rw [h1] at h; simp [rNum, rTxt] at h
  | some p =>
    obtain ⟨x, l, hl, hx, rfl⟩ := cons_of_first h1
    rw [h1] at h
    by_cases hc : (rdAt s.data.toList 1).2.2 = 0
    · obtain ⟨r, hrd⟩ : ∃ r, rdAt s.data.toList 1 = r := ⟨_, rfl⟩
      rw [hrd] at hc
      obtain ⟨v, m, c⟩ := r
      simp only at hc
      subst hc
      obtain ⟨hd, hm⟩ := rdAt_canon hrd
      rw [rNum_some hrd] at h
      simp only at h
      by_cases hc2 : (txtAt s (1 + m)).2.2 = 0
      · rw [rTxt_some hc2] at h
        obtain ⟨a2, e1, e2, e3⟩ := txtAt_canon hc2
        simp only at h
        rw [e1, Int.toNat_natCast] at h
        split at h
        · rename_i hcond
          simp only [Prod.mk.injEq, and_true] at h
          obtain ⟨⟨rfl, rfl⟩, _⟩ := h
          generalize (txtAt s (1 + m)).1 = t at *
          have hx' : x = 76 := UInt8.toNat.inj hx
          have hL : s.data.toList = recL v t ++ s.data.toList.drop a2 := by
            rw [recL_eq v (by omega)]
            have h0 : s.data.toList = 76 :: s.data.toList.drop 1 := by rw [hl, hx']; rfl
            have h5 : (76 : UInt8) :: s.data.toList.drop 1 = (76 :: numB v) ++ (numB (t.size : Int) ++ t.data.toList) ++ s.data.toList.drop a2 := by
              rw [hd, e2]; simp
            exact h0.trans h5
          have hlen : (recL v t).length = a2 := by
            rw [recL_eq v (by omega)]
            have : t.data.toList.length = t.size := rfl
            simp only [List.length_append, List.length_cons]
            omega
          have htk : s.data.toList.take a2 = recL v t := by
            rw [hL, List.take_append_of_le_length (by omega), List.take_of_length_le (by omega)]
          have h4 : (fourS (crcMoreN 0 (recL v t))).data.toList = (s.data.toList.drop a2).take 4 := by
            rw [← htk, hcond.2, ext_list, show a2 + 4 - a2 = 4 by omega]
          rw [recS_eq ht, mkS_list, crc_small (by have := recL_len v t ht; omega), h4]
          refine ⟨(s.data.toList.drop a2).drop 4, ?_⟩
          rw [List.append_assoc, List.take_append_drop]
          exact hL.symm
        · simp at h
      · rw [rTxt_bad hc2] at h
        simp at h
    · rw [rNum_bad hc] at h
      simp [rTxt] at h
/-- A right record's bytes at the beginning are read. -/
theorem spRead_put {s : ByteArray} {q : Int} {t : ByteArray} (hr : recRight q t = true) (h : (recS q t).data.toList <+: s.data.toList) : spRead s = ((q, t), ((recS q t).size : Int), true) := by
  obtain ⟨⟨hq1, hq2⟩, ht⟩ := (recRight_iff q t).1 hr
  obtain ⟨rest, hp⟩ := h
  have hsz := recS_len (q := q) ht
  rw [recS_eq ht, mkS_list, List.append_assoc] at hp
  have hcl := recL_len q t ht
  rw [crc_small (by omega)] at hp
  have hf4 : (fourS (crcMoreN 0 (recL q t))).data.toList.length = 4 := fourS_size _
  have h1 : rFst s 76 = some 1 := by
    unfold rFst
    rw [← hp, recL_eq q (by omega)]
    rfl
  have hrd : rdAt s.data.toList 1 = (q, (numB q).length, 0) := by
    have := rdAt_put q (by omega) (by omega) [76] (numB (t.size : Int) ++ (t.data.toList ++ ((fourS (crcMoreN 0 (recL q t))).data.toList ++ rest)))
    rw [← hp]
    rw [show recL q t ++ ((fourS (crcMoreN 0 (recL q t))).data.toList ++ rest) = [76] ++ numB q ++ (numB (t.size : Int) ++ (t.data.toList ++ ((fourS (crcMoreN 0 (recL q t))).data.toList ++ rest))) from by
      conv => lhs; arg 1; rw [recL_eq q (by omega)]
      simp]
    exact this
  have htx := txtAt_put (s := s) (a := 76 :: numB q) (rest := (fourS (crcMoreN 0 (recL q t))).data.toList ++ rest) ht (by
    rw [← hp]
    conv => lhs; arg 1; rw [recL_eq q (by omega)]
    simp)
  have hal : (76 :: numB q).length = 1 + (numB q).length := by rw [List.length_cons]; omega
  rw [hal] at htx
  have hlen : (recL q t).length = 1 + (numB q).length + (numB (t.size : Int)).length + t.size := by
    rw [recL_eq q (by omega)]
    have : t.data.toList.length = t.size := rfl
    simp only [List.length_append, List.length_cons]
    omega
  rw [← hlen] at htx
  rw [spRead_eq, h1, rNum_some hrd]
  simp only
  rw [rTxt_some (by rw [htx]), htx]
  simp only [Int.toNat_natCast]
  have hss : s.size = (recL q t).length + 4 + rest.length := by
    have : s.data.toList.length = s.size := rfl
    rw [← this, ← hp]
    simp only [List.length_append]
    omega
  have htk : s.data.toList.take (recL q t).length = recL q t := by rw [← hp, List.take_left']; rfl
  have h4 : fourS (crcMoreN 0 (recL q t)) = s.extract (recL q t).length ((recL q t).length + 4) := by
    apply ba_ext
    rw [ext_list, ← hp, List.drop_left' rfl, show (recL q t).length + 4 - (recL q t).length = 4 by omega, List.take_left' hf4]
  rw [htk, if_pos ⟨by omega, h4⟩, hsz]
theorem take_prefix {l L : List UInt8} {j : Nat} (h : l <+: L) (hj : l.length ≤ j ∨ L.length ≤ j) : l <+: L.take j := by
  rcases hj with hj | hj
  · obtain ⟨r, rfl⟩ := h
    exact ⟨r.take (j - l.length), by rw [List.take_append, List.take_of_length_le hj]⟩
  · rw [List.take_of_length_le hj]; exact h
/-- In the first bytes of a text a record is read just where it stands in the text. -/
theorem spRead_some {s S : ByteArray} {q : Int} {t : ByteArray} {j : Nat} (hs : s.data.toList = S.data.toList.take j) (hj : 6400 ≤ j ∨ S.size ≤ j) (h : recAt S q = some t) : recRight q t = true ∧ spRead s = ((q, t), ((recS q t).size : Int), true) := by
  obtain ⟨hr, hp⟩ := (recAt_iff S q t).1 h
  refine ⟨hr, spRead_put hr ?_⟩
  rw [hs]
  refine take_prefix hp ?_
  have h1 : (recS q t).data.toList.length = (recS q t).size := rfl
  have h2 : S.data.toList.length = S.size := rfl
  have h3 := recBytes_len q t
  rw [recBytes_yes hr] at h3
  omega
theorem spRead_none {s S : ByteArray} {q n x : Int} {t : ByteArray} {j : Nat} (hs : s.data.toList = S.data.toList.take j) (h : recAt S q = none) (hsp : spRead s = ((x, t), n, true)) (hr : recRight x t = true) : x ≠ q := by
  rintro rfl
  have hp := spRead_canon hr hsp
  rw [hs] at hp
  have := (recAt_iff S x t).2 ⟨hr, hp.trans (List.take_prefix _ _)⟩
  rw [h] at this
  cases this
/-- The records that stand from a sector on, and the sector behind. -/
def restT (fl : List ByteArray) (k : Nat) : ByteArray := mkS (secsT fl k (fl.length - k))
def logR (fl : List ByteArray) : Nat → Nat → Int → List Wr × Nat
  | 0, k, _ => ([], k)
  | f + 1, k, q => match recAt (restT fl k) q with
    | none => ([], k)
    | some t => (⟨q, t⟩ :: (logR fl f (k + many (recS q t)) (q + 1)).1, (logR fl f (k + many (recS q t)) (q + 1)).2)
theorem logR_none {fl : List ByteArray} {f k : Nat} {q : Int} (h : recAt (restT fl k) q = none) : logR fl (f + 1) k q = ([], k) := by
  simp only [logR, h]
theorem logR_some {fl : List ByteArray} {f k : Nat} {q : Int} {t : ByteArray} (h : recAt (restT fl k) q = some t) : logR fl (f + 1) k q = (⟨q, t⟩ :: (logR fl f (k + many (recS q t)) (q + 1)).1, (logR fl f (k + many (recS q t)) (q + 1)).2) := by
  simp only [logR, h]
theorem restT_len {fl : List ByteArray} (h64 : ∀ i, i < fl.length → (fl.getD i ByteArray.empty).size = 64) {k : Nat} (hk : k ≤ fl.length) : (restT fl k).size = (fl.length - k) * 64 := by
  unfold restT
  rw [mkS_size, secsT_len h64 k _ (by omega)]
theorem recAt_end {s : ByteArray} {q : Int} (h : s.size = 0) : recAt s q = none := by
  cases hq : recAt s q with
  | none => rfl
  | some t =>
    obtain ⟨hr, hp⟩ := (recAt_iff s q t).1 hq
    have h1 := hp.length_le
    have h2 : (recS q t).data.toList.length = (recS q t).size := rfl
    have h3 : s.data.toList.length = s.size := rfl
    have h4 := recS_len (q := q) ((recRight_iff q t).1 hr).2
    omega
/-- A record that stands lies on sectors that are there, on one at least. -/
theorem recAt_many {fl : List ByteArray} (h64 : ∀ i, i < fl.length → (fl.getD i ByteArray.empty).size = 64) {k : Nat} {q : Int} {t : ByteArray} (hk : k ≤ fl.length) (h : recAt (restT fl k) q = some t) : 1 ≤ many (recS q t) ∧ k + many (recS q t) ≤ fl.length ∧ (recS q t).size ≤ 6025 ∧ t.size ≤ 6000 ∧ 1 ≤ q ∧ q ≤ 1000000000 := by
  obtain ⟨hr, hp⟩ := (recAt_iff _ q t).1 h
  obtain ⟨⟨hq1, hq2⟩, ht⟩ := (recRight_iff q t).1 hr
  have h1 := hp.length_le
  have h2 : (recS q t).data.toList.length = (recS q t).size := rfl
  have h3 : (restT fl k).data.toList.length = (restT fl k).size := rfl
  have h4 := recS_len (q := q) ht
  have h5 := restT_len h64 hk
  have h6 := recBytes_len q t
  rw [recBytes_yes hr] at h6
  unfold many
  refine ⟨by omega, ?_, h6, ht, hq1, hq2⟩
  omega
theorem str_neL {a b : ByteArray} (h : a ≠ b) : (a.toList == b.toList) = false := by
  rw [Bool.eq_false_iff]
  intro e
  rw [beq_iff_eq, ByteArray.toList_eq, ByteArray.toList_eq] at e
  exact h (ba_ext e)
end Go.Proofs.Ytfhfhpnoeghgmaa
