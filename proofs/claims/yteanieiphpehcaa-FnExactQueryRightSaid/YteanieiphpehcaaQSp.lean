/-
  Contracts: a text parted at a byte by the specification; a column's name.
-/
import Derived.Test.YteanieiphpehcaaQPl
import Derived.Test.YteanieiphpehcaaOwns
import Derived.Test.YteanieiphpehcaaGrowG
import Derived.Maps.AppendAt
import Derived.Deep.RegionHeld3
import Derived.OwnWalk
import Derived.WalkLawsBesides
namespace Go.Proofs.Yteanieiphpehcaa
open Go.RowKit
set_option maxRecDepth 100000

theorem Try.infoStrQ : (Try.prog.info? 9).map (fun i => (i.zero, i.size, i.bytes)) = some (some (.string ⟨#[]⟩), 1, 16) := by kernel_rfl
def strsQ (l : List ByteArray) : List Value := l.map Value.string
/-- Texts that a call has made, in a row of their own. -/
def OwnQ (base : Nat) (v : Value) (l : List ByteArray) (w : World) : Prop := w.ownsRow base 9 1 v l.length (strsQ l)
theorem ownQ_row {base : Nat} {v : Value} {l : List ByteArray} {w : World} (h : OwnQ base v l w) : ∃ ao cap, v = .slice ao l.length cap ∧ ∀ k, k < l.length → ∃ b off x, ao = some ⟨b, off, none⟩ ∧ b < w.heap.size ∧ l.getD k ByteArray.empty = x ∧ w.cell? ⟨b, off + k, none⟩ = some (.string x) := by
  obtain ⟨ao, cap, hv, hc⟩ := cellRow_of_owns h
  have hl : (strsQ l).length = l.length := by simp [strsQ]
  rw [hl] at hv
  refine ⟨ao, cap, hv, fun k hk => ?_⟩
  obtain ⟨b, off, e, hb, hk'⟩ := hc.at k (by rw [hl]; exact hk)
  refine ⟨b, off, _, e, hb, rfl, hk'.trans ?_⟩
  simp [strsQ, List.getD_eq_getElem?_getD, hk]
theorem one_strQ (x : ByteArray) : ∀ u ∈ [Value.string x], u.oneCell' = true := fun u hu => by simp at hu; subst hu; rfl
theorem ownQ_snoc {base : Nat} {v : Value} {l : List ByteArray} {x : ByteArray} {w : World} {n : Nat} (hn : n = l.length) (h : w.ownsRow base 9 1 v (n + 1) (strsQ l ++ [.string x])) : OwnQ base v (l ++ [x]) w := by
  subst hn
  unfold OwnQ
  rw [List.length_append, List.length_singleton]
  simpa [strsQ] using h
set_option maxHeartbeats 4000000 in
theorem specSplit_any (s : ByteArray) (b : UInt8) (w : World) (hs : s.size ≤ 1048576) :
    Calls Try.prog 40 #[.string s, .int .u8 b.toNat] w fun e w' => ∃ v, e = .returned v ∧ OwnQ w.heap.size v (splitB b s) w' ∧ Below w.heap.size w w' := by
  obtain ⟨i0, hi, hz0, hz1, hz2⟩ := info_parts Try.infoStrQ
  have HR : Hid (splitB b s = (spl b s s.size).1 ++ [s.extract (spl b s s.size).2 s.size]) := rfl
  generalize splitB b s = res at *
  have HO0 : Hid (OwnQ w.heap.size (.slice (some ⟨w.heap.size, 0, none⟩) 0 0) [] (w.alloc (.cells #[] 9))) := ⟨rfl, .inr ⟨w.heap.size, 0, #[], rfl, Nat.le_refl _, heap_alloc_new _ _, Nat.le_refl _, Nat.zero_le _, rfl, rfl⟩⟩
  go_enter Try.func40, Try.ntmps40
  go_wp2
  go_loopw [5, 6, 7] (fun u f i wr => ∃ k : Nat, k ≤ s.size ∧ i = .int .i64 k ∧ f = .int .i64 (spl b s k).2 ∧ Hid (OwnQ w.heap.size u (spl b s k).1 wr) ∧ Below w.heap.size w wr) (fun _ _ i _ => s.size - (intOf i).toNat)
  case atStart => exact ⟨0, Nat.zero_le _, rfl, rfl, HO0, (Below.refl _ _).alloc (Nat.le_refl _) _⟩
  case round =>
    clear HO0
    obtain ⟨k, hk, rfl, rfl, HO, hb⟩ := hrel
    have hz := hb.size
    obtain ⟨ao, cap, hu, _⟩ := ownQ_row HO.out
    obtain ⟨hp1, hp2⟩ := spl_len b s k
    by_cases hlt : k < s.size
    · have hget : s.data.toList[k]? = some s[k] := by rw [List.getElem?_eq_getElem (by simpa using hlt)]; rfl
      by_cases he : s.data.toList[k]? = some b
      · have hbe : ((s[k].toNat : Int) == (b.toNat : Int)) = true := by
          rw [hget] at he
          injection he with he
          rw [he]; simp
        have HS : Hid (spl b s (k + 1) = ((spl b s k).1 ++ [s.extract (spl b s k).2 k], k + 1)) := spl_hit he
        generalize spl b s k = pr at *
        obtain ⟨l, f⟩ := pr
        simp only at *
        subst hu
        have hown : wr.ownsRow w.heap.size 9 1 (.slice ao l.length cap) l.length (strsQ l) := HO.out
        clear HO hget he
        go_wp2_with (at_builtin; refine wpList_append_own _ rfl _ _ 76 rfl w.heap.size 9 i0 (.string ⟨#[]⟩) 1 16 Try.underlying76 hi hz0 hz1 hz2 rfl (by decide) _ _ _ rfl (hown.alloc _) ⟨wr.heap.size, 0, none⟩ 1 1 [.string (s.extract f k)] rfl rfl (cell_one_new _ _ _) (one_strQ _) (by unfold maxLen; omega) (by omega) (by simp; omega) ?_; intro v5 w5 hown5 hgrow5 _)
        have HB5 : Hid (Below w.heap.size w w5) := (hb.alloc hz _).grown hgrow5 (by simp; omega) (fun j hj => (World.ownsRow.lt hown j hj).1)
        have HO5 : Hid (OwnQ w.heap.size v5 (l ++ [s.extract f k]) w5) := ownQ_snoc rfl hown5
        clear hown5 hgrow5 hown hb hz
        go_wp2
        go_roundw
        case rel => exact ⟨k + 1, by omega, by go_num, by rw [HS.out]; go_num, by rw [HS.out]; exact HO5, HB5.out⟩
        case measure => simp [intOf]; omega
      · have hbe : ((s[k].toNat : Int) == (b.toNat : Int)) = false := by
          rw [hget] at he
          rw [beq_eq_false_iff_ne]
          intro e
          exact he (congrArg some (UInt8.toNat_inj.1 (by omega)))
        have HS : Hid (spl b s (k + 1) = spl b s k) := spl_miss he
        generalize spl b s k = pr at *
        clear hget he hu
        go_wp2
        go_roundw
        case rel => exact ⟨k + 1, by omega, by go_num, by rw [HS.out], by rw [HS.out]; exact HO, hb⟩
        case measure => simp [intOf]; omega
    · obtain rfl : k = s.size := by omega
      generalize spl b s s.size = pr at *
      obtain ⟨l, f⟩ := pr
      simp only at *
      subst hu
      have hown : wr.ownsRow w.heap.size 9 1 (.slice ao l.length cap) l.length (strsQ l) := HO.out
      clear HO
      go_wp2_with (at_builtin; refine wpList_append_own _ rfl _ _ 76 rfl w.heap.size 9 i0 (.string ⟨#[]⟩) 1 16 Try.underlying76 hi hz0 hz1 hz2 rfl (by decide) _ _ _ rfl (hown.alloc _) ⟨wr.heap.size, 0, none⟩ 1 1 [.string (s.extract f s.size)] rfl rfl (cell_one_new _ _ _) (one_strQ _) (by unfold maxLen; omega) (by omega) (by simp; omega) ?_; intro v5 w5 hown5 hgrow5 _)
      have HB5 : Hid (Below w.heap.size w w5) := (hb.alloc hz _).grown hgrow5 (by simp; omega) (fun j hj => (World.ownsRow.lt hown j hj).1)
      have HO5 : Hid (OwnQ w.heap.size v5 (l ++ [s.extract f s.size]) w5) := ownQ_snoc rfl hown5
      clear hown5 hgrow5 hown hb hz
      go_wp2
      go_ret
      exact ⟨_, rfl, by rw [HR.out]; exact HO5, HB5.out⟩
set_option maxHeartbeats 4000000 in
theorem specCol_any (s : ByteArray) (w : World) (hs : s.size ≤ 1048576) :
    Calls Try.prog 23 #[.string s] w fun e w' => e = .returned (.bool (colOk s)) ∧ Below w.heap.size w w' := by
  have HQ : Hid (colOk s = (decide ((splitB 46 s).length = 2) && (nameOk ((splitB 46 s).getD 0 ByteArray.empty).data.toList && nameOk ((splitB 46 s).getD 1 ByteArray.empty).data.toList))) := (col_same s).symm
  have HS := hide (specSplit_any s 46 w hs)
  have hsl : (splitB 46 s).length ≤ 1048577 := by
    have := (spl_len 46 s s.size).1
    unfold splitB
    rw [List.length_append, List.length_singleton]
    omega
  generalize colOk s = q at *
  generalize splitB 46 s = l at *
  by_cases h2 : l.length = 2
  · have HN1 := hide (fun (W : World) => specName_any (l.getD 0 ByteArray.empty) W)
    have HN2 := hide (fun (W : World) => specName_any (l.getD 1 ByteArray.empty) W)
    have HQ2 : Hid (q = (nameOk (l.getD 0 ByteArray.empty).data.toList && nameOk (l.getD 1 ByteArray.empty).data.toList)) := by show _ = _; rw [HQ.out, decide_eq_true h2]; rfl
    clear HQ
    generalize nameOk (l.getD 0 ByteArray.empty).data.toList = n1 at *
    generalize nameOk (l.getD 1 ByteArray.empty).data.toList = n2 at *
    go_enter Try.func23, Try.ntmps23
    go_wp2_with fail
    refine HS.out.mono ?_
    rintro e w1 ⟨v, rfl, ho, b1⟩
    have B1 := hide b1
    clear b1 HS
    obtain ⟨ao, cap, rfl, hc⟩ := ownQ_row ho
    obtain ⟨b0, o0, x0, e0, hb0, hx0, d0⟩ := hc 0 (by omega)
    obtain ⟨b1, o1, x1, e1, hb1, hx1, d1⟩ := hc 1 (by omega)
    rw [e0] at e1
    injection e1 with e1
    injection e1 with e1 e2 _
    subst e0 e1 e2
    rw [hx0] at HN1
    rw [hx1] at HN2
    rw [h2]
    rw [Nat.add_zero] at d0
    clear hc ho hx0 hx1 h2
    cases n1 with
    | false =>
      go_wp2_with (go_at_call 6; refine (HN1.out _).mono ?_; rintro e w2 ⟨rfl, rfl⟩)
      go_ret
      exact ⟨ret_bool (by rw [HQ2.out]; rfl), B1.out⟩
    | true =>
      go_wp2_with (first | (clear hfst; go_at_call 6; refine (HN2.out _).mono ?_; rintro e w3 ⟨rfl, rfl⟩) | (go_at_call 6; refine (HN1.out _).mono ?_; rintro e w2 ⟨rfl, rfl⟩; have hfst := HQ2))
      go_ret
      exact ⟨ret_bool (by rw [HQ2.out]; rfl), B1.out⟩
  · have HF : Hid (q = false) := by show _ = _; rw [HQ.out, decide_eq_false h2]; rfl
    go_enter Try.func23, Try.ntmps23
    go_wp2_with fail
    refine HS.out.mono ?_
    rintro e w1 ⟨v, rfl, ho, b1⟩
    have B1 := hide b1
    obtain ⟨ao, cap, rfl, hc⟩ := ownQ_row ho
    clear hc ho b1 HS HQ
    go_wp2
    go_ret
    exact ⟨ret_bool (by rw [HF.out]), B1.out⟩
end Go.Proofs.Yteanieiphpehcaa
