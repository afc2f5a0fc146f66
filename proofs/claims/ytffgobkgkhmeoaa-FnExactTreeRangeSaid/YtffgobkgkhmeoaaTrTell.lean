/-
  Contracts: the keys of a tree are told one by one: the walk down.
-/
import Derived.Test.YtffgobkgkhmeoaaTrIter
import Derived.Test.YtffgobkgkhmeoaaSkips
import Derived.Deep.RegionLaw
namespace Go.Proofs.Ytffgobkgkhmeoaa
open Go.RowKit Go.Shelf
attribute [local go_sem] Oper.semAt_some
set_option maxRecDepth 100000

set_option maxHeartbeats 2000000 in
theorem tell_leaf (F : Fence) (hF : F = Fence.wide) (l n₀ N : Nat) (J Jx : List ByteArray → World → Prop)
    (hY : ∀ m pre x W, J pre W → pre.length < N → YieldAt F m Try.prog l #[.string x] W fun e W' => (e = .returned (.bool true) ∧ J (pre ++ [x]) W' ∧ Below n₀ W W') ∨ (e = .returned (.bool false) ∧ Jx (pre ++ [x]) W'))
    (m A n : Nat) (ks vs : List ByteArray) (cs : List Tr) (g o : Nat) (pre : List ByteArray) (W : World) (hD : ∀ pre W, J pre W → J pre W.drew) (hc0 : cs.length = 0) (hk3 : ks.length ≤ 3) (hat : TrAt W A n₀ n (.node ks vs cs) g o) (hJ : J pre W) (hN : pre.length + ks.length ≤ N) :
      CallsIn F m Try.prog 39 #[.pointer (some ⟨g, o, none⟩), .func (.yield l) #[] #[]] W (TellPost J Jx n₀ pre (wpre ks [] ks.length) W) := by
  have hd : F.depth = none := by rw [hF]; rfl
  have hf : F.fn 39 := by rw [hF]; trivial
  have hro : F.round = none := by rw [hF]; rfl
  have hdd : ∀ k : Nat, (F.depth.isSome = true → 1 ≤ k) := fun k h => by rw [hd] at h; cases h
  have HF := hide hF
  clear hF
  obtain ⟨hg, ko, kc, vo, vc, xo, xc, c0, c1, c2, hrow⟩ := hat
  simp only [Tr.keys, Tr.vals, Tr.kids] at c0 c1 c2
  cases n with
  | zero => exact hrow.elim
  | succ n =>
    have HK := hide hrow.2.1
    simp only [Tr.keys] at HK
    have HL : Hid (∀ k, k ≤ ks.length → (wpre ks [] k).length = k) := fun k _ => by
      induction k with
      | zero => rfl
      | succ k ih => rw [wpre_succ, List.length_append, ih (by omega)]; simp
    have HJ0 : Hid (J (pre ++ wpre ks [] 0) W) := by show J _ _; simpa [wpre] using hJ
    have HY := hide hY
    have hN' := hide hN
    have HD := hide hD
    have e0 : ¬ 0 < (cs.length : Int) := by omega
    have e1 : ((cs.length : Int) == 0) = true := by rw [beq_iff_eq]; omega
    clear hrow hJ hY hN hc0 hD
    refine callsIn_of_wp Try.func39 rfl hf ?_ hro
    simp only [Try.ntmps39, List.size_toArray, List.length_cons, List.length_nil, Nat.reduceAdd, Nat.reduceSub, Array.replicate_succ, Array.replicate_zero, List.push_toArray, List.append_toArray, List.nil_append, List.cons_append]
    gi_wp2
    gi_loopw [12] (fun i wr => ∃ k : Nat, k ≤ ks.length ∧ i = .int .i64 k ∧ Hid (J (pre ++ wpre ks [] k) wr) ∧ Hid (Below n₀ W wr)) (fun i _ => ks.length - (intOf i).toNat)
    case atStart => exact ⟨0, Nat.zero_le _, rfl, HJ0, Below.refl _ _⟩
    case round =>
      clear HJ0
      obtain ⟨k, hk, rfl, HJ, HB⟩ := hrel
      have c2' : wr.cell? ⟨g, o + 2, none⟩ = some (.slice xo cs.length xc) := (HB.out.cell (p := ⟨g, _, none⟩) hg).trans c2
      by_cases hlt : k < ks.length
      · obtain ⟨b, off, x, rfl, hbB, hxk, hxs, d0⟩ := (HK.out.kept HB.out).at k hlt
        have hw := wpre_succ ks [] k
        rw [hxk] at hw
        simp only [List.getD_nil, List.nil_append] at hw
        have HW := hide hw
        obtain ⟨fn, tmps, assign, body, hy, hR⟩ := HY.out (m - 1) (pre ++ wpre ks [] k) x wr HJ.out (by rw [List.length_append, HL.out k hk]; have := hN'.out; omega)
        clear hxk hw hxs
        gi_wp2_with (first | ((try refine ⟨hdd _, ?_⟩); refine hR.mono ?_; clear hR; rintro e W2 (⟨rfl, hJ2, hb2⟩ | ⟨rfl, hx2⟩)))
        · have HJ2 : Hid (J (pre ++ wpre ks [] (k + 1)) W2) := by show J _ _; rw [HW.out, ← List.append_assoc]; exact hJ2
          have HB2 := hide (HB.out.trans hb2)
          go_roundw
          case rel => exact ⟨k + 1, by omega, by go_num, HJ2, HB2⟩
          case measure => simp [intOf]; omega
        · go_ret
          refine .inr ⟨rfl, wpre ks [] (k + 1), wpre_le _ _ _ _ (by omega), ?_⟩
          rw [HW.out, ← List.append_assoc]; exact hx2
      · obtain rfl : k = ks.length := by omega
        gi_wp2
        rw [HF.out]
        refine wpIn_wide.2 ?_
        refine wp_region_noPanic ?_
        refine wp_region_held_drew (S := (fun W => W.cell? ⟨g, o + 2, none⟩ = some (.slice xo cs.length xc))) (by kernel_rfl) ?_ (fun hHeld => ?_)
        · (try dsimp only); go_keep
        refine takeD 0 39 (v := ?v1x0) rfl rfl (by kernel_rfl) (by kernel_rfl) (by kernel_rfl) (fun _ _ _ h => h) (by kernel_rfl) ?hy1x0 (by assumption) ?r1x0
        case hy1x0 => (intro W hSw; (try dsimp only at hSw); go_simp; try with_reducible rfl)
        simp only [Act.put, List.setIfInBounds_toArray, List.set_cons_zero, List.set_cons_succ]
        refine takeD 1 40 (v := ?v1x1) rfl rfl (by kernel_rfl) (by kernel_rfl) (by kernel_rfl) (fun _ _ _ h => h) (by kernel_rfl) ?hy1x1 (by assumption) ?r1x1
        case hy1x1 => (intro W hSw; (try dsimp only at hSw); go_simp; try with_reducible rfl)
        simp only [Act.put, List.setIfInBounds_toArray, List.set_cons_zero, List.set_cons_succ]
        refine takeD 2 41 (v := ?v1x2) rfl rfl (by kernel_rfl) (by kernel_rfl) (by kernel_rfl) (fun _ _ _ h => h) (by kernel_rfl) ?hy1x2 (by assumption) ?r1x2
        case hy1x2 => (intro W hSw; (try dsimp only at hSw); go_simp; try with_reducible rfl)
        simp only [Act.put, List.setIfInBounds_toArray, List.set_cons_zero, List.set_cons_succ]
        refine takeD 3 42 (v := ?v1x3) rfl rfl (by kernel_rfl) (by kernel_rfl) (by kernel_rfl) (fun _ _ _ h => h) (by kernel_rfl) ?hy1x3 (by assumption) ?r1x3
        case hy1x3 => (intro W hSw; (try dsimp only at hSw); go_simp; try with_reducible rfl)
        simp only [Act.put, List.setIfInBounds_toArray, List.set_cons_zero, List.set_cons_succ]
        refine takeD 4 43 (v := ?v1x4) rfl rfl (by kernel_rfl) (by kernel_rfl) (by kernel_rfl) (fun _ _ _ h => h) (by kernel_rfl) ?hy1x4 (by assumption) ?r1x4
        case hy1x4 => (intro W hSw; (try dsimp only at hSw); go_simp; try with_reducible rfl)
        simp only [Act.put, List.setIfInBounds_toArray, List.set_cons_zero, List.set_cons_succ]
        refine takeD 5 44 (v := ?v1x5) rfl rfl (by kernel_rfl) (by kernel_rfl) (by kernel_rfl) (fun _ _ _ h => h) (by kernel_rfl) ?hy1x5 (by assumption) ?r1x5
        case hy1x5 => (intro W hSw; (try dsimp only at hSw); go_simp; try with_reducible rfl)
        simp only [Act.put, List.setIfInBounds_toArray, List.set_cons_zero, List.set_cons_succ]
        refine takeD 6 45 (v := ?v1x6) rfl rfl (by kernel_rfl) (by kernel_rfl) (by kernel_rfl) (fun _ _ _ h => h) (by kernel_rfl) ?hy1x6 (by assumption) ?r1x6
        case hy1x6 => (intro W hSw; (try dsimp only at hSw); go_simp; try with_reducible rfl)
        simp only [Act.put, List.setIfInBounds_toArray, List.set_cons_zero, List.set_cons_succ]
        refine skipAll [(7, 46), (8, 47), (9, 48), (10, 49), (11, 50), (12, 51), (13, 52), (14, 53), (15, 54), (16, 55), (17, 56), (18, 57)] (by kernel_rfl) (fun _ _ _ _ _ h => h) (by assumption) (by kernel_rfl) ?_
        simp only [putAll, listAll, List.foldl_cons, List.foldl_nil, Act.put, List.setIfInBounds_toArray, List.set_cons_zero, List.set_cons_succ]
        refine takeD 19 58 (v := ?v1x19) rfl rfl (by kernel_rfl) (by kernel_rfl) (by kernel_rfl) (fun _ _ _ h => h) (by kernel_rfl) ?hy1x19 (by assumption) ?r1x19
        case hy1x19 => (intro W hSw; (try dsimp only at hSw); go_simp; try with_reducible rfl)
        simp only [Act.put, List.setIfInBounds_toArray, List.set_cons_zero, List.set_cons_succ]
        refine takeD 20 4 (v := ?v1x20) rfl rfl (by kernel_rfl) (by kernel_rfl) (by kernel_rfl) (fun _ _ _ h => h) (by kernel_rfl) ?hy1x20 (by assumption) ?r1x20
        case hy1x20 => (intro W hSw; (try dsimp only at hSw); go_simp; try with_reducible rfl)
        simp only [Act.put, List.setIfInBounds_toArray, List.set_cons_zero, List.set_cons_succ]
        refine wpAnyH_done (by kernel_rfl) ?_ _
        refine NoPanic.normal ?_
        gi_wp2
        go_ret
        exact .inl ⟨rfl, HD.out _ _ HJ.out, HB.out.drew⟩

/-- What a kid's walk, and the round behind it, come to. -/
def KidPost (F : Fence) (J Jx : List ByteArray → World → Prop) (n₀ l m : Nat) (W0 : World) (pre part : List ByteArray) (x : ByteArray) (e : Ending) (W1 : World) : Prop :=
  (e = .returned (.bool true) ∧ YieldAt F m Try.prog l #[.string x] W1 fun e W2 => (e = .returned (.bool true) ∧ J (pre ++ part ++ [x]) W2 ∧ Below n₀ W0 W2) ∨ (e = .returned (.bool false) ∧ Jx (pre ++ part ++ [x]) W2)) ∨
  (e = .returned (.bool false) ∧ ∃ q, q <+: part ∧ Jx (pre ++ q) W1)
def EndPost (J Jx : List ByteArray → World → Prop) (n₀ : Nat) (W0 : World) (pre part : List ByteArray) (e : Ending) (W1 : World) : Prop :=
  ∃ b, e = .returned (.bool b) ∧ Hid (if b = true then J (pre ++ part) W1 ∧ Below n₀ W0 W1 else ∃ q, q <+: part ∧ Jx (pre ++ q) W1)
theorem tellPost_end {J Jx : List ByteArray → World → Prop} {n₀ : Nat} {pre part : List ByteArray} {W0 W W1 : World} {e : Ending} (h : TellPost J Jx n₀ pre part W e W1) (hb : Below n₀ W0 W) : EndPost J Jx n₀ W0 pre part e W1 := by
  rcases h with ⟨rfl, h1, h2⟩ | ⟨rfl, h1⟩
  · exact ⟨true, rfl, h1, hb.trans h2⟩
  · exact ⟨false, rfl, h1⟩
set_option maxHeartbeats 1500000 in
theorem tell_node (F : Fence) (hF : F = Fence.wide) (l n₀ N : Nat) (J Jx : List ByteArray → World → Prop)
    (hY : ∀ m pre x W, J pre W → pre.length < N → YieldAt F m Try.prog l #[.string x] W fun e W' => (e = .returned (.bool true) ∧ J (pre ++ [x]) W' ∧ Below n₀ W W') ∨ (e = .returned (.bool false) ∧ Jx (pre ++ [x]) W'))
    (m A n : Nat) (ks vs : List ByteArray) (cs : List Tr) (f : Tr → List ByteArray) (g o : Nat) (pre : List ByteArray) (W : World) (hD : ∀ pre W, J pre W → J pre W.drew) (hc0 : cs.length = ks.length + 1) (hk3 : ks.length ≤ 3) (hat : TrAt W A n₀ (n + 1) (.node ks vs cs) g o) (hJ : J pre W)
    (hN : pre.length + (wpre ks (cs.map f) ks.length ++ f (cs.getD ks.length noTr)).length ≤ N)
    (ih : ∀ (m i g o : Nat) (pre : List ByteArray) (W : World), i < cs.length → TrAt W A n₀ n (cs.getD i noTr) g o → J pre W → pre.length + (f (cs.getD i noTr)).length ≤ N → CallsIn F m Try.prog 39 #[.pointer (some ⟨g, o, none⟩), .func (.yield l) #[] #[]] W (TellPost J Jx n₀ pre (f (cs.getD i noTr)) W)) :
      CallsIn F m Try.prog 39 #[.pointer (some ⟨g, o, none⟩), .func (.yield l) #[] #[]] W (TellPost J Jx n₀ pre (wpre ks (cs.map f) ks.length ++ f (cs.getD ks.length noTr)) W) := by
  have hd : F.depth = none := by rw [hF]; rfl
  have hf : F.fn 39 := by rw [hF]; trivial
  have hro : F.round = none := by rw [hF]; rfl
  have hdd : ∀ k : Nat, (F.depth.isSome = true → 1 ≤ k) := fun k h => by rw [hd] at h; cases h
  have HF := hide hF
  clear hF
  obtain ⟨hg, ko, kc, vo, vc, xo, xc, c0, c1, c2, hrow⟩ := hat
  simp only [Tr.keys, Tr.vals, Tr.kids] at c0 c1 c2
  have HK := hide hrow.2.1
  simp only [Tr.keys] at HK
  have HX := hide hrow.2.2.2
  simp only [Tr.kids] at HX
  have HJ0 : Hid (J (pre ++ wpre ks (cs.map f) 0) W) := by show J _ _; simpa [wpre] using hJ
  have HY := hide hY
  have IH := hide ih
  have HC := hide hc0
  have HD := hide hD
  have HLK : Hid (∀ k, k < ks.length → pre.length + (wpre ks (cs.map f) k).length + (f (cs.getD k noTr)).length < N) := fun k hk => by
    have h1 := List.IsPrefix.length_le (wpre_le ks (cs.map f) (k + 1) ks.length (by omega))
    rw [wpre_succ, map_getD _ _ _ noTr _ (by omega)] at h1
    simp only [List.length_append, List.length_singleton] at h1 hN
    omega
  have HLN : Hid (pre.length + (wpre ks (cs.map f) ks.length).length + (f (cs.getD ks.length noTr)).length ≤ N) := by show _ ≤ _; rw [List.length_append] at hN; omega
  have e0 : 0 < (cs.length : Int) := by omega
  have e1 : ((cs.length : Int) == 0) = false := by rw [beq_eq_false_iff_ne]; omega
  clear hrow hJ hY hN hc0 ih hD
  refine callsIn_of_wp Try.func39 rfl hf ?_ hro
  simp only [Try.ntmps39, List.size_toArray, List.length_cons, List.length_nil, Nat.reduceAdd, Nat.reduceSub, Array.replicate_succ, Array.replicate_zero, List.push_toArray, List.append_toArray, List.nil_append, List.cons_append]
  gi_wp2
  gi_loopw [12] (fun i wr => ∃ k : Nat, k ≤ ks.length ∧ i = .int .i64 k ∧ Hid (J (pre ++ wpre ks (cs.map f) k) wr) ∧ Hid (Below n₀ W wr)) (fun i _ => ks.length - (intOf i).toNat)
  case atStart => exact ⟨0, Nat.zero_le _, rfl, HJ0, Below.refl _ _⟩
  case round =>
    clear HJ0
    obtain ⟨k, hk, rfl, HJ, HB⟩ := hrel
    have c0' : wr.cell? ⟨g, o, none⟩ = some (.slice ko ks.length kc) := (HB.out.cell (p := ⟨g, _, none⟩) hg).trans c0
    have c2' : wr.cell? ⟨g, o + 2, none⟩ = some (.slice xo cs.length xc) := (HB.out.cell (p := ⟨g, _, none⟩) hg).trans c2
    by_cases hlt : k < ks.length
    · obtain ⟨b, off, x, rfl, hbB, hxk, hxs, d0⟩ := (HK.out.kept HB.out).at k hlt
      have hkc : k < cs.length := by rw [HC.out]; omega
      obtain ⟨b', off', rfl, hatk⟩ := (HX.out.kept HB.out (TrRow.kept HB.out n)).kid k hkc
      have hw := wpre_succ ks (cs.map f) k
      rw [hxk, map_getD _ _ _ noTr _ hkc] at hw
      have HW := hide hw
      have HLk := HLK.out k hlt
      have HP := hide ((IH.out (m - 1) k b' (off' + k * 3) (pre ++ wpre ks (cs.map f) k) wr hkc hatk HJ.out (by rw [List.length_append]; omega)).mono (R' := KidPost F J Jx n₀ l (m - 1) W (pre ++ wpre ks (cs.map f) k) (f (cs.getD k noTr)) x) (fun e W1 h => h.elim
        (fun ⟨he, hj, hb1⟩ => .inl ⟨he, YieldAt.mono (HY.out (m - 1) _ x W1 hj (by simp only [List.length_append]; omega)) fun e W2 h => h.elim (fun ⟨he, hj, hb2⟩ => .inl ⟨he, hj, HB.out.trans (hb1.trans hb2)⟩) .inr⟩) .inr))
      have hck : (k : Int) < (cs.length : Int) := by omega
      clear hxk hw hxs hatk IH HY HLK HLN HLk
      generalize f (cs.getD k noTr) = part at *
      gi_wp2_with (first
        | ((try refine ⟨hdd _, ?_⟩); gi_at_call 39; refine HP.out.mono ?_; clear HP; rintro e W1 (⟨rfl, fn, tmps, assign, body, hy, hR⟩ | ⟨rfl, q, hq, hx1⟩))
        | ((try refine ⟨hdd _, ?_⟩); refine hR.mono ?_; clear hR; rintro e W2 (⟨rfl, hJ2, hb2⟩ | ⟨rfl, hx2⟩)))
      · have HJ2 : Hid (J (pre ++ wpre ks (cs.map f) (k + 1)) W2) := by show J _ _; rw [HW.out, ← List.append_assoc, ← List.append_assoc]; exact hJ2
        have HB2 := hide hb2
        go_roundw
        case rel => exact ⟨k + 1, by omega, by go_num, HJ2, HB2⟩
        case measure => simp [intOf]; omega
      · go_ret
        refine .inr ⟨rfl, wpre ks (cs.map f) (k + 1), (wpre_le _ _ _ _ (by omega)).trans (List.prefix_append _ _), ?_⟩
        rw [HW.out, ← List.append_assoc, ← List.append_assoc]; exact hx2
      · go_ret
        refine .inr ⟨rfl, wpre ks (cs.map f) k ++ q, ?_, by rw [← List.append_assoc]; exact hx1⟩
        refine List.IsPrefix.trans ?_ ((wpre_le ks (cs.map f) (k + 1) ks.length (by omega)).trans (List.prefix_append _ _))
        rw [HW.out]
        exact (List.prefix_append_right_inj _).2 (hq.trans (List.prefix_append _ _))
    · obtain rfl : k = ks.length := by omega
      have hkc : ks.length < cs.length := by rw [HC.out]; omega
      obtain ⟨b', off', rfl, hatk⟩ := (HX.out.kept HB.out (TrRow.kept HB.out n)).kid ks.length hkc
      have HP := hide (callsIn_wide.1 (HF.out ▸ ((IH.out 0 ks.length b' (off' + ks.length * 3) (pre ++ wpre ks (cs.map f) ks.length) wr.drew hkc (hatk.kept (Below.refl _ _).drew) (HD.out _ _ HJ.out) (by rw [List.length_append]; have := HLN.out; omega)).mono (R' := EndPost J Jx n₀ W (pre ++ wpre ks (cs.map f) ks.length) (f (cs.getD ks.length noTr))) (fun e W1 h => tellPost_end h HB.out.drew))))
      have hck : (ks.length : Int) < (cs.length : Int) := by omega
      have hgr : g < wr.heap.size := World.block_lt_of_cell? _ _ c0'
      clear hatk IH HY HLK HLN
      generalize f (cs.getD ks.length noTr) = part at *
      gi_wp2
      rw [HF.out]
      refine wpIn_wide.2 ?_
      refine wp_region_noPanic ?_
      refine wp_region_held_drew (S := fun _ => True) (by kernel_rfl) True.intro (fun _ => ?_)
      refine takeD 0 39 (v := ?v90x0) rfl rfl (by kernel_rfl) (by kernel_rfl) (by kernel_rfl) (fun _ _ _ h => h) (by kernel_rfl) ?hy90x0 True.intro ?r90x0
      case hy90x0 => (intro W hSw; go_simp; try with_reducible rfl)
      simp only [Act.put, List.setIfInBounds_toArray, List.set_cons_zero, List.set_cons_succ]
      refine takeD 1 40 (v := ?v90x1) rfl rfl (by kernel_rfl) (by kernel_rfl) (by kernel_rfl) (fun _ _ _ h => h) (by kernel_rfl) ?hy90x1 True.intro ?r90x1
      case hy90x1 => (intro W hSw; go_simp; try with_reducible rfl)
      simp only [Act.put, List.setIfInBounds_toArray, List.set_cons_zero, List.set_cons_succ]
      refine takeD 2 41 (v := ?v90x2) rfl rfl (by kernel_rfl) (by kernel_rfl) (by kernel_rfl) (fun _ _ _ h => h) (by kernel_rfl) ?hy90x2 True.intro ?r90x2
      case hy90x2 => (intro W hSw; go_simp; try with_reducible rfl)
      simp only [Act.put, List.setIfInBounds_toArray, List.set_cons_zero, List.set_cons_succ]
      refine wpAnyH_ready (rs := [3]) (by kernel_rfl) (by simp) ?_
      refine AllReadyH.cons (o := _) rfl (fun K hK => ?_) AllReadyH.nil
      go_simp
      refine hK.out _ _ True.intro (fun _ => ?_)
      clear hK K
      try simp only [Act.put, List.setIfInBounds_toArray, List.set_cons_zero, List.set_cons_succ]
      refine takeD 4 43 (v := ?v90x4) rfl rfl (by kernel_rfl) (by kernel_rfl) (by kernel_rfl) (fun _ _ _ h => h) (by kernel_rfl) ?hy90x4 True.intro ?r90x4
      case hy90x4 => (intro W hSw; go_simp; try with_reducible rfl)
      simp only [Act.put, List.setIfInBounds_toArray, List.set_cons_zero, List.set_cons_succ]
      refine takeD 5 44 (v := ?v90x5) rfl rfl (by kernel_rfl) (by kernel_rfl) (by kernel_rfl) (fun _ _ _ h => h) (by kernel_rfl) ?hy90x5 True.intro ?r90x5
      case hy90x5 => (intro W hSw; go_simp; try with_reducible rfl)
      simp only [Act.put, List.setIfInBounds_toArray, List.set_cons_zero, List.set_cons_succ]
      refine takeD 6 45 (v := ?v90x6) rfl rfl (by kernel_rfl) (by kernel_rfl) (by kernel_rfl) (fun _ _ _ h => h) (by kernel_rfl) ?hy90x6 True.intro ?r90x6
      case hy90x6 => (intro W hSw; go_simp; try with_reducible rfl)
      simp only [Act.put, List.setIfInBounds_toArray, List.set_cons_zero, List.set_cons_succ]
      refine takeD 7 46 (v := ?v90x7) rfl rfl (by kernel_rfl) (by kernel_rfl) (by kernel_rfl) (fun _ _ _ h => h) (by kernel_rfl) ?hy90x7 True.intro ?r90x7
      case hy90x7 => (intro W hSw; go_simp; try with_reducible rfl)
      simp only [Act.put, List.setIfInBounds_toArray, List.set_cons_zero, List.set_cons_succ]
      refine takeD 8 47 (v := ?v90x8) rfl rfl (by kernel_rfl) (by kernel_rfl) (by kernel_rfl) (fun _ _ _ h => h) (by kernel_rfl) ?hy90x8 True.intro ?r90x8
      case hy90x8 => (intro W hSw; go_simp; try with_reducible rfl)
      simp only [Act.put, List.setIfInBounds_toArray, List.set_cons_zero, List.set_cons_succ]
      refine takeD 9 48 (v := ?v90x9) rfl rfl (by kernel_rfl) (by kernel_rfl) (by kernel_rfl) (fun _ _ _ h => h) (by kernel_rfl) ?hy90x9 True.intro ?r90x9
      case hy90x9 => (intro W hSw; go_simp; try with_reducible rfl)
      simp only [Act.put, List.setIfInBounds_toArray, List.set_cons_zero, List.set_cons_succ]
      refine takeD 11 50 (v := ?v90x11) rfl rfl (by kernel_rfl) (by kernel_rfl) (by kernel_rfl) (fun _ _ _ h => h) (by kernel_rfl) ?hy90x11 True.intro ?r90x11
      case hy90x11 => (intro W hSw; go_simp; try with_reducible rfl)
      simp only [Act.put, List.setIfInBounds_toArray, List.set_cons_zero, List.set_cons_succ]
      refine takeD 12 51 (v := ?v90x12) rfl rfl (by kernel_rfl) (by kernel_rfl) (by kernel_rfl) (fun _ _ _ h => h) (by kernel_rfl) ?hy90x12 True.intro ?r90x12
      case hy90x12 => (intro W hSw; go_simp; try with_reducible rfl)
      simp only [Act.put, List.setIfInBounds_toArray, List.set_cons_zero, List.set_cons_succ]
      refine takeD 13 52 (v := ?v90x13) rfl rfl (by kernel_rfl) (by kernel_rfl) (by kernel_rfl) (fun _ _ _ h => h) (by kernel_rfl) ?hy90x13 True.intro ?r90x13
      case hy90x13 => (intro W hSw; go_simp; try with_reducible rfl)
      simp only [Act.put, List.setIfInBounds_toArray, List.set_cons_zero, List.set_cons_succ]
      refine takeD 17 56 (v := ?v90x17) rfl rfl (by kernel_rfl) (by kernel_rfl) (by kernel_rfl) (fun _ _ _ h => h) (by kernel_rfl) ?hy90x17 True.intro ?r90x17
      case hy90x17 => (intro W hSw; go_simp; try with_reducible rfl)
      simp only [Act.put, List.setIfInBounds_toArray, List.set_cons_zero, List.set_cons_succ]
      refine wpAnyH_ready (rs := [10, 14]) (by kernel_rfl) (by simp) ?_
      refine AllReadyH.cons (o := _) rfl (fun K hK => ?_) (AllReadyH.cons (o := _) rfl (fun K hK => ?_) AllReadyH.nil)
      · skip
        go_simp
        refine hK.out _ _ True.intro (fun _ => ?_)
        clear hK K
        try simp only [Act.put, List.setIfInBounds_toArray, List.set_cons_zero, List.set_cons_succ]
        refine wpAnyH_ready (rs := [14]) (by kernel_rfl) (by simp) ?_
        refine AllReadyH.cons (o := _) rfl (fun K hK => ?_) AllReadyH.nil
        go_simp
        refine hK.out _ _ True.intro (fun _ => ?_)
        clear hK K
        try simp only [Act.put, List.setIfInBounds_toArray, List.set_cons_zero, List.set_cons_succ]
        refine takeD 15 54 (v := ?v91x15) rfl rfl (by kernel_rfl) (by kernel_rfl) (by kernel_rfl) (fun _ _ _ h => h) (by kernel_rfl) ?hy91x15 True.intro ?r91x15
        case hy91x15 => (intro W hSw; go_simp; try with_reducible rfl)
        simp only [Act.put, List.setIfInBounds_toArray, List.set_cons_zero, List.set_cons_succ]
        refine takeD 16 55 (v := ?v91x16) rfl rfl (by kernel_rfl) (by kernel_rfl) (by kernel_rfl) (fun _ _ _ h => h) (by kernel_rfl) ?hy91x16 True.intro ?r91x16
        case hy91x16 => (intro W hSw; go_simp; try with_reducible rfl)
        simp only [Act.put, List.setIfInBounds_toArray, List.set_cons_zero, List.set_cons_succ]
        refine wpAnyH_ready (rs := [18]) (by kernel_rfl) (by simp) ?_
        refine AllReadyH.cons (o := _) rfl (fun K hK => ?_) AllReadyH.nil
        go_simp
        go_at_call 39; refine HP.out.mono ?_; rintro e W1 ⟨bb, rfl, HE⟩
        go_wp2_with fail
        refine hK.out _ _ True.intro (fun _ => ?_)
        clear hK K
        try simp only [Act.put, List.setIfInBounds_toArray, List.set_cons_zero, List.set_cons_succ]
        refine takeD 19 58 (v := ?v91x19) rfl rfl (by kernel_rfl) (by kernel_rfl) (by kernel_rfl) (fun _ _ _ h => h) (by kernel_rfl) ?hy91x19 True.intro ?r91x19
        case hy91x19 => (intro W hSw; go_simp; try with_reducible rfl)
        simp only [Act.put, List.setIfInBounds_toArray, List.set_cons_zero, List.set_cons_succ]
        refine takeD 20 4 (v := ?v91x20) rfl rfl (by kernel_rfl) (by kernel_rfl) (by kernel_rfl) (fun _ _ _ h => h) (by kernel_rfl) ?hy91x20 True.intro ?r91x20
        case hy91x20 => (intro W hSw; go_simp; try with_reducible rfl)
        simp only [Act.put, List.setIfInBounds_toArray, List.set_cons_zero, List.set_cons_succ]
        refine wpAnyH_done (by kernel_rfl) ?_ _
        refine NoPanic.normal ?_
        gi_wp2
        go_ret
        cases bb with
        | true => exact .inl ⟨rfl, by rw [← List.append_assoc]; exact (HE.out).1, (HE.out).2⟩
        | false =>
          obtain ⟨q, hq, hx⟩ := HE.out
          exact .inr ⟨rfl, wpre ks (cs.map f) ks.length ++ q, (List.prefix_append_right_inj _).2 hq, by rw [← List.append_assoc]; exact hx⟩
      · skip
        go_simp
        refine hK.out _ _ True.intro (fun _ => ?_)
        clear hK K
        try simp only [Act.put, List.setIfInBounds_toArray, List.set_cons_zero, List.set_cons_succ]
        refine takeD 15 54 (v := ?v92x15) rfl rfl (by kernel_rfl) (by kernel_rfl) (by kernel_rfl) (fun _ _ _ h => h) (by kernel_rfl) ?hy92x15 True.intro ?r92x15
        case hy92x15 => (intro W hSw; go_simp; try with_reducible rfl)
        simp only [Act.put, List.setIfInBounds_toArray, List.set_cons_zero, List.set_cons_succ]
        refine wpAnyH_ready (rs := [10]) (by kernel_rfl) (by simp) ?_
        refine AllReadyH.cons (o := _) rfl (fun K hK => ?_) AllReadyH.nil
        go_simp
        refine hK.out _ _ True.intro (fun _ => ?_)
        clear hK K
        try simp only [Act.put, List.setIfInBounds_toArray, List.set_cons_zero, List.set_cons_succ]
        refine takeD 16 55 (v := ?v92x16) rfl rfl (by kernel_rfl) (by kernel_rfl) (by kernel_rfl) (fun _ _ _ h => h) (by kernel_rfl) ?hy92x16 True.intro ?r92x16
        case hy92x16 => (intro W hSw; go_simp; try with_reducible rfl)
        simp only [Act.put, List.setIfInBounds_toArray, List.set_cons_zero, List.set_cons_succ]
        refine wpAnyH_ready (rs := [18]) (by kernel_rfl) (by simp) ?_
        refine AllReadyH.cons (o := _) rfl (fun K hK => ?_) AllReadyH.nil
        go_simp
        go_at_call 39; refine HP.out.mono ?_; rintro e W1 ⟨bb, rfl, HE⟩
        go_wp2_with fail
        refine hK.out _ _ True.intro (fun _ => ?_)
        clear hK K
        try simp only [Act.put, List.setIfInBounds_toArray, List.set_cons_zero, List.set_cons_succ]
        refine takeD 19 58 (v := ?v92x19) rfl rfl (by kernel_rfl) (by kernel_rfl) (by kernel_rfl) (fun _ _ _ h => h) (by kernel_rfl) ?hy92x19 True.intro ?r92x19
        case hy92x19 => (intro W hSw; go_simp; try with_reducible rfl)
        simp only [Act.put, List.setIfInBounds_toArray, List.set_cons_zero, List.set_cons_succ]
        refine takeD 20 4 (v := ?v92x20) rfl rfl (by kernel_rfl) (by kernel_rfl) (by kernel_rfl) (fun _ _ _ h => h) (by kernel_rfl) ?hy92x20 True.intro ?r92x20
        case hy92x20 => (intro W hSw; go_simp; try with_reducible rfl)
        simp only [Act.put, List.setIfInBounds_toArray, List.set_cons_zero, List.set_cons_succ]
        refine wpAnyH_done (by kernel_rfl) ?_ _
        refine NoPanic.normal ?_
        gi_wp2
        go_ret
        cases bb with
        | true => exact .inl ⟨rfl, by rw [← List.append_assoc]; exact (HE.out).1, (HE.out).2⟩
        | false =>
          obtain ⟨q, hq, hx⟩ := HE.out
          exact .inr ⟨rfl, wpre ks (cs.map f) ks.length ++ q, (List.prefix_append_right_inj _).2 hq, by rw [← List.append_assoc]; exact hx⟩
end Go.Proofs.Ytffgobkgkhmeoaa
