/-
  Contracts: l04Keys: the keys of a node between two ones, behind a list.
-/
import Derived.Test.YtffgobkgkhmeoaaTrAll
import Derived.Test.YtffgobkgkhmeoaaTrSpec
import Derived.Test.YtffgobkgkhmeoaaOwns
import Derived.Test.YtffgobkgkhmeoaaGrowG
namespace Go.Proofs.Ytffgobkgkhmeoaa
open Go.RowKit Go.Shelf
set_option maxRecDepth 100000

theorem Try.infoStr' : (Try.prog.info? 9).map (fun i => (i.zero, i.size, i.bytes)) = some (some (.string ⟨#[]⟩), 1, 16) := by kernel_rfl
/-- Texts that a call has made, in a row of their own. -/
def OwnS (base : Nat) (v : Value) (l : List ByteArray) (w : World) : Prop := w.ownsRow base 9 1 v l.length (strsV l)
/-- What a list that grows leaves as it was, and where it lies. -/
structure Grew (w : World) (v : Value) (w' : World) (v' : Value) : Prop where
  grown : w.grownBy w' v.ownBlock
  at' : v'.ownBlock = v.ownBlock ∨ ∃ b, v'.ownBlock = some b ∧ w.heap.size ≤ b
theorem Grew.refl (w : World) (v : Value) : Grew w v w v := ⟨grown_refl _ _, .inl rfl⟩
theorem Grew.trans {w w1 w2 : World} {v v1 v2 : Value} (h : Grew w v w1 v1) (k : Grew w1 v1 w2 v2) : Grew w v w2 v2 := by
  refine ⟨⟨k.grown.os.trans h.grown.os, k.grown.tape.trans h.grown.tape, k.grown.output.trans h.grown.output, Nat.le_trans h.grown.size k.grown.size, fun b hb hne => ?_⟩, ?_⟩
  · refine (k.grown.block b (Nat.lt_of_lt_of_le hb h.grown.size) ?_).trans (h.grown.block b hb hne)
    rcases h.at' with e | ⟨c, e, hc⟩
    · rw [e]; exact hne
    · rw [e]; intro e'; cases e'; omega
  · rcases k.at' with e | ⟨c, e, hc⟩
    · rw [e]; exact h.at'
    · exact .inr ⟨c, e, Nat.le_trans h.grown.size hc⟩
theorem Grew.below {base : Nat} {w w' : World} {v v' : Value} {l : List ByteArray} (h : Grew w v w' v') (ho : OwnS base v l w) (hb : base ≤ w.heap.size) : Below base w w' :=
  (Below.refl base w).grown h.grown hb (fun j hj => (World.ownsRow.lt ho j hj).1)
theorem Grew.ofAlloc (w : World) (v : Value) (o : Obj) : Grew w v (w.alloc o) v := ⟨World.grownBy_alloc w o _, .inl rfl⟩
/-- What lies between two keys. -/
def inR (low high : ByteArray) (l : List ByteArray) : List ByteArray := l.filter fun x => !lt' x low && !lt' high x
theorem inR_append (low high : ByteArray) (a b : List ByteArray) : inR low high (a ++ b) = inR low high a ++ inR low high b := List.filter_append ..
theorem inR_len (low high : ByteArray) (a : List ByteArray) : (inR low high a).length ≤ a.length := List.length_filter_le ..
def kidP (f : Tr → List ByteArray) (cs : List Tr) (k : Nat) : List ByteArray := if cs.length = 0 then [] else f (cs.getD k noTr)
def keyP (ks : List ByteArray) (k : Nat) : List ByteArray := if k < ks.length then [ks.getD k ByteArray.empty] else []
def pk (f : Tr → List ByteArray) (ks : List ByteArray) (cs : List Tr) (k : Nat) : List ByteArray := (List.range k).flatMap fun i => kidP f cs i ++ keyP ks i
theorem pk_succ (f : Tr → List ByteArray) (ks : List ByteArray) (cs : List Tr) (k : Nat) : pk f ks cs (k + 1) = pk f ks cs k ++ (kidP f cs k ++ keyP ks k) := by
  unfold pk; rw [List.range_succ, List.flatMap_append]; simp
theorem pk_len (f : Tr → List ByteArray) (ks : List ByteArray) (cs : List Tr) (n : Nat) : ∀ k, k ≤ n → (pk f ks cs k).length ≤ (pk f ks cs n).length := by
  induction n with
  | zero => intro k hk; obtain rfl : k = 0 := by omega
            exact Nat.le_refl _
  | succ n ih =>
    intro k hk
    by_cases e : k = n + 1
    · subst e; exact Nat.le_refl _
    · have := ih k (by omega)
      rw [pk_succ, List.length_append]; omega
theorem ownS_snoc {base : Nat} {v : Value} {l : List ByteArray} {w : World} {x : ByteArray} (h : w.ownsRow base 9 1 v (l.length + 1) (strsV l ++ [.string x])) : OwnS base v (l ++ [x]) w := by
  unfold OwnS strsV
  rw [List.map_append, List.length_append]; exact h
theorem ownS_to {base : Nat} {v : Value} {l l' : List ByteArray} {w : World} (h : OwnS base v l w) (e : l' = l) : OwnS base v l' w := by rw [e]; exact h
theorem oneS (x : ByteArray) : ∀ u ∈ [Value.string x], u.oneCell' = true := fun u hu => by simp at hu; subst hu; rfl
def KeysPost (base : Nat) (l : List ByteArray) (w : World) (v : Value) (e : Ending) (w' : World) : Prop := ∃ v', e = .returned v' ∧ OwnS base v' l w' ∧ Grew w v w' v'
set_option maxHeartbeats 4000000 in
theorem l04Keys_node (A B base n : Nat) (ko : Option Addr) (kc : Nat) (vo : Option Addr) (vc : Nat) (xo : Option Addr) (xc : Nat) (ks vs : List ByteArray) (cs : List Tr) (f : Tr → List ByteArray) (low high : ByteArray) (v : Value) (l : List ByteArray) (w : World) (hB : B ≤ base) (hb : base ≤ w.heap.size) (hr : TrRow w A B (n + 1) (.node ks vs cs) ko vo xo) (hk3 : ks.length ≤ 3) (hc4 : cs.length = 0 ∨ cs.length = ks.length + 1) (hl : l.length + (pk f ks cs (ks.length + 1)).length ≤ 100000000) (ho : OwnS base v l w)
    (ih : ∀ (i : Nat) (ko : Option Addr) (kc : Nat) (vo : Option Addr) (vc : Nat) (xo : Option Addr) (xc : Nat) (v : Value) (l : List ByteArray) (W : World), i < cs.length → base ≤ W.heap.size → TrRow W A B n (cs.getD i noTr) ko vo xo → l.length + (f (cs.getD i noTr)).length ≤ 100000000 → OwnS base v l W → Calls Try.prog 32 #[v, .agg #[.slice ko (cs.getD i noTr).keys.length kc, .slice vo (cs.getD i noTr).vals.length vc, .slice xo (cs.getD i noTr).kids.length xc], .string low, .string high] W (KeysPost base (l ++ inR low high (f (cs.getD i noTr))) W v)) :
    Calls Try.prog 32 #[v, .agg #[.slice ko ks.length kc, .slice vo vs.length vc, .slice xo cs.length xc], .string low, .string high] w (KeysPost base (l ++ inR low high (pk f ks cs (ks.length + 1))) w v) := by
  obtain ⟨i0, hi, hz0, hz1, hz2⟩ := info_parts Try.infoStr'
  have HX := hide hr.2.2.2
  change Hid (KidRow w A B (TrRow w A B n) xo cs) at HX
  have HK := hide hr.2.1
  change Hid (StrRow w A B ko ks) at HK
  have IH := hide ih
  have HO0 := hide ho
  have HLN := hide (pk_len f ks cs (ks.length + 1))
  have G0 := hide (Grew.ofAlloc w v (.cells #[.slice ko ks.length kc, .slice vo vs.length vc, .slice xo cs.length xc] 30))
  have X0 := hide (heap_alloc_new w (.cells #[.slice ko ks.length kc, .slice vo vs.length vc, .slice xo cs.length xc] 30))
  have HZ : Hid ((w.alloc (.cells #[.slice ko ks.length kc, .slice vo vs.length vc, .slice xo cs.length xc] 30)).heap.size = w.heap.size + 1) := by show _ = _; simp
  have HO1 : Hid (OwnS base v (l ++ inR low high (pk f ks cs 0)) (w.alloc (.cells #[.slice ko ks.length kc, .slice vo vs.length vc, .slice xo cs.length xc] 30))) := by
    show OwnS ..
    rw [show inR low high (pk f ks cs 0) = [] from rfl, List.append_nil]
    exact World.ownsRow.alloc ho _
  have HNB : Hid (v.ownBlock ≠ some w.heap.size) := by
    intro e
    have := (World.ownsRow.lt ho _ e).2
    omega
  clear hr ih ho
  go_enter Try.func32, Try.ntmps32
  go_wp2
  generalize w.alloc (.cells #[.slice ko ks.length kc, .slice vo vs.length vc, .slice xo cs.length xc] 30) = W0 at *
  go_loopw [0, 9] (fun u i wr => ∃ k : Nat, k ≤ ks.length + 1 ∧ i = .int .i64 k ∧ Hid (OwnS base u (l ++ inR low high (pk f ks cs k)) wr) ∧ Hid (Grew W0 v wr u)) (fun _ i _ => ks.length + 1 - (intOf i).toNat)
  case atStart => exact ⟨0, Nat.zero_le _, rfl, HO1, Grew.refl _ _⟩
  case round =>
    obtain ⟨k, hk, rfl, HO, HG⟩ := hrel
    have hz := HG.out.grown.size
    rw [HZ.out] at hz
    obtain ⟨x0, x1, x2, xf⟩ := cells3 ((HG.out.grown.block w.heap.size (by rw [HZ.out]; omega) HNB.out.symm).trans X0.out)
    have HGW := hide (G0.out.trans HG.out)
    have HBW : Hid (Below base w wr) := HGW.out.below HO0.out hb
    by_cases hlt : k < ks.length + 1
    · have hpl := HLN.out k hk
      have hps := HLN.out (k + 1) (by omega)
      rw [pk_succ] at hps
      have hrl := inR_len low high (pk f ks cs k)
      have hkl : (k : Int) ≤ (ks.length : Int) := by omega
      by_cases hc0 : cs.length = 0
      · have HKD : Hid (kidP f cs k = []) := if_pos hc0
        have HOX := hide (ownS_to (l' := (l ++ inR low high (pk f ks cs k)) ++ inR low high (kidP f cs k)) HO.out (by rw [HKD.out, show inR low high [] = [] from rfl, List.append_nil]))
        have hnc : ¬ (0 : Int) < (cs.length : Int) := by omega
        have HBWwr := HBW
        have HC0 := hide hc0
        clear hc0
        rw [HKD.out] at hps
        have hfl : ((l ++ inR low high (pk f ks cs k)) ++ inR low high (kidP f cs k)).length ≤ 100000000 - (keyP ks k).length := by
          rw [HKD.out, show inR low high [] = [] from rfl, List.append_nil]; simp only [List.length_append, List.length_nil] at *; omega
        by_cases hkk : k < ks.length
        · obtain ⟨b', off', x, rfl, hbB', hx, hxm, e0⟩ := (HK.out.kept ((hide (HBWwr.out.mono hB)).out)).at k hkk
          have hki : (k : Int) < (ks.length : Int) := by omega
          have HKP : Hid (keyP ks k = [x]) := by show _ = _; unfold keyP; rw [if_pos hkk, hx]
          clear hx
          by_cases q1 : Go.Op.bytesLess x.toList low.toList = true
          · have HO5 := hide (ownS_to (l' := l ++ inR low high (pk f ks cs (k + 1))) HOX.out (by rw [pk_succ, HKP.out, inR_append, inR_append, show inR low high [x] = [] from (by simp [inR, lt', q1]), List.append_nil, ← List.append_assoc]))
            go_wp2
            go_roundw
            case rel => exact ⟨k + 1, by omega, by go_num, HO5, HG⟩
            case measure => simp [intOf]; omega
          · rw [Bool.not_eq_true] at q1
            have q2 := le_not_lt x high
            by_cases q3 : lt' high x = true
            · rw [q3, Bool.not_true, Bool.or_eq_false_iff] at q2
              obtain ⟨q2, q2'⟩ := q2
              have HO5 := hide (ownS_to (l' := l ++ inR low high (pk f ks cs (k + 1))) HOX.out (by rw [pk_succ, HKP.out, inR_append, inR_append, show inR low high [x] = [] from (by simp [inR, q3]), List.append_nil, ← List.append_assoc]))
              clear q3
              go_wp2
              go_roundw
              case rel => exact ⟨k + 1, by omega, by go_num, HO5, HG⟩
              case measure => simp [intOf]; omega
            · rw [Bool.not_eq_true] at q3
              rw [q3, Bool.not_false] at q2
              have HIN : Hid (inR low high [x] = [x]) := by show _ = _; simp [inR, lt'] at q3 ⊢; simp [q1, q3]
              clear q3
              rw [HKP.out, List.length_singleton] at hfl
              have hown := HOX.out
              obtain ⟨L, hL⟩ : ∃ L, L = l ++ inR low high (pk f ks cs k) ++ inR low high (kidP f cs k) := ⟨_, rfl⟩
              have HL := hide hL
              rw [← hL] at hown hfl
              unfold OwnS at hown
              clear hL
              have hzW : base ≤ wr.heap.size := Nat.le_trans hb HBWwr.out.size
              go_wp2_with (at_builtin; refine wpList_append_own_at _ rfl _ _ 22 rfl base 9 i0 (.string ⟨#[]⟩) 1 16 Try.underlying22 hi hz0 hz1 hz2 rfl (by decide) _ _ _ rfl (hown.alloc _) ⟨wr.heap.size, 0, none⟩ 1 1 [.string x] rfl rfl (cell_one_new _ _ _) (oneS _) (by unfold maxLen; omega) (by omega) (by simp; omega) ?_)
              intro v' w5 hown5 hgrow5 _ hat5
              have HO5 := hide (ownS_to (l' := l ++ inR low high (pk f ks cs (k + 1))) (ownS_snoc hown5) (by rw [pk_succ, HKP.out, inR_append, inR_append, HIN.out, HL.out, ← List.append_assoc, ← List.append_assoc]))
              have HG5 : Hid (Grew W0 v w5 v') := (HG.out.trans (Grew.ofAlloc _ _ _)).trans ⟨hgrow5, hat5.imp id (fun e => ⟨_, e, by simp⟩)⟩
              clear hown5 hgrow5 hat5 hown
              go_wp2
              go_roundw
              case rel => exact ⟨k + 1, by omega, by go_num, HO5, HG5⟩
              case measure => simp [intOf]; omega
        · obtain rfl : k = ks.length := by omega
          have HO5 := hide (ownS_to (l' := l ++ inR low high (pk f ks cs (ks.length + 1))) HOX.out (by rw [pk_succ, show keyP ks ks.length = [] from if_neg (by omega), inR_append, List.append_nil, ← List.append_assoc]))
          go_wp2
          go_roundw
          case rel => exact ⟨ks.length + 1, by omega, by go_num, HO5, HG⟩
          case measure => simp [intOf]
      · have hcl : cs.length = ks.length + 1 := by omega
        have hpc : (0 : Int) < (cs.length : Int) := by omega
        obtain ⟨b, off, ko', kc', vo', vc', yo, yc, ks', vs', ds, rfl, hbB, hv, hp, d0, d1, d2⟩ := (HX.out.kept (HBW.out.mono hB) (TrRow.kept (HBW.out.mono hB) n)).at k (by omega)
        have HKD : Hid (kidP f cs k = f (cs.getD k noTr)) := if_neg hc0
        have hc := IH.out k ko' kc' vo' vc' yo yc _ _ wr (by omega) (Nat.le_trans hb HBW.out.size) (by rw [hv]; exact hp) (by rw [HKD.out] at hps; simp only [List.length_append] at *; omega) HO.out
        rw [← HKD.out, hv] at hc
        simp only [Tr.keys, Tr.vals, Tr.kids] at hc
        have HC := hide hc
        have hfl : ((l ++ inR low high (pk f ks cs k)) ++ inR low high (kidP f cs k)).length ≤ 100000000 - (keyP ks k).length := by
          have := inR_len low high (kidP f cs k)
          simp only [List.length_append] at *; omega
        have hki4 : (k : Int) < (cs.length : Int) := by omega
        clear hc hv hp hcl hc0
        go_wp2_with fail
        refine HC.out.mono ?_
        rintro e w1 ⟨u1, rfl, ho1, g1⟩
        have HOX := hide ho1
        have HG1 := hide (HG.out.trans g1)
        have HBWw1 : Hid (Below base w w1) := (G0.out.trans HG1.out).below HO0.out hb
        clear x0 x1 x2 xf
        obtain ⟨x0, x1, x2, xf⟩ := cells3 ((HG1.out.grown.block w.heap.size (by rw [HZ.out]; omega) HNB.out.symm).trans X0.out)
        clear ho1 g1 HC d0 d1 d2 HBW HGW HG HO
        by_cases hkk : k < ks.length
        · obtain ⟨b', off', x, rfl, hbB', hx, hxm, e0⟩ := (HK.out.kept ((hide (HBWw1.out.mono hB)).out)).at k hkk
          have hki : (k : Int) < (ks.length : Int) := by omega
          have HKP : Hid (keyP ks k = [x]) := by show _ = _; unfold keyP; rw [if_pos hkk, hx]
          clear hx
          by_cases q1 : Go.Op.bytesLess x.toList low.toList = true
          · have HO5 := hide (ownS_to (l' := l ++ inR low high (pk f ks cs (k + 1))) HOX.out (by rw [pk_succ, HKP.out, inR_append, inR_append, show inR low high [x] = [] from (by simp [inR, lt', q1]), List.append_nil, ← List.append_assoc]))
            go_wp2
            go_roundw
            case rel => exact ⟨k + 1, by omega, by go_num, HO5, HG1⟩
            case measure => simp [intOf]; omega
          · rw [Bool.not_eq_true] at q1
            have q2 := le_not_lt x high
            by_cases q3 : lt' high x = true
            · rw [q3, Bool.not_true, Bool.or_eq_false_iff] at q2
              obtain ⟨q2, q2'⟩ := q2
              have HO5 := hide (ownS_to (l' := l ++ inR low high (pk f ks cs (k + 1))) HOX.out (by rw [pk_succ, HKP.out, inR_append, inR_append, show inR low high [x] = [] from (by simp [inR, q3]), List.append_nil, ← List.append_assoc]))
              clear q3
              go_wp2
              go_roundw
              case rel => exact ⟨k + 1, by omega, by go_num, HO5, HG1⟩
              case measure => simp [intOf]; omega
            · rw [Bool.not_eq_true] at q3
              rw [q3, Bool.not_false] at q2
              have HIN : Hid (inR low high [x] = [x]) := by show _ = _; simp [inR, lt'] at q3 ⊢; simp [q1, q3]
              clear q3
              rw [HKP.out, List.length_singleton] at hfl
              have hown := HOX.out
              obtain ⟨L, hL⟩ : ∃ L, L = l ++ inR low high (pk f ks cs k) ++ inR low high (kidP f cs k) := ⟨_, rfl⟩
              have HL := hide hL
              rw [← hL] at hown hfl
              unfold OwnS at hown
              clear hL
              have hzW : base ≤ w1.heap.size := Nat.le_trans hb HBWw1.out.size
              go_wp2_with (at_builtin; refine wpList_append_own_at _ rfl _ _ 22 rfl base 9 i0 (.string ⟨#[]⟩) 1 16 Try.underlying22 hi hz0 hz1 hz2 rfl (by decide) _ _ _ rfl (hown.alloc _) ⟨w1.heap.size, 0, none⟩ 1 1 [.string x] rfl rfl (cell_one_new _ _ _) (oneS _) (by unfold maxLen; omega) (by omega) (by simp; omega) ?_)
              intro v' w5 hown5 hgrow5 _ hat5
              have HO5 := hide (ownS_to (l' := l ++ inR low high (pk f ks cs (k + 1))) (ownS_snoc hown5) (by rw [pk_succ, HKP.out, inR_append, inR_append, HIN.out, HL.out, ← List.append_assoc, ← List.append_assoc]))
              have HG5 : Hid (Grew W0 v w5 v') := (HG1.out.trans (Grew.ofAlloc _ _ _)).trans ⟨hgrow5, hat5.imp id (fun e => ⟨_, e, by simp⟩)⟩
              clear hown5 hgrow5 hat5 hown
              go_wp2
              go_roundw
              case rel => exact ⟨k + 1, by omega, by go_num, HO5, HG5⟩
              case measure => simp [intOf]; omega
        · obtain rfl : k = ks.length := by omega
          have HO5 := hide (ownS_to (l' := l ++ inR low high (pk f ks cs (ks.length + 1))) HOX.out (by rw [pk_succ, show keyP ks ks.length = [] from if_neg (by omega), inR_append, List.append_nil, ← List.append_assoc]))
          go_wp2
          go_roundw
          case rel => exact ⟨ks.length + 1, by omega, by go_num, HO5, HG1⟩
          case measure => simp [intOf]
    · obtain rfl : k = ks.length + 1 := by omega
      have hge : ¬ ((ks.length + 1 : Nat) : Int) ≤ (ks.length : Int) := by omega
      go_wp2
      go_ret
      exact ⟨_, rfl, HO.out, HGW.out⟩
end Go.Proofs.Ytffgobkgkhmeoaa
