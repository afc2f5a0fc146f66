/-
  Contracts: drawn values, one behind the other.
-/
import Derived.Test.YtkkggbbpaflieaaGreatDoorKDraw2
import Derived.Test.YtkkggbbpaflieaaGreatDoorReadS3
namespace Go.Proofs.YtkkggbbpaflieaaGreatDoor
open Go.RowKit

/-- Values drawn into a row of the call's own. -/
def VsAt (g B : Nat) (w : World) (v : Value) (vs : List Val) (wr : World) : Prop := OwnV w.heap.size v vs wr ∧ ((∀ x ∈ vs, x.ok ∧ x.text.size ≤ 300) ∧ v ≠ .slice none 0 0) ∧ Src wr B g ∧ w.grownBy wr (some g)
theorem vsAt_step {g B : Nat} {w wr w1 : World} {v : Value} {vs : List Val} (hgl : g < w.heap.size) (h : VsAt g B w v vs wr) (hs : Src w1 B g) (hg : wr.grownBy w1 (some g)) : VsAt g B w v vs w1 :=
  ⟨World.ownsRow.kept h.1 hg (by
    cases hv : v.ownBlock with
    | none => exact .inl rfl
    | some k =>
      refine .inr (fun e => ?_)
      have := (World.ownsRow.lt h.1 k hv).1
      simp at e; omega), h.2.1, hs, grown_trans h.2.2.2 hg (fun j hj => .inl (by simpa using hj.symm))⟩
theorem vsAt_more {g B : Nat} {w wr w1 : World} {o : Obj} {v v1 : Value} {vs : List Val} {x : Val} {xs : List Value} {n : Nat} (hgl : g < w.heap.size) (hB : B ≤ g) (h : VsAt g B w v vs wr) (ho : w1.ownsRow w.heap.size 40 3 v1 n xs) (hn : n = vs.length + 1) (hx : xs = flatV vs ++ [.int .i64 x.kind, .int .i64 x.num, .string x.text]) (hg : (wr.alloc o).grownBy w1 v.ownBlock) (hxo : x.ok ∧ x.text.size ≤ 300) (hnn : ¬ v1 = .slice none 0 0) : VsAt g B w v1 (vs ++ [x]) w1 := by
  have hown : ∀ k, v.ownBlock = some k → w.heap.size ≤ k := fun k hk => (World.ownsRow.lt h.1 k hk).1
  have hsz := h.2.2.2.size
  have hlt := h.2.2.1.lt
  have hb : Below w.heap.size wr w1 := ((Below.refl w.heap.size wr).alloc hsz o).grown hg (size_alloc_le _ hsz) hown
  refine ⟨ownV_of ho (by simpa using hn) (by rw [hx, flatV_append]; rfl), ⟨fun y hy => ?_, hnn⟩, h.2.2.1.kept (hb.mono (by omega)) (hb.block g hgl), ?_⟩
  · rcases List.mem_append.1 hy with h1 | h1
    · exact h.2.1.1 y h1
    · rw [List.mem_singleton.1 h1]; exact hxo
  · exact ⟨hb.os.trans h.2.2.2.os, hb.tape.trans h.2.2.2.tape, hb.output.trans h.2.2.2.output, Nat.le_trans hsz hb.size, fun k hk hn => (hb.block k hk).trans (h.2.2.2.block k hk hn)⟩
/-- What l02Values answers. -/
def DrawnVs (g B : Nat) (w : World) (e : Ending) (w' : World) : Prop := ∃ (v : Value) (vs : List Val), e = .returned v ∧ vs.length ≤ 13 ∧ VsAt g B w v vs w'
/-- How many values may still come. -/
def leftV : Value → Nat
  | .slice _ n _ => 14 - n
  | _ => 0
theorem drawnVs_mk {g B : Nat} {w : World} {e : Ending} {w' : World} (v : Value) (vs : List Val) (h1 : e = .returned v) (h2 : vs.length ≤ 13) (h3 : VsAt g B w v vs w') : DrawnVs g B w e w' := ⟨v, vs, h1, h2, h3⟩
set_option maxRecDepth 100000 in
set_option maxHeartbeats 4000000 in
theorem drawVs_any (g B : Nat) (w : World) (hs : Src w B g) (hB : B ≤ g) :
    Calls Tryz.prog 15 #[.pointer (some ⟨g, 0, none⟩)] w (DrawnVs g B w) := by
  obtain ⟨i0, hi, hz0, hz1, hz2⟩ := info_parts Tryz.infoVal
  have hlt := hs.lt
  have H0 : Hid (VsAt g B w (.slice (some ⟨w.heap.size, 0, none⟩) 0 0) [] (w.alloc (.cells #[] 40))) :=
    ⟨⟨rfl, .inr ⟨w.heap.size, 0, #[], rfl, Nat.le_refl _, heap_alloc_new _ _, Nat.le_refl _, Nat.zero_le _, rfl, rfl⟩⟩, ⟨fun _ h => by simp at h, by simp⟩, hs.kept ((Below.refl _ _).alloc (by omega) _) (Below.heap_alloc _ _ _ hlt), grown_alloc (grown_self _ _) _⟩
  clear hs
  go_enter Tryz.func15, Tryz.ntmps15
  go_wp2_with fail
  refine (n_any g B 4 (by omega) (by omega) _ H0.out.2.2.1 hB).mono ?_
  rintro e w1 ⟨k, rfl, hk0, hk1, hs1, hg1, hz1'⟩
  have H1 : Hid (VsAt g B w (.slice (some ⟨w.heap.size, 0, none⟩) 0 0) [] w1) := vsAt_step hlt H0.out hs1 hg1
  obtain ⟨q, rfl⟩ := Int.eq_ofNat_of_zero_le hk0
  clear hs1 hg1 hz1' H0
  go_wp2_with fail
  go_loopw [3, 4] (fun v i wr => ∃ (j : Nat) (vs : List Val), j + vs.length ≤ 3 ∧ i = .int .i64 j ∧ Hid (VsAt g B w v vs wr)) (fun _ i _ => (intOf i).toNat)
  case atStart => exact ⟨q, [], by simp; omega, rfl, H1⟩
  case round =>
    obtain ⟨j, vs, hj, rfl, HV⟩ := hrel
    clear H1
    obtain ⟨ao, cap, hu3⟩ := ownV_shape HV.out.1
    rw [hu3] at HV ⊢
    clear hu3
    by_cases hj0 : 0 < j
    · go_wp2_with fail
      refine (drawV_any g B _ HV.out.2.2.1 hB).mono ?_
      rintro e w3 ⟨⟨vk, vn, vt⟩, rfl, hok, hts, hs3, hg3⟩
      have H3 : Hid (VsAt g B w (.slice ao vs.length cap) vs w3) := vsAt_step hlt HV.out hs3 hg3
      have HX : Hid ((⟨vk, vn, vt⟩ : Val).ok ∧ (⟨vk, vn, vt⟩ : Val).text.size ≤ 300) := ⟨hok, hts⟩
      have hown3 : w3.ownsRow w.heap.size 40 3 (.slice ao vs.length cap) vs.length (flatV vs) := H3.out.1
      have hz3 := H3.out.2.2.2.size
      clear hs3 hg3 hok hts HV
      simp only
      go_wp2_with (at_builtin; refine wpList_append_own _ rfl _ _ 23 rfl w.heap.size 40 i0 (.agg #[.int .i64 0, .int .i64 0, .string ⟨#[]⟩]) 3 32 Tryz.underlying23 hi hz0 hz1 hz2 rfl (by decide) _ _ _ rfl (hown3.alloc _) ⟨w3.heap.size, 0, none⟩ 1 1 [.int .i64 vk, .int .i64 vn, .string vt] rfl rfl (cell_val_new _ _ _ _ _) (one_val _ _ _) (by unfold maxLen; omega) (by omega) (size_alloc_le _ hz3) ?_)
      intro v5 w5 hown5 hgrow5 hnn5
      have H5 : Hid (VsAt g B w v5 (vs ++ [⟨vk, vn, vt⟩]) w5) := vsAt_more hlt hB H3.out hown5 rfl rfl hgrow5 HX.out hnn5
      clear hnn5 hown5 hgrow5 hown3 H3
      go_wp2
      go_roundw
      case rel => exact ⟨j - 1, vs ++ [⟨vk, vn, vt⟩], by simp; omega, by go_num, H5⟩
      case measure => simp [intOf]; omega
    · obtain rfl : j = 0 := by omega
      go_wp2_with fail
      refine (one_any g B 40 (by omega) (by omega) _ HV.out.2.2.1 hB).mono ?_
      rintro e w3 ⟨b, rfl, hs3, hg3, hz3'⟩
      have H3 : Hid (VsAt g B w (.slice ao vs.length cap) vs w3) := vsAt_step hlt HV.out hs3 hg3
      clear hs3 hg3 hz3' HV
      cases b with
      | false =>
        go_wp2
        go_ret
        exact drawnVs_mk (.slice ao vs.length cap) vs rfl (by omega) H3.out
      | true =>
        go_wp2_with fail
        go_loopw [3] (fun v wr => ∃ (vs : List Val), vs.length ≤ 13 ∧ Hid (VsAt g B w v vs wr)) (fun v _ => leftV v)
        case atStart => exact ⟨vs, by omega, H3⟩
        case round =>
          clear H3 hj
          obtain ⟨ys, hy, HY⟩ := hrel
          obtain ⟨bo, cp, hu3⟩ := ownV_shape HY.out.1
          rw [hu3] at HY ⊢
          clear hu3
          go_wp2_with fail
          refine (n_any g B 3 (by omega) (by omega) _ HY.out.2.2.1 hB).mono ?_
          rintro e w4 ⟨r, rfl, hr0, hr1, hs4, hg4, hz4'⟩
          have H4 : Hid (VsAt g B w (.slice bo ys.length cp) ys w4) := vsAt_step hlt HY.out hs4 hg4
          clear hs4 hg4 hz4' HY
          by_cases hmore : (ys.length : Int) < 11 + r
          · have hown4 : w4.ownsRow w.heap.size 40 3 (.slice bo ys.length cp) ys.length (flatV ys) := H4.out.1
            have hz4 := H4.out.2.2.2.size
            go_wp2_with (at_builtin; refine wpList_append_own _ rfl _ _ 23 rfl w.heap.size 40 i0 (.agg #[.int .i64 0, .int .i64 0, .string ⟨#[]⟩]) 3 32 Tryz.underlying23 hi hz0 hz1 hz2 rfl (by decide) _ _ _ rfl (hown4.alloc _) ⟨w4.heap.size, 0, none⟩ 1 1 [.int .i64 0, .int .i64 0, .string ⟨#[]⟩] rfl rfl (cell_val_new _ _ _ _ _) (one_val _ _ _) (by unfold maxLen; omega) (by omega) (size_alloc_le _ hz4) ?_)
            intro v5 w5 hown5 hgrow5 hnn5
            have H5 : Hid (VsAt g B w v5 (ys ++ [⟨0, 0, ⟨#[]⟩⟩]) w5) := vsAt_more hlt hB H4.out hown5 rfl rfl hgrow5 ⟨⟨by decide, by decide, by decide, by decide⟩, by decide⟩ hnn5
            obtain ⟨co, cq, hv5⟩ := ownV_shape H5.out.1
            rw [hv5] at H5 ⊢
            clear hnn5 hown5 hgrow5 hown4 H4 hv5
            go_wp2
            go_roundw
            case rel => exact ⟨ys ++ [⟨0, 0, ⟨#[]⟩⟩], by simp; omega, H5⟩
            case measure => simp [leftV]; omega
          · go_wp2
            go_ret
            exact drawnVs_mk (.slice bo ys.length cp) ys rfl hy H4.out
end Go.Proofs.YtkkggbbpaflieaaGreatDoor
