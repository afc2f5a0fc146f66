/-
  Contracts: two drawn lists of values.
-/
import Derived.Test.YtkkggbbpaflieaaGreatDoorKDraw3
import Derived.Test.YtkkggbbpaflieaaGreatDoorGrowG
namespace Go.Proofs.YtkkggbbpaflieaaGreatDoor
open Go.RowKit

theorem ownV_ptr {base : Nat} {v : Value} {vs : List Val} {w : World} (h : OwnV base v vs w) (hn : v ≠ .slice none 0 0) : ∃ q cap, v = .slice (some ⟨q, 0, none⟩) vs.length cap := by
  rcases h.2 with ⟨h1, h2⟩ | ⟨g, cap, cur, h1, _⟩
  · exact absurd h1 hn
  · exact ⟨_, _, h1⟩
theorem own_news {base n q cap : Nat} {xs : List Value} {W : World} {t : TypeId} (h : W.ownsRow base t 3 (.slice (some ⟨q, 0, none⟩) n cap) n xs) : ∀ j u, xs[j]? = some u → W.cell? ((⟨q, 0, none⟩ : Addr).add j) = some u := by
  intro j u hj
  have hadd : (⟨q, 0, none⟩ : Addr).add j = ⟨q, j, none⟩ := by unfold Addr.add; split <;> simp_all
  rw [hadd]
  rcases h.2 with ⟨h1, _⟩ | ⟨g, cap', cur, h1, hB, hq, hn, hm, hs, ht⟩
  · simp at h1
  · simp only [Value.slice.injEq, Option.some.injEq, Addr.mk.injEq, and_true] at h1
    obtain ⟨rfl, _⟩ := h1
    rw [cell_of_row _ _ _ _ _ _ hq]
    rw [← ht, List.getElem?_take] at hj
    split at hj
    · simpa using hj
    · simp at hj
theorem flat_one : ∀ (vs : List Val), ∀ u ∈ flatV vs, u.oneCell' = true
  | [] => fun u hu => by simp [flatV] at hu
  | v :: r => fun u hu => by
    rw [flatV_cons] at hu
    simp only [List.mem_cons] at hu
    rcases hu with rfl | rfl | rfl | hu
    · rfl
    · rfl
    · rfl
    · exact flat_one r u hu
theorem flatV_take : ∀ (vs : List Val) (m : Nat), (flatV vs).take (m * 3) = flatV (vs.take m)
  | [], m => by simp [flatV]
  | v :: r, 0 => by simp [flatV]
  | v :: r, m + 1 => by
    rw [flatV_cons, List.take_succ_cons, flatV_cons, show (m + 1) * 3 = m * 3 + 1 + 1 + 1 by omega]
    simp only [List.take_succ_cons]
    rw [flatV_take r m]
theorem own_setLast {base q cap m : Nat} {vs : List Val} {W : World} (h : OwnV base (.slice (some ⟨q, 0, none⟩) vs.length cap) vs W) (hm : vs.length = m + 1) (x : Val) :
    OwnV base (.slice (some ⟨q, 0, none⟩) vs.length cap) (vs.take m ++ [x]) (((W.setCell ⟨q, m * 3, none⟩ (.int .i64 x.kind)).setCell ⟨q, m * 3 + 1, none⟩ (.int .i64 x.num)).setCell ⟨q, m * 3 + 2, none⟩ (.string x.text)) := by
  have hl : (vs.take m ++ [x]).length = vs.length := by simp; omega
  refine ⟨by rw [flatV_len], ?_⟩
  rcases h.2 with ⟨h1, _⟩ | ⟨g, cap', cur, h1, hB, hq, hn, hmx, hs, ht⟩
  · simp at h1
  · simp only [Value.slice.injEq, Option.some.injEq, Addr.mk.injEq, and_true, true_and] at h1
    obtain ⟨rfl, rfl⟩ := h1
    have hq' : W.heap[q]? = some (.cells cur.toList.toArray 40 (0, 0)) := by simpa using hq
    have hsz : m * 3 + 3 ≤ cur.toList.length := by
      have : cur.size = cap * 3 := hs
      have h2 : vs.length ≤ cap := hn
      simp; omega
    obtain ⟨t1, t2⟩ := set3_take cur.toList (m * 3) (.int .i64 x.kind) (.int .i64 x.num) (.string x.text) hsz
    refine .inr ⟨q, cap, _, by rw [hl], hB, set3_heap hq', by rw [hl]; exact hn, hmx, ?_, ?_⟩
    · simpa using hs
    · rw [hl, hm, show (m + 1) * 3 = m * 3 + 3 by omega]
      show List.take _ (List.toArray _).toList = _
      rw [List.toList_toArray, t1, flatV_append]
      have : cur.toList.take (m * 3) = flatV (vs.take m) := by rw [← flatV_take, ← ht, List.take_take, Nat.min_eq_left (by omega)]
      rw [this]; rfl
theorem own_cells {base q cap m : Nat} {vs : List Val} {W : World} (h : OwnV base (.slice (some ⟨q, 0, none⟩) vs.length cap) vs W) (hm : m < vs.length) :
    ∃ a b t, W.cell? ⟨q, m * 3, none⟩ = some (.int .i64 a) ∧ W.cell? ⟨q, m * 3 + 1, none⟩ = some (.int .i64 b) ∧ W.cell? ⟨q, m * 3 + 2, none⟩ = some (.string t) ∧ ∀ j, W.frozen? ⟨q, j, none⟩ = false := by
  obtain ⟨h0, h1, h2⟩ := flatV_get vs m hm
  have hadd : ∀ j, (⟨q, 0, none⟩ : Addr).add j = ⟨q, j, none⟩ := fun j => by unfold Addr.add; split <;> simp_all
  have hn := own_news h
  refine ⟨_, _, _, by rw [← hadd]; exact hn _ _ h0, by rw [← hadd]; exact hn _ _ h1, by rw [← hadd]; exact hn _ _ h2, fun j => ?_⟩
  rcases h.2 with ⟨h1, _⟩ | ⟨g, cap', cur, h1, hB, hq, _⟩
  · simp at h1
  · simp only [Value.slice.injEq, Option.some.injEq, Addr.mk.injEq, and_true, true_and] at h1
    obtain ⟨rfl, rfl⟩ := h1
    exact frozen_of_row _ _ _ _ _ hq
/-- Values that a draw hands back: they can be read. -/
def VsOk (vs : List Val) (v : Value) (base : Nat) (w : World) : Prop := OwnV base v vs w ∧ vs.length ≤ 13 ∧ ∀ x ∈ vs, x.ok ∧ x.text.size ≤ 300
theorem VsOk.base {vs : List Val} {v : Value} {b b' : Nat} {w : World} (h : VsOk vs v b w) (hb : b' ≤ b) : VsOk vs v b' w := ⟨owns_base h.1 hb, h.2⟩
/-- What DrawCompare answers. -/
def DrawnTwo (w : World) (e : Ending) (w' : World) : Prop := ∃ (v u : Value) (vs us : List Val), e = .returned (.tuple #[v, u]) ∧ VsOk vs v w.heap.size w' ∧ VsOk us u w.heap.size w' ∧ Below w.heap.size w w'
theorem drawnTwo_mk {w : World} {e : Ending} {w' : World} (v u : Value) (vs us : List Val) (h1 : e = .returned (.tuple #[v, u])) (h2 : VsOk vs v w.heap.size w') (h3 : VsOk us u w.heap.size w') (h4 : Below w.heap.size w w') : DrawnTwo w e w' := ⟨v, u, vs, us, h1, h2, h3, h4⟩
theorem VsOk.grown {vs : List Val} {v : Value} {base g : Nat} {w w' : World} (h : VsOk vs v base w) (hg : w.grownBy w' (some g)) (hgb : ∀ k, v.ownBlock = some k → k ≠ g) : VsOk vs v base w' :=
  ⟨World.ownsRow.kept h.1 hg (by
    cases hv : v.ownBlock with
    | none => exact .inl rfl
    | some k => exact .inr (fun e => hgb k hv (by simpa using e))), h.2⟩
set_option maxRecDepth 100000 in
set_option maxHeartbeats 4000000 in
theorem drawCompare_any (B : Nat) (ao : Option Addr) (len cap : Nat) (zs : List Int) (w : World) (hB : B ≤ w.heap.size) (hl : len ≤ 1048576) (hr : ByteRow w B ao len zs) :
    Calls Tryz.prog 4 #[.slice ao len cap] w (DrawnTwo w) := by
  obtain ⟨i0, hi, hz0, hz1, hz2⟩ := info_parts Tryz.infoVal
  have HR : Hid (ByteRow w B ao len zs) := hr
  clear hr
  go_enter Tryz.func4, Tryz.ntmps4
  go_wp2_with fail
  refine (source_any B ao len cap zs _ hB hl HR.out).mono ?_
  rintro e w1 ⟨g, rfl, hg, hs1, hb1⟩
  have hBg : B ≤ g := by omega
  have HS1 : Hid (Src w1 B g) := hs1
  have hgl := hs1.lt
  clear hs1
  go_wp2_with fail
  refine (drawVs_any g B _ HS1.out hBg).mono ?_
  rintro e w2 ⟨v, vs, rfl, hvl, hva⟩
  have b2 := below_draw hb1 hg hva.2.2.2
  have HS2 : Hid (Src w2 B g) := hva.2.2.1
  have A2 : Hid (VsOk vs v w1.heap.size w2) := ⟨hva.1, hvl, hva.2.1.1⟩
  have hz2' := hva.2.2.2.size
  obtain ⟨va, vc, rfl⟩ := ownV_ptr hva.1 hva.2.1.2
  clear hva hb1 HS1
  go_wp2_with fail
  refine (drawVs_any g B _ HS2.out hBg).mono ?_
  rintro e w3 ⟨u, us, rfl, hul, hua⟩
  have b3 := below_draw b2 hg hua.2.2.2
  have HS3 : Hid (Src w3 B g) := hua.2.2.1
  have A3 : Hid (VsOk vs (.slice (some ⟨va, 0, none⟩) vs.length vc) w1.heap.size w3) := A2.out.grown hua.2.2.2 (fun k hk => by have := (World.ownsRow.lt A2.out.1 k hk).1; omega)
  have U3 : Hid (VsOk us u w2.heap.size w3) := ⟨hua.1, hul, hua.2.1.1⟩
  have hz3' := hua.2.2.2.size
  obtain ⟨ua, uc, rfl⟩ := ownV_shape hua.1
  have AB : Hid (∀ k, (Value.slice (some ⟨va, 0, none⟩) vs.length vc).ownBlock = some k → k < w2.heap.size) := fun k hk => (World.ownsRow.lt A2.out.1 k hk).2
  clear hua HS2 A2 b2
  go_wp2_with fail
  refine (one_any g B 3 (by omega) (by omega) _ HS3.out hBg).mono ?_
  rintro e w4 ⟨b, rfl, hs4, hg4, hz4'⟩
  have b4 := below_draw b3 hg hg4
  have A4 : Hid (VsOk vs (.slice (some ⟨va, 0, none⟩) vs.length vc) w1.heap.size w4) := A3.out.grown hg4 (fun k hk => by have := (World.ownsRow.lt A3.out.1 k hk).1; omega)
  have U4 : Hid (VsOk us (.slice ua us.length uc) w2.heap.size w4) := U3.out.grown hg4 (fun k hk => by have := (World.ownsRow.lt U3.out.1 k hk).1; omega)
  have HS4 : Hid (Src w4 B g) := hs4
  have hw1 : w.heap.size ≤ w1.heap.size := by omega
  have hz4 : w3.heap.size ≤ w4.heap.size := by omega
  clear hs4 hg4 HS3 A3 U3 b3 hz4'
  cases b with
  | false =>
    go_wp2
    go_ret2
    exact drawnTwo_mk (.slice (some ⟨va, 0, none⟩) vs.length vc) (.slice ua us.length uc) vs us rfl (A4.out.base hw1) (U4.out.base (by omega)) b4
  | true =>
    have hown4 : (w4.alloc (.cells #[] 40)).ownsRow w4.heap.size 40 3 (.slice (some ⟨w4.heap.size, 0, none⟩) 0 0) 0 (flatV []) := ⟨rfl, .inr ⟨w4.heap.size, 0, #[], rfl, Nat.le_refl _, heap_alloc_new _ _, Nat.le_refl _, Nat.zero_le _, rfl, rfl⟩⟩
    have hnews := own_news (World.ownsRow.alloc A4.out.1 (.cells #[] 40))
    go_wp2_with (at_builtin; refine wpList_append_own _ rfl _ _ 23 rfl w4.heap.size 40 i0 (.agg #[.int .i64 0, .int .i64 0, .string ⟨#[]⟩]) 3 32 Tryz.underlying23 hi hz0 hz1 hz2 rfl (by decide) _ _ _ rfl hown4 ⟨va, 0, none⟩ vs.length vc (flatV vs) rfl (flatV_len vs) hnews (flat_one vs) (by unfold maxLen; omega) (by omega) (size_alloc_le _ (Nat.le_refl _)) ?_)
    intro v5 w5 hown5 hgrow5 hnn5
    obtain ⟨vb, c5, rfl⟩ := ownV_ptr (ownV_of (vs := vs) hown5 rfl rfl) hnn5
    have k5 : Below w4.heap.size w4 w5 := ((Below.refl w4.heap.size w4).alloc (Nat.le_refl _) _).grown hgrow5 (size_alloc_le _ (Nat.le_refl _)) (fun j hj => by simp [Value.ownBlock] at hj; omega)
    have A5 : Hid (VsOk vs (.slice (some ⟨va, 0, none⟩) vs.length vc) w1.heap.size w5) := ⟨owns_below A4.out.1 k5, A4.out.2⟩
    have V5 : Hid (VsOk vs (.slice (some ⟨vb, 0, none⟩) vs.length c5) w4.heap.size w5) := ⟨ownV_of hown5 rfl rfl, A4.out.2⟩
    have HS5 : Hid (Src w5 B g) := HS4.out.kept (k5.mono (by omega)) (k5.block g (by omega))
    have b5 := b4.trans (k5.mono (by omega))
    have hz5 := k5.size
    clear hown5 hgrow5 hnn5 hnews hown4 A4 U4 HS4 b4 k5
    by_cases h0 : vs.length = 0
    · rw [h0] at A5 V5 ⊢
      go_wp2
      go_ret2
      exact drawnTwo_mk (.slice (some ⟨va, 0, none⟩) 0 vc) (.slice (some ⟨vb, 0, none⟩) 0 c5) vs vs rfl (A5.out.base hw1) (V5.out.base (by omega)) b5
    · have hpos : 0 < vs.length := by omega
      go_wp2_with fail
      refine (one_any g B 2 (by omega) (by omega) _ HS5.out hBg).mono ?_
      rintro e w6 ⟨b, rfl, hs6, hg6, hz6'⟩
      have b6 := below_draw b5 hg hg6
      have A6 : Hid (VsOk vs (.slice (some ⟨va, 0, none⟩) vs.length vc) w1.heap.size w6) := A5.out.grown hg6 (fun k hk => by have := (World.ownsRow.lt A5.out.1 k hk).1; omega)
      have V6 : Hid (VsOk vs (.slice (some ⟨vb, 0, none⟩) vs.length c5) w4.heap.size w6) := V5.out.grown hg6 (fun k hk => by have := (World.ownsRow.lt V5.out.1 k hk).1; omega)
      have HS6 : Hid (Src w6 B g) := hs6
      have hz6 : w5.heap.size ≤ w6.heap.size := by omega
      clear hs6 hg6 hz6' A5 V5 HS5 b5
      cases b with
      | false =>
        go_wp2
        go_ret2
        exact drawnTwo_mk (.slice (some ⟨va, 0, none⟩) vs.length vc) (.slice (some ⟨vb, 0, none⟩) vs.length c5) vs vs rfl (A6.out.base hw1) (V6.out.base (by omega)) b6
      | true =>
        go_wp2_with fail
        refine (drawV_any g B _ HS6.out hBg).mono ?_
        rintro e w7 ⟨⟨vk, vn, vt⟩, rfl, hok, hts, hs7, hg7⟩
        have b7 := below_draw b6 hg hg7
        have A7 : Hid (VsOk vs (.slice (some ⟨va, 0, none⟩) vs.length vc) w1.heap.size w7) := A6.out.grown hg7 (fun k hk => by have := (World.ownsRow.lt A6.out.1 k hk).1; omega)
        have V7 : Hid (VsOk vs (.slice (some ⟨vb, 0, none⟩) vs.length c5) w4.heap.size w7) := V6.out.grown hg7 (fun k hk => by have := (World.ownsRow.lt V6.out.1 k hk).1; omega)
        obtain ⟨m, hm⟩ : ∃ m, vs.length = m + 1 := ⟨vs.length - 1, by omega⟩
        obtain ⟨xa, xb, xt, d0, d1, d2, df⟩ := own_cells V7.out.1 (show m < vs.length by omega)
        have hvb : w4.heap.size ≤ vb := (World.ownsRow.lt V7.out.1 vb rfl).1
        have hvl : vb < w7.heap.size := (World.ownsRow.lt V7.out.1 vb rfl).2
        have hne : va ≠ vb := fun e => by have := AB.out va rfl; omega
        have hix : ((vs.length : Int) - 1).toNat = m := by omega
        have hi0 : (0 : Int) ≤ (vs.length : Int) - 1 := by omega
        have hi1 : (vs.length : Int) - 1 < (vs.length : Int) := by omega
        have A8 : Hid (VsOk vs (.slice (some ⟨va, 0, none⟩) vs.length vc) w1.heap.size (((w7.setCell ⟨vb, m * 3, none⟩ (.int .i64 vk)).setCell ⟨vb, m * 3 + 1, none⟩ (.int .i64 vn)).setCell ⟨vb, m * 3 + 2, none⟩ (.string vt))) := by
          refine ⟨World.ownsRow.kept A7.out.1 (row := some vb) (grown_setG (grown_setG (grown_setG (grown_self _ _)))) (.inr (fun e => hne ?_)), A7.out.2⟩
          simpa [Value.ownBlock] using e
        have V8 : Hid (VsOk (vs.take m ++ [⟨vk, vn, vt⟩]) (.slice (some ⟨vb, 0, none⟩) vs.length c5) w4.heap.size (((w7.setCell ⟨vb, m * 3, none⟩ (.int .i64 vk)).setCell ⟨vb, m * 3 + 1, none⟩ (.int .i64 vn)).setCell ⟨vb, m * 3 + 2, none⟩ (.string vt))) := by
          refine ⟨own_setLast V7.out.1 hm ⟨vk, vn, vt⟩, by simp; omega, fun y hy => ?_⟩
          rcases List.mem_append.1 hy with h1 | h1
          · exact V7.out.2.2 y (List.mem_of_mem_take h1)
          · rw [List.mem_singleton.1 h1]; exact ⟨hok, hts⟩
        have b8 := ((b7.setCell (p := ⟨vb, m * 3, none⟩) (show w.heap.size ≤ vb by omega) (.int .i64 vk)).setCell (p := ⟨vb, m * 3 + 1, none⟩) (show w.heap.size ≤ vb by omega) (.int .i64 vn)).setCell (p := ⟨vb, m * 3 + 2, none⟩) (show w.heap.size ≤ vb by omega) (.string vt)
        have HM : Hid (vs.length = m + 1) := hm
        clear hs7 hg7 A6 V6 HS6 b6 hok hts A7 V7 b7 hm
        simp only
        go_wp2
        go_ret2
        exact drawnTwo_mk (.slice (some ⟨va, 0, none⟩) vs.length vc) (.slice (some ⟨vb, 0, none⟩) vs.length c5) vs (vs.take m ++ [⟨vk, vn, vt⟩]) rfl (A8.out.base hw1) (V8.out.base (by omega)) b8
end Go.Proofs.YtkkggbbpaflieaaGreatDoor
