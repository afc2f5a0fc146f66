/-
  Contracts and plain laws, part 5 of 9: DkDS, DkRep, DkNew, DkDS2, DkDS3, DkGI, DkDS4, Draw, DkWrS, DkWrS2
-/
import Derived.Laws.CopyOwn
import Derived.Deep.CutRange
import Derived.Test.YthglidcfbdigiaaPd

/-
  A disk that is being drawn. Plain laws.
-/
namespace Go.Proofs.Ythglidcfbdigiaa
open Go.RowKit
set_option maxRecDepth 100000

theorem blkS {W : World} {g : Nat} {o : Obj} (h : W.heap[g]? = some o) : g < W.heap.size := (Array.getElem?_eq_some_iff.1 h).1
theorem grownBelow {w w' : World} (r : Option Nat) (h : Below w.heap.size w w') : w.grownBy w' r := ⟨h.os, h.tape, h.output, h.size, fun k hk _ => h.block k hk⟩
/-- The source lies in block g, the result's block is w's first new one, the variable lies in block h; its lists are its own. -/
structure DS (B g h : Nat) (w : World) (s c : Value) (d : Dk) (W : World) : Prop where
  src : Src W B g
  gr : w.grownBy W (some g)
  res : W.heap[w.heap.size]? = some (.cells #[.slice none 0 0, .slice none 0 0] 26 (0, 0))
  var : W.heap[h]? = some (.cells #[s, c] 26 (0, 0))
  own : OwnD (w.heap.size + 1) s c d W
  far : ∀ v ∈ [s, c], ∀ b, v.ownBlock = some b → b ≠ h
  gap : w.heap.size + 1 ≤ h
  low : g < w.heap.size
  lowB : B ≤ g
section
variable {w W W' : World} {B g h : Nat} {s c s' c' : Value} {d d' : Dk}
theorem own_grown {base n size : Nat} {t : TypeId} {v : Value} {xs : List Value} (ho : W.ownsRow base t size v n xs) (k : W.grownBy W' (some g)) (hg : g < base) : W'.ownsRow base t size v n xs :=
  World.ownsRow.kept ho k (.inr (fun e => by have := (ho.lt g e).1; omega))
theorem DS.step (S : DS B g h w s c d W) (hs : Src W' B g) (k : W.grownBy W' (some g)) : DS B g h w s c d W' := by
  have hz := S.gr.size
  have hg := S.low
  have hp := S.gap
  have hv := blkS S.var
  have hr := blkS S.res
  refine ⟨hs, grown_trans S.gr k (fun j hj => .inl (by simpa using hj.symm)), (k.block _ hr (fun e => by simp at e; omega)).trans S.res, (k.block _ hv (fun e => by simp at e; omega)).trans S.var,
    ⟨own_grown S.own.secs k (by omega), own_grown S.own.cache k (by omega), S.own.apart⟩, S.far, hp, hg, S.lowB⟩
theorem DS.below (S : DS B g h w s c d W) (hb : Below W.heap.size W W') : DS B g h w s c d W' := by
  have hz := S.gr.size
  have hg := S.low
  have hB := S.lowB
  exact S.step (S.src.kept (hb.mono (by omega)) (hb.block g (by omega))) (grownBelow _ hb)
/-- Another disk in the variable. -/
theorem DS.put (S : DS B g h w s c d W) (ho : OwnD (w.heap.size + 1) s' c' d' W) (hf : ∀ v ∈ [s', c'], ∀ b, v.ownBlock = some b → b ≠ h) : DS B g h w s' c' d' ((W.setCell ⟨h, 0, none⟩ s').setCell ⟨h, 1, none⟩ c') := by
  have hz := S.gr.size
  have hg := S.low
  have hp := S.gap
  have hB := S.lowB
  have hb : Below h W ((W.setCell ⟨h, 0, none⟩ s').setCell ⟨h, 1, none⟩ c') := ((Below.refl h W).setCell (p := ⟨h, 0, none⟩) (Nat.le_refl _) _).setCell (p := ⟨h, 1, none⟩) (Nat.le_refl _) _
  have h1 := heap_setCell_same W h 0 _ _ s' S.var
  have h2 := heap_setCell_same _ h 1 _ _ c' h1
  refine ⟨S.src.kept (hb.mono (by omega)) (hb.block g (by omega)), ?_, (hb.block _ (by omega)).trans S.res, by simpa using h2, (ho.setF hf).setF hf, hf, hp, hg, hB⟩
  refine ⟨S.gr.os, S.gr.tape, S.gr.output, by simpa using hz, fun k hk hn => ?_⟩
  exact (hb.block k (by omega)).trans (S.gr.block k hk hn)
theorem DS.start (hs : Src W B g) (k : w.grownBy W (some g)) (hr : W.heap[w.heap.size]? = some (.cells #[.slice none 0 0, .slice none 0 0] 26 (0, 0))) (hg : g < w.heap.size) (hB : B ≤ g)
    (ho : OwnD (w.heap.size + 1) s c d W) : DS B g W.heap.size w s c d (W.alloc (.cells #[s, c] 26)) := by
  have hb := (Below.refl W.heap.size W).alloc (Nat.le_refl _) (.cells #[s, c] 26)
  have hr' := blkS hr
  have hz := k.size
  refine ⟨hs.kept (hb.mono (by omega)) (hb.block g (by omega)), grown_trans k (grownBelow (some g) hb) (fun j hj => .inl (by simpa using hj.symm)), (hb.block _ hr').trans hr, heap_alloc_new _ _, ho.below hb, fun v hv b hb' => ?_, by omega, hg, hB⟩
  simp at hv
  rcases hv with rfl | rfl
  · have := (ho.lt.1 b hb').2; omega
  · have := (ho.lt.2 b hb').2; omega
/-- The lists at the end, in the result's block. -/
theorem DS.fin (S : DS B g h w s c d W) : ((W.setCell ⟨w.heap.size, 0, none⟩ s).setCell ⟨w.heap.size, 1, none⟩ c).heap[w.heap.size]? = some (.cells #[s, c] 26 (0, 0)) ∧ OwnD (w.heap.size + 1) s c d ((W.setCell ⟨w.heap.size, 0, none⟩ s).setCell ⟨w.heap.size, 1, none⟩ c) ∧ Src ((W.setCell ⟨w.heap.size, 0, none⟩ s).setCell ⟨w.heap.size, 1, none⟩ c) B g ∧ w.grownBy ((W.setCell ⟨w.heap.size, 0, none⟩ s).setCell ⟨w.heap.size, 1, none⟩ c) (some g) := by
  have hz := S.gr.size
  have hg := S.low
  have hp := S.gap
  have hB := S.lowB
  have hb : Below w.heap.size W ((W.setCell ⟨w.heap.size, 0, none⟩ s).setCell ⟨w.heap.size, 1, none⟩ c) := ((Below.refl w.heap.size W).setCell (p := ⟨w.heap.size, 0, none⟩) (Nat.le_refl _) _).setCell (p := ⟨w.heap.size, 1, none⟩) (Nat.le_refl _) _
  have h1 := heap_setCell_same W w.heap.size 0 _ _ s S.res
  have h2 := heap_setCell_same _ w.heap.size 1 _ _ c h1
  refine ⟨by simpa using h2, ?_, S.src.kept (hb.mono (by omega)) (hb.block g hg), S.gr.os, S.gr.tape, S.gr.output, by simpa using hz, fun k hk hn => (hb.block k hk).trans (S.gr.block k hk hn)⟩
  have hf : ∀ v ∈ [s, c], ∀ b, v.ownBlock = some b → b ≠ w.heap.size := fun v hv b hb' => by
    simp at hv
    rcases hv with rfl | rfl
    · have := (S.own.lt.1 b hb').1; omega
    · have := (S.own.lt.2 b hb').1; omega
  exact (S.own.setF hf).setF hf
end
end Go.Proofs.Ythglidcfbdigiaa

/-
  Contracts: slices.Repeat of one text.
-/
namespace Go.Proofs.Ythglidcfbdigiaa
open Go.RowKit
set_option maxRecDepth 100000

set_option maxHeartbeats 1000000 in
theorem mul64_one (y : Nat) (hy : y ≤ 100000) (w : World) :
    Calls Try.prog 77 #[.int .u64 1, .int .u64 y] w fun e w' => e = .returned (.tuple #[.int .u64 0, .int .u64 y]) ∧ w' = w := by
  have h1 : bits .and .u64 1 4294967295 = 1 := by kernel_rfl
  have h2 : bits .and .u64 (y : Int) 4294967295 = (y : Int) := by
    have := u64_and_nat y 4294967295 (by omega) (by omega)
    have e : y &&& 4294967295 = y % 4294967296 := Nat.and_two_pow_sub_one_eq_mod y 32
    rw [e, Nat.mod_eq_of_lt (by omega)] at this
    exact this
  have h3 : bits .and .u64 0 4294967295 = 0 := by kernel_rfl
  have h4 : (y : Int) / 4294967296 = 0 := by omega
  go_enter Try.func77, Try.ntmps77
  go_wp2
  go_ret2
  exact ⟨rfl, rfl⟩
set_option maxHeartbeats 1000000 in
theorem mul_one' (y : Nat) (hy : y ≤ 100000) (w : World) :
    Calls Try.prog 71 #[.int .u64 1, .int .u64 y] w fun e w' => e = .returned (.tuple #[.int .u64 0, .int .u64 y]) ∧ w' = w := by
  go_enter Try.func71, Try.ntmps71
  go_wp2_with (go_at_call 77; refine (mul64_one y hy _).mono ?_; rintro e w' ⟨rfl, rfl⟩)
  go_ret2
  exact ⟨rfl, rfl⟩
theorem splice_rep {α : Type} (cur : List α) (v : α) (k m n : Nat) (hl : cur.length = n) (hc : cur.take k = List.replicate k v) (hm : k + m ≤ n) : (splice cur k (List.replicate m v)).length = n ∧ (splice cur k (List.replicate m v)).take (k + m) = List.replicate (k + m) v := by
  refine ⟨by rw [length_splice _ _ _ (by simp; omega), hl], ?_⟩
  unfold splice
  rw [hc, ← List.append_assoc, List.take_append_of_le_length (by simp), List.take_of_length_le (by simp)]
  simp [List.replicate_append_replicate]
theorem src_one {w : World} {g k : Nat} {v : Value} (h : w.cell? ⟨g, 0, none⟩ = some v) (hk : k ≤ 1) : ∀ j u, (List.replicate k v)[j]? = some u → w.cell? ((⟨g, 0, none⟩ : Addr).add j) = some u := by
  intro j u hj
  obtain ⟨hlt, hu⟩ := List.getElem?_eq_some_iff.1 hj
  rw [List.length_replicate] at hlt
  obtain rfl : j = 0 := by omega
  rw [List.getElem_replicate] at hu
  subst hu
  simpa [Addr.add] using h
theorem src_rep {w : World} {g k m : Nat} {cur : List Value} {t : TypeId} {v : Value} (hg : w.heap[g]? = some (.cells cur.toArray t (0, 0))) (hc : cur.take k = List.replicate k v) (hm : m ≤ k) : ∀ j u, (List.replicate m v)[j]? = some u → w.cell? ((⟨g, 0, none⟩ : Addr).add j) = some u := by
  intro j u hj
  obtain ⟨hlt, hu⟩ := List.getElem?_eq_some_iff.1 hj
  rw [List.length_replicate] at hlt
  rw [List.getElem_replicate] at hu
  subst hu
  have ha : (⟨g, 0, none⟩ : Addr).add j = ⟨g, j, none⟩ := by unfold Addr.add; split <;> simp_all
  rw [ha, cell_of_row _ _ _ _ _ _ hg, List.getElem?_toArray]
  have h1 : cur[j]? = (cur.take k)[j]? := (List.getElem?_take_of_lt (by omega)).symm
  rw [h1, hc, List.getElem?_replicate, if_pos (by omega)]
theorem made_cur {w1 : World} {base n size g : Nat} {t : TypeId} {xs : List Value} (h : w1.ownsRow base t size (.slice (some ⟨g, 0, none⟩) n n) n xs) : ∃ cur : List Value, w1.heap[g]? = some (.cells cur.toArray t (0, 0)) ∧ cur.length = n * size := by
  rcases h.2 with ⟨h, _⟩ | ⟨g, cap', cur, hv, _, hg, _, _, hs, _⟩
  · simp at h
  · simp at hv
    obtain ⟨rfl, rfl⟩ := hv
    exact ⟨cur.toList, by simpa using hg, by simpa using hs⟩
set_option maxHeartbeats 4000000 in
theorem repeat_any (g c : Nat) (x : ByteArray) (n : Nat) (hn : n ≤ 1000) (w : World) (hx : w.cell? ⟨g, 0, none⟩ = some (.string x)) (hg : g < w.heap.size) :
    Calls Try.prog 54 #[.slice (some ⟨g, 0, none⟩) 1 c, .int .i64 n] w fun e w' => ∃ v, e = .returned v ∧ OwnS w.heap.size v (List.replicate n x) w' ∧ Below w.heap.size w w' := by
  obtain ⟨i0, hi, hz0, hz1, hz2⟩ := info_parts Try.infoStr'
  have hsz : (Try.prog.info? 9).map (·.size) = some 1 := by kernel_rfl
  have HX := hide hx
  obtain ⟨k0, hk0⟩ : ∃ k, k = Nat.min 1 n := ⟨_, rfl⟩
  obtain ⟨hk1, hk2, hk3⟩ : k0 ≤ n ∧ (n = 0 ∨ 0 < k0) ∧ k0 ≤ 1 := by rw [hk0]; show min 1 n ≤ n ∧ (n = 0 ∨ 0 < min 1 n) ∧ min 1 n ≤ 1; omega
  have HK := hide hk0
  have hone : ∀ k, ∀ v ∈ List.replicate k (Value.string x), v.oneCell' = true := fun k v hv => by rw [List.eq_of_mem_replicate hv]; rfl
  have HONE := hide hone
  clear hx hk0 hone
  go_enter Try.func54, Try.ntmps54
  go_wp2_with (first | (go_at_call 71; refine (mul_one' n (by omega) _).mono ?_; rintro e w' ⟨rfl, hw⟩; rw [hw]; clear hw w') | (at_make; refine wpList_make_full _ rfl _ _ 23 rfl w.heap.size 9 i0 (.string ⟨#[]⟩) 1 Try.underlying23 hi hz0 hz1 .i64 .i64 _ _ n rfl rfl rfl rfl (by rw [hz2]; omega) (by unfold maxLen; omega) (Nat.le_refl _) ?_; intro w1 hown1 hgrow1; obtain ⟨cur0, hg0, hl0⟩ := made_cur hown1; have hb1 : Below w.heap.size w w1 := (Below.refl _ _).grown hgrow1 (Nat.le_refl _) (fun j hj => by simp at hj); clear hown1 hgrow1) | (refine wpList_copy_splice rfl _ _ 23 23 rfl 9 Try.underlying23 hsz _ _ _ _ _ _ rfl rfl w.heap.size 0 cur0 9 hg0 (List.replicate k0 (.string x)) (by rw [List.length_replicate]; exact HK.out) (fun hp => ⟨rfl, _, rfl, src_one ((hb1.cell (p := ⟨g, 0, none⟩) hg).trans HX.out) hk3⟩) (by rw [List.length_replicate]; omega) (HONE.out k0) w.heap.size w hb1 (Nat.le_refl _) ?_; intro w2 hg2 hb2; rw [List.length_replicate]; obtain ⟨hs1, hs2⟩ := splice_rep cur0 (.string x) 0 k0 n (by omega) (by simp) (by omega); generalize splice cur0 0 (List.replicate k0 (Value.string x)) = cur1 at *; rw [Nat.zero_add] at hs2; have HS2 := hide hs2; clear hs2 hg0 hl0 hb1))
  go_loopw [8] (fun i wr => ∃ (k : Nat) (cur : List Value), k ≤ n ∧ (n = 0 ∨ 0 < k) ∧ i = .int .i64 k ∧ cur.length = n ∧ Hid (wr.heap[w.heap.size]? = some (.cells cur.toArray 9 (0, 0))) ∧ Hid (cur.take k = List.replicate k (.string x)) ∧ Below w.heap.size w wr) (fun i _ => n - (intOf i).toNat)
  case atStart => exact ⟨k0, cur1, hk1, hk2, rfl, hs1, hg2, HS2, hb2⟩
  case round =>
    obtain ⟨k, cur, hk, hpos, rfl, hlen, HG, HC, hb⟩ := hrel
    clear hg2 HS2 hb2 hs1 hk1 hk2 hk3 HK
    by_cases hlt : k < n
    · obtain ⟨m, hm⟩ : ∃ m, m = Nat.min k (n - k) := ⟨_, rfl⟩
      obtain ⟨hm1, hm2, hm3⟩ : m ≤ k ∧ k + m ≤ n ∧ 0 < m := by rw [hm]; show min k (n - k) ≤ k ∧ k + min k (n - k) ≤ n ∧ 0 < min k (n - k); omega
      have HM := hide hm
      obtain ⟨hs1, hs2⟩ := splice_rep cur (.string x) k m n hlen HC.out hm2
      have HS2 := hide hs2
      have HS1 := hide hs1
      have hwr : IntKind.i64.wrap ((k : Int) + (m : Int)) = (k : Int) + (m : Int) := by rw [IntKind.wrap_i64]; omega
      have HL := hide hlen
      clear hm hs2 hs1 hlen
      go_wp2
      refine wp_region_noPanic ?_
      refine wp_region_held_drew (S := fun _ => True) (by kernel_rfl) trivial (fun hHeld => ?_)
      refine takeD 0 38 (v := ?vx0) rfl rfl (by kernel_rfl) (by kernel_rfl) (by kernel_rfl) (fun _ _ _ h => h) (by kernel_rfl) ?hyx0 trivial ?rx0
      case hyx0 => (intro W hSw; go_simp; try with_reducible rfl)
      simp only [Act.put, List.setIfInBounds_toArray, List.set_cons_zero, List.set_cons_succ]
      refine takeD 1 39 (v := ?vx1) rfl rfl (by kernel_rfl) (by kernel_rfl) (by kernel_rfl) (fun _ _ _ h => h) (by kernel_rfl) ?hyx1 trivial ?rx1
      case hyx1 => (intro W hSw; go_simp; try with_reducible rfl)
      simp only [Act.put, List.setIfInBounds_toArray, List.set_cons_zero, List.set_cons_succ]
      refine takeD 2 40 (v := ?vx2) rfl rfl (by kernel_rfl) (by kernel_rfl) (by kernel_rfl) (fun _ _ _ h => h) (by kernel_rfl) ?hyx2 trivial ?rx2
      case hyx2 => (intro W hSw; go_simp; try with_reducible rfl)
      simp only [Act.put, List.setIfInBounds_toArray, List.set_cons_zero, List.set_cons_succ]
      refine takeD 3 41 (v := .slice (some ⟨w.heap.size, k, none⟩) (n - k) (n - k)) rfl rfl (by kernel_rfl) (by kernel_rfl) (by kernel_rfl) (fun _ _ _ h => h) (by kernel_rfl) ?hyx3 trivial ?rx3
      case hyx3 => (intro W hSw; go_simp; omega)
      simp only [Act.put, List.setIfInBounds_toArray, List.set_cons_zero, List.set_cons_succ]
      refine takeD 4 42 (v := ?vx4) rfl rfl (by kernel_rfl) (by kernel_rfl) (by kernel_rfl) (fun _ _ _ h => h) (by kernel_rfl) ?hyx4 trivial ?rx4
      case hyx4 => (intro W hSw; go_simp; try with_reducible rfl)
      simp only [Act.put, List.setIfInBounds_toArray, List.set_cons_zero, List.set_cons_succ]
      refine takeD 5 43 (v := ?vx5) rfl rfl (by kernel_rfl) (by kernel_rfl) (by kernel_rfl) (fun _ _ _ h => h) (by kernel_rfl) ?hyx5 trivial ?rx5
      case hyx5 => (intro W hSw; go_simp; try with_reducible rfl)
      simp only [Act.put, List.setIfInBounds_toArray, List.set_cons_zero, List.set_cons_succ]
      refine takeD 6 44 (v := .slice (some ⟨w.heap.size, 0, none⟩) k n) rfl rfl (by kernel_rfl) (by kernel_rfl) (by kernel_rfl) (fun _ _ _ h => h) (by kernel_rfl) ?hyx6 trivial ?rx6
      case hyx6 => (intro W hSw; go_simp; try with_reducible rfl)
      simp only [Act.put, List.setIfInBounds_toArray, List.set_cons_zero, List.set_cons_succ]
      refine wpAnyH_ready (rs := [7]) (by kernel_rfl) (by simp) ?_
      refine AllReadyH.cons (o := _) rfl (fun K hK => ?_) AllReadyH.nil
      refine step_copy_splice rfl (.tmp 41) (.tmp 44) 23 23 rfl 9 Try.underlying23 hsz _ _ _ _ _ _ rfl rfl w.heap.size k cur 9 HG.out (List.replicate m (.string x)) (by rw [List.length_replicate]; exact HM.out) (fun hp => ⟨rfl, _, rfl, src_rep HG.out HC.out hm1⟩) (by rw [List.length_replicate, HL.out]; exact hm2) (HONE.out m) w.heap.size w hb.drew (Nat.le_refl _) ?_
      intro w4 hg4 hb4
      rw [List.length_replicate]
      refine hK.out _ _ trivial (fun _ => ?_)
      clear hK K hHeld
      simp only [List.getElem_toArray, List.getElem_cons_succ, List.getElem_cons_zero, Act.put, List.setIfInBounds_toArray, List.set_cons_zero, List.set_cons_succ]
      refine takeD 8 46 (v := .int .i64 ((k + m : Nat) : Int)) rfl rfl (by kernel_rfl) (by kernel_rfl) (by kernel_rfl) (fun _ _ _ h => h) (by kernel_rfl) ?hyx8 trivial ?rx8
      case hyx8 => (intro W hSw; go_simp)
      simp only [Act.put, List.setIfInBounds_toArray, List.set_cons_zero, List.set_cons_succ]
      refine takeD 9 8 (v := ?vx9) rfl rfl (by kernel_rfl) (by kernel_rfl) (by kernel_rfl) (fun _ _ _ h => h) (by kernel_rfl) ?hyx9 trivial ?rx9
      case hyx9 => (intro W hSw; go_simp; try with_reducible rfl)
      simp only [Act.put, List.setIfInBounds_toArray, List.set_cons_zero, List.set_cons_succ]
      refine wpAnyH_done (by kernel_rfl) ?_ _
      refine NoPanic.normal ?_
      generalize splice cur k (List.replicate m (Value.string x)) = cur' at *
      have hkm : k + m ≤ n ∧ (n = 0 ∨ 0 < k + m) := ⟨hm2, .inr (by omega)⟩
      clear hpos HM HL HC HG hk
      go_wp2
      go_roundw
      case rel => exact ⟨k + m, cur', hkm.1, hkm.2, rfl, HS1.out, hg4, HS2, hb4⟩
      case measure => simp [intOf]; omega
    · obtain rfl : k = n := by omega
      have HF : Hid (OwnS w.heap.size (.slice (some ⟨w.heap.size, 0, none⟩) k k) (List.replicate k x) wr) := by
        refine ⟨by simp [strsV], .inr ⟨w.heap.size, k, cur.toArray, by simp, Nat.le_refl _, HG.out, by simp, (by unfold maxLen; omega), (by simpa using hlen), ?_⟩⟩
        have := HC.out
        simp [strsV, this]
      go_wp2
      go_ret
      exact ⟨_, rfl, HF.out, hb⟩
end Go.Proofs.Ythglidcfbdigiaa

/-
  Contracts: DiskNew of both.
-/
namespace Go.Proofs.Ythglidcfbdigiaa
open Go.RowKit
set_option maxRecDepth 100000

def blank : ByteArray := mkS zSec
def dkNew (n : Int) : Dk := if 0 ≤ n ∧ n ≤ 700 then ⟨List.replicate n.toNat blank, []⟩ else ⟨[], []⟩
theorem dkNew_no {n : Int} (h : n ≤ 0 ∨ 700 < n) : dkNew n = ⟨[], []⟩ := by
  unfold dkNew
  split
  · rename_i h'
    obtain rfl : n = 0 := by omega
    rfl
  · rfl
theorem dkNew_yes (k : Nat) (h : k ≤ 700) : dkNew (k : Int) = ⟨List.replicate k blank, []⟩ := by
  unfold dkNew; rw [if_pos (by omega), Int.toNat_natCast]
theorem cell_str_new (w : World) (x : ByteArray) (t : TypeId) : ∀ j u, [Value.string x][j]? = some u → (w.alloc (.cells #[.string x] t)).cell? ((⟨w.heap.size, 0, none⟩ : Addr).add j) = some u := by
  intro j u hj
  have hadd : (⟨w.heap.size, 0, none⟩ : Addr).add j = ⟨w.heap.size, j, none⟩ := by unfold Addr.add; split <;> simp_all
  rw [hadd, cell_of_row _ _ _ _ _ _ (heap_alloc_new w _)]
  simpa using hj
theorem one_str (x : ByteArray) : ∀ u ∈ [Value.string x], u.oneCell' = true := fun u hu => by simp at hu; subst hu; rfl
theorem ownS_rep {base : Nat} {v : Value} {x : ByteArray} {k : Nat} {w : World} (h : w.ownsRow base 9 1 v (k + 1) (strsV (List.replicate k x) ++ [.string x])) : OwnS base v (List.replicate (k + 1) x) w := by
  have e : strsV (List.replicate k x) ++ [Value.string x] = strsV (List.replicate (k + 1) x) := by simp [strsV, List.replicate_succ']
  unfold OwnS
  rw [e] at h
  rwa [List.length_replicate]
theorem own_succ {w : World} {base n size : Nat} {t : TypeId} {v : Value} {xs : List Value} (h : w.ownsRow base t size v (n + 1) xs) : ∃ g cap, v = .slice (some ⟨g, 0, none⟩) (n + 1) cap := by
  rcases h.2 with ⟨_, h0⟩ | ⟨g, cap, cur, h1, _⟩
  · omega
  · exact ⟨g, cap, h1⟩
theorem ownD_nil (base : Nat) (w : World) : OwnD base (.slice none 0 0) (.slice none 0 0) ⟨[], []⟩ w := ⟨ownS_nil _ _, ownW_nil _ _, .inl rfl⟩
theorem ownD_secs {base : Nat} {v : Value} {l : List ByteArray} {w : World} (h : OwnS base v l w) : OwnD base v (.slice none 0 0) ⟨l, []⟩ w := by
  refine ⟨h, ownW_nil _ _, ?_⟩
  cases hv : v.ownBlock with
  | none => exact .inl rfl
  | some b => exact .inr (by simp [Value.ownBlock])
set_option maxHeartbeats 4000000 in
theorem specDiskNew_any (n : Int) (w : World) :
    Calls Try.prog 18 #[.int .i64 n] w fun e w' => ∃ s c, e = .returned (.agg #[s, c]) ∧ OwnD w.heap.size s c (dkNew n) w' ∧ Below w.heap.size w w' := by
  have HA := two_allocs w (.cells #[.slice none 0 0, .slice none 0 0] 26) (.cells #[.slice none 0 0, .slice none 0 0] 26)
  have B0 := hide (((Below.refl w.heap.size w).alloc (Nat.le_refl _) (.cells #[.slice none 0 0, .slice none 0 0] 26)).alloc (by simp) (.cells #[.slice none 0 0, .slice none 0 0] 26))
  by_cases h7 : 700 < n
  · rw [dkNew_no (.inr h7)]
    obtain ⟨y0, y1, yf⟩ := cells2 HA.1
    clear HA
    go_enter Try.func18, Try.ntmps18
    go_wp2
    refine bodyPost_ret (v := .agg #[.slice none 0 0, .slice none 0 0]) (by simp [results, Try.results18, go_sem]) rfl ⟨_, _, rfl, ownD_nil _ _, ?_⟩
    exact B0.out
  · have HA1 := hide HA.1
    have HA2 := hide HA.2.1
    have HZ := hide HA.2.2
    clear HA
    obtain ⟨i0, hi, hz0, hz1, hz2⟩ := info_parts Try.infoU8
    have hsz : (((w.alloc (.cells #[.slice none 0 0, .slice none 0 0] 26)).alloc (.cells #[.slice none 0 0, .slice none 0 0] 26)).heap.size) = w.heap.size + 1 + 1 := by simp
    have HSZ := hide hsz
    clear hsz
    have hcz : (madeCells (Value.int .u8 0).cells (64 * 1)).toList = (numsU zSec).map (Value.int .u8) := by kernel_rfl
    go_enter Try.func18, Try.ntmps18
    go_wp2_with (at_make; refine wpList_make_full _ rfl _ _ 22 rfl w.heap.size 5 i0 (.int .u8 0) 1 Try.underlying22 hi hz0 hz1 .i64 .i64 _ _ 64 rfl rfl rfl rfl (by rw [hz2]; omega) (by unfold maxLen; omega) (by simp; omega) ?_; intro w1 hown1 hgrow1; rw [hcz, HSZ.out] at hown1; have hcv := (show OwnB w.heap.size _ zSec w1 from hown1).conv; rw [show mkS zSec = blank from rfl] at hcv; have B1 := hide (B0.out.grown hgrow1 (by simp; omega) (fun j hj => by simp at hj)); have X1 := hide ((hgrow1.block w.heap.size (by simp; omega) (by simp)).trans HA1.out); have Y1 := hide ((hgrow1.block (w.heap.size + 1) (by simp) (by simp)).trans HA2.out); have Z1 : w.heap.size + 1 + 1 ≤ w1.heap.size := (by have := hgrow1.size; rw [HSZ.out] at this; exact this); clear hown1 hgrow1)
    obtain ⟨j0, hj, hy0, hy1, hy2⟩ := info_parts Try.infoStr'
    clear hcv hcz hi hz0 hz1 hz2 B0 HA1 HA2 HZ HSZ
    go_loopw [5] (fun i wr => ∃ (k : Nat) (v : Value), (n ≤ 0 ∧ k = 0 ∨ 0 < n ∧ (k : Int) ≤ n) ∧ i = .int .i64 k ∧ Hid (wr.heap[w.heap.size]? = some (.cells #[.slice none 0 0, .slice none 0 0] 26 (0, 0))) ∧ Hid (wr.heap[w.heap.size + 1]? = some (.cells #[v, .slice none 0 0] 26 (0, 0))) ∧ Hid (OwnS (w.heap.size + 2) v (List.replicate k blank) wr) ∧ Below w.heap.size w wr) (fun i _ => n.toNat - (intOf i).toNat)
    case atStart => exact ⟨0, .slice none 0 0, by omega, rfl, X1, Y1, ownS_nil _ _, B1.out⟩
    case round =>
      obtain ⟨k, v, hk, rfl, HX, HY, HO, hb⟩ := hrel
      clear X1 Y1 B1
      have hlt1 : w.heap.size + 1 < wr.heap.size := (Array.getElem?_eq_some_iff.1 HY.out).1
      obtain ⟨ao, cap, hv⟩ := ownS_shape HO.out
      rw [List.length_replicate] at hv
      subst hv
      by_cases hlt : (k : Int) < n
      · have HB := hide (hb.alloc (by omega) (.cells #[.string blank] 9))
        have hown := owns_below HO.out ((Below.refl wr.heap.size wr).alloc (Nat.le_refl _) (.cells #[.string blank] 9))
        rw [List.length_replicate] at hown
        obtain ⟨y0, y1, yf⟩ := cells2 HY.out
        go_wp2_with (at_builtin; refine wpList_append_own _ rfl _ _ 23 rfl (w.heap.size + 2) 9 j0 (.string ⟨#[]⟩) 1 16 Try.underlying23 hj hy0 hy1 hy2 rfl (by decide) _ _ _ rfl hown ⟨wr.heap.size, 0, none⟩ 1 1 [.string blank] rfl rfl (cell_str_new _ _ _) (one_str _) (by unfold maxLen; omega) (by omega) (by simp; omega) ?_; intro v5 w5 hown5 hgrow5 hnn5; obtain ⟨g5, c5, rfl⟩ := own_succ hown5; have O5 := hide (ownS_rep hown5); have Y5 := hide ((hgrow5.block (w.heap.size + 1) (by simp; omega) (fun e => by have := (World.ownsRow.lt hown _ e.symm).1; omega)).trans ((heap_old _ _ _ (by omega)).trans HY.out)); have X5 := hide ((hgrow5.block w.heap.size (by simp; omega) (fun e => by have := (World.ownsRow.lt hown _ e.symm).1; omega)).trans ((heap_old _ _ _ (by omega)).trans HX.out)); have B5 := hide (HB.out.grown hgrow5 (by simp; omega) (fun b e => by have := (World.ownsRow.lt hown _ e).1; omega)); obtain ⟨z0, z1, zf⟩ := cells2 Y5.out; clear hown5 hgrow5 hnn5)
        go_roundw
        case rel => exact ⟨k + 1, _, by omega, by go_num, (by show _ = _; rw [heap_far _ _ _ _ _ (by omega)]; exact X5.out), (by show _ = _; have := heap_setCell_same _ _ 0 _ _ (.slice (some ⟨g5, 0, none⟩) (k + 1) c5) Y5.out; simpa using this), own_set O5.out (by omega), B5.out.setCell (by simp) _⟩
        case measure => simp [intOf]; omega
      · obtain ⟨x0, x1, xf⟩ := cells2 HX.out
        obtain ⟨y0, y1, yf⟩ := cells2 HY.out
        have HD : Hid (dkNew n = ⟨List.replicate k blank, []⟩) := by
          show _ = _
          by_cases hn : n ≤ 0
          · rw [dkNew_no (.inl hn)]
            obtain rfl : k = 0 := by omega
            rfl
          · obtain rfl : n = (k : Int) := by omega
            exact dkNew_yes k (by omega)
        go_wp2
        refine bodyPost_ret (v := .agg #[.slice ao k cap, .slice none 0 0]) (by simp [results, Try.results18, go_sem, x0, x1]) rfl ⟨_, _, rfl, ?_, ?_⟩
        · rw [HD.out]
          exact ((ownD_secs HO.out).set (by omega) |>.set (by omega)).base (by omega)
        · exact (hb.setCell (by simp) _).setCell (by simp) _
set_option maxHeartbeats 4000000 in
theorem implDiskNew_any (n : Int) (w : World) :
    Calls Try.prog 19 #[.int .i64 n] w fun e w' => ∃ s c, e = .returned (.agg #[s, c]) ∧ OwnD w.heap.size s c (dkNew n) w' ∧ Below w.heap.size w w' := by
  have B0 := hide ((Below.refl w.heap.size w).alloc (Nat.le_refl _) (.cells #[.slice none 0 0, .slice none 0 0] 26))
  have X0 := hide (heap_alloc_new w (.cells #[.slice none 0 0, .slice none 0 0] 26))
  by_cases hbad : n < 0 ∨ 700 < n
  · rw [dkNew_no (by omega)]
    obtain ⟨y0, y1, yf⟩ := cells2 X0.out
    by_cases h0 : n < 0
    · go_enter Try.func19, Try.ntmps19
      go_wp2
      refine bodyPost_ret (v := .agg #[.slice none 0 0, .slice none 0 0]) (by simp [results, Try.results19, go_sem]) rfl ⟨_, _, rfl, ownD_nil _ _, ?_⟩
      exact B0.out
    · have h7 : 700 < n := by omega
      go_enter Try.func19, Try.ntmps19
      go_wp2
      refine bodyPost_ret (v := .agg #[.slice none 0 0, .slice none 0 0]) (by simp [results, Try.results19, go_sem]) rfl ⟨_, _, rfl, ownD_nil _ _, ?_⟩
      exact B0.out
  · obtain ⟨k, rfl⟩ : ∃ k : Nat, n = (k : Int) := ⟨n.toNat, by omega⟩
    have hk : k ≤ 700 := by omega
    rw [dkNew_yes k hk]
    have h0 : ¬ (k : Int) < 0 := by omega
    have h7 : ¬ 700 < (k : Int) := by omega
    have HST := hide (fun W => sectorText_any zSec zSec_len W)
    have HRP := hide (fun g c W => repeat_any g c blank k (by omega) W)
    clear hbad
    go_enter Try.func19, Try.ntmps19
    go_wp2_with (first | (go_at_call 50; refine (HST.out _).mono ?_; rintro e w1 ⟨rfl, b1⟩; rw [show mkS zSec = blank from rfl]; have X1 := hide ((b1.block w.heap.size (by simp)).trans X0.out); have B1 := hide (B0.out.trans (b1.mono B0.out.size)); have z1 : w.heap.size < w1.heap.size := (Array.getElem?_eq_some_iff.1 X1.out).1; clear b1) | (go_at_call 54; refine (HRP.out w1.heap.size 1 _ (by rw [cell_of_row _ _ _ _ _ _ (heap_alloc_new w1 _)]; rfl) (by simp)).mono ?_; rintro e w2 ⟨v, rfl, o2, b2⟩; have X2 := hide ((b2.block w.heap.size (by simp; omega)).trans ((heap_old _ _ _ (by omega)).trans X1.out)); have B2 := hide ((B1.out.alloc (by omega) (.cells #[.string blank] 9)).trans (b2.mono (by simp; omega))); have O2 := hide (ownD_secs (owns_base o2 (show w.heap.size + 1 ≤ _ by simp; omega))); obtain ⟨ao, cap, rfl⟩ := ownS_shape o2; rw [List.length_replicate]; obtain ⟨y0, y1, yf⟩ := cells2 X2.out; clear o2 b2))
    refine bodyPost_ret (v := .agg #[.slice ao k cap, .slice none 0 0]) (by simp [results, Try.results19, go_sem, y0, y1]) rfl ⟨_, _, rfl, ?_, ?_⟩
    · have := O2.out
      rw [List.length_replicate] at this
      exact ((this.set (by omega)).set (by omega)).base (by omega)
    · exact (B2.out.setCell (by simp) _).setCell (by simp) _
end Go.Proofs.Ythglidcfbdigiaa

/-
  A disk that is being drawn: what its steps need. Plain laws.
-/
namespace Go.Proofs.Ythglidcfbdigiaa
open Go.RowKit
set_option maxRecDepth 100000

theorem right_inn {d : Dk} (h : dkRight d = true) : dkIn d := by
  refine ⟨fun s hs => ?_, fun x hx => ?_⟩
  · obtain ⟨i, hi, rfl⟩ := List.getElem_of_mem hs
    unfold dkRight at h
    simp only [Bool.and_eq_true] at h
    have h2 := (upto_iff _ _).1 h.1.2 i hi
    unfold secOk at h2
    simp only [decide_eq_true_eq] at h2
    rw [List.getD_eq_getElem?_getD, List.getElem?_eq_getElem hi] at h2
    simp at h2
    rw [h2]; unfold maxLen; omega
  · have h1 := dkRight_cache h x hx
    have hb := dkRight_bounds h
    unfold wI64
    refine ⟨⟨by omega, by omega⟩, ?_⟩
    rw [h1.2.2]; unfold maxLen; omega
theorem right_nil : dkRight ⟨[], []⟩ = true := rfl
theorem new_right (v : Int) : dkRight (dkNew v) = true := by
  by_cases h : v ≤ 0 ∨ 700 < v
  · rw [dkNew_no h]; rfl
  · obtain ⟨k, rfl⟩ := Int.eq_ofNat_of_zero_le (show 0 ≤ v by omega)
    rw [dkNew_yes k (by omega)]
    refine dkRight_yes (by show (List.replicate k blank).length ≤ 700; rw [List.length_replicate]; omega) (by simp) ?_ (by rfl)
    rw [upto_iff]
    intro i hi
    have hi' : i < k := by simpa using hi
    unfold secOk
    have e : (List.replicate k blank).getD i ByteArray.empty = blank := by simp [List.getD_eq_getElem?_getD, hi']
    show decide (((List.replicate k blank).getD i ByteArray.empty).size = 64) = true
    rw [e]
    unfold blank
    rw [mkS_size, zSec_len]; rfl
theorem write_right (d : Dk) (a : Int) (t : ByteArray) : (dkWrite d a t).2 = 0 → dkRight (dkWrite d a t).1 = true := fun h => by
  obtain ⟨h1, h2, h3, h4, h5⟩ := wrote h
  obtain ⟨k, rfl⟩ := Int.eq_ofNat_of_zero_le h2
  rw [h5]
  exact wrote_right h1 (by omega) h4
theorem flush_right {d : Dk} (h : dkRight d = true) : dkRight (dkFlush d) = true := by rw [dkFlush_y h]; exact flushed_r h
theorem OwnD.shp {base : Nat} {s c : Value} {d : Dk} {w : World} (h : OwnD base s c d w) : ∃ so n1 p co n2 q, s = .slice so n1 p ∧ c = .slice co n2 q ∧ (n1 = d.secs.length ∧ n2 = d.cache.length) := by
  obtain ⟨so, p, co, q, e1, e2⟩ := h.shape
  exact ⟨so, _, p, co, _, q, e1, e2, rfl, rfl⟩
theorem own_above {base z : Nat} {s c : Value} {d : Dk} {w : World} (h : OwnD base s c d w) (hz : z < base) : ∀ v ∈ [s, c], ∀ b, v.ownBlock = some b → b ≠ z := fun v hv b hb => by
  simp at hv
  rcases hv with rfl | rfl
  · have := (h.lt.1 b hb).1; omega
  · have := (h.lt.2 b hb).1; omega
theorem own_under {base : Nat} {s c : Value} {d : Dk} {w : World} (h : OwnD base s c d w) : ∀ v ∈ [s, c], ∀ b, v.ownBlock = some b → b ≠ w.heap.size := fun v hv b hb => by
  simp at hv
  rcases hv with rfl | rfl
  · have := (h.lt.1 b hb).2; omega
  · have := (h.lt.2 b hb).2; omega
theorem outAt_gen {lo z : Nat} {s c : Value} {t : ByteArray} {K : Int} {D : Dk} {W : World} {a0 a1 a2 a3 : Value} (hz : W.heap[z]? = some (.cells #[a0, a1, a2, a3] 30 (0, 0))) (ho : OwnD lo s c D W) (hf : ∀ v ∈ [s, c], ∀ b, v.ownBlock = some b → b ≠ z) (hlo : lo ≤ z) : OutAt lo z s c t K D (setO W z s c t K) :=
  ⟨set4w hz, (((ho.setF hf).setF hf).setF hf).setF hf, hf, hlo⟩
/-- A write to another block. -/
theorem DS.early {w W : World} {B g h z : Nat} {s c a b : Value} {t : ByteArray} {K : Int} {d : Dk} (S : DS B g h w s c d W) (hz : h + 1 ≤ z) (hf : ∀ v ∈ [s, c], ∀ b, v.ownBlock = some b → b ≠ z) : DS B g h w s c d (setO W z a b t K) := by
  have h1 := S.low
  have h2 := S.gap
  have h3 := S.lowB
  have hb : Below z W (setO W z a b t K) := setO_below (Below.refl z W) (Nat.le_refl _)
  have hsz : (setO W z a b t K).heap.size = W.heap.size := by unfold setO; simp
  refine ⟨S.src.kept (hb.mono (by omega)) (hb.block g (by omega)), ⟨S.gr.os, S.gr.tape, S.gr.output, by rw [hsz]; exact S.gr.size, fun k hk hn => (hb.block k (by omega)).trans (S.gr.block k hk hn)⟩, (hb.block _ (by omega)).trans S.res, (hb.block _ (by omega)).trans S.var, (((S.own.setF hf).setF hf).setF hf).setF hf, S.far, h2, h1, h3⟩
end Go.Proofs.Ythglidcfbdigiaa

/-
  A disk that is being drawn: lists that are appended to. Plain laws.
-/
namespace Go.Proofs.Ythglidcfbdigiaa
open Go.RowKit
set_option maxRecDepth 100000

section
variable {w W W' : World} {B g h : Nat} {s c v : Value} {d d' : Dk} {row : Option Nat}
theorem DS.gput (S : DS B g h w s c d W) (k : W.grownBy W' row) (hr : ∀ j, row = some j → w.heap.size + 1 ≤ j ∧ j ≠ h) : Src W' B g ∧ w.grownBy W' (some g) ∧ W'.heap[w.heap.size]? = some (.cells #[.slice none 0 0, .slice none 0 0] 26 (0, 0)) ∧ W'.heap[h]? = some (.cells #[s, c] 26 (0, 0)) := by
  have hz := S.gr.size
  have hg := S.low
  have hp := S.gap
  have hB := S.lowB
  have hv := blkS S.var
  have hn := blkS S.res
  refine ⟨S.src.kept ((Below.refl B W).grown k (by omega) (fun j hj => by have := (hr j hj).1; omega)) (k.block g (by omega) (fun e => by have := (hr g e.symm).1; omega)), ⟨k.os.trans S.gr.os, k.tape.trans S.gr.tape, k.output.trans S.gr.output, Nat.le_trans hz k.size, fun j hj hn' => ?_⟩, (k.block _ hn (fun e => by have := (hr _ e.symm).1; omega)).trans S.res, (k.block _ hv (fun e => (hr _ e.symm).2 rfl)).trans S.var⟩
  exact (k.block j (by omega) (fun e => by have := (hr j e.symm).1; omega)).trans (S.gr.block j hj hn')
theorem DS.gput0 (S : DS B g h w s c d W) (k : W.grownBy W' row) (hr : ∀ j, row = some j → w.heap.size + 1 ≤ j ∧ j ≠ h) (ho : OwnD (w.heap.size + 1) v c d' W') (hf : ∀ b, v.ownBlock = some b → b ≠ h) : DS B g h w v c d' (W'.setCell ⟨h, 0, none⟩ v) := by
  obtain ⟨h1, h2, h3, h4⟩ := S.gput k hr
  have hg := S.low
  have hp := S.gap
  have hB := S.lowB
  have hb : Below h W' (W'.setCell ⟨h, 0, none⟩ v) := (Below.refl h W').setCell (p := ⟨h, 0, none⟩) (Nat.le_refl _) _
  have e := heap_setCell_same W' h 0 _ _ v h4
  have hf' : ∀ u ∈ [v, c], ∀ b, u.ownBlock = some b → b ≠ h := fun u hu b hb' => by
    simp at hu
    rcases hu with rfl | rfl
    · exact hf b hb'
    · exact S.far _ (by simp) b hb'
  exact ⟨h1.kept (hb.mono (by omega)) (hb.block g (by omega)), ⟨h2.os, h2.tape, h2.output, by simpa using h2.size, fun j hj hn' => (hb.block j (by omega)).trans (h2.block j hj hn')⟩, (hb.block _ (by omega)).trans h3, by simpa using e, ho.setF hf', hf', hp, hg, hB⟩
theorem DS.gput1 (S : DS B g h w s c d W) (k : W.grownBy W' row) (hr : ∀ j, row = some j → w.heap.size + 1 ≤ j ∧ j ≠ h) (ho : OwnD (w.heap.size + 1) s v d' W') (hf : ∀ b, v.ownBlock = some b → b ≠ h) : DS B g h w s v d' (W'.setCell ⟨h, 1, none⟩ v) := by
  obtain ⟨h1, h2, h3, h4⟩ := S.gput k hr
  have hg := S.low
  have hp := S.gap
  have hB := S.lowB
  have hb : Below h W' (W'.setCell ⟨h, 1, none⟩ v) := (Below.refl h W').setCell (p := ⟨h, 1, none⟩) (Nat.le_refl _) _
  have e := heap_setCell_same W' h 1 _ _ v h4
  have hf' : ∀ u ∈ [s, v], ∀ b, u.ownBlock = some b → b ≠ h := fun u hu b hb' => by
    simp at hu
    rcases hu with rfl | rfl
    · exact S.far _ (by simp) b hb'
    · exact hf b hb'
  exact ⟨h1.kept (hb.mono (by omega)) (hb.block g (by omega)), ⟨h2.os, h2.tape, h2.output, by simpa using h2.size, fun j hj hn' => (hb.block j (by omega)).trans (h2.block j hj hn')⟩, (hb.block _ (by omega)).trans h3, by simpa using e, ho.setF hf', hf', hp, hg, hB⟩
/-- Rows to write to: their block is none of the variable's, the source's, the result's. -/
theorem DS.rowS (S : DS B g h w s c d W) : ∀ j, s.ownBlock = some j → w.heap.size + 1 ≤ j ∧ j ≠ h := fun j hj => ⟨(S.own.lt.1 j hj).1, S.far s (by simp) j hj⟩
theorem DS.rowC (S : DS B g h w s c d W) : ∀ j, c.ownBlock = some j → w.heap.size + 1 ≤ j ∧ j ≠ h := fun j hj => ⟨(S.own.lt.2 j hj).1, S.far c (by simp) j hj⟩
/-- The sectors with more behind them. -/
theorem DS.appS {l : List ByteArray} (S : DS B g h w s c d W) (ho : OwnS (w.heap.size + 1) v (d.secs ++ l) W') (k : W.grownBy W' s.ownBlock) (hl : v.ownBlock = s.ownBlock ∨ v.ownBlock = some W.heap.size) : DS B g h w v c ⟨d.secs ++ l, d.cache⟩ (W'.setCell ⟨h, 0, none⟩ v) := by
  have hv := blkS S.var
  refine S.gput0 k S.rowS ⟨ho, ?_, ?_⟩ ?_
  · exact World.ownsRow.kept S.own.cache k (by
      by_cases hn : c.ownBlock = none
      · exact .inl hn
      · refine .inr (fun e' => ?_)
        rcases S.own.apart with e | e
        · exact hn (e'.trans e)
        · exact e e'.symm)
  · rcases hl with e | e
    · rw [e]; exact S.own.apart
    · rw [e]; exact .inr (fun e' => by have := (S.own.lt.2 _ e'.symm).2; omega)
  · intro b hb
    rcases hl with e | e
    · rw [e] at hb; exact S.far s (by simp) b hb
    · rw [e] at hb; have := Option.some.inj hb; omega
/-- The cache with more behind it. -/
theorem DS.appC {l : List Wr} (S : DS B g h w s c d W) (ho : OwnW (w.heap.size + 1) v (d.cache ++ l) W') (k : W.grownBy W' c.ownBlock) (hl : v.ownBlock = c.ownBlock ∨ v.ownBlock = some W.heap.size) : DS B g h w s v ⟨d.secs, d.cache ++ l⟩ (W'.setCell ⟨h, 1, none⟩ v) := by
  have hv := blkS S.var
  refine S.gput1 k S.rowC ⟨World.ownsRow.kept S.own.secs k S.own.apart, ho, ?_⟩ ?_
  · rcases hl with e | e
    · rw [e]; exact S.own.apart
    · rw [e]
      by_cases hn : s.ownBlock = none
      · exact .inl hn
      · exact .inr (fun e' => by have := (S.own.lt.1 _ e').2; omega)
  · intro b hb
    rcases hl with e | e
    · rw [e] at hb; exact S.far c (by simp) b hb
    · rw [e] at hb; have := Option.some.inj hb; omega
end
end Go.Proofs.Ythglidcfbdigiaa

/-
  A disk's variable whose cache is appended to. Plain laws.
-/
namespace Go.Proofs.Ythglidcfbdigiaa
open Go.RowKit
set_option maxRecDepth 100000

theorem own_shape' {base n size : Nat} {t : TypeId} {v : Value} {xs : List Value} {w : World} (h : w.ownsRow base t size v n xs) : ∃ ao cap, v = .slice ao n cap := by
  rcases h.2 with ⟨h1, h2⟩ | ⟨g, cap, cur, h1, _⟩
  · exact ⟨none, 0, by rw [h1, h2]⟩
  · exact ⟨_, _, h1⟩
/-- The variable lies in block g, the result's in block w.heap.size + 1; the variable's lists are its own, in blocks below g at first. -/
structure GI (w : World) (g : Nat) (s c c0 : Value) (n2 : Nat) (d : Dk) (W : World) : Prop where
  below : Below w.heap.size w W
  var : W.heap[g]? = some (.cells #[s, c0] 26 (0, 0))
  res : W.heap[w.heap.size + 1]? = some (.cells #[.slice none 0 0, .slice none 0 0, .string ⟨#[]⟩, .int .i64 0] 30 (0, 0))
  own : OwnD (w.heap.size + 2) s c d W
  num : n2 = d.cache.length
  far : (∀ b, s.ownBlock = some b → b ≠ g) ∧ (∀ b, c.ownBlock = some b → b ≠ g)
  gap : w.heap.size + 2 ≤ g
section
variable {w w2 w3 W W' : World} {g n2 m : Nat} {s c c0 v : Value} {d : Dk} {k : List Wr}
theorem GI.lt (h : GI w g s c c0 n2 d W) : w.heap.size + 2 ≤ W.heap.size := by have := (Array.getElem?_eq_some_iff.1 h.var).1; have := h.gap; omega
theorem GI.start (hb : Below w.heap.size w w2) (hl : w.heap.size + 1 < w2.heap.size) (hy : w2.heap[w.heap.size + 1]? = some (.cells #[.slice none 0 0, .slice none 0 0, .string ⟨#[]⟩, .int .i64 0] 30 (0, 0)))
    (ho : OwnD w2.heap.size s c d w3) (h3 : Below w2.heap.size w2 w3) (hn : n2 = d.cache.length) : GI w w3.heap.size s c c n2 d (w3.alloc (.cells #[s, c] 26)) := by
  have hz := h3.size
  have hk := (Below.refl w3.heap.size w3).alloc (Nat.le_refl _) (.cells #[s, c] 26)
  exact ⟨(hb.trans (h3.mono hb.size)).trans (hk.mono (by omega)), heap_alloc_new _ _, (heap_old _ _ _ (by omega)).trans ((h3.block _ hl).trans hy), (ho.below hk).base (by omega), hn, ⟨fun b hb => by have := (ho.lt.1 b hb).2; omega, fun b hb => by have := (ho.lt.2 b hb).2; omega⟩, by omega⟩
theorem GI.keep (h : GI w g s c c0 n2 d W) (hb : Below W.heap.size W W') : GI w g s c c0 n2 d W' :=
  ⟨h.below.trans (hb.mono h.below.size), (hb.block _ (Array.getElem?_eq_some_iff.1 h.var).1).trans h.var, (hb.block _ (Array.getElem?_eq_some_iff.1 h.res).1).trans h.res, h.own.below hb, h.num, h.far, h.gap⟩
theorem GI.drew (h : GI w g s c c0 n2 d W) : GI w g s c c0 n2 d W.drew := h.keep (Below.refl _ _).drew
theorem GI.cacheN (h : GI w g s c c0 n2 d W) : W.ownsRow (w.heap.size + 2) 78 2 c n2 (flatW d.cache) := by
  have := h.own.cache
  unfold OwnW at this
  rwa [← h.num] at this
theorem GI.app (h : GI w g s c c0 n2 d W) (ho : W'.ownsRow (w.heap.size + 2) 78 2 v (n2 + m) (flatW d.cache ++ flatW k)) (hg : W.grownBy W' c.ownBlock) (hl : v.ownBlock = c.ownBlock ∨ v.ownBlock = some W.heap.size) (hn : n2 = d.cache.length) (hk : k.length = m) :
    GI w g s v c0 (n2 + m) ⟨d.secs, d.cache ++ k⟩ W' := by
  have hgv := (Array.getElem?_eq_some_iff.1 h.var).1
  have hgr := (Array.getElem?_eq_some_iff.1 h.res).1
  refine ⟨h.below.grown hg h.below.size (fun b hb => by have := (h.own.lt.2 b hb).1; omega), (hg.block g hgv (fun e => h.far.2 g e.symm rfl)).trans h.var, (hg.block _ hgr (fun e => by have := (h.own.lt.2 _ e.symm).1; omega)).trans h.res, ⟨World.ownsRow.kept h.own.secs hg h.own.apart, ?_, ?_⟩, by simp [hn, hk], ⟨h.far.1, fun b hb => ?_⟩, h.gap⟩
  · unfold OwnW
    rw [flatW_append, List.length_append, ← hn, hk]
    exact ho
  · rcases hl with e | e
    · rw [e]; exact h.own.apart
    · rw [e]; exact .inr (fun e' => ne_new (fun b hb => (h.own.lt.1 b hb).2) e')
  · rcases hl with e | e
    · rw [e] at hb; exact h.far.2 b hb
    · rw [e] at hb
      have := Option.some.inj hb
      omega
theorem own_ne {W : World} {base g m n size : Nat} {v x : Value} {xs : List Value} {t : TypeId} (h : W.ownsRow base t size v n xs) (hg : ∀ b, v.ownBlock = some b → b ≠ g) : (W.setCell ⟨g, m, none⟩ x).ownsRow base t size v n xs := by
  refine ⟨h.1, ?_⟩
  rcases h.2 with h0 | ⟨q, cap, cur, rfl, hB, hq, hn, hm, hs, ht⟩
  · exact .inl h0
  · exact .inr ⟨q, cap, cur, rfl, hB, by rw [heap_setCell_other _ _ _ _ (show q ≠ g from hg q rfl)]; exact hq, hn, hm, hs, ht⟩
theorem GI.set (h : GI w g s c c0 n2 d W) : (W.setCell ⟨g, 1, none⟩ c).heap[g]? = some (.cells #[s, c] 26 (0, 0)) ∧ (W.setCell ⟨g, 1, none⟩ c).heap[w.heap.size + 1]? = some (.cells #[.slice none 0 0, .slice none 0 0, .string ⟨#[]⟩, .int .i64 0] 30 (0, 0)) ∧ OwnD (w.heap.size + 2) s c d (W.setCell ⟨g, 1, none⟩ c) ∧ Below w.heap.size w (W.setCell ⟨g, 1, none⟩ c) := by
  have hgap := h.gap
  refine ⟨?_, (heap_far _ _ _ _ _ (by omega)).trans h.res, ⟨own_ne h.own.secs h.far.1, own_ne h.own.cache h.far.2, h.own.apart⟩, h.below.setCell (by simp; omega) _⟩
  have := heap_setCell_same W g 1 _ _ c h.var
  simpa using this
theorem GI.put (h : GI w g s c c0 n2 d W) : GI w g s c c n2 d (W.setCell ⟨g, 1, none⟩ c) :=
  ⟨h.set.2.2.2, h.set.1, h.set.2.1, h.set.2.2.1, h.num, h.far, h.gap⟩
end
end Go.Proofs.Ythglidcfbdigiaa

/-
  A disk that is being drawn: its lists' lengths, and the bounds of what is appended. Plain laws.
-/
namespace Go.Proofs.Ythglidcfbdigiaa
open Go.RowKit
set_option maxRecDepth 100000

theorem own_str_one (w : World) (x : ByteArray) : (w.alloc (.cells #[.string x] 9)).ownsRow w.heap.size 9 1 (.slice (some ⟨w.heap.size, 0, none⟩) 1 1) 1 [.string x] :=
  ⟨rfl, .inr ⟨w.heap.size, 1, _, rfl, Nat.le_refl _, heap_alloc_new _ _, Nat.le_refl _, by decide, rfl, rfl⟩⟩
theorem str_one (x : ByteArray) : ∀ u ∈ [Value.string x], u.oneCell' = true := fun u hu => by simp at hu; subst hu; rfl
theorem ownS_snoc {base : Nat} {v : Value} {l : List ByteArray} {w : World} {n : Nat} {x : ByteArray} (h : w.ownsRow base 9 1 v (n + 1) (strsV l ++ [.string x])) (hn : n = l.length) : OwnS base v (l ++ [x]) w := by
  subst hn
  unfold OwnS strsV
  rw [List.length_append, List.map_append]
  exact h
theorem own_len {base n m size : Nat} {t : TypeId} {ao : Option Addr} {p : Nat} {xs : List Value} {w : World} (h : w.ownsRow base t size (.slice ao n p) m xs) : n = m := by
  obtain ⟨_, _, e⟩ := own_shape' h
  injection e
section
variable {w W : World} {B g h : Nat} {so co : Option Addr} {n1 p n2 q : Nat} {s c : Value} {d : Dk}
theorem DS.len1 (S : DS B g h w (.slice so n1 p) c d W) : n1 = d.secs.length := own_len S.own.secs
theorem DS.len2 (S : DS B g h w s (.slice co n2 q) d W) : n2 = d.cache.length := own_len S.own.cache
theorem DS.secsN (S : DS B g h w (.slice so n1 p) c d W) : W.ownsRow (w.heap.size + 1) 9 1 (.slice so n1 p) n1 (strsV d.secs) := by
  have h1 := S.own.secs
  unfold OwnS at h1
  rwa [← S.len1] at h1
theorem DS.cacheN (S : DS B g h w s (.slice co n2 q) d W) : W.ownsRow (w.heap.size + 1) 78 2 (.slice co n2 q) n2 (flatW d.cache) := by
  have h1 := S.own.cache
  unfold OwnW at h1
  rwa [← S.len2] at h1
theorem in_secs {x : ByteArray} (hd : dkIn d) (hx : x.size ≤ maxLen) : dkIn ⟨d.secs ++ [x], d.cache⟩ := by
  refine ⟨fun y hy => ?_, hd.2⟩
  rcases List.mem_append.1 hy with hy | hy
  · exact hd.1 y hy
  · simp at hy; subst hy; exact hx
theorem in_cache {x : Wr} (hd : dkIn d) (hx : wI64 x.pos ∧ x.text.size ≤ maxLen) : dkIn ⟨d.secs, d.cache ++ [x]⟩ := by
  refine ⟨hd.1, fun y hy => ?_⟩
  rcases List.mem_append.1 hy with hy | hy
  · exact hd.2 y hy
  · simp at hy; subst hy; exact hx
theorem fits_of {d : Dk} (h1 : d.secs.length ≤ 1000) (h2 : d.cache.length ≤ 1000) : dkFits d := ⟨by omega, by omega⟩
/-- The first sector's text. -/
theorem DS.first (S : DS B g h w (.slice so n1 p) c d W) (hn : 0 < n1) (hi : dkIn d) : ∃ sg, so = some ⟨sg, 0, none⟩ ∧ W.cell? ⟨sg, 0, none⟩ = some (.string (d.secs.getD 0 ByteArray.empty)) ∧ (d.secs.getD 0 ByteArray.empty).size ≤ maxLen ∧ sg ≠ h ∧ sg < W.heap.size := by
  have ho := S.secsN
  have hl := S.len1
  rcases ho.2 with ⟨_, h0⟩ | ⟨sg, cap, cur, hv, hB, hq, hn', hm, hs, ht⟩
  · omega
  · injection hv with e1 e2 e3
    refine ⟨sg, e1, ?_, ?_, S.far (.slice so n1 p) (by simp) sg (by rw [e1]; rfl), blkS hq⟩
    · rw [e1] at ho
      have := World.ownsRow.cellAt ho 0 (by omega)
      rw [this]
      simp [strsV, List.getD_eq_getElem?_getD, show 0 < d.secs.length by omega]
    · refine hi.1 _ ?_
      rw [List.getD_eq_getElem?_getD, List.getElem?_eq_getElem (show 0 < d.secs.length by omega)]
      simp
end
end Go.Proofs.Ythglidcfbdigiaa

/-
  Contracts: bytes that the source of draws makes.
-/
namespace Go.Proofs.Ythglidcfbdigiaa
open Go.RowKit

set_option maxHeartbeats 1000000 in
theorem bytes_any (g B n : Nat) (hn : n ≤ 1000000) (w : World) (hs : Src w B g) (hB : B ≤ g) :
    Calls Try.prog 38 #[.pointer (some ⟨g, 0, none⟩), .int .i64 n] w fun e w' => ∃ t : ByteArray, e = .returned (.string t) ∧ t.size = n ∧ Src w' B g ∧ w.grownBy w' (some g) := by
  obtain ⟨i0, hi, hz0, hz1, hz2⟩ := info_parts Try.infoU8
  have hlt := hs.lt
  have HS : Hid (Src w B g) := hs
  clear hs
  go_enter Try.func38, Try.ntmps38
  go_wp2
  go_loopw [5, 6] (fun v i wr => ∃ (k : Nat) (xs : List Int), k ≤ n ∧ i = .int .i64 k ∧ wr.ownsRow w.heap.size 5 1 v k (xs.map (Value.int .u8)) ∧ Hid (Src wr B g) ∧ w.grownBy wr (some g))
    (fun _ i _ => n - (intOf i).toNat)
  case atStart => exact ⟨0, [], by omega, rfl, ⟨rfl, .inr ⟨w.heap.size, 0, #[], rfl, Nat.le_refl _, heap_alloc_new _ _, Nat.le_refl _, Nat.zero_le _, rfl, rfl⟩⟩,
      (HS.out).kept ((Below.refl _ _).alloc (by omega) _) (Below.heap_alloc _ _ _ hlt), grown_alloc (grown_self _ _) _⟩
  case round =>
    obtain ⟨k, xs, hk, rfl, hown, HSr, hgr⟩ := hrel
    by_cases hkl : k < n
    · have hzr := hgr.size
      go_wp2_with fail
      refine (n_any g B 256 (by omega) (by omega) _ HSr.out hB).mono ?_
      rintro e w1 ⟨v, rfl, hv0, hv1, hs1, hg1, hz1'⟩
      have hown1 := hown.kept hg1 (.inr (fun e => by have := (hown.lt g e).1; omega))
      have hgr1 := grown_trans hgr hg1 (fun j hj => .inl (by simpa using hj.symm))
      have HS1 : Hid (Src w1 B g) := hs1
      have hzw := hgr1.size
      clear hs1 hown hgr hg1 HSr hz1'
      go_wp2_with (at_builtin; refine wpList_append_own _ rfl _ _ 22 rfl w.heap.size 5 i0 (.int .u8 0) 1 1 Try.underlying22 hi hz0 hz1 hz2 rfl (by decide) _ _ _ rfl (hown1.alloc _) ⟨w1.heap.size, 0, none⟩ 1 1 [.int .u8 v] rfl rfl ?c1 ?c2 ?c3 ?c4 ?c5 ?_)
      case c1 => exact cell_one_new _ _ _
      case c2 => intro u hu; simp at hu; subst hu; rfl
      case c3 => unfold maxLen; omega
      case c4 => omega
      case c5 => simp; omega
      · intro v' w2 hown' hgrow _
        have hgr2 := grown_trans (grown_alloc hgr1 (.cells #[.int .u8 v] 5)) hgrow (fun j hj => .inr (hown1.lt j hj).1)
        have hb2 : Below B w1 w2 := ((Below.refl B w1).alloc (by omega) _).grown hgrow (by simp; omega) (fun j hj => by have := (hown1.lt j hj).1; omega)
        have hkg : w2.heap[g]? = w1.heap[g]? := by
          rw [hgrow.block g (by simp; omega) (fun e => by have := (hown1.lt g e.symm).1; omega), Below.heap_alloc _ _ _ (by omega)]
        have HS2 : Hid (Src w2 B g) := (HS1.out).kept hb2 hkg
        clear hown1 hgr1 HS1 hgrow hb2 hkg
        go_wp2
        go_roundw
        case rel => exact ⟨k + 1, xs ++ [v], by omega, by go_num, by simpa using hown', HS2, hgr2⟩
        case measure => simp [intOf]; omega
    · obtain rfl : k = n := by omega
      have hcv := convOwn (xs := xs) hown
      have hx : xs.length = k := by simpa using hown.1
      go_wp2
      go_ret
      exact ⟨_, rfl, by rw [strOfNums_size]; exact hx, HSr.out, hgr⟩
end Go.Proofs.Ythglidcfbdigiaa

/-
  Contract: DiskWrite of the specification.
-/
namespace Go.Proofs.Ythglidcfbdigiaa
open Go.RowKit
set_option maxRecDepth 100000

theorem own_succ' {w : World} {base n size : Nat} {t : TypeId} {v : Value} {xs : List Value} (h : w.ownsRow base t size v (n + 1) xs) : ∃ g cap, v = .slice (some ⟨g, 0, none⟩) (n + 1) cap := by
  rcases h.2 with ⟨_, h0⟩ | ⟨g, cap, cur, h1, _⟩
  · omega
  · exact ⟨g, cap, h1⟩
theorem made_secV {w1 : World} {base g : Nat} (h : w1.ownsRow base 5 1 (.slice (some ⟨g, 0, none⟩) 64 64) 64 ((numsU zSec).map (Value.int .u8))) : w1.heap[g]? = some (.cells (secV zSec) 5 (0, 0)) := by
  rcases h.2 with ⟨h, _⟩ | ⟨g', cap', cur, hv, _, hg, _, _, hs, ht⟩
  · simp at h
  · simp at hv
    obtain ⟨rfl, rfl⟩ := hv
    rw [hg]
    congr 2
    rw [List.take_of_length_le (by simp [hs])] at ht
    unfold secV
    rw [byteCells_nums, ← ht]
theorem conv_sec {W : World} {g : Nat} {l : List UInt8} {t : TypeId} (hg : W.heap[g]? = some (.cells (secV l) t (0, 0))) (hl : l.length = 64) :
    (convert 22 9 (.slice (some ⟨g, 0, none⟩) 64 64)).run Try.prog W = .ok (.string (mkS l)) W := by
  rw [← strOfNums_bytes]
  refine run_convert_bytes_arg _ 22 5 Try.underlying22 Try.underlying5 g 0 64 64 (l.map fun b => (b.toNat : Int)) (by simpa using hl) (fun i hi => ?_) 9 Try.underlying9
  rw [Nat.zero_add, cell_of_row _ _ _ _ _ _ hg]
  unfold secV Lib.byteCells
  rw [List.getElem?_toArray, List.getElem?_map, List.getElem?_eq_getElem (by omega)]
  simp [List.getElem?_eq_getElem (show i < l.length by omega)]
set_option maxHeartbeats 8000000 in
theorem l07Write_any (b : Nat) (s c : Value) (d : Dk) (a : Int) (t : ByteArray) (w : World) (hf : dkFits d) (hdr : dkRight d = true) (ha : wI64 a) (hl : ¬ 20000 < t.size) (h : OwnD b s c d w) :
    Calls Try.prog 45 #[.agg #[s, c], .int .i64 a, .string t] w fun e w' => ∃ s' c', e = .returned (.agg #[s', c', .string ⟨#[]⟩, .int .i64 (dkWrite d a t).2]) ∧ OwnD w.heap.size s' c' (dkWrite d a t).1 w' ∧ Below w.heap.size w w' := by
  obtain ⟨so, p, co, q, rfl, rfl⟩ := h.shape
  obtain ⟨n1, hn1⟩ : ∃ n, n = d.secs.length := ⟨_, rfl⟩
  obtain ⟨n2, hn2⟩ : ∃ n, n = d.cache.length := ⟨_, rfl⟩
  have HN := hide (And.intro hn1 hn2)
  have HA := two_allocs w (.cells #[.slice so n1 p, .slice co n2 q] 26) (.cells #[.slice none 0 0, .slice none 0 0, .string ⟨#[]⟩, .int .i64 0] 30)
  have B0 := hide (((Below.refl w.heap.size w).alloc (Nat.le_refl _) (.cells #[.slice so n1 p, .slice co n2 q] 26)).alloc (by simp) (.cells #[.slice none 0 0, .slice none 0 0, .string ⟨#[]⟩, .int .i64 0] 30))
  have X0 := hide HA.1
  have Y0 := hide HA.2.1
  have Z0 := hide HA.2.2
  rw [← hn1, ← hn2] at h ⊢
  clear HA hn1 hn2
  have hm : many t ≤ 313 := by unfold many; omega
  have HE1 : Hid (((t.size : Int) + 64 - 1) / 64 = (many t : Int)) := by show _ = _; unfold many; omega
  have hbd := dkRight_bounds hdr
  rw [← HN.out.1, ← HN.out.2] at hbd
  obtain ⟨hb1, hb2⟩ := hbd
  unfold wI64 at ha
  by_cases h9 : a < 0 ∨ (n1 : Int) - (many t : Int) < a
  · rw [dkWrite_9 hl hdr (by rw [← HN.out.1]; exact h9)]
    obtain ⟨x0, x1, xf⟩ := cells2 X0.out
    clear hf hdr h
    generalize many t = m at *
    by_cases h0 : a < 0
    · go_enter Try.func45, Try.ntmps45
      go_upto_region 2 with fail
      rw [HE1.out]
      go_wp2
      refine bodyPost_ret (v := .agg #[.slice none 0 0, .slice none 0 0, .string ⟨#[]⟩, .int .i64 9]) (by simp [results, Try.results45, go_sem]) rfl ⟨_, _, rfl, ownD_emp _ _, ?_⟩
      exact ((Below.refl _ _).alloc (Nat.le_refl _) _).alloc (by simp) _
    · have h9' : (n1 : Int) - (m : Int) < a := by omega
      clear h9
      go_enter Try.func45, Try.ntmps45
      go_upto_region 2 with fail
      rw [HE1.out]
      go_wp2
      refine bodyPost_ret (v := .agg #[.slice none 0 0, .slice none 0 0, .string ⟨#[]⟩, .int .i64 9]) (by simp [results, Try.results45, go_sem]) rfl ⟨_, _, rfl, ownD_emp _ _, ?_⟩
      exact ((Below.refl _ _).alloc (Nat.le_refl _) _).alloc (by simp) _
  · have h9a : ¬ a < 0 := by omega
    have h9b : ¬ (n1 : Int) - (many t : Int) < a := by omega
    by_cases hfull : 400 < n2 + many t
    · rw [dkWrite_11 hl hdr (by rw [← HN.out.1]; exact h9) (by rw [← HN.out.2]; exact hfull)]
      obtain ⟨x0, x1, xf⟩ := cells2 X0.out
      clear hf hdr h h9
      generalize many t = m at *
      have hfull' : 400 < (n2 : Int) + (m : Int) := by omega
      go_enter Try.func45, Try.ntmps45
      go_upto_region 2 with fail
      rw [HE1.out]
      go_wp2
      refine bodyPost_ret (v := .agg #[.slice none 0 0, .slice none 0 0, .string ⟨#[]⟩, .int .i64 11]) (by simp [results, Try.results45, go_sem]) rfl ⟨_, _, rfl, ownD_emp _ _, ?_⟩
      exact ((Below.refl _ _).alloc (Nat.le_refl _) _).alloc (by simp) _
    · rw [dkWrite_0 hl hdr (by rw [← HN.out.1]; exact h9) (by rw [← HN.out.2]; exact hfull)]
      obtain ⟨j0, hj, hy0, hy1, hy2⟩ := info_parts Try.infoWr
      obtain ⟨i0, hi, hz0, hz1, hz2⟩ := info_parts Try.infoU8
      have HCZ : Hid ((madeCells (Value.int .u8 0).cells (64 * 1)).toList = (numsU zSec).map (Value.int .u8)) := by show _ = _; kernel_rfl
      have HU : Hid ((Try.prog.info? 5).map (·.size) = some 1) := by show _ = _; kernel_rfl
      have HCP := hide (fun (W : World) (hb : Below w.heap.size w W) => l07Copy_own _ _ _ d W hf (h.below hb))
      have HSUCC := hide (fun k => wrsOf_succ a t k)
      have HLEN := hide (fun k => wrsOf_len a t k)
      have HM2 : Hid (∀ k, k < many t → k * 64 < t.size) := fun k hk => by unfold many at hk; omega
      have HPC : Hid (∀ k, mkS (pad (t.extract (k * 64) t.size).data.toList) = piece t k) := fun k => by rw [drop_extract]; rfl
      obtain ⟨x0, x1, xf⟩ := cells2 X0.out
      have hfull' : ¬ 400 < (n2 : Int) + (many t : Int) := by omega
      clear hf hdr h h9
      generalize many t = m at *
      go_enter Try.func45, Try.ntmps45
      go_upto_region 2 with fail
      rw [HE1.out]
      go_wp2_with (go_at_call 65; refine (HCP.out _ B0.out).mono ?_; rintro e w3 ⟨s3, c3, rfl, o3, b3⟩; obtain ⟨so3, p3, co3, q3, rfl, rfl⟩ := o3.shape; rw [← HN.out.1, ← HN.out.2] at o3 ⊢; have G3 := hide (GI.start B0.out (by simp) Y0.out o3 b3 HN.out.2); clear o3 b3 x0 x1 xf)
      have G3' : Hid (GI w w3.heap.size (.slice so3 n1 p3) (.slice co3 n2 q3) (.slice co3 n2 q3) (n2 + 0) ⟨d.secs, d.cache ++ wrsOf a t 0⟩ (w3.alloc (.cells #[.slice so3 n1 p3, .slice co3 n2 q3] 26))) := by
        show GI _ _ _ _ _ _ _ _
        rw [wrsOf_zero, List.append_nil]
        exact G3.out
      clear G3 HCP B0 X0 Y0 Z0
      generalize w3.alloc (.cells #[.slice so3 n1 p3, .slice co3 n2 q3] 26) = W3 at *
      generalize w3.heap.size = g at *
      go_loopw [9] (fun i wr => ∃ (k : Nat) (v : Value), k ≤ m ∧ i = .int .i64 k ∧ Hid (GI w g (.slice so3 n1 p3) v v (n2 + k) ⟨d.secs, d.cache ++ wrsOf a t k⟩ wr)) (fun i _ => m - (intOf i).toNat)
      case atStart => exact ⟨0, _, Nat.zero_le _, rfl, G3'⟩
      case round =>
        obtain ⟨k, v, hk, rfl, G⟩ := hrel
        clear G3'
        obtain ⟨ao, cap, hv⟩ := own_shape' G.out.cacheN
        subst hv
        by_cases hlt : k < m
        · have h64 := HM2.out k hlt
          have hk64 : ((k : Int) * 64).toNat = k * 64 := by omega
          have hc1 := HPC.out k
          go_wp2_with (first | (at_make; refine wpList_make_full _ rfl _ _ 22 rfl 0 5 i0 (.int .u8 0) 1 Try.underlying22 hi hz0 hz1 .i64 .i64 _ _ 64 rfl rfl rfl rfl (by rw [hz2]; omega) (by unfold maxLen; omega) (Nat.zero_le _) ?_; intro w4 hown hgrow; rw [HCZ.out] at hown; have X4 := hide (made_secV hown); have B4 := hide ((Below.refl wr.heap.size wr).grown hgrow (Nat.le_refl _) (fun j hj => by simp at hj)); clear hown hgrow; obtain ⟨nn, w5, hcp, X5, B5⟩ : ∃ (nn : Nat) (w5 : World), (∀ ty, (Builtin.copy_ #[22, 9] ty #[.slice (some ⟨wr.heap.size, 0, none⟩) 64 64, .string (t.extract (k * 64) t.size)]).run Try.prog w4 = .ok (goInt nn) w5) ∧ Hid (w5.heap[wr.heap.size]? = some (.cells (secV (pad (t.extract (k * 64) t.size).data.toList)) 5 (0, 0))) ∧ Hid (Below wr.heap.size wr w5) := (run_copy_pad (P := Try.prog) w4 22 9 5 wr.heap.size (t.extract (k * 64) t.size) _ Try.underlying22 HU.out X4.out).elim fun nn h => ⟨nn, _, h, setRow_heap _ _ _ _ _ _ X4.out, below_setRow B4.out (Nat.le_refl _) _⟩; have hcv := conv_sec X5.out (pad_len _); rw [hc1] at hcv; have G5 := hide (G.out.keep B5.out); obtain ⟨g0, g1, gf⟩ := cells2 G5.out.var; have G6 := hide (G5.out.keep ((Below.refl w5.heap.size w5).alloc (Nat.le_refl _) (.cells #[.int .i64 (a + (k : Int)), .string (piece t k)] 78))); have S6 := hide (own_wr_one w5 (a + (k : Int)) (piece t k)); have Z6 := hide G6.out.lt; clear X4 B4 X5 B5) | (at_builtin; refine wpList_app_own rfl _ _ 24 rfl (w.heap.size + 2) w5.heap.size 78 j0 (.agg #[.int .i64 0, .string ⟨#[]⟩]) 2 24 Try.underlying24 hj hy0 hy1 hy2 rfl (by decide) _ (n2 + k) _ rfl G6.out.cacheN _ 1 _ rfl S6.out (wr_one _ _) (by unfold maxLen; omega) (by omega) Z6.out ?_; intro v7 w7 o7 g7 l7; have G7 := hide (G6.out.app (k := [⟨a + (k : Int), piece t k⟩]) (m := 1) o7 g7 l7 G6.out.num rfl); obtain ⟨g5', c5', hv7⟩ := own_succ' o7; subst hv7; clear g0 g1 gf; obtain ⟨g0, g1, gf⟩ := cells2 G7.out.var; clear o7 g7 l7))
          have G8 := hide G7.out.put
          simp only [List.append_assoc] at G8
          rw [← HSUCC.out] at G8
          clear G5 G6 S6 Z6 G7 g0 g1 gf hcp hcv hc1
          go_roundw
          case rel => exact ⟨k + 1, _, by omega, by go_num, G8⟩
          case measure => simp [intOf]; omega
        · obtain rfl : k = m := by omega
          obtain ⟨g0, g1, gf⟩ := cells2 G.out.var
          obtain ⟨y0, y1, y2, y3, yf⟩ := cells4 G.out.res
          go_wp2
          refine bodyPost_ret (v := .agg #[.slice so3 n1 p3, .slice ao (n2 + k) cap, .string ⟨#[]⟩, .int .i64 0]) (resOut Try.results45 _ _ (w.heap.size + 1) _ _ _ _ rfl (set4w G.out.res)) rfl ⟨_, _, rfl, ?_, ?_⟩
          · exact ((((G.out.own.set (by omega)).set (by omega)).set (by omega)).set (by omega)).base (by omega)
          · exact (((G.out.below.setCell (by simp) _).setCell (by simp) _).setCell (by simp) _).setCell (by simp) _
end Go.Proofs.Ythglidcfbdigiaa

/-
  Contract: DiskWrite of the specification, as a whole; how great what is written is.
-/
namespace Go.Proofs.Ythglidcfbdigiaa
open Go.RowKit
set_option maxRecDepth 100000

theorem dkWrite_fits {d : Dk} (a : Int) (t : ByteArray) (h : dkFits d) : dkFits (dkWrite d a t).1 := by
  unfold dkWrite dkFits
  have h1 := h.1
  have h2 := h.2
  split
  · simp
  split
  · simp
  split
  · simp
  split
  · simp
  · rename_i hq
    simp only [List.length_append, wrsOf_len]
    exact ⟨h1, by omega⟩
set_option maxHeartbeats 4000000 in
theorem specDiskWrite_any (b : Nat) (s c : Value) (d : Dk) (a : Int) (t : ByteArray) (w : World) (hi : dkIn d) (hf : dkFits d) (ha : wI64 a) (h : OwnD b s c d w) :
    Calls Try.prog 11 #[.agg #[s, c], .int .i64 a, .string t] w fun e w' => ∃ s' c', e = .returned (.agg #[s', c', .string ⟨#[]⟩, .int .i64 (dkWrite d a t).2]) ∧ OwnD w.heap.size s' c' (dkWrite d a t).1 w' ∧ Below w.heap.size w w' := by
  obtain ⟨so, p, co, q, rfl, rfl, hr⟩ := h.row hi
  obtain ⟨n1, hn1⟩ : ∃ n, n = d.secs.length := ⟨_, rfl⟩
  obtain ⟨n2, hn2⟩ : ∃ n, n = d.cache.length := ⟨_, rfl⟩
  have HN := hide (And.intro hn1 hn2)
  have HA := two_allocs w (.cells #[.slice so n1 p, .slice co n2 q] 26) (.cells #[.slice none 0 0, .slice none 0 0, .string ⟨#[]⟩, .int .i64 0] 30)
  have B0 := hide (((Below.refl w.heap.size w).alloc (Nat.le_refl _) (.cells #[.slice so n1 p, .slice co n2 q] 26)).alloc (by simp) (.cells #[.slice none 0 0, .slice none 0 0, .string ⟨#[]⟩, .int .i64 0] 30))
  have X0 := hide HA.1
  have Y0 := hide HA.2.1
  have HSP := hide (fun (W : World) (hb : Below w.heap.size w W) => specDiskRight_any _ _ so p co q d W hb.size (hr.kept hb))
  rw [← hn1, ← hn2] at h HSP ⊢
  clear HA hn1 hn2
  by_cases hl : 20000 < t.size
  · rw [dkWrite_2 hl]
    clear HSP hi hf ha h hr
    go_enter Try.func11, Try.ntmps11
    go_wp2
    refine bodyPost_ret (v := .agg #[.slice none 0 0, .slice none 0 0, .string ⟨#[]⟩, .int .i64 2]) (by simp [results, Try.results11, go_sem]) rfl ⟨_, _, rfl, ownD_emp _ _, ?_⟩
    exact ((Below.refl _ _).alloc (Nat.le_refl _) _).alloc (by simp) _
  · obtain ⟨x0, x1, xf⟩ := cells2 X0.out
    cases hdr : dkRight d with
    | false =>
      rw [dkWrite_1 hl hdr]
      rw [hdr] at HSP
      clear hi hf ha h hr hdr
      go_enter Try.func11, Try.ntmps11
      go_wp2_with (go_at_call 44; refine (HSP.out _ B0.out).mono ?_; rintro e w1 ⟨rfl, b1⟩; have Y1 := hide ((b1.block (w.heap.size + 1) (by simp)).trans Y0.out); have B1 := hide (B0.out.trans (b1.mono B0.out.size)); obtain ⟨y0, y1, y2, y3, yf⟩ := cells4 Y1.out; clear b1)
      refine bodyPost_ret (v := .agg #[.slice none 0 0, .slice none 0 0, .string ⟨#[]⟩, .int .i64 1]) (resOut Try.results11 _ _ (w.heap.size + 1) _ _ _ _ rfl (set4w Y1.out)) rfl ⟨_, _, rfl, ownD_emp _ _, ?_⟩
      exact (((B1.out.setCell (by simp) _).setCell (by simp) _).setCell (by simp) _).setCell (by simp) _
    | true =>
      have HWR := hide (fun (W : World) (hb : Below w.heap.size w W) => l07Write_any _ _ _ d a t W hf hdr ha hl (h.below hb))
      rw [hdr] at HSP
      generalize dkWrite d a t = R at *
      obtain ⟨D, K⟩ := R
      simp only at *
      clear hi hf ha h hr hdr
      go_enter Try.func11, Try.ntmps11
      go_wp2_with (first | (go_at_call 44; refine (HSP.out _ B0.out).mono ?_; rintro e w1 ⟨rfl, b1⟩; have Y1 := hide ((b1.block (w.heap.size + 1) (by simp)).trans Y0.out); have X1 := hide ((b1.block w.heap.size (by simp; omega)).trans X0.out); have B1 := hide (B0.out.trans (b1.mono B0.out.size)); clear x0 x1 xf; obtain ⟨x0, x1, xf⟩ := cells2 X1.out; clear b1) | (go_at_call 45; refine (HWR.out _ B1.out).mono ?_; rintro e w2 ⟨s2, c2, rfl, o2, b2⟩; have Y2 := hide ((b2.block (w.heap.size + 1) (Array.getElem?_eq_some_iff.1 Y1.out).1).trans Y1.out); have B2 := hide (B1.out.trans (b2.mono B1.out.size)); have O2 := hide (o2.base (show w.heap.size + 2 ≤ _ from (Array.getElem?_eq_some_iff.1 Y1.out).1)); obtain ⟨so2, p2, co2, q2, rfl, rfl⟩ := o2.shape; obtain ⟨y0, y1, y2, y3, yf⟩ := cells4 Y2.out; clear b2 o2))
      refine bodyPost_ret (v := .agg #[.slice so2 D.secs.length p2, .slice co2 D.cache.length q2, .string ⟨#[]⟩, .int .i64 K]) (resOut Try.results11 _ _ (w.heap.size + 1) _ _ _ _ rfl (set4w Y2.out)) rfl ⟨_, _, rfl, ?_, ?_⟩
      · exact ((((O2.out.set (by omega)).set (by omega)).set (by omega)).set (by omega)).base (by omega)
      · exact (((B2.out.setCell (by simp) _).setCell (by simp) _).setCell (by simp) _).setCell (by simp) _
end Go.Proofs.Ythglidcfbdigiaa
