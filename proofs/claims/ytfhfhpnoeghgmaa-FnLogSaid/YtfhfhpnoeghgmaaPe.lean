/-
  Contracts and plain laws, part 5 of 12: DkDS, DkRep, DkNew, DkDS2, DkDS3, DkGI, DkDS4, Draw, LgKeep, DkDT, Long, CrcC, Num
-/
import Derived.Laws.CopyOwn
import Derived.Test.YtfhfhpnoeghgmaaRows
import Derived.WalkKit
import Derived.WalkLawsBesides
import Derived.Laws.BytesArg
import Derived.OpenShut
import Derived.Maps.AppendAt
import Derived.Test.YtfhfhpnoeghgmaaPd

/-
  A disk that is being drawn. Plain laws.
-/
namespace Go.Proofs.Ytfhfhpnoeghgmaa
open Go.RowKit
set_option maxRecDepth 100000

theorem blkS {W : World} {g : Nat} {o : Obj} (h : W.heap[g]? = some o) : g < W.heap.size := (Array.getElem?_eq_some_iff.1 h).1
theorem grownBelow {w w' : World} (r : Option Nat) (h : Below w.heap.size w w') : w.grownBy w' r := ⟨h.os, h.tape, h.output, h.size, fun k hk _ => h.block k hk⟩
/-- The source lies in block g, the result's block is w's first new one, the variable lies in block h; its lists are its own. -/
structure DS (B g h : Nat) (w : World) (s c : Value) (d : Dk) (W : World) : Prop where
  src : Src W B g
  gr : w.grownBy W (some g)
  res : W.heap[w.heap.size]? = some (.cells #[.slice none 0 0, .slice none 0 0] 26 (0, 0))
  var : W.heap[h]? = some (.cells #[s, c] 26 (0, 0))
  own : OwnD (w.heap.size + 1) s c d W
  far : ∀ v ∈ [s, c], ∀ b, v.ownBlock = some b → b ≠ h
  gap : w.heap.size + 1 ≤ h
  low : g < w.heap.size
  lowB : B ≤ g
section
variable {w W W' : World} {B g h : Nat} {s c s' c' : Value} {d d' : Dk}
theorem own_grown {base n size : Nat} {t : TypeId} {v : Value} {xs : List Value} (ho : W.ownsRow base t size v n xs) (k : W.grownBy W' (some g)) (hg : g < base) : W'.ownsRow base t size v n xs :=
  World.ownsRow.kept ho k (.inr (fun e => by have := (ho.lt g e).1; omega))
theorem DS.step (S : DS B g h w s c d W) (hs : Src W' B g) (k : W.grownBy W' (some g)) : DS B g h w s c d W' := by
  have hz := S.gr.size
  have hg := S.low
  have hp := S.gap
  have hv := blkS S.var
  have hr := blkS S.res
  refine ⟨hs, grown_trans S.gr k (fun j hj => .inl (by simpa using hj.symm)), (k.block _ hr (fun e => by simp at e; omega)).trans S.res, (k.block _ hv (fun e => by simp at e; omega)).trans S.var,
    ⟨own_grown S.own.secs k (by omega), own_grown S.own.cache k (by omega), S.own.apart⟩, S.far, hp, hg, S.lowB⟩
theorem DS.below (S : DS B g h w s c d W) (hb : Below W.heap.size W W') : DS B g h w s c d W' := by
  have hz := S.gr.size
  have hg := S.low
  have hB := S.lowB
  exact S.step (S.src.kept (hb.mono (by omega)) (hb.block g (by omega))) (grownBelow _ hb)
/-- Another disk in the variable. -/
theorem DS.put (S : DS B g h w s c d W) (ho : OwnD (w.heap.size + 1) s' c' d' W) (hf : ∀ v ∈ [s', c'], ∀ b, v.ownBlock = some b → b ≠ h) : DS B g h w s' c' d' ((W.setCell ⟨h, 0, none⟩ s').setCell ⟨h, 1, none⟩ c') := by
  have hz := S.gr.size
  have hg := S.low
  have hp := S.gap
  have hB := S.lowB
  have hb : Below h W ((W.setCell ⟨h, 0, none⟩ s').setCell ⟨h, 1, none⟩ c') := ((Below.refl h W).setCell (p := ⟨h, 0, none⟩) (Nat.le_refl _) _).setCell (p := ⟨h, 1, none⟩) (Nat.le_refl _) _
  have h1 := heap_setCell_same W h 0 _ _ s' S.var
  have h2 := heap_setCell_same _ h 1 _ _ c' h1
  refine ⟨S.src.kept (hb.mono (by omega)) (hb.block g (by omega)), ?_, (hb.block _ (by omega)).trans S.res, by simpa using h2, (ho.setF hf).setF hf, hf, hp, hg, hB⟩
  refine ⟨S.gr.os, S.gr.tape, S.gr.output, by simpa using hz, fun k hk hn => ?_⟩
  exact (hb.block k (by omega)).trans (S.gr.block k hk hn)
theorem DS.start (hs : Src W B g) (k : w.grownBy W (some g)) (hr : W.heap[w.heap.size]? = some (.cells #[.slice none 0 0, .slice none 0 0] 26 (0, 0))) (hg : g < w.heap.size) (hB : B ≤ g)
    (ho : OwnD (w.heap.size + 1) s c d W) : DS B g W.heap.size w s c d (W.alloc (.cells #[s, c] 26)) := by
  have hb := (Below.refl W.heap.size W).alloc (Nat.le_refl _) (.cells #[s, c] 26)
  have hr' := blkS hr
  have hz := k.size
  refine ⟨hs.kept (hb.mono (by omega)) (hb.block g (by omega)), grown_trans k (grownBelow (some g) hb) (fun j hj => .inl (by simpa using hj.symm)), (hb.block _ hr').trans hr, heap_alloc_new _ _, ho.below hb, fun v hv b hb' => ?_, by omega, hg, hB⟩
  simp at hv
  rcases hv with rfl | rfl
  · have := (ho.lt.1 b hb').2; omega
  · have := (ho.lt.2 b hb').2; omega
/-- The lists at the end, in the result's block. -/
theorem DS.fin (S : DS B g h w s c d W) : ((W.setCell ⟨w.heap.size, 0, none⟩ s).setCell ⟨w.heap.size, 1, none⟩ c).heap[w.heap.size]? = some (.cells #[s, c] 26 (0, 0)) ∧ OwnD (w.heap.size + 1) s c d ((W.setCell ⟨w.heap.size, 0, none⟩ s).setCell ⟨w.heap.size, 1, none⟩ c) ∧ Src ((W.setCell ⟨w.heap.size, 0, none⟩ s).setCell ⟨w.heap.size, 1, none⟩ c) B g ∧ w.grownBy ((W.setCell ⟨w.heap.size, 0, none⟩ s).setCell ⟨w.heap.size, 1, none⟩ c) (some g) := by
  have hz := S.gr.size
  have hg := S.low
  have hp := S.gap
  have hB := S.lowB
  have hb : Below w.heap.size W ((W.setCell ⟨w.heap.size, 0, none⟩ s).setCell ⟨w.heap.size, 1, none⟩ c) := ((Below.refl w.heap.size W).setCell (p := ⟨w.heap.size, 0, none⟩) (Nat.le_refl _) _).setCell (p := ⟨w.heap.size, 1, none⟩) (Nat.le_refl _) _
  have h1 := heap_setCell_same W w.heap.size 0 _ _ s S.res
  have h2 := heap_setCell_same _ w.heap.size 1 _ _ c h1
  refine ⟨by simpa using h2, ?_, S.src.kept (hb.mono (by omega)) (hb.block g hg), S.gr.os, S.gr.tape, S.gr.output, by simpa using hz, fun k hk hn => (hb.block k hk).trans (S.gr.block k hk hn)⟩
  have hf : ∀ v ∈ [s, c], ∀ b, v.ownBlock = some b → b ≠ w.heap.size := fun v hv b hb' => by
    simp at hv
    rcases hv with rfl | rfl
    · have := (S.own.lt.1 b hb').1; omega
    · have := (S.own.lt.2 b hb').1; omega
  exact (S.own.setF hf).setF hf
end
end Go.Proofs.Ytfhfhpnoeghgmaa

/-
  Contracts: slices.Repeat of one text.
-/
namespace Go.Proofs.Ytfhfhpnoeghgmaa
open Go.RowKit
set_option maxRecDepth 100000

set_option maxHeartbeats 1000000 in
theorem mul64_one (y : Nat) (hy : y ≤ 100000) (w : World) :
    Calls Try.prog 123 #[.int .u64 1, .int .u64 y] w fun e w' => e = .returned (.tuple #[.int .u64 0, .int .u64 y]) ∧ w' = w := by
  have h1 : bits .and .u64 1 4294967295 = 1 := by kernel_rfl
  have h2 : bits .and .u64 (y : Int) 4294967295 = (y : Int) := by
    have := u64_and_nat y 4294967295 (by omega) (by omega)
    have e : y &&& 4294967295 = y % 4294967296 := Nat.and_two_pow_sub_one_eq_mod y 32
    rw [e, Nat.mod_eq_of_lt (by omega)] at this
    exact this
  have h3 : bits .and .u64 0 4294967295 = 0 := by kernel_rfl
  have h4 : (y : Int) / 4294967296 = 0 := by omega
  go_enter Try.func123, Try.ntmps123
  go_wp2
  go_ret2
  exact ⟨rfl, rfl⟩
set_option maxHeartbeats 1000000 in
theorem mul_one' (y : Nat) (hy : y ≤ 100000) (w : World) :
    Calls Try.prog 108 #[.int .u64 1, .int .u64 y] w fun e w' => e = .returned (.tuple #[.int .u64 0, .int .u64 y]) ∧ w' = w := by
  go_enter Try.func108, Try.ntmps108
  go_wp2_with (go_at_call 123; refine (mul64_one y hy _).mono ?_; rintro e w' ⟨rfl, rfl⟩)
  go_ret2
  exact ⟨rfl, rfl⟩
theorem splice_rep {α : Type} (cur : List α) (v : α) (k m n : Nat) (hl : cur.length = n) (hc : cur.take k = List.replicate k v) (hm : k + m ≤ n) : (splice cur k (List.replicate m v)).length = n ∧ (splice cur k (List.replicate m v)).take (k + m) = List.replicate (k + m) v := by
  refine ⟨by rw [length_splice _ _ _ (by simp; omega), hl], ?_⟩
  unfold splice
  rw [hc, ← List.append_assoc, List.take_append_of_le_length (by simp), List.take_of_length_le (by simp)]
  simp [List.replicate_append_replicate]
theorem src_one {w : World} {g k : Nat} {v : Value} (h : w.cell? ⟨g, 0, none⟩ = some v) (hk : k ≤ 1) : ∀ j u, (List.replicate k v)[j]? = some u → w.cell? ((⟨g, 0, none⟩ : Addr).add j) = some u := by
  intro j u hj
  obtain ⟨hlt, hu⟩ := List.getElem?_eq_some_iff.1 hj
  rw [List.length_replicate] at hlt
  obtain rfl : j = 0 := by omega
  rw [List.getElem_replicate] at hu
  subst hu
  simpa [Addr.add] using h
theorem src_rep {w : World} {g k m : Nat} {cur : List Value} {t : TypeId} {v : Value} (hg : w.heap[g]? = some (.cells cur.toArray t (0, 0))) (hc : cur.take k = List.replicate k v) (hm : m ≤ k) : ∀ j u, (List.replicate m v)[j]? = some u → w.cell? ((⟨g, 0, none⟩ : Addr).add j) = some u := by
  intro j u hj
  obtain ⟨hlt, hu⟩ := List.getElem?_eq_some_iff.1 hj
  rw [List.length_replicate] at hlt
  rw [List.getElem_replicate] at hu
  subst hu
  have ha : (⟨g, 0, none⟩ : Addr).add j = ⟨g, j, none⟩ := by unfold Addr.add; split <;> simp_all
  rw [ha, cell_of_row _ _ _ _ _ _ hg, List.getElem?_toArray]
  have h1 : cur[j]? = (cur.take k)[j]? := (List.getElem?_take_of_lt (by omega)).symm
  rw [h1, hc, List.getElem?_replicate, if_pos (by omega)]
theorem made_cur {w1 : World} {base n size g : Nat} {t : TypeId} {xs : List Value} (h : w1.ownsRow base t size (.slice (some ⟨g, 0, none⟩) n n) n xs) : ∃ cur : List Value, w1.heap[g]? = some (.cells cur.toArray t (0, 0)) ∧ cur.length = n * size := by
  rcases h.2 with ⟨h, _⟩ | ⟨g, cap', cur, hv, _, hg, _, _, hs, _⟩
  · simp at h
  · simp at hv
    obtain ⟨rfl, rfl⟩ := hv
    exact ⟨cur.toList, by simpa using hg, by simpa using hs⟩
set_option maxHeartbeats 4000000 in
theorem repeat_any (g c : Nat) (x : ByteArray) (n : Nat) (hn : n ≤ 1000) (w : World) (hx : w.cell? ⟨g, 0, none⟩ = some (.string x)) (hg : g < w.heap.size) :
    Calls Try.prog 69 #[.slice (some ⟨g, 0, none⟩) 1 c, .int .i64 n] w fun e w' => ∃ v, e = .returned v ∧ OwnS w.heap.size v (List.replicate n x) w' ∧ Below w.heap.size w w' := by
  obtain ⟨i0, hi, hz0, hz1, hz2⟩ := info_parts Try.infoStr'
  have hsz : (Try.prog.info? 9).map (·.size) = some 1 := by kernel_rfl
  have HX := hide hx
  obtain ⟨k0, hk0⟩ : ∃ k, k = Nat.min 1 n := ⟨_, rfl⟩
  obtain ⟨hk1, hk2, hk3⟩ : k0 ≤ n ∧ (n = 0 ∨ 0 < k0) ∧ k0 ≤ 1 := by rw [hk0]; show min 1 n ≤ n ∧ (n = 0 ∨ 0 < min 1 n) ∧ min 1 n ≤ 1; omega
  have HK := hide hk0
  have hone : ∀ k, ∀ v ∈ List.replicate k (Value.string x), v.oneCell' = true := fun k v hv => by rw [List.eq_of_mem_replicate hv]; rfl
  have HONE := hide hone
  clear hx hk0 hone
  go_enter Try.func69, Try.ntmps69
  go_wp2_with (first | (go_at_call 108; refine (mul_one' n (by omega) _).mono ?_; rintro e w' ⟨rfl, hw⟩; rw [hw]; clear hw w') | (at_make; refine wpList_make_full _ rfl _ _ 23 rfl w.heap.size 9 i0 (.string ⟨#[]⟩) 1 Try.underlying23 hi hz0 hz1 .i64 .i64 _ _ n rfl rfl rfl rfl (by rw [hz2]; omega) (by unfold maxLen; omega) (Nat.le_refl _) ?_; intro w1 hown1 hgrow1; obtain ⟨cur0, hg0, hl0⟩ := made_cur hown1; have hb1 : Below w.heap.size w w1 := (Below.refl _ _).grown hgrow1 (Nat.le_refl _) (fun j hj => by simp at hj); clear hown1 hgrow1) | (refine wpList_copy_splice rfl _ _ 23 23 rfl 9 Try.underlying23 hsz _ _ _ _ _ _ rfl rfl w.heap.size 0 cur0 9 hg0 (List.replicate k0 (.string x)) (by rw [List.length_replicate]; exact HK.out) (fun hp => ⟨rfl, _, rfl, src_one ((hb1.cell (p := ⟨g, 0, none⟩) hg).trans HX.out) hk3⟩) (by rw [List.length_replicate]; omega) (HONE.out k0) w.heap.size w hb1 (Nat.le_refl _) ?_; intro w2 hg2 hb2; rw [List.length_replicate]; obtain ⟨hs1, hs2⟩ := splice_rep cur0 (.string x) 0 k0 n (by omega) (by simp) (by omega); generalize splice cur0 0 (List.replicate k0 (Value.string x)) = cur1 at *; rw [Nat.zero_add] at hs2; have HS2 := hide hs2; clear hs2 hg0 hl0 hb1))
  go_loopw [8] (fun i wr => ∃ (k : Nat) (cur : List Value), k ≤ n ∧ (n = 0 ∨ 0 < k) ∧ i = .int .i64 k ∧ cur.length = n ∧ Hid (wr.heap[w.heap.size]? = some (.cells cur.toArray 9 (0, 0))) ∧ Hid (cur.take k = List.replicate k (.string x)) ∧ Below w.heap.size w wr) (fun i _ => n - (intOf i).toNat)
  case atStart => exact ⟨k0, cur1, hk1, hk2, rfl, hs1, hg2, HS2, hb2⟩
  case round =>
    obtain ⟨k, cur, hk, hpos, rfl, hlen, HG, HC, hb⟩ := hrel
    clear hg2 HS2 hb2 hs1 hk1 hk2 hk3 HK
    by_cases hlt : k < n
    · obtain ⟨m, hm⟩ : ∃ m, m = Nat.min k (n - k) := ⟨_, rfl⟩
      obtain ⟨hm1, hm2, hm3⟩ : m ≤ k ∧ k + m ≤ n ∧ 0 < m := by rw [hm]; show min k (n - k) ≤ k ∧ k + min k (n - k) ≤ n ∧ 0 < min k (n - k); omega
      have HM := hide hm
      obtain ⟨hs1, hs2⟩ := splice_rep cur (.string x) k m n hlen HC.out hm2
      have HS2 := hide hs2
      have HS1 := hide hs1
      have hwr : IntKind.i64.wrap ((k : Int) + (m : Int)) = (k : Int) + (m : Int) := by rw [IntKind.wrap_i64]; omega
      have HL := hide hlen
      clear hm hs2 hs1 hlen
      go_wp2
      refine wp_region_noPanic ?_
      refine wp_region_held_drew (S := fun _ => True) (by kernel_rfl) trivial (fun hHeld => ?_)
      refine takeD 0 38 (v := ?vx0) rfl rfl (by kernel_rfl) (by kernel_rfl) (by kernel_rfl) (fun _ _ _ h => h) (by kernel_rfl) ?hyx0 trivial ?rx0
      case hyx0 => (intro W hSw; go_simp; try with_reducible rfl)
      simp only [Act.put, List.setIfInBounds_toArray, List.set_cons_zero, List.set_cons_succ]
      refine takeD 1 39 (v := ?vx1) rfl rfl (by kernel_rfl) (by kernel_rfl) (by kernel_rfl) (fun _ _ _ h => h) (by kernel_rfl) ?hyx1 trivial ?rx1
      case hyx1 => (intro W hSw; go_simp; try with_reducible rfl)
      simp only [Act.put, List.setIfInBounds_toArray, List.set_cons_zero, List.set_cons_succ]
      refine takeD 2 40 (v := ?vx2) rfl rfl (by kernel_rfl) (by kernel_rfl) (by kernel_rfl) (fun _ _ _ h => h) (by kernel_rfl) ?hyx2 trivial ?rx2
      case hyx2 => (intro W hSw; go_simp; try with_reducible rfl)
      simp only [Act.put, List.setIfInBounds_toArray, List.set_cons_zero, List.set_cons_succ]
      refine takeD 3 41 (v := .slice (some ⟨w.heap.size, k, none⟩) (n - k) (n - k)) rfl rfl (by kernel_rfl) (by kernel_rfl) (by kernel_rfl) (fun _ _ _ h => h) (by kernel_rfl) ?hyx3 trivial ?rx3
      case hyx3 => (intro W hSw; go_simp; omega)
      simp only [Act.put, List.setIfInBounds_toArray, List.set_cons_zero, List.set_cons_succ]
      refine takeD 4 42 (v := ?vx4) rfl rfl (by kernel_rfl) (by kernel_rfl) (by kernel_rfl) (fun _ _ _ h => h) (by kernel_rfl) ?hyx4 trivial ?rx4
      case hyx4 => (intro W hSw; go_simp; try with_reducible rfl)
      simp only [Act.put, List.setIfInBounds_toArray, List.set_cons_zero, List.set_cons_succ]
      refine takeD 5 43 (v := ?vx5) rfl rfl (by kernel_rfl) (by kernel_rfl) (by kernel_rfl) (fun _ _ _ h => h) (by kernel_rfl) ?hyx5 trivial ?rx5
      case hyx5 => (intro W hSw; go_simp; try with_reducible rfl)
      simp only [Act.put, List.setIfInBounds_toArray, List.set_cons_zero, List.set_cons_succ]
      refine takeD 6 44 (v := .slice (some ⟨w.heap.size, 0, none⟩) k n) rfl rfl (by kernel_rfl) (by kernel_rfl) (by kernel_rfl) (fun _ _ _ h => h) (by kernel_rfl) ?hyx6 trivial ?rx6
      case hyx6 => (intro W hSw; go_simp; try with_reducible rfl)
      simp only [Act.put, List.setIfInBounds_toArray, List.set_cons_zero, List.set_cons_succ]
      refine wpAnyH_ready (rs := [7]) (by kernel_rfl) (by simp) ?_
      refine AllReadyH.cons (o := _) rfl (fun K hK => ?_) AllReadyH.nil
      refine step_copy_splice rfl (.tmp 41) (.tmp 44) 23 23 rfl 9 Try.underlying23 hsz _ _ _ _ _ _ rfl rfl w.heap.size k cur 9 HG.out (List.replicate m (.string x)) (by rw [List.length_replicate]; exact HM.out) (fun hp => ⟨rfl, _, rfl, src_rep HG.out HC.out hm1⟩) (by rw [List.length_replicate, HL.out]; exact hm2) (HONE.out m) w.heap.size w hb.drew (Nat.le_refl _) ?_
      intro w4 hg4 hb4
      rw [List.length_replicate]
      refine hK.out _ _ trivial (fun _ => ?_)
      clear hK K hHeld
      simp only [List.getElem_toArray, List.getElem_cons_succ, List.getElem_cons_zero, Act.put, List.setIfInBounds_toArray, List.set_cons_zero, List.set_cons_succ]
      refine takeD 8 46 (v := .int .i64 ((k + m : Nat) : Int)) rfl rfl (by kernel_rfl) (by kernel_rfl) (by kernel_rfl) (fun _ _ _ h => h) (by kernel_rfl) ?hyx8 trivial ?rx8
      case hyx8 => (intro W hSw; go_simp)
      simp only [Act.put, List.setIfInBounds_toArray, List.set_cons_zero, List.set_cons_succ]
      refine takeD 9 8 (v := ?vx9) rfl rfl (by kernel_rfl) (by kernel_rfl) (by kernel_rfl) (fun _ _ _ h => h) (by kernel_rfl) ?hyx9 trivial ?rx9
      case hyx9 => (intro W hSw; go_simp; try with_reducible rfl)
      simp only [Act.put, List.setIfInBounds_toArray, List.set_cons_zero, List.set_cons_succ]
      refine wpAnyH_done (by kernel_rfl) ?_ _
      refine NoPanic.normal ?_
      generalize splice cur k (List.replicate m (Value.string x)) = cur' at *
      have hkm : k + m ≤ n ∧ (n = 0 ∨ 0 < k + m) := ⟨hm2, .inr (by omega)⟩
      clear hpos HM HL HC HG hk
      go_wp2
      go_roundw
      case rel => exact ⟨k + m, cur', hkm.1, hkm.2, rfl, HS1.out, hg4, HS2, hb4⟩
      case measure => simp [intOf]; omega
    · obtain rfl : k = n := by omega
      have HF : Hid (OwnS w.heap.size (.slice (some ⟨w.heap.size, 0, none⟩) k k) (List.replicate k x) wr) := by
        refine ⟨by simp [strsV], .inr ⟨w.heap.size, k, cur.toArray, by simp, Nat.le_refl _, HG.out, by simp, (by unfold maxLen; omega), (by simpa using hlen), ?_⟩⟩
        have := HC.out
        simp [strsV, this]
      go_wp2
      go_ret
      exact ⟨_, rfl, HF.out, hb⟩
end Go.Proofs.Ytfhfhpnoeghgmaa

/-
  Contracts: DiskNew of both.
-/
namespace Go.Proofs.Ytfhfhpnoeghgmaa
open Go.RowKit
set_option maxRecDepth 100000

def blank : ByteArray := mkS zSec
def dkNew (n : Int) : Dk := if 0 ≤ n ∧ n ≤ 700 then ⟨List.replicate n.toNat blank, []⟩ else ⟨[], []⟩
theorem dkNew_no {n : Int} (h : n ≤ 0 ∨ 700 < n) : dkNew n = ⟨[], []⟩ := by
  unfold dkNew
  split
  · rename_i h'
    obtain rfl : n = 0 := by omega
    rfl
  · rfl
theorem dkNew_yes (k : Nat) (h : k ≤ 700) : dkNew (k : Int) = ⟨List.replicate k blank, []⟩ := by
  unfold dkNew; rw [if_pos (by omega), Int.toNat_natCast]
theorem cell_str_new (w : World) (x : ByteArray) (t : TypeId) : ∀ j u, [Value.string x][j]? = some u → (w.alloc (.cells #[.string x] t)).cell? ((⟨w.heap.size, 0, none⟩ : Addr).add j) = some u := by
  intro j u hj
  have hadd : (⟨w.heap.size, 0, none⟩ : Addr).add j = ⟨w.heap.size, j, none⟩ := by unfold Addr.add; split <;> simp_all
  rw [hadd, cell_of_row _ _ _ _ _ _ (heap_alloc_new w _)]
  simpa using hj
theorem one_str (x : ByteArray) : ∀ u ∈ [Value.string x], u.oneCell' = true := fun u hu => by simp at hu; subst hu; rfl
theorem ownS_rep {base : Nat} {v : Value} {x : ByteArray} {k : Nat} {w : World} (h : w.ownsRow base 9 1 v (k + 1) (strsV (List.replicate k x) ++ [.string x])) : OwnS base v (List.replicate (k + 1) x) w := by
  have e : strsV (List.replicate k x) ++ [Value.string x] = strsV (List.replicate (k + 1) x) := by simp [strsV, List.replicate_succ']
  unfold OwnS
  rw [e] at h
  rwa [List.length_replicate]
theorem own_succ {w : World} {base n size : Nat} {t : TypeId} {v : Value} {xs : List Value} (h : w.ownsRow base t size v (n + 1) xs) : ∃ g cap, v = .slice (some ⟨g, 0, none⟩) (n + 1) cap := by
  rcases h.2 with ⟨_, h0⟩ | ⟨g, cap, cur, h1, _⟩
  · omega
  · exact ⟨g, cap, h1⟩
theorem ownD_nil (base : Nat) (w : World) : OwnD base (.slice none 0 0) (.slice none 0 0) ⟨[], []⟩ w := ⟨ownS_nil _ _, ownW_nil _ _, .inl rfl⟩
theorem ownD_secs {base : Nat} {v : Value} {l : List ByteArray} {w : World} (h : OwnS base v l w) : OwnD base v (.slice none 0 0) ⟨l, []⟩ w := by
  refine ⟨h, ownW_nil _ _, ?_⟩
  cases hv : v.ownBlock with
  | none => exact .inl rfl
  | some b => exact .inr (by simp [Value.ownBlock])
set_option maxHeartbeats 4000000 in
theorem specDiskNew_any (n : Int) (w : World) :
    Calls Try.prog 23 #[.int .i64 n] w fun e w' => ∃ s c, e = .returned (.agg #[s, c]) ∧ OwnD w.heap.size s c (dkNew n) w' ∧ Below w.heap.size w w' := by
  have HA := two_allocs w (.cells #[.slice none 0 0, .slice none 0 0] 26) (.cells #[.slice none 0 0, .slice none 0 0] 26)
  have B0 := hide (((Below.refl w.heap.size w).alloc (Nat.le_refl _) (.cells #[.slice none 0 0, .slice none 0 0] 26)).alloc (by simp) (.cells #[.slice none 0 0, .slice none 0 0] 26))
  by_cases h7 : 700 < n
  · rw [dkNew_no (.inr h7)]
    obtain ⟨y0, y1, yf⟩ := cells2 HA.1
    clear HA
    go_enter Try.func23, Try.ntmps23
    go_wp2
    refine bodyPost_ret (v := .agg #[.slice none 0 0, .slice none 0 0]) (by simp [results, Try.results23, go_sem]) rfl ⟨_, _, rfl, ownD_nil _ _, ?_⟩
    exact B0.out
  · have HA1 := hide HA.1
    have HA2 := hide HA.2.1
    have HZ := hide HA.2.2
    clear HA
    obtain ⟨i0, hi, hz0, hz1, hz2⟩ := info_parts Try.infoU8
    have hsz : (((w.alloc (.cells #[.slice none 0 0, .slice none 0 0] 26)).alloc (.cells #[.slice none 0 0, .slice none 0 0] 26)).heap.size) = w.heap.size + 1 + 1 := by simp
    have HSZ := hide hsz
    clear hsz
    have hcz : (madeCells (Value.int .u8 0).cells (64 * 1)).toList = (numsU zSec).map (Value.int .u8) := by kernel_rfl
    go_enter Try.func23, Try.ntmps23
    go_wp2_with (at_make; refine wpList_make_full _ rfl _ _ 22 rfl w.heap.size 5 i0 (.int .u8 0) 1 Try.underlying22 hi hz0 hz1 .i64 .i64 _ _ 64 rfl rfl rfl rfl (by rw [hz2]; omega) (by unfold maxLen; omega) (by simp; omega) ?_; intro w1 hown1 hgrow1; rw [hcz, HSZ.out] at hown1; have hcv := (show OwnB w.heap.size _ zSec w1 from hown1).conv; rw [show mkS zSec = blank from rfl] at hcv; have B1 := hide (B0.out.grown hgrow1 (by simp; omega) (fun j hj => by simp at hj)); have X1 := hide ((hgrow1.block w.heap.size (by simp; omega) (by simp)).trans HA1.out); have Y1 := hide ((hgrow1.block (w.heap.size + 1) (by simp) (by simp)).trans HA2.out); have Z1 : w.heap.size + 1 + 1 ≤ w1.heap.size := (by have := hgrow1.size; rw [HSZ.out] at this; exact this); clear hown1 hgrow1)
    obtain ⟨j0, hj, hy0, hy1, hy2⟩ := info_parts Try.infoStr'
    clear hcv hcz hi hz0 hz1 hz2 B0 HA1 HA2 HZ HSZ
    go_loopw [5] (fun i wr => ∃ (k : Nat) (v : Value), (n ≤ 0 ∧ k = 0 ∨ 0 < n ∧ (k : Int) ≤ n) ∧ i = .int .i64 k ∧ Hid (wr.heap[w.heap.size]? = some (.cells #[.slice none 0 0, .slice none 0 0] 26 (0, 0))) ∧ Hid (wr.heap[w.heap.size + 1]? = some (.cells #[v, .slice none 0 0] 26 (0, 0))) ∧ Hid (OwnS (w.heap.size + 2) v (List.replicate k blank) wr) ∧ Below w.heap.size w wr) (fun i _ => n.toNat - (intOf i).toNat)
    case atStart => exact ⟨0, .slice none 0 0, by omega, rfl, X1, Y1, ownS_nil _ _, B1.out⟩
    case round =>
      obtain ⟨k, v, hk, rfl, HX, HY, HO, hb⟩ := hrel
      clear X1 Y1 B1
      have hlt1 : w.heap.size + 1 < wr.heap.size := (Array.getElem?_eq_some_iff.1 HY.out).1
      obtain ⟨ao, cap, hv⟩ := ownS_shape HO.out
      rw [List.length_replicate] at hv
      subst hv
      by_cases hlt : (k : Int) < n
      · have HB := hide (hb.alloc (by omega) (.cells #[.string blank] 9))
        have hown := owns_below HO.out ((Below.refl wr.heap.size wr).alloc (Nat.le_refl _) (.cells #[.string blank] 9))
        rw [List.length_replicate] at hown
        obtain ⟨y0, y1, yf⟩ := cells2 HY.out
        go_wp2_with (at_builtin; refine wpList_append_own _ rfl _ _ 23 rfl (w.heap.size + 2) 9 j0 (.string ⟨#[]⟩) 1 16 Try.underlying23 hj hy0 hy1 hy2 rfl (by decide) _ _ _ rfl hown ⟨wr.heap.size, 0, none⟩ 1 1 [.string blank] rfl rfl (cell_str_new _ _ _) (one_str _) (by unfold maxLen; omega) (by omega) (by simp; omega) ?_; intro v5 w5 hown5 hgrow5 hnn5; obtain ⟨g5, c5, rfl⟩ := own_succ hown5; have O5 := hide (ownS_rep hown5); have Y5 := hide ((hgrow5.block (w.heap.size + 1) (by simp; omega) (fun e => by have := (World.ownsRow.lt hown _ e.symm).1; omega)).trans ((heap_old _ _ _ (by omega)).trans HY.out)); have X5 := hide ((hgrow5.block w.heap.size (by simp; omega) (fun e => by have := (World.ownsRow.lt hown _ e.symm).1; omega)).trans ((heap_old _ _ _ (by omega)).trans HX.out)); have B5 := hide (HB.out.grown hgrow5 (by simp; omega) (fun b e => by have := (World.ownsRow.lt hown _ e).1; omega)); obtain ⟨z0, z1, zf⟩ := cells2 Y5.out; clear hown5 hgrow5 hnn5)
        go_roundw
        case rel => exact ⟨k + 1, _, by omega, by go_num, (by show _ = _; rw [heap_far _ _ _ _ _ (by omega)]; exact X5.out), (by show _ = _; have := heap_setCell_same _ _ 0 _ _ (.slice (some ⟨g5, 0, none⟩) (k + 1) c5) Y5.out; simpa using this), own_set O5.out (by omega), B5.out.setCell (by simp) _⟩
        case measure => simp [intOf]; omega
      · obtain ⟨x0, x1, xf⟩ := cells2 HX.out
        obtain ⟨y0, y1, yf⟩ := cells2 HY.out
        have HD : Hid (dkNew n = ⟨List.replicate k blank, []⟩) := by
          show _ = _
          by_cases hn : n ≤ 0
          · rw [dkNew_no (.inl hn)]
            obtain rfl : k = 0 := by omega
            rfl
          · obtain rfl : n = (k : Int) := by omega
            exact dkNew_yes k (by omega)
        go_wp2
        refine bodyPost_ret (v := .agg #[.slice ao k cap, .slice none 0 0]) (by simp [results, Try.results23, go_sem, x0, x1]) rfl ⟨_, _, rfl, ?_, ?_⟩
        · rw [HD.out]
          exact ((ownD_secs HO.out).set (by omega) |>.set (by omega)).base (by omega)
        · exact (hb.setCell (by simp) _).setCell (by simp) _
set_option maxHeartbeats 4000000 in
theorem implDiskNew_any (n : Int) (w : World) :
    Calls Try.prog 24 #[.int .i64 n] w fun e w' => ∃ s c, e = .returned (.agg #[s, c]) ∧ OwnD w.heap.size s c (dkNew n) w' ∧ Below w.heap.size w w' := by
  have B0 := hide ((Below.refl w.heap.size w).alloc (Nat.le_refl _) (.cells #[.slice none 0 0, .slice none 0 0] 26))
  have X0 := hide (heap_alloc_new w (.cells #[.slice none 0 0, .slice none 0 0] 26))
  by_cases hbad : n < 0 ∨ 700 < n
  · rw [dkNew_no (by omega)]
    obtain ⟨y0, y1, yf⟩ := cells2 X0.out
    by_cases h0 : n < 0
    · go_enter Try.func24, Try.ntmps24
      go_wp2
      refine bodyPost_ret (v := .agg #[.slice none 0 0, .slice none 0 0]) (by simp [results, Try.results24, go_sem]) rfl ⟨_, _, rfl, ownD_nil _ _, ?_⟩
      exact B0.out
    · have h7 : 700 < n := by omega
      go_enter Try.func24, Try.ntmps24
      go_wp2
      refine bodyPost_ret (v := .agg #[.slice none 0 0, .slice none 0 0]) (by simp [results, Try.results24, go_sem]) rfl ⟨_, _, rfl, ownD_nil _ _, ?_⟩
      exact B0.out
  · obtain ⟨k, rfl⟩ : ∃ k : Nat, n = (k : Int) := ⟨n.toNat, by omega⟩
    have hk : k ≤ 700 := by omega
    rw [dkNew_yes k hk]
    have h0 : ¬ (k : Int) < 0 := by omega
    have h7 : ¬ 700 < (k : Int) := by omega
    have HST := hide (fun W => sectorText_any zSec zSec_len W)
    have HRP := hide (fun g c W => repeat_any g c blank k (by omega) W)
    clear hbad
    go_enter Try.func24, Try.ntmps24
    go_wp2_with (first | (go_at_call 70; refine (HST.out _).mono ?_; rintro e w1 ⟨rfl, b1⟩; rw [show mkS zSec = blank from rfl]; have X1 := hide ((b1.block w.heap.size (by simp)).trans X0.out); have B1 := hide (B0.out.trans (b1.mono B0.out.size)); have z1 : w.heap.size < w1.heap.size := (Array.getElem?_eq_some_iff.1 X1.out).1; clear b1) | (go_at_call 69; refine (HRP.out w1.heap.size 1 _ (by rw [cell_of_row _ _ _ _ _ _ (heap_alloc_new w1 _)]; rfl) (by simp)).mono ?_; rintro e w2 ⟨v, rfl, o2, b2⟩; have X2 := hide ((b2.block w.heap.size (by simp; omega)).trans ((heap_old _ _ _ (by omega)).trans X1.out)); have B2 := hide ((B1.out.alloc (by omega) (.cells #[.string blank] 9)).trans (b2.mono (by simp; omega))); have O2 := hide (ownD_secs (owns_base o2 (show w.heap.size + 1 ≤ _ by simp; omega))); obtain ⟨ao, cap, rfl⟩ := ownS_shape o2; rw [List.length_replicate]; obtain ⟨y0, y1, yf⟩ := cells2 X2.out; clear o2 b2))
    refine bodyPost_ret (v := .agg #[.slice ao k cap, .slice none 0 0]) (by simp [results, Try.results24, go_sem, y0, y1]) rfl ⟨_, _, rfl, ?_, ?_⟩
    · have := O2.out
      rw [List.length_replicate] at this
      exact ((this.set (by omega)).set (by omega)).base (by omega)
    · exact (B2.out.setCell (by simp) _).setCell (by simp) _
end Go.Proofs.Ytfhfhpnoeghgmaa

/-
  A disk that is being drawn: what its steps need. Plain laws.
-/
namespace Go.Proofs.Ytfhfhpnoeghgmaa
open Go.RowKit
set_option maxRecDepth 100000

theorem right_inn {d : Dk} (h : dkRight d = true) : dkIn d := by
  refine ⟨fun s hs => ?_, fun x hx => ?_⟩
  · obtain ⟨i, hi, rfl⟩ := List.getElem_of_mem hs
    unfold dkRight at h
    simp only [Bool.and_eq_true] at h
    have h2 := (upto_iff _ _).1 h.1.2 i hi
    unfold secOk at h2
    simp only [decide_eq_true_eq] at h2
    rw [List.getD_eq_getElem?_getD, List.getElem?_eq_getElem hi] at h2
    simp at h2
    rw [h2]; unfold maxLen; omega
  · have h1 := dkRight_cache h x hx
    have hb := dkRight_bounds h
    unfold wI64
    refine ⟨⟨by omega, by omega⟩, ?_⟩
    rw [h1.2.2]; unfold maxLen; omega
theorem right_nil : dkRight ⟨[], []⟩ = true := rfl
theorem new_right (v : Int) : dkRight (dkNew v) = true := by
  by_cases h : v ≤ 0 ∨ 700 < v
  · rw [dkNew_no h]; rfl
  · obtain ⟨k, rfl⟩ := Int.eq_ofNat_of_zero_le (show 0 ≤ v by omega)
    rw [dkNew_yes k (by omega)]
    refine dkRight_yes (by show (List.replicate k blank).length ≤ 700; rw [List.length_replicate]; omega) (by simp) ?_ (by rfl)
    rw [upto_iff]
    intro i hi
    have hi' : i < k := by simpa using hi
    unfold secOk
    have e : (List.replicate k blank).getD i ByteArray.empty = blank := by simp [List.getD_eq_getElem?_getD, hi']
    show decide (((List.replicate k blank).getD i ByteArray.empty).size = 64) = true
    rw [e]
    unfold blank
    rw [mkS_size, zSec_len]; rfl
theorem write_right (d : Dk) (a : Int) (t : ByteArray) : (dkWrite d a t).2 = 0 → dkRight (dkWrite d a t).1 = true := fun h => by
  obtain ⟨h1, h2, h3, h4, h5⟩ := wrote h
  obtain ⟨k, rfl⟩ := Int.eq_ofNat_of_zero_le h2
  rw [h5]
  exact wrote_right h1 (by omega) h4
theorem flush_right {d : Dk} (h : dkRight d = true) : dkRight (dkFlush d) = true := by rw [dkFlush_y h]; exact flushed_r h
theorem OwnD.shp {base : Nat} {s c : Value} {d : Dk} {w : World} (h : OwnD base s c d w) : ∃ so n1 p co n2 q, s = .slice so n1 p ∧ c = .slice co n2 q ∧ (n1 = d.secs.length ∧ n2 = d.cache.length) := by
  obtain ⟨so, p, co, q, e1, e2⟩ := h.shape
  exact ⟨so, _, p, co, _, q, e1, e2, rfl, rfl⟩
theorem own_above {base z : Nat} {s c : Value} {d : Dk} {w : World} (h : OwnD base s c d w) (hz : z < base) : ∀ v ∈ [s, c], ∀ b, v.ownBlock = some b → b ≠ z := fun v hv b hb => by
  simp at hv
  rcases hv with rfl | rfl
  · have := (h.lt.1 b hb).1; omega
  · have := (h.lt.2 b hb).1; omega
theorem own_under {base : Nat} {s c : Value} {d : Dk} {w : World} (h : OwnD base s c d w) : ∀ v ∈ [s, c], ∀ b, v.ownBlock = some b → b ≠ w.heap.size := fun v hv b hb => by
  simp at hv
  rcases hv with rfl | rfl
  · have := (h.lt.1 b hb).2; omega
  · have := (h.lt.2 b hb).2; omega
theorem outAt_gen {lo z : Nat} {s c : Value} {t : ByteArray} {K : Int} {D : Dk} {W : World} {a0 a1 a2 a3 : Value} (hz : W.heap[z]? = some (.cells #[a0, a1, a2, a3] 37 (0, 0))) (ho : OwnD lo s c D W) (hf : ∀ v ∈ [s, c], ∀ b, v.ownBlock = some b → b ≠ z) (hlo : lo ≤ z) : OutAt lo z s c t K D (setO W z s c t K) :=
  ⟨set4w hz, (((ho.setF hf).setF hf).setF hf).setF hf, hf, hlo⟩
/-- A write to another block. -/
theorem DS.early {w W : World} {B g h z : Nat} {s c a b : Value} {t : ByteArray} {K : Int} {d : Dk} (S : DS B g h w s c d W) (hz : h + 1 ≤ z) (hf : ∀ v ∈ [s, c], ∀ b, v.ownBlock = some b → b ≠ z) : DS B g h w s c d (setO W z a b t K) := by
  have h1 := S.low
  have h2 := S.gap
  have h3 := S.lowB
  have hb : Below z W (setO W z a b t K) := setO_below (Below.refl z W) (Nat.le_refl _)
  have hsz : (setO W z a b t K).heap.size = W.heap.size := by unfold setO; simp
  refine ⟨S.src.kept (hb.mono (by omega)) (hb.block g (by omega)), ⟨S.gr.os, S.gr.tape, S.gr.output, by rw [hsz]; exact S.gr.size, fun k hk hn => (hb.block k (by omega)).trans (S.gr.block k hk hn)⟩, (hb.block _ (by omega)).trans S.res, (hb.block _ (by omega)).trans S.var, (((S.own.setF hf).setF hf).setF hf).setF hf, S.far, h2, h1, h3⟩
end Go.Proofs.Ytfhfhpnoeghgmaa

/-
  A disk that is being drawn: lists that are appended to. Plain laws.
-/
namespace Go.Proofs.Ytfhfhpnoeghgmaa
open Go.RowKit
set_option maxRecDepth 100000

section
variable {w W W' : World} {B g h : Nat} {s c v : Value} {d d' : Dk} {row : Option Nat}
theorem DS.gput (S : DS B g h w s c d W) (k : W.grownBy W' row) (hr : ∀ j, row = some j → w.heap.size + 1 ≤ j ∧ j ≠ h) : Src W' B g ∧ w.grownBy W' (some g) ∧ W'.heap[w.heap.size]? = some (.cells #[.slice none 0 0, .slice none 0 0] 26 (0, 0)) ∧ W'.heap[h]? = some (.cells #[s, c] 26 (0, 0)) := by
  have hz := S.gr.size
  have hg := S.low
  have hp := S.gap
  have hB := S.lowB
  have hv := blkS S.var
  have hn := blkS S.res
  refine ⟨S.src.kept ((Below.refl B W).grown k (by omega) (fun j hj => by have := (hr j hj).1; omega)) (k.block g (by omega) (fun e => by have := (hr g e.symm).1; omega)), ⟨k.os.trans S.gr.os, k.tape.trans S.gr.tape, k.output.trans S.gr.output, Nat.le_trans hz k.size, fun j hj hn' => ?_⟩, (k.block _ hn (fun e => by have := (hr _ e.symm).1; omega)).trans S.res, (k.block _ hv (fun e => (hr _ e.symm).2 rfl)).trans S.var⟩
  exact (k.block j (by omega) (fun e => by have := (hr j e.symm).1; omega)).trans (S.gr.block j hj hn')
theorem DS.gput0 (S : DS B g h w s c d W) (k : W.grownBy W' row) (hr : ∀ j, row = some j → w.heap.size + 1 ≤ j ∧ j ≠ h) (ho : OwnD (w.heap.size + 1) v c d' W') (hf : ∀ b, v.ownBlock = some b → b ≠ h) : DS B g h w v c d' (W'.setCell ⟨h, 0, none⟩ v) := by
  obtain ⟨h1, h2, h3, h4⟩ := S.gput k hr
  have hg := S.low
  have hp := S.gap
  have hB := S.lowB
  have hb : Below h W' (W'.setCell ⟨h, 0, none⟩ v) := (Below.refl h W').setCell (p := ⟨h, 0, none⟩) (Nat.le_refl _) _
  have e := heap_setCell_same W' h 0 _ _ v h4
  have hf' : ∀ u ∈ [v, c], ∀ b, u.ownBlock = some b → b ≠ h := fun u hu b hb' => by
    simp at hu
    rcases hu with rfl | rfl
    · exact hf b hb'
    · exact S.far _ (by simp) b hb'
  exact ⟨h1.kept (hb.mono (by omega)) (hb.block g (by omega)), ⟨h2.os, h2.tape, h2.output, by simpa using h2.size, fun j hj hn' => (hb.block j (by omega)).trans (h2.block j hj hn')⟩, (hb.block _ (by omega)).trans h3, by simpa using e, ho.setF hf', hf', hp, hg, hB⟩
theorem DS.gput1 (S : DS B g h w s c d W) (k : W.grownBy W' row) (hr : ∀ j, row = some j → w.heap.size + 1 ≤ j ∧ j ≠ h) (ho : OwnD (w.heap.size + 1) s v d' W') (hf : ∀ b, v.ownBlock = some b → b ≠ h) : DS B g h w s v d' (W'.setCell ⟨h, 1, none⟩ v) := by
  obtain ⟨h1, h2, h3, h4⟩ := S.gput k hr
  have hg := S.low
  have hp := S.gap
  have hB := S.lowB
  have hb : Below h W' (W'.setCell ⟨h, 1, none⟩ v) := (Below.refl h W').setCell (p := ⟨h, 1, none⟩) (Nat.le_refl _) _
  have e := heap_setCell_same W' h 1 _ _ v h4
  have hf' : ∀ u ∈ [s, v], ∀ b, u.ownBlock = some b → b ≠ h := fun u hu b hb' => by
    simp at hu
    rcases hu with rfl | rfl
    · exact S.far _ (by simp) b hb'
    · exact hf b hb'
  exact ⟨h1.kept (hb.mono (by omega)) (hb.block g (by omega)), ⟨h2.os, h2.tape, h2.output, by simpa using h2.size, fun j hj hn' => (hb.block j (by omega)).trans (h2.block j hj hn')⟩, (hb.block _ (by omega)).trans h3, by simpa using e, ho.setF hf', hf', hp, hg, hB⟩
/-- Rows to write to: their block is none of the variable's, the source's, the result's. -/
theorem DS.rowS (S : DS B g h w s c d W) : ∀ j, s.ownBlock = some j → w.heap.size + 1 ≤ j ∧ j ≠ h := fun j hj => ⟨(S.own.lt.1 j hj).1, S.far s (by simp) j hj⟩
theorem DS.rowC (S : DS B g h w s c d W) : ∀ j, c.ownBlock = some j → w.heap.size + 1 ≤ j ∧ j ≠ h := fun j hj => ⟨(S.own.lt.2 j hj).1, S.far c (by simp) j hj⟩
/-- The sectors with more behind them. -/
theorem DS.appS {l : List ByteArray} (S : DS B g h w s c d W) (ho : OwnS (w.heap.size + 1) v (d.secs ++ l) W') (k : W.grownBy W' s.ownBlock) (hl : v.ownBlock = s.ownBlock ∨ v.ownBlock = some W.heap.size) : DS B g h w v c ⟨d.secs ++ l, d.cache⟩ (W'.setCell ⟨h, 0, none⟩ v) := by
  have hv := blkS S.var
  refine S.gput0 k S.rowS ⟨ho, ?_, ?_⟩ ?_
  · exact World.ownsRow.kept S.own.cache k (by
      by_cases hn : c.ownBlock = none
      · exact .inl hn
      · refine .inr (fun e' => ?_)
        rcases S.own.apart with e | e
        · exact hn (e'.trans e)
        · exact e e'.symm)
  · rcases hl with e | e
    · rw [e]; exact S.own.apart
    · rw [e]; exact .inr (fun e' => by have := (S.own.lt.2 _ e'.symm).2; omega)
  · intro b hb
    rcases hl with e | e
    · rw [e] at hb; exact S.far s (by simp) b hb
    · rw [e] at hb; have := Option.some.inj hb; omega
/-- The cache with more behind it. -/
theorem DS.appC {l : List Wr} (S : DS B g h w s c d W) (ho : OwnW (w.heap.size + 1) v (d.cache ++ l) W') (k : W.grownBy W' c.ownBlock) (hl : v.ownBlock = c.ownBlock ∨ v.ownBlock = some W.heap.size) : DS B g h w s v ⟨d.secs, d.cache ++ l⟩ (W'.setCell ⟨h, 1, none⟩ v) := by
  have hv := blkS S.var
  refine S.gput1 k S.rowC ⟨World.ownsRow.kept S.own.secs k S.own.apart, ho, ?_⟩ ?_
  · rcases hl with e | e
    · rw [e]; exact S.own.apart
    · rw [e]
      by_cases hn : s.ownBlock = none
      · exact .inl hn
      · exact .inr (fun e' => by have := (S.own.lt.1 _ e').2; omega)
  · intro b hb
    rcases hl with e | e
    · rw [e] at hb; exact S.far c (by simp) b hb
    · rw [e] at hb; have := Option.some.inj hb; omega
end
end Go.Proofs.Ytfhfhpnoeghgmaa

/-
  A disk's variable whose cache is appended to. Plain laws.
-/
namespace Go.Proofs.Ytfhfhpnoeghgmaa
open Go.RowKit
set_option maxRecDepth 100000

theorem own_shape' {base n size : Nat} {t : TypeId} {v : Value} {xs : List Value} {w : World} (h : w.ownsRow base t size v n xs) : ∃ ao cap, v = .slice ao n cap := by
  rcases h.2 with ⟨h1, h2⟩ | ⟨g, cap, cur, h1, _⟩
  · exact ⟨none, 0, by rw [h1, h2]⟩
  · exact ⟨_, _, h1⟩
/-- The variable lies in block g, the result's in block w.heap.size + 1; the variable's lists are its own, in blocks below g at first. -/
structure GI (w : World) (g : Nat) (s c c0 : Value) (n2 : Nat) (d : Dk) (W : World) : Prop where
  below : Below w.heap.size w W
  var : W.heap[g]? = some (.cells #[s, c0] 26 (0, 0))
  res : W.heap[w.heap.size + 1]? = some (.cells #[.slice none 0 0, .slice none 0 0, .string ⟨#[]⟩, .int .i64 0] 37 (0, 0))
  own : OwnD (w.heap.size + 2) s c d W
  num : n2 = d.cache.length
  far : (∀ b, s.ownBlock = some b → b ≠ g) ∧ (∀ b, c.ownBlock = some b → b ≠ g)
  gap : w.heap.size + 2 ≤ g
section
variable {w w2 w3 W W' : World} {g n2 m : Nat} {s c c0 v : Value} {d : Dk} {k : List Wr}
theorem GI.lt (h : GI w g s c c0 n2 d W) : w.heap.size + 2 ≤ W.heap.size := by have := (Array.getElem?_eq_some_iff.1 h.var).1; have := h.gap; omega
theorem GI.start (hb : Below w.heap.size w w2) (hl : w.heap.size + 1 < w2.heap.size) (hy : w2.heap[w.heap.size + 1]? = some (.cells #[.slice none 0 0, .slice none 0 0, .string ⟨#[]⟩, .int .i64 0] 37 (0, 0)))
    (ho : OwnD w2.heap.size s c d w3) (h3 : Below w2.heap.size w2 w3) (hn : n2 = d.cache.length) : GI w w3.heap.size s c c n2 d (w3.alloc (.cells #[s, c] 26)) := by
  have hz := h3.size
  have hk := (Below.refl w3.heap.size w3).alloc (Nat.le_refl _) (.cells #[s, c] 26)
  exact ⟨(hb.trans (h3.mono hb.size)).trans (hk.mono (by omega)), heap_alloc_new _ _, (heap_old _ _ _ (by omega)).trans ((h3.block _ hl).trans hy), (ho.below hk).base (by omega), hn, ⟨fun b hb => by have := (ho.lt.1 b hb).2; omega, fun b hb => by have := (ho.lt.2 b hb).2; omega⟩, by omega⟩
theorem GI.keep (h : GI w g s c c0 n2 d W) (hb : Below W.heap.size W W') : GI w g s c c0 n2 d W' :=
  ⟨h.below.trans (hb.mono h.below.size), (hb.block _ (Array.getElem?_eq_some_iff.1 h.var).1).trans h.var, (hb.block _ (Array.getElem?_eq_some_iff.1 h.res).1).trans h.res, h.own.below hb, h.num, h.far, h.gap⟩
theorem GI.drew (h : GI w g s c c0 n2 d W) : GI w g s c c0 n2 d W.drew := h.keep (Below.refl _ _).drew
theorem GI.cacheN (h : GI w g s c c0 n2 d W) : W.ownsRow (w.heap.size + 2) 122 2 c n2 (flatW d.cache) := by
  have := h.own.cache
  unfold OwnW at this
  rwa [← h.num] at this
theorem GI.app (h : GI w g s c c0 n2 d W) (ho : W'.ownsRow (w.heap.size + 2) 122 2 v (n2 + m) (flatW d.cache ++ flatW k)) (hg : W.grownBy W' c.ownBlock) (hl : v.ownBlock = c.ownBlock ∨ v.ownBlock = some W.heap.size) (hn : n2 = d.cache.length) (hk : k.length = m) :
    GI w g s v c0 (n2 + m) ⟨d.secs, d.cache ++ k⟩ W' := by
  have hgv := (Array.getElem?_eq_some_iff.1 h.var).1
  have hgr := (Array.getElem?_eq_some_iff.1 h.res).1
  refine ⟨h.below.grown hg h.below.size (fun b hb => by have := (h.own.lt.2 b hb).1; omega), (hg.block g hgv (fun e => h.far.2 g e.symm rfl)).trans h.var, (hg.block _ hgr (fun e => by have := (h.own.lt.2 _ e.symm).1; omega)).trans h.res, ⟨World.ownsRow.kept h.own.secs hg h.own.apart, ?_, ?_⟩, by simp [hn, hk], ⟨h.far.1, fun b hb => ?_⟩, h.gap⟩
  · unfold OwnW
    rw [flatW_append, List.length_append, ← hn, hk]
    exact ho
  · rcases hl with e | e
    · rw [e]; exact h.own.apart
    · rw [e]; exact .inr (fun e' => ne_new (fun b hb => (h.own.lt.1 b hb).2) e')
  · rcases hl with e | e
    · rw [e] at hb; exact h.far.2 b hb
    · rw [e] at hb
      have := Option.some.inj hb
      omega
theorem own_ne {W : World} {base g m n size : Nat} {v x : Value} {xs : List Value} {t : TypeId} (h : W.ownsRow base t size v n xs) (hg : ∀ b, v.ownBlock = some b → b ≠ g) : (W.setCell ⟨g, m, none⟩ x).ownsRow base t size v n xs := by
  refine ⟨h.1, ?_⟩
  rcases h.2 with h0 | ⟨q, cap, cur, rfl, hB, hq, hn, hm, hs, ht⟩
  · exact .inl h0
  · exact .inr ⟨q, cap, cur, rfl, hB, by rw [heap_setCell_other _ _ _ _ (show q ≠ g from hg q rfl)]; exact hq, hn, hm, hs, ht⟩
theorem GI.set (h : GI w g s c c0 n2 d W) : (W.setCell ⟨g, 1, none⟩ c).heap[g]? = some (.cells #[s, c] 26 (0, 0)) ∧ (W.setCell ⟨g, 1, none⟩ c).heap[w.heap.size + 1]? = some (.cells #[.slice none 0 0, .slice none 0 0, .string ⟨#[]⟩, .int .i64 0] 37 (0, 0)) ∧ OwnD (w.heap.size + 2) s c d (W.setCell ⟨g, 1, none⟩ c) ∧ Below w.heap.size w (W.setCell ⟨g, 1, none⟩ c) := by
  have hgap := h.gap
  refine ⟨?_, (heap_far _ _ _ _ _ (by omega)).trans h.res, ⟨own_ne h.own.secs h.far.1, own_ne h.own.cache h.far.2, h.own.apart⟩, h.below.setCell (by simp; omega) _⟩
  have := heap_setCell_same W g 1 _ _ c h.var
  simpa using this
theorem GI.put (h : GI w g s c c0 n2 d W) : GI w g s c c n2 d (W.setCell ⟨g, 1, none⟩ c) :=
  ⟨h.set.2.2.2, h.set.1, h.set.2.1, h.set.2.2.1, h.num, h.far, h.gap⟩
end
end Go.Proofs.Ytfhfhpnoeghgmaa

/-
  A disk that is being drawn: its lists' lengths, and the bounds of what is appended. Plain laws.
-/
namespace Go.Proofs.Ytfhfhpnoeghgmaa
open Go.RowKit
set_option maxRecDepth 100000

theorem own_str_one (w : World) (x : ByteArray) : (w.alloc (.cells #[.string x] 9)).ownsRow w.heap.size 9 1 (.slice (some ⟨w.heap.size, 0, none⟩) 1 1) 1 [.string x] :=
  ⟨rfl, .inr ⟨w.heap.size, 1, _, rfl, Nat.le_refl _, heap_alloc_new _ _, Nat.le_refl _, by decide, rfl, rfl⟩⟩
theorem str_one (x : ByteArray) : ∀ u ∈ [Value.string x], u.oneCell' = true := fun u hu => by simp at hu; subst hu; rfl
theorem ownS_snoc {base : Nat} {v : Value} {l : List ByteArray} {w : World} {n : Nat} {x : ByteArray} (h : w.ownsRow base 9 1 v (n + 1) (strsV l ++ [.string x])) (hn : n = l.length) : OwnS base v (l ++ [x]) w := by
  subst hn
  unfold OwnS strsV
  rw [List.length_append, List.map_append]
  exact h
theorem own_len {base n m size : Nat} {t : TypeId} {ao : Option Addr} {p : Nat} {xs : List Value} {w : World} (h : w.ownsRow base t size (.slice ao n p) m xs) : n = m := by
  obtain ⟨_, _, e⟩ := own_shape' h
  injection e
section
variable {w W : World} {B g h : Nat} {so co : Option Addr} {n1 p n2 q : Nat} {s c : Value} {d : Dk}
theorem DS.len1 (S : DS B g h w (.slice so n1 p) c d W) : n1 = d.secs.length := own_len S.own.secs
theorem DS.len2 (S : DS B g h w s (.slice co n2 q) d W) : n2 = d.cache.length := own_len S.own.cache
theorem DS.secsN (S : DS B g h w (.slice so n1 p) c d W) : W.ownsRow (w.heap.size + 1) 9 1 (.slice so n1 p) n1 (strsV d.secs) := by
  have h1 := S.own.secs
  unfold OwnS at h1
  rwa [← S.len1] at h1
theorem DS.cacheN (S : DS B g h w s (.slice co n2 q) d W) : W.ownsRow (w.heap.size + 1) 122 2 (.slice co n2 q) n2 (flatW d.cache) := by
  have h1 := S.own.cache
  unfold OwnW at h1
  rwa [← S.len2] at h1
theorem in_secs {x : ByteArray} (hd : dkIn d) (hx : x.size ≤ maxLen) : dkIn ⟨d.secs ++ [x], d.cache⟩ := by
  refine ⟨fun y hy => ?_, hd.2⟩
  rcases List.mem_append.1 hy with hy | hy
  · exact hd.1 y hy
  · simp at hy; subst hy; exact hx
theorem in_cache {x : Wr} (hd : dkIn d) (hx : wI64 x.pos ∧ x.text.size ≤ maxLen) : dkIn ⟨d.secs, d.cache ++ [x]⟩ := by
  refine ⟨hd.1, fun y hy => ?_⟩
  rcases List.mem_append.1 hy with hy | hy
  · exact hd.2 y hy
  · simp at hy; subst hy; exact hx
theorem fits_of {d : Dk} (h1 : d.secs.length ≤ 1000) (h2 : d.cache.length ≤ 1000) : dkFits d := ⟨by omega, by omega⟩
/-- The first sector's text. -/
theorem DS.first (S : DS B g h w (.slice so n1 p) c d W) (hn : 0 < n1) (hi : dkIn d) : ∃ sg, so = some ⟨sg, 0, none⟩ ∧ W.cell? ⟨sg, 0, none⟩ = some (.string (d.secs.getD 0 ByteArray.empty)) ∧ (d.secs.getD 0 ByteArray.empty).size ≤ maxLen ∧ sg ≠ h ∧ sg < W.heap.size := by
  have ho := S.secsN
  have hl := S.len1
  rcases ho.2 with ⟨_, h0⟩ | ⟨sg, cap, cur, hv, hB, hq, hn', hm, hs, ht⟩
  · omega
  · injection hv with e1 e2 e3
    refine ⟨sg, e1, ?_, ?_, S.far (.slice so n1 p) (by simp) sg (by rw [e1]; rfl), blkS hq⟩
    · rw [e1] at ho
      have := World.ownsRow.cellAt ho 0 (by omega)
      rw [this]
      simp [strsV, List.getD_eq_getElem?_getD, show 0 < d.secs.length by omega]
    · refine hi.1 _ ?_
      rw [List.getD_eq_getElem?_getD, List.getElem?_eq_getElem (show 0 < d.secs.length by omega)]
      simp
end
end Go.Proofs.Ytfhfhpnoeghgmaa

/-
  Contracts: bytes that the source of draws makes.
-/
namespace Go.Proofs.Ytfhfhpnoeghgmaa
open Go.RowKit

set_option maxHeartbeats 1000000 in
theorem bytes_any (g B n : Nat) (hn : n ≤ 1000000) (w : World) (hs : Src w B g) (hB : B ≤ g) :
    Calls Try.prog 61 #[.pointer (some ⟨g, 0, none⟩), .int .i64 n] w fun e w' => ∃ t : ByteArray, e = .returned (.string t) ∧ t.size = n ∧ Src w' B g ∧ w.grownBy w' (some g) := by
  obtain ⟨i0, hi, hz0, hz1, hz2⟩ := info_parts Try.infoU8
  have hlt := hs.lt
  have HS : Hid (Src w B g) := hs
  clear hs
  go_enter Try.func61, Try.ntmps61
  go_wp2
  go_loopw [5, 6] (fun v i wr => ∃ (k : Nat) (xs : List Int), k ≤ n ∧ i = .int .i64 k ∧ wr.ownsRow w.heap.size 5 1 v k (xs.map (Value.int .u8)) ∧ Hid (Src wr B g) ∧ w.grownBy wr (some g))
    (fun _ i _ => n - (intOf i).toNat)
  case atStart => exact ⟨0, [], by omega, rfl, ⟨rfl, .inr ⟨w.heap.size, 0, #[], rfl, Nat.le_refl _, heap_alloc_new _ _, Nat.le_refl _, Nat.zero_le _, rfl, rfl⟩⟩,
      (HS.out).kept ((Below.refl _ _).alloc (by omega) _) (Below.heap_alloc _ _ _ hlt), grown_alloc (grown_self _ _) _⟩
  case round =>
    obtain ⟨k, xs, hk, rfl, hown, HSr, hgr⟩ := hrel
    by_cases hkl : k < n
    · have hzr := hgr.size
      go_wp2_with fail
      refine (n_any g B 256 (by omega) (by omega) _ HSr.out hB).mono ?_
      rintro e w1 ⟨v, rfl, hv0, hv1, hs1, hg1, hz1'⟩
      have hown1 := hown.kept hg1 (.inr (fun e => by have := (hown.lt g e).1; omega))
      have hgr1 := grown_trans hgr hg1 (fun j hj => .inl (by simpa using hj.symm))
      have HS1 : Hid (Src w1 B g) := hs1
      have hzw := hgr1.size
      clear hs1 hown hgr hg1 HSr hz1'
      go_wp2_with (at_builtin; refine wpList_append_own _ rfl _ _ 22 rfl w.heap.size 5 i0 (.int .u8 0) 1 1 Try.underlying22 hi hz0 hz1 hz2 rfl (by decide) _ _ _ rfl (hown1.alloc _) ⟨w1.heap.size, 0, none⟩ 1 1 [.int .u8 v] rfl rfl ?c1 ?c2 ?c3 ?c4 ?c5 ?_)
      case c1 => exact cell_one_new _ _ _
      case c2 => intro u hu; simp at hu; subst hu; rfl
      case c3 => unfold maxLen; omega
      case c4 => omega
      case c5 => simp; omega
      · intro v' w2 hown' hgrow _
        have hgr2 := grown_trans (grown_alloc hgr1 (.cells #[.int .u8 v] 5)) hgrow (fun j hj => .inr (hown1.lt j hj).1)
        have hb2 : Below B w1 w2 := ((Below.refl B w1).alloc (by omega) _).grown hgrow (by simp; omega) (fun j hj => by have := (hown1.lt j hj).1; omega)
        have hkg : w2.heap[g]? = w1.heap[g]? := by
          rw [hgrow.block g (by simp; omega) (fun e => by have := (hown1.lt g e.symm).1; omega), Below.heap_alloc _ _ _ (by omega)]
        have HS2 : Hid (Src w2 B g) := (HS1.out).kept hb2 hkg
        clear hown1 hgr1 HS1 hgrow hb2 hkg
        go_wp2
        go_roundw
        case rel => exact ⟨k + 1, xs ++ [v], by omega, by go_num, by simpa using hown', HS2, hgr2⟩
        case measure => simp [intOf]; omega
    · obtain rfl : k = n := by omega
      have hcv := convOwn (xs := xs) hown
      have hx : xs.length = k := by simpa using hown.1
      go_wp2
      go_ret
      exact ⟨_, rfl, by rw [strOfNums_size]; exact hx, HSr.out, hgr⟩
end Go.Proofs.Ytfhfhpnoeghgmaa

/-
  Contract: the bools that are drawn (l07Keep).
-/
namespace Go.Proofs.Ytfhfhpnoeghgmaa
open Go.RowKit
set_option maxRecDepth 100000

theorem Try.infoBoolK : (Try.prog.info? 4).map (fun i => (i.zero, i.size, i.bytes)) = some (some (.bool false), 1, 1) := by kernel_rfl
theorem own_bool_one (w : World) (x : Bool) : (w.alloc (.cells #[.bool x] 4)).ownsRow w.heap.size 4 1 (.slice (some ⟨w.heap.size, 0, none⟩) 1 1) 1 [.bool x] :=
  ⟨rfl, .inr ⟨w.heap.size, 1, _, rfl, Nat.le_refl _, heap_alloc_new _ _, Nat.le_refl _, by decide, rfl, rfl⟩⟩
theorem bool_one (x : Bool) : ∀ u ∈ [Value.bool x], u.oneCell' = true := fun u hu => by simp at hu; subst hu; rfl
theorem ownL_snoc {base : Nat} {v : Value} {l : List Bool} {w : World} {n : Nat} {x : Bool} (h : w.ownsRow base 4 1 v (n + 1) (boolsV l ++ [.bool x])) (hn : l.length = n) : OwnL base v (l ++ [x]) w := by
  unfold OwnL
  rw [List.length_append]
  simpa [boolsV, hn] using h
theorem ownL_sh {base : Nat} {v : Value} {l : List Bool} {w : World} (h : OwnL base v l w) : ∃ ao cap, v = .slice ao l.length cap := by
  obtain ⟨ao, cap, e, _⟩ := ownL_shape h
  exact ⟨ao, cap, e⟩
theorem src_far {W W' : World} {B g : Nat} {row : Option Nat} (h : Src W B g) (k : W.grownBy W' row) (hr : ∀ j, row = some j → g < j) (hB : B ≤ g) : Src W' B g := by
  have hl := h.lt
  exact h.kept ((Below.refl B W).grown k (by omega) (fun j hj => by have := hr j hj; omega)) (k.block g hl (fun e => by have := hr g (by first | exact e | exact e.symm); omega))
set_option maxHeartbeats 4000000 in
theorem l07Keep_any (g B n : Nat) (hn : n ≤ 400) (w : World) (hs : Src w B g) (hB : B ≤ g) :
    Calls Try.prog 98 #[.pointer (some ⟨g, 0, none⟩), .int .i64 n] w fun e w' => ∃ v l, e = .returned v ∧ OwnL w.heap.size v l w' ∧ l.length = n ∧ Src w' B g ∧ w.grownBy w' (some g) := by
  obtain ⟨j0, hj, hy0, hy1, hy2⟩ := info_parts Try.infoBoolK
  have hlt := hs.lt
  have S0 := hide ((hs).kept ((Below.refl _ _).alloc (by omega) (.cells #[] 4)) (Below.heap_alloc _ _ _ hlt))
  have G0 := hide (grown_alloc (grown_self w g) (.cells #[] 4))
  have O0 : Hid (OwnL w.heap.size (.slice (some ⟨w.heap.size, 0, none⟩) 0 0) [] (w.alloc (.cells #[] 4))) := own_empty (heap_alloc_new _ _) (Nat.le_refl _)
  clear hs
  go_enter Try.func98, Try.ntmps98
  go_wp2
  go_loopw [1, 5] (fun i v wr => ∃ (k : Nat) (l : List Bool), k ≤ n ∧ l.length = n - k ∧ i = .int .i64 k ∧ Hid (OwnL w.heap.size v l wr) ∧ Hid (Src wr B g) ∧ Hid (w.grownBy wr (some g))) (fun i _ _ => (intOf i).toNat)
  case atStart => exact ⟨n, [], Nat.le_refl _, by simp, rfl, O0, S0, G0⟩
  case round =>
    obtain ⟨k, l, hk, hlen, rfl, O, S, G⟩ := hrel
    clear O0 S0 G0
    obtain ⟨ao, cap, hv⟩ := ownL_sh O.out
    have HLEN := hide hlen
    rw [hlen] at hv
    subst hv
    by_cases hk0 : 0 < k
    · clear hlen
      go_wp2_with fail
      refine (one_any g B 2 (by omega) (by omega) _ S.out hB).mono ?_
      rintro e w2 ⟨b, rfl, hs2, hg2, hz2⟩
      have S3 := hide (hs2.kept ((Below.refl _ _).alloc (by have := hs2.lt; omega) (.cells #[.bool b] 4)) (Below.heap_alloc _ _ _ hs2.lt))
      have G3 := hide (grown_alloc (grown_trans G.out hg2 (fun j hj => .inl (by simpa using hj.symm))) (.cells #[.bool b] 4))
      have O3 := hide (World.ownsRow.alloc (own_grown O.out hg2 hlt) (.cells #[.bool b] 4))
      have R3 := hide (own_bool_one w2 b)
      have Z3 : Hid (w.heap.size ≤ (w2.alloc (.cells #[.bool b] 4)).heap.size) := G3.out.size
      rw [HLEN.out] at O3
      have HK : Hid (n - k ≤ 400) := by show _ ≤ _; omega
      clear hs2 hg2 hz2 O S G
      go_wp2_with (at_builtin; refine wpList_app_own rfl _ _ 43 rfl w.heap.size w2.heap.size 4 j0 (.bool false) 1 1 Try.underlying43 hj hy0 hy1 hy2 rfl (by decide) _ (n - k) _ rfl O3.out _ 1 _ rfl R3.out (bool_one _) (by unfold maxLen; have := HK.out; omega) (by have := HK.out; omega) Z3.out ?_; intro v5 w5 o5 g5 l5; have O5 := hide (ownL_snoc o5 HLEN.out); have RB5 := hide (fun j hj => (World.ownsRow.lt O3.out j hj).1); have S5 := hide (src_far S3.out g5 (fun j hj => by have := RB5.out j hj; omega) hB); have G5 := hide (grown_trans G3.out g5 (fun j hj => .inr (RB5.out j hj))); obtain ⟨ao5, cp5, hv5⟩ := ownL_sh O5.out; rw [List.length_append, List.length_singleton] at hv5; subst hv5; clear o5 g5 l5)
      go_roundw
      case rel => exact ⟨k - 1, l ++ [b], by omega, by rw [List.length_append, HLEN.out, List.length_singleton]; omega, by go_num, O5, S5, G5⟩
      case measure => simp [intOf]; omega
    · obtain rfl : k = 0 := by omega
      clear hlen
      go_wp2
      go_ret
      exact ⟨_, l, rfl, O.out, by rw [HLEN.out]; omega, S.out, G.out⟩
end Go.Proofs.Ytfhfhpnoeghgmaa

/-
  A draw of a disk with a source of its own: plain laws.
-/
namespace Go.Proofs.Ytfhfhpnoeghgmaa
open Go.RowKit
set_option maxRecDepth 100000

/-- A draw with a source of its own: the result's block, the source, the variable. -/
structure DT (B g h : Nat) (w : World) (s c : Value) (d : Dk) (W : World) : Prop where
  src : Src W B g
  below : Below w.heap.size w W
  res : W.heap[w.heap.size]? = some (.cells #[.slice none 0 0, .slice none 0 0] 26 (0, 0))
  var : W.heap[h]? = some (.cells #[s, c] 26 (0, 0))
  own : OwnD (g + 1) s c d W
  g1 : w.heap.size < g
  g2 : g < h
  lowB : B ≤ w.heap.size
section
variable {w W W' : World} {B g h : Nat} {s c : Value} {d : Dk}
theorem DT.step (S : DT B g h w s c d W) (hs : Src W' B g) (k : W.grownBy W' (some g)) : DT B g h w s c d W' := by
  have h1 := S.g1
  have h2 := S.g2
  have hv := blkS S.var
  refine ⟨hs, S.below.grown k (by omega) (fun j hj => by simp at hj; omega), (k.block _ (blkS S.res) (fun e => by simp at e; omega)).trans S.res, (k.block _ hv (fun e => by simp at e; omega)).trans S.var, ⟨own_grown S.own.secs k (by omega), own_grown S.own.cache k (by omega), S.own.apart⟩, h1, h2, S.lowB⟩
theorem DT.drew (S : DT B g h w s c d W) : DT B g h w s c d W.drew := S.step (S.src.kept (Below.refl B W).drew rfl) (grownBelow _ (Below.refl _ _).drew)
theorem DT.start (hs : Src W B g) (hb : Below w.heap.size w W) (hr : W.heap[w.heap.size]? = some (.cells #[.slice none 0 0, .slice none 0 0] 26 (0, 0))) (ho : OwnD (g + 1) s c d W) (h1 : w.heap.size < g) (hB : B ≤ w.heap.size) : DT B g W.heap.size w s c d (W.alloc (.cells #[s, c] 26)) := by
  have ba := (Below.refl W.heap.size W).alloc (Nat.le_refl _) (.cells #[s, c] 26)
  have hg := hs.lt
  exact ⟨hs.kept (ba.mono (by omega)) (ba.block g hg), hb.trans (ba.mono (by omega)), (ba.block _ (blkS hr)).trans hr, heap_alloc_new _ _, ho.below ba, h1, hg, hB⟩
theorem DT.fin (S : DT B g h w s c d W) : ((W.setCell ⟨w.heap.size, 0, none⟩ s).setCell ⟨w.heap.size, 1, none⟩ c).heap[w.heap.size]? = some (.cells #[s, c] 26 (0, 0)) ∧ OwnD w.heap.size s c d ((W.setCell ⟨w.heap.size, 0, none⟩ s).setCell ⟨w.heap.size, 1, none⟩ c) ∧ Below w.heap.size w ((W.setCell ⟨w.heap.size, 0, none⟩ s).setCell ⟨w.heap.size, 1, none⟩ c) := by
  have h1 := S.g1
  have e1 := heap_setCell_same W w.heap.size 0 _ _ s S.res
  have e2 := heap_setCell_same _ w.heap.size 1 _ _ c e1
  have hf := own_above S.own (show w.heap.size < g + 1 by omega)
  exact ⟨by simpa using e2, ((S.own.setF hf).setF hf).base (by omega), (S.below.setCell (p := ⟨w.heap.size, 0, none⟩) (Nat.le_refl _) _).setCell (p := ⟨w.heap.size, 1, none⟩) (Nat.le_refl _) _⟩
end
theorem resDT {fn : Func} {p q r : Tmp} (h : fn.results = #[.cell p 26, .tmp q, .tmp r]) (tmps : Array Value) (w : World) (g : Nat) (x y u v : Value) (hp : tmps.getD p undef = .pointer (some ⟨g, 0, none⟩)) (hq : tmps.getD q undef = u) (hr : tmps.getD r undef = v)
    (hg : w.heap[g]? = some (.cells #[x, y] 26 (0, 0))) : (results fn tmps).run Try.prog w = .ok (.tuple #[.agg #[x, y], u, v]) w := by
  have hp' : tmps[p]?.getD undef = .pointer (some ⟨g, 0, none⟩) := by simpa using hp
  have hc' : tmps[q]?.getD undef = u := by simpa using hq
  have hd' : tmps[r]?.getD undef = v := by simpa using hr
  have hl := run_loadVar_row (P := Try.prog) w g 26 26 #[x, y] (0, 0) _ hg Try.underlying26 rfl (by kernel_rfl)
  simp [results, h, hp', hc', hd', asAddr, hl]
end Go.Proofs.Ytfhfhpnoeghgmaa

/-
  Contracts: the look at a text's length.
-/
namespace Go.Proofs.Ytfhfhpnoeghgmaa
open Go.RowKit

theorem tooLong_no (s : ByteArray) (hs : s.size ≤ 20000) (w : World) :
    Calls Try.prog 83 #[.string s] w fun e w' => e = .returned (.bool false) ∧ w' = w := by
  have h1 : ¬ 20000 < (s.size : Int) := by omega
  go_enter Try.func83, Try.ntmps83
  go_wp2
  go_ret
  exact ⟨ret_bool (by simp), rfl⟩
theorem tooLong_yes (s : ByteArray) (hs : 20000 < s.size) (w : World) :
    Calls Try.prog 83 #[.string s] w fun e w' => e = .returned (.bool true) ∧ w' = w := by
  have h1 : 20000 < (s.size : Int) := by omega
  go_enter Try.func83, Try.ntmps83
  go_wp2
  go_ret
  exact ⟨ret_bool (by simp), rfl⟩
end Go.Proofs.Ytfhfhpnoeghgmaa

/-
  Contracts: the CRC's functions of the program and of the specification.
-/
namespace Go.Proofs.Ytfhfhpnoeghgmaa
open Go.RowKit

set_option maxHeartbeats 400000 in
theorem shiftByte_any (r : Nat) (hr : r < 4294967296) (w : World) :
    Calls Try.prog 130 #[.int .u32 r] w fun e w' => e = .returned (.int .u32 (crcByte r : Nat)) ∧ w' = w := by
  go_enter Try.func130, Try.ntmps130
  go_wp2
  go_loop [0, 4] (fun x i => ∃ k : Nat, k ≤ 8 ∧ i = .int .i64 k ∧ x = .int .u32 (crcBits k r : Nat)) (fun _ i => 8 - (intOf i).toNat)
  case atStart => exact ⟨0, Nat.zero_le _, rfl, rfl⟩
  case round =>
    obtain ⟨k, hk, rfl, rfl⟩ := hrel
    by_cases hlt : k < 8
    · have hx := crcBits_lt hr k
      have ha := u32_and1 (crcBits k r) hx
      by_cases hodd : crcBits k r % 2 = 1
      · have HS : Hid (crcBits (k + 1) r = (crcBits k r / 2) ^^^ 3988292384) := crcBits_odd hodd
        have HP : Hid (bits .xor .u32 ((crcBits k r : Int) / 2) 3988292384 = (((crcBits k r / 2) ^^^ 3988292384 : Nat) : Int)) := u32_xorP _ hx
        go_wp2
        go_round
        case rel => exact ⟨k + 1, by omega, by go_num, by rw [HS.out, ← HP.out]⟩
        case measure => simp [intOf]; omega
      · have HS : Hid (crcBits (k + 1) r = crcBits k r / 2) := crcBits_even hodd
        go_wp2
        go_round
        case rel => exact ⟨k + 1, by omega, by go_num, by rw [HS.out]; go_num⟩
        case measure => simp [intOf]; omega
    · obtain rfl : k = 8 := by omega
      go_wp2
      go_ret
      exact ⟨rfl, rfl⟩

set_option maxHeartbeats 1000000 in
theorem specCrc_any (c : Nat) (hc : c < 4294967296) (s : ByteArray) (hs : s.size ≤ 9223372036854775807) (w : World) :
    Calls Try.prog 104 #[.int .i64 c, .string s] w fun e w' => e = .returned (.int .i64 (crcMoreN c s.data.toList : Nat)) ∧ w' = w := by
  have hx0 := u32_xorM c hc
  have hx1 := xorM_lt hc
  go_enter Try.func104, Try.ntmps104
  go_wp2
  go_loop [5, 6] (fun x i => ∃ k : Nat, k ≤ s.size ∧ i = .int .i64 k ∧ x = .int .u32 (crcL (c ^^^ 4294967295) (s.data.toList.take k) : Nat)) (fun _ i => s.size - (intOf i).toNat)
  case atStart => exact ⟨0, Nat.zero_le _, rfl, by simp [crcL]⟩
  case round =>
    obtain ⟨k, hk, rfl, rfl⟩ := hrel
    obtain ⟨R, hR⟩ : ∃ R, R = crcL (c ^^^ 4294967295) (s.data.toList.take k) := ⟨_, rfl⟩
    have hRlt : R < 4294967296 := by rw [hR]; exact crcL_lt hx1 _
    rw [← hR]
    have HR : Hid (R = crcL (c ^^^ 4294967295) (s.data.toList.take k)) := hR
    clear hR hx0 hx1
    by_cases hlt : k < s.size
    · have hxb := u32_xorB R hRlt s[k]
      have hxl := xor_byte_lt hRlt s[k]
      have HT : Hid (crcL (c ^^^ 4294967295) (s.data.toList.take (k + 1)) = crcBits 8 (R ^^^ s[k].toNat)) := by
        show _ = _
        rw [take_snoc s k hlt, crcL_snoc, ← HR.out]; rfl
      generalize R ^^^ s[k].toNat = X at hxb hxl HT
      go_wp2
      clear hxb
      go_loop [5, 7] (fun x i => ∃ j : Nat, j ≤ 8 ∧ i = .int .i64 j ∧ x = .int .u32 (crcBits j X : Nat)) (fun _ i => 8 - (intOf i).toNat)
      case atStart => exact ⟨0, Nat.zero_le _, rfl, rfl⟩
      case round =>
        obtain ⟨j, hj, rfl, rfl⟩ := hrel
        by_cases hjl : j < 8
        · have hx := crcBits_lt hxl j
          have ha := u32_and1 _ hx
          by_cases hodd : crcBits j X % 2 = 1
          · have HS : Hid (crcBits (j + 1) X = (crcBits j X / 2) ^^^ 3988292384) := crcBits_odd hodd
            have HP : Hid (bits .xor .u32 ((crcBits j X : Int) / 2) 3988292384 = (((crcBits j X / 2) ^^^ 3988292384 : Nat) : Int)) := u32_xorP _ hx
            go_wp2
            go_round
            case rel => exact ⟨j + 1, by omega, by go_num, by rw [HS.out, ← HP.out]⟩
            case measure => simp [intOf]; omega
          · have HS : Hid (crcBits (j + 1) X = crcBits j X / 2) := crcBits_even hodd
            go_wp2
            go_round
            case rel => exact ⟨j + 1, by omega, by go_num, by rw [HS.out]; go_num⟩
            case measure => simp [intOf]; omega
        · obtain rfl : j = 8 := by omega
          go_wp2
          go_round
          case rel => exact ⟨k + 1, by omega, by go_num, by rw [HT.out]⟩
          case measure => simp [intOf]; omega
    · have hxm := u32_xorM R hRlt
      have hxml := xorM_lt hRlt
      have HF : Hid (crcMoreN c s.data.toList = R ^^^ 4294967295) := by
        show _ = _
        rw [HR.out, List.take_of_length_le (by simp; omega)]; rfl
      go_wp2
      go_ret
      exact ⟨ret_int (by rw [HF.out]), rfl⟩

set_option maxHeartbeats 400000 in
set_option maxRecDepth 100000 in
theorem implCrcMore_in (c : Nat) (hc : c < 4294967296) (s : ByteArray) (hs : s.size ≤ 20000) (w : World) :
    Calls Try.prog 129 #[.int .i64 c, .string s] w fun e w' => e = .returned (.int .i64 (crcMoreN c s.data.toList : Nat)) ∧ w' = w := by
  have hx0 := u32_notN c hc
  have hx1 := xorM_lt hc
  go_enter Try.func129, Try.ntmps129
  go_wp2_with (go_at_call 83; refine (tooLong_no _ hs _).mono ?_; rintro e w' ⟨rfl, rfl⟩)
  go_loop [5, 22] (fun x i => ∃ k : Nat, k ≤ s.size ∧ i = .int .i64 k ∧ x = .int .u32 (crcL (c ^^^ 4294967295) (s.data.toList.take k) : Nat)) (fun _ i => s.size - (intOf i).toNat)
  case atStart => exact ⟨0, Nat.zero_le _, rfl, by simp [crcL]⟩
  case round =>
    obtain ⟨k, hk, rfl, rfl⟩ := hrel
    obtain ⟨R, hR⟩ : ∃ R, R = crcL (c ^^^ 4294967295) (s.data.toList.take k) := ⟨_, rfl⟩
    have hRlt : R < 4294967296 := by rw [hR]; exact crcL_lt hx1 _
    rw [← hR]
    have HR : Hid (R = crcL (c ^^^ 4294967295) (s.data.toList.take k)) := hR
    clear hR hx0 hx1
    by_cases hlt : k < s.size
    · have hxb := u32_xorB R hRlt s[k]
      have hxl := xor_byte_lt hRlt s[k]
      have HT : Hid (crcL (c ^^^ 4294967295) (s.data.toList.take (k + 1)) = crcByte (R ^^^ s[k].toNat)) := by
        show _ = _
        rw [take_snoc s k hlt, crcL_snoc, ← HR.out]
      generalize R ^^^ s[k].toNat = X at hxb hxl HT
      go_wp2_with (go_at_call 130; refine (shiftByte_any _ hxl _).mono ?_; rintro e w' ⟨rfl, rfl⟩)
      go_round
      case rel => exact ⟨k + 1, by omega, by go_num, by rw [HT.out]⟩
      case measure => simp [intOf]; omega
    · have hxm := u32_notN R hRlt
      have hxml := xorM_lt hRlt
      have HF : Hid (crcMoreN c s.data.toList = R ^^^ 4294967295) := by
        show _ = _
        rw [HR.out, List.take_of_length_le (by simp; omega)]; rfl
      go_wp2
      go_ret
      exact ⟨ret_int (by rw [HF.out]), rfl⟩

set_option maxRecDepth 100000 in
theorem implCrcMore_out (c : Int) (s : ByteArray) (h : 20000 < s.size ∨ c < 0 ∨ 4294967296 ≤ c) (w : World) :
    Calls Try.prog 129 #[.int .i64 c, .string s] w fun e w' => e = .returned (.int .i64 0) ∧ w' = w := by
  by_cases hs : s.size ≤ 20000
  · by_cases h0 : c < 0
    · go_enter Try.func129, Try.ntmps129
      go_wp2_with (go_at_call 83; refine (tooLong_no _ hs _).mono ?_; rintro e w' ⟨rfl, rfl⟩)
      go_ret
      exact ⟨rfl, rfl⟩
    · have h1 : 4294967296 ≤ c := by omega
      go_enter Try.func129, Try.ntmps129
      go_wp2_with (go_at_call 83; refine (tooLong_no _ hs _).mono ?_; rintro e w' ⟨rfl, rfl⟩)
      go_ret
      exact ⟨rfl, rfl⟩
  · go_enter Try.func129, Try.ntmps129
    go_wp2_with (go_at_call 83; refine (tooLong_yes _ (by omega) _).mono ?_; rintro e w' ⟨rfl, rfl⟩)
    go_ret
    exact ⟨rfl, rfl⟩

/-- The CRC of a text: 0 beyond MaxBytes. -/
def crcOf (s : ByteArray) : Nat := if s.size ≤ 20000 then crcMoreN 0 s.data.toList else 0
theorem crcOf_lt (s : ByteArray) : crcOf s < 4294967296 := by
  unfold crcOf; split
  · exact crcMoreN_lt (by omega) _
  · omega
theorem implCrc_any (s : ByteArray) (w : World) :
    Calls Try.prog 124 #[.string s] w fun e w' => e = .returned (.int .i64 (crcOf s : Nat)) ∧ w' = w := by
  by_cases hs : s.size ≤ 20000
  · have H : Hid (crcOf s = crcMoreN 0 s.data.toList) := if_pos hs
    go_enter Try.func124, Try.ntmps124
    go_wp2_with (go_at_call 129; refine (implCrcMore_in 0 (by omega) _ hs _).mono ?_; rintro e w' ⟨rfl, rfl⟩)
    go_ret
    exact ⟨ret_int (by rw [H.out]), rfl⟩
  · have H : Hid (crcOf s = 0) := if_neg hs
    go_enter Try.func124, Try.ntmps124
    go_wp2_with (go_at_call 129; refine (implCrcMore_out 0 _ (by omega) _).mono ?_; rintro e w' ⟨rfl, rfl⟩)
    go_ret
    exact ⟨ret_int (by rw [H.out]; rfl), rfl⟩
end Go.Proofs.Ytfhfhpnoeghgmaa

/-
  Contracts: PutNum of the program and of the specification.
-/
namespace Go.Proofs.Ytfhfhpnoeghgmaa
open Go.RowKit

/-- The number's bytes, seven bits each, the lowest first. -/
def putL : Nat → Nat → List Int
  | 0, u => [(u : Int)]
  | f + 1, u => if u < 128 then [(u : Int)] else ((u % 128 + 128 : Nat) : Int) :: putL f (u / 128)
def foldN (n : Int) : Nat := if n < 0 then (-2 * n - 1).toNat else (2 * n).toNat
theorem foldN_lt (n : Int) (h1 : -9223372036854775808 ≤ n) (h2 : n ≤ 9223372036854775807) : foldN n < 18446744073709551616 := by
  unfold foldN; split <;> omega

theorem fold_any (n : Int) (h1 : -9223372036854775808 ≤ n) (h2 : n ≤ 9223372036854775807) (w : World) :
    Calls Try.prog 105 #[.int .i64 n] w fun e w' => e = .returned (.int .u64 (foldN n : Nat)) ∧ w' = w := by
  by_cases h : n < 0
  · have H : Hid ((foldN n : Int) = -2 * n - 1) := by show _ = _; simp only [foldN, if_pos h]; omega
    go_enter Try.func105, Try.ntmps105
    go_wp2
    go_ret
    exact ⟨ret_int (by rw [H.out]; omega), rfl⟩
  · have H : Hid ((foldN n : Int) = 2 * n) := by show _ = _; simp only [foldN, if_neg h]; omega
    go_enter Try.func105, Try.ntmps105
    go_wp2
    go_ret
    exact ⟨ret_int (by rw [H.out]), rfl⟩

theorem u64_notN (X : Nat) (h : X < 18446744073709551616) : bits .xor .u64 (X : Int) 18446744073709551615 = ((18446744073709551615 - X : Nat) : Int) := by
  have := u64_xor_nat X 18446744073709551615 h (by omega)
  have e : (BitVec.ofNat 64 X ^^^ BitVec.allOnes 64).toNat = 18446744073709551615 - X := by
    rw [BitVec.xor_allOnes, BitVec.toNat_not, BitVec.toNat_ofNat, Nat.mod_eq_of_lt h]
  rw [BitVec.toNat_xor, BitVec.toNat_allOnes, BitVec.toNat_ofNat, Nat.mod_eq_of_lt h] at e
  have e' : X ^^^ 18446744073709551615 = 18446744073709551615 - X := e
  rw [e'] at this
  exact this
theorem u64_xor0 (X : Nat) (h : X < 18446744073709551616) : bits .xor .u64 (X : Int) 0 = (X : Int) := by
  have := u64_xor_nat X 0 h (by omega)
  simpa using this
theorem putFold (n : Int) (h1 : -9223372036854775808 ≤ n) (h2 : n ≤ 9223372036854775807) :
    bits .xor .u64 (IntKind.u64.wrap (IntKind.u64.wrap n * 2)) (IntKind.u64.wrap (n / 9223372036854775808)) = (foldN n : Nat) := by
  simp only [IntKind.wrap_u64]
  by_cases h : n < 0
  · have e1 : n % 18446744073709551616 * 2 % 18446744073709551616 = ((2 * n + 18446744073709551616).toNat : Int) := by omega
    have e2 : n / 9223372036854775808 % 18446744073709551616 = 18446744073709551615 := by omega
    rw [e1, e2, u64_notN _ (by omega)]
    simp only [foldN, if_pos h]; omega
  · have e1 : n % 18446744073709551616 * 2 % 18446744073709551616 = ((2 * n).toNat : Int) := by omega
    have e2 : n / 9223372036854775808 % 18446744073709551616 = 0 := by omega
    rw [e1, e2, u64_xor0 _ (by omega)]
    simp only [foldN, if_neg h]

theorem or128 : ∀ x : Fin 256, x.val ||| 128 = x.val % 128 + 128 := by decide +kernel
theorem u8_or128N (U : Nat) : bits .or .u8 ((U : Int) % 256) 128 = ((U % 128 + 128 : Nat) : Int) := by
  have h := u8_or_nat (U % 256) 128 (by omega) (by omega)
  rw [or128 ⟨U % 256, by omega⟩] at h
  have e : (((U % 256 : Nat)) : Int) = (U : Int) % 256 := by omega
  rw [e] at h
  simp only at h
  rw [show U % 256 % 128 = U % 128 by omega] at h
  exact h
theorem putL_small (f U : Nat) (h : U < 128) : putL f U = [(U : Int)] := by cases f <;> simp [putL, h]
theorem putL_big (f U : Nat) (h : ¬ U < 128) : putL (f + 1) U = ((U % 128 + 128 : Nat) : Int) :: putL f (U / 128) := by simp [putL, h]
theorem pow_step (k U : Nat) (hk : k < 9) (h : U < 2 ^ (64 - 7 * k)) : U / 128 < 2 ^ (64 - 7 * (k + 1)) := by
  have e : 64 - 7 * k = (64 - 7 * (k + 1)) + 7 := by omega
  rw [e, Nat.pow_add] at h
  exact Nat.div_lt_of_lt_mul (by rw [Nat.mul_comm]; exact h)
theorem lt_nine (k U : Nat) (hk : k ≤ 9) (h : U < 2 ^ (64 - 7 * k)) (hb : ¬ U < 128) : k < 9 := by
  rcases Nat.lt_or_ge k 9 with h9 | h9
  · exact h9
  · obtain rfl : k = 9 := by omega
    omega

theorem sliceArr10 (W : World) (g k : Nat) (hk : k ≤ 9) :
    (Instr.sliceAt 142 (.pointer (some ⟨g, 0, none⟩)) none (some (.int .i64 ((k : Int) + 1))) none).run Try.prog W = .ok (.slice (some ⟨g, 0, none⟩) (k + 1) 10) W := by
  have ht : Try.prog.underlying 142 = some (.array (Try.prog.arrayLen 142) (Try.prog.elem 142)) := by kernel_rfl
  have hl : Try.prog.arrayLen 142 = 10 := by kernel_rfl
  have hs : ∀ w, (sizeOf (Try.prog.elem 142)).run Try.prog w = .ok 1 w := fun w => by kernel_rfl
  rw [run_sliceAt_array_h W 142 _ ht .i64 ((k : Int) + 1) (by omega) (by rw [hl]; omega), hs, hl]
  have e : ((k : Int) + 1).toNat = k + 1 := by omega
  simp [Result.andThen, slicedAt, e, Addr.add]
set_option maxRecDepth 100000 in
theorem implPutNum_any (n : Int) (h1 : -9223372036854775808 ≤ n) (h2 : n ≤ 9223372036854775807) (w : World) :
    Calls Try.prog 93 #[.int .i64 n] w fun e w' => e = .returned (.string (strOfNums (putL 9 (foldN n)))) ∧ Below w.heap.size w w' := by
  go_enter Try.func93, Try.ntmps93
  go_wp2
  rw [putFold n h1 h2]
  have hf := foldN_lt n h1 h2
  generalize hF : foldN n = U0 at hf
  have HF : Hid (foldN n = U0) := hF
  clear h1 h2 hF
  generalize IntKind.u64.wrap (IntKind.u64.wrap n * 2) = q2
  generalize IntKind.u64.wrap n = q1
  generalize IntKind.u64.wrap (n / 9223372036854775808) = q3
  generalize n / 9223372036854775808 = q4
  go_loopw [3, 5] (fun u i wr => ∃ (k U : Nat) (arr : Array Value) (xs : List Int), k ≤ 9 ∧ Hid (U < 2 ^ (64 - 7 * k)) ∧ i = .int .i64 k ∧ u = .int .u64 U ∧ xs.length = k ∧ Hid (putL 9 U0 = xs ++ putL (9 - k) U) ∧
      arr.size = 10 ∧ wr.heap[w.heap.size]? = some (.cells arr 142 (0, 0)) ∧ (∀ j, j < k → arr[j]? = some (.int .u8 (xs.getD j 0))) ∧ Below w.heap.size w wr)
    (fun _ i _ => 9 - (intOf i).toNat)
  case atStart =>
    refine ⟨0, U0, _, [], by omega, hf, rfl, rfl, rfl, rfl, ?_, heap_alloc_new _ _, fun j hj => absurd hj (by omega), (Below.refl _ _).alloc (Nat.le_refl _) _⟩
    rfl
  case round =>
    obtain ⟨k, U, arr, xs, hk, HU, rfl, rfl, hxs, HP, hsz, hg, hcs, hb⟩ := hrel
    clear hf
    obtain ⟨old, hold⟩ : ∃ v, arr[k]? = some v := ⟨arr[k]'(by omega), Array.getElem?_eq_getElem (by omega)⟩
    have hcell : wr.cell? ⟨w.heap.size, k, none⟩ = some old := by rw [cell_of_row wr _ k arr _ _ hg, hold]
    have hfr : wr.frozen? ⟨w.heap.size, k, none⟩ = false := frozen_of_row wr _ k arr _ hg
    by_cases hlt : U < 128
    · have hsl : ∀ W, (Instr.sliceAt 142 (.pointer (some ⟨w.heap.size, 0, none⟩)) none (some (.int .i64 ((k : Int) + 1))) none).run Try.prog W = .ok (.slice (some ⟨w.heap.size, 0, none⟩) (k + 1) 10) W := fun W => sliceArr10 W _ k hk
      have hcv : (convert 22 9 (.slice (some ⟨w.heap.size, 0, none⟩) (k + 1) 10)).run Try.prog (wr.setCell ⟨w.heap.size, k, none⟩ (.int .u8 (U : Int))) = .ok (.string (strOfNums (xs ++ [(U : Int)]))) (wr.setCell ⟨w.heap.size, k, none⟩ (.int .u8 (U : Int))) := by
        refine run_convert_bytes_arg _ 22 5 Try.underlying22 Try.underlying5 w.heap.size 0 (k + 1) 10 (xs ++ [(U : Int)]) (by simp [hxs]) (fun i hi => ?_) 9 Try.underlying9
        rw [Nat.zero_add, cell_of_row _ w.heap.size i _ _ _ (heap_setCell_same wr w.heap.size k arr _ _ hg), Array.getElem?_setIfInBounds]
        by_cases e : k = i
        · subst e; simp [hsz, ← hxs]; omega
        · rw [if_neg e, hcs i (by omega)]
          simp [List.getElem?_append_left (show i < xs.length by omega)]
      have HE : Hid (putL 9 U0 = xs ++ [(U : Int)]) := by
        show _ = _
        rw [HP.out, putL_small _ _ hlt]
      have hb' := hb.setCell (p := ⟨w.heap.size, k, none⟩) (Nat.le_refl _) (.int .u8 (U : Int))
      clear HU HP hxs hsz hg hcs hold hb
      go_wp2
      go_ret
      exact ⟨ret_str (by rw [HF.out, HE.out]), hb'⟩
    · have hk9 := lt_nine k U hk HU.out hlt
      have hor := u8_or128N U
      have HU' : Hid (U / 128 < 2 ^ (64 - 7 * (k + 1))) := pow_step k U hk9 HU.out
      have HP' : Hid (putL 9 U0 = (xs ++ [((U % 128 + 128 : Nat) : Int)]) ++ putL (9 - (k + 1)) (U / 128)) := by
        show _ = _
        rw [HP.out, show 9 - k = (9 - (k + 1)) + 1 by omega, putL_big _ _ hlt]; simp
      have hg' := heap_setCell_same wr w.heap.size k arr _ (.int .u8 ((U % 128 + 128 : Nat) : Int)) hg
      have hb' := hb.setCell (p := ⟨w.heap.size, k, none⟩) (Nat.le_refl _) (.int .u8 ((U % 128 + 128 : Nat) : Int))
      have HG : Hid ((wr.setCell ⟨w.heap.size, k, none⟩ (.int .u8 ((U % 128 + 128 : Nat) : Int))).heap[w.heap.size]? = some (.cells (arr.setIfInBounds k (.int .u8 ((U % 128 + 128 : Nat) : Int))) 142 (0, 0))) := hg'
      have HC : Hid (∀ j, j < k + 1 → (arr.setIfInBounds k (.int .u8 ((U % 128 + 128 : Nat) : Int)))[j]? = some (.int .u8 ((xs ++ [((U % 128 + 128 : Nat) : Int)]).getD j 0))) := by
        intro j hj
        rw [Array.getElem?_setIfInBounds]
        by_cases e : k = j
        · subst e; simp [hsz, ← hxs]; omega
        · rw [if_neg e, hcs j (by omega)]
          simp [List.getElem?_append_left (show j < xs.length by omega)]
      clear HU HP hg hg' hcs hold hb
      go_wp2
      go_roundw
      case rel => exact ⟨k + 1, U / 128, _, xs ++ [((U % 128 + 128 : Nat) : Int)], by omega, HU'.out, by go_num, by go_num, by simp [hxs], HP'.out, by simp [hsz], HG.out, HC.out, hb'⟩
      case measure => simp [intOf]; omega

set_option maxRecDepth 100000 in
set_option maxHeartbeats 400000 in
theorem specPutNum_any (n : Int) (h1 : -9223372036854775808 ≤ n) (h2 : n ≤ 9223372036854775807) (w : World) :
    Calls Try.prog 65 #[.int .i64 n] w fun e w' => e = .returned (.string (strOfNums (putL 9 (foldN n)))) ∧ Below w.heap.size w w' := by
  obtain ⟨i0, hi, hz0, hz1, hz2⟩ := info_parts Try.infoU8
  go_enter Try.func65, Try.ntmps65
  go_wp2_with (go_at_call 105; refine (fold_any n h1 h2 _).mono ?_; rintro e w ⟨rfl, rfl⟩)
  have hf := foldN_lt n h1 h2
  generalize hF : foldN n = U0 at hf
  have HF : Hid (foldN n = U0) := hF
  clear h1 h2 hF
  go_loopw [3, 4] (fun u v wr => ∃ (k U : Nat) (xs : List Int), k ≤ 9 ∧ Hid (U < 2 ^ (64 - 7 * k)) ∧ u = .int .u64 U ∧ Hid (putL 9 U0 = xs ++ putL (9 - k) U) ∧
      wr.ownsRow w.heap.size 5 1 v k (xs.map (Value.int .u8)) ∧ Below w.heap.size w wr)
    (fun u _ _ => (intOf u).toNat)
  case atStart => exact ⟨0, U0, [], by omega, hf, rfl, rfl, ⟨rfl, .inr ⟨w.heap.size, 0, #[], rfl, Nat.le_refl _, heap_alloc_new _ _, Nat.le_refl _, Nat.zero_le _, rfl, rfl⟩⟩, (Below.refl _ _).alloc (Nat.le_refl _) _⟩
  case round =>
    obtain ⟨k, U, xs, hk, HU, rfl, HP, hown, hb⟩ := hrel
    clear hf
    have hB := hb.size
    by_cases hlt : U < 128
    · have HE : Hid (putL 9 U0 = xs ++ [(U : Int)]) := by
        show _ = _
        rw [HP.out, putL_small _ _ hlt]
      clear HU HP
      go_wp2_with (at_builtin; refine wpList_append_own _ rfl _ _ 22 rfl w.heap.size 5 i0 (.int .u8 0) 1 1 Try.underlying22 hi hz0 hz1 hz2 rfl (by decide) _ _ _ rfl (hown.alloc _) ⟨wr.heap.size, 0, none⟩ 1 1 [.int .u8 (U : Int)] rfl rfl ?c1 ?c2 ?c3 ?c4 ?c5 ?_)
      case c1 => exact cell_one_new _ _ _
      case c2 => intro u hu; simp at hu; subst hu; rfl
      case c3 => unfold maxLen; omega
      case c4 => omega
      case c5 => simp; omega
      · intro v' w1 hown' hgrow _
        have hcv := convOwn (xs := xs ++ [(U : Int)]) (by simpa using hown')
        have hb' := (hb.alloc hB _).grown hgrow (by simp; omega) (fun j hj => (hown.lt j hj).1)
        go_wp2
        go_ret
        exact ⟨ret_str (by rw [HF.out, HE.out]), hb'⟩
    · have hk9 := lt_nine k U hk HU.out hlt
      have HU' : Hid (U / 128 < 2 ^ (64 - 7 * (k + 1))) := pow_step k U hk9 HU.out
      have HP' : Hid (putL 9 U0 = (xs ++ [((U % 128 + 128 : Nat) : Int)]) ++ putL (9 - (k + 1)) (U / 128)) := by
        show _ = _
        rw [HP.out, show 9 - k = (9 - (k + 1)) + 1 by omega, putL_big _ _ hlt]; simp
      have hU64 : U < 18446744073709551616 := Nat.lt_of_lt_of_le HU.out (Nat.pow_le_pow_right (n := 2) (by omega) (show 64 - 7 * k ≤ 64 by omega))
      clear HU HP
      go_wp2_with (at_builtin; refine wpList_append_own _ rfl _ _ 22 rfl w.heap.size 5 i0 (.int .u8 0) 1 1 Try.underlying22 hi hz0 hz1 hz2 rfl (by decide) _ _ _ rfl (hown.alloc _) ⟨wr.heap.size, 0, none⟩ 1 1 [.int .u8 ((U % 128 + 128 : Nat) : Int)] rfl rfl ?d1 ?d2 ?d3 ?d4 ?d5 ?_)
      case d1 => exact cell_one_new _ _ _
      case d2 => intro u hu; simp at hu; subst hu; rfl
      case d3 => unfold maxLen; omega
      case d4 => omega
      case d5 => simp; omega
      · intro v' w1 hown' hgrow _
        have hb' := (hb.alloc hB _).grown hgrow (by simp; omega) (fun j hj => (hown.lt j hj).1)
        go_wp2
        go_roundw
        case rel => exact ⟨k + 1, U / 128, xs ++ [((U % 128 + 128 : Nat) : Int)], by omega, HU'.out, by go_num, HP'.out, by simpa using hown', hb'⟩
        case measure => simp [intOf]; omega

end Go.Proofs.Ytfhfhpnoeghgmaa
