/-
  Contracts: slices.Repeat of one text.
-/
import Derived.Test.YtgnegidgeegknaaOwnDk
import Derived.Laws.CopyOwn
import Derived.Test.YtgnegidgeegknaaSkips
namespace Go.Proofs.Ytgnegidgeegknaa
open Go.RowKit
set_option maxRecDepth 100000

set_option maxHeartbeats 1000000 in
theorem mul64_one (y : Nat) (hy : y ≤ 100000) (w : World) :
    Calls Try.prog 90 #[.int .u64 1, .int .u64 y] w fun e w' => e = .returned (.tuple #[.int .u64 0, .int .u64 y]) ∧ w' = w := by
  have h1 : bits .and .u64 1 4294967295 = 1 := by kernel_rfl
  have h2 : bits .and .u64 (y : Int) 4294967295 = (y : Int) := by
    have := u64_and_nat y 4294967295 (by omega) (by omega)
    have e : y &&& 4294967295 = y % 4294967296 := Nat.and_two_pow_sub_one_eq_mod y 32
    rw [e, Nat.mod_eq_of_lt (by omega)] at this
    exact this
  have h3 : bits .and .u64 0 4294967295 = 0 := by kernel_rfl
  have h4 : (y : Int) / 4294967296 = 0 := by omega
  go_enter Try.func90, Try.ntmps90
  go_wp2
  go_ret2
  exact ⟨rfl, rfl⟩
set_option maxHeartbeats 1000000 in
theorem mul_one' (y : Nat) (hy : y ≤ 100000) (w : World) :
    Calls Try.prog 71 #[.int .u64 1, .int .u64 y] w fun e w' => e = .returned (.tuple #[.int .u64 0, .int .u64 y]) ∧ w' = w := by
  go_enter Try.func71, Try.ntmps71
  go_wp2_with (go_at_call 90; refine (mul64_one y hy _).mono ?_; rintro e w' ⟨rfl, rfl⟩)
  go_ret2
  exact ⟨rfl, rfl⟩
theorem splice_rep {α : Type} (cur : List α) (v : α) (k m n : Nat) (hl : cur.length = n) (hc : cur.take k = List.replicate k v) (hm : k + m ≤ n) : (splice cur k (List.replicate m v)).length = n ∧ (splice cur k (List.replicate m v)).take (k + m) = List.replicate (k + m) v := by
  refine ⟨by rw [length_splice _ _ _ (by simp; omega), hl], ?_⟩
  unfold splice
  rw [hc, ← List.append_assoc, List.take_append_of_le_length (by simp), List.take_of_length_le (by simp)]
  simp [List.replicate_append_replicate]
theorem src_one {w : World} {g k : Nat} {v : Value} (h : w.cell? ⟨g, 0, none⟩ = some v) (hk : k ≤ 1) : ∀ j u, (List.replicate k v)[j]? = some u → w.cell? ((⟨g, 0, none⟩ : Addr).add j) = some u := by
  intro j u hj
  obtain ⟨hlt, hu⟩ := List.getElem?_eq_some_iff.1 hj
  rw [List.length_replicate] at hlt
  obtain rfl : j = 0 := by omega
  rw [List.getElem_replicate] at hu
  subst hu
  simpa [Addr.add] using h
theorem src_rep {w : World} {g k m : Nat} {cur : List Value} {t : TypeId} {v : Value} (hg : w.heap[g]? = some (.cells cur.toArray t (0, 0))) (hc : cur.take k = List.replicate k v) (hm : m ≤ k) : ∀ j u, (List.replicate m v)[j]? = some u → w.cell? ((⟨g, 0, none⟩ : Addr).add j) = some u := by
  intro j u hj
  obtain ⟨hlt, hu⟩ := List.getElem?_eq_some_iff.1 hj
  rw [List.length_replicate] at hlt
  rw [List.getElem_replicate] at hu
  subst hu
  have ha : (⟨g, 0, none⟩ : Addr).add j = ⟨g, j, none⟩ := by unfold Addr.add; split <;> simp_all
  rw [ha, cell_of_row _ _ _ _ _ _ hg, List.getElem?_toArray]
  have h1 : cur[j]? = (cur.take k)[j]? := (List.getElem?_take_of_lt (by omega)).symm
  rw [h1, hc, List.getElem?_replicate, if_pos (by omega)]
theorem made_cur {w1 : World} {base n size g : Nat} {t : TypeId} {xs : List Value} (h : w1.ownsRow base t size (.slice (some ⟨g, 0, none⟩) n n) n xs) : ∃ cur : List Value, w1.heap[g]? = some (.cells cur.toArray t (0, 0)) ∧ cur.length = n * size := by
  rcases h.2 with ⟨h, _⟩ | ⟨g, cap', cur, hv, _, hg, _, _, hs, _⟩
  · simp at h
  · simp at hv
    obtain ⟨rfl, rfl⟩ := hv
    exact ⟨cur.toList, by simpa using hg, by simpa using hs⟩
set_option maxHeartbeats 4000000 in
theorem repeat_any (g c : Nat) (x : ByteArray) (n : Nat) (hn : n ≤ 1000) (w : World) (hx : w.cell? ⟨g, 0, none⟩ = some (.string x)) (hg : g < w.heap.size) :
    Calls Try.prog 41 #[.slice (some ⟨g, 0, none⟩) 1 c, .int .i64 n] w fun e w' => ∃ v, e = .returned v ∧ OwnS w.heap.size v (List.replicate n x) w' ∧ Below w.heap.size w w' := by
  obtain ⟨i0, hi, hz0, hz1, hz2⟩ := info_parts Try.infoStr'
  have hsz : (Try.prog.info? 9).map (·.size) = some 1 := by kernel_rfl
  have HX := hide hx
  obtain ⟨k0, hk0⟩ : ∃ k, k = Nat.min 1 n := ⟨_, rfl⟩
  obtain ⟨hk1, hk2, hk3⟩ : k0 ≤ n ∧ (n = 0 ∨ 0 < k0) ∧ k0 ≤ 1 := by rw [hk0]; show min 1 n ≤ n ∧ (n = 0 ∨ 0 < min 1 n) ∧ min 1 n ≤ 1; omega
  have HK := hide hk0
  have hone : ∀ k, ∀ v ∈ List.replicate k (Value.string x), v.oneCell' = true := fun k v hv => by rw [List.eq_of_mem_replicate hv]; rfl
  have HONE := hide hone
  clear hx hk0 hone
  go_enter Try.func41, Try.ntmps41
  go_wp2_with (first | (go_at_call 71; refine (mul_one' n (by omega) _).mono ?_; rintro e w' ⟨rfl, hw⟩; rw [hw]; clear hw w') | (at_make; refine wpList_make_full _ rfl _ _ 22 rfl w.heap.size 9 i0 (.string ⟨#[]⟩) 1 Try.underlying22 hi hz0 hz1 .i64 .i64 _ _ n rfl rfl rfl rfl (by rw [hz2]; omega) (by unfold maxLen; omega) (Nat.le_refl _) ?_; intro w1 hown1 hgrow1; obtain ⟨cur0, hg0, hl0⟩ := made_cur hown1; have hb1 : Below w.heap.size w w1 := (Below.refl _ _).grown hgrow1 (Nat.le_refl _) (fun j hj => by simp at hj); clear hown1 hgrow1) | (refine wpList_copy_splice rfl _ _ 22 22 rfl 9 Try.underlying22 hsz _ _ _ _ _ _ rfl rfl w.heap.size 0 cur0 9 hg0 (List.replicate k0 (.string x)) (by rw [List.length_replicate]; exact HK.out) (fun hp => ⟨rfl, _, rfl, src_one ((hb1.cell (p := ⟨g, 0, none⟩) hg).trans HX.out) hk3⟩) (by rw [List.length_replicate]; omega) (HONE.out k0) w.heap.size w hb1 (Nat.le_refl _) ?_; intro w2 hg2 hb2; rw [List.length_replicate]; obtain ⟨hs1, hs2⟩ := splice_rep cur0 (.string x) 0 k0 n (by omega) (by simp) (by omega); generalize splice cur0 0 (List.replicate k0 (Value.string x)) = cur1 at *; rw [Nat.zero_add] at hs2; have HS2 := hide hs2; clear hs2 hg0 hl0 hb1))
  go_loopw [8] (fun i wr => ∃ (k : Nat) (cur : List Value), k ≤ n ∧ (n = 0 ∨ 0 < k) ∧ i = .int .i64 k ∧ cur.length = n ∧ Hid (wr.heap[w.heap.size]? = some (.cells cur.toArray 9 (0, 0))) ∧ Hid (cur.take k = List.replicate k (.string x)) ∧ Below w.heap.size w wr) (fun i _ => n - (intOf i).toNat)
  case atStart => exact ⟨k0, cur1, hk1, hk2, rfl, hs1, hg2, HS2, hb2⟩
  case round =>
    obtain ⟨k, cur, hk, hpos, rfl, hlen, HG, HC, hb⟩ := hrel
    clear hg2 HS2 hb2 hs1 hk1 hk2 hk3 HK
    by_cases hlt : k < n
    · obtain ⟨m, hm⟩ : ∃ m, m = Nat.min k (n - k) := ⟨_, rfl⟩
      obtain ⟨hm1, hm2, hm3⟩ : m ≤ k ∧ k + m ≤ n ∧ 0 < m := by rw [hm]; show min k (n - k) ≤ k ∧ k + min k (n - k) ≤ n ∧ 0 < min k (n - k); omega
      have HM := hide hm
      obtain ⟨hs1, hs2⟩ := splice_rep cur (.string x) k m n hlen HC.out hm2
      have HS2 := hide hs2
      have HS1 := hide hs1
      have hwr : IntKind.i64.wrap ((k : Int) + (m : Int)) = (k : Int) + (m : Int) := by rw [IntKind.wrap_i64]; omega
      have HL := hide hlen
      clear hm hs2 hs1 hlen
      go_wp2
      refine wp_region_noPanic ?_
      refine wp_region_held_drew (S := fun _ => True) (by kernel_rfl) trivial (fun hHeld => ?_)
      refine takeD 0 38 (v := ?vx0) rfl rfl (by kernel_rfl) (by kernel_rfl) (by kernel_rfl) (fun _ _ _ h => h) (by kernel_rfl) ?hyx0 trivial ?rx0
      case hyx0 => (intro W hSw; go_simp; try with_reducible rfl)
      simp only [Act.put, List.setIfInBounds_toArray, List.set_cons_zero, List.set_cons_succ]
      refine takeD 1 39 (v := ?vx1) rfl rfl (by kernel_rfl) (by kernel_rfl) (by kernel_rfl) (fun _ _ _ h => h) (by kernel_rfl) ?hyx1 trivial ?rx1
      case hyx1 => (intro W hSw; go_simp; try with_reducible rfl)
      simp only [Act.put, List.setIfInBounds_toArray, List.set_cons_zero, List.set_cons_succ]
      refine takeD 2 40 (v := ?vx2) rfl rfl (by kernel_rfl) (by kernel_rfl) (by kernel_rfl) (fun _ _ _ h => h) (by kernel_rfl) ?hyx2 trivial ?rx2
      case hyx2 => (intro W hSw; go_simp; try with_reducible rfl)
      simp only [Act.put, List.setIfInBounds_toArray, List.set_cons_zero, List.set_cons_succ]
      refine takeD 3 41 (v := .slice (some ⟨w.heap.size, k, none⟩) (n - k) (n - k)) rfl rfl (by kernel_rfl) (by kernel_rfl) (by kernel_rfl) (fun _ _ _ h => h) (by kernel_rfl) ?hyx3 trivial ?rx3
      case hyx3 => (intro W hSw; go_simp; omega)
      simp only [Act.put, List.setIfInBounds_toArray, List.set_cons_zero, List.set_cons_succ]
      refine takeD 4 42 (v := ?vx4) rfl rfl (by kernel_rfl) (by kernel_rfl) (by kernel_rfl) (fun _ _ _ h => h) (by kernel_rfl) ?hyx4 trivial ?rx4
      case hyx4 => (intro W hSw; go_simp; try with_reducible rfl)
      simp only [Act.put, List.setIfInBounds_toArray, List.set_cons_zero, List.set_cons_succ]
      refine takeD 5 43 (v := ?vx5) rfl rfl (by kernel_rfl) (by kernel_rfl) (by kernel_rfl) (fun _ _ _ h => h) (by kernel_rfl) ?hyx5 trivial ?rx5
      case hyx5 => (intro W hSw; go_simp; try with_reducible rfl)
      simp only [Act.put, List.setIfInBounds_toArray, List.set_cons_zero, List.set_cons_succ]
      refine takeD 6 44 (v := .slice (some ⟨w.heap.size, 0, none⟩) k n) rfl rfl (by kernel_rfl) (by kernel_rfl) (by kernel_rfl) (fun _ _ _ h => h) (by kernel_rfl) ?hyx6 trivial ?rx6
      case hyx6 => (intro W hSw; go_simp; try with_reducible rfl)
      simp only [Act.put, List.setIfInBounds_toArray, List.set_cons_zero, List.set_cons_succ]
      refine wpAnyH_ready (rs := [7]) (by kernel_rfl) (by simp) ?_
      refine AllReadyH.cons (o := _) rfl (fun K hK => ?_) AllReadyH.nil
      refine step_copy_splice rfl (.tmp 41) (.tmp 44) 22 22 rfl 9 Try.underlying22 hsz _ _ _ _ _ _ rfl rfl w.heap.size k cur 9 HG.out (List.replicate m (.string x)) (by rw [List.length_replicate]; exact HM.out) (fun hp => ⟨rfl, _, rfl, src_rep HG.out HC.out hm1⟩) (by rw [List.length_replicate, HL.out]; exact hm2) (HONE.out m) w.heap.size w hb.drew (Nat.le_refl _) ?_
      intro w4 hg4 hb4
      rw [List.length_replicate]
      refine hK.out _ _ trivial (fun _ => ?_)
      clear hK K hHeld
      simp only [List.getElem_toArray, List.getElem_cons_succ, List.getElem_cons_zero, Act.put, List.setIfInBounds_toArray, List.set_cons_zero, List.set_cons_succ]
      refine takeD 8 46 (v := .int .i64 ((k + m : Nat) : Int)) rfl rfl (by kernel_rfl) (by kernel_rfl) (by kernel_rfl) (fun _ _ _ h => h) (by kernel_rfl) ?hyx8 trivial ?rx8
      case hyx8 => (intro W hSw; go_simp)
      simp only [Act.put, List.setIfInBounds_toArray, List.set_cons_zero, List.set_cons_succ]
      refine takeD 9 8 (v := ?vx9) rfl rfl (by kernel_rfl) (by kernel_rfl) (by kernel_rfl) (fun _ _ _ h => h) (by kernel_rfl) ?hyx9 trivial ?rx9
      case hyx9 => (intro W hSw; go_simp; try with_reducible rfl)
      simp only [Act.put, List.setIfInBounds_toArray, List.set_cons_zero, List.set_cons_succ]
      refine wpAnyH_done (by kernel_rfl) ?_ _
      refine NoPanic.normal ?_
      generalize splice cur k (List.replicate m (Value.string x)) = cur' at *
      have hkm : k + m ≤ n ∧ (n = 0 ∨ 0 < k + m) := ⟨hm2, .inr (by omega)⟩
      clear hpos HM HL HC HG hk
      go_wp2
      go_roundw
      case rel => exact ⟨k + m, cur', hkm.1, hkm.2, rfl, HS1.out, hg4, HS2, hb4⟩
      case measure => simp [intOf]; omega
    · obtain rfl : k = n := by omega
      have HF : Hid (OwnS w.heap.size (.slice (some ⟨w.heap.size, 0, none⟩) k k) (List.replicate k x) wr) := by
        refine ⟨by simp [strsV], .inr ⟨w.heap.size, k, cur.toArray, by simp, Nat.le_refl _, HG.out, by simp, (by unfold maxLen; omega), (by simpa using hlen), ?_⟩⟩
        have := HC.out
        simp [strsV, this]
      go_wp2
      go_ret
      exact ⟨_, rfl, HF.out, hb⟩
end Go.Proofs.Ytgnegidgeegknaa
