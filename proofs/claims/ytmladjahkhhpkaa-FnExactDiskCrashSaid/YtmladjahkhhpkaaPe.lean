/-
  Contracts and plain laws, part 5 of 5: DkTo2, DkMark2, DkMark3, DkMark4, DkMark5, DkOut, DkRead, DkRep, DkNew, DkLawN, DkLawC
-/
import Derived.Laws.CopyOwn
import Derived.ChangeMaps5
import Derived.Test.YtmladjahkhhpkaaPd

/-
  Contract: a disk copied into rows of its own; two disks of the same parts are the same.
-/
namespace Go.Proofs.Ytmladjahkhhpkaa
open Go.RowKit
set_option maxRecDepth 100000

theorem apart_below {u v : Value} {m : Nat} (hu : ∀ b, u.ownBlock = some b → b < m) (hv : ∀ b, v.ownBlock = some b → m ≤ b) : u.ownBlock = none ∨ u.ownBlock ≠ v.ownBlock := by
  cases h : u.ownBlock with
  | none => exact .inl rfl
  | some b => exact .inr (fun e => by have h1 := hu b h; have h2 := hv b e.symm; omega)
set_option maxHeartbeats 1000000 in
theorem toDisk_own (A B : Nat) (so : Option Addr) (p : Nat) (co : Option Addr) (q : Nat) (d : Dk) (w : World) (hB : B ≤ w.heap.size) (hf : dkFits d) (hr : DkRow w A B so co d) :
    Calls Try.prog 16 #[.agg #[.slice so d.secs.length p, .slice co d.cache.length q]] w fun e w' => ∃ s c, e = .returned (.agg #[s, c]) ∧ OwnD w.heap.size s c d w' ∧ Below w.heap.size w w' := by
  have HR := hide hr
  have HF := hide hf
  clear hr hf
  obtain ⟨ss, cs⟩ := d
  simp only
  have HB0 : Hid (Below w.heap.size w (((w.alloc (.cells #[.slice so ss.length p, .slice co cs.length q] 32)).alloc (.cells #[.slice none 0 0, .slice none 0 0] 25)).alloc (.cells #[.slice none 0 0, .slice none 0 0] 25))) := (((Below.refl _ _).alloc (Nat.le_refl _) _).alloc (by simp) _).alloc (by simp; omega) _
  have X0 := hide (alloc3 w (.cells #[.slice so ss.length p, .slice co cs.length q] 32) (.cells #[.slice none 0 0, .slice none 0 0] 25) (.cells #[.slice none 0 0, .slice none 0 0] 25))
  have HZ : Hid ((((w.alloc (.cells #[.slice so ss.length p, .slice co cs.length q] 32)).alloc (.cells #[.slice none 0 0, .slice none 0 0] 25)).alloc (.cells #[.slice none 0 0, .slice none 0 0] 25)).heap.size = w.heap.size + 3) := by show _ = _; simp
  go_enter Try.func16, Try.ntmps16
  go_wp2_with fail
  refine (toStringS_ownS A w.heap.size so p ss _ HB0.out.size HF.out.1 ((HR.out.2.1.mono (Nat.le_refl _) hB).kept HB0.out)).mono ?_
  generalize ((w.alloc (.cells #[.slice so ss.length p, .slice co cs.length q] 32)).alloc (.cells #[.slice none 0 0, .slice none 0 0] 25)).alloc (.cells #[.slice none 0 0, .slice none 0 0] 25) = W0 at *
  rintro e w1 ⟨v, rfl, hr1, hb1⟩
  obtain ⟨so', p', rfl⟩ := ownS_shape hr1
  have hsz1 : w.heap.size + 3 ≤ w1.heap.size := by have := hb1.size; rw [HZ.out] at this; exact this
  have R1 : Hid (OwnS (w.heap.size + 3) (.slice so' ss.length p') ss w1) := owns_base hr1 (by rw [HZ.out]; omega)
  have M1 : Hid (∀ b, (Value.slice so' ss.length p').ownBlock = some b → b < w1.heap.size) := fun b hb => (World.ownsRow.lt hr1 b hb).2
  have B1 : Hid (Below w.heap.size w (w1.setCell ⟨w.heap.size + 1 + 1, 0, none⟩ (.slice so' ss.length p'))) := (HB0.out.trans (hb1.mono HB0.out.size)).setCell (by simp; omega) _
  have X1 := hide ((hb1.block w.heap.size (by rw [HZ.out]; omega)).trans X0.out.1)
  have Y1 := hide ((hb1.block (w.heap.size + 1) (by rw [HZ.out]; omega)).trans X0.out.2.1)
  have L1 := hide ((hb1.block (w.heap.size + 1 + 1) (by rw [HZ.out]; omega)).trans X0.out.2.2)
  obtain ⟨x0, x1, xf⟩ := cells2 X1.out
  obtain ⟨l0, l1, lf⟩ := cells2 L1.out
  clear hr1 hb1 X0 HZ
  go_wp2_with fail
  refine (toWriteS_own A w.heap.size co q cs _ B1.out.size HF.out.2 ((HR.out.2.2.mono (Nat.le_refl _) hB).kept B1.out)).mono ?_
  rintro e w2 ⟨v, rfl, hr2, hb2⟩
  obtain ⟨co', q', rfl⟩ := ownW_shape hr2
  have hsz2 : w1.heap.size ≤ w2.heap.size := by have := hb2.size; simpa using this
  have R2 : Hid (OwnW (w.heap.size + 3) (.slice co' cs.length q') cs w2) := owns_base hr2 (by simp; omega)
  have R12 : Hid (OwnS (w.heap.size + 3) (.slice so' ss.length p') ss w2) := owns_below (own_set R1.out (by omega)) hb2
  have HS : Hid (OwnD (w.heap.size + 3) (.slice so' ss.length p') (.slice co' cs.length q') ⟨ss, cs⟩ w2) := ⟨R12.out, R2.out, apart_below M1.out (fun b hb => by have := (World.ownsRow.lt hr2 b hb).1; simpa using this)⟩
  have B2 : Hid (Below w.heap.size w w2) := B1.out.trans (hb2.mono B1.out.size)
  have Y2 : Hid (w2.heap[w.heap.size + 1]? = some (.cells #[.slice none 0 0, .slice none 0 0] 25 (0, 0))) := ((hb2.block _ (by simp; omega)).trans (heap_far _ _ _ _ _ (by omega))).trans Y1.out
  have L2 : Hid (w2.heap[w.heap.size + 1 + 1]? = some (.cells #[.slice so' ss.length p', .slice none 0 0] 25 (0, 0))) := (hb2.block _ (by simp; omega)).trans (by simpa using heap_setCell_same _ _ 0 _ _ (.slice so' ss.length p') L1.out)
  clear x0 x1 xf l0 l1 lf
  obtain ⟨y0, y1, yf⟩ := cells2 Y2.out
  obtain ⟨l0, l1, lf⟩ := cells2 L2.out
  clear hr2 hb2 M1 R12 R2 R1 B1 HB0 HR HF X1 Y1 L1
  go_wp2
  refine bodyPost_ret (v := .agg #[.slice so' ss.length p', .slice co' cs.length q']) (by simp [results, Try.results16, go_sem, y0, y1]) rfl ⟨_, _, rfl, ?_, ?_⟩
  · exact (((HS.out.set (by omega)).set (by omega)).set (by omega)).base (by omega)
  · exact ((B2.out.setCell (by simp; omega) _).setCell (by simp) _).setCell (by simp) _
theorem eqWrite_same (n : Int) (t : ByteArray) (w : World) :
    Calls Try.prog 59 #[.agg #[.int .i64 n, .string t], .agg #[.int .i64 n, .string t]] w fun e w' => e = .returned (.bool true) ∧ Below w.heap.size w w' := by
  go_enter Try.func59, Try.ntmps59
  go_wp2
  go_ret
  exact ⟨rfl, ((Below.refl _ _).alloc (Nat.le_refl _) _).alloc (by simp) _⟩
theorem ownW_at {base : Nat} {v : Value} {l : List Wr} {w : World} (h : OwnW base v l w) : ∃ ao cap, v = .slice ao l.length cap ∧ ∀ k, k < l.length → ∃ b off n t, ao = some ⟨b, off, none⟩ ∧ b < w.heap.size ∧ l.getD k noWr = ⟨n, t⟩ ∧ w.cell? ⟨b, off + k * 2, none⟩ = some (.int .i64 n) ∧ w.cell? ⟨b, off + k * 2 + 1, none⟩ = some (.string t) := by
  rcases h.2 with ⟨rfl, h0⟩ | ⟨g, cap, cur, rfl, hB, hq, hn', hm, hs, hc⟩
  · exact ⟨none, 0, by rw [h0], fun k hk => by omega⟩
  · have hget : ∀ j, j < l.length * 2 → cur[j]? = (flatW l)[j]? := fun j hj => by
      have h1 : cur.toList.take (l.length * 2) = flatW l := by simpa using hc
      rw [← h1, List.getElem?_take_of_lt hj, Array.getElem?_toList]
    refine ⟨_, _, rfl, fun k hk => ⟨g, 0, (l.getD k noWr).pos, (l.getD k noWr).text, rfl, (Array.getElem?_eq_some_iff.1 hq).1, rfl, ?_, ?_⟩⟩
    · rw [cell_of_row _ _ _ _ _ _ hq, Nat.zero_add, hget _ (by omega), (flatW_get l k hk).1]
    · rw [cell_of_row _ _ _ _ _ _ hq, Nat.zero_add, hget _ (by omega), (flatW_get l k hk).2]
set_option maxHeartbeats 2000000 in
theorem eqWriteS_own (base base' : Nat) (v v' : Value) (l : List Wr) (w : World) (hl : l.length ≤ 1048576) (ha : OwnW base v l w) (hb : OwnW base' v' l w) :
    Calls Try.prog 35 #[v, v'] w fun e w' => e = .returned (.bool true) ∧ Below w.heap.size w w' := by
  obtain ⟨ao, cap, rfl, hka⟩ := ownW_at ha
  obtain ⟨bo, cp, rfl, hkb⟩ := ownW_at hb
  have HA := hide hka
  have HB := hide hkb
  clear ha hb hka hkb
  go_enter Try.func35, Try.ntmps35
  go_wp2
  go_loopw [5] (fun i wr => ∃ k : Nat, k ≤ l.length ∧ i = .int .i64 k ∧ Below w.heap.size w wr) (fun i _ => l.length - (intOf i).toNat)
  case atStart => exact ⟨0, Nat.zero_le _, rfl, Below.refl _ _⟩
  case round =>
    obtain ⟨k, hk, rfl, hbw⟩ := hrel
    by_cases hlt : k < l.length
    · obtain ⟨b, off, nn, tt, rfl, hbB, hv, d00, d01⟩ := HA.out k hlt
      obtain ⟨b', off', nn', tt', rfl, hbB', hv', e00, e01⟩ := HB.out k hlt
      rw [hv] at hv'
      simp only [Wr.mk.injEq] at hv'
      obtain ⟨rfl, rfl⟩ := hv'
      have hz := hbw.size
      have d0 := (hbw.cell (p := ⟨b, off + k * 2, none⟩) hbB).trans d00
      have d1 := (hbw.cell (p := ⟨b, off + k * 2 + 1, none⟩) hbB).trans d01
      have e0 := (hbw.cell (p := ⟨b', off' + k * 2, none⟩) hbB').trans e00
      have e1 := (hbw.cell (p := ⟨b', off' + k * 2 + 1, none⟩) hbB').trans e01
      have hi0 : (0 : Int) ≤ (k : Int) := by omega
      have hi1 : (k : Int) < (l.length : Int) := by omega
      have ht := (Int.toNat_natCast k)
      have hq1 : b < wr.heap.size := by omega
      have hq2 : b' < wr.heap.size := by omega
      clear hv d00 e00 d01 e01 hbB hbB'
      go_wp2
      go_region_held3 (fun W => W.cell? ⟨b, off + k * 2, none⟩ = some (.int .i64 nn) ∧ W.cell? ⟨b, off + k * 2 + 1, none⟩ = some (.string tt) ∧ W.cell? ⟨b', off' + k * 2, none⟩ = some (.int .i64 nn) ∧ W.cell? ⟨b', off' + k * 2 + 1, none⟩ = some (.string tt)) (go_keep) (first | (go_at_call 59; refine (eqWrite_same nn tt _).mono ?_; rintro e w1 ⟨rfl, hb1⟩; have hb1' : Below wr.heap.size wr w1 := (Below.refl _ _).drew.trans hb1; obtain ⟨hc1, hf1⟩ := bcell hb1'))
      all_goals
        have hb2 := hbw.trans (hb1'.mono hz)
        clear d0 d1 e0 e1 hb1 hb1' hbw hc1 hf1
        go_wp2
        go_roundw
        case rel => exact ⟨k + 1, by omega, by go_num, hb2⟩
        case measure => simp [intOf]; omega
    · go_wp2
      go_ret
      exact ⟨rfl, hbw⟩
set_option maxHeartbeats 2000000 in
theorem eqDisk_own (b1 b2 : Nat) (s c s' c' : Value) (d : Dk) (w : World) (hf : dkFits d) (h : OwnD b1 s c d w) (h' : OwnD b2 s' c' d w) :
    Calls Try.prog 11 #[.agg #[s, c], .agg #[s', c']] w fun e w' => e = .returned (.bool true) ∧ Below w.heap.size w w' := by
  have C1 := hide (fun (W : World) (hb : Below w.heap.size w W) => eqStringS_own _ _ _ _ d.secs W hf.1 (owns_below h.secs hb) (owns_below h'.secs hb))
  have C2 := hide (fun (W : World) (hb : Below w.heap.size w W) => eqWriteS_own _ _ _ _ d.cache W hf.2 (owns_below h.cache hb) (owns_below h'.cache hb))
  obtain ⟨so, p, co, q, rfl, rfl⟩ := h.shape
  obtain ⟨so', p', co', q', rfl, rfl⟩ := h'.shape
  obtain ⟨ss, cs⟩ := d
  simp only at *
  have HA := hide (two_allocs w (.cells #[.slice so ss.length p, .slice co cs.length q] 25) (.cells #[.slice so' ss.length p', .slice co' cs.length q'] 25))
  have B0 := hide (((Below.refl w.heap.size w).alloc (Nat.le_refl _) (.cells #[.slice so ss.length p, .slice co cs.length q] 25)).alloc (by simp) (.cells #[.slice so' ss.length p', .slice co' cs.length q'] 25))
  clear h h' hf
  go_enter Try.func11, Try.ntmps11
  go_wp2_with fail
  refine (C1.out _ B0.out).mono ?_
  generalize (w.alloc (.cells #[.slice so ss.length p, .slice co cs.length q] 25)).alloc (.cells #[.slice so' ss.length p', .slice co' cs.length q'] 25) = W0 at *
  rintro e w1 ⟨rfl, b1⟩
  obtain ⟨hx0, hy0, hz0⟩ := HA.out
  have X1 := hide ((b1.block w.heap.size (by omega)).trans hx0)
  have Y1 := hide ((b1.block (w.heap.size + 1) (by omega)).trans hy0)
  have B1 := hide (B0.out.trans (b1.mono B0.out.size))
  obtain ⟨x0, x1, xf⟩ := cells2 X1.out
  obtain ⟨y0, y1, yf⟩ := cells2 Y1.out
  clear b1 HA hx0 hy0 hz0 B0 C1
  go_wp2_with fail
  refine (C2.out _ B1.out).mono ?_
  rintro e w2 ⟨rfl, b2⟩
  have B2 := hide (B1.out.trans (b2.mono B1.out.size))
  clear b2 X1 Y1 B1 C2 x0 x1 xf y0 y1 yf
  go_wp2
  go_ret
  exact ⟨rfl, B2.out⟩
end Go.Proofs.Ytmladjahkhhpkaa

/-
  Contracts: a disk is marked, and looked at again.
-/
namespace Go.Proofs.Ytmladjahkhhpkaa
open Go.RowKit
set_option maxRecDepth 100000

set_option maxHeartbeats 2000000 in
theorem heldStringS_mk (base : Nat) (v : Value) (n k0 : Nat) (w : World) (hk0 : 0 < k0) (hk1 : k0 + n ≤ 5000000) (h : OwnS base v (mStrs k0 n) w) :
    Calls Try.prog 38 #[v, .int .i64 k0] w fun e w' => e = .returned (.int .i64 ((k0 + n : Nat) : Int)) ∧ Below w.heap.size w w' := by
  obtain ⟨ao, cap, rfl, hka⟩ := ownS_row h
  rw [mStrs_len] at hka ⊢
  have HA : Hid (∀ k, k < n → ∃ b off, ao = some ⟨b, off, none⟩ ∧ b < w.heap.size ∧ w.cell? ⟨b, off + k, none⟩ = some (.string (markS (k0 + k)))) := fun k hk => by
    obtain ⟨b, off, x, e, hb, hx, hc⟩ := hka k hk
    rw [mStrs_get _ _ _ hk] at hx
    subst hx
    exact ⟨b, off, e, hb, hc⟩
  clear h hka
  go_enter Try.func38, Try.ntmps38
  go_wp2
  go_loopw [1, 5] (fun q i wr => ∃ k : Nat, k ≤ n ∧ i = .int .i64 k ∧ q = .int .i64 ((k0 + k : Nat) : Int) ∧ Below w.heap.size w wr) (fun _ i _ => n - (intOf i).toNat)
  case atStart => exact ⟨0, Nat.zero_le _, rfl, rfl, Below.refl _ _⟩
  case round =>
    obtain ⟨k, hk, rfl, rfl, hb⟩ := hrel
    have hz := hb.size
    by_cases hlt : k < n
    · obtain ⟨b, off, rfl, hbB, d00⟩ := HA.out k hlt
      have d0 := (hb.cell (p := ⟨b, off + k, none⟩) hbB).trans d00
      have hi0 : (0 : Int) ≤ (k : Int) := by omega
      have hi1 : (k : Int) < (n : Int) := by omega
      have ht := (Int.toNat_natCast k)
      have hmt := fun W => markText_pos (k0 + k) (by omega) (by omega) W
      generalize markS (k0 + k) = T at *
      have hgr : b < wr.heap.size := by omega
      clear d00
      go_wp2
      go_region_held3 (fun W => W.cell? ⟨b, off + k, none⟩ = some (.string T)) (go_keep) (first | (go_at_call 60; refine (hmt _).mono ?_; rintro e w1 ⟨rfl, hb1⟩; have hb1' : Below wr.heap.size wr w1 := (Below.refl _ _).drew.trans hb1; obtain ⟨hc1, hf1⟩ := bcell hb1'))
      all_goals
        have hb2 := hb.trans (hb1'.mono hz)
        clear d0 hb1 hb1' hb hc1 hf1
        go_wp2
        go_roundw
        case rel => exact ⟨k + 1, by omega, by go_num, by go_num, hb2⟩
        case measure => simp [intOf]; omega
    · obtain rfl : k = n := by omega
      go_wp2
      go_ret
      exact ⟨rfl, hb⟩
end Go.Proofs.Ytmladjahkhhpkaa

/-
  Contract: marked writes are looked at again.
-/
namespace Go.Proofs.Ytmladjahkhhpkaa
open Go.RowKit
set_option maxRecDepth 100000

set_option maxHeartbeats 4000000 in
theorem heldWriteS_mk (base : Nat) (v : Value) (n k0 : Nat) (w : World) (hk0 : 0 < k0) (hk1 : k0 + 2 * n ≤ 5000000) (h : OwnW base v (mWrs k0 n) w) :
    Calls Try.prog 39 #[v, .int .i64 k0] w fun e w' => e = .returned (.int .i64 ((k0 + 2 * n : Nat) : Int)) ∧ Below w.heap.size w w' := by
  obtain ⟨ao, cap, rfl, hka⟩ := ownW_at h
  rw [mWrs_len] at hka ⊢
  have HA : Hid (∀ k, k < n → ∃ b off, ao = some ⟨b, off, none⟩ ∧ b < w.heap.size ∧ w.cell? ⟨b, off + k * 2, none⟩ = some (.int .i64 ((k0 + 2 * k : Nat) : Int)) ∧ w.cell? ⟨b, off + k * 2 + 1, none⟩ = some (.string (markS (k0 + 2 * k + 1)))) := fun k hk => by
    obtain ⟨b, off, x, t, e, hb, hx, hc, hc2⟩ := hka k hk
    rw [mWrs_get _ _ _ hk] at hx
    unfold mWr at hx
    simp only [Wr.mk.injEq] at hx
    obtain ⟨rfl, rfl⟩ := hx
    exact ⟨b, off, e, hb, hc, hc2⟩
  clear h hka
  go_enter Try.func39, Try.ntmps39
  go_wp2
  go_loopw [1, 5] (fun s i wr => ∃ k q : Nat, k ≤ n ∧ i = .int .i64 k ∧ s = .int .i64 q ∧ Hid (q = k0 + 2 * k) ∧ (0 < q ∧ q ≤ 5000000) ∧ Below w.heap.size w wr) (fun _ i _ => n - (intOf i).toNat)
  case atStart => exact ⟨0, k0, Nat.zero_le _, rfl, rfl, (by show _ = _; omega), ⟨hk0, by omega⟩, Below.refl _ _⟩
  case round =>
    obtain ⟨k, q, hk, rfl, rfl, HQ, ⟨hq0, hq1⟩, hb⟩ := hrel
    have hz := hb.size
    by_cases hlt : k < n
    · obtain ⟨b, off, rfl, hbB, d00, d01⟩ := HA.out k hlt
      rw [← HQ.out] at d00 d01
      have d0 := (hb.cell (p := ⟨b, off + k * 2, none⟩) hbB).trans d00
      have d1 := (hb.cell (p := ⟨b, off + k * 2 + 1, none⟩) hbB).trans d01
      have hi0 : (0 : Int) ≤ (k : Int) := by omega
      have hi1 : (k : Int) < (n : Int) := by omega
      have ht := (Int.toNat_natCast k)
      have hq2 : q + 2 ≤ 5000000 := by have := HQ.out; omega
      have hmt := fun W => markText_pos (q + 1) (by omega) (by omega) W
      have hq3 : ((q + 1 : Nat) : Int) = (q : Int) + 1 := by omega
      rw [hq3] at hmt
      generalize markS (q + 1) = T at *
      have hgr : b < wr.heap.size := by omega
      clear d00 d01 hq3
      go_wp2
      go_region_held3 (fun W => W.cell? ⟨b, off + k * 2 + 1, none⟩ = some (.string T)) (go_keep) (first | (go_at_call 60; refine (hmt _).mono ?_; rintro e w1 ⟨rfl, hb1⟩; have hb1' : Below wr.heap.size wr w1 := (Below.refl _ _).drew.trans hb1; obtain ⟨hc1, hf1⟩ := bcell hb1'))
      all_goals
        have hb2 := hb.trans (hb1'.mono hz)
        clear d0 d1 hb1 hb1' hb hc1 hf1
        go_wp2
        go_roundw
        case rel => exact ⟨k + 1, q + 2, by omega, by go_num, by go_num, (by show _ = _; have := HQ.out; omega), ⟨by omega, hq2⟩, hb2⟩
        case measure => simp [intOf]; omega
    · obtain rfl : k = n := by omega
      have HZ : Hid ((q : Int) = ((k0 + 2 * k : Nat) : Int)) := by show _ = _; rw [HQ.out]
      go_wp2
      go_ret
      exact ⟨by rw [HZ.out]; rfl, hb⟩
end Go.Proofs.Ytmladjahkhhpkaa

/-
  Contract: a disk is marked.
-/
namespace Go.Proofs.Ytmladjahkhhpkaa
open Go.RowKit
set_option maxRecDepth 100000

def mDk (d : Dk) : Dk := ⟨mStrs 1 d.secs.length, mWrs (1 + d.secs.length) d.cache.length⟩
def cntD (d : Dk) : Nat := 1 + d.secs.length + 2 * d.cache.length
theorem apart_ne {u v : Value} (h : u.ownBlock = none ∨ u.ownBlock ≠ v.ownBlock) : v.ownBlock = none ∨ v.ownBlock ≠ u.ownBlock := by
  rcases h with h | h
  · cases hv : v.ownBlock with
    | none => exact .inl rfl
    | some b => exact .inr (by rw [h]; simp)
  · exact .inr (fun e => h e.symm)
set_option maxHeartbeats 4000000 in
theorem markDisk_own (base : Nat) (s c : Value) (d : Dk) (w : World) (hc : dkFits d) (h : OwnD base s c d w) :
    Calls Try.prog 12 #[.agg #[s, c], .int .i64 1] w fun e w' => e = .returned (.int .i64 ((cntD d : Nat) : Int)) ∧ OwnD base s c (mDk d) w' ∧ GL [s, c] w w' := by
  have hc1 := hc.1
  have hc2 := hc.2
  obtain ⟨q1, hq1⟩ : ∃ q, q = 1 + d.secs.length := ⟨_, rfl⟩
  have HM : Hid (mDk d = ⟨mStrs 1 d.secs.length, mWrs q1 d.cache.length⟩ ∧ cntD d = q1 + 2 * d.cache.length) := by rw [hq1]; exact ⟨rfl, rfl⟩
  have HC1 := hide (fun (W : World) (hW : OwnS base s d.secs W) => show Calls Try.prog 36 #[s, .int .i64 1] W fun e w' => e = .returned (.int .i64 (q1 : Int)) ∧ OwnS base s (mStrs 1 d.secs.length) w' ∧ W.grownBy w' s.ownBlock by rw [hq1]; exact markStringS_mk base s d.secs 1 W (by omega) (by omega) hW)
  have HC2 := hide (fun (W : World) (hW : OwnW base c d.cache W) => markWriteS_mk base c d.cache q1 W (by omega) (by omega) hW)
  obtain ⟨so, p, co, q, rfl, rfl⟩ := h.shape
  obtain ⟨ss, cs⟩ := d
  simp only at *
  have HAP := hide h.apart
  have HL := hide h.lt
  have BA := (Below.refl w.heap.size w).alloc (Nat.le_refl _) (.cells #[.slice so ss.length p, .slice co cs.length q] 25)
  have HS0 := hide (h.below BA)
  have HX0 := hide (heap_alloc_new w (.cells #[.slice so ss.length p, .slice co cs.length q] 25))
  have B0 := hide (GL.alloc [.slice so ss.length p, .slice co cs.length q] w (.cells #[.slice so ss.length p, .slice co cs.length q] 25))
  have HZ : Hid ((w.alloc (.cells #[.slice so ss.length p, .slice co cs.length q] 25)).heap.size = w.heap.size + 1) := by show _ = _; simp
  clear h hc BA hq1 hc1 hc2
  go_enter Try.func12, Try.ntmps12
  go_wp2_with fail
  refine (HC1.out _ HS0.out.secs).mono ?_
  generalize w.alloc (.cells #[.slice so ss.length p, .slice co cs.length q] 25) = W0 at *
  rintro e w1 ⟨rfl, o1, g1⟩
  have HX1 := hide ((g1.block w.heap.size (by rw [HZ.out]; omega) (fun e => by have := (HL.out.1 _ e.symm).2; omega)).trans HX0.out)
  have K1 := hide (World.ownsRow.kept HS0.out.cache g1 (apart_ne HAP.out))
  have O1 := hide o1
  have B1 := hide (B0.out.trans (GL.of g1 (by simp)))
  clear o1 g1 HX0 B0 HS0 HC1 HZ
  obtain ⟨x0, x1, xf⟩ := cells2 HX1.out
  go_wp2_with fail
  refine (HC2.out _ K1.out).mono ?_
  rintro e w2 ⟨rfl, o2, g2⟩
  have O2 := hide (World.ownsRow.kept O1.out g2 HAP.out)
  have K2 := hide o2
  have B2 := hide (B1.out.trans (GL.of g2 (by simp)))
  have HO : Hid (OwnD base (.slice so ss.length p) (.slice co cs.length q) (mDk ⟨ss, cs⟩) w2) := by
    show OwnD _ _ _ _ _
    rw [HM.out.1]
    exact ⟨O2.out, K2.out, HAP.out⟩
  clear o2 g2 HX1 B1 K1 O1 HC2 x0 x1 xf
  have HCN := hide HM.out.2
  go_wp2
  go_ret
  exact ⟨by rw [HCN.out]; rfl, HO.out, B2.out⟩
end Go.Proofs.Ytmladjahkhhpkaa

/-
  Contract: a marked disk is looked at again.
-/
namespace Go.Proofs.Ytmladjahkhhpkaa
open Go.RowKit
set_option maxRecDepth 100000

set_option maxHeartbeats 4000000 in
theorem heldDisk_own (base : Nat) (s c : Value) (d : Dk) (w : World) (hc : dkFits d) (h : OwnD base s c (mDk d) w) :
    Calls Try.prog 13 #[.agg #[s, c], .int .i64 1] w fun e w' => e = .returned (.int .i64 ((cntD d : Nat) : Int)) ∧ Below w.heap.size w w' := by
  have hc1 := hc.1
  have hc2 := hc.2
  obtain ⟨q1, hq1⟩ : ∃ q, q = 1 + d.secs.length := ⟨_, rfl⟩
  have HM : Hid (cntD d = q1 + 2 * d.cache.length) := by rw [hq1]; rfl
  have h1 : OwnS base s (mStrs 1 d.secs.length) w := by have := h.secs; unfold mDk at this; exact this
  have h2 : OwnW base c (mWrs q1 d.cache.length) w := by have := h.cache; unfold mDk at this; rw [hq1]; exact this
  have HC1 := hide (fun (W : World) (hW : Below w.heap.size w W) => show Calls Try.prog 38 #[s, .int .i64 1] W fun e w' => e = .returned (.int .i64 (q1 : Int)) ∧ Below W.heap.size W w' by rw [hq1]; exact heldStringS_mk base s d.secs.length 1 W (by omega) (by omega) (owns_below h1 hW))
  have HC2 := hide (fun (W : World) (hW : Below w.heap.size w W) => heldWriteS_mk base c d.cache.length q1 W (by omega) (by omega) (owns_below h2 hW))
  obtain ⟨so, p, es⟩ := ownS_shape h1
  obtain ⟨co, q, ec⟩ := ownW_shape h2
  rw [mStrs_len] at es
  rw [mWrs_len] at ec
  subst es ec
  obtain ⟨ss, cs⟩ := d
  simp only at *
  have BA := hide ((Below.refl w.heap.size w).alloc (Nat.le_refl _) (.cells #[.slice so ss.length p, .slice co cs.length q] 25))
  have HX0 := hide (heap_alloc_new w (.cells #[.slice so ss.length p, .slice co cs.length q] 25))
  have HZ : Hid ((w.alloc (.cells #[.slice so ss.length p, .slice co cs.length q] 25)).heap.size = w.heap.size + 1) := by show _ = _; simp
  have hn1 : ¬ ((q1 : Int) < 0) := by omega
  have hn2 : ¬ (((q1 + 2 * cs.length : Nat) : Int) < 0) := by omega
  clear h h1 h2 hc hq1 hc1 hc2
  generalize q1 + 2 * cs.length = q2 at *
  go_enter Try.func13, Try.ntmps13
  go_wp2_with fail
  refine (HC1.out _ BA.out).mono ?_
  generalize w.alloc (.cells #[.slice so ss.length p, .slice co cs.length q] 25) = W0 at *
  rintro e w1 ⟨rfl, g1⟩
  have HX1 := hide ((g1.block w.heap.size (by rw [HZ.out]; omega)).trans HX0.out)
  have B1 := hide (BA.out.trans (g1.mono BA.out.size))
  clear g1 HX0 BA HC1 HZ
  obtain ⟨x0, x1, xf⟩ := cells2 HX1.out
  go_wp2_with fail
  refine (HC2.out _ B1.out).mono ?_
  rintro e w2 ⟨rfl, g2⟩
  have B2 := hide (B1.out.trans (g2.mono B1.out.size))
  clear g2 HX1 B1 HC2 x0 x1 xf
  go_wp2
  go_ret
  exact ⟨by rw [HM.out]; rfl, B2.out⟩
end Go.Proofs.Ytmladjahkhhpkaa

/-
  Contracts: what a disk's call tells, held against another, marked, looked at again.
-/
namespace Go.Proofs.Ytmladjahkhhpkaa
open Go.RowKit
set_option maxRecDepth 100000

theorem GL.ownD {l : List Value} {w w' : World} {b m n : Nat} {s c : Value} {d : Dk} (h : GL l w w') (ho : OwnD b s c d w) (hv : ∀ v ∈ l, ∀ b, v.ownBlock = some b → m ≤ b ∧ b < n) (hs : ∀ b, s.ownBlock = some b → b < m ∨ n ≤ b) (hc : ∀ b, c.ownBlock = some b → b < m ∨ n ≤ b) : OwnD b s c d w' := by
  have key : ∀ u : Value, (∀ b, u.ownBlock = some b → b < m ∨ n ≤ b) → ∀ v ∈ l, u.ownBlock = none ∨ u.ownBlock ≠ v.ownBlock := fun u hu v hl => by
    cases hq : u.ownBlock with
    | none => exact .inl rfl
    | some q =>
      refine .inr (fun e => ?_)
      have h1 := hu q hq
      have h2 := hv v hl q e.symm
      omega
  exact ⟨h.own ho.secs (key s hs), h.own ho.cache (key c hc), ho.apart⟩
theorem GL.blk {l : List Value} {w w' : World} {g m n : Nat} {o : Obj} (h : GL l w w') (hg : w.heap[g]? = some o) (hv : ∀ v ∈ l, ∀ b, v.ownBlock = some b → m ≤ b ∧ b < n) (hb : g < m ∨ n ≤ g) : w'.heap[g]? = some o :=
  (h.block g (Array.getElem?_eq_some_iff.1 hg).1 (fun v hl e => by have := hv v hl g e; omega)).trans hg
theorem GL.bel {l : List Value} {w w' : World} {B m n : Nat} (h : GL l w w') (hv : ∀ v ∈ l, ∀ b, v.ownBlock = some b → m ≤ b ∧ b < n) (hm : B ≤ m) (hB : B ≤ w.heap.size) : Below B w w' :=
  h.below (fun v hl b e => by have := hv v hl b e; omega) hB
theorem OwnD.two {b m n : Nat} {s c : Value} {d : Dk} {w : World} (h : OwnD b s c d w) (hm : m ≤ b) (hn : w.heap.size ≤ n) : ∀ v ∈ [s, c], ∀ b, v.ownBlock = some b → m ≤ b ∧ b < n := fun v hv k hk => by
  simp only [List.mem_cons, List.not_mem_nil, or_false] at hv
  rcases hv with rfl | rfl
  · have := h.lt.1 k hk; omega
  · have := h.lt.2 k hk; omega
theorem blk_lt {w : World} {g : Nat} {o : Obj} (h : w.heap[g]? = some o) : g < w.heap.size := (Array.getElem?_eq_some_iff.1 h).1
set_option maxHeartbeats 2000000 in
theorem eqDiskOut_own (b1 b2 : Nat) (s c s' c' : Value) (t : ByteArray) (k : Int) (d : Dk) (w : World) (hf : dkFits d) (h : OwnD b1 s c d w) (h' : OwnD b2 s' c' d w) :
    Calls Try.prog 20 #[.agg #[s, c, .string t, .int .i64 k], .agg #[s', c', .string t, .int .i64 k]] w fun e w' => e = .returned (.bool true) ∧ Below w.heap.size w w' := by
  have C1 := hide (fun (W : World) (hb : Below w.heap.size w W) => eqDisk_own _ _ _ _ _ _ d W hf (h.below hb) (h'.below hb))
  obtain ⟨so, p, co, q, rfl, rfl⟩ := h.shape
  obtain ⟨so', p', co', q', rfl, rfl⟩ := h'.shape
  obtain ⟨ss, cs⟩ := d
  simp only at *
  have HA := hide (two_allocs w (.cells #[.slice so ss.length p, .slice co cs.length q, .string t, .int .i64 k] 38) (.cells #[.slice so' ss.length p', .slice co' cs.length q', .string t, .int .i64 k] 38))
  have B0 := hide (((Below.refl w.heap.size w).alloc (Nat.le_refl _) (.cells #[.slice so ss.length p, .slice co cs.length q, .string t, .int .i64 k] 38)).alloc (by simp) (.cells #[.slice so' ss.length p', .slice co' cs.length q', .string t, .int .i64 k] 38))
  clear h h' hf
  go_enter Try.func20, Try.ntmps20
  go_wp2_with fail
  refine (C1.out _ B0.out).mono ?_
  generalize (w.alloc (.cells #[.slice so ss.length p, .slice co cs.length q, .string t, .int .i64 k] 38)).alloc (.cells #[.slice so' ss.length p', .slice co' cs.length q', .string t, .int .i64 k] 38) = W0 at *
  rintro e w1 ⟨rfl, b1⟩
  obtain ⟨hx0, hy0, hz0⟩ := HA.out
  obtain ⟨x0, x1, x2, x3, xf⟩ := cells4 ((b1.block w.heap.size (by omega)).trans hx0)
  obtain ⟨y0, y1, y2, y3, yf⟩ := cells4 ((b1.block (w.heap.size + 1) (by omega)).trans hy0)
  have B1 := hide (B0.out.trans (b1.mono B0.out.size))
  clear b1 HA hx0 hy0 hz0 B0 C1
  go_wp2
  go_ret
  exact ⟨rfl, B1.out⟩
set_option maxHeartbeats 2000000 in
theorem markDiskOut_own (base : Nat) (s c : Value) (t : ByteArray) (k : Int) (d : Dk) (w : World) (hf : dkFits d) (h : OwnD base s c d w) :
    Calls Try.prog 21 #[.agg #[s, c, .string t, .int .i64 k], .int .i64 1] w fun e w' => e = .returned (.int .i64 ((cntD d : Nat) : Int)) ∧ OwnD base s c (mDk d) w' ∧ GL [s, c] w w' := by
  have BA := (Below.refl w.heap.size w).alloc (Nat.le_refl _) (.cells #[s, c, .string t, .int .i64 k] 38)
  have HC := hide (markDisk_own base s c d _ hf (h.below BA))
  have B0 := hide (GL.alloc [s, c] w (.cells #[s, c, .string t, .int .i64 k] 38))
  obtain ⟨so, p, co, q, rfl, rfl⟩ := h.shape
  generalize mDk d = ms at *
  generalize cntD d = n at *
  obtain ⟨ss, cs⟩ := d
  simp only at *
  clear h hf BA
  go_enter Try.func21, Try.ntmps21
  go_wp2_with fail
  refine HC.out.mono ?_
  generalize w.alloc (.cells #[.slice so ss.length p, .slice co cs.length q, .string t, .int .i64 k] 38) = W0 at *
  rintro e w1 ⟨rfl, o1, g1⟩
  have O1 := hide o1
  have B1 := hide (B0.out.trans g1)
  clear o1 g1 HC B0
  go_wp2
  go_ret
  exact ⟨rfl, O1.out, B1.out⟩
set_option maxHeartbeats 2000000 in
theorem heldDiskOut_own (base : Nat) (s c : Value) (t : ByteArray) (k : Int) (d : Dk) (w : World) (hf : dkFits d) (h : OwnD base s c (mDk d) w) :
    Calls Try.prog 22 #[.agg #[s, c, .string t, .int .i64 k], .int .i64 1] w fun e w' => e = .returned (.int .i64 ((cntD d : Nat) : Int)) ∧ Below w.heap.size w w' := by
  have BA := (Below.refl w.heap.size w).alloc (Nat.le_refl _) (.cells #[s, c, .string t, .int .i64 k] 38)
  have HC := hide (heldDisk_own base s c d _ hf (h.below BA))
  have B0 := hide BA
  have h1 : OwnS base s (mStrs 1 d.secs.length) w := by have := h.secs; unfold mDk at this; exact this
  have h2 : OwnW base c (mWrs (1 + d.secs.length) d.cache.length) w := by have := h.cache; unfold mDk at this; exact this
  obtain ⟨so, p, es⟩ := ownS_shape h1
  obtain ⟨co, q, ec⟩ := ownW_shape h2
  rw [mStrs_len] at es
  rw [mWrs_len] at ec
  subst es ec
  generalize cntD d = n at *
  obtain ⟨ss, cs⟩ := d
  simp only at *
  clear h hf BA h1 h2
  have hn : ¬ ((n : Int) < 0) := by omega
  go_enter Try.func22, Try.ntmps22
  go_wp2_with fail
  refine HC.out.mono ?_
  generalize hW : w.alloc (.cells #[.slice so ss.length p, .slice co cs.length q, .string t, .int .i64 k] 38) = W0 at *
  rintro e w1 ⟨rfl, g1⟩
  have B1 := hide (B0.out.trans (g1.mono B0.out.size))
  clear g1 HC B0 hW
  go_wp2
  go_ret
  exact ⟨rfl, B1.out⟩
end Go.Proofs.Ytmladjahkhhpkaa

/-
  What came in as an argument: a disk.
-/
namespace Go.Proofs.Ytmladjahkhhpkaa
open Go.RowKit Go.ChangeShapes Go.WideShapes
set_option maxRecDepth 100000

def IsDisk (w : World) (v : Value) : Prop := ∃ so p co q d, v = .agg #[.slice so (Dk.secs d).length p, .slice co d.cache.length q] ∧ DkRow w 0 w.heap.size so co d
section
variable {H : Type} {enc : TypeId × Value → H} {W : World}

theorem readWr {base : Nat} {spare : Nat → Bool} {held : Bool} {fuel : Nat} {cs : List Value} {y : DataW H × List MemPlace} (h : DataW.trod enc Try.prog W base spare held fuel 86 cs = some y) :
    ∃ x : Wr, cs = [.int .i64 x.pos, .string x.text] ∧ wI64 x.pos ∧ x.text.size ≤ maxLen := by
  obtain ⟨ys, n, hfu, _, hl, hlen, hx⟩ := DataW.trod_struct Try.underlying86 h
  have hC : Try.prog.cellsOf 86 = 2 := by kernel_rfl
  rw [hC] at hl
  match ys, hlen, cs, hl with
  | [y0, y1], _, [c0, c1], _ =>
    have h0 := hx 0 _ rfl
    have h1 := hx 1 _ rfl
    have cI : Try.prog.cellsOf 2 = 1 := by kernel_rfl
    have cS : Try.prog.cellsOf 9 = 1 := by kernel_rfl
    have e0 : (([c0, c1] : List Value).drop 0).take (Try.prog.cellsOf 2) = [c0] := by rw [cI]; rfl
    have e1 : (([c0, c1] : List Value).drop 1).take (Try.prog.cellsOf 9) = [c1] := by rw [cS]; rfl
    have h0' : DataW.trod enc Try.prog W base spare held n 2 [c0] = some y0 := by rw [← e0]; exact h0
    have h1' : DataW.trod enc Try.prog W base spare held n 9 [c1] = some y1 := by rw [← e1]; exact h1
    obtain ⟨a, ea, _, wa⟩ := DataW.trod_int Try.underlying2 h0'
    obtain ⟨t, et, _, wt⟩ := DataW.trod_string Try.underlying9 h1'
    simp only [List.cons.injEq, and_true] at ea et
    subst ea et
    exact ⟨⟨a, t⟩, rfl, bounds_i64 wa, wt⟩
theorem readWrs {base : Nat} {spare : Nat → Bool} {held : Bool} {fuel : Nat} {cs : List Value} {y : DataW H × List MemPlace} (h : DataW.trod enc Try.prog W base spare held fuel 30 cs = some y) :
    ∃ ao cap l, cs = [.slice ao (List.length l) cap] ∧ (l.length ≤ cap ∧ cap ≤ maxLen) ∧ WrRow W 0 W.heap.size ao l := by
  obtain ⟨ao, cap, l, rfl, hc, hb, hx⟩ := readSliceF (n := 2) (by omega) Try.underlying30 (by kernel_rfl) (fun cs (x : Wr) => cs = [.int .i64 x.pos, .string x.text] ∧ wI64 x.pos ∧ x.text.size ≤ maxLen) (fun m _ cs y h => readWr h) h
  refine ⟨ao, cap, l, rfl, hc, fun x hx' => ?_, ?_⟩
  · obtain ⟨i, hi, rfl⟩ := List.getElem_of_mem hx'
    rcases hb with h0 | ⟨b, off, e, _⟩
    · omega
    · obtain ⟨_, hp, _⟩ := hx b off e i hi
      exact hp.2
  · rcases hb with h0 | ⟨b, off, e, hlt⟩
    · exact .inl h0
    · refine .inr ⟨b, off, e, Nat.zero_le _, hlt, fun i hi => ?_⟩
      obtain ⟨cs', ⟨rfl, _⟩, _, hcell⟩ := hx b off e i hi
      rw [getD_ofT l noWr i hi]
      exact ⟨by simpa using hcell 0 (by simp), by simpa using hcell 1 (by simp)⟩
theorem rdDisk {base : Nat} {v : Value} {d : DataW H} {p : List MemPlace} (hv : Value.okWide Try.prog W .any base 32 v) (h : DataW.Trod enc Try.prog W 0 (fun _ => true) true 32 v d p) : IsDisk W v := by
  obtain ⟨fuel, hf⟩ := h
  obtain ⟨cs, rfl, _⟩ := okWide_struct Try.underlying32 hv
  have hcv : (Value.agg cs).cells.toList = cs.toList := by simp [Value.cells]
  rw [hcv] at hf
  obtain ⟨ys, n, hfu, _, hl, hlen, hx⟩ := DataW.trod_struct Try.underlying32 hf
  have hC : Try.prog.cellsOf 32 = 2 := by kernel_rfl
  rw [hC] at hl
  obtain ⟨cl, rfl⟩ : ∃ cl : List Value, cs = cl.toArray := ⟨cs.toList, by simp⟩
  simp only at hl hx
  match ys, hlen, cl, hl with
  | [y0, y1], _, [c0, c1], _ =>
    have h0 := hx 0 _ rfl
    have h1 := hx 1 _ rfl
    have cS : Try.prog.cellsOf 22 = 1 := by kernel_rfl
    have cW : Try.prog.cellsOf 30 = 1 := by kernel_rfl
    have e0 : (([c0, c1] : List Value).drop 0).take (Try.prog.cellsOf 22) = [c0] := by rw [cS]; rfl
    have e1 : (([c0, c1] : List Value).drop 1).take (Try.prog.cellsOf 30) = [c1] := by rw [cW]; rfl
    have h0' : DataW.trod enc Try.prog W 0 (fun _ => true) true n 22 [c0] = some y0 := by rw [← e0]; exact h0
    have h1' : DataW.trod enc Try.prog W 0 (fun _ => true) true n 30 [c1] = some y1 := by rw [← e1]; exact h1
    obtain ⟨so, p, ss, es, hs1, hrs⟩ := readStrs h0'
    obtain ⟨co, q, ws, ew, hw1, hrw⟩ := readWrs h1'
    simp only [List.cons.injEq, and_true] at es ew
    subst es ew
    exact ⟨so, p, co, q, ⟨ss, ws⟩, rfl, ⟨Nat.le_trans hs1.1 hs1.2, Nat.le_trans hw1.1 hw1.2⟩, hrs, hrw⟩
end
end Go.Proofs.Ytmladjahkhhpkaa

/-
  Contracts: slices.Repeat of one text.
-/
namespace Go.Proofs.Ytmladjahkhhpkaa
open Go.RowKit
set_option maxRecDepth 100000

set_option maxHeartbeats 1000000 in
theorem mul64_one (y : Nat) (hy : y ≤ 100000) (w : World) :
    Calls Try.prog 67 #[.int .u64 1, .int .u64 y] w fun e w' => e = .returned (.tuple #[.int .u64 0, .int .u64 y]) ∧ w' = w := by
  have h1 : bits .and .u64 1 4294967295 = 1 := by kernel_rfl
  have h2 : bits .and .u64 (y : Int) 4294967295 = (y : Int) := by
    have := u64_and_nat y 4294967295 (by omega) (by omega)
    have e : y &&& 4294967295 = y % 4294967296 := Nat.and_two_pow_sub_one_eq_mod y 32
    rw [e, Nat.mod_eq_of_lt (by omega)] at this
    exact this
  have h3 : bits .and .u64 0 4294967295 = 0 := by kernel_rfl
  have h4 : (y : Int) / 4294967296 = 0 := by omega
  go_enter Try.func67, Try.ntmps67
  go_wp2
  go_ret2
  exact ⟨rfl, rfl⟩
set_option maxHeartbeats 1000000 in
theorem mul_one' (y : Nat) (hy : y ≤ 100000) (w : World) :
    Calls Try.prog 58 #[.int .u64 1, .int .u64 y] w fun e w' => e = .returned (.tuple #[.int .u64 0, .int .u64 y]) ∧ w' = w := by
  go_enter Try.func58, Try.ntmps58
  go_wp2_with (go_at_call 67; refine (mul64_one y hy _).mono ?_; rintro e w' ⟨rfl, rfl⟩)
  go_ret2
  exact ⟨rfl, rfl⟩
theorem splice_rep {α : Type} (cur : List α) (v : α) (k m n : Nat) (hl : cur.length = n) (hc : cur.take k = List.replicate k v) (hm : k + m ≤ n) : (splice cur k (List.replicate m v)).length = n ∧ (splice cur k (List.replicate m v)).take (k + m) = List.replicate (k + m) v := by
  refine ⟨by rw [length_splice _ _ _ (by simp; omega), hl], ?_⟩
  unfold splice
  rw [hc, ← List.append_assoc, List.take_append_of_le_length (by simp), List.take_of_length_le (by simp)]
  simp [List.replicate_append_replicate]
theorem src_one {w : World} {g k : Nat} {v : Value} (h : w.cell? ⟨g, 0, none⟩ = some v) (hk : k ≤ 1) : ∀ j u, (List.replicate k v)[j]? = some u → w.cell? ((⟨g, 0, none⟩ : Addr).add j) = some u := by
  intro j u hj
  obtain ⟨hlt, hu⟩ := List.getElem?_eq_some_iff.1 hj
  rw [List.length_replicate] at hlt
  obtain rfl : j = 0 := by omega
  rw [List.getElem_replicate] at hu
  subst hu
  simpa [Addr.add] using h
theorem src_rep {w : World} {g k m : Nat} {cur : List Value} {t : TypeId} {v : Value} (hg : w.heap[g]? = some (.cells cur.toArray t (0, 0))) (hc : cur.take k = List.replicate k v) (hm : m ≤ k) : ∀ j u, (List.replicate m v)[j]? = some u → w.cell? ((⟨g, 0, none⟩ : Addr).add j) = some u := by
  intro j u hj
  obtain ⟨hlt, hu⟩ := List.getElem?_eq_some_iff.1 hj
  rw [List.length_replicate] at hlt
  rw [List.getElem_replicate] at hu
  subst hu
  have ha : (⟨g, 0, none⟩ : Addr).add j = ⟨g, j, none⟩ := by unfold Addr.add; split <;> simp_all
  rw [ha, cell_of_row _ _ _ _ _ _ hg, List.getElem?_toArray]
  have h1 : cur[j]? = (cur.take k)[j]? := (List.getElem?_take_of_lt (by omega)).symm
  rw [h1, hc, List.getElem?_replicate, if_pos (by omega)]
theorem made_cur {w1 : World} {base n size g : Nat} {t : TypeId} {xs : List Value} (h : w1.ownsRow base t size (.slice (some ⟨g, 0, none⟩) n n) n xs) : ∃ cur : List Value, w1.heap[g]? = some (.cells cur.toArray t (0, 0)) ∧ cur.length = n * size := by
  rcases h.2 with ⟨h, _⟩ | ⟨g, cap', cur, hv, _, hg, _, _, hs, _⟩
  · simp at h
  · simp at hv
    obtain ⟨rfl, rfl⟩ := hv
    exact ⟨cur.toList, by simpa using hg, by simpa using hs⟩
set_option maxHeartbeats 4000000 in
theorem repeat_any (g c : Nat) (x : ByteArray) (n : Nat) (hn : n ≤ 1000) (w : World) (hx : w.cell? ⟨g, 0, none⟩ = some (.string x)) (hg : g < w.heap.size) :
    Calls Try.prog 32 #[.slice (some ⟨g, 0, none⟩) 1 c, .int .i64 n] w fun e w' => ∃ v, e = .returned v ∧ OwnS w.heap.size v (List.replicate n x) w' ∧ Below w.heap.size w w' := by
  obtain ⟨i0, hi, hz0, hz1, hz2⟩ := info_parts Try.infoStr'
  have hsz : (Try.prog.info? 9).map (·.size) = some 1 := by kernel_rfl
  have HX := hide hx
  obtain ⟨k0, hk0⟩ : ∃ k, k = Nat.min 1 n := ⟨_, rfl⟩
  obtain ⟨hk1, hk2, hk3⟩ : k0 ≤ n ∧ (n = 0 ∨ 0 < k0) ∧ k0 ≤ 1 := by rw [hk0]; show min 1 n ≤ n ∧ (n = 0 ∨ 0 < min 1 n) ∧ min 1 n ≤ 1; omega
  have HK := hide hk0
  have hone : ∀ k, ∀ v ∈ List.replicate k (Value.string x), v.oneCell' = true := fun k v hv => by rw [List.eq_of_mem_replicate hv]; rfl
  have HONE := hide hone
  clear hx hk0 hone
  go_enter Try.func32, Try.ntmps32
  go_wp2_with (first | (go_at_call 58; refine (mul_one' n (by omega) _).mono ?_; rintro e w' ⟨rfl, hw⟩; rw [hw]; clear hw w') | (at_make; refine wpList_make_full _ rfl _ _ 22 rfl w.heap.size 9 i0 (.string ⟨#[]⟩) 1 Try.underlying22 hi hz0 hz1 .i64 .i64 _ _ n rfl rfl rfl rfl (by rw [hz2]; omega) (by unfold maxLen; omega) (Nat.le_refl _) ?_; intro w1 hown1 hgrow1; obtain ⟨cur0, hg0, hl0⟩ := made_cur hown1; have hb1 : Below w.heap.size w w1 := (Below.refl _ _).grown hgrow1 (Nat.le_refl _) (fun j hj => by simp at hj); clear hown1 hgrow1) | (refine wpList_copy_splice rfl _ _ 22 22 rfl 9 Try.underlying22 hsz _ _ _ _ _ _ rfl rfl w.heap.size 0 cur0 9 hg0 (List.replicate k0 (.string x)) (by rw [List.length_replicate]; exact HK.out) (fun hp => ⟨rfl, _, rfl, src_one ((hb1.cell (p := ⟨g, 0, none⟩) hg).trans HX.out) hk3⟩) (by rw [List.length_replicate]; omega) (HONE.out k0) w.heap.size w hb1 (Nat.le_refl _) ?_; intro w2 hg2 hb2; rw [List.length_replicate]; obtain ⟨hs1, hs2⟩ := splice_rep cur0 (.string x) 0 k0 n (by omega) (by simp) (by omega); generalize splice cur0 0 (List.replicate k0 (Value.string x)) = cur1 at *; rw [Nat.zero_add] at hs2; have HS2 := hide hs2; clear hs2 hg0 hl0 hb1))
  go_loopw [8] (fun i wr => ∃ (k : Nat) (cur : List Value), k ≤ n ∧ (n = 0 ∨ 0 < k) ∧ i = .int .i64 k ∧ cur.length = n ∧ Hid (wr.heap[w.heap.size]? = some (.cells cur.toArray 9 (0, 0))) ∧ Hid (cur.take k = List.replicate k (.string x)) ∧ Below w.heap.size w wr) (fun i _ => n - (intOf i).toNat)
  case atStart => exact ⟨k0, cur1, hk1, hk2, rfl, hs1, hg2, HS2, hb2⟩
  case round =>
    obtain ⟨k, cur, hk, hpos, rfl, hlen, HG, HC, hb⟩ := hrel
    clear hg2 HS2 hb2 hs1 hk1 hk2 hk3 HK
    by_cases hlt : k < n
    · obtain ⟨m, hm⟩ : ∃ m, m = Nat.min k (n - k) := ⟨_, rfl⟩
      obtain ⟨hm1, hm2, hm3⟩ : m ≤ k ∧ k + m ≤ n ∧ 0 < m := by rw [hm]; show min k (n - k) ≤ k ∧ k + min k (n - k) ≤ n ∧ 0 < min k (n - k); omega
      have HM := hide hm
      obtain ⟨hs1, hs2⟩ := splice_rep cur (.string x) k m n hlen HC.out hm2
      have HS2 := hide hs2
      have HS1 := hide hs1
      have hwr : IntKind.i64.wrap ((k : Int) + (m : Int)) = (k : Int) + (m : Int) := by rw [IntKind.wrap_i64]; omega
      have HL := hide hlen
      clear hm hs2 hs1 hlen
      go_wp2
      refine wp_region_noPanic ?_
      refine wp_region_held_drew (S := fun _ => True) (by kernel_rfl) trivial (fun hHeld => ?_)
      refine takeD 0 38 (v := ?vx0) rfl rfl (by kernel_rfl) (by kernel_rfl) (by kernel_rfl) (fun _ _ _ h => h) (by kernel_rfl) ?hyx0 trivial ?rx0
      case hyx0 => (intro W hSw; go_simp; try with_reducible rfl)
      simp only [Act.put, List.setIfInBounds_toArray, List.set_cons_zero, List.set_cons_succ]
      refine takeD 1 39 (v := ?vx1) rfl rfl (by kernel_rfl) (by kernel_rfl) (by kernel_rfl) (fun _ _ _ h => h) (by kernel_rfl) ?hyx1 trivial ?rx1
      case hyx1 => (intro W hSw; go_simp; try with_reducible rfl)
      simp only [Act.put, List.setIfInBounds_toArray, List.set_cons_zero, List.set_cons_succ]
      refine takeD 2 40 (v := ?vx2) rfl rfl (by kernel_rfl) (by kernel_rfl) (by kernel_rfl) (fun _ _ _ h => h) (by kernel_rfl) ?hyx2 trivial ?rx2
      case hyx2 => (intro W hSw; go_simp; try with_reducible rfl)
      simp only [Act.put, List.setIfInBounds_toArray, List.set_cons_zero, List.set_cons_succ]
      refine takeD 3 41 (v := .slice (some ⟨w.heap.size, k, none⟩) (n - k) (n - k)) rfl rfl (by kernel_rfl) (by kernel_rfl) (by kernel_rfl) (fun _ _ _ h => h) (by kernel_rfl) ?hyx3 trivial ?rx3
      case hyx3 => (intro W hSw; go_simp; omega)
      simp only [Act.put, List.setIfInBounds_toArray, List.set_cons_zero, List.set_cons_succ]
      refine takeD 4 42 (v := ?vx4) rfl rfl (by kernel_rfl) (by kernel_rfl) (by kernel_rfl) (fun _ _ _ h => h) (by kernel_rfl) ?hyx4 trivial ?rx4
      case hyx4 => (intro W hSw; go_simp; try with_reducible rfl)
      simp only [Act.put, List.setIfInBounds_toArray, List.set_cons_zero, List.set_cons_succ]
      refine takeD 5 43 (v := ?vx5) rfl rfl (by kernel_rfl) (by kernel_rfl) (by kernel_rfl) (fun _ _ _ h => h) (by kernel_rfl) ?hyx5 trivial ?rx5
      case hyx5 => (intro W hSw; go_simp; try with_reducible rfl)
      simp only [Act.put, List.setIfInBounds_toArray, List.set_cons_zero, List.set_cons_succ]
      refine takeD 6 44 (v := .slice (some ⟨w.heap.size, 0, none⟩) k n) rfl rfl (by kernel_rfl) (by kernel_rfl) (by kernel_rfl) (fun _ _ _ h => h) (by kernel_rfl) ?hyx6 trivial ?rx6
      case hyx6 => (intro W hSw; go_simp; try with_reducible rfl)
      simp only [Act.put, List.setIfInBounds_toArray, List.set_cons_zero, List.set_cons_succ]
      refine wpAnyH_ready (rs := [7]) (by kernel_rfl) (by simp) ?_
      refine AllReadyH.cons (o := _) rfl (fun K hK => ?_) AllReadyH.nil
      refine step_copy_splice rfl (.tmp 41) (.tmp 44) 22 22 rfl 9 Try.underlying22 hsz _ _ _ _ _ _ rfl rfl w.heap.size k cur 9 HG.out (List.replicate m (.string x)) (by rw [List.length_replicate]; exact HM.out) (fun hp => ⟨rfl, _, rfl, src_rep HG.out HC.out hm1⟩) (by rw [List.length_replicate, HL.out]; exact hm2) (HONE.out m) w.heap.size w hb.drew (Nat.le_refl _) ?_
      intro w4 hg4 hb4
      rw [List.length_replicate]
      refine hK.out _ _ trivial (fun _ => ?_)
      clear hK K hHeld
      simp only [List.getElem_toArray, List.getElem_cons_succ, List.getElem_cons_zero, Act.put, List.setIfInBounds_toArray, List.set_cons_zero, List.set_cons_succ]
      refine takeD 8 46 (v := .int .i64 ((k + m : Nat) : Int)) rfl rfl (by kernel_rfl) (by kernel_rfl) (by kernel_rfl) (fun _ _ _ h => h) (by kernel_rfl) ?hyx8 trivial ?rx8
      case hyx8 => (intro W hSw; go_simp)
      simp only [Act.put, List.setIfInBounds_toArray, List.set_cons_zero, List.set_cons_succ]
      refine takeD 9 8 (v := ?vx9) rfl rfl (by kernel_rfl) (by kernel_rfl) (by kernel_rfl) (fun _ _ _ h => h) (by kernel_rfl) ?hyx9 trivial ?rx9
      case hyx9 => (intro W hSw; go_simp; try with_reducible rfl)
      simp only [Act.put, List.setIfInBounds_toArray, List.set_cons_zero, List.set_cons_succ]
      refine wpAnyH_done (by kernel_rfl) ?_ _
      refine NoPanic.normal ?_
      generalize splice cur k (List.replicate m (Value.string x)) = cur' at *
      have hkm : k + m ≤ n ∧ (n = 0 ∨ 0 < k + m) := ⟨hm2, .inr (by omega)⟩
      clear hpos HM HL HC HG hk
      go_wp2
      go_roundw
      case rel => exact ⟨k + m, cur', hkm.1, hkm.2, rfl, HS1.out, hg4, HS2, hb4⟩
      case measure => simp [intOf]; omega
    · obtain rfl : k = n := by omega
      have HF : Hid (OwnS w.heap.size (.slice (some ⟨w.heap.size, 0, none⟩) k k) (List.replicate k x) wr) := by
        refine ⟨by simp [strsV], .inr ⟨w.heap.size, k, cur.toArray, by simp, Nat.le_refl _, HG.out, by simp, (by unfold maxLen; omega), (by simpa using hlen), ?_⟩⟩
        have := HC.out
        simp [strsV, this]
      go_wp2
      go_ret
      exact ⟨_, rfl, HF.out, hb⟩
end Go.Proofs.Ytmladjahkhhpkaa

/-
  Contracts: DiskNew of both.
-/
namespace Go.Proofs.Ytmladjahkhhpkaa
open Go.RowKit
set_option maxRecDepth 100000

def blank : ByteArray := mkS zSec
def dkNew (n : Int) : Dk := if 0 ≤ n ∧ n ≤ 700 then ⟨List.replicate n.toNat blank, []⟩ else ⟨[], []⟩
theorem dkNew_no {n : Int} (h : n ≤ 0 ∨ 700 < n) : dkNew n = ⟨[], []⟩ := by
  unfold dkNew
  split
  · rename_i h'
    obtain rfl : n = 0 := by omega
    rfl
  · rfl
theorem dkNew_yes (k : Nat) (h : k ≤ 700) : dkNew (k : Int) = ⟨List.replicate k blank, []⟩ := by
  unfold dkNew; rw [if_pos (by omega), Int.toNat_natCast]
theorem cell_str_new (w : World) (x : ByteArray) (t : TypeId) : ∀ j u, [Value.string x][j]? = some u → (w.alloc (.cells #[.string x] t)).cell? ((⟨w.heap.size, 0, none⟩ : Addr).add j) = some u := by
  intro j u hj
  have hadd : (⟨w.heap.size, 0, none⟩ : Addr).add j = ⟨w.heap.size, j, none⟩ := by unfold Addr.add; split <;> simp_all
  rw [hadd, cell_of_row _ _ _ _ _ _ (heap_alloc_new w _)]
  simpa using hj
theorem one_str (x : ByteArray) : ∀ u ∈ [Value.string x], u.oneCell' = true := fun u hu => by simp at hu; subst hu; rfl
theorem ownS_rep {base : Nat} {v : Value} {x : ByteArray} {k : Nat} {w : World} (h : w.ownsRow base 9 1 v (k + 1) (strsV (List.replicate k x) ++ [.string x])) : OwnS base v (List.replicate (k + 1) x) w := by
  have e : strsV (List.replicate k x) ++ [Value.string x] = strsV (List.replicate (k + 1) x) := by simp [strsV, List.replicate_succ']
  unfold OwnS
  rw [e] at h
  rwa [List.length_replicate]
theorem own_succ {w : World} {base n size : Nat} {t : TypeId} {v : Value} {xs : List Value} (h : w.ownsRow base t size v (n + 1) xs) : ∃ g cap, v = .slice (some ⟨g, 0, none⟩) (n + 1) cap := by
  rcases h.2 with ⟨_, h0⟩ | ⟨g, cap, cur, h1, _⟩
  · omega
  · exact ⟨g, cap, h1⟩
theorem ownD_nil (base : Nat) (w : World) : OwnD base (.slice none 0 0) (.slice none 0 0) ⟨[], []⟩ w := ⟨ownS_nil _ _, ownW_nil _ _, .inl rfl⟩
theorem ownD_secs {base : Nat} {v : Value} {l : List ByteArray} {w : World} (h : OwnS base v l w) : OwnD base v (.slice none 0 0) ⟨l, []⟩ w := by
  refine ⟨h, ownW_nil _ _, ?_⟩
  cases hv : v.ownBlock with
  | none => exact .inl rfl
  | some b => exact .inr (by simp [Value.ownBlock])
set_option maxHeartbeats 4000000 in
theorem specDiskNew_any (n : Int) (w : World) :
    Calls Try.prog 9 #[.int .i64 n] w fun e w' => ∃ s c, e = .returned (.agg #[s, c]) ∧ OwnD w.heap.size s c (dkNew n) w' ∧ Below w.heap.size w w' := by
  have HA := two_allocs w (.cells #[.slice none 0 0, .slice none 0 0] 25) (.cells #[.slice none 0 0, .slice none 0 0] 25)
  have B0 := hide (((Below.refl w.heap.size w).alloc (Nat.le_refl _) (.cells #[.slice none 0 0, .slice none 0 0] 25)).alloc (by simp) (.cells #[.slice none 0 0, .slice none 0 0] 25))
  by_cases h7 : 700 < n
  · rw [dkNew_no (.inr h7)]
    obtain ⟨y0, y1, yf⟩ := cells2 HA.1
    clear HA
    go_enter Try.func9, Try.ntmps9
    go_wp2
    refine bodyPost_ret (v := .agg #[.slice none 0 0, .slice none 0 0]) (by simp [results, Try.results9, go_sem]) rfl ⟨_, _, rfl, ownD_nil _ _, ?_⟩
    exact B0.out
  · have HA1 := hide HA.1
    have HA2 := hide HA.2.1
    have HZ := hide HA.2.2
    clear HA
    obtain ⟨i0, hi, hz0, hz1, hz2⟩ := info_parts Try.infoU8
    have hsz : (((w.alloc (.cells #[.slice none 0 0, .slice none 0 0] 25)).alloc (.cells #[.slice none 0 0, .slice none 0 0] 25)).heap.size) = w.heap.size + 1 + 1 := by simp
    have HSZ := hide hsz
    clear hsz
    have hcz : (madeCells (Value.int .u8 0).cells (64 * 1)).toList = (numsU zSec).map (Value.int .u8) := by kernel_rfl
    go_enter Try.func9, Try.ntmps9
    go_wp2_with (at_make; refine wpList_make_full _ rfl _ _ 52 rfl w.heap.size 5 i0 (.int .u8 0) 1 Try.underlying52 hi hz0 hz1 .i64 .i64 _ _ 64 rfl rfl rfl rfl (by rw [hz2]; omega) (by unfold maxLen; omega) (by simp; omega) ?_; intro w1 hown1 hgrow1; rw [hcz, HSZ.out] at hown1; have hcv := (show OwnB w.heap.size _ zSec w1 from hown1).conv; rw [show mkS zSec = blank from rfl] at hcv; have B1 := hide (B0.out.grown hgrow1 (by simp; omega) (fun j hj => by simp at hj)); have X1 := hide ((hgrow1.block w.heap.size (by simp; omega) (by simp)).trans HA1.out); have Y1 := hide ((hgrow1.block (w.heap.size + 1) (by simp) (by simp)).trans HA2.out); have Z1 : w.heap.size + 1 + 1 ≤ w1.heap.size := (by have := hgrow1.size; rw [HSZ.out] at this; exact this); clear hown1 hgrow1)
    obtain ⟨j0, hj, hy0, hy1, hy2⟩ := info_parts Try.infoStr'
    clear hcv hcz hi hz0 hz1 hz2 B0 HA1 HA2 HZ HSZ
    go_loopw [5] (fun i wr => ∃ (k : Nat) (v : Value), (n ≤ 0 ∧ k = 0 ∨ 0 < n ∧ (k : Int) ≤ n) ∧ i = .int .i64 k ∧ Hid (wr.heap[w.heap.size]? = some (.cells #[.slice none 0 0, .slice none 0 0] 25 (0, 0))) ∧ Hid (wr.heap[w.heap.size + 1]? = some (.cells #[v, .slice none 0 0] 25 (0, 0))) ∧ Hid (OwnS (w.heap.size + 2) v (List.replicate k blank) wr) ∧ Below w.heap.size w wr) (fun i _ => n.toNat - (intOf i).toNat)
    case atStart => exact ⟨0, .slice none 0 0, by omega, rfl, X1, Y1, ownS_nil _ _, B1.out⟩
    case round =>
      obtain ⟨k, v, hk, rfl, HX, HY, HO, hb⟩ := hrel
      clear X1 Y1 B1
      have hlt1 : w.heap.size + 1 < wr.heap.size := (Array.getElem?_eq_some_iff.1 HY.out).1
      obtain ⟨ao, cap, hv⟩ := ownS_shape HO.out
      rw [List.length_replicate] at hv
      subst hv
      by_cases hlt : (k : Int) < n
      · have HB := hide (hb.alloc (by omega) (.cells #[.string blank] 9))
        have hown := owns_below HO.out ((Below.refl wr.heap.size wr).alloc (Nat.le_refl _) (.cells #[.string blank] 9))
        rw [List.length_replicate] at hown
        obtain ⟨y0, y1, yf⟩ := cells2 HY.out
        go_wp2_with (at_builtin; refine wpList_append_own _ rfl _ _ 22 rfl (w.heap.size + 2) 9 j0 (.string ⟨#[]⟩) 1 16 Try.underlying22 hj hy0 hy1 hy2 rfl (by decide) _ _ _ rfl hown ⟨wr.heap.size, 0, none⟩ 1 1 [.string blank] rfl rfl (cell_str_new _ _ _) (one_str _) (by unfold maxLen; omega) (by omega) (by simp; omega) ?_; intro v5 w5 hown5 hgrow5 hnn5; obtain ⟨g5, c5, rfl⟩ := own_succ hown5; have O5 := hide (ownS_rep hown5); have Y5 := hide ((hgrow5.block (w.heap.size + 1) (by simp; omega) (fun e => by have := (World.ownsRow.lt hown _ e.symm).1; omega)).trans ((heap_old _ _ _ (by omega)).trans HY.out)); have X5 := hide ((hgrow5.block w.heap.size (by simp; omega) (fun e => by have := (World.ownsRow.lt hown _ e.symm).1; omega)).trans ((heap_old _ _ _ (by omega)).trans HX.out)); have B5 := hide (HB.out.grown hgrow5 (by simp; omega) (fun b e => by have := (World.ownsRow.lt hown _ e).1; omega)); obtain ⟨z0, z1, zf⟩ := cells2 Y5.out; clear hown5 hgrow5 hnn5)
        go_roundw
        case rel => exact ⟨k + 1, _, by omega, by go_num, (by show _ = _; rw [heap_far _ _ _ _ _ (by omega)]; exact X5.out), (by show _ = _; have := heap_setCell_same _ _ 0 _ _ (.slice (some ⟨g5, 0, none⟩) (k + 1) c5) Y5.out; simpa using this), own_set O5.out (by omega), B5.out.setCell (by simp) _⟩
        case measure => simp [intOf]; omega
      · obtain ⟨x0, x1, xf⟩ := cells2 HX.out
        obtain ⟨y0, y1, yf⟩ := cells2 HY.out
        have HD : Hid (dkNew n = ⟨List.replicate k blank, []⟩) := by
          show _ = _
          by_cases hn : n ≤ 0
          · rw [dkNew_no (.inl hn)]
            obtain rfl : k = 0 := by omega
            rfl
          · obtain rfl : n = (k : Int) := by omega
            exact dkNew_yes k (by omega)
        go_wp2
        refine bodyPost_ret (v := .agg #[.slice ao k cap, .slice none 0 0]) (by simp [results, Try.results9, go_sem, x0, x1]) rfl ⟨_, _, rfl, ?_, ?_⟩
        · rw [HD.out]
          exact ((ownD_secs HO.out).set (by omega) |>.set (by omega)).base (by omega)
        · exact (hb.setCell (by simp) _).setCell (by simp) _
set_option maxHeartbeats 4000000 in
theorem implDiskNew_any (n : Int) (w : World) :
    Calls Try.prog 10 #[.int .i64 n] w fun e w' => ∃ s c, e = .returned (.agg #[s, c]) ∧ OwnD w.heap.size s c (dkNew n) w' ∧ Below w.heap.size w w' := by
  have B0 := hide ((Below.refl w.heap.size w).alloc (Nat.le_refl _) (.cells #[.slice none 0 0, .slice none 0 0] 25))
  have X0 := hide (heap_alloc_new w (.cells #[.slice none 0 0, .slice none 0 0] 25))
  by_cases hbad : n < 0 ∨ 700 < n
  · rw [dkNew_no (by omega)]
    obtain ⟨y0, y1, yf⟩ := cells2 X0.out
    by_cases h0 : n < 0
    · go_enter Try.func10, Try.ntmps10
      go_wp2
      refine bodyPost_ret (v := .agg #[.slice none 0 0, .slice none 0 0]) (by simp [results, Try.results10, go_sem]) rfl ⟨_, _, rfl, ownD_nil _ _, ?_⟩
      exact B0.out
    · have h7 : 700 < n := by omega
      go_enter Try.func10, Try.ntmps10
      go_wp2
      refine bodyPost_ret (v := .agg #[.slice none 0 0, .slice none 0 0]) (by simp [results, Try.results10, go_sem]) rfl ⟨_, _, rfl, ownD_nil _ _, ?_⟩
      exact B0.out
  · obtain ⟨k, rfl⟩ : ∃ k : Nat, n = (k : Int) := ⟨n.toNat, by omega⟩
    have hk : k ≤ 700 := by omega
    rw [dkNew_yes k hk]
    have h0 : ¬ (k : Int) < 0 := by omega
    have h7 : ¬ 700 < (k : Int) := by omega
    have HST := hide (fun W => sectorText_any zSec zSec_len W)
    have HRP := hide (fun g c W => repeat_any g c blank k (by omega) W)
    clear hbad
    go_enter Try.func10, Try.ntmps10
    go_wp2_with (first | (go_at_call 33; refine (HST.out _).mono ?_; rintro e w1 ⟨rfl, b1⟩; rw [show mkS zSec = blank from rfl]; have X1 := hide ((b1.block w.heap.size (by simp)).trans X0.out); have B1 := hide (B0.out.trans (b1.mono B0.out.size)); have z1 : w.heap.size < w1.heap.size := (Array.getElem?_eq_some_iff.1 X1.out).1; clear b1) | (go_at_call 32; refine (HRP.out w1.heap.size 1 _ (by rw [cell_of_row _ _ _ _ _ _ (heap_alloc_new w1 _)]; rfl) (by simp)).mono ?_; rintro e w2 ⟨v, rfl, o2, b2⟩; have X2 := hide ((b2.block w.heap.size (by simp; omega)).trans ((heap_old _ _ _ (by omega)).trans X1.out)); have B2 := hide ((B1.out.alloc (by omega) (.cells #[.string blank] 9)).trans (b2.mono (by simp; omega))); have O2 := hide (ownD_secs (owns_base o2 (show w.heap.size + 1 ≤ _ by simp; omega))); obtain ⟨ao, cap, rfl⟩ := ownS_shape o2; rw [List.length_replicate]; obtain ⟨y0, y1, yf⟩ := cells2 X2.out; clear o2 b2))
    refine bodyPost_ret (v := .agg #[.slice ao k cap, .slice none 0 0]) (by simp [results, Try.results10, go_sem, y0, y1]) rfl ⟨_, _, rfl, ?_, ?_⟩
    · have := O2.out
      rw [List.length_replicate] at this
      exact ((this.set (by omega)).set (by omega)).base (by omega)
    · exact (B2.out.setCell (by simp) _).setCell (by simp) _
end Go.Proofs.Ytmladjahkhhpkaa

/-
  The law on DiskNew, out of the contracts.
-/
namespace Go.Proofs.Ytmladjahkhhpkaa
open Go.RowKit
set_option maxRecDepth 100000

theorem rdInt {H : Type} {enc : TypeId × Value → H} {W : World} {base : Nat} {v : Value} {d : DataW H} {p : List MemPlace} (hv : Value.okWide Try.prog W .any base 2 v) (h : DataW.Trod enc Try.prog W 0 (fun _ => true) true 2 v d p) : ∃ n : Int, v = .int .i64 n ∧ wI64 n := by
  obtain ⟨n, e, _, _, hw⟩ := Go.ChangeShapes.open_int Try.underlying2 hv h
  exact ⟨n, e, bounds_i64 hw⟩
theorem dkNew_fits (n : Int) : dkFits (dkNew n) := by
  unfold dkNew dkFits
  split <;> simp
  omega
set_option maxHeartbeats 8000000 in
theorem lawDiskNew (v0 : Value) (w : World) (h0 : ∃ n : Int, v0 = .int .i64 n ∧ wI64 n) :
    Calls Try.prog 3 #[v0] w fun e w' => e = .returned (.bool true) ∧ Below w.heap.size w w' := by
  obtain ⟨n, rfl, _⟩ := h0
  have HSP := hide (fun (W : World) => specDiskNew_any n W)
  have HIM := hide (fun (W : World) => implDiskNew_any n W)
  have HF := hide (dkNew_fits n)
  generalize dkNew n = d at *
  have hcd : (cntD d : Int) > 0 := by unfold cntD; omega
  have HEQ := hide (fun (b1 b2 : Nat) (s c s' c' : Value) (W : World) (h : OwnD b1 s c d W) (h' : OwnD b2 s' c' d W) => eqDisk_own b1 b2 s c s' c' d W HF.out h h')
  have HMK := hide (fun (b : Nat) (s c : Value) (W : World) (h : OwnD b s c d W) => markDisk_own b s c d W HF.out h)
  have HHL := hide (fun (b : Nat) (s c : Value) (W : World) (h : OwnD b s c (mDk d) W) => heldDisk_own b s c d W HF.out h)
  obtain ⟨n1, hn1⟩ : ∃ n, n = d.secs.length := ⟨_, rfl⟩
  obtain ⟨n2, hn2⟩ : ∃ n, n = d.cache.length := ⟨_, rfl⟩
  have HN := hide (And.intro hn1 hn2)
  generalize hcc : cntD d = m at *
  have hneg : ¬ (m : Int) < 0 := by omega
  clear hn1 hn2 hcc hcd
  go_enter Try.func3, Try.ntmps3
  go_wp2_with fail
  refine (HSP.out _).mono ?_
  rintro e w1 ⟨s1, c1, rfl, o1, b1⟩
  obtain ⟨so1, p1, co1, q1, rfl, rfl⟩ := o1.shape
  rw [← HN.out.1, ← HN.out.2] at o1 ⊢
  have BA := (Below.refl w1.heap.size w1).alloc (Nat.le_refl _) (.cells #[.slice so1 n1 p1, .slice co1 n2 q1] 25)
  have O1 := hide (o1.below BA)
  have L1 := hide o1.lt
  have B1 := hide (b1.trans (BA.mono b1.size))
  have X1 := hide (heap_alloc_new w1 (.cells #[.slice so1 n1 p1, .slice co1 n2 q1] 25))
  have z1 := hide b1.size
  have Z1 : Hid ((w1.alloc (.cells #[.slice so1 n1 p1, .slice co1 n2 q1] 25)).heap.size = w1.heap.size + 1) := by show _ = _; simp
  clear o1 b1 BA HSP
  go_wp2_with fail
  refine (HIM.out _).mono ?_
  generalize w1.alloc (.cells #[.slice so1 n1 p1, .slice co1 n2 q1] 25) = W1 at *
  generalize w1.heap.size = g1 at *
  rintro e w2 ⟨s2, c2, rfl, o2, b2⟩
  obtain ⟨so2, p2, co2, q2, rfl, rfl⟩ := o2.shape
  rw [← HN.out.1, ← HN.out.2] at o2 ⊢
  have BA := (Below.refl w2.heap.size w2).alloc (Nat.le_refl _) (.cells #[.slice so2 n1 p2, .slice co2 n2 q2] 25)
  have z2 : g1 + 1 ≤ w2.heap.size := by have := b2.size; rw [Z1.out] at this; exact this
  have O2 := hide (o2.below BA)
  have L2 : Hid (∀ v ∈ [(.slice so2 n1 p2 : Value), .slice co2 n2 q2], ∀ b, v.ownBlock = some b → g1 + 1 ≤ b ∧ b < w2.heap.size) := fun v hv b hb => by
    rw [Z1.out] at o2
    simp only [List.mem_cons, List.not_mem_nil, or_false] at hv
    rcases hv with rfl | rfl
    · exact o2.lt.1 b hb
    · exact o2.lt.2 b hb
  have X2 := hide ((BA.block g1 (by omega)).trans ((b2.block g1 (by rw [Z1.out]; omega)).trans X1.out))
  have Y2 := hide (heap_alloc_new w2 (.cells #[.slice so2 n1 p2, .slice co2 n2 q2] 25))
  have O12 := hide ((O1.out.below b2).below BA)
  have B2 := hide ((B1.out.trans (b2.mono B1.out.size)).trans (BA.mono (by have := B1.out.size; rw [Z1.out] at this; omega)))
  have Z2 : Hid ((w2.alloc (.cells #[.slice so2 n1 p2, .slice co2 n2 q2] 25)).heap.size = w2.heap.size + 1) := by show _ = _; simp
  have C2 := hide (HEQ.out _ _ _ _ _ _ _ O2.out O12.out)
  obtain ⟨x0, x1, xf⟩ := cells2 X2.out
  clear o2 b2 BA O1 X1 B1 Z1
  go_wp2_with fail
  refine C2.out.mono ?_
  generalize w2.alloc (.cells #[.slice so2 n1 p2, .slice co2 n2 q2] 25) = W2 at *
  generalize w2.heap.size = g2 at *
  rintro e w3 ⟨rfl, b3⟩
  have z3 : g2 + 1 ≤ w3.heap.size := by have := b3.size; rw [Z2.out] at this; exact this
  have O3 := hide (O2.out.below b3)
  have O13 := hide (O12.out.below b3)
  have X3 := hide ((b3.block g1 (by rw [Z2.out]; omega)).trans X2.out)
  have Y3 := hide ((b3.block g2 (by rw [Z2.out]; omega)).trans Y2.out)
  have B3 := hide (B2.out.trans (b3.mono B2.out.size))
  have C3 := hide (HMK.out _ _ _ _ O3.out)
  obtain ⟨y0, y1, yf⟩ := cells2 Y3.out
  clear b3 x0 x1 xf X2 Y2 B2 O2 O12 C2 Z2
  go_wp2_with fail
  refine C3.out.mono ?_
  rintro e w4 ⟨rfl, o4, l4⟩
  have AP : Hid (∀ u : Value, (∀ b, u.ownBlock = some b → b < g1) → ∀ v ∈ [(.slice so2 n1 p2 : Value), .slice co2 n2 q2], u.ownBlock = none ∨ u.ownBlock ≠ v.ownBlock) := fun u hu v hv => apart_below hu (fun b hb => by have := L2.out v hv b hb; omega)
  have z4 := l4.size
  have O4 := hide o4
  have O14 : Hid (OwnD w.heap.size (.slice so1 n1 p1) (.slice co1 n2 q1) d w4) := ⟨l4.own O13.out.secs (AP.out _ (fun b hb => (L1.out.1 b hb).2)), l4.own O13.out.cache (AP.out _ (fun b hb => (L1.out.2 b hb).2)), O13.out.apart⟩
  have X4 := hide ((l4.block g1 (by omega) (fun v hv e => by have := (L2.out v hv g1 e).1; omega)).trans X3.out)
  have Y4 := hide ((l4.block g2 (by omega) (fun v hv e => by have := (L2.out v hv g2 e).2; omega)).trans Y3.out)
  have B4 := hide (B3.out.trans (l4.below (fun v hv b hb => by have h1 := (L2.out v hv b hb).1; have h2 := z1.out; omega) B3.out.size))
  have C4 := hide (HHL.out _ _ _ _ O4.out)
  clear o4 l4 y0 y1 yf O3 O13 X3 Y3 B3 C3 AP
  obtain ⟨y0, y1, yf⟩ := cells2 Y4.out
  go_wp2_with fail
  refine C4.out.mono ?_
  rintro e w5 ⟨rfl, b5⟩
  have z5 := b5.size
  have O5 := hide (O4.out.below b5)
  have O15 := hide (O14.out.below b5)
  have X5 := hide ((b5.block g1 (by omega)).trans X4.out)
  have Y5 := hide ((b5.block g2 (by omega)).trans Y4.out)
  have B5 := hide (B4.out.trans (b5.mono B4.out.size))
  clear b5 y0 y1 yf O4 O14 X4 Y4 B4 C4
  go_wp2_with fail
  refine (HIM.out _).mono ?_
  rintro e w6 ⟨s6, c6, rfl, o6, b6⟩
  obtain ⟨so6, p6, co6, q6, rfl, rfl⟩ := o6.shape
  rw [← HN.out.1, ← HN.out.2] at o6 ⊢
  have BA := (Below.refl w6.heap.size w6).alloc (Nat.le_refl _) (.cells #[.slice so6 n1 p6, .slice co6 n2 q6] 25)
  have z6 := b6.size
  have O6 := hide (o6.below BA)
  have O56 := hide ((O5.out.below b6).below BA)
  have O16 := hide ((O15.out.below b6).below BA)
  have X6 := hide ((BA.block g1 (by omega)).trans ((b6.block g1 (by omega)).trans X5.out))
  have Y6 := hide ((BA.block g2 (by omega)).trans ((b6.block g2 (by omega)).trans Y5.out))
  have B6 := hide ((B5.out.trans (b6.mono B5.out.size)).trans (BA.mono (by have := B5.out.size; omega)))
  have Z6 : Hid ((w6.alloc (.cells #[.slice so6 n1 p6, .slice co6 n2 q6] 25)).heap.size = w6.heap.size + 1) := by show _ = _; simp
  have C6 := hide (HEQ.out _ _ _ _ _ _ _ O6.out O16.out)
  obtain ⟨x0, x1, xf⟩ := cells2 X6.out
  clear o6 b6 BA O5 O15 X5 Y5 B5 HIM
  go_wp2_with fail
  refine C6.out.mono ?_
  generalize w6.alloc (.cells #[.slice so6 n1 p6, .slice co6 n2 q6] 25) = W6 at *
  rintro e w7 ⟨rfl, b7⟩
  have z7 := b7.size
  rw [Z6.out] at z7
  have O7 := hide (O56.out.below b7)
  have Y7 := hide ((b7.block g2 (by rw [Z6.out]; omega)).trans Y6.out)
  have B7 := hide (B6.out.trans (b7.mono B6.out.size))
  have C7 := hide (HHL.out _ _ _ _ O7.out)
  clear b7 x0 x1 xf O6 O56 O16 X6 Y6 B6 C6 Z6
  obtain ⟨y0, y1, yf⟩ := cells2 Y7.out
  go_wp2_with fail
  refine C7.out.mono ?_
  rintro e w8 ⟨rfl, b8⟩
  have B8 := hide (B7.out.trans (b8.mono B7.out.size))
  clear b8 y0 y1 yf O7 Y7 B7 C7
  go_wp2
  go_ret
  exact ⟨rfl, B8.out⟩
end Go.Proofs.Ytmladjahkhhpkaa

/-
  The law on DiskCrash, out of the contracts.
-/
namespace Go.Proofs.Ytmladjahkhhpkaa
open Go.RowKit
set_option maxRecDepth 100000
set_option maxHeartbeats 8000000 in
theorem lawDiskCrash (v0 : Value) (v1 : Value) (w : World) (h0 : IsDisk w v0) (h1 : ∃ ko kr kl, v1 = .slice ko (List.length kl) kr ∧ BlRow w w.heap.size ko kl) :
    Calls Try.prog 8 #[v0, v1] w fun e w' => e = .returned (.bool true) ∧ Below w.heap.size w w' := by
  obtain ⟨so, p, co, q, d, rfl, hr⟩ := h0
  obtain ⟨ko, kr, kl, rfl, hkr⟩ := h1
  have HIN := hide hr.inn
  have HSZ := hide (fun (W : World) (hb : Below w.heap.size w W) => szDisk_any 0 w.heap.size so p co q d 1048576 W hb.size (hr.kept hb) (by omega) (by omega))
  have HTO := hide (fun (hf : dkFits d) (W : World) (hb : Below w.heap.size w W) => toDisk_own 0 w.heap.size so p co q d W hb.size hf (hr.kept hb))
  obtain ⟨n1, hn1⟩ : ∃ n, n = d.secs.length := ⟨_, rfl⟩
  obtain ⟨n2, hn2⟩ : ∃ n, n = d.cache.length := ⟨_, rfl⟩
  have HN := hide (And.intro hn1 hn2)
  rw [← hn1, ← hn2] at HSZ HTO ⊢
  have X0 := hide (heap_alloc_new w (.cells #[.slice so n1 p, .slice co n2 q] 32))
  have B0 := hide ((Below.refl w.heap.size w).alloc (Nat.le_refl _) (.cells #[.slice so n1 p, .slice co n2 q] 32))
  clear hr hn1 hn2
  by_cases hl : 1048576 < kl.length
  · have e1 : 1048576 < (kl.length : Int) := by omega
    clear HSZ HTO HIN
    go_enter Try.func8, Try.ntmps8
    go_wp2
    go_ret
    exact ⟨rfl, B0.out⟩
  have e1 : ¬ 1048576 < (kl.length : Int) := by omega
  have hkm : kl.length ≤ 1048576 := by omega
  have HTB := hide (fun (W : World) (hb : Below w.heap.size w W) => toBoolS_own w.heap.size ko kr kl W hb.size hkm (hkr.kept hb))
  have HEQB := hide (fun (b1 b2 : Nat) (v v' : Value) (W : World) (h : OwnL b1 v kl W) (h' : OwnL b2 v' kl W) => eqBoolS_own b1 b2 v v' kl W hkm h h')
  clear hkr
  clear hl
  go_enter Try.func8, Try.ntmps8
  go_wp2_with fail
  refine (HSZ.out _ B0.out).mono ?_
  generalize hW : w.alloc (.cells #[.slice so n1 p, .slice co n2 q] 32) = W0 at *
  clear hW
  rintro e w1 ⟨r, rfl, hr1, hcase, b1⟩
  have X1 := hide ((b1.block w.heap.size (blk_lt X0.out)).trans X0.out)
  have B1 := hide (B0.out.trans (b1.mono B0.out.size))
  clear b1 X0 B0 HSZ
  obtain ⟨x0, x1, xf⟩ := cells2 X1.out
  rcases hcase with hneg | ⟨hr0, hfit⟩
  · go_wp2
    go_ret
    exact ⟨rfl, B1.out⟩
  have HFIT := hfit
  have HTOF := hide (fun (W : World) (hb : Below w.heap.size w W) => HTO.out hfit W hb)
  have HSP := hide (fun (b b2 : Nat) (s c kv : Value) (W : World) (h : OwnD b s c d W) (hk : OwnL b2 kv kl W) => specDiskCrash_any b b2 s c kv d kl W HIN.out HFIT hkm h hk)
  have HIM := hide (fun (b b2 : Nat) (s c kv : Value) (W : World) (h : OwnD b s c d W) (hk : OwnL b2 kv kl W) => implDiskCrash_any b b2 s c kv d kl W HIN.out HFIT hkm h hk)
  have hcdk : cntD d + kl.length ≤ 5000000 := by have h1 := hfit.1; have h2 := hfit.2; unfold cntD; omega
  have HMB := hide (fun (b : Nat) (v : Value) (W : World) (h : OwnL b v kl W) => markBoolS_own b v kl (cntD d) W hcdk h)
  clear hcdk
  have HF2 : dkFits (dkCrash d kl) := dkCrash_fits kl HFIT
  have HEQD := hide (fun (b1 b2 : Nat) (s c s' c' : Value) (W : World) (h : OwnD b1 s c d W) (h' : OwnD b2 s' c' d W) => eqDisk_own b1 b2 s c s' c' d W hfit h h')
  have HMKD := hide (fun (b : Nat) (s c : Value) (W : World) (h : OwnD b s c d W) => markDisk_own b s c d W hfit h)
  generalize (dkCrash d kl) = D at *
  have HEQ := hide (fun (b1 b2 : Nat) (s c s' c' : Value) (W : World) (h : OwnD b1 s c D W) (h' : OwnD b2 s' c' D W) => eqDisk_own b1 b2 s c s' c' D W HF2 h h')
  have HMK := hide (fun (b : Nat) (s c : Value) (W : World) (h : OwnD b s c D W) => markDisk_own b s c D W HF2 h)
  have HHL := hide (fun (b : Nat) (s c : Value) (W : World) (h : OwnD b s c (mDk D) W) => heldDisk_own b s c D W HF2 h)
  obtain ⟨k1, hk1⟩ : ∃ n, n = D.secs.length := ⟨_, rfl⟩
  obtain ⟨k2, hk2⟩ : ∃ n, n = D.cache.length := ⟨_, rfl⟩
  have HK := hide (And.intro hk1 hk2)
  generalize hcd : cntD d = cd at *
  generalize hcD : cntD D = cD at *
  have hcd0 : ¬ (cd : Int) < 0 := by omega
  have hcD0 : ¬ (cD : Int) < 0 := by omega
  clear hfit HFIT HTO hk1 hk2 hcd hcD HF2 HIN
  have X_1 := X1
  have B_1 := B1
  clear X1 B1
  go_wp2_with fail
  refine (HTOF.out _ B_1.out).mono ?_
  rintro e w2 ⟨s2, c2, rfl, oa, b⟩
  obtain ⟨so2, p2, co2, q2, rfl, rfl⟩ := oa.shape
  rw [← HN.out.1, ← HN.out.2] at oa ⊢
  have X_2 := hide ((b.block _ (blk_lt X_1.out)).trans X_1.out)
  have B_2 := hide (B_1.out.trans (b.mono B_1.out.size))
  have A_2 := hide oa
  clear X_1 B_1 oa b x0 x1 xf
  go_wp2_with fail
  refine (HTB.out _ B_2.out).mono ?_
  rintro e w2b ⟨kv2, rfl, ok2, b⟩
  obtain ⟨ka2, kc2, rfl, _⟩ := ownL_shape ok2
  have X_2b := hide ((b.block _ (blk_lt X_2.out)).trans X_2.out)
  have A_2b := hide (A_2.out.below b)
  have B_2b := hide (B_2.out.trans (b.mono B_2.out.size))
  have K_2b := hide ok2
  clear X_2 A_2 B_2 ok2 b
  go_wp2_with fail
  refine (HSP.out _ _ _ _ _ _ A_2b.out K_2b.out).mono ?_
  rintro e w3 ⟨s3, c3, rfl, o3, b⟩
  obtain ⟨so3, p3, co3, q3, rfl, rfl⟩ := o3.shape
  rw [← HK.out.1, ← HK.out.2] at o3 ⊢
  have BA := (Below.refl w3.heap.size w3).alloc (Nat.le_refl _) (.cells #[.slice so3 k1 p3, .slice co3 k2 q3] 25)
  have hLW : ∀ v ∈ [(.slice so3 k1 p3 : Value), .slice co3 k2 q3], ∀ b, v.ownBlock = some b → 0 ≤ b ∧ b < w3.heap.size := o3.two (Nat.zero_le _) (Nat.le_refl _)
  have LW := hide hLW
  clear hLW
  have b' := b
  have bt : Below w2b.heap.size w2b (w3.alloc _) := b'.trans (BA.mono b'.size)
  have X_3 := hide ((bt.block _ (blk_lt X_2b.out)).trans X_2b.out)
  have B_3 := hide (B_2b.out.trans (bt.mono B_2b.out.size))
  have OW_3 := hide ((o3.below BA).base (Nat.zero_le _))
  have BW_3 := hide (heap_alloc_new w3 (.cells #[.slice so3 k1 p3, .slice co3 k2 q3] 25))
  have ZX : Hid (w.heap.size < w3.heap.size + 1) := by have h1 := blk_lt X_2b.out; have h2 := b'.size; show _ < _; omega
  have Z : Hid (w3.heap.size < (w3.alloc (.cells #[.slice so3 k1 p3, .slice co3 k2 q3] 25)).heap.size) := by show _ < _; simp
  clear X_2b A_2b K_2b B_2b b b' bt BA o3 HSP
  obtain ⟨x0, x1, xf⟩ := cells2 X_3.out
  go_wp2_with fail
  refine (HTOF.out _ B_3.out).mono ?_
  generalize w3.alloc (.cells #[.slice so3 k1 p3, .slice co3 k2 q3] 25) = W3 at *
  generalize w3.heap.size = g8 at *
  rintro e w4 ⟨s4, c4, rfl, o4, b⟩
  obtain ⟨so4, p4, co4, q4, rfl, rfl⟩ := o4.shape
  rw [← HN.out.1, ← HN.out.2] at o4 ⊢
  have BA := (Below.refl w4.heap.size w4).alloc (Nat.le_refl _) (.cells #[.slice so4 n1 p4, .slice co4 n2 q4] 25)
  have LX := hide (o4.two (show g8 + 1 ≤ _ from Z.out) (Nat.le_refl _))
  have b' := b
  have bt : Below W3.heap.size W3 (w4.alloc _) := b'.trans (BA.mono b'.size)
  have X_4 := hide ((bt.block _ (blk_lt X_3.out)).trans X_3.out)
  have BW_4 := hide ((bt.block _ (blk_lt BW_3.out)).trans BW_3.out)
  have OW_4 := hide (OW_3.out.below bt)
  have B_4 := hide (B_3.out.trans (bt.mono B_3.out.size))
  have OX_4 := hide ((o4.below BA).base (Nat.zero_le _))
  have BX_4 := hide (heap_alloc_new w4 (.cells #[.slice so4 n1 p4, .slice co4 n2 q4] 25))
  have Z4 : Hid (g8 < w4.heap.size) := Nat.lt_of_lt_of_le Z.out b'.size
  have Z5 : Hid (w4.heap.size < (w4.alloc (.cells #[.slice so4 n1 p4, .slice co4 n2 q4] 25)).heap.size) := by show _ < _; simp
  clear X_3 BW_3 OW_3 B_3 b b' bt BA o4 Z x0 x1 xf
  go_wp2_with fail
  refine (HTB.out _ B_4.out).mono ?_
  generalize w4.alloc (.cells #[.slice so4 n1 p4, .slice co4 n2 q4] 25) = W4 at *
  generalize w4.heap.size = g9 at *
  rintro e w4b ⟨kv4, rfl, ok4, b⟩
  obtain ⟨ka4, kc4, rfl, _⟩ := ownL_shape ok4
  have LK : Hid (∀ b, (Value.slice ka4 kl.length kc4).ownBlock = some b → g9 + 1 ≤ b ∧ b < w4b.heap.size) := fun b' hb' => by have h1 := World.ownsRow.lt ok4 b' hb'; have h2 := Z5.out; exact ⟨by omega, h1.2⟩
  have Z5b : Hid (g9 < w4b.heap.size) := Nat.lt_of_lt_of_le Z5.out b.size
  have X_4b := hide ((b.block _ (blk_lt X_4.out)).trans X_4.out)
  have BW_4b := hide ((b.block _ (blk_lt BW_4.out)).trans BW_4.out)
  have BX_4b := hide ((b.block _ (blk_lt BX_4.out)).trans BX_4.out)
  have OW_4b := hide (OW_4.out.below b)
  have OX_4b := hide (OX_4.out.below b)
  have B_4b := hide (B_4.out.trans (b.mono B_4.out.size))
  have K_4b := hide ok4
  clear X_4 BW_4 BX_4 OW_4 OX_4 B_4 ok4 b Z5
  have C := hide (HIM.out _ _ _ _ _ _ OX_4b.out K_4b.out)
  obtain ⟨y0, y1, yf⟩ := cells2 BX_4b.out
  go_wp2_with fail
  refine C.out.mono ?_
  clear C
  rintro e w5 ⟨s5, c5, rfl, o5, b⟩
  obtain ⟨so5, p5, co5, q5, rfl, rfl⟩ := o5.shape
  rw [← HK.out.1, ← HK.out.2] at o5 ⊢
  have BA := (Below.refl w5.heap.size w5).alloc (Nat.le_refl _) (.cells #[.slice so5 k1 p5, .slice co5 k2 q5] 25)
  have LG := hide (o5.two (show g9 + 1 ≤ _ from Z5b.out) (Nat.le_refl _))
  have LG2 := hide (o5.two (Nat.le_refl w4b.heap.size) (Nat.le_refl _))
  have b' := b
  have bt : Below w4b.heap.size w4b (w5.alloc _) := b'.trans (BA.mono b'.size)
  have X_5 := hide ((bt.block _ (blk_lt X_4b.out)).trans X_4b.out)
  have BW_5 := hide ((bt.block _ (blk_lt BW_4b.out)).trans BW_4b.out)
  have BX_5 := hide ((bt.block _ (blk_lt BX_4b.out)).trans BX_4b.out)
  have OW_5 := hide (OW_4b.out.below bt)
  have OX_5 := hide (OX_4b.out.below bt)
  have K_5 := hide (K_4b.out.below bt)
  have B_5 := hide (B_4b.out.trans (bt.mono B_4b.out.size))
  have OG_5 := hide ((o5.below BA).base (Nat.zero_le _))
  have BG_5 := hide (heap_alloc_new w5 (.cells #[.slice so5 k1 p5, .slice co5 k2 q5] 25))
  have Z6 : Hid (g9 < w5.heap.size) := Nat.lt_of_lt_of_le Z5b.out b'.size
  have Z7 : Hid (w4b.heap.size ≤ w5.heap.size) := b'.size
  generalize hzk : w4b.heap.size = zK at *
  clear hzk
  clear X_4b BW_4b BX_4b OW_4b OX_4b K_4b B_4b b b' bt BA o5 y0 y1 yf
  have C := hide (HEQ.out _ _ _ _ _ _ _ OG_5.out OW_5.out)
  obtain ⟨y0, y1, yf⟩ := cells2 BW_5.out
  go_wp2_with fail
  refine C.out.mono ?_
  clear C
  generalize w5.alloc (.cells #[.slice so5 k1 p5, .slice co5 k2 q5] 25) = W5 at *
  generalize w5.heap.size = g10 at *
  rintro e w6 ⟨rfl, b⟩
  have X_6 := hide ((b.block _ (blk_lt X_5.out)).trans X_5.out)
  have BW_6 := hide ((b.block _ (blk_lt BW_5.out)).trans BW_5.out)
  have BX_6 := hide ((b.block _ (blk_lt BX_5.out)).trans BX_5.out)
  have BG_6 := hide ((b.block _ (blk_lt BG_5.out)).trans BG_5.out)
  have OW_6 := hide (OW_5.out.below b)
  have OX_6 := hide (OX_5.out.below b)
  have OG_6 := hide (OG_5.out.below b)
  have K_6 := hide (K_5.out.below b)
  have B_6 := hide (B_5.out.trans (b.mono B_5.out.size))
  clear X_5 BW_5 BX_5 BG_5 OW_5 OX_5 OG_5 K_5 B_5 b y0 y1 yf
  obtain ⟨x0, x1, xf⟩ := cells2 X_6.out
  obtain ⟨y0, y1, yf⟩ := cells2 BX_6.out
  have zx := hide (blk_lt X_6.out)
  have zb := hide (blk_lt BX_6.out)
  have zx' : w.heap.size < w6.heap.size := zx.out
  have zb' : g9 < w6.heap.size := zb.out
  have HEQR := hide (fun (s' c' : Value) (b2 : Nat) (W : World) (hb : Below w6.heap.size w6 W) (h' : OwnD b2 s' c' d W) => HEQD.out _ _ _ _ s' c' W (OX_6.out.below hb) h')
  clear xf yf
  go_wp2
  go_region_held3 (fun W => (W.cell? ⟨g9, 0, none⟩ = some (.slice so4 n1 p4) ∧ W.cell? ⟨g9, 1, none⟩ = some (.slice co4 n2 q4)) ∧ W.cell? ⟨w.heap.size, 0, none⟩ = some (.slice so n1 p) ∧ W.cell? ⟨w.heap.size, 1, none⟩ = some (.slice co n2 q)) (go_keep) (first | (go_at_call 16; refine (HTOF.out _ B_6.out.drew).mono ?_; rintro e w7 ⟨s7, c7, rfl, o7, hb7⟩; obtain ⟨so7, p7, co7, q7, rfl, rfl⟩ := o7.shape; rw [← HN.out.1, ← HN.out.2] at o7 ⊢; have hb7' : Below w6.heap.size w6 w7 := (Below.refl _ _).drew.trans hb7; obtain ⟨hc7, hf7⟩ := bcell hb7') | (go_at_call 11; refine (HEQR.out _ _ _ _ hb7' o7).mono ?_; rintro e w8 ⟨rfl, hb8⟩; have b : Below w6.heap.size w6 w8 := hb7'.trans (hb8.mono hb7'.size); obtain ⟨hc8, hf8⟩ := bcell b))
  all_goals
    have X_8 := hide ((b.block _ (blk_lt X_6.out)).trans X_6.out)
    have BW_8 := hide ((b.block _ (blk_lt BW_6.out)).trans BW_6.out)
    have BX_8 := hide ((b.block _ (blk_lt BX_6.out)).trans BX_6.out)
    have BG_8 := hide ((b.block _ (blk_lt BG_6.out)).trans BG_6.out)
    have OW_8 := hide (OW_6.out.below b)
    have OX_8 := hide (OX_6.out.below b)
    have OG_8 := hide (OG_6.out.below b)
    have K_8 := hide (K_6.out.below b)
    have B_8 := hide (B_6.out.trans (b.mono B_6.out.size))
    clear X_6 BW_6 BX_6 BG_6 OW_6 OX_6 OG_6 K_6 B_6 b hb7 hb7' hc7 hf7 hb8 hc8 hf8 x0 x1 y0 y1 o7 HEQR HEQD zx zb zx' zb'
    go_wp2_with fail
    refine (HTB.out _ B_8.out).mono ?_
    rintro e w8b ⟨kv8, rfl, ok8, b⟩
    obtain ⟨ka8, kc8, rfl, _⟩ := ownL_shape ok8
    have X_8b := hide ((b.block _ (blk_lt X_8.out)).trans X_8.out)
    have BW_8b := hide ((b.block _ (blk_lt BW_8.out)).trans BW_8.out)
    have BX_8b := hide ((b.block _ (blk_lt BX_8.out)).trans BX_8.out)
    have BG_8b := hide ((b.block _ (blk_lt BG_8.out)).trans BG_8.out)
    have OW_8b := hide (OW_8.out.below b)
    have OX_8b := hide (OX_8.out.below b)
    have OG_8b := hide (OG_8.out.below b)
    have K_8b := hide (K_8.out.below b)
    have B_8b := hide (B_8.out.trans (b.mono B_8.out.size))
    have C := hide (HEQB.out _ _ _ _ _ K_8b.out ok8)
    clear X_8 BW_8 BX_8 BG_8 OW_8 OX_8 OG_8 K_8 B_8 ok8 b
    go_wp2_with fail
    refine C.out.mono ?_
    rintro e w8c ⟨rfl, b⟩
    clear C
    have X_8c := hide ((b.block _ (blk_lt X_8b.out)).trans X_8b.out)
    have BW_8c := hide ((b.block _ (blk_lt BW_8b.out)).trans BW_8b.out)
    have BX_8c := hide ((b.block _ (blk_lt BX_8b.out)).trans BX_8b.out)
    have BG_8c := hide ((b.block _ (blk_lt BG_8b.out)).trans BG_8b.out)
    have OW_8c := hide (OW_8b.out.below b)
    have OX_8c := hide (OX_8b.out.below b)
    have OG_8c := hide (OG_8b.out.below b)
    have K_8c := hide (K_8b.out.below b)
    have B_8c := hide (B_8b.out.trans (b.mono B_8b.out.size))
    clear X_8b BW_8b BX_8b BG_8b OW_8b OX_8b OG_8b K_8b B_8b b
    have C := hide (HMKD.out _ _ _ _ OX_8c.out)
    obtain ⟨y0, y1, yf⟩ := cells2 BX_8c.out
    go_wp2_with fail
    refine C.out.mono ?_
    rintro e w9 ⟨rfl, o, l⟩
    have Z8 := Z4.out
    have Z9 := Z6.out
    have X_9 := hide (l.blk X_8c.out LX.out (.inl ZX.out))
    have BW_9 := hide (l.blk BW_8c.out LX.out (.inl (Nat.lt_succ_self _)))
    have BG_9 := hide (l.blk BG_8c.out LX.out (.inr (by omega)))
    have OW_9 := hide (l.ownD OW_8c.out LX.out (fun b hb => .inl (by have := (LW.out _ (by simp) b hb).2; omega)) (fun b hb => .inl (by have := (LW.out _ (by simp) b hb).2; omega)))
    have OG_9 := hide (l.ownD OG_8c.out LX.out (fun b hb => .inr (by have := (LG.out _ (by simp) b hb).1; omega)) (fun b hb => .inr (by have := (LG.out _ (by simp) b hb).1; omega)))
    have B_9 := hide (B_8c.out.trans (l.bel LX.out (Nat.le_of_lt ZX.out) B_8c.out.size))
    have K_9 : Hid (OwnL _ (.slice ka4 kl.length kc4) kl _) := l.own K_8c.out (fun v hv => by cases hq : (Value.slice ka4 kl.length kc4).ownBlock with | none => exact .inl rfl | some x => exact .inr (fun e => by have h1 := (LK.out x hq).1; have h2 := (LX.out v hv x e.symm).2; omega))
    clear X_8c BW_8c BX_8c BG_8c OW_8c OX_8c OG_8c K_8c B_8c o l C y0 y1 yf
    have C := hide (HMB.out _ _ _ K_9.out)
    go_wp2_with fail
    refine C.out.mono ?_
    rintro e w9b ⟨z, hz0, rfl, gr⟩
    clear C
    have l : GL [.slice ka4 kl.length kc4] _ w9b := GL.of gr (List.mem_singleton.2 rfl)
    have LKK : ∀ v ∈ [(Value.slice ka4 kl.length kc4)], ∀ b, v.ownBlock = some b → g9 + 1 ≤ b ∧ b < zK := fun v hv b hb => LK.out b (by rw [List.mem_singleton.1 hv] at hb; exact hb)
    have hzn : ¬ z < 0 := by omega
    have Z7' := Z7.out
    have ZX' := ZX.out
    have X_9b := hide (l.blk X_9.out LKK (.inl (by omega)))
    have BW_9b := hide (l.blk BW_9.out LKK (.inl (by omega)))
    have BG_9b := hide (l.blk BG_9.out LKK (.inr Z7.out))
    have OW_9b := hide (l.ownD OW_9.out LKK (fun b hb => .inl (by have := (LW.out _ (by simp) b hb).2; omega)) (fun b hb => .inl (by have := (LW.out _ (by simp) b hb).2; omega)))
    have OG_9b := hide (l.ownD OG_9.out LKK (fun b hb => .inr (LG2.out _ (by simp) b hb).1) (fun b hb => .inr (LG2.out _ (by simp) b hb).1))
    have B_9b := hide (B_9.out.trans (l.bel LKK (by omega) B_9.out.size))
    clear X_9 BW_9 BG_9 OW_9 OG_9 K_9 B_9 l gr LKK hz0 Z7' ZX'
    have C := hide (HEQ.out _ _ _ _ _ _ _ OG_9b.out OW_9b.out)
    obtain ⟨y0, y1, yf⟩ := cells2 BW_9b.out
    obtain ⟨z0, z1, zf⟩ := cells2 BG_9b.out
    go_wp2_with fail
    refine C.out.mono ?_
    rintro e w10 ⟨rfl, b⟩
    clear C
    have X_10 := hide ((b.block _ (blk_lt X_9b.out)).trans X_9b.out)
    have BW_10 := hide ((b.block _ (blk_lt BW_9b.out)).trans BW_9b.out)
    have BG_10 := hide ((b.block _ (blk_lt BG_9b.out)).trans BG_9b.out)
    have OW_10 := hide (OW_9b.out.below b)
    have OG_10 := hide (OG_9b.out.below b)
    have B_10 := hide (B_9b.out.trans (b.mono B_9b.out.size))
    clear X_9b BW_9b BG_9b OW_9b OG_9b B_9b b y0 y1 yf z0 z1 zf
    have C := hide (HMK.out _ _ _ _ OG_10.out)
    obtain ⟨z0, z1, zf⟩ := cells2 BG_10.out
    go_wp2_with fail
    refine C.out.mono ?_
    rintro e w11 ⟨rfl, o, l⟩
    clear C
    have X_11 := hide (l.blk X_10.out LG.out (.inl (by have := ZX.out; omega)))
    have BW_11 := hide (l.blk BW_10.out LG.out (.inl (by omega)))
    have BG_11 := hide (l.blk BG_10.out LG.out (.inr (Nat.le_refl _)))
    have OW_11 := hide (l.ownD OW_10.out LG.out (fun b hb => .inl (by have := (LW.out _ (by simp) b hb).2; omega)) (fun b hb => .inl (by have := (LW.out _ (by simp) b hb).2; omega)))
    have OG_11 := hide o
    have B_11 := hide (B_10.out.trans (l.bel LG.out (by have := ZX.out; omega) B_10.out.size))
    clear X_10 BW_10 BG_10 OW_10 OG_10 B_10 o l z0 z1 zf
    have C := hide (HHL.out _ _ _ _ OG_11.out)
    obtain ⟨z0, z1, zf⟩ := cells2 BG_11.out
    go_wp2_with fail
    refine C.out.mono ?_
    rintro e w12 ⟨rfl, b⟩
    clear C
    have X_12 := hide ((b.block _ (blk_lt X_11.out)).trans X_11.out)
    have BW_12 := hide ((b.block _ (blk_lt BW_11.out)).trans BW_11.out)
    have BG_12 := hide ((b.block _ (blk_lt BG_11.out)).trans BG_11.out)
    have OW_12 := hide (OW_11.out.below b)
    have OG_12 := hide (OG_11.out.below b)
    have B_12 := hide (B_11.out.trans (b.mono B_11.out.size))
    clear X_11 BW_11 BG_11 OW_11 OG_11 B_11 b z0 z1 zf
    obtain ⟨x0, x1, xf⟩ := cells2 X_12.out
    go_wp2_with fail
    refine (HTOF.out _ B_12.out).mono ?_
    rintro e w13 ⟨s13, c13, rfl, oa, b⟩
    obtain ⟨so13, p13, co13, q13, rfl, rfl⟩ := oa.shape
    rw [← HN.out.1, ← HN.out.2] at oa ⊢
    have X_13 := hide ((b.block _ (blk_lt X_12.out)).trans X_12.out)
    have BW_13 := hide ((b.block _ (blk_lt BW_12.out)).trans BW_12.out)
    have BG_13 := hide ((b.block _ (blk_lt BG_12.out)).trans BG_12.out)
    have OW_13 := hide (OW_12.out.below b)
    have OG_13 := hide (OG_12.out.below b)
    have B_13 := hide (B_12.out.trans (b.mono B_12.out.size))
    have A_13 := hide oa
    clear X_12 BW_12 BG_12 OW_12 OG_12 B_12 oa b x0 x1 xf
    go_wp2_with fail
    refine (HTB.out _ B_13.out).mono ?_
    rintro e w13b ⟨kv13, rfl, ok13, b⟩
    obtain ⟨ka13, kc13, rfl, _⟩ := ownL_shape ok13
    have X_13b := hide ((b.block _ (blk_lt X_13.out)).trans X_13.out)
    have BW_13b := hide ((b.block _ (blk_lt BW_13.out)).trans BW_13.out)
    have BG_13b := hide ((b.block _ (blk_lt BG_13.out)).trans BG_13.out)
    have OW_13b := hide (OW_13.out.below b)
    have OG_13b := hide (OG_13.out.below b)
    have B_13b := hide (B_13.out.trans (b.mono B_13.out.size))
    have C := hide (HIM.out _ _ _ _ _ _ (A_13.out.below b) ok13)
    clear X_13 BW_13 BG_13 OW_13 OG_13 B_13 ok13 b A_13
    go_wp2_with fail
    refine C.out.mono ?_
    rintro e w14 ⟨s14, c14, rfl, o14, b⟩
    clear C
    obtain ⟨so14, p14, co14, q14, rfl, rfl⟩ := o14.shape
    rw [← HK.out.1, ← HK.out.2] at o14 ⊢
    have BA := (Below.refl w14.heap.size w14).alloc (Nat.le_refl _) (.cells #[.slice so14 k1 p14, .slice co14 k2 q14] 25)
    have b' := b
    have bt : Below w13b.heap.size w13b (w14.alloc _) := b'.trans (BA.mono b'.size)
    have X_14 := hide ((bt.block _ (blk_lt X_13b.out)).trans X_13b.out)
    have BW_14 := hide ((bt.block _ (blk_lt BW_13b.out)).trans BW_13b.out)
    have BG_14 := hide ((bt.block _ (blk_lt BG_13b.out)).trans BG_13b.out)
    have OW_14 := hide (OW_13b.out.below bt)
    have OG_14 := hide (OG_13b.out.below bt)
    have B_14 := hide (B_13b.out.trans (bt.mono B_13b.out.size))
    have C := hide (HEQ.out _ _ _ _ _ _ _ (o14.below BA) OW_14.out)
    clear X_13b BW_13b BG_13b OW_13b OG_13b B_13b b b' bt BA o14
    obtain ⟨y0, y1, yf⟩ := cells2 BW_14.out
    go_wp2_with fail
    refine C.out.mono ?_
    generalize w14.alloc (.cells #[.slice so14 k1 p14, .slice co14 k2 q14] 25) = W14 at *
    rintro e w15 ⟨rfl, b⟩
    clear C
    have BG_15 := hide ((b.block _ (blk_lt BG_14.out)).trans BG_14.out)
    have OG_15 := hide (OG_14.out.below b)
    have B_15 := hide (B_14.out.trans (b.mono B_14.out.size))
    clear X_14 BW_14 BG_14 OW_14 OG_14 B_14 b y0 y1 yf
    have C := hide (HHL.out _ _ _ _ OG_15.out)
    obtain ⟨z0, z1, zf⟩ := cells2 BG_15.out
    go_wp2_with fail
    refine C.out.mono ?_
    rintro e w16 ⟨rfl, b⟩
    clear C
    have B_16 := hide (B_15.out.trans (b.mono B_15.out.size))
    clear BG_15 OG_15 B_15 b z0 z1 zf
    go_wp2
    go_ret
    exact ⟨rfl, B_16.out⟩
end Go.Proofs.Ytmladjahkhhpkaa
