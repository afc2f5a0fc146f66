/-
  Contract: a disk copied into rows of its own; two disks of the same parts are the same.
-/
import Derived.Test.YtgnegidgeegknaaDkTo
import Derived.Test.YtgnegidgeegknaaDkSz
namespace Go.Proofs.Ytgnegidgeegknaa
open Go.RowKit
set_option maxRecDepth 100000

theorem apart_below {u v : Value} {m : Nat} (hu : ∀ b, u.ownBlock = some b → b < m) (hv : ∀ b, v.ownBlock = some b → m ≤ b) : u.ownBlock = none ∨ u.ownBlock ≠ v.ownBlock := by
  cases h : u.ownBlock with
  | none => exact .inl rfl
  | some b => exact .inr (fun e => by have h1 := hu b h; have h2 := hv b e.symm; omega)
set_option maxHeartbeats 1000000 in
theorem toDisk_own (A B : Nat) (so : Option Addr) (p : Nat) (co : Option Addr) (q : Nat) (d : Dk) (w : World) (hB : B ≤ w.heap.size) (hf : dkFits d) (hr : DkRow w A B so co d) :
    Calls Try.prog 22 #[.agg #[.slice so d.secs.length p, .slice co d.cache.length q]] w fun e w' => ∃ s c, e = .returned (.agg #[s, c]) ∧ OwnD w.heap.size s c d w' ∧ Below w.heap.size w w' := by
  have HR := hide hr
  have HF := hide hf
  clear hr hf
  obtain ⟨ss, cs⟩ := d
  simp only
  have HB0 : Hid (Below w.heap.size w (((w.alloc (.cells #[.slice so ss.length p, .slice co cs.length q] 41)).alloc (.cells #[.slice none 0 0, .slice none 0 0] 25)).alloc (.cells #[.slice none 0 0, .slice none 0 0] 25))) := (((Below.refl _ _).alloc (Nat.le_refl _) _).alloc (by simp) _).alloc (by simp; omega) _
  have X0 := hide (alloc3 w (.cells #[.slice so ss.length p, .slice co cs.length q] 41) (.cells #[.slice none 0 0, .slice none 0 0] 25) (.cells #[.slice none 0 0, .slice none 0 0] 25))
  have HZ : Hid ((((w.alloc (.cells #[.slice so ss.length p, .slice co cs.length q] 41)).alloc (.cells #[.slice none 0 0, .slice none 0 0] 25)).alloc (.cells #[.slice none 0 0, .slice none 0 0] 25)).heap.size = w.heap.size + 3) := by show _ = _; simp
  go_enter Try.func22, Try.ntmps22
  go_wp2_with fail
  refine (toStringS_ownS A w.heap.size so p ss _ HB0.out.size HF.out.1 ((HR.out.2.1.mono (Nat.le_refl _) hB).kept HB0.out)).mono ?_
  generalize ((w.alloc (.cells #[.slice so ss.length p, .slice co cs.length q] 41)).alloc (.cells #[.slice none 0 0, .slice none 0 0] 25)).alloc (.cells #[.slice none 0 0, .slice none 0 0] 25) = W0 at *
  rintro e w1 ⟨v, rfl, hr1, hb1⟩
  obtain ⟨so', p', rfl⟩ := ownS_shape hr1
  have hsz1 : w.heap.size + 3 ≤ w1.heap.size := by have := hb1.size; rw [HZ.out] at this; exact this
  have R1 : Hid (OwnS (w.heap.size + 3) (.slice so' ss.length p') ss w1) := owns_base hr1 (by rw [HZ.out]; omega)
  have M1 : Hid (∀ b, (Value.slice so' ss.length p').ownBlock = some b → b < w1.heap.size) := fun b hb => (World.ownsRow.lt hr1 b hb).2
  have B1 : Hid (Below w.heap.size w (w1.setCell ⟨w.heap.size + 1 + 1, 0, none⟩ (.slice so' ss.length p'))) := (HB0.out.trans (hb1.mono HB0.out.size)).setCell (by simp; omega) _
  have X1 := hide ((hb1.block w.heap.size (by rw [HZ.out]; omega)).trans X0.out.1)
  have Y1 := hide ((hb1.block (w.heap.size + 1) (by rw [HZ.out]; omega)).trans X0.out.2.1)
  have L1 := hide ((hb1.block (w.heap.size + 1 + 1) (by rw [HZ.out]; omega)).trans X0.out.2.2)
  obtain ⟨x0, x1, xf⟩ := cells2 X1.out
  obtain ⟨l0, l1, lf⟩ := cells2 L1.out
  clear hr1 hb1 X0 HZ
  go_wp2_with fail
  refine (toWriteS_own A w.heap.size co q cs _ B1.out.size HF.out.2 ((HR.out.2.2.mono (Nat.le_refl _) hB).kept B1.out)).mono ?_
  rintro e w2 ⟨v, rfl, hr2, hb2⟩
  obtain ⟨co', q', rfl⟩ := ownW_shape hr2
  have hsz2 : w1.heap.size ≤ w2.heap.size := by have := hb2.size; simpa using this
  have R2 : Hid (OwnW (w.heap.size + 3) (.slice co' cs.length q') cs w2) := owns_base hr2 (by simp; omega)
  have R12 : Hid (OwnS (w.heap.size + 3) (.slice so' ss.length p') ss w2) := owns_below (own_set R1.out (by omega)) hb2
  have HS : Hid (OwnD (w.heap.size + 3) (.slice so' ss.length p') (.slice co' cs.length q') ⟨ss, cs⟩ w2) := ⟨R12.out, R2.out, apart_below M1.out (fun b hb => by have := (World.ownsRow.lt hr2 b hb).1; simpa using this)⟩
  have B2 : Hid (Below w.heap.size w w2) := B1.out.trans (hb2.mono B1.out.size)
  have Y2 : Hid (w2.heap[w.heap.size + 1]? = some (.cells #[.slice none 0 0, .slice none 0 0] 25 (0, 0))) := ((hb2.block _ (by simp; omega)).trans (heap_far _ _ _ _ _ (by omega))).trans Y1.out
  have L2 : Hid (w2.heap[w.heap.size + 1 + 1]? = some (.cells #[.slice so' ss.length p', .slice none 0 0] 25 (0, 0))) := (hb2.block _ (by simp; omega)).trans (by simpa using heap_setCell_same _ _ 0 _ _ (.slice so' ss.length p') L1.out)
  clear x0 x1 xf l0 l1 lf
  obtain ⟨y0, y1, yf⟩ := cells2 Y2.out
  obtain ⟨l0, l1, lf⟩ := cells2 L2.out
  clear hr2 hb2 M1 R12 R2 R1 B1 HB0 HR HF X1 Y1 L1
  go_wp2
  refine bodyPost_ret (v := .agg #[.slice so' ss.length p', .slice co' cs.length q']) (by simp [results, Try.results22, go_sem, y0, y1]) rfl ⟨_, _, rfl, ?_, ?_⟩
  · exact (((HS.out.set (by omega)).set (by omega)).set (by omega)).base (by omega)
  · exact ((B2.out.setCell (by simp; omega) _).setCell (by simp) _).setCell (by simp) _
theorem eqWrite_same (n : Int) (t : ByteArray) (w : World) :
    Calls Try.prog 72 #[.agg #[.int .i64 n, .string t], .agg #[.int .i64 n, .string t]] w fun e w' => e = .returned (.bool true) ∧ Below w.heap.size w w' := by
  go_enter Try.func72, Try.ntmps72
  go_wp2
  go_ret
  exact ⟨rfl, ((Below.refl _ _).alloc (Nat.le_refl _) _).alloc (by simp) _⟩
theorem ownW_at {base : Nat} {v : Value} {l : List Wr} {w : World} (h : OwnW base v l w) : ∃ ao cap, v = .slice ao l.length cap ∧ ∀ k, k < l.length → ∃ b off n t, ao = some ⟨b, off, none⟩ ∧ b < w.heap.size ∧ l.getD k noWr = ⟨n, t⟩ ∧ w.cell? ⟨b, off + k * 2, none⟩ = some (.int .i64 n) ∧ w.cell? ⟨b, off + k * 2 + 1, none⟩ = some (.string t) := by
  rcases h.2 with ⟨rfl, h0⟩ | ⟨g, cap, cur, rfl, hB, hq, hn', hm, hs, hc⟩
  · exact ⟨none, 0, by rw [h0], fun k hk => by omega⟩
  · have hget : ∀ j, j < l.length * 2 → cur[j]? = (flatW l)[j]? := fun j hj => by
      have h1 : cur.toList.take (l.length * 2) = flatW l := by simpa using hc
      rw [← h1, List.getElem?_take_of_lt hj, Array.getElem?_toList]
    refine ⟨_, _, rfl, fun k hk => ⟨g, 0, (l.getD k noWr).pos, (l.getD k noWr).text, rfl, (Array.getElem?_eq_some_iff.1 hq).1, rfl, ?_, ?_⟩⟩
    · rw [cell_of_row _ _ _ _ _ _ hq, Nat.zero_add, hget _ (by omega), (flatW_get l k hk).1]
    · rw [cell_of_row _ _ _ _ _ _ hq, Nat.zero_add, hget _ (by omega), (flatW_get l k hk).2]
set_option maxHeartbeats 2000000 in
theorem eqWriteS_own (base base' : Nat) (v v' : Value) (l : List Wr) (w : World) (hl : l.length ≤ 1048576) (ha : OwnW base v l w) (hb : OwnW base' v' l w) :
    Calls Try.prog 44 #[v, v'] w fun e w' => e = .returned (.bool true) ∧ Below w.heap.size w w' := by
  obtain ⟨ao, cap, rfl, hka⟩ := ownW_at ha
  obtain ⟨bo, cp, rfl, hkb⟩ := ownW_at hb
  have HA := hide hka
  have HB := hide hkb
  clear ha hb hka hkb
  go_enter Try.func44, Try.ntmps44
  go_wp2
  go_loopw [5] (fun i wr => ∃ k : Nat, k ≤ l.length ∧ i = .int .i64 k ∧ Below w.heap.size w wr) (fun i _ => l.length - (intOf i).toNat)
  case atStart => exact ⟨0, Nat.zero_le _, rfl, Below.refl _ _⟩
  case round =>
    obtain ⟨k, hk, rfl, hbw⟩ := hrel
    by_cases hlt : k < l.length
    · obtain ⟨b, off, nn, tt, rfl, hbB, hv, d00, d01⟩ := HA.out k hlt
      obtain ⟨b', off', nn', tt', rfl, hbB', hv', e00, e01⟩ := HB.out k hlt
      rw [hv] at hv'
      simp only [Wr.mk.injEq] at hv'
      obtain ⟨rfl, rfl⟩ := hv'
      have hz := hbw.size
      have d0 := (hbw.cell (p := ⟨b, off + k * 2, none⟩) hbB).trans d00
      have d1 := (hbw.cell (p := ⟨b, off + k * 2 + 1, none⟩) hbB).trans d01
      have e0 := (hbw.cell (p := ⟨b', off' + k * 2, none⟩) hbB').trans e00
      have e1 := (hbw.cell (p := ⟨b', off' + k * 2 + 1, none⟩) hbB').trans e01
      have hi0 : (0 : Int) ≤ (k : Int) := by omega
      have hi1 : (k : Int) < (l.length : Int) := by omega
      have ht := (Int.toNat_natCast k)
      have hq1 : b < wr.heap.size := by omega
      have hq2 : b' < wr.heap.size := by omega
      clear hv d00 e00 d01 e01 hbB hbB'
      go_wp2
      go_region_held3 (fun W => W.cell? ⟨b, off + k * 2, none⟩ = some (.int .i64 nn) ∧ W.cell? ⟨b, off + k * 2 + 1, none⟩ = some (.string tt) ∧ W.cell? ⟨b', off' + k * 2, none⟩ = some (.int .i64 nn) ∧ W.cell? ⟨b', off' + k * 2 + 1, none⟩ = some (.string tt)) (go_keep) (first | (go_at_call 72; refine (eqWrite_same nn tt _).mono ?_; rintro e w1 ⟨rfl, hb1⟩; have hb1' : Below wr.heap.size wr w1 := (Below.refl _ _).drew.trans hb1; obtain ⟨hc1, hf1⟩ := bcell hb1'))
      all_goals
        have hb2 := hbw.trans (hb1'.mono hz)
        clear d0 d1 e0 e1 hb1 hb1' hbw hc1 hf1
        go_wp2
        go_roundw
        case rel => exact ⟨k + 1, by omega, by go_num, hb2⟩
        case measure => simp [intOf]; omega
    · go_wp2
      go_ret
      exact ⟨rfl, hbw⟩
set_option maxHeartbeats 2000000 in
theorem eqDisk_own (b1 b2 : Nat) (s c s' c' : Value) (d : Dk) (w : World) (hf : dkFits d) (h : OwnD b1 s c d w) (h' : OwnD b2 s' c' d w) :
    Calls Try.prog 17 #[.agg #[s, c], .agg #[s', c']] w fun e w' => e = .returned (.bool true) ∧ Below w.heap.size w w' := by
  have C1 := hide (fun (W : World) (hb : Below w.heap.size w W) => eqStringS_own _ _ _ _ d.secs W hf.1 (owns_below h.secs hb) (owns_below h'.secs hb))
  have C2 := hide (fun (W : World) (hb : Below w.heap.size w W) => eqWriteS_own _ _ _ _ d.cache W hf.2 (owns_below h.cache hb) (owns_below h'.cache hb))
  obtain ⟨so, p, co, q, rfl, rfl⟩ := h.shape
  obtain ⟨so', p', co', q', rfl, rfl⟩ := h'.shape
  obtain ⟨ss, cs⟩ := d
  simp only at *
  have HA := hide (two_allocs w (.cells #[.slice so ss.length p, .slice co cs.length q] 25) (.cells #[.slice so' ss.length p', .slice co' cs.length q'] 25))
  have B0 := hide (((Below.refl w.heap.size w).alloc (Nat.le_refl _) (.cells #[.slice so ss.length p, .slice co cs.length q] 25)).alloc (by simp) (.cells #[.slice so' ss.length p', .slice co' cs.length q'] 25))
  clear h h' hf
  go_enter Try.func17, Try.ntmps17
  go_wp2_with fail
  refine (C1.out _ B0.out).mono ?_
  generalize (w.alloc (.cells #[.slice so ss.length p, .slice co cs.length q] 25)).alloc (.cells #[.slice so' ss.length p', .slice co' cs.length q'] 25) = W0 at *
  rintro e w1 ⟨rfl, b1⟩
  obtain ⟨hx0, hy0, hz0⟩ := HA.out
  have X1 := hide ((b1.block w.heap.size (by omega)).trans hx0)
  have Y1 := hide ((b1.block (w.heap.size + 1) (by omega)).trans hy0)
  have B1 := hide (B0.out.trans (b1.mono B0.out.size))
  obtain ⟨x0, x1, xf⟩ := cells2 X1.out
  obtain ⟨y0, y1, yf⟩ := cells2 Y1.out
  clear b1 HA hx0 hy0 hz0 B0 C1
  go_wp2_with fail
  refine (C2.out _ B1.out).mono ?_
  rintro e w2 ⟨rfl, b2⟩
  have B2 := hide (B1.out.trans (b2.mono B1.out.size))
  clear b2 X1 Y1 B1 C2 x0 x1 xf y0 y1 yf
  go_wp2
  go_ret
  exact ⟨rfl, B2.out⟩
end Go.Proofs.Ytgnegidgeegknaa
