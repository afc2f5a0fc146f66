/-
  Where a key belongs among a node's keys: plain facts, and the program's and the specification's search.
-/
import Derived.Test.YtcjcjchpdgaobaaTrSz
import Derived.Test.YtcjcjchpdgaobaaSkips
namespace Go.Proofs.Ytcjcjchpdgaobaa
open Go.RowKit
set_option maxRecDepth 100000

/-- How many keys stand ahead of a key. -/
def plc : List ByteArray → ByteArray → Nat
  | [], _ => 0
  | a :: l, k => if lt' a k then 1 + plc l k else 0
theorem plc_le : ∀ (l : List ByteArray) (k : ByteArray), plc l k ≤ l.length
  | [], _ => Nat.le_refl _
  | a :: l, k => by
    have := plc_le l k
    simp only [plc, List.length_cons]
    split <;> omega
theorem plc_eq : ∀ (l : List ByteArray) (key : ByteArray) (k : Nat), k ≤ l.length → (∀ i, i < k → lt' (l.getD i ByteArray.empty) key = true) → (k < l.length → lt' (l.getD k ByteArray.empty) key = false) → plc l key = k
  | [], _, k, h, _, _ => by simp at h; simp [plc, h]
  | a :: l, key, 0, _, _, h => by
    have := h (by simp)
    simp only [List.getD_cons_zero] at this
    simp [plc, this]
  | a :: l, key, k + 1, h, h1, h2 => by
    have h0 := h1 0 (by omega)
    simp only [List.getD_cons_zero] at h0
    have ih := plc_eq l key k (by simpa using h) (fun i hi => by have := h1 (i + 1) (by omega); simpa using this) (fun hk => by have := h2 (by simpa using hk); simpa using this)
    simp only [plc, h0, if_true, ih]
    omega
/-- Is a key there? -/
def hasK (l : List ByteArray) (key : ByteArray) : Bool := decide (plc l key < l.length) && ((l.getD (plc l key) ByteArray.empty).toList == key.toList)
theorem srt_lt : ∀ (l : List ByteArray) (lo hi : Option ByteArray), srt lo hi l = true → ∀ i j, i < j → j < l.length → lt' (l.getD i ByteArray.empty) (l.getD j ByteArray.empty) = true
  | [], _, _, _, _, j, _, hj => by simp at hj
  | a :: l, lo, hi, h, i, j, hij, hj => by
    simp only [srt, Bool.and_eq_true] at h
    obtain ⟨j', rfl⟩ : ∃ j', j = j' + 1 := ⟨j - 1, by omega⟩
    have hj' : j' < l.length := by simpa using hj
    cases i with
    | succ i => simpa using srt_lt l _ _ h.2 i j' (by omega) hj'
    | zero =>
      have key : ∀ (m : List ByteArray) (x : ByteArray) (hi : Option ByteArray), srt (some x) hi m = true → ∀ i, i < m.length → lt' x (m.getD i ByteArray.empty) = true := by
        intro m
        induction m with
        | nil => intro x hi _ i hi'; simp at hi'
        | cons y m ih =>
          intro x hi hs i hi'
          simp only [srt, above, Bool.and_eq_true] at hs
          cases i with
          | zero => simpa using hs.1.1
          | succ i => have := ih y hi hs.2 i (by simpa using hi'); exact lt_trans' hs.1.1 (by simpa using this)
      simpa using key l a hi h.2 j' hj'
/-- In keys that rise, what is not ahead of a key has nothing behind it that is. -/
theorem not_lt_up {l : List ByteArray} {lo hi : Option ByteArray} (h : srt lo hi l = true) {key : ByteArray} {i j : Nat} (hij : i ≤ j) (hj : j < l.length) (hn : lt' (l.getD i ByteArray.empty) key = false) : lt' (l.getD j ByteArray.empty) key = false := by
  by_cases e : i = j
  · subst e; exact hn
  · rw [Bool.eq_false_iff]
    intro e'
    have := lt_trans' (srt_lt l lo hi h i j (by omega) hj) e'
    rw [hn] at this; cases this
theorem lt_up {l : List ByteArray} {lo hi : Option ByteArray} (h : srt lo hi l = true) {key : ByteArray} {i j : Nat} (hij : i ≤ j) (hj : j < l.length) (hn : lt' (l.getD j ByteArray.empty) key = true) : lt' (l.getD i ByteArray.empty) key = true := by
  by_cases e : i = j
  · subst e; exact hn
  · exact lt_trans' (srt_lt l lo hi h i j (by omega) hj) hn
theorem nanA_no (x : ByteArray) (w : World) : Calls Try.prog 92 #[.string x] w fun e w' => e = .returned (.bool false) ∧ w' = w := by
  go_enter Try.func92, Try.ntmps92
  go_wp2
  go_ret
  exact ⟨by simp, rfl⟩
theorem nanB_no (x : ByteArray) (w : World) : Calls Try.prog 106 #[.string x] w fun e w' => e = .returned (.bool false) ∧ w' = w := by
  go_enter Try.func106, Try.ntmps106
  go_wp2
  go_ret
  exact ⟨by simp, rfl⟩
theorem less_any (x y : ByteArray) (w : World) : Calls Try.prog 91 #[.string x, .string y] w fun e w' => e = .returned (.bool (lt' x y)) ∧ w' = w := by
  have HB := hide (fun W => nanB_no x W)
  unfold lt'
  go_enter Try.func91, Try.ntmps91
  go_wp2_with (first | (go_at_call 106; refine (HB.out _).mono ?_; rintro e w1 ⟨rfl, rfl⟩))
  go_ret
  exact ⟨rfl, rfl⟩
set_option maxHeartbeats 1000000 in
theorem search_any (A B : Nat) (ao : Option Addr) (cap : Nat) (l : List ByteArray) (key : ByteArray) (lo hi : Option ByteArray) (w : World) (hB : B ≤ w.heap.size) (hl : l.length ≤ 3) (hs : srt lo hi l = true) (hr : StrRow w A B ao l) :
    Calls Try.prog 73 #[.slice ao l.length cap, .string key] w fun e w' => e = .returned (.tuple #[.int .i64 ((plc l key : Nat) : Int), .bool (hasK l key)]) ∧ w' = w := by
  have HR := hide hr
  have HS := hide hs
  clear hr hs
  go_enter Try.func73, Try.ntmps73
  go_wp2
  go_loopw [7, 8] (fun p q wr => ∃ i j : Nat, i ≤ j ∧ j ≤ l.length ∧ p = .int .i64 i ∧ q = .int .i64 j ∧ Hid ((∀ m, m < i → lt' (l.getD m ByteArray.empty) key = true) ∧ ∀ m, j ≤ m → m < l.length → lt' (l.getD m ByteArray.empty) key = false) ∧ Hid (wr = w)) (fun p q _ => (intOf q).toNat - (intOf p).toNat)
  case atStart => exact ⟨0, l.length, Nat.zero_le _, Nat.le_refl _, rfl, rfl, ⟨fun m hm => absurd hm (Nat.not_lt_zero _), fun m h1 h2 => by omega⟩, rfl⟩
  case round =>
    obtain ⟨i, j, hij, hjl, rfl, rfl, HI, HW⟩ := hrel
    obtain rfl : wr = w := HW.out
    by_cases hlt : i < j
    · obtain ⟨h, hh⟩ : ∃ h, h = (i + j) / 2 := ⟨_, rfl⟩
      have hhl : h < l.length := by omega
      have hh1 : i ≤ h := by omega
      have hh2 : h < j := by omega
      obtain ⟨b, off, x, rfl, hbB, hx, hxs, d0⟩ := HR.out.at h hhl
      have HL := hide (fun W => less_any x key W)
      have HX := hide hx
      have hI : ((i : Int) + (j : Int)) / 2 = (h : Int) := by omega
      have HH := hide hh
      clear hx hxs hh
      go_wp2_with fail
      refine (HL.out _).mono ?_
      rintro e w1 ⟨rfl, rfl⟩
      by_cases hq : lt' x key = true
      · have HI2 : Hid ((∀ m, m < h + 1 → lt' (l.getD m ByteArray.empty) key = true) ∧ ∀ m, j ≤ m → m < l.length → lt' (l.getD m ByteArray.empty) key = false) := ⟨fun m hm => lt_up HS.out (show m ≤ h by omega) hhl (by rw [HX.out]; exact hq), HI.out.2⟩
        rw [hq]
        clear hq HI HL HX HH d0
        go_wp2
        go_roundw
        case rel => exact ⟨h + 1, j, by omega, hjl, by go_num, rfl, HI2, by first | exact HW | exact True.intro⟩
        case measure => simp [intOf]; omega
      · rw [Bool.not_eq_true] at hq
        have HI2 : Hid ((∀ m, m < i → lt' (l.getD m ByteArray.empty) key = true) ∧ ∀ m, h ≤ m → m < l.length → lt' (l.getD m ByteArray.empty) key = false) := ⟨HI.out.1, fun m hm hml => not_lt_up HS.out hm hml (by rw [HX.out]; exact hq)⟩
        rw [hq]
        clear hq HI HL HX HH d0
        go_wp2
        go_roundw
        case rel => exact ⟨i, h, hh1, by omega, rfl, rfl, HI2, by first | exact HW | exact True.intro⟩
        case measure => simp [intOf]; omega
    · obtain rfl : i = j := by omega
      have HP := hide (plc_eq l key i hjl HI.out.1 (fun hk => HI.out.2 i (Nat.le_refl _) hk))
      by_cases hin : i < l.length
      · obtain ⟨b, off, x, rfl, hbB, hx, hxs, d0⟩ := HR.out.at i hin
        have HK : Hid (hasK l key = (x.toList == key.toList)) := by show _ = _; unfold hasK; rw [HP.out, hx, decide_eq_true hin, Bool.true_and]
        have HN := hide (fun (y : ByteArray) W => nanA_no y W)
        clear hx hxs HI
        by_cases he : (x.toList == key.toList) = true
        · rw [he] at HK
          go_wp2
          go_ret2
          exact ⟨by rw [HP.out, HK.out]; rfl, rfl⟩
        · rw [Bool.not_eq_true] at he
          rw [he] at HK
          go_wp2_with (first | (go_at_call 92; refine (HN.out _ _).mono ?_; rintro e w1 ⟨rfl, rfl⟩))
          go_ret2
          exact ⟨by rw [HP.out, HK.out]; rfl, rfl⟩
      · have HK : Hid (hasK l key = false) := by show _ = _; unfold hasK; rw [HP.out, decide_eq_false hin, Bool.false_and]
        clear HI
        go_wp2
        go_ret2
        exact ⟨by rw [HP.out, HK.out]; rfl, rfl⟩
set_option maxHeartbeats 2000000 in
theorem place_any (A B : Nat) (ko : Option Addr) (kc : Nat) (vv xx : Value) (ks : List ByteArray) (key : ByteArray) (w : World) (hB : B ≤ w.heap.size) (hl : ks.length ≤ 3) (hvv : ∃ a n c, vv = .slice a n c) (hxx : ∃ a n c, xx = .slice a n c) (hr : StrRow w A B ko ks) :
    Calls Try.prog 81 #[.agg #[.slice ko ks.length kc, vv, xx], .string key] w fun e w' => e = .returned (.tuple #[.int .i64 ((plc ks key : Nat) : Int), .bool (hasK ks key)]) ∧ Below w.heap.size w w' := by
  obtain ⟨va, vn, vc, rfl⟩ := hvv
  obtain ⟨xa, xn, xc, rfl⟩ := hxx
  have B0 := hide ((Below.refl w.heap.size w).alloc (Nat.le_refl _) (.cells #[.slice ko ks.length kc, .slice va vn vc, .slice xa xn xc] 26))
  have X0 := hide (heap_alloc_new w (.cells #[.slice ko ks.length kc, .slice va vn vc, .slice xa xn xc] 26))
  have HR := hide (hr.kept (B0.out.mono hB))
  obtain ⟨x0, x1, x2, xf⟩ := cells3 X0.out
  clear hr
  go_enter Try.func81, Try.ntmps81
  go_wp2
  generalize w.alloc (.cells #[.slice ko ks.length kc, .slice va vn vc, .slice xa xn xc] 26) = W0 at *
  go_loopw [6] (fun i wr => ∃ k : Nat, k ≤ ks.length ∧ i = .int .i64 k ∧ Hid (∀ m, m < k → lt' (ks.getD m ByteArray.empty) key = true) ∧ Hid (wr = W0)) (fun i _ => ks.length - (intOf i).toNat)
  case atStart => exact ⟨0, Nat.zero_le _, rfl, fun m hm => absurd hm (Nat.not_lt_zero _), rfl⟩
  case round =>
    obtain ⟨k, hk, rfl, HI, HW⟩ := hrel
    obtain rfl : wr = W0 := HW.out
    by_cases hlt : k < ks.length
    · obtain ⟨b, off, x, rfl, hbB, hx, hxs, d0⟩ := HR.out.at k hlt
      have HX := hide hx
      clear hx hxs
      by_cases hq : Go.Op.bytesLess x.toList key.toList = true
      · have HI2 : Hid (∀ m, m < k + 1 → lt' (ks.getD m ByteArray.empty) key = true) := fun m hm => by
          by_cases e : m = k
          · subst e; rw [HX.out]; exact hq
          · exact HI.out m (by omega)
        clear HI HX
        go_wp2
        go_roundw
        case rel => exact ⟨k + 1, by omega, by go_num, HI2, by first | exact HW | exact True.intro⟩
        case measure => simp [intOf]; omega
      · rw [Bool.not_eq_true] at hq
        have HP := hide (plc_eq ks key k hk HI.out (fun _ => by rw [HX.out]; exact hq))
        have HK : Hid (hasK ks key = (x.toList == key.toList)) := by show _ = _; unfold hasK; rw [HP.out, HX.out, decide_eq_true hlt, Bool.true_and]
        obtain ⟨qe, hqe⟩ : ∃ qe, (x.toList == key.toList) = qe := ⟨_, rfl⟩
        rw [hqe] at HK
        clear HI HX
        have hi0 : (k : Int) < (ks.length : Int) := by omega
        go_wp2
        refine wp_region_noPanic ?_
        refine wp_region_held_drew (S := (fun W => W.cell? ⟨w.heap.size, 0, none⟩ = some (.slice (some ⟨b, off, none⟩) ks.length kc) ∧ W.cell? ⟨b, off + k, none⟩ = some (.string x))) (by kernel_rfl) ?_ (fun hHeld => ?_)
        · (try dsimp only); go_keep
        refine takeD 0 23 (v := ?v1x0) rfl rfl (by kernel_rfl) (by kernel_rfl) (by kernel_rfl) (fun _ _ _ h => h) (by kernel_rfl) ?hy1x0 (by assumption) ?r1x0
        case hy1x0 => (intro W hSw; (try dsimp only at hSw); go_simp; try with_reducible rfl)
        simp only [Act.put, List.setIfInBounds_toArray, List.set_cons_zero, List.set_cons_succ]
        refine takeD 1 24 (v := ?v1x1) rfl rfl (by kernel_rfl) (by kernel_rfl) (by kernel_rfl) (fun _ _ _ h => h) (by kernel_rfl) ?hy1x1 (by assumption) ?r1x1
        case hy1x1 => (intro W hSw; (try dsimp only at hSw); go_simp; try with_reducible rfl)
        simp only [Act.put, List.setIfInBounds_toArray, List.set_cons_zero, List.set_cons_succ]
        refine takeD 2 25 (v := ?v1x2) rfl rfl (by kernel_rfl) (by kernel_rfl) (by kernel_rfl) (fun _ _ _ h => h) (by kernel_rfl) ?hy1x2 (by assumption) ?r1x2
        case hy1x2 => (intro W hSw; (try dsimp only at hSw); go_simp; try with_reducible rfl)
        simp only [Act.put, List.setIfInBounds_toArray, List.set_cons_zero, List.set_cons_succ]
        refine takeD 3 26 (v := ?v1x3) rfl rfl (by kernel_rfl) (by kernel_rfl) (by kernel_rfl) (fun _ _ _ h => h) (by kernel_rfl) ?hy1x3 (by assumption) ?r1x3
        case hy1x3 => (intro W hSw; (try dsimp only at hSw); go_simp; try with_reducible rfl)
        simp only [Act.put, List.setIfInBounds_toArray, List.set_cons_zero, List.set_cons_succ]
        refine takeD 4 27 (v := ?v1x4) rfl rfl (by kernel_rfl) (by kernel_rfl) (by kernel_rfl) (fun _ _ _ h => h) (by kernel_rfl) ?hy1x4 (by assumption) ?r1x4
        case hy1x4 => (intro W hSw; (try dsimp only at hSw); go_simp; try with_reducible rfl)
        simp only [Act.put, List.setIfInBounds_toArray, List.set_cons_zero, List.set_cons_succ]
        refine takeD 5 28 (v := ?v1x5) rfl rfl (by kernel_rfl) (by kernel_rfl) (by kernel_rfl) (fun _ _ _ h => h) (by kernel_rfl) ?hy1x5 (by assumption) ?r1x5
        case hy1x5 => (intro W hSw; (try dsimp only at hSw); go_simp; try with_reducible rfl)
        simp only [Act.put, List.setIfInBounds_toArray, List.set_cons_zero, List.set_cons_succ]
        refine takeD 6 29 (v := ?v1x6) rfl rfl (by kernel_rfl) (by kernel_rfl) (by kernel_rfl) (fun _ _ _ h => h) (by kernel_rfl) ?hy1x6 (by assumption) ?r1x6
        case hy1x6 => (intro W hSw; (try dsimp only at hSw); go_simp; try with_reducible rfl)
        simp only [Act.put, List.setIfInBounds_toArray, List.set_cons_zero, List.set_cons_succ]
        refine takeD 7 30 (v := ?v1x7) rfl rfl (by kernel_rfl) (by kernel_rfl) (by kernel_rfl) (fun _ _ _ h => h) (by kernel_rfl) ?hy1x7 (by assumption) ?r1x7
        case hy1x7 => (intro W hSw; (try dsimp only at hSw); go_simp; try with_reducible rfl)
        simp only [Act.put, List.setIfInBounds_toArray, List.set_cons_zero, List.set_cons_succ]
        refine takeD 8 31 (v := ?v1x8) rfl rfl (by kernel_rfl) (by kernel_rfl) (by kernel_rfl) (fun _ _ _ h => h) (by kernel_rfl) ?hy1x8 (by assumption) ?r1x8
        case hy1x8 => (intro W hSw; (try dsimp only at hSw); go_simp; try with_reducible rfl)
        simp only [Act.put, List.setIfInBounds_toArray, List.set_cons_zero, List.set_cons_succ]
        refine takeD 9 32 (v := ?v1x9) rfl rfl (by kernel_rfl) (by kernel_rfl) (by kernel_rfl) (fun _ _ _ h => h) (by kernel_rfl) ?hy1x9 (by assumption) ?r1x9
        case hy1x9 => (intro W hSw; (try dsimp only at hSw); go_simp; try with_reducible rfl)
        simp only [Act.put, List.setIfInBounds_toArray, List.set_cons_zero, List.set_cons_succ]
        refine takeD 10 33 (v := ?v1x10) rfl rfl (by kernel_rfl) (by kernel_rfl) (by kernel_rfl) (fun _ _ _ h => h) (by kernel_rfl) ?hy1x10 (by assumption) ?r1x10
        case hy1x10 => (intro W hSw; (try dsimp only at hSw); go_simp; try with_reducible rfl)
        simp only [Act.put, List.setIfInBounds_toArray, List.set_cons_zero, List.set_cons_succ]
        refine takeD 11 34 (v := ?v1x11) rfl rfl (by kernel_rfl) (by kernel_rfl) (by kernel_rfl) (fun _ _ _ h => h) (by kernel_rfl) ?hy1x11 (by assumption) ?r1x11
        case hy1x11 => (intro W hSw; (try dsimp only at hSw); go_simp; try with_reducible rfl)
        simp only [Act.put, List.setIfInBounds_toArray, List.set_cons_zero, List.set_cons_succ]
        refine takeD 12 35 (v := ?v1x12) rfl rfl (by kernel_rfl) (by kernel_rfl) (by kernel_rfl) (fun _ _ _ h => h) (by kernel_rfl) ?hy1x12 (by assumption) ?r1x12
        case hy1x12 => (intro W hSw; (try dsimp only at hSw); go_simp; try with_reducible rfl)
        simp only [Act.put, List.setIfInBounds_toArray, List.set_cons_zero, List.set_cons_succ]
        refine takeD 13 36 (v := ?v1x13) rfl rfl (by kernel_rfl) (by kernel_rfl) (by kernel_rfl) (fun _ _ _ h => h) (by kernel_rfl) ?hy1x13 (by assumption) ?r1x13
        case hy1x13 => (intro W hSw; (try dsimp only at hSw); go_simp; try with_reducible rfl)
        simp only [Act.put, List.setIfInBounds_toArray, List.set_cons_zero, List.set_cons_succ]
        refine takeD 14 37 (v := ?v1x14) rfl rfl (by kernel_rfl) (by kernel_rfl) (by kernel_rfl) (fun _ _ _ h => h) (by kernel_rfl) ?hy1x14 (by assumption) ?r1x14
        case hy1x14 => (intro W hSw; (try dsimp only at hSw); go_simp; try with_reducible rfl)
        simp only [Act.put, List.setIfInBounds_toArray, List.set_cons_zero, List.set_cons_succ]
        refine takeD 15 4 (v := ?v1x15) rfl rfl (by kernel_rfl) (by kernel_rfl) (by kernel_rfl) (fun _ _ _ h => h) (by kernel_rfl) ?hy1x15 (by assumption) ?r1x15
        case hy1x15 => (intro W hSw; (try dsimp only at hSw); go_simp; try with_reducible rfl)
        simp only [Act.put, List.setIfInBounds_toArray, List.set_cons_zero, List.set_cons_succ]
        refine takeD 16 5 (v := ?v1x16) rfl rfl (by kernel_rfl) (by kernel_rfl) (by kernel_rfl) (fun _ _ _ h => h) (by kernel_rfl) ?hy1x16 (by assumption) ?r1x16
        case hy1x16 => (intro W hSw; (try dsimp only at hSw); go_simp; try with_reducible rfl)
        simp only [Act.put, List.setIfInBounds_toArray, List.set_cons_zero, List.set_cons_succ]
        refine wpAnyH_done (by kernel_rfl) ?_ _
        refine NoPanic.normal ?_
        go_wp2
        go_ret2
        exact ⟨by rw [HP.out, HK.out]; rfl, B0.out.drew⟩
    · obtain rfl : k = ks.length := by omega
      have HP := hide (plc_eq ks key ks.length (Nat.le_refl _) HI.out (fun h => absurd h (Nat.lt_irrefl _)))
      have HK : Hid (hasK ks key = false) := by show _ = _; unfold hasK; rw [HP.out, decide_eq_false (Nat.lt_irrefl _), Bool.false_and]
      have hi0 : ¬ (ks.length : Int) < (ks.length : Int) := by omega
      clear HI
      · go_wp2
        refine wp_region_noPanic ?_
        refine wp_region_held_drew (S := (fun W => W.cell? ⟨w.heap.size, 0, none⟩ = some (.slice ko ks.length kc))) (by kernel_rfl) ?_ (fun hHeld => ?_)
        · (try dsimp only); go_keep
        refine takeD 0 23 (v := ?v2x0) rfl rfl (by kernel_rfl) (by kernel_rfl) (by kernel_rfl) (fun _ _ _ h => h) (by kernel_rfl) ?hy2x0 (by assumption) ?r2x0
        case hy2x0 => (intro W hSw; (try dsimp only at hSw); go_simp; try with_reducible rfl)
        simp only [Act.put, List.setIfInBounds_toArray, List.set_cons_zero, List.set_cons_succ]
        refine takeD 1 24 (v := ?v2x1) rfl rfl (by kernel_rfl) (by kernel_rfl) (by kernel_rfl) (fun _ _ _ h => h) (by kernel_rfl) ?hy2x1 (by assumption) ?r2x1
        case hy2x1 => (intro W hSw; (try dsimp only at hSw); go_simp; try with_reducible rfl)
        simp only [Act.put, List.setIfInBounds_toArray, List.set_cons_zero, List.set_cons_succ]
        refine takeD 2 25 (v := ?v2x2) rfl rfl (by kernel_rfl) (by kernel_rfl) (by kernel_rfl) (fun _ _ _ h => h) (by kernel_rfl) ?hy2x2 (by assumption) ?r2x2
        case hy2x2 => (intro W hSw; (try dsimp only at hSw); go_simp; try with_reducible rfl)
        simp only [Act.put, List.setIfInBounds_toArray, List.set_cons_zero, List.set_cons_succ]
        refine takeD 3 26 (v := ?v2x3) rfl rfl (by kernel_rfl) (by kernel_rfl) (by kernel_rfl) (fun _ _ _ h => h) (by kernel_rfl) ?hy2x3 (by assumption) ?r2x3
        case hy2x3 => (intro W hSw; (try dsimp only at hSw); go_simp; try with_reducible rfl)
        simp only [Act.put, List.setIfInBounds_toArray, List.set_cons_zero, List.set_cons_succ]
        refine takeD 4 27 (v := ?v2x4) rfl rfl (by kernel_rfl) (by kernel_rfl) (by kernel_rfl) (fun _ _ _ h => h) (by kernel_rfl) ?hy2x4 (by assumption) ?r2x4
        case hy2x4 => (intro W hSw; (try dsimp only at hSw); go_simp; try with_reducible rfl)
        simp only [Act.put, List.setIfInBounds_toArray, List.set_cons_zero, List.set_cons_succ]
        refine takeD 5 28 (v := ?v2x5) rfl rfl (by kernel_rfl) (by kernel_rfl) (by kernel_rfl) (fun _ _ _ h => h) (by kernel_rfl) ?hy2x5 (by assumption) ?r2x5
        case hy2x5 => (intro W hSw; (try dsimp only at hSw); go_simp; try with_reducible rfl)
        simp only [Act.put, List.setIfInBounds_toArray, List.set_cons_zero, List.set_cons_succ]
        refine takeD 6 29 (v := ?v2x6) rfl rfl (by kernel_rfl) (by kernel_rfl) (by kernel_rfl) (fun _ _ _ h => h) (by kernel_rfl) ?hy2x6 (by assumption) ?r2x6
        case hy2x6 => (intro W hSw; (try dsimp only at hSw); go_simp; try with_reducible rfl)
        simp only [Act.put, List.setIfInBounds_toArray, List.set_cons_zero, List.set_cons_succ]
        refine skipAll [(7, 30), (8, 31), (9, 32), (10, 33), (11, 34), (12, 35), (13, 36)] (by kernel_rfl) (fun _ _ _ _ _ h => h) (by assumption) (by kernel_rfl) ?_
        simp only [putAll, listAll, List.foldl_cons, List.foldl_nil, Act.put, List.setIfInBounds_toArray, List.set_cons_zero, List.set_cons_succ]
        refine takeD 14 37 (v := ?v2x14) rfl rfl (by kernel_rfl) (by kernel_rfl) (by kernel_rfl) (fun _ _ _ h => h) (by kernel_rfl) ?hy2x14 (by assumption) ?r2x14
        case hy2x14 => (intro W hSw; (try dsimp only at hSw); go_simp; try with_reducible rfl)
        simp only [Act.put, List.setIfInBounds_toArray, List.set_cons_zero, List.set_cons_succ]
        refine takeD 15 4 (v := ?v2x15) rfl rfl (by kernel_rfl) (by kernel_rfl) (by kernel_rfl) (fun _ _ _ h => h) (by kernel_rfl) ?hy2x15 (by assumption) ?r2x15
        case hy2x15 => (intro W hSw; (try dsimp only at hSw); go_simp; try with_reducible rfl)
        simp only [Act.put, List.setIfInBounds_toArray, List.set_cons_zero, List.set_cons_succ]
        refine takeD 16 5 (v := ?v2x16) rfl rfl (by kernel_rfl) (by kernel_rfl) (by kernel_rfl) (fun _ _ _ h => h) (by kernel_rfl) ?hy2x16 (by assumption) ?r2x16
        case hy2x16 => (intro W hSw; (try dsimp only at hSw); go_simp; try with_reducible rfl)
        simp only [Act.put, List.setIfInBounds_toArray, List.set_cons_zero, List.set_cons_succ]
        refine wpAnyH_done (by kernel_rfl) ?_ _
        refine NoPanic.normal ?_
        go_wp2
        go_ret2
        exact ⟨by rw [HP.out, HK.out]; rfl, B0.out.drew⟩
end Go.Proofs.Ytcjcjchpdgaobaa
