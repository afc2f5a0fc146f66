/-
  Contracts: DiskNew of both.
-/
import Derived.Test.YtgnegidgeegknaaDkRep
import Derived.Test.YtgnegidgeegknaaDkSec
import Derived.Test.YtgnegidgeegknaaDkTo2
namespace Go.Proofs.Ytgnegidgeegknaa
open Go.RowKit
set_option maxRecDepth 100000

def blank : ByteArray := mkS zSec
def dkNew (n : Int) : Dk := if 0 ≤ n ∧ n ≤ 700 then ⟨List.replicate n.toNat blank, []⟩ else ⟨[], []⟩
theorem dkNew_no {n : Int} (h : n ≤ 0 ∨ 700 < n) : dkNew n = ⟨[], []⟩ := by
  unfold dkNew
  split
  · rename_i h'
    obtain rfl : n = 0 := by omega
    rfl
  · rfl
theorem dkNew_yes (k : Nat) (h : k ≤ 700) : dkNew (k : Int) = ⟨List.replicate k blank, []⟩ := by
  unfold dkNew; rw [if_pos (by omega), Int.toNat_natCast]
theorem cell_str_new (w : World) (x : ByteArray) (t : TypeId) : ∀ j u, [Value.string x][j]? = some u → (w.alloc (.cells #[.string x] t)).cell? ((⟨w.heap.size, 0, none⟩ : Addr).add j) = some u := by
  intro j u hj
  have hadd : (⟨w.heap.size, 0, none⟩ : Addr).add j = ⟨w.heap.size, j, none⟩ := by unfold Addr.add; split <;> simp_all
  rw [hadd, cell_of_row _ _ _ _ _ _ (heap_alloc_new w _)]
  simpa using hj
theorem one_str (x : ByteArray) : ∀ u ∈ [Value.string x], u.oneCell' = true := fun u hu => by simp at hu; subst hu; rfl
theorem ownS_rep {base : Nat} {v : Value} {x : ByteArray} {k : Nat} {w : World} (h : w.ownsRow base 9 1 v (k + 1) (strsV (List.replicate k x) ++ [.string x])) : OwnS base v (List.replicate (k + 1) x) w := by
  have e : strsV (List.replicate k x) ++ [Value.string x] = strsV (List.replicate (k + 1) x) := by simp [strsV, List.replicate_succ']
  unfold OwnS
  rw [e] at h
  rwa [List.length_replicate]
theorem own_succ {w : World} {base n size : Nat} {t : TypeId} {v : Value} {xs : List Value} (h : w.ownsRow base t size v (n + 1) xs) : ∃ g cap, v = .slice (some ⟨g, 0, none⟩) (n + 1) cap := by
  rcases h.2 with ⟨_, h0⟩ | ⟨g, cap, cur, h1, _⟩
  · omega
  · exact ⟨g, cap, h1⟩
theorem ownD_nil (base : Nat) (w : World) : OwnD base (.slice none 0 0) (.slice none 0 0) ⟨[], []⟩ w := ⟨ownS_nil _ _, ownW_nil _ _, .inl rfl⟩
theorem ownD_secs {base : Nat} {v : Value} {l : List ByteArray} {w : World} (h : OwnS base v l w) : OwnD base v (.slice none 0 0) ⟨l, []⟩ w := by
  refine ⟨h, ownW_nil _ _, ?_⟩
  cases hv : v.ownBlock with
  | none => exact .inl rfl
  | some b => exact .inr (by simp [Value.ownBlock])
set_option maxHeartbeats 4000000 in
theorem specDiskNew_any (n : Int) (w : World) :
    Calls Try.prog 15 #[.int .i64 n] w fun e w' => ∃ s c, e = .returned (.agg #[s, c]) ∧ OwnD w.heap.size s c (dkNew n) w' ∧ Below w.heap.size w w' := by
  have HA := two_allocs w (.cells #[.slice none 0 0, .slice none 0 0] 25) (.cells #[.slice none 0 0, .slice none 0 0] 25)
  have B0 := hide (((Below.refl w.heap.size w).alloc (Nat.le_refl _) (.cells #[.slice none 0 0, .slice none 0 0] 25)).alloc (by simp) (.cells #[.slice none 0 0, .slice none 0 0] 25))
  by_cases h7 : 700 < n
  · rw [dkNew_no (.inr h7)]
    obtain ⟨y0, y1, yf⟩ := cells2 HA.1
    clear HA
    go_enter Try.func15, Try.ntmps15
    go_wp2
    refine bodyPost_ret (v := .agg #[.slice none 0 0, .slice none 0 0]) (by simp [results, Try.results15, go_sem]) rfl ⟨_, _, rfl, ownD_nil _ _, ?_⟩
    exact B0.out
  · have HA1 := hide HA.1
    have HA2 := hide HA.2.1
    have HZ := hide HA.2.2
    clear HA
    obtain ⟨i0, hi, hz0, hz1, hz2⟩ := info_parts Try.infoU8
    have hsz : (((w.alloc (.cells #[.slice none 0 0, .slice none 0 0] 25)).alloc (.cells #[.slice none 0 0, .slice none 0 0] 25)).heap.size) = w.heap.size + 1 + 1 := by simp
    have HSZ := hide hsz
    clear hsz
    have hcz : (madeCells (Value.int .u8 0).cells (64 * 1)).toList = (numsU zSec).map (Value.int .u8) := by kernel_rfl
    go_enter Try.func15, Try.ntmps15
    go_wp2_with (at_make; refine wpList_make_full _ rfl _ _ 63 rfl w.heap.size 5 i0 (.int .u8 0) 1 Try.underlying63 hi hz0 hz1 .i64 .i64 _ _ 64 rfl rfl rfl rfl (by rw [hz2]; omega) (by unfold maxLen; omega) (by simp; omega) ?_; intro w1 hown1 hgrow1; rw [hcz, HSZ.out] at hown1; have hcv := (show OwnB w.heap.size _ zSec w1 from hown1).conv; rw [show mkS zSec = blank from rfl] at hcv; have B1 := hide (B0.out.grown hgrow1 (by simp; omega) (fun j hj => by simp at hj)); have X1 := hide ((hgrow1.block w.heap.size (by simp; omega) (by simp)).trans HA1.out); have Y1 := hide ((hgrow1.block (w.heap.size + 1) (by simp) (by simp)).trans HA2.out); have Z1 : w.heap.size + 1 + 1 ≤ w1.heap.size := (by have := hgrow1.size; rw [HSZ.out] at this; exact this); clear hown1 hgrow1)
    obtain ⟨j0, hj, hy0, hy1, hy2⟩ := info_parts Try.infoStr'
    clear hcv hcz hi hz0 hz1 hz2 B0 HA1 HA2 HZ HSZ
    go_loopw [5] (fun i wr => ∃ (k : Nat) (v : Value), (n ≤ 0 ∧ k = 0 ∨ 0 < n ∧ (k : Int) ≤ n) ∧ i = .int .i64 k ∧ Hid (wr.heap[w.heap.size]? = some (.cells #[.slice none 0 0, .slice none 0 0] 25 (0, 0))) ∧ Hid (wr.heap[w.heap.size + 1]? = some (.cells #[v, .slice none 0 0] 25 (0, 0))) ∧ Hid (OwnS (w.heap.size + 2) v (List.replicate k blank) wr) ∧ Below w.heap.size w wr) (fun i _ => n.toNat - (intOf i).toNat)
    case atStart => exact ⟨0, .slice none 0 0, by omega, rfl, X1, Y1, ownS_nil _ _, B1.out⟩
    case round =>
      obtain ⟨k, v, hk, rfl, HX, HY, HO, hb⟩ := hrel
      clear X1 Y1 B1
      have hlt1 : w.heap.size + 1 < wr.heap.size := (Array.getElem?_eq_some_iff.1 HY.out).1
      obtain ⟨ao, cap, hv⟩ := ownS_shape HO.out
      rw [List.length_replicate] at hv
      subst hv
      by_cases hlt : (k : Int) < n
      · have HB := hide (hb.alloc (by omega) (.cells #[.string blank] 9))
        have hown := owns_below HO.out ((Below.refl wr.heap.size wr).alloc (Nat.le_refl _) (.cells #[.string blank] 9))
        rw [List.length_replicate] at hown
        obtain ⟨y0, y1, yf⟩ := cells2 HY.out
        go_wp2_with (at_builtin; refine wpList_append_own _ rfl _ _ 22 rfl (w.heap.size + 2) 9 j0 (.string ⟨#[]⟩) 1 16 Try.underlying22 hj hy0 hy1 hy2 rfl (by decide) _ _ _ rfl hown ⟨wr.heap.size, 0, none⟩ 1 1 [.string blank] rfl rfl (cell_str_new _ _ _) (one_str _) (by unfold maxLen; omega) (by omega) (by simp; omega) ?_; intro v5 w5 hown5 hgrow5 hnn5; obtain ⟨g5, c5, rfl⟩ := own_succ hown5; have O5 := hide (ownS_rep hown5); have Y5 := hide ((hgrow5.block (w.heap.size + 1) (by simp; omega) (fun e => by have := (World.ownsRow.lt hown _ e.symm).1; omega)).trans ((heap_old _ _ _ (by omega)).trans HY.out)); have X5 := hide ((hgrow5.block w.heap.size (by simp; omega) (fun e => by have := (World.ownsRow.lt hown _ e.symm).1; omega)).trans ((heap_old _ _ _ (by omega)).trans HX.out)); have B5 := hide (HB.out.grown hgrow5 (by simp; omega) (fun b e => by have := (World.ownsRow.lt hown _ e).1; omega)); obtain ⟨z0, z1, zf⟩ := cells2 Y5.out; clear hown5 hgrow5 hnn5)
        go_roundw
        case rel => exact ⟨k + 1, _, by omega, by go_num, (by show _ = _; rw [heap_far _ _ _ _ _ (by omega)]; exact X5.out), (by show _ = _; have := heap_setCell_same _ _ 0 _ _ (.slice (some ⟨g5, 0, none⟩) (k + 1) c5) Y5.out; simpa using this), own_set O5.out (by omega), B5.out.setCell (by simp) _⟩
        case measure => simp [intOf]; omega
      · obtain ⟨x0, x1, xf⟩ := cells2 HX.out
        obtain ⟨y0, y1, yf⟩ := cells2 HY.out
        have HD : Hid (dkNew n = ⟨List.replicate k blank, []⟩) := by
          show _ = _
          by_cases hn : n ≤ 0
          · rw [dkNew_no (.inl hn)]
            obtain rfl : k = 0 := by omega
            rfl
          · obtain rfl : n = (k : Int) := by omega
            exact dkNew_yes k (by omega)
        go_wp2
        refine bodyPost_ret (v := .agg #[.slice ao k cap, .slice none 0 0]) (by simp [results, Try.results15, go_sem, x0, x1]) rfl ⟨_, _, rfl, ?_, ?_⟩
        · rw [HD.out]
          exact ((ownD_secs HO.out).set (by omega) |>.set (by omega)).base (by omega)
        · exact (hb.setCell (by simp) _).setCell (by simp) _
set_option maxHeartbeats 4000000 in
theorem implDiskNew_any (n : Int) (w : World) :
    Calls Try.prog 16 #[.int .i64 n] w fun e w' => ∃ s c, e = .returned (.agg #[s, c]) ∧ OwnD w.heap.size s c (dkNew n) w' ∧ Below w.heap.size w w' := by
  have B0 := hide ((Below.refl w.heap.size w).alloc (Nat.le_refl _) (.cells #[.slice none 0 0, .slice none 0 0] 25))
  have X0 := hide (heap_alloc_new w (.cells #[.slice none 0 0, .slice none 0 0] 25))
  by_cases hbad : n < 0 ∨ 700 < n
  · rw [dkNew_no (by omega)]
    obtain ⟨y0, y1, yf⟩ := cells2 X0.out
    by_cases h0 : n < 0
    · go_enter Try.func16, Try.ntmps16
      go_wp2
      refine bodyPost_ret (v := .agg #[.slice none 0 0, .slice none 0 0]) (by simp [results, Try.results16, go_sem]) rfl ⟨_, _, rfl, ownD_nil _ _, ?_⟩
      exact B0.out
    · have h7 : 700 < n := by omega
      go_enter Try.func16, Try.ntmps16
      go_wp2
      refine bodyPost_ret (v := .agg #[.slice none 0 0, .slice none 0 0]) (by simp [results, Try.results16, go_sem]) rfl ⟨_, _, rfl, ownD_nil _ _, ?_⟩
      exact B0.out
  · obtain ⟨k, rfl⟩ : ∃ k : Nat, n = (k : Int) := ⟨n.toNat, by omega⟩
    have hk : k ≤ 700 := by omega
    rw [dkNew_yes k hk]
    have h0 : ¬ (k : Int) < 0 := by omega
    have h7 : ¬ 700 < (k : Int) := by omega
    have HST := hide (fun W => sectorText_any zSec zSec_len W)
    have HRP := hide (fun g c W => repeat_any g c blank k (by omega) W)
    clear hbad
    go_enter Try.func16, Try.ntmps16
    go_wp2_with (first | (go_at_call 42; refine (HST.out _).mono ?_; rintro e w1 ⟨rfl, b1⟩; rw [show mkS zSec = blank from rfl]; have X1 := hide ((b1.block w.heap.size (by simp)).trans X0.out); have B1 := hide (B0.out.trans (b1.mono B0.out.size)); have z1 : w.heap.size < w1.heap.size := (Array.getElem?_eq_some_iff.1 X1.out).1; clear b1) | (go_at_call 41; refine (HRP.out w1.heap.size 1 _ (by rw [cell_of_row _ _ _ _ _ _ (heap_alloc_new w1 _)]; rfl) (by simp)).mono ?_; rintro e w2 ⟨v, rfl, o2, b2⟩; have X2 := hide ((b2.block w.heap.size (by simp; omega)).trans ((heap_old _ _ _ (by omega)).trans X1.out)); have B2 := hide ((B1.out.alloc (by omega) (.cells #[.string blank] 9)).trans (b2.mono (by simp; omega))); have O2 := hide (ownD_secs (owns_base o2 (show w.heap.size + 1 ≤ _ by simp; omega))); obtain ⟨ao, cap, rfl⟩ := ownS_shape o2; rw [List.length_replicate]; obtain ⟨y0, y1, yf⟩ := cells2 X2.out; clear o2 b2))
    refine bodyPost_ret (v := .agg #[.slice ao k cap, .slice none 0 0]) (by simp [results, Try.results16, go_sem, y0, y1]) rfl ⟨_, _, rfl, ?_, ?_⟩
    · have := O2.out
      rw [List.length_replicate] at this
      exact ((this.set (by omega)).set (by omega)).base (by omega)
    · exact (B2.out.setCell (by simp) _).setCell (by simp) _
end Go.Proofs.Ytgnegidgeegknaa
