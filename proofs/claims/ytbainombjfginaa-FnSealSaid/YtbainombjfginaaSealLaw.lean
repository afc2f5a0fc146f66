/-
  The law on seals, out of the contracts.
-/
import Derived.Test.YtbainombjfginaaSealPlain
import Derived.Test.YtbainombjfginaaDrawSeal
import Derived.Laws.IdiomStrings
import Derived.Deep.RegionWith
namespace Go.Proofs.Ytbainombjfginaa
open Go.RowKit

/-- []byte(s): new memory with s's bytes, that may be written. -/
theorem convBytes (w : World) (s : ByteArray) : ∃ (W : World) (cap : Nat), (convert 9 22 (.string s)).run Try.prog w = .ok (.slice (some ⟨w.heap.size, 0, none⟩) s.size cap) W ∧ Below w.heap.size w W ∧ W.heap.size = w.heap.size + 1 ∧
    (∀ j, j < s.size → W.cell? ⟨w.heap.size, j, none⟩ = some (.int .u8 ((s.data.toList.getD j 0).toNat : Int))) ∧ (∀ j, j < s.size → W.frozen? ⟨w.heap.size, j, none⟩ = false) := by
  have h := run_bytes_of_string (P := Try.prog) w 9 22 5 s Try.underlying9 Try.underlying22 Try.underlying5
  refine ⟨_, _, h, ((Below.refl _ _).drew.alloc (Nat.le_refl _) _), by simp, fun j hj => ?_, fun j hj => ?_⟩
  · have hk : (w.drew.alloc (.cells (bytesRow s (grownCap w s.size 0 5)) 5 ((bytesRow s (grownCap w s.size 0 5)).size, (bytesRow s (grownCap w s.size 0 5)).size + 1))).heap[w.heap.size]? = _ := heap_alloc_new w.drew _
    rw [cell_of_row _ _ j _ _ _ hk, bytesRow_at s _ j hj]
    simp [List.getElem?_eq_getElem (show j < s.data.toList.length from hj)]
  · have hk := heap_alloc_new w.drew (.cells (bytesRow s (grownCap w s.size 0 5)) 5 ((bytesRow s (grownCap w s.size 0 5)).size, (bytesRow s (grownCap w s.size 0 5)).size + 1))
    have hk' : (w.drew.alloc (.cells (bytesRow s (grownCap w s.size 0 5)) 5 ((bytesRow s (grownCap w s.size 0 5)).size, (bytesRow s (grownCap w s.size 0 5)).size + 1))).heap[w.heap.size]? = _ := hk
    have hz : s.size ≤ (bytesRow s (grownCap w s.size 0 5)).size := by unfold bytesRow; rw [Array.size_append, Array.size_map]; exact Nat.le_add_right _ _
    simp only [World.frozen?, hk']
    simp; omega

theorem xor_ne : ∀ (x d : Nat), d ≠ 0 → x ^^^ d ≠ x := fun x d hd e => hd (by
  have : x ^^^ (x ^^^ d) = x ^^^ x := by rw [e]
  simpa [← Nat.xor_assoc] using this)

/-- CrcMore at every argument. -/
def crcMoreV (c : Int) (s : ByteArray) : Int := if 20000 < s.size ∨ c < 0 ∨ 4294967296 ≤ c then 0 else ((crcMoreN c.toNat s.data.toList : Nat) : Int)
theorem implCrcMore_any (c : Int) (s : ByteArray) (w : World) :
    Calls Try.prog 17 #[.int .i64 c, .string s] w fun e w' => e = .returned (.int .i64 (crcMoreV c s)) ∧ w' = w := by
  unfold crcMoreV
  by_cases h : 20000 < s.size ∨ c < 0 ∨ 4294967296 ≤ c
  · rw [if_pos h]; exact implCrcMore_out c s h w
  · rw [if_neg h]
    obtain ⟨n, rfl⟩ := Int.eq_ofNat_of_zero_le (show 0 ≤ c by omega)
    rw [Int.toNat_natCast]
    exact implCrcMore_in n (by omega) s (by omega) w
theorem specCrcMore_any (c : Int) (s : ByteArray) (w : World) :
    Calls Try.prog 18 #[.int .i64 c, .string s] w fun e w' => e = .returned (.int .i64 (crcMoreV c s)) ∧ w' = w := by
  unfold crcMoreV
  by_cases h : 20000 < s.size ∨ c < 0 ∨ 4294967296 ≤ c
  · rw [if_pos h]; exact specCrcMore_out c s h w
  · rw [if_neg h]
    obtain ⟨n, rfl⟩ := Int.eq_ofNat_of_zero_le (show 0 ≤ c by omega)
    rw [Int.toNat_natCast]
    exact specCrcMore_in n (by omega) s (by omega) w
theorem crc_goes_on (t u : ByteArray) (h : t.size + u.size ≤ 20000) : (crcMoreV ((crcOf t : Nat) : Int) u == ((crcOf (t ++ u) : Nat) : Int)) = true := by
  have h1 := crcOf_lt t
  have hz : (t ++ u).size = t.size + u.size := by simp
  have hd : (t ++ u).data.toList = t.data.toList ++ u.data.toList := by simp
  unfold crcMoreV
  rw [if_neg (by omega), Int.toNat_natCast, crcOf_in t (by omega), crcOf_in (t ++ u) (by omega), hd, crcMoreN_append (by omega)]
  simp
theorem wraps_d (d : Int) (h0 : 0 ≤ d) (h1 : d < 255) : IntKind.u8.wrap (IntKind.i64.wrap (1 + d)) = 1 + d := by
  rw [IntKind.wrap_i64, IntKind.wrap_u8]; omega
theorem flip_byte (x : Nat) (d : Int) (hx : x < 256) (h0 : 0 ≤ d) (h1 : d < 255) : ∃ y : Nat, bits .xor .u8 (x : Int) (1 + d) = (y : Int) ∧ y < 256 ∧ y ≠ x := by
  obtain ⟨k, rfl⟩ := Int.eq_ofNat_of_zero_le h0
  refine ⟨x ^^^ (1 + k), ?_, Nat.xor_lt_two_pow (n := 8) (by omega) (by omega), xor_ne x (1 + k) (by omega)⟩
  have := u8_xor_nat x (1 + k) hx (by omega)
  rw [← this]; simp
/-- The bytes with one turned, as a text. -/
theorem conv_set {W v1 : World} {g i y bcap : Nat} {S : ByteArray} (hz : W.heap.size = g + 1) (hc : ∀ j, j < S.size → W.cell? ⟨g, j, none⟩ = some (.int .u8 ((S.data.toList.getD j 0).toNat : Int))) (hi : i < S.size) (hy : y < 256)
    (hb : Below ((W.setCell ⟨g, i, none⟩ (.int .u8 (y : Int))).drew).heap.size ((W.setCell ⟨g, i, none⟩ (.int .u8 (y : Int))).drew) v1) :
    (convert 22 9 (.slice (some ⟨g, 0, none⟩) S.size bcap)).run Try.prog v1 = .ok (.string (mkS (S.data.toList.set i (UInt8.ofNat y)))) v1 := by
  rw [← strOfNums_bytes]
  have hlen : (S.data.toList.set i (UInt8.ofNat y)).length = S.size := by rw [List.length_set, len_data]
  refine run_convert_bytes_arg _ 22 5 Try.underlying22 Try.underlying5 g 0 S.size bcap _ (by rw [List.length_map, hlen]) (fun j hj => ?_) 9 Try.underlying9
  have hgl : g < ((W.setCell ⟨g, i, none⟩ (.int .u8 (y : Int))).drew).heap.size := by
    show g < (W.setCell _ _).heap.size
    simp; omega
  rw [Nat.zero_add, hb.cell (p := ⟨g, j, none⟩) hgl]
  show (W.setCell ⟨g, i, none⟩ (.int .u8 (y : Int))).cell? ⟨g, j, none⟩ = _
  have hjl : j < (S.data.toList.set i (UInt8.ofNat y)).length := by omega
  by_cases e : i = j
  · subst e
    have hy' : (UInt8.ofNat y).toNat = y := by rw [UInt8.toNat_ofNat', Nat.mod_eq_of_lt hy]
    have h1 : (W.setCell ⟨g, i, none⟩ (.int .u8 (y : Int))).cell? ⟨g, i, none⟩ = some (.int .u8 (y : Int)) := by
      rw [World.cell?_setCell_same' _ _ _ (by rw [hc i hi]; rfl)]
    rw [h1]
    simp [hy', hi]
  · have h1 : (W.setCell ⟨g, i, none⟩ (.int .u8 (y : Int))).cell? ⟨g, j, none⟩ = W.cell? ⟨g, j, none⟩ := by
      have hne : (⟨g, i, none⟩ : Addr) ≠ ⟨g, j, none⟩ := fun h => e (by injection h)
      apply World.cell?_setCell_other
      exact hne
    rw [h1, hc j hj]
    simp [e, List.getElem?_eq_getElem (show j < S.data.toList.length by rw [len_data]; exact hj)]

attribute [local go_sem ↓] Go.wp_at_zero Go.wp_at_succ
set_option maxRecDepth 100000 in
set_option maxHeartbeats 4000000 in
theorem lawSealAll (a0 : Option Addr) (len0 cap0 : Nat) (z0 : List Int) (a1 : Option Addr) (len1 cap1 : Nat) (z1 : List Int) (w : World) (w0 : ByteRow w w.heap.size a0 len0 z0) (w1 : ByteRow w w.heap.size a1 len1 z1) :
    Calls Try.prog 3 #[.slice a0 len0 cap0, .slice a1 len1 cap1] w fun e w' => e = .returned (.bool true) ∧ Below w.heap.size w w' := by
  by_cases h0 : 1048576 < len0
  · go_enter Try.func3, Try.ntmps3
    go_wp2
    go_ret
    exact ⟨rfl, Below.refl _ _⟩
  by_cases h1 : 1048576 < len1
  · go_enter Try.func3, Try.ntmps3
    go_wp2
    go_ret
    exact ⟨rfl, Below.refl _ _⟩
  have hfld : ∀ (a b c : Value) (W : World), (Instr.field 27 (.agg #[a, b, c]) 2).run Try.prog W = .ok c W := fun a b c W => by kernel_rfl
  have R0 : Hid (ByteRow w w.heap.size a0 len0 z0) := w0
  have R1 : Hid (ByteRow w w.heap.size a1 len1 z1) := w1
  clear w0 w1
  go_enter Try.func3, Try.ntmps3
  go_wp2_with fail
  refine (drawSeal_any w.heap.size a0 len0 cap0 z0 _ (Nat.le_refl _) (by omega) R0.out).mono ?_
  rintro e u1 ⟨t, rfl, ht, b1⟩
  go_wp2_with fail
  refine (implSeal_any t _).mono ?_
  rintro e u2 ⟨rfl, b2⟩
  go_wp2_with fail
  refine (specSeal_any t _).mono ?_
  rintro e u3 ⟨rfl, b3⟩
  have B3 : Hid (Below w.heap.size w u3) := (b1.trans (b2.mono b1.size)).trans (b3.mono (Nat.le_trans b1.size b2.size))
  clear b1 b2 b3
  by_cases hs : t.size ≤ 19996
  · have hsz := seal_size t hs
    have hne : (sealS t).toList.isEmpty = false := by
      rw [ByteArray.toList_eq]
      have : (sealS t).data.toList.length = t.size + 4 := by rw [len_data]; exact hsz
      cases h : (sealS t).data.toList with
      | nil => rw [h] at this; simp at this
      | cons => rfl
    obtain ⟨W, bcap, hcv, bW, zW, cW, fW⟩ := convBytes u3 (sealS t)
    have US : Hid (unsealV (sealS t) = tOut t 0 0) := unseal_seal t hs
    generalize hS : sealS t = S at *
    have HS : Hid (sealS t = S) := hS
    have HZ : Hid (S.size = t.size + 4) := hsz
    have hs4 : 4 ≤ S.size := by omega
    have hs5 : S.size ≤ 20000 := by omega
    clear hS hsz
    have BW : Hid (Below w.heap.size w W) := (B3.out).trans (bW.mono (B3.out).size)
    have RW : Hid (ByteRow W w.heap.size a1 len1 z1) := (R1.out).kept BW.out
    have hzz := (B3.out).size
    clear bW
    go_wp2_with fail
    refine (lwAt_any w.heap.size a1 len1 cap1 z1 0 (by omega) S.size (by omega) (by omega) _ (by omega) RW.out).mono ?_
    rintro e W' ⟨v, rfl, hv0, hv1, rfl⟩
    obtain ⟨i, rfl⟩ := Int.eq_ofNat_of_zero_le hv0
    have ci := cW i (by omega)
    have fi := fW i (by omega)
    have CW : Hid (∀ j, j < S.size → W'.cell? ⟨u3.heap.size, j, none⟩ = some (.int .u8 ((S.data.toList.getD j 0).toNat : Int))) := cW
    have hx : (S.data.toList.getD i 0).toNat < 256 := (S.data.toList.getD i 0).toNat_lt
    obtain ⟨x, hxx⟩ : ∃ x, x = (S.data.toList.getD i 0).toNat := ⟨_, rfl⟩
    rw [← hxx] at ci hx
    have HX : Hid (x = (S.data.toList.getD i 0).toNat) := hxx
    have hi : (i : Int) < (S.size : Int) := by omega
    have hi0 : (0 : Int) ≤ (i : Int) := by omega
    clear cW fW hxx hcv
    go_wp2
    go_region_with (go_at_call 14; refine (lwAt_any w.heap.size a1 len1 cap1 z1 1 (by omega) 255 (by omega) (by omega) _ (by omega) ((RW.out).kept ((Below.refl _ _).drew))).mono ?_; rintro e W2 ⟨d, rfl, hd0, hd1, rfl⟩)
    all_goals
      obtain ⟨y, hyx, hyl, hyn⟩ := flip_byte x d hx hd0 hd1
      have HY : Hid (unsealV (mkS (S.data.toList.set i (UInt8.ofNat y))) = tOut ByteArray.empty 0 5) := by
        have h := unseal_flip t hs i (by have := HZ.out; omega) (UInt8.ofNat y)
        rw [HS.out] at h
        refine h ?_
        rw [List.getElem?_eq_getElem (show i < S.data.toList.length by rw [len_data]; omega)]
        intro e
        apply hyn
        have e2 := congrArg (fun o => (o.map UInt8.toNat).getD 0) e
        simp only [Option.map_some, Option.getD_some] at e2
        rw [UInt8.toNat_ofNat', Nat.mod_eq_of_lt hyl] at e2
        rw [← e2, HX.out]
        simp [List.getElem?_eq_getElem (show i < S.data.toList.length by rw [len_data]; omega)]
      rw [wraps_d d hd0 hd1, hyx]
      go_wp2_with fail
      refine (implUnseal_any S _).mono ?_
      rintro e v1 ⟨rfl, c1⟩
      rw [US.out]
      unfold tOut
      have hcv2 : (convert 22 9 (.slice (some ⟨u3.heap.size, 0, none⟩) S.size bcap)).run Try.prog v1 = .ok (.string (mkS (S.data.toList.set i (UInt8.ofNat y)))) v1 := by
        refine conv_set (W := W') zW CW.out (by omega) hyl c1
      have BV : Hid (Below w.heap.size w v1) := (((BW.out).setCell (p := ⟨u3.heap.size, i, none⟩) hzz (.int .u8 y)).drew).trans (c1.mono (by simp; omega))
      clear c1
      go_wp2_with fail
      refine (implUnseal_any _ _).mono ?_
      rintro e v2 ⟨rfl, c2⟩
      rw [HY.out]
      unfold tOut
      have BE : Hid (Below w.heap.size w v2) := (BV.out).trans (c2.mono (BV.out).size)
      clear c2
      go_wp2_with fail
      refine (drawCrcMore_any w.heap.size a1 len1 cap1 z1 _ (by have := (BE.out).size; simpa using this) (by omega) ((R1.out).kept BE.out)).mono ?_
      rintro e x1 ⟨cc, uu, rfl, hu, bx⟩
      have BX : Hid (Below w.heap.size w x1) := (BE.out).trans (bx.mono (BE.out).size)
      clear bx
      by_cases hlong : (20000 : Int) < (t.size : Int) + (uu.size : Int)
      · go_wp2
        go_ret
        exact ⟨rfl, BX.out⟩
      · have HC : Hid ((crcMoreV ((crcOf t : Nat) : Int) uu == ((crcOf (t ++ uu) : Nat) : Int)) = true) := crc_goes_on t uu (by omega)
        go_wp2_with fail
        refine (implCrcMore_any cc uu _).mono ?_
        rintro e x2 ⟨rfl, rfl⟩
        go_wp2_with fail
        refine (specCrcMore_any cc uu _).mono ?_
        rintro e x3 ⟨rfl, rfl⟩
        go_wp2_with fail
        refine (implCrc_any t _).mono ?_
        rintro e x4 ⟨rfl, rfl⟩
        go_wp2_with fail
        refine (implCrcMore_any _ uu _).mono ?_
        rintro e x5 ⟨rfl, rfl⟩
        go_wp2_with fail
        refine (implCrc_any _ _).mono ?_
        rintro e x6 ⟨rfl, rfl⟩
        have hfin := HC.out
        go_wp2
        go_ret
        exact ⟨rfl, BX.out⟩
  · have hne : (sealS t).toList.isEmpty = true := by rw [seal_none t hs, ByteArray.toList_eq]; rfl
    have BE := B3
    generalize sealS t = S at *
    go_wp2_with fail
    refine (drawCrcMore_any w.heap.size a1 len1 cap1 z1 _ (by have := (BE.out).size; simpa using this) (by omega) ((R1.out).kept BE.out)).mono ?_
    rintro e x1 ⟨cc, uu, rfl, hu, bx⟩
    have BX : Hid (Below w.heap.size w x1) := (BE.out).trans (bx.mono (BE.out).size)
    clear bx
    by_cases hlong : (20000 : Int) < (t.size : Int) + (uu.size : Int)
    · go_wp2
      go_ret
      exact ⟨rfl, BX.out⟩
    · have HC : Hid ((crcMoreV ((crcOf t : Nat) : Int) uu == ((crcOf (t ++ uu) : Nat) : Int)) = true) := crc_goes_on t uu (by omega)
      go_wp2_with fail
      refine (implCrcMore_any cc uu _).mono ?_
      rintro e x2 ⟨rfl, rfl⟩
      go_wp2_with fail
      refine (specCrcMore_any cc uu _).mono ?_
      rintro e x3 ⟨rfl, rfl⟩
      go_wp2_with fail
      refine (implCrc_any t _).mono ?_
      rintro e x4 ⟨rfl, rfl⟩
      go_wp2_with fail
      refine (implCrcMore_any _ uu _).mono ?_
      rintro e x5 ⟨rfl, rfl⟩
      go_wp2_with fail
      refine (implCrc_any _ _).mono ?_
      rintro e x6 ⟨rfl, rfl⟩
      have hfin := HC.out
      go_wp2
      go_ret
      exact ⟨rfl, BX.out⟩
end Go.Proofs.Ytbainombjfginaa
