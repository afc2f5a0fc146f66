/-
  Contracts: the source of draws (spec.l01Src): its state, and the number below a bound.
-/
import Derived.Test.YtkkggbbpaflieaaGreatDoorRows
import Derived.Test.YtkkggbbpaflieaaGreatDoorPlain
import Derived.WalkKit
import Derived.WalkLawsBesides
import Derived.Deep.RegionHeld3
import Derived.Deep.DrawnRows
import Derived.OpenShut
namespace Go.Proofs.YtkkggbbpaflieaaGreatDoor
open Go.RowKit

/-- A slice of bytes that can be read, below block B. -/
def ByteRow (w : World) (B : Nat) (ao : Option Addr) (len : Nat) (zs : List Int) : Prop :=
  (∀ i, 0 ≤ zs.getD i 0 ∧ zs.getD i 0 ≤ 255) ∧ (len = 0 ∨ ∃ b off, ao = some ⟨b, off, none⟩ ∧ b < B ∧ ∀ i, i < len → w.cell? ⟨b, off + i, none⟩ = some (.int .u8 (zs.getD i 0)))
/-- The source of draws at block g: what it reads lies below block B. -/
def Src (w : World) (B g : Nat) : Prop := ∃ (ao : Option Addr) (len cap : Nat) (zs : List Int) (p mix : Nat) (size : Int),
  w.heap[g]? = some (.cells #[.slice ao len cap, .int .i64 p, .int .u64 mix, .int .i64 size] 73 (0, 0)) ∧ mix < 18446744073709551616 ∧ p ≤ len ∧ len ≤ 1048576 ∧ 0 ≤ size ∧ size ≤ 12 ∧ ByteRow w B ao len zs

theorem byteRow_of {w : World} {a : Option Addr} {len cap : Nat} {zs : List Int} (h : (a = none ∧ len = 0 ∧ cap = 0 ∧ zs = []) ∨
    ∃ x, a = some x ∧ len ≤ cap ∧ cap ≤ maxLen ∧ zs.length = cap ∧ (∀ i, i < zs.length → w.cell? (x.add i) = some (.int .u8 (zs.getD i 0))) ∧ ∀ n ∈ zs, (Lit.int .u8 n).wf = true) : ByteRow w w.heap.size a len zs := by
  rcases h with ⟨rfl, rfl, rfl, rfl⟩ | ⟨x, rfl, hl, hm, hz, hc, hw⟩
  · exact ⟨fun i => by simp, .inl rfl⟩
  · refine ⟨fun i => ?_, ?_⟩
    · by_cases hi : i < zs.length
      · have := bounds_u8 (hw zs[i] (List.getElem_mem hi))
        simp [List.getElem?_eq_getElem hi]; omega
      · simp [List.getElem?_eq_none (show zs.length ≤ i by omega)]
    · by_cases h0 : len = 0
      · exact .inl h0
      · right
        obtain ⟨b, off, spot⟩ := x
        have h1 := hc 0 (by omega)
        have hspot : spot = none := by simpa [Addr.add] using World.cell?_spot h1
        subst hspot
        have hb := block_lt_of_cell h1
        refine ⟨b, off, rfl, by simpa [Addr.add] using hb, fun i hi => ?_⟩
        have hadd : (⟨b, off, none⟩ : Addr).add i = ⟨b, off + i, none⟩ := by unfold Addr.add; split <;> simp_all
        have := hc i (by omega)
        rwa [hadd] at this

theorem setCell_twice (w : World) (a : Addr) (v v' : Value) : (w.setCell a v).setCell a v' = w.setCell a v' := by
  unfold World.setCell
  congr 1
  apply Array.ext_getElem?
  intro i
  simp only [Array.getElem?_modify]
  by_cases h : a.block = i
  · simp only [h, if_true]
    cases w.heap[i]? with
    | none => rfl
    | some o => cases o <;> simp <;> split <;> simp [*]
  · simp [h]
theorem bits_u64 (op : BinOp) (x y : Int) : ∃ m : Nat, bits op .u64 x y = (m : Int) ∧ m < 18446744073709551616 := by
  have h := bounds_u64 (wf_bits op .u64 x y)
  exact ⟨(bits op .u64 x y).toNat, by omega, by omega⟩

attribute [local go_sem ↓] Go.wp_at_zero Go.wp_at_succ
set_option maxHeartbeats 1000000 in
theorem n_end (g : Nat) (most : Int) (h1 : 1 < most) (h2 : most ≤ 9223372036854775807) (w : World) (ao : Option Addr) (len cap p mix : Nat) (_hl : len ≤ 1048576) (hpl : len ≤ p) (hpm : p ≤ len)
    (c0 : w.cell? ⟨g, 0, none⟩ = some (.slice ao len cap)) (c1 : w.cell? ⟨g, 1, none⟩ = some (.int .i64 p)) (c2 : w.cell? ⟨g, 2, none⟩ = some (.int .u64 mix)) (cf : ∀ j, w.frozen? ⟨g, j, none⟩ = false) :
    Calls Tryz.prog 31 #[.pointer (some ⟨g, 0, none⟩), .int .i64 most] w fun e w' => ∃ (v : Int) (m : Nat) (n : Nat), e = .returned (.int .i64 v) ∧ 0 ≤ v ∧ v < most ∧ m < 18446744073709551616 ∧ w' = (w.setCell ⟨g, 2, none⟩ (.int .u64 m)).drewN n := by
  obtain ⟨m1, hm1, hl1⟩ := bits_u64 .xor (mix : Int) (IntKind.u64.wrap ((mix : Int) * 8192))
  obtain ⟨m2, hm2, hl2⟩ := bits_u64 .xor (m1 : Int) ((m1 : Int) / 128)
  obtain ⟨m3, hm3, hl3⟩ := bits_u64 .xor (m2 : Int) (IntKind.u64.wrap ((m2 : Int) * 131072))
  have hr0 := Int.emod_nonneg ((m3 : Int) / 1048576) (show most ≠ 0 by omega)
  have hr1 := Int.emod_lt_of_pos ((m3 : Int) / 1048576) (show 0 < most by omega)
  have hss := fun W v v' => setCell_twice W ⟨g, 2, none⟩ v v'
  go_enter Tryz.func31, Tryz.ntmps31
  go_wp2
  go_region
  go_wp2
  go_region
  go_wp2
  go_region
  go_wp2
  go_region
  go_wp2
  go_ret
  exact ⟨_, m3, 4, rfl, hr0, hr1, hl3, rfl⟩

set_option maxHeartbeats 1000000 in
theorem n_byte (g : Nat) (most : Int) (h1 : 1 < most) (h2 : most ≤ 9223372036854775807) (w : World) (b off len cap p mix : Nat) (z : Int) (hz0 : 0 ≤ z) (hz1 : z ≤ 255) (hl : len ≤ 1048576) (hpl : p < len) (_hne : ¬ b = g)
    (c0 : w.cell? ⟨g, 0, none⟩ = some (.slice (some ⟨b, off, none⟩) len cap)) (c1 : w.cell? ⟨g, 1, none⟩ = some (.int .i64 p)) (c2 : w.cell? ⟨g, 2, none⟩ = some (.int .u64 mix)) (cf : ∀ j, w.frozen? ⟨g, j, none⟩ = false)
    (cb : w.cell? ⟨b, off + p, none⟩ = some (.int .u8 z)) :
    Calls Tryz.prog 31 #[.pointer (some ⟨g, 0, none⟩), .int .i64 most] w fun e w' => ∃ (v : Int) (m : Nat) (n : Nat), e = .returned (.int .i64 v) ∧ 0 ≤ v ∧ v < most ∧ m < 18446744073709551616 ∧ w' = ((w.setCell ⟨g, 1, none⟩ (.int .i64 (p + 1 : Nat))).setCell ⟨g, 2, none⟩ (.int .u64 m)).drewN n := by
  obtain ⟨m1, hm1, hl1⟩ := bits_u64 .xor (mix : Int) (IntKind.u64.wrap ((mix : Int) * 8192))
  obtain ⟨m2, hm2, hl2⟩ := bits_u64 .xor (m1 : Int) ((m1 : Int) / 128)
  obtain ⟨m3, hm3, hl3⟩ := bits_u64 .xor (m2 : Int) (IntKind.u64.wrap ((m2 : Int) * 131072))
  have hr0 := Int.emod_nonneg (z + (m3 : Int) / 1048576) (show most ≠ 0 by omega)
  have hr1 := Int.emod_lt_of_pos (z + (m3 : Int) / 1048576) (show 0 < most by omega)
  have hss := fun W v v' => setCell_twice W ⟨g, 2, none⟩ v v'
  go_enter Tryz.func31, Tryz.ntmps31
  go_wp2
  go_region
  go_wp2
  go_region
  go_wp2
  go_region
  go_wp2
  go_region
  go_wp2
  go_region
  go_wp2
  go_ret
  exact ⟨_, m3, 5, rfl, hr0, hr1, hl3, rfl⟩

/-- A row of bytes stays readable where only blocks from B on were written. -/
theorem ByteRow.kept {w w' : World} {B : Nat} {ao : Option Addr} {len : Nat} {zs : List Int} (h : ByteRow w B ao len zs) (hb : Below B w w') : ByteRow w' B ao len zs := by
  refine ⟨h.1, ?_⟩
  rcases h.2 with h0 | ⟨b, off, e, hB, hc⟩
  · exact .inl h0
  · exact .inr ⟨b, off, e, hB, fun i hi => (hb.cell (p := ⟨b, off + i, none⟩) hB).trans (hc i hi)⟩
/-- The source stays where its own block stays and what it reads is untouched. -/
theorem Src.kept {w w' : World} {B g : Nat} (h : Src w B g) (hb : Below B w w') (hg : w'.heap[g]? = w.heap[g]?) : Src w' B g := by
  obtain ⟨ao, len, cap, zs, p, mix, size, h1, h2, h3, h4, h5, h6, h7⟩ := h
  exact ⟨ao, len, cap, zs, p, mix, size, hg.trans h1, h2, h3, h4, h5, h6, h7.kept hb⟩
theorem Src.lt {w : World} {B g : Nat} (h : Src w B g) : g < w.heap.size := by
  obtain ⟨ao, len, cap, zs, p, mix, size, h1, _⟩ := h
  exact (Array.getElem?_eq_some_iff.1 h1).1
theorem below_of_grown {w w' : World} {g B : Nat} (h : w.grownBy w' (some g)) (hg : B ≤ g) (hs : B ≤ w.heap.size) : Below B w w' :=
  (Below.refl B w).grown h hs (fun k hk => by simp at hk; omega)
theorem grown_set {w W : World} {g : Nat} (hs : W.heap.size = w.heap.size) (hos : W.os = w.os) (ht : W.tape = w.tape) (ho : W.output = w.output) (hk : ∀ k, k ≠ g → W.heap[k]? = w.heap[k]?) : w.grownBy W (some g) :=
  ⟨hos, ht, ho, by omega, fun k _ hn => hk k (fun e => hn (by rw [e]))⟩

theorem n_any (g B : Nat) (most : Int) (h1 : 1 ≤ most) (h2 : most ≤ 9223372036854775807) (w : World) (hs : Src w B g) (hB : B ≤ g) :
    Calls Tryz.prog 31 #[.pointer (some ⟨g, 0, none⟩), .int .i64 most] w fun e w' => ∃ v : Int, e = .returned (.int .i64 v) ∧ 0 ≤ v ∧ v < most ∧ Src w' B g ∧ w.grownBy w' (some g) ∧ w'.heap.size = w.heap.size := by
  by_cases h0 : most ≤ 1
  · go_enter Tryz.func31, Tryz.ntmps31
    go_wp2
    go_ret
    exact ⟨0, rfl, by omega, by omega, hs, grown_set rfl rfl rfl rfl (fun _ _ => rfl), rfl⟩
  · have hlt := hs.lt
    obtain ⟨ao, len, cap, zs, p, mix, size, hk, hm, hp, hl, hz0, hz1, hr⟩ := hs
    have c0 : w.cell? ⟨g, 0, none⟩ = some (.slice ao len cap) := by rw [cell_of_row _ _ _ _ _ _ hk]; rfl
    have c1 : w.cell? ⟨g, 1, none⟩ = some (.int .i64 p) := by rw [cell_of_row _ _ _ _ _ _ hk]; rfl
    have c2 : w.cell? ⟨g, 2, none⟩ = some (.int .u64 mix) := by rw [cell_of_row _ _ _ _ _ _ hk]; rfl
    have cf : ∀ j, w.frozen? ⟨g, j, none⟩ = false := fun j => frozen_of_row _ _ _ _ _ hk
    by_cases hpl : p < len
    · rcases hr.2 with h | ⟨b, off, rfl, hbB, hc⟩
      · omega
      · refine (n_byte g most (by omega) h2 w b off len cap p mix (zs.getD p 0) (hr.1 p).1 (hr.1 p).2 hl hpl (by omega) c0 c1 c2 cf (hc p hpl)).mono ?_
        rintro e w' ⟨v, m, n, rfl, hv0, hv1, hm', rfl⟩
        have hgr : w.grownBy (((w.setCell ⟨g, 1, none⟩ (.int .i64 (p + 1 : Nat))).setCell ⟨g, 2, none⟩ (.int .u64 m)).drewN n) (some g) :=
          grown_set (by show ((w.setCell _ _).setCell _ _).heap.size = _; simp) rfl rfl rfl (fun k hkg => by
            show ((w.setCell _ _).setCell _ _).heap[k]? = _
            rw [heap_setCell_other _ _ _ _ hkg, heap_setCell_other _ _ _ _ hkg])
        refine ⟨v, rfl, hv0, hv1, ⟨_, len, cap, zs, p + 1, m, size, ?_, hm', by omega, hl, hz0, hz1, hr.kept (below_of_grown hgr hB (by omega))⟩, hgr, by show ((w.setCell _ _).setCell _ _).heap.size = _; simp⟩
        have k1 := heap_setCell_same w g 1 _ _ (.int .i64 (p + 1 : Nat)) hk
        have k2 := heap_setCell_same _ g 2 _ _ (.int .u64 m) k1
        show ((w.setCell _ _).setCell _ _).heap[g]? = _
        rw [k2]; rfl
    · refine (n_end g most (by omega) h2 w ao len cap p mix hl (by omega) hp c0 c1 c2 cf).mono ?_
      rintro e w' ⟨v, m, n, rfl, hv0, hv1, hm', rfl⟩
      have hgr : w.grownBy ((w.setCell ⟨g, 2, none⟩ (.int .u64 m)).drewN n) (some g) :=
        grown_set (by show (w.setCell _ _).heap.size = _; simp) rfl rfl rfl (fun k hkg => by
          show (w.setCell _ _).heap[k]? = _
          rw [heap_setCell_other _ _ _ _ hkg])
      refine ⟨v, rfl, hv0, hv1, ⟨ao, len, cap, zs, p, m, size, ?_, hm', hp, hl, hz0, hz1, hr.kept (below_of_grown hgr hB (by omega))⟩, hgr, by show (w.setCell _ _).heap.size = _; simp⟩
      have k2 := heap_setCell_same w g 2 _ _ (.int .u64 m) hk
      show (w.setCell _ _).heap[g]? = _
      rw [k2]; rfl

theorem one_any (g B : Nat) (most : Int) (h1 : 1 ≤ most) (h2 : most ≤ 9223372036854775807) (w : World) (hs : Src w B g) (hB : B ≤ g) :
    Calls Tryz.prog 16 #[.pointer (some ⟨g, 0, none⟩), .int .i64 most] w fun e w' => ∃ b : Bool, e = .returned (.bool b) ∧ Src w' B g ∧ w.grownBy w' (some g) ∧ w'.heap.size = w.heap.size := by
  have HS : Hid (Src w B g) := hs
  clear hs
  go_enter Tryz.func16, Tryz.ntmps16
  go_wp2_with fail
  refine (n_any g B most h1 h2 _ HS.out hB).mono ?_
  rintro e w1 ⟨v, rfl, hv0, hv1, hs1, hg1, hz1⟩
  have H1 : Hid (Src w1 B g ∧ w.grownBy w1 (some g) ∧ w1.heap.size = w.heap.size) := ⟨hs1, hg1, hz1⟩
  clear hs1 hg1 hz1
  go_wp2
  go_ret
  exact ⟨_, rfl, H1.out⟩
end Go.Proofs.YtkkggbbpaflieaaGreatDoor
