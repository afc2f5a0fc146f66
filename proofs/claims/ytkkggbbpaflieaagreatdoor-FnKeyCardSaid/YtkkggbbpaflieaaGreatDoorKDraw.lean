/-
  Contracts: drawn values.
-/
import Derived.Test.YtkkggbbpaflieaaGreatDoorDrawMake
import Derived.Test.YtkkggbbpaflieaaGreatDoorKeyPlain
import Derived.Test.YtkkggbbpaflieaaGreatDoorReadS2
namespace Go.Proofs.YtkkggbbpaflieaaGreatDoor
open Go.RowKit

/-- Texts that lie in a block of their own, one a cell, each short. -/
def TextsAt (b n : Nat) (w : World) : Prop := ∀ r, r < n → ∃ t : ByteArray, w.cell? ⟨b, r, none⟩ = some (.string t) ∧ t.size ≤ 200
theorem textsAt_lit {W : World} {b n : Nat} {cs : Array Value} {t : TypeId} {f : Nat × Nat} (hg : W.heap[b]? = some (.cells cs t f)) (h : ∀ r, r < n → ∃ x : ByteArray, cs[r]? = some (.string x) ∧ x.size ≤ 200) : TextsAt b n W := fun r hr => by
  obtain ⟨x, hx, hs⟩ := h r hr
  exact ⟨x, (cell_of_row _ _ _ _ _ _ hg).trans hx, hs⟩
set_option maxHeartbeats 1000000 in
theorem pick_any (g B b n cap : Nat) (w : World) (hs : Src w B g) (hB : B ≤ g) (hn : 1 ≤ n) (hn2 : n ≤ 100) (hbl : b < w.heap.size) (hbg : ¬ b = g) (ht : TextsAt b n w) :
    Calls Tryz.prog 51 #[.pointer (some ⟨g, 0, none⟩), .slice (some ⟨b, 0, none⟩) n cap] w fun e w' => ∃ t : ByteArray, e = .returned (.string t) ∧ t.size ≤ 200 ∧ Src w' B g ∧ w.grownBy w' (some g) := by
  have HS : Hid (Src w B g) := hs
  have HT : Hid (TextsAt b n w) := ht
  clear hs ht
  go_enter Tryz.func51, Tryz.ntmps51
  go_wp2_with fail
  refine (n_any g B n (by omega) (by omega) _ HS.out hB).mono ?_
  rintro e w1 ⟨v, rfl, hv0, hv1, hs1, hg1, hz1⟩
  obtain ⟨r, rfl⟩ := Int.eq_ofNat_of_zero_le hv0
  obtain ⟨t, hc, hts⟩ := HT.out r (by omega)
  have hc1 : w1.cell? ⟨b, r, none⟩ = some (.string t) := (World.cell?_of_block (w := w) (hg1.block b hbl (fun e => hbg (by simpa using e)))).trans hc
  have H1 : Hid (Src w1 B g ∧ w.grownBy w1 (some g)) := ⟨hs1, hg1⟩
  clear hs1 hg1 hz1 hc HT HS
  go_wp2
  go_ret
  exact ⟨t, rfl, hts, H1.out⟩
theorem resV3 {fn : Func} {p : Tmp} (h : fn.results = #[.cell p 40]) (tmps : Array Value) (w : World) (g : Nat) (x y z : Value) (hp : tmps.getD p undef = .pointer (some ⟨g, 0, none⟩))
    (hg : w.heap[g]? = some (.cells #[x, y, z] 40 (0, 0))) : (results fn tmps).run Tryz.prog w = .ok (.agg #[x, y, z]) w :=
  results_cell_row h tmps w g 40 #[x, y, z] (0, 0) _ hp hg Tryz.underlying40 rfl (by kernel_rfl)
theorem grown_of_below {w w' : World} (r : Option Nat) (h : Below w.heap.size w w') : w.grownBy w' r := ⟨h.os, h.tape, h.output, h.size, fun k hk _ => h.block k hk⟩
/-- A call that draws a value, its answer's block made. -/
def StV (g B : Nat) (w wr : World) : Prop := Src wr B g ∧ w.grownBy wr (some g) ∧ wr.heap[w.heap.size]? = some (.cells #[.int .i64 0, .int .i64 0, .string ⟨#[]⟩] 40 (0, 0))
theorem stV_start {g B : Nat} {w : World} (h : Src w B g) (hB : B ≤ g) : StV g B w (w.alloc (.cells #[.int .i64 0, .int .i64 0, .string ⟨#[]⟩] 40)) :=
  ⟨h.kept ((Below.refl _ _).alloc (by have := h.lt; omega) _) (Below.heap_alloc _ _ _ h.lt), grown_alloc (grown_self _ _) _, heap_alloc_new _ _⟩
theorem stV_step {g B : Nat} {w wr w1 : World} (hgl : g < w.heap.size) (h : StV g B w wr) (hs : Src w1 B g) (hg : wr.grownBy w1 (some g)) : StV g B w w1 :=
  ⟨hs, grown_trans h.2.1 hg (fun j hj => .inl (by simpa using hj.symm)), (hg.block w.heap.size (Array.getElem?_eq_some_iff.1 h.2.2).1 (fun e => by simp at e; omega)).trans h.2.2⟩
theorem stV_below {g B : Nat} {w wr w1 : World} (hgl : g < w.heap.size) (hB : B ≤ g) (h : StV g B w wr) (hb : Below wr.heap.size wr w1) : StV g B w w1 := by
  have hsz := h.2.1.size
  exact stV_step hgl h (h.1.kept (hb.mono (by omega)) (hb.block g (by omega))) (grown_of_below _ hb)
theorem stV_end {g B : Nat} {w wr : World} (hgl : g < w.heap.size) (hB : B ≤ g) (h : StV g B w wr) (x y z : Value) :
    Src (((wr.setCell ⟨w.heap.size, 0, none⟩ x).setCell ⟨w.heap.size, 1, none⟩ y).setCell ⟨w.heap.size, 2, none⟩ z) B g ∧ w.grownBy (((wr.setCell ⟨w.heap.size, 0, none⟩ x).setCell ⟨w.heap.size, 1, none⟩ y).setCell ⟨w.heap.size, 2, none⟩ z) (some g) := by
  have hb : Below w.heap.size wr (((wr.setCell ⟨w.heap.size, 0, none⟩ x).setCell ⟨w.heap.size, 1, none⟩ y).setCell ⟨w.heap.size, 2, none⟩ z) := (((Below.refl w.heap.size wr).setCell (p := ⟨w.heap.size, 0, none⟩) (Nat.le_refl _) x).setCell (p := ⟨w.heap.size, 1, none⟩) (Nat.le_refl _) y).setCell (p := ⟨w.heap.size, 2, none⟩) (Nat.le_refl _) z
  have hsz := h.2.1.size
  refine ⟨h.1.kept (hb.mono (by omega)) (hb.block g hgl), hb.os.trans h.2.1.os, hb.tape.trans h.2.1.tape, hb.output.trans h.2.1.output, Nat.le_trans hsz hb.size, fun k hk hn => ?_⟩
  exact (hb.block k hk).trans (h.2.1.block k hk hn)
theorem l02Int_any (n : Int) (w : World) : Calls Tryz.prog 49 #[.int .i64 n] w fun e w' => e = .returned (.agg #[.int .i64 2, .int .i64 n, .string ⟨#[]⟩]) ∧ Below w.heap.size w w' := by
  go_enter Tryz.func49, Tryz.ntmps49
  go_wp2
  refine bodyPost_ret (v := .agg #[.int .i64 2, .int .i64 n, .string ⟨#[]⟩]) (resV3 Tryz.results49 _ _ w.heap.size _ _ _ rfl (heap_alloc_new _ _)) rfl ⟨rfl, (Below.refl _ _).alloc (Nat.le_refl _) _⟩
theorem l02Text_any (t : ByteArray) (w : World) : Calls Tryz.prog 35 #[.string t] w fun e w' => e = .returned (.agg #[.int .i64 3, .int .i64 0, .string t]) ∧ Below w.heap.size w w' := by
  go_enter Tryz.func35, Tryz.ntmps35
  go_wp2
  refine bodyPost_ret (v := .agg #[.int .i64 3, .int .i64 0, .string t]) (resV3 Tryz.results35 _ _ w.heap.size _ _ _ rfl (heap_alloc_new _ _)) rfl ⟨rfl, (Below.refl _ _).alloc (Nat.le_refl _) _⟩
/-- A drawn value. -/
def DrawnV (g B : Nat) (w : World) (e : Ending) (w' : World) : Prop := ∃ v : Val, e = .returned (.agg #[.int .i64 v.kind, .int .i64 v.num, .string v.text]) ∧ v.ok ∧ v.text.size ≤ 300 ∧ Src w' B g ∧ w.grownBy w' (some g)
theorem drawnV_mk {g B : Nat} {w : World} {e : Ending} {w' : World} (k n : Int) (t : ByteArray) (h1 : e = .returned (.agg #[.int .i64 k, .int .i64 n, .string t])) (h2 : -9223372036854775808 ≤ k ∧ k ≤ 9223372036854775807) (h3 : -9223372036854775808 ≤ n ∧ n ≤ 9223372036854775807) (h4 : t.size ≤ 300) (h5 : Src w' B g ∧ w.grownBy w' (some g)) : DrawnV g B w e w' :=
  ⟨⟨k, n, t⟩, h1, ⟨h2.1, h2.2, h3.1, h3.2⟩, h4, h5⟩
set_option maxRecDepth 100000 in
set_option maxHeartbeats 4000000 in
theorem l02Of_any (g B : Nat) (kind : Int) (w : World) (hk : kind = 0 ∨ kind = 1 ∨ kind = 2 ∨ kind = 3) (hs : Src w B g) (hB : B ≤ g) :
    Calls Tryz.prog 34 #[.pointer (some ⟨g, 0, none⟩), .int .i64 kind] w (DrawnV g B w) := by
  have hlt := hs.lt
  have HS : Hid (StV g B w (w.alloc (.cells #[.int .i64 0, .int .i64 0, .string ⟨#[]⟩] 40))) := stV_start hs hB
  clear hs
  rcases hk with rfl | rfl | rfl | rfl
  · go_enter Tryz.func34, Tryz.ntmps34
    go_wp2
    refine bodyPost_ret (v := .agg #[.int .i64 0, .int .i64 0, .string ⟨#[]⟩]) (resV3 Tryz.results34 _ _ w.heap.size _ _ _ rfl (heap_alloc_new _ _)) rfl (drawnV_mk 0 0 ⟨#[]⟩ rfl (by omega) (by omega) (by simp [ByteArray.size]) ⟨HS.out.1, HS.out.2.1⟩)
  · go_enter Tryz.func34, Tryz.ntmps34
    go_wp2_with fail
    refine (n_any g B 2 (by omega) (by omega) _ HS.out.1 hB).mono ?_
    rintro e w1 ⟨v, rfl, hv0, hv1, hs1, hg1, hz1⟩
    have H1 : Hid (StV g B w w1) := stV_step hlt HS.out hs1 hg1
    obtain ⟨e0, e1, e2, ef⟩ := cellsThree H1.out.2.2
    clear hs1 hg1 hz1 HS
    go_wp2
    refine bodyPost_ret (v := .agg #[.int .i64 1, .int .i64 v, .string ⟨#[]⟩]) (resV3 Tryz.results34 _ _ w.heap.size _ _ _ rfl (setThree H1.out.2.2)) rfl (drawnV_mk 1 v ⟨#[]⟩ rfl (by omega) (by omega) (by simp [ByteArray.size]) (stV_end hlt hB H1.out _ _ _))
  · go_enter Tryz.func34, Tryz.ntmps34
    go_wp2_with fail
    refine (one_any g B 8 (by omega) (by omega) _ HS.out.1 hB).mono ?_
    rintro e w1 ⟨b, rfl, hs1, hg1, hz1⟩
    have H1 : Hid (StV g B w w1) := stV_step hlt HS.out hs1 hg1
    clear hs1 hg1 HS hz1
    cases b with
    | true =>
      go_wp2_with fail
      refine (edge_any g B _ H1.out.1 hB).mono ?_
      rintro e w2 ⟨v, rfl, hv0, hv1, hs2, hg2⟩
      have H2 : Hid (StV g B w w2) := stV_step hlt H1.out hs2 hg2
      have HB : Hid (-9223372036854775808 ≤ v ∧ v ≤ 9223372036854775807) := ⟨hv0, hv1⟩
      clear hs2 hg2 H1 hv0 hv1
      go_wp2_with fail
      refine (l02Int_any v _).mono ?_
      rintro e w3 ⟨rfl, hb3⟩
      have H3 : Hid (StV g B w w3) := stV_below hlt hB H2.out hb3
      obtain ⟨e0, e1, e2, ef⟩ := cellsThree H3.out.2.2
      clear hb3 H2
      go_wp2
      refine bodyPost_ret (v := .agg #[.int .i64 2, .int .i64 v, .string ⟨#[]⟩]) (resV3 Tryz.results34 _ _ w.heap.size _ _ _ rfl (setThree H3.out.2.2)) rfl (drawnV_mk 2 v ⟨#[]⟩ rfl (by omega) HB.out (by simp [ByteArray.size]) (stV_end hlt hB H3.out _ _ _))
    | false =>
      go_wp2_with fail
      refine (n_any g B 9 (by omega) (by omega) _ H1.out.1 hB).mono ?_
      rintro e w2 ⟨v, rfl, hv0, hv1, hs2, hg2, hz2⟩
      have H2 : Hid (StV g B w w2) := stV_step hlt H1.out hs2 hg2
      clear hs2 hg2 H1 hz2
      go_wp2_with fail
      refine (l02Int_any (v - 2) _).mono ?_
      rintro e w3 ⟨rfl, hb3⟩
      have H3 : Hid (StV g B w w3) := stV_below hlt hB H2.out hb3
      obtain ⟨e0, e1, e2, ef⟩ := cellsThree H3.out.2.2
      clear hb3 H2
      go_wp2
      refine bodyPost_ret (v := .agg #[.int .i64 2, .int .i64 (v - 2), .string ⟨#[]⟩]) (resV3 Tryz.results34 _ _ w.heap.size _ _ _ rfl (setThree H3.out.2.2)) rfl (drawnV_mk 2 (v - 2) ⟨#[]⟩ rfl (by omega) (by omega) (by simp [ByteArray.size]) (stV_end hlt hB H3.out _ _ _))
  · go_enter Tryz.func34, Tryz.ntmps34
    go_wp2_with fail
    have hk := heap_alloc_new (w.alloc (.cells #[.int .i64 0, .int .i64 0, .string ⟨#[]⟩] 40)) (.cells #[.string ⟨#[]⟩, .string ⟨#[97]⟩, .string ⟨#[98]⟩, .string ⟨#[97, 98]⟩, .string ⟨#[97, 0]⟩, .string ⟨#[97, 0, 98]⟩, .string ⟨#[255]⟩, .string ⟨#[99]⟩] 9)
    have H1 : Hid (StV g B w ((w.alloc (.cells #[.int .i64 0, .int .i64 0, .string ⟨#[]⟩] 40)).alloc (.cells #[.string ⟨#[]⟩, .string ⟨#[97]⟩, .string ⟨#[98]⟩, .string ⟨#[97, 98]⟩, .string ⟨#[97, 0]⟩, .string ⟨#[97, 0, 98]⟩, .string ⟨#[255]⟩, .string ⟨#[99]⟩] 9))) := stV_below hlt hB HS.out ((Below.refl _ _).alloc (Nat.le_refl _) _)
    have hsz : (w.alloc (.cells #[.int .i64 0, .int .i64 0, .string ⟨#[]⟩] 40)).heap.size = w.heap.size + 1 := by simp
    rw [hsz] at hk
    refine (pick_any g B (w.heap.size + 1) 8 8 _ H1.out.1 hB (by omega) (by omega) (by simp) (by omega) (textsAt_lit hk ?_)).mono ?_
    · intro r hr
      match r, hr with
      | 0, _ => exact ⟨_, rfl, by decide⟩
      | 1, _ => exact ⟨_, rfl, by decide⟩
      | 2, _ => exact ⟨_, rfl, by decide⟩
      | 3, _ => exact ⟨_, rfl, by decide⟩
      | 4, _ => exact ⟨_, rfl, by decide⟩
      | 5, _ => exact ⟨_, rfl, by decide⟩
      | 6, _ => exact ⟨_, rfl, by decide⟩
      | 7, _ => exact ⟨_, rfl, by decide⟩
    rintro e w2 ⟨t, rfl, ht, hs2, hg2⟩
    have H2 : Hid (StV g B w w2) := stV_step hlt H1.out hs2 hg2
    clear hs2 hg2 H1 hk hsz HS
    go_wp2_with fail
    refine (l02Text_any t _).mono ?_
    rintro e w3 ⟨rfl, hb3⟩
    have H3 : Hid (StV g B w w3) := stV_below hlt hB H2.out hb3
    obtain ⟨e0, e1, e2, ef⟩ := cellsThree H3.out.2.2
    clear hb3 H2
    go_wp2
    refine bodyPost_ret (v := .agg #[.int .i64 3, .int .i64 0, .string t]) (resV3 Tryz.results34 _ _ w.heap.size _ _ _ rfl (setThree H3.out.2.2)) rfl (drawnV_mk 3 0 t rfl (by omega) (by omega) (by omega) (stV_end hlt hB H3.out _ _ _))
end Go.Proofs.YtkkggbbpaflieaaGreatDoor
