/-
  Contracts and plain laws, part 9 of 9: DkDLaw
-/
import Derived.Deep.CutRange
import Derived.Test.YthglidcfbdigiaaPh

/-
  The law on disks, out of the contracts.
-/
namespace Go.Proofs.Ythglidcfbdigiaa
open Go.RowKit
set_option maxRecDepth 100000

theorem cells4' {w : World} {g : Nat} {a b c d : Value} {t : TypeId} (h : w.heap[g]? = some (.cells #[a, b, c, d] t (0, 0))) : w.cell? ⟨g, 0, none⟩ = some a ∧ w.cell? ⟨g, 1, none⟩ = some b ∧ w.cell? ⟨g, 2, none⟩ = some c ∧ w.cell? ⟨g, 3, none⟩ = some d := ⟨(cells4 h).1, (cells4 h).2.1, (cells4 h).2.2.1, (cells4 h).2.2.2.1⟩
theorem Try.infoBoolD : (Try.prog.info? 4).map (fun i => (i.zero, i.size, i.bytes)) = some (some (.bool false), 1, 1) := by kernel_rfl
theorem made_bools (n : Nat) : (madeCells (Value.bool false).cells (n * 1)).toList = boolsV (List.replicate n false) := by
  have hc : (Value.bool false).cells = #[Value.bool false] := rfl
  rw [hc]
  unfold madeCells boolsV
  rw [Array.toList_map, Array.toList_range, List.map_replicate, Nat.mul_one]
  apply List.ext_getElem (by simp)
  intro i h1 h2
  have : i % (#[Value.bool false] : Array Value).size = 0 := Nat.mod_one i
  simp [Nat.mod_one]
theorem ownL_rep {base g i : Nat} {cur : List Value} {w : World} (hb : base ≤ g) (hi : i ≤ 1048576) (hg : w.heap[g]? = some (.cells cur.toArray 4 (0, 0))) (hl : cur.length = i) (hc : cur.take i = boolsV (List.replicate i true)) :
    OwnL base (.slice (some ⟨g, 0, none⟩) i i) (List.replicate i true) w := by
  have hr : (List.replicate i true).length = i := List.length_replicate
  unfold OwnL
  rw [hr]
  refine ⟨by simp [boolsV], .inr ⟨g, i, cur.toArray, rfl, hb, hg, Nat.le_refl _, by unfold maxLen; omega, by simpa using hl, by simpa using hc⟩⟩
theorem implDiskRight_own (b : Nat) (s c : Value) (d : Dk) (w : World) (hi : dkIn d) (h : OwnD b s c d w) :
    Calls Try.prog 14 #[.agg #[s, c]] w fun e w' => e = .returned (.bool (dkRight d)) ∧ Below w.heap.size w w' := by
  obtain ⟨so, p, co, q, rfl, rfl, hr⟩ := h.row hi
  exact implDiskRight_any b w.heap.size so p co q d w (Nat.le_refl _) hr
/-- What holds of the world from the crash on: the disk that was drawn, the one that was written, and the one behind the crash. -/
structure DLF (w : World) (l5 l8 l14 g5 g8 g14 : Nat) (s c s2 c2 s9 c9 : Value) (d D F : Dk) (W : World) : Prop where
  b : Below w.heap.size w W
  x : W.heap[g5]? = some (.cells #[s, c] 26 (0, 0))
  y : W.heap[g8]? = some (.cells #[s2, c2, .string ⟨#[]⟩, .int .i64 0] 30 (0, 0))
  z : W.heap[g14]? = some (.cells #[s9, c9] 26 (0, 0))
  od : OwnD l5 s c d W
  oD : OwnD l8 s2 c2 D W
  oF : OwnD l14 s9 c9 F W
theorem DLF.below {w : World} {l5 l8 l14 g5 g8 g14 : Nat} {s c s2 c2 s9 c9 : Value} {d D F : Dk} {W W' : World} (h : DLF w l5 l8 l14 g5 g8 g14 s c s2 c2 s9 c9 d D F W) (k : Below W.heap.size W W') : DLF w l5 l8 l14 g5 g8 g14 s c s2 c2 s9 c9 d D F W' :=
  ⟨h.b.trans (k.mono h.b.size), (k.block _ (blkS h.x)).trans h.x, (k.block _ (blkS h.y)).trans h.y, (k.block _ (blkS h.z)).trans h.z, h.od.below k, h.oD.below k, h.oF.below k⟩
theorem DLF.cells {w : World} {l5 l8 l14 g5 g8 g14 : Nat} {s c s2 c2 s9 c9 : Value} {d D F : Dk} {W : World} (h : DLF w l5 l8 l14 g5 g8 g14 s c s2 c2 s9 c9 d D F W) :
    (W.cell? ⟨g5, 0, none⟩ = some s ∧ W.cell? ⟨g5, 1, none⟩ = some c) ∧ (W.cell? ⟨g8, 0, none⟩ = some s2 ∧ W.cell? ⟨g8, 1, none⟩ = some c2) ∧ W.cell? ⟨g14, 0, none⟩ = some s9 ∧ W.cell? ⟨g14, 1, none⟩ = some c9 :=
  ⟨⟨(cells2 h.x).1, (cells2 h.x).2.1⟩, ⟨(cells4 h.y).1, (cells4 h.y).2.1⟩, (cells2 h.z).1, (cells2 h.z).2.1⟩
theorem rdI_out (b : Nat) (s c : Value) (d : Dk) (a m : Int) (w : World) (hi : dkIn d) (hf : dkFits d) (ha : wI64 a) (hm : wI64 m) (T : ByteArray) (hT : (dkRead d a m).2 = T) (h : OwnD b s c d w) :
    Calls Try.prog 12 #[.agg #[s, c], .int .i64 a, .int .i64 m] w fun e w' => ∃ so n p co k q K, e = .returned (.agg #[.slice so n p, .slice co k q, .string T, .int .i64 K]) ∧ Below w.heap.size w w' := by
  subst hT
  refine (implDiskRead_any b s c d a m w hi hf ha hm h).mono ?_
  rintro e w1 ⟨s1, c1, rfl, o1, b1⟩
  obtain ⟨so, n, p, co, k, q, rfl, rfl, _⟩ := o1.shp
  exact ⟨so, n, p, co, k, q, _, rfl, b1⟩
theorem rdS_out (b : Nat) (s c : Value) (d : Dk) (a m : Int) (w : World) (hi : dkIn d) (hf : dkFits d) (ha : wI64 a) (hm : wI64 m) (T : ByteArray) (hT : (dkRead d a m).2 = T) (h : OwnD b s c d w) :
    Calls Try.prog 17 #[.agg #[s, c], .int .i64 a, .int .i64 m] w fun e w' => ∃ so n p co k q K, e = .returned (.agg #[.slice so n p, .slice co k q, .string T, .int .i64 K]) ∧ Below w.heap.size w w' := by
  subst hT
  refine (specDiskRead_any b s c d a m w hi hf ha hm h).mono ?_
  rintro e w1 ⟨s1, c1, rfl, o1, b1⟩
  obtain ⟨so, n, p, co, k, q, rfl, rfl, _⟩ := o1.shp
  exact ⟨so, n, p, co, k, q, _, rfl, b1⟩
theorem crI_out (b : Nat) (s c : Value) (d : Dk) (w : World) (hi : dkIn d) (hf : dkFits d) (h : OwnD b s c d w) :
    Calls Try.prog 15 #[.agg #[s, c], .slice none 0 0] w fun e w' => ∃ so n p co k q, e = .returned (.agg #[.slice so n p, .slice co k q]) ∧ OwnD w.heap.size (.slice so n p) (.slice co k q) (dkCrash d []) w' ∧ Below w.heap.size w w' := by
  refine (implDiskCrash_any b 0 s c (.slice none 0 0) d [] w hi hf (by simp) h ⟨rfl, .inl ⟨rfl, rfl⟩⟩).mono ?_
  rintro e w1 ⟨s1, c1, rfl, o1, b1⟩
  obtain ⟨so, n, p, co, k, q, rfl, rfl, _⟩ := o1.shp
  exact ⟨so, n, p, co, k, q, rfl, o1, b1⟩
set_option maxHeartbeats 8000000 in
theorem lawDisk (a0 : Option Addr) (len0 cap0 : Nat) (z0 : List Int) (a1 : Option Addr) (len1 cap1 : Nat) (z1 : List Int) (w : World) (w0 : ByteRow w w.heap.size a0 len0 z0) (w1 : ByteRow w w.heap.size a1 len1 z1) :
    Calls Try.prog 3 #[.slice a0 len0 cap0, .slice a1 len1 cap1] w fun e w' => e = .returned (.bool true) ∧ Below w.heap.size w w' := by
  by_cases h0 : 1048576 < len0
  · go_enter Try.func3, Try.ntmps3
    go_wp2
    go_ret
    exact ⟨rfl, Below.refl _ _⟩
  by_cases h1 : 1048576 < len1
  · go_enter Try.func3, Try.ntmps3
    go_wp2
    go_ret
    exact ⟨rfl, Below.refl _ _⟩
  have R0 : Hid (ByteRow w w.heap.size a0 len0 z0) := w0
  have R1 : Hid (ByteRow w w.heap.size a1 len1 z1) := w1
  clear w0 w1
  have hfc : ∀ (so : Option Addr) (n p : Nat) (co : Option Addr) (m q : Nat) (t : ByteArray) (K : Int) (W : World), (Instr.field 30 (.agg #[.slice so n p, .slice co m q, .string t, .int .i64 K]) 2).run Try.prog W = .ok (.int .i64 K) W := fun so n p co m q t K W => by kernel_rfl
  have hft : ∀ (so : Option Addr) (n p : Nat) (co : Option Addr) (m q : Nat) (t : ByteArray) (K : Int) (W : World), (Instr.field 30 (.agg #[.slice so n p, .slice co m q, .string t, .int .i64 K]) 1).run Try.prog W = .ok (.string t) W := fun so n p co m q t K W => by kernel_rfl
  go_enter Try.func3, Try.ntmps3
  go_wp2_with fail
  refine (drawDiskWrite_any w.heap.size a0 len0 cap0 z0 _ (Nat.le_refl _) (by omega) R0.out).mono ?_
  rintro e u1 ⟨s, c, d, a, t, rfl, o1, hi, hf, ha, ht, b1⟩
  obtain ⟨so, n1, p, co, n2, q, rfl, rfl, hm⟩ := o1.shp
  have HM := hide hm
  have HIF := hide (And.intro hi hf)
  have HA := hide ha
  have ba := (Below.refl u1.heap.size u1).alloc (Nat.le_refl _) (.cells #[.slice so n1 p, .slice co n2 q] 26)
  have O1 := hide (o1.below ba)
  have X1 := hide (heap_alloc_new u1 (.cells #[.slice so n1 p, .slice co n2 q] 26))
  have B1 := hide (b1.trans (ba.mono b1.size))
  have Z1 : Hid (w.heap.size ≤ u1.heap.size) := b1.size
  clear o1 hm hi hf ha b1 ba
  go_wp2_with fail
  have C2 := implDiskWrite_any _ _ _ d a t _ HIF.out.1 HIF.out.2 (by omega) O1.out
  have CS := hide (fun (W : World) (h : OwnD w.heap.size (.slice so n1 p) (.slice co n2 q) d W) => specDiskWrite_any _ _ _ d a t W HIF.out.1 HIF.out.2 HA.out h)
  have HWR := hide (show (dkWrite d a t).2 = 0 → dkWrite d a t = ((dkWrite d a t).1, 0) from fun h => by rw [← h])
  obtain ⟨DD, hDD⟩ : ∃ x, x = dkWrite d a t := ⟨_, rfl⟩
  have HDD := hide hDD
  rw [← hDD] at C2 CS HWR
  clear hDD
  obtain ⟨D, K⟩ := DD
  simp only at C2 CS HWR
  refine C2.mono ?_
  rintro e u2 ⟨s2, c2, rfl, o2, b2⟩
  clear C2
  obtain ⟨so2, m1, p2, co2, m2, q2, rfl, rfl, hm⟩ := o2.shp
  have HM2 := hide hm
  have ba := (Below.refl u2.heap.size u2).alloc (Nat.le_refl _) (.cells #[.slice so2 m1 p2, .slice co2 m2 q2, .string ⟨#[]⟩, .int .i64 K] 30)
  have bb := b2.trans (ba.mono b2.size)
  have O2 := hide (o2.below ba)
  have Y2 := hide (heap_alloc_new u2 (.cells #[.slice so2 m1 p2, .slice co2 m2 q2, .string ⟨#[]⟩, .int .i64 K] 30))
  have O1' := hide (O1.out.below bb)
  have X2 := hide ((bb.block _ (blkS X1.out)).trans X1.out)
  have B2 := hide (B1.out.trans (bb.mono B1.out.size))
  have Z2 := hide (blkS X2.out)
  have Z3 : Hid (u1.heap.size < u2.heap.size) := Nat.lt_of_lt_of_le (blkS X1.out) b2.size
  clear o2 hm ba bb b2 O1 X1 B1
  generalize hW2 : u2.alloc (.cells #[.slice so2 m1 p2, .slice co2 m2 q2, .string ⟨#[]⟩, .int .i64 K] 30) = W2 at *
  go_upto_region 5 with fail
  clear hW2
  generalize u1.heap.size = g5 at *
  generalize u2.heap.size = g8 at *
  obtain ⟨x0, x1, xf⟩ := cells2 X2.out
  obtain ⟨y0, y1, y2, y3, yf⟩ := cells4 Y2.out
  have hkk : (K != K) = false := by simp
  have hkk2 : (K == K) = true := by simp
  have S5 : Hid (∀ W : World, ((W.cell? ⟨g5, 0, none⟩ = some (.slice so n1 p) ∧ W.cell? ⟨g5, 1, none⟩ = some (.slice co n2 q)) ∧ W.cell? ⟨g8, 3, none⟩ = some (.int .i64 K)) = ((W.cell? ⟨g5, 0, none⟩ = some (.slice so n1 p) ∧ W.cell? ⟨g5, 1, none⟩ = some (.slice co n2 q)) ∧ W.cell? ⟨g8, 3, none⟩ = some (.int .i64 K))) := fun _ => rfl
  clear S5
  by_cases hK : K = 0
  · subst hK
    go_region_held3 (fun W => (W.cell? ⟨g5, 0, none⟩ = some (.slice so n1 p) ∧ W.cell? ⟨g5, 1, none⟩ = some (.slice co n2 q)) ∧ W.cell? ⟨g8, 3, none⟩ = some (.int .i64 0)) (go_keep) (first
      | (go_at_call 11; refine (CS.out _ (O1'.out.below (Below.refl _ _).drew)).mono ?_; rintro e u3 ⟨s3, c3, rfl, o3, b3⟩; obtain ⟨so3, k1, p3, co3, k2, q3, rfl, rfl, _⟩ := o3.shp; have b3' := (Below.refl W2.heap.size W2).drew.trans b3; have X3 := hide ((b3'.block _ (blkS X2.out)).trans X2.out); have Y3 := hide ((b3'.block _ (blkS Y2.out)).trans Y2.out); have O3 := hide (O1'.out.below b3'); have O23 := hide (O2.out.below b3'); have B3 := hide (B2.out.trans (b3'.mono B2.out.size)); clear x0 x1 xf y0 y1 y2 y3 yf b3 b3' o3; obtain ⟨x0, x1, xf⟩ := cells2 X3.out; obtain ⟨y0, y1, y2, y3, yf⟩ := cells4 Y3.out))
    all_goals
      clear hkk hkk2
      have HE1 : Hid (((t.size : Int) + 64 - 1) / 64 = (many t : Int)) := by show _ = _; unfold many; omega
      have hw : (dkWrite d a t).2 = 0 := by rw [← HDD.out]
      obtain ⟨hr, ha0, ha1, ha2, hx⟩ := wrote hw
      obtain ⟨k, rfl⟩ := Int.eq_ofNat_of_zero_le ha0
      have hD : (dkWrite d (k : Int) t).1 = D := by rw [← HDD.out]
      have RW := hide (read_wrote hw ht)
      have RO := hide (fun i h1 h2 => read_other (i := i) hw h1 h2)
      have HRX := wrote_right (a := k) hr (by omega) ha2
      rw [hD] at RW RO hx
      rw [← hx] at HRX
      have HRX' := hide HRX
      have HR' := hide hr
      have HK := hide (And.intro ha1 ha2)
      have HMS := hide (many_small ht)
      have hseclen : D.secs.length = d.secs.length := by rw [hx]
      have HSL := hide hseclen
      have RF := hide (read_flushed (k := k) (m := many t) HRX (by have := HMS.out; omega) (by rw [hseclen]; omega))
      have HDF := hide (And.intro (right_inn HRX) (right_fits HRX))
      have HFF := hide (And.intro (right_inn (flush_right HRX)) (right_fits (flush_right HRX)))
      have HFR := hide (flush_right HRX)
      have HAK : Hid (wI64 (k : Int) ∧ wI64 (many t : Int)) := ⟨HA.out, by have := HMS.out; unfold wI64; omega⟩
      clear hw ha0 ha1 ha2 hx hD HRX hr hseclen HWR CS HDD x0 x1 xf
      generalize many t = mt at *
      go_upto_region 8 with fail
      rw [HE1.out]
      go_wp2_with fail
      refine (implDiskRead_any _ _ _ D k mt _ HDF.out.1 HDF.out.2 HAK.out.1 HAK.out.2 O23.out).mono ?_
      rintro e u4 ⟨s4, c4, rfl, o4, b4⟩
      obtain ⟨l, hl, hl1, hl2⟩ := RW.out
      rw [hl] at o4 ⊢
      have HL := hide hl
      have HLL := hide (And.intro hl1 hl2)
      obtain ⟨so4, k4, p4, co4, k5, q4, rfl, rfl, hm4⟩ := o4.shp
      have ba := (Below.refl u4.heap.size u4).alloc (Nat.le_refl _) (.cells #[.slice so4 k4 p4, .slice co4 k5 q4, .string (mkS l), .int .i64 0] 30)
      have bb := b4.trans (ba.mono b4.size)
      have A4 := hide (heap_alloc_new u4 (.cells #[.slice so4 k4 p4, .slice co4 k5 q4, .string (mkS l), .int .i64 0] 30))
      have X4 := hide ((bb.block _ (blkS X3.out)).trans X3.out)
      have Y4 := hide ((bb.block _ (blkS Y3.out)).trans Y3.out)
      have O4 := hide (O3.out.below bb)
      have O24 := hide (O23.out.below bb)
      have B4 := hide (B3.out.trans (bb.mono B3.out.size))
      clear hm4 hl hl1 hl2 RW ba bb o4 b4 X3 Y3 O3 O23 B3 y0 y1 y2 y3 yf
      go_upto_region 9 with fail
      generalize u4.alloc (.cells #[.slice so4 k4 p4, .slice co4 k5 q4, .string (mkS l), .int .i64 0] 30) = W4 at *
      generalize u4.heap.size = g10 at *
      obtain ⟨y0, y1, y2, y3, yf⟩ := cells4 Y4.out
      go_wp2_with fail
      refine (implDiskFlush_any _ _ _ D _ HDF.out.1 HDF.out.2 O24.out).mono ?_
      rintro e u5 ⟨s5, c5, rfl, o5, b5⟩
      obtain ⟨so5, k6, p5, co5, k7, q5, rfl, rfl, hm5⟩ := o5.shp
      have A5 := hide ((b5.block _ (blkS A4.out)).trans A4.out)
      have X5 := hide ((b5.block _ (blkS X4.out)).trans X4.out)
      have Y5 := hide ((b5.block _ (blkS Y4.out)).trans Y4.out)
      have O5 := hide (O4.out.below b5)
      have O25 := hide (O24.out.below b5)
      have F5 := hide o5
      have B5 := hide (B4.out.trans (b5.mono B4.out.size))
      clear hm5 o5 b5 A4 X4 Y4 O4 O24 B4 y0 y1 y2 y3 yf
      go_wp2_with fail
      refine (implDiskRead_any _ _ _ (dkFlush D) k mt _ HFF.out.1 HFF.out.2 HAK.out.1 HAK.out.2 F5.out).mono ?_
      rintro e u6 ⟨s6, c6, rfl, o6, b6⟩
      rw [RF.out, HL.out] at o6 ⊢
      obtain ⟨so6, k8, p6, co6, k9, q6, rfl, rfl, hm6⟩ := o6.shp
      have ba := (Below.refl u6.heap.size u6).alloc (Nat.le_refl _) (.cells #[.slice so6 k8 p6, .slice co6 k9 q6, .string (mkS l), .int .i64 0] 30)
      have bb := b6.trans (ba.mono b6.size)
      have C6 := hide (heap_alloc_new u6 (.cells #[.slice so6 k8 p6, .slice co6 k9 q6, .string (mkS l), .int .i64 0] 30))
      have A6 := hide ((bb.block _ (blkS A5.out)).trans A5.out)
      have X6 := hide ((bb.block _ (blkS X5.out)).trans X5.out)
      have Y6 := hide ((bb.block _ (blkS Y5.out)).trans Y5.out)
      have O6 := hide (O5.out.below bb)
      have O26 := hide (O25.out.below bb)
      have B6 := hide (B5.out.trans (bb.mono B5.out.size))
      clear hm6 o6 b6 ba bb A5 X5 Y5 O5 O25 F5 B5
      go_upto_region 10 with fail
      generalize u6.alloc (.cells #[.slice so6 k8 p6, .slice co6 k9 q6, .string (mkS l), .int .i64 0] 30) = W6 at *
      generalize u6.heap.size = g11 at *
      obtain ⟨y0, y1, y2, y3, yf⟩ := cells4 Y6.out
      obtain ⟨a0', a1', a2', a3', af'⟩ := cells4 A6.out
      obtain ⟨c0', c1', c2', c3', cf'⟩ := cells4 C6.out
      have hsz : (mkS l).size = mt * 64 := by rw [mkS_size]; exact HLL.out.1
      have hle : t.size ≤ mt * 64 := by
        have := congrArg List.length HLL.out.2
        rw [List.length_take, len_data] at this
        have := HLL.out.1
        omega
      have hex : (mkS l).extract 0 t.size = t := by
        have e : (mkS l).extract 0 t.size = mkS (l.take t.size) := by
          unfold mkS; rw [ByteArray.extract_mk]; simp
        rw [e, HLL.out.2, mkS_data]
      have hm4 := HMS.out
      have hwr : IntKind.i64.wrap ((mt : Int) * 64) = (mt : Int) * 64 := by rw [IntKind.wrap_i64]; omega
      have hnn : ((mt : Int) * 64 != (mt : Int) * 64) = false := by simp
      generalize hT : mkS l = T at *
      obtain ⟨i0, hi, hz0, hz1, hz2⟩ := info_parts Try.infoBoolD
      have hm2 : m2 ≤ 400 := by have := HM2.out.2; have := (dkRight_bounds HRX'.out).2; omega
      go_wp2_with (first | (go_at_call 14; refine (implDiskRight_own _ _ _ D _ HDF.out.1 O26.out).mono ?_; rintro e u7 ⟨rfl, b7⟩; rw [HRX'.out]; have A7 := hide ((b7.block _ (blkS A6.out)).trans A6.out); have C7 := hide ((b7.block _ (blkS C6.out)).trans C6.out); have X7 := hide ((b7.block _ (blkS X6.out)).trans X6.out); have Y7 := hide ((b7.block _ (blkS Y6.out)).trans Y6.out); have O7 := hide (O6.out.below b7); have O27 := hide (O26.out.below b7); have B7 := hide (B6.out.trans (b7.mono B6.out.size)); clear b7 A6 C6 X6 Y6 O6 O26 B6 y0 y1 y2 y3 yf a0' a1' a2' a3' af' c0' c1' c2' c3' cf'; obtain ⟨y0, y1, y2, y3, yf⟩ := cells4 Y7.out; obtain ⟨a0', a1', a2', a3', af'⟩ := cells4 A7.out; obtain ⟨c0', c1', c2', c3', cf'⟩ := cells4 C7.out) | (at_make; refine wpList_make_full _ rfl _ _ 35 rfl u7.heap.size 4 i0 (.bool false) 1 Try.underlying35 hi hz0 hz1 .i64 .i64 _ _ m2 rfl rfl rfl rfl (by rw [hz2]; omega) (by unfold maxLen; omega) (Nat.le_refl _) ?_; intro u8 hown8 hgrow8; rw [made_bools] at hown8; have L8 : Hid (OwnL u7.heap.size (.slice (some ⟨u7.heap.size, 0, none⟩) m2 m2) (List.replicate m2 false) u8) := (by show World.ownsRow _ _ _ _ _ _ _; rw [List.length_replicate]; exact hown8); have b8 := (Below.refl u7.heap.size u7).grown hgrow8 (Nat.le_refl _) (fun j hj => by simp at hj); clear hown8 hgrow8))
      obtain ⟨cur0, hg0, hl0⟩ : ∃ cur : List Value, u8.heap[u7.heap.size]? = some (.cells cur.toArray 4 (0, 0)) ∧ cur.length = m2 := by
        rcases L8.out.2 with ⟨h, _⟩ | ⟨g, cap', cur, hv, _, hg, _, _, hs, _⟩
        · simp at h
        · simp at hv
          obtain ⟨rfl, rfl⟩ := hv
          exact ⟨cur.toList, by simpa using hg, by simpa using hs⟩
      have HLR := hide (show (List.replicate m2 true).length = m2 from List.length_replicate)
      have HB8 := hide b8
      clear L8 b8 y0 y1 y2 y3 yf a0' a1' a2' a3' af' c0' c1' c2' c3' cf' A7 C7 hsz hle hex hwr hnn hi hz0 hz1 hz2 i0
      go_loopw [13] (fun i wr => ∃ (k : Nat) (cur : List Value), k ≤ m2 ∧ i = .int .i64 k ∧ cur.length = m2 ∧ Hid (wr.heap[u7.heap.size]? = some (.cells cur.toArray 4 (0, 0))) ∧ Hid (cur.take k = boolsV ((List.replicate m2 true).take k)) ∧ Hid (Below u7.heap.size u7 wr)) (fun i _ => m2 - (intOf i).toNat)
      case atStart => exact ⟨0, cur0, Nat.zero_le _, rfl, hl0, hg0, (by show _ = _; simp [boolsV]), HB8.out⟩
      case round =>
        obtain ⟨i, cur, hik, rfl, hlen, HG, HC, HB⟩ := hrel
        clear hg0 hl0 HB8
        by_cases hlt : i < m2
        · obtain ⟨HC2, hlen2⟩ := bools_step cur (List.replicate m2 true) i (by rw [HLR.out]; exact hlt) (by rw [HLR.out]; exact hlen) HC.out true (by simp [List.getD_eq_getElem?_getD, hlt])
          have HC3 : Hid ((cur.set i (.bool true)).take (i + 1) = boolsV ((List.replicate m2 true).take (i + 1))) := HC2
          rw [HLR.out] at hlen2
          obtain ⟨x0, hx0⟩ : ∃ v, cur[i]? = some v := ⟨_, List.getElem?_eq_getElem (by omega)⟩
          have e0 : wr.cell? ⟨u7.heap.size, i, none⟩ = some x0 := by rw [cell_of_row _ _ _ _ _ _ HG.out, List.getElem?_toArray, hx0]
          have ef : ∀ j, wr.frozen? ⟨u7.heap.size, j, none⟩ = false := fun j => frozen_of_row _ _ _ _ _ HG.out
          have hq := (Int.toNat_natCast i)
          have hi0 : (0 : Int) ≤ (i : Int) := by omega
          have hi1 : (i : Int) < (m2 : Int) := by omega
          have HLEN := hide hlen2
          clear HC HC2 hx0 hlen hlen2
          go_wp2
          go_roundw
          case rel => exact ⟨i + 1, _, by omega, by go_num, HLEN.out, (by show _ = _; rw [heap_setCell_same _ _ _ _ _ _ HG.out]; simp), HC3, (by exact HB.out.setCell (Nat.le_refl _) _)⟩
          case measure => simp [intOf]; omega
        · obtain rfl : i = m2 := by omega
          have hlw : u7.heap.size < wr.heap.size := blkS HG.out
          have X8 := hide ((HB.out.block _ (blkS X7.out)).trans X7.out)
          have Y8 := hide ((HB.out.block _ (blkS Y7.out)).trans Y7.out)
          have O8 := hide (O7.out.below HB.out)
          have O28 := hide (O27.out.below HB.out)
          have B8 := hide (B7.out.trans (HB.out.mono B7.out.size))
          have L8 := hide (ownL_rep (Nat.le_refl _) (by omega) HG.out hlen (by have h9 := HC.out; rwa [List.take_of_length_le (l := List.replicate i true) (by rw [HLR.out]; exact Nat.le_refl _)] at h9))
          clear HC HG HB X7 Y7 O7 O27 B7 hlen cur cur0
          have hca := crash_all HRX'.out
          rw [← HM2.out.2] at hca
          have HCA := hide hca
          obtain ⟨y0, y1, y2, y3, yf⟩ := cells4 Y8.out
          clear hca
          go_wp2_with fail
          refine (implDiskCrash_any _ _ _ _ _ D (List.replicate i true) _ HDF.out.1 HDF.out.2 (by rw [HLR.out]; omega) O28.out L8.out).mono ?_
          rintro e u9 ⟨s9, c9, rfl, o9, b9⟩
          rw [HCA.out] at o9
          obtain ⟨so9, j1, p9, co9, j2, q9, rfl, rfl, hm9⟩ := o9.shp
          have ba := (Below.refl u9.heap.size u9).alloc (Nat.le_refl _) (.cells #[.slice so9 j1 p9, .slice co9 j2 q9] 26)
          have bb := b9.trans (ba.mono b9.size)
          have HH := hide (show DLF w w.heap.size _ _ g5 g8 u9.heap.size (.slice so n1 p) (.slice co n2 q) (.slice so2 m1 p2) (.slice co2 i q2) (.slice so9 j1 p9) (.slice co9 j2 q9) d D (dkFlush D) (u9.alloc (.cells #[.slice so9 j1 p9, .slice co9 j2 q9] 26)) from
            ⟨B8.out.trans (bb.mono B8.out.size), (bb.block _ (blkS X8.out)).trans X8.out, (bb.block _ (blkS Y8.out)).trans Y8.out, heap_alloc_new u9 _, O8.out.below bb, O28.out.below bb, o9.below ba⟩)
          clear hm9 ba bb o9 b9 L8 B8 X8 Y8 O8 O28 y0 y1 y2 y3 yf HCA hlw
          go_upto_region 18 with fail
          generalize u9.alloc (.cells #[.slice so9 j1 p9, .slice co9 j2 q9] 26) = W9 at *
          generalize u9.heap.size = g14 at *
          obtain ⟨⟨x0, x1⟩, ⟨y0, y1⟩, z0', z1'⟩ := HH.out.cells
          have hn1 : n1 ≤ 700 := by rw [HM.out.1]; exact (dkRight_bounds HR'.out).1
          go_upto_region 19 with (go_at_call 16; refine (lwAtD_any w.heap.size a1 len1 cap1 z1 0 n1 (by omega) _ (by omega) (R1.out.kept HH.out.b)).mono ?_; rintro e wx ⟨kk, rfl, hkk, rfl⟩)
          generalize wr.heap.size = l14 at HH
          have HN1 := hide hn1
          have HKB : Hid (kk ≤ 700) := by show _ ≤ _; omega
          have HW : Hid (wI64 (kk : Int) ∧ wI64 1) := ⟨by unfold wI64; omega, by unfold wI64; omega⟩
          obtain ⟨T1, hT1⟩ : ∃ x, x = (dkRead d (kk : Int) 1).2 := ⟨_, rfl⟩
          clear hlt hik R1
          go_cut [157] from 130 to 157 (fun qv W => qv = .bool false ∧ Hid (DLF w w.heap.size (u1.alloc (.cells #[.slice so n1 p, .slice co n2 q] 26)).heap.size l14 g5 g8 g14 (.slice so n1 p) (.slice co n2 q) (.slice so2 m1 p2) (.slice co2 i q2) (.slice so9 j1 p9) (.slice co9 j2 q9) d D (dkFlush D) W))
          case first =>
            have HD := hide (HH.out.below (Below.refl _ _).drew)
            clear HH
            by_cases hz : 0 < n1
            · have hgz : decide ((0 : Int) < (n1 : Int)) = true := by simp; omega
              have hkn : kk < d.secs.length := by rw [← HM.out.1]; omega
              by_cases hA : kk < k
              · have hg1 : decide ((kk : Int) < (k : Int)) = true := by simp; omega
                have HT := hide (And.intro ((congrArg Prod.snd (RO.out kk hkn (.inl hA))).trans hT1.symm) hT1.symm)
                clear hT1 hkn hkk hn1
                refine wp_region_noPanic ?_
                refine wp_region_held_drew (S := (fun W => (W.cell? ⟨g5, 0, none⟩ = some (.slice so n1 p) ∧ W.cell? ⟨g5, 1, none⟩ = some (.slice co n2 q)) ∧ (W.cell? ⟨g8, 0, none⟩ = some (.slice so2 m1 p2) ∧ W.cell? ⟨g8, 1, none⟩ = some (.slice co2 i q2)))) (by kernel_rfl) ?_ (fun hHeld => ?_)
                · (try dsimp only); go_keep
                refine takeD 0 130 (v := ?v1x0) rfl rfl (by kernel_rfl) (by kernel_rfl) (by kernel_rfl) (fun _ _ _ h => h) (by kernel_rfl) ?hy1x0 (by assumption) ?r1x0
                case hy1x0 => (intro W hSw; (try dsimp only at hSw); go_simp; try with_reducible rfl)
                simp only [Act.put, List.setIfInBounds_toArray, List.set_cons_zero, List.set_cons_succ]
                refine takeD 1 131 (v := ?v1x1) rfl rfl (by kernel_rfl) (by kernel_rfl) (by kernel_rfl) (fun _ _ _ h => h) (by kernel_rfl) ?hy1x1 (by assumption) ?r1x1
                case hy1x1 => (intro W hSw; (try dsimp only at hSw); go_simp; try with_reducible rfl)
                simp only [Act.put, List.setIfInBounds_toArray, List.set_cons_zero, List.set_cons_succ]
                refine takeD 2 132 (v := ?v1x2) rfl rfl (by kernel_rfl) (by kernel_rfl) (by kernel_rfl) (fun _ _ _ h => h) (by kernel_rfl) ?hy1x2 (by assumption) ?r1x2
                case hy1x2 => (intro W hSw; (try dsimp only at hSw); go_simp; try with_reducible rfl)
                simp only [Act.put, List.setIfInBounds_toArray, List.set_cons_zero, List.set_cons_succ]
                refine takeD 3 133 (v := ?v1x3) rfl rfl (by kernel_rfl) (by kernel_rfl) (by kernel_rfl) (fun _ _ _ h => h) (by kernel_rfl) ?hy1x3 (by assumption) ?r1x3
                case hy1x3 => (intro W hSw; (try dsimp only at hSw); go_simp; try with_reducible rfl)
                simp only [Act.put, List.setIfInBounds_toArray, List.set_cons_zero, List.set_cons_succ]
                refine takeD 4 134 (v := ?v1x4) rfl rfl (by kernel_rfl) (by kernel_rfl) (by kernel_rfl) (fun _ _ _ h => h) (by kernel_rfl) ?hy1x4 (by assumption) ?r1x4
                case hy1x4 => (intro W hSw; (try dsimp only at hSw); go_simp; try with_reducible rfl)
                simp only [Act.put, List.setIfInBounds_toArray, List.set_cons_zero, List.set_cons_succ]
                refine takeD 5 135 (v := ?v1x5) rfl rfl (by kernel_rfl) (by kernel_rfl) (by kernel_rfl) (fun _ _ _ h => h) (by kernel_rfl) ?hy1x5 (by assumption) ?r1x5
                case hy1x5 => (intro W hSw; (try dsimp only at hSw); go_simp; try with_reducible rfl)
                simp only [Act.put, List.setIfInBounds_toArray, List.set_cons_zero, List.set_cons_succ]
                refine takeD 6 136 (v := ?v1x6) rfl rfl (by kernel_rfl) (by kernel_rfl) (by kernel_rfl) (fun _ _ _ h => h) (by kernel_rfl) ?hy1x6 (by assumption) ?r1x6
                case hy1x6 => (intro W hSw; (try dsimp only at hSw); go_simp; try with_reducible rfl)
                simp only [Act.put, List.setIfInBounds_toArray, List.set_cons_zero, List.set_cons_succ]
                refine takeD 7 137 (v := ?v1x7) rfl rfl (by kernel_rfl) (by kernel_rfl) (by kernel_rfl) (fun _ _ _ h => h) (by kernel_rfl) ?hy1x7 (by assumption) ?r1x7
                case hy1x7 => (intro W hSw; (try dsimp only at hSw); go_simp; try with_reducible rfl)
                simp only [Act.put, List.setIfInBounds_toArray, List.set_cons_zero, List.set_cons_succ]
                refine takeD 8 138 (v := ?v1x8) rfl rfl (by kernel_rfl) (by kernel_rfl) (by kernel_rfl) (fun _ _ _ h => h) (by kernel_rfl) ?hy1x8 (by assumption) ?r1x8
                case hy1x8 => (intro W hSw; (try dsimp only at hSw); go_simp; try with_reducible rfl)
                simp only [Act.put, List.setIfInBounds_toArray, List.set_cons_zero, List.set_cons_succ]
                refine skipAll [(9, 139), (10, 140), (11, 141), (12, 142), (13, 143)] (by kernel_rfl) (fun _ _ _ _ _ h => h) (by assumption) (by kernel_rfl) ?_
                simp only [putAll, listAll, List.foldl_cons, List.foldl_nil, Act.put, List.setIfInBounds_toArray, List.set_cons_zero, List.set_cons_succ]
                refine takeD 14 144 (v := ?v1x14) rfl rfl (by kernel_rfl) (by kernel_rfl) (by kernel_rfl) (fun _ _ _ h => h) (by kernel_rfl) ?hy1x14 (by assumption) ?r1x14
                case hy1x14 => (intro W hSw; (try dsimp only at hSw); go_simp; try with_reducible rfl)
                simp only [Act.put, List.setIfInBounds_toArray, List.set_cons_zero, List.set_cons_succ]
                refine takeD 15 145 (v := ?v1x15) rfl rfl (by kernel_rfl) (by kernel_rfl) (by kernel_rfl) (fun _ _ _ h => h) (by kernel_rfl) ?hy1x15 (by assumption) ?r1x15
                case hy1x15 => (intro W hSw; (try dsimp only at hSw); go_simp; try with_reducible rfl)
                simp only [Act.put, List.setIfInBounds_toArray, List.set_cons_zero, List.set_cons_succ]
                refine takeD 16 146 (v := ?v1x16) rfl rfl (by kernel_rfl) (by kernel_rfl) (by kernel_rfl) (fun _ _ _ h => h) (by kernel_rfl) ?hy1x16 (by assumption) ?r1x16
                case hy1x16 => (intro W hSw; (try dsimp only at hSw); go_simp; try with_reducible rfl)
                simp only [Act.put, List.setIfInBounds_toArray, List.set_cons_zero, List.set_cons_succ]
                refine takeD 17 147 (v := ?v1x17) rfl rfl (by kernel_rfl) (by kernel_rfl) (by kernel_rfl) (fun _ _ _ h => h) (by kernel_rfl) ?hy1x17 (by assumption) ?r1x17
                case hy1x17 => (intro W hSw; (try dsimp only at hSw); go_simp; try with_reducible rfl)
                simp only [Act.put, List.setIfInBounds_toArray, List.set_cons_zero, List.set_cons_succ]
                refine takeD 18 148 (v := ?v1x18) rfl rfl (by kernel_rfl) (by kernel_rfl) (by kernel_rfl) (fun _ _ _ h => h) (by kernel_rfl) ?hy1x18 (by assumption) ?r1x18
                case hy1x18 => (intro W hSw; (try dsimp only at hSw); go_simp; try with_reducible rfl)
                simp only [Act.put, List.setIfInBounds_toArray, List.set_cons_zero, List.set_cons_succ]
                refine takeD 19 149 (v := ?v1x19) rfl rfl (by kernel_rfl) (by kernel_rfl) (by kernel_rfl) (fun _ _ _ h => h) (by kernel_rfl) ?hy1x19 (by assumption) ?r1x19
                case hy1x19 => (intro W hSw; (try dsimp only at hSw); go_simp; try with_reducible rfl)
                simp only [Act.put, List.setIfInBounds_toArray, List.set_cons_zero, List.set_cons_succ]
                refine takeD 22 152 (v := ?v1x22) rfl rfl (by kernel_rfl) (by kernel_rfl) (by kernel_rfl) (fun _ _ _ h => h) (by kernel_rfl) ?hy1x22 (by assumption) ?r1x22
                case hy1x22 => (intro W hSw; (try dsimp only at hSw); go_simp; try with_reducible rfl)
                simp only [Act.put, List.setIfInBounds_toArray, List.set_cons_zero, List.set_cons_succ]
                refine takeD 23 153 (v := ?v1x23) rfl rfl (by kernel_rfl) (by kernel_rfl) (by kernel_rfl) (fun _ _ _ h => h) (by kernel_rfl) ?hy1x23 (by assumption) ?r1x23
                case hy1x23 => (intro W hSw; (try dsimp only at hSw); go_simp; try with_reducible rfl)
                simp only [Act.put, List.setIfInBounds_toArray, List.set_cons_zero, List.set_cons_succ]
                refine wpAnyH_ready (rs := [20]) (by kernel_rfl) (by simp) ?_
                refine AllReadyH.cons (o := _) rfl (fun K hK => ?_) AllReadyH.nil
                go_simp
                go_at_call 12
                refine (rdI_out _ _ _ D kk 1 _ HDF.out.1 HDF.out.2 HW.out.1 HW.out.2 T1 HT.out.1 HD.out.oD).mono ?_
                rintro e u10 ⟨o1, e1, e2, o2, e3, e4, e5, rfl, b10⟩
                replace HD := hide (HD.out.below b10)
                clear b10
                clear x0 x1 y0 y1 z0' z1'
                obtain ⟨⟨x0, x1⟩, ⟨y0, y1⟩, z0', z1'⟩ := HD.out.cells
                go_wp2_with fail
                refine hK.out _ _ ?_ (fun hHeld2 => ?_)
                · (try dsimp only); go_keep
                clear hK K hHeld
                have hHeld := hHeld2
                clear hHeld2
                try simp only [Act.put, List.setIfInBounds_toArray, List.set_cons_zero, List.set_cons_succ]
                refine takeD 21 151 (v := ?v1x21) rfl rfl (by kernel_rfl) (by kernel_rfl) (by kernel_rfl) (fun _ _ _ h => h) (by kernel_rfl) ?hy1x21 (by assumption) ?r1x21
                case hy1x21 => (intro W hSw; (try dsimp only at hSw); go_simp; try with_reducible rfl)
                simp only [Act.put, List.setIfInBounds_toArray, List.set_cons_zero, List.set_cons_succ]
                refine wpAnyH_ready (rs := [24]) (by kernel_rfl) (by simp) ?_
                refine AllReadyH.cons (o := _) rfl (fun K hK => ?_) AllReadyH.nil
                go_simp
                go_at_call 17
                refine (rdS_out _ _ _ d kk 1 _ HIF.out.1 HIF.out.2 HW.out.1 HW.out.2 T1 HT.out.2 HD.out.od).mono ?_
                rintro e u10 ⟨o1, e1, e2, o2, e3, e4, e5, rfl, b10⟩
                replace HD := hide (HD.out.below b10)
                clear b10
                clear x0 x1 y0 y1 z0' z1'
                obtain ⟨⟨x0, x1⟩, ⟨y0, y1⟩, z0', z1'⟩ := HD.out.cells
                go_wp2_with fail
                refine hK.out _ _ ?_ (fun hHeld2 => ?_)
                · (try dsimp only); go_keep
                clear hK K hHeld
                have hHeld := hHeld2
                clear hHeld2
                try simp only [Act.put, List.setIfInBounds_toArray, List.set_cons_zero, List.set_cons_succ]
                refine takeD 25 155 (v := ?v1x25) rfl rfl (by kernel_rfl) (by kernel_rfl) (by kernel_rfl) (fun _ _ _ h => h) (by kernel_rfl) ?hy1x25 (by assumption) ?r1x25
                case hy1x25 => (intro W hSw; (try dsimp only at hSw); go_simp; try with_reducible rfl)
                simp only [Act.put, List.setIfInBounds_toArray, List.set_cons_zero, List.set_cons_succ]
                refine takeD 26 156 (v := ?v1x26) rfl rfl (by kernel_rfl) (by kernel_rfl) (by kernel_rfl) (fun _ _ _ h => h) (by kernel_rfl) ?hy1x26 (by assumption) ?r1x26
                case hy1x26 => (intro W hSw; (try dsimp only at hSw); go_simp; try with_reducible rfl)
                simp only [Act.put, List.setIfInBounds_toArray, List.set_cons_zero, List.set_cons_succ]
                refine takeD 27 157 (v := ?v1x27) rfl rfl (by kernel_rfl) (by kernel_rfl) (by kernel_rfl) (fun _ _ _ h => h) (by kernel_rfl) ?hy1x27 (by assumption) ?r1x27
                case hy1x27 => (intro W hSw; (try dsimp only at hSw); go_simp; try with_reducible rfl)
                simp only [Act.put, List.setIfInBounds_toArray, List.set_cons_zero, List.set_cons_succ]
                refine wpAnyH_done (by kernel_rfl) ?_ _
                refine NoPanic.normal ?_
                go_wp2_with fail
                go_meet
                exact ⟨rfl, HD⟩
              · have hg1 : decide ((kk : Int) < (k : Int)) = false := by simp; omega
                have hwa : IntKind.i64.wrap ((k : Int) + (mt : Int)) = (k : Int) + (mt : Int) := by have := HK.out.1; rw [← HM.out.1] at this; rw [IntKind.wrap_i64]; omega
                by_cases hB : k + mt ≤ kk
                · have hg2 : decide ((k : Int) + (mt : Int) ≤ (kk : Int)) = true := by simp; omega
                  have HT := hide (And.intro ((congrArg Prod.snd (RO.out kk hkn (.inr hB))).trans hT1.symm) hT1.symm)
                  clear hT1 hkn hkk hn1
                  refine wp_region_noPanic ?_
                  refine wp_region_held_drew (S := (fun W => (W.cell? ⟨g5, 0, none⟩ = some (.slice so n1 p) ∧ W.cell? ⟨g5, 1, none⟩ = some (.slice co n2 q)) ∧ (W.cell? ⟨g8, 0, none⟩ = some (.slice so2 m1 p2) ∧ W.cell? ⟨g8, 1, none⟩ = some (.slice co2 i q2)))) (by kernel_rfl) ?_ (fun hHeld => ?_)
                  · (try dsimp only); go_keep
                  refine takeD 0 130 (v := ?v2x0) rfl rfl (by kernel_rfl) (by kernel_rfl) (by kernel_rfl) (fun _ _ _ h => h) (by kernel_rfl) ?hy2x0 (by assumption) ?r2x0
                  case hy2x0 => (intro W hSw; (try dsimp only at hSw); go_simp; try with_reducible rfl)
                  simp only [Act.put, List.setIfInBounds_toArray, List.set_cons_zero, List.set_cons_succ]
                  refine takeD 1 131 (v := ?v2x1) rfl rfl (by kernel_rfl) (by kernel_rfl) (by kernel_rfl) (fun _ _ _ h => h) (by kernel_rfl) ?hy2x1 (by assumption) ?r2x1
                  case hy2x1 => (intro W hSw; (try dsimp only at hSw); go_simp; try with_reducible rfl)
                  simp only [Act.put, List.setIfInBounds_toArray, List.set_cons_zero, List.set_cons_succ]
                  refine takeD 2 132 (v := ?v2x2) rfl rfl (by kernel_rfl) (by kernel_rfl) (by kernel_rfl) (fun _ _ _ h => h) (by kernel_rfl) ?hy2x2 (by assumption) ?r2x2
                  case hy2x2 => (intro W hSw; (try dsimp only at hSw); go_simp; try with_reducible rfl)
                  simp only [Act.put, List.setIfInBounds_toArray, List.set_cons_zero, List.set_cons_succ]
                  refine takeD 3 133 (v := ?v2x3) rfl rfl (by kernel_rfl) (by kernel_rfl) (by kernel_rfl) (fun _ _ _ h => h) (by kernel_rfl) ?hy2x3 (by assumption) ?r2x3
                  case hy2x3 => (intro W hSw; (try dsimp only at hSw); go_simp; try with_reducible rfl)
                  simp only [Act.put, List.setIfInBounds_toArray, List.set_cons_zero, List.set_cons_succ]
                  refine takeD 4 134 (v := ?v2x4) rfl rfl (by kernel_rfl) (by kernel_rfl) (by kernel_rfl) (fun _ _ _ h => h) (by kernel_rfl) ?hy2x4 (by assumption) ?r2x4
                  case hy2x4 => (intro W hSw; (try dsimp only at hSw); go_simp; try with_reducible rfl)
                  simp only [Act.put, List.setIfInBounds_toArray, List.set_cons_zero, List.set_cons_succ]
                  refine takeD 5 135 (v := ?v2x5) rfl rfl (by kernel_rfl) (by kernel_rfl) (by kernel_rfl) (fun _ _ _ h => h) (by kernel_rfl) ?hy2x5 (by assumption) ?r2x5
                  case hy2x5 => (intro W hSw; (try dsimp only at hSw); go_simp; try with_reducible rfl)
                  simp only [Act.put, List.setIfInBounds_toArray, List.set_cons_zero, List.set_cons_succ]
                  refine takeD 6 136 (v := ?v2x6) rfl rfl (by kernel_rfl) (by kernel_rfl) (by kernel_rfl) (fun _ _ _ h => h) (by kernel_rfl) ?hy2x6 (by assumption) ?r2x6
                  case hy2x6 => (intro W hSw; (try dsimp only at hSw); go_simp; try with_reducible rfl)
                  simp only [Act.put, List.setIfInBounds_toArray, List.set_cons_zero, List.set_cons_succ]
                  refine takeD 7 137 (v := ?v2x7) rfl rfl (by kernel_rfl) (by kernel_rfl) (by kernel_rfl) (fun _ _ _ h => h) (by kernel_rfl) ?hy2x7 (by assumption) ?r2x7
                  case hy2x7 => (intro W hSw; (try dsimp only at hSw); go_simp; try with_reducible rfl)
                  simp only [Act.put, List.setIfInBounds_toArray, List.set_cons_zero, List.set_cons_succ]
                  refine takeD 8 138 (v := ?v2x8) rfl rfl (by kernel_rfl) (by kernel_rfl) (by kernel_rfl) (fun _ _ _ h => h) (by kernel_rfl) ?hy2x8 (by assumption) ?r2x8
                  case hy2x8 => (intro W hSw; (try dsimp only at hSw); go_simp; try with_reducible rfl)
                  simp only [Act.put, List.setIfInBounds_toArray, List.set_cons_zero, List.set_cons_succ]
                  refine takeD 9 139 (v := ?v2x9) rfl rfl (by kernel_rfl) (by kernel_rfl) (by kernel_rfl) (fun _ _ _ h => h) (by kernel_rfl) ?hy2x9 (by assumption) ?r2x9
                  case hy2x9 => (intro W hSw; (try dsimp only at hSw); go_simp; try with_reducible rfl)
                  simp only [Act.put, List.setIfInBounds_toArray, List.set_cons_zero, List.set_cons_succ]
                  refine takeD 10 140 (v := ?v2x10) rfl rfl (by kernel_rfl) (by kernel_rfl) (by kernel_rfl) (fun _ _ _ h => h) (by kernel_rfl) ?hy2x10 (by assumption) ?r2x10
                  case hy2x10 => (intro W hSw; (try dsimp only at hSw); go_simp; try with_reducible rfl)
                  simp only [Act.put, List.setIfInBounds_toArray, List.set_cons_zero, List.set_cons_succ]
                  refine takeD 11 141 (v := ?v2x11) rfl rfl (by kernel_rfl) (by kernel_rfl) (by kernel_rfl) (fun _ _ _ h => h) (by kernel_rfl) ?hy2x11 (by assumption) ?r2x11
                  case hy2x11 => (intro W hSw; (try dsimp only at hSw); go_simp; try with_reducible rfl)
                  simp only [Act.put, List.setIfInBounds_toArray, List.set_cons_zero, List.set_cons_succ]
                  refine takeD 12 142 (v := ?v2x12) rfl rfl (by kernel_rfl) (by kernel_rfl) (by kernel_rfl) (fun _ _ _ h => h) (by kernel_rfl) ?hy2x12 (by assumption) ?r2x12
                  case hy2x12 => (intro W hSw; (try dsimp only at hSw); go_simp; try with_reducible rfl)
                  simp only [Act.put, List.setIfInBounds_toArray, List.set_cons_zero, List.set_cons_succ]
                  refine takeD 13 143 (v := ?v2x13) rfl rfl (by kernel_rfl) (by kernel_rfl) (by kernel_rfl) (fun _ _ _ h => h) (by kernel_rfl) ?hy2x13 (by assumption) ?r2x13
                  case hy2x13 => (intro W hSw; (try dsimp only at hSw); go_simp; try with_reducible rfl)
                  simp only [Act.put, List.setIfInBounds_toArray, List.set_cons_zero, List.set_cons_succ]
                  refine takeD 14 144 (v := ?v2x14) rfl rfl (by kernel_rfl) (by kernel_rfl) (by kernel_rfl) (fun _ _ _ h => h) (by kernel_rfl) ?hy2x14 (by assumption) ?r2x14
                  case hy2x14 => (intro W hSw; (try dsimp only at hSw); go_simp; try with_reducible rfl)
                  simp only [Act.put, List.setIfInBounds_toArray, List.set_cons_zero, List.set_cons_succ]
                  refine takeD 15 145 (v := ?v2x15) rfl rfl (by kernel_rfl) (by kernel_rfl) (by kernel_rfl) (fun _ _ _ h => h) (by kernel_rfl) ?hy2x15 (by assumption) ?r2x15
                  case hy2x15 => (intro W hSw; (try dsimp only at hSw); go_simp; try with_reducible rfl)
                  simp only [Act.put, List.setIfInBounds_toArray, List.set_cons_zero, List.set_cons_succ]
                  refine takeD 16 146 (v := ?v2x16) rfl rfl (by kernel_rfl) (by kernel_rfl) (by kernel_rfl) (fun _ _ _ h => h) (by kernel_rfl) ?hy2x16 (by assumption) ?r2x16
                  case hy2x16 => (intro W hSw; (try dsimp only at hSw); go_simp; try with_reducible rfl)
                  simp only [Act.put, List.setIfInBounds_toArray, List.set_cons_zero, List.set_cons_succ]
                  refine takeD 17 147 (v := ?v2x17) rfl rfl (by kernel_rfl) (by kernel_rfl) (by kernel_rfl) (fun _ _ _ h => h) (by kernel_rfl) ?hy2x17 (by assumption) ?r2x17
                  case hy2x17 => (intro W hSw; (try dsimp only at hSw); go_simp; try with_reducible rfl)
                  simp only [Act.put, List.setIfInBounds_toArray, List.set_cons_zero, List.set_cons_succ]
                  refine takeD 18 148 (v := ?v2x18) rfl rfl (by kernel_rfl) (by kernel_rfl) (by kernel_rfl) (fun _ _ _ h => h) (by kernel_rfl) ?hy2x18 (by assumption) ?r2x18
                  case hy2x18 => (intro W hSw; (try dsimp only at hSw); go_simp; try with_reducible rfl)
                  simp only [Act.put, List.setIfInBounds_toArray, List.set_cons_zero, List.set_cons_succ]
                  refine takeD 19 149 (v := ?v2x19) rfl rfl (by kernel_rfl) (by kernel_rfl) (by kernel_rfl) (fun _ _ _ h => h) (by kernel_rfl) ?hy2x19 (by assumption) ?r2x19
                  case hy2x19 => (intro W hSw; (try dsimp only at hSw); go_simp; try with_reducible rfl)
                  simp only [Act.put, List.setIfInBounds_toArray, List.set_cons_zero, List.set_cons_succ]
                  refine takeD 22 152 (v := ?v2x22) rfl rfl (by kernel_rfl) (by kernel_rfl) (by kernel_rfl) (fun _ _ _ h => h) (by kernel_rfl) ?hy2x22 (by assumption) ?r2x22
                  case hy2x22 => (intro W hSw; (try dsimp only at hSw); go_simp; try with_reducible rfl)
                  simp only [Act.put, List.setIfInBounds_toArray, List.set_cons_zero, List.set_cons_succ]
                  refine takeD 23 153 (v := ?v2x23) rfl rfl (by kernel_rfl) (by kernel_rfl) (by kernel_rfl) (fun _ _ _ h => h) (by kernel_rfl) ?hy2x23 (by assumption) ?r2x23
                  case hy2x23 => (intro W hSw; (try dsimp only at hSw); go_simp; try with_reducible rfl)
                  simp only [Act.put, List.setIfInBounds_toArray, List.set_cons_zero, List.set_cons_succ]
                  refine wpAnyH_ready (rs := [20]) (by kernel_rfl) (by simp) ?_
                  refine AllReadyH.cons (o := _) rfl (fun K hK => ?_) AllReadyH.nil
                  go_simp
                  go_at_call 12
                  refine (rdI_out _ _ _ D kk 1 _ HDF.out.1 HDF.out.2 HW.out.1 HW.out.2 T1 HT.out.1 HD.out.oD).mono ?_
                  rintro e u10 ⟨o1, e1, e2, o2, e3, e4, e5, rfl, b10⟩
                  replace HD := hide (HD.out.below b10)
                  clear b10
                  clear x0 x1 y0 y1 z0' z1'
                  obtain ⟨⟨x0, x1⟩, ⟨y0, y1⟩, z0', z1'⟩ := HD.out.cells
                  go_wp2_with fail
                  refine hK.out _ _ ?_ (fun hHeld2 => ?_)
                  · (try dsimp only); go_keep
                  clear hK K hHeld
                  have hHeld := hHeld2
                  clear hHeld2
                  try simp only [Act.put, List.setIfInBounds_toArray, List.set_cons_zero, List.set_cons_succ]
                  refine takeD 21 151 (v := ?v2x21) rfl rfl (by kernel_rfl) (by kernel_rfl) (by kernel_rfl) (fun _ _ _ h => h) (by kernel_rfl) ?hy2x21 (by assumption) ?r2x21
                  case hy2x21 => (intro W hSw; (try dsimp only at hSw); go_simp; try with_reducible rfl)
                  simp only [Act.put, List.setIfInBounds_toArray, List.set_cons_zero, List.set_cons_succ]
                  refine wpAnyH_ready (rs := [24]) (by kernel_rfl) (by simp) ?_
                  refine AllReadyH.cons (o := _) rfl (fun K hK => ?_) AllReadyH.nil
                  go_simp
                  go_at_call 17
                  refine (rdS_out _ _ _ d kk 1 _ HIF.out.1 HIF.out.2 HW.out.1 HW.out.2 T1 HT.out.2 HD.out.od).mono ?_
                  rintro e u10 ⟨o1, e1, e2, o2, e3, e4, e5, rfl, b10⟩
                  replace HD := hide (HD.out.below b10)
                  clear b10
                  clear x0 x1 y0 y1 z0' z1'
                  obtain ⟨⟨x0, x1⟩, ⟨y0, y1⟩, z0', z1'⟩ := HD.out.cells
                  go_wp2_with fail
                  refine hK.out _ _ ?_ (fun hHeld2 => ?_)
                  · (try dsimp only); go_keep
                  clear hK K hHeld
                  have hHeld := hHeld2
                  clear hHeld2
                  try simp only [Act.put, List.setIfInBounds_toArray, List.set_cons_zero, List.set_cons_succ]
                  refine takeD 25 155 (v := ?v2x25) rfl rfl (by kernel_rfl) (by kernel_rfl) (by kernel_rfl) (fun _ _ _ h => h) (by kernel_rfl) ?hy2x25 (by assumption) ?r2x25
                  case hy2x25 => (intro W hSw; (try dsimp only at hSw); go_simp; try with_reducible rfl)
                  simp only [Act.put, List.setIfInBounds_toArray, List.set_cons_zero, List.set_cons_succ]
                  refine takeD 26 156 (v := ?v2x26) rfl rfl (by kernel_rfl) (by kernel_rfl) (by kernel_rfl) (fun _ _ _ h => h) (by kernel_rfl) ?hy2x26 (by assumption) ?r2x26
                  case hy2x26 => (intro W hSw; (try dsimp only at hSw); go_simp; try with_reducible rfl)
                  simp only [Act.put, List.setIfInBounds_toArray, List.set_cons_zero, List.set_cons_succ]
                  refine takeD 27 157 (v := ?v2x27) rfl rfl (by kernel_rfl) (by kernel_rfl) (by kernel_rfl) (fun _ _ _ h => h) (by kernel_rfl) ?hy2x27 (by assumption) ?r2x27
                  case hy2x27 => (intro W hSw; (try dsimp only at hSw); go_simp; try with_reducible rfl)
                  simp only [Act.put, List.setIfInBounds_toArray, List.set_cons_zero, List.set_cons_succ]
                  refine wpAnyH_done (by kernel_rfl) ?_ _
                  refine NoPanic.normal ?_
                  go_wp2_with fail
                  go_meet
                  exact ⟨rfl, HD⟩
                · have hg2 : decide ((k : Int) + (mt : Int) ≤ (kk : Int)) = false := by simp; omega
                  clear hT1 hkn hkk hn1
                  refine wp_region_noPanic ?_
                  refine wp_region_held_drew (S := (fun W => (W.cell? ⟨g5, 0, none⟩ = some (.slice so n1 p) ∧ W.cell? ⟨g5, 1, none⟩ = some (.slice co n2 q)) ∧ (W.cell? ⟨g8, 0, none⟩ = some (.slice so2 m1 p2) ∧ W.cell? ⟨g8, 1, none⟩ = some (.slice co2 i q2)))) (by kernel_rfl) ?_ (fun hHeld => ?_)
                  · (try dsimp only); go_keep
                  refine takeD 0 130 (v := ?v3x0) rfl rfl (by kernel_rfl) (by kernel_rfl) (by kernel_rfl) (fun _ _ _ h => h) (by kernel_rfl) ?hy3x0 (by assumption) ?r3x0
                  case hy3x0 => (intro W hSw; (try dsimp only at hSw); go_simp; try with_reducible rfl)
                  simp only [Act.put, List.setIfInBounds_toArray, List.set_cons_zero, List.set_cons_succ]
                  refine takeD 1 131 (v := ?v3x1) rfl rfl (by kernel_rfl) (by kernel_rfl) (by kernel_rfl) (fun _ _ _ h => h) (by kernel_rfl) ?hy3x1 (by assumption) ?r3x1
                  case hy3x1 => (intro W hSw; (try dsimp only at hSw); go_simp; try with_reducible rfl)
                  simp only [Act.put, List.setIfInBounds_toArray, List.set_cons_zero, List.set_cons_succ]
                  refine takeD 2 132 (v := ?v3x2) rfl rfl (by kernel_rfl) (by kernel_rfl) (by kernel_rfl) (fun _ _ _ h => h) (by kernel_rfl) ?hy3x2 (by assumption) ?r3x2
                  case hy3x2 => (intro W hSw; (try dsimp only at hSw); go_simp; try with_reducible rfl)
                  simp only [Act.put, List.setIfInBounds_toArray, List.set_cons_zero, List.set_cons_succ]
                  refine takeD 3 133 (v := ?v3x3) rfl rfl (by kernel_rfl) (by kernel_rfl) (by kernel_rfl) (fun _ _ _ h => h) (by kernel_rfl) ?hy3x3 (by assumption) ?r3x3
                  case hy3x3 => (intro W hSw; (try dsimp only at hSw); go_simp; try with_reducible rfl)
                  simp only [Act.put, List.setIfInBounds_toArray, List.set_cons_zero, List.set_cons_succ]
                  refine takeD 4 134 (v := ?v3x4) rfl rfl (by kernel_rfl) (by kernel_rfl) (by kernel_rfl) (fun _ _ _ h => h) (by kernel_rfl) ?hy3x4 (by assumption) ?r3x4
                  case hy3x4 => (intro W hSw; (try dsimp only at hSw); go_simp; try with_reducible rfl)
                  simp only [Act.put, List.setIfInBounds_toArray, List.set_cons_zero, List.set_cons_succ]
                  refine takeD 5 135 (v := ?v3x5) rfl rfl (by kernel_rfl) (by kernel_rfl) (by kernel_rfl) (fun _ _ _ h => h) (by kernel_rfl) ?hy3x5 (by assumption) ?r3x5
                  case hy3x5 => (intro W hSw; (try dsimp only at hSw); go_simp; try with_reducible rfl)
                  simp only [Act.put, List.setIfInBounds_toArray, List.set_cons_zero, List.set_cons_succ]
                  refine takeD 6 136 (v := ?v3x6) rfl rfl (by kernel_rfl) (by kernel_rfl) (by kernel_rfl) (fun _ _ _ h => h) (by kernel_rfl) ?hy3x6 (by assumption) ?r3x6
                  case hy3x6 => (intro W hSw; (try dsimp only at hSw); go_simp; try with_reducible rfl)
                  simp only [Act.put, List.setIfInBounds_toArray, List.set_cons_zero, List.set_cons_succ]
                  refine takeD 7 137 (v := ?v3x7) rfl rfl (by kernel_rfl) (by kernel_rfl) (by kernel_rfl) (fun _ _ _ h => h) (by kernel_rfl) ?hy3x7 (by assumption) ?r3x7
                  case hy3x7 => (intro W hSw; (try dsimp only at hSw); go_simp; try with_reducible rfl)
                  simp only [Act.put, List.setIfInBounds_toArray, List.set_cons_zero, List.set_cons_succ]
                  refine takeD 8 138 (v := ?v3x8) rfl rfl (by kernel_rfl) (by kernel_rfl) (by kernel_rfl) (fun _ _ _ h => h) (by kernel_rfl) ?hy3x8 (by assumption) ?r3x8
                  case hy3x8 => (intro W hSw; (try dsimp only at hSw); go_simp; try with_reducible rfl)
                  simp only [Act.put, List.setIfInBounds_toArray, List.set_cons_zero, List.set_cons_succ]
                  refine takeD 9 139 (v := ?v3x9) rfl rfl (by kernel_rfl) (by kernel_rfl) (by kernel_rfl) (fun _ _ _ h => h) (by kernel_rfl) ?hy3x9 (by assumption) ?r3x9
                  case hy3x9 => (intro W hSw; (try dsimp only at hSw); go_simp; try with_reducible rfl)
                  simp only [Act.put, List.setIfInBounds_toArray, List.set_cons_zero, List.set_cons_succ]
                  refine takeD 10 140 (v := ?v3x10) rfl rfl (by kernel_rfl) (by kernel_rfl) (by kernel_rfl) (fun _ _ _ h => h) (by kernel_rfl) ?hy3x10 (by assumption) ?r3x10
                  case hy3x10 => (intro W hSw; (try dsimp only at hSw); go_simp; try with_reducible rfl)
                  simp only [Act.put, List.setIfInBounds_toArray, List.set_cons_zero, List.set_cons_succ]
                  refine takeD 11 141 (v := ?v3x11) rfl rfl (by kernel_rfl) (by kernel_rfl) (by kernel_rfl) (fun _ _ _ h => h) (by kernel_rfl) ?hy3x11 (by assumption) ?r3x11
                  case hy3x11 => (intro W hSw; (try dsimp only at hSw); go_simp; try with_reducible rfl)
                  simp only [Act.put, List.setIfInBounds_toArray, List.set_cons_zero, List.set_cons_succ]
                  refine takeD 12 142 (v := ?v3x12) rfl rfl (by kernel_rfl) (by kernel_rfl) (by kernel_rfl) (fun _ _ _ h => h) (by kernel_rfl) ?hy3x12 (by assumption) ?r3x12
                  case hy3x12 => (intro W hSw; (try dsimp only at hSw); go_simp; try with_reducible rfl)
                  simp only [Act.put, List.setIfInBounds_toArray, List.set_cons_zero, List.set_cons_succ]
                  refine takeD 13 143 (v := ?v3x13) rfl rfl (by kernel_rfl) (by kernel_rfl) (by kernel_rfl) (fun _ _ _ h => h) (by kernel_rfl) ?hy3x13 (by assumption) ?r3x13
                  case hy3x13 => (intro W hSw; (try dsimp only at hSw); go_simp; try with_reducible rfl)
                  simp only [Act.put, List.setIfInBounds_toArray, List.set_cons_zero, List.set_cons_succ]
                  refine takeD 14 144 (v := ?v3x14) rfl rfl (by kernel_rfl) (by kernel_rfl) (by kernel_rfl) (fun _ _ _ h => h) (by kernel_rfl) ?hy3x14 (by assumption) ?r3x14
                  case hy3x14 => (intro W hSw; (try dsimp only at hSw); go_simp; try with_reducible rfl)
                  simp only [Act.put, List.setIfInBounds_toArray, List.set_cons_zero, List.set_cons_succ]
                  refine takeD 15 145 (v := ?v3x15) rfl rfl (by kernel_rfl) (by kernel_rfl) (by kernel_rfl) (fun _ _ _ h => h) (by kernel_rfl) ?hy3x15 (by assumption) ?r3x15
                  case hy3x15 => (intro W hSw; (try dsimp only at hSw); go_simp; try with_reducible rfl)
                  simp only [Act.put, List.setIfInBounds_toArray, List.set_cons_zero, List.set_cons_succ]
                  refine takeD 16 146 (v := ?v3x16) rfl rfl (by kernel_rfl) (by kernel_rfl) (by kernel_rfl) (fun _ _ _ h => h) (by kernel_rfl) ?hy3x16 (by assumption) ?r3x16
                  case hy3x16 => (intro W hSw; (try dsimp only at hSw); go_simp; try with_reducible rfl)
                  simp only [Act.put, List.setIfInBounds_toArray, List.set_cons_zero, List.set_cons_succ]
                  refine skipAll [(17, 147), (18, 148), (19, 149), (20, 150), (21, 151), (22, 152), (23, 153), (24, 154), (25, 155), (26, 156)] (by kernel_rfl) (fun _ _ _ _ _ h => h) (by assumption) (by kernel_rfl) ?_
                  simp only [putAll, listAll, List.foldl_cons, List.foldl_nil, Act.put, List.setIfInBounds_toArray, List.set_cons_zero, List.set_cons_succ]
                  refine takeD 27 157 (v := ?v3x27) rfl rfl (by kernel_rfl) (by kernel_rfl) (by kernel_rfl) (fun _ _ _ h => h) (by kernel_rfl) ?hy3x27 (by assumption) ?r3x27
                  case hy3x27 => (intro W hSw; (try dsimp only at hSw); go_simp; try with_reducible rfl)
                  simp only [Act.put, List.setIfInBounds_toArray, List.set_cons_zero, List.set_cons_succ]
                  refine wpAnyH_done (by kernel_rfl) ?_ _
                  refine NoPanic.normal ?_
                  go_wp2_with fail
                  go_meet
                  exact ⟨rfl, HD⟩
            · have hgz : decide ((0 : Int) < (n1 : Int)) = false := by simp; omega
              clear hT1 hkk hn1
              refine wp_region_noPanic ?_
              refine wp_region_held_drew (S := (fun W => (W.cell? ⟨g5, 0, none⟩ = some (.slice so n1 p) ∧ W.cell? ⟨g5, 1, none⟩ = some (.slice co n2 q)) ∧ (W.cell? ⟨g8, 0, none⟩ = some (.slice so2 m1 p2) ∧ W.cell? ⟨g8, 1, none⟩ = some (.slice co2 i q2)))) (by kernel_rfl) ?_ (fun hHeld => ?_)
              · (try dsimp only); go_keep
              refine takeD 0 130 (v := ?v4x0) rfl rfl (by kernel_rfl) (by kernel_rfl) (by kernel_rfl) (fun _ _ _ h => h) (by kernel_rfl) ?hy4x0 (by assumption) ?r4x0
              case hy4x0 => (intro W hSw; (try dsimp only at hSw); go_simp; try with_reducible rfl)
              simp only [Act.put, List.setIfInBounds_toArray, List.set_cons_zero, List.set_cons_succ]
              refine takeD 1 131 (v := ?v4x1) rfl rfl (by kernel_rfl) (by kernel_rfl) (by kernel_rfl) (fun _ _ _ h => h) (by kernel_rfl) ?hy4x1 (by assumption) ?r4x1
              case hy4x1 => (intro W hSw; (try dsimp only at hSw); go_simp; try with_reducible rfl)
              simp only [Act.put, List.setIfInBounds_toArray, List.set_cons_zero, List.set_cons_succ]
              refine takeD 2 132 (v := ?v4x2) rfl rfl (by kernel_rfl) (by kernel_rfl) (by kernel_rfl) (fun _ _ _ h => h) (by kernel_rfl) ?hy4x2 (by assumption) ?r4x2
              case hy4x2 => (intro W hSw; (try dsimp only at hSw); go_simp; try with_reducible rfl)
              simp only [Act.put, List.setIfInBounds_toArray, List.set_cons_zero, List.set_cons_succ]
              refine takeD 3 133 (v := ?v4x3) rfl rfl (by kernel_rfl) (by kernel_rfl) (by kernel_rfl) (fun _ _ _ h => h) (by kernel_rfl) ?hy4x3 (by assumption) ?r4x3
              case hy4x3 => (intro W hSw; (try dsimp only at hSw); go_simp; try with_reducible rfl)
              simp only [Act.put, List.setIfInBounds_toArray, List.set_cons_zero, List.set_cons_succ]
              refine takeD 4 134 (v := ?v4x4) rfl rfl (by kernel_rfl) (by kernel_rfl) (by kernel_rfl) (fun _ _ _ h => h) (by kernel_rfl) ?hy4x4 (by assumption) ?r4x4
              case hy4x4 => (intro W hSw; (try dsimp only at hSw); go_simp; try with_reducible rfl)
              simp only [Act.put, List.setIfInBounds_toArray, List.set_cons_zero, List.set_cons_succ]
              refine skipAll [(5, 135), (6, 136), (7, 137), (8, 138), (9, 139), (10, 140), (11, 141), (12, 142), (13, 143), (14, 144)] (by kernel_rfl) (fun _ _ _ _ _ h => h) (by assumption) (by kernel_rfl) ?_
              simp only [putAll, listAll, List.foldl_cons, List.foldl_nil, Act.put, List.setIfInBounds_toArray, List.set_cons_zero, List.set_cons_succ]
              refine takeD 15 145 (v := ?v4x15) rfl rfl (by kernel_rfl) (by kernel_rfl) (by kernel_rfl) (fun _ _ _ h => h) (by kernel_rfl) ?hy4x15 (by assumption) ?r4x15
              case hy4x15 => (intro W hSw; (try dsimp only at hSw); go_simp; try with_reducible rfl)
              simp only [Act.put, List.setIfInBounds_toArray, List.set_cons_zero, List.set_cons_succ]
              refine takeD 16 146 (v := ?v4x16) rfl rfl (by kernel_rfl) (by kernel_rfl) (by kernel_rfl) (fun _ _ _ h => h) (by kernel_rfl) ?hy4x16 (by assumption) ?r4x16
              case hy4x16 => (intro W hSw; (try dsimp only at hSw); go_simp; try with_reducible rfl)
              simp only [Act.put, List.setIfInBounds_toArray, List.set_cons_zero, List.set_cons_succ]
              refine skipAll [(17, 147), (18, 148), (19, 149), (20, 150), (21, 151), (22, 152), (23, 153), (24, 154), (25, 155), (26, 156)] (by kernel_rfl) (fun _ _ _ _ _ h => h) (by assumption) (by kernel_rfl) ?_
              simp only [putAll, listAll, List.foldl_cons, List.foldl_nil, Act.put, List.setIfInBounds_toArray, List.set_cons_zero, List.set_cons_succ]
              refine takeD 27 157 (v := ?v4x27) rfl rfl (by kernel_rfl) (by kernel_rfl) (by kernel_rfl) (fun _ _ _ h => h) (by kernel_rfl) ?hy4x27 (by assumption) ?r4x27
              case hy4x27 => (intro W hSw; (try dsimp only at hSw); go_simp; try with_reducible rfl)
              simp only [Act.put, List.setIfInBounds_toArray, List.set_cons_zero, List.set_cons_succ]
              refine wpAnyH_done (by kernel_rfl) ?_ _
              refine NoPanic.normal ?_
              go_wp2_with fail
              go_meet
              exact ⟨rfl, HD⟩
          case rest =>
            obtain ⟨rfl, HD⟩ := hcut
            clear HH x0 x1 y0 y1 z0' z1' hT1
            go_wp2_with fail
            go_loopw [16] (fun i' wr' => ∃ j : Nat, j ≤ n1 ∧ i' = .int .i64 j ∧ Hid (DLF w w.heap.size (u1.alloc (.cells #[.slice so n1 p, .slice co n2 q] 26)).heap.size l14 g5 g8 g14 (.slice so n1 p) (.slice co n2 q) (.slice so2 m1 p2) (.slice co2 i q2) (.slice so9 j1 p9) (.slice co9 j2 q9) d D (dkFlush D) wr')) (fun i' _ => n1 - (intOf i').toNat)
            case atStart => exact ⟨0, Nat.zero_le _, rfl, HD⟩
            case round =>
              obtain ⟨j, hj, rfl, HL⟩ := hrel
              clear HD
              by_cases hlt : j < n1
              · obtain ⟨ao, cp, hv, hc⟩ := ownS_row HL.out.od.secs
                have hjd : j < d.secs.length := by rw [← HM.out.1]; exact hlt
                obtain ⟨bb, off, x, hso, hbb, hx, d0⟩ := hc j hjd
                injection hv with h1 h2 h3
                subst h1
                subst hso
                obtain ⟨T2, hT2⟩ : ∃ y, y = d.secs.getD j ByteArray.empty := ⟨_, rfl⟩
                rw [← hT2] at hx
                subst hx
                obtain ⟨T1, hT1⟩ : ∃ y, y = (dkRead D (j : Int) 1).2 := ⟨_, rfl⟩
                obtain ⟨hcn, hcr⟩ := crash_none HR'.out hjd
                have hrf := read_flushed (k := j) (m := 1) HRX'.out (by omega) (by rw [HSL.out]; omega)
                have hrc := kept_right [] HR'.out
                rw [keptN_nil] at hrc
                have HCN : Hid (dkIn (dkCrash d []) ∧ dkFits (dkCrash d [])) := by rw [hcn]; exact ⟨right_inn hrc, right_fits hrc⟩
                have HT : Hid ((dkRead (dkFlush D) (j : Int) 1).2 = T1 ∧ (dkRead D (j : Int) 1).2 = T1 ∧ (dkRead (dkCrash d []) (j : Int) 1).2 = T2) := ⟨(congrArg Prod.snd hrf).trans hT1.symm, hT1.symm, by rw [hcr, hT2]⟩
                have HW2 : Hid (wI64 (j : Int) ∧ wI64 1) := ⟨by have := HN1.out; unfold wI64; omega, by unfold wI64; omega⟩
                clear HW
                have HW := HW2
                have hi0 : (0 : Int) ≤ (j : Int) := by omega
                have hi1 : (j : Int) < (n1 : Int) := by omega
                have hq0 := (Int.toNat_natCast j)
                clear HW2 hT1 hT2 hcn hcr hrf hrc hc hjd h2 h3 hj
                obtain ⟨⟨x0, x1⟩, ⟨y0, y1⟩, z0', z1'⟩ := HL.out.cells
                go_upto_region 24 with fail
                go_cut [187] from 158 to 187 (fun qv W => qv = .bool false ∧ Hid (DLF w w.heap.size (u1.alloc (.cells #[.slice (some ⟨bb, off, none⟩) n1 p, .slice co n2 q] 26)).heap.size l14 g5 g8 g14 (.slice (some ⟨bb, off, none⟩) n1 p) (.slice co n2 q) (.slice so2 m1 p2) (.slice co2 i q2) (.slice so9 j1 p9) (.slice co9 j2 q9) d D (dkFlush D) W))
                case first =>
                  have HD := hide (HL.out.below (Below.refl _ _).drew)
                  clear HL
                  --R24
                  refine wp_region_noPanic ?_
                  refine wp_region_held_drew (S := (fun W => ((W.cell? ⟨g5, 0, none⟩ = some (.slice (some ⟨bb, off, none⟩) n1 p) ∧ W.cell? ⟨g5, 1, none⟩ = some (.slice co n2 q)) ∧ (W.cell? ⟨g8, 0, none⟩ = some (.slice so2 m1 p2) ∧ W.cell? ⟨g8, 1, none⟩ = some (.slice co2 i q2))) ∧ (W.cell? ⟨g14, 0, none⟩ = some (.slice so9 j1 p9) ∧ W.cell? ⟨g14, 1, none⟩ = some (.slice co9 j2 q9)) ∧ W.cell? ⟨bb, off + j, none⟩ = some (.string T2))) (by kernel_rfl) ?_ (fun hHeld => ?_)
                  · (try dsimp only); go_keep
                  refine takeD 0 165 (v := ?v5x0) rfl rfl (by kernel_rfl) (by kernel_rfl) (by kernel_rfl) (fun _ _ _ h => h) (by kernel_rfl) ?hy5x0 (by assumption) ?r5x0
                  case hy5x0 => (intro W hSw; (try dsimp only at hSw); go_simp; try with_reducible rfl)
                  simp only [Act.put, List.setIfInBounds_toArray, List.set_cons_zero, List.set_cons_succ]
                  refine takeD 1 166 (v := ?v5x1) rfl rfl (by kernel_rfl) (by kernel_rfl) (by kernel_rfl) (fun _ _ _ h => h) (by kernel_rfl) ?hy5x1 (by assumption) ?r5x1
                  case hy5x1 => (intro W hSw; (try dsimp only at hSw); go_simp; try with_reducible rfl)
                  simp only [Act.put, List.setIfInBounds_toArray, List.set_cons_zero, List.set_cons_succ]
                  refine takeD 4 169 (v := ?v5x4) rfl rfl (by kernel_rfl) (by kernel_rfl) (by kernel_rfl) (fun _ _ _ h => h) (by kernel_rfl) ?hy5x4 (by assumption) ?r5x4
                  case hy5x4 => (intro W hSw; (try dsimp only at hSw); go_simp; try with_reducible rfl)
                  simp only [Act.put, List.setIfInBounds_toArray, List.set_cons_zero, List.set_cons_succ]
                  refine takeD 5 170 (v := ?v5x5) rfl rfl (by kernel_rfl) (by kernel_rfl) (by kernel_rfl) (fun _ _ _ h => h) (by kernel_rfl) ?hy5x5 (by assumption) ?r5x5
                  case hy5x5 => (intro W hSw; (try dsimp only at hSw); go_simp; try with_reducible rfl)
                  simp only [Act.put, List.setIfInBounds_toArray, List.set_cons_zero, List.set_cons_succ]
                  refine takeD 6 171 (v := ?v5x6) rfl rfl (by kernel_rfl) (by kernel_rfl) (by kernel_rfl) (fun _ _ _ h => h) (by kernel_rfl) ?hy5x6 (by assumption) ?r5x6
                  case hy5x6 => (intro W hSw; (try dsimp only at hSw); go_simp; try with_reducible rfl)
                  simp only [Act.put, List.setIfInBounds_toArray, List.set_cons_zero, List.set_cons_succ]
                  refine wpAnyH_ready (rs := [2]) (by kernel_rfl) (by simp) ?_
                  refine AllReadyH.cons (o := _) rfl (fun K hK => ?_) AllReadyH.nil
                  go_simp
                  go_at_call 12
                  refine (rdI_out _ _ _ (dkFlush D) j 1 _ HFF.out.1 HFF.out.2 HW.out.1 HW.out.2 T1 HT.out.1 HD.out.oF).mono ?_
                  rintro e u10 ⟨o1, e1, e2, o2, e3, e4, e5, rfl, b10⟩
                  replace HD := hide (HD.out.below b10)
                  replace d0 := (b10.cell (p := ⟨bb, off + j, none⟩) hbb).trans d0
                  replace hbb := Nat.lt_of_lt_of_le hbb b10.size
                  clear b10
                  clear x0 x1 y0 y1 z0' z1'
                  obtain ⟨⟨x0, x1⟩, ⟨y0, y1⟩, z0', z1'⟩ := HD.out.cells
                  go_wp2_with fail
                  refine hK.out _ _ ?_ (fun hHeld2 => ?_)
                  · (try dsimp only); go_keep
                  clear hK K hHeld
                  have hHeld := hHeld2
                  clear hHeld2
                  try simp only [Act.put, List.setIfInBounds_toArray, List.set_cons_zero, List.set_cons_succ]
                  refine takeD 3 168 (v := ?v5x3) rfl rfl (by kernel_rfl) (by kernel_rfl) (by kernel_rfl) (fun _ _ _ h => h) (by kernel_rfl) ?hy5x3 (by assumption) ?r5x3
                  case hy5x3 => (intro W hSw; (try dsimp only at hSw); go_simp; try with_reducible rfl)
                  simp only [Act.put, List.setIfInBounds_toArray, List.set_cons_zero, List.set_cons_succ]
                  refine wpAnyH_ready (rs := [7]) (by kernel_rfl) (by simp) ?_
                  refine AllReadyH.cons (o := _) rfl (fun K hK => ?_) AllReadyH.nil
                  go_simp
                  go_at_call 12
                  refine (rdI_out _ _ _ D j 1 _ HDF.out.1 HDF.out.2 HW.out.1 HW.out.2 T1 HT.out.2.1 HD.out.oD).mono ?_
                  rintro e u10 ⟨o1, e1, e2, o2, e3, e4, e5, rfl, b10⟩
                  replace HD := hide (HD.out.below b10)
                  replace d0 := (b10.cell (p := ⟨bb, off + j, none⟩) hbb).trans d0
                  replace hbb := Nat.lt_of_lt_of_le hbb b10.size
                  clear b10
                  clear x0 x1 y0 y1 z0' z1'
                  obtain ⟨⟨x0, x1⟩, ⟨y0, y1⟩, z0', z1'⟩ := HD.out.cells
                  go_wp2_with fail
                  refine hK.out _ _ ?_ (fun hHeld2 => ?_)
                  · (try dsimp only); go_keep
                  clear hK K hHeld
                  have hHeld := hHeld2
                  clear hHeld2
                  try simp only [Act.put, List.setIfInBounds_toArray, List.set_cons_zero, List.set_cons_succ]
                  refine takeD 8 173 (v := ?v5x8) rfl rfl (by kernel_rfl) (by kernel_rfl) (by kernel_rfl) (fun _ _ _ h => h) (by kernel_rfl) ?hy5x8 (by assumption) ?r5x8
                  case hy5x8 => (intro W hSw; (try dsimp only at hSw); go_simp; try with_reducible rfl)
                  simp only [Act.put, List.setIfInBounds_toArray, List.set_cons_zero, List.set_cons_succ]
                  refine takeD 9 174 (v := ?v5x9) rfl rfl (by kernel_rfl) (by kernel_rfl) (by kernel_rfl) (fun _ _ _ h => h) (by kernel_rfl) ?hy5x9 (by assumption) ?r5x9
                  case hy5x9 => (intro W hSw; (try dsimp only at hSw); go_simp; try with_reducible rfl)
                  simp only [Act.put, List.setIfInBounds_toArray, List.set_cons_zero, List.set_cons_succ]
                  refine takeD 10 175 (v := ?v5x10) rfl rfl (by kernel_rfl) (by kernel_rfl) (by kernel_rfl) (fun _ _ _ h => h) (by kernel_rfl) ?hy5x10 (by assumption) ?r5x10
                  case hy5x10 => (intro W hSw; (try dsimp only at hSw); go_simp; try with_reducible rfl)
                  simp only [Act.put, List.setIfInBounds_toArray, List.set_cons_zero, List.set_cons_succ]
                  refine takeD 11 176 (v := ?v5x11) rfl rfl (by kernel_rfl) (by kernel_rfl) (by kernel_rfl) (fun _ _ _ h => h) (by kernel_rfl) ?hy5x11 (by assumption) ?r5x11
                  case hy5x11 => (intro W hSw; (try dsimp only at hSw); go_simp; try with_reducible rfl)
                  simp only [Act.put, List.setIfInBounds_toArray, List.set_cons_zero, List.set_cons_succ]
                  refine takeD 13 178 (v := ?v5x13) rfl rfl (by kernel_rfl) (by kernel_rfl) (by kernel_rfl) (fun _ _ _ h => h) (by kernel_rfl) ?hy5x13 (by assumption) ?r5x13
                  case hy5x13 => (intro W hSw; (try dsimp only at hSw); go_simp; try with_reducible rfl)
                  simp only [Act.put, List.setIfInBounds_toArray, List.set_cons_zero, List.set_cons_succ]
                  refine takeD 16 181 (v := ?v5x16) rfl rfl (by kernel_rfl) (by kernel_rfl) (by kernel_rfl) (fun _ _ _ h => h) (by kernel_rfl) ?hy5x16 (by assumption) ?r5x16
                  case hy5x16 => (intro W hSw; (try dsimp only at hSw); go_simp; try with_reducible rfl)
                  simp only [Act.put, List.setIfInBounds_toArray, List.set_cons_zero, List.set_cons_succ]
                  refine takeD 17 182 (v := ?v5x17) rfl rfl (by kernel_rfl) (by kernel_rfl) (by kernel_rfl) (fun _ _ _ h => h) (by kernel_rfl) ?hy5x17 (by assumption) ?r5x17
                  case hy5x17 => (intro W hSw; (try dsimp only at hSw); go_simp; try with_reducible rfl)
                  simp only [Act.put, List.setIfInBounds_toArray, List.set_cons_zero, List.set_cons_succ]
                  refine takeD 18 183 (v := ?v5x18) rfl rfl (by kernel_rfl) (by kernel_rfl) (by kernel_rfl) (fun _ _ _ h => h) (by kernel_rfl) ?hy5x18 (by assumption) ?r5x18
                  case hy5x18 => (intro W hSw; (try dsimp only at hSw); go_simp; try with_reducible rfl)
                  simp only [Act.put, List.setIfInBounds_toArray, List.set_cons_zero, List.set_cons_succ]
                  refine takeD 19 184 (v := ?v5x19) rfl rfl (by kernel_rfl) (by kernel_rfl) (by kernel_rfl) (fun _ _ _ h => h) (by kernel_rfl) ?hy5x19 (by assumption) ?r5x19
                  case hy5x19 => (intro W hSw; (try dsimp only at hSw); go_simp; try with_reducible rfl)
                  simp only [Act.put, List.setIfInBounds_toArray, List.set_cons_zero, List.set_cons_succ]
                  refine takeD 20 185 (v := ?v5x20) rfl rfl (by kernel_rfl) (by kernel_rfl) (by kernel_rfl) (fun _ _ _ h => h) (by kernel_rfl) ?hy5x20 (by assumption) ?r5x20
                  case hy5x20 => (intro W hSw; (try dsimp only at hSw); go_simp; try with_reducible rfl)
                  simp only [Act.put, List.setIfInBounds_toArray, List.set_cons_zero, List.set_cons_succ]
                  refine wpAnyH_ready (rs := [12]) (by kernel_rfl) (by simp) ?_
                  refine AllReadyH.cons (o := _) rfl (fun K hK => ?_) AllReadyH.nil
                  go_simp
                  go_at_call 15
                  refine (crI_out _ _ _ d _ HIF.out.1 HIF.out.2 HD.out.od).mono ?_
                  rintro e u10 ⟨o1, e1, e2, o2, e3, e4, rfl, oc, b10⟩
                  have HO := hide oc
                  replace HD := hide (HD.out.below b10)
                  replace d0 := (b10.cell (p := ⟨bb, off + j, none⟩) hbb).trans d0
                  replace hbb := Nat.lt_of_lt_of_le hbb b10.size
                  clear b10 oc
                  clear x0 x1 y0 y1 z0' z1'
                  obtain ⟨⟨x0, x1⟩, ⟨y0, y1⟩, z0', z1'⟩ := HD.out.cells
                  go_wp2_with fail
                  refine hK.out _ _ ?_ (fun hHeld2 => ?_)
                  · (try dsimp only); go_keep
                  clear hK K hHeld
                  have hHeld := hHeld2
                  clear hHeld2
                  try simp only [Act.put, List.setIfInBounds_toArray, List.set_cons_zero, List.set_cons_succ]
                  refine wpAnyH_ready (rs := [14]) (by kernel_rfl) (by simp) ?_
                  refine AllReadyH.cons (o := _) rfl (fun K hK => ?_) AllReadyH.nil
                  go_simp
                  go_at_call 12
                  refine (rdI_out _ _ _ (dkCrash d []) j 1 _ HCN.out.1 HCN.out.2 HW.out.1 HW.out.2 T2 HT.out.2.2 HO.out).mono ?_
                  rintro e u10 ⟨o1, e1, e2, o2, e3, e4, e5, rfl, b10⟩
                  replace HD := hide (HD.out.below b10)
                  replace d0 := (b10.cell (p := ⟨bb, off + j, none⟩) hbb).trans d0
                  replace hbb := Nat.lt_of_lt_of_le hbb b10.size
                  clear b10
                  clear x0 x1 y0 y1 z0' z1'
                  obtain ⟨⟨x0, x1⟩, ⟨y0, y1⟩, z0', z1'⟩ := HD.out.cells
                  go_wp2_with fail
                  refine hK.out _ _ ?_ (fun hHeld2 => ?_)
                  · (try dsimp only); go_keep
                  clear hK K hHeld
                  have hHeld := hHeld2
                  clear hHeld2
                  try simp only [Act.put, List.setIfInBounds_toArray, List.set_cons_zero, List.set_cons_succ]
                  refine takeD 15 180 (v := ?v5x15) rfl rfl (by kernel_rfl) (by kernel_rfl) (by kernel_rfl) (fun _ _ _ h => h) (by kernel_rfl) ?hy5x15 (by assumption) ?r5x15
                  case hy5x15 => (intro W hSw; (try dsimp only at hSw); go_simp; try with_reducible rfl)
                  simp only [Act.put, List.setIfInBounds_toArray, List.set_cons_zero, List.set_cons_succ]
                  refine takeD 21 186 (v := ?v5x21) rfl rfl (by kernel_rfl) (by kernel_rfl) (by kernel_rfl) (fun _ _ _ h => h) (by kernel_rfl) ?hy5x21 (by assumption) ?r5x21
                  case hy5x21 => (intro W hSw; (try dsimp only at hSw); go_simp; try with_reducible rfl)
                  simp only [Act.put, List.setIfInBounds_toArray, List.set_cons_zero, List.set_cons_succ]
                  refine takeD 22 187 (v := ?v5x22) rfl rfl (by kernel_rfl) (by kernel_rfl) (by kernel_rfl) (fun _ _ _ h => h) (by kernel_rfl) ?hy5x22 (by assumption) ?r5x22
                  case hy5x22 => (intro W hSw; (try dsimp only at hSw); go_simp; try with_reducible rfl)
                  simp only [Act.put, List.setIfInBounds_toArray, List.set_cons_zero, List.set_cons_succ]
                  refine wpAnyH_done (by kernel_rfl) ?_ _
                  refine NoPanic.normal ?_
                  go_wp2_with fail
                  go_meet
                  exact ⟨rfl, HD⟩
                  --E24
                case rest =>
                  obtain ⟨rfl, HD⟩ := hcut
                  clear HL x0 x1 y0 y1 z0' z1' d0
                  go_wp2_with fail
                  go_roundw
                  case rel => exact ⟨j + 1, by omega, by go_num, HD⟩
                  case measure => simp [intOf]; omega
              · clear hj
                obtain ⟨⟨x0, x1⟩, ⟨y0, y1⟩, z0', z1'⟩ := HL.out.cells
                go_wp2
                go_ret
                exact ⟨rfl, HL.out.b⟩
  · have hK0 : (K == 0) = false := by simpa using hK
    have hKn : (K != 0) = true := by simpa using hK
    go_region_held3 (fun W => (W.cell? ⟨g5, 0, none⟩ = some (.slice so n1 p) ∧ W.cell? ⟨g5, 1, none⟩ = some (.slice co n2 q)) ∧ W.cell? ⟨g8, 3, none⟩ = some (.int .i64 K)) (go_keep) (first
      | (go_at_call 11; refine (CS.out _ (O1'.out.below (Below.refl _ _).drew)).mono ?_; rintro e u3 ⟨s3, c3, rfl, o3, b3⟩; obtain ⟨so3, k1, p3, co3, k2, q3, rfl, rfl, _⟩ := o3.shp; have b3' := (Below.refl W2.heap.size W2).drew.trans b3; have X3 := hide ((b3'.block _ (blkS X2.out)).trans X2.out); have Y3 := hide ((b3'.block _ (blkS Y2.out)).trans Y2.out); have O3 := hide (O1'.out.below b3'); have O23 := hide (O2.out.below b3'); have B3 := hide (B2.out.trans (b3'.mono B2.out.size)); clear x0 x1 xf y0 y1 y2 y3 yf b3 b3' o3; obtain ⟨x0, x1, xf⟩ := cells2 X3.out; obtain ⟨y0, y1, y2, y3, yf⟩ := cells4 Y3.out))
    all_goals
      go_upto_region 6 with fail
      go_region_held3 (fun W => (W.cell? ⟨g5, 0, none⟩ = some (.slice so n1 p) ∧ W.cell? ⟨g5, 1, none⟩ = some (.slice co n2 q)) ∧ W.cell? ⟨g8, 3, none⟩ = some (.int .i64 K)) (go_keep) (first
        | (go_at_call 11; refine (CS.out _ (O3.out.below (Below.refl _ _).drew)).mono ?_; rintro e u4 ⟨s4, c4, rfl, o4, b4⟩; obtain ⟨so4, l1, p4, co4, l2, q4, rfl, rfl, _⟩ := o4.shp; have b4' := (Below.refl u3.heap.size u3).drew.trans b4; have X4 := hide ((b4'.block _ (blkS X3.out)).trans X3.out); have Y4 := hide ((b4'.block _ (blkS Y3.out)).trans Y3.out); have B4 := hide (B3.out.trans (b4'.mono B3.out.size)); clear x0 x1 xf y0 y1 y2 y3 yf b4 b4' o4; obtain ⟨x0, x1, xf⟩ := cells2 X4.out; obtain ⟨y0, y1, y2, y3, yf⟩ := cells4 Y4.out))
      all_goals
        go_wp2
        go_ret
        exact ⟨rfl, B4.out⟩
end Go.Proofs.Ythglidcfbdigiaa
