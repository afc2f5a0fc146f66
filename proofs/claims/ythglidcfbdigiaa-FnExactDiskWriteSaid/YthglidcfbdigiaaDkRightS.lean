/-
  Contract: is a disk right? The specification's answer.
-/
import Derived.Test.YthglidcfbdigiaaDkRight
namespace Go.Proofs.Ythglidcfbdigiaa
open Go.RowKit
set_option maxRecDepth 100000

set_option maxHeartbeats 4000000 in
theorem specDiskRight_any (A B : Nat) (so : Option Addr) (p : Nat) (co : Option Addr) (q : Nat) (d : Dk) (w : World) (hB : B ≤ w.heap.size) (hr : DkRow w A B so co d) :
    Calls Try.prog 44 #[.agg #[.slice so d.secs.length p, .slice co d.cache.length q]] w fun e w' => e = .returned (.bool (dkRight d)) ∧ Below w.heap.size w w' := by
  have HL := hide (fun h => dkRight_long (d := d) h)
  have HSN := hide (fun k (x : ByteArray) (hk : k < d.secs.length) (hv : d.secs.getD k ByteArray.empty = x) (hx : ¬ x.size = 64) => dkRight_sec hk (by rw [secOk_of hv]; simpa using hx))
  have HSY := hide (fun k (x : ByteArray) (h : upto (secOk d) k = true) (hv : d.secs.getD k ByteArray.empty = x) (hx : x.size = 64) => upto_next h (by rw [secOk_of hv]; simpa using hx))
  have HWN := hide (fun k (n : Int) (t : ByteArray) (hk : k < d.cache.length) (hv : d.cache.getD k noWr = ⟨n, t⟩) (hx : n < 0 ∨ (d.secs.length : Int) ≤ n ∨ ¬ t.size = 64) => dkRight_wr hk (by rw [wrOk_of hv]; rcases hx with h | h | h <;> simp <;> omega))
  have HWY := hide (fun k (n : Int) (t : ByteArray) (h : upto (wrOk d) k = true) (hv : d.cache.getD k noWr = ⟨n, t⟩) (h0 : 0 ≤ n) (h1 : n < (d.secs.length : Int)) (hx : t.size = 64) => upto_next h (by rw [wrOk_of hv]; simp [h0, h1, hx]))
  have HYES := hide (fun h1 h2 h3 h4 => dkRight_yes (d := d) h1 h2 h3 h4)
  have HU1 : Hid (upto (secOk d) 0 = true) := rfl
  have HU2 : Hid (upto (wrOk d) 0 = true) := rfl
  generalize dkRight d = R at *
  generalize secOk d = SO at *
  generalize wrOk d = WO at *
  obtain ⟨ss, cs⟩ := d
  obtain ⟨⟨hl1, hl2⟩, hs, hc⟩ := hr
  simp only at *
  have HS := hide hs
  have HC := hide hc
  clear hs hc
  unfold maxLen at hl1 hl2
  have B0 := hide ((Below.refl w.heap.size w).alloc (Nat.le_refl _) (.cells #[.slice so ss.length p, .slice co cs.length q] 26))
  have X0 := hide (heap_alloc_new w (.cells #[.slice so ss.length p, .slice co cs.length q] 26))
  by_cases hlong : 700 < ss.length ∨ 400 < cs.length
  · have HF := hide (HL.out hlong)
    clear HSN HSY HWN HWY HYES HL HU1 HU2 X0
    rcases hlong with h | h
    · go_enter Try.func44, Try.ntmps44
      go_wp2
      go_ret
      exact ⟨ret_bool HF.out.symm, B0.out⟩
    · by_cases h1 : 700 < ss.length
      · go_enter Try.func44, Try.ntmps44
        go_wp2
        go_ret
        exact ⟨ret_bool HF.out.symm, B0.out⟩
      · go_enter Try.func44, Try.ntmps44
        go_wp2
        go_ret
        exact ⟨ret_bool HF.out.symm, B0.out⟩
  · have h1 : ¬ 700 < ss.length := by omega
    have h2 : ¬ 400 < cs.length := by omega
    clear hlong HL
    go_enter Try.func44, Try.ntmps44
    go_wp2
    have Z0 : Hid ((w.alloc (.cells #[.slice so ss.length p, .slice co cs.length q] 26)).heap.size = w.heap.size + 1) := by show _ = _; simp
    generalize w.alloc (.cells #[.slice so ss.length p, .slice co cs.length q] 26) = W0 at *
    obtain ⟨x0, x1, xf⟩ := cells2 X0.out
    go_loop [3] (fun i => ∃ k : Nat, k ≤ ss.length ∧ i = .int .i64 k ∧ Hid (upto SO k = true)) (fun i => ss.length - (intOf i).toNat)
    case atStart => exact ⟨0, Nat.zero_le _, rfl, HU1⟩
    case round =>
      obtain ⟨k, hk, rfl, HU⟩ := hrel
      by_cases hlt : k < ss.length
      · obtain ⟨b, off, x, rfl, hbB, hv, hx, d0⟩ := (HS.out.kept (B0.out.mono hB)).at k hlt
        unfold maxLen at hx
        by_cases h64 : x.size = 64
        · have HU2' := hide (HSY.out k x HU.out hv h64)
          have h64' : (x.size : Int) = 64 := by omega
          clear hv HSN HSY HWN HWY HYES HU HU1 HU2 h64
          go_wp2
          go_round
          case rel => exact ⟨k + 1, by omega, by go_num, HU2'⟩
          case measure => simp [intOf]; omega
        · have HF := hide (HSN.out k x hlt hv h64)
          have h64' : ¬ (x.size : Int) = 64 := by omega
          clear hv HSN HSY HWN HWY HYES HU HU1 HU2 h64
          go_wp2
          go_ret
          exact ⟨ret_bool HF.out.symm, B0.out⟩
      · obtain rfl : k = ss.length := by omega
        have HUS := HU
        clear HU HSN HSY HU1 HS
        go_wp2
        go_loopw [4] (fun i wr => ∃ k : Nat, k ≤ cs.length ∧ i = .int .i64 k ∧ Hid (upto WO k = true) ∧ Below W0.heap.size W0 wr) (fun i _ => cs.length - (intOf i).toNat)
        case atStart => exact ⟨0, Nat.zero_le _, rfl, HU2, Below.refl _ _⟩
        case round =>
          obtain ⟨k, hk, rfl, HU, hb⟩ := hrel
          have X1 := hide ((hb.block w.heap.size (by rw [Z0.out]; omega)).trans X0.out)
          have B1 := hide (B0.out.trans (hb.mono B0.out.size))
          obtain ⟨x0, x1, xf⟩ := cells2 X1.out
          by_cases hlt : k < cs.length
          · obtain ⟨b, off, nn, tt, rfl, hbB, hv, htt, hki, d0, d1⟩ := (HC.out.kept (B1.out.mono hB)).at k hlt
            have hq1 : b < wr.heap.size := by have := B1.out.size; omega
            have hz1 : w.heap.size < wr.heap.size := by have := hb.size; have := Z0.out; omega
            unfold maxLen at htt
            unfold wI64 at hki
            have B2 := hide ((hb.alloc hb.size (.cells #[.int .i64 nn, .string tt] 78)))
            have B3 := hide (B0.out.trans (B2.out.mono B0.out.size))
            by_cases hbad : nn < 0 ∨ (ss.length : Int) ≤ nn ∨ ¬ tt.size = 64
            · have HF := hide (HWN.out k nn tt hlt hv hbad)
              clear hv HWN HWY HYES HU HU2 B1 hb B2 HUS
              by_cases h0 : nn < 0
              · go_wp2
                go_ret
                exact ⟨ret_bool HF.out.symm, B3.out⟩
              by_cases h1' : (ss.length : Int) ≤ nn
              · go_wp2
                go_ret
                exact ⟨ret_bool HF.out.symm, B3.out⟩
              · have h64 : ¬ (tt.size : Int) = 64 := by omega
                clear hbad
                go_wp2
                go_ret
                exact ⟨ret_bool HF.out.symm, B3.out⟩
            · have h0 : ¬ nn < 0 := by omega
              have h1' : ¬ (ss.length : Int) ≤ nn := by omega
              have h64 : (tt.size : Int) = 64 := by omega
              have HU3 := hide (HWY.out k nn tt HU.out hv (by omega) (by omega) (by omega))
              clear hv HWN HWY HYES HU HU2 B1 hb B3 HUS hbad
              go_wp2
              go_roundw
              case rel => exact ⟨k + 1, by omega, by go_num, HU3, B2.out⟩
              case measure => simp [intOf]; omega
          · obtain rfl : k = cs.length := by omega
            have HF := hide (HYES.out (by omega) (by omega) HUS.out HU.out)
            clear HWN HWY HYES HU HU2 hb HUS
            go_wp2
            go_ret
            exact ⟨ret_bool HF.out.symm, B1.out⟩
end Go.Proofs.Ythglidcfbdigiaa
