/-
  Contracts: how many levels a tree's shape has.
-/
import Derived.Test.YtffgobkgkhmeoaaTrNode
namespace Go.Proofs.Ytffgobkgkhmeoaa
open Go.RowKit
set_option maxRecDepth 100000

theorem sameL_bad {l : List (Option Nat)} {i : Nat} (h : l[i]? = some none) : sameL l = none := by
  cases hs : sameL l with
  | none => rfl
  | some a =>
    have hl : l ≠ [] := fun e => by rw [e] at h; simp at h
    have := (sameL_some hl).1 hs none (List.mem_of_getElem? h)
    cases this
theorem sameL_two {l : List (Option Nat)} {i j a b : Nat} (hi : l[i]? = some (some a)) (hj : l[j]? = some (some b)) (hne : a ≠ b) : sameL l = none := by
  cases hs : sameL l with
  | none => rfl
  | some c =>
    have hl : l ≠ [] := fun e => by rw [e] at hi; simp at hi
    have h1 := (sameL_some hl).1 hs _ (List.mem_of_getElem? hi)
    have h2 := (sameL_some hl).1 hs _ (List.mem_of_getElem? hj)
    rw [Option.some.injEq] at h1 h2
    omega
theorem sameL_all {l : List (Option Nat)} {a : Nat} (hl : l ≠ []) (h : ∀ i, i < l.length → l[i]? = some (some a)) : sameL l = some a := by
  rw [sameL_some hl]
  intro x hx
  obtain ⟨i, hi, rfl⟩ := List.getElem_of_mem hx
  have := h i hi
  rw [List.getElem?_eq_getElem hi] at this
  exact Option.some.inj this
theorem map_at {cs : List Tr} {r i : Nat} (h : i < cs.length) : (cs.map (lev r))[i]? = some (lev r (cs.getD i noTr)) := by
  simp [List.getD_eq_getElem?_getD, h]
theorem lev_le : ∀ (r : Nat) (t : Tr), (lev r t).getD 0 ≤ r
  | 0, _ => by simp [lev]
  | r + 1, t => by
    cases h : lev (r + 1) t with
    | none => simp
    | some L =>
      obtain ⟨_, h2, _⟩ := lev_dp (r + 1) L t L h (by omega)
      simpa using h2
def shP (r : Nat) : Prop := ∀ (A B n : Nat) (t : Tr) (g o : Nat) (w : World), B ≤ w.heap.size → TrAt w A B n t g o →
    Calls Try.prog 36 #[.pointer (some ⟨g, o, none⟩), .int .i64 r] w fun e w' => e = .returned (.tuple #[.int .i64 (((lev r t).getD 0 : Nat) : Int), .bool (lev r t).isSome]) ∧ w' = w
set_option maxHeartbeats 1600000 in
theorem shape_all : ∀ r, r ≤ 12 → shP r
  | 0 => fun _ A B n t g o w hB h => by
    have HL : Hid (lev 0 t = none) := rfl
    go_enter Try.func36, Try.ntmps36
    go_wp2
    go_ret2
    exact ⟨by rw [HL.out]; rfl, rfl⟩
  | r + 1 => fun hr12 A B n t g o w hB h => by
    have IH := hide (shape_all r (by omega))
    have HN := hide (nodeRight_any A B n t g o w hB h)
    have e1 : ((r : Int) + 1 == 0) = false := by rw [beq_eq_false_iff_ne]; omega
    by_cases hok : nodeOk t = true
    · have HLV : Hid (lev (r + 1) t = (sameL (t.kids.map (lev r))).map (· + 1)) := by show _ = _; simp only [lev]; rw [if_pos hok]
      rw [hok] at HN
      have hk4 : t.kids.length ≤ 4 := by
        unfold nodeOk at hok
        simp only [Bool.and_eq_true, decide_eq_true_eq, Bool.or_eq_true] at hok
        omega
      clear hok
      obtain ⟨hg, ko, kc, vo, vc, xo, xc, c0, c1, c2, hrow⟩ := h
      cases n with
      | zero => exact hrow.elim
      | succ n =>
        have HX := hide hrow.2.2.2
        clear hrow c0 c1
        generalize t.kids = cs at *
        generalize lev (r + 1) t = res at *
        go_enter Try.func36, Try.ntmps36
        go_wp2_with fail
        refine HN.out.mono ?_
        rintro e w1 ⟨rfl, rfl⟩
        clear HN
        go_wp2
        go_loopw [6, 22] (fun bl i wr => ∃ k b : Nat, k ≤ cs.length ∧ i = .int .i64 k ∧ bl = .int .i64 b ∧ b ≤ r ∧ Hid ((k = 0 → b = 0) ∧ ∀ j, j < k → lev r (cs.getD j noTr) = some b) ∧ Hid (wr = w1)) (fun _ i _ => cs.length - (intOf i).toNat)
        case atStart => exact ⟨0, 0, Nat.zero_le _, rfl, rfl, Nat.zero_le _, ⟨fun _ => rfl, fun j hj => absurd hj (Nat.not_lt_zero _)⟩, rfl⟩
        case round =>
          obtain ⟨k, b, hk, rfl, rfl, hbr, HI, HW⟩ := hrel
          obtain rfl : wr = w1 := HW.out
          by_cases hlt : k < cs.length
          · obtain ⟨q, off, rfl, hat⟩ := HX.out.kid k hlt
            have HC := hide (IH.out A B n _ q (off + k * 3) _ hB hat)
            have hle := lev_le r (cs.getD k noTr)
            have HM := hide (map_at (r := r) hlt)
            have HRS : Hid (((r + 1 : Nat) : Int) - 1 = (r : Int)) := by show _ = _; omega
            have hrr : ((r : Int) + 1 - 1) = (r : Int) := by omega
            clear hat
            cases hl : lev r (cs.getD k noTr) with
            | none =>
              rw [hl] at HC
              simp only [Option.getD_none, Option.isSome_none] at HC
              have HZ : Hid (res = none) := by show _ = _; rw [HLV.out, sameL_bad (i := k) (by rw [HM.out, hl])]; rfl
              clear hl HM HI hle
              go_wp2_with fail
              refine HC.out.mono ?_
              rintro e w2 ⟨rfl, rfl⟩
              go_wp2
              go_ret2
              exact ⟨by rw [HZ.out]; rfl, rfl⟩
            | some L =>
              rw [hl] at HC hle
              have HL2 := hide hl
              clear hl
              simp only [Option.getD_some, Option.isSome_some] at hle HC
              by_cases hk0 : k = 0
              · subst hk0
                have HI2 : Hid ((1 = 0 → L = 0) ∧ ∀ j, j < 1 → lev r (cs.getD j noTr) = some L) := ⟨fun e => by omega, fun j hj => (show 0 = j by omega) ▸ HL2.out⟩
                simp only [Nat.zero_mul, Nat.add_zero] at HC
                clear HI HM HL2
                go_wp2_with fail
                refine HC.out.mono ?_
                rintro e w2 ⟨rfl, rfl⟩
                go_wp2
                go_roundw
                case rel => exact ⟨1, L, by omega, by go_num, rfl, hle, HI2, HW⟩
                case measure => simp [intOf]; omega
              · have e2 : 0 < (k : Int) := by omega
                by_cases hLb : L = b
                · subst hLb
                  have HI2 : Hid ((k + 1 = 0 → L = 0) ∧ ∀ j, j < k + 1 → lev r (cs.getD j noTr) = some L) := ⟨fun e => by omega, fun j hj => by
                    by_cases hjk : j = k
                    · subst hjk; exact HL2.out
                    · exact HI.out.2 j (by omega)⟩
                  clear HI HM HL2
                  go_wp2_with fail
                  refine HC.out.mono ?_
                  rintro e w2 ⟨rfl, rfl⟩
                  go_wp2
                  go_roundw
                  case rel => exact ⟨k + 1, L, by omega, by go_num, rfl, hle, HI2, HW⟩
                  case measure => simp [intOf]; omega
                · have HZ : Hid (res = none) := by
                    show _ = _
                    rw [HLV.out, sameL_two (i := k) (j := 0) (a := L) (b := b) (by rw [HM.out, HL2.out]) (by rw [map_at (r := r) (by omega), HI.out.2 0 (by omega)]) hLb]; rfl
                  have e3 : ¬ (L : Int) = (b : Int) := by omega
                  have e4 : ((L : Int) != (b : Int)) = true := by rw [bne_iff_ne]; exact e3
                  clear HI HM HL2
                  go_wp2_with fail
                  refine HC.out.mono ?_
                  rintro e w2 ⟨rfl, rfl⟩
                  go_wp2
                  go_ret2
                  exact ⟨by rw [HZ.out]; rfl, rfl⟩
          · obtain rfl : k = cs.length := by omega
            have HZ : Hid (res = some (b + 1)) := by
              show _ = _
              rw [HLV.out]
              by_cases h0 : cs.length = 0
              · obtain rfl := List.eq_nil_of_length_eq_zero h0
                rw [HI.out.1 h0]; rfl
              · rw [sameL_all (a := b) (by simp; intro e; rw [e] at h0; exact h0 rfl) (fun i hi => by
                  have hi' : i < cs.length := by simpa using hi
                  rw [map_at hi', HI.out.2 i hi'])]; rfl
            clear HI HLV
            go_wp2
            go_ret2
            exact ⟨by rw [HZ.out]; rfl, rfl⟩
    · rw [Bool.not_eq_true] at hok
      have HZ : Hid (lev (r + 1) t = none) := by show _ = _; simp only [lev]; rw [hok]; rfl
      rw [hok] at HN
      clear hok h
      go_enter Try.func36, Try.ntmps36
      go_wp2_with fail
      refine HN.out.mono ?_
      rintro e w1 ⟨rfl, rfl⟩
      clear HN
      go_wp2
      go_ret2
      exact ⟨by rw [HZ.out]; rfl, rfl⟩
end Go.Proofs.Ytffgobkgkhmeoaa
