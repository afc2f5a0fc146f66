/-
  Contracts: do a tree's keys rise?
-/
import Derived.Test.YtffgobkgkhmeoaaTrTell
namespace Go.Proofs.Ytffgobkgkhmeoaa
open Go.RowKit Go.Shelf
attribute [local go_sem] Oper.semAt_some
set_option maxRecDepth 100000

theorem wpre_nil_len (ks : List ByteArray) : ∀ k, (wpre ks [] k).length = k
  | 0 => rfl
  | k + 1 => by rw [wpre_succ, List.length_append, wpre_nil_len ks k]; simp
theorem tell_all (F : Fence) (hF : F = Fence.wide) (l n₀ N : Nat) (J Jx : List ByteArray → World → Prop)
    (hY : ∀ m pre x W, J pre W → pre.length < N → YieldAt F m Try.prog l #[.string x] W fun e W' => (e = .returned (.bool true) ∧ J (pre ++ [x]) W' ∧ Below n₀ W W') ∨ (e = .returned (.bool false) ∧ Jx (pre ++ [x]) W')) (hD : ∀ pre W, J pre W → J pre W.drew) :
    ∀ (r m A n : Nat) (t : Tr) (g o : Nat) (pre : List ByteArray) (W : World), (lev r t).isSome = true → TrAt W A n₀ n t g o → J pre W → pre.length + (inord r t).length ≤ N →
      CallsIn F m Try.prog 39 #[.pointer (some ⟨g, o, none⟩), .func (.yield l) #[] #[]] W (TellPost J Jx n₀ pre (inord r t) W)
  | 0, _, _, _, _, _, _, _, _, h, _, _, _ => by simp [lev] at h
  | r + 1, m, A, n, t, g, o, pre, W, hl, hat, hJ, hN => by
    obtain ⟨hok, hkids⟩ := lev_node hl
    have h3 : t.keys.length ≤ 3 := by
      have := hok
      unfold nodeOk at this
      simp only [Bool.and_eq_true, decide_eq_true_eq] at this
      exact this.1.1.1.1.2
    obtain ⟨ks, vs, cs⟩ := t
    rcases inord_parts (r := r) hok with ⟨h0, he⟩ | ⟨h0, he⟩
    · rw [he] at hN ⊢
      change pre.length + (wpre ks [] ks.length).length ≤ N at hN
      rw [wpre_nil_len] at hN
      exact tell_leaf F hF l n₀ N J Jx hY m A n ks vs cs g o pre W hD h0 h3 hat hJ hN
    · rw [he] at hN ⊢
      cases n with
      | zero => obtain ⟨_, _, _, _, _, _, _, _, _, _, hr⟩ := hat; exact hr.elim
      | succ n => exact tell_node F hF l n₀ N J Jx hY m A n ks vs cs (inord r) g o pre W hD h0 h3 hat hJ hN (fun m i g o pre W hi hat hJ hN => tell_all F hF l n₀ N J Jx hY hD r m A n _ g o pre W (hkids i hi) hat hJ hN)
set_option maxHeartbeats 1000000 in
theorem all1_in (F : Fence) (hF : F = Fence.wide) (n : Nat) (l Bt n₀ r A k : Nat) (t : Tr) (g o : Nat) (J Jx : List ByteArray → World → Prop)
    (hY : ∀ pre x W, J pre W → pre.length < (inord r t).length → YieldAt F (n - 1) Try.prog l #[.string x] W fun e W' =>
      (e = .returned (.bool true) ∧ J (pre ++ [x]) W' ∧ Below n₀ W W') ∨ (e = .returned (.bool false) ∧ Jx (pre ++ [x]) W')) (hD : ∀ pre W, J pre W → J pre W.drew)
    (W : World) (hBt : W.cell? ⟨Bt, 0, none⟩ = some (.pointer (some ⟨g, o, none⟩))) (hl : (lev r t).isSome = true) (hat : TrAt W A n₀ k t g o) (h0 : J [] W) :
    CallsIn F n Try.prog 38 #[.func (.yield l) #[] #[], .pointer (some ⟨Bt, 0, none⟩)] W fun e W' => (∃ v, e = .returned v) ∧
      ((∃ ys, ys = inord r t ∧ J ys W') ∨ (∃ pre, pre <+: inord r t ∧ Jx pre W')) := by
  have hd : F.depth = none := by rw [hF]; rfl
  have hf : F.fn 38 := by rw [hF]; trivial
  have hf2 : F.fn 39 := by rw [hF]; trivial
  have hro : F.round = none := by rw [hF]; rfl
  have hdd : ∀ k : Nat, (F.depth.isSome = true → 1 ≤ k) := fun k h => by rw [hd] at h; cases h
  have hp := tell_all F hF l n₀ (inord r t).length J Jx (fun m pre x W hj hl => yieldAny hd m (hY pre x W hj hl)) hD r (n - 1) A k t g o [] W hl hat h0 (by simp)
  have HP := hide hp
  clear hp hY hF hl hat h0
  generalize inord r t = all at *
  refine callsIn_of_wp Try.func38 rfl hf ?_ hro
  simp only [Try.ntmps38, List.size_toArray, List.length_cons, List.length_nil, Nat.reduceAdd, Nat.reduceSub, Array.replicate_succ, Array.replicate_zero, List.push_toArray, List.append_toArray, List.nil_append, List.cons_append]
  gi_wp2_with ((try refine ⟨hdd _, ?_⟩); gi_at_call 39; refine HP.out.mono ?_; clear HP; rintro e W1 (⟨rfl, hJ1, _⟩ | ⟨rfl, q, hq, hx⟩))
  · go_end0
    exact ⟨⟨_, rfl⟩, .inl ⟨_, rfl, by simpa using hJ1⟩⟩
  · go_end0
    exact ⟨⟨_, rfl⟩, .inr ⟨q, hq, by simpa using hx⟩⟩
theorem keysOf_in (F : Fence) (n : Nat) (hf : F.fn 31) (hro : F.round = none) (p : Option Addr) (w : World) :
    CallsIn F n Try.prog 31 #[.pointer p] w fun e w' => e = .returned (.func (.func 38) #[] #[.pointer (some ⟨w.heap.size, 0, none⟩)]) ∧ w' = w.alloc (.cells #[.pointer p] 47) := by
  refine callsIn_of_wp Try.func31 rfl hf ?_ hro
  simp only [Try.ntmps31, List.size_toArray, List.length_cons, List.length_nil, Nat.reduceAdd, Nat.reduceSub, Array.replicate_succ, Array.replicate_zero, List.push_toArray, List.append_toArray, List.nil_append, List.cons_append]
  gi_wp2
  go_ret
  exact ⟨rfl, rfl⟩
theorem grown_drewN (W : World) : W.grownBy W.drew none := ⟨rfl, rfl, rfl, Nat.le_refl _, fun _ _ _ => rfl⟩
theorem keys_stops (F : Fence) (hF : F = Fence.wide) (n : Nat) (Bt n₀ r A k : Nat) (t : Tr) (g o : Nat) (w : World) (hBt : Bt < w.heap.size) (hn₀ : n₀ ≤ w.heap.size) (hc : w.cell? ⟨Bt, 0, none⟩ = some (.pointer (some ⟨g, o, none⟩))) (hl : (lev r t).isSome = true) (hat : TrAt w A n₀ k t g o) :
    SeqStopsK F n Try.prog 38 #[.pointer (some ⟨Bt, 0, none⟩)] (fun x : ByteArray => #[Value.string x]) (Below n₀) (fun ys => ys = inord r t) (fun pre => pre <+: inord r t) (inord r t).length w := fun l J Jx W hW hJ _ hY h0 =>
  all1_in F hF n l Bt n₀ r A k t g o J Jx hY (fun pre W hj => hJ pre W W.drew none hj (grown_drewN W) (fun r e => by cases e)) W ((hW.cell (p := ⟨Bt, 0, none⟩) hBt).trans hc) hl (hat.kept (hW.mono hn₀)) h0
/-- The last of what has come. -/
def lastOf (l : List ByteArray) : ByteArray := l.getLastD ⟨#[]⟩
theorem lastOf_snoc (l : List ByteArray) (x : ByteArray) : lastOf (l ++ [x]) = x := by simp [lastOf, List.getLastD_eq_getLast?]
theorem rises_snoc : ∀ (l : List ByteArray) (x : ByteArray), l ≠ [] → rises (l ++ [x]) = (rises l && lt' (lastOf l) x)
  | [], _, h => absurd rfl h
  | [a], x, _ => by simp [rises, lastOf]
  | a :: b :: l, x, _ => by
    have ih := rises_snoc (b :: l) x (by simp)
    have e : lastOf (a :: b :: l) = lastOf (b :: l) := by simp [lastOf, List.getLastD_eq_getLast?]
    rw [e]
    simp only [List.cons_append, rises] at ih ⊢
    rw [ih, Bool.and_assoc]
theorem rises_prefix : ∀ {a b : List ByteArray}, a <+: b → rises a = false → rises b = false
  | [], _, _, h => by simp [rises] at h
  | [_], _, _, h => by simp [rises] at h
  | x :: y :: a, b, hp, h => by
    obtain ⟨c, rfl⟩ := hp
    have ih := @rises_prefix (y :: a) (y :: a ++ c) (List.prefix_append _ _)
    simp only [List.cons_append, rises, Bool.and_eq_false_iff] at h ih ⊢
    rcases h with h | h
    · exact .inl h
    · exact .inr (ih h)
end Go.Proofs.Ytffgobkgkhmeoaa
