/-
  Contracts: the keys of any right tree are told, of one without keys, too; how many they are.
-/
import Derived.Test.YtffgobkgkhmeoaaTrLevels
namespace Go.Proofs.Ytffgobkgkhmeoaa
open Go.RowKit Go.Shelf
attribute [local go_sem] Oper.semAt_some
set_option maxRecDepth 100000

/-- The keys of a right tree, in their order. -/
def allOf (t : Tr) : List ByteArray := if t.keys.length = 0 then [] else inord 12 t
theorem lev_of_right {t : Tr} (h : (trLev t).isSome = true) (hk : t.keys.length ≠ 0) : (lev 12 t).isSome = true := by
  rw [trLev_keys hk] at h
  cases hl : lev 12 t with
  | none => rw [hl] at h; cases h
  | some L => rfl
theorem kids_of_none {t : Tr} (h : (trLev t).isSome = true) (hk : t.keys.length = 0) : t.kids.length = 0 := by
  rw [trLev_none hk] at h
  split at h
  · rename_i h'; exact h'.2
  · cases h
theorem tell_right (F : Fence) (hF : F = Fence.wide) (l n₀ N : Nat) (J Jx : List ByteArray → World → Prop)
    (hY : ∀ m pre x W, J pre W → pre.length < N → YieldAt F m Try.prog l #[.string x] W fun e W' => (e = .returned (.bool true) ∧ J (pre ++ [x]) W' ∧ Below n₀ W W') ∨ (e = .returned (.bool false) ∧ Jx (pre ++ [x]) W')) (hD : ∀ pre W, J pre W → J pre W.drew)
    (m A n : Nat) (t : Tr) (g o : Nat) (pre : List ByteArray) (W : World) (hr : (trLev t).isSome = true) (hat : TrAt W A n₀ n t g o) (hJ : J pre W) (hN : pre.length + (allOf t).length ≤ N) :
      CallsIn F m Try.prog 39 #[.pointer (some ⟨g, o, none⟩), .func (.yield l) #[] #[]] W (TellPost J Jx n₀ pre (allOf t) W) := by
  by_cases hk : t.keys.length = 0
  · have e : allOf t = [] := if_pos hk
    rw [e] at hN ⊢
    obtain ⟨ks, vs, cs⟩ := t
    have hks := List.eq_nil_of_length_eq_zero (show ks.length = 0 from hk)
    subst hks
    exact tell_leaf F hF l n₀ N J Jx hY m A n [] vs cs g o pre W hD (kids_of_none hr hk) (Nat.zero_le _) hat hJ hN
  · have e : allOf t = inord 12 t := if_neg hk
    rw [e] at hN ⊢
    exact tell_all F hF l n₀ N J Jx hY hD 12 m A n t g o pre W (lev_of_right hr hk) hat hJ hN
set_option maxHeartbeats 1000000 in
theorem all1_right (F : Fence) (hF : F = Fence.wide) (n : Nat) (l Bt n₀ A k : Nat) (t : Tr) (g o : Nat) (J Jx : List ByteArray → World → Prop)
    (hY : ∀ pre x W, J pre W → pre.length < (allOf t).length → YieldAt F (n - 1) Try.prog l #[.string x] W fun e W' =>
      (e = .returned (.bool true) ∧ J (pre ++ [x]) W' ∧ Below n₀ W W') ∨ (e = .returned (.bool false) ∧ Jx (pre ++ [x]) W')) (hD : ∀ pre W, J pre W → J pre W.drew)
    (W : World) (hBt : W.cell? ⟨Bt, 0, none⟩ = some (.pointer (some ⟨g, o, none⟩))) (hl : (trLev t).isSome = true) (hat : TrAt W A n₀ k t g o) (h0 : J [] W) :
    CallsIn F n Try.prog 38 #[.func (.yield l) #[] #[], .pointer (some ⟨Bt, 0, none⟩)] W fun e W' => (∃ v, e = .returned v) ∧
      ((∃ ys, ys = allOf t ∧ J ys W') ∨ (∃ pre, pre <+: allOf t ∧ Jx pre W')) := by
  have hd : F.depth = none := by rw [hF]; rfl
  have hf : F.fn 38 := by rw [hF]; trivial
  have hf2 : F.fn 39 := by rw [hF]; trivial
  have hro : F.round = none := by rw [hF]; rfl
  have hdd : ∀ k : Nat, (F.depth.isSome = true → 1 ≤ k) := fun k h => by rw [hd] at h; cases h
  have hp := tell_right F hF l n₀ (allOf t).length J Jx (fun m pre x W hj hl => yieldAny hd m (hY pre x W hj hl)) hD (n - 1) A k t g o [] W hl hat h0 (by simp)
  have HP := hide hp
  clear hp hY hF hl hat h0
  generalize allOf t = all at *
  refine callsIn_of_wp Try.func38 rfl hf ?_ hro
  simp only [Try.ntmps38, List.size_toArray, List.length_cons, List.length_nil, Nat.reduceAdd, Nat.reduceSub, Array.replicate_succ, Array.replicate_zero, List.push_toArray, List.append_toArray, List.nil_append, List.cons_append]
  gi_wp2_with ((try refine ⟨hdd _, ?_⟩); gi_at_call 39; refine HP.out.mono ?_; clear HP; rintro e W1 (⟨rfl, hJ1, _⟩ | ⟨rfl, q, hq, hx⟩))
  · go_end0
    exact ⟨⟨_, rfl⟩, .inl ⟨_, rfl, by simpa using hJ1⟩⟩
  · go_end0
    exact ⟨⟨_, rfl⟩, .inr ⟨q, hq, by simpa using hx⟩⟩
theorem right_stops (F : Fence) (hF : F = Fence.wide) (n : Nat) (Bt n₀ A k : Nat) (t : Tr) (g o : Nat) (w : World) (hBt : Bt < w.heap.size) (hn₀ : n₀ ≤ w.heap.size) (hc : w.cell? ⟨Bt, 0, none⟩ = some (.pointer (some ⟨g, o, none⟩))) (hl : (trLev t).isSome = true) (hat : TrAt w A n₀ k t g o) :
    SeqStopsK F n Try.prog 38 #[.pointer (some ⟨Bt, 0, none⟩)] (fun x : ByteArray => #[Value.string x]) (Below n₀) (fun ys => ys = allOf t) (fun pre => pre <+: allOf t) (allOf t).length w := fun l J Jx W hW hJ _ hY h0 =>
  all1_right F hF n l Bt n₀ A k t g o J Jx hY (fun pre W hj => hJ pre W W.drew none hj (grown_drewN W) (fun r e => by cases e)) W ((hW.cell (p := ⟨Bt, 0, none⟩) hBt).trans hc) hl (hat.kept (hW.mono hn₀)) h0
/-- How many keys the first k kids have. -/
def sumK (f : Tr → List ByteArray) (cs : List Tr) : Nat → Nat
  | 0 => 0
  | k + 1 => sumK f cs k + (f (cs.getD k noTr)).length
theorem wpre_len (ks : List ByteArray) (cs : List Tr) (f : Tr → List ByteArray) : ∀ k, k ≤ cs.length → (wpre ks (cs.map f) k).length = k + sumK f cs k
  | 0, _ => rfl
  | k + 1, h => by
    rw [wpre_succ, map_getD _ _ _ noTr _ (by omega)]
    simp only [List.length_append, List.length_singleton, wpre_len ks cs f k (by omega), sumK]
    omega
theorem sumK_le {f : Tr → List ByteArray} {cs : List Tr} {b : Nat} (h : ∀ i, i < cs.length → (f (cs.getD i noTr)).length ≤ b) : ∀ k, k ≤ cs.length → sumK f cs k ≤ k * b
  | 0, _ => Nat.zero_le _
  | k + 1, hk => by
    have h1 := sumK_le h k (by omega)
    have h2 := h k (by omega)
    simp only [sumK, Nat.succ_mul]
    omega
/-- How many keys there are below a node of right shape. -/
theorem inord_count {r : Nat} {t : Tr} (h : nodeOk t = true) : (inord (r + 1) t).length = t.keys.length + sumK (inord r) t.kids t.kids.length := by
  rcases inord_parts (r := r) h with ⟨h0, he⟩ | ⟨h0, he⟩
  · rw [he, wpre_nil_len, h0]; rfl
  · rw [he, List.length_append, wpre_len _ _ _ _ (by omega), h0]
    simp only [sumK]
    omega
theorem inord_le : ∀ (r : Nat) (t : Tr), (lev r t).isSome = true → (inord r t).length + 1 ≤ 4 ^ r
  | 0, _, h => by simp [lev] at h
  | r + 1, t, h => by
    obtain ⟨hok, hk⟩ := lev_node h
    have h1 : t.keys.length ≤ 3 ∧ t.kids.length ≤ 4 := by
      unfold nodeOk at hok
      simp only [Bool.and_eq_true, decide_eq_true_eq, Bool.or_eq_true] at hok
      omega
    have h2 := sumK_le (f := inord r) (cs := t.kids) (b := 4 ^ r - 1) (fun i hi => by have := inord_le r _ (hk i hi); omega) t.kids.length (Nat.le_refl _)
    have h3 : t.kids.length * (4 ^ r - 1) ≤ 4 * (4 ^ r - 1) := Nat.mul_le_mul_right _ h1.2
    have h4 : 1 ≤ 4 ^ r := Nat.pos_of_ne_zero (by simp)
    rw [inord_count hok, Nat.pow_succ]
    omega
theorem sumK_mono (f : Tr → List ByteArray) (cs : List Tr) : ∀ (n k : Nat), k ≤ n → sumK f cs k ≤ sumK f cs n
  | 0, k, h => by obtain rfl : k = 0 := by omega
                  exact Nat.le_refl _
  | n + 1, k, h => by
    by_cases he : k = n + 1
    · subst he; exact Nat.le_refl _
    · have := sumK_mono f cs n k (by omega)
      simp only [sumK]; omega
end Go.Proofs.Ytffgobkgkhmeoaa
