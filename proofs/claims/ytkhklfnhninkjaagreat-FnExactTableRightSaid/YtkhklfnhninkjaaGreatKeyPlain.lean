/-
  Plain facts on values: which are right, their bytes, how these are read, and that the order of the bytes is that of the values.
-/
import Derived.WalkKit
namespace Go.Proofs.YtkhklfnhninkjaaGreat
open Go.RowKit

/-- A value's three fields. -/
structure Val where
  kind : Int
  num : Int
  text : ByteArray
/-- The fields lie in int64. -/
def Val.ok (v : Val) : Prop := -9223372036854775808 ≤ v.kind ∧ v.kind ≤ 9223372036854775807 ∧ -9223372036854775808 ≤ v.num ∧ v.num ≤ 9223372036854775807
def vRight (v : Val) : Bool :=
  if v.kind = 0 then decide (v.num = 0 ∧ v.text.size = 0) else if v.kind = 1 then decide ((v.num = 0 ∨ v.num = 1) ∧ v.text.size = 0)
  else if v.kind = 2 then decide (v.text.size = 0) else if v.kind = 3 then decide (v.num = 0 ∧ v.text.size ≤ 200) else false
def vsRight (l : List Val) : Bool := decide (l.length ≤ 12) && l.all vRight

theorem ba_ext {a b : ByteArray} (h : a.data.toList = b.data.toList) : a = b := ByteArray.ext (Array.ext' h)
theorem ba_size (a : ByteArray) : a.size = a.data.toList.length := rfl
theorem ba_empty {a : ByteArray} (h : a.size = 0) : a = ByteArray.empty := by
  apply ba_ext
  rw [ba_size] at h
  rw [List.eq_nil_of_length_eq_zero h]; rfl

/-- The order of texts, as a number. -/
def cmpB : List UInt8 → List UInt8 → Int
  | [], [] => 0
  | [], _ :: _ => -1
  | _ :: _, [] => 1
  | a :: x, b :: y => if a = b then cmpB x y else if a < b then -1 else 1
theorem cmpB_less : ∀ x y, Op.bytesLess x y = decide (cmpB x y = -1)
  | [], [] => rfl
  | [], _ :: _ => rfl
  | _ :: _, [] => rfl
  | a :: x, b :: y => by
    by_cases h : a = b
    · subst h
      have e : Op.bytesLess (a :: x) (a :: y) = Op.bytesLess x y := by simp [Op.bytesLess]
      rw [e, cmpB_less x y]; simp [cmpB]
    · by_cases h2 : a < b <;> simp [Op.bytesLess, cmpB, h, h2]
theorem cmpB_self : ∀ x, cmpB x x = 0
  | [] => rfl
  | a :: x => by simp [cmpB, cmpB_self x]
theorem cmpB_zero : ∀ x y, cmpB x y = 0 → x = y
  | [], [] => fun _ => rfl
  | [], _ :: _ => fun h => by simp [cmpB] at h
  | _ :: _, [] => fun h => by simp [cmpB] at h
  | a :: x, b :: y => fun h => by
    by_cases e : a = b
    · subst e
      simp [cmpB] at h
      rw [cmpB_zero x y h]
    · by_cases h2 : a < b <;> simp [cmpB, e, h2] at h
theorem cmpB_flip : ∀ x y, cmpB y x = -cmpB x y
  | [], [] => rfl
  | [], _ :: _ => rfl
  | _ :: _, [] => rfl
  | a :: x, b :: y => by
    by_cases h : a = b
    · subst h; simp [cmpB, cmpB_flip x y]
    · have h' : ¬ b = a := fun e => h e.symm
      by_cases h2 : a < b
      · have h3 : ¬ b < a := by rw [UInt8.lt_iff_toNat_lt] at h2 ⊢; omega
        simp [cmpB, h, h', h2, h3]
      · have h3 : b < a := by
          have : a.toNat ≠ b.toNat := fun e => h (UInt8.toNat_inj.1 e)
          rw [UInt8.lt_iff_toNat_lt] at h2 ⊢; omega
        simp [cmpB, h, h', h2, h3]
theorem cmpB_three : ∀ x y, cmpB x y = 0 ∨ cmpB x y = -1 ∨ cmpB x y = 1
  | [], [] => .inl rfl
  | [], _ :: _ => .inr (.inl rfl)
  | _ :: _, [] => .inr (.inr rfl)
  | a :: x, b :: y => by
    by_cases h : a = b
    · subst h; simpa [cmpB] using cmpB_three x y
    · by_cases h2 : a < b <;> simp [cmpB, h, h2]

/-- A text's bytes, a byte 0 as 0 and 255. -/
def esc : List UInt8 → List UInt8
  | [] => []
  | b :: r => if b = 0 then 0 :: 255 :: esc r else b :: esc r
/-- k bytes of a number, the highest first. -/
def be : Nat → Nat → List UInt8
  | 0, _ => []
  | k + 1, n => UInt8.ofNat (n / 256 ^ k) :: be k (n % 256 ^ k)
def keyV (v : Val) : List UInt8 :=
  if v.kind = 0 then [0] else if v.kind = 1 then [1, UInt8.ofNat v.num.toNat] else if v.kind = 2 then 2 :: be 8 (v.num + 9223372036854775808).toNat
  else 3 :: (esc v.text.data.toList ++ [0, 0])
def keyL (vs : List Val) : List UInt8 := (vs.map keyV).flatten
theorem keyL_cons (v : Val) (vs : List Val) : keyL (v :: vs) = keyV v ++ keyL vs := by simp [keyL]
theorem keyL_nil : keyL [] = [] := rfl
theorem keyL_snoc (vs : List Val) (v : Val) : keyL (vs ++ [v]) = keyL vs ++ keyV v := by simp [keyL]
theorem be_len : ∀ k n, (be k n).length = k
  | 0, _ => rfl
  | k + 1, n => by simp [be, be_len k]
theorem esc_len : ∀ l, (esc l).length ≤ 2 * l.length
  | [] => Nat.le_refl _
  | b :: r => by
    have := esc_len r
    by_cases h : b = 0 <;> simp [esc, h] <;> omega
theorem esc_append (a b : List UInt8) : esc (a ++ b) = esc a ++ esc b := by
  induction a with
  | nil => rfl
  | cons x r ih => by_cases h : x = 0 <;> simp [esc, h, ih]
theorem keyV_pos (v : Val) : 1 ≤ (keyV v).length := by
  unfold keyV
  by_cases h0 : v.kind = 0
  · simp [h0]
  by_cases h1 : v.kind = 1
  · simp [h1]
  by_cases h2 : v.kind = 2
  · simp [h2]
  · simp [h0, h1, h2]
theorem keyV_len (v : Val) (h : vRight v = true) : (keyV v).length ≤ 403 := by
  unfold keyV
  unfold vRight at h
  by_cases h0 : v.kind = 0
  · simp [h0]
  by_cases h1 : v.kind = 1
  · simp [h1]
  by_cases h2 : v.kind = 2
  · simp [h2, be_len]
  by_cases h3 : v.kind = 3
  · simp [h3] at h ⊢
    have := esc_len v.text.data.toList
    rw [← ba_size] at this
    omega
  · simp [h0, h1, h2, h3] at h
theorem keyL_len (vs : List Val) (h : vs.all vRight = true) : (keyL vs).length ≤ 403 * vs.length := by
  induction vs with
  | nil => simp [keyL]
  | cons v r ih =>
    rw [List.all_cons, Bool.and_eq_true] at h
    have := ih h.2
    have := keyV_len v h.1
    rw [keyL_cons, List.length_append, List.length_cons]; omega

/-- The plain bytes up to 0 0, and what is behind. -/
def unesc : List UInt8 → Option (List UInt8 × List UInt8)
  | [] => none
  | [_] => none
  | b :: c :: r => if b = 0 then (if c = 0 then some ([], r) else if c = 255 then (unesc r).map fun p => (0 :: p.1, p.2) else none) else (unesc (c :: r)).map fun p => (b :: p.1, p.2)
theorem unesc_esc (l r : List UInt8) : unesc (esc l ++ 0 :: 0 :: r) = some (l, r) := by
  induction l with
  | nil => simp [esc, unesc]
  | cons b t ih =>
    by_cases h : b = 0
    · subst h
      simp [esc, unesc, ih]
    · rw [esc, if_neg h]
      cases he : esc t ++ 0 :: 0 :: r with
      | nil => simp at he
      | cons c u =>
        rw [List.cons_append, he, unesc, if_neg h, ← he, ih]; rfl
theorem esc_unesc : ∀ l p r, unesc l = some (p, r) → l = esc p ++ 0 :: 0 :: r
  | [], _, _, h => by simp [unesc] at h
  | [_], _, _, h => by simp [unesc] at h
  | b :: c :: t, p, r, h => by
    rw [unesc] at h
    by_cases hb : b = 0
    · rw [if_pos hb] at h
      by_cases hc : c = 0
      · rw [if_pos hc] at h
        simp at h
        obtain ⟨rfl, rfl⟩ := h
        simp [esc, hb, hc]
      · rw [if_neg hc] at h
        by_cases h5 : c = 255
        · rw [if_pos h5] at h
          simp at h
          obtain ⟨a, ha, rfl⟩ := h
          have := esc_unesc t a r ha
          simp [esc, hb, h5, this]
        · rw [if_neg h5] at h; simp at h
    · rw [if_neg hb] at h
      simp at h
      obtain ⟨a, ha, rfl⟩ := h
      have := esc_unesc (c :: t) a r ha
      simp [esc, hb, this]
theorem unesc_zero (c : UInt8) (r : List UInt8) : unesc (0 :: c :: r) = if c = 0 then some ([], r) else if c = 255 then (unesc r).map fun p => (0 :: p.1, p.2) else none := by
  rw [unesc, if_pos rfl]
theorem unesc_more (b : UInt8) (hb : b ≠ 0) : ∀ r, unesc (b :: r) = (unesc r).map fun p => (b :: p.1, p.2)
  | [] => rfl
  | c :: r => by rw [unesc, if_neg hb]

def beVal : List UInt8 → Nat := fun l => l.foldl (fun a b => a * 256 + b.toNat) 0
theorem beVal_snoc (l : List UInt8) (b : UInt8) : beVal (l ++ [b]) = beVal l * 256 + b.toNat := by simp [beVal]
theorem foldl_be (l : List UInt8) : ∀ a, l.foldl (fun a b => a * 256 + b.toNat) a = a * 256 ^ l.length + beVal l := by
  induction l with
  | nil => intro a; simp [beVal]
  | cons b r ih =>
    intro a
    unfold beVal
    simp only [List.foldl_cons, List.length_cons]
    rw [ih, ih (0 * 256 + b.toNat)]
    rw [Nat.pow_succ, Nat.add_mul, Nat.mul_assoc, Nat.mul_comm 256, Nat.zero_mul, Nat.zero_add]; omega
theorem beVal_cons (b : UInt8) (l : List UInt8) : beVal (b :: l) = b.toNat * 256 ^ l.length + beVal l := by
  have := foldl_be l (0 * 256 + b.toNat)
  unfold beVal at *
  rw [List.foldl_cons, this]; simp
theorem beVal_lt (l : List UInt8) : beVal l < 256 ^ l.length := by
  induction l with
  | nil => simp [beVal]
  | cons b r ih =>
    rw [beVal_cons, List.length_cons, Nat.pow_succ]
    have h1 : b.toNat ≤ 255 := by have := b.toNat_lt; omega
    have h2 := Nat.mul_le_mul_right (256 ^ r.length) h1
    omega
theorem be_val : ∀ k n, n < 256 ^ k → beVal (be k n) = n
  | 0, n, h => by simp [be, beVal] at h ⊢; omega
  | k + 1, n, h => by
    have hp : 0 < 256 ^ k := Nat.pow_pos (by omega)
    have hd : n / 256 ^ k < 256 := Nat.div_lt_of_lt_mul (by rw [Nat.pow_succ] at h; exact h)
    rw [be, beVal_cons, be_len, be_val k _ (Nat.mod_lt _ hp), UInt8.toNat_ofNat', Nat.mod_eq_of_lt hd, Nat.mul_comm]
    exact Nat.div_add_mod n (256 ^ k)
theorem val_be (l : List UInt8) : be l.length (beVal l) = l := by
  induction l with
  | nil => rfl
  | cons b r ih =>
    have hp : 0 < 256 ^ r.length := Nat.pow_pos (by omega)
    have hv := beVal_lt r
    rw [List.length_cons, be, beVal_cons, Nat.mul_comm, Nat.mul_add_div hp, Nat.mul_add_mod, Nat.div_eq_of_lt hv, Nat.mod_eq_of_lt hv, ih]
    simp

/-- The value that stands at the head of bytes, and what is behind. -/
def readV : List UInt8 → Option (Val × List UInt8)
  | [] => none
  | k :: r =>
    if k = 0 then some (⟨0, 0, ByteArray.empty⟩, r)
    else if k = 1 then (match r with | [] => none | b :: t => if b.toNat ≤ 1 then some (⟨1, b.toNat, ByteArray.empty⟩, t) else none)
    else if k = 2 then (if r.length < 8 then none else some (⟨2, (beVal (r.take 8) : Int) - 9223372036854775808, ByteArray.empty⟩, r.drop 8))
    else if k = 3 then (match unesc r with | none => none | some (p, t) => if p.length ≤ 200 then some (⟨3, 0, ⟨p.toArray⟩⟩, t) else none)
    else none
def readN : Nat → List UInt8 → Option (List Val)
  | _, [] => some []
  | 0, _ :: _ => none
  | n + 1, l => match readV l with | none => none | some (v, r) => (readN n r).map fun vs => v :: vs

theorem readV_key (v : Val) (h : vRight v = true) (ho : v.ok) (r : List UInt8) : readV (keyV v ++ r) = some (v, r) := by
  obtain ⟨k, n, t⟩ := v
  obtain ⟨_, _, ho1, ho2⟩ := ho
  simp only at ho1 ho2
  unfold vRight at h
  unfold keyV
  simp only at h ⊢
  by_cases h0 : k = 0
  · subst h0
    simp at h
    obtain ⟨rfl, ht⟩ := h
    obtain rfl := ht
    simp [readV]
  by_cases h1 : k = 1
  · subst h1
    simp at h
    obtain ⟨hn, ht⟩ := h
    obtain rfl := ht
    rcases hn with rfl | rfl <;> simp [readV]
  by_cases h2 : k = 2
  · subst h2
    simp at h
    obtain rfl := h
    have hb := be_val 8 (n + 9223372036854775808).toNat (by omega)
    have hl := be_len 8 (n + 9223372036854775808).toNat
    simp only [if_neg h0, if_neg h1, if_true, readV, List.cons_append]
    rw [if_neg (by decide), if_neg (by decide), if_neg (by rw [List.length_append, hl]; omega), List.take_left' hl, List.drop_left' hl, hb]
    have : (((n + 9223372036854775808).toNat : Nat) : Int) - 9223372036854775808 = n := by omega
    rw [this]
  by_cases h3 : k = 3
  · subst h3
    simp at h
    obtain ⟨rfl, ht⟩ := h
    simp only [if_neg h0, if_neg h1, if_neg h2, readV, List.cons_append, List.append_assoc]
    rw [if_neg (by decide), if_neg (by decide), if_neg (by decide), if_true]
    show (match unesc (esc t.data.toList ++ 0 :: 0 :: r) with | none => none | some (p, t) => if p.length ≤ 200 then some ((⟨3, 0, ⟨p.toArray⟩⟩ : Val), t) else none) = _
    rw [unesc_esc]
    simp only
    rw [if_pos (by rw [← ba_size]; exact ht)]
  · simp [h0, h1, h2, h3] at h
theorem key_readV (l : List UInt8) (v : Val) (r : List UInt8) (h : readV l = some (v, r)) : vRight v = true ∧ v.ok ∧ keyV v ++ r = l := by
  cases l with
  | nil => simp [readV] at h
  | cons k t =>
    rw [readV.eq_def] at h
    simp only at h
    by_cases h0 : k = 0
    · rw [if_pos h0] at h
      simp at h
      obtain ⟨rfl, rfl⟩ := h
      exact ⟨rfl, ⟨by simp, by simp, by simp, by simp⟩, by simp [keyV, h0]⟩
    rw [if_neg h0] at h
    by_cases h1 : k = 1
    · rw [if_pos h1] at h
      cases t with
      | nil => simp at h
      | cons b u =>
        simp only at h
        by_cases hb : b.toNat ≤ 1
        · rw [if_pos hb] at h
          simp at h
          obtain ⟨rfl, rfl⟩ := h
          refine ⟨?_, ⟨by simp, by simp, by show _ ≤ (b.toNat : Int); omega, by show (b.toNat : Int) ≤ _; omega⟩, ?_⟩
          · have : (b.toNat : Int) = 0 ∨ (b.toNat : Int) = 1 := by omega
            show decide (((b.toNat : Int) = 0 ∨ (b.toNat : Int) = 1) ∧ ByteArray.empty.size = 0) = true
            exact decide_eq_true ⟨this, rfl⟩
          · simp [keyV, h1]
        · rw [if_neg hb] at h; simp at h
    rw [if_neg h1] at h
    by_cases h2 : k = 2
    · rw [if_pos h2] at h
      by_cases hl : t.length < 8
      · rw [if_pos hl] at h; simp at h
      · rw [if_neg hl] at h
        simp at h
        obtain ⟨rfl, rfl⟩ := h
        have h8 : (t.take 8).length = 8 := by rw [List.length_take]; omega
        have hv := beVal_lt (t.take 8)
        rw [h8] at hv
        refine ⟨rfl, ⟨by simp, by simp, by simp; omega, by simp; omega⟩, ?_⟩
        have e := val_be (t.take 8)
        rw [h8] at e
        show (2 : UInt8) :: be 8 ((beVal (t.take 8) : Int) - 9223372036854775808 + 9223372036854775808).toNat ++ t.drop 8 = k :: t
        have : ((beVal (t.take 8) : Int) - 9223372036854775808 + 9223372036854775808).toNat = beVal (t.take 8) := by omega
        rw [this, e, h2, List.cons_append, List.take_append_drop]
    rw [if_neg h2] at h
    by_cases h3 : k = 3
    · rw [if_pos h3] at h
      cases hu : unesc t with
      | none => rw [hu] at h; simp at h
      | some q =>
        obtain ⟨p, u⟩ := q
        rw [hu] at h
        simp only at h
        by_cases hp : p.length ≤ 200
        · rw [if_pos hp] at h
          simp at h
          obtain ⟨rfl, rfl⟩ := h
          have := esc_unesc t p u hu
          refine ⟨?_, ⟨by simp, by simp, by simp, by simp⟩, ?_⟩
          · simp [vRight, ByteArray.size, hp]
          · simp [keyV, h3, this]
        · rw [if_neg hp] at h; simp at h
    · rw [if_neg h3] at h; simp at h
theorem readN_key (vs : List Val) : ∀ n, vs.length ≤ n → vs.all vRight = true → (∀ v ∈ vs, v.ok) → readN n (keyL vs) = some vs := by
  induction vs with
  | nil => intro n _ _ _; cases n <;> rfl
  | cons v r ih =>
    intro n hn h ho
    rw [List.all_cons, Bool.and_eq_true] at h
    rw [List.length_cons] at hn
    obtain ⟨m, rfl⟩ : ∃ m, n = m + 1 := ⟨n - 1, by omega⟩
    rw [keyL_cons]
    have hp := keyV_pos v
    cases hk : keyV v ++ keyL r with
    | nil =>
      have : (keyV v ++ keyL r).length = 0 := by rw [hk]; rfl
      rw [List.length_append] at this; omega
    | cons b t =>
      rw [readN, ← hk, readV_key v h.1 (ho v (List.mem_cons_self ..))]
      · simp only
        rw [ih m (by omega) h.2 (fun x hx => ho x (List.mem_cons_of_mem _ hx))]; rfl
      · intro e
        rw [e] at hk
        have h0 : (keyV v ++ keyL r).length = 0 := by rw [hk]; rfl
        rw [List.length_append] at h0; omega
theorem key_readN : ∀ n l vs, readN n l = some vs → vs.length ≤ n ∧ vs.all vRight = true ∧ (∀ v ∈ vs, v.ok) ∧ keyL vs = l
  | n, [], vs, h => by
    have : vs = [] := by cases n <;> simpa [readN] using h.symm
    subst this
    exact ⟨Nat.zero_le _, rfl, fun _ hv => by simp at hv, rfl⟩
  | 0, _ :: _, vs, h => by simp [readN] at h
  | n + 1, k :: t, vs, h => by
    rw [readN] at h
    · cases hr : readV (k :: t) with
      | none => rw [hr] at h; simp at h
      | some q =>
        obtain ⟨v, r⟩ := q
        rw [hr] at h
        simp at h
        obtain ⟨us, hu, rfl⟩ := h
        obtain ⟨a1, a2, a3⟩ := key_readV _ _ _ hr
        obtain ⟨b1, b2, b3, b4⟩ := key_readN n r us hu
        refine ⟨by simp; omega, by rw [List.all_cons, a1, b2]; rfl, fun x hx => ?_, by rw [keyL_cons, b4, a3]⟩
        rcases List.mem_cons.1 hx with rfl | hx
        · exact a2
        · exact b3 x hx
    · simp

/-- The order of values, as a number. -/
def cmpV (a b : Val) : Int :=
  if a.kind < b.kind then -1 else if b.kind < a.kind then 1 else if a.num < b.num then -1 else if b.num < a.num then 1 else cmpB a.text.data.toList b.text.data.toList
def cmpL : List Val → List Val → Int
  | [], [] => 0
  | [], _ :: _ => -1
  | _ :: _, [] => 1
  | a :: x, b :: y => if cmpV a b = 0 then cmpL x y else cmpV a b
theorem cmpV_flip (a b : Val) : cmpV b a = -cmpV a b := by
  unfold cmpV
  rw [cmpB_flip a.text.data.toList]
  repeat (first | omega | split)
theorem cmpV_three (a b : Val) : cmpV a b = 0 ∨ cmpV a b = -1 ∨ cmpV a b = 1 := by
  unfold cmpV
  have := cmpB_three a.text.data.toList b.text.data.toList
  repeat (first | omega | split)
theorem cmpV_zero (a b : Val) (h : cmpV a b = 0) : a = b := by
  unfold cmpV at h
  obtain ⟨k, n, t⟩ := a
  obtain ⟨k', n', t'⟩ := b
  simp only at h
  by_cases h1 : k < k'
  · rw [if_pos h1] at h; omega
  rw [if_neg h1] at h
  by_cases h2 : k' < k
  · rw [if_pos h2] at h; omega
  rw [if_neg h2] at h
  by_cases h3 : n < n'
  · rw [if_pos h3] at h; omega
  rw [if_neg h3] at h
  by_cases h4 : n' < n
  · rw [if_pos h4] at h; omega
  rw [if_neg h4] at h
  have e := ba_ext (cmpB_zero _ _ h)
  obtain rfl : k = k' := by omega
  obtain rfl : n = n' := by omega
  rw [e]
theorem cmpV_self (a : Val) : cmpV a a = 0 := by
  unfold cmpV
  rw [if_neg (by omega), if_neg (by omega), if_neg (by omega), if_neg (by omega), cmpB_self]
theorem cmpL_flip : ∀ x y, cmpL y x = -cmpL x y
  | [], [] => rfl
  | [], _ :: _ => rfl
  | _ :: _, [] => rfl
  | a :: x, b :: y => by
    rw [cmpL, cmpL, cmpV_flip a b, cmpL_flip x y]
    by_cases h : cmpV a b = 0
    · rw [if_pos h, if_pos (by omega)]
    · rw [if_neg h, if_neg (by omega)]
theorem cmpL_three : ∀ x y, cmpL x y = 0 ∨ cmpL x y = -1 ∨ cmpL x y = 1
  | [], [] => .inl rfl
  | [], _ :: _ => .inr (.inl rfl)
  | _ :: _, [] => .inr (.inr rfl)
  | a :: x, b :: y => by
    rw [cmpL]
    by_cases h : cmpV a b = 0
    · rw [if_pos h]; exact cmpL_three x y
    · rw [if_neg h]; exact cmpV_three a b

theorem cmpB_be : ∀ k m n r s, m < 256 ^ k → n < 256 ^ k → cmpB (be k m ++ r) (be k n ++ s) = if m = n then cmpB r s else if m < n then -1 else 1
  | 0, m, n, r, s, hm, hn => by
    have : m = n := by simp at hm hn; omega
    rw [if_pos this]; rfl
  | k + 1, m, n, r, s, hm, hn => by
    have hp : 0 < 256 ^ k := Nat.pow_pos (by omega)
    have hm' : m / 256 ^ k < 256 := Nat.div_lt_of_lt_mul (by rw [Nat.pow_succ] at hm; exact hm)
    have hn' : n / 256 ^ k < 256 := Nat.div_lt_of_lt_mul (by rw [Nat.pow_succ] at hn; exact hn)
    have em := Nat.div_add_mod m (256 ^ k)
    have en := Nat.div_add_mod n (256 ^ k)
    have lm := Nat.mod_lt m hp
    have ln := Nat.mod_lt n hp
    simp only [be, List.cons_append, cmpB]
    by_cases h : m / 256 ^ k = n / 256 ^ k
    · rw [if_pos (by rw [h]), cmpB_be k _ _ r s lm ln]
      rw [h] at em
      by_cases e : m % 256 ^ k = n % 256 ^ k
      · rw [if_pos e, if_pos (by omega)]
      · rw [if_neg e, if_neg (show ¬ m = n by omega)]
        by_cases l : m % 256 ^ k < n % 256 ^ k
        · rw [if_pos l, if_pos (by omega)]
        · rw [if_neg l, if_neg (by omega)]
    · have hne : ¬ UInt8.ofNat (m / 256 ^ k) = UInt8.ofNat (n / 256 ^ k) := by
        intro e
        have := congrArg UInt8.toNat e
        rw [UInt8.toNat_ofNat', UInt8.toNat_ofNat', Nat.mod_eq_of_lt hm', Nat.mod_eq_of_lt hn'] at this
        exact h this
      rw [if_neg hne, if_neg (show ¬ m = n by intro e; subst e; exact h rfl)]
      have hlt : (UInt8.ofNat (m / 256 ^ k) < UInt8.ofNat (n / 256 ^ k)) ↔ m < n := by
        rw [UInt8.lt_iff_toNat_lt, UInt8.toNat_ofNat', UInt8.toNat_ofNat', Nat.mod_eq_of_lt hm', Nat.mod_eq_of_lt hn']
        constructor
        · intro hl
          have := Nat.mul_le_mul_left (256 ^ k) (Nat.succ_le_of_lt hl)
          rw [Nat.mul_succ] at this; omega
        · intro hl
          rcases Nat.lt_or_ge (m / 256 ^ k) (n / 256 ^ k) with g | g
          · exact g
          · have := Nat.mul_le_mul_left (256 ^ k) (show n / 256 ^ k + 1 ≤ m / 256 ^ k by omega)
            rw [Nat.mul_succ] at this; omega
      by_cases l : m < n
      · rw [if_pos l, if_pos (hlt.2 l)]
      · rw [if_neg l, if_neg (fun g => l (hlt.1 g))]
theorem u8_pos {b : UInt8} (h : b ≠ 0) : (0 : UInt8) < b := by
  rw [UInt8.lt_iff_toNat_lt]
  have : b.toNat ≠ 0 := fun e => h (UInt8.toNat_inj.1 e)
  show 0 < _
  omega
theorem u8_pos' {b : UInt8} (_h : b ≠ 0) : ¬ b < (0 : UInt8) := by
  rw [UInt8.lt_iff_toNat_lt]
  show ¬ _ < 0
  omega
theorem cmpB_esc : ∀ x y r s, cmpB (esc x ++ 0 :: 0 :: r) (esc y ++ 0 :: 0 :: s) = if cmpB x y = 0 then cmpB r s else cmpB x y
  | [], [], r, s => by simp [esc, cmpB]
  | [], b :: y, r, s => by
    by_cases h : b = 0
    · simp [esc, cmpB, h]
    · have h' : ¬ (0 : UInt8) = b := fun e => h e.symm
      simp [esc, cmpB, h, h', u8_pos h]
  | a :: x, [], r, s => by
    by_cases h : a = 0
    · simp [esc, cmpB, h]
    · simp [esc, cmpB, h, u8_pos' h]
  | a :: x, b :: y, r, s => by
    have ih := cmpB_esc x y r s
    by_cases e : a = b
    · subst e
      by_cases h : a = 0
      · simp [esc, cmpB, h, ih]
      · simp [esc, cmpB, h, ih]
    · by_cases h : a = 0
      · subst h
        have hb : b ≠ 0 := fun e' => e e'.symm
        simp [esc, cmpB, hb, e, u8_pos hb]
      · by_cases hb : b = 0
        · subst hb
          simp [esc, cmpB, h, u8_pos' h]
        · by_cases l : a < b <;> simp [esc, cmpB, h, hb, e, l]
theorem u8_ofNat_lt {m n : Nat} (hm : m < 256) (hn : n < 256) : (UInt8.ofNat m < UInt8.ofNat n) ↔ m < n := by
  rw [UInt8.lt_iff_toNat_lt, UInt8.toNat_ofNat', UInt8.toNat_ofNat', Nat.mod_eq_of_lt hm, Nat.mod_eq_of_lt hn]
theorem right_kind {v : Val} (h : vRight v = true) : v.kind = 0 ∨ v.kind = 1 ∨ v.kind = 2 ∨ v.kind = 3 := by
  unfold vRight at h
  by_cases h0 : v.kind = 0
  · exact .inl h0
  by_cases h1 : v.kind = 1
  · exact .inr (.inl h1)
  by_cases h2 : v.kind = 2
  · exact .inr (.inr (.inl h2))
  by_cases h3 : v.kind = 3
  · exact .inr (.inr (.inr h3))
  · simp [h0, h1, h2, h3] at h
theorem keyV_head {v : Val} (h : vRight v = true) : ∃ t, keyV v = UInt8.ofNat v.kind.toNat :: t := by
  rcases right_kind h with h | h | h | h <;> simp [keyV, h]
theorem cmpB_keyV (a b : Val) (ha : vRight a = true) (hb : vRight b = true) (oa : a.ok) (ob : b.ok) (r s : List UInt8) :
    cmpB (keyV a ++ r) (keyV b ++ s) = if cmpV a b = 0 then cmpB r s else cmpV a b := by
  have ka := right_kind ha
  have kb := right_kind hb
  by_cases hk : a.kind = b.kind
  · obtain ⟨k, n, t⟩ := a
    obtain ⟨k', n', t'⟩ := b
    obtain ⟨_, _, oa1, oa2⟩ := oa
    obtain ⟨_, _, ob1, ob2⟩ := ob
    simp only at hk ka kb oa1 oa2 ob1 ob2
    subst hk
    unfold vRight at ha hb
    unfold cmpV keyV
    simp only at ha hb ⊢
    rw [if_neg (Int.lt_irrefl k), if_neg (Int.lt_irrefl k)]
    rcases ka with rfl | rfl | rfl | rfl
    · simp at ha hb
      obtain ⟨rfl, ht⟩ := ha
      obtain ⟨rfl, ht'⟩ := hb
      obtain rfl := ht
      obtain rfl := ht'
      simp [cmpB]
    · simp at ha hb
      obtain ⟨hn, ht⟩ := ha
      obtain ⟨hn', ht'⟩ := hb
      obtain rfl := ht
      obtain rfl := ht'
      rcases hn with rfl | rfl <;> rcases hn' with rfl | rfl <;> simp [cmpB]
    · simp at ha hb
      obtain rfl := ha
      obtain rfl := hb
      rw [if_neg (by omega), if_neg (by omega), if_pos rfl, if_neg (by omega), if_neg (by omega), if_pos rfl]
      have := cmpB_be 8 (n + 9223372036854775808).toNat (n' + 9223372036854775808).toNat r s (by omega) (by omega)
      rw [List.cons_append, List.cons_append, cmpB, if_pos rfl, this]
      have e0 : cmpB ByteArray.empty.data.toList ByteArray.empty.data.toList = 0 := rfl
      rw [e0]
      by_cases e : n = n'
      · subst e; simp
      · by_cases l : n < n'
        · rw [if_neg (by omega), if_pos (by omega), if_pos l, if_neg (by omega)]
        · rw [if_neg (by omega), if_neg (by omega), if_neg l, if_pos (show n' < n by omega), if_neg (by omega)]
    · simp at ha hb
      obtain ⟨rfl, ht⟩ := ha
      obtain ⟨rfl, ht'⟩ := hb
      simp only [Int.lt_irrefl, if_false]
      have := cmpB_esc t.data.toList t'.data.toList r s
      rw [if_neg (by omega), if_neg (by omega), if_neg (by omega), if_neg (by omega), if_neg (by omega), if_neg (by omega)]
      rw [List.cons_append, List.cons_append, cmpB, if_pos rfl, List.append_assoc, List.append_assoc]
      exact this
  · obtain ⟨u, hu⟩ := keyV_head ha
    obtain ⟨u', hu'⟩ := keyV_head hb
    rw [hu, hu', List.cons_append, List.cons_append, cmpB]
    have hne : ¬ UInt8.ofNat a.kind.toNat = UInt8.ofNat b.kind.toNat := by
      intro e
      have := congrArg UInt8.toNat e
      rw [UInt8.toNat_ofNat', UInt8.toNat_ofNat', Nat.mod_eq_of_lt (by omega), Nat.mod_eq_of_lt (by omega)] at this
      omega
    rw [if_neg hne]
    have hl := u8_ofNat_lt (m := a.kind.toNat) (n := b.kind.toNat) (by omega) (by omega)
    unfold cmpV
    by_cases l : a.kind < b.kind
    · rw [if_pos (hl.2 (by omega)), if_pos l, if_neg (by omega)]
    · rw [if_neg (fun g => by have := hl.1 g; omega), if_neg l, if_pos (show b.kind < a.kind by omega), if_neg (by omega)]
theorem cmpB_keyL : ∀ x y, x.all vRight = true → y.all vRight = true → (∀ v ∈ x, v.ok) → (∀ v ∈ y, v.ok) → cmpB (keyL x) (keyL y) = cmpL x y
  | [], [], _, _, _, _ => rfl
  | [], b :: y, _, hy, _, _ => by
    rw [List.all_cons, Bool.and_eq_true] at hy
    obtain ⟨t, ht⟩ := keyV_head hy.1
    rw [keyL_cons, ht]; rfl
  | a :: x, [], hx, _, _, _ => by
    rw [List.all_cons, Bool.and_eq_true] at hx
    obtain ⟨t, ht⟩ := keyV_head hx.1
    rw [keyL_cons, ht]; rfl
  | a :: x, b :: y, hx, hy, ox, oy => by
    rw [List.all_cons, Bool.and_eq_true] at hx hy
    rw [keyL_cons, keyL_cons, cmpB_keyV a b hx.1 hy.1 (ox a (List.mem_cons_self ..)) (oy b (List.mem_cons_self ..)), cmpL,
      cmpB_keyL x y hx.2 hy.2 (fun v hv => ox v (List.mem_cons_of_mem _ hv)) (fun v hv => oy v (List.mem_cons_of_mem _ hv))]
end Go.Proofs.YtkhklfnhninkjaaGreat
