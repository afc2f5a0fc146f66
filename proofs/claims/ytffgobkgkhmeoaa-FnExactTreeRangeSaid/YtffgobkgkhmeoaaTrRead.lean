/-
  What came in as an argument: a tree.
-/
import Derived.Test.YtffgobkgkhmeoaaRows
import Derived.Test.YtffgobkgkhmeoaaTrRow
import Derived.WalkKit
import Derived.ProofKit
import Derived.Deep.Slices
import Derived.Deep.Strs
import Derived.OpenShut
import Derived.ChangeSame
namespace Go.Proofs.Ytffgobkgkhmeoaa
open Go.RowKit Go.ChangeShapes Go.WideShapes
set_option maxRecDepth 100000

def IsTree (w : World) (v : Value) : Prop := ∃ n t ko kc vo vc xo xc, v = .agg #[.slice ko (Tr.keys t).length kc, .slice vo t.vals.length vc, .slice xo t.kids.length xc] ∧ TrRow w 0 w.heap.size n t ko vo xo
theorem TrRow.up {w : World} {A B : Nat} : ∀ (n : Nat) (t : Tr) (ko vo xo : Option Addr), TrRow w A B n t ko vo xo → TrRow w A B (n + 1) t ko vo xo
  | 0, _, _, _, _, h => h.elim
  | n + 1, _, _, _, _, ⟨hl, hk, hv, hx⟩ => ⟨hl, hk, hv, hx.mono (Nat.le_refl _) (Nat.le_refl _) (TrRow.up n)⟩
theorem TrRow.le {w : World} {A B : Nat} {n m : Nat} (h : n ≤ m) {t : Tr} {ko vo xo : Option Addr} (hr : TrRow w A B n t ko vo xo) : TrRow w A B m t ko vo xo := by
  induction m with
  | zero => obtain rfl : n = 0 := by omega
            exact hr
  | succ m ih =>
    by_cases he : n = m + 1
    · subst he; exact hr
    · exact TrRow.up _ _ _ _ _ (ih (by omega))
section
variable {H : Type} {enc : TypeId × Value → H} {W : World}

theorem addOffT (b off : Nat) (k : Nat) : (⟨b, off, none⟩ : Addr).add k = ⟨b, off + k, none⟩ := by unfold Addr.add; split <;> simp_all
theorem listOfT {α : Type} {n : Nat} {p : Nat → α → Prop} (h : ∀ i, i < n → ∃ x, p i x) : ∃ l : List α, l.length = n ∧ ∀ i (hi : i < l.length), p i l[i] := by
  induction n with
  | zero => exact ⟨[], rfl, fun i hi => by simp at hi⟩
  | succ n ih =>
    obtain ⟨l, hl, hp⟩ := ih (fun i hi => h i (by omega))
    obtain ⟨x, hx⟩ := h n (by omega)
    refine ⟨l ++ [x], by simp [hl], fun i hi => ?_⟩
    by_cases hi' : i < l.length
    · rw [List.getElem_append_left hi']; exact hp i hi'
    · have e : i = n := by simp at hi; omega
      subst e
      rw [List.getElem_append_right (by omega)]
      simpa [hl] using hx
/-- A slice whose elements can each be read as a thing, each by less fuel. -/
theorem readSliceF {α : Type} {t e : TypeId} {n : Nat} (hn : 1 ≤ n) (ht : Try.prog.underlying t = some (.slice e)) (hC : Try.prog.cellsOf e = n) (p : List Value → α → Prop) {base : Nat} {spare : Nat → Bool} {held : Bool}
    {fuel : Nat} {cs : List Value} {y : DataW H × List MemPlace} (he : ∀ m, m < fuel → ∀ cs y, DataW.trod enc Try.prog W base spare held m e cs = some y → ∃ x, p cs x) (h : DataW.trod enc Try.prog W base spare held fuel t cs = some y) :
    ∃ ao cap l, cs = [.slice ao (List.length l) cap] ∧ (l.length ≤ cap ∧ cap ≤ maxLen) ∧ (l.length = 0 ∨ ∃ b off, ao = some ⟨b, off, none⟩ ∧ b < W.heap.size) ∧
      ∀ b off, ao = some ⟨b, off, none⟩ → ∀ i (hi : i < l.length), ∃ cs', p cs' l[i] ∧ cs'.length = n ∧ ∀ j (hj : j < cs'.length), W.cell? ⟨b, off + i * n + j, none⟩ = some cs'[j] := by
  rcases DataW.trod_slice ht h with ⟨hcs, _⟩ | ⟨a, len', cap', elems, rest, m, hfu, hcs, _, _, hl, hm, hel, hx, _, _⟩
  · exact ⟨none, 0, [], by simpa using hcs, ⟨Nat.le_refl _, Nat.zero_le _⟩, .inl rfl, fun b off e => by cases e⟩
  · rw [hC] at hx
    obtain ⟨l, hvl, hvp⟩ := listOfT (n := len') (p := fun i (x : α) => ∃ cs', p cs' x ∧ cs'.length = n ∧ ∀ j (hj : j < cs'.length), W.cell? ((a.add (i * n)).add j) = some cs'[j]) (fun i hi => by
      have key := hx i hi
      rw [List.getElem?_eq_getElem (by omega)] at key
      obtain ⟨cs', h1, h2⟩ := Option.bind_eq_some_iff.1 key
      obtain ⟨x, hp⟩ := he m (by omega) _ _ h2
      obtain ⟨_, hlen, hc⟩ := World.cells?_some h1
      exact ⟨x, cs', hp, hlen, fun j hj => (hc j (by omega)).trans (List.getElem?_eq_getElem hj)⟩)
    subst hvl
    obtain ⟨b, off, spot⟩ := a
    refine ⟨_, cap', l, hcs, ⟨hl, hm⟩, ?_, ?_⟩
    · by_cases h0 : l.length = 0
      · exact .inl h0
      · obtain ⟨cs', _, hlen, hc⟩ := hvp 0 (by omega)
        have h1 := hc 0 (by omega)
        have hspot : spot = none := by simpa [Addr.add] using World.cell?_spot h1
        subst hspot
        simp only [addOffT] at h1
        exact .inr ⟨b, off, rfl, by simpa using block_lt_of_cell h1⟩
    · intro b' off' e i hi
      cases e
      obtain ⟨cs', hp, hlen, hc⟩ := hvp i hi
      exact ⟨cs', hp, hlen, fun j hj => by have := hc j hj; simpa only [addOffT] using this⟩
theorem getD_ofT {α : Type} (l : List α) (d : α) (i : Nat) (h : i < l.length) : l.getD i d = l[i] := by
  rw [List.getD_eq_getElem?_getD, List.getElem?_eq_getElem h]; rfl
theorem readStrs {base : Nat} {spare : Nat → Bool} {held : Bool} {fuel : Nat} {cs : List Value} {y : DataW H × List MemPlace} (h : DataW.trod enc Try.prog W base spare held fuel 22 cs = some y) :
    ∃ ao cap l, cs = [.slice ao (List.length l) cap] ∧ (l.length ≤ cap ∧ cap ≤ maxLen) ∧ StrRow W 0 W.heap.size ao l := by
  obtain ⟨ao, cap, l, rfl, hc, hb, hx⟩ := readSliceF (n := 1) (Nat.le_refl _) Try.underlying22 (by kernel_rfl) (fun cs (x : ByteArray) => cs = [.string x] ∧ x.size ≤ maxLen) (fun m _ cs y h => by
    obtain ⟨a, ea, _, wa⟩ := DataW.trod_string Try.underlying9 h
    exact ⟨a, ea, wa⟩) h
  refine ⟨ao, cap, l, rfl, hc, fun x hx' => ?_, ?_⟩
  · obtain ⟨i, hi, rfl⟩ := List.getElem_of_mem hx'
    rcases hb with h0 | ⟨b, off, e, _⟩
    · omega
    · obtain ⟨_, hp, _⟩ := hx b off e i hi
      exact hp.2
  · rcases hb with h0 | ⟨b, off, e, hlt⟩
    · exact .inl h0
    · refine .inr ⟨b, off, e, Nat.zero_le _, hlt, fun i hi => ?_⟩
      obtain ⟨cs', ⟨rfl, _⟩, _, hcell⟩ := hx b off e i hi
      have := hcell 0 (by simp)
      rw [getD_ofT l _ i hi]; simpa using this
theorem readTree {base : Nat} {spare : Nat → Bool} {held : Bool} : ∀ (fuel : Nat) (cs : List Value) (y : DataW H × List MemPlace), DataW.trod enc Try.prog W base spare held fuel 25 cs = some y →
    ∃ t ko kc vo vc xo xc, cs = [.slice ko (Tr.keys t).length kc, .slice vo t.vals.length vc, .slice xo t.kids.length xc] ∧ TrRow W 0 W.heap.size (fuel + 1) t ko vo xo := by
  intro fuel
  induction fuel using Nat.strongRecOn with
  | _ fuel ih =>
    intro cs y h
    obtain ⟨ys, n, hfu, _, hl, hlen, hx⟩ := DataW.trod_struct Try.underlying25 h
    have hC : Try.prog.cellsOf 25 = 3 := by kernel_rfl
    rw [hC] at hl
    match ys, hlen, cs, hl with
    | [y0, y1, y2], _, [c0, c1, c2], _ =>
      have h0 := hx 0 _ rfl
      have h1 := hx 1 _ rfl
      have h2 := hx 2 _ rfl
      have cS : Try.prog.cellsOf 22 = 1 := by kernel_rfl
      have cT : Try.prog.cellsOf 23 = 1 := by kernel_rfl
      have e0 : (([c0, c1, c2] : List Value).drop 0).take (Try.prog.cellsOf 22) = [c0] := by rw [cS]; rfl
      have e1 : (([c0, c1, c2] : List Value).drop 1).take (Try.prog.cellsOf 22) = [c1] := by rw [cS]; rfl
      have e2 : (([c0, c1, c2] : List Value).drop 2).take (Try.prog.cellsOf 23) = [c2] := by rw [cT]; rfl
      have h0' : DataW.trod enc Try.prog W base spare held n 22 [c0] = some y0 := by rw [← e0]; exact h0
      have h1' : DataW.trod enc Try.prog W base spare held n 22 [c1] = some y1 := by rw [← e1]; exact h1
      have h2' : DataW.trod enc Try.prog W base spare held n 23 [c2] = some y2 := by rw [← e2]; exact h2
      obtain ⟨ko, kc, ks, ek, hk1, hrk⟩ := readStrs h0'
      obtain ⟨vo, vc, vs, ev, hv1, hrv⟩ := readStrs h1'
      obtain ⟨xo, xc, ds, ex, hx1, hb, hxx⟩ := readSliceF (n := 3) (by omega) Try.underlying23 hC (fun cs (t : Tr) => ∃ ko kc vo vc xo xc, cs = [.slice ko (Tr.keys t).length kc, .slice vo t.vals.length vc, .slice xo t.kids.length xc] ∧ TrRow W 0 W.heap.size fuel t ko vo xo) (fun m hm cs y h => by
        obtain ⟨t, ko, kc, vo, vc, xo, xc, hcs, hr⟩ := ih m (by omega) cs y h
        exact ⟨t, ko, kc, vo, vc, xo, xc, hcs, TrRow.le (by omega) hr⟩) h2'
      simp only [List.cons.injEq, and_true] at ek ev ex
      subst ek ev ex
      refine ⟨.node ks vs ds, ko, kc, vo, vc, xo, xc, rfl, ⟨Nat.le_trans hk1.1 hk1.2, Nat.le_trans hv1.1 hv1.2, Nat.le_trans hx1.1 hx1.2⟩, hrk, hrv, ?_⟩
      rcases hb with hb0 | ⟨b, off, e, hlt⟩
      · exact .inl hb0
      · refine .inr ⟨b, off, e, Nat.zero_le _, hlt, fun i hi => ?_⟩
        obtain ⟨cs', ⟨ko', kc', vo', vc', yo, yc, rfl, hr⟩, _, hcell⟩ := hxx b off e i hi
        change i < ds.length at hi
        rw [show (Tr.node ks vs ds).kids.getD i noTr = ds[i] from getD_ofT ds noTr i hi]
        exact ⟨ko', kc', vo', vc', yo, yc, by simpa using hcell 0 (by simp), by simpa using hcell 1 (by simp), by simpa using hcell 2 (by simp), hr⟩
theorem rdTree {base : Nat} {v : Value} {d : DataW H} {p : List MemPlace} (hv : Value.okWide Try.prog W .any base 25 v) (h : DataW.Trod enc Try.prog W 0 (fun _ => true) true 25 v d p) : IsTree W v := by
  obtain ⟨fuel, hf⟩ := h
  obtain ⟨cs, rfl, _⟩ := okWide_struct Try.underlying25 hv
  obtain ⟨t, ko, kc, vo, vc, xo, xc, hcs, hr⟩ := readTree fuel _ _ hf
  have hcv : (Value.agg cs).cells.toList = cs.toList := by simp [Value.cells]
  rw [hcv] at hcs
  exact ⟨_, t, ko, kc, vo, vc, xo, xc, by rw [← Array.toArray_toList (xs := cs), hcs], hr⟩
end
end Go.Proofs.Ytffgobkgkhmeoaa
