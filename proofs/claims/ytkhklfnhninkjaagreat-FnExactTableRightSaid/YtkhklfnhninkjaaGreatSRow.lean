/-
  Numbers, columns, indexes and schemas as they lie in memory. Plain laws.
-/
import Derived.Test.YtkhklfnhninkjaaGreatInI
import Derived.Test.YtkhklfnhninkjaaGreatBase
import Derived.Test.YtkhklfnhninkjaaGreatSchPlain
import Derived.WalkKit
import Derived.Below
namespace Go.Proofs.YtkhklfnhninkjaaGreat
open Go.RowKit

/-- Numbers that lie one behind the other, below block B. -/
def IntRow (w : World) (A B : Nat) (ao : Option Addr) (l : List Int) : Prop :=
  (∀ x ∈ l, inI64 x) ∧ (l.length = 0 ∨ ∃ b off, ao = some ⟨b, off, none⟩ ∧ A ≤ b ∧ b < B ∧ ∀ i, i < l.length → w.cell? ⟨b, off + i, none⟩ = some (.int .i64 (l.getD i 0)))
theorem IntRow.kept {w w' : World} {A B : Nat} {ao : Option Addr} {l : List Int} (h : IntRow w A B ao l) (hb : Below B w w') : IntRow w' A B ao l := by
  refine ⟨h.1, ?_⟩
  rcases h.2 with h0 | ⟨b, off, e, hA, hB, hc⟩
  · exact .inl h0
  · exact .inr ⟨b, off, e, hA, hB, fun i hi => (hb.cell (p := ⟨b, _, none⟩) hB).trans (hc i hi)⟩
theorem IntRow.mono {w : World} {A B A' C : Nat} {ao : Option Addr} {l : List Int} (h : IntRow w A B ao l) (ha : A' ≤ A) (hc : B ≤ C) : IntRow w A' C ao l := by
  refine ⟨h.1, ?_⟩
  rcases h.2 with h0 | ⟨b, off, e, hA, hB, hc'⟩
  · exact .inl h0
  · exact .inr ⟨b, off, e, by omega, by omega, hc'⟩
theorem IntRow.at {w : World} {A B : Nat} {ao : Option Addr} {l : List Int} (h : IntRow w A B ao l) (k : Nat) (hk : k < l.length) :
    ∃ b off x, ao = some ⟨b, off, none⟩ ∧ b < B ∧ l.getD k 0 = x ∧ inI64 x ∧ w.cell? ⟨b, off + k, none⟩ = some (.int .i64 x) := by
  rcases h.2 with h0 | ⟨b, off, e, hA, hB, hc⟩
  · omega
  · exact ⟨b, off, _, e, hB, rfl, h.1 _ (getD_mem l 0 k hk), hc k hk⟩
/-- A write into another block leaves the numbers. -/
theorem IntRow.other {w : World} {A B : Nat} {ao : Option Addr} {l : List Int} (h : IntRow w A B ao l) (g m : Nat) (v : Value) (hg : g < A) : IntRow (w.setCell ⟨g, m, none⟩ v) A B ao l := by
  refine ⟨h.1, ?_⟩
  rcases h.2 with h0 | ⟨b, off, e, hA, hB, hc⟩
  · exact .inl h0
  · refine .inr ⟨b, off, e, hA, hB, fun i hi => ?_⟩
    exact (World.cell?_setCell_other w ⟨g, m, none⟩ ⟨b, off + i, none⟩ v (fun e' => by have : g = b := congrArg Addr.block e'; omega)).trans (hc i hi)

/-- Columns, three cells each. -/
def ColRow (w : World) (A B : Nat) (ao : Option Addr) (cs : List Col) : Prop :=
  (∀ c ∈ cs, inI64 c.kind ∧ c.name.size ≤ maxLen) ∧ (cs.length = 0 ∨ ∃ b off, ao = some ⟨b, off, none⟩ ∧ A ≤ b ∧ b < B ∧ ∀ i, i < cs.length →
    w.cell? ⟨b, off + i * 3, none⟩ = some (.string (cs.getD i noCol).name) ∧ w.cell? ⟨b, off + i * 3 + 1, none⟩ = some (.int .i64 (cs.getD i noCol).kind) ∧ w.cell? ⟨b, off + i * 3 + 2, none⟩ = some (.bool (cs.getD i noCol).nul))
theorem ColRow.kept {w w' : World} {A B : Nat} {ao : Option Addr} {cs : List Col} (h : ColRow w A B ao cs) (hb : Below B w w') : ColRow w' A B ao cs := by
  refine ⟨h.1, ?_⟩
  rcases h.2 with h0 | ⟨b, off, e, hA, hB, hc⟩
  · exact .inl h0
  · refine .inr ⟨b, off, e, hA, hB, fun i hi => ?_⟩
    obtain ⟨c0, c1, c2⟩ := hc i hi
    exact ⟨(hb.cell (p := ⟨b, _, none⟩) hB).trans c0, (hb.cell (p := ⟨b, _, none⟩) hB).trans c1, (hb.cell (p := ⟨b, _, none⟩) hB).trans c2⟩
theorem ColRow.mono {w : World} {A B A' C : Nat} {ao : Option Addr} {cs : List Col} (h : ColRow w A B ao cs) (ha : A' ≤ A) (hc : B ≤ C) : ColRow w A' C ao cs := by
  refine ⟨h.1, ?_⟩
  rcases h.2 with h0 | ⟨b, off, e, hA, hB, hc'⟩
  · exact .inl h0
  · exact .inr ⟨b, off, e, by omega, by omega, hc'⟩
theorem ColRow.at {w : World} {A B : Nat} {ao : Option Addr} {cs : List Col} (h : ColRow w A B ao cs) (k : Nat) (hk : k < cs.length) :
    ∃ b off nm kd nu, ao = some ⟨b, off, none⟩ ∧ b < B ∧ cs.getD k noCol = ⟨nm, kd, nu⟩ ∧ nm.size ≤ maxLen ∧ inI64 kd ∧ w.cell? ⟨b, off + k * 3, none⟩ = some (.string nm) ∧ w.cell? ⟨b, off + k * 3 + 1, none⟩ = some (.int .i64 kd) ∧ w.cell? ⟨b, off + k * 3 + 2, none⟩ = some (.bool nu) := by
  rcases h.2 with h0 | ⟨b, off, e, hA, hB, hc⟩
  · omega
  · obtain ⟨c0, c1, c2⟩ := hc k hk
    have hm := h.1 _ (getD_mem cs noCol k hk)
    exact ⟨b, off, _, _, _, e, hB, rfl, hm.2, hm.1, c0, c1, c2⟩

/-- Indexes, two cells each, the numbers of each below B, too. -/
def IdxRow (w : World) (A B : Nat) (ao : Option Addr) (xs : List Idx) : Prop :=
  xs.length = 0 ∨ ∃ b off, ao = some ⟨b, off, none⟩ ∧ A ≤ b ∧ b < B ∧ ∀ i, i < xs.length → ∃ io cp,
    w.cell? ⟨b, off + i * 2, none⟩ = some (.slice io (xs.getD i noIdx).cols.length cp) ∧ w.cell? ⟨b, off + i * 2 + 1, none⟩ = some (.bool (xs.getD i noIdx).uniq) ∧ ((xs.getD i noIdx).cols.length ≤ cp ∧ cp ≤ maxLen) ∧ IntRow w A B io (xs.getD i noIdx).cols
theorem IdxRow.kept {w w' : World} {A B : Nat} {ao : Option Addr} {xs : List Idx} (h : IdxRow w A B ao xs) (hb : Below B w w') : IdxRow w' A B ao xs := by
  rcases h with h0 | ⟨b, off, e, hA, hB, hc⟩
  · exact .inl h0
  · refine .inr ⟨b, off, e, hA, hB, fun i hi => ?_⟩
    obtain ⟨io, cp, c0, c1, hl, hr⟩ := hc i hi
    exact ⟨io, cp, (hb.cell (p := ⟨b, _, none⟩) hB).trans c0, (hb.cell (p := ⟨b, _, none⟩) hB).trans c1, hl, hr.kept hb⟩
theorem IdxRow.mono {w : World} {A B A' C : Nat} {ao : Option Addr} {xs : List Idx} (h : IdxRow w A B ao xs) (ha : A' ≤ A) (hc : B ≤ C) : IdxRow w A' C ao xs := by
  rcases h with h0 | ⟨b, off, e, hA, hB, hc'⟩
  · exact .inl h0
  · refine .inr ⟨b, off, e, by omega, by omega, fun i hi => ?_⟩
    obtain ⟨io, cp, c0, c1, hl, hr⟩ := hc' i hi
    exact ⟨io, cp, c0, c1, hl, hr.mono ha hc⟩
theorem IdxRow.at {w : World} {A B : Nat} {ao : Option Addr} {xs : List Idx} (h : IdxRow w A B ao xs) (k : Nat) (hk : k < xs.length) :
    ∃ b off io cp l u, ao = some ⟨b, off, none⟩ ∧ b < B ∧ xs.getD k noIdx = ⟨l, u⟩ ∧ (l.length ≤ cp ∧ cp ≤ maxLen) ∧ IntRow w A B io l ∧ w.cell? ⟨b, off + k * 2, none⟩ = some (.slice io l.length cp) ∧ w.cell? ⟨b, off + k * 2 + 1, none⟩ = some (.bool u) := by
  rcases h with h0 | ⟨b, off, e, hA, hB, hc⟩
  · omega
  · obtain ⟨io, cp, c0, c1, hl, hr⟩ := hc k hk
    exact ⟨b, off, io, cp, _, _, e, hB, rfl, hl, hr, c0, c1⟩

theorem ColRow.other {w : World} {A B : Nat} {ao : Option Addr} {cs : List Col} (h : ColRow w A B ao cs) (g m : Nat) (v : Value) (hg : g < A) : ColRow (w.setCell ⟨g, m, none⟩ v) A B ao cs := by
  refine ⟨h.1, ?_⟩
  rcases h.2 with h0 | ⟨b, off, e, hA, hB, hc⟩
  · exact .inl h0
  · refine .inr ⟨b, off, e, hA, hB, fun i hi => ?_⟩
    obtain ⟨c0, c1, c2⟩ := hc i hi
    have ho := fun o => World.cell?_setCell_other w ⟨g, m, none⟩ ⟨b, o, none⟩ v (fun e' => by have : g = b := congrArg Addr.block e'; omega)
    exact ⟨(ho _).trans c0, (ho _).trans c1, (ho _).trans c2⟩
theorem IdxRow.other {w : World} {A B : Nat} {ao : Option Addr} {xs : List Idx} (h : IdxRow w A B ao xs) (g m : Nat) (v : Value) (hg : g < A) : IdxRow (w.setCell ⟨g, m, none⟩ v) A B ao xs := by
  rcases h with h0 | ⟨b, off, e, hA, hB, hc⟩
  · exact .inl h0
  · refine .inr ⟨b, off, e, hA, hB, fun i hi => ?_⟩
    obtain ⟨io, cp, c0, c1, hl, hr⟩ := hc i hi
    have ho := fun o => World.cell?_setCell_other w ⟨g, m, none⟩ ⟨b, o, none⟩ v (fun e' => by have : g = b := congrArg Addr.block e'; omega)
    exact ⟨io, cp, (ho _).trans c0, (ho _).trans c1, hl, hr.other g m v hg⟩
/-- A schema whose parts lie below block B. -/
def SchRow (w : World) (A B : Nat) (ao ko xo : Option Addr) (c2 : Nat) (s : Sch) : Prop :=
  (s.name.size ≤ maxLen ∧ s.cols.length ≤ maxLen ∧ (s.key.length ≤ c2 ∧ c2 ≤ maxLen) ∧ s.idx.length ≤ maxLen) ∧ ColRow w A B ao s.cols ∧ IntRow w A B ko s.key ∧ IdxRow w A B xo s.idx
theorem SchRow.kept {w w' : World} {A B : Nat} {ao ko xo : Option Addr} {c2 : Nat} {s : Sch} (h : SchRow w A B ao ko xo c2 s) (hb : Below B w w') : SchRow w' A B ao ko xo c2 s := ⟨h.1, h.2.1.kept hb, h.2.2.1.kept hb, h.2.2.2.kept hb⟩
theorem SchRow.mono {w : World} {A B A' C : Nat} {ao ko xo : Option Addr} {c2 : Nat} {s : Sch} (h : SchRow w A B ao ko xo c2 s) (ha : A' ≤ A) (hc : B ≤ C) : SchRow w A' C ao ko xo c2 s := ⟨h.1, h.2.1.mono ha hc, h.2.2.1.mono ha hc, h.2.2.2.mono ha hc⟩
theorem SchRow.other {w : World} {A B : Nat} {ao ko xo : Option Addr} {c2 : Nat} {s : Sch} (h : SchRow w A B ao ko xo c2 s) (g m : Nat) (v : Value) (hg : g < A) : SchRow (w.setCell ⟨g, m, none⟩ v) A B ao ko xo c2 s := ⟨h.1, h.2.1.other g m v hg, h.2.2.1.other g m v hg, h.2.2.2.other g m v hg⟩
/-- What a schema is as a value. -/
def schV (s : Sch) (ao : Option Addr) (c1 : Nat) (ko : Option Addr) (c2 : Nat) (xo : Option Addr) (c3 : Nat) : Value :=
  .agg #[.string s.name, .slice ao s.cols.length c1, .slice ko s.key.length c2, .slice xo s.idx.length c3]
end Go.Proofs.YtkhklfnhninkjaaGreat
