/-
  Lists of complex numbers and of floats in memory; no conditions.
-/
import Derived.Test.YtmhciigjjamjkaaPr
namespace Go.Proofs.Ytmhciigjjamjkaa
open Go.RowKit
set_option linter.unusedVariables false

/-- the numbers l behind the address a, in a block from lo on and ahead of hi; own: they may be written -/
def Cxs (own : Bool) (lo hi : Nat) (w : World) (a : Option Addr) (l : List (Nat × Nat)) : Prop :=
  ∀ j x, l[j]? = some x → ∃ b o, a = some ⟨b, o, none⟩ ∧ lo ≤ b ∧ b < hi ∧ w.cell? ⟨b, o + j * 2, none⟩ = some (.float .f64 x.1) ∧ w.cell? ⟨b, o + j * 2 + 1, none⟩ = some (.float .f64 x.2) ∧ (own = true → w.frozen? ⟨b, o + j * 2, none⟩ = false ∧ w.frozen? ⟨b, o + j * 2 + 1, none⟩ = false)
def Fls (own : Bool) (lo hi : Nat) (w : World) (a : Option Addr) (l : List Nat) : Prop :=
  ∀ j x, l[j]? = some x → ∃ b o, a = some ⟨b, o, none⟩ ∧ lo ≤ b ∧ b < hi ∧ w.cell? ⟨b, o + j, none⟩ = some (.float .f64 x) ∧ (own = true → w.frozen? ⟨b, o + j, none⟩ = false)
/-- blocks lo to hi are the same in both worlds -/
def Same (lo hi : Nat) (w w' : World) : Prop := ∀ b, lo ≤ b → b < hi → w'.heap[b]? = w.heap[b]?

theorem Cxs.same {own : Bool} {lo hi : Nat} {w w' : World} {a : Option Addr} {l : List (Nat × Nat)} (h : Cxs own lo hi w a l) (s : Same lo hi w w') : Cxs own lo hi w' a l := by
  intro j x hx
  obtain ⟨b, o, e, h1, h2, c0, c1, hf⟩ := h j x hx
  have hs := s b h1 h2
  have C := fun i => World.cell?_of_block (a := ⟨b, i, none⟩) hs
  have F := fun i => World.frozen?_of_block (a := ⟨b, i, none⟩) hs
  exact ⟨b, o, e, h1, h2, (C _).trans c0, (C _).trans c1, fun ho => ⟨(F _).trans (hf ho).1, (F _).trans (hf ho).2⟩⟩
theorem Fls.same {own : Bool} {lo hi : Nat} {w w' : World} {a : Option Addr} {l : List Nat} (h : Fls own lo hi w a l) (s : Same lo hi w w') : Fls own lo hi w' a l := by
  intro j x hx
  obtain ⟨b, o, e, h1, h2, c0, hf⟩ := h j x hx
  have hs := s b h1 h2
  exact ⟨b, o, e, h1, h2, (World.cell?_of_block (a := ⟨b, o + j, none⟩) hs).trans c0, fun ho => (World.frozen?_of_block (a := ⟨b, o + j, none⟩) hs).trans (hf ho)⟩
theorem Cxs.below {own : Bool} {lo hi B : Nat} {w w' : World} {a : Option Addr} {l : List (Nat × Nat)} (h : Cxs own lo hi w a l) (s : Below B w w') (hB : hi ≤ B) : Cxs own lo hi w' a l :=
  h.same fun b _ h2 => s.block b (by omega)
theorem Fls.below {own : Bool} {lo hi B : Nat} {w w' : World} {a : Option Addr} {l : List Nat} (h : Fls own lo hi w a l) (s : Below B w w') (hB : hi ≤ B) : Fls own lo hi w' a l :=
  h.same fun b _ h2 => s.block b (by omega)
theorem Cxs.mono {own : Bool} {lo hi lo' hi' : Nat} {w : World} {a : Option Addr} {l : List (Nat × Nat)} (h : Cxs own lo hi w a l) (h1 : lo' ≤ lo) (h2 : hi ≤ hi') : Cxs own lo' hi' w a l := by
  intro j x hx
  obtain ⟨b, o, e, i1, i2, r⟩ := h j x hx
  exact ⟨b, o, e, by omega, by omega, r⟩
theorem Fls.mono {own : Bool} {lo hi lo' hi' : Nat} {w : World} {a : Option Addr} {l : List Nat} (h : Fls own lo hi w a l) (h1 : lo' ≤ lo) (h2 : hi ≤ hi') : Fls own lo' hi' w a l := by
  intro j x hx
  obtain ⟨b, o, e, i1, i2, r⟩ := h j x hx
  exact ⟨b, o, e, by omega, by omega, r⟩
theorem Cxs.read {lo hi : Nat} {w : World} {a : Option Addr} {l : List (Nat × Nat)} (h : Cxs true lo hi w a l) : Cxs false lo hi w a l := by
  intro j x hx
  obtain ⟨b, o, e, i1, i2, c0, c1, _⟩ := h j x hx
  exact ⟨b, o, e, i1, i2, c0, c1, fun h => by cases h⟩
theorem Fls.read {lo hi : Nat} {w : World} {a : Option Addr} {l : List Nat} (h : Fls true lo hi w a l) : Fls false lo hi w a l := by
  intro j x hx
  obtain ⟨b, o, e, i1, i2, c0, _⟩ := h j x hx
  exact ⟨b, o, e, i1, i2, c0, fun h => by cases h⟩
theorem Cxs.nil {own : Bool} {lo hi : Nat} {w : World} {a : Option Addr} : Cxs own lo hi w a [] := by intro j z hz; simp at hz
theorem Fls.nil {own : Bool} {lo hi : Nat} {w : World} {a : Option Addr} : Fls own lo hi w a [] := by intro j z hz; simp at hz
end Go.Proofs.Ytmhciigjjamjkaa
