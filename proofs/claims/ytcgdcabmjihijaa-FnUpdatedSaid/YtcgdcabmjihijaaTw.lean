/-
  Two lists of strings that grow; an answer that is two new lists; no conditions.
-/
import Derived.Test.YtcgdcabmjihijaaSt
import Derived.Test.YtcgdcabmjihijaaUpP
import Derived.Test.YtcgdcabmjihijaaCopyL
namespace Go.Proofs.Ytcgdcabmjihijaa
open Go.RowKit
set_option linter.unusedVariables false
set_option linter.unusedSimpArgs false

/-- two lists of the call's own, in two blocks -/
structure Two (w wr : World) (g1 n1 c1 : Nat) (A : List ByteArray) (g2 n2 c2 : Nat) (B : List ByteArray) : Prop where
  o1 : OwnS wr w.heap.size g1 n1 c1 A
  o2 : OwnS wr w.heap.size g2 n2 c2 B
  ne : g1 ≠ g2
  bel : Below w.heap.size w wr
theorem Two.below {w wr w1 : World} {g1 n1 c1 g2 n2 c2 : Nat} {A B : List ByteArray} (h : Two w wr g1 n1 c1 A g2 n2 c2 B) (hb : Below wr.heap.size wr w1) : Two w w1 g1 n1 c1 A g2 n2 c2 B :=
  ⟨ownsRow_below h.o1 hb, ownsRow_below h.o2 hb, h.ne, laterB h.bel hb⟩
theorem Two.drew {w wr : World} {g1 n1 c1 g2 n2 c2 : Nat} {A B : List ByteArray} (h : Two w wr g1 n1 c1 A g2 n2 c2 B) (n : Nat) : Two w (wr.drewN n) g1 n1 c1 A g2 n2 c2 B :=
  ⟨h.o1, h.o2, h.ne, below_drewN h.bel _⟩
theorem Two.app1 {w wr w1 : World} {g1 n1 c1 g2 n2 c2 g' c' : Nat} {A B : List ByteArray} {s : ByteArray} (h : Two w wr g1 n1 c1 A g2 n2 c2 B) (ho : OwnS w1 w.heap.size g' (n1 + 1) c' (A ++ [s])) (hg : wr.grownBy w1 (some g1)) (hl : g' = g1 ∨ wr.heap.size ≤ g') : Two w w1 g' (n1 + 1) c' (A ++ [s]) g2 n2 c2 B :=
  ⟨ho, own_kept h.o2 hg h.ne.symm, by
    rcases hl with rfl | hl
    · exact h.ne
    · have := own_lt h.o2; omega, below_grown h.bel hg (own_ge h.o1)⟩
theorem Two.app2 {w wr w1 : World} {g1 n1 c1 g2 n2 c2 g' c' : Nat} {A B : List ByteArray} {s : ByteArray} (h : Two w wr g1 n1 c1 A g2 n2 c2 B) (ho : OwnS w1 w.heap.size g' (n2 + 1) c' (B ++ [s])) (hg : wr.grownBy w1 (some g2)) (hl : g' = g2 ∨ wr.heap.size ≤ g') : Two w w1 g1 n1 c1 A g' (n2 + 1) c' (B ++ [s]) :=
  ⟨own_kept h.o1 hg h.ne, ho, by
    rcases hl with rfl | hl
    · exact h.ne
    · have := own_lt h.o1; omega, below_grown h.bel hg (own_ge h.o2)⟩
theorem two_new (w : World) : Two w ((w.alloc (.cells #[] 9)).alloc (.cells #[] 9)) w.heap.size 0 0 [] (w.heap.size + 1) 0 0 [] := by
  have b1 : Below w.heap.size w (w.alloc (.cells #[] 9)) := (Below.refl _ _).alloc (Nat.le_refl _) _
  have b2 : Below (w.alloc (.cells #[] 9)).heap.size (w.alloc (.cells #[] 9)) ((w.alloc (.cells #[] 9)).alloc (.cells #[] 9)) := (Below.refl _ _).alloc (Nat.le_refl _) _
  have o1 := ownsRow_below (ownS_lit0 w (Nat.le_refl w.heap.size)) b2
  have o2 := ownS_lit0 (w.alloc (.cells #[] 9)) (B := w.heap.size) b1.size
  have e : (w.alloc (.cells #[] 9)).heap.size = w.heap.size + 1 := by simp
  rw [e] at o2
  exact ⟨o1, o2, by omega, laterB b1 b2⟩
theorem kls_two {w wr : World} {g1 n1 c1 g2 n2 c2 : Nat} {A B : List ByteArray} {a : Option Addr} {l : List Kl} (hk : Kls w a l) (h : Two w wr g1 n1 c1 A g2 n2 c2 B) : Kls wr a l := hk.below h.bel
/-- an answer that is two new lists -/
def AnU (w : World) (A B : List ByteArray) (e : Ending) (w' : World) : Prop := ∃ g1 c1 g2 c2, e = .returned (.tuple #[.slice (some ⟨g1, 0, none⟩) A.length c1, .slice (some ⟨g2, 0, none⟩) B.length c2]) ∧ Two w w' g1 A.length c1 A g2 B.length c2 B
theorem AnU.mk {w w' : World} {A B : List ByteArray} {n m g1 c1 g2 c2 : Nat} (h : Two w w' g1 n c1 A g2 m c2 B) : AnU w A B (.returned (.tuple #[.slice (some ⟨g1, 0, none⟩) n c1, .slice (some ⟨g2, 0, none⟩) m c2])) w' := by
  have h1 := ownS_len h.o1
  have h2 := ownS_len h.o2
  subst h1 h2
  exact ⟨g1, c1, g2, c2, rfl, h⟩

end Go.Proofs.Ytcgdcabmjihijaa
