/-
  The state of the model's draws, over a cursor on bytes that came in: each answers; the answer is new memory, and what was there but for the cursor stays.
-/
import Derived.Test.YtdemcjppokhonaaDr
namespace Go.Proofs.Ytdemcjppokhonaa
open Go.RowKit
set_option linter.unusedVariables false
set_option linter.unusedSimpArgs false

theorem grown_alloc {w w1 : World} {g : Option Nat} (h : w.grownBy w1 g) (o : Obj) : w.grownBy (w1.alloc o) g :=
  grown_trans h (grown_below ((Below.refl _ _).alloc (Nat.le_refl _) _))
/-- the draws' state: a cursor in g over bytes below B, and all but the cursor as in w -/
structure DS (w : World) (B g : Nat) (a : Option Addr) (len cap : Nat) (wr : World) : Prop where
  cur : CurAt wr g a len cap
  rd : RdB wr B a len
  gr : w.grownBy wr (some g)
theorem DS.step {w wr w1 : World} {B g : Nat} {a : Option Addr} {len cap : Nat} (h : DS w B g a len cap wr) (hB : B ≤ g) (hc : CurAt w1 g a len cap) (hg : wr.grownBy w1 (some g)) : DS w B g a len cap w1 :=
  ⟨hc, h.rd.grown hg hB, grown_trans h.gr hg⟩
theorem DS.later {w wr w1 : World} {B g : Nat} {a : Option Addr} {len cap : Nat} (h : DS w B g a len cap wr) (hB : B ≤ g) (hb : Below wr.heap.size wr w1) : DS w B g a len cap w1 :=
  h.step hB (h.cur.below hb) (grown_below hb)
theorem grown_cell {w w1 : World} {g b o : Nat} {v : Value} (h : w.grownBy w1 (some g)) (hne : b ≠ g) (hc : w.cell? ⟨b, o, none⟩ = some v) : w1.cell? ⟨b, o, none⟩ = some v :=
  h.cell hc (by intro e; have := Option.some.inj e; simp at this; omega)
theorem grown_frozen {w w1 : World} {g b o : Nat} (h : w.grownBy w1 (some g)) (hne : b ≠ g) (hb : b < w.heap.size) : w1.frozen? ⟨b, o, none⟩ = w.frozen? ⟨b, o, none⟩ :=
  World.frozen?_of_block (a := ⟨b, o, none⟩) (h.block b hb (by intro e; injection e with e; omega))
end Go.Proofs.Ytdemcjppokhonaa
