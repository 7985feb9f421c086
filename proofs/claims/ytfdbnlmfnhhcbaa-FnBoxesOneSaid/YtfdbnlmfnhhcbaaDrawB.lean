/-
  Where a draw of boxes stands: the cursor, its bytes, the boxes so far with rows of their own; and what keeps it. No conditions.
-/
import Derived.Test.YtfdbnlmfnhhcbaaDrawF
import Derived.Test.YtfdbnlmfnhhcbaaOwnU
namespace Go.Proofs.Ytfdbnlmfnhhcbaa
open Go.RowKit
set_option linter.unusedVariables false
set_option linter.unusedSimpArgs false

/-- the bytes of a box as a row that is owned -/
def rowOf (p : Bx × (Option Addr × Nat)) : Value := .slice p.2.1 p.1.z.length p.2.2
structure BSt (w : World) (Bc g : Nat) (a : Option Addr) (len cap : Nat) (v : Value) (L : List (Bx × (Option Addr × Nat))) (wx : World) : Prop where
  cur : CurAt wx g a len cap
  rd : RdB wx Bc a len
  gr : w.grownBy wx (some g)
  own : OwnL wx w.heap.size v L
  rows : ∀ p ∈ L, wx.ownsRow w.heap.size 5 1 (rowOf p) p.1.z.length (p.1.z.map u8)
theorem BSt.call {w wx wy : World} {Bc g len cap : Nat} {a : Option Addr} {v : Value} {L : List (Bx × (Option Addr × Nat))} (h : BSt w Bc g a len cap v L wx) (hg : Bc ≤ g) (hgl : g < w.heap.size) (k : CurAt wy g a len cap) (gg : wx.grownBy wy (some g)) : BSt w Bc g a len cap v L wy :=
  ⟨k, h.rd.grown gg hg, grown_trans h.gr gg, h.own.kept gg.size (fun b h0 h1 => gg.block b h1 (fun e => by have := Option.some.inj e; omega)),
    fun p hp => own_kept (h.rows p hp) (fun j hj => by
      have := (h.rows p hp).lt j hj
      exact gg.block j this.2 (fun e => by have := Option.some.inj e; omega))⟩
theorem BSt.below {w wx wy : World} {Bc g len cap : Nat} {a : Option Addr} {v : Value} {L : List (Bx × (Option Addr × Nat))} (h : BSt w Bc g a len cap v L wx) (hg : Bc ≤ g) (hgl : g < w.heap.size) (hb : Below wx.heap.size wx wy) : BSt w Bc g a len cap v L wy :=
  h.call hg hgl (h.cur.below hb) (grown_below hb)
theorem BSt.alloc {w wx : World} {Bc g len cap : Nat} {a : Option Addr} {v : Value} {L : List (Bx × (Option Addr × Nat))} (h : BSt w Bc g a len cap v L wx) (hg : Bc ≤ g) (hgl : g < w.heap.size) (o : Obj) : BSt w Bc g a len cap v L (wx.alloc o) :=
  h.below hg hgl ((Below.refl _ _).alloc (Nat.le_refl _) _)
/-- the kinds, depths and bytes that the draw's first loop makes -/
def GD (L : List (Bx × (Option Addr × Nat))) : Prop := ∀ p ∈ L, p.1.k.size = 4 ∧ 0 ≤ p.1.d ∧ p.1.d ≤ 9 ∧ p.1.z.length ≤ 6
theorem GD.snoc {L : List (Bx × (Option Addr × Nat))} {p : Bx × (Option Addr × Nat)} (h : GD L) (h1 : p.1.k.size = 4) (h2 : 0 ≤ p.1.d) (h3 : p.1.d ≤ 9) (h4 : p.1.z.length ≤ 6) : GD (L ++ [p]) := by
  intro q hq
  rcases List.mem_append.1 hq with hq | hq
  · exact h q hq
  · rw [List.mem_singleton.1 hq]; exact ⟨h1, h2, h3, h4⟩
theorem tab4 {w2 : World} {blk : Nat} {xs : Array Value} {t : TypeId} {j N : Nat} (hb : w2.heap[blk]? = some (.cells xs t)) (hall : ∀ v ∈ xs.toList, ∃ s : ByteArray, v = .string s ∧ s.size = N) (hj : j < xs.size) : ∃ s : ByteArray, w2.cell? ⟨blk, j, none⟩ = some (.string s) ∧ s.size = N := by
  rw [cell_of_row _ _ _ _ _ _ hb]
  obtain ⟨s, hs, hn⟩ := hall xs[j] (by simp)
  exact ⟨s, by rw [Array.getElem?_eq_getElem hj, hs], hn⟩
end Go.Proofs.Ytfdbnlmfnhhcbaa
