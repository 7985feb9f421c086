/-
  Contract of the model's draw of boxes and a path, over its draw of boxes: it gives some list of its own, and some path.
-/
import Derived.Test.YtfdbnlmfnhhcbaaIFind
import Derived.Test.YtfdbnlmfnhhcbaaDraw
import Derived.Test.YtfdbnlmfnhhcbaaIUp
import Derived.Deep.CutBlock
namespace Go.Proofs.Ytfdbnlmfnhhcbaa
open Go.RowKit
set_option linter.unusedVariables false
set_option linter.unusedSimpArgs false

/-- what a draw of boxes gives -/
def DrB : Prop := ∀ (Bc g : Nat) (a : Option Addr) (len cap : Nat) (w : World), Bc ≤ g → len ≤ 4096 → CurAt w g a len cap → RdB w Bc a len →
  Calls Try.prog 23 #[.pointer (some ⟨g, 0, none⟩)] w fun e w' => ∃ v L, e = .returned v ∧ OwnL w' w.heap.size v L ∧ L.length ≤ 1000 ∧ (∀ p ∈ L, p.1.k.size ≤ 5 ∧ p.1.z.length ≤ 20001) ∧ CurAt w' g a len cap ∧ w.grownBy w' (some g)
theorem tab {w2 : World} {blk : Nat} {xs : Array Value} {t : TypeId} {j N : Nat} (hb : w2.heap[blk]? = some (.cells xs t)) (hall : ∀ v ∈ xs.toList, ∃ s : ByteArray, v = .string s ∧ s.size ≤ N) (hj : j < xs.size) : ∃ s : ByteArray, w2.cell? ⟨blk, j, none⟩ = some (.string s) ∧ s.size ≤ N := by
  rw [cell_of_row _ _ _ _ _ _ hb]
  obtain ⟨s, hs, hn⟩ := hall xs[j] (by simp)
  exact ⟨s, by rw [Array.getElem?_eq_getElem hj, hs], hn⟩

/-- where a draw of a path stands: the cursor, its bytes, the list that was drawn -/
structure DSt (w1 : World) (B0 g : Nat) (a : Option Addr) (len cap : Nat) (v : Value) (L : List (Bx × (Option Addr × Nat))) (wx : World) : Prop where
  cur : CurAt wx g a len cap
  rd : RdB wx B0 a len
  gr : w1.grownBy wx (some g)
  own : OwnL wx w1.heap.size v L
theorem DSt.call {w1 wx wy : World} {B0 g len cap : Nat} {a : Option Addr} {v : Value} {L : List (Bx × (Option Addr × Nat))} (h : DSt w1 B0 g a len cap v L wx) (hg : B0 ≤ g) (hgl : g < w1.heap.size) (k : CurAt wy g a len cap) (gg : wx.grownBy wy (some g)) : DSt w1 B0 g a len cap v L wy :=
  ⟨k, h.rd.grown gg hg, grown_trans h.gr gg, h.own.kept gg.size (fun b h0 h1 => gg.block b h1 (fun e => by have := Option.some.inj e; omega))⟩
theorem DSt.alloc {w1 wx : World} {B0 g len cap : Nat} {a : Option Addr} {v : Value} {L : List (Bx × (Option Addr × Nat))} (h : DSt w1 B0 g a len cap v L wx) (hg : B0 ≤ g) (hgl : g < w1.heap.size) (o : Obj) : DSt w1 B0 g a len cap v L (wx.alloc o) :=
  h.call hg hgl (h.cur.below ((Below.refl _ _).alloc (Nat.le_refl _) _)) (grown_below ((Below.refl _ _).alloc (Nat.le_refl _) _))

theorem dfin {w w1 wx : World} {g len cap : Nat} {a : Option Addr} {v : Value} {L : List (Bx × (Option Addr × Nat))} (hg : w.heap.size ≤ g) (B1 : Below w.heap.size w w1) (D : DSt w1 w.heap.size g a len cap v L wx) (hL : L.length ≤ 1000) (hgood : ∀ p ∈ L, p.1.k.size ≤ 5 ∧ p.1.z.length ≤ 20001) (pp : ByteArray) (hp : pp.size ≤ 1048576) :
    ∃ v' L' p', Ending.returned (.tuple #[v, .string pp]) = .returned (.tuple #[v', .string p']) ∧ OwnL wx w.heap.size v' L' ∧ L'.length ≤ 1048576 ∧ Small 1048576 (L'.map (·.1)) ∧ p'.size ≤ 1048576 ∧ Below w.heap.size w wx := by
  refine ⟨v, L, pp, rfl, D.own.mono B1.size, by omega, ?_, hp, B1.grown D.gr B1.size (fun k hk => by have := Option.some.inj hk; omega)⟩
  intro x hx
  obtain ⟨q, hq, rfl⟩ := List.mem_map.1 hx
  have := hgood q hq
  omega

end Go.Proofs.Ytfdbnlmfnhhcbaa
