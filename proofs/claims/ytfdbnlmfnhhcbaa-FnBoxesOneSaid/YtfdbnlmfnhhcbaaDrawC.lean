/-
  Where the draw of one box more stands: its own block, the row of its bytes, the boxes so far; and what keeps it. No conditions.
-/
import Derived.Test.YtfdbnlmfnhhcbaaDrawB
import Derived.Test.YtfdbnlmfnhhcbaaApp
namespace Go.Proofs.Ytfdbnlmfnhhcbaa
open Go.RowKit
set_option linter.unusedVariables false
set_option linter.unusedSimpArgs false

/-- all blocks of the list lie below X -/
def Low (X : Nat) (v : Value) (L : List (Bx × (Option Addr × Nat))) : Prop := (∀ G, v.ownBlock = some G → G < X) ∧ ∀ p ∈ L, ∀ y, p.2.1 = some y → y.block < X
theorem OwnL.low {w : World} {B : Nat} {v : Value} {L : List (Bx × (Option Addr × Nat))} (h : OwnL w B v L) : Low w.heap.size v L :=
  ⟨fun G hG => (h.1.lt G hG).2, fun p hp y hy => ((h.2.1 p hp).2.2.2.2.2.2 y hy).1⟩
theorem Low.mono {X X' : Nat} {v : Value} {L : List (Bx × (Option Addr × Nat))} (h : Low X v L) (hx : X ≤ X') : Low X' v L :=
  ⟨fun G hG => Nat.lt_of_lt_of_le (h.1 G hG) hx, fun p hp y hy => Nat.lt_of_lt_of_le (h.2 p hp y hy) hx⟩
theorem rowOf_blk {p : Bx × (Option Addr × Nat)} {j : Nat} (h : (rowOf p).ownBlock = some j) : ∃ y, p.2.1 = some y ∧ y.block = j := by
  unfold rowOf at h
  obtain ⟨q, ad, c⟩ := p
  cases ad with
  | none => simp [Value.ownBlock] at h
  | some y => exact ⟨y, rfl, by simpa [Value.ownBlock] using h⟩
theorem BSt.keepX {w wx wy : World} {Bc g len cap X : Nat} {a : Option Addr} {v : Value} {L : List (Bx × (Option Addr × Nat))} (h : BSt w Bc g a len cap v L wx) (hg : Bc ≤ g) (hgl : g < w.heap.size) (hX : w.heap.size ≤ X) (lo : Low X v L) (hb : Below X wx wy) : BSt w Bc g a len cap v L wy := by
  have hgX : g < X := by omega
  refine ⟨h.cur.other (hb.block g hgX), ?_, ?_, ?_, ?_⟩
  · intro j hj
    obtain ⟨b, o, z, e, hb1, hc, h0, h1⟩ := h.rd j hj
    exact ⟨b, o, z, e, hb1, (hb.cell (p := ⟨b, o + j, none⟩) (by show b < X; omega)).trans hc, h0, h1⟩
  · exact ⟨hb.os.trans h.gr.os, hb.tape.trans h.gr.tape, hb.output.trans h.gr.output, Nat.le_trans h.gr.size hb.size, fun j hj hn => (hb.block j (by omega)).trans (h.gr.block j hj hn)⟩
  · obtain ⟨h1, h2, h3⟩ := h.own
    exact ⟨own_kept h1 (fun G hG => hb.block G (lo.1 G hG)), fun p hp => (h2 p hp).kept hb.size (fun y hy _ _ => hb.block _ (lo.2 p hp y hy)), h3⟩
  · intro p hp
    refine own_kept (h.rows p hp) (fun j hj => ?_)
    obtain ⟨y, hy, rfl⟩ := rowOf_blk hj
    exact hb.block _ (lo.2 p hp y hy)

/-- the block X of a new box, and all else -/
structure NSt (w : World) (Bc g : Nat) (a : Option Addr) (len cap : Nat) (v : Value) (L : List (Bx × (Option Addr × Nat))) (X : Nat) (s : ByteArray) (d : Int) (zs : List Int) (ad : Option Addr) (cz : Nat) (wx : World) : Prop where
  st : BSt w Bc g a len cap v L wx
  c0 : wx.cell? ⟨X, 0, none⟩ = some (.string s)
  c1 : wx.cell? ⟨X, 1, none⟩ = some (.int .i64 d)
  c2 : wx.cell? ⟨X, 2, none⟩ = some (.slice ad zs.length cz)
  f1 : wx.frozen? ⟨X, 1, none⟩ = false
  f2 : wx.frozen? ⟨X, 2, none⟩ = false
  row : wx.ownsRow (X + 1) 5 1 (.slice ad zs.length cz) zs.length (zs.map u8)
theorem NSt.lt {w : World} {Bc g len cap X cz : Nat} {a ad : Option Addr} {v : Value} {L : List (Bx × (Option Addr × Nat))} {s : ByteArray} {d : Int} {zs : List Int} {wx : World} (h : NSt w Bc g a len cap v L X s d zs ad cz wx) : X < wx.heap.size := World.block_lt_of_cell? _ _ h.c0
theorem NSt.call {w : World} {Bc g len cap X cz : Nat} {a ad : Option Addr} {v : Value} {L : List (Bx × (Option Addr × Nat))} {s : ByteArray} {d : Int} {zs : List Int} {wx wy : World} (h : NSt w Bc g a len cap v L X s d zs ad cz wx) (hg : Bc ≤ g) (hgl : g < w.heap.size) (hX : w.heap.size ≤ X) (k : CurAt wy g a len cap) (gg : wx.grownBy wy (some g)) : NSt w Bc g a len cap v L X s d zs ad cz wy := by
  have hs : wy.heap[X]? = wx.heap[X]? := gg.block X h.lt (fun e => by have := Option.some.inj e; omega)
  refine ⟨h.st.call hg hgl k gg, (World.cell?_of_block (a := ⟨X, 0, none⟩) hs).trans h.c0, (World.cell?_of_block (a := ⟨X, 1, none⟩) hs).trans h.c1, (World.cell?_of_block (a := ⟨X, 2, none⟩) hs).trans h.c2, (World.frozen?_of_block (a := ⟨X, 1, none⟩) hs).trans h.f1, (World.frozen?_of_block (a := ⟨X, 2, none⟩) hs).trans h.f2, ?_⟩
  refine own_kept h.row (fun j hj => ?_)
  have := h.row.lt j hj
  exact gg.block j this.2 (fun e => by have := Option.some.inj e; omega)
theorem NSt.below {w : World} {Bc g len cap X cz : Nat} {a ad : Option Addr} {v : Value} {L : List (Bx × (Option Addr × Nat))} {s : ByteArray} {d : Int} {zs : List Int} {wx wy : World} (h : NSt w Bc g a len cap v L X s d zs ad cz wx) (hg : Bc ≤ g) (hgl : g < w.heap.size) (hX : w.heap.size ≤ X) (hb : Below wx.heap.size wx wy) : NSt w Bc g a len cap v L X s d zs ad cz wy :=
  h.call hg hgl hX (h.st.cur.below hb) (grown_below hb)
theorem NSt.depth {w : World} {Bc g len cap X cz : Nat} {a ad : Option Addr} {v : Value} {L : List (Bx × (Option Addr × Nat))} {s : ByteArray} {d : Int} {zs : List Int} {wx : World} (h : NSt w Bc g a len cap v L X s d zs ad cz wx) (hg : Bc ≤ g) (hgl : g < w.heap.size) (hX : w.heap.size ≤ X) (lo : Low X v L) (d' : Int) : NSt w Bc g a len cap v L X s d' zs ad cz (wx.setCell ⟨X, 1, none⟩ (.int .i64 d')) := by
  refine ⟨h.st.keepX hg hgl hX lo ((Below.refl X wx).setCell (p := ⟨X, 1, none⟩) (Nat.le_refl X) _), ?_, ?_, ?_, ?_, ?_, ?_⟩
  · rw [World.cell?_setCell_other _ _ _ _ (ne_off (by decide))]; exact h.c0
  · exact World.cell?_setCell_same _ _ _ h.c1
  · rw [World.cell?_setCell_other _ _ _ _ (ne_off (by decide))]; exact h.c2
  · rw [World.frozen?_setCell]; exact h.f1
  · rw [World.frozen?_setCell]; exact h.f2
  · refine own_kept h.row (fun j hj => ?_)
    have := (h.row.lt j hj).1
    exact Below.heap_setCell _ _ _ _ (by show j ≠ X; omega)
/-- the row's new value behind an append -/
theorem NSt.app {w : World} {Bc g len cap X cz cz' g' : Nat} {a ad : Option Addr} {v : Value} {L : List (Bx × (Option Addr × Nat))} {s : ByteArray} {d : Int} {zs zs' : List Int} {wx wy : World} (h : NSt w Bc g a len cap v L X s d zs ad cz wx) (hg : Bc ≤ g) (hgl : g < w.heap.size) (hX : w.heap.size ≤ X) (lo : Low X v L)
    (n' : Nat) (hn' : zs'.length = n') (hown : wy.ownsRow (X + 1) 5 1 (.slice (some ⟨g', 0, none⟩) n' cz') n' (zs'.map u8)) (gg : wx.grownBy wy (Value.ownBlock (.slice ad zs.length cz))) :
    NSt w Bc g a len cap v L X s d zs' (some ⟨g', 0, none⟩) cz' (wy.setCell ⟨X, 2, none⟩ (.slice (some ⟨g', 0, none⟩) n' cz')) := by
  subst hn'
  have hne : Value.ownBlock (.slice ad zs.length cz) ≠ some X := fun e => by have := (h.row.lt X e).1; omega
  have hs : wy.heap[X]? = wx.heap[X]? := gg.block X h.lt (fun e => hne e.symm)
  have hb : Below X wx wy := ⟨gg.os, gg.tape, gg.output, gg.size, fun b hbx => gg.block b (by have := h.lt; omega) (fun e => by have := (h.row.lt b e.symm).1; omega)⟩
  refine ⟨h.st.keepX hg hgl hX lo (hb.setCell (Nat.le_refl _) _), ?_, ?_, ?_, ?_, ?_, ?_⟩
  · rw [World.cell?_setCell_other _ _ _ _ (ne_off (by decide))]; exact (World.cell?_of_block (a := ⟨X, 0, none⟩) hs).trans h.c0
  · rw [World.cell?_setCell_other _ _ _ _ (ne_off (by decide))]; exact (World.cell?_of_block (a := ⟨X, 1, none⟩) hs).trans h.c1
  · exact World.cell?_setCell_same _ _ _ ((World.cell?_of_block (a := ⟨X, 2, none⟩) hs).trans h.c2)
  · rw [World.frozen?_setCell]; exact (World.frozen?_of_block (a := ⟨X, 1, none⟩) hs).trans h.f1
  · rw [World.frozen?_setCell]; exact (World.frozen?_of_block (a := ⟨X, 2, none⟩) hs).trans h.f2
  · refine own_kept hown (fun j hj => ?_)
    have := (hown.lt j hj).1
    exact Below.heap_setCell _ _ _ _ (by show j ≠ X; omega)
theorem BSt.offg {w wx : World} {Bc g len cap : Nat} {a : Option Addr} {v : Value} {L : List (Bx × (Option Addr × Nat))} (h : BSt w Bc g a len cap v L wx) (hgl : g < w.heap.size) : Off g v L := by
  refine ⟨fun e => by have := (h.own.1.lt g e).1; omega, fun p hp y hy e => ?_⟩
  have hr := h.rows p hp
  have : (rowOf p).ownBlock = some g := by
    unfold rowOf
    rw [hy]
    show some y.block = some g
    rw [e]
  have := (hr.lt g this).1
  omega
/-- the new box's place among all -/
theorem NSt.good {w : World} {Bc g len cap X cz : Nat} {a ad : Option Addr} {v : Value} {L : List (Bx × (Option Addr × Nat))} {s : ByteArray} {d : Int} {zs : List Int} {wx : World} (h : NSt w Bc g a len cap v L X s d zs ad cz wx) (hX : w.heap.size ≤ X) (lo : Low X v L) (hs : s.size = 4) (d0 : 0 ≤ d) (d9 : d ≤ 9) (hz : zs.length ≤ 6) (hb : ∀ z ∈ zs, 0 ≤ z ∧ z ≤ 255) (hc : cz ≤ maxLen) :
    GoodP wx w.heap.size v (⟨s, d, zs⟩, (ad, cz)) ∧ (∀ q ∈ L, ∀ x y, q.2.1 = some x → ad = some y → x.block ≠ y.block) ∧ ∀ y, ad = some y → y.block ≠ g ∨ True := by
  have hrow := h.row
  have hy0 : ∀ y, ad = some y → X + 1 ≤ y.block ∧ y.block < wx.heap.size := fun y hy => hrow.lt y.block (by rw [hy]; rfl)
  refine ⟨⟨?_, by show s.size ≤ maxLen; unfold maxLen; omega, by show -9223372036854775808 ≤ d; omega, by show d ≤ 9223372036854775807; omega, ?_, hc, ?_⟩, ?_, fun y _ => .inr trivial⟩
  · show Row true w.heap.size wx.heap.size wx ad zs
    rcases hrow.2 with ⟨e, hn⟩ | ⟨g', cap', cur, e, hg', hh, r⟩
    · have : zs = [] := List.eq_nil_of_length_eq_zero hn
      subst this
      exact Row.nil
    · injection e with e1 e2 e3
      subst e1 e3
      have hlt := (hrow.lt g' rfl)
      exact (row_of_own hrow hb).mono (by omega) (by omega)
  · show zs.length ≤ cz
    rcases hrow.2 with ⟨e, hn⟩ | ⟨g', cap', cur, e, hg', hh, hnc, r⟩
    · rw [hn]; exact Nat.zero_le _
    · injection e with e1 e2 e3
      subst e3
      exact hnc
  · intro y hy
    refine ⟨(hy0 y hy).2, fun e => ?_⟩
    have := lo.1 _ e
    have := (hy0 y hy).1
    omega
  · intro q hq x y hx hy e
    have h1 := lo.2 q hq x hx
    have h2 := (hy0 y hy).1
    omega
theorem NSt.fin {w : World} {Bc g len cap X cz n : Nat} {a ad : Option Addr} {v v' : Value} {L : List (Bx × (Option Addr × Nat))} {s : ByteArray} {d : Int} {zs : List Int} {wx wy : World} (h : NSt w Bc g a len cap v L X s d zs ad cz wx) (hg : Bc ≤ g) (hgl : g < w.heap.size) (hX : w.heap.size ≤ X) (lo : Low X v L)
    (hown : OwnL wy w.heap.size v' (L ++ [(⟨s, d, zs⟩, (ad, cz))])) (gg : wx.grownBy wy v.ownBlock) : BSt w Bc g a len cap v' (L ++ [(⟨s, d, zs⟩, (ad, cz))]) wy := by
  have hne : v.ownBlock ≠ some g := fun e => by have := (h.st.own.1.lt g e).1; omega
  refine ⟨h.st.cur.other (gg.block g h.st.cur.lt (fun e => hne e.symm)), ?_, ?_, hown, ?_⟩
  · intro j hj
    obtain ⟨b, o, z, e, hb1, hc, h0, h1⟩ := h.st.rd j hj
    exact ⟨b, o, z, e, hb1, gg.cell hc (fun e => by have := (h.st.own.1.lt b e.symm).1; omega), h0, h1⟩
  · exact ⟨gg.os.trans h.st.gr.os, gg.tape.trans h.st.gr.tape, gg.output.trans h.st.gr.output, Nat.le_trans h.st.gr.size gg.size, fun j hj hn => (gg.block j (Nat.lt_of_lt_of_le hj h.st.gr.size) (fun e => by have := (h.st.own.1.lt j e.symm).1; omega)).trans (h.st.gr.block j hj hn)⟩
  · intro p hp
    rcases List.mem_append.1 hp with hp | hp
    · refine own_kept (h.st.rows p hp) (fun j hj => ?_)
      obtain ⟨y, hy, rfl⟩ := rowOf_blk hj
      exact gg.block _ ((h.st.own.2.1 p hp).2.2.2.2.2.2 y hy).1 (fun e => ((h.st.own.2.1 p hp).2.2.2.2.2.2 y hy).2 e.symm)
    · rw [List.mem_singleton.1 hp]
      refine own_mono (own_kept h.row (fun j hj => ?_)) (by omega)
      have h1 := h.row.lt j hj
      exact gg.block j h1.2 (fun e => by have := lo.1 j e.symm; omega)
theorem NSt.cz_le {w : World} {Bc g len cap X cz : Nat} {a ad : Option Addr} {v : Value} {L : List (Bx × (Option Addr × Nat))} {s : ByteArray} {d : Int} {zs : List Int} {wx : World} (h : NSt w Bc g a len cap v L X s d zs ad cz wx) : cz ≤ maxLen := by
  rcases h.row.2 with ⟨e, hn⟩ | ⟨g', cap', cur, e, hg', hh, hnc, hcm, r⟩
  · injection e with e1 e2 e3
    rw [e3]; exact Nat.zero_le _
  · injection e with e1 e2 e3
    rw [e3]; exact hcm
theorem NSt.offrow {w : World} {Bc g len cap X cz : Nat} {a ad : Option Addr} {v : Value} {L : List (Bx × (Option Addr × Nat))} {s : ByteArray} {d : Int} {zs : List Int} {wx : World} (h : NSt w Bc g a len cap v L X s d zs ad cz wx) (hgl : g < w.heap.size) (hX : w.heap.size ≤ X) : ∀ y, ad = some y → y.block ≠ g := by
  intro y hy e
  have := (h.row.lt y.block (by rw [hy]; rfl)).1
  omega
end Go.Proofs.Ytfdbnlmfnhhcbaa
