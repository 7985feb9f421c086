/-
  How the law writes marks into a list of assets, and looks for them again: the contracts.
  Contracts of the law's functions that weigh a list of texts, and look for marks in a list of assets; nothing that was there is written.
  The lone contracts of FnExactPack's law as they serve beside leavers: nothing is said of tape and draws; emptied blocks stay emptied.
  A copy of the bodies is as digestsOf wants them; what is owned is kept where other blocks are written.
-/
import Derived.Test.YtghglpcfpokmhaaZMk
import Derived.Test.YtghglpcfpokmhaaZShelf
import Derived.Test.YtghglpcfpokmhaaZPk
namespace Go.Proofs.Ytghglpcfpokmhaa
open Go.RowKit
set_option linter.unusedVariables false
set_option linter.unusedSimpArgs false

/-- the mark in cell j -/
def mkv (q : Int) (j : Nat) : Value := if j % 3 = 0 then sv (mkT (q + j)) else iv (q + j)
/-- the first i cells bear the marks from q on -/
def Mks (q : Int) (i : Nat) (xs : List Value) : Prop := ∀ j, j < i → xs[j]? = some (mkv q j)
theorem Mks.set {q : Int} {i : Nat} {xs : List Value} (h : Mks q i xs) (hi : i < xs.length) : Mks q (i + 1) (xs.set i (mkv q i)) := by
  intro j hj
  by_cases e : j = i
  · subst e; simp [hi]
  · rw [List.getElem?_set_ne (by omega)]; exact h j (by omega)
theorem mkv0 (q : Int) (k : Nat) : mkv q (k * 3) = sv (mkT (q + k * 3)) := by unfold mkv; rw [if_pos (by omega)]; congr 1
theorem mkv1 (q : Int) (k : Nat) : mkv q (k * 3 + 1) = iv (q + k * 3 + 1) := by
  unfold mkv; rw [if_neg (by omega)]
  have : q + ((k * 3 + 1 : Nat) : Int) = q + k * 3 + 1 := by omega
  rw [this]
theorem mkv2 (q : Int) (k : Nat) : mkv q (k * 3 + 2) = iv (q + k * 3 + 2) := by
  unfold mkv; rw [if_neg (by omega)]
  have : q + ((k * 3 + 2 : Nat) : Int) = q + k * 3 + 2 := by omega
  rw [this]
theorem mark_n {w1 : World} {B g n cap k : Nat} {q : Int} {ys : List Value} (hlt : k < n) (hy : w1.ownsRow B 38 3 (.slice (some ⟨g, 0, none⟩) n cap) n ys) (hm : Mks q (k * 3) ys) :
    ∃ ys, (((w1.setCell ⟨g, k * 3, none⟩ (.string (mkT (q + k * 3)))).setCell ⟨g, k * 3 + 1, none⟩ (.int .i64 (q + k * 3 + 1))).setCell ⟨g, k * 3 + 2, none⟩ (.int .i64 (q + k * 3 + 2))).ownsRow B 38 3 (.slice (some ⟨g, 0, none⟩) n cap) n ys ∧ Mks q ((k + 1) * 3) ys := by
  have hl : ys.length = n * 3 := hy.1
  have h0 := (hy.stored (k * 3) (mkv q (k * 3))).1
  have m0 := hm.set (by omega)
  have h1 := (h0.stored (k * 3 + 1) (mkv q (k * 3 + 1))).1
  have m1 := m0.set (by rw [List.length_set]; omega)
  have h2 := (h1.stored (k * 3 + 2) (mkv q (k * 3 + 2))).1
  have m2 := m1.set (by rw [List.length_set, List.length_set]; omega)
  have z5 : (k + 1) * 3 = k * 3 + 1 + 1 + 1 := by omega
  rw [mkv0, mkv1, mkv2] at h2
  rw [z5]
  refine ⟨_, h2, ?_⟩
  rw [← mkv0, ← mkv1, ← mkv2]; exact m2
end Go.Proofs.Ytghglpcfpokmhaa

namespace Go.Proofs.Ytghglpcfpokmhaa
open Go.RowKit
set_option linter.unusedVariables false
set_option linter.unusedSimpArgs false

theorem keep3 {w w0 w1 : World} {a b c : Addr} {v u x : Value} (h : w0.cell? a = some v ∧ w0.cell? b = some u ∧ w0.cell? c = some x ∧ Below w.heap.size w w0) (hb : Below w0.heap.size w0 w1) : w1.cell? a = some v ∧ w1.cell? b = some u ∧ w1.cell? c = some x ∧ Below w.heap.size w w1 := ⟨cell_later hb h.1, cell_later hb h.2.1, cell_later hb h.2.2.1, laterB h.2.2.2 hb⟩
theorem keep3d {w w0 : World} {a b c : Addr} {v u x : Value} (h : w0.cell? a = some v ∧ w0.cell? b = some u ∧ w0.cell? c = some x ∧ Below w.heap.size w w0) : w0.drew.cell? a = some v ∧ w0.drew.cell? b = some u ∧ w0.drew.cell? c = some x ∧ Below w.heap.size w w0.drew := ⟨h.1, h.2.1, h.2.2.1, h.2.2.2.drew⟩
end Go.Proofs.Ytghglpcfpokmhaa

set_option linter.unusedVariables false
set_option linter.unusedSimpArgs false
namespace Go.Proofs.Ytghglpcfpokmhaa
open Go Go.Conc Go.RowKit
open Go.Proofs.Ytghglpcfpokmhaa.Bb (Tks TO TW Rng tot)
open Go.Proofs.Ytghglpcfpokmhaa.Wk (El BodiesV Bel)
open Go.Proofs.Ytghglpcfpokmhaa.Br (Pz rt)
theorem bel_rt {w w' : World} {T : Nat → Question → Nat} {d : Nat} (h : Below w.heap.size (rt T d w) w') : Bel w.heap.size w w' := ⟨h.os, h.output, h.size, h.block⟩
theorem Wk.Bel.refl (w : World) : Bel w.heap.size w w := ⟨rfl, rfl, Nat.le_refl _, fun _ _ => rfl⟩
theorem Wk.Bel.kp {w w' : World} (h : Bel w.heap.size w w') : KP w w' := fun b ⟨e, he⟩ => ⟨e, (h.block b (Array.getElem?_eq_some_iff.1 he).1).trans he⟩
theorem Wk.Bel.trans {N : Nat} {a b c : World} (h : Bel N a b) (k : Bel N b c) : Bel N a c := ⟨k.os.trans h.os, k.output.trans h.output, Nat.le_trans h.size k.size, fun i hi => (k.block i hi).trans (h.block i hi)⟩
theorem Wk.Bel.mono {N M : Nat} {a b : World} (h : Bel N a b) (hM : M ≤ N) : Bel M a b := ⟨h.os, h.output, h.size, fun k hk => h.block k (by omega)⟩
theorem Wk.Bel.rtt {N : Nat} {a b : World} (h : Bel N a b) (T : Nat → Question → Nat) (d : Nat) : Bel N a (rt T d b) := ⟨h.os, h.output, h.size, h.block⟩
/-- all but the block g stands -/
structure Gro (g : Nat) (a b : World) : Prop where
  os : b.os = a.os
  output : b.output = a.output
  size : a.heap.size ≤ b.heap.size
  block : ∀ k, k < a.heap.size → k ≠ g → b.heap[k]? = a.heap[k]?
theorem gro_rt {g : Nat} {w w' : World} {T : Nat → Question → Nat} {d : Nat} (h : (rt T d w).grownBy w' (some g)) : Gro g w w' := ⟨h.os, h.output, h.size, fun k hk hn => h.block k hk (fun e => hn (Option.some.inj e))⟩
section
variable (w : World)
def R26 (l : List ByteArray) (v : Value) (w' : World) : Prop := ∃ r : Int, v = .int .i64 r ∧ (r = -1 ∨ (0 ≤ r ∧ r ≤ 1048576 ∧ l.length ≤ 1048576 ∧ ∀ x ∈ l, x.size ≤ 1048576)) ∧ Bel w.heap.size w w'
def R27 (ts : List (List Int)) (N : Int) (v : Value) (w' : World) : Prop := ∃ r : Int, v = .int .i64 r ∧ (r = -1 ∨ (0 ≤ r ∧ ts.length + tot ts ≤ N)) ∧ Bel w.heap.size w w'
def R29 (zs : List ByteArray) (v : Value) (w' : World) : Prop := ∃ B, v = .slice (some ⟨B, 0, none⟩) zs.length zs.length ∧ w.heap.size ≤ B ∧ OwnS w' w.heap.size B zs.length zs.length zs ∧ Bel w.heap.size w w'
def R30 (ts : List (List Int)) (v : Value) (w' : World) : Prop := ∃ B, v = .slice (some ⟨B, 0, none⟩) ts.length ts.length ∧ TO w.heap.size w'.heap.size w' B ts ts.length ∧ Bel w.heap.size w w'
theorem spack_R (b d : Option Addr) (cb cd : Nat) (ns : List ByteArray) (ts : List (List Int)) (hn : ns.length ≤ 1048576) (ht : ts.length ≤ 1048576) (hz : ∀ n ∈ ns, n.size ≤ maxLen) (hy : ∀ t ∈ ts, Byt t) (hs : Sts w b ns) (hb : Tks w d ts) (T : Nat → Question → Nat) (dd : Nat) :
    Calls Try.prog 7 #[.slice b ns.length cb, .slice d ts.length cd] (rt T dd w) fun e w' => ∃ v, e = .returned v ∧ RPk w ns ts v w' :=
  (spack_any b d cb cd ns ts (rt T dd w) hn ht hz hy hs hb).mono fun e w' ⟨L, ok, g, c, h1, h2, h3, h4⟩ => ⟨_, h1, L, ok, g, c, rfl, h2, bel_rt h3, h4⟩
def RTr (v : Value) (w' : World) : Prop := v = .bool true ∧ Bel w.heap.size w w'
def R35 (lo hi : Nat) (v : Value) (w' : World) : Prop := ∃ r : Int, v = .int .i64 r ∧ 0 ≤ r ∧ w'.os = w.os ∧ w'.output = w.output ∧ w.heap.size ≤ w'.heap.size ∧ (∀ k, k < w.heap.size → (k < lo ∨ hi ≤ k) → w'.heap[k]? = w.heap[k]?) ∧ KP w w'
theorem row_pz0 {w : World} {B e m g n c : Nat} {xs : List Value} (h : w.ownsRow B e m (.slice (some ⟨g, 0, none⟩) n c) n xs) (hp : Pz w g) : c * m = 0 := by
  obtain ⟨y, hy⟩ := hp
  rcases h.2 with ⟨hv, _⟩ | ⟨g', cap', cur, hv, hB, hh, hc, hm, hcs, htk⟩
  · cases hv
  · injection hv with e1 e2 e3
    injection e1 with e1
    injection e1 with e1
    subst e1 e3
    rw [hy] at hh
    injection hh with hh
    injection hh with hh
    rw [← hh] at hcs
    exact hcs.symm
theorem row_pz1 {w : World} {B e m g n c : Nat} {xs : List Value} (h : w.ownsRow B e m (.slice (some ⟨g, 0, none⟩) n c) n xs) (hc0 : c * m = 0) : Pz w g := by
  rcases h.2 with ⟨hv, _⟩ | ⟨g', cap', cur, hv, hB, hh, hc, hm, hcs, htk⟩
  · cases hv
  · injection hv with e1 e2 e3
    injection e1 with e1
    injection e1 with e1
    subst e1 e3
    have : cur = #[] := by
      have : cur.size = 0 := by rw [hcs, hc0]
      simpa using this
    rw [this] at hh
    exact ⟨_, hh⟩
theorem kp_gro {w w' : World} {B e m g n c : Nat} {xs ys : List Value} (hg : Gro g w w') (h : w.ownsRow B e m (.slice (some ⟨g, 0, none⟩) n c) n xs) (h' : w'.ownsRow B e m (.slice (some ⟨g, 0, none⟩) n c) n ys) : KP w w' := fun b hb => by
  by_cases hbg : b = g
  · subst hbg
    exact row_pz1 h' (row_pz0 h hb)
  · obtain ⟨y, hy⟩ := hb
    exact ⟨y, (hg.block b (Array.getElem?_eq_some_iff.1 hy).1 hbg).trans hy⟩
def R34 (B g n cap : Nat) (q : Int) (v : Value) (w' : World) : Prop := v = .int .i64 (q + n) ∧ (∃ ys, w'.ownsRow B 9 1 (.slice (some ⟨g, 0, none⟩) n cap) n ys) ∧ Gro g w w' ∧ KP w w'
def R36 (B g n cap : Nat) (q : Int) (v : Value) (w' : World) : Prop := v = .int .i64 (q + n * 3) ∧ (∃ ys, w'.ownsRow B 38 3 (.slice (some ⟨g, 0, none⟩) n cap) n ys ∧ Mks q (n * 3) ys) ∧ Gro g w w' ∧ KP w w'
def R37 (n : Nat) (q : Int) (v : Value) (w' : World) : Prop := v = .int .i64 (q + n * 3) ∧ Bel w.heap.size w w'
end
end Go.Proofs.Ytghglpcfpokmhaa

set_option linter.unusedVariables false
set_option linter.unusedSimpArgs false
namespace Go.Proofs.Ytghglpcfpokmhaa
open Go Go.Conc Go.RowKit
open Go.Proofs.Ytghglpcfpokmhaa.Bb (Tks TO TW Rng tot)
open Go.Proofs.Ytghglpcfpokmhaa.Wk (El BodiesV Bel)
theorem els_of (P : Nat → El → Prop) : ∀ (n : Nat), (∀ j, j < n → ∃ e, P j e) → ∃ zs : List El, zs.length = n ∧ ∀ j e, zs[j]? = some e → P j e := by
  intro n
  induction n with
  | zero => intro _; exact ⟨[], rfl, fun j e h => by simp at h⟩
  | succ n ih =>
    intro h
    obtain ⟨zs, hl, hz⟩ := ih fun j hj => h j (by omega)
    obtain ⟨e, he⟩ := h n (by omega)
    refine ⟨zs ++ [e], by simp [hl], fun j e' hj => ?_⟩
    rcases Nat.lt_or_ge j zs.length with hlt | hge
    · rw [List.getElem?_append_left hlt] at hj
      exact hz j e' hj
    · rw [List.getElem?_append_right hge] at hj
      have hj0 : j - zs.length = 0 := by
        have := (List.getElem?_eq_some_iff.1 hj).1
        simp at this
        omega
      rw [hj0] at hj
      simp at hj
      subst hj
      have : j = n := by omega
      rw [this]
      exact he
/-- a copy, as the workers read it -/
theorem to_bodies {lo hi : Nat} {w : World} {B : Nat} {ts : List (List Int)} (h : TO lo hi w B ts ts.length) (hy : ∀ t ∈ ts, Byt t) (hm : ∀ t ∈ ts, t.length ≤ 1048576) : ∃ zs : List El, zs.map (·.l) = ts ∧ BodiesV w zs (some ⟨B, 0, none⟩) := by
  obtain ⟨cur, h1, h2, h3⟩ := h.blk
  obtain ⟨zs, hl, hz⟩ := els_of (fun j e => ts[j]? = some e.l ∧ e.cap = e.l.length ∧ cur[j]? = some e.v ∧ Bys w e.p e.l) ts.length fun j hj => by
    obtain ⟨g, g1, g2, g3⟩ := h3 j ts[j] (List.getElem?_eq_getElem hj) hj
    exact ⟨⟨some ⟨g, 0, none⟩, ts[j].length, ts[j]⟩, List.getElem?_eq_getElem hj, rfl, g2, bys_own g3⟩
  have hmap : zs.map (·.l) = ts := by
    apply List.ext_getElem?
    intro j
    rw [List.getElem?_map]
    rcases Nat.lt_or_ge j zs.length with hlt | hge
    · rw [List.getElem?_eq_getElem hlt]
      exact ((hz j _ (List.getElem?_eq_getElem hlt)).1).symm
    · rw [List.getElem?_eq_none hge, List.getElem?_eq_none (by omega)]
      rfl
  refine ⟨zs, hmap, fun j e he => ?_, fun e he => ?_⟩
  · refine ⟨B, 0, rfl, (Array.getElem?_eq_some_iff.1 h1).1, ?_⟩
    simp [World.cell?, h1, (hz j e he).2.2.1]
  · obtain ⟨j, hj⟩ := List.getElem?_of_mem he
    obtain ⟨e1, e2, e3, e4⟩ := hz j e hj
    have ht := List.mem_of_getElem? e1
    refine ⟨e4, hy _ ht, by omega, ?_⟩
    rw [e2]
    have := hm _ ht
    unfold maxLen
    omega
theorem own_bel {w w' : World} {N B e m g n c : Nat} {xs : List Value} (h : Bel N w w') (hg : g < N) (ho : w.ownsRow B e m (.slice (some ⟨g, 0, none⟩) n c) n xs) : w'.ownsRow B e m (.slice (some ⟨g, 0, none⟩) n c) n xs := by
  refine ⟨ho.1, ?_⟩
  rcases ho.2 with ⟨hv, _⟩ | ⟨g', cp, cur, e', hg', hh, r⟩
  · cases hv
  · injection id e' with e1
    injection e1 with e1
    injection e1 with e1
    subst e1
    exact .inr ⟨g, cp, cur, e', hg', (h.block g hg).trans hh, r⟩
theorem own_gro {w w' : World} {B e m g g2 n c : Nat} {xs : List Value} (h : Gro g2 w w') (hg : g ≠ g2) (ho : w.ownsRow B e m (.slice (some ⟨g, 0, none⟩) n c) n xs) : w'.ownsRow B e m (.slice (some ⟨g, 0, none⟩) n c) n xs := by
  refine ⟨ho.1, ?_⟩
  rcases ho.2 with ⟨hv, _⟩ | ⟨g', cp, cur, e', hg', hh, r⟩
  · cases hv
  · injection id e' with e1
    injection e1 with e1
    injection e1 with e1
    subst e1
    exact .inr ⟨g, cp, cur, e', hg', (h.block g (Array.getElem?_eq_some_iff.1 hh).1 hg).trans hh, r⟩
end Go.Proofs.Ytghglpcfpokmhaa
