/-
  For every two complex numbers Product of the program answers as its model does, all NaNs one, and the law's arguments read behind the call as they read before; no conditions.
-/
import Derived.Test.YtibeipcfokngjaaPr
import Derived.Deep.CutRange
import Derived.Deep.CutBlock
import Derived.Deep.DeepCutAuto
namespace Go.Proofs.Ytibeipcfokngjaa
open Go.RowKit
set_option linter.unusedVariables false
set_option linter.unusedSimpArgs false

/-- the two numbers that came in -/
def Two (w : World) (a b c d : Nat) (w' : World) : Prop := w'.cell? ⟨w.heap.size, 0, none⟩ = some (.float .f64 a) ∧ w'.cell? ⟨w.heap.size, 1, none⟩ = some (.float .f64 b) ∧ w'.cell? ⟨w.heap.size + 1, 0, none⟩ = some (.float .f64 c) ∧ w'.cell? ⟨w.heap.size + 1, 1, none⟩ = some (.float .f64 d) ∧ Below w.heap.size w w'
theorem keepL {w w0 w1 : World} {a b c d : Nat} (h : Two w a b c d w0) (hb : Below w0.heap.size w0 w1) : Two w a b c d w1 := by
  obtain ⟨h1, h2, h3, h4, h7⟩ := h
  exact ⟨cell_later hb h1, cell_later hb h2, cell_later hb h3, cell_later hb h4, h7.trans (hb.mono h7.size)⟩
theorem keepLa {w w0 : World} {a b c d : Nat} {o : Obj} (h : Two w a b c d w0) : Two w a b c d (w0.alloc o) := keepL h ((Below.refl _ _).alloc (Nat.le_refl _) _)
theorem Two.old {w w1 : World} {a b c d : Nat} {o : Obj} (h : Two w a b c d (w1.alloc o)) (hs : w.heap.size + 1 < w1.heap.size) : Two w a b c d w1 := by
  obtain ⟨h1, h2, h3, h4, h7⟩ := h
  have R : ∀ k : Nat, k < w1.heap.size → ∀ i, (w1.alloc o).cell? ⟨k, i, none⟩ = w1.cell? ⟨k, i, none⟩ := fun k hk i => ((Below.refl w1.heap.size w1).alloc (Nat.le_refl _) o).cell (p := ⟨k, i, none⟩) hk
  refine ⟨(R _ (by omega) _).symm.trans h1, (R _ (by omega) _).symm.trans h2, (R _ (by omega) _).symm.trans h3, (R _ (by omega) _).symm.trans h4, h7.os, h7.tape, h7.output, by omega, ?_⟩
  intro k hk
  exact (Below.heap_alloc w1 o k (by omega)).symm.trans (h7.block k hk)
theorem keepLs {w w1 : World} {a b c d : Nat} {o o' : Obj} (h : Two w a b c d (w1.alloc o)) (hs : w.heap.size + 1 < w1.heap.size) : Two w a b c d (w1.alloc o') := keepLa (h.old hs)
theorem two_start {w : World} {a b c d : Nat} : Two w a b c d (((w.alloc (.cells #[.float .f64 a, .float .f64 b] 24)).alloc (.cells #[.float .f64 c, .float .f64 d] 24)).drew) := by
  refine ⟨by simp [go_sem], by simp [go_sem], by simp [go_sem], by simp [go_sem], ?_⟩
  repeat first | exact Below.refl _ _ | refine Below.drew ?_ | refine Below.alloc ?_ (by simp <;> omega) _
theorem two_lt {w w1 : World} {a b c d : Nat} (h : Two w a b c d w1) : w.heap.size + 1 < w1.heap.size := World.block_lt_of_cell? _ _ h.2.2.1
theorem Two.drew {w w1 : World} {a b c d : Nat} (h : Two w a b c d w1) : Two w a b c d w1.drew := by
  obtain ⟨h1, h2, h3, h4, h7⟩ := h
  exact ⟨h1, h2, h3, h4, h7.drew⟩

theorem keepLad {w w0 : World} {a b c d : Nat} {o : Obj} (h : Two w a b c d w0.drew) : Two w a b c d (w0.alloc o).drew :=
  Two.drew (keepLa (w0 := w0) (by obtain ⟨h1, h2, h3, h4, h7⟩ := h; exact ⟨h1, h2, h3, h4, h7.os, h7.tape, h7.output, h7.size, h7.block⟩))

theorem sz_alloc {w : World} {o : Obj} : (w.alloc o).heap.size = w.heap.size + 1 := by simp

/-- a number in a block of its own -/
def At (w : World) (g u v : Nat) : Prop := w.cell? ⟨g, 0, none⟩ = some (.float .f64 u) ∧ w.cell? ⟨g, 1, none⟩ = some (.float .f64 v) ∧ w.frozen? ⟨g, 0, none⟩ = false ∧ w.frozen? ⟨g, 1, none⟩ = false
theorem At.below {w w1 : World} {g u v : Nat} (h : At w g u v) (hb : Below w.heap.size w w1) : At w1 g u v :=
  ⟨cell_later hb h.1, cell_later hb h.2.1, (hb.frozen (p := ⟨g, 0, none⟩) (World.block_lt_of_cell? _ _ h.1)).trans h.2.2.1, (hb.frozen (p := ⟨g, 1, none⟩) (World.block_lt_of_cell? _ _ h.2.1)).trans h.2.2.2⟩
theorem at_new {X : World} {u v : Nat} {t : TypeId} : At (X.alloc (.cells #[.float .f64 u, .float .f64 v] t)) X.heap.size u v := by
  refine ⟨by simp [go_sem], by simp [go_sem], by simp [go_sem], by simp [go_sem]⟩
theorem at_drew {X : World} {g u v : Nat} (h : At X g u v) : At X.drew g u v := h
theorem newc {X w1 : World} {u v : Nat} (hb : Below (X.alloc (.cells #[.float .f64 u, .float .f64 v] 25)).heap.size (X.alloc (.cells #[.float .f64 u, .float .f64 v] 25)) w1) :
    w1.cell? ⟨X.heap.size, 0, none⟩ = some (.float .f64 u) ∧ w1.cell? ⟨X.heap.size, 1, none⟩ = some (.float .f64 v) ∧ w1.frozen? ⟨X.heap.size, 0, none⟩ = false ∧ w1.frozen? ⟨X.heap.size, 1, none⟩ = false := at_new.below hb
theorem newcd {X w1 : World} {u v : Nat} (hb : Below (X.alloc (.cells #[.float .f64 u, .float .f64 v] 25)).drew.heap.size (X.alloc (.cells #[.float .f64 u, .float .f64 v] 25)).drew w1) :
    w1.cell? ⟨X.heap.size, 0, none⟩ = some (.float .f64 u) ∧ w1.cell? ⟨X.heap.size, 1, none⟩ = some (.float .f64 v) ∧ w1.frozen? ⟨X.heap.size, 0, none⟩ = false ∧ w1.frozen? ⟨X.heap.size, 1, none⟩ = false := (at_drew at_new).below hb
theorem newk {w w1 : World} {g u v : Nat} (h1 : w.cell? ⟨g, 0, none⟩ = some (.float .f64 u)) (h2 : w.cell? ⟨g, 1, none⟩ = some (.float .f64 v)) (h3 : w.frozen? ⟨g, 0, none⟩ = false) (h4 : w.frozen? ⟨g, 1, none⟩ = false) (hb : Below w.heap.size w w1) :
    w1.cell? ⟨g, 0, none⟩ = some (.float .f64 u) ∧ w1.cell? ⟨g, 1, none⟩ = some (.float .f64 v) ∧ w1.frozen? ⟨g, 0, none⟩ = false ∧ w1.frozen? ⟨g, 1, none⟩ = false := At.below ⟨h1, h2, h3, h4⟩ hb
theorem keepSet {w w1 : World} {a b c d g : Nat} {u v : Value} (h : Two w a b c d w1) (hg : w.heap.size + 1 < g) : Two w a b c d ((w1.setCell ⟨g, 0, none⟩ u).setCell ⟨g, 1, none⟩ v) := by
  obtain ⟨h1, h2, h3, h4, h7⟩ := h
  have R : ∀ b o, b ≠ g → ((w1.setCell ⟨g, 0, none⟩ u).setCell ⟨g, 1, none⟩ v).cell? ⟨b, o, none⟩ = w1.cell? ⟨b, o, none⟩ := by
    intro b o hb
    rw [World.cell?_setCell_other _ _ _ _ (ne_blk (Ne.symm hb)), World.cell?_setCell_other _ _ _ _ (ne_blk (Ne.symm hb))]
  exact ⟨(R _ _ (by omega)).trans h1, (R _ _ (by omega)).trans h2, (R _ _ (by omega)).trans h3, (R _ _ (by omega)).trans h4, (h7.setCell (by simp; omega) _).setCell (by simp; omega) _⟩
theorem at_set {w : World} {g u v x y : Nat} (h : At w g u v) : At ((w.setCell ⟨g, 0, none⟩ (.float .f64 x)).setCell ⟨g, 1, none⟩ (.float .f64 y)) g x y := by
  obtain ⟨h1, h2, h3, h4⟩ := h
  refine ⟨?_, ?_, ?_, ?_⟩
  · rw [World.cell?_setCell_other _ _ _ _ (ne_off (by decide))]; exact World.cell?_setCell_same _ _ _ h1
  · exact World.cell?_setCell_same _ _ _ (by rw [World.cell?_setCell_other _ _ _ _ (ne_off (by decide))]; exact h2)
  · rw [World.frozen?_setCell, World.frozen?_setCell]; exact h3
  · rw [World.frozen?_setCell, World.frozen?_setCell]; exact h4

/-- the two numbers that came in, and one in block g -/
def Four (w : World) (a b c d g re im : Nat) (w' : World) : Prop := w'.cell? ⟨w.heap.size, 0, none⟩ = some (.float .f64 a) ∧ w'.cell? ⟨w.heap.size, 1, none⟩ = some (.float .f64 b) ∧ w'.cell? ⟨w.heap.size + 1, 0, none⟩ = some (.float .f64 c) ∧ w'.cell? ⟨w.heap.size + 1, 1, none⟩ = some (.float .f64 d) ∧ w'.cell? ⟨g, 0, none⟩ = some (.float .f64 re) ∧ w'.cell? ⟨g, 1, none⟩ = some (.float .f64 im) ∧ Below w.heap.size w w'
theorem four_of {w w' : World} {a b c d g re im : Nat} (h : Two w a b c d w') (h1 : w'.cell? ⟨g, 0, none⟩ = some (.float .f64 re)) (h2 : w'.cell? ⟨g, 1, none⟩ = some (.float .f64 im)) : Four w a b c d g re im w' := by
  obtain ⟨k1, k2, k3, k4, k5⟩ := h
  exact ⟨k1, k2, k3, k4, h1, h2, k5⟩
theorem Four.two {w w' : World} {a b c d g re im : Nat} (h : Four w a b c d g re im w') : Two w a b c d w' ∧ w'.cell? ⟨g, 0, none⟩ = some (.float .f64 re) ∧ w'.cell? ⟨g, 1, none⟩ = some (.float .f64 im) := by
  obtain ⟨k1, k2, k3, k4, h1, h2, k5⟩ := h
  exact ⟨⟨k1, k2, k3, k4, k5⟩, h1, h2⟩
theorem four_start {w w' : World} {a b c d g re im : Nat} (h : At w' g re im) (h2 : Two w a b c d w') : Four w a b c d g re im w'.drew := four_of h2.drew h.1 h.2.1
theorem four_lt {w w' : World} {a b c d g re im : Nat} (h : Four w a b c d g re im w') : w.heap.size + 1 < w'.heap.size ∧ g < w'.heap.size := ⟨two_lt h.two.1, World.block_lt_of_cell? _ _ h.two.2.1⟩
theorem keepF {w w0 w1 : World} {a b c d g re im : Nat} (h : Four w a b c d g re im w0) (hb : Below w0.heap.size w0 w1) : Four w a b c d g re im w1 := four_of (keepL h.two.1 hb) (cell_later hb h.two.2.1) (cell_later hb h.two.2.2)
theorem keepFa {w w0 : World} {a b c d g re im : Nat} {o : Obj} (h : Four w a b c d g re im w0) : Four w a b c d g re im (w0.alloc o) := keepF h ((Below.refl _ _).alloc (Nat.le_refl _) _)
theorem keepFad {w w0 : World} {a b c d g re im : Nat} {o : Obj} (h : Four w a b c d g re im w0.drew) : Four w a b c d g re im (w0.alloc o).drew :=
  four_of (keepLad h.two.1) (keepFa (w0 := w0) (by obtain ⟨k1, k2, k3, k4, h1, h2, h7⟩ := h; exact ⟨k1, k2, k3, k4, h1, h2, h7.os, h7.tape, h7.output, h7.size, h7.block⟩)).two.2.1 (keepFa (w0 := w0) (by obtain ⟨k1, k2, k3, k4, h1, h2, h7⟩ := h; exact ⟨k1, k2, k3, k4, h1, h2, h7.os, h7.tape, h7.output, h7.size, h7.block⟩)).two.2.2
theorem keepFs {w w1 : World} {a b c d g re im : Nat} {o o' : Obj} (h : Four w a b c d g re im (w1.alloc o)) (hs : w.heap.size + 1 < w1.heap.size ∧ g < w1.heap.size) : Four w a b c d g re im (w1.alloc o') := by
  have R : ∀ i, (w1.alloc o).cell? ⟨g, i, none⟩ = w1.cell? ⟨g, i, none⟩ := fun i => ((Below.refl w1.heap.size w1).alloc (Nat.le_refl _) o).cell (p := ⟨g, i, none⟩) hs.2
  exact keepFa (four_of (h.two.1.old hs.1) ((R _).symm.trans h.two.2.1) ((R _).symm.trans h.two.2.2))
theorem keepFset {w w1 : World} {a b c d g re im q : Nat} {u v : Value} (h : Four w a b c d g re im w1) (hq : w.heap.size + 1 < q ∧ g < q) : Four w a b c d g re im ((w1.setCell ⟨q, 0, none⟩ u).setCell ⟨q, 1, none⟩ v) := by
  have R : ∀ o, ((w1.setCell ⟨q, 0, none⟩ u).setCell ⟨q, 1, none⟩ v).cell? ⟨g, o, none⟩ = w1.cell? ⟨g, o, none⟩ := by
    intro o
    rw [World.cell?_setCell_other _ _ _ _ (ne_blk (by omega)), World.cell?_setCell_other _ _ _ _ (ne_blk (by omega))]
  exact four_of (keepSet h.two.1 hq.1) ((R _).trans h.two.2.1) ((R _).trans h.two.2.2)

set_option maxHeartbeats 1600000 in
theorem lawPr (a b c d : Nat) (w : World) :
    Calls Try.prog 3 #[.agg #[.float .f64 a, .float .f64 b], .agg #[.float .f64 c, .float .f64 d]] w fun e w' => e = .returned (.bool true) ∧ Below w.heap.size w w' := by
  go_enter Try.func3, Try.ntmps3
  go_upto_region 1 with fail
  go_cut [5] from 7 (fun s wx => ∃ g re im, s = .pointer (some ⟨g, 0, none⟩) ∧ At wx g re im ∧ Hid (CPr a b c d re im) ∧ Two w a b c d wx ∧ w.heap.size + 1 < g)
  case first =>
    go_region_held3 (fun w' => w'.cell? ⟨w.heap.size, 0, none⟩ = some (.float .f64 a) ∧ w'.cell? ⟨w.heap.size, 1, none⟩ = some (.float .f64 b) ∧ w'.cell? ⟨w.heap.size + 1, 0, none⟩ = some (.float .f64 c) ∧ w'.cell? ⟨w.heap.size + 1, 1, none⟩ = some (.float .f64 d) ∧ Below w.heap.size w w')
      (first | exact two_start | (refine keepL ?_ hb; assumption) | (refine keepLa ?_; assumption) | (exact keepLs (by assumption) hs) | (exact keepLad (by assumption)) | (exact keepSet (by assumption) (by first | omega | (simp; omega) | simp)))
      (first | (go_at_call 11; refine (tocx_any _ _ _).mono ?_; rintro e w1 ⟨rfl, hb⟩; have hs := two_lt (keepL ‹_› hb); (first | (have n0 := newk n1 n2 n3 n4 hb; have n1 := n0.1; have n2 := n0.2.1; have n3 := n0.2.2.1; have n4 := n0.2.2.2; clear n0) | (have n0 := newcd hb; (try simp only [sz_alloc] at n0); have n1 := n0.1; have n2 := n0.2.1; have n3 := n0.2.2.1; have n4 := n0.2.2.2; clear n0) | (have n0 := newc hb; have n1 := n0.1; have n2 := n0.2.1; have n3 := n0.2.2.1; have n4 := n0.2.2.2; clear n0) | skip)) | (go_at_call 10; refine (sprod_any _ _ _ _ _).mono ?_; rintro e w1 ⟨re, im, rfl, hc, hb⟩; have hc' := hide hc; clear hc; have hs := two_lt (keepL ‹_› hb); (first | (have n0 := newk n1 n2 n3 n4 hb; have n1 := n0.1; have n2 := n0.2.1; have n3 := n0.2.2.1; have n4 := n0.2.2.2; clear n0) | (have n0 := newcd hb; (try simp only [sz_alloc] at n0); have n1 := n0.1; have n2 := n0.2.1; have n3 := n0.2.2.1; have n4 := n0.2.2.2; clear n0) | (have n0 := newc hb; have n1 := n0.1; have n2 := n0.2.1; have n3 := n0.2.2.1; have n4 := n0.2.2.2; clear n0) | skip)))
    all_goals
      have hH : Two w a b c d _ := ‹_›
      go_wp2
      go_meet
      first | exact ⟨_, re, im, rfl, at_new, hc', hH, by omega⟩ | exact ⟨_, re, im, rfl, at_set ⟨n1, n2, n3, n4⟩, hc', hH, by omega⟩
  case rest =>
    obtain ⟨g, re, im, h5, hat, hc, htwo, hg⟩ := hcut
    subst h5
    have hst := four_start hat htwo
    have hgl : g < wc.heap.size := World.block_lt_of_cell? _ _ hat.1
    clear hat htwo
    go_upto_region 2 with fail
    go_cut [6] from 7 (fun s wx => ∃ g' re' im', s = .pointer (some ⟨g', 0, none⟩) ∧ At wx g' re' im' ∧ Hid (CPr a b c d re' im') ∧ Four w a b c d g re im wx)
    case first =>
      go_region_held3 (fun w' => w'.cell? ⟨w.heap.size, 0, none⟩ = some (.float .f64 a) ∧ w'.cell? ⟨w.heap.size, 1, none⟩ = some (.float .f64 b) ∧ w'.cell? ⟨w.heap.size + 1, 0, none⟩ = some (.float .f64 c) ∧ w'.cell? ⟨w.heap.size + 1, 1, none⟩ = some (.float .f64 d) ∧ w'.cell? ⟨g, 0, none⟩ = some (.float .f64 re) ∧ w'.cell? ⟨g, 1, none⟩ = some (.float .f64 im) ∧ Below w.heap.size w w')
        (first | exact hst | (refine keepF ?_ hb; assumption) | (refine keepFa ?_; assumption) | (exact keepFs (by assumption) hs) | (exact keepFad (by assumption)) | (exact keepFset (by assumption) (by first | omega | (simp; omega) | simp)))
        (first | (go_at_call 11; refine (tocx_any _ _ _).mono ?_; rintro e w1 ⟨rfl, hb⟩; have hs := four_lt (keepF ‹_› hb); (first | (have n0 := newk n1 n2 n3 n4 hb; have n1 := n0.1; have n2 := n0.2.1; have n3 := n0.2.2.1; have n4 := n0.2.2.2; clear n0) | (have n0 := newcd hb; (try simp only [sz_alloc] at n0); have n1 := n0.1; have n2 := n0.2.1; have n3 := n0.2.2.1; have n4 := n0.2.2.2; clear n0) | (have n0 := newc hb; have n1 := n0.1; have n2 := n0.2.1; have n3 := n0.2.2.1; have n4 := n0.2.2.2; clear n0) | skip)) | (go_at_call 12; refine (iprod_any _ _ _ _ _).mono ?_; rintro e w1 ⟨re', im', rfl, hc0, hb⟩; have hc' := hide hc0; clear hc0; have hs := four_lt (keepF ‹_› hb); (first | (have n0 := newk n1 n2 n3 n4 hb; have n1 := n0.1; have n2 := n0.2.1; have n3 := n0.2.2.1; have n4 := n0.2.2.2; clear n0) | (have n0 := newcd hb; (try simp only [sz_alloc] at n0); have n1 := n0.1; have n2 := n0.2.1; have n3 := n0.2.2.1; have n4 := n0.2.2.2; clear n0) | (have n0 := newc hb; have n1 := n0.1; have n2 := n0.2.1; have n3 := n0.2.2.1; have n4 := n0.2.2.2; clear n0) | skip)))
      all_goals
        have hH : Four w a b c d g re im _ := ‹_›
        go_wp2
        go_meet
        first | exact ⟨_, re', im', rfl, at_new, hc', hH⟩ | exact ⟨_, re', im', rfl, at_set ⟨n1, n2, n3, n4⟩, hc', hH⟩
    case rest =>
      obtain ⟨g', re', im', h6, hat, hc2, hF⟩ := hcut
      subst h6
      obtain ⟨y0, y1, -, -⟩ := hat
      obtain ⟨-, -, -, -, z0, z1, hbel⟩ := hF
      have hbel' := hide hbel
      clear hbel hst
      have hsm := (unhide hc2).sm (unhide hc) Sm.rfl Sm.rfl Sm.rfl Sm.rfl
      have hsm' := hide hsm
      clear hsm
      go_wp2_with fail
      refine (eqcx_any re' im' re im (unhide hsm').1 (unhide hsm').2 _).mono ?_
      rintro e w9 ⟨rfl, hb9⟩
      go_wp2
      go_ret
      exact ⟨rfl, (unhide hbel').trans (hb9.mono (unhide hbel').size)⟩

end Go.Proofs.Ytibeipcfokngjaa
