/-
  Samples: five numbers in memory; copies and comparisons; nothing that was there is written.
-/
import Derived.Test.YtmpbcmpjfcddoaaPx1
import Derived.Deep.CutRange
import Derived.Deep.CutBlock
import Derived.Deep.DeepCutAuto
namespace Go.Proofs.Ytmpbcmpjfcddoaa
open Go.RowKit
set_option linter.unusedVariables false
set_option linter.unusedSimpArgs false
namespace D

/-- a sample: its depth, red, green, blue, how full -/
abbrev Kl := Int × Int × Int × Int × Int
theorem take_snocK {l : List Kl} {k : Nat} {c : Kl} (h : l[k]? = some c) : l.take (k + 1) = l.take k ++ [c] := by
  rw [List.take_add_one, h]; rfl
abbrev ag5 (t r g b a : Int) : Value := .agg #[.int .i64 t, .int .i64 r, .int .i64 g, .int .i64 b, .int .i64 a]
structure Bx (w : World) (q : Nat) (t r g b a : Int) : Prop where
  c0 : w.cell? ⟨q, 0, none⟩ = some (.int .i64 t)
  c1 : w.cell? ⟨q, 1, none⟩ = some (.int .i64 r)
  c2 : w.cell? ⟨q, 2, none⟩ = some (.int .i64 g)
  c3 : w.cell? ⟨q, 3, none⟩ = some (.int .i64 b)
  c4 : w.cell? ⟨q, 4, none⟩ = some (.int .i64 a)
  f0 : w.frozen? ⟨q, 0, none⟩ = false
  f1 : w.frozen? ⟨q, 1, none⟩ = false
  f2 : w.frozen? ⟨q, 2, none⟩ = false
  f3 : w.frozen? ⟨q, 3, none⟩ = false
  f4 : w.frozen? ⟨q, 4, none⟩ = false
theorem Bx.lt {w : World} {q : Nat} {t r g b a : Int} (h : Bx w q t r g b a) : q < w.heap.size := World.block_lt_of_cell? _ _ h.c0
theorem Bx.block {w w1 : World} {q : Nat} {t r g b a : Int} (h : Bx w q t r g b a) (hb : w1.heap[q]? = w.heap[q]?) : Bx w1 q t r g b a := by
  have C := fun i => World.cell?_of_block (a := ⟨q, i, none⟩) hb
  have F := fun i => World.frozen?_of_block (a := ⟨q, i, none⟩) hb
  exact ⟨(C _).trans h.c0, (C _).trans h.c1, (C _).trans h.c2, (C _).trans h.c3, (C _).trans h.c4, (F _).trans h.f0, (F _).trans h.f1, (F _).trans h.f2, (F _).trans h.f3, (F _).trans h.f4⟩
theorem Bx.below {w w1 : World} {q : Nat} {t r g b a : Int} (h : Bx w q t r g b a) (hb : Below w.heap.size w w1) : Bx w1 q t r g b a := h.block (hb.block q h.lt)
theorem Bx.new (w : World) (T : TypeId) (t r g b a : Int) : Bx (w.alloc (.cells #[.int .i64 t, .int .i64 r, .int .i64 g, .int .i64 b, .int .i64 a] T)) w.heap.size t r g b a :=
  ⟨by simp [go_sem], by simp [go_sem], by simp [go_sem], by simp [go_sem], by simp [go_sem], by simp [go_sem], by simp [go_sem], by simp [go_sem], by simp [go_sem], by simp [go_sem]⟩
theorem Bx.other {w : World} {q b' i : Nat} {v : Value} {t r g b a : Int} (h : Bx w q t r g b a) (hne : q ≠ b') : Bx (w.setCell ⟨b', i, none⟩ v) q t r g b a := h.block (heap_set_ne hne)
theorem Bx.set0 {w : World} {q : Nat} {t r g b a : Int} (h : Bx w q t r g b a) (v : Int) : Bx (w.setCell ⟨q, 0, none⟩ (.int .i64 v)) q v r g b a :=
  ⟨World.cell?_setCell_same _ _ _ h.c0, by rw [World.cell?_setCell_other _ _ _ _ (ne_addr (by decide))]; exact h.c1, by rw [World.cell?_setCell_other _ _ _ _ (ne_addr (by decide))]; exact h.c2, by rw [World.cell?_setCell_other _ _ _ _ (ne_addr (by decide))]; exact h.c3, by rw [World.cell?_setCell_other _ _ _ _ (ne_addr (by decide))]; exact h.c4, by rw [World.frozen?_setCell]; exact h.f0, by rw [World.frozen?_setCell]; exact h.f1, by rw [World.frozen?_setCell]; exact h.f2, by rw [World.frozen?_setCell]; exact h.f3, by rw [World.frozen?_setCell]; exact h.f4⟩
theorem Bx.set1 {w : World} {q : Nat} {t r g b a : Int} (h : Bx w q t r g b a) (v : Int) : Bx (w.setCell ⟨q, 1, none⟩ (.int .i64 v)) q t v g b a :=
  ⟨by rw [World.cell?_setCell_other _ _ _ _ (ne_addr (by decide))]; exact h.c0, World.cell?_setCell_same _ _ _ h.c1, by rw [World.cell?_setCell_other _ _ _ _ (ne_addr (by decide))]; exact h.c2, by rw [World.cell?_setCell_other _ _ _ _ (ne_addr (by decide))]; exact h.c3, by rw [World.cell?_setCell_other _ _ _ _ (ne_addr (by decide))]; exact h.c4, by rw [World.frozen?_setCell]; exact h.f0, by rw [World.frozen?_setCell]; exact h.f1, by rw [World.frozen?_setCell]; exact h.f2, by rw [World.frozen?_setCell]; exact h.f3, by rw [World.frozen?_setCell]; exact h.f4⟩
theorem Bx.set2 {w : World} {q : Nat} {t r g b a : Int} (h : Bx w q t r g b a) (v : Int) : Bx (w.setCell ⟨q, 2, none⟩ (.int .i64 v)) q t r v b a :=
  ⟨by rw [World.cell?_setCell_other _ _ _ _ (ne_addr (by decide))]; exact h.c0, by rw [World.cell?_setCell_other _ _ _ _ (ne_addr (by decide))]; exact h.c1, World.cell?_setCell_same _ _ _ h.c2, by rw [World.cell?_setCell_other _ _ _ _ (ne_addr (by decide))]; exact h.c3, by rw [World.cell?_setCell_other _ _ _ _ (ne_addr (by decide))]; exact h.c4, by rw [World.frozen?_setCell]; exact h.f0, by rw [World.frozen?_setCell]; exact h.f1, by rw [World.frozen?_setCell]; exact h.f2, by rw [World.frozen?_setCell]; exact h.f3, by rw [World.frozen?_setCell]; exact h.f4⟩
theorem Bx.set3 {w : World} {q : Nat} {t r g b a : Int} (h : Bx w q t r g b a) (v : Int) : Bx (w.setCell ⟨q, 3, none⟩ (.int .i64 v)) q t r g v a :=
  ⟨by rw [World.cell?_setCell_other _ _ _ _ (ne_addr (by decide))]; exact h.c0, by rw [World.cell?_setCell_other _ _ _ _ (ne_addr (by decide))]; exact h.c1, by rw [World.cell?_setCell_other _ _ _ _ (ne_addr (by decide))]; exact h.c2, World.cell?_setCell_same _ _ _ h.c3, by rw [World.cell?_setCell_other _ _ _ _ (ne_addr (by decide))]; exact h.c4, by rw [World.frozen?_setCell]; exact h.f0, by rw [World.frozen?_setCell]; exact h.f1, by rw [World.frozen?_setCell]; exact h.f2, by rw [World.frozen?_setCell]; exact h.f3, by rw [World.frozen?_setCell]; exact h.f4⟩
theorem Bx.set4 {w : World} {q : Nat} {t r g b a : Int} (h : Bx w q t r g b a) (v : Int) : Bx (w.setCell ⟨q, 4, none⟩ (.int .i64 v)) q t r g b v :=
  ⟨by rw [World.cell?_setCell_other _ _ _ _ (ne_addr (by decide))]; exact h.c0, by rw [World.cell?_setCell_other _ _ _ _ (ne_addr (by decide))]; exact h.c1, by rw [World.cell?_setCell_other _ _ _ _ (ne_addr (by decide))]; exact h.c2, by rw [World.cell?_setCell_other _ _ _ _ (ne_addr (by decide))]; exact h.c3, World.cell?_setCell_same _ _ _ h.c4, by rw [World.frozen?_setCell]; exact h.f0, by rw [World.frozen?_setCell]; exact h.f1, by rw [World.frozen?_setCell]; exact h.f2, by rw [World.frozen?_setCell]; exact h.f3, by rw [World.frozen?_setCell]; exact h.f4⟩
theorem Bx.tail4 {w : World} {q : Nat} {t r g b a : Int} (h : Bx w q t r g b a) (r' g' b' a' : Int) : Bx ((((w.setCell ⟨q, 1, none⟩ (.int .i64 r')).setCell ⟨q, 2, none⟩ (.int .i64 g')).setCell ⟨q, 3, none⟩ (.int .i64 b')).setCell ⟨q, 4, none⟩ (.int .i64 a')) q t r' g' b' a' := (((h.set1 r').set2 g').set3 b').set4 a'
theorem Bx.set5 {w : World} {q : Nat} {t r g b a : Int} (h : Bx w q t r g b a) (t' r' g' b' a' : Int) : Bx (((((w.setCell ⟨q, 0, none⟩ (.int .i64 t')).setCell ⟨q, 1, none⟩ (.int .i64 r')).setCell ⟨q, 2, none⟩ (.int .i64 g')).setCell ⟨q, 3, none⟩ (.int .i64 b')).setCell ⟨q, 4, none⟩ (.int .i64 a')) q t' r' g' b' a' := ((((h.set0 t').set1 r').set2 g').set3 b').set4 a'
theorem set4T {N : Nat} {w w1 : World} {k : Nat} (h : Below N w w1) (hg : N ≤ k) (u v s t : Value) : Below N w ((((w1.setCell ⟨k, 1, none⟩ u).setCell ⟨k, 2, none⟩ v).setCell ⟨k, 3, none⟩ s).setCell ⟨k, 4, none⟩ t) :=
  (((h.setCell hg _).setCell hg _).setCell hg _).setCell hg _
set_option maxHeartbeats 1600000 in
theorem tok1_any (t r g b a : Int) (w : World) : Calls Try.prog 27 #[ag5 t r g b a] w fun e w' => e = .returned (ag5 t r g b a) ∧ Below w.heap.size w w' := by
  have hB1 : Hid (Bx (((w.alloc (.cells #[.int .i64 t, .int .i64 r, .int .i64 g, .int .i64 b, .int .i64 a] 53)).alloc (.cells #[.int .i64 0, .int .i64 0, .int .i64 0, .int .i64 0, .int .i64 0] 32)).alloc (.cells #[.int .i64 t, .int .i64 0, .int .i64 0, .int .i64 0, .int .i64 0] 32)) (w.heap.size + 1) 0 0 0 0 0) := hide (by
    have h1 := Bx.new (w.alloc (.cells #[.int .i64 t, .int .i64 r, .int .i64 g, .int .i64 b, .int .i64 a] 53)) 32 0 0 0 0 0
    rw [sz_alloc] at h1
    exact h1.below ((Below.refl _ _).alloc (Nat.le_refl _) _))
  have hB2 : Hid (Bx (((w.alloc (.cells #[.int .i64 t, .int .i64 r, .int .i64 g, .int .i64 b, .int .i64 a] 53)).alloc (.cells #[.int .i64 0, .int .i64 0, .int .i64 0, .int .i64 0, .int .i64 0] 32)).alloc (.cells #[.int .i64 t, .int .i64 0, .int .i64 0, .int .i64 0, .int .i64 0] 32)) (w.heap.size + 1 + 1) t 0 0 0 0) := hide (by
    have h1 := Bx.new ((w.alloc (.cells #[.int .i64 t, .int .i64 r, .int .i64 g, .int .i64 b, .int .i64 a] 53)).alloc (.cells #[.int .i64 0, .int .i64 0, .int .i64 0, .int .i64 0, .int .i64 0] 32)) 32 t 0 0 0 0
    rw [sz_alloc, sz_alloc] at h1
    exact h1)
  have hE : Hid (Below w.heap.size w (((w.alloc (.cells #[.int .i64 t, .int .i64 r, .int .i64 g, .int .i64 b, .int .i64 a] 53)).alloc (.cells #[.int .i64 0, .int .i64 0, .int .i64 0, .int .i64 0, .int .i64 0] 32)).alloc (.cells #[.int .i64 t, .int .i64 0, .int .i64 0, .int .i64 0, .int .i64 0] 32))) := hide ((((Below.refl _ _).alloc (Nat.le_refl _) _).alloc (by simp) _).alloc (by simp; omega) _)
  go_enter Try.func27, Try.ntmps27
  go_wp2_with fail
  refine (Go.Proofs.Ytmpbcmpjfcddoaa.tok1_any r g b a _).mono ?_
  rintro e w1 ⟨rfl, hb⟩
  have hB3 := hide ((unhide hB1).below hb)
  have hB4 := hide ((unhide hB2).below hb)
  have hE2 := hide (laterB (unhide hE) hb)
  have hE3 := hide (set4T (unhide hE2) (show w.heap.size ≤ w.heap.size + 1 + 1 by omega) (.int .i64 r) (.int .i64 g) (.int .i64 b) (.int .i64 a))
  have hB5 := hide ((unhide hB4).tail4 r g b a)
  have hne : w.heap.size + 1 ≠ w.heap.size + 1 + 1 := by omega
  have hB6 := hide ((((((unhide hB3).other (b' := w.heap.size + 1 + 1) (i := 1) (v := .int .i64 r) hne).other (b' := w.heap.size + 1 + 1) (i := 2) (v := .int .i64 g) hne).other (b' := w.heap.size + 1 + 1) (i := 3) (v := .int .i64 b) hne).other (b' := w.heap.size + 1 + 1) (i := 4) (v := .int .i64 a) hne))
  obtain ⟨d0, d1, d2, d3, d4, g0, g1, g2, g3, g4⟩ := unhide hB4
  clear hb hB1 hB2 hE hE2 hB3 hB4
  go_upto_region 4 with fail
  generalize ((((w1.setCell ⟨w.heap.size + 1 + 1, 1, none⟩ (.int .i64 r)).setCell ⟨w.heap.size + 1 + 1, 2, none⟩ (.int .i64 g)).setCell ⟨w.heap.size + 1 + 1, 3, none⟩ (.int .i64 b)).setCell ⟨w.heap.size + 1 + 1, 4, none⟩ (.int .i64 a)) = w2 at *
  clear d0 d1 d2 d3 d4 g0 g1 g2 g3 g4
  obtain ⟨c0, c1, c2, c3, c4, f0, f1, f2, f3, f4⟩ := unhide hB6
  obtain ⟨d0, d1, d2, d3, d4, g0, g1, g2, g3, g4⟩ := unhide hB5
  have hR := hide ((unhide hB6).set5 t r g b a)
  go_wp2
  obtain ⟨r0, r1, r2, r3, r4, _, _, _, _, _⟩ := unhide hR
  exact bodyPost_ret (v := ag5 t r g b a) (by simp [results, Try.results27, go_sem, r0, r1, r2, r3, r4]) rfl ⟨rfl, ((((((unhide hE3).setCell (by simp) _).setCell (by simp) _).setCell (by simp) _).setCell (by simp) _).setCell (by simp) _)⟩
set_option maxHeartbeats 1600000 in
theorem eqk_any (t r g b a : Int) (w : World) : Calls Try.prog 28 #[ag5 t r g b a, ag5 t r g b a] w fun e w' => e = .returned (.bool true) ∧ Below w.heap.size w w' := by
  have e1 : (t != t) = false := by simp
  go_enter Try.func28, Try.ntmps28
  go_wp2_with fail
  refine (Go.Proofs.Ytmpbcmpjfcddoaa.eqk_any r g b a _).mono ?_
  rintro e w1 ⟨rfl, hb⟩
  have hE := hide (laterB (((Below.refl w.heap.size w).alloc (Nat.le_refl _) (.cells #[.int .i64 t, .int .i64 r, .int .i64 g, .int .i64 b, .int .i64 a] 32)).alloc (by simp) (.cells #[.int .i64 t, .int .i64 r, .int .i64 g, .int .i64 b, .int .i64 a] 32)) hb)
  clear hb
  go_wp2
  go_ret
  exact ⟨rfl, unhide hE⟩

end D
end Go.Proofs.Ytmpbcmpjfcddoaa
