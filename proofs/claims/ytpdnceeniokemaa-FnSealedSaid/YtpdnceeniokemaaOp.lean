/-
  Contracts of both Opens; nothing that was there is written.
-/
import Derived.Test.YtpdnceeniokemaaSl
namespace Go.Proofs.Ytpdnceeniokemaa
open Go.RowKit
set_option linter.unusedVariables false
set_option linter.unusedSimpArgs false

/-- an answer that is a new list and a flag -/
def AnO (w : World) (L : List Int) (v : Bool) (e : Ending) (w' : World) : Prop := ∃ G cap, e = .returned (.tuple #[.slice (some ⟨G, 0, none⟩) L.length cap, .bool v]) ∧ w.heap.size ≤ G ∧ OwnB w' w.heap.size G L.length cap L ∧ Below w.heap.size w w'
theorem anO_nil {w X : World} (h : Below w.heap.size w X) (N : Nat) (hN : X.heap.size = N) : AnO w [] false (.returned (.tuple #[.slice (some ⟨N, 0, none⟩) 0 0, .bool false])) (X.alloc (.cells #[] 5)) := by
  subst hN
  exact ⟨X.heap.size, 0, rfl, h.size, own_mono (ownB_lit0 X (Nat.le_refl _)) h.size, h.alloc h.size _⟩
theorem anO_of {w X w' : World} {L : List Int} {G c : Nat} (h : Below w.heap.size w X) (h1 : X.heap.size ≤ G) (h2 : OwnB w' X.heap.size G L.length c L) (h3 : Below X.heap.size X w') : AnO w L true (.returned (.tuple #[.slice (some ⟨G, 0, none⟩) L.length c, .bool true])) w' :=
  ⟨G, c, rfl, Nat.le_trans h.size h1, own_mono h2 h.size, h.trans (h3.mono h.size)⟩
set_option maxHeartbeats 1600000 in
theorem iopen_any (f t s m : Int) (a : Option Addr) (cap : Nat) (l : List Int) (w : World) (hl : l.length ≤ maxLen) (hy : Byt l) (hk : Bys w a l) :
    Calls Try.prog 14 #[lkv f t s, .int .i64 m, .slice a l.length cap] w (AnO w (openOf f t s m l) (openB f t s m l)) := by
  have hl' := hide hl
  unfold maxLen at hl
  have hk' := hide hk
  have hy' := hide hy
  clear hk hy
  have hb0 : Below w.heap.size w (w.alloc (.cells #[.int .i64 f, .int .i64 t, .int .i64 s] 25)) := (Below.refl _ _).alloc (Nat.le_refl _) _
  have hb0' := hide hb0
  clear hb0
  obtain ⟨v, hv⟩ : ∃ v : Bool, v = true ↔ LkOk f t s := by
    by_cases h : LkOk f t s
    · exact ⟨true, fun _ => h, fun _ => rfl⟩
    · exact ⟨false, (fun h => by cases h), fun x => absurd x h⟩
  have hv' := hide hv
  clear hv
  go_enter Try.func14, Try.ntmps14
  go_wp2_with fail
  refine (ilk_any f t s v _ (unhide hv')).mono ?_
  rintro e w1 ⟨rfl, hb⟩
  obtain ⟨hc, hf⟩ := bcell hb
  have HB := hide ((unhide hb0').trans (hb.mono (unhide hb0').size))
  have hz := hb.size
  clear hb
  cases v with
  | false =>
    have hno : ¬ OpenOk f t s m l := fun h => by have := (unhide hv').2 ⟨h.1, h.2.2.1⟩; cases this
    go_wp2
    go_ret2
    rw [(open_no hno).1, (open_no hno).2]
    exact anO_nil (unhide HB) _ (by simp)
  | true =>
    have hL := (unhide hv').1 rfl
    by_cases h1 : f ≤ m
    rotate_left
    · have g1 : decide (m < f) = true := by simp; omega
      have hno : ¬ OpenOk f t s m l := fun h => h1 h.2.1.1
      go_wp2
      go_ret2
      rw [(open_no hno).1, (open_no hno).2]
      exact anO_nil (unhide HB) _ (by simp)
    have g1 : decide (m < f) = false := by simp; omega
    by_cases h2 : m ≤ t
    rotate_left
    · have g2 : decide (t < m) = true := by simp; omega
      have hno : ¬ OpenOk f t s m l := fun h => h2 h.2.1.2
      go_wp2
      go_ret2
      rw [(open_no hno).1, (open_no hno).2]
      exact anO_nil (unhide HB) _ (by simp)
    have g2 : decide (t < m) = false := by simp; omega
    by_cases h3 : l.length ≤ 40000
    rotate_left
    · have g3 : decide ((40000 : Int) < l.length) = true := by simp; omega
      have hno : ¬ OpenOk f t s m l := fun h => h3 h.2.2.2
      go_wp2
      go_ret2
      rw [(open_no hno).1, (open_no hno).2]
      exact anO_nil (unhide HB) _ (by simp)
    have g3 : decide ((40000 : Int) < l.length) = false := by simp; omega
    have hok : OpenOk f t s m l := ⟨hL.1, ⟨h1, h2⟩, hL.2, h3⟩
    go_wp2_with fail
    refine (iseal_any a cap l s _ (unhide hl') (unhide hy') ((unhide hk').below (unhide HB))).mono ?_
    rintro e w2 ⟨G, c, rfl, q1, q2, q3⟩
    rw [seal_yes hok.2.2] at q2 ⊢
    have hfin := hide (anO_of (L := sealB s l) (unhide HB) q1 q2 q3)
    clear q2 q3
    go_wp2
    go_ret2
    rw [(open_yes hok).1, (open_yes hok).2]
    exact unhide hfin

set_option maxHeartbeats 1600000 in
theorem sopen_any (f t s m : Int) (a : Option Addr) (cap : Nat) (l : List Int) (w : World) (hl : l.length ≤ maxLen) (hy : Byt l) (hk : Bys w a l) :
    Calls Try.prog 15 #[lkv f t s, .int .i64 m, .slice a l.length cap] w (AnO w (openOf f t s m l) (openB f t s m l)) := by
  have hl' := hide hl
  unfold maxLen at hl
  have hk' := hide hk
  have hy' := hide hy
  clear hk hy
  have hb0 : Below w.heap.size w (w.alloc (.cells #[.int .i64 f, .int .i64 t, .int .i64 s] 25)) := (Below.refl _ _).alloc (Nat.le_refl _) _
  have HB := hide hb0
  clear hb0
  by_cases h1 : 0 ≤ f
  rotate_left
  · have g1 : decide (f < 0) = true := by simp; omega
    have hno : ¬ OpenOk f t s m l := fun h => h1 h.1.1
    go_enter Try.func15, Try.ntmps15
    go_wp2
    go_ret2
    rw [(open_no hno).1, (open_no hno).2]
    exact anO_nil (unhide HB) _ (by simp)
  have g1 : decide (f < 0) = false := by simp; omega
  by_cases h2 : f ≤ t
  rotate_left
  · have g2 : decide (t < f) = true := by simp; omega
    have hno : ¬ OpenOk f t s m l := fun h => h2 h.1.2.1
    go_enter Try.func15, Try.ntmps15
    go_wp2
    go_ret2
    rw [(open_no hno).1, (open_no hno).2]
    exact anO_nil (unhide HB) _ (by simp)
  have g2 : decide (t < f) = false := by simp; omega
  by_cases h3 : t ≤ 1000000000
  rotate_left
  · have g3 : decide (1000000000 < t) = true := by simp; omega
    have hno : ¬ OpenOk f t s m l := fun h => h3 h.1.2.2
    go_enter Try.func15, Try.ntmps15
    go_wp2
    go_ret2
    rw [(open_no hno).1, (open_no hno).2]
    exact anO_nil (unhide HB) _ (by simp)
  have g3 : decide (1000000000 < t) = false := by simp; omega
  by_cases h4 : 1 ≤ s ∧ s ≤ 1000000006
  rotate_left
  · have hv := hide (fl_b false ⟨(fun h => by cases h), fun h => absurd h h4⟩)
    have hno : ¬ OpenOk f t s m l := fun h => h4 h.2.2.1
    go_enter Try.func15, Try.ntmps15
    go_wp2_with fail
    refine (in_any s 1 1000000006 false _ (unhide hv)).mono ?_
    rintro e w1 ⟨rfl, hw0⟩
    have hw1 := hw0.symm
    subst hw1
    go_wp2
    go_ret2
    rw [(open_no hno).1, (open_no hno).2]
    exact anO_nil (unhide HB) _ (by simp)
  have hv := hide (fl_b true ⟨fun _ => h4, fun _ => rfl⟩)
  by_cases h5 : f ≤ m ∧ m ≤ t
  rotate_left
  · have hu := hide (fl_b false ⟨(fun h => by cases h), fun h => absurd h h5⟩)
    have hno : ¬ OpenOk f t s m l := fun h => h5 h.2.1
    go_enter Try.func15, Try.ntmps15
    go_wp2_with fail
    refine (in_any s 1 1000000006 true _ (unhide hv)).mono ?_
    rintro e w1 ⟨rfl, hw0⟩
    have hw1 := hw0.symm
    subst hw1
    go_wp2_with fail
    refine (in_any m f t false _ (unhide hu)).mono ?_
    rintro e w1 ⟨rfl, hw0⟩
    have hw1 := hw0.symm
    subst hw1
    go_wp2
    go_ret2
    rw [(open_no hno).1, (open_no hno).2]
    exact anO_nil (unhide HB) _ (by simp)
  have hu := hide (fl_b true ⟨fun _ => h5, fun _ => rfl⟩)
  by_cases h6 : l.length ≤ 40000
  rotate_left
  · have g6 : decide ((40000 : Int) < l.length) = true := by simp; omega
    have hno : ¬ OpenOk f t s m l := fun h => h6 h.2.2.2
    go_enter Try.func15, Try.ntmps15
    go_wp2_with fail
    refine (in_any s 1 1000000006 true _ (unhide hv)).mono ?_
    rintro e w1 ⟨rfl, hw0⟩
    have hw1 := hw0.symm
    subst hw1
    go_wp2_with fail
    refine (in_any m f t true _ (unhide hu)).mono ?_
    rintro e w1 ⟨rfl, hw0⟩
    have hw1 := hw0.symm
    subst hw1
    go_wp2
    go_ret2
    rw [(open_no hno).1, (open_no hno).2]
    exact anO_nil (unhide HB) _ (by simp)
  have g6 : decide ((40000 : Int) < l.length) = false := by simp; omega
  have hok : OpenOk f t s m l := ⟨⟨h1, h2, h3⟩, h5, h4, h6⟩
  go_enter Try.func15, Try.ntmps15
  go_wp2_with fail
  refine (in_any s 1 1000000006 true _ (unhide hv)).mono ?_
  rintro e w1 ⟨rfl, hw0⟩
  have hw1 := hw0.symm
  subst hw1
  go_wp2_with fail
  refine (in_any m f t true _ (unhide hu)).mono ?_
  rintro e w1 ⟨rfl, hw0⟩
  have hw1 := hw0.symm
  subst hw1
  go_wp2_with fail
  refine (sseal_any a cap l s _ (unhide hl') (unhide hy') ((unhide hk').below (unhide HB))).mono ?_
  rintro e w2 ⟨G, c, rfl, q1, q2, q3⟩
  rw [seal_yes hok.2.2] at q2 ⊢
  have hfin := hide (anO_of (L := sealB s l) (unhide HB) q1 q2 q3)
  clear q2 q3
  go_wp2
  go_ret2
  rw [(open_yes hok).1, (open_yes hok).2]
  exact unhide hfin

end Go.Proofs.Ytpdnceeniokemaa
