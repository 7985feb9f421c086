/-
  Contract of the model's Cube, where all is as told; nothing that was there is written.
-/
import Derived.Test.YtdmcbdogpeidjaaICu2
namespace Go.Proofs.Ytdmcbdogpeidjaa
open Go.RowKit
set_option linter.unusedVariables false
set_option linter.unusedSimpArgs false

/-- three flags in a block that may be written -/
structure Bd (w : World) (g : Nat) (x y z : Bool) : Prop where
  c0 : w.cell? ⟨g, 0, none⟩ = some (.bool x)
  c1 : w.cell? ⟨g, 1, none⟩ = some (.bool y)
  c2 : w.cell? ⟨g, 2, none⟩ = some (.bool z)
  f0 : w.frozen? ⟨g, 0, none⟩ = false
  f1 : w.frozen? ⟨g, 1, none⟩ = false
  f2 : w.frozen? ⟨g, 2, none⟩ = false
theorem Bd.block {w w1 : World} {g : Nat} {x y z : Bool} (h : Bd w g x y z) (hb : w1.heap[g]? = w.heap[g]?) : Bd w1 g x y z := by
  have C := fun i => World.cell?_of_block (a := ⟨g, i, none⟩) hb
  have F := fun i => World.frozen?_of_block (a := ⟨g, i, none⟩) hb
  exact ⟨(C _).trans h.c0, (C _).trans h.c1, (C _).trans h.c2, (F _).trans h.f0, (F _).trans h.f1, (F _).trans h.f2⟩
theorem Bd.lt {w : World} {g : Nat} {x y z : Bool} (h : Bd w g x y z) : g < w.heap.size := World.block_lt_of_cell? _ _ h.c0
theorem Bd.below {w w1 : World} {g : Nat} {x y z : Bool} (h : Bd w g x y z) (hb : Below w.heap.size w w1) : Bd w1 g x y z := h.block (hb.block g h.lt)
theorem Bd.other {w : World} {g b i : Nat} {v : Value} {x y z : Bool} (h : Bd w g x y z) (hne : g ≠ b) : Bd (w.setCell ⟨b, i, none⟩ v) g x y z := h.block (heap_set_ne hne)
theorem Bd.set0 {w : World} {g : Nat} {x y z : Bool} (h : Bd w g x y z) (v : Bool) : Bd (w.setCell ⟨g, 0, none⟩ (.bool v)) g v y z :=
  ⟨World.cell?_setCell_same _ _ _ h.c0, by rw [World.cell?_setCell_other _ _ _ _ (ne_addr (by decide))]; exact h.c1, by rw [World.cell?_setCell_other _ _ _ _ (ne_addr (by decide))]; exact h.c2, by rw [World.frozen?_setCell]; exact h.f0, by rw [World.frozen?_setCell]; exact h.f1, by rw [World.frozen?_setCell]; exact h.f2⟩
theorem Bd.set1 {w : World} {g : Nat} {x y z : Bool} (h : Bd w g x y z) (v : Bool) : Bd (w.setCell ⟨g, 1, none⟩ (.bool v)) g x v z :=
  ⟨by rw [World.cell?_setCell_other _ _ _ _ (ne_addr (by decide))]; exact h.c0, World.cell?_setCell_same _ _ _ h.c1, by rw [World.cell?_setCell_other _ _ _ _ (ne_addr (by decide))]; exact h.c2, by rw [World.frozen?_setCell]; exact h.f0, by rw [World.frozen?_setCell]; exact h.f1, by rw [World.frozen?_setCell]; exact h.f2⟩
theorem Bd.set2 {w : World} {g : Nat} {x y z : Bool} (h : Bd w g x y z) (v : Bool) : Bd (w.setCell ⟨g, 2, none⟩ (.bool v)) g x y v :=
  ⟨by rw [World.cell?_setCell_other _ _ _ _ (ne_addr (by decide))]; exact h.c0, by rw [World.cell?_setCell_other _ _ _ _ (ne_addr (by decide))]; exact h.c1, World.cell?_setCell_same _ _ _ h.c2, by rw [World.frozen?_setCell]; exact h.f0, by rw [World.frozen?_setCell]; exact h.f1, by rw [World.frozen?_setCell]; exact h.f2⟩
/-- the best of those that are not done, as the model looks for it -/
def sb1 (a : Bool) : Int := if a then -1 else 0
def sb2 (a b : Bool) (p q : Int) : Int := if b then sb1 a else if a then 1 else if p < q then 1 else 0
def sb3 (a b c : Bool) (p q r : Int) : Int := if c then sb2 a b p q else if sb2 a b p q = -1 then 2 else if sb2 a b p q = 0 then (if p < r then 2 else 0) else (if q < r then 2 else 1)
theorem bel_set {w v : World} {B g i : Nat} (h : Below B w v) (hg : B ≤ g) (x : Value) : Below B w (v.setCell ⟨g, i, none⟩ x) := h.setCell hg _
/-- a flag and its rest -/
def Fl (d : Bool) (p x : Int) : Prop := (d = true ∧ x = -1) ∨ (d = false ∧ x = p ∧ 0 ≤ p)
theorem sb_bst {a b c : Bool} {p q r x0 x1 x2 : Int} (h0 : Fl a p x0) (h1 : Fl b q x1) (h2 : Fl c r x2) (hp : 0 ≤ x0 ∨ 0 ≤ x1 ∨ 0 ≤ x2) : sb3 a b c p q r = bst x0 x1 x2 := by
  unfold Fl at h0 h1 h2
  rcases h0 with ⟨rfl, rfl⟩ | ⟨rfl, rfl, h0⟩ <;> rcases h1 with ⟨rfl, rfl⟩ | ⟨rfl, rfl, h1⟩ <;> rcases h2 with ⟨rfl, rfl⟩ | ⟨rfl, rfl, h2⟩ <;> simp only [sb3, sb2, sb1, bst, if_true, if_false, Bool.false_eq_true] <;> (repeat' split) <;> omega
theorem sb2_vals {a b : Bool} {p q B : Int} (h : sb2 a b p q = B) : B = -1 ∨ B = 0 ∨ B = 1 := by
  subst h
  unfold sb2 sb1
  (repeat' split) <;> omega
theorem sb_none {p q r : Int} : sb3 true true true p q r = -1 := rfl
theorem fl_gn {d : Bool} {p x : Int} (h : Fl d p x) : (d = true ∧ gn x = 1) ∨ (d = false ∧ gn x = 0) := by
  rcases h with ⟨a, b⟩ | ⟨a, b, c⟩
  · exact Or.inl ⟨a, by rw [b]; rfl⟩
  · exact Or.inr ⟨a, by rw [b]; exact gn_nn c⟩
/-- what the walk keeps of the world -/
structure SB (w wr : World) (h gA gR gD : Nat) (a0 a1 a2 p q r : Int) (D0 D1 D2 : Bool) : Prop where
  A : Bx wr gA a0 a1 a2
  R : Bx wr gR p q r
  D : Bd wr gD D0 D1 D2
  O : Bx wr (h + 1) 0 0 0
  B : Below h w wr
theorem SB.drewN {w wr : World} {h gA gR gD : Nat} {a0 a1 a2 p q r : Int} {D0 D1 D2 : Bool} (H : SB w wr h gA gR gD a0 a1 a2 p q r D0 D1 D2) (n : Nat) : SB w (wr.drewN n) h gA gR gD a0 a1 a2 p q r D0 D1 D2 :=
  ⟨H.A.block rfl, H.R.block rfl, H.D.block rfl, H.O.block rfl, below_drewN H.B n⟩
theorem SB.later {w wr w1 : World} {h gA gR gD : Nat} {a0 a1 a2 p q r : Int} {D0 D1 D2 : Bool} (H : SB w wr h gA gR gD a0 a1 a2 p q r D0 D1 D2) (hs : h ≤ wr.heap.size) (hb : Below wr.heap.size wr w1) : SB w w1 h gA gR gD a0 a1 a2 p q r D0 D1 D2 :=
  ⟨H.A.below hb, H.R.below hb, H.D.below hb, H.O.below hb, H.B.trans (hb.mono hs)⟩
abbrev S6c (w' : World) (gA b o K : Nat) (a0 a1 a2 c0 c1 c2 : Int) : Prop := w'.cell? ⟨gA, 0, none⟩ = some (.int .i64 a0) ∧ w'.cell? ⟨gA, 1, none⟩ = some (.int .i64 a1) ∧ w'.cell? ⟨gA, 2, none⟩ = some (.int .i64 a2) ∧ w'.cell? ⟨b, o + K * 3, none⟩ = some (.int .i64 c0) ∧ w'.cell? ⟨b, o + K * 3 + 1, none⟩ = some (.int .i64 c1) ∧ w'.cell? ⟨b, o + K * 3 + 2, none⟩ = some (.int .i64 c2)
theorem s6_d {v : World} {gA b o K : Nat} {a0 a1 a2 c0 c1 c2 : Int} (h : S6c v gA b o K a0 a1 a2 c0 c1 c2) : S6c v.drew gA b o K a0 a1 a2 c0 c1 c2 := h
theorem s6_ad {v : World} {gA b o K : Nat} {a0 a1 a2 c0 c1 c2 : Int} {ob : Obj} (h : S6c v gA b o K a0 a1 a2 c0 c1 c2) : S6c (v.alloc ob).drew gA b o K a0 a1 a2 c0 c1 c2 := by
  have hb := (Below.refl v.heap.size v).alloc (Nat.le_refl _) ob
  obtain ⟨h0, h1, h2, h3, h4, h5⟩ := h
  have H : S6c (v.alloc ob) gA b o K a0 a1 a2 c0 c1 c2 := ⟨cell_later hb h0, cell_later hb h1, cell_later hb h2, cell_later hb h3, cell_later hb h4, cell_later hb h5⟩
  exact H
theorem s6_da {v : World} {gA b o K : Nat} {a0 a1 a2 c0 c1 c2 : Int} {ob : Obj} (h : S6c v gA b o K a0 a1 a2 c0 c1 c2) : S6c (v.drew.alloc ob) gA b o K a0 a1 a2 c0 c1 c2 := by
  have hb := (Below.refl v.drew.heap.size v.drew).alloc (Nat.le_refl _) ob
  obtain ⟨h0, h1, h2, h3, h4, h5⟩ := h
  exact ⟨cell_later (w := v.drew) hb h0, cell_later (w := v.drew) hb h1, cell_later (w := v.drew) hb h2, cell_later (w := v.drew) hb h3, cell_later (w := v.drew) hb h4, cell_later (w := v.drew) hb h5⟩

set_option maxRecDepth 100000 in
set_option maxHeartbeats 12800000 in
theorem scub_yes (n : Int) (a : Option Addr) (cap : Nat) (l : List Kl) (x y z : Int) (w : World) (hl : l.length ≤ maxLen) (hk : Kls w a l) (hT : TabOk n l) (hX : CoOk (x, y, z)) :
    Calls Try.prog 14 #[.int .i64 n, .slice a l.length cap, ag3 x y z] w fun e w' => e = .returned (kv (cubOf n l (x, y, z))) ∧ Below w.heap.size w w' := by
  have hk' := hide hk
  have hl' := hide hl
  clear hk hl
  have hOK : CubOk n l (x, y, z) := ⟨hT.1, hT.2.1, hT.2.2, hX⟩
  rw [cub_yes hOK]
  have hB := cuB_of hT.1 hX
  have h8 := cube_bd hT.1
  have hlen : 8 ≤ l.length := by have := hT.2.1; omega
  have hlen9 : l.length ≤ 729 := by have := hT.2.1; omega
  obtain ⟨b, o, _, _, _, rfl, _, hbl, _, _, _⟩ := kls_at (k := 0) (unhide hk') (Below.refl _ _) (by omega)
  obtain ⟨i, hi⟩ : ∃ i, plI x (n - 1) = i := ⟨_, rfl⟩
  obtain ⟨j, hj⟩ : ∃ i, plI y (n - 1) = i := ⟨_, rfl⟩
  obtain ⟨k, hk⟩ : ∃ i, plI z (n - 1) = i := ⟨_, rfl⟩
  obtain ⟨p, hp⟩ : ∃ i, plR x (n - 1) = i := ⟨_, rfl⟩
  obtain ⟨q, hq⟩ : ∃ i, plR y (n - 1) = i := ⟨_, rfl⟩
  obtain ⟨r, hr⟩ : ∃ i, plR z (n - 1) = i := ⟨_, rfl⟩
  have hall : Hid (plI x (n - 1) = i ∧ plI y (n - 1) = j ∧ plI z (n - 1) = k ∧ plR x (n - 1) = p ∧ plR y (n - 1) = q ∧ plR z (n - 1) = r) := hide ⟨hi, hj, hk, hp, hq, hr⟩
  have hst : Hid (cuIt n l (x, y, z) 0 = ((i, j, k), (p, q, r), 65535, (0, 0, 0))) := hide (by show cuSt n (x, y, z) = _; unfold cuSt; rw [hi, hj, hk, hp, hq, hr])
  obtain ⟨V0, V1, V2, hV⟩ : ∃ V0 V1 V2, cuRnd (cuFin n l (cuIt n l (x, y, z) 3)) = (V0, V1, V2) := ⟨_, _, _, rfl⟩
  rw [hV]
  have hV' := hide hV
  have n0 := hB.n0
  have n1 := hB.n1
  have hT' := hide hT
  have hX' := hide hX
  have hOK' := hide hOK
  have hS := hide (decide_eq_true hX)
  have bi := hB.i0
  have bj := hB.i1
  have bk := hB.i2
  simp only at bi bj bk
  rw [hi, hp] at bi
  rw [hj, hq] at bj
  rw [hk, hr] at bk
  have Bi := hide bi
  have Bj := hide bj
  have Bk := hide bk
  have hE := hT.2.1
  obtain ⟨q0, q1, q2, q3⟩ := h8
  generalize hq2 : n * n = N2 at *
  generalize hr2 : N2 * n = N3 at *
  have hne : ((l.length : Int) != N3) = false := by simpa using hE
  have hd : Hid ((decide (2 ≤ n) && decide (n ≤ 9)) = true) := hide (by simp; omega)
  clear hT hX hOK hB hV hi hj hk hp hq hr bi bj bk hE
  go_enter Try.func14, Try.ntmps14
  go_wp2_with fail
  refine (in_any n 2 9 true _ (unhide hd)).mono ?_
  rintro e w9 ⟨rfl, hw0⟩
  have hw1 := hw0.symm
  subst hw1
  go_wp2_with fail
  refine (sco_any x y z true _ (unhide hS)).mono ?_
  rintro e w1 ⟨rfl, hb1⟩
  have I1 : Hid (Bx w1 w.heap.size x y z) := hide (Bx.below (w := ((w.alloc (.cells #[.int .i64 x, .int .i64 y, .int .i64 z] 26)).alloc (.cells #[.int .i64 0, .int .i64 0, .int .i64 0] 26))) ⟨by simp [go_sem], by simp [go_sem], by simp [go_sem], by simp [go_sem], by simp [go_sem], by simp [go_sem]⟩ hb1)
  have R1 : Hid (Bx w1 (w.heap.size + 1) 0 0 0) := hide (Bx.below (w := ((w.alloc (.cells #[.int .i64 x, .int .i64 y, .int .i64 z] 26)).alloc (.cells #[.int .i64 0, .int .i64 0, .int .i64 0] 26))) ⟨by simp [go_sem], by simp [go_sem], by simp [go_sem], by simp [go_sem], by simp [go_sem], by simp [go_sem]⟩ hb1)
  have H1 : Hid (Below w.heap.size w w1) := hide ((((Below.refl _ _).alloc (Nat.le_refl _) _).alloc (by simp) _).trans (hb1.mono (by simp; omega)))
  clear hb1 hq2 hr2 hne
  go_wp2
  go_loopw [7] (fun t wr => ∃ m : Nat, m ≤ l.length ∧ t = .int .i64 m ∧ Hid (Bx wr w.heap.size x y z) ∧ Hid (Bx wr (w.heap.size + 1) 0 0 0) ∧ Hid (Below w.heap.size w wr)) (fun t _ => l.length - (intOf t).toNat)
  case atStart => exact ⟨0, by omega, rfl, I1, R1, H1⟩
  case round =>
    clear I1 R1 H1
    obtain ⟨m, hm, rfl, hI, hR, hw⟩ := hrel
    by_cases hlt : m < l.length
    · obtain ⟨b9, o9, x9, y9, z9, hab, hx9, hbl9, d0, d1, d2⟩ := kls_at (unhide hk') (unhide hw) hlt
      injection hab with hab
      injection hab with ha1 ha2
      subst ha1 ha2
      have hS9 := hide (decide_eq_true ((unhide hT').2.2.at hx9))
      clear hx9 hbl9
      go_wp2_with fail
      refine (sco_any x9 y9 z9 true _ (unhide hS9)).mono ?_
      rintro e w4 ⟨rfl, hb⟩
      have I4 := hide ((unhide hI).below hb)
      have R4 := hide ((unhide hR).below hb)
      have H4 := hide (laterB (unhide hw) hb)
      clear hb hI hR hw
      go_wp2
      go_roundw
      case rel => exact ⟨m + 1, by omega, by go_num, I4, R4, H4⟩
      case measure => simp [intOf]; omega
    · have hke : m = l.length := by omega
      have hsv : w.heap.size + 1 < wr.heap.size := (unhide hR).lt
      obtain ⟨W1, hW1⟩ : ∃ W1, W1 = (wr.alloc (.cells #[.int .i64 0, .int .i64 0, .int .i64 0] 2)).alloc (.cells #[.int .i64 0, .int .i64 0, .int .i64 0] 2) := ⟨_, rfl⟩
      have hal : Hid (Below wr.heap.size wr W1) := hide (by rw [hW1]; exact ((Below.refl _ _).alloc (Nat.le_refl _) _).alloc (by simp) _)
      have A1 : Hid (Bx W1 wr.heap.size 0 0 0) := hide (by rw [hW1]; exact ⟨by simp [go_sem], by simp [go_sem], by simp [go_sem], by simp [go_sem], by simp [go_sem], by simp [go_sem]⟩)
      have Q1 : Hid (Bx W1 (wr.heap.size + 1) 0 0 0) := hide (by rw [hW1]; exact ⟨by simp [go_sem], by simp [go_sem], by simp [go_sem], by simp [go_sem], by simp [go_sem], by simp [go_sem]⟩)
      have I1 := hide ((unhide hI).below (unhide hal))
      have R1 := hide ((unhide hR).below (unhide hal))
      have H1 := hide (laterB (unhide hw) (unhide hal))
      have hWh := hide hW1
      have hgD : wr.heap.size + 1 < W1.heap.size := (unhide Q1).lt
      obtain ⟨e0, e1, e2, _, _, _⟩ := unhide hI
      have hsv0 : w.heap.size < wr.heap.size := by omega
      have hsv1 : w.heap.size < wr.heap.size + 1 := by omega
      clear hal hI hR hw hW1 hm hke
      go_wp2_with (fail)
      rw [← unhide hWh]
      clear hWh e0 e1 e2
      generalize wr.heap.size = gA at *
      obtain ⟨c0, c1, c2, _, _, _⟩ := unhide I1
      obtain ⟨u0, u1, u2, fu0, fu1, fu2⟩ := unhide A1
      obtain ⟨v0, v1, v2, fv0, fv1, fv2⟩ := unhide Q1
      refine (splace_any x (n - 1) i p _ (unhide hX').1 (by omega) (by omega) (unhide hall).1 (unhide hall).2.2.2.1).mono ?_
      rintro e w9 ⟨rfl, hw0⟩
      have hw1 := hw0.symm
      subst hw1
      have A2 := hide (((unhide A1).set0 i).other (b := gA + 1) (i := 0) (v := .int .i64 p) (by omega))
      have Q2 := hide (((unhide Q1).other (b := gA) (i := 0) (v := .int .i64 i) (by omega)).set0 p)
      have I2 := hide (((unhide I1).other (b := gA) (i := 0) (v := .int .i64 i) (by omega)).other (b := gA + 1) (i := 0) (v := .int .i64 p) (by omega))
      have R2 := hide (((unhide R1).other (b := gA) (i := 0) (v := .int .i64 i) (by omega)).other (b := gA + 1) (i := 0) (v := .int .i64 p) (by omega))
      have H2 := hide (bel_set (g := gA + 1) (i := 0) (bel_set (g := gA) (i := 0) (unhide H1) (by omega) (.int .i64 i)) (by omega) (.int .i64 p))
      go_wp2_with fail
      generalize hW2 : ((W1.setCell ⟨gA, 0, none⟩ (.int .i64 i)).setCell ⟨gA + 1, 0, none⟩ (.int .i64 p)) = W2 at *
      clear hW2 A1 Q1 I1 R1 H1 c0 c1 c2 u0 u1 u2 fu0 fu1 fu2 v0 v1 v2 fv0 fv1 fv2 hgD
      obtain ⟨c0, c1, c2, _, _, _⟩ := unhide I2
      obtain ⟨u0, u1, u2, fu0, fu1, fu2⟩ := unhide A2
      obtain ⟨v0, v1, v2, fv0, fv1, fv2⟩ := unhide Q2
      refine (splace_any y (n - 1) j q _ (unhide hX').2.1 (by omega) (by omega) (unhide hall).2.1 (unhide hall).2.2.2.2.1).mono ?_
      rintro e w9 ⟨rfl, hw0⟩
      have hw1 := hw0.symm
      subst hw1
      have A3 := hide (((unhide A2).set1 j).other (b := gA + 1) (i := 1) (v := .int .i64 q) (by omega))
      have Q3 := hide (((unhide Q2).other (b := gA) (i := 1) (v := .int .i64 j) (by omega)).set1 q)
      have I3 := hide (((unhide I2).other (b := gA) (i := 1) (v := .int .i64 j) (by omega)).other (b := gA + 1) (i := 1) (v := .int .i64 q) (by omega))
      have R3 := hide (((unhide R2).other (b := gA) (i := 1) (v := .int .i64 j) (by omega)).other (b := gA + 1) (i := 1) (v := .int .i64 q) (by omega))
      have H3 := hide (bel_set (g := gA + 1) (i := 1) (bel_set (g := gA) (i := 1) (unhide H2) (by omega) (.int .i64 j)) (by omega) (.int .i64 q))
      go_wp2_with fail
      generalize hW3 : ((W2.setCell ⟨gA, 1, none⟩ (.int .i64 j)).setCell ⟨gA + 1, 1, none⟩ (.int .i64 q)) = W3 at *
      clear hW3 A2 Q2 I2 R2 H2 c0 c1 c2 u0 u1 u2 fu0 fu1 fu2 v0 v1 v2 fv0 fv1 fv2
      obtain ⟨c0, c1, c2, _, _, _⟩ := unhide I3
      obtain ⟨u0, u1, u2, fu0, fu1, fu2⟩ := unhide A3
      obtain ⟨v0, v1, v2, fv0, fv1, fv2⟩ := unhide Q3
      refine (splace_any z (n - 1) k r _ (unhide hX').2.2 (by omega) (by omega) (unhide hall).2.2.1 (unhide hall).2.2.2.2.2).mono ?_
      rintro e w9 ⟨rfl, hw0⟩
      have hw1 := hw0.symm
      subst hw1
      have A4 := hide (((unhide A3).set2 k).other (b := gA + 1) (i := 2) (v := .int .i64 r) (by omega))
      have Q4 := hide (((unhide Q3).other (b := gA) (i := 2) (v := .int .i64 k) (by omega)).set2 r)
      have R4 := hide (((unhide R3).other (b := gA) (i := 2) (v := .int .i64 k) (by omega)).other (b := gA + 1) (i := 2) (v := .int .i64 r) (by omega))
      have H4 := hide (bel_set (g := gA + 1) (i := 2) (bel_set (g := gA) (i := 2) (unhide H3) (by omega) (.int .i64 k)) (by omega) (.int .i64 r))
      obtain ⟨W5, hW5⟩ : ∃ W5, W5 = ((W3.setCell ⟨gA, 2, none⟩ (.int .i64 k)).setCell ⟨gA + 1, 2, none⟩ (.int .i64 r)).alloc (.cells #[.bool false, .bool false, .bool false] 4) := ⟨_, rfl⟩
      have hs4 : gA + 1 < W3.heap.size := by have := (unhide Q4).lt; simp at this; omega
      have hal : Hid (Below ((W3.setCell ⟨gA, 2, none⟩ (.int .i64 k)).setCell ⟨gA + 1, 2, none⟩ (.int .i64 r)).heap.size ((W3.setCell ⟨gA, 2, none⟩ (.int .i64 k)).setCell ⟨gA + 1, 2, none⟩ (.int .i64 r)) W5) := hide (by rw [hW5]; exact (Below.refl _ _).alloc (Nat.le_refl _) _)
      have D5 : Bd W5 W3.heap.size false false false := by rw [hW5]; exact ⟨by simp [go_sem], by simp [go_sem], by simp [go_sem], by simp [go_sem], by simp [go_sem], by simp [go_sem]⟩
      have SB0 : Hid (SB w W5 w.heap.size gA (gA + 1) W3.heap.size i j k p q r false false false) := hide ⟨(unhide A4).below (unhide hal), (unhide Q4).below (unhide hal), D5, (unhide R4).below (unhide hal), laterB (unhide H4) (unhide hal)⟩
      have Fl0 : Hid (Fl false p p ∧ Fl false q q ∧ Fl false r r) := hide ⟨Or.inr ⟨rfl, rfl, (unhide Bi).2.2.1⟩, Or.inr ⟨rfl, rfl, (unhide Bj).2.2.1⟩, Or.inr ⟨rfl, rfl, (unhide Bk).2.2.1⟩⟩
      have hWh := hide hW5
      go_wp2
      rw [← unhide hWh]
      clear hWh hW5 hal A3 Q3 I3 R3 H3 A4 Q4 R4 H4 D5 c0 c1 c2 u0 u1 u2 fu0 fu1 fu2 v0 v1 v2 fv0 fv1 fv2
      generalize W3.heap.size = gD at *
      go_loopw [10, 12, 13, 14, 15] (fun lf sr sg sb kk wr => (∃ (t : Nat) (a0 a1 a2 x0 x1 x2 L s0 s1 s2 : Int) (D0 D1 D2 : Bool), t ≤ 3 ∧ kk = .int .i64 t ∧ lf = .int .i64 L ∧ sr = .int .i64 s0 ∧ sg = .int .i64 s1 ∧ sb = .int .i64 s2 ∧ Hid (cuIt n l (x, y, z) t = ((a0, a1, a2), (x0, x1, x2), L, (s0, s1, s2))) ∧ Hid (Fl D0 p x0 ∧ Fl D1 q x1 ∧ Fl D2 r x2) ∧ Hid (SB w wr w.heap.size gA (gA + 1) gD a0 a1 a2 p q r D0 D1 D2)) ∨ (kk = .int .i64 4 ∧ ∃ T0 T1 T2 : Int, sr = .int .i64 T0 ∧ sg = .int .i64 T1 ∧ sb = .int .i64 T2 ∧ Hid (rnd T0 65535 = V0 ∧ rnd T1 65535 = V1 ∧ rnd T2 65535 = V2) ∧ (0 ≤ T0 ∧ T0 ≤ 10000000000) ∧ (0 ≤ T1 ∧ T1 ≤ 10000000000) ∧ (0 ≤ T2 ∧ T2 ≤ 10000000000) ∧ Hid (Bx wr (w.heap.size + 1) 0 0 0) ∧ Hid (Below w.heap.size w wr))) (fun _ _ _ _ kk _ => 4 - (intOf kk).toNat)
      case atStart => exact Or.inl ⟨0, i, j, k, p, q, r, 65535, 0, 0, 0, false, false, false, by omega, rfl, rfl, rfl, rfl, rfl, hst, Fl0, SB0⟩
      case round =>
        clear SB0 Fl0 hst
        rcases hrel with ⟨t, a0, a1, a2, x0, x1, x2, L, s0, s1, s2, D0, D1, D2, ht, rfl, rfl, rfl, rfl, rfl, hσ, hFl, hSB⟩ | ⟨rfl, T0, T1, T2, rfl, rfl, rfl, hE, ⟨t0, t1⟩, ⟨t2, t3⟩, ⟨t4, t5⟩, hR, hH⟩
        · have hkt : (t : Int) < 4 := by omega
          obtain ⟨wo, hwo⟩ : ∃ wo, wo = wr := ⟨_, rfl⟩
          subst hwo
          go_wp2
          go_loopw [16, 18] (fun be ii wr => Hid (SB w wr w.heap.size gA (gA + 1) gD a0 a1 a2 p q r D0 D1 D2) ∧ ((ii = .int .i64 0 ∧ be = .int .i64 (-1)) ∨ (ii = .int .i64 1 ∧ ∃ B : Int, be = .int .i64 B ∧ Hid (sb1 D0 = B)) ∨ (ii = .int .i64 2 ∧ ∃ B : Int, be = .int .i64 B ∧ Hid (sb2 D0 D1 p q = B)) ∨ (ii = .int .i64 3 ∧ ∃ B : Int, be = .int .i64 B ∧ Hid (sb3 D0 D1 D2 p q r = B)))) (fun _ ii _ => 3 - (intOf ii).toNat)
          case atStart => exact ⟨hSB, Or.inl ⟨rfl, rfl⟩⟩
          case round =>
            clear hSB
            obtain ⟨hSB, ⟨rfl, rfl⟩ | ⟨rfl, B, rfl, hBs⟩ | ⟨rfl, B, rfl, hBs⟩ | ⟨rfl, B, rfl, hBs⟩⟩ := hrel
            · obtain ⟨r0, r1, r2, _, _, _⟩ := (unhide hSB).R
              obtain ⟨d0, d1, d2, _, _, _⟩ := (unhide hSB).D
              cases D0
              · go_wp2_with fail
                go_quiet (fail)
                go_wp2
                go_roundw
                case rel => exact ⟨hide ((unhide hSB).drewN _), Or.inr (Or.inl ⟨rfl, 0, rfl, hide (by rfl)⟩)⟩
                case measure => simp [intOf]
              · go_wp2_with fail
                go_quiet (fail)
                go_wp2
                go_roundw
                case rel => exact ⟨hide ((unhide hSB).drewN _), Or.inr (Or.inl ⟨rfl, -1, rfl, hide (by rfl)⟩)⟩
                case measure => simp [intOf]
            · obtain ⟨r0, r1, r2, _, _, _⟩ := (unhide hSB).R
              obtain ⟨d0, d1, d2, _, _, _⟩ := (unhide hSB).D
              cases D1
              · cases D0
                · have hB0 : B = 0 := (unhide hBs).symm
                  subst hB0
                  by_cases hc : p < q
                  · have hc' : decide (p < q) = true := by simpa using hc
                    go_wp2_with fail
                    go_quiet (fail)
                    go_wp2
                    go_roundw
                    case rel => exact ⟨hide ((unhide hSB).drewN _), Or.inr (Or.inr (Or.inl ⟨rfl, 1, rfl, hide (by unfold sb2; rw [if_neg (by decide), if_neg (by decide), if_pos (by omega)])⟩))⟩
                    case measure => simp [intOf]
                  · have hc' : decide (p < q) = false := by simpa using hc
                    go_wp2_with fail
                    go_quiet (fail)
                    go_wp2
                    go_roundw
                    case rel => exact ⟨hide ((unhide hSB).drewN _), Or.inr (Or.inr (Or.inl ⟨rfl, 0, rfl, hide (by unfold sb2; rw [if_neg (by decide), if_neg (by decide), if_neg (by omega)])⟩))⟩
                    case measure => simp [intOf]
                · have hB0 : B = -1 := (unhide hBs).symm
                  subst hB0
                  go_wp2_with fail
                  go_quiet (fail)
                  go_wp2
                  go_roundw
                  case rel => exact ⟨hide ((unhide hSB).drewN _), Or.inr (Or.inr (Or.inl ⟨rfl, 1, rfl, hide (by rfl)⟩))⟩
                  case measure => simp [intOf]
              · go_wp2_with fail
                go_quiet (fail)
                go_wp2
                go_roundw
                case rel => exact ⟨hide ((unhide hSB).drewN _), Or.inr (Or.inr (Or.inl ⟨rfl, B, rfl, hide (by unfold sb2; rw [if_pos rfl]; exact unhide hBs)⟩))⟩
                case measure => simp [intOf]
            · obtain ⟨r0, r1, r2, _, _, _⟩ := (unhide hSB).R
              obtain ⟨d0, d1, d2, _, _, _⟩ := (unhide hSB).D
              cases D2
              · rcases sb2_vals (unhide hBs) with hB0 | hB0 | hB0
                · subst hB0
                  go_wp2_with fail
                  go_quiet (fail)
                  go_wp2
                  go_roundw
                  case rel => exact ⟨hide ((unhide hSB).drewN _), Or.inr (Or.inr (Or.inr ⟨rfl, 2, rfl, hide (by unfold sb3; rw [if_neg (by decide), if_pos (unhide hBs)])⟩))⟩
                  case measure => simp [intOf]
                · subst hB0
                  by_cases hc : p < r
                  · have hc' : decide (p < r) = true := by simpa using hc
                    go_wp2_with fail
                    go_quiet (fail)
                    go_wp2
                    go_roundw
                    case rel => exact ⟨hide ((unhide hSB).drewN _), Or.inr (Or.inr (Or.inr ⟨rfl, 2, rfl, hide (by unfold sb3; rw [if_neg (by decide), if_neg (by rw [unhide hBs]; decide), if_pos (unhide hBs), if_pos (by omega)])⟩))⟩
                    case measure => simp [intOf]
                  · have hc' : decide (p < r) = false := by simpa using hc
                    go_wp2_with fail
                    go_quiet (fail)
                    go_wp2
                    go_roundw
                    case rel => exact ⟨hide ((unhide hSB).drewN _), Or.inr (Or.inr (Or.inr ⟨rfl, 0, rfl, hide (by unfold sb3; rw [if_neg (by decide), if_neg (by rw [unhide hBs]; decide), if_pos (unhide hBs), if_neg (by omega)])⟩))⟩
                    case measure => simp [intOf]
                · subst hB0
                  by_cases hc : q < r
                  · have hc' : decide (q < r) = true := by simpa using hc
                    go_wp2_with fail
                    go_quiet (fail)
                    go_wp2
                    go_roundw
                    case rel => exact ⟨hide ((unhide hSB).drewN _), Or.inr (Or.inr (Or.inr ⟨rfl, 2, rfl, hide (by unfold sb3; rw [if_neg (by decide), if_neg (by rw [unhide hBs]; decide), if_neg (by rw [unhide hBs]; decide), if_pos (by omega)])⟩))⟩
                    case measure => simp [intOf]
                  · have hc' : decide (q < r) = false := by simpa using hc
                    go_wp2_with fail
                    go_quiet (fail)
                    go_wp2
                    go_roundw
                    case rel => exact ⟨hide ((unhide hSB).drewN _), Or.inr (Or.inr (Or.inr ⟨rfl, 1, rfl, hide (by unfold sb3; rw [if_neg (by decide), if_neg (by rw [unhide hBs]; decide), if_neg (by rw [unhide hBs]; decide), if_neg (by omega)])⟩))⟩
                    case measure => simp [intOf]
              · go_wp2_with fail
                go_quiet (fail)
                go_wp2
                go_roundw
                case rel => exact ⟨hide ((unhide hSB).drewN _), Or.inr (Or.inr (Or.inr ⟨rfl, B, rfl, hide (by unfold sb3; rw [if_pos rfl]; exact unhide hBs)⟩))⟩
                case measure => simp [intOf]
            · obtain ⟨K, c0, c1, c2, eK, hKl, hnd, hco, hKlen, ba0, ba1, ba2, ⟨L0, L1⟩, bs0, bs1, bs2⟩ := cu_facts (unhide hOK') ht (unhide hσ)
              have hVt := cuV_it (unhide hOK') t ht
              rw [unhide hσ] at hVt
              obtain ⟨_, _, _, vc, _, _, vl0, vl1, vl2, _, _, _⟩ := hVt
              simp only at vc vl0 vl1 vl2
              obtain ⟨fl0, fl1, fl2⟩ := unhide hFl
              have g0 := fl_gn fl0
              have g1 := fl_gn fl1
              have g2 := fl_gn fl2
              have hKl' := hide hKl
              have hnd' := hide hnd
              have hco' := hide hco
              obtain ⟨hbl2, m0, m1, m2⟩ := node_at (unhide hk') (unhide hSB).B (unhide hKl')
              obtain ⟨e1, he1⟩ : ∃ e1, a0 * n = e1 := ⟨_, rfl⟩
              obtain ⟨e2, he2⟩ : ∃ e2, (e1 + a1) * n = e2 := ⟨_, rfl⟩
              have be1 := mul_nn ba0 (show 0 ≤ n ∧ n ≤ 100 by omega)
              rw [he1] at be1
              have be2 := mul_nn (u := e1 + a1) (a := 10100) (by omega) (show 0 ≤ n ∧ n ≤ 100 by omega)
              rw [he2] at be2
              have he3 : e2 + a2 = (K : Int) := by rw [← he2, ← he1]; exact eK
              obtain ⟨f0, f1⟩ := be1
              obtain ⟨f2, f3⟩ := be2
              obtain ⟨h0, h1⟩ := ba0
              obtain ⟨h2, h3⟩ := ba1
              obtain ⟨h4, h5⟩ := ba2
              have hE1 := hide he1
              have hE2 := hide he2
              have hE3 := hide he3
              have hKi : (K : Int) < l.length := by omega
              have hKi0 : (0 : Int) ≤ (K : Int) := by omega
              have hsz := (unhide hSB).B.size
              clear hKl hnd hco eK he1 he2 he3
              by_cases h3t : t = 3
              · subst h3t
                have k0 := gn_le x0
                have k1 := gn_le x1
                have k2 := gn_le x2
                have hD0 : D0 = true := by rcases g0 with g | g; · exact g.1
                                           · have := g.2; omega
                have hD1 : D1 = true := by rcases g1 with g | g; · exact g.1
                                           · have := g.2; omega
                have hD2 : D2 = true := by rcases g2 with g | g; · exact g.1
                                           · have := g.2; omega
                have hBm : B = -1 := by rw [← unhide hBs, hD0, hD1, hD2]; rfl
                subst hBm
                have hEv := unhide hV'
                rw [unhide hσ] at hEv
                have hfin : cuFin n l ((a0, a1, a2), (x0, x1, x2), L, (s0, s1, s2)) = (s0 + c0 * L, s1 + c1 * L, s2 + c2 * L) := by
                  unfold cuFin addw
                  simp only
                  rw [unhide hnd']
                rw [hfin] at hEv
                unfold cuRnd at hEv
                simp only at hEv
                injection hEv with E0 hEv
                injection hEv with E1 E2
                have hEE := hide (And.intro E0 (And.intro E1 E2))
                have hww : LvOk L := ⟨L0, L1⟩
                clear vl0 vl1 vl2 fl0 fl1 fl2 g0 g1 g2 hσ hFl vc hBs hfin E0 E1 E2 hD0 hD1 hD2 k0 k1 k2
                obtain ⟨P0, hP0⟩ : ∃ P0, c0 * L = P0 := ⟨_, rfl⟩
                obtain ⟨P1, hP1⟩ : ∃ P1, c1 * L = P1 := ⟨_, rfl⟩
                obtain ⟨P2, hP2⟩ : ∃ P2, c2 * L = P2 := ⟨_, rfl⟩
                obtain ⟨z0, z1⟩ := mul_nn (a := 65535) (b := 65535) (unhide hco').1 hww
                obtain ⟨z2, z3⟩ := mul_nn (a := 65535) (b := 65535) (unhide hco').2.1 hww
                obtain ⟨z4, z5⟩ := mul_nn (a := 65535) (b := 65535) (unhide hco').2.2 hww
                simp only at z0 z1 z2 z3 z4 z5
                rw [hP0] at z0 z1
                rw [hP1] at z2 z3
                rw [hP2] at z4 z5
                obtain ⟨l0, l1⟩ := hww
                rw [hP0, hP1, hP2] at hEE
                have hq0 := hide hP0
                have hq1 := hide hP1
                have hq2 := hide hP2
                obtain ⟨aa0, aa1, aa2, fa0, fa1, fa2⟩ := (unhide hSB).A
                obtain ⟨rr0, rr1, rr2, _, _, _⟩ := (unhide hSB).R
                have we1 : IntKind.i64.wrap e1 = e1 := by rw [IntKind.wrap_i64]; omega
                have we2 : IntKind.i64.wrap (e1 + a1) = e1 + a1 := by rw [IntKind.wrap_i64]; omega
                have we3 : IntKind.i64.wrap e2 = e2 := by rw [IntKind.wrap_i64]; omega
                have we4 : IntKind.i64.wrap (e2 + a2) = (K : Int) := by rw [unhide hE3, IntKind.wrap_i64]; omega
                clear hP0 hP1 hP2
                have hall6 : Hid (S6c wr gA b o K a0 a1 a2 c0 c1 c2) := hide ⟨aa0, aa1, aa2, m0, m1, m2⟩
                go_wp2_with fail
                have hq3 := unhide hE1
                have hq4 := unhide hE2
                go_region_held3 (fun w' => w'.cell? ⟨gA, 0, none⟩ = some (.int .i64 a0) ∧ w'.cell? ⟨gA, 1, none⟩ = some (.int .i64 a1) ∧ w'.cell? ⟨gA, 2, none⟩ = some (.int .i64 a2) ∧ w'.cell? ⟨b, o + K * 3, none⟩ = some (.int .i64 c0) ∧ w'.cell? ⟨b, o + K * 3 + 1, none⟩ = some (.int .i64 c1) ∧ w'.cell? ⟨b, o + K * 3 + 2, none⟩ = some (.int .i64 c2)) (first | (with_reducible exact s6_d (unhide hall6)) | (with_reducible exact s6_ad (unhide hall6)) | (with_reducible exact s6_da (unhide hall6))) (fail)
                have hal : Below wr.heap.size wr (wr.alloc (.cells #[.int .i64 c0, .int .i64 c1, .int .i64 c2] 26)).drew := ((Below.refl _ _).alloc (Nat.le_refl _) _).drew
                have SB6 := hide ((unhide hSB).later hsz hal)
                have C6 : Hid (Bx (wr.alloc (.cells #[.int .i64 c0, .int .i64 c1, .int .i64 c2] 26)).drew wr.heap.size c0 c1 c2) := hide ((Bx.new wr 26 c0 c1 c2).block rfl)
                clear hal hSB aa0 aa1 aa2 fa0 fa1 fa2 rr0 rr1 rr2 hall6 m0 m1 m2 hq3 hq4 we1 we2 we3 we4 hKl' hnd'
                generalize (wr.alloc (.cells #[.int .i64 c0, .int .i64 c1, .int .i64 c2] 26)).drew = W6 at *
                generalize wr.heap.size = gE at *
                have hp0 := unhide hq0
                have hp1 := unhide hq1
                have hp2 := unhide hq2
                obtain ⟨cc0, cc1, cc2, _, _, _⟩ := unhide C6
                go_wp2
                go_roundw
                case rel => exact Or.inr ⟨rfl, s0 + P0, s1 + P1, s2 + P2, rfl, rfl, rfl, hEE, by omega, by omega, by omega, hide (unhide SB6).O, hide (unhide SB6).B⟩
                case measure => simp [intOf]
              · have ht3 : t < 3 := by omega
                have hpos : 0 ≤ x0 ∨ 0 ≤ x1 ∨ 0 ≤ x2 := by
                  rcases g0 with ⟨_, g0⟩ | ⟨_, g0⟩
                  · rcases g1 with ⟨_, g1⟩ | ⟨_, g1⟩
                    · rcases g2 with ⟨_, g2⟩ | ⟨_, g2⟩
                      · omega
                      · exact Or.inr (Or.inr (gn_one g2))
                    · exact Or.inr (Or.inl (gn_one g1))
                  · exact Or.inl (gn_one g0)
                have hbb := sb_bst fl0 fl1 fl2 hpos
                rw [unhide hBs] at hbb
                rcases bst_cases x0 x1 x2 with ⟨e, u, v⟩ | ⟨e, u, v⟩ | ⟨e, u, v⟩
                · have hx : 0 ≤ x0 := by omega
                  have hxl : x0 ≤ L := by omega
                  have hxp : x0 = p := by
                    rcases fl0 with h | h
                    · have := h.2; omega
                    · exact h.2.1
                  have e' := hide e
                  have hnew : Hid (cuIt n l (x, y, z) (t + 1) = ((a0 + 1, a1, a2), (-1, x1, x2), x0, (s0 + c0 * (L - x0), s1 + c1 * (L - x0), s2 + c2 * (L - x0)))) := hide (by
                    show stp n l (cuIt n l (x, y, z) t) = _
                    rw [unhide hσ]
                    unfold stp
                    simp only
                    rw [if_pos (unhide e')]
                    rw [unhide hnd']
                    rfl)
                  have hB0 : B = 0 := hbb.trans e
                  subst hB0
                  rw [hxp] at hnew hx hxl
                  have hFl2 : Hid (Fl true p (-1) ∧ Fl D1 q x1 ∧ Fl D2 r x2) := hide ⟨Or.inl ⟨rfl, rfl⟩, fl1, fl2⟩
                  have hww : LvOk (L - p) := ⟨by omega, by omega⟩
                  clear e u v hpos hbb hxp vl0 vl1 vl2 fl0 fl1 fl2 g0 g1 g2 hσ hFl vc hBs
                  obtain ⟨P0, hP0⟩ : ∃ P0, c0 * (L - p) = P0 := ⟨_, rfl⟩
                  obtain ⟨P1, hP1⟩ : ∃ P1, c1 * (L - p) = P1 := ⟨_, rfl⟩
                  obtain ⟨P2, hP2⟩ : ∃ P2, c2 * (L - p) = P2 := ⟨_, rfl⟩
                  obtain ⟨z0, z1⟩ := mul_nn (a := 65535) (b := 65535) (unhide hco').1 hww
                  obtain ⟨z2, z3⟩ := mul_nn (a := 65535) (b := 65535) (unhide hco').2.1 hww
                  obtain ⟨z4, z5⟩ := mul_nn (a := 65535) (b := 65535) (unhide hco').2.2 hww
                  simp only at z0 z1 z2 z3 z4 z5
                  rw [hP0] at z0 z1
                  rw [hP1] at z2 z3
                  rw [hP2] at z4 z5
                  obtain ⟨l0, l1⟩ := hww
                  rw [hP0, hP1, hP2] at hnew
                  have hq0 := hide hP0
                  have hq1 := hide hP1
                  have hq2 := hide hP2
                  obtain ⟨aa0, aa1, aa2, fa0, fa1, fa2⟩ := (unhide hSB).A
                  obtain ⟨rr0, rr1, rr2, _, _, _⟩ := (unhide hSB).R
                  have we1 : IntKind.i64.wrap e1 = e1 := by rw [IntKind.wrap_i64]; omega
                  have we2 : IntKind.i64.wrap (e1 + a1) = e1 + a1 := by rw [IntKind.wrap_i64]; omega
                  have we3 : IntKind.i64.wrap e2 = e2 := by rw [IntKind.wrap_i64]; omega
                  have we4 : IntKind.i64.wrap (e2 + a2) = (K : Int) := by rw [unhide hE3, IntKind.wrap_i64]; omega
                  clear hP0 hP1 hP2
                  have hall6 : Hid (S6c wr gA b o K a0 a1 a2 c0 c1 c2) := hide ⟨aa0, aa1, aa2, m0, m1, m2⟩
                  go_wp2_with fail
                  have hq3 := unhide hE1
                  have hq4 := unhide hE2
                  go_region_held3 (fun w' => w'.cell? ⟨gA, 0, none⟩ = some (.int .i64 a0) ∧ w'.cell? ⟨gA, 1, none⟩ = some (.int .i64 a1) ∧ w'.cell? ⟨gA, 2, none⟩ = some (.int .i64 a2) ∧ w'.cell? ⟨b, o + K * 3, none⟩ = some (.int .i64 c0) ∧ w'.cell? ⟨b, o + K * 3 + 1, none⟩ = some (.int .i64 c1) ∧ w'.cell? ⟨b, o + K * 3 + 2, none⟩ = some (.int .i64 c2)) (first | (with_reducible exact s6_d (unhide hall6)) | (with_reducible exact s6_ad (unhide hall6)) | (with_reducible exact s6_da (unhide hall6))) (fail)
                  have hal : Below wr.heap.size wr (wr.alloc (.cells #[.int .i64 c0, .int .i64 c1, .int .i64 c2] 26)).drew := ((Below.refl _ _).alloc (Nat.le_refl _) _).drew
                  have SB6 := hide ((unhide hSB).later hsz hal)
                  have C6 : Hid (Bx (wr.alloc (.cells #[.int .i64 c0, .int .i64 c1, .int .i64 c2] 26)).drew wr.heap.size c0 c1 c2) := hide ((Bx.new wr 26 c0 c1 c2).block rfl)
                  clear hal hSB aa0 aa1 aa2 fa0 fa1 fa2 rr0 rr1 rr2 hall6 m0 m1 m2 hq3 hq4 we1 we2 we3 we4 hKl' hnd'
                  generalize (wr.alloc (.cells #[.int .i64 c0, .int .i64 c1, .int .i64 c2] 26)).drew = W6 at *
                  generalize wr.heap.size = gE at *
                  have hp0 := unhide hq0
                  have hp1 := unhide hq1
                  have hp2 := unhide hq2
                  obtain ⟨cc0, cc1, cc2, _, _, _⟩ := unhide C6
                  obtain ⟨ab0, ab1, ab2, ga0, ga1, ga2⟩ := (unhide SB6).A
                  obtain ⟨bb0, bb1, bb2, gb0, gb1, gb2⟩ := (unhide SB6).D
                  have SB7 : Hid (SB w ((W6.setCell ⟨gD, 0, none⟩ (.bool true)).setCell ⟨gA, 0, none⟩ (.int .i64 (a0 + 1))) w.heap.size gA (gA + 1) gD (a0 + 1) (a1) (a2) p q r true D1 D2) := hide ⟨((unhide SB6).A.other (by omega)).set0 _, ((unhide SB6).R.other (by omega)).other (by omega), ((unhide SB6).D.set0 true).other (by omega), ((unhide SB6).O.other (by omega)).other (by omega), bel_set (bel_set (unhide SB6).B (by omega) _) (by omega) _⟩
                  go_wp2
                  go_roundw
                  case rel => exact Or.inl ⟨t + 1, a0 + 1, a1, a2, -1, x1, x2, p, _, _, _, true, D1, D2, by omega, by go_num, rfl, rfl, rfl, rfl, hnew, hFl2, SB7⟩
                  case measure => simp [intOf]; omega
                · have hx : 0 ≤ x1 := by omega
                  have hxl : x1 ≤ L := by omega
                  have hxp : x1 = q := by
                    rcases fl1 with h | h
                    · have := h.2; omega
                    · exact h.2.1
                  have e' := hide e
                  have hnew : Hid (cuIt n l (x, y, z) (t + 1) = ((a0, a1 + 1, a2), (x0, -1, x2), x1, (s0 + c0 * (L - x1), s1 + c1 * (L - x1), s2 + c2 * (L - x1)))) := hide (by
                    show stp n l (cuIt n l (x, y, z) t) = _
                    rw [unhide hσ]
                    unfold stp
                    simp only
                    rw [if_neg (by rw [unhide e']; omega), if_pos (unhide e')]
                    rw [unhide hnd']
                    rfl)
                  have hB1 : B = 1 := hbb.trans e
                  subst hB1
                  rw [hxp] at hnew hx hxl
                  have hFl2 : Hid (Fl D0 p x0 ∧ Fl true q (-1) ∧ Fl D2 r x2) := hide ⟨fl0, Or.inl ⟨rfl, rfl⟩, fl2⟩
                  have hww : LvOk (L - q) := ⟨by omega, by omega⟩
                  clear e u v hpos hbb hxp vl0 vl1 vl2 fl0 fl1 fl2 g0 g1 g2 hσ hFl vc hBs
                  obtain ⟨P0, hP0⟩ : ∃ P0, c0 * (L - q) = P0 := ⟨_, rfl⟩
                  obtain ⟨P1, hP1⟩ : ∃ P1, c1 * (L - q) = P1 := ⟨_, rfl⟩
                  obtain ⟨P2, hP2⟩ : ∃ P2, c2 * (L - q) = P2 := ⟨_, rfl⟩
                  obtain ⟨z0, z1⟩ := mul_nn (a := 65535) (b := 65535) (unhide hco').1 hww
                  obtain ⟨z2, z3⟩ := mul_nn (a := 65535) (b := 65535) (unhide hco').2.1 hww
                  obtain ⟨z4, z5⟩ := mul_nn (a := 65535) (b := 65535) (unhide hco').2.2 hww
                  simp only at z0 z1 z2 z3 z4 z5
                  rw [hP0] at z0 z1
                  rw [hP1] at z2 z3
                  rw [hP2] at z4 z5
                  obtain ⟨l0, l1⟩ := hww
                  rw [hP0, hP1, hP2] at hnew
                  have hq0 := hide hP0
                  have hq1 := hide hP1
                  have hq2 := hide hP2
                  obtain ⟨aa0, aa1, aa2, fa0, fa1, fa2⟩ := (unhide hSB).A
                  obtain ⟨rr0, rr1, rr2, _, _, _⟩ := (unhide hSB).R
                  have we1 : IntKind.i64.wrap e1 = e1 := by rw [IntKind.wrap_i64]; omega
                  have we2 : IntKind.i64.wrap (e1 + a1) = e1 + a1 := by rw [IntKind.wrap_i64]; omega
                  have we3 : IntKind.i64.wrap e2 = e2 := by rw [IntKind.wrap_i64]; omega
                  have we4 : IntKind.i64.wrap (e2 + a2) = (K : Int) := by rw [unhide hE3, IntKind.wrap_i64]; omega
                  clear hP0 hP1 hP2
                  have hall6 : Hid (S6c wr gA b o K a0 a1 a2 c0 c1 c2) := hide ⟨aa0, aa1, aa2, m0, m1, m2⟩
                  go_wp2_with fail
                  have hq3 := unhide hE1
                  have hq4 := unhide hE2
                  go_region_held3 (fun w' => w'.cell? ⟨gA, 0, none⟩ = some (.int .i64 a0) ∧ w'.cell? ⟨gA, 1, none⟩ = some (.int .i64 a1) ∧ w'.cell? ⟨gA, 2, none⟩ = some (.int .i64 a2) ∧ w'.cell? ⟨b, o + K * 3, none⟩ = some (.int .i64 c0) ∧ w'.cell? ⟨b, o + K * 3 + 1, none⟩ = some (.int .i64 c1) ∧ w'.cell? ⟨b, o + K * 3 + 2, none⟩ = some (.int .i64 c2)) (first | (with_reducible exact s6_d (unhide hall6)) | (with_reducible exact s6_ad (unhide hall6)) | (with_reducible exact s6_da (unhide hall6))) (fail)
                  have hal : Below wr.heap.size wr (wr.alloc (.cells #[.int .i64 c0, .int .i64 c1, .int .i64 c2] 26)).drew := ((Below.refl _ _).alloc (Nat.le_refl _) _).drew
                  have SB6 := hide ((unhide hSB).later hsz hal)
                  have C6 : Hid (Bx (wr.alloc (.cells #[.int .i64 c0, .int .i64 c1, .int .i64 c2] 26)).drew wr.heap.size c0 c1 c2) := hide ((Bx.new wr 26 c0 c1 c2).block rfl)
                  clear hal hSB aa0 aa1 aa2 fa0 fa1 fa2 rr0 rr1 rr2 hall6 m0 m1 m2 hq3 hq4 we1 we2 we3 we4 hKl' hnd'
                  generalize (wr.alloc (.cells #[.int .i64 c0, .int .i64 c1, .int .i64 c2] 26)).drew = W6 at *
                  generalize wr.heap.size = gE at *
                  have hp0 := unhide hq0
                  have hp1 := unhide hq1
                  have hp2 := unhide hq2
                  obtain ⟨cc0, cc1, cc2, _, _, _⟩ := unhide C6
                  obtain ⟨ab0, ab1, ab2, ga0, ga1, ga2⟩ := (unhide SB6).A
                  obtain ⟨bb0, bb1, bb2, gb0, gb1, gb2⟩ := (unhide SB6).D
                  have SB7 : Hid (SB w ((W6.setCell ⟨gD, 1, none⟩ (.bool true)).setCell ⟨gA, 1, none⟩ (.int .i64 (a1 + 1))) w.heap.size gA (gA + 1) gD (a0) (a1 + 1) (a2) p q r D0 true D2) := hide ⟨((unhide SB6).A.other (by omega)).set1 _, ((unhide SB6).R.other (by omega)).other (by omega), ((unhide SB6).D.set1 true).other (by omega), ((unhide SB6).O.other (by omega)).other (by omega), bel_set (bel_set (unhide SB6).B (by omega) _) (by omega) _⟩
                  go_wp2
                  go_roundw
                  case rel => exact Or.inl ⟨t + 1, a0, a1 + 1, a2, x0, -1, x2, q, _, _, _, D0, true, D2, by omega, by go_num, rfl, rfl, rfl, rfl, hnew, hFl2, SB7⟩
                  case measure => simp [intOf]; omega
                · have hx : 0 ≤ x2 := by omega
                  have hxl : x2 ≤ L := by omega
                  have hxp : x2 = r := by
                    rcases fl2 with h | h
                    · have := h.2; omega
                    · exact h.2.1
                  have e' := hide e
                  have hnew : Hid (cuIt n l (x, y, z) (t + 1) = ((a0, a1, a2 + 1), (x0, x1, -1), x2, (s0 + c0 * (L - x2), s1 + c1 * (L - x2), s2 + c2 * (L - x2)))) := hide (by
                    show stp n l (cuIt n l (x, y, z) t) = _
                    rw [unhide hσ]
                    unfold stp
                    simp only
                    rw [if_neg (by rw [unhide e']; omega), if_neg (by rw [unhide e']; omega)]
                    rw [unhide hnd']
                    rfl)
                  have hB2 : B = 2 := hbb.trans e
                  subst hB2
                  rw [hxp] at hnew hx hxl
                  have hFl2 : Hid (Fl D0 p x0 ∧ Fl D1 q x1 ∧ Fl true r (-1)) := hide ⟨fl0, fl1, Or.inl ⟨rfl, rfl⟩⟩
                  have hww : LvOk (L - r) := ⟨by omega, by omega⟩
                  clear e u v hpos hbb hxp vl0 vl1 vl2 fl0 fl1 fl2 g0 g1 g2 hσ hFl vc hBs
                  obtain ⟨P0, hP0⟩ : ∃ P0, c0 * (L - r) = P0 := ⟨_, rfl⟩
                  obtain ⟨P1, hP1⟩ : ∃ P1, c1 * (L - r) = P1 := ⟨_, rfl⟩
                  obtain ⟨P2, hP2⟩ : ∃ P2, c2 * (L - r) = P2 := ⟨_, rfl⟩
                  obtain ⟨z0, z1⟩ := mul_nn (a := 65535) (b := 65535) (unhide hco').1 hww
                  obtain ⟨z2, z3⟩ := mul_nn (a := 65535) (b := 65535) (unhide hco').2.1 hww
                  obtain ⟨z4, z5⟩ := mul_nn (a := 65535) (b := 65535) (unhide hco').2.2 hww
                  simp only at z0 z1 z2 z3 z4 z5
                  rw [hP0] at z0 z1
                  rw [hP1] at z2 z3
                  rw [hP2] at z4 z5
                  obtain ⟨l0, l1⟩ := hww
                  rw [hP0, hP1, hP2] at hnew
                  have hq0 := hide hP0
                  have hq1 := hide hP1
                  have hq2 := hide hP2
                  obtain ⟨aa0, aa1, aa2, fa0, fa1, fa2⟩ := (unhide hSB).A
                  obtain ⟨rr0, rr1, rr2, _, _, _⟩ := (unhide hSB).R
                  have we1 : IntKind.i64.wrap e1 = e1 := by rw [IntKind.wrap_i64]; omega
                  have we2 : IntKind.i64.wrap (e1 + a1) = e1 + a1 := by rw [IntKind.wrap_i64]; omega
                  have we3 : IntKind.i64.wrap e2 = e2 := by rw [IntKind.wrap_i64]; omega
                  have we4 : IntKind.i64.wrap (e2 + a2) = (K : Int) := by rw [unhide hE3, IntKind.wrap_i64]; omega
                  clear hP0 hP1 hP2
                  have hall6 : Hid (S6c wr gA b o K a0 a1 a2 c0 c1 c2) := hide ⟨aa0, aa1, aa2, m0, m1, m2⟩
                  go_wp2_with fail
                  have hq3 := unhide hE1
                  have hq4 := unhide hE2
                  go_region_held3 (fun w' => w'.cell? ⟨gA, 0, none⟩ = some (.int .i64 a0) ∧ w'.cell? ⟨gA, 1, none⟩ = some (.int .i64 a1) ∧ w'.cell? ⟨gA, 2, none⟩ = some (.int .i64 a2) ∧ w'.cell? ⟨b, o + K * 3, none⟩ = some (.int .i64 c0) ∧ w'.cell? ⟨b, o + K * 3 + 1, none⟩ = some (.int .i64 c1) ∧ w'.cell? ⟨b, o + K * 3 + 2, none⟩ = some (.int .i64 c2)) (first | (with_reducible exact s6_d (unhide hall6)) | (with_reducible exact s6_ad (unhide hall6)) | (with_reducible exact s6_da (unhide hall6))) (fail)
                  have hal : Below wr.heap.size wr (wr.alloc (.cells #[.int .i64 c0, .int .i64 c1, .int .i64 c2] 26)).drew := ((Below.refl _ _).alloc (Nat.le_refl _) _).drew
                  have SB6 := hide ((unhide hSB).later hsz hal)
                  have C6 : Hid (Bx (wr.alloc (.cells #[.int .i64 c0, .int .i64 c1, .int .i64 c2] 26)).drew wr.heap.size c0 c1 c2) := hide ((Bx.new wr 26 c0 c1 c2).block rfl)
                  clear hal hSB aa0 aa1 aa2 fa0 fa1 fa2 rr0 rr1 rr2 hall6 m0 m1 m2 hq3 hq4 we1 we2 we3 we4 hKl' hnd'
                  generalize (wr.alloc (.cells #[.int .i64 c0, .int .i64 c1, .int .i64 c2] 26)).drew = W6 at *
                  generalize wr.heap.size = gE at *
                  have hp0 := unhide hq0
                  have hp1 := unhide hq1
                  have hp2 := unhide hq2
                  obtain ⟨cc0, cc1, cc2, _, _, _⟩ := unhide C6
                  obtain ⟨ab0, ab1, ab2, ga0, ga1, ga2⟩ := (unhide SB6).A
                  obtain ⟨bb0, bb1, bb2, gb0, gb1, gb2⟩ := (unhide SB6).D
                  have SB7 : Hid (SB w ((W6.setCell ⟨gD, 2, none⟩ (.bool true)).setCell ⟨gA, 2, none⟩ (.int .i64 (a2 + 1))) w.heap.size gA (gA + 1) gD (a0) (a1) (a2 + 1) p q r D0 D1 true) := hide ⟨((unhide SB6).A.other (by omega)).set2 _, ((unhide SB6).R.other (by omega)).other (by omega), ((unhide SB6).D.set2 true).other (by omega), ((unhide SB6).O.other (by omega)).other (by omega), bel_set (bel_set (unhide SB6).B (by omega) _) (by omega) _⟩
                  go_wp2
                  go_roundw
                  case rel => exact Or.inl ⟨t + 1, a0, a1, a2 + 1, x0, x1, -1, r, _, _, _, D0, D1, true, by omega, by go_num, rfl, rfl, rfl, rfl, hnew, hFl2, SB7⟩
                  case measure => simp [intOf]; omega
        · obtain ⟨p0, p1, p2, fp0, fp1, fp2⟩ := unhide hR
          go_wp2_with fail
          refine (srnd_any T0 65535 V0 _ (by omega) (by omega) (by omega) (unhide hE).1).mono ?_
          rintro e w9 ⟨rfl, hw0⟩
          have hw1 := hw0.symm
          subst hw1
          go_wp2_with fail
          refine (srnd_any T1 65535 V1 _ (by omega) (by omega) (by omega) (unhide hE).2.1).mono ?_
          rintro e w9 ⟨rfl, hw0⟩
          have hw1 := hw0.symm
          subst hw1
          go_wp2_with fail
          refine (srnd_any T2 65535 V2 _ (by omega) (by omega) (by omega) (unhide hE).2.2).mono ?_
          rintro e w9 ⟨rfl, hw0⟩
          have hw1 := hw0.symm
          subst hw1
          go_wp2
          refine bodyPost_ret (v := ag3 V0 V1 V2) (by simp [results, Try.results14, go_sem, p0, p1, p2]) rfl ⟨rfl, ?_⟩
          exact (((unhide hH).setCell (by simp <;> omega) _).setCell (by simp <;> omega) _).setCell (by simp <;> omega) _
end Go.Proofs.Ytdmcbdogpeidjaa
