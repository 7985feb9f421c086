/-
  Contracts of joining, the model's and the program's; the answer is new memory, nothing that was there is written.
-/
import Derived.Test.YtioaehjppiodfaaGreatDoorGOpn
namespace Go.Proofs.YtioaehjppiodfaaGreatDoor
open Go.RowKit
set_option linter.unusedVariables false
set_option linter.unusedSimpArgs false

theorem below_drewN {B : Nat} {w w1 : World} (h : Below B w w1) (n : Nat) : Below B w (w1.drewN n) := ⟨h.os, h.tape, h.output, h.size, h.block⟩
theorem flK_last (o : List Kl) (p : Kl) (x : Int) : (flK (o ++ [p])).set (o.length * 3 + 2) (iv x) = flK (o ++ [(p.1, p.2.1, x)]) := by
  rw [flK_append, flK_append, List.set_append_right _ _ (by rw [flK_len]; omega)]
  have e : o.length * 3 + 2 - (flK o).length = 2 := by rw [flK_len]; omega
  rw [e]; rfl
theorem own_last {w : World} {B g n cap : Nat} {o : List Kl} {p : Kl} (h : Own w B g n cap (o ++ [p])) (x : Int) : Own (w.setCell ⟨g, o.length * 3 + 2, none⟩ (.int .i64 x)) B g n cap (o ++ [(p.1, p.2.1, x)]) := by
  have h1 := (h.stored (o.length * 3 + 2) (iv x)).1
  rw [flK_last] at h1
  exact h1
theorem own_cast {w : World} {B g n n' cap : Nat} {l : List Kl} (h : n' = n) (ho : Own w B g n cap l) : Own w B g n' cap l := by subst h; exact ho
theorem last_get (o : List Kl) (p : Kl) : (o ++ [p])[o.length]? = some p := by simp

theorem goes_dec (p c : Kl) : decide (goes p c) = (decide (p.1 = c.1) && (decide (c.1 = 0) || decide (p.2.1 + p.2.2 = c.2.1))) := by
  rw [Bool.eq_iff_iff, decide_eq_true_iff]
  simp [goes]

set_option maxHeartbeats 1600000 in
theorem goes_any (p1 p2 p3 c1 c2 c3 : Int) (v : Bool) (w : World) (h2 : 0 ≤ p2 ∧ p2 ≤ 10000000) (h3 : 0 ≤ p3 ∧ p3 ≤ 100000000000) (hv : decide (goes (p1, p2, p3) (c1, c2, c3)) = v) :
    Calls Tryz.prog 151 #[.agg #[.int .i64 p1, .int .i64 p2, .int .i64 p3], .agg #[.int .i64 c1, .int .i64 c2, .int .i64 c3]] w fun e w' => e = .returned (.bool v) ∧ Below w.heap.size w w' := by
  rw [goes_dec] at hv
  simp only at hv
  subst hv
  obtain ⟨a0, a1⟩ := h2
  obtain ⟨b0, b1⟩ := h3
  have hB : Below w.heap.size w ((w.alloc (.cells #[.int .i64 p1, .int .i64 p2, .int .i64 p3] 94)).alloc (.cells #[.int .i64 c1, .int .i64 c2, .int .i64 c3] 94)) := ((Below.refl _ _).alloc (Nat.le_refl _) _).alloc (by simp) _
  have hB' := hide hB
  clear hB
  by_cases e1 : p1 = c1
  · by_cases e2 : c1 = 0
    · subst e1 e2
      go_enter Tryz.func151, Tryz.ntmps151
      go_wp2_with fail
      refine (gap_any 0 c2 c3 true _ rfl).mono ?_
      rintro e w1 ⟨rfl, hb⟩
      go_wp2
      go_ret
      exact ⟨ret_bool (by simp), laterB (unhide hB') hb⟩
    · subst e1
      have e2' : decide (p1 = 0) = false := by simpa using e2
      go_enter Tryz.func151, Tryz.ntmps151
      go_wp2_with fail
      refine (gap_any p1 c2 c3 false _ e2').mono ?_
      rintro e w1 ⟨rfl, hb⟩
      obtain ⟨B1, B2⟩ := bcell hb
      go_wp2
      go_ret
      exact ⟨ret_bool (by rw [Bool.eq_iff_iff]; simp [e2]), laterB (unhide hB') hb⟩
  · have e1' : decide (p1 = c1) = false := by simpa using e1
    go_enter Tryz.func151, Tryz.ntmps151
    go_wp2
    go_ret
    exact ⟨ret_bool (by simp [e1']), unhide hB'⟩

theorem bd_last {l o : List Kl} {p : Kl} {k : Nat} (h : AOk l) (hk : k ≤ l.length) (he : join (l.take k) = o ++ [p]) : 0 ≤ p.2.1 ∧ p.2.1 ≤ 10000000 ∧ 0 ≤ p.2.2 ∧ p.2.2 ≤ k * 10000000 := by
  have := bd_join h k hk p (by rw [he]; simp)
  obtain ⟨_, _, b1, b2, b3, b4⟩ := this
  exact ⟨b1, b2, by omega, b4⟩

/-- what the loop holds -/
def JR (w : World) (l : List Kl) (k : Nat) (wr : World) (g c : Nat) : Prop := w.heap.size ≤ g ∧ Own wr w.heap.size g (join (l.take k)).length c (join (l.take k)) ∧ Below w.heap.size w wr

theorem jr_last {w X : World} {l o : List Kl} {p : Kl} {k m g cp : Nat} {n : Int} (hjt : join (l.take (k + 1)) = o ++ [(p.1, p.2.1, p.2.2 + n)]) (hm : m = o.length) (hg0 : w.heap.size ≤ g) (hown : Own X w.heap.size g (m + 1) cp (o ++ [p])) (hXw : Below w.heap.size w X) (q : Nat) :
    JR w l (k + 1) ((X.drewN q).setCell ⟨g, m * 3 + 2, none⟩ (.int .i64 (p.2.2 + n))) g cp := by
  have h1 : Own (X.drewN q) w.heap.size g (m + 1) cp (o ++ [p]) := hown
  have h2 := own_last h1 (p.2.2 + n)
  subst hm
  refine ⟨hg0, ?_, (below_drewN hXw _).setCell hg0 _⟩
  rw [hjt]
  have e : (o ++ [(p.1, p.2.1, p.2.2 + n)]).length = o.length + 1 := by simp
  rw [e]
  exact h2

theorem jr_app {w w' : World} {l o : List Kl} {p c : Kl} {k m g cp : Nat} (hjt : join (l.take (k + 1)) = o ++ [p] ++ [c]) (hm : m = o.length) (hg0 : w.heap.size ≤ g) (hown : Own w' w.heap.size g (m + 1 + 1) cp (o ++ [p, c])) (hXw : Below w.heap.size w w') : JR w l (k + 1) w' g cp := by
  subst hm
  have e : o ++ [p] ++ [c] = o ++ [p, c] := by simp
  have e2 : (o ++ [p, c]).length = o.length + 1 + 1 := by simp
  refine ⟨hg0, ?_, hXw⟩
  rw [hjt, e, e2]
  exact hown

set_option maxHeartbeats 3200000 in
theorem sjoin_any (a : Option Addr) (cap : Nat) (l : List Kl) (w : World) (hl : l.length ≤ 1000) (hA : AOk l) (hk : Kls w a l) :
    Calls Tryz.prog 98 #[.slice a l.length cap] w fun e w' => ∃ g c, e = .returned (.slice (some ⟨g, 0, none⟩) (join l).length c) ∧ w.heap.size ≤ g ∧ Own w' w.heap.size g (join l).length c (join l) ∧ Below w.heap.size w w' := by
  have hk' := hide hk
  have hA' := hide hA
  clear hk hA
  have h0 := hide (show JR w l 0 (w.alloc (.cells #[] 94)) w.heap.size 0 from ⟨Nat.le_refl _, own_lit0 w (Nat.le_refl _), (Below.refl _ _).alloc (Nat.le_refl _) _⟩)
  go_enter Tryz.func98, Tryz.ntmps98
  go_wp2
  go_loopw [3, 4] (fun s t wr => ∃ k g c : Nat, k ≤ l.length ∧ t = .int .i64 k ∧ s = .slice (some ⟨g, 0, none⟩) (join (l.take k)).length c ∧ Hid (JR w l k wr g c)) (fun _ t _ => l.length - (intOf t).toNat)
  case atStart => exact ⟨0, w.heap.size, 0, by omega, rfl, rfl, h0⟩
  case round =>
    clear h0
    obtain ⟨k, g, cp, hk, rfl, rfl, hJ⟩ := hrel
    by_cases hlt : k < l.length
    · obtain ⟨b, o', s, i, n, rfl, hx, c0, c1, c2⟩ := kls_at (unhide hk') (unhide hJ).2.2 hlt
      have hcA := (unhide hA') _ (List.mem_of_getElem? hx)
      have hjt := hide (join_take hx)
      have hx' := hide hx
      clear hx
      obtain ⟨X, hX⟩ : ∃ X, X = wr.alloc (.cells #[.int .i64 s, .int .i64 i, .int .i64 n] 94) := ⟨_, rfl⟩
      have d0 : X.cell? ⟨wr.heap.size, 0, none⟩ = some (.int .i64 s) := by rw [hX]; simp [go_sem]
      have d1 : X.cell? ⟨wr.heap.size, 1, none⟩ = some (.int .i64 i) := by rw [hX]; simp [go_sem]
      have d2 : X.cell? ⟨wr.heap.size, 2, none⟩ = some (.int .i64 n) := by rw [hX]; simp [go_sem]
      have hXb : Below wr.heap.size wr X := by rw [hX]; exact (Below.refl _ _).alloc (Nat.le_refl _) _
      have hXs : X.heap.size = wr.heap.size + 1 := by rw [hX]; simp
      have hown := hide (ownsRow_below (unhide hJ).2.1 hXb)
      have hXw := hide (laterB (unhide hJ).2.2 hXb)
      have hg0 := (unhide hJ).1
      have hglt : g < wr.heap.size := own_lt (unhide hJ).2.1
      have hX' := hide hX
      clear hJ hXb hX
      rcases List.eq_nil_or_concat (join (l.take k)) with he | ⟨o, p, he⟩
      · rw [he] at hown hjt ⊢
        rw [jstep_nil] at hjt
        go_wp2_with fail
        rw [← unhide hX']
        go_quiet (fail)
        go_wp2_with (at_builtin; refine wpList_kN Tryz.underlying36 (B := w.heap.size) (g := g) (n := 0) (cap := cp) (L := []) rfl _ _ rfl rfl (unhide hown) (hX := by first | exact Below.refl X.heap.size X | exact below_drewN (Below.refl X.heap.size X) _) (by omega) (wr.heap.size + 1) (by first | exact hXs | simp [hXs]) rfl (by omega) (by omega) (by omega) ?_)
        intro g' cap' w' hown' hbel' hg' hlt'
        have hJ' := hide (show JR w l (k + 1) w' g' cap' from ⟨hg', by rw [unhide hjt]; exact hown', (unhide hXw).trans hbel'⟩)
        have hsl := hide (show (join (l.take (k + 1))).length = 1 by rw [unhide hjt]; rfl)
        clear hown' hbel' hown hXw
        go_wp2
        go_roundw
        case rel => exact ⟨k + 1, g', cap', by omega, by go_num, by rw [unhide hsl], hJ'⟩
        case measure => simp [intOf]; omega
      · rw [List.concat_eq_append] at he
        obtain ⟨q1, q2, q3, q4⟩ := bd_last (unhide hA') hk he
        obtain ⟨p1, p2, p3⟩ := p
        have hlen : (join (l.take k)).length = o.length + 1 := by rw [he]; simp
        have hmk : o.length + 1 ≤ 1000 := by have := len_join (l.take k); rw [List.length_take] at this; omega
        rw [hlen] at hown ⊢
        rw [he] at hown hjt
        rw [jstep_snoc] at hjt
        obtain ⟨x0, x1, x2⟩ := own_cells (last_get o (p1, p2, p3)) (unhide hown)
        have f2 := (unhide hown).frozenAt (o.length * 3 + 2)
        obtain ⟨m, hm⟩ : ∃ m, m = o.length := ⟨_, rfl⟩
        rw [← hm] at hown x0 x1 x2 f2 hmk ⊢
        have hm' := hide hm
        clear hm hlen he
        have hq : Hid ((0 : Int) ≤ p2 ∧ p2 ≤ 10000000 ∧ 0 ≤ p3 ∧ p3 ≤ k * 10000000) := hide ⟨q1, q2, q3, q4⟩
        by_cases hgo : goes (p1, p2, p3) (s, i, n)
        · rw [if_pos hgo] at hjt
          have hsl := hide (show (join (l.take (k + 1))).length = m + 1 by rw [unhide hjt]; simp [unhide hm'])
          have n0 := hcA.1
          have n1 := hcA.2.1
          simp only at n0 n1 hjt
          obtain ⟨g1, g2⟩ := hgo
          simp only at g1 g2
          subst g1
          by_cases g3 : p1 = 0
          · subst g3
            clear g2
            go_wp2_with fail
            rw [← unhide hX']
            go_quiet (fail)
            go_wp2_with fail
            go_region
            go_wp2
            go_roundw
            case rel => exact ⟨k + 1, g, cp, by omega, by go_num, by rw [unhide hsl], hide (jr_last (unhide hjt) (unhide hm') hg0 (unhide hown) (unhide hXw) _)⟩
            case measure => simp [intOf]; omega
          · have g4 : p2 + p3 = i := by rcases g2 with g2 | g2; exact absurd g2 g3; exact g2
            have g3' : (p1 == 0) = false := by simpa using g3
            have g5 : (p2 + p3 == i) = true := by simpa using g4
            clear g2 g3 g4
            go_wp2_with fail
            rw [← unhide hX']
            go_quiet (fail)
            go_wp2_with fail
            go_region
            go_wp2
            go_roundw
            case rel => exact ⟨k + 1, g, cp, by omega, by go_num, by rw [unhide hsl], hide (jr_last (unhide hjt) (unhide hm') hg0 (unhide hown) (unhide hXw) _)⟩
            case measure => simp [intOf]; omega
        · rw [if_neg hgo] at hjt
          have hgo' : ¬ (p1 = s ∧ (s = 0 ∨ p2 + p3 = i)) := hgo
          clear hgo
          by_cases g1 : p1 = s
          · subst g1
            have g3 : (p1 == 0) = false := by simp; intro h; exact hgo' ⟨rfl, Or.inl h⟩
            have g5 : (p2 + p3 == i) = false := by simp; intro h; exact hgo' ⟨rfl, Or.inr h⟩
            clear hgo'
            go_wp2_with fail
            rw [← unhide hX']
            go_quiet (fail)
            go_wp2_with (at_builtin; refine wpList_kN Tryz.underlying36 (B := w.heap.size) (g := g) (n := m + 1) (cap := cp) (L := o ++ [(p1, p2, p3)]) rfl _ _ rfl rfl (unhide hown) (hX := by first | exact Below.refl X.heap.size X | exact below_drewN (Below.refl X.heap.size X) _) (by omega) (wr.heap.size + 1) (by first | exact hXs | simp [hXs]) rfl (by omega) (by omega) (by omega) ?_)
            intro g' cap' w' hown' hbel' hg' hlt'
            have hJ' := hide (show JR w l (k + 1) w' g' cap' from jr_app (unhide hjt) (unhide hm') hg' (by first | exact hown' | (rw [List.append_assoc] at hown'; exact hown')) ((unhide hXw).trans hbel'))
            have hsl := hide (show (join (l.take (k + 1))).length = m + 1 + 1 by rw [unhide hjt]; simp [unhide hm'])
            clear hown' hbel' hown hXw
            go_wp2
            go_roundw
            case rel => exact ⟨k + 1, g', cap', by omega, by go_num, by rw [unhide hsl], hJ'⟩
            case measure => simp [intOf]; omega
          · have g1' : (p1 == s) = false := by simpa using g1
            clear hgo' g1
            go_wp2_with fail
            rw [← unhide hX']
            go_quiet (fail)
            go_wp2_with (at_builtin; refine wpList_kN Tryz.underlying36 (B := w.heap.size) (g := g) (n := m + 1) (cap := cp) (L := o ++ [(p1, p2, p3)]) rfl _ _ rfl rfl (unhide hown) (hX := by first | exact Below.refl X.heap.size X | exact below_drewN (Below.refl X.heap.size X) _) (by omega) (wr.heap.size + 1) (by first | exact hXs | simp [hXs]) rfl (by omega) (by omega) (by omega) ?_)
            intro g' cap' w' hown' hbel' hg' hlt'
            have hJ' := hide (show JR w l (k + 1) w' g' cap' from jr_app (unhide hjt) (unhide hm') hg' (by first | exact hown' | (rw [List.append_assoc] at hown'; exact hown')) ((unhide hXw).trans hbel'))
            have hsl := hide (show (join (l.take (k + 1))).length = m + 1 + 1 by rw [unhide hjt]; simp [unhide hm'])
            clear hown' hbel' hown hXw
            go_wp2
            go_roundw
            case rel => exact ⟨k + 1, g', cap', by omega, by go_num, by rw [unhide hsl], hJ'⟩
            case measure => simp [intOf]; omega
    · have hke : k = l.length := by omega
      have hlj := hide (show join (l.take k) = join l by rw [hke, List.take_length])
      rw [unhide hlj]
      have hJ2 : Hid (w.heap.size ≤ g ∧ Own wr w.heap.size g (join l).length cp (join l) ∧ Below w.heap.size w wr) := hide (by have := unhide hJ; unfold JR at this; rw [unhide hlj] at this; exact this)
      clear hJ
      go_wp2
      go_ret
      exact ⟨g, cp, rfl, (unhide hJ2).1, (unhide hJ2).2.1, (unhide hJ2).2.2⟩
end Go.Proofs.YtioaehjppiodfaaGreatDoor
