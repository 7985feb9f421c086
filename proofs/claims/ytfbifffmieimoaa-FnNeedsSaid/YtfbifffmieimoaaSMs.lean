/-
  What is missing by the model: the function and its contract.
-/
import Derived.Test.YtfbifffmieimoaaICv
namespace Go.Proofs.Ytfbifffmieimoaa.Rl
open Go.RowKit
open Go.Proofs.Ytfbifffmieimoaa
set_option linter.unusedVariables false
set_option linter.unusedSimpArgs false

theorem step_kR {T : TypeId} (hT : Try.prog.underlying T = some (.slice 34)) {ops : Array Oper} {o : Oper} {a : Act} {K : Act → World → Prop} {Q : Exit → Act → World → Prop} {E' : Prop} (w : World) (hgd : o.guard = none) (s x : Operand) (ho : o.op = .call { callee := .builtin .append, args := #[s, x], argTypes := #[T, T] })
    (B g n cap : Nat) (L : List Kl) (v : Kl) (hs : a.eval s = .slice (some ⟨g, 0, none⟩) n cap) (hown : Own w B g n cap L) (E : Nat) (hx : a.eval x = .slice (some ⟨E, 0, none⟩) 1 1)
    (hblk : w.heap[E]? = some (.cells #[.int .i64 v.1, .int .i64 v.2.1, .int .i64 v.2.2] 34 (0, 0))) (hl : n ≤ 1000000) (hB : B ≤ w.heap.size)
    (h : ∀ g' cap' w', Own w' B g' (n + 1) cap' (L ++ [v]) → w.grownBy w' (some g) → (g' = g ∨ g' = w.heap.size) → K (a.put o.dst (.slice (some ⟨g', 0, none⟩) (n + 1) cap')) w') :
    if Region.wanted o (yielded ops a.tmps) = true then Oper.wp Try.prog o a w K Q else E' := by
  obtain ⟨i0, hi, hz0, hz1, hz2⟩ := info_parts info44
  refine step_append_lies w hgd s x T ho B 34 i0 (.agg #[.int .i64 0, .int .i64 0, .int .i64 0]) 3 24 hT hi hz0 hz1 hz2 rfl (by decide) _ n (flK L) hs hown ⟨E, 0, none⟩ 1 1 [iv v.1, iv v.2.1, iv v.2.2] hx rfl (K_news hblk) (by intro u hu; simp at hu; rcases hu with rfl | rfl | rfl <;> rfl) (by decide) (by unfold maxLen; omega) (by omega) hB w.heap.size rfl ?_
  intro g' cap' w' h1 h2 h3 h4
  exact h g' cap' w' (by show World.ownsRow _ _ _ _ _ _ _; rw [flK_append]; exact h1) (by simpa [Value.ownBlock] using h2) (Or.imp (fun h3 => by simp [Value.ownBlock] at h3; exact h3.symm) id h3)
theorem alloc_newR (w : World) (o : Obj) : (w.drew.alloc o).heap[w.heap.size]? = some o := heap_alloc_new w.drew o
theorem kls_cell {w5 W : World} {b g0 k : Nat} {l : List Kl} {x : Kl} (hK : Kls w5 (some ⟨b, 0, none⟩) l) (hx : l[k]? = some x) (hG : w5.grownBy W (some g0)) (hb : b < w5.heap.size) (hne : b ≠ g0) :
    W.cell? ⟨b, k * 3, none⟩ = some (.int .i64 x.1) ∧ W.cell? ⟨b, k * 3 + 1, none⟩ = some (.int .i64 x.2.1) ∧ W.cell? ⟨b, k * 3 + 2, none⟩ = some (.int .i64 x.2.2) := by
  have hk := kls_keep hK (hG.block b hb (by intro e; injection e with e; exact hne e)) hG.size
  obtain ⟨b', o', e, i1, c0, c1, c2⟩ := hk k x hx
  injection e with e
  injection e with e1 e2
  subst e1 e2
  rw [Nat.zero_add] at c0 c1 c2
  exact ⟨c0, c1, c2⟩
theorem grown_drewN {w w1 : World} {g : Nat} (h : w.grownBy w1 (some g)) (n : Nat) : w.grownBy (w1.drewN n) (some g) := ⟨h.os, h.tape, h.output, h.size, h.block⟩
theorem mis_bd {A D L : List Kl} {x : Kl} {i k : Nat} {f : Int} (h1 : A.length ≤ 300) (h2 : D.length ≤ 300) (hi : i ≤ A.length) (h : missG (A.take i) D ++ wo x.1 x.2.2 x.2.1 D = L ++ wo x.1 x.2.2 f (D.drop k)) : L.length ≤ 200000 := by
  have e := congrArg List.length h
  rw [List.length_append, List.length_append] at e
  have h3 := missG_bd (k := i) h1 h2 hi
  have h4 := wo_len x.1 x.2.2 x.2.1 D
  omega

set_option maxRecDepth 100000 in
set_option maxHeartbeats 6400000 in
theorem smiss_ok (a b : Option Addr) (ca cb : Nat) (l m : List Kl) (w : World) (hL : RsOk l) (hM : RsOk m) (hk : Kls w a l) (hj : Kls w b m) :
    Calls Try.prog 16 #[.slice a l.length ca, .slice b m.length cb] w fun e w' => ∃ g c, e = .returned (.slice (some ⟨g, 0, none⟩) (missing l m).length c) ∧ Own w' w.heap.size g (missing l m).length c (missing l m) ∧ Below w.heap.size w w' := by
  have n1 := hL.1
  have n2 := hM.1
  have hL' := hide hL
  have hM' := hide hM
  have hal : Below w.heap.size w (w.alloc (.cells #[] 34)) := (Below.refl _ _).alloc (Nat.le_refl _) _
  have hB0 := hide hal
  have hk' := hide (hk.below hal)
  have hj' := hide (hj.below hal)
  have hO0 := hide (own_lit0 w (B := w.heap.size) (Nat.le_refl _))
  clear hk hj hL hM hal
  go_enter Try.func16, Try.ntmps16
  go_wp2_with fail
  refine (sreels_any a ca l true _ (by unfold maxLen; omega) (unhide hk') (by simpa using unhide hL')).mono ?_
  rintro e w1 ⟨rfl, k1⟩
  have B1 := hide (laterB (unhide hB0) k1)
  have hO1 := hide (ownsRow_below (unhide hO0) k1)
  have hj1 := hide ((unhide hj').below k1)
  have hk1 := hide ((unhide hk').below k1)
  clear k1 hO0 hk' hj'
  go_wp2_with fail
  refine (sreels_any b cb m true _ (by unfold maxLen; omega) (unhide hj1) (by simpa using unhide hM')).mono ?_
  rintro e w2 ⟨rfl, k2⟩
  have B2 := hide (laterB (unhide B1) k2)
  have hO2 := hide (ownsRow_below (unhide hO1) k2)
  have hj2 := hide ((unhide hj1).below k2)
  have hk2 := hide ((unhide hk1).below k2)
  clear k2 hO1 hk1 hj1 B1
  go_wp2_with fail
  refine (stell_any a ca l _ (by omega) (unhide hk2)).mono ?_
  rintro e w4 ⟨ga, ca4, rfl, hOA, k4⟩
  have B4 := hide (laterB (unhide B2) k4)
  have hO4 := hide (ownsRow_below (unhide hO2) k4)
  have hj4 := hide ((unhide hj2).below k4)
  have hga := own_lt hOA
  have hA4 := hide (kls_own hOA)
  have hne2 : ga ≠ w.heap.size := by have h1 := own_ge hOA; have h2 := own_lt (unhide hO2); omega
  clear hOA k4 B2 hO2 hj2 hk2
  go_wp2_with fail
  refine (stell_any b cb m _ (by omega) (unhide hj4)).mono ?_
  rintro e w5 ⟨gb, cb4, rfl, hOB, k5⟩
  have B5 := hide (laterB (unhide B4) k5)
  have hO35 := hide (ownsRow_below (unhide hO4) k5)
  have hA5 := hide ((unhide hA4).below k5)
  have hT5 := hide (kls_own hOB)
  have hgb5 := own_lt hOB
  have hga5 : ga < w5.heap.size := Nat.lt_of_lt_of_le hga k5.size
  have hne : gb ≠ w.heap.size := by have h1 := own_ge hOB; have h2 := own_lt (unhide hO4); omega
  have l1 : (told l).length ≤ 300 := Nat.le_trans (told_len l) n1
  have l2 : (told m).length ≤ 300 := Nat.le_trans (told_len m) n2
  have hfin : Hid (missing l m = missG ((told l).take (told l).length) (told m)) := hide (by rw [List.take_length]; rfl)
  have hw5 : w.heap.size ≤ w5.heap.size := (unhide B5).size
  clear hOB k5 B4 hO4 hj4 hA4 hga
  obtain ⟨R, hR0⟩ : ∃ R, R = missing l m := ⟨_, rfl⟩
  rw [← hR0] at hfin
  have hR0' := hide hR0
  clear hR0
  generalize told l = A at *
  generalize told m = D at *
  have h0 : Hid (Own w5 w.heap.size w.heap.size (missG (A.take 0) D).length 0 (missG (A.take 0) D)) := hide (by simpa [missG] using unhide hO35)
  obtain ⟨g0, hg00⟩ : ∃ g0, g0 = w.heap.size := ⟨_, rfl⟩
  have hlim : w.heap.size ≤ g0 := by omega
  rw [← hg00] at hne hne2
  go_wp2
  go_loopw [5, 8] (fun s t wr => ∃ i g c : Nat, i ≤ A.length ∧ t = .int .i64 i ∧ s = .slice (some ⟨g, 0, none⟩) (missG (A.take i) D).length c ∧ Hid (Own wr w.heap.size g (missG (A.take i) D).length c (missG (A.take i) D)) ∧ Hid (w5.grownBy wr (some g0)) ∧ Hid (g = g0 ∨ w5.heap.size ≤ g)) (fun _ t _ => A.length - (intOf t).toNat)
  case atStart => exact ⟨0, w.heap.size, 0, by omega, rfl, by simp [missG], h0, hide (grown_refl _ _), hide (Or.inl hg00.symm)⟩
  case round =>
    clear h0
    obtain ⟨i, g, cp, hi, rfl, rfl, hO, hG, hg0⟩ := hrel
    by_cases hlt : i < A.length
    · obtain ⟨x, hx⟩ : ∃ x, A[i]? = some x := ⟨A[i], List.getElem?_eq_getElem hlt⟩
      have CA := hide (fun W (h : w5.grownBy W (some g0)) => kls_cell (unhide hA5) hx h hga5 hne2)
      have hmo := hide (wo_more (m := D) hx)
      have hbd0 := hide (fun (L : List Kl) (k : Nat) (f : Int) h => mis_bd (L := L) (k := k) (f := f) (x := x) l1 l2 hi h)
      obtain ⟨x1, x2, x3⟩ := x
      simp only [] at CA hmo hbd0
      obtain ⟨p0, p1, p2⟩ := unhide CA _ (unhide hG)
      clear hx
      have hin : Hid (missG (A.take i) D ++ wo x1 x3 x2 D = missG (A.take i) D ++ wo x1 x3 x2 (D.drop 0)) := hide (by simp)
      generalize missG (A.take i) D = L0 at *
      go_wp2
      go_loopw [5, 9, 10] (fun s v t wr => ∃ (k g c : Nat) (f : Int) (L : List Kl), k ≤ D.length ∧ t = .int .i64 k ∧ v = .int .i64 f ∧ s = .slice (some ⟨g, 0, none⟩) L.length c ∧ Hid (Own wr w.heap.size g L.length c L) ∧ Hid (w5.grownBy wr (some g0)) ∧ Hid (g = g0 ∨ w5.heap.size ≤ g) ∧ Hid (L0 ++ wo x1 x3 x2 D = L ++ wo x1 x3 f (D.drop k))) (fun _ _ t _ => D.length - (intOf t).toNat)
      case atStart => exact ⟨0, g, cp, x2, L0, by omega, rfl, rfl, rfl, hO, hG, hg0, hin⟩
      case round =>
        clear hO hG hg0 hin p0 p1 p2
        obtain ⟨k, g, cp, f, L, hkd, rfl, rfl, rfl, hO, hG, hg0, hE⟩ := hrel
        obtain ⟨p0, p1, p2⟩ := unhide CA _ (unhide hG)
        have hbd := unhide hbd0 L k f (unhide hE)
        have hglt : g < wr.heap.size := own_lt (unhide hO)
        have hng1 : ga ≠ g := by have := unhide hg0; omega
        have hng2 : gb ≠ g := by have := unhide hg0; omega
        have hwr : w5.heap.size ≤ wr.heap.size := (unhide hG).size
        by_cases hltk : k < D.length
        · obtain ⟨h, hh⟩ : ∃ h, D[k]? = some h := ⟨D[k], List.getElem?_eq_getElem hltk⟩
          have CD := hide (fun W (h : w5.grownBy W (some g0)) => kls_cell (unhide hT5) hh h hgb5 hne)
          have hdr := hide (wo_drop (x1 := x1) (x3 := x3) (f := f) hh)
          obtain ⟨s, q, n⟩ := h
          simp only [] at CD
          obtain ⟨d0, d1, d2⟩ := unhide CD _ (unhide hG)
          clear hh
          by_cases hskip : s ≠ x1 ∨ n ≤ f ∨ x3 ≤ q
          · have hE' := hide (show L0 ++ wo x1 x3 x2 D = L ++ wo x1 x3 f (D.drop (k + 1)) by rw [unhide hE, unhide hdr, wo_skip hskip])
            have hq := hide hskip
            clear hE hdr hskip
            by_cases h1 : s = x1
            · have b1 : (s != x1) = false := by simp [h1]
              by_cases h2 : n ≤ f
              · have b2 : decide (n ≤ f) = true := by simpa using h2
                have h1' := hide h1
                clear h1 h2
                go_wp2_with fail
                go_quiet (fail)
                go_wp2
                go_roundw
                case rel => exact ⟨k + 1, g, cp, f, L, by omega, by go_num, rfl, rfl, hide (unhide hO), hide (grown_drewN (unhide hG) _), hg0, hE'⟩
                case measure => simp [intOf]; omega
              · have b2 : decide (n ≤ f) = false := by simpa using h2
                have h3 : x3 ≤ q := by rcases unhide hq with h | h | h; exact absurd h1 h; exact absurd h h2; exact h
                have b3 : decide (x3 ≤ q) = true := by simpa using h3
                have h1' := hide h1
                clear h1 h2 h3
                go_wp2_with fail
                go_quiet (fail)
                go_wp2
                go_roundw
                case rel => exact ⟨k + 1, g, cp, f, L, by omega, by go_num, rfl, rfl, hide (unhide hO), hide (grown_drewN (unhide hG) _), hg0, hE'⟩
                case measure => simp [intOf]; omega
            · have b1 : (s != x1) = true := by simp [h1]
              clear h1
              go_wp2_with fail
              go_quiet (fail)
              go_wp2
              go_roundw
              case rel => exact ⟨k + 1, g, cp, f, L, by omega, by go_num, rfl, rfl, hide (unhide hO), hide (grown_drewN (unhide hG) _), hg0, hE'⟩
              case measure => simp [intOf]; omega
          · have hT := hide (show L0 ++ wo x1 x3 x2 D = L ++ ((if f < q then [(x1, f, q)] else []) ++ wo x1 x3 n (D.drop (k + 1))) by rw [unhide hE, unhide hdr, wo_take hskip])
            have h1 : s = x1 := by omega
            have b1 : (s != x1) = false := by simp [h1]
            have b2 : decide (n ≤ f) = false := by simp; omega
            have b3 : decide (x3 ≤ q) = false := by simp; omega
            have h1' := hide h1
            clear hE hdr h1 hskip
            by_cases h4 : f < q
            · have hE' := hide (show L0 ++ wo x1 x3 x2 D = (L ++ [(x1, f, q)]) ++ wo x1 x3 n (D.drop (k + 1)) by rw [unhide hT, if_pos h4]; simp)
              have b4 : decide (f < q) = true := by simpa using h4
              clear hT h4
              go_wp2_with fail
              go_quiet (fail)
              go_wp2_with fail
              obtain ⟨WQ, hWQ⟩ : ∃ WQ, WQ = wr.drewN nq := ⟨_, rfl⟩
              have hOW : Hid (Own WQ w.heap.size g L.length cp L) := by rw [hWQ]; exact hide (unhide hO)
              have hGW : Hid (w5.grownBy WQ (some g0)) := by rw [hWQ]; exact hide (grown_drewN (unhide hG) _)
              have hc1 : WQ.cell? ⟨ga, i * 3, none⟩ = some (.int .i64 x1) := by rw [hWQ]; exact p0
              have hc2 : WQ.cell? ⟨gb, k * 3 + 1, none⟩ = some (.int .i64 q) := by rw [hWQ]; exact d1
              have hwW : w.heap.size ≤ WQ.heap.size := by rw [hWQ]; show w.heap.size ≤ wr.heap.size; omega
              rw [← hWQ]
              clear hWQ hO hG p0 p1 p2 d0 d1 d2
              refine wp_region_noPanic ?_
              refine wp_region_held_drew (S := fun w' => w'.cell? ⟨ga, i * 3, none⟩ = some (.int .i64 x1) ∧ w'.cell? ⟨gb, k * 3 + 1, none⟩ = some (.int .i64 q)) (by kernel_rfl) ?_ (fun hH0 => ?_)
              · exact ⟨hc1, hc2⟩
              refine wpAnyH_take (i := 0) (oi := { dst := some 82, op := Go.Op.move (Go.Operand.tmp 5), type := 27, pos := _, after := #[], guard := none }) (v := ?_) rfl (by kernel_rfl) (by kernel_rfl) (by kernel_rfl) (fun _ _ _ h => h) (Or.inl ⟨by rfl, ?_⟩) hH0 ?_
              rotate_left
              · (intro w hSw; (try dsimp only at hSw); go_simp <;> with_reducible rfl)
              (try simp only [Act.put, List.setIfInBounds_toArray, List.set_cons_zero, List.set_cons_succ])
              refine wpAnyH_take (i := 1) (oi := { dst := some 83, op := Go.Op.move (Go.Operand.tmp 6), type := 27, pos := _, after := #[], guard := none }) (v := ?_) rfl (by kernel_rfl) (by kernel_rfl) (by kernel_rfl) (fun _ _ _ h => h) (Or.inl ⟨by rfl, ?_⟩) hH0 ?_
              rotate_left
              · (intro w hSw; (try dsimp only at hSw); go_simp <;> with_reducible rfl)
              (try simp only [Act.put, List.setIfInBounds_toArray, List.set_cons_zero, List.set_cons_succ])
              refine wpAnyH_take (i := 2) (oi := { dst := some 84, op := Go.Op.move (Go.Operand.tmp 8), type := 3, pos := _, after := #[], guard := none }) (v := ?_) rfl (by kernel_rfl) (by kernel_rfl) (by kernel_rfl) (fun _ _ _ h => h) (Or.inl ⟨by rfl, ?_⟩) hH0 ?_
              rotate_left
              · (intro w hSw; (try dsimp only at hSw); go_simp <;> with_reducible rfl)
              (try simp only [Act.put, List.setIfInBounds_toArray, List.set_cons_zero, List.set_cons_succ])
              refine wpAnyH_take (i := 3) (oi := { dst := some 85, op := Go.Op.indexAddr 27 (Go.Operand.tmp 83) (Go.Operand.tmp 84), type := 0, pos := _, after := #[{ on := 1, ground := Go.Ground.data }, { on := 2, ground := Go.Ground.data }], guard := none }) (v := ?_) rfl (by kernel_rfl) (by kernel_rfl) (by kernel_rfl) (fun _ _ _ h => h) (Or.inl ⟨by rfl, ?_⟩) hH0 ?_
              rotate_left
              · (intro w hSw; (try dsimp only at hSw); go_simp <;> with_reducible rfl)
              (try simp only [Act.put, List.setIfInBounds_toArray, List.set_cons_zero, List.set_cons_succ])
              refine wpAnyH_take (i := 4) (oi := { dst := some 86, op := Go.Op.fieldAddr 34 (Go.Operand.tmp 85) 0, type := 0, pos := _, after := #[{ on := 3, ground := Go.Ground.data }], guard := none }) (v := ?_) rfl (by kernel_rfl) (by kernel_rfl) (by kernel_rfl) (fun _ _ _ h => h) (Or.inl ⟨by rfl, ?_⟩) hH0 ?_
              rotate_left
              · (intro w hSw; (try dsimp only at hSw); go_simp <;> with_reducible rfl)
              (try simp only [Act.put, List.setIfInBounds_toArray, List.set_cons_zero, List.set_cons_succ])
              refine wpAnyH_take (i := 5) (oi := { dst := some 87, op := Go.Op.load 2 (Go.Operand.tmp 86), type := 2, pos := _, after := #[{ on := 4, ground := Go.Ground.data }], guard := none }) (v := ?_) rfl (by kernel_rfl) (by kernel_rfl) (by kernel_rfl) (fun _ _ _ h => h) (Or.inl ⟨by rfl, ?_⟩) hH0 ?_
              rotate_left
              · (intro w hSw; (try dsimp only at hSw); go_simp <;> with_reducible rfl)
              (try simp only [Act.put, List.setIfInBounds_toArray, List.set_cons_zero, List.set_cons_succ])
              refine wpAnyH_take (i := 6) (oi := { dst := some 88, op := Go.Op.move (Go.Operand.tmp 9), type := 2, pos := _, after := #[], guard := none }) (v := ?_) rfl (by kernel_rfl) (by kernel_rfl) (by kernel_rfl) (fun _ _ _ h => h) (Or.inl ⟨by rfl, ?_⟩) hH0 ?_
              rotate_left
              · (intro w hSw; (try dsimp only at hSw); go_simp <;> with_reducible rfl)
              (try simp only [Act.put, List.setIfInBounds_toArray, List.set_cons_zero, List.set_cons_succ])
              refine wpAnyH_take (i := 7) (oi := { dst := some 89, op := Go.Op.move (Go.Operand.tmp 7), type := 27, pos := _, after := #[], guard := none }) (v := ?_) rfl (by kernel_rfl) (by kernel_rfl) (by kernel_rfl) (fun _ _ _ h => h) (Or.inl ⟨by rfl, ?_⟩) hH0 ?_
              rotate_left
              · (intro w hSw; (try dsimp only at hSw); go_simp <;> with_reducible rfl)
              (try simp only [Act.put, List.setIfInBounds_toArray, List.set_cons_zero, List.set_cons_succ])
              refine wpAnyH_take (i := 8) (oi := { dst := some 90, op := Go.Op.move (Go.Operand.tmp 10), type := 3, pos := _, after := #[], guard := none }) (v := ?_) rfl (by kernel_rfl) (by kernel_rfl) (by kernel_rfl) (fun _ _ _ h => h) (Or.inl ⟨by rfl, ?_⟩) hH0 ?_
              rotate_left
              · (intro w hSw; (try dsimp only at hSw); go_simp <;> with_reducible rfl)
              (try simp only [Act.put, List.setIfInBounds_toArray, List.set_cons_zero, List.set_cons_succ])
              refine wpAnyH_take (i := 9) (oi := { dst := some 91, op := Go.Op.indexAddr 27 (Go.Operand.tmp 89) (Go.Operand.tmp 90), type := 0, pos := _, after := #[{ on := 7, ground := Go.Ground.data }, { on := 8, ground := Go.Ground.data }], guard := none }) (v := ?_) rfl (by kernel_rfl) (by kernel_rfl) (by kernel_rfl) (fun _ _ _ h => h) (Or.inl ⟨by rfl, ?_⟩) hH0 ?_
              rotate_left
              · (intro w hSw; (try dsimp only at hSw); go_simp <;> with_reducible rfl)
              (try simp only [Act.put, List.setIfInBounds_toArray, List.set_cons_zero, List.set_cons_succ])
              refine wpAnyH_take (i := 10) (oi := { dst := some 92, op := Go.Op.fieldAddr 34 (Go.Operand.tmp 91) 1, type := 0, pos := _, after := #[{ on := 9, ground := Go.Ground.data }], guard := none }) (v := ?_) rfl (by kernel_rfl) (by kernel_rfl) (by kernel_rfl) (fun _ _ _ h => h) (Or.inl ⟨by rfl, ?_⟩) hH0 ?_
              rotate_left
              · (intro w hSw; (try dsimp only at hSw); go_simp <;> with_reducible rfl)
              (try simp only [Act.put, List.setIfInBounds_toArray, List.set_cons_zero, List.set_cons_succ])
              refine wpAnyH_take (i := 11) (oi := { dst := some 93, op := Go.Op.load 2 (Go.Operand.tmp 92), type := 2, pos := _, after := #[{ on := 10, ground := Go.Ground.data }], guard := none }) (v := ?_) rfl (by kernel_rfl) (by kernel_rfl) (by kernel_rfl) (fun _ _ _ h => h) (Or.inl ⟨by rfl, ?_⟩) hH0 ?_
              rotate_left
              · (intro w hSw; (try dsimp only at hSw); go_simp <;> with_reducible rfl)
              (try simp only [Act.put, List.setIfInBounds_toArray, List.set_cons_zero, List.set_cons_succ])
              refine wpAnyH_take (i := 12) (oi := { dst := some 94, op := Go.Op.build 34 #[(0, Go.Operand.tmp 87), (1, Go.Operand.tmp 88), (2, Go.Operand.tmp 93)], type := 34, pos := _, after := #[{ on := 5, ground := Go.Ground.data }, { on := 6, ground := Go.Ground.data }, { on := 11, ground := Go.Ground.data }], guard := none }) (v := ?_) rfl (by kernel_rfl) (by kernel_rfl) (by kernel_rfl) (fun _ _ _ h => h) (Or.inl ⟨by rfl, ?_⟩) hH0 ?_
              rotate_left
              · (intro w hSw; (try dsimp only at hSw); go_simp <;> with_reducible rfl)
              (try simp only [Act.put, List.setIfInBounds_toArray, List.set_cons_zero, List.set_cons_succ])
              refine wpAnyH_ready (rs := [13]) (by kernel_rfl) (by simp) ?_
              refine AllReadyH.cons (o := { dst := some 95, op := Go.Op.buildSlice 27 1 #[(0, Go.Operand.tmp 94)], type := 27, pos := _, after := #[{ on := 12, ground := Go.Ground.data }], guard := none }) rfl (fun K hK => ?_) AllReadyH.nil
              go_simp
              refine hK.out _ _ ?_ (fun hH1 => ?_)
              · exact ⟨cell_later ((Below.refl _ _).alloc (Nat.le_refl _) _) hH0.1, cell_later ((Below.refl _ _).alloc (Nat.le_refl _) _) hH0.2⟩
              clear hK K
              (try simp only [Act.put, List.setIfInBounds_toArray, List.set_cons_zero, List.set_cons_succ])
              refine wpAnyH_ready (rs := [14]) (by kernel_rfl) (by simp) ?_
              refine AllReadyH.cons (o := { dst := some 96, op := Go.Op.call { callee := Go.Callee.builtin Go.Builtin.append, args := #[Go.Operand.tmp 82, Go.Operand.tmp 95], argTypes := #[27, 27] }, type := 27, pos := _, after := #[{ on := 0, ground := Go.Ground.data }, { on := 13, ground := Go.Ground.data }], guard := none }) rfl (fun K hK => ?_) AllReadyH.nil
              have hX : Below WQ.heap.size WQ (WQ.drew.alloc (.cells #[.int .i64 x1, .int .i64 f, .int .i64 q] 34)) := ((Below.refl WQ.heap.size WQ).drew).alloc (Nat.le_refl _) _
              have hOX := hide (ownsRow_below (unhide hOW) hX)
              refine step_kR Try.underlying27 _ rfl _ _ rfl w.heap.size g L.length cp L (x1, f, q) rfl (unhide hOX) WQ.heap.size rfl (alloc_newR WQ _) (by omega) (by show w.heap.size ≤ (WQ.heap.push _).size; rw [Array.size_push]; omega) ?_
              intro g3 c3 w3 h1 h2 h3
              have hcg : ∀ b' q' u', b' ≠ g → (WQ.drew.alloc (.cells #[.int .i64 x1, .int .i64 f, .int .i64 q] 34)).cell? ⟨b', q', none⟩ = some u' → w3.cell? ⟨b', q', none⟩ = some u' := by
                intro b' q' u' hb hu
                exact h2.cell hu (by intro e; injection e with e; exact hb e)
              refine hK.out _ _ ?_ (fun hH2 => ?_)
              · exact ⟨hcg _ _ _ hng1 hH1.1, hcg _ _ _ hng2 hH1.2⟩
              clear hK K
              (try simp only [Act.put, List.setIfInBounds_toArray, List.set_cons_zero, List.set_cons_succ])
              refine wpAnyH_take (i := 15) (oi := { dst := some 5, op := Go.Op.assign (Go.Operand.tmp 96), type := 27, pos := _, after := #[{ on := 14, ground := Go.Ground.data }, { on := 14, ground := Go.Ground.chain }, { on := 0, ground := Go.Ground.phase }, { on := 1, ground := Go.Ground.phase }, { on := 2, ground := Go.Ground.phase }, { on := 3, ground := Go.Ground.phase }, { on := 4, ground := Go.Ground.phase }, { on := 5, ground := Go.Ground.phase }, { on := 6, ground := Go.Ground.phase }, { on := 7, ground := Go.Ground.phase }, { on := 8, ground := Go.Ground.phase }, { on := 9, ground := Go.Ground.phase }, { on := 10, ground := Go.Ground.phase }, { on := 11, ground := Go.Ground.phase }, { on := 12, ground := Go.Ground.phase }, { on := 13, ground := Go.Ground.phase }, { on := 14, ground := Go.Ground.phase }], guard := none }) (v := ?_) rfl (by kernel_rfl) (by kernel_rfl) (by kernel_rfl) (fun _ _ _ h => h) (Or.inl ⟨by rfl, ?_⟩) hH2 ?_
              rotate_left
              · (intro w hSw; (try dsimp only at hSw); go_simp <;> with_reducible rfl)
              (try simp only [Act.put, List.setIfInBounds_toArray, List.set_cons_zero, List.set_cons_succ])
              refine wpAnyH_done (by kernel_rfl) ?_ _
              refine NoPanic.normal ?_
              have hG3 := hide (grown_more (grown_below (unhide hGW) hX) h2 (unhide hg0))
              have hgn : Hid (g3 = g0 ∨ w5.heap.size ≤ g3) := hide (by
                rcases h3 with h | h
                · rw [h]; exact unhide hg0
                · right; rw [h]; show w5.heap.size ≤ (WQ.heap.push _).size; rw [Array.size_push]; have h6 := (unhide hGW).size; omega)
              have h1' : Hid (Own w3 w.heap.size g3 (L ++ [(x1, f, q)]).length c3 (L ++ [(x1, f, q)])) := hide (by rw [List.length_append]; exact h1)
              have hll : Hid ((L ++ [(x1, f, q)]).length = L.length + 1) := hide (by simp)
              clear hcg h1 h2 h3 hX hOX hH0 hH1 hH2 hOW hGW hc1 hc2
              obtain ⟨d0, d1, d2⟩ := unhide CD _ (unhide hG3)
              go_wp2
              go_roundw
              case rel => exact ⟨k + 1, g3, c3, n, L ++ [(x1, f, q)], by omega, by go_num, rfl, by rw [unhide hll], h1', hG3, hgn, hE'⟩
              case measure => simp [intOf]; omega
            · have hE' := hide (show L0 ++ wo x1 x3 x2 D = L ++ wo x1 x3 n (D.drop (k + 1)) by rw [unhide hT, if_neg h4]; simp)
              have b4 : decide (f < q) = false := by simpa using h4
              clear hT h4
              go_wp2_with fail
              go_quiet (fail)
              go_wp2
              go_roundw
              case rel => exact ⟨k + 1, g, cp, n, L, by omega, by go_num, rfl, rfl, hide (unhide hO), hide (grown_drewN (unhide hG) _), hg0, hE'⟩
              case measure => simp [intOf]; omega
        · have hke : k = D.length := by omega
          have hT : Hid (missG (A.take (i + 1)) D = L ++ (if f < x3 then [(x1, f, x3)] else [])) := hide (by rw [unhide hmo, unhide hE, hke, List.drop_length]; rfl)
          have hke' := hide hke
          clear hE hke
          by_cases h4 : f < x3
          · have hE' := hide (show missG (A.take (i + 1)) D = L ++ [(x1, f, x3)] by rw [unhide hT, if_pos h4])
            have b4 : decide (f < x3) = true := by simpa using h4
            clear hT h4
            go_wp2_with fail
            have hwW : w.heap.size ≤ wr.heap.size := by omega
            have hOW := hO
            have hGW := hG
            have hc1 := p0
            have hc2 := p2
            have hng2 := hng1
            clear hO hG p0 p1 p2
            refine wp_region_noPanic ?_
            refine wp_region_held_drew (S := fun w' => w'.cell? ⟨ga, i * 3, none⟩ = some (.int .i64 x1) ∧ w'.cell? ⟨ga, i * 3 + 2, none⟩ = some (.int .i64 x3)) (by kernel_rfl) ?_ (fun hH0 => ?_)
            · exact ⟨hc1, hc2⟩
            refine wpAnyH_take (i := 0) (oi := { dst := some 109, op := Go.Op.move (Go.Operand.tmp 5), type := 27, pos := _, after := #[], guard := none }) (v := ?_) rfl (by kernel_rfl) (by kernel_rfl) (by kernel_rfl) (fun _ _ _ h => h) (Or.inl ⟨by rfl, ?_⟩) hH0 ?_
            rotate_left
            · (intro w hSw; (try dsimp only at hSw); go_simp <;> with_reducible rfl)
            (try simp only [Act.put, List.setIfInBounds_toArray, List.set_cons_zero, List.set_cons_succ])
            refine wpAnyH_take (i := 1) (oi := { dst := some 110, op := Go.Op.move (Go.Operand.tmp 6), type := 27, pos := _, after := #[], guard := none }) (v := ?_) rfl (by kernel_rfl) (by kernel_rfl) (by kernel_rfl) (fun _ _ _ h => h) (Or.inl ⟨by rfl, ?_⟩) hH0 ?_
            rotate_left
            · (intro w hSw; (try dsimp only at hSw); go_simp <;> with_reducible rfl)
            (try simp only [Act.put, List.setIfInBounds_toArray, List.set_cons_zero, List.set_cons_succ])
            refine wpAnyH_take (i := 2) (oi := { dst := some 111, op := Go.Op.move (Go.Operand.tmp 8), type := 3, pos := _, after := #[], guard := none }) (v := ?_) rfl (by kernel_rfl) (by kernel_rfl) (by kernel_rfl) (fun _ _ _ h => h) (Or.inl ⟨by rfl, ?_⟩) hH0 ?_
            rotate_left
            · (intro w hSw; (try dsimp only at hSw); go_simp <;> with_reducible rfl)
            (try simp only [Act.put, List.setIfInBounds_toArray, List.set_cons_zero, List.set_cons_succ])
            refine wpAnyH_take (i := 3) (oi := { dst := some 112, op := Go.Op.indexAddr 27 (Go.Operand.tmp 110) (Go.Operand.tmp 111), type := 0, pos := _, after := #[{ on := 1, ground := Go.Ground.data }, { on := 2, ground := Go.Ground.data }], guard := none }) (v := ?_) rfl (by kernel_rfl) (by kernel_rfl) (by kernel_rfl) (fun _ _ _ h => h) (Or.inl ⟨by rfl, ?_⟩) hH0 ?_
            rotate_left
            · (intro w hSw; (try dsimp only at hSw); go_simp <;> with_reducible rfl)
            (try simp only [Act.put, List.setIfInBounds_toArray, List.set_cons_zero, List.set_cons_succ])
            refine wpAnyH_take (i := 4) (oi := { dst := some 113, op := Go.Op.fieldAddr 34 (Go.Operand.tmp 112) 0, type := 0, pos := _, after := #[{ on := 3, ground := Go.Ground.data }], guard := none }) (v := ?_) rfl (by kernel_rfl) (by kernel_rfl) (by kernel_rfl) (fun _ _ _ h => h) (Or.inl ⟨by rfl, ?_⟩) hH0 ?_
            rotate_left
            · (intro w hSw; (try dsimp only at hSw); go_simp <;> with_reducible rfl)
            (try simp only [Act.put, List.setIfInBounds_toArray, List.set_cons_zero, List.set_cons_succ])
            refine wpAnyH_take (i := 5) (oi := { dst := some 114, op := Go.Op.load 2 (Go.Operand.tmp 113), type := 2, pos := _, after := #[{ on := 4, ground := Go.Ground.data }], guard := none }) (v := ?_) rfl (by kernel_rfl) (by kernel_rfl) (by kernel_rfl) (fun _ _ _ h => h) (Or.inl ⟨by rfl, ?_⟩) hH0 ?_
            rotate_left
            · (intro w hSw; (try dsimp only at hSw); go_simp <;> with_reducible rfl)
            (try simp only [Act.put, List.setIfInBounds_toArray, List.set_cons_zero, List.set_cons_succ])
            refine wpAnyH_take (i := 6) (oi := { dst := some 115, op := Go.Op.move (Go.Operand.tmp 9), type := 2, pos := _, after := #[], guard := none }) (v := ?_) rfl (by kernel_rfl) (by kernel_rfl) (by kernel_rfl) (fun _ _ _ h => h) (Or.inl ⟨by rfl, ?_⟩) hH0 ?_
            rotate_left
            · (intro w hSw; (try dsimp only at hSw); go_simp <;> with_reducible rfl)
            (try simp only [Act.put, List.setIfInBounds_toArray, List.set_cons_zero, List.set_cons_succ])
            refine wpAnyH_take (i := 7) (oi := { dst := some 116, op := Go.Op.move (Go.Operand.tmp 6), type := 27, pos := _, after := #[], guard := none }) (v := ?_) rfl (by kernel_rfl) (by kernel_rfl) (by kernel_rfl) (fun _ _ _ h => h) (Or.inl ⟨by rfl, ?_⟩) hH0 ?_
            rotate_left
            · (intro w hSw; (try dsimp only at hSw); go_simp <;> with_reducible rfl)
            (try simp only [Act.put, List.setIfInBounds_toArray, List.set_cons_zero, List.set_cons_succ])
            refine wpAnyH_take (i := 8) (oi := { dst := some 117, op := Go.Op.move (Go.Operand.tmp 8), type := 3, pos := _, after := #[], guard := none }) (v := ?_) rfl (by kernel_rfl) (by kernel_rfl) (by kernel_rfl) (fun _ _ _ h => h) (Or.inl ⟨by rfl, ?_⟩) hH0 ?_
            rotate_left
            · (intro w hSw; (try dsimp only at hSw); go_simp <;> with_reducible rfl)
            (try simp only [Act.put, List.setIfInBounds_toArray, List.set_cons_zero, List.set_cons_succ])
            refine wpAnyH_take (i := 9) (oi := { dst := some 118, op := Go.Op.indexAddr 27 (Go.Operand.tmp 116) (Go.Operand.tmp 117), type := 0, pos := _, after := #[{ on := 7, ground := Go.Ground.data }, { on := 8, ground := Go.Ground.data }], guard := none }) (v := ?_) rfl (by kernel_rfl) (by kernel_rfl) (by kernel_rfl) (fun _ _ _ h => h) (Or.inl ⟨by rfl, ?_⟩) hH0 ?_
            rotate_left
            · (intro w hSw; (try dsimp only at hSw); go_simp <;> with_reducible rfl)
            (try simp only [Act.put, List.setIfInBounds_toArray, List.set_cons_zero, List.set_cons_succ])
            refine wpAnyH_take (i := 10) (oi := { dst := some 119, op := Go.Op.fieldAddr 34 (Go.Operand.tmp 118) 2, type := 0, pos := _, after := #[{ on := 9, ground := Go.Ground.data }], guard := none }) (v := ?_) rfl (by kernel_rfl) (by kernel_rfl) (by kernel_rfl) (fun _ _ _ h => h) (Or.inl ⟨by rfl, ?_⟩) hH0 ?_
            rotate_left
            · (intro w hSw; (try dsimp only at hSw); go_simp <;> with_reducible rfl)
            (try simp only [Act.put, List.setIfInBounds_toArray, List.set_cons_zero, List.set_cons_succ])
            refine wpAnyH_take (i := 11) (oi := { dst := some 120, op := Go.Op.load 2 (Go.Operand.tmp 119), type := 2, pos := _, after := #[{ on := 10, ground := Go.Ground.data }], guard := none }) (v := ?_) rfl (by kernel_rfl) (by kernel_rfl) (by kernel_rfl) (fun _ _ _ h => h) (Or.inl ⟨by rfl, ?_⟩) hH0 ?_
            rotate_left
            · (intro w hSw; (try dsimp only at hSw); go_simp <;> with_reducible rfl)
            (try simp only [Act.put, List.setIfInBounds_toArray, List.set_cons_zero, List.set_cons_succ])
            refine wpAnyH_take (i := 12) (oi := { dst := some 121, op := Go.Op.build 34 #[(0, Go.Operand.tmp 114), (1, Go.Operand.tmp 115), (2, Go.Operand.tmp 120)], type := 34, pos := _, after := #[{ on := 5, ground := Go.Ground.data }, { on := 6, ground := Go.Ground.data }, { on := 11, ground := Go.Ground.data }], guard := none }) (v := ?_) rfl (by kernel_rfl) (by kernel_rfl) (by kernel_rfl) (fun _ _ _ h => h) (Or.inl ⟨by rfl, ?_⟩) hH0 ?_
            rotate_left
            · (intro w hSw; (try dsimp only at hSw); go_simp <;> with_reducible rfl)
            (try simp only [Act.put, List.setIfInBounds_toArray, List.set_cons_zero, List.set_cons_succ])
            refine wpAnyH_ready (rs := [13]) (by kernel_rfl) (by simp) ?_
            refine AllReadyH.cons (o := { dst := some 122, op := Go.Op.buildSlice 27 1 #[(0, Go.Operand.tmp 121)], type := 27, pos := _, after := #[{ on := 12, ground := Go.Ground.data }], guard := none }) rfl (fun K hK => ?_) AllReadyH.nil
            go_simp
            refine hK.out _ _ ?_ (fun hH1 => ?_)
            · exact ⟨cell_later ((Below.refl _ _).alloc (Nat.le_refl _) _) hH0.1, cell_later ((Below.refl _ _).alloc (Nat.le_refl _) _) hH0.2⟩
            clear hK K
            (try simp only [Act.put, List.setIfInBounds_toArray, List.set_cons_zero, List.set_cons_succ])
            refine wpAnyH_ready (rs := [14]) (by kernel_rfl) (by simp) ?_
            refine AllReadyH.cons (o := { dst := some 123, op := Go.Op.call { callee := Go.Callee.builtin Go.Builtin.append, args := #[Go.Operand.tmp 109, Go.Operand.tmp 122], argTypes := #[27, 27] }, type := 27, pos := _, after := #[{ on := 0, ground := Go.Ground.data }, { on := 13, ground := Go.Ground.data }], guard := none }) rfl (fun K hK => ?_) AllReadyH.nil
            have hX : Below wr.heap.size wr (wr.drew.alloc (.cells #[.int .i64 x1, .int .i64 f, .int .i64 x3] 34)) := ((Below.refl wr.heap.size wr).drew).alloc (Nat.le_refl _) _
            have hOX := hide (ownsRow_below (unhide hOW) hX)
            refine step_kR Try.underlying27 _ rfl _ _ rfl w.heap.size g L.length cp L (x1, f, x3) rfl (unhide hOX) wr.heap.size rfl (alloc_newR wr _) (by omega) (by show w.heap.size ≤ (wr.heap.push _).size; rw [Array.size_push]; omega) ?_
            intro g3 c3 w3 h1 h2 h3
            have hcg : ∀ b' q' u', b' ≠ g → (wr.drew.alloc (.cells #[.int .i64 x1, .int .i64 f, .int .i64 x3] 34)).cell? ⟨b', q', none⟩ = some u' → w3.cell? ⟨b', q', none⟩ = some u' := by
              intro b' q' u' hb hu
              exact h2.cell hu (by intro e; injection e with e; exact hb e)
            refine hK.out _ _ ?_ (fun hH2 => ?_)
            · exact ⟨hcg _ _ _ hng1 hH1.1, hcg _ _ _ hng2 hH1.2⟩
            clear hK K
            (try simp only [Act.put, List.setIfInBounds_toArray, List.set_cons_zero, List.set_cons_succ])
            refine wpAnyH_take (i := 15) (oi := { dst := some 5, op := Go.Op.assign (Go.Operand.tmp 123), type := 27, pos := _, after := #[{ on := 14, ground := Go.Ground.data }, { on := 14, ground := Go.Ground.chain }, { on := 0, ground := Go.Ground.phase }, { on := 1, ground := Go.Ground.phase }, { on := 2, ground := Go.Ground.phase }, { on := 3, ground := Go.Ground.phase }, { on := 4, ground := Go.Ground.phase }, { on := 5, ground := Go.Ground.phase }, { on := 6, ground := Go.Ground.phase }, { on := 7, ground := Go.Ground.phase }, { on := 8, ground := Go.Ground.phase }, { on := 9, ground := Go.Ground.phase }, { on := 10, ground := Go.Ground.phase }, { on := 11, ground := Go.Ground.phase }, { on := 12, ground := Go.Ground.phase }, { on := 13, ground := Go.Ground.phase }, { on := 14, ground := Go.Ground.phase }], guard := none }) (v := ?_) rfl (by kernel_rfl) (by kernel_rfl) (by kernel_rfl) (fun _ _ _ h => h) (Or.inl ⟨by rfl, ?_⟩) hH2 ?_
            rotate_left
            · (intro w hSw; (try dsimp only at hSw); go_simp <;> with_reducible rfl)
            (try simp only [Act.put, List.setIfInBounds_toArray, List.set_cons_zero, List.set_cons_succ])
            refine wpAnyH_done (by kernel_rfl) ?_ _
            refine NoPanic.normal ?_
            have hG3 := hide (grown_more (grown_below (unhide hGW) hX) h2 (unhide hg0))
            have hgn : Hid (g3 = g0 ∨ w5.heap.size ≤ g3) := hide (by
              rcases h3 with h | h
              · rw [h]; exact unhide hg0
              · right; rw [h]; show w5.heap.size ≤ (wr.heap.push _).size; rw [Array.size_push]; have h6 := (unhide hGW).size; omega)
            have h1' : Hid (Own w3 w.heap.size g3 (L ++ [(x1, f, x3)]).length c3 (L ++ [(x1, f, x3)])) := hide (by rw [List.length_append]; exact h1)
            have hll : Hid ((L ++ [(x1, f, x3)]).length = L.length + 1) := hide (by simp)
            clear hcg h1 h2 h3 hX hOX hH0 hH1 hH2 hOW hGW hc1 hc2
            go_wp2
            go_roundw
            case rel => exact ⟨i + 1, g3, c3, by omega, by go_num, by rw [unhide hE', unhide hll], hide (by rw [unhide hE']; exact unhide h1'), hG3, hgn⟩
            case measure => simp [intOf]; omega
          · have hE' := hide (show missG (A.take (i + 1)) D = L by rw [unhide hT, if_neg h4]; simp)
            have b4 : decide (f < x3) = false := by simpa using h4
            clear hT h4
            go_wp2
            go_roundw
            case rel => exact ⟨i + 1, g, cp, by omega, by go_num, by rw [unhide hE'], hide (by rw [unhide hE']; exact unhide hO), hG, hg0⟩
            case measure => simp [intOf]; omega
    · have hke : i = A.length := by omega
      have hR : Hid (R = missG (A.take i) D) := hide (by rw [unhide hfin, hke])
      have hke' := hide hke
      have hBr : Hid (Below w.heap.size w wr) := hide ((unhide B5).trans ⟨(unhide hG).os, (unhide hG).tape, (unhide hG).output, (unhide hG).size, fun j hj => (unhide hG).block j (by omega) (by intro e; injection e with e; omega)⟩)
      clear hke
      go_wp2
      go_ret
      rw [← unhide hR0', unhide hR]
      exact ⟨g, cp, rfl, unhide hO, unhide hBr⟩

set_option maxHeartbeats 1600000 in
theorem smiss_any (a b : Option Addr) (ca cb : Nat) (l m : List Kl) (w : World) (hl : l.length ≤ maxLen) (hm : m.length ≤ maxLen) (hk : Kls w a l) (hj : Kls w b m) :
    Calls Try.prog 16 #[.slice a l.length ca, .slice b m.length cb] w fun e w' => ∃ g c, e = .returned (.slice (some ⟨g, 0, none⟩) (missOf l m).length c) ∧ Own w' w.heap.size g (missOf l m).length c (missOf l m) ∧ Below w.heap.size w w' := by
  have hal : Below w.heap.size w (w.alloc (.cells #[] 34)) := (Below.refl _ _).alloc (Nat.le_refl _) _
  by_cases hL : RsOk l
  · by_cases hM : RsOk m
    · have e : missOf l m = missing l m := by unfold missOf; rw [if_pos ⟨hL, hM⟩]
      rw [e]
      exact smiss_ok a b ca cb l m w hL hM hk hj
    · have e : missOf l m = [] := by unfold missOf; rw [if_neg (fun h => hM h.2)]
      rw [e]
      have hk' := hide (hk.below hal)
      have hj' := hide (hj.below hal)
      have hB0 := hide hal
      have hO0 := hide (own_lit0 w (B := w.heap.size) (Nat.le_refl _))
      have hL' := hide hL
      have hM' := hide hM
      clear hk hj hL hM e hal
      go_enter Try.func16, Try.ntmps16
      go_wp2_with fail
      refine (sreels_any a ca l true _ hl (unhide hk') (by simpa using unhide hL')).mono ?_
      rintro e w1 ⟨rfl, k1⟩
      have k1' := hide (laterB (unhide hB0) k1)
      have hj1 := hide ((unhide hj').below k1)
      have hO1 := hide (ownsRow_below (unhide hO0) k1)
      clear k1 hO0
      go_wp2_with fail
      refine (sreels_any b cb m false _ hm (unhide hj1) (by simpa using unhide hM')).mono ?_
      rintro e w2 ⟨rfl, k2⟩
      have B2 := hide (laterB (unhide k1') k2)
      have hO2 := hide (ownsRow_below (unhide hO1) k2)
      clear k1' k2 hj1 hO1
      go_wp2
      go_ret
      exact ⟨_, _, rfl, unhide hO2, unhide B2⟩
  · have e : missOf l m = [] := by unfold missOf; rw [if_neg (fun h => hL h.1)]
    rw [e]
    have hk' := hide (hk.below hal)
    have hB0 := hide hal
    have hO0 := hide (own_lit0 w (B := w.heap.size) (Nat.le_refl _))
    have hL' := hide hL
    clear hk hj hL e hal
    go_enter Try.func16, Try.ntmps16
    go_wp2_with fail
    refine (sreels_any a ca l false _ hl (unhide hk') (by simpa using unhide hL')).mono ?_
    rintro e w1 ⟨rfl, k1⟩
    have k1' := hide (laterB (unhide hB0) k1)
    have hO1 := hide (ownsRow_below (unhide hO0) k1)
    clear k1 hO0
    go_wp2
    go_ret
    exact ⟨_, _, rfl, unhide hO1, unhide k1'⟩

set_option maxHeartbeats 1600000 in
theorem scov_any (a b : Option Addr) (ca cb : Nat) (l m : List Kl) (w : World) (hl : l.length ≤ maxLen) (hm : m.length ≤ maxLen) (hk : Kls w a l) (hj : Kls w b m) :
    Calls Try.prog 17 #[.slice a l.length ca, .slice b m.length cb] w fun e w' => e = .returned (.bool (covOf l m)) ∧ Below w.heap.size w w' := by
  have hk' := hide hk
  have hj' := hide hj
  clear hk hj
  by_cases hL : RsOk l
  · have hLd : decide (RsOk l) = true := by simpa using hL
    by_cases hM : RsOk m
    · have hMd : decide (RsOk m) = true := by simpa using hM
      have e : covOf l m = decide (missing l m = []) := by unfold covOf; rw [hLd, hMd]; rfl
      rw [e]
      obtain ⟨v, hv⟩ : ∃ v, decide (missing l m = []) = v := ⟨_, rfl⟩
      have hz := cov_zero (missing l m) v hv
      rw [hv]
      have hL' := hide hL
      have hM' := hide hM
      clear hL hM e hv
      go_enter Try.func17, Try.ntmps17
      go_wp2_with fail
      refine (sreels_any a ca l true _ hl (unhide hk') hLd).mono ?_
      rintro e w1 ⟨rfl, k1⟩
      have k1' := hide k1
      have hj1 := hide ((unhide hj').below k1)
      have hk1 := hide ((unhide hk').below k1)
      clear k1
      go_wp2_with fail
      refine (sreels_any b cb m true _ hm (unhide hj1) hMd).mono ?_
      rintro e w2 ⟨rfl, k2⟩
      have B2 := hide (laterB (unhide k1') k2)
      have hj2 := hide ((unhide hj1).below k2)
      have hk2 := hide ((unhide hk1).below k2)
      clear k1' k2 hj1 hk1
      go_wp2_with fail
      refine (smiss_ok a b ca cb l m _ (unhide hL') (unhide hM') (unhide hk2) (unhide hj2)).mono ?_
      rintro e w3 ⟨g, c, rfl, _, k3⟩
      have B3 := hide (laterB (unhide B2) k3)
      clear k3 B2 hj2 hk2 hLd hMd
      go_wp2
      go_ret
      exact ⟨rfl, unhide B3⟩
    · have hMd : decide (RsOk m) = false := by simpa using hM
      have e : covOf l m = false := by unfold covOf; rw [hLd, hMd]; rfl
      rw [e]
      clear hL hM e
      go_enter Try.func17, Try.ntmps17
      go_wp2_with fail
      refine (sreels_any a ca l true _ hl (unhide hk') hLd).mono ?_
      rintro e w1 ⟨rfl, k1⟩
      have k1' := hide k1
      have hj1 := hide ((unhide hj').below k1)
      clear k1
      go_wp2_with fail
      refine (sreels_any b cb m false _ hm (unhide hj1) hMd).mono ?_
      rintro e w2 ⟨rfl, k2⟩
      have B2 := hide (laterB (unhide k1') k2)
      clear k1' k2 hj1 hLd hMd
      go_wp2
      go_ret
      exact ⟨rfl, unhide B2⟩
  · have hLd : decide (RsOk l) = false := by simpa using hL
    have e : covOf l m = false := by unfold covOf; rw [hLd]; rfl
    rw [e]
    clear hL e
    go_enter Try.func17, Try.ntmps17
    go_wp2_with fail
    refine (sreels_any a ca l false _ hl (unhide hk') hLd).mono ?_
    rintro e w1 ⟨rfl, k1⟩
    have k1' := hide k1
    clear k1 hLd
    go_wp2
    go_ret
    exact ⟨rfl, unhide k1'⟩

end Go.Proofs.Ytfbifffmieimoaa.Rl
