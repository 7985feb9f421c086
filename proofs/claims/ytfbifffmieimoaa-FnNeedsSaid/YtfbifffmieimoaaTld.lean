/-
  Lists in order and told reels: the program's functions and their contracts.
-/
import Derived.Test.YtfbifffmieimoaaCpR
import Derived.Test.YtfbifffmieimoaaSrt
import Derived.Test.YtfbifffmieimoaaSTl
import Derived.Lib.MinMax
namespace Go.Proofs.Ytfbifffmieimoaa.Rl
open Go.RowKit
open Go.Proofs.Ytfbifffmieimoaa
set_option linter.unusedVariables false
set_option linter.unusedSimpArgs false

set_option maxRecDepth 100000 in
set_option maxHeartbeats 1000000 in
theorem iord_any (a : Option Addr) (cap : Nat) (l : List Kl) (w : World) (hl : l.length ≤ 100000) (hk : Kls w a l) :
    Calls Try.prog 53 #[.slice a l.length cap, .func (.func 54) #[] #[]] w fun e w' => ∃ g l', e = .returned (.slice (some ⟨g, 0, none⟩) l.length l.length) ∧ l'.Perm l ∧ l'.Pairwise kle ∧ Own w' w.heap.size g l.length l.length l' ∧ Below w.heap.size w w' := by
  obtain ⟨i0, hi, hz0, hz1, hz2⟩ := info_parts info44
  have hk' := hide hk
  clear hk
  go_enter Try.func53, Try.ntmps53
  go_wp2_with (refine wpList_make_full _ rfl _ _ 27 rfl w.heap.size 34 i0 _ 3 Try.underlying27 hi hz0 hz1 .i64 .i64 _ _ l.length rfl rfl rfl rfl ?b2 ?b3 (Nat.le_refl _) ?_)
  case b2 => rw [hz2]; omega
  case b3 => unfold maxLen; omega
  intro w1 hown hg
  have hb1 := hide (show Below w.heap.size w w1 from (Below.refl _ _).grown hg (Nat.le_refl _) (fun k hk => by cases hk))
  have hown1 : Hid (Own w1 w.heap.size w.heap.size l.length l.length (List.replicate l.length (0, 0, 0))) := hide (by
    show World.ownsRow _ _ _ _ _ _ _
    rw [← made_flK]; exact hown)
  have hk1 := hide ((unhide hk').below (unhide hb1))
  clear hown hg
  obtain ⟨w2, hrun, hown2, hg2⟩ := run_copyR w1 27 3 Try.underlying27 w.heap.size w.heap.size l.length cap _ l a (unhide hown1) rfl (unhide hk1)
  have hb2 := hide (below_grown (unhide hb1) hg2 (Nat.le_refl _))
  have hown2' := hide hown2
  clear hown2 hg2 hown1 hb1 hk1
  go_wp2_with fail
  refine (sort_any w.heap.size w.heap.size l.length l w2 (unhide hown2') (by omega)).mono ?_
  rintro e w3 ⟨rfl, l', hp, hs, hown3, hg3⟩
  have hb3 := hide (below_grown (unhide hb2) hg3 (Nat.le_refl _))
  have hown3' := hide hown3
  have hp' := hide hp
  have hs' := hide hs
  clear hown3 hg3 hp hs hown2' hb2
  go_wp2
  go_ret
  exact ⟨_, l', rfl, unhide hp', unhide hs', unhide hown3', unhide hb3⟩

/-- the row as it stands: told ones ahead, what is still to come behind -/
structure RowI (M o : List Kl) (s : List Kl) (i kept : Nat) : Prop where
  len : M.length = s.length
  ahead : M.take kept = o
  behind : M.drop i = s.drop i
  fits : kept ≤ i
theorem RowI.at {M o s : List Kl} {i kept : Nat} {x : Kl} (h : RowI M o s i kept) (hx : s[i]? = some x) : M[i]? = some x := by
  have h1 : (M.drop i)[0]? = (s.drop i)[0]? := by rw [h.behind]
  simpa [hx] using h1
theorem RowI.put {M o s : List Kl} {i kept : Nat} {x : Kl} (h : RowI M o s i kept) (hi : i < s.length) : RowI (M.set kept x) (o ++ [x]) s (i + 1) (kept + 1) := by
  have hk : kept < M.length := by have := h.fits; have := h.len; omega
  have hf := h.fits
  refine ⟨by simp [h.len], ?_, ?_, by omega⟩
  · rw [← h.ahead]
    apply List.ext_getElem?
    intro j
    rw [List.getElem?_take, List.getElem?_append]
    by_cases hj : j < kept
    · rw [if_pos (by omega), if_pos (by rw [List.length_take]; omega), List.getElem?_set_ne (by omega), List.getElem?_take, if_pos hj]
    · by_cases hj2 : j = kept
      · subst hj2
        rw [if_pos (by omega), if_neg (by rw [List.length_take]; omega), List.getElem?_set_self hk]
        have e : j - (M.take j).length = 0 := by rw [List.length_take]; omega
        rw [e]; rfl
      · rw [if_neg (by omega), if_neg (by rw [List.length_take]; omega)]
        rw [List.getElem?_eq_none (by rw [List.length_take]; simp; omega)]
  · have h2 : (M.set kept x).drop (i + 1) = M.drop (i + 1) := by
      apply List.ext_getElem?
      intro j
      rw [List.getElem?_drop, List.getElem?_drop, List.getElem?_set_ne (by omega)]
    have h3 : M.drop (i + 1) = (M.drop i).drop 1 := by rw [List.drop_drop]
    rw [h2, h3, h.behind, List.drop_drop]
theorem RowI.hit {M o s : List Kl} {i kept : Nat} {p q : Kl} (h : RowI M (o ++ [p]) s i (kept + 1)) (hi : i < s.length) (hk : kept = o.length) : RowI (M.set kept q) (o ++ [q]) s (i + 1) (kept + 1) := by
  have hf := h.fits
  have hkl : kept < M.length := by have := h.len; omega
  have ht : M.take kept = o := by
    have : (M.take (kept + 1)).take kept = (o ++ [p]).take kept := by rw [h.ahead]
    rw [List.take_take] at this
    have e : min kept (kept + 1) = kept := by omega
    rw [e, hk] at this
    rw [hk]; simpa using this
  have h1 : RowI M o s i kept := ⟨h.len, ht, h.behind, by omega⟩
  exact h1.put hi

set_option maxRecDepth 100000 in
set_option maxHeartbeats 6400000 in
theorem itold_any (a : Option Addr) (cap : Nat) (l : List Kl) (w : World) (hl : l.length ≤ 100000) (hk : Kls w a l) (hr : ∀ r ∈ l, r.2.1 ≤ r.2.2) :
    Calls Try.prog 33 #[.slice a l.length cap] w fun e w' => ∃ g c, e = .returned (.slice (some ⟨g, 0, none⟩) (told l).length c) ∧ Own w' w.heap.size g (told l).length c (told l) ∧ Below w.heap.size w w' := by
  have hk' := hide hk
  have hr' := hide hr
  clear hk hr
  go_enter Try.func33, Try.ntmps33
  go_wp2_with fail
  refine (iord_any a cap l w hl (unhide hk')).mono ?_
  rintro e w1 ⟨g, s, rfl, hp, hs, hO1, hB1⟩
  have htd := hide (show told l = tells [] none (s.drop 0) by rw [← told_of hp hs (unhide hr')]; simp [tells])
  have hsl := hide (show s.length = l.length from hp.length_eq)
  have hO1' : Hid (∃ M, Own w1 w.heap.size g l.length l.length M ∧ RowI M [] s 0 0) := hide ⟨s, hO1, ⟨rfl, by simp, rfl, Nat.le_refl _⟩⟩
  have hB1' := hide hB1
  have hgw := own_ge hO1
  clear hp hs hO1 hB1
  obtain ⟨N, hN⟩ : ∃ N, N = l.length := ⟨_, rfl⟩
  rw [← hN] at hsl hO1' hl ⊢
  have hN' := hide hN
  clear hN
  go_wp2
  go_loopw [4, 11] (fun v t wr => ∃ (i : Nat) (o : List Kl) (xo : Option Kl), i ≤ N ∧ t = .int .i64 i ∧ v = .int .i64 (o ++ xo.toList).length ∧ Hid (∃ M, Own wr w.heap.size g N N M ∧ RowI M (o ++ xo.toList) s i (o ++ xo.toList).length) ∧ Hid (Below w.heap.size w wr) ∧ Hid (told l = tells o xo (s.drop i)) ∧ Hid (xo = none → o = [])) (fun _ t _ => N - (intOf t).toNat)
  case atStart => exact ⟨0, [], none, by omega, rfl, rfl, hO1', hB1', htd, hide (fun _ => rfl)⟩
  case round =>
    clear hO1' hB1' htd
    obtain ⟨i, o, xo, hi, rfl, rfl, hOM, hB, hT, hLn⟩ := hrel
    by_cases hik : i < N
    · obtain ⟨M, hM, hRI⟩ := unhide hOM
      obtain ⟨r, hr⟩ : ∃ r, s[i]? = some r := ⟨s[i]'(by rw [unhide hsl]; omega), List.getElem?_eq_getElem _⟩
      obtain ⟨r0, r1, r2⟩ := own_cells (hRI.at hr) hM
      have hdr := wo_drop (x1 := 0) (x3 := 0) (f := 0) hr
      have hsi : i < s.length := by rw [unhide hsl]; exact hik
      have hMl := own_len hM
      obtain ⟨y1, y2, y3⟩ := r
      have hglt : g < wr.heap.size := own_lt hM
      have hwl : w.heap.size ≤ wr.heap.size := (unhide hB).size
      have hXb : Below wr.heap.size wr (wr.alloc (.cells #[.int .i64 y1, .int .i64 y2, .int .i64 y3] 34)) := (Below.refl _ _).alloc (Nat.le_refl _) _
      have hMX := ownsRow_below hM hXb
      have hBX := hide (laterB (unhide hB) hXb)
      obtain ⟨X, hX⟩ : ∃ X, X = wr.alloc (.cells #[.int .i64 y1, .int .i64 y2, .int .i64 y3] 34) := ⟨_, rfl⟩
      have hbx := heap_alloc_new wr (.cells #[.int .i64 y1, .int .i64 y2, .int .i64 y3] 34)
      rw [← hX] at hMX hBX hbx
      have hXs : X.heap.size = wr.heap.size + 1 := by rw [hX]; simp
      obtain ⟨d0, d1, d2⟩ := blk3 hbx
      have hX' := hide hX
      have hbx' := hide hbx
      clear hXb hM hOM hr hbx hX
      cases xo with
      | none =>
        have ho : o = [] := unhide hLn rfl
        subst ho
        have hT' := hide (show told l = tells [] (some (y1, y2, y3)) (s.drop (i + 1)) by rw [unhide hT, hdr]; rfl)
        have hgd : decide ((0 : Int) < (([] : List Kl) ++ (none : Option Kl).toList).length) = false := by simp
        obtain ⟨v0, s0, f0, _, _⟩ := own_at (i := 0 * 3) hMX (by omega)
        obtain ⟨v1, s1, f1, _, _⟩ := own_at (i := 0 * 3 + 1) hMX (by omega)
        obtain ⟨v2, s2, f2, _, _⟩ := own_at (i := 0 * 3 + 2) hMX (by omega)
        have hO2 : Hid (∃ M, Own (((X.setCell ⟨g, 0 * 3, none⟩ (.int .i64 y1)).setCell ⟨g, 0 * 3 + 1, none⟩ (.int .i64 y2)).setCell ⟨g, 0 * 3 + 2, none⟩ (.int .i64 y3)) w.heap.size g N N M ∧ RowI M ([] ++ (some (y1, y2, y3) : Option Kl).toList) s (i + 1) 1) := hide ⟨_, own_put (k := 0) (x := (y1, y2, y3)) (by omega) hMX, by have := RowI.put (x := (y1, y2, y3)) (kept := 0) hRI hsi; exact this⟩
        have hB2 := hide (fun q : Nat => below_3 (g := g) (a := 0 * 3) (b := 0 * 3 + 1) (c := 0 * 3 + 2) (u := .int .i64 y1) (v := .int .i64 y2) (x := .int .i64 y3) (below_drewN (unhide hBX) q) hgw)
        have hN0 : (0 : Int) < N := by omega
        clear hdr hT hRI hMX
        go_wp2_with fail
        rw [← unhide hX']
        go_quiet (fail)
        go_wp2
        go_roundw
        case rel => exact ⟨i + 1, [], some (y1, y2, y3), by omega, by go_num, rfl, hide (unhide hO2), hide (unhide hB2 _), hT', hide (by simp)⟩
        case measure => simp [intOf]; omega
      | some x =>
        obtain ⟨x1, x2, x3⟩ := x
        obtain ⟨m, hm⟩ : ∃ m, m = o.length := ⟨_, rfl⟩
        have hlm : (o ++ (some (x1, x2, x3) : Option Kl).toList).length = m + 1 := by simp [hm]
        have hol : (o ++ (some (x1, x2, x3) : Option Kl).toList) = o ++ [(x1, x2, x3)] := rfl
        rw [hlm] at hRI ⊢
        rw [hol] at hRI
        have hfit := hRI.fits
        have hlast : M[m]? = some (x1, x2, x3) := by
          have h1 : (M.take (m + 1))[m]? = (o ++ [(x1, x2, x3)])[m]? := by rw [hRI.ahead]
          rw [List.getElem?_take, if_pos (by omega), hm, last_get] at h1
          rw [hm]; exact h1
        obtain ⟨s0, s1, s2⟩ := own_cells hlast hMX
        have hL : IntKind.i64.wrap (((m + 1 : Nat) : Int) - 1) = (m : Int) := by rw [IntKind.wrap_i64]; omega
        have hL' : IntKind.i64.wrap ((m : Int) + 1 - 1) = (m : Int) := by rw [IntKind.wrap_i64]; omega
        have hLm : IntKind.i64.wrap (m : Int) = (m : Int) := by rw [IntKind.wrap_i64]; omega
        have hgd : decide ((0 : Int) < ((m + 1 : Nat) : Int)) = true := decide_eq_true (by omega)
        have hgd' : decide ((0 : Int) < (m : Int) + 1) = true := decide_eq_true (by omega)
        have hge : decide (0 ≤ (m : Int)) = true := by simp
        have hmk : (m : Int) < (N : Int) := by omega
        have hm' := hide hm
        clear hm hlm hol
        by_cases hhit : y1 = x1 ∧ y2 ≤ x3
        · have hT' := hide (show told l = tells o (some (x1, x2, max x3 y3)) (s.drop (i + 1)) by rw [unhide hT, hdr]; show o ++ tellG _ _ = _; rw [tellG_hit hhit]; rfl)
          have b1 : (y1 == x1) = true := by simp [hhit.1]
          have b2 : decide (y2 ≤ x3) = true := by simpa using hhit.2
          have f2 := hMX.frozenAt (m * 3 + 2)
          have hON : Hid (∃ M, Own (X.setCell ⟨g, m * 3 + 2, none⟩ (.int .i64 (max x3 y3))) w.heap.size g N N M ∧ RowI M (o ++ [(x1, x2, max x3 y3)]) s (i + 1) (m + 1)) := hide ⟨M.set m (x1, x2, max x3 y3), by
            have h1 := (hMX.stored (m * 3 + 2) (iv (max x3 y3))).1
            have e := flK_set (k := m) (x := (x1, x2, max x3 y3)) (l := M) (by omega)
            obtain ⟨g0, g1, g2⟩ := flK_get hlast
            have hfl := flK_len M
            have e0 : (flK M).set (m * 3) (iv x1) = flK M := by apply List.ext_getElem?; intro j; rw [List.getElem?_set]; split; (next hj => subst hj; rw [g0]; simp; omega); rfl
            have e1 : (flK M).set (m * 3 + 1) (iv x2) = flK M := by apply List.ext_getElem?; intro j; rw [List.getElem?_set]; split; (next hj => subst hj; rw [g1]; simp; omega); rfl
            simp only [] at e
            rw [e0, e1] at e
            rw [e] at h1
            exact h1, hRI.hit hsi (unhide hm')⟩
          have hBN := hide (show Below w.heap.size w (X.setCell ⟨g, m * 3 + 2, none⟩ (.int .i64 (max x3 y3))) from (unhide hBX).setCell hgw _)
          have hh := hide hhit
          clear hdr hT hhit hMX hRI
          go_wp2_with fail
          rw [← unhide hX']
          go_quiet (fail)
          go_wp2_with fail
          obtain ⟨WQ, hWQ⟩ : ∃ WQ, WQ = X.drewN nq := ⟨_, rfl⟩
          have t2 : WQ.cell? ⟨g, m * 3 + 2, none⟩ = some (.int .i64 x3) := by rw [hWQ]; exact s2
          have t5 : WQ.cell? ⟨wr.heap.size, 2, none⟩ = some (.int .i64 y3) := by rw [hWQ]; exact d2
          have tf : WQ.frozen? ⟨g, m * 3 + 2, none⟩ = false := by rw [hWQ]; exact f2
          have hON : Hid (∃ M, Own ((WQ.drew).setCell ⟨g, m * 3 + 2, none⟩ (.int .i64 (max x3 y3))) w.heap.size g N N M ∧ RowI M (o ++ [(x1, x2, max x3 y3)]) s (i + 1) (m + 1)) := by rw [hWQ]; exact hide (unhide hON)
          have hBN : Hid (Below w.heap.size w ((WQ.drew).setCell ⟨g, m * 3 + 2, none⟩ (.int .i64 (max x3 y3)))) := by rw [hWQ]; exact hide ⟨(unhide hBN).os, (unhide hBN).tape, (unhide hBN).output, (unhide hBN).size, (unhide hBN).block⟩
          rw [← hWQ]
          clear hWQ r0 r1 r2 s0 s1 s2 f2 d0 d1 d2
          refine wp_region_noPanic ?_
          refine wp_region_held_drew (S := fun w' => w'.cell? ⟨wr.heap.size, 2, none⟩ = some (.int .i64 y3)) (by kernel_rfl) ?_ (fun hH0 => ?_)
          · exact t5
          have t2d : WQ.drew.cell? ⟨g, m * 3 + 2, none⟩ = some (.int .i64 x3) := t2
          have tfd : WQ.drew.frozen? ⟨g, m * 3 + 2, none⟩ = false := tf
          refine wpAnyH_take (i := 0) (oi := { dst := some 39, op := Go.Op.move (Go.Operand.tmp 3), type := 27, pos := _, after := #[], guard := none }) (v := ?_) rfl (by kernel_rfl) (by kernel_rfl) (by kernel_rfl) (fun _ _ _ h => h) (Or.inl ⟨by rfl, ?_⟩) hH0 ?_
          rotate_left
          · (intro w hSw; (try dsimp only at hSw); go_simp <;> with_reducible rfl)
          (try simp only [Act.put, List.setIfInBounds_toArray, List.set_cons_zero, List.set_cons_succ])
          refine wpAnyH_take (i := 1) (oi := { dst := some 40, op := Go.Op.move (Go.Operand.tmp 4), type := 3, pos := _, after := #[], guard := none }) (v := ?_) rfl (by kernel_rfl) (by kernel_rfl) (by kernel_rfl) (fun _ _ _ h => h) (Or.inl ⟨by rfl, ?_⟩) hH0 ?_
          rotate_left
          · (intro w hSw; (try dsimp only at hSw); go_simp <;> with_reducible rfl)
          (try simp only [Act.put, List.setIfInBounds_toArray, List.set_cons_zero, List.set_cons_succ])
          refine wpAnyH_take (i := 2) (oi := { dst := some 41, op := Go.Op.binOp Go.BinOp.sub 3 (Go.Operand.tmp 40) (Go.Operand.const (Go.Value.int Go.IntKind.i64 1)) 3, type := 3, pos := _, after := #[{ on := 1, ground := Go.Ground.data }], guard := none }) (v := ?_) rfl (by kernel_rfl) (by kernel_rfl) (by kernel_rfl) (fun _ _ _ h => h) (Or.inl ⟨by rfl, ?_⟩) hH0 ?_
          rotate_left
          · (intro w hSw; (try dsimp only at hSw); go_simp <;> with_reducible rfl)
          (try simp only [Act.put, List.setIfInBounds_toArray, List.set_cons_zero, List.set_cons_succ])
          refine wpAnyH_take (i := 3) (oi := { dst := some 42, op := Go.Op.move (Go.Operand.tmp 3), type := 27, pos := _, after := #[], guard := none }) (v := ?_) rfl (by kernel_rfl) (by kernel_rfl) (by kernel_rfl) (fun _ _ _ h => h) (Or.inl ⟨by rfl, ?_⟩) hH0 ?_
          rotate_left
          · (intro w hSw; (try dsimp only at hSw); go_simp <;> with_reducible rfl)
          (try simp only [Act.put, List.setIfInBounds_toArray, List.set_cons_zero, List.set_cons_succ])
          refine wpAnyH_take (i := 4) (oi := { dst := some 43, op := Go.Op.move (Go.Operand.tmp 4), type := 3, pos := _, after := #[], guard := none }) (v := ?_) rfl (by kernel_rfl) (by kernel_rfl) (by kernel_rfl) (fun _ _ _ h => h) (Or.inl ⟨by rfl, ?_⟩) hH0 ?_
          rotate_left
          · (intro w hSw; (try dsimp only at hSw); go_simp <;> with_reducible rfl)
          (try simp only [Act.put, List.setIfInBounds_toArray, List.set_cons_zero, List.set_cons_succ])
          refine wpAnyH_take (i := 5) (oi := { dst := some 44, op := Go.Op.binOp Go.BinOp.sub 3 (Go.Operand.tmp 43) (Go.Operand.const (Go.Value.int Go.IntKind.i64 1)) 3, type := 3, pos := _, after := #[{ on := 4, ground := Go.Ground.data }], guard := none }) (v := ?_) rfl (by kernel_rfl) (by kernel_rfl) (by kernel_rfl) (fun _ _ _ h => h) (Or.inl ⟨by rfl, ?_⟩) hH0 ?_
          rotate_left
          · (intro w hSw; (try dsimp only at hSw); go_simp <;> with_reducible rfl)
          (try simp only [Act.put, List.setIfInBounds_toArray, List.set_cons_zero, List.set_cons_succ])
          refine wpAnyH_take (i := 6) (oi := { dst := some 45, op := Go.Op.indexAddr 27 (Go.Operand.tmp 42) (Go.Operand.tmp 44), type := 0, pos := _, after := #[{ on := 3, ground := Go.Ground.data }, { on := 5, ground := Go.Ground.data }], guard := none }) (v := ?_) rfl (by kernel_rfl) (by kernel_rfl) (by kernel_rfl) (fun _ _ _ h => h) (Or.inl ⟨by rfl, ?_⟩) hH0 ?_
          rotate_left
          · (intro w hSw; (try dsimp only at hSw); go_simp <;> with_reducible rfl)
          (try simp only [Act.put, List.setIfInBounds_toArray, List.set_cons_zero, List.set_cons_succ])
          refine wpAnyH_take (i := 7) (oi := { dst := some 46, op := Go.Op.fieldAddr 34 (Go.Operand.tmp 45) 2, type := 0, pos := _, after := #[{ on := 6, ground := Go.Ground.data }], guard := none }) (v := ?_) rfl (by kernel_rfl) (by kernel_rfl) (by kernel_rfl) (fun _ _ _ h => h) (Or.inl ⟨by rfl, ?_⟩) hH0 ?_
          rotate_left
          · (intro w hSw; (try dsimp only at hSw); go_simp <;> with_reducible rfl)
          (try simp only [Act.put, List.setIfInBounds_toArray, List.set_cons_zero, List.set_cons_succ])
          refine wpAnyH_take (i := 9) (oi := { dst := some 48, op := Go.Op.fieldAddr 34 (Go.Operand.tmp 6) 2, type := 0, pos := _, after := #[], guard := none }) (v := ?_) rfl (by kernel_rfl) (by kernel_rfl) (by kernel_rfl) (fun _ _ _ h => h) (Or.inl ⟨by rfl, ?_⟩) hH0 ?_
          rotate_left
          · (intro w hSw; (try dsimp only at hSw); go_simp <;> with_reducible rfl)
          (try simp only [Act.put, List.setIfInBounds_toArray, List.set_cons_zero, List.set_cons_succ])
          refine wpAnyH_take (i := 10) (oi := { dst := some 49, op := Go.Op.load 2 (Go.Operand.tmp 48), type := 2, pos := _, after := #[{ on := 9, ground := Go.Ground.data }], guard := none }) (v := ?_) rfl (by kernel_rfl) (by kernel_rfl) (by kernel_rfl) (fun _ _ _ h => h) (Or.inl ⟨by rfl, ?_⟩) hH0 ?_
          rotate_left
          · (intro w hSw; (try dsimp only at hSw); go_simp <;> with_reducible rfl)
          (try simp only [Act.put, List.setIfInBounds_toArray, List.set_cons_zero, List.set_cons_succ])
          refine wpAnyH_ready (rs := [8]) (by kernel_rfl) (by simp) ?_
          refine AllReadyH.cons (o := { dst := some 47, op := Go.Op.load 2 (Go.Operand.tmp 46), type := 2, pos := _, after := #[{ on := 7, ground := Go.Ground.data }], guard := none }) rfl (fun K hK => ?_) AllReadyH.nil
          go_simp
          refine hK.out _ _ ?_ (fun hH1 => ?_)
          · exact hH0
          clear hK K
          (try simp only [Act.put, List.setIfInBounds_toArray, List.set_cons_zero, List.set_cons_succ])
          refine wpAnyH_take (i := 11) (oi := { dst := some 50, op := Go.Op.call { callee := Go.Callee.builtin Go.Builtin.max, args := #[Go.Operand.tmp 47, Go.Operand.tmp 49], argTypes := #[2, 2] }, type := 2, pos := _, after := #[{ on := 8, ground := Go.Ground.data }, { on := 10, ground := Go.Ground.data }], guard := none }) (v := ?_) rfl (by kernel_rfl) (by kernel_rfl) (by kernel_rfl) (fun _ _ _ h => h) (Or.inl ⟨by rfl, ?_⟩) hH1 ?_
          rotate_left
          · (intro w hSw; (try dsimp only at hSw); go_simp <;> with_reducible rfl)
          (try simp only [Act.put, List.setIfInBounds_toArray, List.set_cons_zero, List.set_cons_succ])
          refine wpAnyH_take (i := 12) (oi := { dst := some 51, op := Go.Op.indexAddr 27 (Go.Operand.tmp 39) (Go.Operand.tmp 41), type := 0, pos := _, after := #[{ on := 0, ground := Go.Ground.data }, { on := 2, ground := Go.Ground.data }, { on := 0, ground := Go.Ground.phase }, { on := 1, ground := Go.Ground.phase }, { on := 2, ground := Go.Ground.phase }, { on := 3, ground := Go.Ground.phase }, { on := 4, ground := Go.Ground.phase }, { on := 5, ground := Go.Ground.phase }, { on := 6, ground := Go.Ground.phase }, { on := 7, ground := Go.Ground.phase }, { on := 8, ground := Go.Ground.phase }, { on := 9, ground := Go.Ground.phase }, { on := 10, ground := Go.Ground.phase }, { on := 11, ground := Go.Ground.phase }], guard := none }) (v := ?_) rfl (by kernel_rfl) (by kernel_rfl) (by kernel_rfl) (fun _ _ _ h => h) (Or.inl ⟨by rfl, ?_⟩) hH1 ?_
          rotate_left
          · (intro w hSw; (try dsimp only at hSw); go_simp <;> with_reducible rfl)
          (try simp only [Act.put, List.setIfInBounds_toArray, List.set_cons_zero, List.set_cons_succ])
          refine wpAnyH_take (i := 13) (oi := { dst := some 52, op := Go.Op.fieldAddr 34 (Go.Operand.tmp 51) 2, type := 0, pos := _, after := #[{ on := 12, ground := Go.Ground.data }, { on := 0, ground := Go.Ground.phase }, { on := 1, ground := Go.Ground.phase }, { on := 2, ground := Go.Ground.phase }, { on := 3, ground := Go.Ground.phase }, { on := 4, ground := Go.Ground.phase }, { on := 5, ground := Go.Ground.phase }, { on := 6, ground := Go.Ground.phase }, { on := 7, ground := Go.Ground.phase }, { on := 8, ground := Go.Ground.phase }, { on := 9, ground := Go.Ground.phase }, { on := 10, ground := Go.Ground.phase }, { on := 11, ground := Go.Ground.phase }], guard := none }) (v := ?_) rfl (by kernel_rfl) (by kernel_rfl) (by kernel_rfl) (fun _ _ _ h => h) (Or.inl ⟨by rfl, ?_⟩) hH1 ?_
          rotate_left
          · (intro w hSw; (try dsimp only at hSw); go_simp <;> with_reducible rfl)
          (try simp only [Act.put, List.setIfInBounds_toArray, List.set_cons_zero, List.set_cons_succ])
          refine wpAnyH_ready (rs := [14]) (by kernel_rfl) (by simp) ?_
          refine AllReadyH.cons (o := { dst := none, op := Go.Op.store 2 (Go.Operand.tmp 52) (Go.Operand.tmp 50), type := 0, pos := _, after := #[{ on := 13, ground := Go.Ground.data }, { on := 11, ground := Go.Ground.data }, { on := 0, ground := Go.Ground.phase }, { on := 1, ground := Go.Ground.phase }, { on := 2, ground := Go.Ground.phase }, { on := 3, ground := Go.Ground.phase }, { on := 4, ground := Go.Ground.phase }, { on := 5, ground := Go.Ground.phase }, { on := 6, ground := Go.Ground.phase }, { on := 7, ground := Go.Ground.phase }, { on := 8, ground := Go.Ground.phase }, { on := 9, ground := Go.Ground.phase }, { on := 10, ground := Go.Ground.phase }, { on := 11, ground := Go.Ground.phase }], guard := none }) rfl (fun K hK => ?_) AllReadyH.nil
          go_simp
          have hgn : wr.heap.size ≠ g := by omega
          have hcy : ((WQ.drew).setCell ⟨g, m * 3 + 2, none⟩ (.int .i64 (max x3 y3))).cell? ⟨wr.heap.size, 2, none⟩ = some (.int .i64 y3) := by simp [World.setCell, World.cell?, Array.getElem?_modify, Ne.symm hgn]; exact t5
          refine hK.out _ _ ?_ (fun hH3 => ?_)
          · exact hcy
          clear hK K
          (try simp only [Act.put, List.setIfInBounds_toArray, List.set_cons_zero, List.set_cons_succ])
          refine wpAnyH_done (by kernel_rfl) ?_ _
          refine NoPanic.normal ?_
          go_wp2
          go_roundw
          case rel => exact ⟨i + 1, o, some (x1, x2, max x3 y3), by omega, by go_num, by simp [unhide hm'], hide (by have h1 : (o ++ (some (x1, x2, max x3 y3) : Option Kl).toList).length = m + 1 := (by simp [unhide hm']); rw [h1]; exact unhide hON), hBN, hT', hide (by simp)⟩
          case measure => simp [intOf]; omega
        · have hT' := hide (show told l = tells (o ++ [(x1, x2, x3)]) (some (y1, y2, y3)) (s.drop (i + 1)) by rw [unhide hT, hdr]; show o ++ tellG _ _ = _; rw [tellG_new hhit]; simp [tells])
          have hNm : m + 1 < N := by omega
          have hNm' : ((m + 1 : Nat) : Int) < (N : Int) := by omega
          have hNm2 : (m : Int) + 1 < (N : Int) := by omega
          obtain ⟨v0, t0, f0, _, _⟩ := own_at (i := (m + 1) * 3) hMX (by omega)
          obtain ⟨v1, t1, f1, _, _⟩ := own_at (i := (m + 1) * 3 + 1) hMX (by omega)
          obtain ⟨v2, t2, f2, _, _⟩ := own_at (i := (m + 1) * 3 + 2) hMX (by omega)
          have hO2 : Hid (∃ M, Own (((X.setCell ⟨g, (m + 1) * 3, none⟩ (.int .i64 y1)).setCell ⟨g, (m + 1) * 3 + 1, none⟩ (.int .i64 y2)).setCell ⟨g, (m + 1) * 3 + 2, none⟩ (.int .i64 y3)) w.heap.size g N N M ∧ RowI M ((o ++ [(x1, x2, x3)]) ++ (some (y1, y2, y3) : Option Kl).toList) s (i + 1) (m + 1 + 1)) := hide ⟨_, own_put (k := m + 1) (x := (y1, y2, y3)) (by omega) hMX, by have := RowI.put (x := (y1, y2, y3)) (kept := m + 1) hRI hsi; exact this⟩
          have hB2 := hide (fun q : Nat => below_3 (g := g) (a := (m + 1) * 3) (b := (m + 1) * 3 + 1) (c := (m + 1) * 3 + 2) (u := .int .i64 y1) (v := .int .i64 y2) (x := .int .i64 y3) (below_drewN (unhide hBX) q) hgw)
          have hl3 : Hid (((o ++ [(x1, x2, x3)]) ++ (some (y1, y2, y3) : Option Kl).toList).length = m + 1 + 1) := hide (by simp [unhide hm'])
          have hh := hide hhit
          clear hdr hT hRI hMX
          by_cases h1 : y1 = x1
          · have b1 : (y1 == x1) = true := by simp [h1]
            have b2 : decide (y2 ≤ x3) = false := by simp; omega
            have h1' := hide h1
            clear h1 hhit
            go_wp2_with fail
            rw [← unhide hX']
            go_quiet (fail)
            go_wp2
            go_roundw
            case rel => exact ⟨i + 1, o ++ [(x1, x2, x3)], some (y1, y2, y3), by omega, by go_num, by rw [unhide hl3]; go_num, hide (by rw [unhide hl3]; exact unhide hO2), hide (unhide hB2 _), hT', hide (by simp)⟩
            case measure => simp [intOf]; omega
          · have b1 : (y1 == x1) = false := by simp [h1]
            clear h1 hhit
            go_wp2_with fail
            rw [← unhide hX']
            go_quiet (fail)
            go_wp2
            go_roundw
            case rel => exact ⟨i + 1, o ++ [(x1, x2, x3)], some (y1, y2, y3), by omega, by go_num, by rw [unhide hl3]; go_num, hide (by rw [unhide hl3]; exact unhide hO2), hide (unhide hB2 _), hT', hide (by simp)⟩
            case measure => simp [intOf]; omega
    · have hik' : i = N := by omega
      have hR : Hid (told l = o ++ xo.toList) := hide (by
        rw [unhide hT, hik', List.drop_eq_nil_of_le (by rw [unhide hsl]; omega)]
        cases xo <;> simp [tells, tell, tellG])
      obtain ⟨M, hM, hRI⟩ := unhide hOM
      have hah := hRI.ahead
      have hf := hRI.fits
      have hMl := own_len hM
      have hgM := hide hM
      have hglt : g < wr.heap.size := own_lt hM
      have hwl : w.heap.size ≤ wr.heap.size := (unhide hB).size
      obtain ⟨K, hK⟩ : ∃ K, K = (o ++ xo.toList).length := ⟨_, rfl⟩
      rw [← hK] at hah hf ⊢
      have hKN : K ≤ N := by omega
      have hKN' : (K : Int) ≤ (N : Int) := by omega
      have hah' := hide hah
      have hK' := hide hK
      clear hT hM hRI hOM hah hK
      by_cases hKe : K = N
      · subst hKe
        obtain ⟨w3, hrun, h1, h2⟩ := run_clearR wr 27 0 Try.underlying27 w.heap.size g K K 0 0 M (some ⟨g, 0, none⟩) (unhide hgM) (fun h => by omega) (by omega)
        have hN3 := hide h1
        have hB3 := hide (below_grown (unhide hB) h2 hgw)
        clear h1 h2
        go_wp2
        go_ret
        have e1 : (told l).length = K := by rw [unhide hR, unhide hK']
        have e2 : told l = M.take K := by rw [unhide hR, unhide hah']
        rw [e1, e2]
        exact ⟨g, K, rfl, unhide hN3, unhide hB3⟩
      · have hlt : K < N := by omega
        have hlt' : (K : Int) < (N : Int) := by omega
        obtain ⟨w3, hrun, h1, h2⟩ := run_clearR wr 27 0 Try.underlying27 w.heap.size g N K (N - K) (N - K) M (some ⟨g, K * 3, none⟩) (unhide hgM) (fun h => rfl) (by omega)
        have hN3 := hide h1
        have hB3 := hide (below_grown (unhide hB) h2 hgw)
        clear h1 h2
        go_wp2
        go_ret
        have e1 : (told l).length = K := by rw [unhide hR, unhide hK']
        have e2 : told l = M.take K := by rw [unhide hR, unhide hah']
        rw [e1, e2]
        exact ⟨g, N, rfl, unhide hN3, unhide hB3⟩

end Go.Proofs.Ytfbifffmieimoaa.Rl
