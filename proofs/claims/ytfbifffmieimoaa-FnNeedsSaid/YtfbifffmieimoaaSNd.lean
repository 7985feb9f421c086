/-
  The frames that tracks show, by the model: the function and its contract.
-/
import Derived.Test.YtfbifffmieimoaaINd
import Derived.Test.YtfbifffmieimoaaSMs
namespace Go.Proofs.Ytfbifffmieimoaa.Rl
open Go.RowKit
open Go.Proofs.Ytfbifffmieimoaa
set_option linter.unusedVariables false
set_option linter.unusedSimpArgs false

set_option maxHeartbeats 400000 in
theorem smin_any (x y : Int) (w : World) : Calls Try.prog 37 #[.int .i64 x, .int .i64 y] w fun e w' => e = .returned (.int .i64 (min x y)) ∧ w' = w := by
  by_cases h : x < y
  · go_enter Try.func37, Try.ntmps37
    go_wp2
    go_ret
    exact ⟨ret_int (by omega), rfl⟩
  · have h' : decide (x < y) = false := by simpa using h
    go_enter Try.func37, Try.ntmps37
    go_wp2
    go_ret
    exact ⟨ret_int (by omega), rfl⟩

set_option maxHeartbeats 1600000 in
theorem sneed_not (a : Option Addr) (cap : Nat) (ts : List (List Kl)) (h : Int) (w : World) (hl : ts.length ≤ maxLen) (hn : ¬ NdOk ts h) :
    Calls Try.prog 12 #[.slice a ts.length cap, .int .i64 h] w fun e w' => ∃ g c, e = .returned (.slice (some ⟨g, 0, none⟩) 0 c) ∧ Own w' w.heap.size g 0 c [] ∧ Below w.heap.size w w' := by
  unfold maxLen at hl
  have hO := hide (own_lit0 w (B := w.heap.size) (Nat.le_refl _))
  have hB := hide ((Below.refl w.heap.size w).alloc (Nat.le_refl _) (.cells #[] 34))
  by_cases c1 : (50 : Int) < ts.length
  · have b1 : decide ((50 : Int) < ts.length) = true := by simpa using c1
    clear hn
    go_enter Try.func12, Try.ntmps12
    go_wp2
    go_ret
    exact ⟨_, _, rfl, unhide hO, unhide hB⟩
  · have b1 : decide ((50 : Int) < ts.length) = false := by simpa using c1
    have b2 : (decide (0 ≤ h) && decide (h ≤ 1000)) = false := by
      rw [Bool.eq_false_iff]
      intro x
      simp at x
      exact hn ⟨by omega, x.1, x.2⟩
    have b2' := hide b2
    clear hn b2
    go_enter Try.func12, Try.ntmps12
    go_wp2_with fail
    refine (in_any h 0 1000 false _ (unhide b2')).mono ?_
    rintro e w1 ⟨rfl, hw0⟩
    have hw1 := hw0.symm
    subst hw1
    go_wp2
    go_ret
    exact ⟨_, _, rfl, unhide hO, unhide hB⟩

set_option maxRecDepth 100000 in
set_option maxHeartbeats 6400000 in
theorem sneed_ok (a : Option Addr) (cap : Nat) (ts : List (List Kl)) (h : Int) (w : World) (hn : NdOk ts h) (hk : Tks w a ts) :
    Calls Try.prog 12 #[.slice a ts.length cap, .int .i64 h] w fun e w' => ∃ g c, e = .returned (.slice (some ⟨g, 0, none⟩) (needsOf ts h).length c) ∧ Own w' w.heap.size g (needsOf ts h).length c (needsOf ts h) ∧ Below w.heap.size w w' := by
  obtain ⟨n1, h0, h1⟩ := hn
  have hn' : Hid (NdOk ts h) := hide ⟨n1, h0, h1⟩
  have hk' := hide hk
  clear hk
  have hi0 := hide (own_lit0 w (B := w.heap.size) (Nat.le_refl _))
  have hb0 := hide ((Below.refl w.heap.size w).alloc (Nat.le_refl _) (.cells #[] 34))
  have b1 : decide ((50 : Int) < ts.length) = false := by simp; omega
  go_enter Try.func12, Try.ntmps12
  go_wp2_with fail
  refine (in_any h 0 1000 true _ (by simp; omega)).mono ?_
  rintro e w1 ⟨rfl, hw0⟩
  have hw1 := hw0.symm
  subst hw1
  go_wp2
  go_loopw [5, 6] (fun s t wr => ∃ k g c : Nat, k ≤ ts.length ∧ t = .int .i64 k ∧ s = .slice (some ⟨g, 0, none⟩) (shownOf h (ts.take k)).length c ∧ Hid (Own wr w.heap.size g (shownOf h (ts.take k)).length c (shownOf h (ts.take k))) ∧ Hid (Below w.heap.size w wr) ∧ Hid (∀ t ∈ ts.take k, TOk t)) (fun _ t _ => ts.length - (intOf t).toNat)
  case atStart => exact ⟨0, w.heap.size, 0, by omega, rfl, rfl, hi0, hb0, hide (by simp)⟩
  case round =>
    clear hi0 hb0
    obtain ⟨j, g, cp, hjl, rfl, rfl, hO, hB, hAll⟩ := hrel
    by_cases hlt : j < ts.length
    · obtain ⟨t, hx⟩ : ∃ t, ts[j]? = some t := ⟨ts[j], List.getElem?_eq_getElem hlt⟩
      obtain ⟨b, o, p, c, rfl, hb, hc, hK, hm⟩ := unhide hk' j t hx
      have hc' : wr.cell? ⟨b, o + j, none⟩ = some (.slice p t.length c) := ((bcell (unhide hB)).1 b _ hb).trans hc
      have hKw := hide hK
      have hcw := hide hc
      have hsn := hide (shown_snoc (h := h) hx)
      have hbad := hide (fun ht => needs_bad (h := h) hx ht)
      have hmore := hide (fun ht => tok_more hx (unhide hAll) ht)
      have hsl := shown_len (h := h) (unhide hAll)
      have hsl2 : (ts.take j).length ≤ 50 := by rw [List.length_take]; omega
      have hsl3 : (shownOf h (ts.take j)).length ≤ 15000 := by omega
      have hwl : w.heap.size ≤ wr.heap.size := (unhide hB).size
      clear hx hc hK hsl hsl2
      generalize hL00 : shownOf h (ts.take j) = L0 at *
      clear hL00
      by_cases hT : TOk t
      · have hT' := hide hT
        have hA := hide hT.2.1
        have ht3 := hT.1
        have hTd := hide (show decide (TOk t) = true by simpa using hT)
        clear hT
        go_wp2_with fail
        refine (strack_any p c t true wr hm ((unhide hKw).below (unhide hB)) (unhide hTd)).mono ?_
        rintro e w1 ⟨rfl, k1⟩
        have hO1 := hide (ownsRow_below (unhide hO) k1)
        have hB1 := hide (laterB (unhide hB) k1)
        clear k1 hO hB hwl hc'
        have hin : Hid (L0 = L0 ++ reelsOf h (t.take 0)) := hide (by simp [reelsOf])
        have hfin : Hid (∀ L k, L = L0 ++ reelsOf h (t.take k) → k = t.length → L = shownOf h (ts.take (j + 1))) := hide (fun L k e1 e2 => by rw [e1, e2, List.take_length, unhide hsn])
        go_wp2
        go_loopw [5, 7] (fun s v wr => ∃ (k g c : Nat) (L : List Kl), k ≤ t.length ∧ v = .int .i64 k ∧ s = .slice (some ⟨g, 0, none⟩) L.length c ∧ Hid (Own wr w.heap.size g L.length c L) ∧ Hid (Below w.heap.size w wr) ∧ Hid (L = L0 ++ reelsOf h (t.take k))) (fun _ v _ => t.length - (intOf v).toNat)
        case atStart => exact ⟨0, g, cp, L0, by omega, rfl, rfl, hO1, hB1, hin⟩
        case round =>
          clear hO1 hB1 hin
          obtain ⟨k, g, cp, L, hk, rfl, rfl, hO, hB, hE⟩ := hrel
          have hc' : wr.cell? ⟨b, o + j, none⟩ = some (.slice p t.length c) := ((bcell (unhide hB)).1 b _ hb).trans (unhide hcw)
          have hwl : w.heap.size ≤ wr.heap.size := (unhide hB).size
          have hglt : g < wr.heap.size := own_lt (unhide hO)
          by_cases hlt2 : k < t.length
          · obtain ⟨b2, o2, s, i, n, rfl, hx, c0, c1, c2⟩ := kls_at (unhide hKw) (unhide hB) hlt2
            obtain ⟨q1, q2, q3, q4, q5⟩ := (unhide hA) _ (List.mem_of_getElem? hx)
            simp only [] at q1 q2 q3 q4 q5
            have hsn2 := hide (reels_snoc (h := h) hx)
            have hLb : L.length ≤ 15300 := by
              have h8 := reels_len h (t.take k)
              have h9 := congrArg List.length (unhide hE)
              rw [List.length_append] at h9
              rw [List.length_take] at h8
              omega
            have hXb : Below wr.heap.size wr (wr.alloc (.cells #[.int .i64 s, .int .i64 i, .int .i64 n] 54)) := (Below.refl _ _).alloc (Nat.le_refl _) _
            have hOX := hide (ownsRow_below (unhide hO) hXb)
            have hBX := hide (laterB (unhide hB) hXb)
            have hbx := hide (heap_alloc_new wr (.cells #[.int .i64 s, .int .i64 i, .int .i64 n] 54))
            clear hx hXb hO hB
            by_cases hs : s = 0
            · have hE' : Hid (L = L0 ++ reelsOf h (t.take (k + 1))) := hide (by rw [unhide hsn2, ← List.append_assoc, ← unhide hE]; simp [reelOf, hs])
              have hsd : decide (0 < s) = false := by simp; omega
              have hs' := hide hs
              clear hs hsn2 hE q5
              go_wp2
              go_roundw
              case rel => exact ⟨k + 1, g, cp, L, by omega, by go_num, rfl, hOX, hBX, hE'⟩
              case measure => simp [intOf]; omega
            · have hE' : Hid (L ++ [(s, max 0 (i - h), min 10000000 (i + n + h))] = L0 ++ reelsOf h (t.take (k + 1))) := hide (by
                rw [unhide hsn2, ← List.append_assoc, ← unhide hE]
                have e1 : max (i - h) 0 = max 0 (i - h) := by omega
                have e2 : min (i + n + h) 10000000 = min 10000000 (i + n + h) := by omega
                simp only [reelOf, hs, if_false, e1, e2])
              have hsd : decide (0 < s) = true := by simp; omega
              have hw1 : IntKind.i64.wrap (i - h) = i - h := by rw [IntKind.wrap_i64]; omega
              have hw2 : IntKind.i64.wrap (i + n) = i + n := by rw [IntKind.wrap_i64]; omega
              have hw3 : IntKind.i64.wrap (i + n + h) = i + n + h := by rw [IntKind.wrap_i64]; omega
              have hs' := hide hs
              clear hs hsn2 hE q5
              go_wp2_with fail
              obtain ⟨X, hX0⟩ : ∃ X, X = wr.alloc (.cells #[.int .i64 s, .int .i64 i, .int .i64 n] 54) := ⟨_, rfl⟩
              rw [← hX0] at hOX hBX hbx ⊢
              have hXs : X.heap.size = wr.heap.size + 1 := by rw [hX0]; simp
              have hQg : wr.heap.size ≠ g := by omega
              have hwX : w.heap.size ≤ X.heap.size := by omega
              obtain ⟨d0, d1, d2⟩ := blk3 (unhide hbx)
              have hXs' := hide hXs
              clear hX0 hbx c0 c1 c2 hc' hXs
              obtain ⟨Q, hQ⟩ : ∃ Q, Q = wr.heap.size := ⟨_, rfl⟩
              rw [← hQ] at d0 d1 d2 hQg ⊢
              clear hQ
              refine wp_region_noPanic ?_
              refine wp_region_held_drew (S := fun w' => w'.cell? ⟨Q, 0, none⟩ = some (.int .i64 s) ∧ w'.cell? ⟨Q, 1, none⟩ = some (.int .i64 i) ∧ w'.cell? ⟨Q, 2, none⟩ = some (.int .i64 n)) (by kernel_rfl) ?_ (fun hH0 => ?_)
              · exact ⟨d0, d1, d2⟩
              refine wpAnyH_take (i := 0) (oi := { dst := some 51, op := Go.Op.move (Go.Operand.tmp 5), type := 27, pos := _, after := #[], guard := none }) (v := ?_) rfl (by kernel_rfl) (by kernel_rfl) (by kernel_rfl) (fun _ _ _ h => h) (Or.inl ⟨by rfl, ?_⟩) hH0 ?_
              rotate_left
              · (intro w hSw; (try dsimp only at hSw); go_simp <;> with_reducible rfl)
              (try simp only [Act.put, List.setIfInBounds_toArray, List.set_cons_zero, List.set_cons_succ])
              refine wpAnyH_take (i := 1) (oi := { dst := some 52, op := Go.Op.fieldAddr 54 (Go.Operand.tmp 8) 0, type := 0, pos := _, after := #[], guard := none }) (v := ?_) rfl (by kernel_rfl) (by kernel_rfl) (by kernel_rfl) (fun _ _ _ h => h) (Or.inl ⟨by rfl, ?_⟩) hH0 ?_
              rotate_left
              · (intro w hSw; (try dsimp only at hSw); go_simp <;> with_reducible rfl)
              (try simp only [Act.put, List.setIfInBounds_toArray, List.set_cons_zero, List.set_cons_succ])
              refine wpAnyH_take (i := 2) (oi := { dst := some 53, op := Go.Op.load 2 (Go.Operand.tmp 52), type := 2, pos := _, after := #[{ on := 1, ground := Go.Ground.data }], guard := none }) (v := ?_) rfl (by kernel_rfl) (by kernel_rfl) (by kernel_rfl) (fun _ _ _ h => h) (Or.inl ⟨by rfl, ?_⟩) hH0 ?_
              rotate_left
              · (intro w hSw; (try dsimp only at hSw); go_simp <;> with_reducible rfl)
              (try simp only [Act.put, List.setIfInBounds_toArray, List.set_cons_zero, List.set_cons_succ])
              refine wpAnyH_take (i := 3) (oi := { dst := some 54, op := Go.Op.fieldAddr 54 (Go.Operand.tmp 8) 1, type := 0, pos := _, after := #[], guard := none }) (v := ?_) rfl (by kernel_rfl) (by kernel_rfl) (by kernel_rfl) (fun _ _ _ h => h) (Or.inl ⟨by rfl, ?_⟩) hH0 ?_
              rotate_left
              · (intro w hSw; (try dsimp only at hSw); go_simp <;> with_reducible rfl)
              (try simp only [Act.put, List.setIfInBounds_toArray, List.set_cons_zero, List.set_cons_succ])
              refine wpAnyH_take (i := 4) (oi := { dst := some 55, op := Go.Op.load 2 (Go.Operand.tmp 54), type := 2, pos := _, after := #[{ on := 3, ground := Go.Ground.data }], guard := none }) (v := ?_) rfl (by kernel_rfl) (by kernel_rfl) (by kernel_rfl) (fun _ _ _ h => h) (Or.inl ⟨by rfl, ?_⟩) hH0 ?_
              rotate_left
              · (intro w hSw; (try dsimp only at hSw); go_simp <;> with_reducible rfl)
              (try simp only [Act.put, List.setIfInBounds_toArray, List.set_cons_zero, List.set_cons_succ])
              refine wpAnyH_take (i := 5) (oi := { dst := some 56, op := Go.Op.move (Go.Operand.tmp 1), type := 2, pos := _, after := #[], guard := none }) (v := ?_) rfl (by kernel_rfl) (by kernel_rfl) (by kernel_rfl) (fun _ _ _ h => h) (Or.inl ⟨by rfl, ?_⟩) hH0 ?_
              rotate_left
              · (intro w hSw; (try dsimp only at hSw); go_simp <;> with_reducible rfl)
              (try simp only [Act.put, List.setIfInBounds_toArray, List.set_cons_zero, List.set_cons_succ])
              refine wpAnyH_take (i := 6) (oi := { dst := some 57, op := Go.Op.binOp Go.BinOp.sub 2 (Go.Operand.tmp 55) (Go.Operand.tmp 56) 2, type := 2, pos := _, after := #[{ on := 4, ground := Go.Ground.data }, { on := 5, ground := Go.Ground.data }], guard := none }) (v := ?_) rfl (by kernel_rfl) (by kernel_rfl) (by kernel_rfl) (fun _ _ _ h => h) (Or.inl ⟨by rfl, ?_⟩) hH0 ?_
              rotate_left
              · (intro w hSw; (try dsimp only at hSw); go_simp <;> with_reducible rfl)
              (try simp only [Act.put, List.setIfInBounds_toArray, List.set_cons_zero, List.set_cons_succ])
              refine wpAnyH_take (i := 8) (oi := { dst := some 59, op := Go.Op.fieldAddr 54 (Go.Operand.tmp 8) 1, type := 0, pos := _, after := #[], guard := none }) (v := ?_) rfl (by kernel_rfl) (by kernel_rfl) (by kernel_rfl) (fun _ _ _ h => h) (Or.inl ⟨by rfl, ?_⟩) hH0 ?_
              rotate_left
              · (intro w hSw; (try dsimp only at hSw); go_simp <;> with_reducible rfl)
              (try simp only [Act.put, List.setIfInBounds_toArray, List.set_cons_zero, List.set_cons_succ])
              refine wpAnyH_take (i := 9) (oi := { dst := some 60, op := Go.Op.load 2 (Go.Operand.tmp 59), type := 2, pos := _, after := #[{ on := 8, ground := Go.Ground.data }], guard := none }) (v := ?_) rfl (by kernel_rfl) (by kernel_rfl) (by kernel_rfl) (fun _ _ _ h => h) (Or.inl ⟨by rfl, ?_⟩) hH0 ?_
              rotate_left
              · (intro w hSw; (try dsimp only at hSw); go_simp <;> with_reducible rfl)
              (try simp only [Act.put, List.setIfInBounds_toArray, List.set_cons_zero, List.set_cons_succ])
              refine wpAnyH_take (i := 10) (oi := { dst := some 61, op := Go.Op.fieldAddr 54 (Go.Operand.tmp 8) 2, type := 0, pos := _, after := #[], guard := none }) (v := ?_) rfl (by kernel_rfl) (by kernel_rfl) (by kernel_rfl) (fun _ _ _ h => h) (Or.inl ⟨by rfl, ?_⟩) hH0 ?_
              rotate_left
              · (intro w hSw; (try dsimp only at hSw); go_simp <;> with_reducible rfl)
              (try simp only [Act.put, List.setIfInBounds_toArray, List.set_cons_zero, List.set_cons_succ])
              refine wpAnyH_take (i := 11) (oi := { dst := some 62, op := Go.Op.load 2 (Go.Operand.tmp 61), type := 2, pos := _, after := #[{ on := 10, ground := Go.Ground.data }], guard := none }) (v := ?_) rfl (by kernel_rfl) (by kernel_rfl) (by kernel_rfl) (fun _ _ _ h => h) (Or.inl ⟨by rfl, ?_⟩) hH0 ?_
              rotate_left
              · (intro w hSw; (try dsimp only at hSw); go_simp <;> with_reducible rfl)
              (try simp only [Act.put, List.setIfInBounds_toArray, List.set_cons_zero, List.set_cons_succ])
              refine wpAnyH_take (i := 12) (oi := { dst := some 63, op := Go.Op.binOp Go.BinOp.add 2 (Go.Operand.tmp 60) (Go.Operand.tmp 62) 2, type := 2, pos := _, after := #[{ on := 9, ground := Go.Ground.data }, { on := 11, ground := Go.Ground.data }], guard := none }) (v := ?_) rfl (by kernel_rfl) (by kernel_rfl) (by kernel_rfl) (fun _ _ _ h => h) (Or.inl ⟨by rfl, ?_⟩) hH0 ?_
              rotate_left
              · (intro w hSw; (try dsimp only at hSw); go_simp <;> with_reducible rfl)
              (try simp only [Act.put, List.setIfInBounds_toArray, List.set_cons_zero, List.set_cons_succ])
              refine wpAnyH_take (i := 13) (oi := { dst := some 64, op := Go.Op.move (Go.Operand.tmp 1), type := 2, pos := _, after := #[], guard := none }) (v := ?_) rfl (by kernel_rfl) (by kernel_rfl) (by kernel_rfl) (fun _ _ _ h => h) (Or.inl ⟨by rfl, ?_⟩) hH0 ?_
              rotate_left
              · (intro w hSw; (try dsimp only at hSw); go_simp <;> with_reducible rfl)
              (try simp only [Act.put, List.setIfInBounds_toArray, List.set_cons_zero, List.set_cons_succ])
              refine wpAnyH_take (i := 14) (oi := { dst := some 65, op := Go.Op.binOp Go.BinOp.add 2 (Go.Operand.tmp 63) (Go.Operand.tmp 64) 2, type := 2, pos := _, after := #[{ on := 12, ground := Go.Ground.data }, { on := 13, ground := Go.Ground.data }], guard := none }) (v := ?_) rfl (by kernel_rfl) (by kernel_rfl) (by kernel_rfl) (fun _ _ _ h => h) (Or.inl ⟨by rfl, ?_⟩) hH0 ?_
              rotate_left
              · (intro w hSw; (try dsimp only at hSw); go_simp <;> with_reducible rfl)
              (try simp only [Act.put, List.setIfInBounds_toArray, List.set_cons_zero, List.set_cons_succ])
              refine wpAnyH_ready (rs := [7]) (by kernel_rfl) (by simp) ?_
              refine AllReadyH.cons (o := { dst := some 58, op := Go.Op.call { callee := Go.Callee.value (Go.Operand.func 36), args := #[Go.Operand.const (Go.Value.int Go.IntKind.i64 0), Go.Operand.tmp 57], argTypes := #[2, 2] }, type := 2, pos := _, after := #[{ on := 6, ground := Go.Ground.data }], guard := none }) rfl (fun K hK => ?_) AllReadyH.nil
              go_simp
              refine (smax_any 0 (i - h) _).mono ?_
              rintro e w1 ⟨rfl, rfl⟩
              refine hK.out _ _ ?_ (fun hH1 => ?_)
              · exact hH0
              clear hK K
              (try simp only [Act.put, List.setIfInBounds_toArray, List.set_cons_zero, List.set_cons_succ])
              refine wpAnyH_ready (rs := [15]) (by kernel_rfl) (by simp) ?_
              refine AllReadyH.cons (o := { dst := some 66, op := Go.Op.call { callee := Go.Callee.value (Go.Operand.func 37), args := #[Go.Operand.const (Go.Value.int Go.IntKind.i64 10000000), Go.Operand.tmp 65], argTypes := #[2, 2] }, type := 2, pos := _, after := #[{ on := 14, ground := Go.Ground.data }, { on := 7, ground := Go.Ground.chain }], guard := none }) rfl (fun K hK => ?_) AllReadyH.nil
              go_simp
              refine (smin_any 10000000 (i + n + h) _).mono ?_
              rintro e w1 ⟨rfl, rfl⟩
              refine hK.out _ _ ?_ (fun hH2 => ?_)
              · exact hH1
              clear hK K
              (try simp only [Act.put, List.setIfInBounds_toArray, List.set_cons_zero, List.set_cons_succ])
              refine wpAnyH_take (i := 16) (oi := { dst := some 67, op := Go.Op.build 34 #[(0, Go.Operand.tmp 53), (1, Go.Operand.tmp 58), (2, Go.Operand.tmp 66)], type := 34, pos := _, after := #[{ on := 2, ground := Go.Ground.data }, { on := 7, ground := Go.Ground.data }, { on := 15, ground := Go.Ground.data }], guard := none }) (v := ?_) rfl (by kernel_rfl) (by kernel_rfl) (by kernel_rfl) (fun _ _ _ h => h) (Or.inl ⟨by rfl, ?_⟩) hH2 ?_
              rotate_left
              · (intro w hSw; (try dsimp only at hSw); go_simp <;> with_reducible rfl)
              (try simp only [Act.put, List.setIfInBounds_toArray, List.set_cons_zero, List.set_cons_succ])
              refine wpAnyH_ready (rs := [17]) (by kernel_rfl) (by simp) ?_
              refine AllReadyH.cons (o := { dst := some 68, op := Go.Op.buildSlice 27 1 #[(0, Go.Operand.tmp 67)], type := 27, pos := _, after := #[{ on := 16, ground := Go.Ground.data }], guard := none }) rfl (fun K hK => ?_) AllReadyH.nil
              go_simp
              refine hK.out _ _ ?_ (fun hH3 => ?_)
              · exact ⟨cell_later ((Below.refl _ _).alloc (Nat.le_refl _) _) hH2.1, cell_later ((Below.refl _ _).alloc (Nat.le_refl _) _) hH2.2.1, cell_later ((Below.refl _ _).alloc (Nat.le_refl _) _) hH2.2.2⟩
              clear hK K
              (try simp only [Act.put, List.setIfInBounds_toArray, List.set_cons_zero, List.set_cons_succ])
              refine wpAnyH_ready (rs := [18]) (by kernel_rfl) (by simp) ?_
              refine AllReadyH.cons (o := { dst := some 69, op := Go.Op.call { callee := Go.Callee.builtin Go.Builtin.append, args := #[Go.Operand.tmp 51, Go.Operand.tmp 68], argTypes := #[27, 27] }, type := 27, pos := _, after := #[{ on := 0, ground := Go.Ground.data }, { on := 17, ground := Go.Ground.data }, { on := 15, ground := Go.Ground.chain }], guard := none }) rfl (fun K hK => ?_) AllReadyH.nil
              have hX : Below X.heap.size X (X.drew.alloc (.cells #[.int .i64 s, .int .i64 (max 0 (i - h)), .int .i64 (min 10000000 (i + n + h))] 34)) := ((Below.refl X.heap.size X).drew).alloc (Nat.le_refl _) _
              have hOX2 := hide (ownsRow_below (unhide hOX) hX)
              refine step_kR Try.underlying27 _ rfl _ _ rfl w.heap.size g L.length cp L (s, max 0 (i - h), min 10000000 (i + n + h)) rfl (unhide hOX2) X.heap.size rfl (alloc_newR X _) (by omega) (by show w.heap.size ≤ (X.heap.push _).size; rw [Array.size_push]; omega) ?_
              intro g3 c3 w3 h1' h2' h3'
              have hcg : ∀ b' q' u', b' ≠ g → (X.drew.alloc (.cells #[.int .i64 s, .int .i64 (max 0 (i - h)), .int .i64 (min 10000000 (i + n + h))] 34)).cell? ⟨b', q', none⟩ = some u' → w3.cell? ⟨b', q', none⟩ = some u' := by
                intro b' q' u' hb hu
                exact h2'.cell hu (by intro e; injection e with e; exact hb e)
              refine hK.out _ _ ?_ (fun hH4 => ?_)
              · exact ⟨hcg _ _ _ hQg hH3.1, hcg _ _ _ hQg hH3.2.1, hcg _ _ _ hQg hH3.2.2⟩
              clear hK K
              (try simp only [Act.put, List.setIfInBounds_toArray, List.set_cons_zero, List.set_cons_succ])
              refine wpAnyH_take (i := 19) (oi := { dst := some 5, op := Go.Op.assign (Go.Operand.tmp 69), type := 27, pos := _, after := #[{ on := 18, ground := Go.Ground.data }, { on := 18, ground := Go.Ground.chain }, { on := 0, ground := Go.Ground.phase }, { on := 1, ground := Go.Ground.phase }, { on := 2, ground := Go.Ground.phase }, { on := 3, ground := Go.Ground.phase }, { on := 4, ground := Go.Ground.phase }, { on := 5, ground := Go.Ground.phase }, { on := 6, ground := Go.Ground.phase }, { on := 7, ground := Go.Ground.phase }, { on := 8, ground := Go.Ground.phase }, { on := 9, ground := Go.Ground.phase }, { on := 10, ground := Go.Ground.phase }, { on := 11, ground := Go.Ground.phase }, { on := 12, ground := Go.Ground.phase }, { on := 13, ground := Go.Ground.phase }, { on := 14, ground := Go.Ground.phase }, { on := 15, ground := Go.Ground.phase }, { on := 16, ground := Go.Ground.phase }, { on := 17, ground := Go.Ground.phase }, { on := 18, ground := Go.Ground.phase }], guard := none }) (v := ?_) rfl (by kernel_rfl) (by kernel_rfl) (by kernel_rfl) (fun _ _ _ h => h) (Or.inl ⟨by rfl, ?_⟩) hH4 ?_
              rotate_left
              · (intro w hSw; (try dsimp only at hSw); go_simp <;> with_reducible rfl)
              (try simp only [Act.put, List.setIfInBounds_toArray, List.set_cons_zero, List.set_cons_succ])
              refine wpAnyH_done (by kernel_rfl) ?_ _
              refine NoPanic.normal ?_
              have hB3 := hide (below_grown (laterB (unhide hBX) hX) h2' (own_ge (unhide hOX)))
              have hN : Hid (Own w3 w.heap.size g3 (L ++ [(s, max 0 (i - h), min 10000000 (i + n + h))]).length c3 (L ++ [(s, max 0 (i - h), min 10000000 (i + n + h))])) := hide (by rw [List.length_append]; exact h1')
              have hLL : Hid ((L ++ [(s, max 0 (i - h), min 10000000 (i + n + h))]).length = L.length + 1) := hide (by simp)
              clear hcg h1' h2' h3' hX hOX2 hH0 hH1 hH2 hH3 hH4 hOX hBX d0 d1 d2
              go_wp2
              go_roundw
              case rel => exact ⟨k + 1, g3, c3, L ++ [(s, max 0 (i - h), min 10000000 (i + n + h))], by omega, by go_num, by rw [unhide hLL], hN, hB3, hE'⟩
              case measure => simp [intOf]; omega
          · have hke : k = t.length := by omega
            have hR := hide (unhide hfin L k (unhide hE) hke)
            have hall7 := hide (unhide hmore (unhide hT'))
            have hke' := hide hke
            clear hke hE hfin
            go_wp2
            go_roundw
            case rel => exact ⟨j + 1, g, cp, by omega, by go_num, by rw [← unhide hR], hide (by rw [← unhide hR]; exact unhide hO), hB, hall7⟩
            case measure => simp [intOf]; omega
      · have hR := hide (unhide hbad hT)
        have hTd := hide (show decide (TOk t) = false by simpa using hT)
        clear hT
        go_wp2_with fail
        refine (strack_any p c t false wr hm ((unhide hKw).below (unhide hB)) (unhide hTd)).mono ?_
        rintro e w1 ⟨rfl, k1⟩
        have hB1 := hide (laterB (unhide hB) k1)
        clear k1 hO hB
        have hO2 := hide (own_lit0 w1 (B := w.heap.size) (unhide hB1).size)
        have hB3 := hide ((unhide hB1).alloc (unhide hB1).size (.cells #[] 34))
        go_wp2
        go_ret
        rw [unhide hR]
        exact ⟨_, _, rfl, unhide hO2, unhide hB3⟩
    · have hke : j = ts.length := by omega
      have hAl : Hid (∀ t ∈ ts, TOk t) := hide (by have := unhide hAll; rw [hke, List.take_length] at this; exact this)
      have hR : Hid (needsOf ts h = told (shownOf h (ts.take j))) := hide (by rw [hke, List.take_length]; exact needs_all (unhide hn') (unhide hAl))
      have hsl := shown_len (h := h) (unhide hAll)
      have hsl2 : (ts.take j).length ≤ 50 := by rw [List.length_take]; omega
      have hsl3 : (shownOf h (ts.take j)).length ≤ 15000 := by omega
      have hwl : w.heap.size ≤ wr.heap.size := (unhide hB).size
      have hke' := hide hke
      clear hke hsl hsl2
      generalize shownOf h (ts.take j) = L at *
      go_wp2_with fail
      refine (stell_any (some ⟨g, 0, none⟩) cp L wr (by omega) (kls_own (unhide hO))).mono ?_
      rintro e w1 ⟨g1, c1, rfl, hO1, k1⟩
      have hO1' := hide (own_mono hO1 hwl)
      have hB1 := hide (laterB (unhide hB) k1)
      clear hO1 k1
      go_wp2
      go_ret
      rw [unhide hR]
      exact ⟨g1, c1, rfl, unhide hO1', unhide hB1⟩
theorem sneed_any (a : Option Addr) (cap : Nat) (ts : List (List Kl)) (h : Int) (w : World) (hl : ts.length ≤ maxLen) (hk : Tks w a ts) :
    Calls Try.prog 12 #[.slice a ts.length cap, .int .i64 h] w fun e w' => ∃ g c, e = .returned (.slice (some ⟨g, 0, none⟩) (needsOf ts h).length c) ∧ Own w' w.heap.size g (needsOf ts h).length c (needsOf ts h) ∧ Below w.heap.size w w' := by
  by_cases hn : NdOk ts h
  · exact sneed_ok a cap ts h w hn hk
  · rw [needs_not hn]; exact sneed_not a cap ts h w hl hn

end Go.Proofs.Ytfbifffmieimoaa.Rl
