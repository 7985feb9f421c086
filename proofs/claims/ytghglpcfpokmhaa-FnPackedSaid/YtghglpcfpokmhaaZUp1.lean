/-
  Contracts of the program's PackOk; nothing that was there is written.
  Contracts of the leaves of Update: where a name stands, names compared; nothing that was there is written.
-/
import Derived.Test.YtghglpcfpokmhaaZPk
import Derived.Test.YtghglpcfpokmhaaZLv
namespace Go.Proofs.Ytghglpcfpokmhaa
open Go.RowKit
set_option linter.unusedVariables false
set_option linter.unusedSimpArgs false

set_option maxHeartbeats 1600000 in
theorem ias_any (s : ByteArray) (p q : Int) (w : World) (hs : s.size ≤ maxLen) : Calls Try.prog 25 #[ag3 s p q] w fun e w' => e = .returned (.bool (asOk (s, p, q))) ∧ Below w.heap.size w w' := by
  by_cases hn : nmOk s = false
  · have hA := hide (show asOk (s, p, q) = false by simp only [asOk, hn, Bool.false_and])
    go_enter Try.func25, Try.ntmps25
    go_wp2_with fail
    refine (inm_any s _ hs).mono ?_
    rintro e w1 ⟨rfl, hw0⟩
    have hw1 := hw0.symm
    subst hw1
    rw [hn]
    go_wp2
    go_ret
    exact ⟨ret_bool (unhide hA).symm, (Below.refl _ _).alloc (Nat.le_refl _) _⟩
  have hn : nmOk s = true := by simpa using hn
  by_cases h1 : 0 ≤ p
  rotate_left
  · have g1 : decide (0 ≤ p) = false := by simpa using h1
    have hA := hide (show asOk (s, p, q) = false by simp only [asOk, g1, Bool.false_and, Bool.and_false])
    go_enter Try.func25, Try.ntmps25
    go_wp2_with fail
    refine (inm_any s _ hs).mono ?_
    rintro e w1 ⟨rfl, hw0⟩
    have hw1 := hw0.symm
    subst hw1
    rw [hn]
    go_wp2
    go_ret
    exact ⟨ret_bool (unhide hA).symm, (Below.refl _ _).alloc (Nat.le_refl _) _⟩
  have g1 : decide (0 ≤ p) = true := by simpa using h1
  by_cases h2 : p ≤ 40000
  rotate_left
  · have g2 : decide (p ≤ 40000) = false := by simpa using h2
    have hA := hide (show asOk (s, p, q) = false by simp only [asOk, g2, Bool.false_and, Bool.and_false])
    go_enter Try.func25, Try.ntmps25
    go_wp2_with fail
    refine (inm_any s _ hs).mono ?_
    rintro e w1 ⟨rfl, hw0⟩
    have hw1 := hw0.symm
    subst hw1
    rw [hn]
    go_wp2
    go_ret
    exact ⟨ret_bool (unhide hA).symm, (Below.refl _ _).alloc (Nat.le_refl _) _⟩
  have g2 : decide (p ≤ 40000) = true := by simpa using h2
  by_cases h3 : 0 ≤ q
  rotate_left
  · have g3 : decide (0 ≤ q) = false := by simpa using h3
    have hA := hide (show asOk (s, p, q) = false by simp only [asOk, g3, Bool.false_and, Bool.and_false])
    go_enter Try.func25, Try.ntmps25
    go_wp2_with fail
    refine (inm_any s _ hs).mono ?_
    rintro e w1 ⟨rfl, hw0⟩
    have hw1 := hw0.symm
    subst hw1
    rw [hn]
    go_wp2
    go_ret
    exact ⟨ret_bool (unhide hA).symm, (Below.refl _ _).alloc (Nat.le_refl _) _⟩
  have g3 : decide (0 ≤ q) = true := by simpa using h3
  by_cases h4 : q ≤ 1000000006
  rotate_left
  · have g4 : decide (q ≤ 1000000006) = false := by simpa using h4
    have g5 : decide (q < 1000000007) = false := by simp; omega
    have hA := hide (show asOk (s, p, q) = false by simp only [asOk, g4, Bool.false_and, Bool.and_false])
    clear g4
    go_enter Try.func25, Try.ntmps25
    go_wp2_with fail
    refine (inm_any s _ hs).mono ?_
    rintro e w1 ⟨rfl, hw0⟩
    have hw1 := hw0.symm
    subst hw1
    rw [hn]
    go_wp2
    go_ret
    exact ⟨ret_bool (unhide hA).symm, (Below.refl _ _).alloc (Nat.le_refl _) _⟩
  have g4 : decide (q ≤ 1000000006) = true := by simpa using h4
  have g5 : decide (q < 1000000007) = true := by simp; omega
  have hA := hide (show asOk (s, p, q) = true by simp only [asOk, hn, g1, g2, g3, g4, Bool.and_self])
  clear g4
  go_enter Try.func25, Try.ntmps25
  go_wp2_with fail
  refine (inm_any s _ hs).mono ?_
  rintro e w1 ⟨rfl, hw0⟩
  have hw1 := hw0.symm
  subst hw1
  rw [hn]
  go_wp2
  go_ret
  exact ⟨ret_bool (unhide hA).symm, (Below.refl _ _).alloc (Nat.le_refl _) _⟩

theorem keep4 {w w0 w1 : World} {a1 a2 a3 a4 : Addr} {v1 v2 v3 v4 : Value} (h : w0.cell? a1 = some v1 ∧ w0.cell? a2 = some v2 ∧ w0.cell? a3 = some v3 ∧ w0.cell? a4 = some v4 ∧ Below w.heap.size w w0) (hb : Below w0.heap.size w0 w1) :
    w1.cell? a1 = some v1 ∧ w1.cell? a2 = some v2 ∧ w1.cell? a3 = some v3 ∧ w1.cell? a4 = some v4 ∧ Below w.heap.size w w1 :=
  ⟨cell_later hb h.1, cell_later hb h.2.1, cell_later hb h.2.2.1, cell_later hb h.2.2.2.1, laterB h.2.2.2.2 hb⟩
theorem keep4d {w w0 : World} {a1 a2 a3 a4 : Addr} {v1 v2 v3 v4 : Value} (h : w0.cell? a1 = some v1 ∧ w0.cell? a2 = some v2 ∧ w0.cell? a3 = some v3 ∧ w0.cell? a4 = some v4 ∧ Below w.heap.size w w0) :
    w0.drew.cell? a1 = some v1 ∧ w0.drew.cell? a2 = some v2 ∧ w0.drew.cell? a3 = some v3 ∧ w0.drew.cell? a4 = some v4 ∧ Below w.heap.size w w0.drew := ⟨h.1, h.2.1, h.2.2.1, h.2.2.2.1, h.2.2.2.2.drew⟩
theorem bl_total : ∀ (x y : List UInt8), (Op.bytesLess x y || x == y) = !Op.bytesLess y x
  | [], [] => by simp [Op.bytesLess]
  | [], _ :: _ => by simp [Op.bytesLess]
  | _ :: _, [] => by simp [Op.bytesLess]
  | a :: x, b :: y => by
    have ih := bl_total x y
    rw [Op.bytesLess, Op.bytesLess]
    by_cases h1 : a < b
    · have h2 : ¬ b < a := by rw [UInt8.lt_iff_toNat_lt] at *; omega
      have h3 : (b == a) = false := by simp; intro e; subst e; rw [UInt8.lt_iff_toNat_lt] at h1; omega
      simp [h1, h2, h3]
    · by_cases h2 : b < a
      · have h3 : (a == b) = false := by simp; intro e; subst e; rw [UInt8.lt_iff_toNat_lt] at h2; omega
        have h4 : ¬ a = b := by simpa using h3
        simp [h1, h2, h3, h4]
      · have e : a = b := by
          rw [UInt8.lt_iff_toNat_lt] at h1 h2
          exact UInt8.toNat_inj.1 (by omega)
        subst e
        simp only [h1, decide_false, BEq.rfl, Bool.true_and, Bool.false_or]
        rw [← ih]
        simp
theorem bef_le (s t : ByteArray) : (Op.bytesLess s.toList t.toList || s.toList == t.toList) = !bef t s := bl_total _ _
set_option maxRecDepth 100000 in
set_option maxHeartbeats 3200000 in
theorem ipk_any (a : Option Addr) (cap : Nat) (l : List Kl) (w : World) (hl : l.length ≤ maxLen) (hz : SzOk l) (hk : Kls w a l) :
    Calls Try.prog 9 #[.slice a l.length cap] w fun e w' => e = .returned (.bool (pOk l)) ∧ Below w.heap.size w w' := by
  unfold maxLen at hl
  have hk' := hide hk
  have hz' := hide hz
  clear hk hz
  by_cases h100 : l.length ≤ 100
  rotate_left
  · have g0 : decide ((100 : Int) < l.length) = true := by simp; omega
    rw [pOk_long h100]
    go_enter Try.func9, Try.ntmps9
    go_wp2
    go_ret
    exact ⟨rfl, Below.refl _ _⟩
  have g0 : decide ((100 : Int) < l.length) = false := by simp; omega
  go_enter Try.func9, Try.ntmps9
  go_wp2
  go_loopw [10] (fun t wr => ∃ k : Nat, k ≤ l.length ∧ t = .int .i64 k ∧ Hid (∀ j, j < k → itOk l j = true) ∧ Hid (Below w.heap.size w wr)) (fun t _ => l.length - (intOf t).toNat)
  case atStart => exact ⟨0, by omega, rfl, hide (fun j h => by omega), hide (Below.refl _ _)⟩
  case round =>
    obtain ⟨k, hk1, rfl, hpre, hB⟩ := hrel
    by_cases hlt : k < l.length
    · have g1 : decide ((k : Int) < l.length) = true := by simp; omega
      obtain ⟨x, hx⟩ : ∃ x, l[k]? = some x := ⟨l[k], List.getElem?_eq_getElem hlt⟩
      have hxs := unhide hz' x (List.mem_of_getElem? hx)
      obtain ⟨b, o, rfl, i1, c0, c1, c2⟩ := unhide hk' k x hx
      obtain ⟨s, p, q⟩ := x
      simp only at c0 c1 c2 hxs
      have C := fun o => (bcell (unhide hB)).1 b o i1
      rw [← C] at c0 c1 c2
      have hxx := hide hx
      have hC := hide C
      have hbi : b < wr.heap.size := Nat.lt_of_lt_of_le i1 (unhide hB).size
      have hB1 := hide ((unhide hB).alloc (unhide hB).size (.cells #[.string s, .int .i64 p, .int .i64 q] 38))
      have hcon := hide (fun w => ias_any s p q w hxs)
      clear hx C
      obtain ⟨va, has⟩ : ∃ v, asOk (s, p, q) = v := ⟨_, rfl⟩
      rw [has] at hcon
      have hnext := hide (show itOk l k = true → ∀ j, j < k + 1 → itOk l j = true from fun h j hj => by
        rcases Nat.lt_or_ge j k with h1 | h1
        · exact unhide hpre j h1
        · have : j = k := by omega
          subst this; exact h)
      have has' := hide has
      clear has
      cases va with
      | false =>
        have hit := hide (show itOk l k = false by
          by_cases h0 : k = 0
          · subst h0; rw [it_zero (unhide hxx), unhide has']
          · obtain ⟨y, hy⟩ : ∃ y, l[k - 1]? = some y := ⟨l[k - 1], List.getElem?_eq_getElem (by omega)⟩
            rw [it_succ (unhide hxx) (by omega) hy, unhide has']; rfl)
        have hall := hide (And.intro (@cel3 wr (.string s) (.int .i64 p) (.int .i64 q) 38).1 (And.intro (@cel3 wr (.string s) (.int .i64 p) (.int .i64 q) 38).2.1 (And.intro (@cel3 wr (.string s) (.int .i64 p) (.int .i64 q) 38).2.2 (And.intro (@cel3 wr (.string s) (.int .i64 p) (.int .i64 q) 38).1 (unhide hB1)))))
        clear has' hnext hpre hB1
        go_wp2_with fail
        refine wp_region_noPanic ?_
        refine wp_region_held_drew (S := (fun w' => w'.cell? ⟨wr.heap.size, 0, none⟩ = some (.string s) ∧ w'.cell? ⟨wr.heap.size, 1, none⟩ = some (.int .i64 p) ∧ w'.cell? ⟨wr.heap.size, 2, none⟩ = some (.int .i64 q) ∧ w'.cell? ⟨wr.heap.size, 0, none⟩ = some (.string s) ∧ Below w.heap.size w w')) (by kernel_rfl) ?_ (fun hH0 => ?_)
        · exact keep4d (unhide hall)
        refine wpAnyH_take (i := 0) (oi := { dst := some 15, op := Go.Op.load 38 (Go.Operand.tmp 4), type := 38, pos := _, after := #[], guard := none }) (v := ?_) rfl (by kernel_rfl) (by kernel_rfl) (by kernel_rfl) (fun _ _ _ h => h) (Or.inl ⟨by rfl, ?_⟩) hH0 ?_
        rotate_left
        · (intro w hSw; (try dsimp only at hSw); go_simp <;> with_reducible rfl)
        (try simp only [Act.put, List.setIfInBounds_toArray, List.set_cons_zero, List.set_cons_succ])
        refine wpAnyH_ready (rs := [1]) (by kernel_rfl) (by simp) ?_
        refine AllReadyH.cons (o := { dst := some 16, op := Go.Op.call { callee := Go.Callee.value (Go.Operand.func 25), args := #[Go.Operand.tmp 15], argTypes := #[38] }, type := 4, pos := _, after := #[{ on := 0, ground := Go.Ground.data }], guard := none }) rfl (fun K hK => ?_) AllReadyH.nil
        go_simp
        go_at_call 25
        refine (unhide hcon _).mono ?_
        rintro e w1 ⟨rfl, hb⟩
        go_wp2_with fail
        refine hK.out _ _ ?_ (fun hH1 => ?_)
        · exact keep4 hH0 hb
        clear hK K
        (try simp only [Act.put, List.setIfInBounds_toArray, List.set_cons_zero, List.set_cons_succ])
        refine wpAnyH_take (i := 2) (oi := { dst := some 17, op := Go.Op.unOp Go.UnOp.not 4 (Go.Operand.tmp 16), type := 4, pos := _, after := #[{ on := 1, ground := Go.Ground.data }], guard := none }) (v := ?_) rfl (by kernel_rfl) (by kernel_rfl) (by kernel_rfl) (fun _ _ _ h => h) (Or.inl ⟨by rfl, ?_⟩) hH1 ?_
        rotate_left
        · (intro w hSw; (try dsimp only at hSw); go_simp <;> with_reducible rfl)
        (try simp only [Act.put, List.setIfInBounds_toArray, List.set_cons_zero, List.set_cons_succ])
        refine wpAnyH_take (i := 3) (oi := { dst := some 18, op := Go.Op.move (Go.Operand.tmp 17), type := 4, pos := _, after := #[{ on := 2, ground := Go.Ground.data }, { on := 1, ground := Go.Ground.chain }], guard := none }) (v := ?_) rfl (by kernel_rfl) (by kernel_rfl) (by kernel_rfl) (fun _ _ _ h => h) (Or.inl ⟨by rfl, ?_⟩) hH1 ?_
        rotate_left
        · (intro w hSw; (try dsimp only at hSw); go_simp <;> with_reducible rfl)
        (try simp only [Act.put, List.setIfInBounds_toArray, List.set_cons_zero, List.set_cons_succ])
        refine wpAnyH_take (i := 4) (oi := { dst := some 19, op := Go.Op.move (Go.Operand.tmp 3), type := 3, pos := _, after := #[{ on := 3, ground := Go.Ground.guard }], guard := some (3, false) }) (v := undef) rfl (by kernel_rfl) (by kernel_rfl) (by kernel_rfl) (fun _ _ _ h => h) (Or.inr ⟨by rfl, rfl⟩) hH1 ?_
        (try simp only [Act.put, List.setIfInBounds_toArray, List.set_cons_zero, List.set_cons_succ])
        refine wpAnyH_take (i := 5) (oi := { dst := some 20, op := Go.Op.binOp Go.BinOp.gtr 3 (Go.Operand.tmp 19) (Go.Operand.const (Go.Value.int Go.IntKind.i64 0)) 3, type := 4, pos := _, after := #[{ on := 4, ground := Go.Ground.data }, { on := 3, ground := Go.Ground.guard }], guard := some (3, false) }) (v := undef) rfl (by kernel_rfl) (by kernel_rfl) (by kernel_rfl) (fun _ _ _ h => h) (Or.inr ⟨by rfl, rfl⟩) hH1 ?_
        (try simp only [Act.put, List.setIfInBounds_toArray, List.set_cons_zero, List.set_cons_succ])
        refine wpAnyH_take (i := 6) (oi := { dst := some 21, op := Go.Op.move (Go.Operand.tmp 20), type := 4, pos := _, after := #[{ on := 5, ground := Go.Ground.data }, { on := 3, ground := Go.Ground.chain }, { on := 3, ground := Go.Ground.guard }], guard := some (3, false) }) (v := undef) rfl (by kernel_rfl) (by kernel_rfl) (by kernel_rfl) (fun _ _ _ h => h) (Or.inr ⟨by rfl, rfl⟩) hH1 ?_
        (try simp only [Act.put, List.setIfInBounds_toArray, List.set_cons_zero, List.set_cons_succ])
        refine wpAnyH_take (i := 7) (oi := { dst := some 22, op := Go.Op.fieldAddr 38 (Go.Operand.tmp 4) 0, type := 0, pos := _, after := #[{ on := 6, ground := Go.Ground.guard }], guard := some (6, true) }) (v := undef) rfl (by kernel_rfl) (by kernel_rfl) (by kernel_rfl) (fun _ _ _ h => h) (Or.inr ⟨by rfl, rfl⟩) hH1 ?_
        (try simp only [Act.put, List.setIfInBounds_toArray, List.set_cons_zero, List.set_cons_succ])
        refine wpAnyH_take (i := 8) (oi := { dst := some 23, op := Go.Op.load 9 (Go.Operand.tmp 22), type := 9, pos := _, after := #[{ on := 7, ground := Go.Ground.data }, { on := 6, ground := Go.Ground.guard }], guard := some (6, true) }) (v := undef) rfl (by kernel_rfl) (by kernel_rfl) (by kernel_rfl) (fun _ _ _ h => h) (Or.inr ⟨by rfl, rfl⟩) hH1 ?_
        (try simp only [Act.put, List.setIfInBounds_toArray, List.set_cons_zero, List.set_cons_succ])
        refine wpAnyH_take (i := 9) (oi := { dst := some 24, op := Go.Op.move (Go.Operand.tmp 0), type := 28, pos := _, after := #[{ on := 6, ground := Go.Ground.guard }], guard := some (6, true) }) (v := undef) rfl (by kernel_rfl) (by kernel_rfl) (by kernel_rfl) (fun _ _ _ h => h) (Or.inr ⟨by rfl, rfl⟩) hH1 ?_
        (try simp only [Act.put, List.setIfInBounds_toArray, List.set_cons_zero, List.set_cons_succ])
        refine wpAnyH_take (i := 10) (oi := { dst := some 25, op := Go.Op.move (Go.Operand.tmp 3), type := 3, pos := _, after := #[{ on := 6, ground := Go.Ground.guard }], guard := some (6, true) }) (v := undef) rfl (by kernel_rfl) (by kernel_rfl) (by kernel_rfl) (fun _ _ _ h => h) (Or.inr ⟨by rfl, rfl⟩) hH1 ?_
        (try simp only [Act.put, List.setIfInBounds_toArray, List.set_cons_zero, List.set_cons_succ])
        refine wpAnyH_take (i := 11) (oi := { dst := some 26, op := Go.Op.binOp Go.BinOp.sub 3 (Go.Operand.tmp 25) (Go.Operand.const (Go.Value.int Go.IntKind.i64 1)) 3, type := 3, pos := _, after := #[{ on := 10, ground := Go.Ground.data }, { on := 6, ground := Go.Ground.guard }], guard := some (6, true) }) (v := undef) rfl (by kernel_rfl) (by kernel_rfl) (by kernel_rfl) (fun _ _ _ h => h) (Or.inr ⟨by rfl, rfl⟩) hH1 ?_
        (try simp only [Act.put, List.setIfInBounds_toArray, List.set_cons_zero, List.set_cons_succ])
        refine wpAnyH_take (i := 12) (oi := { dst := some 27, op := Go.Op.indexAddr 28 (Go.Operand.tmp 24) (Go.Operand.tmp 26), type := 0, pos := _, after := #[{ on := 9, ground := Go.Ground.data }, { on := 11, ground := Go.Ground.data }, { on := 6, ground := Go.Ground.guard }], guard := some (6, true) }) (v := undef) rfl (by kernel_rfl) (by kernel_rfl) (by kernel_rfl) (fun _ _ _ h => h) (Or.inr ⟨by rfl, rfl⟩) hH1 ?_
        (try simp only [Act.put, List.setIfInBounds_toArray, List.set_cons_zero, List.set_cons_succ])
        refine wpAnyH_take (i := 13) (oi := { dst := some 28, op := Go.Op.fieldAddr 38 (Go.Operand.tmp 27) 0, type := 0, pos := _, after := #[{ on := 12, ground := Go.Ground.data }, { on := 6, ground := Go.Ground.guard }], guard := some (6, true) }) (v := undef) rfl (by kernel_rfl) (by kernel_rfl) (by kernel_rfl) (fun _ _ _ h => h) (Or.inr ⟨by rfl, rfl⟩) hH1 ?_
        (try simp only [Act.put, List.setIfInBounds_toArray, List.set_cons_zero, List.set_cons_succ])
        refine wpAnyH_take (i := 14) (oi := { dst := some 29, op := Go.Op.load 9 (Go.Operand.tmp 28), type := 9, pos := _, after := #[{ on := 13, ground := Go.Ground.data }, { on := 6, ground := Go.Ground.guard }], guard := some (6, true) }) (v := undef) rfl (by kernel_rfl) (by kernel_rfl) (by kernel_rfl) (fun _ _ _ h => h) (Or.inr ⟨by rfl, rfl⟩) hH1 ?_
        (try simp only [Act.put, List.setIfInBounds_toArray, List.set_cons_zero, List.set_cons_succ])
        refine wpAnyH_take (i := 15) (oi := { dst := some 30, op := Go.Op.binOp Go.BinOp.leq 9 (Go.Operand.tmp 23) (Go.Operand.tmp 29) 9, type := 4, pos := _, after := #[{ on := 8, ground := Go.Ground.data }, { on := 14, ground := Go.Ground.data }, { on := 6, ground := Go.Ground.guard }], guard := some (6, true) }) (v := undef) rfl (by kernel_rfl) (by kernel_rfl) (by kernel_rfl) (fun _ _ _ h => h) (Or.inr ⟨by rfl, rfl⟩) hH1 ?_
        (try simp only [Act.put, List.setIfInBounds_toArray, List.set_cons_zero, List.set_cons_succ])
        refine wpAnyH_take (i := 16) (oi := { dst := some 31, op := Go.Op.pick (Go.Operand.tmp 21) (Go.Operand.tmp 30) (Go.Operand.const (Go.Value.bool false)), type := 4, pos := _, after := #[{ on := 6, ground := Go.Ground.data }, { on := 15, ground := Go.Ground.data }, { on := 3, ground := Go.Ground.guard }], guard := some (3, false) }) (v := undef) rfl (by kernel_rfl) (by kernel_rfl) (by kernel_rfl) (fun _ _ _ h => h) (Or.inr ⟨by rfl, rfl⟩) hH1 ?_
        (try simp only [Act.put, List.setIfInBounds_toArray, List.set_cons_zero, List.set_cons_succ])
        refine wpAnyH_take (i := 17) (oi := { dst := some 32, op := Go.Op.pick (Go.Operand.tmp 18) (Go.Operand.const (Go.Value.bool true)) (Go.Operand.tmp 31), type := 4, pos := _, after := #[{ on := 3, ground := Go.Ground.data }, { on := 16, ground := Go.Ground.data }], guard := none }) (v := ?_) rfl (by kernel_rfl) (by kernel_rfl) (by kernel_rfl) (fun _ _ _ h => h) (Or.inl ⟨by rfl, ?_⟩) hH1 ?_
        rotate_left
        · (intro w hSw; (try dsimp only at hSw); go_simp <;> with_reducible rfl)
        (try simp only [Act.put, List.setIfInBounds_toArray, List.set_cons_zero, List.set_cons_succ])
        refine wpAnyH_done (by kernel_rfl) ?_ _
        refine NoPanic.normal ?_
        have hB2 := hide hH1.2.2.2.2
        clear hH0 hH1
        go_wp2
        go_ret
        exact ⟨ret_bool (pOk_bad hlt (unhide hit)).symm, unhide hB2⟩
      | true =>
        by_cases h0 : k = 0
        · have hnx := hide (unhide hnext (by subst h0; rw [it_zero (unhide hxx), unhide has']))
          have g2 : decide ((0 : Int) < k) = false := by simp; omega
          have g3 : decide (0 < k) = false := by simp; omega
          have hall := hide (And.intro (@cel3 wr (.string s) (.int .i64 p) (.int .i64 q) 38).1 (And.intro (@cel3 wr (.string s) (.int .i64 p) (.int .i64 q) 38).2.1 (And.intro (@cel3 wr (.string s) (.int .i64 p) (.int .i64 q) 38).2.2 (And.intro (@cel3 wr (.string s) (.int .i64 p) (.int .i64 q) 38).1 (unhide hB1)))))
          clear has' hnext hpre h0 hB1
          go_wp2_with fail
          refine wp_region_noPanic ?_
          refine wp_region_held_drew (S := (fun w' => w'.cell? ⟨wr.heap.size, 0, none⟩ = some (.string s) ∧ w'.cell? ⟨wr.heap.size, 1, none⟩ = some (.int .i64 p) ∧ w'.cell? ⟨wr.heap.size, 2, none⟩ = some (.int .i64 q) ∧ w'.cell? ⟨wr.heap.size, 0, none⟩ = some (.string s) ∧ Below w.heap.size w w')) (by kernel_rfl) ?_ (fun hH0 => ?_)
          · exact keep4d (unhide hall)
          refine wpAnyH_take (i := 0) (oi := { dst := some 15, op := Go.Op.load 38 (Go.Operand.tmp 4), type := 38, pos := _, after := #[], guard := none }) (v := ?_) rfl (by kernel_rfl) (by kernel_rfl) (by kernel_rfl) (fun _ _ _ h => h) (Or.inl ⟨by rfl, ?_⟩) hH0 ?_
          rotate_left
          · (intro w hSw; (try dsimp only at hSw); go_simp <;> with_reducible rfl)
          (try simp only [Act.put, List.setIfInBounds_toArray, List.set_cons_zero, List.set_cons_succ])
          refine wpAnyH_ready (rs := [1]) (by kernel_rfl) (by simp) ?_
          refine AllReadyH.cons (o := { dst := some 16, op := Go.Op.call { callee := Go.Callee.value (Go.Operand.func 25), args := #[Go.Operand.tmp 15], argTypes := #[38] }, type := 4, pos := _, after := #[{ on := 0, ground := Go.Ground.data }], guard := none }) rfl (fun K hK => ?_) AllReadyH.nil
          go_simp
          go_at_call 25
          refine (unhide hcon _).mono ?_
          rintro e w1 ⟨rfl, hb⟩
          go_wp2_with fail
          refine hK.out _ _ ?_ (fun hH1 => ?_)
          · exact keep4 hH0 hb
          clear hK K
          (try simp only [Act.put, List.setIfInBounds_toArray, List.set_cons_zero, List.set_cons_succ])
          refine wpAnyH_take (i := 2) (oi := { dst := some 17, op := Go.Op.unOp Go.UnOp.not 4 (Go.Operand.tmp 16), type := 4, pos := _, after := #[{ on := 1, ground := Go.Ground.data }], guard := none }) (v := ?_) rfl (by kernel_rfl) (by kernel_rfl) (by kernel_rfl) (fun _ _ _ h => h) (Or.inl ⟨by rfl, ?_⟩) hH1 ?_
          rotate_left
          · (intro w hSw; (try dsimp only at hSw); go_simp <;> with_reducible rfl)
          (try simp only [Act.put, List.setIfInBounds_toArray, List.set_cons_zero, List.set_cons_succ])
          refine wpAnyH_take (i := 3) (oi := { dst := some 18, op := Go.Op.move (Go.Operand.tmp 17), type := 4, pos := _, after := #[{ on := 2, ground := Go.Ground.data }, { on := 1, ground := Go.Ground.chain }], guard := none }) (v := ?_) rfl (by kernel_rfl) (by kernel_rfl) (by kernel_rfl) (fun _ _ _ h => h) (Or.inl ⟨by rfl, ?_⟩) hH1 ?_
          rotate_left
          · (intro w hSw; (try dsimp only at hSw); go_simp <;> with_reducible rfl)
          (try simp only [Act.put, List.setIfInBounds_toArray, List.set_cons_zero, List.set_cons_succ])
          refine wpAnyH_take (i := 4) (oi := { dst := some 19, op := Go.Op.move (Go.Operand.tmp 3), type := 3, pos := _, after := #[{ on := 3, ground := Go.Ground.guard }], guard := some (3, false) }) (v := ?_) rfl (by kernel_rfl) (by kernel_rfl) (by kernel_rfl) (fun _ _ _ h => h) (Or.inl ⟨by rfl, ?_⟩) hH1 ?_
          rotate_left
          · (intro w hSw; (try dsimp only at hSw); go_simp <;> with_reducible rfl)
          (try simp only [Act.put, List.setIfInBounds_toArray, List.set_cons_zero, List.set_cons_succ])
          refine wpAnyH_take (i := 5) (oi := { dst := some 20, op := Go.Op.binOp Go.BinOp.gtr 3 (Go.Operand.tmp 19) (Go.Operand.const (Go.Value.int Go.IntKind.i64 0)) 3, type := 4, pos := _, after := #[{ on := 4, ground := Go.Ground.data }, { on := 3, ground := Go.Ground.guard }], guard := some (3, false) }) (v := ?_) rfl (by kernel_rfl) (by kernel_rfl) (by kernel_rfl) (fun _ _ _ h => h) (Or.inl ⟨by rfl, ?_⟩) hH1 ?_
          rotate_left
          · (intro w hSw; (try dsimp only at hSw); go_simp <;> with_reducible rfl)
          (try simp only [Act.put, List.setIfInBounds_toArray, List.set_cons_zero, List.set_cons_succ])
          refine wpAnyH_take (i := 6) (oi := { dst := some 21, op := Go.Op.move (Go.Operand.tmp 20), type := 4, pos := _, after := #[{ on := 5, ground := Go.Ground.data }, { on := 3, ground := Go.Ground.chain }, { on := 3, ground := Go.Ground.guard }], guard := some (3, false) }) (v := ?_) rfl (by kernel_rfl) (by kernel_rfl) (by kernel_rfl) (fun _ _ _ h => h) (Or.inl ⟨by rfl, ?_⟩) hH1 ?_
          rotate_left
          · (intro w hSw; (try dsimp only at hSw); go_simp <;> with_reducible rfl)
          (try simp only [Act.put, List.setIfInBounds_toArray, List.set_cons_zero, List.set_cons_succ])
          refine wpAnyH_take (i := 7) (oi := { dst := some 22, op := Go.Op.fieldAddr 38 (Go.Operand.tmp 4) 0, type := 0, pos := _, after := #[{ on := 6, ground := Go.Ground.guard }], guard := some (6, true) }) (v := undef) rfl (by kernel_rfl) (by kernel_rfl) (by kernel_rfl) (fun _ _ _ h => h) (Or.inr ⟨by rfl, rfl⟩) hH1 ?_
          (try simp only [Act.put, List.setIfInBounds_toArray, List.set_cons_zero, List.set_cons_succ])
          refine wpAnyH_take (i := 8) (oi := { dst := some 23, op := Go.Op.load 9 (Go.Operand.tmp 22), type := 9, pos := _, after := #[{ on := 7, ground := Go.Ground.data }, { on := 6, ground := Go.Ground.guard }], guard := some (6, true) }) (v := undef) rfl (by kernel_rfl) (by kernel_rfl) (by kernel_rfl) (fun _ _ _ h => h) (Or.inr ⟨by rfl, rfl⟩) hH1 ?_
          (try simp only [Act.put, List.setIfInBounds_toArray, List.set_cons_zero, List.set_cons_succ])
          refine wpAnyH_take (i := 9) (oi := { dst := some 24, op := Go.Op.move (Go.Operand.tmp 0), type := 28, pos := _, after := #[{ on := 6, ground := Go.Ground.guard }], guard := some (6, true) }) (v := undef) rfl (by kernel_rfl) (by kernel_rfl) (by kernel_rfl) (fun _ _ _ h => h) (Or.inr ⟨by rfl, rfl⟩) hH1 ?_
          (try simp only [Act.put, List.setIfInBounds_toArray, List.set_cons_zero, List.set_cons_succ])
          refine wpAnyH_take (i := 10) (oi := { dst := some 25, op := Go.Op.move (Go.Operand.tmp 3), type := 3, pos := _, after := #[{ on := 6, ground := Go.Ground.guard }], guard := some (6, true) }) (v := undef) rfl (by kernel_rfl) (by kernel_rfl) (by kernel_rfl) (fun _ _ _ h => h) (Or.inr ⟨by rfl, rfl⟩) hH1 ?_
          (try simp only [Act.put, List.setIfInBounds_toArray, List.set_cons_zero, List.set_cons_succ])
          refine wpAnyH_take (i := 11) (oi := { dst := some 26, op := Go.Op.binOp Go.BinOp.sub 3 (Go.Operand.tmp 25) (Go.Operand.const (Go.Value.int Go.IntKind.i64 1)) 3, type := 3, pos := _, after := #[{ on := 10, ground := Go.Ground.data }, { on := 6, ground := Go.Ground.guard }], guard := some (6, true) }) (v := undef) rfl (by kernel_rfl) (by kernel_rfl) (by kernel_rfl) (fun _ _ _ h => h) (Or.inr ⟨by rfl, rfl⟩) hH1 ?_
          (try simp only [Act.put, List.setIfInBounds_toArray, List.set_cons_zero, List.set_cons_succ])
          refine wpAnyH_take (i := 12) (oi := { dst := some 27, op := Go.Op.indexAddr 28 (Go.Operand.tmp 24) (Go.Operand.tmp 26), type := 0, pos := _, after := #[{ on := 9, ground := Go.Ground.data }, { on := 11, ground := Go.Ground.data }, { on := 6, ground := Go.Ground.guard }], guard := some (6, true) }) (v := undef) rfl (by kernel_rfl) (by kernel_rfl) (by kernel_rfl) (fun _ _ _ h => h) (Or.inr ⟨by rfl, rfl⟩) hH1 ?_
          (try simp only [Act.put, List.setIfInBounds_toArray, List.set_cons_zero, List.set_cons_succ])
          refine wpAnyH_take (i := 13) (oi := { dst := some 28, op := Go.Op.fieldAddr 38 (Go.Operand.tmp 27) 0, type := 0, pos := _, after := #[{ on := 12, ground := Go.Ground.data }, { on := 6, ground := Go.Ground.guard }], guard := some (6, true) }) (v := undef) rfl (by kernel_rfl) (by kernel_rfl) (by kernel_rfl) (fun _ _ _ h => h) (Or.inr ⟨by rfl, rfl⟩) hH1 ?_
          (try simp only [Act.put, List.setIfInBounds_toArray, List.set_cons_zero, List.set_cons_succ])
          refine wpAnyH_take (i := 14) (oi := { dst := some 29, op := Go.Op.load 9 (Go.Operand.tmp 28), type := 9, pos := _, after := #[{ on := 13, ground := Go.Ground.data }, { on := 6, ground := Go.Ground.guard }], guard := some (6, true) }) (v := undef) rfl (by kernel_rfl) (by kernel_rfl) (by kernel_rfl) (fun _ _ _ h => h) (Or.inr ⟨by rfl, rfl⟩) hH1 ?_
          (try simp only [Act.put, List.setIfInBounds_toArray, List.set_cons_zero, List.set_cons_succ])
          refine wpAnyH_take (i := 15) (oi := { dst := some 30, op := Go.Op.binOp Go.BinOp.leq 9 (Go.Operand.tmp 23) (Go.Operand.tmp 29) 9, type := 4, pos := _, after := #[{ on := 8, ground := Go.Ground.data }, { on := 14, ground := Go.Ground.data }, { on := 6, ground := Go.Ground.guard }], guard := some (6, true) }) (v := undef) rfl (by kernel_rfl) (by kernel_rfl) (by kernel_rfl) (fun _ _ _ h => h) (Or.inr ⟨by rfl, rfl⟩) hH1 ?_
          (try simp only [Act.put, List.setIfInBounds_toArray, List.set_cons_zero, List.set_cons_succ])
          refine wpAnyH_take (i := 16) (oi := { dst := some 31, op := Go.Op.pick (Go.Operand.tmp 21) (Go.Operand.tmp 30) (Go.Operand.const (Go.Value.bool false)), type := 4, pos := _, after := #[{ on := 6, ground := Go.Ground.data }, { on := 15, ground := Go.Ground.data }, { on := 3, ground := Go.Ground.guard }], guard := some (3, false) }) (v := ?_) rfl (by kernel_rfl) (by kernel_rfl) (by kernel_rfl) (fun _ _ _ h => h) (Or.inl ⟨by rfl, ?_⟩) hH1 ?_
          rotate_left
          · (intro w hSw; (try dsimp only at hSw); go_simp <;> with_reducible rfl)
          (try simp only [Act.put, List.setIfInBounds_toArray, List.set_cons_zero, List.set_cons_succ])
          refine wpAnyH_take (i := 17) (oi := { dst := some 32, op := Go.Op.pick (Go.Operand.tmp 18) (Go.Operand.const (Go.Value.bool true)) (Go.Operand.tmp 31), type := 4, pos := _, after := #[{ on := 3, ground := Go.Ground.data }, { on := 16, ground := Go.Ground.data }], guard := none }) (v := ?_) rfl (by kernel_rfl) (by kernel_rfl) (by kernel_rfl) (fun _ _ _ h => h) (Or.inl ⟨by rfl, ?_⟩) hH1 ?_
          rotate_left
          · (intro w hSw; (try dsimp only at hSw); go_simp <;> with_reducible rfl)
          (try simp only [Act.put, List.setIfInBounds_toArray, List.set_cons_zero, List.set_cons_succ])
          refine wpAnyH_done (by kernel_rfl) ?_ _
          refine NoPanic.normal ?_
          have hB2 := hide hH1.2.2.2.2
          clear hH0 hH1
          go_wp2
          go_roundw
          case rel => exact ⟨k + 1, by omega, by go_num, hnx, hB2⟩
          case measure => simp [intOf]; omega
        · obtain ⟨y, hy⟩ : ∃ y, l[k - 1]? = some y := ⟨l[k - 1], List.getElem?_eq_getElem (by omega)⟩
          have hys := unhide hz' y (List.mem_of_getElem? hy)
          obtain ⟨b', o', e', j1, d0, d1, d2⟩ := unhide hk' (k - 1) y hy
          injection e' with e'
          injection e' with e1 e2
          subst e1 e2
          have hitv := hide (it_succ (unhide hxx) (by omega) hy)
          obtain ⟨sy, py, qy⟩ := y
          simp only at d0 hys hitv
          rw [← (unhide hC)] at d0
          have g2 : decide ((0 : Int) < k) = true := by simp; omega
          have g3 : decide (0 < k) = true := by simp; omega
          have hkm : IntKind.i64.wrap ((k : Int) - 1) = ((k - 1 : Nat) : Int) := by rw [IntKind.wrap_i64]; omega
          have hki : ((k - 1 : Nat) : Int) < l.length := by omega
          have hk2 : k - 1 < l.length := by omega
          obtain ⟨vb, hb0⟩ : ∃ v, bef sy s = v := ⟨_, rfl⟩
          have hle : (Op.bytesLess s.toList sy.toList || s.toList == sy.toList) = !vb := by rw [← hb0]; exact bef_le s sy
          have hv := hide (show itOk l k = vb by rw [unhide hitv, unhide has', hb0]; rfl)
          clear hitv has' d1 d2 hy hb0
          obtain ⟨M, hM⟩ : ∃ M, k - 1 = M := ⟨_, rfl⟩
          rw [hM] at hkm d0 hk2 hki
          clear hM
          have hM0 : (0 : Int) ≤ M := by omega
          have hall := hide (And.intro (@cel3 wr (.string s) (.int .i64 p) (.int .i64 q) 38).1 (And.intro (@cel3 wr (.string s) (.int .i64 p) (.int .i64 q) 38).2.1 (And.intro (@cel3 wr (.string s) (.int .i64 p) (.int .i64 q) 38).2.2 (And.intro (cell_later ((Below.refl wr.heap.size wr).alloc (Nat.le_refl _) (.cells #[.string s, .int .i64 p, .int .i64 q] 38)) d0) (unhide hB1)))))
          clear hB1
          cases vb with
          | true =>
            have hnx := hide (unhide hnext (unhide hv))
            clear hv hnext hpre h0
            go_wp2_with fail
            go_region_held3 (fun w' => w'.cell? ⟨wr.heap.size, 0, none⟩ = some (.string s) ∧ w'.cell? ⟨wr.heap.size, 1, none⟩ = some (.int .i64 p) ∧ w'.cell? ⟨wr.heap.size, 2, none⟩ = some (.int .i64 q) ∧ w'.cell? ⟨b, o + M * 3, none⟩ = some (.string sy) ∧ Below w.heap.size w w')
              (first | (refine keep4 ?_ hb; assumption) | (exact keep4d (unhide hall)))
              ((go_at_call 25; refine (unhide hcon _).mono ?_; rintro e w1 ⟨rfl, hb⟩))
            rename_i hH
            have hB2 := hide hH.2.2.2.2
            clear hH
            go_wp2
            go_roundw
            case rel => exact ⟨k + 1, by omega, by go_num, hnx, hB2⟩
            case measure => simp [intOf]; omega
          | false =>
            have hit := hide (unhide hv)
            clear hv hnext hpre h0
            go_wp2_with fail
            go_region_held3 (fun w' => w'.cell? ⟨wr.heap.size, 0, none⟩ = some (.string s) ∧ w'.cell? ⟨wr.heap.size, 1, none⟩ = some (.int .i64 p) ∧ w'.cell? ⟨wr.heap.size, 2, none⟩ = some (.int .i64 q) ∧ w'.cell? ⟨b, o + M * 3, none⟩ = some (.string sy) ∧ Below w.heap.size w w')
              (first | (refine keep4 ?_ hb; assumption) | (exact keep4d (unhide hall)))
              ((go_at_call 25; refine (unhide hcon _).mono ?_; rintro e w1 ⟨rfl, hb⟩))
            rename_i hH
            have hB2 := hide hH.2.2.2.2
            clear hH
            go_wp2
            go_ret
            exact ⟨ret_bool (pOk_bad hlt (unhide hit)).symm, unhide hB2⟩
    · have g1 : decide ((k : Int) < l.length) = false := by simp; omega
      have hfin := hide (pOk_good h100 (fun j hj => unhide hpre j (by omega)))
      go_wp2
      go_ret
      exact ⟨ret_bool (unhide hfin).symm, unhide hB⟩

end Go.Proofs.Ytghglpcfpokmhaa

namespace Go.Proofs.Ytghglpcfpokmhaa
open Go.RowKit
set_option linter.unusedVariables false
set_option linter.unusedSimpArgs false

theorem nan_any (a : ByteArray) (w : World) : Calls Try.prog 69 #[.string a] w fun e w' => e = .returned (.bool false) ∧ w' = w := by
  go_enter Try.func69, Try.ntmps69
  go_wp2
  go_ret
  exact ⟨ret_bool (by simp), rfl⟩
set_option maxHeartbeats 800000 in
theorem cmp_any (a b : ByteArray) (w : World) : Calls Try.prog 38 #[.string a, .string b] w fun e w' => e = .returned (.int .i64 (cmpV a b)) ∧ w' = w := by
  obtain ⟨u, hu⟩ : ∃ u, Op.bytesLess a.toList b.toList = u := ⟨_, rfl⟩
  obtain ⟨v, hv⟩ : ∃ v, bef b a = v := ⟨_, rfl⟩
  have hw : (u || a.toList == b.toList) = !v := by rw [← hu, ← hv]; exact bef_le a b
  have hC := hide (show cmpV a b = if u = true then -1 else if v = true then 1 else 0 by unfold cmpV; rw [hv, show bef a b = u from hu])
  clear hv
  cases u with
  | true =>
    go_enter Try.func38, Try.ntmps38
    go_wp2_with fail
    refine (nan_any a _).mono ?_
    rintro e w1 ⟨rfl, rfl⟩
    go_wp2_with fail
    refine (nan_any b _).mono ?_
    rintro e w1 ⟨rfl, rfl⟩
    go_wp2
    go_ret
    exact ⟨ret_int (unhide hC).symm, rfl⟩
  | false =>
    cases v with
    | true =>
      have hw2 : (a.toList == b.toList) = false := by simpa using hw
      clear hw
      go_enter Try.func38, Try.ntmps38
      go_wp2_with fail
      refine (nan_any a _).mono ?_
      rintro e w1 ⟨rfl, rfl⟩
      go_wp2_with fail
      refine (nan_any b _).mono ?_
      rintro e w1 ⟨rfl, rfl⟩
      go_wp2
      go_ret
      exact ⟨ret_int (unhide hC).symm, rfl⟩
    | false =>
      have hw2 : (a.toList == b.toList) = true := by simpa using hw
      clear hw
      go_enter Try.func38, Try.ntmps38
      go_wp2_with fail
      refine (nan_any a _).mono ?_
      rintro e w1 ⟨rfl, rfl⟩
      go_wp2_with fail
      refine (nan_any b _).mono ?_
      rintro e w1 ⟨rfl, rfl⟩
      go_wp2
      go_ret
      exact ⟨ret_int (unhide hC).symm, rfl⟩
set_option maxHeartbeats 800000 in
theorem bnm_any (s s' : ByteArray) (p q p' q' : Int) (w : World) : Calls Try.prog 20 #[ag3 s p q, ag3 s' p' q'] w fun e w' => e = .returned (.int .i64 (cmpV s s')) ∧ Below w.heap.size w w' := by
  go_enter Try.func20, Try.ntmps20
  go_wp2_with fail
  refine (cmp_any s s' _).mono ?_
  rintro e w1 ⟨rfl, hw0⟩
  have hw1 := hw0.symm
  subst hw1
  go_wp2
  go_ret
  exact ⟨rfl, (((Below.refl _ _).alloc (Nat.le_refl _) _).alloc (by simp) _)⟩

end Go.Proofs.Ytghglpcfpokmhaa
