/-
  Contract of what is a picture to the program; nothing that was there is written.
-/
import Derived.Test.YteabmbggljpmoaaMvA
import Derived.Test.YteabmbggljpmoaaMvP
import Derived.Test.YteabmbggljpmoaaCopyL
namespace Go.Proofs.Yteabmbggljpmoaa
open Go.RowKit
set_option linter.unusedVariables false
set_option linter.unusedSimpArgs false

theorem kls_at {w wr : World} {a : Option Addr} {l : List Kl} {k : Nat} (h : Kls w a l) (hw : Below w.heap.size w wr) (hk : k < l.length) : ∃ b o x y z u, a = some ⟨b, o, none⟩ ∧ l[k]? = some (x, y, z, u) ∧ b < w.heap.size ∧ wr.cell? ⟨b, o + k * 4, none⟩ = some (.int .i64 x) ∧ wr.cell? ⟨b, o + k * 4 + 1, none⟩ = some (.int .i64 y) ∧ wr.cell? ⟨b, o + k * 4 + 2, none⟩ = some (.int .i64 z) ∧ wr.cell? ⟨b, o + k * 4 + 3, none⟩ = some (.int .i64 u) := by
  obtain ⟨c, hc⟩ : ∃ c, l[k]? = some c := ⟨l[k], List.getElem?_eq_getElem hk⟩
  obtain ⟨b, o, e, h1, c0, c1, c2, c3⟩ := h k c hc
  have C := fun o => (bcell hw).1 b o h1
  obtain ⟨x, y, z, u⟩ := c
  exact ⟨b, o, x, y, z, u, e, hc, h1, (C _).trans c0, (C _).trans c1, (C _).trans c2, (C _).trans c3⟩
theorem side_dec (x : Int) : decide (SideOk x) = (decide (1 ≤ x) && decide (x ≤ 64)) := by
  rw [Bool.eq_iff_iff, decide_eq_true_iff]; simp [SideOk]
theorem by_dec (x : Int) : decide (ByOk x) = (decide (-10000000 ≤ x) && decide (x ≤ 10000000)) := by
  rw [Bool.eq_iff_iff, decide_eq_true_iff]; simp [ByOk]
set_option maxHeartbeats 1600000 in
theorem ipic_any (W H : Int) (a : Option Addr) (cap : Nat) (l : List Kl) (v : Bool) (w : World) (hl : l.length ≤ maxLen) (hk : Kls w a l) (hv : v = true ↔ PicOk W H l) :
    Calls Try.prog 58 #[.int .i64 W, .int .i64 H, .slice a l.length cap] w fun e w' => e = .returned (.bool v) ∧ Below w.heap.size w w' := by
  have hk' := hide hk
  have hv' := hide hv
  clear hk hv
  unfold maxLen at hl
  have no : (¬ PicOk W H l) → v = false := fun h => by cases v with | false => rfl | true => exact absurd ((unhide hv').1 rfl) h
  have no' := hide no
  clear no
  by_cases hA : SideOk W
  rotate_left
  · have hA' : Hid ((decide (1 ≤ W) && decide (W ≤ 64)) = false) := hide (by rw [← side_dec]; simpa using hA)
    have hz := hide (unhide no' (fun h => hA h.1))
    clear hA
    go_enter Try.func58, Try.ntmps58
    go_wp2_with fail
    refine (side_any W _ _ (unhide hA')).mono ?_
    rintro e w1 ⟨rfl, hw1⟩
    have hw2 := hw1.symm
    subst hw2
    go_wp2
    go_ret
    exact ⟨ret_bool (unhide hz).symm, Below.refl _ _⟩
  have hA' : Hid ((decide (1 ≤ W) && decide (W ≤ 64)) = true) := hide (by rw [← side_dec]; simpa using hA)
  by_cases hB : SideOk H
  rotate_left
  · have hB' : Hid ((decide (1 ≤ H) && decide (H ≤ 64)) = false) := hide (by rw [← side_dec]; simpa using hB)
    have hz := hide (unhide no' (fun h => hB h.2.1))
    clear hA hB
    go_enter Try.func58, Try.ntmps58
    go_wp2_with fail
    refine (side_any W _ _ (unhide hA')).mono ?_
    rintro e w1 ⟨rfl, hw1⟩
    have hw2 := hw1.symm
    subst hw2
    go_wp2_with fail
    refine (side_any H _ _ (unhide hB')).mono ?_
    rintro e w1 ⟨rfl, hw1⟩
    have hw2 := hw1.symm
    subst hw2
    go_wp2
    go_ret
    exact ⟨ret_bool (unhide hz).symm, Below.refl _ _⟩
  have hB' : Hid ((decide (1 ≤ H) && decide (H ≤ 64)) = true) := hide (by rw [← side_dec]; simpa using hB)
  obtain ⟨M, hM⟩ : ∃ M, W * H = M := ⟨_, rfl⟩
  have hMw : IntKind.i64.wrap (W * H) = M := by
    have := mul_nn (u := W) (v := H) (a := 64) (b := 64) ⟨by have := hA.1; omega, hA.2⟩ ⟨by have := hB.1; omega, hB.2⟩
    rw [IntKind.wrap_i64, ← hM]; omega
  by_cases hC : (l.length : Int) = M
  rotate_left
  · have hC' : ((l.length : Int) != M) = true := by simpa using hC
    have hz := hide (unhide no' (fun h => hC (by rw [← hM]; exact h.2.2.1)))
    clear hA hB hM hC
    go_enter Try.func58, Try.ntmps58
    go_wp2_with fail
    refine (side_any W _ _ (unhide hA')).mono ?_
    rintro e w1 ⟨rfl, hw1⟩
    have hw2 := hw1.symm
    subst hw2
    go_wp2_with fail
    refine (side_any H _ _ (unhide hB')).mono ?_
    rintro e w1 ⟨rfl, hw1⟩
    have hw2 := hw1.symm
    subst hw2
    go_wp2
    go_ret
    exact ⟨ret_bool (unhide hz).symm, Below.refl _ _⟩
  have hC' : ((l.length : Int) != M) = false := by simpa using hC
  have hyes : Hid (CsOk l → v = true) := hide (fun h => (unhide hv').2 ⟨hA, hB, by rw [hM]; exact hC, h⟩)
  have hnop : Hid (∀ j c, l[j]? = some c → ¬ Pix c → v = false) := hide (fun j c hj hc => unhide no' (fun h => csno hj hc h.2.2.2))
  clear hA hB hM hC
  go_enter Try.func58, Try.ntmps58
  go_wp2_with fail
  refine (side_any W _ _ (unhide hA')).mono ?_
  rintro e w1 ⟨rfl, hw1⟩
  have hw2 := hw1.symm
  subst hw2
  go_wp2_with fail
  refine (side_any H _ _ (unhide hB')).mono ?_
  rintro e w1 ⟨rfl, hw1⟩
  have hw2 := hw1.symm
  subst hw2
  go_wp2
  go_loopw [27] (fun t wr => ∃ k : Nat, k ≤ l.length ∧ t = .int .i64 k ∧ Hid (CsPre l k) ∧ Hid (Below w.heap.size w wr)) (fun t _ => l.length - (intOf t).toNat)
  case atStart => exact ⟨0, by omega, rfl, hide (CsPre.zero l), hide (Below.refl _ _)⟩
  case round =>
    obtain ⟨k, hk, rfl, hA, hw⟩ := hrel
    by_cases hlt : k < l.length
    · obtain ⟨b, o, x, y, z, u, rfl, hx, hbl, c0, c1, c2, c3⟩ := kls_at (unhide hk') (unhide hw) hlt
      have hx' := hide hx
      clear hx hbl
      by_cases f0 : Pix (x, y, z, u)
      · have hS := hide (decide_eq_true f0)
        have hnew := hide ((unhide hA).step (unhide hx') f0)
        clear f0 hA
        go_wp2_with fail
        refine (elem_any x y z u true _ (unhide hS)).mono ?_
        rintro e w1 ⟨rfl, hb⟩
        have hw1 := hide (laterB ((unhide hw).alloc (unhide hw).size _) hb)
        clear hb hw
        go_wp2
        go_roundw
        case rel => exact ⟨k + 1, by omega, by go_num, hnew, hw1⟩
        case measure => simp [intOf]; omega
      · have hS := hide (decide_eq_false f0)
        have hno := unhide hnop _ _ (unhide hx') f0
        subst hno
        clear f0 hA
        go_wp2_with fail
        refine (elem_any x y z u false _ (unhide hS)).mono ?_
        rintro e w1 ⟨rfl, hb⟩
        have hw1 := hide (laterB ((unhide hw).alloc (unhide hw).size _) hb)
        clear hb hw
        go_wp2
        go_ret
        exact ⟨rfl, unhide hw1⟩
    · have hke : k = l.length := by omega
      have hyes2 : v = true := unhide hyes (CsPre.all (by have := unhide hA; rw [hke] at this; exact this))
      subst hyes2
      clear hA
      go_wp2
      go_ret
      exact ⟨rfl, unhide hw⟩

end Go.Proofs.Yteabmbggljpmoaa
