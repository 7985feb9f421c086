/-
  Contracts of what is a graph, to the model and to the program; nothing that was there is written.
-/
import Derived.Test.YtfblnnnnkjphjaaNdS
import Derived.Test.YtfblnnnnkjphjaaCopyL
namespace Go.Proofs.Ytfblnnnnkjphjaa
open Go.RowKit
set_option linter.unusedVariables false
set_option linter.unusedSimpArgs false

theorem kls_at {w wr : World} {a : Option Addr} {l : List Kl} {k : Nat} (h : Kls w a l) (hw : Below w.heap.size w wr) (hk : k < l.length) : ∃ b o x y z u, a = some ⟨b, o, none⟩ ∧ l[k]? = some (x, y, z, u) ∧ b < w.heap.size ∧ wr.cell? ⟨b, o + k * 4, none⟩ = some (.int .i64 x) ∧ wr.cell? ⟨b, o + k * 4 + 1, none⟩ = some (.int .i64 y) ∧ wr.cell? ⟨b, o + k * 4 + 2, none⟩ = some (.int .i64 z) ∧ wr.cell? ⟨b, o + k * 4 + 3, none⟩ = some (.float .f64 u) := by
  obtain ⟨c, hc⟩ : ∃ c, l[k]? = some c := ⟨l[k], List.getElem?_eq_getElem hk⟩
  obtain ⟨b, o, e, h1, c0, c1, c2, c3⟩ := h k c hc
  have C := fun o => (bcell hw).1 b o h1
  obtain ⟨x, y, z, u⟩ := c
  exact ⟨b, o, x, y, z, u, e, hc, h1, (C _).trans c0, (C _).trans c1, (C _).trans c2, (C _).trans c3⟩

set_option maxHeartbeats 1600000 in
theorem sgr_any (a : Option Addr) (cap : Nat) (l : List Kl) (v : Bool) (w : World) (hl : l.length ≤ maxLen) (hk : Kls w a l) (hbd : BdN l) (hv : v = true ↔ GrOk l) :
    Calls Try.prog 7 #[.slice a l.length cap] w fun e w' => e = .returned (.bool v) ∧ Below w.heap.size w w' := by
  have hk' := hide hk
  have hv' := hide hv
  have hbd' := hide hbd
  clear hk hv hbd
  unfold maxLen at hl
  have no : (¬ GrOk l) → v = false := fun h => by cases v with | false => rfl | true => exact absurd ((unhide hv').1 rfl) h
  by_cases h1 : l.length < 1
  · have hz := hide (no (fun h => by have := h.1; omega))
    have t1 : decide ((l.length : Int) < 1) = true := by simp; omega
    clear no
    go_enter Try.func7, Try.ntmps7
    go_wp2
    go_ret
    exact ⟨ret_bool (unhide hz).symm, Below.refl _ _⟩
  have t1 : decide ((l.length : Int) < 1) = false := by simp; omega
  by_cases h2 : 40 < l.length
  · have hz := hide (no (fun h => by have := h.2.1; omega))
    have t2 : decide ((40 : Int) < l.length) = true := by simp; omega
    clear no
    go_enter Try.func7, Try.ntmps7
    go_wp2
    go_ret
    exact ⟨ret_bool (unhide hz).symm, Below.refl _ _⟩
  have t2 : decide ((40 : Int) < l.length) = false := by simp; omega
  have hyes : Hid (NsOk l → v = true) := hide (fun h => (unhide hv').2 ⟨by omega, by omega, h⟩)
  have hnop : Hid (∀ (j : Nat) (c : Kl), l[j]? = some c → ¬ NodeOk c.1 c.2.1 c.2.2.1 c.2.2.2 j → v = false) := hide (fun j c hj hc => no (fun h => hc (h.2.2 j c hj)))
  clear no
  go_enter Try.func7, Try.ntmps7
  go_wp2
  go_loopw [3] (fun t wr => ∃ k : Nat, k ≤ l.length ∧ t = .int .i64 k ∧ Hid (NsPre l k) ∧ Hid (Below w.heap.size w wr)) (fun t _ => l.length - (intOf t).toNat)
  case atStart => exact ⟨0, by omega, rfl, hide (NsPre.zero l), hide (Below.refl _ _)⟩
  case round =>
    obtain ⟨k, hk, rfl, hA, hw⟩ := hrel
    by_cases hlt : k < l.length
    · obtain ⟨b, o, x, y, z, u, rfl, hx, hbl, c0, c1, c2, c3⟩ := kls_at (unhide hk') (unhide hw) hlt
      have hx' := hide hx
      have hu := hide (unhide hbd' _ _ hx)
      clear hx hbl
      by_cases f0 : NodeOk x y z u k
      · have hS := hide (decide_eq_true f0)
        have hnew := hide ((unhide hA).step (unhide hx') f0)
        clear f0 hA
        go_wp2_with fail
        refine (snode_any x y z u k true _ (unhide hu) (unhide hS)).mono ?_
        rintro e w1 ⟨rfl, hb⟩
        have hw1 := hide (laterB (unhide hw) hb)
        clear hb hw
        go_wp2
        go_roundw
        case rel => exact ⟨k + 1, by omega, by go_num, hnew, hw1⟩
        case measure => simp [intOf]; omega
      · have hS := hide (decide_eq_false f0)
        have hz := hide (unhide hnop _ _ (unhide hx') f0)
        clear f0 hA
        go_wp2_with fail
        refine (snode_any x y z u k false _ (unhide hu) (unhide hS)).mono ?_
        rintro e w1 ⟨rfl, hb⟩
        have hw1 := hide (laterB (unhide hw) hb)
        clear hb hw
        go_wp2
        go_ret
        exact ⟨ret_bool (unhide hz).symm, unhide hw1⟩
    · have hke : k = l.length := by omega
      have hz := hide (unhide hyes (NsPre.all (by have := unhide hA; rw [hke] at this; exact this)))
      clear hA
      go_wp2
      go_ret
      exact ⟨ret_bool (unhide hz).symm, unhide hw⟩

set_option maxHeartbeats 1600000 in
theorem igr_any (a : Option Addr) (cap : Nat) (l : List Kl) (v : Bool) (w : World) (hl : l.length ≤ maxLen) (hk : Kls w a l) (hbd : BdN l) (hv : v = true ↔ GrOk l) :
    Calls Try.prog 9 #[.slice a l.length cap] w fun e w' => e = .returned (.bool v) ∧ Below w.heap.size w w' := by
  have hk' := hide hk
  have hv' := hide hv
  have hbd' := hide hbd
  clear hk hv hbd
  unfold maxLen at hl
  have no : (¬ GrOk l) → v = false := fun h => by cases v with | false => rfl | true => exact absurd ((unhide hv').1 rfl) h
  by_cases h1 : l.length < 1
  · have hz := hide (no (fun h => by have := h.1; omega))
    have t1 : decide ((l.length : Int) < 1) = true := by simp; omega
    clear no
    go_enter Try.func9, Try.ntmps9
    go_wp2
    go_ret
    exact ⟨ret_bool (unhide hz).symm, Below.refl _ _⟩
  have t1 : decide ((l.length : Int) < 1) = false := by simp; omega
  by_cases h2 : 40 < l.length
  · have hz := hide (no (fun h => by have := h.2.1; omega))
    have t2 : decide ((40 : Int) < l.length) = true := by simp; omega
    clear no
    go_enter Try.func9, Try.ntmps9
    go_wp2
    go_ret
    exact ⟨ret_bool (unhide hz).symm, Below.refl _ _⟩
  have t2 : decide ((40 : Int) < l.length) = false := by simp; omega
  have hyes : Hid (NsOk l → v = true) := hide (fun h => (unhide hv').2 ⟨by omega, by omega, h⟩)
  have hnop : Hid (∀ (j : Nat) (c : Kl), l[j]? = some c → ¬ NodeOk c.1 c.2.1 c.2.2.1 c.2.2.2 j → v = false) := hide (fun j c hj hc => no (fun h => hc (h.2.2 j c hj)))
  clear no
  go_enter Try.func9, Try.ntmps9
  go_wp2
  go_loopw [15] (fun t wr => ∃ k : Nat, k ≤ l.length ∧ t = .int .i64 k ∧ Hid (NsPre l k) ∧ Hid (Below w.heap.size w wr)) (fun t _ => l.length - (intOf t).toNat)
  case atStart => exact ⟨0, by omega, rfl, hide (NsPre.zero l), hide (Below.refl _ _)⟩
  case round =>
    obtain ⟨k, hk, rfl, hA, hw⟩ := hrel
    by_cases hlt : k < l.length
    · obtain ⟨b, o, x, y, z, u, rfl, hx, hbl, c0, c1, c2, c3⟩ := kls_at (unhide hk') (unhide hw) hlt
      have hx' := hide hx
      have hu := hide (unhide hbd' _ _ hx)
      clear hx hbl
      by_cases f0 : NodeOk x y z u k
      · have hS := hide (decide_eq_true f0)
        have hnew := hide ((unhide hA).step (unhide hx') f0)
        clear f0 hA
        go_wp2_with fail
        refine (inode_any x y z u k true _ (unhide hu) (unhide hS)).mono ?_
        rintro e w1 ⟨rfl, hb⟩
        have hw1 := hide (laterB ((unhide hw).alloc (unhide hw).size _) hb)
        clear hb hw
        go_wp2
        go_roundw
        case rel => exact ⟨k + 1, by omega, by go_num, hnew, hw1⟩
        case measure => simp [intOf]; omega
      · have hS := hide (decide_eq_false f0)
        have hz := hide (unhide hnop _ _ (unhide hx') f0)
        clear f0 hA
        go_wp2_with fail
        refine (inode_any x y z u k false _ (unhide hu) (unhide hS)).mono ?_
        rintro e w1 ⟨rfl, hb⟩
        have hw1 := hide (laterB ((unhide hw).alloc (unhide hw).size _) hb)
        clear hb hw
        go_wp2
        go_ret
        exact ⟨ret_bool (unhide hz).symm, unhide hw1⟩
    · have hke : k = l.length := by omega
      have hz := hide (unhide hyes (NsPre.all (by have := unhide hA; rw [hke] at this; exact this)))
      clear hA
      go_wp2
      go_ret
      exact ⟨ret_bool (unhide hz).symm, unhide hw⟩

end Go.Proofs.Ytfblnnnnkjphjaa
