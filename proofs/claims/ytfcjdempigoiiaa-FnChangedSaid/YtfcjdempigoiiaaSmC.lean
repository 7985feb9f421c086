/-
  Contracts of the law's function that holds two lists of clips against each other, and of the draws of tracks; nothing that was there is written.
-/
import Derived.Test.YtfcjdempigoiiaaDrT
import Derived.Laws.StructEq
namespace Go.Proofs.Ytfcjdempigoiiaa
open Go.RowKit
set_option linter.unusedVariables false
set_option linter.unusedSimpArgs false

set_option maxHeartbeats 400000 in
theorem big_any (a : Option Addr) (len cap : Nat) (v : Bool) (w : World) (hv : decide ((4096 : Int) < len) = v) :
    Calls Try.prog 5 #[.slice a len cap] w fun e w' => e = .returned (.bool v) ∧ w' = w := by
  subst hv
  go_enter Try.func5, Try.ntmps5
  go_wp2
  go_ret
  exact ⟨rfl, rfl⟩

set_option maxHeartbeats 1600000 in
theorem sames_any (a b : Option Addr) (ca cb : Nat) (l : List Kl) (w : World) (hl : l.length ≤ 1048576) (ha : Kls w a l) (hb : Kls w b l) :
    Calls Try.prog 11 #[.slice a l.length ca, .slice b l.length cb] w fun e w' => e = .returned (.bool true) ∧ Below w.heap.size w w' := by
  have ha' := hide ha
  have hb' := hide hb
  clear ha hb
  have hne : ((l.length : Int) != l.length) = false := by simp
  go_enter Try.func11, Try.ntmps11
  go_wp2
  go_loopw [5] (fun t wr => ∃ k : Nat, k ≤ l.length ∧ t = .int .i64 k ∧ Below w.heap.size w wr) (fun t _ => l.length - (intOf t).toNat)
  case atStart => exact ⟨0, by omega, rfl, Below.refl _ _⟩
  case round =>
    obtain ⟨k, hk, rfl, hw⟩ := hrel
    by_cases hlt : k < l.length
    · obtain ⟨x, hx⟩ : ∃ x, l[k]? = some x := ⟨l[k], List.getElem?_eq_getElem hlt⟩
      obtain ⟨b1, o1, rfl, i1, c0, c1, c2⟩ := unhide ha' k x hx
      obtain ⟨b2, o2, rfl, i2, e0, e1, e2⟩ := unhide hb' k x hx
      have C := fun o => (bcell hw).1 b1 o i1
      have E := fun o => (bcell hw).1 b2 o i2
      obtain ⟨x1, x2, x3⟩ := x
      have f0 := (C _).trans c0
      have f1 := (C _).trans c1
      have f2 := (C _).trans c2
      have h0 := (E _).trans e0
      have h1 := (E _).trans e1
      have h2 := (E _).trans e2
      have hw' := hide hw
      clear hx c0 c1 c2 e0 e1 e2 hw C E
      go_wp2_with fail
      go_region
      go_wp2
      go_roundw
      case rel => exact ⟨k + 1, by omega, by go_num, (unhide hw').drew⟩
      case measure => simp [intOf]; omega
    · have hke : k = l.length := by omega
      go_wp2
      go_ret
      exact ⟨rfl, hw⟩

end Go.Proofs.Ytfcjdempigoiiaa
