/-
  Contracts of Sync, the model's and the program's: each gives the best lag; nothing is written.
-/
import Derived.Test.YtbmhllphpphmeaaSyP
import Derived.Outline
namespace Go.Proofs.Ytbmhllphpphmeaa
open Go.RowKit
set_option linter.unusedVariables false
set_option linter.unusedSimpArgs false

set_option maxHeartbeats 400000 in
theorem isnan_any (x : Nat) (w : World) : Calls Try.prog 10 #[.float .f64 x] w fun e w' => e = .returned (.bool (FloatKind.f64.format.order x x != some .eq)) ∧ w' = w := by
  go_enter Try.func10, Try.ntmps10
  go_wp2
  go_ret
  exact ⟨rfl, rfl⟩

set_option maxHeartbeats 800000 in
theorem greater_any (x t : Nat) (w : World) : Calls Try.prog 9 #[.float .f64 x, .float .f64 t] w fun e w' => e = .returned (.bool (gr x t)) ∧ w' = w := by
  rcases gr_ways x t with ⟨h1, h2⟩ | ⟨h1, h2, h3, h4⟩ | ⟨h1, h2, h3, h4⟩ | ⟨h1, h2, h3, h4⟩ | ⟨h1, h2, h3, h4⟩
  · rw [h2]
    go_enter Try.func9, Try.ntmps9
    go_wp2
    go_ret
    exact ⟨rfl, rfl⟩
  all_goals
    rw [h4]
    clear h4
    go_enter Try.func9, Try.ntmps9
    go_wp2
    go_ret
    exact ⟨rfl, rfl⟩
theorem greater_yes (x t : Nat) (h : gr x t = true) (w : World) : Calls Try.prog 9 #[.float .f64 x, .float .f64 t] w fun e w' => e = .returned (.bool true) ∧ w' = w := by
  rw [← h]; exact greater_any x t w
theorem greater_no (x t : Nat) (h : gr x t = false) (w : World) : Calls Try.prog 9 #[.float .f64 x, .float .f64 t] w fun e w' => e = .returned (.bool false) ∧ w' = w := by
  rw [← h]; exact greater_any x t w

theorem SyC.take {l m : List Nat} {i : Nat} {b : Int} {t x : Nat} (h : SyC l m i b t) (hx : AgV l m (lagAt i) x) (hg : gr x t = true) : SyC l m (i + 1) (lagAt i) x := ⟨b, t, x, h, hx, .inl ⟨hg, rfl, rfl⟩⟩
theorem SyC.leave {l m : List Nat} {i : Nat} {b : Int} {t x : Nat} (h : SyC l m i b t) (hx : AgV l m (lagAt i) x) (hg : gr x t = false) : SyC l m (i + 1) b t := ⟨b, t, x, h, hx, .inr ⟨hg, rfl, rfl⟩⟩

theorem carryF {W w : World} {a : Option Addr} {l : List Nat} (h : Fls false 0 W.heap.size W a l) (hb : Below W.heap.size W w) : Fls false 0 w.heap.size w a l := (h.below hb (Nat.le_refl _)).mono (Nat.le_refl _) hb.size

end Go.Proofs.Ytbmhllphpphmeaa
