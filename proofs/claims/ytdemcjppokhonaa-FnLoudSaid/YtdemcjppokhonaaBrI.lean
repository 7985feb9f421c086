/-
  The scripts of a sender and of goroutine 0 that receives. It names no program; no conditions.
-/
import Derived.Test.YtdemcjppokhonaaBrH
set_option linter.unusedVariables false
set_option linter.unusedSimpArgs false
namespace Go.Proofs.Ytdemcjppokhonaa
open Go Go.Conc
open Go.ConcN (sumTo upd sumTo_upd upd_ne upd_same)

section
variable (P : Program) (c : Nat)
/-- The child: at most n silent steps from S: each the same in every world. -/
def Sil (S : Goroutine → Prop) : Nat → Goroutine → Prop
  | 0, g => S g
  | n + 1, g => S g ∨ (g.status = .running ∧ ∃ g', (∀ w, stepG P false g w = .go g' w #[]) ∧ Sil S n g')
def AtSd (v : Value) (Next : Goroutine → Prop) (g : Goroutine) : Prop :=
  g.status = .running ∧ ∃ g₂ z, (∀ w, stepG P false g w = .comm g₂ #[scase c v z] true .send w #[]) ∧ Next (Go.Conc.served g₂ undef)
def AtCl (g : Goroutine) : Prop :=
  g.status = .running ∧ mayWake P g = true ∧ ∃ g₂ n, (∀ w s r tm, w.heap[c]? = some (.chan 0 #[] false s r tm) → stepG P false g w = .go g₂ (w.shut c s r tm) #[⟨.obj c, false, true⟩, ⟨.obj c, true, true⟩]) ∧ QuitsIn P n g₂
/-- It sends these values, closes, and leaves. -/
def SdQ : List Value → Goroutine → Prop
  | [], g => ∃ n, Sil P (AtCl P c) n g
  | v :: vs, g => ∃ n, Sil P (AtSd P c v (SdQ vs)) n g
def StopS : List Value → Goroutine → Prop
  | [] => AtCl P c
  | v :: vs => AtSd P c v (SdQ P c vs)
theorem sdq_iff (vs : List Value) (g : Goroutine) : SdQ P c vs g ↔ ∃ n, Sil P (StopS P c vs) n g := by cases vs <;> rfl

/-- Goroutine 0's own steps keep the channel's block. -/
def DC (w w' : World) (es : Array Event) : Prop := w'.heap[c]? = w.heap[c]? ∧ ∀ e ∈ es, EvZ e
def StR (z : Value) (Next : Goroutine → World → Prop) (g : Goroutine) (w : World) : Prop :=
  g.status = .running ∧ ∃ es, stepG P true g w = .comm (core g) #[rcase c z] true (.recv true) w es ∧ (∀ e ∈ es, EvZ e) ∧ ∀ w₂, Aside c w w₂ → Next (core g) w₂
/-- What is said of it once it is served. -/
def NextR (z : Value) (Fin : Goroutine → World → Prop) : List Value → Goroutine → World → Prop
  | [], g, w => Fin (Go.Conc.served g (.tuple #[z, .bool false])) w
  | v :: vs, g, w => ∃ n, Goes P true (Aside c) (DC c) (StR P c z (NextR z Fin vs)) n (Go.Conc.served g (.tuple #[v, .bool true])) w
def RcQ (z : Value) (Fin : Goroutine → World → Prop) (vs : List Value) (g : Goroutine) (w : World) : Prop := ∃ n, Goes P true (Aside c) (DC c) (StR P c z (NextR P c z Fin vs)) n g w

/-- Where goroutine 0 stands: on its way, or parked at the receive. -/
def SitR (z : Value) (Fin : Goroutine → World → Prop) (vs : List Value) (ra : Nat) (a : Goroutine) (w : World) : Prop :=
  (∃ n, ra = n + 1 ∧ Goes P true (Aside c) (DC c) (StR P c z (NextR P c z Fin vs)) n a w) ∨
  (ra = 0 ∧ ∃ g, a = parked (core g) #[rcase c z] (.recv true) ∧ ∀ w₂, Aside c w w₂ → StR P c z (NextR P c z Fin vs) (core g) w₂)
/-- Where the child stands. -/
def SitS (vs : List Value) (rb : Nat) (b : Goroutine) : Prop :=
  (∃ n, rb = n + 1 ∧ Sil P (StopS P c vs) n b) ∨
  (rb = 0 ∧ ∃ v vs' g z, vs = v :: vs' ∧ b = parked g #[scase c v z] .send ∧ SdQ P c vs' (Go.Conc.served g undef))
end

variable {P : Program} {c : Nat}
theorem Sil.running {S : Goroutine → Prop} (hS : ∀ g, S g → g.status = .running) : ∀ {n : Nat} {g : Goroutine}, Sil P S n g → g.status = .running
  | 0, _, h => hS _ h
  | _ + 1, _, .inl h => hS _ h
  | _ + 1, _, .inr h => h.1
theorem stopS_running {vs : List Value} {g : Goroutine} (h : StopS P c vs g) : g.status = .running := by
  cases vs <;> exact h.1

/-- Behind the close: beside leavers goroutine 0 comes to its receive, finds the channel closed, and goes on. -/
theorem BTo.closed {z : Value} {Q : Goroutine → World → Prop} : ∀ (n : Nat) (a : Goroutine) (w : World) (cap s r : Nat) (tm : Bool), w.heap[c]? = some (.chan cap #[] true s r tm) →
    Goes P true (Aside c) (DC c) (StR P c z (NextR P c z (BTo P Q) [])) n a w → BToH P (Pend c) Q a w := by
  have stop : ∀ (a : Goroutine) (w : World) (cap s r : Nat) (tm : Bool), w.heap[c]? = some (.chan cap #[] true s r tm) → (∀ w₁, Aside c w w₁ → StR P c z (NextR P c z (BTo P Q) []) a w₁) → BToH P (Pend c) Q a w := by
    intro a w cap s r tm hc h
    refine BTo.recvClosed (z := z) (h w (Aside.refl c w)).1 (fun d => ?_) hc (fun d => ?_)
    · obtain ⟨_, es, hs, he, _⟩ := h (w.at d) (Aside.at c w d)
      exact ⟨es, hs, he⟩
    · obtain ⟨_, es, hs, _, hn⟩ := h (w.at d) (Aside.at c w d)
      exact hn _ (Aside.refl c _)
  intro n
  induction n with
  | zero => exact fun a w cap s r tm hc h => stop a w cap s r tm hc h
  | succ n ih =>
    intro a w cap s r tm hc h
    rcases h with h | ⟨hs, h⟩
    · exact stop a w cap s r tm hc h
    · refine BToH.step (fun _ _ => pend_app) hs fun d => ?_
      obtain ⟨g', w', es, hgo, hd, hg⟩ := goes_elim (h (w.at d) (Aside.at c w d))
      exact ⟨g', w', es, hgo, hd.2, ih g' w' cap s r tm (Eq.trans hd.1 hc) hg⟩
end Go.Proofs.Ytdemcjppokhonaa
