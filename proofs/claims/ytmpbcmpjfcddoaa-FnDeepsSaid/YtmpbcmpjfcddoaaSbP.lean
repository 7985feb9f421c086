/-
  Contract of the stable sort: sorted parts are merged, parts twice as long each time; all blocks but the list's own stand.
-/
import Derived.Test.YtmpbcmpjfcddoaaSyL
import Derived.Test.YtmpbcmpjfcddoaaSyR
import Derived.Test.YtmpbcmpjfcddoaaSyH
namespace Go.Proofs.Ytmpbcmpjfcddoaa
open Go.RowKit
set_option linter.unusedVariables false
set_option linter.unusedSimpArgs false
namespace D

theorem sym_any (B gg n cap : Nat) (hn : n ≤ 1000) : ∀ (k a m b : Nat) (L : List Kl) (w : World), b - a ≤ k → Own w B gg n cap L → a < m → m < b → b ≤ n → SrtdIn L a m → SrtdIn L m b → Calls Try.prog 54 #[.slice (some ⟨gg, 0, none⟩) n cap, .int .i64 a, .int .i64 m, .int .i64 b, (.func (.func 34) #[] #[])] w fun en w2 => en = .returned (.tuple #[]) ∧ ∃ L2, Dn w B gg n cap L L2 w2 ∧ Out L L2 a b ∧ SrtdIn L2 a b ∧ Sub L L2 a b := by
  intro k
  induction k with
  | zero => intro a m b L w h hO h1 h2; omega
  | succ k ih =>
    intro a m b L w h hO h1 h2 h3 s1 s2
    by_cases e1 : m = a + 1
    · exact sym_left B gg n cap a m b L w hO hn h1 h2 h3 s1 s2 e1
    by_cases e2 : b = m + 1
    · exact sym_right B gg n cap a m b L w hO hn h1 h2 h3 s1 s2 e1 e2
    have IH := fun (a' m' b' : Nat) (L' : List Kl) (w' : World) (hlt : b' - a' < b - a) => ih a' m' b' L' w' (by omega)
    by_cases e3 : (a + b) / 2 < m
    · exact sym_g1 B gg n cap a m b L w hO hn h1 h2 h3 s1 s2 e1 e2 IH _ rfl e3
    · exact sym_g2 B gg n cap a m b L w hO hn h1 h2 h3 s1 s2 e1 e2 IH _ rfl (by omega)

def Pre (L : List Kl) (s q : Nat) : Prop := ∀ p, p < q → SrtdIn L (p * s) (p * s + s)
def Blk (L : List Kl) (s : Nat) : Prop := ∀ p, SrtdIn L (p * s) (p * s + s)
theorem Pre.zero {L : List Kl} {s : Nat} : Pre L s 0 := fun p h => by omega
theorem mul_next {p q s : Nat} (h : p < q) : p * s + s ≤ q * s := by
  have := Nat.mul_le_mul_right s (show p + 1 ≤ q from h)
  rw [Nat.succ_mul] at this
  exact this
theorem Pre.step {L L' : List Kl} {s q a b : Nat} (h : Pre L s q) (ha : a = q * s) (hb : b = a + s) (ho : Out L L' a b) (hs : SrtdIn L' a b) : Pre L' s (q + 1) := by
  intro p hp
  by_cases e : p = q
  · subst e; rw [← ha, ← hb]; exact hs
  · have hlt : p < q := by omega
    exact (h p hlt).out ho (Or.inl (by have := mul_next (s := s) hlt; omega))
theorem Pre.last {L L' : List Kl} {s q a n : Nat} (h : Pre L s q) (ha : a = q * s) (hb : n < a + s) (hl : L'.length = n) (ho : Out L L' a n) (hs : SrtdIn L' a n) : Blk L' s := by
  intro p i j x y h1 h2 h3 hi hj
  have hjn : j < n := by rw [← hl]; exact (List.getElem?_eq_some_iff.mp hj).1
  rcases Nat.lt_trichotomy p q with e | e | e
  · exact (h p e).out ho (Or.inl (by have := mul_next (s := s) e; omega)) i j x y h1 h2 h3 hi hj
  · subst e; exact hs i j x y (by omega) h2 hjn hi hj
  · have := mul_next (s := s) e; omega
def Two (L : List Kl) (s q : Nat) : Prop := Pre L (2 * s) q ∧ ∀ p, 2 * q ≤ p → SrtdIn L (p * s) (p * s + s)
theorem Two.zero {L : List Kl} {s : Nat} (h : Blk L s) : Two L s 0 := ⟨Pre.zero, fun p _ => h p⟩
theorem two_mul_at (q s : Nat) : 2 * q * s = q * (2 * s) := by rw [Nat.mul_comm 2 q, Nat.mul_assoc]
theorem Two.left {L : List Kl} {s q a : Nat} (h : Two L s q) (ha : a = q * (2 * s)) : SrtdIn L a (a + s) := by
  have := h.2 (2 * q) (Nat.le_refl _)
  rw [two_mul_at, ← ha] at this
  exact this
theorem Two.right {L : List Kl} {s q a : Nat} (h : Two L s q) (ha : a = q * (2 * s)) : SrtdIn L (a + s) (a + s + s) := by
  have := h.2 (2 * q + 1) (by omega)
  rw [Nat.succ_mul, two_mul_at, ← ha] at this
  exact this
theorem Two.step {L L' : List Kl} {s q a b : Nat} (h : Two L s q) (ha : a = q * (2 * s)) (hb : b = a + 2 * s) (ho : Out L L' a b) (hs : SrtdIn L' a b) : Two L' s (q + 1) := by
  refine ⟨Pre.step h.1 ha hb ho hs, fun p hp => (h.2 p (by omega)).out ho (Or.inr ?_)⟩
  have h1 := Nat.mul_le_mul_right s hp
  rw [two_mul_at, Nat.succ_mul] at h1
  omega
theorem Two.last {L L' : List Kl} {s q a n : Nat} (h : Two L s q) (ha : a = q * (2 * s)) (hb : n < a + 2 * s) (hl : L'.length = n) (ho : Out L L' a n) (hs : SrtdIn L' a n) : Blk L' (2 * s) := Pre.last h.1 ha hb hl ho hs
theorem Two.over {L : List Kl} {s q a n : Nat} (h : Two L s q) (ha : a = q * (2 * s)) (hb : n < a + 2 * s) (hl : L.length = n) (hm : n ≤ a + s) : Blk L (2 * s) := h.last ha hb hl Out.rfl ((h.left ha).mono (Nat.le_refl _) hm)
theorem Blk.done {L : List Kl} {s n : Nat} (h : Blk L s) (hl : L.length = n) (hs : n ≤ s) : Srtd L := by
  have h0 := h 0
  rw [Nat.zero_mul, Nat.zero_add] at h0
  exact srtd_of_in (h0.mono (Nat.le_refl _) (by omega))

end D
end Go.Proofs.Ytmpbcmpjfcddoaa
