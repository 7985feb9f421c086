/-
  Plain facts on titles as text: times, a title's lines, all of them. No program is named here; there are no conditions.
-/
import Derived.Test.YtcpllfjhhlbmiaaDoorTxP
import Derived.Test.YtcpllfjhhlbmiaaDoorDec
namespace Go.Proofs.YtcpllfjhhlbmiaaDoor
open Go.RowKit
set_option linter.unusedVariables false
set_option linter.unusedSimpArgs false

/-- a time's text -/
def mt (m : Nat) : List UInt8 := Pl.two (m / 3600000) ++ [58] ++ Pl.two (m / 60000 % 60) ++ [58] ++ Pl.two (m / 1000 % 60) ++ [44] ++ Pl.three (m % 1000)
/-- the milliseconds that are left, the text so far -/
def rm (m : Nat) : Nat → Nat
  | 0 => m
  | 1 => m % 3600000
  | 2 => m % 60000
  | 3 => m % 1000
  | _ => 0
def px (m : Nat) : Nat → List UInt8
  | 0 => []
  | 1 => Pl.two (m / 3600000) ++ [58]
  | 2 => Pl.two (m / 3600000) ++ [58] ++ Pl.two (m % 3600000 / 60000) ++ [58]
  | 3 => Pl.two (m / 3600000) ++ [58] ++ Pl.two (m % 3600000 / 60000) ++ [58] ++ Pl.two (m % 60000 / 1000) ++ [44]
  | _ => mt m
theorem px_end (m : Nat) : px m 3 ++ Pl.three (m % 1000) = mt m := by
  have e1 : m % 3600000 / 60000 = m / 60000 % 60 := by omega
  have e2 : m % 60000 / 1000 = m / 1000 % 60 := by omega
  simp only [px, mt, e1, e2]
theorem mt_len (m : Nat) : (mt m).length = 12 := by simp [mt, Pl.two, Pl.three]
theorem px_len (m k : Nat) : (px m k).length ≤ 12 := by
  match k with
  | 0 => simp [px]
  | 1 => simp [px, Pl.two]
  | 2 => simp [px, Pl.two]
  | 3 => simp [px, Pl.two]
  | k + 4 => simp [px, mt_len]
/-- a title's text, its number ahead -/
def tl (i : Nat) (x : Kl) : List UInt8 := Pl.dec (i + 1) ++ [10] ++ mt x.1.toNat ++ [32, 45, 45, 62, 32] ++ mt x.2.1.toNat ++ [10] ++ x.2.2.data.toList ++ [10, 10]
/-- the text of the first k titles -/
def shw (l : List Kl) : Nat → List UInt8
  | 0 => []
  | k + 1 => shw l k ++ (match l[k]? with | some x => tl k x | none => [])
theorem shw_step {l : List Kl} {k : Nat} {x : Kl} (h : l[k]? = some x) : shw l (k + 1) = shw l k ++ tl k x := by rw [shw, h]
/-- titles as text -/
def showT (l : List Kl) : List UInt8 := if tOk l = true then shw l l.length else []
theorem dec4 {n : Nat} (h : n < 10000) : (Pl.dec n).length ≤ 4 := Pl.dec_length_lt 3 n (by omega)
theorem tl_len {i : Nat} {x : Kl} (hi : i < 9999) (hx : x.2.2.size ≤ 200) : (tl i x).length ≤ 300 := by
  have h1 := dec4 (n := i + 1) (by omega)
  rw [Lib.size_eq] at hx
  simp only [tl, List.length_append, mt_len, List.length_cons, List.length_nil]
  omega
theorem shw_len {l : List Kl} (hx : ∀ x ∈ l, x.2.2.size ≤ 200) : ∀ k, k ≤ 9999 → (shw l k).length ≤ 300 * k := by
  intro k
  induction k with
  | zero => intro _; simp [shw]
  | succ k ih =>
    intro hk
    have h1 := ih (by omega)
    rw [shw, List.length_append]
    cases hh : l[k]? with
    | none => simp; omega
    | some x => have := tl_len (i := k) (x := x) (by omega) (hx x (List.mem_of_getElem? hh)); simp only; omega

end Go.Proofs.YtcpllfjhhlbmiaaDoor
