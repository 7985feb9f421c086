/-
  Go's mutex as an abstract automaton, for any number of goroutines: where a goroutine stands in Lock or Unlock, what each step at the shared word and the semaphore may lead to. It names no program; no conditions.
-/
import Derived.Conc.LockTrace
set_option linter.unusedVariables false
set_option linter.unusedSimpArgs false
namespace Go.Proofs.Ytpmmimcafkillaa.Mx
/-- the mutex's word: locked, woken, starving, how many wait -/
structure Mu where
  L : Bool
  K : Bool
  S : Bool
  W : Nat
  deriving DecidableEq
def Mu.free : Mu := ⟨false, false, false, 0⟩
def b2i (b : Bool) : Int := if b = true then 1 else 0
def Mu.val (m : Mu) : Int := b2i m.L + 2 * b2i m.K + 4 * b2i m.S + 8 * (m.W : Int)
theorem Mu.val_inj {a b : Mu} (h : a.val = b.val) : a = b := by
  obtain ⟨l, k, s, w⟩ := a
  obtain ⟨l', k', s', w'⟩ := b
  cases l <;> cases k <;> cases s <;> cases l' <;> cases k' <;> cases s' <;> simp [Mu.val, b2i] at h ⊢ <;> omega
/-- where a goroutine stands: its next step at what is shared -/
inductive Lk where
  | out
  | ld
  | l0
  | r0
  | sq (old : Mu) (aw sv : Bool) (it : Nat)
  | c1 (old : Mu) (it : Nat)
  | r1 (aw sv : Bool) (it : Nat)
  | c2 (old : Mu) (aw sv : Bool) (it : Nat)
  | r3 (aw sv : Bool) (it : Nat)
  | t1 (sv : Bool)
  | s1 (sv : Bool)
  | t2 (sv : Bool)
  | r2 (sv : Bool)
  | a1 (clr : Bool)
  | le
  | la
  | cs
  | ud
  | u0
  | uc (old : Mu)
  | ux
  | us (h : Bool)
  | ue
  deriving DecidableEq
/-- lockSlow's loop head -/
def hd (old : Mu) (aw sv : Bool) (it : Nat) : Lk := if old.L = true ∧ old.S = false then .sq old aw sv it else .c2 old aw sv it
/-- the word that lockSlow would put in the place of old -/
def nw (old : Mu) (aw sv : Bool) : Mu := ⟨if old.S = true then old.L else true, if aw = true then false else old.K, old.S || (sv && old.L), if old.L = true ∨ old.S = true then old.W + 1 else old.W⟩
/-- one step of a goroutine: where it stands then, the word, the semaphore -/
inductive St : Lk → Mu → Nat → Lk → Mu → Nat → Prop where
  | ld {m s} : St .ld m s .l0 m s
  | l0y {s} : St .l0 Mu.free s .le ⟨true, false, false, 0⟩ s
  | l0n {m s} (h : m ≠ Mu.free) : St .l0 m s .r0 m s
  | r0 {m s} : St .r0 m s (hd m false false 0) m s
  | sq0 {old aw sv it m s} : St (.sq old aw sv it) m s (.c2 old aw sv it) m s
  | sq1 {old aw sv it m s} (h : it < 4) (h1 : aw = true ∨ old.K = true ∨ old.W = 0) : St (.sq old aw sv it) m s (.r1 aw sv it) m s
  | sq2 {old sv it m s} (h : it < 4) (h1 : old.K = false) (h2 : old.W ≠ 0) : St (.sq old false sv it) m s (.c1 old it) m s
  | c1y {old it s} : St (.c1 old it) old s (.r1 true false it) { old with K := true } s
  | c1n {old it m s} (h : m ≠ old) : St (.c1 old it) m s (.r1 false false it) m s
  | r1 {aw sv it m s} : St (.r1 aw sv it) m s (hd m aw sv (it + 1)) m s
  | c2l {old aw sv it s} (h : old.L = false) (h1 : old.S = false) : St (.c2 old aw sv it) old s .le (nw old aw sv) s
  | c2t {old aw sv it s} (h : old.L = true ∨ old.S = true) : St (.c2 old aw sv it) old s (.t1 sv) (nw old aw sv) s
  | c2s {old aw sv it s} (h : old.L = true ∨ old.S = true) : St (.c2 old aw sv it) old s (.s1 sv) (nw old aw sv) s
  | c2n {old aw sv it m s} (h : m ≠ old) : St (.c2 old aw sv it) m s (.r3 aw sv it) m s
  | r3 {aw sv it m s} : St (.r3 aw sv it) m s (hd m aw sv it) m s
  | t1 {sv m s} : St (.t1 sv) m s (.s1 sv) m s
  | s1 {sv m s} : St (.s1 sv) m (s + 1) (.t2 sv) m s
  | t2 {sv sv' m s} (h : sv = true → sv' = true) : St (.t2 sv) m s (.r2 sv') m s
  | r2s {sv m s} (h : m.S = true) : St (.r2 sv) m s (.a1 (!sv || decide (m.W = 1))) m s
  | r2n {sv m s} (h : m.S = false) : St (.r2 sv) m s (hd m true sv 0) m s
  | a1 {clr m s} : St (.a1 clr) m s .le ⟨true, m.K, m.S && !clr, m.W - 1⟩ s
  | le {m s} : St .le m s .la m s
  | la {m s} : St .la m s .cs m s
  | cs {m s} : St .cs m s .ud m s
  | ud {m s} : St .ud m s .u0 m s
  | u0f {m s} (h : m.S = false) (h1 : m.W = 0 ∨ m.K = true) : St .u0 m s .ue { m with L := false } s
  | u0c {m s} (h : m.S = false) (h1 : m.W ≠ 0) (h2 : m.K = false) : St .u0 m s (.uc { m with L := false }) { m with L := false } s
  | u0s {m s} (h : m.S = true) : St .u0 m s (.us true) { m with L := false } s
  | ucy {old s} : St (.uc old) old s (.us false) { old with K := true, W := old.W - 1 } s
  | ucn {old m s} (h : m ≠ old) : St (.uc old) m s .ux m s
  | uxe {m s} (h : m.W = 0 ∨ m.L = true ∨ m.K = true ∨ m.S = true) : St .ux m s .ue m s
  | uxc {m s} (h : m.W ≠ 0) (h1 : m.L = false) (h2 : m.K = false) (h3 : m.S = false) : St .ux m s (.uc m) m s
  | us {h m s} : St (.us h) m s .ue m (s + 1)
  | ue {m s} : St .ue m s .out m s
/-! who is what -/
def owns : Lk → Nat
  | .le | .la | .cs | .ud | .u0 => 1
  | _ => 0
def slp : Lk → Nat
  | .t1 _ | .s1 _ => 1
  | _ => 0
/-- woken, or it has said that one is awake -/
def awk : Lk → Nat
  | .sq _ aw _ _ | .r1 aw _ _ | .c2 _ aw _ _ | .r3 aw _ _ => if aw = true then 1 else 0
  | _ => 0
def usf : Lk → Nat
  | .us false => 1
  | _ => 0
def ust : Lk → Nat
  | .us true => 1
  | _ => 0
def agx : Lk → Nat
  | .t2 _ | .r2 _ => 1
  | _ => 0
def a1p : Lk → Nat
  | .a1 _ => 1
  | _ => 0
def uwp : Lk → Nat
  | .uc _ | .ux => 1
  | _ => 0
/-- what holds of a goroutine's own numbers -/
def lok : Lk → Prop
  | .sq old aw sv _ => old.L = true ∧ old.S = false ∧ (aw = true → old.K = true) ∧ (sv = true → aw = true)
  | .c1 old it => old.L = true ∧ old.S = false ∧ old.K = false ∧ old.W ≠ 0 ∧ it < 4
  | .r1 aw sv it => (sv = true → aw = true) ∧ it < 4
  | .r3 aw sv _ => sv = true → aw = true
  | .c2 old aw sv _ => (aw = true → old.K = true) ∧ (sv = true → aw = true) ∧ (old.K = true → old.S = false)
  | .uc old => old.L = false ∧ old.K = false ∧ old.S = false ∧ old.W ≠ 0
  | _ => True
/-- ████ WHAT HOLDS OF THE WORD, THE SEMAPHORE AND ALL GOROUTINES. ████ -/
structure Ok (m : Mu) (s O Sl Aw Uf Ut Ax A1 Uw : Nat) : Prop where
  own : O = (if m.L = true then 1 else 0)
  ks : m.K = true → m.S = false
  k1 : m.K = true → Aw + Uf + Ax + s = 1 ∧ Ut = 0 ∧ A1 = 0
  k2 : m.K = false → m.S = true → m.L = false → Ut + A1 + Ax + s = 1 ∧ Aw = 0 ∧ Uf = 0
  k3 : m.K = false → (m.S = false ∨ m.L = true) → Aw = 0 ∧ Uf = 0 ∧ Ut = 0 ∧ A1 = 0 ∧ Ax = 0 ∧ s = 0
  s1 : m.K = true → Sl = m.W + Uf + s
  s2 : m.K = false → m.S = true → m.L = false → Sl + Ax + A1 = m.W
  s3 : m.K = false → (m.S = false ∨ m.L = true) → Sl = m.W
  wk : m.W ≠ 0 → m.L = false → m.S = false → m.K = false → Uw ≠ 0
  sw : m.S = true → m.W ≠ 0
def cnt (f : Lk → Nat) (l : List Lk) : Nat := (l.map f).sum
theorem cnt_cons (f : Lk → Nat) (x : Lk) (l : List Lk) : cnt f (x :: l) = f x + cnt f l := by simp [cnt]
theorem cnt_set (f : Lk → Nat) (l : List Lk) (i : Nat) (a b : Lk) (h : l[i]? = some a) : cnt f (l.set i b) + f a = cnt f l + f b := by
  induction l generalizing i with
  | nil => simp at h
  | cons x l ih =>
    cases i with
    | zero =>
      have e : x = a := by simpa using h
      rw [List.set_cons_zero, cnt_cons, cnt_cons, e]
      omega
    | succ i =>
      have h' : l[i]? = some a := by simpa using h
      have := ih i h'
      rw [List.set_cons_succ, cnt_cons, cnt_cons]
      omega
theorem cnt_ge (f : Lk → Nat) (l : List Lk) (i : Nat) (a : Lk) (h : l[i]? = some a) : f a ≤ cnt f l := by
  have := cnt_set f l i a .out h
  induction l generalizing i with
  | nil => simp at h
  | cons x l ih =>
    cases i with
    | zero =>
      have e : x = a := by simpa using h
      rw [cnt_cons, e]
      omega
    | succ i =>
      have h' : l[i]? = some a := by simpa using h
      have := ih i h' (cnt_set f l i a .out h')
      rw [cnt_cons]
      omega
structure Inv (l : List Lk) (m : Mu) (s : Nat) : Prop where
  loc : ∀ x ∈ l, lok x
  a12 : ∀ x ∈ l, x = .a1 false → 2 ≤ m.W
  num : Ok m s (cnt owns l) (cnt slp l) (cnt awk l) (cnt usf l) (cnt ust l) (cnt agx l) (cnt a1p l) (cnt uwp l)
end Go.Proofs.Ytpmmimcafkillaa.Mx
