/-
  Changes that are turned: plain facts; contracts of the program's appends of frames and of clips to a list of changes.
-/
import Derived.Test.YtfcjdempigoiiaaIApL
namespace Go.Proofs.Ytfcjdempigoiiaa
open Go.RowKit
set_option linter.unusedVariables false
set_option linter.unusedSimpArgs false

/-- clips as changes that add them -/
def adds (m : List Kl) : List Ch := m.map (fun k => (3, k))
theorem adds_len (m : List Kl) : (adds m).length = m.length := by simp [adds]
theorem adds_snoc {m : List Kl} {k : Nat} {c : Kl} (h : m[k]? = some c) : adds (m.take (k + 1)) = adds (m.take k) ++ [(3, c)] := by
  unfold adds; rw [take_snocK h, List.map_append]; rfl
/-- so many frames, kept or dropped -/
def frs (kind n : Int) : List Ch := if n = 0 then [] else [(kind, 0, 0, n)]
theorem frs_len (kind n : Int) : (frs kind n).length ≤ 1 := by unfold frs; split <;> simp
def tn1 (l : List Kl) (o : Int) (c : Ch) : List Ch := if c.1 = 1 then [c] else if c.1 = 2 then adds (join (part l o (o + c.2.2.2))) else [(2, 0, 0, c.2.2.2)]
def tnAt (l : List Kl) (cs : List Ch) (k : Nat) : List Ch := tn1 l (oldL (cs.take k)) (chAt cs k)
def tnUp (l : List Kl) (cs : List Ch) (k : Nat) : List Ch := (List.range k).flatMap (tnAt l cs)
theorem tnUp_succ (l : List Kl) (cs : List Ch) (k : Nat) : tnUp l cs (k + 1) = tnUp l cs k ++ tnAt l cs k := by
  unfold tnUp; rw [List.range_succ, List.flatMap_append]; simp
theorem tnAt_eq {l : List Kl} {cs : List Ch} {k : Nat} {c : Ch} (h : cs[k]? = some c) : tnAt l cs k = tn1 l (oldL (cs.take k)) c := by unfold tnAt; rw [chAt_eq h]
theorem tn1_len (l : List Kl) (o : Int) (c : Ch) : (tn1 l o c).length ≤ l.length + 1 := by
  unfold tn1
  split
  · simp
  · split
    · rw [adds_len]
      have h1 := len_join (part l o (o + c.2.2.2))
      have h2 := part_len l o (o + c.2.2.2)
      omega
    · simp
theorem tnUp_len (l : List Kl) (cs : List Ch) (k : Nat) : (tnUp l cs k).length ≤ k * (l.length + 1) := by
  induction k with
  | zero => simp [tnUp]
  | succ k ih =>
    rw [tnUp_succ, List.length_append, Nat.succ_mul]
    have : (tnAt l cs k).length ≤ l.length + 1 := tn1_len _ _ _
    omega
theorem tnUp_bd {l : List Kl} {cs : List Ch} {k : Nat} (hl : l.length ≤ 300) (hk : k ≤ 300) : (tnUp l cs k).length ≤ 100000 := by
  have h := tnUp_len l cs k
  have h2 : k * (l.length + 1) ≤ 300 * 301 := Nat.mul_le_mul hk (by omega)
  omega
theorem tflat_len {n : Nat} {l : List Kl} {cs : List Ch} (hl : l.length ≤ 300) (pre : List (Fin n)) (hn : pre.length ≤ 300) : (pre.flatMap (fun x => tnAt l cs x.1)).length ≤ 100000 := by
  have h : ∀ p : List (Fin n), (p.flatMap (fun x => tnAt l cs x.1)).length ≤ p.length * 301 := by
    intro p
    induction p with
    | nil => simp
    | cons x p ih =>
      rw [List.flatMap_cons, List.length_append, List.length_cons]
      have : (tnAt l cs x.1).length ≤ l.length + 1 := tn1_len _ _ _
      omega
  have := h pre
  omega
theorem fin_tn (l : List Kl) (cs : List Ch) : (List.finRange cs.length).flatMap (fun x => tnAt l cs x.1) = tnUp l cs cs.length := by
  unfold tnUp; rw [← fin_val, List.flatMap_map]
/-- what Turned gives -/
def turnedOf (l : List Kl) (cs : List Ch) : Option (List Ch) := if (applyOf l cs).isSome then some (tnUp l cs cs.length) else none
def outC (r : Option (List Ch)) : List Ch := r.getD []
theorem turned_len (l : List Kl) (cs : List Ch) : (outC (turnedOf l cs)).length ≤ 100000 := by
  unfold turnedOf
  split
  · rename_i h
    unfold applyOf at h
    split at h
    · rename_i h2
      exact tnUp_bd h2.1.1 h2.2.1.1
    · simp at h
  · simp [outC]
theorem apply_some {l : List Kl} {cs : List Ch} (h : (applyOf l cs).isSome = true) : TOk l ∧ LOk cs ∧ oldL cs = clen l := by
  unfold applyOf at h
  split at h
  · assumption
  · simp at h
def TnR (w w' : World) (r : Option (List Ch)) (e : Ending) : Prop :=
  ∃ g c, e = .returned (.tuple #[.slice (some ⟨g, 0, none⟩) (outC r).length c, .bool r.isSome]) ∧ w.heap.size ≤ g ∧ OwnC w' w.heap.size g (outC r).length c (outC r) ∧ Below w.heap.size w w'
theorem tnR_none {w wx : World} {r : Option (List Ch)} (hr : r = none) (hb : Below w.heap.size w wx) : TnR w (wx.alloc (.cells #[] 60)) r (.returned (.tuple #[.slice (some ⟨wx.heap.size, 0, none⟩) 0 0, .bool false])) := by
  subst hr
  exact ⟨wx.heap.size, 0, rfl, hb.size, ownc_lit0 wx hb.size, hb.alloc hb.size _⟩

theorem grown_step {w X Y : World} {g gc : Nat} (h : w.grownBy X (some g)) (k : X.grownBy Y (some gc)) (hg : gc = g ∨ w.heap.size ≤ gc) : w.grownBy Y (some g) :=
  ⟨k.os.trans h.os, k.tape.trans h.tape, k.output.trans h.output, Nat.le_trans h.size k.size, fun j hj hn => (k.block j (Nat.lt_of_lt_of_le hj h.size) (by intro e; injection e with e; rcases hg with h' | h' <;> first | exact hn (by rw [e, h']) | omega)).trans (h.block j hj hn)⟩
theorem grown_below {w X Y : World} {g : Nat} (h : w.grownBy X (some g)) (k : Below X.heap.size X Y) : w.grownBy Y (some g) :=
  ⟨k.os.trans h.os, k.tape.trans h.tape, k.output.trans h.output, Nat.le_trans h.size k.size, fun j hj hn => (k.block j (Nat.lt_of_lt_of_le hj h.size)).trans (h.block j hj hn)⟩
theorem below_grown' {B : Nat} {w X : World} {g : Nat} (h : w.grownBy X (some g)) (hB : B ≤ g) (hw : B ≤ w.heap.size) : Below B w X :=
  ⟨h.os, h.tape, h.output, h.size, fun j hj => h.block j (by omega) (by intro e; injection e with e; omega)⟩

end Go.Proofs.Ytfcjdempigoiiaa
