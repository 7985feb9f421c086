/-
  Plain facts on what a list of changes makes of a track.
-/
import Derived.Test.YtfcjdempigoiiaaItH
namespace Go.Proofs.Ytfcjdempigoiiaa
open Go.RowKit
set_option linter.unusedVariables false
set_option linter.unusedSimpArgs false

/-- what change k makes -/
def mk1 (l : List Kl) (o : Int) (c : Ch) : List Kl := if c.1 = 1 then part l o (o + c.2.2.2) else if c.1 = 3 then [c.2] else []
def mkAt (l : List Kl) (cs : List Ch) (k : Nat) : List Kl := mk1 l (oldL (cs.take k)) (chAt cs k)
def madeUp (l : List Kl) (cs : List Ch) (k : Nat) : List Kl := (List.range k).flatMap (mkAt l cs)
theorem madeUp_succ (l : List Kl) (cs : List Ch) (k : Nat) : madeUp l cs (k + 1) = madeUp l cs k ++ mkAt l cs k := by
  unfold madeUp; rw [List.range_succ, List.flatMap_append]; simp
theorem mkAt_eq {l : List Kl} {cs : List Ch} {k : Nat} {c : Ch} (h : cs[k]? = some c) : mkAt l cs k = mk1 l (oldL (cs.take k)) c := by unfold mkAt; rw [chAt_eq h]
theorem mk1_len (l : List Kl) (o : Int) (c : Ch) : (mk1 l o c).length ≤ l.length + 1 := by
  unfold mk1
  split
  · have := part_len l o (o + c.2.2.2); omega
  · split <;> simp
theorem madeUp_len (l : List Kl) (cs : List Ch) (k : Nat) : (madeUp l cs k).length ≤ k * (l.length + 1) := by
  induction k with
  | zero => simp [madeUp]
  | succ k ih =>
    rw [madeUp_succ, List.length_append, Nat.succ_mul]
    have : (mkAt l cs k).length ≤ l.length + 1 := mk1_len _ _ _
    omega
theorem madeUp_bd {l : List Kl} {cs : List Ch} {k : Nat} (hl : l.length ≤ 300) (hk : k ≤ 300) : (madeUp l cs k).length ≤ 100000 := by
  have h := madeUp_len l cs k
  have h2 : k * (l.length + 1) ≤ 300 * 301 := Nat.mul_le_mul hk (by omega)
  omega
theorem mk1_ok {l : List Kl} (h : AOk l) {c : Ch} (hc : HOk c) (o : Int) : AOk (mk1 l o c) := by
  unfold mk1
  split
  · exact part_ok h _ _
  · split
    · rename_i h1 h3
      rcases hc with ⟨h, _⟩ | ⟨_, h⟩
      · omega
      · exact aok_one.2 h
    · exact AOk.nil
theorem madeUp_ok {l : List Kl} (h : AOk l) {cs : List Ch} (hc : LOk cs) (k : Nat) (hk : k ≤ cs.length) : AOk (madeUp l cs k) := by
  induction k with
  | zero => simp [madeUp]; exact AOk.nil
  | succ k ih =>
    rw [madeUp_succ]
    exact (ih (by omega)).append (mk1_ok h (hc.2 _ (List.mem_of_getElem? (chAt_get (by omega)))) _)
/-- what Apply gives -/
def applyOf (l : List Kl) (cs : List Ch) : Option (List Kl) := if TOk l ∧ LOk cs ∧ oldL cs = clen l then edit (madeUp l cs cs.length) else none
theorem apply_no {l : List Kl} {cs : List Ch} (h : ¬ (TOk l ∧ LOk cs ∧ oldL cs = clen l)) : applyOf l cs = none := if_neg h
theorem apply_yes {l : List Kl} {cs : List Ch} (h : TOk l ∧ LOk cs ∧ oldL cs = clen l) : applyOf l cs = edit (madeUp l cs cs.length) := if_pos h
theorem apply_len (l : List Kl) (cs : List Ch) : (outL (applyOf l cs)).length ≤ 300 := by
  unfold applyOf
  split
  · exact edit_len _
  · simp [outL]
theorem fin_val (n : Nat) : (List.finRange n).map (fun x => x.1) = List.range n := by
  apply List.ext_getElem
  · simp
  · intro i h1 h2; simp
theorem fin_made (l : List Kl) (cs : List Ch) : (List.finRange cs.length).flatMap (fun x => mkAt l cs x.1) = madeUp l cs cs.length := by
  unfold madeUp; rw [← fin_val, List.flatMap_map]
/-- frames of the old track that a list takes by change k end inside it -/
theorem old_le {cs : List Ch} (hc : LOk cs) {k : Nat} (hk : k < cs.length) : 0 ≤ oldL (cs.take k) ∧ oldL (cs.take k) + oldC (chAt cs k) ≤ oldL cs := by
  have h1 := sums_take hc k
  have h2 : oldL cs = oldL (cs.take (k + 1)) + oldL (cs.drop (k + 1)) := by rw [← oldL_append, List.take_append_drop]
  rw [oldL_snoc (chAt_get hk)] at h2
  have h3 := (sums_bd (l := cs.drop (k + 1)) (fun c h => hc.2 c (List.mem_of_mem_drop h))).1
  omega

end Go.Proofs.Ytfcjdempigoiiaa
