/-
  Changes that are turned: plain facts; contracts of the program's appends of frames and of clips to a list of changes.
  Plain facts: how many frames two lists of clips have alike at their beginning; lists mirrored; what Changes gives.
-/
import Derived.Test.YtioaehjppiodfaaGreatDoorGIApL
namespace Go.Proofs.YtioaehjppiodfaaGreatDoor
open Go.RowKit
set_option linter.unusedVariables false
set_option linter.unusedSimpArgs false

/-- clips as changes that add them -/
def adds (m : List Kl) : List Ch := m.map (fun k => (3, k))
theorem adds_len (m : List Kl) : (adds m).length = m.length := by simp [adds]
theorem adds_snoc {m : List Kl} {k : Nat} {c : Kl} (h : m[k]? = some c) : adds (m.take (k + 1)) = adds (m.take k) ++ [(3, c)] := by
  unfold adds; rw [take_snocK h, List.map_append]; rfl
/-- so many frames, kept or dropped -/
def frs (kind n : Int) : List Ch := if n = 0 then [] else [(kind, 0, 0, n)]
theorem frs_len (kind n : Int) : (frs kind n).length ≤ 1 := by unfold frs; split <;> simp
def tn1 (l : List Kl) (o : Int) (c : Ch) : List Ch := if c.1 = 1 then [c] else if c.1 = 2 then adds (join (part l o (o + c.2.2.2))) else [(2, 0, 0, c.2.2.2)]
def tnAt (l : List Kl) (cs : List Ch) (k : Nat) : List Ch := tn1 l (oldL (cs.take k)) (chAt cs k)
def tnUp (l : List Kl) (cs : List Ch) (k : Nat) : List Ch := (List.range k).flatMap (tnAt l cs)
theorem tnUp_succ (l : List Kl) (cs : List Ch) (k : Nat) : tnUp l cs (k + 1) = tnUp l cs k ++ tnAt l cs k := by
  unfold tnUp; rw [List.range_succ, List.flatMap_append]; simp
theorem tnAt_eq {l : List Kl} {cs : List Ch} {k : Nat} {c : Ch} (h : cs[k]? = some c) : tnAt l cs k = tn1 l (oldL (cs.take k)) c := by unfold tnAt; rw [chAt_eq h]
theorem tn1_len (l : List Kl) (o : Int) (c : Ch) : (tn1 l o c).length ≤ l.length + 1 := by
  unfold tn1
  split
  · simp
  · split
    · rw [adds_len]
      have h1 := len_join (part l o (o + c.2.2.2))
      have h2 := part_len l o (o + c.2.2.2)
      omega
    · simp
theorem tnUp_len (l : List Kl) (cs : List Ch) (k : Nat) : (tnUp l cs k).length ≤ k * (l.length + 1) := by
  induction k with
  | zero => simp [tnUp]
  | succ k ih =>
    rw [tnUp_succ, List.length_append, Nat.succ_mul]
    have : (tnAt l cs k).length ≤ l.length + 1 := tn1_len _ _ _
    omega
theorem tnUp_bd {l : List Kl} {cs : List Ch} {k : Nat} (hl : l.length ≤ 300) (hk : k ≤ 300) : (tnUp l cs k).length ≤ 100000 := by
  have h := tnUp_len l cs k
  have h2 : k * (l.length + 1) ≤ 300 * 301 := Nat.mul_le_mul hk (by omega)
  omega
theorem tflat_len {n : Nat} {l : List Kl} {cs : List Ch} (hl : l.length ≤ 300) (pre : List (Fin n)) (hn : pre.length ≤ 300) : (pre.flatMap (fun x => tnAt l cs x.1)).length ≤ 100000 := by
  have h : ∀ p : List (Fin n), (p.flatMap (fun x => tnAt l cs x.1)).length ≤ p.length * 301 := by
    intro p
    induction p with
    | nil => simp
    | cons x p ih =>
      rw [List.flatMap_cons, List.length_append, List.length_cons]
      have : (tnAt l cs x.1).length ≤ l.length + 1 := tn1_len _ _ _
      omega
  have := h pre
  omega
theorem fin_tn (l : List Kl) (cs : List Ch) : (List.finRange cs.length).flatMap (fun x => tnAt l cs x.1) = tnUp l cs cs.length := by
  unfold tnUp; rw [← fin_val, List.flatMap_map]
/-- what Turned gives -/
def turnedOf (l : List Kl) (cs : List Ch) : Option (List Ch) := if (applyOf l cs).isSome then some (tnUp l cs cs.length) else none
def outC (r : Option (List Ch)) : List Ch := r.getD []
theorem turned_len (l : List Kl) (cs : List Ch) : (outC (turnedOf l cs)).length ≤ 100000 := by
  unfold turnedOf
  split
  · rename_i h
    unfold applyOf at h
    split at h
    · rename_i h2
      exact tnUp_bd h2.1.1 h2.2.1.1
    · simp at h
  · simp [outC]
theorem apply_some {l : List Kl} {cs : List Ch} (h : (applyOf l cs).isSome = true) : TOk l ∧ LOk cs ∧ oldL cs = clen l := by
  unfold applyOf at h
  split at h
  · assumption
  · simp at h
def TnR (w w' : World) (r : Option (List Ch)) (e : Ending) : Prop :=
  ∃ g c, e = .returned (.tuple #[.slice (some ⟨g, 0, none⟩) (outC r).length c, .bool r.isSome]) ∧ w.heap.size ≤ g ∧ OwnC w' w.heap.size g (outC r).length c (outC r) ∧ Below w.heap.size w w'
theorem tnR_none {w wx : World} {r : Option (List Ch)} (hr : r = none) (hb : Below w.heap.size w wx) : TnR w (wx.alloc (.cells #[] 103)) r (.returned (.tuple #[.slice (some ⟨wx.heap.size, 0, none⟩) 0 0, .bool false])) := by
  subst hr
  exact ⟨wx.heap.size, 0, rfl, hb.size, ownc_lit0 wx hb.size, hb.alloc hb.size _⟩

theorem grown_step {w X Y : World} {g gc : Nat} (h : w.grownBy X (some g)) (k : X.grownBy Y (some gc)) (hg : gc = g ∨ w.heap.size ≤ gc) : w.grownBy Y (some g) :=
  ⟨k.os.trans h.os, k.tape.trans h.tape, k.output.trans h.output, Nat.le_trans h.size k.size, fun j hj hn => (k.block j (Nat.lt_of_lt_of_le hj h.size) (by intro e; injection e with e; rcases hg with h' | h' <;> first | exact hn (by rw [e, h']) | omega)).trans (h.block j hj hn)⟩
theorem grown_below {w X Y : World} {g : Nat} (h : w.grownBy X (some g)) (k : Below X.heap.size X Y) : w.grownBy Y (some g) :=
  ⟨k.os.trans h.os, k.tape.trans h.tape, k.output.trans h.output, Nat.le_trans h.size k.size, fun j hj hn => (k.block j (Nat.lt_of_lt_of_le hj h.size)).trans (h.block j hj hn)⟩
theorem below_grown' {B : Nat} {w X : World} {g : Nat} (h : w.grownBy X (some g)) (hB : B ≤ g) (hw : B ≤ w.heap.size) : Below B w X :=
  ⟨h.os, h.tape, h.output, h.size, fun j hj => h.block j (by omega) (by intro e; injection e with e; omega)⟩

end Go.Proofs.YtioaehjppiodfaaGreatDoor

namespace Go.Proofs.YtioaehjppiodfaaGreatDoor
open Go.RowKit
set_option linter.unusedVariables false
set_option linter.unusedSimpArgs false

/-- k frames are alike at the beginning, and no more of the first 'most' -/
def IsPfx (l m : List Kl) (most k : Int) : Prop := 0 ≤ k ∧ k ≤ most ∧ (∀ i, 0 ≤ i → i < k → seen l i = seen m i) ∧ (k < most → seen l k ≠ seen m k)
theorem IsPfx.unique {l m : List Kl} {most k k' : Int} (h : IsPfx l m most k) (h' : IsPfx l m most k') : k = k' := by
  obtain ⟨a1, a2, a3, a4⟩ := h
  obtain ⟨b1, b2, b3, b4⟩ := h'
  rcases Int.lt_trichotomy k k' with hlt | he | hgt
  · exact absurd (b3 k a1 hlt) (a4 (by omega))
  · exact he
  · exact absurd (a3 k' b1 hgt) (b4 (by omega))
theorem IsPfx.cut {l m : List Kl} {most most' k : Int} (h : IsPfx l m most k) (h0 : 0 ≤ most') (hm : most' ≤ most) : IsPfx l m most' (min k most') := by
  obtain ⟨a1, a2, a3, a4⟩ := h
  refine ⟨by omega, by omega, fun i h1 h2 => a3 i h1 (by omega), fun hlt => ?_⟩
  have e : min k most' = k := by omega
  rw [e]
  exact a4 (by omega)
open Classical in
noncomputable def pfx (l m : List Kl) (most : Int) : Int := if h : ∃ k, IsPfx l m most k then Classical.choose h else 0
theorem pfx_eq {l m : List Kl} {most k : Int} (h : IsPfx l m most k) : pfx l m most = k := by
  have hex : ∃ k, IsPfx l m most k := ⟨k, h⟩
  unfold pfx
  rw [dif_pos hex]
  exact (Classical.choose_spec hex).unique h

/-- a clip seen from its end, of a source seen from its end -/
def mirK (c : Kl) : Kl := (c.1, if c.1 = 0 then c.2.1 else 10000000 - c.2.1 - c.2.2, c.2.2)
def mir (l : List Kl) : List Kl := (l.map mirK).reverse
theorem mirK_ok {c : Kl} (h : COk c) : COk (mirK c) := by
  obtain ⟨h1, h2, h3, h4, h5⟩ := h
  unfold mirK COk
  simp only
  split <;> refine ⟨?_, ?_, ?_, ?_, ?_⟩ <;> omega
theorem mir_len (l : List Kl) : (mir l).length = l.length := by simp [mir]
theorem mir_ok {l : List Kl} (h : AOk l) : AOk (mir l) := by
  intro c hc
  unfold mir at hc
  rw [List.mem_reverse, List.mem_map] at hc
  obtain ⟨d, hd, rfl⟩ := hc
  exact mirK_ok (h d hd)
theorem clen_mir (l : List Kl) : clen (mir l) = clen l := by
  induction l with
  | nil => rfl
  | cons c l ih =>
    unfold mir at *
    rw [List.map_cons, List.reverse_cons, clen_append, ih]
    simp only [clen, mirK]
    omega
theorem mir_tok {l : List Kl} (h : TOk l) : TOk (mir l) := ⟨by rw [mir_len]; exact h.1, mir_ok h.2.1, by rw [clen_mir]; exact h.2.2⟩
theorem mir_get {l : List Kl} {i : Nat} {c : Kl} (hi : i < l.length) (h : l[l.length - 1 - i]? = some c) : (mir l)[i]? = some (mirK c) := by
  unfold mir
  rw [List.getElem?_reverse (by simpa using hi), List.length_map, List.getElem?_map, h]
  rfl

/-- frames of clip i -/
theorem seen_at {l : List Kl} {i : Nat} {p : Kl} (hA : AOk l) (h : l[i]? = some p) {e : Int} (h0 : 0 ≤ e) (h1 : e < p.2.2) : seen l (clen (l.take i) + e) = sv p e := by
  have hi : i < l.length := (List.getElem?_eq_some_iff.1 h).1
  have hd : l.drop i = p :: l.drop (i + 1) := by
    rw [List.drop_eq_getElem_cons hi]
    have := (List.getElem?_eq_some_iff.1 h).2
    rw [this]
  have hc := clen_nonneg (hA.take i)
  have key : seen (l.take i ++ l.drop i) (clen (l.take i) + e) = sv p e := by
    rw [seen_append (hA.take i).nn (by omega), if_neg (by omega), hd, seen_lt (by omega)]
    congr 1
    omega
  rw [List.take_append_drop] at key
  exact key
theorem sv_same {p q : Kl} {x y d : Int} (h1 : p.1 = q.1) (h2 : p.1 = 0 ∨ p.2.1 + x = q.2.1 + y) : sv p (x + d) = sv q (y + d) := by
  unfold sv
  by_cases h : p.1 = 0
  · rw [if_pos h, if_pos (by omega)]
  · rw [if_neg h, if_neg (by omega)]
    rcases h2 with h2 | h2
    · exact absurd h2 h
    · rw [h1]; congr 1; omega
theorem sv_not {p q : Kl} {x y : Int} (hp : 0 ≤ p.1) (hq : 0 ≤ q.1) (h : ¬ (p.1 = q.1 ∧ (p.1 = 0 ∨ p.2.1 + x = q.2.1 + y))) : sv p x ≠ sv q y := by
  intro e
  apply h
  unfold sv at e
  by_cases h1 : p.1 = 0
  · rw [if_pos h1] at e
    by_cases h2 : q.1 = 0
    · exact ⟨by omega, .inl h1⟩
    · rw [if_neg h2] at e
      injection e with e1 _
      exact absurd e1.symm h2
  · rw [if_neg h1] at e
    by_cases h2 : q.1 = 0
    · rw [if_pos h2] at e
      injection e with e1 _
      exact absurd e1 h1
    · rw [if_neg h2] at e
      injection e with e1 e2
      exact ⟨e1, .inr e2⟩
theorem clen_all {l : List Kl} (h : AOk l) {i : Nat} (hi : i ≤ l.length) (hn : l[i]? = none) : clen (l.take i) = clen l := by
  have : l.length ≤ i := by
    rcases Nat.lt_or_ge i l.length with h1 | h1
    · rw [List.getElem?_eq_getElem h1] at hn; cases hn
    · exact h1
  rw [List.take_of_length_le this]

/-- where the model stands in the two lists, so many frames alike -/
structure St (l m : List Kl) (most : Int) (i k : Nat) (x y n : Int) : Prop where
  hi : i ≤ l.length
  hk : k ≤ m.length
  ei : n = clen (l.take i) + x
  ek : n = clen (m.take k) + y
  x0 : 0 ≤ x
  y0 : 0 ≤ y
  xl : ∀ p, l[i]? = some p → x < p.2.2
  yl : ∀ q, m[k]? = some q → y < q.2.2
  le : n ≤ most
  n0 : 0 ≤ n
  al : ∀ f, 0 ≤ f → f < n → seen l f = seen m f
theorem St.start {l m : List Kl} (hl : AOk l) (hm : AOk m) {most : Int} (h : 0 ≤ most) : St l m most 0 0 0 0 0 :=
  ⟨by omega, by omega, by simp [clen], by simp [clen], by omega, by omega, fun p hp => by have := (hl p (List.mem_of_getElem? hp)).1; omega, fun q hq => by have := (hm q (List.mem_of_getElem? hq)).1; omega, h, by omega, fun f h1 h2 => by omega⟩
theorem St.done {l m : List Kl} {most : Int} {i k : Nat} {x y n : Int} (h : St l m most i k x y n) (he : ¬ n < most) : IsPfx l m most n :=
  ⟨h.n0, h.le, h.al, fun hlt => absurd hlt he⟩
theorem St.ihas {l m : List Kl} {most : Int} {i k : Nat} {x y n : Int} (h : St l m most i k x y n) (hx : l[i]? = none → x = 0) (hA : AOk l) (hmost : most ≤ clen l) (hn : n < most) : i < l.length := by
  rcases Nat.lt_or_ge i l.length with h1 | h1
  · exact h1
  · have hno : l[i]? = none := List.getElem?_eq_none h1
    have := clen_all hA h.hi hno
    have := h.ei
    have := hx hno
    omega
theorem St.differ {l m : List Kl} (hl : AOk l) (hm : AOk m) {most : Int} {i k : Nat} {x y n : Int} {p q : Kl} (h : St l m most i k x y n) (hp : l[i]? = some p) (hq : m[k]? = some q)
    (hd : ¬ (p.1 = q.1 ∧ (p.1 = 0 ∨ p.2.1 + x = q.2.1 + y))) : IsPfx l m most n := by
  refine ⟨h.n0, h.le, h.al, fun _ => ?_⟩
  have e1 := seen_at hl hp h.x0 (h.xl p hp)
  have e2 := seen_at hm hq h.y0 (h.yl q hq)
  rw [← h.ei] at e1
  rw [← h.ek] at e2
  rw [e1, e2]
  have c1 := hl p (List.mem_of_getElem? hp)
  have c2 := hm q (List.mem_of_getElem? hq)
  refine sv_not ?_ ?_ hd
  · rcases c1.2.2.2.2 with h | h <;> omega
  · rcases c2.2.2.2.2 with h | h <;> omega
theorem St.alike {l m : List Kl} (hl : AOk l) (hm : AOk m) {most : Int} {i k : Nat} {x y n d : Int} {p q : Kl} (h : St l m most i k x y n) (hp : l[i]? = some p) (hq : m[k]? = some q)
    (h1 : p.1 = q.1) (h2 : p.1 = 0 ∨ p.2.1 + x = q.2.1 + y) (hd : d ≤ p.2.2 - x) (hd2 : d ≤ q.2.2 - y) : ∀ f, 0 ≤ f → f < n + d → seen l f = seen m f := by
  intro f hf0 hf1
  by_cases hlt : f < n
  · exact h.al f hf0 hlt
  · have e1 := seen_at hl hp (e := x + (f - n)) (by have := h.x0; omega) (by omega)
    have e2 := seen_at hm hq (e := y + (f - n)) (by have := h.y0; omega) (by omega)
    have r1 : clen (l.take i) + (x + (f - n)) = f := by have := h.ei; omega
    have r2 : clen (m.take k) + (y + (f - n)) = f := by have := h.ek; omega
    rw [r1] at e1
    rw [r2] at e2
    rw [e1, e2]
    exact sv_same h1 h2

theorem St.khas {l m : List Kl} {most : Int} {i k : Nat} {x y n : Int} (h : St l m most i k x y n) (hy : m[k]? = none → y = 0) (hA : AOk m) (hmost : most ≤ clen m) (hn : n < most) : k < m.length := by
  rcases Nat.lt_or_ge k m.length with h1 | h1
  · exact h1
  · have hno : m[k]? = none := List.getElem?_eq_none h1
    have := clen_all hA h.hk hno
    have := h.ek
    have := hy hno
    omega
theorem St.next {l m : List Kl} (hl : AOk l) (hm : AOk m) {most : Int} {i k i' k' : Nat} {x y n d x' y' : Int} {p q : Kl} (h : St l m most i k x y n) (hp : l[i]? = some p) (hq : m[k]? = some q)
    (h1 : p.1 = q.1) (h2 : p.1 = 0 ∨ p.2.1 + x = q.2.1 + y) (hd0 : 1 ≤ d) (hd : d ≤ p.2.2 - x) (hd2 : d ≤ q.2.2 - y) (hd3 : d ≤ most - n)
    (hi : (x + d = p.2.2 ∧ i' = i + 1 ∧ x' = 0) ∨ (x + d ≠ p.2.2 ∧ i' = i ∧ x' = x + d)) (hk : (y + d = q.2.2 ∧ k' = k + 1 ∧ y' = 0) ∨ (y + d ≠ q.2.2 ∧ k' = k ∧ y' = y + d)) :
    St l m most i' k' x' y' (n + d) ∧ (l[i']? = none → x' = 0) ∧ (m[k']? = none → y' = 0) := by
  have hil : i < l.length := (List.getElem?_eq_some_iff.1 hp).1
  have hkl : k < m.length := (List.getElem?_eq_some_iff.1 hq).1
  have c1 := clen_take hp
  have c2 := clen_take hq
  have ei := h.ei
  have ek := h.ek
  have x0 := h.x0
  have y0 := h.y0
  have n0 := h.n0
  have al := h.alike hl hm hp hq h1 h2 hd hd2
  have A1 : i' ≤ l.length ∧ n + d = clen (l.take i') + x' ∧ 0 ≤ x' ∧ (∀ p, l[i']? = some p → x' < p.2.2) ∧ (l[i']? = none → x' = 0) := by
    rcases hi with ⟨e1, rfl, rfl⟩ | ⟨e1, rfl, rfl⟩
    · refine ⟨hil, by omega, by omega, fun p' hp' => ?_, fun _ => rfl⟩
      have := (hl p' (List.mem_of_getElem? hp')).1
      omega
    · refine ⟨by omega, by omega, by omega, fun p' hp' => ?_, fun hno => ?_⟩
      · rw [hp] at hp'; cases hp'; omega
      · rw [hp] at hno; cases hno
  have A2 : k' ≤ m.length ∧ n + d = clen (m.take k') + y' ∧ 0 ≤ y' ∧ (∀ p, m[k']? = some p → y' < p.2.2) ∧ (m[k']? = none → y' = 0) := by
    rcases hk with ⟨e1, rfl, rfl⟩ | ⟨e1, rfl, rfl⟩
    · refine ⟨hkl, by omega, by omega, fun p' hp' => ?_, fun _ => rfl⟩
      have := (hm p' (List.mem_of_getElem? hp')).1
      omega
    · refine ⟨by omega, by omega, by omega, fun p' hp' => ?_, fun hno => ?_⟩
      · rw [hq] at hp'; cases hp'; omega
      · rw [hq] at hno; cases hno
  exact ⟨⟨A1.1, A2.1, A1.2.1, A2.2.1, A1.2.2.1, A2.2.2.1, A1.2.2.2.1, A2.2.2.2.1, by omega, by omega, al⟩, A1.2.2.2.2, A2.2.2.2.2⟩

/-- what Changes gives -/
noncomputable def changesOf (l m : List Kl) : List Ch :=
  if TOk l ∧ TOk m then frs 1 (pfx l m (min (clen l) (clen m))) ++ frs 2 (clen l - pfx l m (min (clen l) (clen m)) - pfx (mir l) (mir m) (min (clen l) (clen m) - pfx l m (min (clen l) (clen m)))) ++ adds (join (part m (pfx l m (min (clen l) (clen m))) (clen m - pfx (mir l) (mir m) (min (clen l) (clen m) - pfx l m (min (clen l) (clen m)))))) ++ frs 1 (pfx (mir l) (mir m) (min (clen l) (clen m) - pfx l m (min (clen l) (clen m)))) else []
theorem changes_no {l m : List Kl} (h : ¬ (TOk l ∧ TOk m)) : changesOf l m = [] := if_neg h
theorem changes_yes {l m : List Kl} (h : TOk l ∧ TOk m) {p q : Int} (hp : IsPfx l m (min (clen l) (clen m)) p) (hq : IsPfx (mir l) (mir m) (min (clen l) (clen m) - p) q) :
    changesOf l m = frs 1 p ++ frs 2 (clen l - p - q) ++ adds (join (part m p (clen m - q))) ++ frs 1 q := by
  unfold changesOf
  rw [if_pos h, pfx_eq hp, pfx_eq hq]
theorem changes_len (l m : List Kl) : (changesOf l m).length ≤ 100000 := by
  unfold changesOf
  split
  · rename_i h
    rw [List.length_append, List.length_append, List.length_append, adds_len]
    have h1 := frs_len 1 (pfx l m (min (clen l) (clen m)))
    have h2 := frs_len 2 (clen l - pfx l m (min (clen l) (clen m)) - pfx (mir l) (mir m) (min (clen l) (clen m) - pfx l m (min (clen l) (clen m))))
    have h3 := frs_len 1 (pfx (mir l) (mir m) (min (clen l) (clen m) - pfx l m (min (clen l) (clen m))))
    have h4 := len_join (part m (pfx l m (min (clen l) (clen m))) (clen m - pfx (mir l) (mir m) (min (clen l) (clen m) - pfx l m (min (clen l) (clen m)))))
    have h5 := part_len m (pfx l m (min (clen l) (clen m))) (clen m - pfx (mir l) (mir m) (min (clen l) (clen m) - pfx l m (min (clen l) (clen m))))
    have h6 := h.2.1
    omega
  · simp

end Go.Proofs.YtioaehjppiodfaaGreatDoor
