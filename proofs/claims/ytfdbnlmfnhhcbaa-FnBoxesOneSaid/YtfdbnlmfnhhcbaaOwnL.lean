/-
  Lists of boxes that a call has made for itself: what it is to own one, and that it is owned still behind what the walks do; no conditions.
-/
import Derived.Test.YtfdbnlmfnhhcbaaCopy2
import Derived.Deep.AppendLies
namespace Go.Proofs.Ytfdbnlmfnhhcbaa
open Go.RowKit
set_option linter.unusedVariables false
set_option linter.unusedSimpArgs false

def cell3 (p : Bx × (Option Addr × Nat)) : List Value := [.string p.1.k, .int .i64 p.1.d, .slice p.2.1 p.1.z.length p.2.2]
def flatL (L : List (Bx × (Option Addr × Nat))) : List Value := L.flatMap cell3
theorem flatL_snoc (L : List (Bx × (Option Addr × Nat))) (p : Bx × (Option Addr × Nat)) : flatL (L ++ [p]) = flatL L ++ cell3 p := by simp [flatL]
theorem flatL_len (L : List (Bx × (Option Addr × Nat))) : (flatL L).length = L.length * 3 := by
  induction L with
  | nil => rfl
  | cons p t ih => simp [flatL, cell3] at *; omega
theorem flatL_get (L : List (Bx × (Option Addr × Nat))) (j : Nat) (p : Bx × (Option Addr × Nat)) (h : L[j]? = some p) : (flatL L)[j * 3]? = some (.string p.1.k) ∧ (flatL L)[j * 3 + 1]? = some (.int .i64 p.1.d) ∧ (flatL L)[j * 3 + 2]? = some (.slice p.2.1 p.1.z.length p.2.2) := by
  induction L generalizing j with
  | nil => simp at h
  | cons q t ih =>
    cases j with
    | zero => simp at h; subst h; exact ⟨rfl, rfl, rfl⟩
    | succ j =>
      have h1 := ih j (by simpa using h)
      have e : flatL (q :: t) = cell3 q ++ flatL t := rfl
      rw [e, show (j + 1) * 3 = 3 + j * 3 by omega]
      have hc : (cell3 q).length = 3 := rfl
      refine ⟨?_, ?_, ?_⟩
      · rw [List.getElem?_append_right (by omega), hc, show 3 + j * 3 - 3 = j * 3 by omega]; exact h1.1
      · rw [List.getElem?_append_right (by omega), hc, show 3 + j * 3 + 1 - 3 = j * 3 + 1 by omega]; exact h1.2.1
      · rw [List.getElem?_append_right (by omega), hc, show 3 + j * 3 + 2 - 3 = j * 3 + 2 by omega]; exact h1.2.2

def GoodP (w : World) (B : Nat) (v : Value) (p : Bx × (Option Addr × Nat)) : Prop :=
  Row true B w.heap.size w p.2.1 p.1.z ∧ p.1.k.size ≤ maxLen ∧ -9223372036854775808 ≤ p.1.d ∧ p.1.d ≤ 9223372036854775807 ∧ p.1.z.length ≤ p.2.2 ∧ p.2.2 ≤ maxLen ∧ ∀ y, p.2.1 = some y → y.block < w.heap.size ∧ v.ownBlock ≠ some y.block
def DistL (L : List (Bx × (Option Addr × Nat))) : Prop := ∀ (i j : Nat) (p q : Bx × (Option Addr × Nat)) (x y : Addr), i < j → L[i]? = some p → L[j]? = some q → p.2.1 = some x → q.2.1 = some y → x.block ≠ y.block
/-- the slice v holds the boxes L, all in blocks from B on, and all its own -/
def OwnL (w : World) (B : Nat) (v : Value) (L : List (Bx × (Option Addr × Nat))) : Prop :=
  w.ownsRow B 42 3 v L.length (flatL L) ∧ (∀ p ∈ L, GoodP w B v p) ∧ DistL L

theorem Row.sameB {own : Bool} {lo hi hi' : Nat} {w w' : World} {a : Option Addr} {zs : List Int} (h : Row own lo hi w a zs) (hh : hi ≤ hi') (s : ∀ y, a = some y → lo ≤ y.block → y.block < hi → w'.heap[y.block]? = w.heap[y.block]?) : Row own lo hi' w' a zs := by
  intro j z hz
  obtain ⟨b, o, e, h1, h2, hc, z0, z1, hf⟩ := h j z hz
  have hs := s _ e h1 h2
  exact ⟨b, o, e, h1, by omega, (World.cell?_of_block (a := ⟨b, o + j, none⟩) hs).trans hc, z0, z1, fun ho => (World.frozen?_of_block (a := ⟨b, o + j, none⟩) hs).trans (hf ho)⟩
theorem GoodP.kept {w w' : World} {B : Nat} {v : Value} {p : Bx × (Option Addr × Nat)} (h : GoodP w B v p) (hsz : w.heap.size ≤ w'.heap.size) (s : ∀ y, p.2.1 = some y → B ≤ y.block → y.block < w.heap.size → w'.heap[y.block]? = w.heap[y.block]?) : GoodP w' B v p := by
  obtain ⟨h1, h2, h3, h4, h5, h6, h7⟩ := h
  exact ⟨h1.sameB hsz s, h2, h3, h4, h5, h6, fun y hy => ⟨by have := (h7 y hy).1; omega, (h7 y hy).2⟩⟩
theorem own_kept {w w1 : World} {B n m : Nat} {e : TypeId} {v : Value} {xs : List Value} (h : w.ownsRow B e m v n xs) (hb : ∀ g, v.ownBlock = some g → w1.heap[g]? = w.heap[g]?) : w1.ownsRow B e m v n xs := by
  obtain ⟨h1, h2⟩ := h
  refine ⟨h1, ?_⟩
  rcases h2 with h2 | ⟨g, cap, cur, rfl, hg, hh, r⟩
  · exact Or.inl h2
  · exact Or.inr ⟨g, cap, cur, rfl, hg, by rw [hb g rfl]; exact hh, r⟩
/-- blocks from B on that were there are as they were -/
theorem OwnL.kept {w w' : World} {B : Nat} {v : Value} {L : List (Bx × (Option Addr × Nat))} (h : OwnL w B v L) (hsz : w.heap.size ≤ w'.heap.size) (s : ∀ b, B ≤ b → b < w.heap.size → w'.heap[b]? = w.heap[b]?) : OwnL w' B v L := by
  obtain ⟨h1, h2, h3⟩ := h
  exact ⟨own_kept h1 (fun g hg => by have := h1.lt g hg; exact s g this.1 this.2), fun p hp => (h2 p hp).kept hsz (fun y _ hb hy => s _ hb hy), h3⟩
theorem OwnL.below {w w' : World} {B : Nat} {v : Value} {L : List (Bx × (Option Addr × Nat))} (h : OwnL w B v L) (hb : Below w.heap.size w w') : OwnL w' B v L := h.kept hb.size (fun b _ h2 => hb.block b h2)
theorem OwnL.set {w : World} {B : Nat} {v : Value} {L : List (Bx × (Option Addr × Nat))} (h : OwnL w B v L) {p : Addr} (hp : p.block < B) (u : Value) : OwnL (w.setCell p u) B v L :=
  h.kept (by simp [World.setCell]) (fun b h1 _ => Below.heap_setCell _ _ _ _ (by omega))
/-- block R is none of its blocks -/
def Off (R : Nat) (v : Value) (L : List (Bx × (Option Addr × Nat))) : Prop := v.ownBlock ≠ some R ∧ ∀ p ∈ L, ∀ y, p.2.1 = some y → y.block ≠ R
theorem OwnL.setOff {w : World} {B R : Nat} {v : Value} {L : List (Bx × (Option Addr × Nat))} (h : OwnL w B v L) (ho : Off R v L) (i : Nat) (u : Value) : OwnL (w.setCell ⟨R, i, none⟩ u) B v L := by
  obtain ⟨h1, h2, h3⟩ := h
  refine ⟨own_kept h1 (fun g hg => Below.heap_setCell _ _ _ _ (fun e => ho.1 (by rw [hg]; exact congrArg some e))), fun p hp => (h2 p hp).kept (by simp [World.setCell]) (fun y hy _ _ => Below.heap_setCell _ _ _ _ (ho.2 p hp y hy)), h3⟩
theorem Off.snoc {R g n cap H : Nat} {v : Value} {L : List (Bx × (Option Addr × Nat))} {p : Bx × (Option Addr × Nat)} (h : Off R v L) (hat : v.ownBlock = some g ∨ g = H) (hH : R < H) (hp : ∀ y, p.2.1 = some y → y.block ≠ R) : Off R (.slice (some ⟨g, 0, none⟩) n cap) (L ++ [p]) := by
  refine ⟨?_, ?_⟩
  · show some g ≠ some R
    intro e
    injection e with e
    rcases hat with hat | hat
    · exact h.1 (by rw [hat, e])
    · omega
  · intro q hq y hy
    rcases List.mem_append.1 hq with hq | hq
    · exact h.2 q hq y hy
    · simp at hq; subst hq; exact hp y hy
theorem OwnL.nil {w : World} {B : Nat} {v : Value} (h : w.ownsRow B 42 3 v 0 []) : OwnL w B v [] := ⟨h, fun p hp => by simp at hp, fun i j p q x y _ hp => by simp at hp⟩

/-- one box more -/
theorem OwnL.snoc {w w1 : World} {B g cap : Nat} {v : Value} {L : List (Bx × (Option Addr × Nat))} {p : Bx × (Option Addr × Nat)} (h : OwnL w B v L) (hp : GoodP w B v p)
    (hd : ∀ q ∈ L, ∀ x y, q.2.1 = some x → p.2.1 = some y → x.block ≠ y.block)
    (hown : w1.ownsRow B 42 3 (.slice (some ⟨g, 0, none⟩) (L.length + 1) cap) (L.length + 1) (flatL L ++ cell3 p)) (hgrow : w.grownBy w1 v.ownBlock) (hat : v.ownBlock = some g ∨ g = w.heap.size) :
    OwnL w1 B (.slice (some ⟨g, 0, none⟩) (L.length + 1) cap) (L ++ [p]) := by
  have hk : ∀ q, GoodP w B v q → GoodP w1 B (.slice (some ⟨g, 0, none⟩) (L.length + 1) cap) q := by
    intro q hq
    have hq7 := hq.2.2.2.2.2.2
    have h1 := hq.kept hgrow.size (fun y hy _ h2 => hgrow.block _ h2 (Ne.symm (hq7 y hy).2))
    obtain ⟨r1, r2, r3, r4, r5, r6, r7⟩ := h1
    refine ⟨r1, r2, r3, r4, r5, r6, fun y hy => ⟨(r7 y hy).1, ?_⟩⟩
    show some g ≠ some y.block
    intro e
    injection e with e
    rcases hat with hat | hat
    · exact (hq7 y hy).2 (by rw [hat, e])
    · have := (hq7 y hy).1; omega
  refine ⟨by rw [List.length_append, flatL_snoc]; exact hown, ?_, ?_⟩
  · intro q hq
    rcases List.mem_append.1 hq with hq | hq
    · exact hk q (h.2.1 q hq)
    · simp at hq; subst hq; exact hk q hp
  · intro i j a b x y hij ha hb hx hy
    by_cases hj : j < L.length
    · rw [List.getElem?_append_left (by omega)] at ha
      rw [List.getElem?_append_left hj] at hb
      exact h.2.2 i j a b x y hij ha hb hx hy
    · have hj' : j < (L ++ [p]).length := (List.getElem?_eq_some_iff.1 hb).1
      have hjl : j = L.length := by simp at hj'; omega
      subst hjl
      rw [List.getElem?_append_left (by omega)] at ha
      simp at hb
      subst hb
      exact hd a (List.mem_of_getElem? ha) x y hx hy

theorem OwnL.bxs {w : World} {B : Nat} {v : Value} {L : List (Bx × (Option Addr × Nat))} (h : OwnL w B v L) :
    ∃ a cap, v = .slice a L.length cap ∧ (a = none → cap = 0) ∧ L.length ≤ cap ∧ cap ≤ maxLen ∧ Bxs true B w.heap.size w a (fun j => match L[j]? with | some p => p.2 | none => (none, 0)) (L.map (·.1)) ∧ Dist (fun j => match L[j]? with | some p => p.2 | none => (none, 0)) L.length := by
  obtain ⟨h1, h2, h3⟩ := h
  have hdist : Dist (fun j => match L[j]? with | some p => p.2 | none => (none, 0)) L.length := by
    intro i j x y hij hj hx hy
    have hi' : i < L.length := by omega
    simp only [List.getElem?_eq_getElem hj, List.getElem?_eq_getElem hi'] at hx hy
    exact h3 i j _ _ x y hij (List.getElem?_eq_getElem hi') (List.getElem?_eq_getElem hj) hx hy
  rcases h1.2 with ⟨rfl, hn⟩ | ⟨g, cap, cur, rfl, hg, hh, hnc, hcm, _, _⟩
  · have hL : L = [] := List.eq_nil_of_length_eq_zero hn
    subst hL
    exact ⟨none, 0, rfl, fun _ => rfl, Nat.le_refl _, Nat.zero_le _, Bxs.nil, hdist⟩
  · refine ⟨some ⟨g, 0, none⟩, cap, rfl, fun e => by (cases e), hnc, hcm, ?_, hdist⟩
    intro j x hx
    rw [List.getElem?_map] at hx
    obtain ⟨p, hp, rfl⟩ := Option.map_eq_some_iff.1 hx
    have hjl : j < L.length := (List.getElem?_eq_some_iff.1 hp).1
    obtain ⟨f0, f1, f2⟩ := flatL_get L j p hp
    obtain ⟨r1, r2, r3, r4, r5, r6, r7⟩ := h2 p (List.mem_of_getElem? hp)
    have eA : (match L[j]? with | some p => p.2 | none => ((none, 0) : Option Addr × Nat)) = p.2 := by rw [hp]
    refine ⟨g, 0, rfl, hg, (h1.lt g rfl).2, ?_, ?_, ?_, by simp only [eA]; exact r1, r2, r3, r4, by simp only [eA]; exact r5, by simp only [eA]; exact r6, fun _ => ⟨h1.frozenAt _, h1.frozenAt _, h1.frozenAt _, ?_⟩⟩
    · rw [Nat.zero_add, h1.cellAt _ (by omega)]; exact f0
    · rw [Nat.zero_add, h1.cellAt _ (by omega)]; exact f1
    · rw [Nat.zero_add, h1.cellAt _ (by omega)]; simp only [eA]; exact f2
    · simp only [eA]
      intro y hy e
      exact (r7 y hy).2 (by rw [e]; rfl)

/-- below B, but for block R, all is as it was -/
def Fr (R B : Nat) (w w' : World) : Prop := w'.os = w.os ∧ w'.tape = w.tape ∧ w'.output = w.output ∧ w.heap.size ≤ w'.heap.size ∧ ∀ k, k < B → k ≠ R → w'.heap[k]? = w.heap[k]?
theorem Fr.refl (R B : Nat) (w : World) : Fr R B w w := ⟨rfl, rfl, rfl, Nat.le_refl _, fun _ _ _ => rfl⟩
theorem Fr.trans {R B : Nat} {a b c : World} (h : Fr R B a b) (k : Fr R B b c) : Fr R B a c := ⟨k.1.trans h.1, k.2.1.trans h.2.1, k.2.2.1.trans h.2.2.1, Nat.le_trans h.2.2.2.1 k.2.2.2.1, fun i hi hr => (k.2.2.2.2 i hi hr).trans (h.2.2.2.2 i hi hr)⟩
theorem Fr.of {R B : Nat} {a b : World} (h : Below B a b) : Fr R B a b := ⟨h.os, h.tape, h.output, h.size, fun k hk _ => h.block k hk⟩
theorem Fr.set {R B : Nat} {a w : World} (h : Fr R B a w) (i : Nat) (u : Value) : Fr R B a (w.setCell ⟨R, i, none⟩ u) :=
  h.trans ⟨rfl, rfl, rfl, by simp [World.setCell], fun k hk hr => Below.heap_setCell _ _ _ _ hr⟩
theorem Fr.size {R B : Nat} {a b : World} (h : Fr R B a b) : a.heap.size ≤ b.heap.size := h.2.2.2.1
theorem Fr.below {R B B' : Nat} {a b : World} (h : Fr R B a b) (hR : B' ≤ R) (hB : B' ≤ B) : Below B' a b := ⟨h.1, h.2.1, h.2.2.1, h.2.2.2.1, fun k hk => h.2.2.2.2 k (by omega) (by omega)⟩
theorem Row.fr {own : Bool} {lo hi R B : Nat} {w w' : World} {a : Option Addr} {zs : List Int} (h : Row own lo hi w a zs) (f : Fr R B w w') (hR : hi ≤ R) (hB : hi ≤ B) : Row own lo hi w' a zs :=
  h.same fun b _ h2 => f.2.2.2.2 b (by omega) (by omega)
end Go.Proofs.Ytfdbnlmfnhhcbaa
