/-
  Contracts of the law's functions that write marks into byte lists and into boxes and look for them again: what each answers and writes.
-/
import Derived.Test.YtfdbnlmfnhhcbaaOwnL
import Derived.Laws.BytesArg
namespace Go.Proofs.Ytfdbnlmfnhhcbaa
open Go.RowKit
set_option linter.unusedVariables false
set_option linter.unusedSimpArgs false

/-- blocks outside of S are as they were, and none is new -/
def Only (S : Nat → Prop) (w w' : World) : Prop := w'.os = w.os ∧ w'.tape = w.tape ∧ w'.output = w.output ∧ w.heap.size ≤ w'.heap.size ∧ ∀ b, b < w.heap.size → ¬ S b → w'.heap[b]? = w.heap[b]?
theorem Only.refl {S : Nat → Prop} {w : World} : Only S w w := ⟨rfl, rfl, rfl, Nat.le_refl _, fun _ _ _ => rfl⟩
theorem Only.trans {S : Nat → Prop} {a b c : World} (h : Only S a b) (k : Only S b c) : Only S a c := ⟨k.1.trans h.1, k.2.1.trans h.2.1, k.2.2.1.trans h.2.2.1, Nat.le_trans h.2.2.2.1 k.2.2.2.1, fun i hi hS => (k.2.2.2.2 i (Nat.lt_of_lt_of_le hi h.2.2.2.1) hS).trans (h.2.2.2.2 i hi hS)⟩
theorem Only.mono {S T : Nat → Prop} {a b : World} (h : Only S a b) (hST : ∀ b, S b → T b) : Only T a b := ⟨h.1, h.2.1, h.2.2.1, h.2.2.2.1, fun i hi hT => h.2.2.2.2 i hi (fun hs => hT (hST i hs))⟩
theorem Only.set {S : Nat → Prop} {a w : World} (h : Only S a w) {p : Addr} (hp : S p.block) (u : Value) : Only S a (w.setCell p u) :=
  h.trans ⟨rfl, rfl, rfl, by simp [World.setCell], fun b _ hS => Below.heap_setCell _ _ _ _ (fun e => hS (by rw [e]; exact hp))⟩
theorem Only.of {S : Nat → Prop} {a b : World} (h : Below a.heap.size a b) : Only S a b := ⟨h.os, h.tape, h.output, h.size, fun k hk _ => h.block k hk⟩
theorem Only.size {S : Nat → Prop} {a b : World} (h : Only S a b) : a.heap.size ≤ b.heap.size := h.2.2.2.1
theorem Only.below {S : Nat → Prop} {B : Nat} {a b : World} (h : Only S a b) (hB : B ≤ a.heap.size) (hS : ∀ k, k < B → ¬ S k) : Below B a b := ⟨h.1, h.2.1, h.2.2.1, h.2.2.2.1, fun k hk => h.2.2.2.2 k (by omega) (hS k hk)⟩

def mk (k : Int) (i : Nat) : Int := (k + i) % 256
def marks (k : Int) (n : Nat) : List Int := (List.range n).map (mk k)
theorem marks_len (k : Int) (n : Nat) : (marks k n).length = n := by simp [marks]
theorem marks_get (k : Int) (n i : Nat) (h : i < n) : (marks k n)[i]? = some (mk k i) := by simp [marks, h]
theorem mk_bd (k : Int) (i : Nat) : 0 ≤ mk k i ∧ mk k i ≤ 255 := by unfold mk; omega
/-- the first i bytes are marked -/
def mixB (k : Int) (zs : List Int) (i : Nat) : List Int := marks k i ++ zs.drop i
theorem mixB_len (k : Int) (zs : List Int) (i : Nat) (h : i ≤ zs.length) : (mixB k zs i).length = zs.length := by simp [mixB, marks_len]; omega
theorem mixB_get (k : Int) (zs : List Int) (i j : Nat) (h : i ≤ zs.length) : (mixB k zs i)[j]? = if j < i then some (mk k j) else zs[j]? := by
  unfold mixB
  by_cases hj : j < i
  · rw [if_pos hj, List.getElem?_append_left (by rw [marks_len]; exact hj), marks_get k i j hj]
  · rw [if_neg hj, List.getElem?_append_right (by rw [marks_len]; omega), marks_len, List.getElem?_drop]
    congr 1; omega
theorem row_set {lo hi : Nat} {w : World} {b o : Nat} {k : Int} {zs : List Int} {i : Nat} (hi' : i < zs.length) (h : Row true lo hi w (some ⟨b, o, none⟩) (mixB k zs i)) :
    Row true lo hi (w.setCell ⟨b, o + i, none⟩ (.int .u8 (mk k i))) (some ⟨b, o, none⟩) (mixB k zs (i + 1)) := by
  intro j z hz
  rw [mixB_get k zs (i + 1) j (by omega)] at hz
  have hlen := mixB_len k zs i (by omega)
  by_cases hji : j = i
  · subst hji
    rw [if_pos (by omega)] at hz
    injection hz with hz
    subst hz
    obtain ⟨z0, hz0⟩ : ∃ z0, (mixB k zs j)[j]? = some z0 := ⟨_, List.getElem?_eq_getElem (by omega)⟩
    obtain ⟨b', o', e, h1, h2, hc, _, _, hf⟩ := h j z0 hz0
    injection e with e
    injection e with e1 e2 _
    subst e1 e2
    exact ⟨b, o, rfl, h1, h2, World.cell?_setCell_same _ _ _ hc, (mk_bd k j).1, (mk_bd k j).2, fun ho => by rw [World.frozen?_setCell]; exact hf ho⟩
  · have hz' : (mixB k zs i)[j]? = some z := by
      rw [mixB_get k zs i j (by omega)]
      by_cases hj : j < i
      · rw [if_pos hj]; rw [if_pos (by omega)] at hz; exact hz
      · rw [if_neg hj]; rw [if_neg (by omega)] at hz; exact hz
    obtain ⟨b', o', e, h1, h2, hc, z0, z1, hf⟩ := h j z hz'
    injection e with e
    injection e with e1 e2 _
    subst e1 e2
    exact ⟨b, o, rfl, h1, h2, by rw [World.cell?_setCell_other _ _ _ _ (ne_addr (by omega))]; exact hc, z0, z1, fun ho => by rw [World.frozen?_setCell]; exact hf ho⟩
def blkIs (a : Option Addr) (b : Nat) : Prop := ∃ y, a = some y ∧ y.block = b

/-- a number's mark as a text -/
def mtF : Nat → Nat → ByteArray → ByteArray | 0, _, acc => acc | n + 1, k, acc => if k = 0 then acc else mtF n (k / 10) (strOfNums [48 + (k : Int) % 10] ++ acc)
def mt (k : Nat) : ByteArray := ⟨#[109]⟩ ++ mtF k k ⟨#[]⟩
theorem mtF_step {n k : Nat} {acc : ByteArray} (h : 0 < k) : mtF (n + 1) k acc = mtF n (k / 10) (strOfNums [48 + (k : Int) % 10] ++ acc) := by
  conv => lhs; unfold mtF
  rw [if_neg (by omega)]
theorem mtF_zero {n : Nat} {acc : ByteArray} : mtF n 0 acc = acc := by cases n <;> simp [mtF]

/-- boxes as they are marked from k on, and the number behind them -/
def mkX (k : Nat) (x : Bx) : Bx := ⟨mt k, (k : Int) + 1, marks ((k : Int) + 2) x.z.length⟩
def nxt (k : Nat) (x : Bx) : Nat := k + 2 + x.z.length
def markL : Nat → List Bx → List Bx | _, [] => [] | k, x :: t => mkX k x :: markL (nxt k x) t
def endK : Nat → List Bx → Nat | k, [] => k | k, x :: t => endK (nxt k x) t
theorem markL_len (k : Nat) (l : List Bx) : (markL k l).length = l.length := by
  induction l generalizing k with
  | nil => rfl
  | cons x t ih => simp [markL, ih]
theorem markL_snoc (k : Nat) (l : List Bx) (x : Bx) : markL k (l ++ [x]) = markL k l ++ [mkX (endK k l) x] := by
  induction l generalizing k with
  | nil => rfl
  | cons y t ih => simp [markL, endK, ih]
theorem endK_snoc (k : Nat) (l : List Bx) (x : Bx) : endK k (l ++ [x]) = nxt (endK k l) x := by
  induction l generalizing k with
  | nil => rfl
  | cons y t ih => simp [endK, ih]
/-- the first i boxes are marked -/
def mixL (k : Nat) (l : List Bx) (i : Nat) : List Bx := markL k (l.take i) ++ l.drop i
theorem mixL_len (k : Nat) (l : List Bx) (i : Nat) (h : i ≤ l.length) : (mixL k l i).length = l.length := by simp [mixL, markL_len]; omega
theorem mixL_at (k : Nat) (l : List Bx) (i : Nat) (x : Bx) (h : l[i]? = some x) : (mixL k l i)[i]? = some x := by
  have hl := (List.getElem?_eq_some_iff.1 h).1
  unfold mixL
  rw [List.getElem?_append_right (by simp [markL_len]; omega), List.getElem?_drop]
  have e : i + (i - (markL k (l.take i)).length) = i := by simp [markL_len]; omega
  rw [e]; exact h
theorem mixL_set (k : Nat) (l : List Bx) (i : Nat) (x : Bx) (h : l[i]? = some x) : (mixL k l i).set i (mkX (endK k (l.take i)) x) = mixL k l (i + 1) := by
  have hl := (List.getElem?_eq_some_iff.1 h).1
  unfold mixL
  rw [List.set_append_right _ _ (by simp [markL_len]; omega), take_snoc h, markL_snoc]
  have e : i - (markL k (l.take i)).length = 0 := by simp [markL_len]; omega
  rw [e, List.drop_eq_getElem_cons hl, List.set_cons_zero, List.append_assoc]
  rfl
/-- one box's kind, depth and bytes written -/
theorem bxs_upd {lo hi : Nat} {w w' : World} {b o : Nat} {A : Nat → Option Addr × Nat} {l : List Bx} {i : Nat} {x y : Bx} (h : Bxs true lo hi w (some ⟨b, o, none⟩) A l) (hd : Dist A l.length) (hx : l[i]? = some x) (hz : y.z.length = x.z.length) (hk : y.k.size ≤ maxLen) (d0 : -9223372036854775808 ≤ y.d) (d1 : y.d ≤ 9223372036854775807)
    (c0 : w'.cell? ⟨b, o + i * 3, none⟩ = some (.string y.k)) (c1 : w'.cell? ⟨b, o + i * 3 + 1, none⟩ = some (.int .i64 y.d)) (hoth : ∀ j, j ≠ i * 3 → j ≠ i * 3 + 1 → w'.cell? ⟨b, o + j, none⟩ = w.cell? ⟨b, o + j, none⟩)
    (hfz : ∀ j, w'.frozen? ⟨b, o + j, none⟩ = w.frozen? ⟨b, o + j, none⟩) (hrow : Row true lo hi w' (A i).1 y.z) (hblk : ∀ g, lo ≤ g → g < hi → g ≠ b → (∀ q, (A i).1 = some q → q.block ≠ g) → w'.heap[g]? = w.heap[g]?) : Bxs true lo hi w' (some ⟨b, o, none⟩) A (l.set i y) := by
  have hil := (List.getElem?_eq_some_iff.1 hx).1
  intro j u hu
  by_cases hji : j = i
  · subst hji
    rw [List.getElem?_set_self hil] at hu
    injection hu with hu
    subst hu
    obtain ⟨b', o', e, h1, h2, e0, e1, e2, r, k1, _, _, z1, z2, hf⟩ := h j x hx
    injection e with e
    injection e with eb eo _
    subst eb eo
    have hF := hf rfl
    refine ⟨b, o, rfl, h1, h2, c0, c1, ?_, hrow, hk, d0, d1, by omega, z2, fun _ => ⟨?_, ?_, ?_, hF.2.2.2⟩⟩
    · rw [Nat.add_assoc, hoth _ (by omega) (by omega), ← Nat.add_assoc, hz]; exact e2
    · rw [hfz]; exact hF.1
    · rw [Nat.add_assoc, hfz, ← Nat.add_assoc]; exact hF.2.1
    · rw [Nat.add_assoc, hfz, ← Nat.add_assoc]; exact hF.2.2.1
  · rw [List.getElem?_set_ne (Ne.symm hji)] at hu
    have hjl := (List.getElem?_eq_some_iff.1 hu).1
    obtain ⟨b', o', e, h1, h2, e0, e1, e2, r, k1, g0, g1, z1, z2, hf⟩ := h j u hu
    injection e with e
    injection e with eb eo _
    subst eb eo
    have hF := hf rfl
    refine ⟨b, o, rfl, h1, h2, ?_, ?_, ?_, ?_, k1, g0, g1, z1, z2, fun _ => ⟨?_, ?_, ?_, hF.2.2.2⟩⟩
    · rw [hoth _ (by omega) (by omega)]; exact e0
    · rw [Nat.add_assoc, hoth _ (by omega) (by omega), ← Nat.add_assoc]; exact e1
    · rw [Nat.add_assoc, hoth _ (by omega) (by omega), ← Nat.add_assoc]; exact e2
    · refine r.sameB (Nat.le_refl _) (fun q hq y1 y2 => hblk _ y1 y2 (hF.2.2.2 q hq) (fun p hp => ?_))
      rcases Nat.lt_or_gt_of_ne hji with hlt | hlt
      · exact Ne.symm (hd j i q p hlt hil hq hp)
      · exact hd i j p q hlt hjl hp hq
    · rw [hfz]; exact hF.1
    · rw [Nat.add_assoc, hfz, ← Nat.add_assoc]; exact hF.2.1
    · rw [Nat.add_assoc, hfz, ← Nat.add_assoc]; exact hF.2.2.1
end Go.Proofs.Ytfdbnlmfnhhcbaa
