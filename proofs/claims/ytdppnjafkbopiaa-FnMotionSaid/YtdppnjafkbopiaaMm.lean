/-
  Lists of numbers in memory: owned rows and lists that are read, and contracts of the law's functions that copy them, hold them against each other, write marks into them and look for these again.
-/
import Derived.Test.YtdppnjafkbopiaaProg
import Derived.WalkKit
import Derived.WalkSpells
import Derived.WalkLawsBesides
import Derived.Deep.QuietTactic
import Derived.BigQuiet
import Derived.Deep.RegionHeld3
import Derived.Outline
import Derived.Deep.AppendLies
import Derived.Lib.MinMax
namespace Go.Proofs.Ytdppnjafkbopiaa
open Go.RowKit
set_option linter.unusedVariables false
set_option linter.unusedSimpArgs false

theorem hide {p : Prop} (h : p) : Hid p := h
theorem unhide {p : Prop} (h : Hid p) : p := h
theorem ret_int {k : IntKind} {a b : Int} (h : a = b) : Ending.returned (.int k a) = .returned (.int k b) := by rw [h]
theorem ret_bool {a b : Bool} (h : a = b) : Ending.returned (.bool a) = .returned (.bool b) := by rw [h]
theorem bcell {W w1 : World} (hb : Below W.heap.size W w1) : (∀ b o, b < W.heap.size → w1.cell? ⟨b, o, none⟩ = W.cell? ⟨b, o, none⟩) ∧ (∀ b o, b < W.heap.size → w1.frozen? ⟨b, o, none⟩ = W.frozen? ⟨b, o, none⟩) :=
  ⟨fun b o h => hb.cell (p := ⟨b, o, none⟩) h, fun b o h => hb.frozen (p := ⟨b, o, none⟩) h⟩
abbrev iv (x : Int) : Value := .int .i64 x
theorem own_mono {w : World} {B B' n m : Nat} {e : TypeId} {v : Value} {xs : List Value} (h : w.ownsRow B e m v n xs) (hB : B' ≤ B) : w.ownsRow B' e m v n xs := by
  obtain ⟨h1, h2⟩ := h
  refine ⟨h1, ?_⟩
  rcases h2 with h2 | ⟨g, cap, cur, hv, hg, r⟩
  · exact Or.inl h2
  · exact Or.inr ⟨g, cap, cur, hv, by omega, r⟩
theorem own_up {w : World} {B B' g n m cap : Nat} {e : TypeId} {xs : List Value} (h : w.ownsRow B e m (.slice (some ⟨g, 0, none⟩) n cap) n xs) (hB : B' ≤ g) : w.ownsRow B' e m (.slice (some ⟨g, 0, none⟩) n cap) n xs := by
  obtain ⟨h1, h2⟩ := h
  refine ⟨h1, ?_⟩
  rcases h2 with h2 | ⟨g', cap', cur, hv, hg, r⟩
  · exact Or.inl h2
  · refine Or.inr ⟨g', cap', cur, hv, ?_, r⟩
    injection hv with e1
    injection e1 with e1
    injection e1 with e1
    omega
theorem ownsRow_below {w w1 : World} {B n m : Nat} {e : TypeId} {v : Value} {xs : List Value} (h : w.ownsRow B e m v n xs) (hb : Below w.heap.size w w1) : w1.ownsRow B e m v n xs := by
  obtain ⟨h1, h2⟩ := h
  refine ⟨h1, ?_⟩
  rcases h2 with h2 | ⟨g, cap, cur, hv, hg, hh, r⟩
  · exact Or.inl h2
  · exact Or.inr ⟨g, cap, cur, hv, hg, by rw [hb.block g (by have := (Array.getElem?_eq_some_iff.1 hh).1; exact this)]; exact hh, r⟩
theorem own_lt {w : World} {B g n cap m : Nat} {e : TypeId} {xs : List Value} (h : w.ownsRow B e m (.slice (some ⟨g, 0, none⟩) n cap) n xs) : g < w.heap.size := (h.lt g rfl).2
theorem own_ge {w : World} {B g n cap m : Nat} {e : TypeId} {xs : List Value} (h : w.ownsRow B e m (.slice (some ⟨g, 0, none⟩) n cap) n xs) : B ≤ g := (h.lt g rfl).1
theorem own_blk {w w1 : World} {B C g n m cap : Nat} {e : TypeId} {xs : List Value} (ho : w.ownsRow B e m (.slice (some ⟨g, 0, none⟩) n cap) n xs) (hb : Below C w w1) (hg : g < C) : w1.ownsRow B e m (.slice (some ⟨g, 0, none⟩) n cap) n xs := by
  obtain ⟨h1, h2⟩ := ho
  refine ⟨h1, ?_⟩
  rcases h2 with h2 | ⟨g', cap', cur, hv, hB, hh, r⟩
  · exact Or.inl h2
  · refine Or.inr ⟨g', cap', cur, hv, hB, ?_, r⟩
    injection hv with e1
    injection e1 with e1
    injection e1 with e1
    subst e1
    rw [hb.block g hg]; exact hh
theorem own_kept {w w1 : World} {B g n m cap h : Nat} {e : TypeId} {xs : List Value} (ho : w.ownsRow B e m (.slice (some ⟨g, 0, none⟩) n cap) n xs) (hg : w.grownBy w1 (some h)) (hne : g ≠ h) : w1.ownsRow B e m (.slice (some ⟨g, 0, none⟩) n cap) n xs := by
  have hlt := own_lt ho
  obtain ⟨h1, h2⟩ := ho
  refine ⟨h1, ?_⟩
  rcases h2 with h2 | ⟨g', cap', cur, hv, hB, hh, r⟩
  · exact Or.inl h2
  · refine Or.inr ⟨g', cap', cur, hv, hB, ?_, r⟩
    injection hv with e1
    injection e1 with e1
    injection e1 with e1
    subst e1
    rw [hg.block g hlt (by intro hh; injection hh with hh; exact hne hh)]; exact hh
theorem below_grown {W w w1 : World} {g : Nat} (h : Below W.heap.size W w) (hg : w.grownBy w1 (some g)) (hB : W.heap.size ≤ g) : Below W.heap.size W w1 :=
  h.grown hg h.size (fun k hk => by injection hk with hk; omega)
theorem laterB {W w w1 : World} (h : Below W.heap.size W w) (hb : Below w.heap.size w w1) : Below W.heap.size W w1 := h.trans (hb.mono h.size)
/-- the first i cells bear the marks from q on -/
def Mkd (q : Int) (i : Nat) (xs : List Value) : Prop := ∀ j, j < i → xs[j]? = some (iv (q + j))
theorem Mkd.set {q : Int} {i : Nat} {xs : List Value} (h : Mkd q i xs) (hi : i < xs.length) : Mkd q (i + 1) (xs.set i (iv (q + i))) := by
  intro j hj
  by_cases e : j = i
  · subst e; simp [hi]
  · rw [List.getElem?_set_ne (by omega)]; exact h j (by omega)
theorem grown_refl (w : World) (g : Option Nat) : w.grownBy w g := ⟨rfl, rfl, rfl, Nat.le_refl _, fun _ _ _ => rfl⟩
theorem grown_trans {w w1 w2 : World} {g : Option Nat} (h : w.grownBy w1 g) (k : w1.grownBy w2 g) : w.grownBy w2 g :=
  ⟨k.os.trans h.os, k.tape.trans h.tape, k.output.trans h.output, Nat.le_trans h.size k.size, fun j hj hn => (k.block j (Nat.lt_of_lt_of_le hj h.size) hn).trans (h.block j hj hn)⟩
theorem grown_set {w w1 : World} {g i : Nat} {v : Value} (h : w.grownBy w1 (some g)) : w.grownBy (w1.setCell ⟨g, i, none⟩ v) (some g) :=
  grown_trans h ⟨rfl, rfl, rfl, by simp, fun j hj hn => by
    have hg : g ≠ j := fun e => hn (by rw [e])
    simp [World.setCell, Array.getElem?_modify, hg]⟩
theorem own_at {w : World} {B g n m cap i : Nat} {e : TypeId} {xs : List Value} (h : w.ownsRow B e m (.slice (some ⟨g, 0, none⟩) n cap) n xs) (hi : i < n * m) : ∃ v, w.cell? ⟨g, i, none⟩ = some v ∧ w.frozen? ⟨g, i, none⟩ = false ∧ xs[i]? = some v ∧ xs.length = n * m := by
  have hl : xs.length = n * m := h.1
  have hc := h.cellAt i hi
  exact ⟨xs[i]'(by omega), by rw [hc, List.getElem?_eq_getElem (by omega)], h.frozenAt i, List.getElem?_eq_getElem (by omega), hl⟩
theorem infoI : (Try.prog.info? 2).map (fun i => (i.zero, i.size, i.bytes)) = some (some (.int .i64 0), 1, 8) := by kernel_rfl
/-- the numbers l behind the address a -/
def Ins (w : World) (a : Option Addr) (l : List Int) : Prop :=
  ∀ j x, l[j]? = some x → ∃ b o, a = some ⟨b, o, none⟩ ∧ b < w.heap.size ∧ w.cell? ⟨b, o + j, none⟩ = some (.int .i64 x)
theorem Ins.nil {w : World} {a : Option Addr} : Ins w a [] := by intro j z hz; simp at hz
theorem Ins.below {w w' : World} {a : Option Addr} {l : List Int} (h : Ins w a l) (s : Below w.heap.size w w') : Ins w' a l := by
  intro j x hx
  obtain ⟨b, o, e, h1, c0⟩ := h j x hx
  exact ⟨b, o, e, Nat.lt_of_lt_of_le h1 s.size, ((bcell s).1 b _ h1).trans c0⟩
theorem ins_at {w wr : World} {a : Option Addr} {l : List Int} {k : Nat} (h : Ins w a l) (hw : Below w.heap.size w wr) (hk : k < l.length) : ∃ b o x, a = some ⟨b, o, none⟩ ∧ l[k]? = some x ∧ b < w.heap.size ∧ wr.cell? ⟨b, o + k, none⟩ = some (.int .i64 x) := by
  obtain ⟨b, o, e, h1, c0⟩ := h k l[k] (List.getElem?_eq_getElem hk)
  exact ⟨b, o, _, e, List.getElem?_eq_getElem hk, h1, ((bcell hw).1 b _ h1).trans c0⟩
/-- an owned list of numbers -/
abbrev OwnI (w : World) (B g n cap : Nat) (l : List Int) : Prop := w.ownsRow B 2 1 (.slice (some ⟨g, 0, none⟩) n cap) n (l.map iv)
theorem ownI_len {w : World} {B g n cap : Nat} {l : List Int} (h : OwnI w B g n cap l) : l.length = n := by
  have hl : (l.map iv).length = n * 1 := h.1
  simpa using hl
theorem ownI_at {w : World} {B g n cap k : Nat} {l : List Int} {x : Int} (hk : l[k]? = some x) (h : OwnI w B g n cap l) : w.cell? ⟨g, k, none⟩ = some (.int .i64 x) := by
  have hl := ownI_len h
  have hj : k < l.length := (List.getElem?_eq_some_iff.1 hk).1
  have := h.cellAt k (by omega)
  rw [this, List.getElem?_map, hk]; rfl
theorem ownI_put {w : World} {B g n cap : Nat} {l : List Int} (k : Nat) (x : Int) (h : OwnI w B g n cap l) : OwnI (w.setCell ⟨g, k, none⟩ (.int .i64 x)) B g n cap (l.set k x) := by
  have h1 := (h.stored k (iv x)).1
  show World.ownsRow _ _ _ _ _ _ _
  rw [List.map_set]; exact h1
theorem ins_own {w : World} {B g n cap : Nat} {l : List Int} (h : OwnI w B g n cap l) : Ins w (some ⟨g, 0, none⟩) l := by
  intro j z hj
  exact ⟨g, 0, rfl, own_lt h, by rw [Nat.zero_add]; exact ownI_at hj h⟩
theorem ownI_lit0 (w : World) {B : Nat} (hB : B ≤ w.heap.size) : OwnI (w.alloc (.cells #[] 2)) B w.heap.size 0 0 [] := by
  have h := World.ownsRow_lit (base := B) (e := 2) (size := 1) w #[] 0 hB (by unfold maxLen; omega) rfl
  exact h
theorem ownI_lit3 (w : World) {B : Nat} (a b c : Int) (hB : B ≤ w.heap.size) : OwnI (w.alloc (.cells #[.int .i64 a, .int .i64 b, .int .i64 c] 2)) B w.heap.size 3 3 [a, b, c] := by
  have h := World.ownsRow_lit (base := B) (e := 2) (size := 1) w #[.int .i64 a, .int .i64 b, .int .i64 c] 3 hB (by unfold maxLen; omega) rfl
  exact h

/-- the copy's list as it stands -/
def midI (l : List Int) (n k : Nat) : List Int := l.take k ++ List.replicate (n - k) 0
theorem midI_len {l : List Int} {n k : Nat} (hl : l.length = n) (hk : k ≤ n) : (midI l n k).length = n := by simp [midI]; omega
theorem midI_set {l : List Int} {n k : Nat} {x : Int} (hl : l.length = n) (h : l[k]? = some x) : (midI l n k).set k x = midI l n (k + 1) := by
  have hk : k < l.length := (List.getElem?_eq_some_iff.1 h).1
  unfold midI
  rw [List.take_add_one, h, List.set_append_right _ _ (by simp; omega)]
  have e : n - k = (n - (k + 1)) + 1 := by omega
  rw [e, List.replicate_succ]
  have e2 : k - (l.take k).length = 0 := by simp; omega
  rw [e2]; simp
theorem made_I (n : Nat) : (madeCells #[.int .i64 0] n).toList = (List.replicate n (0 : Int)).map iv := by
  have := toList_madeCells_one (.int .i64 0) n
  simpa [iv] using this

end Go.Proofs.Ytdppnjafkbopiaa
