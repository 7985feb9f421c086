/-
  Lists of bytes in memory: owned rows and lists that are read, and contracts of the law's functions that copy them, hold them against each other, write marks into them and look for these again.
-/
import Derived.Test.YtcgdcabmjihijaaMm
namespace Go.Proofs.Ytcgdcabmjihijaa
open Go.RowKit
set_option linter.unusedVariables false
set_option linter.unusedSimpArgs false

abbrev bv (x : Int) : Value := .int .u8 x
/-- the first i cells bear the marks from q on -/
def MkB (q : Int) (i : Nat) (xs : List Value) : Prop := ∀ j, j < i → xs[j]? = some (bv ((q + j) % 256))
theorem MkB.set {q : Int} {i : Nat} {xs : List Value} (h : MkB q i xs) (hi : i < xs.length) : MkB q (i + 1) (xs.set i (bv ((q + i) % 256))) := by
  intro j hj
  by_cases e : j = i
  · subst e; simp [hi]
  · rw [List.getElem?_set_ne (by omega)]; exact h j (by omega)
/-- numbers of a byte -/
def Byt (l : List Int) : Prop := ∀ z ∈ l, 0 ≤ z ∧ z ≤ 255
theorem infoB : (Try.prog.info? 5).map (fun i => (i.zero, i.size, i.bytes)) = some (some (.int .u8 0), 1, 1) := by kernel_rfl
/-- the numbers l behind the address a -/
def Bys (w : World) (a : Option Addr) (l : List Int) : Prop :=
  ∀ j x, l[j]? = some x → ∃ b o, a = some ⟨b, o, none⟩ ∧ b < w.heap.size ∧ w.cell? ⟨b, o + j, none⟩ = some (.int .u8 x)
theorem Bys.nil {w : World} {a : Option Addr} : Bys w a [] := by intro j z hz; simp at hz
theorem Bys.below {w w' : World} {a : Option Addr} {l : List Int} (h : Bys w a l) (s : Below w.heap.size w w') : Bys w' a l := by
  intro j x hx
  obtain ⟨b, o, e, h1, c0⟩ := h j x hx
  exact ⟨b, o, e, Nat.lt_of_lt_of_le h1 s.size, ((bcell s).1 b _ h1).trans c0⟩
theorem bys_at {w wr : World} {a : Option Addr} {l : List Int} {k : Nat} (h : Bys w a l) (hw : Below w.heap.size w wr) (hk : k < l.length) : ∃ b o x, a = some ⟨b, o, none⟩ ∧ l[k]? = some x ∧ b < w.heap.size ∧ wr.cell? ⟨b, o + k, none⟩ = some (.int .u8 x) := by
  obtain ⟨b, o, e, h1, c0⟩ := h k l[k] (List.getElem?_eq_getElem hk)
  exact ⟨b, o, _, e, List.getElem?_eq_getElem hk, h1, ((bcell hw).1 b _ h1).trans c0⟩
/-- an owned list of numbers -/
abbrev OwnB (w : World) (B g n cap : Nat) (l : List Int) : Prop := w.ownsRow B 5 1 (.slice (some ⟨g, 0, none⟩) n cap) n (l.map bv)
theorem ownB_len {w : World} {B g n cap : Nat} {l : List Int} (h : OwnB w B g n cap l) : l.length = n := by
  have hl : (l.map bv).length = n * 1 := h.1
  simpa using hl
theorem ownB_at {w : World} {B g n cap k : Nat} {l : List Int} {x : Int} (hk : l[k]? = some x) (h : OwnB w B g n cap l) : w.cell? ⟨g, k, none⟩ = some (.int .u8 x) := by
  have hl := ownB_len h
  have hj : k < l.length := (List.getElem?_eq_some_iff.1 hk).1
  have := h.cellAt k (by omega)
  rw [this, List.getElem?_map, hk]; rfl
theorem ownB_put {w : World} {B g n cap : Nat} {l : List Int} (k : Nat) (x : Int) (h : OwnB w B g n cap l) : OwnB (w.setCell ⟨g, k, none⟩ (.int .u8 x)) B g n cap (l.set k x) := by
  have h1 := (h.stored k (bv x)).1
  show World.ownsRow _ _ _ _ _ _ _
  rw [List.map_set]; exact h1
theorem bys_own {w : World} {B g n cap : Nat} {l : List Int} (h : OwnB w B g n cap l) : Bys w (some ⟨g, 0, none⟩) l := by
  intro j z hj
  exact ⟨g, 0, rfl, own_lt h, by rw [Nat.zero_add]; exact ownB_at hj h⟩
theorem ownB_lit0 (w : World) {B : Nat} (hB : B ≤ w.heap.size) : OwnB (w.alloc (.cells #[] 5)) B w.heap.size 0 0 [] := by
  have h := World.ownsRow_lit (base := B) (e := 5) (size := 1) w #[] 0 hB (by unfold maxLen; omega) rfl
  exact h
/-- the copy's list as it stands -/
def midB (l : List Int) (n k : Nat) : List Int := l.take k ++ List.replicate (n - k) 0
theorem midB_len {l : List Int} {n k : Nat} (hl : l.length = n) (hk : k ≤ n) : (midB l n k).length = n := by simp [midB]; omega
theorem midB_set {l : List Int} {n k : Nat} {x : Int} (hl : l.length = n) (h : l[k]? = some x) : (midB l n k).set k x = midB l n (k + 1) := by
  have hk : k < l.length := (List.getElem?_eq_some_iff.1 h).1
  unfold midB
  rw [List.take_add_one, h, List.set_append_right _ _ (by simp; omega)]
  have e : n - k = (n - (k + 1)) + 1 := by omega
  rw [e, List.replicate_succ]
  have e2 : k - (l.take k).length = 0 := by simp; omega
  rw [e2]; simp
theorem made_B (n : Nat) : (madeCells #[.int .u8 0] n).toList = (List.replicate n (0 : Int)).map bv := by
  have := toList_madeCells_one (.int .u8 0) n
  simpa [bv] using this

end Go.Proofs.Ytcgdcabmjihijaa
