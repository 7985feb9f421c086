/-
  Lists of strings in memory: owned rows and lists that are read, and contracts of the law's functions that copy them and hold them against each other.
-/
import Derived.Test.YtcgdcabmjihijaaBasA
namespace Go.Proofs.Ytcgdcabmjihijaa
open Go.RowKit
set_option linter.unusedVariables false
set_option linter.unusedSimpArgs false

theorem infoS : (Try.prog.info? 9).map (fun i => (i.zero, i.size, i.bytes)) = some (some (.string ⟨#[]⟩), 1, 16) := by kernel_rfl
/-- the numbers l behind the address a -/
def Sts (w : World) (a : Option Addr) (l : List ByteArray) : Prop :=
  ∀ j x, l[j]? = some x → ∃ b o, a = some ⟨b, o, none⟩ ∧ b < w.heap.size ∧ w.cell? ⟨b, o + j, none⟩ = some (.string x)
theorem Sts.nil {w : World} {a : Option Addr} : Sts w a [] := by intro j z hz; simp at hz
theorem Sts.below {w w' : World} {a : Option Addr} {l : List ByteArray} (h : Sts w a l) (s : Below w.heap.size w w') : Sts w' a l := by
  intro j x hx
  obtain ⟨b, o, e, h1, c0⟩ := h j x hx
  exact ⟨b, o, e, Nat.lt_of_lt_of_le h1 s.size, ((bcell s).1 b _ h1).trans c0⟩
theorem sts_at {w wr : World} {a : Option Addr} {l : List ByteArray} {k : Nat} (h : Sts w a l) (hw : Below w.heap.size w wr) (hk : k < l.length) : ∃ b o x, a = some ⟨b, o, none⟩ ∧ l[k]? = some x ∧ b < w.heap.size ∧ wr.cell? ⟨b, o + k, none⟩ = some (.string x) := by
  obtain ⟨b, o, e, h1, c0⟩ := h k l[k] (List.getElem?_eq_getElem hk)
  exact ⟨b, o, _, e, List.getElem?_eq_getElem hk, h1, ((bcell hw).1 b _ h1).trans c0⟩
/-- an owned list of numbers -/
abbrev OwnS (w : World) (B g n cap : Nat) (l : List ByteArray) : Prop := w.ownsRow B 9 1 (.slice (some ⟨g, 0, none⟩) n cap) n (l.map sv)
theorem ownS_len {w : World} {B g n cap : Nat} {l : List ByteArray} (h : OwnS w B g n cap l) : l.length = n := by
  have hl : (l.map sv).length = n * 1 := h.1
  simpa using hl
theorem ownS_at {w : World} {B g n cap k : Nat} {l : List ByteArray} {x : ByteArray} (hk : l[k]? = some x) (h : OwnS w B g n cap l) : w.cell? ⟨g, k, none⟩ = some (.string x) := by
  have hl := ownS_len h
  have hj : k < l.length := (List.getElem?_eq_some_iff.1 hk).1
  have := h.cellAt k (by omega)
  rw [this, List.getElem?_map, hk]; rfl
theorem ownS_put {w : World} {B g n cap : Nat} {l : List ByteArray} (k : Nat) (x : ByteArray) (h : OwnS w B g n cap l) : OwnS (w.setCell ⟨g, k, none⟩ (.string x)) B g n cap (l.set k x) := by
  have h1 := (h.stored k (sv x)).1
  show World.ownsRow _ _ _ _ _ _ _
  rw [List.map_set]; exact h1
theorem sts_own {w : World} {B g n cap : Nat} {l : List ByteArray} (h : OwnS w B g n cap l) : Sts w (some ⟨g, 0, none⟩) l := by
  intro j z hj
  exact ⟨g, 0, rfl, own_lt h, by rw [Nat.zero_add]; exact ownS_at hj h⟩
theorem ownS_lit0 (w : World) {B : Nat} (hB : B ≤ w.heap.size) : OwnS (w.alloc (.cells #[] 9)) B w.heap.size 0 0 [] := by
  have h := World.ownsRow_lit (base := B) (e := 9) (size := 1) w #[] 0 hB (by unfold maxLen; omega) rfl
  exact h
/-- the copy's list as it stands -/
def midS (l : List ByteArray) (n k : Nat) : List ByteArray := l.take k ++ List.replicate (n - k) ⟨#[]⟩
theorem midS_len {l : List ByteArray} {n k : Nat} (hl : l.length = n) (hk : k ≤ n) : (midS l n k).length = n := by simp [midS]; omega
theorem midS_set {l : List ByteArray} {n k : Nat} {x : ByteArray} (hl : l.length = n) (h : l[k]? = some x) : (midS l n k).set k x = midS l n (k + 1) := by
  have hk : k < l.length := (List.getElem?_eq_some_iff.1 h).1
  unfold midS
  rw [List.take_add_one, h, List.set_append_right _ _ (by simp; omega)]
  have e : n - k = (n - (k + 1)) + 1 := by omega
  rw [e, List.replicate_succ]
  have e2 : k - (l.take k).length = 0 := by simp; omega
  rw [e2]; simp
theorem made_S (n : Nat) : (madeCells #[.string ⟨#[]⟩] n).toList = (List.replicate n (⟨#[]⟩ : ByteArray)).map sv := by
  have := toList_madeCells_one (.string ⟨#[]⟩) n
  simpa [sv] using this

theorem sv_news {w : World} {E : Nat} {v : ByteArray} {t : TypeId} {m : Nat × Nat} (hblk : w.heap[E]? = some (.cells #[.string v] t m)) : ∀ j u, [sv v][j]? = some u → w.cell? ((⟨E, 0, none⟩ : Addr).add j) = some u := by
  have := World.news_of_block hblk
  simpa [sv] using this
theorem wpList_sG {ops : Array Oper} {rest : List Oper} {o : Oper} {a : Act} {Q : Exit → Act → World → Prop} (w : World) (hgd : o.guard = none) (s x : Operand) (ho : o.op = .call { callee := .builtin .append, args := #[s, x], argTypes := #[27, 27] })
    (B g n cap : Nat) (L : List ByteArray) (v : ByteArray) (hs : a.eval s = .slice (some ⟨g, 0, none⟩) n cap) (hown : OwnS w B g n cap L) (hx : a.eval x = .slice (some ⟨w.heap.size, 0, none⟩) 1 1)
    (hl : n ≤ 1000000) (hB : B ≤ w.heap.size)
    (h : ∀ g' cap' w', OwnS w' B g' (n + 1) cap' (L ++ [v]) → w.grownBy w' (some g) → B ≤ g' → (g' = g ∨ w.heap.size ≤ g') → wpList Try.prog ops Q rest (a.put o.dst (.slice (some ⟨g', 0, none⟩) (n + 1) cap')) w') : wpList Try.prog ops Q (o :: rest) a (w.alloc (.cells #[.string v] 9)) := by
  obtain ⟨i0, hi, hz0, hz1, hz2⟩ := info_parts infoS
  have hb : Below w.heap.size w (w.alloc (.cells #[.string v] 9)) := (Below.refl _ _).alloc (Nat.le_refl _) _
  have hblk : (w.alloc (.cells #[.string v] 9)).heap[w.heap.size]? = some (.cells #[.string v] 9 (0, 0)) := heap_alloc_new w _
  have hnews := sv_news hblk
  have hsz := hb.size
  generalize w.alloc (.cells #[.string v] 9) = W at *
  have hown2 := ownsRow_below hown hb
  have hBg : B ≤ g := (hown.lt g rfl).1
  refine wpList_append_lies W hgd s x 27 ho B 9 i0 (.string ⟨#[]⟩) 1 16 Try.underlying27 hi hz0 hz1 hz2 rfl (by decide) _ n (L.map sv) hs hown2 ⟨w.heap.size, 0, none⟩ 1 1 [sv v] hx rfl hnews (by intro u hu; simp at hu; subst hu; rfl) (by decide) (by unfold maxLen; omega) (by omega) (by omega) W.heap.size rfl ?_
  intro g' cap' w' h1 h2 h3 h4
  refine h g' cap' w' (by show World.ownsRow _ _ _ _ _ _ _; rw [List.map_append]; exact h1) ?_ (own_ge h1) ?_
  · exact grown_trans ⟨hb.os, hb.tape, hb.output, hb.size, fun j hj _ => hb.block j hj⟩ h2
  · rcases h3 with h3 | h3
    · simp [Value.ownBlock] at h3; exact .inl h3.symm
    · exact .inr (by omega)

end Go.Proofs.Ytcgdcabmjihijaa
