/-
  Tasks in memory: lists that are read, owned lists; contracts of the law's functions that weigh, copy and hold lists of tasks against each other, and write marks into them.
  Owned lists of tasks; contracts of the law's functions that copy lists of tasks, hold them against each other and write marks into them.
  When tasks are a job, plain: it names no program; no conditions.
-/
import Derived.Test.YtpmmimcafkillaaZCopyL
namespace Go.Proofs.Ytpmmimcafkillaa
open Go.RowKit
set_option linter.unusedVariables false
set_option linter.unusedSimpArgs false

/-- a task as a value: kind, value, needs, cost -/
abbrev Tv := Int × Int × List Int × Int
/-- the tasks ts behind the address a -/
def Tks (w : World) (a : Option Addr) (ts : List Tv) : Prop :=
  ∀ j t, ts[j]? = some t → ∃ b o p c, a = some ⟨b, o, none⟩ ∧ b < w.heap.size ∧ w.cell? ⟨b, o + j * 4, none⟩ = some (.int .i64 t.1) ∧ w.cell? ⟨b, o + j * 4 + 1, none⟩ = some (.int .i64 t.2.1) ∧ w.cell? ⟨b, o + j * 4 + 2, none⟩ = some (.slice p t.2.2.1.length c) ∧ w.cell? ⟨b, o + j * 4 + 3, none⟩ = some (.int .i64 t.2.2.2) ∧ Ins w p t.2.2.1 ∧ t.2.2.1.length ≤ maxLen
theorem Tks.nil {w : World} {a : Option Addr} : Tks w a [] := by intro j z hz; simp at hz
theorem Tks.below {w w' : World} {a : Option Addr} {ts : List Tv} (h : Tks w a ts) (s : Below w.heap.size w w') : Tks w' a ts := by
  intro j t ht
  obtain ⟨b, o, p, c, e, h1, c0, c1, c2, c3, h3, h4⟩ := h j t ht
  have C := fun i => (bcell s).1 b i h1
  exact ⟨b, o, p, c, e, Nat.lt_of_lt_of_le h1 s.size, (C _).trans c0, (C _).trans c1, (C _).trans c2, (C _).trans c3, h3.below s, h4⟩
theorem tks_at {w wr : World} {a : Option Addr} {ts : List Tv} {k : Nat} (h : Tks w a ts) (hw : Below w.heap.size w wr) (hk : k < ts.length) : ∃ b o p c t, a = some ⟨b, o, none⟩ ∧ ts[k]? = some t ∧ b < w.heap.size ∧ wr.cell? ⟨b, o + k * 4, none⟩ = some (.int .i64 t.1) ∧ wr.cell? ⟨b, o + k * 4 + 1, none⟩ = some (.int .i64 t.2.1) ∧ wr.cell? ⟨b, o + k * 4 + 2, none⟩ = some (.slice p t.2.2.1.length c) ∧ wr.cell? ⟨b, o + k * 4 + 3, none⟩ = some (.int .i64 t.2.2.2) ∧ Ins wr p t.2.2.1 ∧ t.2.2.1.length ≤ maxLen := by
  obtain ⟨b, o, p, c, e, h1, c0, c1, c2, c3, h3, h4⟩ := h k ts[k] (List.getElem?_eq_getElem hk)
  have C := fun i => (bcell hw).1 b i h1
  exact ⟨b, o, p, c, _, e, List.getElem?_eq_getElem hk, h1, (C _).trans c0, (C _).trans c1, (C _).trans c2, (C _).trans c3, h3.below hw, h4⟩
def tot (ts : List Tv) : Nat := (ts.map fun t => t.2.2.1.length).sum
abbrev agT (k v : Int) (p : Option Addr) (n c : Nat) (d : Int) : Value := .agg #[.int .i64 k, .int .i64 v, .slice p n c, .int .i64 d]

theorem own_set {w : World} {B n m g cap : Nat} {e : TypeId} {xs : List Value} {p : Addr} (h : w.ownsRow B e m (.slice (some ⟨g, 0, none⟩) n cap) n xs) (hp : p.block ≠ g) (u : Value) : (w.setCell p u).ownsRow B e m (.slice (some ⟨g, 0, none⟩) n cap) n xs := by
  obtain ⟨h1, h2⟩ := h
  refine ⟨h1, ?_⟩
  rcases h2 with ⟨h2, _⟩ | ⟨g', cap', cur, hv, hg, hh, r⟩
  · cases h2
  · have hv' := hv
    simp only [Value.slice.injEq, Option.some.injEq, Addr.mk.injEq, and_true, true_and] at hv
    obtain ⟨rfl, rfl⟩ := hv
    exact Or.inr ⟨g, cap, cur, rfl, hg, by rw [Below.heap_setCell _ _ _ _ (Ne.symm hp)]; exact hh, r⟩

end Go.Proofs.Ytpmmimcafkillaa

namespace Go.Proofs.Ytpmmimcafkillaa
open Go.RowKit
set_option linter.unusedVariables false
set_option linter.unusedSimpArgs false

/-- an owned list of tasks with rows of their own: they lie from lo on, below hi; the first k are there -/
structure TO (lo hi : Nat) (w : World) (B : Nat) (ts : List Tv) (k : Nat) : Prop where
  ge : lo ≤ B
  lt : B < hi
  blk : ∃ cur : Array Value, w.heap[B]? = some (.cells cur 33 (0, 0)) ∧ cur.size = ts.length * 4 ∧ ∀ j t, ts[j]? = some t → j < k → ∃ g, g < hi ∧ cur[j * 4]? = some (.int .i64 t.1) ∧ cur[j * 4 + 1]? = some (.int .i64 t.2.1) ∧ cur[j * 4 + 2]? = some (.slice (some ⟨g, 0, none⟩) t.2.2.1.length t.2.2.1.length) ∧ cur[j * 4 + 3]? = some (.int .i64 t.2.2.2) ∧ OwnI w lo g t.2.2.1.length t.2.2.1.length t.2.2.1
theorem TO.later {lo hi : Nat} {w w1 : World} {B : Nat} {ts : List Tv} {k : Nat} (h : TO lo hi w B ts k) (hb : Below w.heap.size w w1) : TO lo hi w1 B ts k := by
  obtain ⟨cur, h1, h2, h3⟩ := h.blk
  refine ⟨h.ge, h.lt, cur, blk_below h1 hb, h2, fun j t ht hj => ?_⟩
  obtain ⟨g, g1, c0, c1, c2, c3, g3⟩ := h3 j t ht hj
  exact ⟨g, g1, c0, c1, c2, c3, ownsRow_below g3 hb⟩
theorem TO.mono {lo hi hi' : Nat} {w : World} {B : Nat} {ts : List Tv} {k : Nat} (h : TO lo hi w B ts k) (hh : hi ≤ hi') : TO lo hi' w B ts k := by
  obtain ⟨cur, h1, h2, h3⟩ := h.blk
  refine ⟨h.ge, Nat.lt_of_lt_of_le h.lt hh, cur, h1, h2, fun j t ht hj => ?_⟩
  obtain ⟨g, g1, g2⟩ := h3 j t ht hj
  exact ⟨g, Nat.lt_of_lt_of_le g1 hh, g2⟩
theorem TO.tks {lo hi : Nat} {w : World} {B : Nat} {ts : List Tv} (h : TO lo hi w B ts ts.length) (hm : ∀ t ∈ ts, t.2.2.1.length ≤ maxLen) : Tks w (some ⟨B, 0, none⟩) ts := by
  obtain ⟨cur, h1, h2, h3⟩ := h.blk
  intro j t ht
  obtain ⟨g, g1, c0, c1, c2, c3, g3⟩ := h3 j t ht (List.getElem?_eq_some_iff.1 ht).1
  refine ⟨B, 0, some ⟨g, 0, none⟩, t.2.2.1.length, rfl, (Array.getElem?_eq_some_iff.1 h1).1, ?_, ?_, ?_, ?_, ins_own g3, hm t (List.mem_of_getElem? ht)⟩ <;> rw [Nat.zero_add]
  · simp [World.cell?, h1, c0]
  · simp [World.cell?, h1, c1]
  · simp [World.cell?, h1, c2]
  · simp [World.cell?, h1, c3]
theorem own_ne {w : World} {lo g n cap B : Nat} {l : List Int} {cur : Array Value} (h : OwnI w lo g n cap l) (hB : w.heap[B]? = some (.cells cur 33 (0, 0))) : g ≠ B := by
  rcases h.2 with ⟨hv, _⟩ | ⟨g', cap', cur', hv, _, hh, _⟩
  · cases hv
  · injection hv with e1
    injection e1 with e1
    injection e1 with e1
    subst e1
    intro e
    rw [e, hB] at hh
    injection hh with hh
    injection hh with _ hh
    exact absurd hh (by decide)
theorem heap_set_at {w : World} {B i : Nat} {cur : Array Value} {T : TypeId} {m : Nat × Nat} {v : Value} (h : w.heap[B]? = some (.cells cur T m)) : (w.setCell ⟨B, i, none⟩ v).heap[B]? = some (.cells (cur.setIfInBounds i v) T m) := by
  simp [World.setCell, h, Array.getElem?_modify]
theorem TO.put {lo hi : Nat} {w : World} {B k g : Nat} {ts : List Tv} {t : Tv} (h : TO lo hi w B ts k) (hx : ts[k]? = some t) (hO : OwnI w lo g t.2.2.1.length t.2.2.1.length t.2.2.1) (hg : g < hi) :
    TO lo hi ((((w.setCell ⟨B, k * 4, none⟩ (.int .i64 t.1)).setCell ⟨B, k * 4 + 1, none⟩ (.int .i64 t.2.1)).setCell ⟨B, k * 4 + 2, none⟩ (.slice (some ⟨g, 0, none⟩) t.2.2.1.length t.2.2.1.length)).setCell ⟨B, k * 4 + 3, none⟩ (.int .i64 t.2.2.2)) B ts (k + 1) := by
  obtain ⟨cur, h1, h2, h3⟩ := h.blk
  have hk : k < ts.length := (List.getElem?_eq_some_iff.1 hx).1
  have hkeep : ∀ (g n cap : Nat) (l : List Int), OwnI w lo g n cap l → OwnI ((((w.setCell ⟨B, k * 4, none⟩ (.int .i64 t.1)).setCell ⟨B, k * 4 + 1, none⟩ (.int .i64 t.2.1)).setCell ⟨B, k * 4 + 2, none⟩ (.slice (some ⟨g, 0, none⟩) t.2.2.1.length t.2.2.1.length)).setCell ⟨B, k * 4 + 3, none⟩ (.int .i64 t.2.2.2)) lo g n cap l := fun g n cap l ho => by
    have hne := own_ne ho h1
    exact own_set (own_set (own_set (own_set ho (Ne.symm hne) _) (Ne.symm hne) _) (Ne.symm hne) _) (Ne.symm hne) _
  have hkeep2 : ∀ (g' n cap : Nat) (l : List Int), OwnI w lo g' n cap l → OwnI ((((w.setCell ⟨B, k * 4, none⟩ (.int .i64 t.1)).setCell ⟨B, k * 4 + 1, none⟩ (.int .i64 t.2.1)).setCell ⟨B, k * 4 + 2, none⟩ (.slice (some ⟨g, 0, none⟩) t.2.2.1.length t.2.2.1.length)).setCell ⟨B, k * 4 + 3, none⟩ (.int .i64 t.2.2.2)) lo g' n cap l := fun g n cap l ho => by
    have hne := own_ne ho h1
    exact own_set (own_set (own_set (own_set ho (Ne.symm hne) _) (Ne.symm hne) _) (Ne.symm hne) _) (Ne.symm hne) _
  refine ⟨h.ge, h.lt, _, heap_set_at (heap_set_at (heap_set_at (heap_set_at h1))), by simpa using h2, fun j u hu hj => ?_⟩
  by_cases e : j = k
  · subst e
    rw [hx] at hu
    injection hu with hu
    subst hu
    refine ⟨g, hg, ?_, ?_, ?_, ?_, hkeep2 _ _ _ _ hO⟩
    · rw [Array.getElem?_setIfInBounds_ne (by omega), Array.getElem?_setIfInBounds_ne (by omega), Array.getElem?_setIfInBounds_ne (by omega), Array.getElem?_setIfInBounds_self_of_lt (by omega)]
    · rw [Array.getElem?_setIfInBounds_ne (by omega), Array.getElem?_setIfInBounds_ne (by omega), Array.getElem?_setIfInBounds_self_of_lt (by simp; omega)]
    · rw [Array.getElem?_setIfInBounds_ne (by omega), Array.getElem?_setIfInBounds_self_of_lt (by simp; omega)]
    · rw [Array.getElem?_setIfInBounds_self_of_lt (by simp; omega)]
  · obtain ⟨g', g1, c0, c1, c2, c3, g3⟩ := h3 j u hu (by omega)
    refine ⟨g', g1, ?_, ?_, ?_, ?_, hkeep2 _ _ _ _ g3⟩ <;> rw [Array.getElem?_setIfInBounds_ne (by omega), Array.getElem?_setIfInBounds_ne (by omega), Array.getElem?_setIfInBounds_ne (by omega), Array.getElem?_setIfInBounds_ne (by omega)] <;> assumption
theorem infoT : (Try.prog.info? 33).map (fun i => (i.zero, i.size, i.bytes)) = some (some (.agg #[.int .i64 0, .int .i64 0, .slice none 0 0, .int .i64 0]), 4, 48) := by kernel_rfl

end Go.Proofs.Ytpmmimcafkillaa

namespace Go.Proofs.Ytpmmimcafkillaa
open Go.RowKit
set_option linter.unusedVariables false
set_option linter.unusedSimpArgs false

/-- needs that rise from m on, all below n -/
def ndOk (n : Int) : Int → List Int → Bool
  | _, [] => true
  | m, x :: l => decide (m ≤ x) && decide (x < n) && ndOk n (x + 1) l
def nOk (n : Int) (zs : List Int) : Bool := decide (zs.length ≤ 10) && ndOk n 0 zs
def frm (x : Int) : Bool := decide (0 ≤ x) && decide (x ≤ 10000000)
def tskOk (i : Int) (t : Tv) : Bool := decide (0 ≤ t.1) && decide (t.1 ≤ 9) && frm t.2.1 && nOk i t.2.2.1 && decide (1 ≤ t.2.2.2) && decide (t.2.2.2 ≤ 1000)
def okFrom : Nat → List Tv → Bool
  | _, [] => true
  | i, t :: l => tskOk i t && okFrom (i + 1) l
def jobOk (ts : List Tv) : Bool := decide (ts.length ≤ 200) && okFrom 0 ts
theorem drop_at {α : Type} {l : List α} {k : Nat} {x : α} (h : l[k]? = some x) : l.drop k = x :: l.drop (k + 1) := by
  obtain ⟨hk, e⟩ := List.getElem?_eq_some_iff.1 h
  rw [List.drop_eq_getElem_cons hk, e]
theorem drop_end {α : Type} {l : List α} {k : Nat} (h : ¬ k < l.length) : l.drop k = [] := List.drop_eq_nil_of_le (by omega)
theorem job_short {ts : List Tv} (h : jobOk ts = true) : ts.length ≤ 200 := by
  simp [jobOk] at h; exact h.1
theorem ok_at {ts : List Tv} {i k : Nat} {t : Tv} (h : okFrom i ts = true) (ht : ts[k]? = some t) : tskOk ((i + k : Nat) : Int) t = true := by
  induction ts generalizing i k with
  | nil => simp at ht
  | cons u l ih =>
    simp [okFrom] at h
    cases k with
    | zero => simp at ht; subst ht; exact h.1
    | succ k =>
      have h1 := ih h.2 (by simpa using ht)
      have e : i + 1 + k = i + (k + 1) := by omega
      rw [e] at h1; exact h1
theorem job_at {ts : List Tv} {k : Nat} {t : Tv} (h : jobOk ts = true) (ht : ts[k]? = some t) : tskOk (k : Int) t = true := by
  simp [jobOk] at h
  have h1 := ok_at h.2 ht
  rw [Nat.zero_add] at h1; exact h1
theorem nd_all {n m : Int} {zs : List Int} (h : ndOk n m zs = true) : ∀ x ∈ zs, m ≤ x ∧ x < n := by
  induction zs generalizing m with
  | nil => intro x hx; simp at hx
  | cons y l ih =>
    simp [ndOk] at h
    intro x hx
    rcases List.mem_cons.1 hx with rfl | hx
    · exact h.1
    · have := ih h.2 x hx
      exact ⟨by omega, this.2⟩
structure TOk (i : Nat) (t : Tv) : Prop where
  kind0 : 0 ≤ t.1
  kind1 : t.1 ≤ 9
  val0 : 0 ≤ t.2.1
  val1 : t.2.1 ≤ 10000000
  len : t.2.2.1.length ≤ 10
  need : ∀ x ∈ t.2.2.1, 0 ≤ x ∧ x < i
  cost0 : 1 ≤ t.2.2.2
  cost1 : t.2.2.2 ≤ 1000
theorem job_tok {ts : List Tv} {k : Nat} {t : Tv} (h : jobOk ts = true) (ht : ts[k]? = some t) : TOk k t := by
  have h1 := job_at h ht
  simp [tskOk, frm, nOk] at h1
  obtain ⟨⟨⟨⟨⟨h1, h2⟩, h3, h4⟩, h5, h6⟩, h7⟩, h8⟩ := h1
  exact ⟨h1, h2, h3, h4, h5, nd_all h6, h7, h8⟩
end Go.Proofs.Ytpmmimcafkillaa
