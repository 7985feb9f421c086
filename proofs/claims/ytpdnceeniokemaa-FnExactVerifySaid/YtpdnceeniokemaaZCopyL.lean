/-
  Lists of bytes that grow: one byte more; an answer that is a new list; no conditions.
  Laws of memory for an asset's three cells; contracts of the leaves: copies, comparisons, sizes; nothing that was there is written.
  Lists of structs of 3 numbers in memory: owned rows and lists that are read; no conditions.
  Contracts of the law's functions that weigh, copy and hold against each other lists of structs, write marks into them and look for them again.
-/
import Derived.Test.YtpdnceeniokemaaZDg
import Derived.Deep.Heap
import Derived.Test.YtpdnceeniokemaaZUpP
import Derived.Test.YtpdnceeniokemaaZLkB
namespace Go.Proofs.Ytpdnceeniokemaa
open Go.RowKit
set_option linter.unusedVariables false
set_option linter.unusedSimpArgs false

theorem heap_alloc_new (w : World) (o : Obj) : (w.alloc o).heap[w.heap.size]? = some o := Deep.blk_alloc_new _ _
theorem bv_news {w : World} {E : Nat} {v : Int} {t : TypeId} {m : Nat × Nat} (hblk : w.heap[E]? = some (.cells #[.int .u8 v] t m)) : ∀ j u, [bv v][j]? = some u → w.cell? ((⟨E, 0, none⟩ : Addr).add j) = some u := by
  have := World.news_of_block hblk
  simpa [bv] using this
/-- an answer that is a new list -/
def AnB (w : World) (L : List Int) (e : Ending) (w' : World) : Prop := ∃ G cap, e = .returned (.slice (some ⟨G, 0, none⟩) L.length cap) ∧ w.heap.size ≤ G ∧ OwnB w' w.heap.size G L.length cap L ∧ Below w.heap.size w w'
theorem AnB.mk {w w' : World} {L : List Int} {k g c : Nat} (hL : L.length = k) (hg : w.heap.size ≤ g) (ho : OwnB w' w.heap.size g k c L) (hb : Below w.heap.size w w') : AnB w L (.returned (.slice (some ⟨g, 0, none⟩) k c)) w' := by
  subst hL; exact ⟨g, c, rfl, hg, ho, hb⟩
theorem wpList_bA {ops : Array Oper} {rest : List Oper} {o : Oper} {a : Act} {Q : Exit → Act → World → Prop} (w : World) (hgd : o.guard = none) (s x : Operand) (ho : o.op = .call { callee := .builtin .append, args := #[s, x], argTypes := #[22, 22] })
    (B g n cap : Nat) (L : List Int) (v : Int) (hs : a.eval s = .slice (some ⟨g, 0, none⟩) n cap) (hown : OwnB w B g n cap L) (hx : a.eval x = .slice (some ⟨w.heap.size, 0, none⟩) 1 1)
    (hl : n ≤ 1000000) (hB : B ≤ w.heap.size)
    (h : ∀ g' cap' w', OwnB w' B g' (n + 1) cap' (L ++ [v]) → Below B w w' → B ≤ g' → wpList Try.prog ops Q rest (a.put o.dst (.slice (some ⟨g', 0, none⟩) (n + 1) cap')) w') : wpList Try.prog ops Q (o :: rest) a (w.alloc (.cells #[.int .u8 v] 5)) := by
  obtain ⟨i0, hi, hz0, hz1, hz2⟩ := info_parts infoB
  have hb : Below w.heap.size w (w.alloc (.cells #[.int .u8 v] 5)) := (Below.refl _ _).alloc (Nat.le_refl _) _
  have hblk : (w.alloc (.cells #[.int .u8 v] 5)).heap[w.heap.size]? = some (.cells #[.int .u8 v] 5 (0, 0)) := heap_alloc_new w _
  have hnews := bv_news hblk
  have hsz := hb.size
  generalize w.alloc (.cells #[.int .u8 v] 5) = W at *
  have hown2 := ownsRow_below hown hb
  have hBg : B ≤ g := (hown.lt g rfl).1
  refine wpList_append_lies W hgd s x 22 ho B 5 i0 (.int .u8 0) 1 1 Try.underlying22 hi hz0 hz1 hz2 rfl (by decide) _ n (L.map bv) hs hown2 ⟨w.heap.size, 0, none⟩ 1 1 [bv v] hx rfl hnews (by intro u hu; simp at hu; subst hu; rfl) (by decide) (by unfold maxLen; omega) (by omega) (by omega) W.heap.size rfl ?_
  intro g' cap' w' h1 h2 h3 h4
  refine h g' cap' w' (by show World.ownsRow _ _ _ _ _ _ _; rw [List.map_append]; exact h1) ?_ (own_ge h1)
  exact (hb.mono hB).trans ((Below.refl _ _).grown h2 (by omega) (fun k hk => by simp [Value.ownBlock] at hk; omega))

theorem anB_nil (w : World) : AnB w [] (.returned (.slice (some ⟨w.heap.size, 0, none⟩) 0 0)) (w.alloc (.cells #[] 5)) :=
  ⟨w.heap.size, 0, rfl, Nat.le_refl _, ownB_lit0 w (Nat.le_refl _), (Below.refl _ _).alloc (Nat.le_refl _) _⟩
theorem bys_low {w : World} {a : Option Addr} {l : List Int} {b o : Nat} (hk : Bys w a l) (h : a = some ⟨b, o, none⟩) (hn : l ≠ []) : b < w.heap.size := by
  cases l with
  | nil => exact absurd rfl hn
  | cons x t =>
    obtain ⟨b', o', e, h1, _⟩ := hk 0 x rfl
    rw [h] at e
    injection e with e
    injection e with e1 e2
    omega

end Go.Proofs.Ytpdnceeniokemaa

namespace Go.Proofs.Ytpdnceeniokemaa
open Go.RowKit
set_option linter.unusedVariables false
set_option linter.unusedSimpArgs false

abbrev sv (s : ByteArray) : Value := .string s
abbrev ag3 (s : ByteArray) (a b : Int) : Value := .agg #[.string s, .int .i64 a, .int .i64 b]
theorem cell_later {w w1 : World} {a : Addr} {v : Value} (hb : Below w.heap.size w w1) (h : w.cell? a = some v) : w1.cell? a = some v := by
  rw [hb.cell (World.block_lt_of_cell? _ _ h)]; exact h
theorem ne_addr {g i j : Nat} (h : i ≠ j) : (⟨g, i, none⟩ : Addr) ≠ ⟨g, j, none⟩ := by intro e; injection e with _ e2 _; exact h e2
theorem ne_blk {g h i j : Nat} (hh : g ≠ h) : (⟨g, i, none⟩ : Addr) ≠ ⟨h, j, none⟩ := by intro e; injection e with e1 _ _; exact hh e1
set_option maxHeartbeats 800000 in
theorem tok1_any (s : ByteArray) (x y : Int) (w : World) : Calls Try.prog 62 #[ag3 s x y] w fun e w' => e = .returned (ag3 s x y) ∧ Below w.heap.size w w' := by
  go_enter Try.func62, Try.ntmps62
  go_wp2
  refine bodyPost_ret (v := ag3 s x y) (by simp [results, Try.results62, go_sem]) rfl ⟨rfl, ?_⟩
  exact ((((Below.refl _ _).alloc (Nat.le_refl _) _).alloc (by simp) _).alloc (by simp; omega) _)

set_option maxHeartbeats 800000 in
theorem eqk_any (s : ByteArray) (x y : Int) (w : World) : Calls Try.prog 64 #[ag3 s x y, ag3 s x y] w fun e w' => e = .returned (.bool true) ∧ Below w.heap.size w w' := by
  have e1 : (x != x) = false := by simp
  have e2 : (y != y) = false := by simp
  go_enter Try.func64, Try.ntmps64
  go_wp2
  go_ret
  exact ⟨rfl, (((Below.refl _ _).alloc (Nat.le_refl _) _).alloc (by simp) _)⟩

set_option maxHeartbeats 800000 in
theorem szt_any (s : ByteArray) (x y n : Int) (w : World) (h0 : 0 ≤ n) (h1 : n ≤ 1048576) (hs : s.size ≤ maxLen) :
    Calls Try.prog 59 #[ag3 s x y, .int .i64 n] w fun e w' => ∃ r : Int, e = .returned (.int .i64 r) ∧ (r = -1 ∨ (0 ≤ r ∧ r ≤ n ∧ s.size ≤ 1048576)) ∧ Below w.heap.size w w' := by
  unfold maxLen at hs
  by_cases h : n - s.size < 0
  · go_enter Try.func59, Try.ntmps59
    go_wp2
    go_ret
    exact ⟨_, rfl, by omega, ((Below.refl _ _).alloc (Nat.le_refl _) _)⟩
  · go_enter Try.func59, Try.ntmps59
    go_wp2
    go_ret
    exact ⟨_, rfl, by omega, ((Below.refl _ _).alloc (Nat.le_refl _) _)⟩

end Go.Proofs.Ytpdnceeniokemaa

namespace Go.Proofs.Ytpdnceeniokemaa
open Go.RowKit
set_option linter.unusedVariables false
set_option linter.unusedSimpArgs false

theorem info44 : (Try.prog.info? 79).map (fun i => (i.zero, i.size, i.bytes)) = some (some (.agg #[.string ⟨#[]⟩, .int .i64 0, .int .i64 0]), 3, 32) := by kernel_rfl
abbrev kv (c : Kl) : Value := .agg #[.string c.1, .int .i64 c.2.1, .int .i64 c.2.2]
/-- a list, cell by cell -/
def flK : List Kl → List Value
  | [] => []
  | x :: l => sv (x.1) :: iv x.2.1 :: iv x.2.2 :: flK l
theorem flK_len (l : List Kl) : (flK l).length = l.length * 3 := by
  induction l with
  | nil => rfl
  | cons x l ih => simp [flK, ih]; omega
theorem flK_append (l m : List Kl) : flK (l ++ m) = flK l ++ flK m := by
  induction l with
  | nil => rfl
  | cons x l ih => simp [flK, ih]
theorem flK_get {l : List Kl} {j : Nat} {x : Kl} (h : l[j]? = some x) : (flK l)[j * 3]? = some (sv (x.1)) ∧ (flK l)[j * 3 + 1]? = some (iv x.2.1) ∧ (flK l)[j * 3 + 2]? = some (iv x.2.2) := by
  induction l generalizing j with
  | nil => simp at h
  | cons y l ih =>
    cases j with
    | zero => simp at h; subst h; exact ⟨rfl, rfl, rfl⟩
    | succ j =>
      have h' : l[j]? = some x := by simpa using h
      have := ih h'
      have e0 : (j + 1) * 3 = j * 3 + 1 + 1 + 1 := by omega
      have e1 : (j + 1) * 3 + 1 = j * 3 + 1 + 1 + 1 + 1 := by omega
      have e2 : (j + 1) * 3 + 2 = j * 3 + 2 + 1 + 1 + 1 := by omega
      rw [e2, e1, e0]
      simpa [flK] using this
theorem flK_set {l : List Kl} {k : Nat} {x : Kl} (hk : k < l.length) : ((((flK l).set (k * 3) (sv (x.1))).set (k * 3 + 1) (iv x.2.1)).set (k * 3 + 2) (iv x.2.2)) = flK (l.set k x) := by
  induction l generalizing k with
  | nil => simp at hk
  | cons y l ih =>
    cases k with
    | zero => simp [flK]
    | succ k =>
      have e0 : (k + 1) * 3 = k * 3 + 1 + 1 + 1 := by omega
      have e1 : (k + 1) * 3 + 1 = k * 3 + 1 + 1 + 1 + 1 := by omega
      have e2 : (k + 1) * 3 + 2 = k * 3 + 2 + 1 + 1 + 1 := by omega
      rw [e2, e1, e0]
      simp only [flK, List.set_cons_succ]
      rw [ih (by simpa using hk)]
/-- the list l behind the address a -/
def Kls (w : World) (a : Option Addr) (l : List Kl) : Prop :=
  ∀ j x, l[j]? = some x → ∃ b o, a = some ⟨b, o, none⟩ ∧ b < w.heap.size ∧ w.cell? ⟨b, o + j * 3, none⟩ = some (.string x.1) ∧ w.cell? ⟨b, o + j * 3 + 1, none⟩ = some (.int .i64 x.2.1) ∧ w.cell? ⟨b, o + j * 3 + 2, none⟩ = some (.int .i64 x.2.2)
theorem Kls.nil {w : World} {a : Option Addr} : Kls w a [] := by intro j z hz; simp at hz
theorem Kls.below {w w' : World} {a : Option Addr} {l : List Kl} (h : Kls w a l) (s : Below w.heap.size w w') : Kls w' a l := by
  intro j x hx
  obtain ⟨b, o, e, h1, c0, c1, c2⟩ := h j x hx
  have C := fun o => (bcell s).1 b o h1
  exact ⟨b, o, e, Nat.lt_of_lt_of_le h1 s.size, (C _).trans c0, (C _).trans c1, (C _).trans c2⟩
/-- an owned list -/
abbrev Own (w : World) (B g n cap : Nat) (l : List Kl) : Prop := w.ownsRow B 79 3 (.slice (some ⟨g, 0, none⟩) n cap) n (flK l)
theorem own_len {w : World} {B g n cap : Nat} {l : List Kl} (h : Own w B g n cap l) : l.length = n := by
  have hl : (flK l).length = n * 3 := h.1
  rw [flK_len] at hl; omega
theorem own_cells {w : World} {B g n cap k : Nat} {l : List Kl} {x : Kl} (hk : l[k]? = some x) (h : Own w B g n cap l) :
    w.cell? ⟨g, k * 3, none⟩ = some (.string x.1) ∧ w.cell? ⟨g, k * 3 + 1, none⟩ = some (.int .i64 x.2.1) ∧ w.cell? ⟨g, k * 3 + 2, none⟩ = some (.int .i64 x.2.2) := by
  have hl := own_len h
  have hj : k < l.length := (List.getElem?_eq_some_iff.1 hk).1
  obtain ⟨a0, a1, a2⟩ := flK_get hk
  exact ⟨(h.cellAt (k * 3) (by omega)).trans a0, (h.cellAt (k * 3 + 1) (by omega)).trans a1, (h.cellAt (k * 3 + 2) (by omega)).trans a2⟩
theorem kls_own {w : World} {B g n cap : Nat} {l : List Kl} (h : Own w B g n cap l) : Kls w (some ⟨g, 0, none⟩) l := by
  intro j z hj
  obtain ⟨c0, c1, c2⟩ := own_cells hj h
  exact ⟨g, 0, rfl, own_lt h, by rw [Nat.zero_add]; exact c0, by rw [Nat.zero_add]; exact c1, by rw [Nat.zero_add]; exact c2⟩
theorem own_put {w : World} {B g n cap k : Nat} {l : List Kl} {x : Kl} (hk : k < l.length) (h : Own w B g n cap l) :
    Own (((w.setCell ⟨g, k * 3, none⟩ (.string x.1)).setCell ⟨g, k * 3 + 1, none⟩ (.int .i64 x.2.1)).setCell ⟨g, k * 3 + 2, none⟩ (.int .i64 x.2.2)) B g n cap (l.set k x) := by
  have h0 := (h.stored (k * 3) (sv (x.1))).1
  have h1 := (h0.stored (k * 3 + 1) (iv x.2.1)).1
  have h2 := (h1.stored (k * 3 + 2) (iv x.2.2)).1
  rw [flK_set hk] at h2
  exact h2
theorem K_news {w : World} {E : Nat} {c : Kl} {t : TypeId} {m : Nat × Nat} (hblk : w.heap[E]? = some (.cells #[.string c.1, .int .i64 c.2.1, .int .i64 c.2.2] t m)) : ∀ j u, [sv (c.1), iv c.2.1, iv c.2.2][j]? = some u → w.cell? ((⟨E, 0, none⟩ : Addr).add j) = some u := by
  have := World.news_of_block hblk
  simpa [iv, sv] using this
/-- one more behind an owned list -/
theorem wpList_k {T : TypeId} (hT : Try.prog.underlying T = some (.slice 79)) {ops : Array Oper} {rest : List Oper} {o : Oper} {a : Act} {Q : Exit → Act → World → Prop} (w : World) (hgd : o.guard = none) (s x : Operand) (ho : o.op = .call { callee := .builtin .append, args := #[s, x], argTypes := #[T, T] })
    (B g n cap : Nat) (L : List Kl) (v : Kl) (hs : a.eval s = .slice (some ⟨g, 0, none⟩) n cap) (hown : Own w B g n cap L) (E : Nat) (hx : a.eval x = .slice (some ⟨E, 0, none⟩) 1 1)
    (hblk : w.heap[E]? = some (.cells #[.string v.1, .int .i64 v.2.1, .int .i64 v.2.2] 79 (0, 0))) (hl : n ≤ 1000000) (hB : B ≤ w.heap.size)
    (h : ∀ g' cap' w', Own w' B g' (n + 1) cap' (L ++ [v]) → Below B w w' → B ≤ g' → wpList Try.prog ops Q rest (a.put o.dst (.slice (some ⟨g', 0, none⟩) (n + 1) cap')) w') : wpList Try.prog ops Q (o :: rest) a w := by
  obtain ⟨i0, hi, hz0, hz1, hz2⟩ := info_parts info44
  have hBg : B ≤ g := (hown.lt g rfl).1
  refine wpList_append_lies w hgd s x T ho B 79 i0 (.agg #[.string ⟨#[]⟩, .int .i64 0, .int .i64 0]) 3 32 hT hi hz0 hz1 hz2 rfl (by decide) _ n (flK L) hs hown ⟨E, 0, none⟩ 1 1 [sv (v.1), iv v.2.1, iv v.2.2] hx rfl (K_news hblk) (by intro u hu; simp at hu; rcases hu with rfl | rfl | rfl <;> rfl) (by decide) (by unfold maxLen; omega) (by omega) hB w.heap.size rfl ?_
  intro g' cap' w' h1 h2 h3 h4
  refine h g' cap' w' (by show World.ownsRow _ _ _ _ _ _ _; rw [flK_append]; exact h1) ?_ ?_
  · exact (Below.refl _ _).grown h2 hB (fun k hk => by simp [Value.ownBlock] at hk; omega)
  · rcases h3 with h3 | h3
    · simp [Value.ownBlock] at h3; omega
    · omega
theorem wpList_kN {T : TypeId} (hT : Try.prog.underlying T = some (.slice 79)) {ops : Array Oper} {rest : List Oper} {o : Oper} {a : Act} {Q : Exit → Act → World → Prop} {X wr : World} {B C g n cap : Nat} {v0 : ByteArray} {v1 : Int} {v2 : Int} {L : List Kl} (hgd : o.guard = none) (s x : Operand) (ho : o.op = .call { callee := .builtin .append, args := #[s, x], argTypes := #[T, T] })
    (hs : a.eval s = .slice (some ⟨g, 0, none⟩) n cap) (hown : Own wr B g n cap L) (hX : Below C wr X) (hg : g < C) (E : Nat) (hE : X.heap.size = E) (hx : a.eval x = .slice (some ⟨E, 0, none⟩) 1 1) (hl : n ≤ 1000000) (hB : B ≤ wr.heap.size) (hBC : B ≤ C)
    (h : ∀ g' cap' w', Own w' B g' (n + 1) cap' (L ++ [(v0, v1, v2)]) → Below B wr w' → B ≤ g' → g' < w'.heap.size → wpList Try.prog ops Q rest (a.put o.dst (.slice (some ⟨g', 0, none⟩) (n + 1) cap')) w') : wpList Try.prog ops Q (o :: rest) a (X.alloc (.cells #[.string v0, .int .i64 v1, .int .i64 v2] 79)) := by
  subst hE
  have hb2 : Below B wr (X.alloc (.cells #[.string v0, .int .i64 v1, .int .i64 v2] 79)) := (hX.mono hBC).alloc (Nat.le_trans hB hX.size) _
  refine wpList_k hT _ hgd s x ho B g n cap L (v0, v1, v2) hs (own_blk (own_blk hown hX hg) ((Below.refl X.heap.size X).alloc (Nat.le_refl _) _) ?_) X.heap.size hx (heap_alloc_new X _) hl (Nat.le_trans hB hb2.size) ?_
  · exact (own_lt (own_blk hown hX hg))
  · intro g' cap' w' h1 h2 h3
    exact h g' cap' w' h1 (hb2.trans h2) h3 (own_lt h1)
/-- a literal with none -/
theorem own_lit0 (w : World) {B : Nat} (hB : B ≤ w.heap.size) : Own (w.alloc (.cells #[] 79)) B w.heap.size 0 0 [] := by
  have h := World.ownsRow_lit (base := B) (e := 79) (size := 3) w #[] 0 hB (by unfold maxLen; omega) rfl
  exact h

end Go.Proofs.Ytpdnceeniokemaa

namespace Go.Proofs.Ytpdnceeniokemaa
open Go.RowKit
set_option linter.unusedVariables false
set_option linter.unusedSimpArgs false

/-- the copy's list as it stands: the first are there, nought behind them -/
def mid (l : List Kl) (n k : Nat) : List Kl := l.take k ++ List.replicate (n - k) (⟨#[]⟩, 0, 0)
theorem mid_len {l : List Kl} {n k : Nat} (hl : l.length = n) (hk : k ≤ n) : (mid l n k).length = n := by simp [mid]; omega
theorem mid_set {l : List Kl} {n k : Nat} {x : Kl} (hl : l.length = n) (h : l[k]? = some x) : (mid l n k).set k x = mid l n (k + 1) := by
  have hk : k < l.length := (List.getElem?_eq_some_iff.1 h).1
  unfold mid
  rw [take_snocK h, List.set_append_right _ _ (by simp; omega)]
  have e : n - k = (n - (k + 1)) + 1 := by omega
  rw [e, List.replicate_succ]
  have e2 : k - (l.take k).length = 0 := by simp; omega
  rw [e2]; simp
theorem made_flK (n : Nat) : (madeCells #[.string ⟨#[]⟩, .int .i64 0, .int .i64 0] (n * 3)).toList = flK (List.replicate n (⟨#[]⟩, 0, 0)) := by
  apply List.ext_getElem
  · simp [madeCells, flK_len]
  · intro i h1 h2
    have hn : i < n * 3 := by rw [flK_len] at h2; simpa using h2
    have hj : (List.replicate n ((⟨#[]⟩, 0, 0) : Kl))[i / 3]? = some (⟨#[]⟩, 0, 0) := by rw [List.getElem?_replicate, if_pos (by omega)]
    obtain ⟨a0, a1, a2⟩ := flK_get hj
    have hr : i % 3 = 0 ∨ i % 3 = 1 ∨ i % 3 = 2 := by omega
    rcases hr with h | h | h
    · have e : i / 3 * 3 = i := by omega
      rw [e, List.getElem?_eq_getElem h2] at a0
      rw [Option.some.inj a0]
      simp [madeCells, h, iv, sv]
    · have e : i / 3 * 3 + 1 = i := by omega
      rw [e, List.getElem?_eq_getElem h2] at a1
      rw [Option.some.inj a1]
      simp [madeCells, h, iv, sv]
    · have e : i / 3 * 3 + 2 = i := by omega
      rw [e, List.getElem?_eq_getElem h2] at a2
      rw [Option.some.inj a2]
      simp [madeCells, h, iv, sv]

set_option maxHeartbeats 1600000 in
theorem tok_any (a : Option Addr) (cap : Nat) (zs : List Kl) (w : World) (hl : zs.length ≤ 1048576) (hr : Kls w a zs) :
    Calls Try.prog 23 #[.slice a zs.length cap] w fun e w' => ∃ B, e = .returned (.slice (some ⟨B, 0, none⟩) zs.length zs.length) ∧ w.heap.size ≤ B ∧ Own w' w.heap.size B zs.length zs.length zs ∧ Below w.heap.size w w' := by
  obtain ⟨i0, hi, hz0, hz1, hz2⟩ := info_parts info44
  go_enter Try.func23, Try.ntmps23
  go_wp2_with (refine wpList_make_full _ rfl _ _ 37 rfl w.heap.size 79 i0 _ 3 Try.underlying37 hi hz0 hz1 .i64 .i64 _ _ zs.length rfl rfl rfl rfl ?b2 ?b3 (Nat.le_refl _) ?_)
  case b2 => rw [hz2]; omega
  case b3 => unfold maxLen; omega
  intro w1 hown hg
  have hb1 : Below w.heap.size w w1 := (Below.refl _ _).grown hg (Nat.le_refl _) (fun k hk => by cases hk)
  have hown1 : Own w1 w.heap.size w.heap.size zs.length zs.length (mid zs zs.length 0) := by
    have e : flK (mid zs zs.length 0) = (madeCells #[.string ⟨#[]⟩, .int .i64 0, .int .i64 0] (zs.length * 3)).toList := by rw [made_flK]; simp [mid]
    show World.ownsRow _ _ _ _ _ _ _
    rw [e]; exact hown
  clear hown hg
  go_wp2
  go_loopw [4] (fun t wr => ∃ k : Nat, k ≤ zs.length ∧ t = .int .i64 k ∧ Hid (Own wr w.heap.size w.heap.size zs.length zs.length (mid zs zs.length k)) ∧ Hid (Below w.heap.size w wr)) (fun t _ => zs.length - (intOf t).toNat)
  case atStart => exact ⟨0, by omega, rfl, hide hown1, hide hb1⟩
  case round =>
    clear hown1 hb1
    obtain ⟨k, hk, rfl, hown, hb⟩ := hrel
    by_cases hlt : k < zs.length
    · obtain ⟨z, hz⟩ : ∃ z, zs[k]? = some z := ⟨zs[k], List.getElem?_eq_getElem hlt⟩
      obtain ⟨b, o, rfl, h2, c0, c1, c2⟩ := hr k z hz
      have hc0 : wr.cell? ⟨b, o + k * 3, none⟩ = some (.string z.1) := by rw [(bcell (unhide hb)).1 _ _ h2]; exact c0
      have hc1 : wr.cell? ⟨b, o + k * 3 + 1, none⟩ = some (.int .i64 z.2.1) := by rw [(bcell (unhide hb)).1 _ _ h2]; exact c1
      have hc2 : wr.cell? ⟨b, o + k * 3 + 2, none⟩ = some (.int .i64 z.2.2) := by rw [(bcell (unhide hb)).1 _ _ h2]; exact c2
      have hr' := hide hr
      have hz' := hide hz
      clear hr hz c0 c1 c2
      go_wp2_with fail
      refine (tok1_any z.1 z.2.1 z.2.2 _).mono ?_
      rintro e w3 ⟨rfl, hb3⟩
      have own3 := ownsRow_below (unhide hown) hb3
      have hml : k < (mid zs zs.length k).length := by rw [mid_len rfl hk]; exact hlt
      obtain ⟨x0, x1, x2⟩ := own_cells (List.getElem?_eq_getElem hml) own3
      have f0 := own3.frozenAt (k * 3)
      have f1 := own3.frozenAt (k * 3 + 1)
      have f2 := own3.frozenAt (k * 3 + 2)
      have hnew := hide (show _ from by have := own_put (x := z) hml own3; rw [mid_set rfl (unhide hz')] at this; exact this)
      have hB3 := hide ((unhide hb).trans (hb3.mono (unhide hb).size))
      generalize (mid zs zs.length k)[k].1 = u0 at *
      generalize (mid zs zs.length k)[k].2.1 = u1 at *
      generalize (mid zs zs.length k)[k].2.2 = u2 at *
      clear own3 hb3 hown hb hml
      go_wp2
      go_roundw
      case rel => exact ⟨k + 1, by omega, by go_num, hnew, hide ((((unhide hB3).setCell (Nat.le_refl _) _).setCell (Nat.le_refl _) _).setCell (Nat.le_refl _) _)⟩
      case measure => simp [intOf]; omega
    · have hke : k = zs.length := by omega
      have hr' := hide hr
      clear hr
      go_wp2
      go_ret
      refine ⟨_, rfl, Nat.le_refl _, ?_, unhide hb⟩
      have := unhide hown
      rw [hke] at this
      simpa [mid] using this

theorem keepN {w w0 w1 : World} {a0 a1 a2 a3 a4 a5 : Addr} {v0 v1 v2 v3 v4 v5 : Value}
    (h : w0.cell? a0 = some v0 ∧ w0.cell? a1 = some v1 ∧ w0.cell? a2 = some v2 ∧ w0.cell? a3 = some v3 ∧ w0.cell? a4 = some v4 ∧ w0.cell? a5 = some v5 ∧ Below w.heap.size w w0) (hb : Below w0.heap.size w0 w1) :
    w1.cell? a0 = some v0 ∧ w1.cell? a1 = some v1 ∧ w1.cell? a2 = some v2 ∧ w1.cell? a3 = some v3 ∧ w1.cell? a4 = some v4 ∧ w1.cell? a5 = some v5 ∧ Below w.heap.size w w1 := by
  obtain ⟨h0, h1, h2, h3, h4, h5, hB⟩ := h
  exact ⟨cell_later hb h0, cell_later hb h1, cell_later hb h2, cell_later hb h3, cell_later hb h4, cell_later hb h5, hB.trans (hb.mono hB.size)⟩
theorem keepNd {w w0 : World} {a0 a1 a2 a3 a4 a5 : Addr} {v0 v1 v2 v3 v4 v5 : Value}
    (h : w0.cell? a0 = some v0 ∧ w0.cell? a1 = some v1 ∧ w0.cell? a2 = some v2 ∧ w0.cell? a3 = some v3 ∧ w0.cell? a4 = some v4 ∧ w0.cell? a5 = some v5 ∧ Below w.heap.size w w0) : w0.drew.cell? a0 = some v0 ∧ w0.drew.cell? a1 = some v1 ∧ w0.drew.cell? a2 = some v2 ∧ w0.drew.cell? a3 = some v3 ∧ w0.drew.cell? a4 = some v4 ∧ w0.drew.cell? a5 = some v5 ∧ Below w.heap.size w w0.drew := by
  obtain ⟨h0, h1, h2, h3, h4, h5, hB⟩ := h
  exact ⟨h0, h1, h2, h3, h4, h5, hB.drew⟩

set_option maxHeartbeats 1600000 in
theorem eqks_any (a b : Option Addr) (ca cb : Nat) (l : List Kl) (w : World) (hl : l.length ≤ 1048576) (ha : Kls w a l) (hb : Kls w b l) :
    Calls Try.prog 25 #[.slice a l.length ca, .slice b l.length cb] w fun e w' => e = .returned (.bool true) ∧ Below w.heap.size w w' := by
  have ha' := hide ha
  have hb' := hide hb
  clear ha hb
  have hne : ((l.length : Int) != l.length) = false := by simp
  go_enter Try.func25, Try.ntmps25
  go_wp2
  go_loopw [5] (fun t wr => ∃ k : Nat, k ≤ l.length ∧ t = .int .i64 k ∧ Below w.heap.size w wr) (fun t _ => l.length - (intOf t).toNat)
  case atStart => exact ⟨0, by omega, rfl, Below.refl _ _⟩
  case round =>
    obtain ⟨k, hk, rfl, hw⟩ := hrel
    by_cases hlt : k < l.length
    · obtain ⟨x, hx⟩ : ∃ x, l[k]? = some x := ⟨l[k], List.getElem?_eq_getElem hlt⟩
      obtain ⟨b1, o1, rfl, i1, c0, c1, c2⟩ := unhide ha' k x hx
      obtain ⟨b2, o2, rfl, i2, e0, e1, e2⟩ := unhide hb' k x hx
      have C := fun o => (bcell hw).1 b1 o i1
      have E := fun o => (bcell hw).1 b2 o i2
      obtain ⟨x0, x1, x2⟩ := x
      have hall : Hid (wr.cell? ⟨b1, o1 + k * 3, none⟩ = some (.string x0) ∧ wr.cell? ⟨b1, o1 + k * 3 + 1, none⟩ = some (.int .i64 x1) ∧ wr.cell? ⟨b1, o1 + k * 3 + 2, none⟩ = some (.int .i64 x2) ∧ wr.cell? ⟨b2, o2 + k * 3, none⟩ = some (.string x0) ∧ wr.cell? ⟨b2, o2 + k * 3 + 1, none⟩ = some (.int .i64 x1) ∧ wr.cell? ⟨b2, o2 + k * 3 + 2, none⟩ = some (.int .i64 x2) ∧ Below w.heap.size w wr) := hide ⟨(C _).trans c0, (C _).trans c1, (C _).trans c2, (E _).trans e0, (E _).trans e1, (E _).trans e2, hw⟩
      have hw' := hide hw
      clear hx c0 e0 c1 e1 c2 e2 hw C E
      go_wp2_with fail
      go_region_held3 (fun w' => w'.cell? ⟨b1, o1 + k * 3, none⟩ = some (.string x0) ∧ w'.cell? ⟨b1, o1 + k * 3 + 1, none⟩ = some (.int .i64 x1) ∧ w'.cell? ⟨b1, o1 + k * 3 + 2, none⟩ = some (.int .i64 x2) ∧ w'.cell? ⟨b2, o2 + k * 3, none⟩ = some (.string x0) ∧ w'.cell? ⟨b2, o2 + k * 3 + 1, none⟩ = some (.int .i64 x1) ∧ w'.cell? ⟨b2, o2 + k * 3 + 2, none⟩ = some (.int .i64 x2) ∧ Below w.heap.size w w')
        (first | (refine keepN ?_ hb; assumption) | (exact keepNd (unhide hall)))
        ((go_at_call 64; refine (eqk_any x0 x1 x2 _).mono ?_; rintro e w1 ⟨rfl, hb⟩))
      go_wp2
      go_roundw
      case rel => exact ⟨k + 1, by omega, by go_num, by rename_i hH; exact hH.2.2.2.2.2.2⟩
      case measure => simp [intOf]; omega
    · have hke : k = l.length := by omega
      go_wp2
      go_ret
      exact ⟨rfl, hw⟩

end Go.Proofs.Ytpdnceeniokemaa
