/-
  What the law's own memory is: a list of complex numbers that grows, and their sum in a block; nothing that was there is written.
-/
import Derived.Test.YtmhciigjjamjkaaByM
import Derived.Test.YtmhciigjjamjkaaRnF
import Derived.Test.YtmhciigjjamjkaaIb
import Derived.Laws.StructEq
import Derived.OneCell
namespace Go.Proofs.Ytmhciigjjamjkaa
open Go.RowKit
set_option linter.unusedVariables false
set_option linter.unusedSimpArgs false

@[go_sem] theorem run_equalIn_float {P : Program} {w : World} (d : Nat) (t : TypeId) (k' : FloatKind) (a b : Nat) (h : P.underlying t = some (.float k')) : (Op.equalIn (d + 1) t (.float .f64 a) (.float .f64 b)).run P w = .ok (FloatKind.f64.format.order a b == some .eq) w := by
  simp [Op.equalIn, run_underlying h]
  rfl

theorem lit_own (w : World) (x : Int) {B : Nat} (hB : B ≤ w.heap.size) : (w.alloc (.cells #[.int .u8 x] 5)).ownsRow B 5 1 (.slice (some ⟨w.heap.size, 0, none⟩) 1 1) 1 [u8 x] := by
  have h := World.ownsRow_lit (base := B) (e := 5) (size := 1) w #[.int .u8 x] 1 hB (by unfold maxLen; omega) rfl
  exact h
theorem lit_own2 (w : World) (x y : Int) {B : Nat} (hB : B ≤ w.heap.size) : (w.alloc (.cells #[.int .u8 x, .int .u8 y] 5)).ownsRow B 5 1 (.slice (some ⟨w.heap.size, 0, none⟩) 2 2) 2 [u8 x, u8 y] := by
  have h := World.ownsRow_lit (base := B) (e := 5) (size := 1) w #[.int .u8 x, .int .u8 y] 2 hB (by unfold maxLen; omega) rfl
  exact h

/-- the list and the sum -/
structure WS (W wr : World) (S g i cap : Nat) (L : List (Nat × Nat)) (X Y : Nat → Int) (s1 s2 : Nat) : Prop where
  o : wr.ownsRow W.heap.size 28 2 (.slice (some ⟨g, 0, none⟩) i cap) i (flC L)
  b : Below W.heap.size W wr
  ne : S ≠ g
  lo : W.heap.size ≤ S
  lt : S < wr.heap.size
  c0 : wr.cell? ⟨S, 0, none⟩ = some (.float .f64 s1)
  c1 : wr.cell? ⟨S, 1, none⟩ = some (.float .f64 s2)
  f0 : wr.frozen? ⟨S, 0, none⟩ = false
  f1 : wr.frozen? ⟨S, 1, none⟩ = false
  n : L.length = i
  h : Rn.Wh L X Y
  i1 : Ie.IsI s1 (Rn.sx X i)
  i2 : Ie.IsI s2 (Rn.sx Y i)
  b1 : -(1000 * (i : Int)) ≤ Rn.sx X i ∧ Rn.sx X i ≤ 1000 * (i : Int)
  b2 : -(1000 * (i : Int)) ≤ Rn.sx Y i ∧ Rn.sx Y i ≤ 1000 * (i : Int)

theorem WS.later {W wr w1 : World} {S g i cap : Nat} {L : List (Nat × Nat)} {X Y : Nat → Int} {s1 s2 : Nat} (h : WS W wr S g i cap L X Y s1 s2) (hb : Below wr.heap.size wr w1) : WS W w1 S g i cap L X Y s1 s2 := by
  obtain ⟨e1, e2⟩ := bcell hb
  exact ⟨ownsRow_below h.o hb, h.b.trans (hb.mono h.b.size), h.ne, h.lo, Nat.lt_of_lt_of_le h.lt hb.size, (e1 S 0 h.lt).trans h.c0, (e1 S 1 h.lt).trans h.c1, (e2 S 0 h.lt).trans h.f0, (e2 S 1 h.lt).trans h.f1, h.n, h.h, h.i1, h.i2, h.b1, h.b2⟩
theorem WS.start (W : World) (X Y : Nat → Int) (w1 : World) (ho : w1.ownsRow W.heap.size 28 2 (.slice (some ⟨W.heap.size, 0, none⟩) 0 0) 0 []) (hs : w1.heap.size = W.heap.size + 1) (hb : Below W.heap.size W w1) : WS W (w1.alloc (.cells #[.float .f64 0, .float .f64 0] 28)) (W.heap.size + 1) W.heap.size 0 0 [] X Y 0 0 := by
  refine ⟨ownsRow_below ho ((Below.refl _ _).alloc (Nat.le_refl _) _), hb.alloc (by omega) _, by omega, by omega, by simp [hs], ?_, ?_, ?_, ?_, rfl, fun j v h => by simp at h, Rn.isI_zero, Rn.isI_zero, ⟨by show _ ≤ (0 : Int); decide, by show (0 : Int) ≤ _; decide⟩, ⟨by show _ ≤ (0 : Int); decide, by show (0 : Int) ≤ _; decide⟩⟩
  all_goals rw [← hs]; simp [go_sem]

/-- X with x at i -/
def upd (X : Nat → Int) (i : Nat) (x : Int) : Nat → Int := fun j => if j = i then x else X j
theorem sx_upd (X : Nat → Int) (i : Nat) (x : Int) : ∀ k, k ≤ i → Rn.sx (upd X i x) k = Rn.sx X k := by
  intro k
  induction k with
  | zero => intro _; rfl
  | succ k ih =>
    intro hk
    show Rn.sx (upd X i x) k + upd X i x k = Rn.sx X k + X k
    rw [ih (by omega)]
    have : upd X i x k = X k := by unfold upd; rw [if_neg (by omega)]
    rw [this]
theorem sx_next (X : Nat → Int) (i : Nat) (x : Int) : Rn.sx (upd X i x) (i + 1) = Rn.sx X i + x := by
  show Rn.sx (upd X i x) i + upd X i x i = _
  rw [sx_upd X i x i (Nat.le_refl _)]
  have : upd X i x i = x := by unfold upd; rw [if_pos rfl]
  rw [this]
theorem wh_snoc {L : List (Nat × Nat)} {X Y : Nat → Int} {i : Nat} (hn : L.length = i) (h : Rn.Wh L X Y) {u v : Nat} {x y : Int} (hu : Ie.IsI u x) (hv : Ie.IsI v y) (hx : -1000 ≤ x ∧ x ≤ 1000) (hy : -1000 ≤ y ∧ y ≤ 1000) : Rn.Wh (L ++ [(u, v)]) (upd X i x) (upd Y i y) := by
  intro j z hz
  by_cases e : j < i
  · rw [List.getElem?_append_left (by omega)] at hz
    have a1 : upd X i x j = X j := by unfold upd; rw [if_neg (by omega)]
    have a2 : upd Y i y j = Y j := by unfold upd; rw [if_neg (by omega)]
    rw [a1, a2]
    exact h j z hz
  · have hj : j < (L ++ [(u, v)]).length := (List.getElem?_eq_some_iff.1 hz).1
    simp at hj
    obtain rfl : j = i := by omega
    rw [List.getElem?_append_right (by omega), hn] at hz
    simp at hz
    subst hz
    have a1 : upd X j x j = x := by unfold upd; rw [if_pos rfl]
    have a2 : upd Y j y j = y := by unfold upd; rw [if_pos rfl]
    rw [a1, a2]
    exact ⟨hu, hv, hx, hy⟩
/-- the sum is written -/
theorem WS.put {W wr w1 : World} {S g i cap : Nat} {L : List (Nat × Nat)} {X Y : Nat → Int} {s1 s2 t1 t2 : Nat} (h : WS W wr S g i cap L X Y s1 s2) (hb : Below wr.heap.size wr w1) :
    (((w1.setCell ⟨S, 0, none⟩ (.float .f64 t1)).setCell ⟨S, 1, none⟩ (.float .f64 t2)).ownsRow W.heap.size 28 2 (.slice (some ⟨g, 0, none⟩) i cap) i (flC L)) ∧ Below W.heap.size W ((w1.setCell ⟨S, 0, none⟩ (.float .f64 t1)).setCell ⟨S, 1, none⟩ (.float .f64 t2)) ∧
    ((w1.setCell ⟨S, 0, none⟩ (.float .f64 t1)).setCell ⟨S, 1, none⟩ (.float .f64 t2)).cell? ⟨S, 0, none⟩ = some (.float .f64 t1) ∧ ((w1.setCell ⟨S, 0, none⟩ (.float .f64 t1)).setCell ⟨S, 1, none⟩ (.float .f64 t2)).cell? ⟨S, 1, none⟩ = some (.float .f64 t2) ∧
    ((w1.setCell ⟨S, 0, none⟩ (.float .f64 t1)).setCell ⟨S, 1, none⟩ (.float .f64 t2)).frozen? ⟨S, 0, none⟩ = false ∧ ((w1.setCell ⟨S, 0, none⟩ (.float .f64 t1)).setCell ⟨S, 1, none⟩ (.float .f64 t2)).frozen? ⟨S, 1, none⟩ = false := by
  have k := h.later hb
  have c0 := k.c0
  have c1 := k.c1
  have f0 := k.f0
  have f1 := k.f1
  have hne : (Value.slice (some ⟨g, 0, none⟩) i cap).ownBlock ≠ some S := by intro e; exact k.ne (Option.some.inj e).symm
  refine ⟨ownsRow_setCell_other (ownsRow_setCell_other k.o (a := ⟨S, 0, none⟩) hne _) (a := ⟨S, 1, none⟩) hne _, (k.b.setCell k.lo _).setCell k.lo _, ?_, ?_, ?_, ?_⟩
  all_goals simp [go_sem, c0, c1, f0, f1]
/-- one more behind the list: where the list lies behind it, and what stands -/
theorem wpList_cxG {ops : Array Oper} {rest : List Oper} {o : Oper} {a : Act} {Q : Exit → Act → World → Prop} (w : World) (hgd : o.guard = none) (s x : Operand) (ho : o.op = .call { callee := .builtin .append, args := #[s, x], argTypes := #[25, 25] })
    (B g n cap : Nat) (L : List (Nat × Nat)) (v1 v2 : Nat) (hs : a.eval s = .slice (some ⟨g, 0, none⟩) n cap) (hown : w.ownsRow B 28 2 (.slice (some ⟨g, 0, none⟩) n cap) n (flC L)) (E : Nat) (hx : a.eval x = .slice (some ⟨E, 0, none⟩) 1 1)
    (hblk : w.heap[E]? = some (.cells #[.float .f64 v1, .float .f64 v2] 28 (0, 0))) (hl : n ≤ 1000000) (hB : B ≤ w.heap.size)
    (h : ∀ g' cap' w', w'.ownsRow B 28 2 (.slice (some ⟨g', 0, none⟩) (n + 1) cap') (n + 1) (flC (L ++ [(v1, v2)])) → w.grownBy w' (some g) → (g' = g ∨ g' = w.heap.size) → wpList Try.prog ops Q rest (a.put o.dst (.slice (some ⟨g', 0, none⟩) (n + 1) cap')) w') : wpList Try.prog ops Q (o :: rest) a w := by
  obtain ⟨i0, hi, hz0, hz1, hz2⟩ := info_parts info25
  refine wpList_append_lies w hgd s x 25 ho B 28 i0 (.agg #[.float .f64 0, .float .f64 0]) 2 16 Try.underlying25 hi hz0 hz1 hz2 rfl (by decide) _ n (flC L) hs hown ⟨E, 0, none⟩ 1 1 [fl v1, fl v2] hx rfl (cx_news (v := (v1, v2)) hblk) (by intro u hu; simp at hu; rcases hu with rfl | rfl <;> rfl) (by decide) (by unfold maxLen; omega) (by omega) hB w.heap.size rfl ?_
  intro g' cap' w' h1 h2 h3 h4
  refine h g' cap' w' (by rw [flC_append]; exact h1) h2 ?_
  rcases h3 with h3 | h3
  · left; exact (Option.some.inj h3).symm
  · right; exact h3

theorem WS.next {W wr w1 w2 : World} {S g g' i cap cap' : Nat} {L : List (Nat × Nat)} {X Y : Nat → Int} {s1 s2 t1 t2 u v : Nat} {x y : Int} (h : WS W wr S g i cap L X Y s1 s2) (hw : W.heap.size ≤ w1.heap.size) (hS : S < w1.heap.size) (hb : Below W.heap.size W w1) (hg : W.heap.size ≤ g)
    (c0 : w1.cell? ⟨S, 0, none⟩ = some (.float .f64 t1)) (c1 : w1.cell? ⟨S, 1, none⟩ = some (.float .f64 t2)) (f0 : w1.frozen? ⟨S, 0, none⟩ = false) (f1 : w1.frozen? ⟨S, 1, none⟩ = false)
    (ho : w2.ownsRow W.heap.size 28 2 (.slice (some ⟨g', 0, none⟩) (i + 1) cap') (i + 1) (flC (L ++ [(u, v)]))) (hgr : w1.grownBy w2 (some g)) (hg' : g' = g ∨ g' = w1.heap.size) (hi : i < 8)
    (hu : Ie.IsI u x) (hv : Ie.IsI v y) (hx : -1000 ≤ x ∧ x ≤ 1000) (hy : -1000 ≤ y ∧ y ≤ 1000) (r1 : Res .add s1 u t1) (r2 : Res .add s2 v t2) : WS W w2 S g' (i + 1) cap' (L ++ [(u, v)]) (upd X i x) (upd Y i y) t1 t2 := by
  have e : w2.heap[S]? = w1.heap[S]? := hgr.block S hS (fun e => h.ne (Option.some.inj e))
  have q1 := h.b1
  have q2 := h.b2
  refine ⟨ho, hb.grown hgr hw (fun k hk => by have e : g = k := Option.some.inj hk; omega), ?_, h.lo, Nat.lt_of_lt_of_le hS hgr.size, ?_, ?_, ?_, ?_, ?_, wh_snoc h.n h.h hu hv hx hy, ?_, ?_, ?_, ?_⟩
  · rcases hg' with rfl | rfl
    · exact h.ne
    · omega
  · rw [World.cell?_of_block (a := ⟨S, 0, none⟩) e]; exact c0
  · rw [World.cell?_of_block (a := ⟨S, 1, none⟩) e]; exact c1
  · rw [World.frozen?_of_block (a := ⟨S, 0, none⟩) e]; exact f0
  · rw [World.frozen?_of_block (a := ⟨S, 1, none⟩) e]; exact f1
  · simp [h.n]
  · rw [sx_next]; exact Rn.res_add h.i1 hu (by omega) (by omega) r1
  · rw [sx_next]; exact Rn.res_add h.i2 hv (by omega) (by omega) r2
  · rw [sx_next, Int.natCast_add]; simp only [Int.natCast_one]; omega
  · rw [sx_next, Int.natCast_add]; simp only [Int.natCast_one]; omega
/-- the sum is written and the number put behind the list -/
theorem wpList_ws {ops : Array Oper} {rest : List Oper} {o : Oper} {a : Act} {Q : Exit → Act → World → Prop} {W w6 : World} {S g i cap : Nat} {L : List (Nat × Nat)} {X Y : Nat → Int} {s1 s2 : Nat} (H : WS W w6 S g i cap L X Y s1 s2) (hg : W.heap.size ≤ g) (hi : i < 8) (u v t1 t2 : Nat) (x y : Int) (n : Nat)
    (hgd : o.guard = none) (s z : Operand) (ho : o.op = .call { callee := .builtin .append, args := #[s, z], argTypes := #[25, 25] }) (hs : a.eval s = .slice (some ⟨g, 0, none⟩) i cap) (hz : a.eval z = .slice (some ⟨w6.heap.size + 1, 0, none⟩) 1 1)
    (hu : Ie.IsI u x) (hv : Ie.IsI v y) (hx : -1000 ≤ x ∧ x ≤ 1000) (hy : -1000 ≤ y ∧ y ≤ 1000) (r1 : Res .add s1 u t1) (r2 : Res .add s2 v t2)
    (h : ∀ g' cap' w', WS W w' S g' (i + 1) cap' (L ++ [(u, v)]) (upd X i x) (upd Y i y) t1 t2 → W.heap.size ≤ g' → wpList Try.prog ops Q rest (a.put o.dst (.slice (some ⟨g', 0, none⟩) (i + 1) cap')) w') :
    wpList Try.prog ops Q (o :: rest) a (((((w6.alloc (.cells #[.float .f64 u, .float .f64 v] 28)).drewN n).setCell ⟨S, 0, none⟩ (.float .f64 t1)).setCell ⟨S, 1, none⟩ (.float .f64 t2)).alloc (.cells #[.float .f64 u, .float .f64 v] 28)) := by
  have hb1 : Below w6.heap.size w6 ((w6.alloc (.cells #[.float .f64 u, .float .f64 v] 28)).drewN n) := below_drewN ((Below.refl _ _).alloc (Nat.le_refl _) _) _
  obtain ⟨q1, q2, q3, q4, q5, q6⟩ := H.put (t1 := t1) (t2 := t2) hb1
  have hsz : ((((w6.alloc (.cells #[.float .f64 u, .float .f64 v] 28)).drewN n).setCell ⟨S, 0, none⟩ (.float .f64 t1)).setCell ⟨S, 1, none⟩ (.float .f64 t2)).heap.size = w6.heap.size + 1 := by simp
  generalize (((w6.alloc (.cells #[.float .f64 u, .float .f64 v] 28)).drewN n).setCell ⟨S, 0, none⟩ (.float .f64 t1)).setCell ⟨S, 1, none⟩ (.float .f64 t2) = Z at *
  have hbZ : Below Z.heap.size Z (Z.alloc (.cells #[.float .f64 u, .float .f64 v] 28)) := (Below.refl _ _).alloc (Nat.le_refl _) _
  obtain ⟨e1, e2⟩ := bcell hbZ
  have hSZ : S < Z.heap.size := by rw [hsz]; have := H.lt; omega
  have hWZ : W.heap.size ≤ Z.heap.size := q2.size
  refine wpList_cxG _ hgd s z ho W.heap.size g i cap L u v hs (ownsRow_below q1 hbZ) (w6.heap.size + 1) hz (by rw [← hsz]; exact heap_alloc_new Z _) (by omega) (Nat.le_trans hWZ hbZ.size) ?_
  intro g' cap' w' k1 k2 k3
  refine h g' cap' w' (H.next (Nat.le_trans hWZ hbZ.size) (Nat.lt_of_lt_of_le hSZ hbZ.size) (q2.trans (hbZ.mono hWZ)) hg ((e1 S 0 hSZ).trans q3) ((e1 S 1 hSZ).trans q4) ((e2 S 0 hSZ).trans q5) ((e2 S 1 hSZ).trans q6) k1 k2 k3 hi hu hv hx hy r1 r2) ?_
  rcases k3 with rfl | rfl
  · exact hg
  · exact Nat.le_trans hWZ hbZ.size
theorem WvV.ln {bk : Bool} {l L : List (Nat × Nat)} (h : WvV bk l L) (hn : okN l.length) : L.length = l.length := by
  rcases h with ⟨_, h⟩ | ⟨h, _⟩
  · exact h.1
  · exact absurd hn h
theorem isI_eq {x y : Nat} {n : Int} (hx : Ie.IsI x n) (hy : Ie.IsI y n) : FloatKind.f64.format.order x y = some .eq := by
  have h := Rn.vl_order (Rn.IsI.vl hx) (Rn.IsI.vl hy)
  have e : compare (n * Rn.U) (n * Rn.U) = Ordering.eq := by simp [compare, compareOfLessAndEq]
  rw [e] at h
  exact h
theorem sub_fv {x y z : Nat} (h : floatBits .sub .f64 x y = some z) : (∀ w, fv .sub x y w = z) ∧ (∀ w : World, w.drewN (fd .sub x y) = w) := by
  refine ⟨fun w => by unfold fv; rw [h]; rfl, fun w => ?_⟩
  have : fd .sub x y = 0 := by unfold fd; rw [h]; rfl
  rw [this]; rfl
theorem cxs_read {w : World} {B g n cap : Nat} {l : List (Nat × Nat)} (h : w.ownsRow B 28 2 (.slice (some ⟨g, 0, none⟩) n cap) n (flC l)) : Cxs false 0 w.heap.size w (some ⟨g, 0, none⟩) l :=
  (cxs_of_own h).read.mono (Nat.zero_le _) (own_lt h)
theorem cx_at {w : World} {Hh g : Nat} {l : List (Nat × Nat)} (h : Cxs false 0 Hh w (some ⟨g, 0, none⟩) l) {k : Nat} {x : Nat × Nat} (hx : l[k]? = some x) : w.cell? ⟨g, k * 2, none⟩ = some (.float .f64 x.1) ∧ w.cell? ⟨g, k * 2 + 1, none⟩ = some (.float .f64 x.2) := by
  obtain ⟨b, o, e, _, _, d0, d1, _⟩ := h k x hx
  injection e with e
  injection e with e1 e2
  subst e1 e2
  rw [Nat.zero_add] at d0 d1
  exact ⟨d0, d1⟩
end Go.Proofs.Ytmhciigjjamjkaa
