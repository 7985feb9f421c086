/-
  The calls of FnLoud's law, beside leavers.
-/
import Derived.Test.YtdemcjppokhonaaSr
import Derived.Test.YtdemcjppokhonaaDl
set_option linter.unusedVariables false
set_option linter.unusedSimpArgs false
namespace Go.Proofs.Ytdemcjppokhonaa
open Go Go.Conc Go.RowKit

theorem isq_B (a : Option Addr) (ca : Nat) (l : List Nat) (s : Nat) (w : World) (hg : GC Try.prog w) (ha : Fls false 0 w.heap.size w a l) (hl : l.length ≤ 4096) (h1 : 1 ≤ s) (h2 : s ≤ 4096) :
    CallsB Try.prog 24 #[.slice a l.length ca, .int .i64 s] w (AnsB (sqB l s) (l.length / s) w) := by
  intro cf cs Fin hn
  exact sq_good Fin cf cs a ca l s w hg ha hl h1 h2 hn

def BolB (b : Bool) (W : World) (v : Value) (w' : World) : Prop := v = .bool b ∧ Bel W.heap.size W w'
theorem bolR {b : Bool} {W : World} : ∀ v w T d, BolB b W v w → BolB b W v (rt T d w) := fun v w T d h => ⟨h.1, h.2.rt T d⟩
theorem bigB (a : Option Addr) (n c : Nat) (w : World) (T : Nat → Question → Nat) (d : Nat) :
    Calls Try.prog 12 #[.slice a n c] (rt T d w) fun e w' => ∃ v, e = .returned v ∧ BolB (decide (4096 < n)) w v w' :=
  (big_any a n c (rt T d w)).mono fun e w' h => ⟨_, h.1, rfl, by rw [h.2]; exact (Bel.refl _ w).rt T d⟩
theorem likeB (x y : Nat) (h : Lk x y) (w : World) (T : Nat → Question → Nat) (d : Nat) :
    Calls Try.prog 16 #[.float .f64 x, .float .f64 y] (rt T d w) fun e w' => ∃ v, e = .returned v ∧ BolB true w v w' :=
  (like_any x y h (rt T d w)).mono fun e w' h => ⟨_, h.1, rfl, ⟨h.2.os, h.2.output, h.2.size, h.2.block⟩⟩
def FloB (V : Nat) (W : World) (v : Value) (w' : World) : Prop := ∃ u, v = .float .f64 u ∧ Sm u V ∧ Bel W.heap.size W w'
theorem floR {V : Nat} {W : World} : ∀ v w T d, FloB V W v w → FloB V W v (rt T d w) := fun v w T d ⟨u, h1, h2, h3⟩ => ⟨u, h1, h2, h3.rt T d⟩
theorem iloudB (a : Option Addr) (ca : Nat) (l : List Nat) (low share : Nat) (w : World) (ha : Fls false 0 w.heap.size w a l) (T : Nat → Question → Nat) (d : Nat) :
    Calls Try.prog 21 #[.slice a l.length ca, .float .f64 low, .float .f64 share] (rt T d w) fun e w' => ∃ v, e = .returned v ∧ FloB (loudV l low share) w v w' :=
  (iloud_any a ca l low share (rt T d w) ha).mono fun e w' ⟨u, h1, h2, h3⟩ => ⟨_, h1, u, rfl, h2, ⟨h3.os, h3.output, h3.size, h3.block⟩⟩
theorem sloudB (a : Option Addr) (ca : Nat) (l : List Nat) (low share : Nat) (w : World) (ha : Fls false 0 w.heap.size w a l) (T : Nat → Question → Nat) (d : Nat) :
    Calls Try.prog 22 #[.slice a l.length ca, .float .f64 low, .float .f64 share] (rt T d w) fun e w' => ∃ v, e = .returned v ∧ FloB (loudV l low share) w v w' :=
  (sloud_any a ca l low share (rt T d w) ha).mono fun e w' ⟨u, h1, h2, h3⟩ => ⟨_, h1, u, rfl, h2, ⟨h3.os, h3.output, h3.size, h3.block⟩⟩
def DldB (W : World) (v : Value) (w' : World) : Prop :=
  ∃ (g c : Nat) (L : List Nat) (x y : Nat), v = .tuple #[.slice (some ⟨g, 0, none⟩) L.length c, .float .f64 x, .float .f64 y] ∧ L.length ≤ 4097 ∧ Fls false 0 w'.heap.size w' (some ⟨g, 0, none⟩) L ∧ Bel W.heap.size W w'
theorem dldR {W : World} : ∀ v w T d, DldB W v w → DldB W v (rt T d w) := fun v w T d ⟨g, c, L, x, y, h1, h2, h3, h4⟩ => ⟨g, c, L, x, y, h1, h2, h3, h4.rt T d⟩
theorem dldB (a : Option Addr) (len cap : Nat) (w : World) (hl : len ≤ 4096) (hr : RdB w w.heap.size a len) (T : Nat → Question → Nat) (d : Nat) :
    Calls Try.prog 20 #[.slice a len cap] (rt T d w) fun e w' => ∃ v, e = .returned v ∧ DldB w v w' :=
  (dld_any a len cap (rt T d w) hl hr).mono fun e w' ⟨g, c, L, x, y, h1, ⟨h2, h3, h4⟩, h5⟩ => ⟨_, h1, g, c, L, x, y, rfl, h2, fls_ownB h4, ⟨h5.os, h5.output, h5.size, h5.block⟩⟩
def PikB (m : Int) (W : World) (v : Value) (w' : World) : Prop := ∃ x, v = .int .i64 x ∧ 0 ≤ x ∧ x < m ∧ Bel W.heap.size W w'
theorem pikR {m : Int} {W : World} : ∀ v w T d, PikB m W v w → PikB m W v (rt T d w) := fun v w T d ⟨u, h1, h2, h3, h4⟩ => ⟨u, h1, h2, h3, h4.rt T d⟩
theorem pickB (a : Option Addr) (len cap : Nat) (m : Int) (w : World) (hl : len ≤ 4096) (hm : 0 < m) (hr : RdB w w.heap.size a len) (T : Nat → Question → Nat) (d : Nat) :
    Calls Try.prog 23 #[.slice a len cap, .int .i64 m] (rt T d w) fun e w' => ∃ v, e = .returned v ∧ PikB m w v w' :=
  (pick_any a len cap m (rt T d w) hl hm hr).mono fun e w' ⟨u, h1, h2, h3, h4⟩ => ⟨_, h1, u, rfl, h2, h3, by rw [h4]; exact (Bel.refl _ w).rt T d⟩
theorem Bel.rdb {w w' : World} {a : Option Addr} {len : Nat} (h : Bel w.heap.size w w') (hr : RdB w w.heap.size a len) : RdB w' w'.heap.size a len := by
  intro j hj
  obtain ⟨b, o, z, e, h1, h2, h3⟩ := hr j hj
  exact ⟨b, o, z, e, Nat.lt_of_lt_of_le h1 h.size, (World.cell?_of_block (a := ⟨b, o + j, none⟩) (h.block b h1)).trans h2, h3⟩

theorem ba_end {P : Program} {Fin : Goroutine → World → Prop} {Post : Value → World → Prop} {a : Act} {w : World} {f : FuncId} {fn : Func} {t : Tmp} {todo : List Item} (hf : P.funcs[f]? = some fn) (hr : fn.results = #[.tmp t]) (hi : P.inits.idxOf? f = none) (hd : a.defers = [])
    (h : ∀ d, Post (a.tmps.getD t undef) (w.at d)) : BA P (AtEnd0 P Post) (G { (base f).at a todo with mode := .returning } []) w := fun d => BTo.done ⟨rfl, fun d' => ⟨a.tmps.getD t undef, #[], by
  obtain ⟨tm, df⟩ := a
  simp only at hd
  subst hd
  simp [G, stepG, unwind, doReturn, results, Frame.at, base, hf, hr, hi, seen, GStep.after], noev, h d'⟩⟩

/-- what is asked of the number that was picked, said one by one -/
structure XF (x q : Nat) : Prop where
  bits : floatBits .mul .f64 x x = some q
  nn : ¬ NaN q
  neg : nv .mul (Op.negFloat .f64 x) (Op.negFloat .f64 x) = q
  self : FloatKind.f64.format.order q q = some .eq
  mean : meanV [q, q] = q
  l1 : loudV [q, q] 0 4602678819172646912 = q
  l2 : loudV [q, q] q 4602678819172646912 = 0
  l3 : loudV [q, q] 0 4607182418800017408 = 0
theorem xf_of (x : Nat) (h : xc x = true) : XF x (nv .mul x x) := by
  unfold xc at h
  simp only [Bool.and_eq_true, beq_iff_eq, Bool.not_eq_true'] at h
  obtain ⟨⟨⟨⟨⟨⟨⟨h1, h2⟩, h3⟩, h4⟩, h5⟩, h6⟩, h7⟩, h8⟩ := h
  exact ⟨h1, by unfold NaN; rw [h2]; decide, h3, h4, h5, h6, h7, h8⟩
theorem Sm.num {u q : Nat} (h : Sm u q) (hq : ¬ NaN q) : u = q := by
  rcases h with h | h
  · exact h
  · exact absurd h.2 hq
/-- the two answers of Squares -/
theorem sq_two {x q c5 : Nat} (h : XF x q) {L : List Nat} (hL : Ls (sqB [x, Op.negFloat .f64 x, x, Op.negFloat .f64 x, c5] 2) 2 L) : L = [q, q] := by
  have hq : nv .mul x x = q := by unfold nv; rw [h.bits]; rfl
  have e0 : sqB [x, Op.negFloat .f64 x, x, Op.negFloat .f64 x, c5] 2 0 = q := by
    unfold sqB blkq sqs
    simp only [List.map_cons, List.map_nil, hq, h.neg, Nat.zero_mul, List.drop_zero, List.take_succ_cons, List.take_zero, h.mean]
  have e1 : sqB [x, Op.negFloat .f64 x, x, Op.negFloat .f64 x, c5] 2 1 = q := by
    unfold sqB blkq sqs
    simp only [List.map_cons, List.map_nil, hq, h.neg, Nat.one_mul, List.drop_succ_cons, List.drop_zero, List.take_succ_cons, List.take_zero, h.mean]
  obtain ⟨hl, hs⟩ := hL
  match L, hl with
  | [u, v], _ =>
    have h0 := hs 0 u rfl
    have h1 := hs 1 v rfl
    rw [e0] at h0
    rw [e1] at h1
    rw [h0.num h.nn, h1.num h.nn]
end Go.Proofs.Ytdemcjppokhonaa
