/-
  Laws of memory for a pixel's four cells; contracts of the leaves, the model's and the program's: bounds, the less of two, quotients rounded down and rounded; nothing that was there is written.
-/
import Derived.Test.YtmpbcmpjfcddoaaProg
import Derived.Test.YtmpbcmpjfcddoaaPxP
import Derived.WalkKit
import Derived.WalkSpells
import Derived.WalkLawsBesides
import Derived.Deep.QuietTactic
import Derived.BigQuiet
import Derived.Deep.RegionHeld3
import Derived.Outline
import Derived.Deep.AppendLies
import Derived.Lib.MinMax
namespace Go.Proofs.Ytmpbcmpjfcddoaa
open Go.RowKit
set_option linter.unusedVariables false
set_option linter.unusedSimpArgs false

theorem hide {p : Prop} (h : p) : Hid p := h
theorem unhide {p : Prop} (h : Hid p) : p := h
theorem ret_int {k : IntKind} {a b : Int} (h : a = b) : Ending.returned (.int k a) = .returned (.int k b) := by rw [h]
theorem ret_bool {a b : Bool} (h : a = b) : Ending.returned (.bool a) = .returned (.bool b) := by rw [h]
theorem bcell {W w1 : World} (hb : Below W.heap.size W w1) : (∀ b o, b < W.heap.size → w1.cell? ⟨b, o, none⟩ = W.cell? ⟨b, o, none⟩) ∧ (∀ b o, b < W.heap.size → w1.frozen? ⟨b, o, none⟩ = W.frozen? ⟨b, o, none⟩) :=
  ⟨fun b o h => hb.cell (p := ⟨b, o, none⟩) h, fun b o h => hb.frozen (p := ⟨b, o, none⟩) h⟩
theorem own_mono {w : World} {B B' n m : Nat} {e : TypeId} {v : Value} {xs : List Value} (h : w.ownsRow B e m v n xs) (hB : B' ≤ B) : w.ownsRow B' e m v n xs := by
  obtain ⟨h1, h2⟩ := h
  refine ⟨h1, ?_⟩
  rcases h2 with h2 | ⟨g, cap, cur, hv, hg, r⟩
  · exact Or.inl h2
  · exact Or.inr ⟨g, cap, cur, hv, by omega, r⟩
theorem own_up {w : World} {B B' g n m cap : Nat} {e : TypeId} {xs : List Value} (h : w.ownsRow B e m (.slice (some ⟨g, 0, none⟩) n cap) n xs) (hB : B' ≤ g) : w.ownsRow B' e m (.slice (some ⟨g, 0, none⟩) n cap) n xs := by
  obtain ⟨h1, h2⟩ := h
  refine ⟨h1, ?_⟩
  rcases h2 with h2 | ⟨g', cap', cur, hv, hg, r⟩
  · exact Or.inl h2
  · refine Or.inr ⟨g', cap', cur, hv, ?_, r⟩
    injection hv with e1
    injection e1 with e1
    injection e1 with e1
    omega
theorem ownsRow_below {w w1 : World} {B n m : Nat} {e : TypeId} {v : Value} {xs : List Value} (h : w.ownsRow B e m v n xs) (hb : Below w.heap.size w w1) : w1.ownsRow B e m v n xs := by
  obtain ⟨h1, h2⟩ := h
  refine ⟨h1, ?_⟩
  rcases h2 with h2 | ⟨g, cap, cur, hv, hg, hh, r⟩
  · exact Or.inl h2
  · exact Or.inr ⟨g, cap, cur, hv, hg, by rw [hb.block g (by have := (Array.getElem?_eq_some_iff.1 hh).1; exact this)]; exact hh, r⟩
theorem own_lt {w : World} {B g n cap m : Nat} {e : TypeId} {xs : List Value} (h : w.ownsRow B e m (.slice (some ⟨g, 0, none⟩) n cap) n xs) : g < w.heap.size := (h.lt g rfl).2
theorem own_ge {w : World} {B g n cap m : Nat} {e : TypeId} {xs : List Value} (h : w.ownsRow B e m (.slice (some ⟨g, 0, none⟩) n cap) n xs) : B ≤ g := (h.lt g rfl).1
theorem own_blk {w w1 : World} {B C g n m cap : Nat} {e : TypeId} {xs : List Value} (ho : w.ownsRow B e m (.slice (some ⟨g, 0, none⟩) n cap) n xs) (hb : Below C w w1) (hg : g < C) : w1.ownsRow B e m (.slice (some ⟨g, 0, none⟩) n cap) n xs := by
  obtain ⟨h1, h2⟩ := ho
  refine ⟨h1, ?_⟩
  rcases h2 with h2 | ⟨g', cap', cur, hv, hB, hh, r⟩
  · exact Or.inl h2
  · refine Or.inr ⟨g', cap', cur, hv, hB, ?_, r⟩
    injection hv with e1
    injection e1 with e1
    injection e1 with e1
    subst e1
    rw [hb.block g hg]; exact hh
theorem own_kept {w w1 : World} {B g n m cap h : Nat} {e : TypeId} {xs : List Value} (ho : w.ownsRow B e m (.slice (some ⟨g, 0, none⟩) n cap) n xs) (hg : w.grownBy w1 (some h)) (hne : g ≠ h) : w1.ownsRow B e m (.slice (some ⟨g, 0, none⟩) n cap) n xs := by
  have hlt := own_lt ho
  obtain ⟨h1, h2⟩ := ho
  refine ⟨h1, ?_⟩
  rcases h2 with h2 | ⟨g', cap', cur, hv, hB, hh, r⟩
  · exact Or.inl h2
  · refine Or.inr ⟨g', cap', cur, hv, hB, ?_, r⟩
    injection hv with e1
    injection e1 with e1
    injection e1 with e1
    subst e1
    rw [hg.block g hlt (by intro hh; injection hh with hh; exact hne hh)]; exact hh
theorem below_grown {W w w1 : World} {g : Nat} (h : Below W.heap.size W w) (hg : w.grownBy w1 (some g)) (hB : W.heap.size ≤ g) : Below W.heap.size W w1 :=
  h.grown hg h.size (fun k hk => by injection hk with hk; omega)
theorem laterB {W w w1 : World} (h : Below W.heap.size W w) (hb : Below w.heap.size w w1) : Below W.heap.size W w1 := h.trans (hb.mono h.size)
theorem ne_addr {g i j : Nat} (h : i ≠ j) : (⟨g, i, none⟩ : Addr) ≠ ⟨g, j, none⟩ := by intro e; injection e with _ e2 _; exact h e2
theorem ne_blk {g h i j : Nat} (hh : g ≠ h) : (⟨g, i, none⟩ : Addr) ≠ ⟨h, j, none⟩ := by intro e; injection e with e1 _ _; exact hh e1
theorem heap_set_ne {w : World} {b i : Nat} {v : Value} {r : Nat} (h : r ≠ b) : (w.setCell ⟨b, i, none⟩ v).heap[r]? = w.heap[r]? := by
  have hg : b ≠ r := fun e => h e.symm
  simp [World.setCell, Array.getElem?_modify, hg]

abbrev iv (x : Int) : Value := .int .i64 x
abbrev ag4 (r g b a : Int) : Value := .agg #[.int .i64 r, .int .i64 g, .int .i64 b, .int .i64 a]
/-- four numbers in a block that may be written -/
structure Bx (w : World) (g : Nat) (x y z a : Int) : Prop where
  c0 : w.cell? ⟨g, 0, none⟩ = some (.int .i64 x)
  c1 : w.cell? ⟨g, 1, none⟩ = some (.int .i64 y)
  c2 : w.cell? ⟨g, 2, none⟩ = some (.int .i64 z)
  c3 : w.cell? ⟨g, 3, none⟩ = some (.int .i64 a)
  f0 : w.frozen? ⟨g, 0, none⟩ = false
  f1 : w.frozen? ⟨g, 1, none⟩ = false
  f2 : w.frozen? ⟨g, 2, none⟩ = false
  f3 : w.frozen? ⟨g, 3, none⟩ = false
theorem Bx.lt {w : World} {g : Nat} {x y z a : Int} (h : Bx w g x y z a) : g < w.heap.size := World.block_lt_of_cell? _ _ h.c0
theorem Bx.block {w w1 : World} {g : Nat} {x y z a : Int} (h : Bx w g x y z a) (hb : w1.heap[g]? = w.heap[g]?) : Bx w1 g x y z a := by
  have C := fun i => World.cell?_of_block (a := ⟨g, i, none⟩) hb
  have F := fun i => World.frozen?_of_block (a := ⟨g, i, none⟩) hb
  exact ⟨(C _).trans h.c0, (C _).trans h.c1, (C _).trans h.c2, (C _).trans h.c3, (F _).trans h.f0, (F _).trans h.f1, (F _).trans h.f2, (F _).trans h.f3⟩
theorem Bx.below {w w1 : World} {g : Nat} {x y z a : Int} (h : Bx w g x y z a) (hb : Below w.heap.size w w1) : Bx w1 g x y z a := h.block (hb.block g h.lt)
theorem Bx.other {w : World} {g b i : Nat} {v : Value} {x y z a : Int} (h : Bx w g x y z a) (hne : g ≠ b) : Bx (w.setCell ⟨b, i, none⟩ v) g x y z a := h.block (heap_set_ne hne)
theorem Bx.set4 {w : World} {g : Nat} {x y z a : Int} (h : Bx w g x y z a) (p q r s : Int) : Bx ((((w.setCell ⟨g, 0, none⟩ (.int .i64 p)).setCell ⟨g, 1, none⟩ (.int .i64 q)).setCell ⟨g, 2, none⟩ (.int .i64 r)).setCell ⟨g, 3, none⟩ (.int .i64 s)) g p q r s := by
  have n := fun (i j : Nat) (hh : i ≠ j) => ne_addr (g := g) hh
  have c0 := h.c0; have c1 := h.c1; have c2 := h.c2; have c3 := h.c3
  have f0 := h.f0; have f1 := h.f1; have f2 := h.f2; have f3 := h.f3
  refine ⟨?_, ?_, ?_, ?_, ?_, ?_, ?_, ?_⟩ <;> simp [go_sem, c0, c1, c2, c3, f0, f1, f2, f3, World.cell?_setCell_same, World.cell?_setCell_other, World.frozen?_setCell]
theorem Bx.new (w : World) (T : TypeId) (x y z a : Int) : Bx (w.alloc (.cells #[.int .i64 x, .int .i64 y, .int .i64 z, .int .i64 a] T)) w.heap.size x y z a :=
  ⟨by simp [go_sem], by simp [go_sem], by simp [go_sem], by simp [go_sem], by simp [go_sem], by simp [go_sem], by simp [go_sem], by simp [go_sem]⟩
theorem Bx.drew {w : World} {g : Nat} {x y z a : Int} (h : Bx w g x y z a) : Bx w.drew g x y z a := h.block rfl
theorem sz_alloc {w : World} {o : Obj} : (w.alloc o).heap.size = w.heap.size + 1 := by simp

set_option maxHeartbeats 400000 in
theorem in_any (x lo hi : Int) (v : Bool) (w : World) (hv : (decide (lo ≤ x) && decide (x ≤ hi)) = v) :
    Calls Try.prog 48 #[.int .i64 x, .int .i64 lo, .int .i64 hi] w fun e w' => e = .returned (.bool v) ∧ w' = w := by
  subst hv
  by_cases h1 : lo ≤ x
  · by_cases h2 : x ≤ hi
    · go_enter Try.func48, Try.ntmps48
      go_wp2
      go_ret
      exact ⟨ret_bool (by simp [h1, h2]), rfl⟩
    · go_enter Try.func48, Try.ntmps48
      go_wp2
      go_ret
      exact ⟨ret_bool (by simp [h2]), rfl⟩
  · have hd : decide (lo ≤ x) = false := by simpa using h1
    go_enter Try.func48, Try.ntmps48
    go_wp2
    go_ret
    exact ⟨ret_bool (by simp), rfl⟩
set_option maxHeartbeats 400000 in
theorem down_any (x d v : Int) (w : World) (hd : 1 ≤ d) (hx : -100000000000000 ≤ x ∧ x ≤ 100000000000000) (hv : x / d = v) :
    Calls Try.prog 60 #[.int .i64 x, .int .i64 d] w fun e w' => e = .returned (.int .i64 v) ∧ w' = w := by
  have hb := div_bd hd hx
  have ht := tdiv_down (x := x) (d := d) (by omega)
  have h1 : IntKind.i64.wrap (x.tdiv d) = x.tdiv d := IntWalk.i64_quo' x d (by omega)
  have hmb := tmod_bd (x := x) hd
  have hd0 : d ≠ 0 := by omega
  by_cases h : x.tmod d < 0
  · rw [if_pos h] at ht
    have hd' : decide (x.tmod d < 0) = true := by simpa using h
    have h2 : IntKind.i64.wrap (x.tdiv d - 1) = v := by rw [ht, hv]; rw [IntKind.wrap_i64]; omega
    clear ht hb hmb hx
    go_enter Try.func60, Try.ntmps60
    go_wp2
    go_ret
    exact ⟨rfl, rfl⟩
  · rw [if_neg h] at ht
    have hd' : decide (x.tmod d < 0) = false := by simpa using h
    have h3 : IntKind.i64.wrap (x.tdiv d) = v := by rw [h1, ht, hv]
    clear hb hmb hx h1 ht hv
    go_enter Try.func60, Try.ntmps60
    go_wp2
    go_ret
    exact ⟨rfl, rfl⟩
set_option maxHeartbeats 400000 in
theorem idiv_any (x d v r : Int) (w : World) (hd : 1 ≤ d) (hd9 : d ≤ 100000000000000) (hx : -100000000000000 ≤ x ∧ x ≤ 100000000000000) (hv : x / d = v) (hr : x % d = r) :
    Calls Try.prog 57 #[.int .i64 x, .int .i64 d] w fun e w' => e = .returned (.tuple #[.int .i64 v, .int .i64 r]) ∧ w' = w := by
  have ht := tmod_up (x := x) (d := d) (by omega)
  have hmb := tmod_bd (x := x) hd
  have hq := rest_div (x := x) (d := d) (by omega)
  have hr0 : 0 ≤ x % d ∧ x % d < d := ⟨Int.emod_nonneg _ (by omega), Int.emod_lt_of_pos _ (by omega)⟩
  have hd0 : d ≠ 0 := by omega
  have hw1 : IntKind.i64.wrap (x - r) = x - r := by rw [IntKind.wrap_i64]; omega
  have hw2 : IntKind.i64.wrap ((x - r).tdiv d) = v := by rw [IntWalk.i64_quo' (x - r) d (by omega), ← hr, hq, hv]
  by_cases h : x.tmod d < 0
  · rw [if_pos h] at ht
    have hd' : decide (x.tmod d < 0) = true := by simpa using h
    have h2 : IntKind.i64.wrap (x.tmod d + d) = r := by rw [ht, hr]; rw [IntKind.wrap_i64]; omega
    clear ht hmb hx hr0 hq hr hv
    go_enter Try.func57, Try.ntmps57
    go_wp2
    exact bodyPost_ret (v := .tuple #[.int .i64 v, .int .i64 r]) (by simp [results, Try.results57, go_sem]) rfl ⟨rfl, rfl⟩
  · rw [if_neg h] at ht
    have hd' : decide (x.tmod d < 0) = false := by simpa using h
    have h2 : x.tmod d = r := by rw [ht, hr]
    have hd2 : decide (r < 0) = false := by simp; omega
    clear ht hmb hx hr0 hq hr hv h hd'
    go_enter Try.func57, Try.ntmps57
    go_wp2
    exact bodyPost_ret (v := .tuple #[.int .i64 v, .int .i64 r]) (by simp [results, Try.results57, go_sem]) rfl ⟨rfl, rfl⟩
set_option maxHeartbeats 400000 in
theorem srnd_any (x d v : Int) (w : World) (hd : 1 ≤ d) (hd9 : d ≤ 10000000000000) (hx : -10000000000000 ≤ x ∧ x ≤ 10000000000000) (hv : rnd x d = v) :
    Calls Try.prog 58 #[.int .i64 x, .int .i64 d] w fun e w' => e = .returned (.int .i64 v) ∧ w' = w := by
  obtain ⟨x0, x1⟩ := hx
  have hv' := hide hv
  clear hv
  go_enter Try.func58, Try.ntmps58
  go_wp2_with fail
  refine (down_any (2 * x + d) (2 * d) v _ (by omega) (by omega) (unhide hv')).mono ?_
  rintro e w1 ⟨rfl, rfl⟩
  go_wp2
  go_ret
  exact ⟨rfl, rfl⟩
set_option maxHeartbeats 400000 in
theorem irnd_any (x d v : Int) (w : World) (hd : 1 ≤ d) (hd9 : d ≤ 10000000000000) (hx : -10000000000000 ≤ x ∧ x ≤ 10000000000000) (hv : rnd x d = v) :
    Calls Try.prog 51 #[.int .i64 x, .int .i64 d] w fun e w' => e = .returned (.int .i64 v) ∧ w' = w := by
  obtain ⟨x0, x1⟩ := hx
  have hv' := hide hv
  clear hv
  go_enter Try.func51, Try.ntmps51
  go_wp2_with fail
  refine (idiv_any (2 * x + d) (2 * d) v ((2 * x + d) % (2 * d)) _ (by omega) (by omega) (by omega) (unhide hv') rfl).mono ?_
  rintro e w1 ⟨rfl, rfl⟩
  go_wp2
  go_ret
  exact ⟨rfl, rfl⟩

set_option maxHeartbeats 400000 in
theorem byte_any (x : Int) (v : Bool) (w : World) (hv : decide (Num x) = v) :
    Calls Try.prog 49 #[.int .i64 x] w fun e w' => e = .returned (.bool v) ∧ w' = w := by
  rw [num_dec] at hv
  go_enter Try.func49, Try.ntmps49
  go_wp2_with fail
  refine (in_any x 0 255 v _ hv).mono ?_
  rintro e w1 ⟨rfl, rfl⟩
  go_wp2
  go_ret
  exact ⟨rfl, rfl⟩
set_option maxHeartbeats 400000 in
theorem num_any (x : Int) (v : Bool) (w : World) (hv : decide (Num x) = v) :
    Calls Try.prog 56 #[.int .i64 x] w fun e w' => e = .returned (.bool v) ∧ w' = w := by
  rw [num_dec] at hv
  subst hv
  by_cases h1 : 0 ≤ x
  · by_cases h2 : x ≤ 255
    · go_enter Try.func56, Try.ntmps56
      go_wp2
      go_ret
      exact ⟨ret_bool (by simp [h1, h2]), rfl⟩
    · have hd : decide (x ≤ 255) = false := by simpa using h2
      go_enter Try.func56, Try.ntmps56
      go_wp2
      go_ret
      exact ⟨ret_bool (by simp [h2]), rfl⟩
  · have hd : decide (0 ≤ x) = false := by simpa using h1
    go_enter Try.func56, Try.ntmps56
    go_wp2
    go_ret
    exact ⟨ret_bool (by simp [h1]), rfl⟩
set_option maxHeartbeats 400000 in
theorem spart_any (x y v : Int) (w : World) (hx : Num x) (hy : Num y) (hv : part x y = v) :
    Calls Try.prog 52 #[.int .i64 x, .int .i64 y] w fun e w' => e = .returned (.int .i64 v) ∧ w' = w := by
  obtain ⟨m0, m1⟩ := mul_num hx hy
  have hv' := hide hv
  clear hv
  have hw : IntKind.i64.wrap (x * y) = x * y := by rw [IntKind.wrap_i64]; omega
  go_enter Try.func52, Try.ntmps52
  go_wp2_with fail
  refine (srnd_any (x * y) 255 v _ (by omega) (by omega) (by omega) (unhide hv')).mono ?_
  rintro e w1 ⟨rfl, rfl⟩
  go_wp2
  go_ret
  exact ⟨rfl, rfl⟩

end Go.Proofs.Ytmpbcmpjfcddoaa
