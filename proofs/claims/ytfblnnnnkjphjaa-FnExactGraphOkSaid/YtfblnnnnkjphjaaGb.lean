/-
  Laws of memory: owned rows kept by what is written elsewhere; no conditions.
-/
import Derived.Test.YtfblnnnnkjphjaaFl
import Derived.Deep.RegionHeld3
import Derived.Outline
import Derived.Deep.AppendLies
namespace Go.Proofs.Ytfblnnnnkjphjaa
open Go.RowKit
set_option linter.unusedVariables false
set_option linter.unusedSimpArgs false
theorem own_mono {w : World} {B B' n m : Nat} {e : TypeId} {v : Value} {xs : List Value} (h : w.ownsRow B e m v n xs) (hB : B' ≤ B) : w.ownsRow B' e m v n xs := by
  obtain ⟨h1, h2⟩ := h
  refine ⟨h1, ?_⟩
  rcases h2 with h2 | ⟨g, cap, cur, hv, hg, r⟩
  · exact Or.inl h2
  · exact Or.inr ⟨g, cap, cur, hv, by omega, r⟩
theorem own_up {w : World} {B B' g n m cap : Nat} {e : TypeId} {xs : List Value} (h : w.ownsRow B e m (.slice (some ⟨g, 0, none⟩) n cap) n xs) (hB : B' ≤ g) : w.ownsRow B' e m (.slice (some ⟨g, 0, none⟩) n cap) n xs := by
  obtain ⟨h1, h2⟩ := h
  refine ⟨h1, ?_⟩
  rcases h2 with h2 | ⟨g', cap', cur, hv, hg, r⟩
  · exact Or.inl h2
  · refine Or.inr ⟨g', cap', cur, hv, ?_, r⟩
    injection hv with e1
    injection e1 with e1
    injection e1 with e1
    omega
theorem ownsRow_below {w w1 : World} {B n m : Nat} {e : TypeId} {v : Value} {xs : List Value} (h : w.ownsRow B e m v n xs) (hb : Below w.heap.size w w1) : w1.ownsRow B e m v n xs := by
  obtain ⟨h1, h2⟩ := h
  refine ⟨h1, ?_⟩
  rcases h2 with h2 | ⟨g, cap, cur, hv, hg, hh, r⟩
  · exact Or.inl h2
  · exact Or.inr ⟨g, cap, cur, hv, hg, by rw [hb.block g (by have := (Array.getElem?_eq_some_iff.1 hh).1; exact this)]; exact hh, r⟩
theorem own_lt {w : World} {B g n cap m : Nat} {e : TypeId} {xs : List Value} (h : w.ownsRow B e m (.slice (some ⟨g, 0, none⟩) n cap) n xs) : g < w.heap.size := (h.lt g rfl).2
theorem own_ge {w : World} {B g n cap m : Nat} {e : TypeId} {xs : List Value} (h : w.ownsRow B e m (.slice (some ⟨g, 0, none⟩) n cap) n xs) : B ≤ g := (h.lt g rfl).1
theorem own_blk {w w1 : World} {B C g n m cap : Nat} {e : TypeId} {xs : List Value} (ho : w.ownsRow B e m (.slice (some ⟨g, 0, none⟩) n cap) n xs) (hb : Below C w w1) (hg : g < C) : w1.ownsRow B e m (.slice (some ⟨g, 0, none⟩) n cap) n xs := by
  obtain ⟨h1, h2⟩ := ho
  refine ⟨h1, ?_⟩
  rcases h2 with h2 | ⟨g', cap', cur, hv, hB, hh, r⟩
  · exact Or.inl h2
  · refine Or.inr ⟨g', cap', cur, hv, hB, ?_, r⟩
    injection hv with e1
    injection e1 with e1
    injection e1 with e1
    subst e1
    rw [hb.block g hg]; exact hh
theorem own_kept {w w1 : World} {B g n m cap h : Nat} {e : TypeId} {xs : List Value} (ho : w.ownsRow B e m (.slice (some ⟨g, 0, none⟩) n cap) n xs) (hg : w.grownBy w1 (some h)) (hne : g ≠ h) : w1.ownsRow B e m (.slice (some ⟨g, 0, none⟩) n cap) n xs := by
  have hlt := own_lt ho
  obtain ⟨h1, h2⟩ := ho
  refine ⟨h1, ?_⟩
  rcases h2 with h2 | ⟨g', cap', cur, hv, hB, hh, r⟩
  · exact Or.inl h2
  · refine Or.inr ⟨g', cap', cur, hv, hB, ?_, r⟩
    injection hv with e1
    injection e1 with e1
    injection e1 with e1
    subst e1
    rw [hg.block g hlt (by intro hh; injection hh with hh; exact hne hh)]; exact hh
theorem below_grown {W w w1 : World} {g : Nat} (h : Below W.heap.size W w) (hg : w.grownBy w1 (some g)) (hB : W.heap.size ≤ g) : Below W.heap.size W w1 :=
  h.grown hg h.size (fun k hk => by injection hk with hk; omega)
theorem laterB {W w w1 : World} (h : Below W.heap.size W w) (hb : Below w.heap.size w w1) : Below W.heap.size W w1 := h.trans (hb.mono h.size)
theorem ne_addr {g i j : Nat} (h : i ≠ j) : (⟨g, i, none⟩ : Addr) ≠ ⟨g, j, none⟩ := by intro e; injection e with _ e2 _; exact h e2
theorem ne_blk {g h i j : Nat} (hh : g ≠ h) : (⟨g, i, none⟩ : Addr) ≠ ⟨h, j, none⟩ := by intro e; injection e with e1 _ _; exact hh e1
theorem heap_set_ne {w : World} {b i : Nat} {v : Value} {r : Nat} (h : r ≠ b) : (w.setCell ⟨b, i, none⟩ v).heap[r]? = w.heap[r]? := by
  have hg : b ≠ r := fun e => h e.symm
  simp [World.setCell, Array.getElem?_modify, hg]
abbrev iv (x : Int) : Value := .int .i64 x
abbrev fl (x : Nat) : Value := .float .f64 x
/-- a node: kind, In, In2, the bits of V -/
abbrev Kl := Int × Int × Int × Nat
theorem take_snocK {l : List Kl} {k : Nat} {c : Kl} (h : l[k]? = some c) : l.take (k + 1) = l.take k ++ [c] := by
  rw [List.take_add_one, h]; rfl
abbrev agN (k i j : Int) (v : Nat) : Value := .agg #[.int .i64 k, .int .i64 i, .int .i64 j, .float .f64 v]
theorem prod_sm {a b : Nat} (h : Sm a b) : (NaN a ∧ NaN b) ∨ (a = b ∧ ¬ NaN a) := by
  by_cases n : NaN a
  · rcases h with rfl | h
    · exact .inl ⟨n, n⟩
    · exact .inl h
  · rcases h with rfl | h
    · exact .inr ⟨rfl, n⟩
    · exact absurd h.1 n
set_option maxHeartbeats 800000 in
theorem same_any (a b : Nat) (h : Sm a b) (w : World) : Calls Try.prog 29 #[.float .f64 a, .float .f64 b] w fun e w' => e = .returned (.bool true) ∧ ∃ n, w' = w.drewN n := by
  rcases prod_sm h with ⟨na, nb⟩ | ⟨rfl, na⟩
  · have h1 := order_nan_left (y := a) na
    have h2 := order_nan_left (y := b) nb
    clear na nb h
    go_enter Try.func29, Try.ntmps29
    go_wp2
    go_ret
    exact ⟨rfl, 0, rfl⟩
  · have h1 := order_self na
    clear na h
    go_enter Try.func29, Try.ntmps29
    go_wp2
    · go_ret
      refine ⟨ret_bool ?_, _, rfl⟩
      rw [order_sm ((fv_res .quo 4607182418800017408 a w).sm (fv_res .quo 4607182418800017408 a (w.drewN (fd BinOp.quo 4607182418800017408 a))) Sm.rfl Sm.rfl) Sm.rfl]
      simp
    · go_ret
      exact ⟨rfl, 0, rfl⟩

set_option maxHeartbeats 800000 in
theorem tok1_any (k i j : Int) (v : Nat) (w : World) : Calls Try.prog 24 #[agN k i j v] w fun e w' => e = .returned (agN k i j v) ∧ Below w.heap.size w w' := by
  go_enter Try.func24, Try.ntmps24
  go_wp2
  exact bodyPost_ret (v := agN k i j v) (by simp [results, Try.results24, go_sem]) rfl ⟨rfl, ((((Below.refl _ _).alloc (Nat.le_refl _) _).alloc (by simp) _).alloc (by simp; omega) _)⟩

set_option maxHeartbeats 800000 in
theorem eqk_any (k i j : Int) (v : Nat) (w : World) : Calls Try.prog 26 #[agN k i j v, agN k i j v] w fun e w' => e = .returned (.bool true) ∧ Below w.heap.size w w' := by
  have e1 : (k != k) = false := by simp
  have e2 : (i != i) = false := by simp
  have e3 : (j != j) = false := by simp
  go_enter Try.func26, Try.ntmps26
  go_wp2_with fail
  refine (same_any v v Sm.rfl _).mono ?_
  rintro e w1 ⟨rfl, n1, rfl⟩
  go_wp2
  go_ret
  refine ⟨rfl, ?_⟩
  repeat first | exact Below.refl _ _ | refine Below.setCell ?_ (by simp <;> omega) _ | refine Below.alloc ?_ (by simp <;> omega) _ | refine below_drewN ?_ _

end Go.Proofs.Ytfblnnnnkjphjaa
