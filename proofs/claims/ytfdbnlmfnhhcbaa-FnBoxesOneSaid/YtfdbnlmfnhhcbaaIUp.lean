/-
  Contract of the program's face of the reader: what it gives up by becomes a fault; what was read is told; nothing that was there is written.
-/
import Derived.Test.YtfdbnlmfnhhcbaaIAll
import Derived.Defers
import Derived.Recover
import Derived.Laws.Pointers
namespace Go.Proofs.Ytfdbnlmfnhhcbaa
open Go.RowKit
set_option linter.unusedVariables false
set_option linter.unusedSimpArgs false

theorem all_zero : RdAllC 0 := by
  have h9 : RdAllC 9 := all_step 9 (by omega) (by omega) (fun h => by omega)
  have h8 : RdAllC 8 := all_step 8 (by omega) (by omega) (fun _ => h9)
  have h7 : RdAllC 7 := all_step 7 (by omega) (by omega) (fun _ => h8)
  have h6 : RdAllC 6 := all_step 6 (by omega) (by omega) (fun _ => h7)
  have h5 : RdAllC 5 := all_step 5 (by omega) (by omega) (fun _ => h6)
  have h4 : RdAllC 4 := all_step 4 (by omega) (by omega) (fun _ => h5)
  have h3 : RdAllC 3 := all_step 3 (by omega) (by omega) (fun _ => h4)
  have h2 : RdAllC 2 := all_step 2 (by omega) (by omega) (fun _ => h3)
  have h1 : RdAllC 1 := all_step 1 (by omega) (by omega) (fun _ => h2)
  exact all_step 0 (by omega) (by omega) (fun _ => h1)

theorem run_asserted (v : Value) (w : World) : (Instr.typeAssert (.iface 27 v) 20 27 true).run Try.prog w = .ok (.tuple #[v, .bool true]) w := by
  simp [Instr.typeAssert, run_underlying Try.underlying27]
set_option maxHeartbeats 800000 in
theorem catch_up (R H K : Nat) (v u : Value) (x y c p : Int) (older : List PanicEntry) (w : World) (hc : w.cell? ⟨R, 0, none⟩ = some v) (hv : ∃ a n k, v = .slice a n k) (h0 : w.cell? ⟨H, 0, none⟩ = some u) (h1 : w.cell? ⟨K, 0, none⟩ = some (.int .i64 x)) (h2 : w.cell? ⟨K, 1, none⟩ = some (.int .i64 y)) (hHK : H ≠ K)
    (f0 : w.frozen? ⟨H, 0, none⟩ = false) (f1 : w.frozen? ⟨K, 0, none⟩ = false) (f2 : w.frozen? ⟨K, 1, none⟩ = false) :
    CallsD Try.prog 27 #[.pointer (some ⟨R, 0, none⟩), .pointer (some ⟨H, 0, none⟩), .pointer (some ⟨K, 0, none⟩)] (.panicking ({ v := .iface 27 (.agg #[.int .i64 c, .int .i64 p]), recovered := false } :: older)) w fun e u' w' =>
      e = .returned (.tuple #[]) ∧ u' = .panicking ({ v := .iface 27 (.agg #[.int .i64 c, .int .i64 p]), recovered := true } :: older) ∧ w' = ((w.setCell ⟨H, 0, none⟩ v).setCell ⟨K, 0, none⟩ (.int .i64 c)).setCell ⟨K, 1, none⟩ (.int .i64 p) := by
  obtain ⟨a, n, k, rfl⟩ := hv
  refine callsD_of_wpS Try.func27 rfl fun c₀ cs hu => ?_
  apply wpS_seq
  apply wpS_region
  simp [wpOpsS, go_sem, recoverD, hu, Try.ntmps27, Exit.thenS]
  refine wpS_of_wp ?_
  go_wp2
  rw [run_asserted]
  simp only [Result.andThen]
  rw [Oper.upon_value]
  go_wp2
  exact ⟨rfl, _, rfl, .tuple #[], by simp [results, Try.results27, go_sem], rfl, rfl, rfl⟩

set_option maxHeartbeats 800000 in
theorem catch_idle (R H K : Nat) (w : World) :
    CallsD Try.prog 27 #[.pointer (some ⟨R, 0, none⟩), .pointer (some ⟨H, 0, none⟩), .pointer (some ⟨K, 0, none⟩)] .returning w fun e u' w' => e = .returned (.tuple #[]) ∧ u' = .returning ∧ w' = w := by
  refine callsD_of_wpS Try.func27 rfl fun c₀ cs hu => ?_
  apply wpS_seq
  apply wpS_region
  simp [wpOpsS, go_sem, recoverD, hu, Try.ntmps27, Exit.thenS]
  refine wpS_of_wp ?_
  go_wp2
  refine ⟨rfl, .returning, ?_, .tuple #[], by simp [results, Try.results27, go_sem], rfl, rfl, rfl⟩
  cases c₀
  simp_all

/-- what reading some bytes tells: the boxes, and the fault (noughts where there is none) -/
def rdTop (zs : List Int) : List Bx × (Int × Int) :=
  if 40000 < zs.length then ([], (1, 0)) else ((rdAll (zs.length + 1) zs 0 0 ⟨[], 0⟩).1.l, (rdAll (zs.length + 1) zs 0 0 ⟨[], 0⟩).2.getD (0, 0))

theorem OwnL.mono {w : World} {B B' : Nat} {v : Value} {L : List (Bx × (Option Addr × Nat))} (h : OwnL w B v L) (hB : B' ≤ B) : OwnL w B' v L :=
  ⟨own_mono h.1 hB, fun p hp => ⟨(h.2.1 p hp).1.mono hB (Nat.le_refl _), (h.2.1 p hp).2⟩, h.2.2⟩
/-- the world when the face has laid its cells and its reader -/
def W4 (w : World) : World := (((w.alloc (.cells #[.slice none 0 0] 25)).alloc (.cells #[.int .i64 0, .int .i64 0] 27)).alloc (.cells #[] 42)).alloc (.cells #[.slice (some ⟨w.heap.size + 1 + 1, 0, none⟩) 0 0, .int .i64 0] 54)
theorem W4_size (w : World) : (W4 w).heap.size = w.heap.size + 4 := by simp [W4]
theorem W4_below (w : World) : Below w.heap.size w (W4 w) := (((Below.refl _ _).alloc (Nat.le_refl _) _).alloc (by simp) _ |>.alloc (by simp; omega) _).alloc (by simp; omega) _
theorem W4_h0 (w : World) : (W4 w).heap[w.heap.size]? = some (.cells #[.slice none 0 0] 25) := by
  unfold W4
  rw [Below.heap_alloc _ _ _ (by simp; omega), Below.heap_alloc _ _ _ (by simp; omega), Below.heap_alloc _ _ _ (by simp), heap_alloc_new]
theorem W4_h1 (w : World) : (W4 w).heap[w.heap.size + 1]? = some (.cells #[.int .i64 0, .int .i64 0] 27) := by
  unfold W4
  have e : w.heap.size + 1 = (w.alloc (.cells #[.slice none 0 0] 25)).heap.size := by simp
  rw [Below.heap_alloc _ _ _ (by simp), Below.heap_alloc _ _ _ (by simp), e, heap_alloc_new]
theorem W4_h3 (w : World) : (W4 w).heap[w.heap.size + 3]? = some (.cells #[.slice (some ⟨w.heap.size + 2, 0, none⟩) 0 0, .int .i64 0] 54) := by
  unfold W4
  have e : w.heap.size + 3 = (((w.alloc (.cells #[.slice none 0 0] 25)).alloc (.cells #[.int .i64 0, .int .i64 0] 27)).alloc (.cells #[] 42)).heap.size := by simp
  rw [e, heap_alloc_new]
theorem W4_cells (w : World) : (W4 w).cell? ⟨w.heap.size, 0, none⟩ = some (.slice none 0 0) ∧ (W4 w).cell? ⟨w.heap.size + 1, 0, none⟩ = some (.int .i64 0) ∧ (W4 w).cell? ⟨w.heap.size + 1, 1, none⟩ = some (.int .i64 0) ∧
    (W4 w).cell? ⟨w.heap.size + 3, 0, none⟩ = some (.slice (some ⟨w.heap.size + 2, 0, none⟩) 0 0) ∧ (W4 w).cell? ⟨w.heap.size + 3, 1, none⟩ = some (.int .i64 0) :=
  ⟨by rw [cell_of_row _ _ _ _ _ _ (W4_h0 w)]; rfl, by rw [cell_of_row _ _ _ _ _ _ (W4_h1 w)]; rfl, by rw [cell_of_row _ _ _ _ _ _ (W4_h1 w)]; rfl, by rw [cell_of_row _ _ _ _ _ _ (W4_h3 w)]; rfl, by rw [cell_of_row _ _ _ _ _ _ (W4_h3 w)]; rfl⟩
theorem W4_frozen (w : World) : (W4 w).frozen? ⟨w.heap.size, 0, none⟩ = false ∧ (W4 w).frozen? ⟨w.heap.size + 1, 0, none⟩ = false ∧ (W4 w).frozen? ⟨w.heap.size + 1, 1, none⟩ = false ∧
    (W4 w).frozen? ⟨w.heap.size + 3, 0, none⟩ = false ∧ (W4 w).frozen? ⟨w.heap.size + 3, 1, none⟩ = false :=
  ⟨frozen_of_row _ _ _ _ _ (W4_h0 w), frozen_of_row _ _ _ _ _ (W4_h1 w), frozen_of_row _ _ _ _ _ (W4_h1 w), frozen_of_row _ _ _ _ _ (W4_h3 w), frozen_of_row _ _ _ _ _ (W4_h3 w)⟩
theorem W4_own (w : World) : OwnL (W4 w) (w.heap.size + 2) (.slice (some ⟨w.heap.size + 2, 0, none⟩) 0 0) [] := by
  refine OwnL.nil ?_
  have h := World.ownsRow_lit (base := w.heap.size + 2) (e := 42) (size := 3) ((w.alloc (.cells #[.slice none 0 0] 25)).alloc (.cells #[.int .i64 0, .int .i64 0] 27)) #[] 0 (by simp) (by unfold maxLen; omega) rfl
  have hs : ((w.alloc (.cells #[.slice none 0 0] 25)).alloc (.cells #[.int .i64 0, .int .i64 0] 27)).heap.size = w.heap.size + 2 := by simp
  rw [hs] at h
  exact h.alloc _
theorem W4_st (w : World) : ISt (W4 w) (w.heap.size + 3) (w.heap.size + 2) ⟨[], 0⟩ :=
  ⟨_, [], (W4_cells w).2.2.2.1, (W4_cells w).2.2.2.2, (W4_frozen w).2.2.2.1, (W4_frozen w).2.2.2.2, W4_own w, rfl, by rw [W4_size]; omega, by rw [W4_size]; omega, Nat.zero_le _, Int.le_refl _, by show (0 : Int) ≤ 20000; omega, (by refine ⟨?_, fun p hp => by simp at hp⟩; show some (w.heap.size + 2) ≠ some (w.heap.size + 3); intro e; injection e with e; omega), fun p hp => by simp at hp⟩
theorem set_cells {w : World} {H K : Nat} {u v : Value} {x y c p : Int} (h0 : w.cell? ⟨H, 0, none⟩ = some u) (h1 : w.cell? ⟨K, 0, none⟩ = some (.int .i64 x)) (h2 : w.cell? ⟨K, 1, none⟩ = some (.int .i64 y)) (hHK : H ≠ K) :
    (((w.setCell ⟨H, 0, none⟩ v).setCell ⟨K, 0, none⟩ (.int .i64 c)).setCell ⟨K, 1, none⟩ (.int .i64 p)).cell? ⟨H, 0, none⟩ = some v ∧ (((w.setCell ⟨H, 0, none⟩ v).setCell ⟨K, 0, none⟩ (.int .i64 c)).setCell ⟨K, 1, none⟩ (.int .i64 p)).cell? ⟨K, 0, none⟩ = some (.int .i64 c) ∧
    (((w.setCell ⟨H, 0, none⟩ v).setCell ⟨K, 0, none⟩ (.int .i64 c)).setCell ⟨K, 1, none⟩ (.int .i64 p)).cell? ⟨K, 1, none⟩ = some (.int .i64 p) := by
  refine ⟨?_, ?_, ?_⟩
  · rw [World.cell?_setCell_other _ _ _ _ (ne_blk (Ne.symm hHK)), World.cell?_setCell_other _ _ _ _ (ne_blk (Ne.symm hHK))]
    exact World.cell?_setCell_same _ _ _ h0
  · rw [World.cell?_setCell_other _ _ _ _ (ne_addr (by decide))]
    exact World.cell?_setCell_same _ _ _ (show _ = some (.int .i64 x) by rw [World.cell?_setCell_other _ _ _ _ (ne_blk hHK)]; exact h1)
  · exact World.cell?_setCell_same _ _ _ (show _ = some (.int .i64 y) by rw [World.cell?_setCell_other _ _ _ _ (ne_addr (by decide)), World.cell?_setCell_other _ _ _ _ (ne_blk hHK)]; exact h2)

set_option maxRecDepth 100000 in
set_option maxHeartbeats 1600000 in
theorem up_any (a : Option Addr) (cap : Nat) (zs : List Int) (w : World) (hl : zs.length ≤ 100000000) (hlc : zs.length ≤ cap) (hc2 : cap ≤ 9223372036854775807) (hr : Row false 0 w.heap.size w a zs) :
    Calls Try.prog 15 #[.slice a zs.length cap] w fun e w' => ∃ v L, e = .returned (.tuple #[v, .agg #[.int .i64 (rdTop zs).2.1, .int .i64 (rdTop zs).2.2]]) ∧ OwnL w' w.heap.size v L ∧ (L.map (·.1) = (rdTop zs).1 ∧ Nz L) ∧ Below w.heap.size w w' := by
  have hmf : ∀ (fn : Fn) (first cap : Array Value) (w : World), (Instr.makeFunc fn first cap).run Try.prog w = .ok (.func fn first cap) w := fun _ _ _ _ => rfl
  have hr' := hide hr
  clear hr
  by_cases hbig : (40000 : Int) < zs.length
  · have e0 : rdTop zs = ([], (1, 0)) := by unfold rdTop; rw [if_pos (by omega)]
    rw [e0]
    clear e0
    go_enter_defers Try.func15, Try.ntmps15
    go_wp2_with fail
    refine (give_any 1 0 _).mono ?_
    rintro e w1 ⟨rfl, rfl⟩
    refine leaves_cons (f := 27) (args := #[.pointer (some ⟨w.heap.size + 3, 0, none⟩), .pointer (some ⟨w.heap.size, 0, none⟩), .pointer (some ⟨w.heap.size + 1, 0, none⟩)]) (by simp) (by simp [go_sem]) ?_
    obtain ⟨k0, k1, k2, k3, k4⟩ := W4_cells w
    obtain ⟨z0, z1, z2, _, _⟩ := W4_frozen w
    refine (catch_up (w.heap.size + 3) w.heap.size (w.heap.size + 1) _ _ 0 0 1 0 [] (W4 w) k3 ⟨_, _, _, rfl⟩ k0 k1 k2 (by omega) z0 z1 z2).mono ?_
    rintro e u' w2 ⟨rfl, rfl, rfl⟩
    obtain ⟨y0, y1, y2⟩ := set_cells (v := .slice (some ⟨w.heap.size + 2, 0, none⟩) 0 0) (c := 1) (p := 0) k0 k1 k2 (by omega)
    show Leaves _ _ _ _ [] .returning _
    refine ⟨.tuple #[.slice (some ⟨w.heap.size + 2, 0, none⟩) 0 0, .agg #[.int .i64 1, .int .i64 0]], by simp [results, Try.results15, go_sem, y0, y1, y2], _, [], rfl, ?_, ⟨rfl, fun p hp => by simp at hp⟩, ?_⟩
    · exact ((((W4_own w).set (by show w.heap.size < _; omega) _).set (by show w.heap.size + 1 < _; omega) _).set (by show w.heap.size + 1 < _; omega) _).mono (by omega)
    · exact (((W4_below w).setCell (Nat.le_refl _) _).setCell (by show _ ≤ w.heap.size + 1; omega) _).setCell (by show _ ≤ w.heap.size + 1; omega) _
  · have hl4 : zs.length ≤ 40000 := by omega
    have e0 : rdTop zs = ((rdAll (zs.length + 1) zs 0 0 ⟨[], 0⟩).1.l, (rdAll (zs.length + 1) zs 0 0 ⟨[], 0⟩).2.getD (0, 0)) := by unfold rdTop; rw [if_neg (by omega)]
    rw [e0]
    clear e0
    have hcall := hide (all_zero (zs.length + 1) zs a cap w.heap.size (w.heap.size + 3) (w.heap.size + 2) 0 ⟨[], 0⟩ (W4 w) (by omega) (by omega) (by omega) hl4 hlc hc2 (by omega) (by omega) ((unhide hr').below (W4_below w) (Nat.le_refl _)) (W4_st w))
    obtain ⟨res, hres⟩ : ∃ res, rdAll (zs.length + 1) zs 0 0 ⟨[], 0⟩ = res := ⟨_, rfl⟩
    have hcall2 := unhide hcall
    rw [hres] at hcall2 ⊢
    have hcall' := hide hcall2
    clear hcall hcall2 hres
    obtain ⟨k0, k1, k2, k3, k4⟩ := W4_cells w
    obtain ⟨z0, z1, z2, _, _⟩ := W4_frozen w
    go_enter_defers Try.func15, Try.ntmps15
    go_wp2_with fail
    refine (unhide hcall').mono ?_
    rintro e w5 ⟨he, ⟨v, L, c0, c1, f0, f1, hown, hL, hRw, hBw, h2, n0, n1, hoff, hnz⟩, hF⟩
    obtain ⟨av, capv, hv, _⟩ := hown.bxs
    have blk : ∀ k, k < w.heap.size + 2 → w5.heap[k]? = (W4 w).heap[k]? := fun k hk => hF.2.2.2.2 k hk (by omega)
    have q0 : w5.cell? ⟨w.heap.size, 0, none⟩ = some (.slice none 0 0) := (World.cell?_of_block (a := ⟨w.heap.size, 0, none⟩) (blk w.heap.size (by omega))).trans k0
    have q1 : w5.cell? ⟨w.heap.size + 1, 0, none⟩ = some (.int .i64 0) := (World.cell?_of_block (a := ⟨w.heap.size + 1, 0, none⟩) (blk (w.heap.size + 1) (by omega))).trans k1
    have q2 : w5.cell? ⟨w.heap.size + 1, 1, none⟩ = some (.int .i64 0) := (World.cell?_of_block (a := ⟨w.heap.size + 1, 1, none⟩) (blk (w.heap.size + 1) (by omega))).trans k2
    have g0 : w5.frozen? ⟨w.heap.size, 0, none⟩ = false := (World.frozen?_of_block (a := ⟨w.heap.size, 0, none⟩) (blk w.heap.size (by omega))).trans z0
    have g1 : w5.frozen? ⟨w.heap.size + 1, 0, none⟩ = false := (World.frozen?_of_block (a := ⟨w.heap.size + 1, 0, none⟩) (blk (w.heap.size + 1) (by omega))).trans z1
    have g2 : w5.frozen? ⟨w.heap.size + 1, 1, none⟩ = false := (World.frozen?_of_block (a := ⟨w.heap.size + 1, 1, none⟩) (blk (w.heap.size + 1) (by omega))).trans z2
    have hbel : Below w.heap.size w w5 := (W4_below w).trans (hF.below (by omega) (by omega))
    obtain ⟨s1, fo⟩ := res
    cases fo with
    | some f =>
      have he2 : e = gave f.1 f.2 := he
      subst he2
      refine leaves_cons (f := 27) (args := #[.pointer (some ⟨w.heap.size + 3, 0, none⟩), .pointer (some ⟨w.heap.size, 0, none⟩), .pointer (some ⟨w.heap.size + 1, 0, none⟩)]) (by simp) (by simp [go_sem]) ?_
      refine (catch_up (w.heap.size + 3) w.heap.size (w.heap.size + 1) v _ 0 0 f.1 f.2 [] w5 c0 ⟨_, _, _, hv⟩ q0 q1 q2 (by omega) g0 g1 g2).mono ?_
      rintro e u' w2 ⟨rfl, rfl, rfl⟩
      obtain ⟨y0, y1, y2⟩ := set_cells (v := v) (c := f.1) (p := f.2) q0 q1 q2 (by omega)
      show Leaves _ _ _ _ [] .returning _
      refine ⟨.tuple #[v, .agg #[.int .i64 f.1, .int .i64 f.2]], by simp [results, Try.results15, go_sem, y0, y1, y2], v, L, rfl, ?_, ⟨hL, hnz⟩, ?_⟩
      · exact (((hown.set (by show w.heap.size < _; omega) _).set (by show w.heap.size + 1 < _; omega) _).set (by show w.heap.size + 1 < _; omega) _).mono (by omega)
      · exact ((hbel.setCell (Nat.le_refl _) _).setCell (by show _ ≤ w.heap.size + 1; omega) _).setCell (by show _ ≤ w.heap.size + 1; omega) _
    | none =>
      have he2 : e = .returned (.tuple #[]) := he
      subst he2
      have hown' := hide hown
      have hL' := hide (And.intro hL hnz)
      have hoff' := hide hoff
      have hbel' := hide hbel
      have hF' := hide hF
      subst hv
      clear hown hL hoff hnz hbel hF blk he
      go_wp2
      refine leaves_cons (f := 27) (args := #[.pointer (some ⟨w.heap.size + 3, 0, none⟩), .pointer (some ⟨w.heap.size, 0, none⟩), .pointer (some ⟨w.heap.size + 1, 0, none⟩)]) (by simp) (by simp [go_sem]) ?_
      refine (catch_idle _ _ _ _).mono ?_
      rintro e u' w2 ⟨rfl, rfl, rfl⟩
      obtain ⟨y0, y1, y2⟩ := set_cells (v := .slice av L.length capv) (c := 0) (p := 0) q0 q1 q2 (by omega)
      show Leaves _ _ _ _ [] .returning _
      refine ⟨.tuple #[.slice av L.length capv, .agg #[.int .i64 0, .int .i64 0]], by simp [results, Try.results15, go_sem, y0, y1, y2], _, rfl, L, ?_, unhide hL', ?_⟩
      · exact ((((unhide hown').set (by show w.heap.size < _; omega) _).set (by show w.heap.size + 1 < _; omega) _).set (by show w.heap.size + 1 < _; omega) _).mono (by omega)
      · exact (((unhide hbel').setCell (Nat.le_refl _) _).setCell (by show _ ≤ w.heap.size + 1; omega) _).setCell (by show _ ≤ w.heap.size + 1; omega) _

set_option maxHeartbeats 800000 in
theorem isave_any (a : Option Addr) (cap : Nat) (zs : List Int) (w : World) (hl : zs.length ≤ 100000000) (hlc : zs.length ≤ cap) (hc2 : cap ≤ 9223372036854775807) (hr : Row false 0 w.heap.size w a zs) :
    Calls Try.prog 8 #[.slice a zs.length cap] w fun e w' => ∃ v L, e = .returned v ∧ OwnL w' w.heap.size v L ∧ (L.map (·.1) = (rdTop zs).1 ∧ Nz L) ∧ Below w.heap.size w w' := by
  have hr' := hide hr
  clear hr
  go_enter Try.func8, Try.ntmps8
  go_wp2_with fail
  refine (up_any a cap zs _ hl hlc hc2 (unhide hr')).mono ?_
  rintro e w1 ⟨v, L, rfl, hown, hL, hb⟩
  generalize (rdTop zs).2.1 = c
  generalize (rdTop zs).2.2 = p
  have hown' := hide hown
  have hL' := hide hL
  have hb' := hide hb
  clear hown hL hb
  go_wp2
  go_ret
  exact ⟨v, L, rfl, (unhide hown').below ((Below.refl _ _).alloc (Nat.le_refl _) _), unhide hL', (unhide hb').alloc (unhide hb').size _⟩

/-- what ReadBoxes tells -/
def rdBoxes (zs : List Int) : List Bx := if (rdTop zs).2 = (0, 0) then (rdTop zs).1 else []
set_option maxHeartbeats 800000 in
theorem iread_any (a : Option Addr) (cap : Nat) (zs : List Int) (w : World) (hl : zs.length ≤ 100000000) (hlc : zs.length ≤ cap) (hc2 : cap ≤ 9223372036854775807) (hr : Row false 0 w.heap.size w a zs) :
    Calls Try.prog 6 #[.slice a zs.length cap] w fun e w' => ∃ v L, e = .returned (.tuple #[v, .agg #[.int .i64 (rdTop zs).2.1, .int .i64 (rdTop zs).2.2]]) ∧ OwnL w' w.heap.size v L ∧ (L.map (·.1) = rdBoxes zs ∧ Nz L) ∧ Below w.heap.size w w' := by
  have hr' := hide hr
  clear hr
  by_cases h0 : (rdTop zs).2 = (0, 0)
  · have e1 : rdBoxes zs = (rdTop zs).1 := by unfold rdBoxes; rw [if_pos h0]
    have hu := up_any a cap zs ((w.alloc (.cells #[.int .i64 0, .int .i64 0] 27))) hl hlc hc2 (((unhide hr').below ((Below.refl _ _).alloc (Nat.le_refl _) _) (Nat.le_refl _)).mono (Nat.le_refl _) (by simp))
    rw [h0] at hu
    rw [e1, h0]
    have hu' := hide hu
    clear hu e1
    go_enter Try.func6, Try.ntmps6
    go_wp2_with fail
    refine (unhide hu').mono ?_
    rintro e w1 ⟨v, L, rfl, hown, hL, hb⟩
    have hown' := hide hown
    have hL' := hide hL
    have hb' := hide hb
    obtain ⟨hc, hf⟩ := bcell hb
    have hz : w.heap.size < w1.heap.size := by have := hb.size; simp at this; omega
    clear hown hL hb
    go_wp2
    have hbw : Below w.heap.size w w1 := ((Below.refl _ _).alloc (Nat.le_refl _) _).trans ((unhide hb').mono (by simp))
    refine bodyPost_ret (v := .tuple #[v, .agg #[.int .i64 0, .int .i64 0]]) (by simp [results, Try.results6, go_sem, hc, hf, hz]) rfl ⟨v, L, rfl, ?_, unhide hL', ?_⟩
    · refine (((OwnL.set (p := ⟨w.heap.size, 1, none⟩) (OwnL.set (p := ⟨w.heap.size, 0, none⟩) (unhide hown') (by show w.heap.size < _; simp) _) (by show w.heap.size < _; simp) _)).below ((Below.refl _ _).alloc (Nat.le_refl _) _)).mono (by simp)
    · exact ((hbw.setCell (Nat.le_refl _) _).setCell (Nat.le_refl _) _).alloc (by simp; omega) _
  · have e1 : rdBoxes zs = [] := by unfold rdBoxes; rw [if_neg h0]
    have hne : (rdTop zs).2.1 ≠ 0 ∨ (rdTop zs).2.2 ≠ 0 := by
      by_cases h1 : (rdTop zs).2.1 = 0
      · right; intro h2; exact h0 (Prod.ext h1 h2)
      · exact .inl h1
    rw [e1]
    have hu := up_any a cap zs ((w.alloc (.cells #[.int .i64 0, .int .i64 0] 27))) hl hlc hc2 (((unhide hr').below ((Below.refl _ _).alloc (Nat.le_refl _) _) (Nat.le_refl _)).mono (Nat.le_refl _) (by simp))
    generalize (rdTop zs).2.1 = c at *
    generalize (rdTop zs).2.2 = p at *
    have hu' := hide hu
    clear hu e1 h0
    by_cases c0 : c = 0
    · subst c0
      have hp0 : (p == 0) = false := by
        rcases hne with h | h
        · exact absurd rfl h
        · simpa using h
      clear hne
      go_enter Try.func6, Try.ntmps6
      go_wp2_with fail
      refine (unhide hu').mono ?_
      rintro e w1 ⟨v, L, rfl, hown, hL, hb⟩
      have hb' := hide hb
      obtain ⟨hc, hf⟩ := bcell hb
      have hz : w.heap.size < w1.heap.size := by have := hb.size; simp at this; omega
      have hbw : Below w.heap.size w w1 := ((Below.refl _ _).alloc (Nat.le_refl _) _).trans (hb.mono (by simp))
      have hbw' := hide hbw
      have hne : ¬ w.heap.size = w1.heap.size := by omega
      have hne2 : ¬ w1.heap.size = w.heap.size := by omega
      have a0 : w1.cell? ⟨w.heap.size, 0, none⟩ = some (.int .i64 0) := by rw [hc _ _ (by simp)]; simp
      have a1 : w1.cell? ⟨w.heap.size, 1, none⟩ = some (.int .i64 0) := by rw [hc _ _ (by simp)]; simp
      have b0 : w1.frozen? ⟨w.heap.size, 0, none⟩ = false := by rw [hf _ _ (by simp)]; simp
      have b1 : w1.frozen? ⟨w.heap.size, 1, none⟩ = false := by rw [hf _ _ (by simp)]; simp
      clear hown hL hb hc hf hbw
      go_wp2
      go_region
      go_wp2
      have y0 : (((w1.setCell ⟨w.heap.size, 0, none⟩ (.int .i64 0)).setCell ⟨w.heap.size, 1, none⟩ (.int .i64 p)).alloc (.cells #[.int .i64 0, .int .i64 p] 27)).cell? ⟨w.heap.size, 0, none⟩ = some (.int .i64 0) := by
        rw [World.cell?_alloc_past _ _ _ (by simp; exact hz), World.cell?_setCell_other _ _ _ _ (ne_addr (by decide))]
        exact World.cell?_setCell_same _ _ _ a0
      have y1 : (((w1.setCell ⟨w.heap.size, 0, none⟩ (.int .i64 0)).setCell ⟨w.heap.size, 1, none⟩ (.int .i64 p)).alloc (.cells #[.int .i64 0, .int .i64 p] 27)).cell? ⟨w.heap.size, 1, none⟩ = some (.int .i64 p) := by
        rw [World.cell?_alloc_past _ _ _ (by simp; exact hz)]
        exact World.cell?_setCell_same _ _ _ (show _ = some (.int .i64 0) by rw [World.cell?_setCell_other _ _ _ _ (ne_addr (by decide))]; exact a1)
      have x0 : ((((w1.setCell ⟨w.heap.size, 0, none⟩ (.int .i64 0)).setCell ⟨w.heap.size, 1, none⟩ (.int .i64 p)).alloc (.cells #[.int .i64 0, .int .i64 p] 27)).alloc (.cells #[] 42)).drew.cell? ⟨w.heap.size, 0, none⟩ = some (.int .i64 0) := by
        show ((((w1.setCell ⟨w.heap.size, 0, none⟩ (.int .i64 0)).setCell ⟨w.heap.size, 1, none⟩ (.int .i64 p)).alloc (.cells #[.int .i64 0, .int .i64 p] 27)).alloc (.cells #[] 42)).cell? _ = _
        rw [World.cell?_alloc_past _ _ _ (by simp; omega)]; exact y0
      have x1 : ((((w1.setCell ⟨w.heap.size, 0, none⟩ (.int .i64 0)).setCell ⟨w.heap.size, 1, none⟩ (.int .i64 p)).alloc (.cells #[.int .i64 0, .int .i64 p] 27)).alloc (.cells #[] 42)).drew.cell? ⟨w.heap.size, 1, none⟩ = some (.int .i64 p) := by
        show ((((w1.setCell ⟨w.heap.size, 0, none⟩ (.int .i64 0)).setCell ⟨w.heap.size, 1, none⟩ (.int .i64 p)).alloc (.cells #[.int .i64 0, .int .i64 p] 27)).alloc (.cells #[] 42)).cell? _ = _
        rw [World.cell?_alloc_past _ _ _ (by simp; omega)]; exact y1
      have hsz : (((w1.setCell ⟨w.heap.size, 0, none⟩ (.int .i64 0)).setCell ⟨w.heap.size, 1, none⟩ (.int .i64 p)).alloc (.cells #[.int .i64 0, .int .i64 p] 27)).heap.size = w1.heap.size + 1 := by simp
      have hol := World.ownsRow_lit (base := w.heap.size) (e := 42) (size := 3) (((w1.setCell ⟨w.heap.size, 0, none⟩ (.int .i64 0)).setCell ⟨w.heap.size, 1, none⟩ (.int .i64 p)).alloc (.cells #[.int .i64 0, .int .i64 p] 27)) #[] 0 (by simp; omega) (by unfold maxLen; omega) rfl
      rw [hsz] at hol
      refine bodyPost_ret (v := .tuple #[.slice (some ⟨w1.heap.size + 1, 0, none⟩) 0 0, .agg #[.int .i64 0, .int .i64 p]]) (by simp [results, Try.results6, go_sem, x0, x1]) rfl ⟨_, [], rfl, OwnL.nil hol.drew, ⟨rfl, fun p hp => by simp at hp⟩, ?_⟩
      exact (((((unhide hbw').setCell (Nat.le_refl _) _).setCell (Nat.le_refl _) _).alloc (by simp; omega) _).alloc (by simp; omega) _).drew

    · have hp0 : (c == 0) = false := by simpa using c0
      clear hne c0
      go_enter Try.func6, Try.ntmps6
      go_wp2_with fail
      refine (unhide hu').mono ?_
      rintro e w1 ⟨v, L, rfl, hown, hL, hb⟩
      have hb' := hide hb
      obtain ⟨hc, hf⟩ := bcell hb
      have hz : w.heap.size < w1.heap.size := by have := hb.size; simp at this; omega
      have hbw : Below w.heap.size w w1 := ((Below.refl _ _).alloc (Nat.le_refl _) _).trans (hb.mono (by simp))
      have hbw' := hide hbw
      have hne : ¬ w.heap.size = w1.heap.size := by omega
      have hne2 : ¬ w1.heap.size = w.heap.size := by omega
      have a0 : w1.cell? ⟨w.heap.size, 0, none⟩ = some (.int .i64 0) := by rw [hc _ _ (by simp)]; simp
      have a1 : w1.cell? ⟨w.heap.size, 1, none⟩ = some (.int .i64 0) := by rw [hc _ _ (by simp)]; simp
      have b0 : w1.frozen? ⟨w.heap.size, 0, none⟩ = false := by rw [hf _ _ (by simp)]; simp
      have b1 : w1.frozen? ⟨w.heap.size, 1, none⟩ = false := by rw [hf _ _ (by simp)]; simp
      clear hown hL hb hc hf hbw
      go_wp2
      go_region
      go_wp2
      have y0 : (((w1.setCell ⟨w.heap.size, 0, none⟩ (.int .i64 c)).setCell ⟨w.heap.size, 1, none⟩ (.int .i64 p)).alloc (.cells #[.int .i64 c, .int .i64 p] 27)).cell? ⟨w.heap.size, 0, none⟩ = some (.int .i64 c) := by
        rw [World.cell?_alloc_past _ _ _ (by simp; exact hz), World.cell?_setCell_other _ _ _ _ (ne_addr (by decide))]
        exact World.cell?_setCell_same _ _ _ a0
      have y1 : (((w1.setCell ⟨w.heap.size, 0, none⟩ (.int .i64 c)).setCell ⟨w.heap.size, 1, none⟩ (.int .i64 p)).alloc (.cells #[.int .i64 c, .int .i64 p] 27)).cell? ⟨w.heap.size, 1, none⟩ = some (.int .i64 p) := by
        rw [World.cell?_alloc_past _ _ _ (by simp; exact hz)]
        exact World.cell?_setCell_same _ _ _ (show _ = some (.int .i64 0) by rw [World.cell?_setCell_other _ _ _ _ (ne_addr (by decide))]; exact a1)
      have x0 : ((((w1.setCell ⟨w.heap.size, 0, none⟩ (.int .i64 c)).setCell ⟨w.heap.size, 1, none⟩ (.int .i64 p)).alloc (.cells #[.int .i64 c, .int .i64 p] 27)).alloc (.cells #[] 42)).drew.cell? ⟨w.heap.size, 0, none⟩ = some (.int .i64 c) := by
        show ((((w1.setCell ⟨w.heap.size, 0, none⟩ (.int .i64 c)).setCell ⟨w.heap.size, 1, none⟩ (.int .i64 p)).alloc (.cells #[.int .i64 c, .int .i64 p] 27)).alloc (.cells #[] 42)).cell? _ = _
        rw [World.cell?_alloc_past _ _ _ (by simp; omega)]; exact y0
      have x1 : ((((w1.setCell ⟨w.heap.size, 0, none⟩ (.int .i64 c)).setCell ⟨w.heap.size, 1, none⟩ (.int .i64 p)).alloc (.cells #[.int .i64 c, .int .i64 p] 27)).alloc (.cells #[] 42)).drew.cell? ⟨w.heap.size, 1, none⟩ = some (.int .i64 p) := by
        show ((((w1.setCell ⟨w.heap.size, 0, none⟩ (.int .i64 c)).setCell ⟨w.heap.size, 1, none⟩ (.int .i64 p)).alloc (.cells #[.int .i64 c, .int .i64 p] 27)).alloc (.cells #[] 42)).cell? _ = _
        rw [World.cell?_alloc_past _ _ _ (by simp; omega)]; exact y1
      have hsz : (((w1.setCell ⟨w.heap.size, 0, none⟩ (.int .i64 c)).setCell ⟨w.heap.size, 1, none⟩ (.int .i64 p)).alloc (.cells #[.int .i64 c, .int .i64 p] 27)).heap.size = w1.heap.size + 1 := by simp
      have hol := World.ownsRow_lit (base := w.heap.size) (e := 42) (size := 3) (((w1.setCell ⟨w.heap.size, 0, none⟩ (.int .i64 c)).setCell ⟨w.heap.size, 1, none⟩ (.int .i64 p)).alloc (.cells #[.int .i64 c, .int .i64 p] 27)) #[] 0 (by simp; omega) (by unfold maxLen; omega) rfl
      rw [hsz] at hol
      refine bodyPost_ret (v := .tuple #[.slice (some ⟨w1.heap.size + 1, 0, none⟩) 0 0, .agg #[.int .i64 c, .int .i64 p]]) (by simp [results, Try.results6, go_sem, x0, x1]) rfl ⟨_, [], rfl, OwnL.nil hol.drew, ⟨rfl, fun p hp => by simp at hp⟩, ?_⟩
      exact (((((unhide hbw').setCell (Nat.le_refl _) _).setCell (Nat.le_refl _) _).alloc (by simp; omega) _).alloc (by simp; omega) _).drew

end Go.Proofs.Ytfdbnlmfnhhcbaa
