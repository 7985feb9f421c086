/-
  In company: a region that draws its order, by what is held of it at each set of operations that came up; the families of digestsOf's workers; the digest in a worker's company.
  A worker of digestsOf: its birth, the defer, the region that draws its order (three loads, the digest, the place, the store), the deferred Done: from there on the library's.
-/
import Derived.Test.YtghglpcfpokmhaaZFi
import Derived.Test.YtghglpcfpokmhaaZDg
import Derived.Conc.CompanyMem
set_option linter.unusedVariables false
set_option linter.unusedSimpArgs false
namespace Go.Proofs.Ytghglpcfpokmhaa.Ct
open Go Go.Conc
section
variable {P : Program} {main : Bool} {R : World → World → Prop} {D : World → World → Array Event → Prop} {fn : FuncId} {ops : Array Oper} {Q : Exit → Act → World → Prop} {md : Region.Mode}
/-- whatever order is drawn, by what is held while so many are to come -/
theorem sched_inv (T : Terms R D) (J : Nat → Array Bool → Act → World → Prop) (K : Nat)
    (hstep : ∀ f l a w i rest n, J (f + 1) l a w → i ∈ Region.ready md ops l → (∀ a' w', J f (l.setIfInBounds i true) a' w' → OpsC P main R D fn ops rest n Q a' w') → OpsC P main R D fn ops (i :: rest) (n + K) Q a w)
    (hgo : ∀ f l a w, J (f + 1) l a w → Region.ready md ops l ≠ []) (hend : ∀ l a w, J 0 l a w → Q .normal a w) :
    ∀ (fuel t : Nat) (l : Array Bool) (a : Act) (w : World), J fuel l a w → OpsC P main R D fn ops (Region.linearise.go md ops fuel t l []) (fuel * K + 1) Q a w := by
  intro fuel
  induction fuel with
  | zero => intro t l a w h; simpa [Region.linearise.go] using opsC_nil T (hend l a w h)
  | succ fuel ih =>
    intro t l a w h
    simp only [Region.linearise.go]
    change OpsC P main R D fn ops (match (Region.ready md ops l)[t % (Region.ready md ops l).length]? with
      | some i => Region.linearise.go md ops fuel (t / (Region.ready md ops l).length) (l.setIfInBounds i true) [i]
      | none => [].reverse) _ Q a w
    cases hi : (Region.ready md ops l)[t % (Region.ready md ops l).length]? with
    | none =>
      exfalso
      have hne := hgo _ _ _ _ h
      cases hr : Region.ready md ops l with
      | nil => exact hne hr
      | cons x xs =>
        rw [hr] at hi
        have hlt : t % (x :: xs).length < (x :: xs).length := Nat.mod_lt _ (by simp)
        simp at hi
        simp at hlt
        omega
    | some i =>
      simp only []
      rw [linearise_go_acc, List.reverse_singleton, List.singleton_append]
      have := hstep fuel l a w i (Region.linearise.go md ops fuel (t / (Region.ready md ops l).length) (l.setIfInBounds i true) []) (fuel * K + 1) h (List.mem_of_getElem? hi) (fun a' w' x => ih _ _ a' w' x)
      exact opsC_more this (by rw [Nat.succ_mul]; omega)
theorem wpC_drawn (T : Terms R D) (hd : LetsDraw D) {id : Nat} {a : Act} {w : World} (hm : P.follows .mixedOrders = true) (J : Nat → Array Bool → Act → World → Prop) (K : Nat)
    (h0 : ∀ w₁, R w w₁ → J ops.size (Array.replicate ops.size false) a { w₁ with drawn := w₁.drawn + 1 })
    (hstep : ∀ f l a w i rest n, J (f + 1) l a w → i ∈ Region.ready .any ops l → (∀ a' w', J f (l.setIfInBounds i true) a' w' → OpsC P main R D fn ops rest n Q a' w') → OpsC P main R D fn ops (i :: rest) (n + K) Q a w)
    (hgo : ∀ f l a w, J (f + 1) l a w → Region.ready .any ops l ≠ []) (hend : ∀ l a w, J 0 l a w → Q .normal a w) : (Code.region id ops true).wpC P main R D fn (ops.size * K + 1 + 1) Q a w :=
  wpC_region_draw hd fun w₁ h₁ t => by
    simp only [Region.schedule, hm, Bool.true_or, if_true]
    exact sched_inv T J K hstep hgo hend ops.size t _ a _ (h0 w₁ h₁)
end
end Go.Proofs.Ytghglpcfpokmhaa.Ct

namespace Go.Proofs.Ytghglpcfpokmhaa.Wk
open Go Go.Conc Go.ConcN Go.RowKit Go.Conc.Lib Go.ConcR.Gen Go.ConcN.Gen
open Go.ConcR (KK wgBlock WgAt stA smA rd wr mk Payload Aside2 DC0 ofEvent_cell)
open Go.Proofs.Ytghglpcfpokmhaa.Br (Shn)

def Lw (N j : Nat) : Nat := N + 3 + 2 * j
/-- Worker k's own: the cell that it writes. -/
def Own (N k : Nat) : Loc → Prop := fun l => 1 ≤ k ∧ l = .cell ⟨N, k - 1, none⟩
/-- What worker k may read: the variable sums, its own i and body, and what lay there before (but the old groups). -/
def Rd (N : Nat) (S : Nat → Prop) (k : Nat) : Loc → Prop := fun l => 1 ≤ k ∧ ∃ a, l = .cell a ∧ (a.block = N + 1 ∨ a.block = N + 3 + 2 * (k - 1) ∨ a.block = N + 4 + 2 * (k - 1) ∨ (a.block < N ∧ ¬ S a.block))
/-- The second ghost's: the first worker also owns the old groups' cells. -/
def Own1 (N : Nat) (S : Nat → Prop) (k : Nat) : Loc → Prop := fun l => Own N k l ∨ (k = 1 ∧ Shn S l)

theorem apart (N : Nat) (S : Nat → Prop) : Apart (ShN (N + 2)) (Own N) (Rd N S) := by
  refine ⟨fun k k' l h h' => ?_, fun k k' l h h' => ?_, fun k l h h' => ?_, fun k l h h' => ?_⟩
  · obtain ⟨h1, rfl⟩ := h
    obtain ⟨h2, e⟩ := h'
    simp at e
    omega
  · obtain ⟨_, rfl⟩ := h
    obtain ⟨_, a, e, hb⟩ := h'
    cases e
    simp at hb
    omega
  · obtain ⟨_, rfl⟩ := h
    obtain ⟨a, e, hb⟩ := h'
    cases e
    simp at hb
  · obtain ⟨_, a, rfl, hb⟩ := h
    obtain ⟨a', e, hb'⟩ := h'
    cases e
    omega
theorem apart1 {N : Nat} {S : Nat → Prop} (hS : ∀ b, S b → b < N) : Apart (ShN (N + 2)) (Own1 N S) (Rd N S) := by
  have A := apart N S
  have hO : ∀ k l, Own N k l → ¬ Shn S l := fun k l h ⟨x, e, hx⟩ => by
    obtain ⟨_, rfl⟩ := h
    cases e
    have := hS _ hx
    simp at this
  have hR : ∀ k l, Rd N S k l → ¬ Shn S l := fun k l h ⟨x, e, hx⟩ => by
    obtain ⟨_, a, rfl, hb⟩ := h
    cases e
    have := hS _ hx
    rcases hb with hb | hb | hb | hb
    · omega
    · omega
    · omega
    · exact hb.2 hx
  refine ⟨fun k k' l h h' => ?_, fun k k' l h h' => ?_, fun k l h h' => ?_, A.rdSh⟩
  · rcases h with h | ⟨h, hx⟩ <;> rcases h' with h' | ⟨h', hx'⟩
    · exact A.own _ _ _ h h'
    · exact absurd hx' (hO _ _ h)
    · exact absurd hx (hO _ _ h')
    · omega
  · rcases h with h | ⟨h, hx⟩
    · exact A.ownRd _ _ _ h h'
    · exact hR _ _ h' hx
  · rcases h with h | ⟨h, hx⟩
    · exact A.ownSh _ _ h h'
    · obtain ⟨x, rfl, hx⟩ := hx
      obtain ⟨a', e, hb'⟩ := h'
      cases e
      have := hS _ hx
      omega
theorem geo (N : Nat) : Geo (N + 2) N (Lw N) := ⟨fun a b h => by simp only [Lw]; omega, by simp only [Lw]; omega, by simp only [Lw]; omega, by omega⟩
theorem fam {N : Nat} {S : Nat → Prop} (hS : ∀ b, S b → b < N) : Ct.Fam (Shn S) (N + 2) (Own N) (Rd N S) (Own1 N S) (Rd N S) := by
  refine ⟨fun k l h ⟨x, e, hx⟩ => ?_, fun k l h ⟨x, e, hx⟩ => ?_, fun l h ⟨x, e, hx⟩ => ?_, fun l h => .inr ⟨rfl, h⟩⟩
  · obtain ⟨_, rfl⟩ := h
    cases e
    have := hS _ hx
    simp at this
  · obtain ⟨_, a, rfl, hb⟩ := h
    cases e
    have := hS _ hx
    rcases hb with hb | hb | hb | hb
    · omega
    · omega
    · omega
    · exact hb.2 hx
  · obtain ⟨a, rfl, hb⟩ := h
    cases e
    have := hS _ hx
    omega

/-- What both families have. -/
structure Fm (N : Nat) (S : Nat → Prop) (O : Nat → Loc → Prop) : Prop where
  own : ∀ k, 1 ≤ k → O k (.cell ⟨N, k - 1, none⟩)
  not : ∀ k a, a.block ≠ N → ¬ S a.block → ¬ O k (.cell a)
theorem fm0 (N : Nat) (S : Nat → Prop) : Fm N S (Own N) := ⟨fun k h => ⟨h, rfl⟩, fun k a h _ ⟨_, e⟩ => by cases e; exact h rfl⟩
theorem fm1 (N : Nat) (S : Nat → Prop) : Fm N S (Own1 N S) := ⟨fun k h => .inl ⟨h, rfl⟩, fun k a h h2 h3 => by
  rcases h3 with ⟨_, e⟩ | ⟨_, x, e, hx⟩
  · cases e; exact h rfl
  · cases e; exact h2 hx⟩

section
variable {N : Nat} {S : Nat → Prop} {O : Nat → Loc → Prop} {j : Nat}
theorem evW_read (a : Addr) (s : Bool) (h : a.block = N + 1 ∨ a.block = N + 3 + 2 * j ∨ a.block = N + 4 + 2 * j ∨ (a.block < N ∧ ¬ S a.block)) : EvW (N + 2) O (Rd N S) (j + 1) ⟨.cell a, false, s⟩ := by
  refine ⟨fun fn pos => ⟨rfl, fun y hy => ?_⟩, by simp, by simp, by simp⟩
  simp only [ofEvent_cell, MemAct.touch?, Option.some.injEq] at hy
  subst hy
  exact .inr (.inr ⟨⟨by omega, a, rfl, by simpa using h⟩, rfl⟩)
theorem evW_own (f : Fm N S O) : EvW (N + 2) O (Rd N S) (j + 1) ⟨.cell ⟨N, j, none⟩, true, false⟩ := by
  refine ⟨fun fn pos => ⟨rfl, fun y hy => ?_⟩, by simp, by simp, by simp⟩
  simp only [ofEvent_cell, MemAct.touch?, Option.some.injEq] at hy
  subst hy
  exact .inr (.inl (by have := f.own (j + 1) (by omega); simpa using this))
/-- The starter reads a cell that is neither the group's nor the payload's nor an old group's. -/
theorem ev0_rd {Rw : Nat → Loc → Prop} (f : Fm N S O) (a : Addr) (s : Bool) (h : a.block ≠ N + 2) (h' : a.block ≠ N) (h2 : ¬ S a.block) : Ev0 (N + 2) O Rw j ⟨.cell a, false, s⟩ := by
  refine ⟨fun fn pos => ⟨rfl, fun y hy => ?_⟩, by simp, by simp, by simp⟩
  simp only [ofEvent_cell, MemAct.touch?, Option.some.injEq] at hy
  subst hy
  exact .inr ⟨fun ⟨a', e, hb⟩ => by cases e; exact h hb, fun k _ _ hk => f.not k a h' h2 hk, fun e => by cases e⟩
/-- It writes a cell of a block that is still its own. -/
theorem ev0_wr (hS : ∀ b, S b → b < N) (f : Fm N S O) (a : Addr) (s : Bool) (h : Lw N j ≤ a.block) : Ev0 (N + 2) O (Rd N S) j ⟨.cell a, true, s⟩ := by
  simp only [Lw] at h
  refine ⟨fun fn pos => ⟨rfl, fun y hy => ?_⟩, by simp, by simp, by simp⟩
  simp only [ofEvent_cell, MemAct.touch?, Option.some.injEq] at hy
  subst hy
  refine .inr ⟨fun ⟨a', e, hb⟩ => by cases e; omega, fun k _ _ hk => f.not k a (by omega) (fun hx => by have := hS _ hx; omega) hk, fun _ k k1 kj ⟨_, a', e, hb⟩ => ?_⟩
  cases e
  omega
end

/-- A body, as the call finds it. -/
structure Bdy (N : Nat) (S : Nat → Prop) (W : World) (p : Option Addr) (cap : Nat) (l : List Int) : Prop where
  bys : ∀ j x, l[j]? = some x → ∃ b o, p = some ⟨b, o, none⟩ ∧ b < N ∧ ¬ S b ∧ W.cell? ⟨b, o + j, none⟩ = some (.int .u8 x)
  byt : Byt l
  len : l.length ≤ cap
  cap : cap ≤ maxLen

/-- WHAT WORKER NUMBER j KNOWS OF THE WORLD. -/
structure WK (N n j : Nat) (W : World) (v : Value) (w : World) : Prop where
  below : ∀ b, b < N → w.heap[b]? = W.heap[b]?
  outv : w.cell? ⟨N + 1, 0, none⟩ = some (.slice (some ⟨N, 0, none⟩) n n)
  ib : w.cell? ⟨N + 3 + 2 * j, 0, none⟩ = some (.int .i64 j)
  xb : w.cell? ⟨N + 4 + 2 * j, 0, none⟩ = some v
  live : WgLive 70 (N + 2) w
  pay : PayAt N n w

section
variable {N n j : Nat} {W : World} {v : Value} {w w₁ : World}
abbrev RWj (N n j : Nat) := RW 70 (N + 2) N n (Lw N (j + 1)) (j + 1 - 1)
theorem WK.rely (h : WK N n j W v w) (r : RWj N n j w w₁) : WK N n j W v w₁ :=
  ⟨fun b hb => (r.low b (by simp only [Lw]; omega) (by omega) (by omega)).trans (h.below b hb), (cell_of_block (r.low _ (by simp only [Lw]; omega) (by omega) (by omega)) 0).trans h.outv, (cell_of_block (r.low _ (by simp only [Lw]; omega) (by omega) (by omega)) 0).trans h.ib,
   (cell_of_block (r.low _ (by simp only [Lw]; omega) (by omega) (by omega)) 0).trans h.xb, r.live h.live, r.pay h.pay⟩
theorem WK.cellAt (h : WK N n j W v w) (hj : j < n) : ∃ u, w.cell? ⟨N, j, none⟩ = some u ∧ w.frozen? ⟨N, j, none⟩ = false := by
  obtain ⟨arr, h1, h2⟩ := h.pay
  exact ⟨arr[j]'(by omega), by simp [World.cell?, h1, h2, hj], by simp [World.frozen?, h1]⟩
/-- THE WRITE: its own cell alone turns. -/
theorem asideCell_set (hp : PayAt N n w) (v : Value) : AsideCell N n j w (w.setCell ⟨N, j, none⟩ v) := by
  have hA := aside_setCell w ⟨N, j, none⟩ v
  obtain ⟨arr, h1, h2⟩ := hp
  have hb : (w.setCell ⟨N, j, none⟩ v).heap[N]? = some (.cells (arr.setIfInBounds j v) Payload.ety) := by
    rw [setCell_eq_setRow w N j arr _ (0, 0) _ h1, setRow_heap w N _ _ _ _ h1]
  refine ⟨hA.tape, hA.os, hA.output, hA.size, fun b hb' => hA.block b hb', fun _ => ⟨_, hb, by simpa using h2⟩, fun i' hi' => ?_⟩
  simp [World.cell?, hb, h1, Array.getElem?_setIfInBounds_ne (Ne.symm hi')]
theorem has_set (hp : PayAt N n w) (hj : j < n) (v : Value) : Has N j v (w.setCell ⟨N, j, none⟩ v) := by
  obtain ⟨arr, h1, h2⟩ := hp
  have hb : (w.setCell ⟨N, j, none⟩ v).heap[N]? = some (.cells (arr.setIfInBounds j v) Payload.ety) := by
    rw [setCell_eq_setRow w N j arr _ (0, 0) _ h1, setRow_heap w N _ _ _ _ h1]
  simp [Has, World.cell?, hb, h2, hj]
theorem tmW (N n j : Nat) (O Rd : Nat → Loc → Prop) : Terms (RWj N n j) (DWs (N + 2) O Rd N n (j + 1)) := ⟨fun _ _ _ h1 h2 => h1.trans h2, fun _ => ⟨AsideCell.refl _ _ _ _, fun e he => by simp at he⟩⟩
theorem drW (N n j : Nat) (O Rd : Nat → Loc → Prop) : LetsDraw (DWs (N + 2) O Rd N n (j + 1)) := fun w => ⟨⟨rfl, rfl, rfl, rfl, fun _ _ => rfl, id, fun _ _ => rfl⟩, fun e he => by simp at he⟩
theorem WK.drew (h : WK N n j W v w) : WK N n j W v { w with drawn := w.drawn + 1 } := ⟨h.below, h.outv, h.ib, h.xb, h.live, h.pay⟩
end

@[go_sem] theorem events_min_ints {P : Program} (w : World) (es : Array Event) (ts : Array TypeId) (t : TypeId) (k k' : IntKind) (x y : Int) :
    (Builtin.min_ ts t #[.int k x, .int k' y]).events P w es = es := by
  simp only [Builtin.min_, Builtin.min2]
  rfl
set_option maxRecDepth 100000 in
theorem events_sliceH (w : World) (es : Array Event) (p : Option Addr) (ln cap M : Nat) (h : M ≤ cap) : (Instr.sliceAt 22 (.slice p ln cap) none (some (.int .i64 M)) none).events Try.prog w es = es := by
  have h2 := Try.underlying22
  simp [Instr.sliceAt, Instr.slice, Instr.sliceBounds, Instr.sliceBound, run_underlying h2, go_sem, h]
section
variable (N n j M : Nat) (W : World) (v : Value) (p : Option Addr) (ln cap : Nat) (l : List Int)
def InvD (a : Act) (w : World) : Prop :=
  ∃ (k : Nat) (v2 v4 v5 v6 v7 v8 v9 v13 v14 v15 v16 v17 v18 v19 v20 v21 v22 v23 v24 : Value), k ≤ M ∧ WK N n j W v w ∧
    a = { tmps := #[.slice p ln cap, undef, v2, .int .i64 (dgs (l.take k)), v4, v5, v6, v7, v8, v9, .slice p M cap, .int .i64 M, .int .i64 k, v13, v14, v15, v16, v17, v18, v19, v20, v21, v22, v23, v24], defers := [] }
def MuD (a : Act) (_ : World) : Nat := M - (match a.tmps.getD 12 undef with | .int _ j => j.toNat | _ => 0)
end
set_option maxRecDepth 100000 in
set_option maxHeartbeats 1600000 in
theorem digC {N n j : Nat} {S : Nat → Prop} {O : Nat → Loc → Prop} {W : World} {v : Value} {p : Option Addr} {cap : Nat} {l : List Int} (hB : Bdy N S W p cap l) :
    ∃ m, ∀ w, WK N n j W v w → CallsC Try.prog false (RWj N n j) (DWs (N + 2) O (Rd N S) N n (j + 1)) 33 #[.slice p l.length cap] m w fun r w' => r = .int .i64 (dig l) ∧ WK N n j W v w' := by
  obtain ⟨M, hM1, hM2, hM3, hM4⟩ : ∃ M : Nat, min (l.length : Int) 40000 = M ∧ M ≤ l.length ∧ M ≤ 40000 ∧ l.take 40000 = l.take M := by
    by_cases h : l.length ≤ 40000
    · exact ⟨l.length, by omega, by omega, h, by rw [List.take_of_length_le h, List.take_of_length_le (Nat.le_refl _)]⟩
    · exact ⟨40000, by omega, by omega, by omega, rfl⟩
  have hlen := hB.len
  have hcap := hB.cap
  unfold maxLen at hcap
  have T := tmW N n j O (Rd N S)
  co_apply Exists.intro
  intro w hF
  co_apply callsC_of_wpC Try.func33 (by rfl) rfl
  simp only [Try.ntmps33, List.size_toArray, List.length_cons, List.length_nil, Nat.reduceAdd, Nat.reduceSub, Array.replicate_succ, Array.replicate_zero, List.push_toArray, List.append_toArray, List.nil_append, List.cons_append]
  co_go T WK.rely hF (co_still T)
  co_apply opsC_cons_k rfl (by rfl)
  intro _ hR K hK
  replace hF := WK.rely hF hR
  clear hR
  have hMc : M ≤ cap := by omega
  have hMc' : (M : Int) ≤ (cap : Int) := by omega
  have hes := fun w es => events_sliceH w es p l.length cap M hMc
  go_simp
  refine hK _ _ ⟨?_, ?_⟩
  · co_still T
  clear hK K hes
  try walk_nrm
  co_go T WK.rely hF (co_still T)
  co_apply wpC_loop T (InvD N n j M W v p l.length cap l) (MuD M) _ M
  · exact ⟨0, _, _, _, _, _, _, _, _, _, _, _, _, _, _, _, _, _, _, _, by omega, hF, rfl⟩
  · simp [MuD]
  · rintro a w' ⟨k, v2, v4, v5, v6, v7, v8, v9, v13, v14, v15, v16, v17, v18, v19, v20, v21, v22, v23, v24, hk, hF, rfl⟩
    have hb := dgs_bd (l.take k)
    co_go T WK.rely hF (co_still T)
    co_split T (decide ((k : Int) < (M : Int)))
    · intro hj0
      have hlt : k < M := by have := of_decide_eq_true hj0; omega
      obtain ⟨b, o, hp, hbN, hbS, hc⟩ := hB.bys k l[k] (List.getElem?_eq_getElem (by omega))
      have hz := byt_at hB.byt (List.getElem?_eq_getElem (show k < l.length by omega))
      have hs := dgs_snoc (l.take k) l[k]
      rw [← take_snocI (List.getElem?_eq_getElem (show k < l.length by omega))] at hs
      have hs' := hide hs
      clear hs
      generalize l[k] = z at *
      generalize hD : dgs (l.take k) = D at *
      simp only [hp]
      co_go T WK.rely hF (co_still T)
      co_opw WK.rely hF (have hcc := (World.cell?_of_block (hF.below b hbN)).trans hc) (refine ⟨AsideCell.refl _ _ _ _, ?_⟩; co_evs (exact evW_read _ _ (.inr (.inr (.inr ⟨hbN, hbS⟩)))))
      co_go T WK.rely hF (co_still T)
      have e : IntKind.i64.wrap ((k : Int) + 1) = ((k + 1 : Nat) : Int) := by rw [IntKind.wrap_i64]; omega
      have eD : (IntKind.i64.wrap (IntKind.i64.wrap (IntKind.i64.wrap (D * 257) + IntKind.i64.wrap z) + 1)).tmod 1000000007 = dgs (l.take (k + 1)) := by
        have ew : IntKind.i64.wrap (IntKind.i64.wrap (IntKind.i64.wrap (D * 257) + IntKind.i64.wrap z) + 1) = D * 257 + z + 1 := by
          rw [IntKind.wrap_i64, IntKind.wrap_i64, IntKind.wrap_i64, IntKind.wrap_i64]; omega
        rw [unhide hs', ew, Int.tmod_eq_emod_of_nonneg (by omega)]
      simp only [e, eD]
      refine ⟨⟨k + 1, _, _, _, _, _, _, _, _, _, _, _, _, _, _, _, _, _, _, _, by omega, hF, rfl⟩, ?_⟩
      · have hmu : M - (k + 1) < M - k := by omega
        simpa [MuD] using hmu
    · intro hj0
      have hke : k = M := by have := of_decide_eq_false hj0; omega
      co_go T WK.rely hF (co_still T)
      exact ⟨rfl, _, resultsC_tmp (by rfl) _, by subst hke; simp [dig, hM4], hF⟩
end Go.Proofs.Ytghglpcfpokmhaa.Wk

set_option linter.unusedVariables false
set_option linter.unusedSimpArgs false
namespace Go.Proofs.Ytghglpcfpokmhaa.Wk
open Go Go.Conc Go.ConcN Go.RowKit Go.Conc.Lib Go.ConcR.Gen Go.ConcN.Gen
open Go.ConcR (KK wgBlock WgAt stA smA rd wr mk Payload Aside2 DC0 ofEvent_cell)

def b78 : Frame := baseD 31
noncomputable def bot : Frame := { (default : Frame) with fn := Try.prog.funcs.size, defers := [], mode := .panicking [goexitEntry] }
noncomputable def body78 : Code := Try.f31.body.getD .skip
noncomputable def ops78 : Array Oper := match body78 with | .seq _ (.region _ ops _) => ops | _ => #[]
/-- The call that the j-th go statement holds: the group, &body, &sums, &i. -/
def call78 (N j : Nat) : Deferred := { target := .fn (.func 31) #[.pointer (some ⟨N + 2, 0, none⟩), .pointer (some ⟨N + 4 + 2 * j, 0, none⟩), .pointer (some ⟨N + 1, 0, none⟩), .pointer (some ⟨N + 3 + 2 * j, 0, none⟩)], args := #[] }
theorem loud78 : (Try.prog.funcs[b78.fn]?).any (·.norace) = false := by kernel_rfl

def sel (b : Bool) (v : Value) : Value := if b then v else undef
def nf (b : Bool) : Nat := if b then 0 else 1
section
variable (N n j : Nat) (W : World) (v : Value) (d : Int) (ds : List Deferred)
/-- what is held while some of the region's operations have come up -/
def JD (f : Nat) (ls : Array Bool) (a : Act) (w : World) : Prop :=
  ∃ l0 l1 l2 l3 l4 l5 : Bool, ls = #[l0, l1, l2, l3, l4, l5] ∧ f = nf l0 + nf l1 + nf l2 + nf l3 + nf l4 + nf l5 ∧ (l4 = true → l0 = true ∧ l1 = true) ∧ (l3 = true → l2 = true) ∧ (l5 = true → l3 = true ∧ l4 = true) ∧
    a = { tmps := #[.pointer (some ⟨N + 2, 0, none⟩), .pointer (some ⟨N + 4 + 2 * j, 0, none⟩), .pointer (some ⟨N + 1, 0, none⟩), .pointer (some ⟨N + 3 + 2 * j, 0, none⟩), sel l0 (.slice (some ⟨N, 0, none⟩) n n), sel l1 (.int .i64 j), sel l2 v, sel l3 (.int .i64 d), sel l4 (.pointer (some ⟨N, j, none⟩))], defers := ds } ∧
    WK N n j W v w ∧ (l5 = true → Has N j (.int .i64 d) w)
end

/-- The literal's own way out, once Done has left: it only leaves. -/
theorem quitsTail (T : Array Value) : QuitsD Try.prog 2 0 (G { b78.at ⟨T, []⟩ [] with mode := .returning } [bot]) := by
  refine QuitsD.ctl (g' := G bot []) rfl (fun w => ?_) ?_
  · simp [G, stepG, unwind, doReturn, results, Frame.at, b78, baseD, bot, Try.func31, Try.f31, seen, GStep.after, goexitEntry]
  refine QuitsD.ctl (g' := { G bot [] with status := .finished }) rfl (fun w => ?_) ⟨rfl, rfl⟩
  simp [G, stepG, unwind, bot, goexitEntry, Frame.catches]
  rfl
theorem born_step (N j : Nat) (w : World) : stepG Try.prog false (born Try.prog (call78 N j)) w =
    .go (G (b78.at ⟨#[.pointer (some ⟨N + 2, 0, none⟩), .pointer (some ⟨N + 4 + 2 * j, 0, none⟩), .pointer (some ⟨N + 1, 0, none⟩), .pointer (some ⟨N + 3 + 2 * j, 0, none⟩), undef, undef, undef, undef, undef], []⟩ [.code body78]) [bot]) w #[] := by
  simp [born, call78, stepG, unwind, callDeferred, invoke, callFunc, Try.func31, Try.f31, seen, GStep.after, G, Frame.enter, Frame.at, b78, baseD, bot, body78]

theorem ops78_eq : ops78 = (match Try.f31.body.getD .skip with | .seq _ (.region _ ops _) => ops | _ => #[]) := rfl
theorem ready78' : ∀ l0 l1 l2 l3 l4 l5 : Bool, ((Region.ready .any ops78 #[l0, l1, l2, l3, l4, l5]).all fun i => decide ((i = 0 ∧ l0 = false) ∨ (i = 1 ∧ l1 = false) ∨ (i = 2 ∧ l2 = false) ∨ (i = 3 ∧ l3 = false ∧ l2 = true) ∨ (i = 4 ∧ l4 = false ∧ l0 = true ∧ l1 = true) ∨ (i = 5 ∧ l5 = false ∧ l3 = true ∧ l4 = true))) = true := by
  rw [ops78_eq]
  simp only [Try.f31, Option.getD_some]
  decide +kernel
theorem ready78 (l0 l1 l2 l3 l4 l5 : Bool) (i : Nat) (h : i ∈ Region.ready .any ops78 #[l0, l1, l2, l3, l4, l5]) : (i = 0 ∧ l0 = false) ∨ (i = 1 ∧ l1 = false) ∨ (i = 2 ∧ l2 = false) ∨ (i = 3 ∧ l3 = false ∧ l2 = true) ∨ (i = 4 ∧ l4 = false ∧ l0 = true ∧ l1 = true) ∨ (i = 5 ∧ l5 = false ∧ l3 = true ∧ l4 = true) := by
  have := List.all_eq_true.1 (ready78' l0 l1 l2 l3 l4 l5) i h
  exact of_decide_eq_true this
theorem some78 : ∀ l0 l1 l2 l3 l4 l5 : Bool, (l0 && l1 && l2 && l3 && l4 && l5) = false → Region.ready .any ops78 #[l0, l1, l2, l3, l4, l5] ≠ [] := by
  rw [ops78_eq]
  simp only [Try.f31, Option.getD_some]
  decide +kernel
section
variable {N n j : Nat} {S : Nat → Prop} {O : Nat → Loc → Prop} {W : World} {p : Option Addr} {cap : Nat} {l : List Int} {ds : List Deferred}
abbrev DWj (N n j : Nat) (S : Nat → Prop) (O : Nat → Loc → Prop) := DWs (N + 2) O (Rd N S) N n (j + 1)
theorem WK.set {v : Value} {w : World} (h : WK N n j W v w) (u : Value) : WK N n j W v (w.setCell ⟨N, j, none⟩ u) := by
  have hA := aside_setCell w ⟨N, j, none⟩ u
  have hC := asideCell_set (j := j) h.pay u
  refine ⟨fun b hb => (hA.block b (by simp; omega)).trans (h.below b hb), (cell_of_block (hA.block _ (by simp)) 0).trans h.outv, (cell_of_block (hA.block _ (by simp; omega)) 0).trans h.ib, (cell_of_block (hA.block _ (by simp; omega)) 0).trans h.xb, ?_, hC.pay h.pay⟩
  obtain ⟨st, sm, hx⟩ := h.live
  exact ⟨st, sm, hx.of_block (hA.block _ (by simp))⟩

set_option maxRecDepth 100000 in
set_option maxHeartbeats 4000000 in
/-- THE REGION -/
theorem region78 (hf : Fm N S O) (hj : j < n) (hn : n ≤ 9223372036854775807) (hB : Bdy N S W p cap l) :
    ∃ m, ∀ w, WK N n j W (.slice p l.length cap) w → (Code.region 1 ops78 true).wpC Try.prog false (RWj N n j) (DWj N n j S O) 31 m (fun e a' w' => e = .normal ∧ (∃ T, a' = ⟨T, ds⟩) ∧ WgLive 70 (N + 2) w' ∧ Has N j (.int .i64 (dig l)) w')
      ⟨#[.pointer (some ⟨N + 2, 0, none⟩), .pointer (some ⟨N + 4 + 2 * j, 0, none⟩), .pointer (some ⟨N + 1, 0, none⟩), .pointer (some ⟨N + 3 + 2 * j, 0, none⟩), undef, undef, undef, undef, undef], ds⟩ w := by
  have T := tmW N n j O (Rd N S)
  obtain ⟨mD, hD⟩ := digC (n := n) (j := j) (O := O) (v := .slice p l.length cap) hB
  have e : ops78 = (match body78 with | .seq _ (.region _ ops _) => ops | _ => #[]) := rfl
  simp only [body78, Try.f31, Option.getD_some] at e
  refine ⟨_, fun w hF => Ct.wpC_drawn T (drW N n j O (Rd N S)) (by kernel_rfl) (JD N n j W (.slice p l.length cap) (dig l) ds) (mD + 4) (fun w₁ h₁ => ?_) ?_ ?_ ?_⟩
  · refine ⟨false, false, false, false, false, false, by rw [e]; rfl, by rw [e]; rfl, by simp, by simp, by simp, rfl, (hF.rely h₁).drew, by simp⟩
  · rintro f ls a w i rest m ⟨l0, l1, l2, l3, l4, l5, rfl, hff, h4, h3, h5, rfl, hF, hH⟩ hi hn
    have hjn : (j : Int) < (n : Int) := by omega
    have hj0 : (0 : Int) ≤ (j : Int) := by omega
    rcases ready78 l0 l1 l2 l3 l4 l5 i hi with ⟨rfl, rfl⟩ | ⟨rfl, rfl⟩ | ⟨rfl, rfl⟩ | ⟨rfl, rfl, rfl⟩ | ⟨rfl, rfl, rfl, rfl⟩ | ⟨rfl, rfl, rfl, rfl⟩
    · have hl4 : l4 = false := by cases l4 <;> simp_all
      have hl5 : l5 = false := by cases l5 <;> simp_all
      subst hl4 hl5
      refine opsC_more (n := m + 1) ?_ (by omega)
      rw [e] at hn ⊢
      refine opsC_cons_k rfl (by rfl) fun w₁ hR K hK => ?_
      replace hF := hF.rely hR
      have h1 := hF.outv
      go_simp
      refine hK _ _ ⟨⟨AsideCell.refl _ _ _ _, ?_⟩, ?_⟩
      · co_evs (exact evW_read _ _ (by simp))
      · refine hn _ _ ⟨true, l1, l2, l3, false, false, rfl, by simp [nf] at hff ⊢; omega, by simp, h3, by simp, rfl, hF, by simp⟩
    · have hl4 : l4 = false := by cases l4 <;> simp_all
      have hl5 : l5 = false := by cases l5 <;> simp_all
      subst hl4 hl5
      refine opsC_more (n := m + 1) ?_ (by omega)
      rw [e] at hn ⊢
      refine opsC_cons_k rfl (by rfl) fun w₁ hR K hK => ?_
      replace hF := hF.rely hR
      have h1 := hF.ib
      go_simp
      refine hK _ _ ⟨⟨AsideCell.refl _ _ _ _, ?_⟩, ?_⟩
      · co_evs (exact evW_read _ _ (by simp))
      · refine hn _ _ ⟨l0, true, l2, l3, false, false, rfl, by simp [nf] at hff ⊢; omega, by simp, h3, by simp, rfl, hF, by simp⟩
    · have hl3 : l3 = false := by cases l3 <;> simp_all
      have hl5 : l5 = false := by cases l5 <;> simp_all
      subst hl3 hl5
      refine opsC_more (n := m + 1) ?_ (by omega)
      rw [e] at hn ⊢
      refine opsC_cons_k rfl (by rfl) fun w₁ hR K hK => ?_
      replace hF := hF.rely hR
      have h1 := hF.xb
      go_simp
      refine hK _ _ ⟨⟨AsideCell.refl _ _ _ _, ?_⟩, ?_⟩
      · co_evs (exact evW_read _ _ (by simp))
      · refine hn _ _ ⟨l0, l1, true, false, l4, false, rfl, by simp [nf] at hff ⊢; omega, h4, by simp, by simp, rfl, hF, by simp⟩
    · have hl5 : l5 = false := by cases l5 <;> simp_all
      subst hl5
      rw [e] at hn ⊢
      refine opsC_more (n := m + mD + 3) (opsC_call (Post := fun r w' => r = .int .i64 (dig l) ∧ WK N n j W (.slice p l.length cap) w') T rfl (by rfl) rfl (by simpa [Act.eval, sel] using hD w hF) fun r w' ⟨hr, hF'⟩ => ?_) (by omega)
      subst hr
      refine hn _ _ ⟨l0, l1, true, true, l4, false, rfl, by simp [nf] at hff ⊢; omega, h4, by simp, by simp, rfl, hF', by simp⟩
    · have hl5 : l5 = false := by cases l5 <;> simp_all
      subst hl5
      refine opsC_more (n := m + 1) ?_ (by omega)
      rw [e] at hn ⊢
      refine opsC_cons_k rfl (by rfl) fun w₁ hR K hK => ?_
      replace hF := hF.rely hR
      simp only [sel, if_true] at hK ⊢
      go_simp
      refine hK _ _ ⟨⟨AsideCell.refl _ _ _ _, ?_⟩, ?_⟩
      · intro ev he
        have hm := mem_listed he
        simp [go_sem, hj] at hm
      · refine hn _ _ ⟨true, true, l2, l3, true, false, rfl, by simp [nf] at hff ⊢; omega, by simp, h3, by simp, ?_, hF, by simp⟩
        simp [sel, Act.put, Addr.add]
    · have hl : l0 = true ∧ l1 = true := h4 rfl
      have hl2 : l2 = true := h3 rfl
      obtain ⟨rfl, rfl⟩ := hl
      subst hl2
      refine opsC_more (n := m + 1) ?_ (by omega)
      rw [e] at hn ⊢
      refine opsC_cons_k rfl (by rfl) fun w₁ hR K hK => ?_
      replace hF := hF.rely hR
      obtain ⟨u, hu1, hu2⟩ := hF.cellAt hj
      simp only [sel, if_true] at hK ⊢
      go_simp
      refine hK _ _ ⟨⟨asideCell_set hF.pay _, ?_⟩, ?_⟩
      · intro ev he
        have hm := mem_listed he
        simp [go_sem, storedEv, hu1, hu2] at hm
        subst hm
        exact evW_own hf
      · refine hn _ _ ⟨true, true, true, true, true, true, rfl, by simp [nf] at hff ⊢; omega, by simp, by simp, by simp, ?_, hF.set _, fun _ => has_set hF.pay hj _⟩
        simp [sel, Act.put]
  · rintro f ls a w ⟨l0, l1, l2, l3, l4, l5, rfl, hff, h4, h3, h5, rfl, hF, hH⟩
    refine some78 l0 l1 l2 l3 l4 l5 ?_
    cases l0 <;> cases l1 <;> cases l2 <;> cases l3 <;> cases l4 <;> cases l5 <;> simp_all [nf]
  · rintro ls a w ⟨l0, l1, l2, l3, l4, l5, rfl, hf, _, _, _, rfl, hF, h5⟩
    have : l5 = true := by cases l5 <;> simp [nf] at hf ⊢
    exact ⟨rfl, ⟨_, rfl⟩, hF.live, h5 this⟩

set_option maxRecDepth 100000 in
set_option maxHeartbeats 4000000 in
/-- ████ THE WORKER's WHOLE SCRIPT. ████ -/
theorem works (hf : Fm N S O) (hj : j < n) (hn : n ≤ 9223372036854775807) (hB : Bdy N S W p cap l) {w : World} (hF : WK N n j W (.slice p l.length cap) w) :
    Works Try.prog 70 (N + 2) N n O (Rd N S) (Lw N (j + 1)) (j + 1) (.int .i64 (dig l)) (born Try.prog (call78 N j)) w := by
  obtain ⟨m, hm⟩ := region78 (ds := [{ target := .fn (.func 32) #[], args := #[.pointer (some ⟨N + 2, 0, none⟩)] }]) hf hj hn hB
  refine ⟨(23 + 2 + m) + 5, Goes.step rfl fun w₁ h₁ => ?_⟩
  replace hF := hF.rely h₁
  clear h₁
  rw [born_step]
  refine ⟨by u_nil, ?_⟩
  have eb : body78 = (match Try.f31.body.getD .skip with | .seq x (.region i _ _) => .seq x (.region i ops78 true) | _ => .skip) := rfl
  rw [eb]
  simp only [Try.f31, Option.getD_some]
  u_c stepG_seq WK.rely hF
  u_reg WK.rely hF
  u_defer WK.rely hF
  u_c stepG_region_end WK.rely hF
  refine wpC_goes (m := 23 + 2) (hm _ hF) rfl (by decide) ?_
  rintro e a' w' ⟨rfl, ⟨T, rfl⟩, h1, h2⟩
  have hK := And.intro h1 h2
  clear h1 h2
  show Goes _ _ _ _ _ _ _ _
  u_c stepG_end kn_rely hK
  u_in kn_rely hK
  rw [stepG_unwind_enter rfl Try.func32 (nm_done link) rfl]
  simp only [goes_go]
  refine ⟨by u_nil, ?_⟩
  walk_nrmf Try.f32
  have hA := @doneN _ link Try.prog wgLib O (Rd N S) (N + 2) N n (Lw N (j + 1)) (j + 1) (.int .i64 (dig l))
  simp only [body_done, doneFn, Option.getD_some] at hA
  exact hA rfl (quitsTail _) _ hK
end
end Go.Proofs.Ytghglpcfpokmhaa.Wk
