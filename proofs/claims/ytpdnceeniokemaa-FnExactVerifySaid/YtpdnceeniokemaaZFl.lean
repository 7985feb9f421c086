/-
  The starter ahead of its first worker: what its steps list.
  The starter ahead of its first worker: what is held of it at each step.
  digestsOf, beside leavers: from its entry to the head of the loop that starts the workers.
-/
import Derived.Test.YtpdnceeniokemaaZFf
import Derived.Test.YtpdnceeniokemaaZMm
set_option linter.unusedVariables false
set_option linter.unusedSimpArgs false
namespace Go.Proofs.Ytpdnceeniokemaa.Wk
open Go Go.Conc Go.ConcN Go.RowKit Go.Conc.Lib Go.ConcR.Gen Go.ConcN.Gen
open Go.ConcR (KK wgBlock WgAt stA smA rd wr mk Payload Aside2 DC0 ofEvent_cell)
def RF : Nat → Loc → Prop := fun _ _ => False
section
variable {N : Nat} {S : Nat → Prop} {W : World} {n : Nat} {zs : List El} {O : Nat → Loc → Prop} {cs : List Frame} {w w₁ : World}
theorem aside22 (h : Aside2 (N + 2) (N + 2) w w₁) : Aside2 N (N + 2) w w₁ := ⟨h.tape, h.os, h.output, h.size, fun k _ h2 => h.block k h2 h2⟩
theorem ci_rely2 {B s : Nat} {vi vx : Option Value} (h : CI N W n B s vi vx w ∧ WgLive 106 (N + 2) w) (r : RC 106 (N + 2) (N + 2) w w₁) : CI N W n B s vi vx w₁ ∧ WgLive 106 (N + 2) w₁ := ⟨h.1.aside2 (aside22 r.aside), r.live h.2⟩
theorem ev0_wrF (hS : ∀ b, S b → b < N) (f : Fm N S O) (a : Addr) (s : Bool) (h : N + 3 ≤ a.block) {j : Nat} : Ev0 (N + 2) O RF j ⟨.cell a, true, s⟩ := by
  refine ⟨fun fn pos => ⟨rfl, fun y hy => ?_⟩, by simp, by simp, by simp⟩
  simp only [ofEvent_cell, MemAct.touch?, Option.some.injEq] at hy
  subst hy
  exact .inr ⟨fun ⟨a', e, hb⟩ => by cases e; omega, fun k _ _ hk => f.not k a (by omega) (fun hx => by have := hS _ hx; omega) hk, fun _ k _ _ hk => hk⟩
theorem pay_not (h : WgLive 106 (N + 2) w) : ¬ PayAt (N + 2) n w := fun ⟨cs, e, _⟩ => by
  obtain ⟨st, sm, h⟩ := h
  unfold WgAt wgBlock at h
  rw [h] at e
  simp only [Option.some.injEq, Obj.cells.injEq] at e
  exact absurd e.2.1 (by decide)
abbrev GF (Stop : Goroutine → World → Prop) (m : Nat) (g : Goroutine) (w : World) : Prop := Goes Try.prog true (RC 106 (N + 2) (N + 2)) (DP (N + 2) O RF 1 (N + 3)) Stop m g w

set_option maxRecDepth 100000 in
set_option maxHeartbeats 8000000 in
theorem firstIter (hS : ∀ b, S b → b < N) (hf : Fm N S O) {a0 : Option Addr} {cap j : Nat} (hz : zs.length = n) (hn : n ≤ 9223372036854775807) (hB : BodiesAt N S W zs a0) (hjn : j < n) (g : Goroutine) (w : World) (hA0 : AnchS N n cs a0 cap j g) (hF : CI N W n (N + 3 + 2 * j) 0 none none w ∧ WgLive 106 (N + 2) w) :
    ∃ m, Goes Try.prog true (RC 106 (N + 2) (N + 2)) (DP (N + 2) O RF 1 (N + 3)) (AtKdS Try.prog 106 (N + 2) (N + 2) n O RF (fun _ => N + 3) (val zs) 1 fun _ _ => True) m g w := by
  have hjz : j < zs.length := by omega
  obtain ⟨el, hel⟩ : ∃ el, zs[j]? = some el := ⟨_, List.getElem?_eq_getElem hjz⟩
  obtain ⟨bb, bo, rfl, hbl, hbS, hbc⟩ := hB.el j el hel
  obtain ⟨ep, ec, ell⟩ := el
  simp only [El.v] at hbc
  refine ⟨21 + 1 + 12, ?_⟩
  obtain ⟨T, rfl, hT, t3, t4, t10, t11, t12⟩ := hA0
  obtain ⟨v0, v1, v2, v3, v4, v5, v6, v7, v8, v9, v10, v11, v12, v13, v14, v15, v16, v17, v18, v19, v20, v21, v22, rfl⟩ := array23 T hT
  simp only [List.getElem?_toArray, List.getElem?_cons_succ, List.getElem?_cons_zero, Option.some.injEq] at t3 t4 t10 t11 t12
  subst t3 t4 t10 t11 t12
  have hlt : (j : Int) < (n : Int) := by omega
  have hj0 : (0 : Int) ≤ (j : Int) := by omega
  obtain ⟨B, hB'⟩ : ∃ B, N + 3 + 2 * j = B := ⟨_, rfl⟩
  have hlo : N + 3 ≤ B := by omega
  rw [hB'] at hF
  have hA := fun (b₀ : Frame) (a₀ : Act) (ops₀ : Array Oper) (i₀ : Nat) (rest₀ : List Nat) (k₀ : List Item) (cs : List Frame) (mT : Nat) => addPosN (L := link) (P := Try.prog) (Wg := N + 2) (C := N + 2) (n := n) (Own := O) (Rd := RF) (Lw := fun _ => N + 3) (val := val zs) (j := 1) (Next := fun _ _ => True) (F := CI N W n B 2 (some (.int .i64 j)) (some (.slice ep ell.length ec))) (b₀ := b₀) (a₀ := a₀) (ops₀ := ops₀) (i₀ := i₀) (rest₀ := rest₀) (k₀ := k₀) (cs := cs) (mT := mT) wgLib (fun _ _ h1 h2 => h2.aside2 (aside22 h1))
  simp only [L66, R66, body66, body_add, Try.f66, addFn, Option.getD_some] at hA ⊢
  u_c stepG_seq ci_rely2 hF
  u_reg ci_rely2 hF
  u_op ci_rely2 hF
  u_c stepG_region_end ci_rely2 hF
  u_c stepG_seq ci_rely2 hF
  u_cond true ci_rely2 hF
  u_c stepG_skip ci_rely2 hF
  u_c stepG_seq ci_rely2 hF
  u_c stepG_block ci_rely2 hF
  u_c stepG_seq ci_rely2 hF
  u_reg ci_rely2 hF
  u_op ci_rely2 hF
  u_op ci_rely2 hF
  -- bodies[j] is read
  u_in ci_rely2 hF
  refine goes_oper_k rfl rfl (by decide) (fun K hK => ?_)
  have hex := (World.cell?_of_block (hF.1.below.block bb hbl)).trans hbc
  go_simp
  refine hK _ _ ⟨⟨fun _ _ => rfl, fun e he => ?_⟩, ?_⟩
  · have hm := mem_listed he
    simp [go_sem, *] at hm
    subst hm
    exact ev0_rd hf _ _ (by simp only; omega) (by simp only; omega) hbS
  clear hK K hex
  -- this iteration's i and body are made
  u_in ci_rely2 hF
  refine goes_oper_k rfl rfl (by decide) (fun K hK => ?_)
  have hsz := hF.1.size
  go_simp
  refine hK _ _ ⟨⟨fun b hb => low_alloc hsz _ b (by omega), fun e he => ?_⟩, ?_⟩
  · have hm := mem_listed he
    simp [go_sem, *] at hm
  clear hK K
  replace hF := And.intro (hF.1.alloc1 (.int .i64 0)) (live_low hF.2 (low_alloc hsz (.cells #[.int .i64 0] 3)) (by have := hF.1.lo; omega))
  clear hsz
  u_in ci_rely2 hF
  refine goes_oper_k rfl rfl (by decide) (fun K hK => ?_)
  have hsz := hF.1.size
  go_simp
  refine hK _ _ ⟨⟨fun b hb => low_alloc hsz _ b (by omega), fun e he => ?_⟩, ?_⟩
  · have hm := mem_listed he
    simp [go_sem, *] at hm
  clear hK K
  replace hF := And.intro (hF.1.alloc2 (.slice none 0 0)) (live_low hF.2 (low_alloc hsz (.cells #[.slice none 0 0] 22)) (by have := hF.1.lo; omega))
  clear hsz
  -- .. and written
  u_in ci_rely2 hF
  obtain ⟨hu1, hu2⟩ := cell_of_one (hF.1.ci _ rfl)
  rw [stepG_store3 rfl rfl (by decide) rfl rfl rfl hu1 hu2 loud66]
  simp only [goes_go]
  refine ⟨⟨fun b hb => low_set ⟨B, 0, none⟩ _ (Nat.le_refl B) b (by omega), fun e he => ?_⟩, ?_⟩
  · rw [Array.mem_singleton] at he
    subst he
    exact ev0_wrF hS hf _ _ hlo
  replace hF := And.intro (hF.1.store1 (.int .i64 j)) (live_low hF.2 (low_set ⟨B, 0, none⟩ (.int .i64 j) (Nat.le_refl B)) (by have := hF.1.lo; omega))
  clear hu1 hu2
  walk_nrm
  u_in ci_rely2 hF
  obtain ⟨hu1, hu2⟩ := cell_of_one (hF.1.cx _ rfl)
  rw [stepG_store22 rfl rfl (by decide) rfl rfl rfl hu1 hu2 loud66]
  simp only [goes_go]
  refine ⟨⟨fun b hb => low_set ⟨B + 1, 0, none⟩ _ (Nat.le_succ B) b (by omega), fun e he => ?_⟩, ?_⟩
  · rw [Array.mem_singleton] at he
    subst he
    exact ev0_wrF hS hf _ _ (by simp only; omega)
  replace hF := And.intro (hF.1.store2 (.slice ep ell.length ec)) (live_low hF.2 (low_set ⟨B + 1, 0, none⟩ (.slice ep ell.length ec) (Nat.le_succ B)) (by have := hF.1.lo; omega))
  clear hu1 hu2
  walk_nrm
  u_c stepG_region_end ci_rely2 hF
  u_c stepG_seq ci_rely2 hF
  u_reg ci_rely2 hF
  -- wg.Add(1), IN COMPANY
  u_in ci_rely2 hF
  refine goes_call rfl rfl (by decide) rfl Try.func77 (nm_add link) rfl ⟨by u_nil, ?_⟩
  walk_nrmf Try.f77
  refine hA _ _ _ _ _ _ _ 3 ?_ _ hF
  clear hA hF
  intro w' h1 h2
  have hF := And.intro h1 h2
  clear h1 h2
  walk_nrm
  u_c stepG_region_end ci_rely2 hF
  u_reg ci_rely2 hF
  u_op ci_rely2 hF
  -- THE go STATEMENT
  refine Goes.stop (fun w₂ r₂ => ?_)
  replace hF := ci_rely2 hF r₂
  clear r₂
  subst hB'
  have e4 : N + 3 + 2 * j + 1 = N + 4 + 2 * j := by omega
  simp only [e4]
  refine ⟨rfl, ?_⟩
  rw [stepG_spawn (d := call78 N j) (w' := w₂) (f := .func 78) (c := #[.pointer (some ⟨N + 2, 0, none⟩), .pointer (some ⟨N + 4 + 2 * j, 0, none⟩), .pointer (some ⟨N + 1, 0, none⟩), .pointer (some ⟨N + 3 + 2 * j, 0, none⟩)]) rfl rfl (by decide) (by simp [go_sem, call78, Deferred.ofValue]) rfl]
  generalize hL : listed _ _ _ _ _ = Lx
  have hLx : Lx = #[] := by
    rw [← hL]
    simp [listed, go_sem, seen, Deferred.ofValue]
    rfl
  subst hLx
  clear hL
  exact ⟨_, _, rfl, rfl, fun hpay => absurd hpay (pay_not hF.2), trivial⟩
end
end Go.Proofs.Ytpdnceeniokemaa.Wk

set_option linter.unusedVariables false
set_option linter.unusedSimpArgs false
namespace Go.Proofs.Ytpdnceeniokemaa.Wk
open Go Go.Conc Go.ConcN Go.RowKit Go.Conc.Lib Go.ConcR.Gen Go.ConcN.Gen
open Go.ConcR (KK wgBlock WgAt stA smA rd wr mk Payload Aside2 DC0 ofEvent_cell)
open Go.Proofs.Ytpdnceeniokemaa.Ct (SkOk EvsC EvG evG_rd evG_wr evG_disable evG_enable evG_acq)
theorem goes_inv {P : Program} {R : World → World → Prop} {D : World → World → Array Event → Prop} {Stop : Goroutine → World → Prop} {m : Nat} {g : Goroutine} {w : World} (hR : R w w) (h : Goes P true R D Stop m g w) :
    Stop g w ∨ ∃ g' w' es, stepG P true g w = .go g' w' es ∧ D w w' es ∧ ∃ m', Goes P true R D Stop m' g' w' := by
  cases m with
  | zero => exact .inl (h w hR)
  | succ m =>
    rcases h with h | ⟨_, h⟩
    · exact .inl (h w hR)
    · right
      have := h w hR
      revert this
      cases e : stepG P true g w <;> simp only [GStep.goes, false_imp_iff]
      exact fun ⟨h1, h2⟩ => ⟨_, _, _, rfl, h1, m, h2⟩
section
variable {N : Nat} {S : Nat → Prop} {W : World} {n : Nat} {zs : List El} {O : Nat → Loc → Prop} {cs : List Frame} {w w₁ : World}
theorem wg_low {st sm : Nat} {es : Array Event} {k : Nat} {Rw : Nat → Loc → Prop} (h : WgAt 106 (N + 2) w st sm) (d : DP (N + 2) O Rw k (N + 3) w w₁ es) : WgAt 106 (N + 2) w₁ st sm := h.of_block (d.1 _ (by omega))
theorem full_low {vals : List Value} {es : Array Event} {k : Nat} {Rw : Nat → Loc → Prop} (h : Full N vals w) (d : DP (N + 2) O Rw k (N + 3) w w₁ es) : Full N vals w₁ := (d.1 N (by omega)).trans h

section
variable (N n zs O)
abbrev gA := Goes Try.prog true (RC 106 (N + 2) (N + 2)) (DP (N + 2) O RF 1 (N + 3))
abbrev aKd := AtKdS Try.prog 106 (N + 2) (N + 2) n O RF (fun _ => N + 3) (val zs) 1 fun _ _ => True
abbrev aA1 := AtA1 Try.prog 106 (N + 2) (N + 2) n O RF (fun _ => N + 3) (val zs) 1 fun _ _ => True
abbrev aKe := AtKeS Try.prog 106 (N + 2) (N + 2) n O RF (fun _ => N + 3) (val zs) 1 fun _ _ => True
abbrev aGo := AtGoS Try.prog 106 (N + 2) (N + 2) n O RF (fun _ => N + 3) (val zs) 1 fun _ _ => True
/-- where there is a worker to come -/
def SkA (g : Goroutine) (w : World) : Prop :=
  ((∃ m, gA N O (aKd N n zs O) m g w) ∧ WgAt 106 (N + 2) w 0 0) ∨ ((∃ m, gA N O (aA1 N n zs O) m g w) ∧ WgAt 106 (N + 2) w 0 0) ∨ (∃ m, gA N O (aKe N n zs O) m g w) ∨ ∃ m, gA N O (aGo N n zs O) m g w
end
theorem wgAt_at {st sm : Nat} (h : WgAt 106 (N + 2) w st sm) (d : Nat) : WgAt 106 (N + 2) (w.at d) st sm := h
theorem skA : SkOk Try.prog (N + 2) O RF (SkA N n zs O) := by
  have tr : ∀ a b c : World, RC 106 (N + 2) (N + 2) a b → RC 106 (N + 2) (N + 2) b c → RC 106 (N + 2) (N + 2) a c := fun _ _ _ h1 h2 => h1.trans h2
  refine ⟨fun a w d h => ?_, fun a w h hr => ?_⟩
  · rcases h with ⟨⟨m, h⟩, hw⟩ | ⟨⟨m, h⟩, hw⟩ | ⟨m, h⟩ | ⟨m, h⟩
    · exact .inl ⟨⟨m, h.rely tr (RC.at w d)⟩, hw⟩
    · exact .inr (.inl ⟨⟨m, h.rely tr (RC.at w d)⟩, hw⟩)
    · exact .inr (.inr (.inl ⟨m, h.rely tr (RC.at w d)⟩))
    · exact .inr (.inr (.inr ⟨m, h.rely tr (RC.at w d)⟩))
  · rcases h with ⟨⟨m, h⟩, hw⟩ | ⟨⟨m, h⟩, hw⟩ | ⟨m, h⟩ | ⟨m, h⟩
    · rcases goes_inv (RC.refl w) h with ⟨_, g', e, m', h'⟩ | ⟨g', w', es, e, hd, h'⟩
      · exact .inl ⟨_, _, _, e, .inl (by simp [evG_disable]), .inr (.inl ⟨⟨m', h'⟩, hw⟩)⟩
      · exact .inl ⟨_, _, _, e, .inr hd.2, .inl ⟨h', wg_low hw hd⟩⟩
    · rcases goes_inv (RC.refl w) h with ⟨_, h1⟩ | ⟨g', w', es, e, hd, h'⟩
      · obtain ⟨g', e, m', h'⟩ := h1 0 (by omega) (by simpa using hw)
        exact .inl ⟨_, _, _, e, .inl (by simp [evG_rd, evG_wr]), .inr (.inr (.inl ⟨m', h'⟩))⟩
      · exact .inl ⟨_, _, _, e, .inr hd.2, .inr (.inl ⟨h', wg_low hw hd⟩)⟩
    · rcases goes_inv (RC.refl w) h with ⟨_, g', e, m', h'⟩ | ⟨g', w', es, e, hd, h'⟩
      · exact .inl ⟨_, _, _, e, .inl (by simp [evG_enable]), .inr (.inr (.inr ⟨m', h'⟩))⟩
      · exact .inl ⟨_, _, _, e, .inr hd.2, .inr (.inr (.inl h'))⟩
    · rcases goes_inv (RC.refl w) h with ⟨_, g', c, e, _⟩ | ⟨g', w', es, e, hd, h'⟩
      · exact .inr (.inl ⟨_, _, _, e⟩)
      · exact .inl ⟨_, _, _, e, .inr hd.2, .inr (.inr (.inr h'))⟩

section
variable (N W O)
abbrev gW := Goes Try.prog true (RC 106 (N + 2) N) (DP (N + 2) O RF 1 (N + 3))
abbrev tr1 : Value → World → Prop := fun _ _ => True
abbrev wKd := AtKd Try.prog 106 (N + 2) N 1 O RF (N + 3) (AnW N W 0 [])
abbrev wW1 := AtW1 Try.prog 106 (N + 2) N 1 O RF (N + 3) [] (AnW N W 0 []) tr1
abbrev wKe := AtKe Try.prog 106 (N + 2) N 1 O RF (N + 3) [] tr1
abbrev wAq := AtAcq Try.prog 106 (N + 2) N 1 O RF (N + 3) [] tr1
abbrev wRt := AtRet Try.prog (N + 2) N 1 O RF [] tr1
/-- where there is none -/
def SkW (g : Goroutine) (w : World) : Prop := (Full N [] w ∧ WgAt 106 (N + 2) w 0 0) ∧
  ((∃ m, gW N O (wKd N W O) m g w) ∨ (∃ m, gW N O (AnW N W 0 []) m g w) ∨ (∃ m, gW N O (wW1 N W O) m g w) ∨ (∃ m, gW N O (wKe N O) m g w) ∨ (∃ m, gW N O (wAq N O) m g w) ∨ ∃ m, gW N O (wRt N O) m g w)
end
theorem skW (hS : ∀ b, S b → b < N) (hf : Fm N S O) : SkOk Try.prog (N + 2) O RF (SkW N W O) := by
  have tr : ∀ a b c : World, RC 106 (N + 2) N a b → RC 106 (N + 2) N b c → RC 106 (N + 2) N a c := fun _ _ _ h1 h2 => h1.trans h2
  have kp : ∀ {w w' : World} {es : Array Event}, (Full N [] w ∧ WgAt 106 (N + 2) w 0 0) → DP (N + 2) O RF 1 (N + 3) w w' es → (Full N [] w' ∧ WgAt 106 (N + 2) w' 0 0) := fun h hd => ⟨full_low h.1 hd, wg_low h.2 hd⟩
  have one : ∀ a w, (Full N [] w ∧ WgAt 106 (N + 2) w 0 0) → (∃ m, gW N O (wW1 N W O) m a w) → (∃ a' w' es, stepG Try.prog true a w = .go a' w' es ∧ EvsC (N + 2) O RF 1 es ∧ SkW N W O a' w') := fun a w hk ⟨m, h⟩ => by
    rcases goes_inv (RC.refl w) h with ⟨_, h1⟩ | ⟨g', w', es, e, hd, h'⟩
    · obtain ⟨g', e, h2, _⟩ := h1 0 (by omega) (by simpa using hk.2)
      obtain ⟨m', h'⟩ := h2 rfl
      exact ⟨_, _, _, e, .inl (by simp [evG_rd]), hk, .inr (.inr (.inr (.inl ⟨m', h'⟩)))⟩
    · exact ⟨_, _, _, e, .inr hd.2, kp hk hd, .inr (.inr (.inl h'))⟩
  refine ⟨fun a w d ⟨hk, h⟩ => ⟨hk, ?_⟩, fun a w ⟨hk, h⟩ hr => ?_⟩
  · rcases h with ⟨m, h⟩ | ⟨m, h⟩ | ⟨m, h⟩ | ⟨m, h⟩ | ⟨m, h⟩ | ⟨m, h⟩
    · exact .inl ⟨m, h.rely tr (RC.at w d)⟩
    · exact .inr (.inl ⟨m, h.rely tr (RC.at w d)⟩)
    · exact .inr (.inr (.inl ⟨m, h.rely tr (RC.at w d)⟩))
    · exact .inr (.inr (.inr (.inl ⟨m, h.rely tr (RC.at w d)⟩)))
    · exact .inr (.inr (.inr (.inr (.inl ⟨m, h.rely tr (RC.at w d)⟩))))
    · exact .inr (.inr (.inr (.inr (.inr ⟨m, h.rely tr (RC.at w d)⟩))))
  · rcases h with ⟨m, h⟩ | ⟨m, h⟩ | h | ⟨m, h⟩ | ⟨m, h⟩ | ⟨m, h⟩
    · rcases goes_inv (RC.refl w) h with ⟨_, g', e, m', h'⟩ | ⟨g', w', es, e, hd, h'⟩
      · exact .inl ⟨_, _, _, e, .inl (by simp [evG_disable]), hk, .inr (.inl ⟨m', h'⟩)⟩
      · exact .inl ⟨_, _, _, e, .inr hd.2, kp hk hd, .inl h'⟩
    · rcases goes_inv (RC.refl w) h with h1 | ⟨g', w', es, e, hd, h'⟩
      · exact .inl (one a w hk (anW_round hS hf (ret0 fun _ _ _ => trivial) a w h1))
      · exact .inl ⟨_, _, _, e, .inr hd.2, kp hk hd, .inr (.inl h')⟩
    · exact .inl (one a w hk h)
    · rcases goes_inv (RC.refl w) h with ⟨_, g', e, m', h'⟩ | ⟨g', w', es, e, hd, h'⟩
      · exact .inl ⟨_, _, _, e, .inl (by simp [evG_enable]), hk, .inr (.inr (.inr (.inr (.inl ⟨m', h'⟩))))⟩
      · exact .inl ⟨_, _, _, e, .inr hd.2, kp hk hd, .inr (.inr (.inr (.inl h')))⟩
    · rcases goes_inv (RC.refl w) h with ⟨_, g', e, m', h'⟩ | ⟨g', w', es, e, hd, h'⟩
      · exact .inl ⟨_, _, _, e, .inl (by simp [evG_acq]), hk, .inr (.inr (.inr (.inr (.inr ⟨m', h'⟩))))⟩
      · exact .inl ⟨_, _, _, e, .inr hd.2, kp hk hd, .inr (.inr (.inr (.inr (.inl h'))))⟩
    · rcases goes_inv (RC.refl w) h with ⟨_, h1⟩ | ⟨g', w', es, e, hd, h'⟩
      · obtain ⟨v, es, e, he, _⟩ := h1 hk.1
        exact .inr (.inr ⟨_, _, _, e, .inr he⟩)
      · exact .inl ⟨_, _, _, e, .inr hd.2, kp hk hd, .inr (.inr (.inr (.inr (.inr h'))))⟩

set_option maxRecDepth 100000 in
set_option maxHeartbeats 8000000 in
theorem firstWait {a0 : Option Addr} {cap : Nat} (g : Goroutine) (w : World) (hA0 : AnchS N 0 cs a0 cap 0 g) (hF : CI N W 0 (N + 3 + 2 * 0) 0 none none w ∧ WgLive 106 (N + 2) w) : ∃ m, gW N O (AtKd Try.prog 106 (N + 2) N 1 O RF (N + 3) (AnW N W 0 cs)) m g w := by
  refine ⟨9 + 1 + 3, ?_⟩
  obtain ⟨T, rfl, hT, t3, t4, t10, t11, t12⟩ := hA0
  obtain ⟨v0, v1, v2, v3, v4, v5, v6, v7, v8, v9, v10, v11, v12, v13, v14, v15, v16, v17, v18, v19, v20, v21, v22, rfl⟩ := array23 T hT
  simp only [List.getElem?_toArray, List.getElem?_cons_succ, List.getElem?_cons_zero, Option.some.injEq] at t3 t4 t10 t11 t12
  subst t3 t4 t10 t11 t12
  have hA := fun (a₀ : Act) (ops₀ : Array Oper) (i₀ : Nat) (rest₀ : List Nat) (k₀ : List Item) => waitStartN (L := link) (P := Try.prog) (Wg := N + 2) (C := N) (n := 1) (Low := N + 3) (Own := O) (Rd := RF) (F := FE N W 0) (b₀ := base 66) (a₀ := a₀) (ops₀ := ops₀) (i₀ := i₀) (rest₀ := rest₀) (k₀ := k₀) (cs := cs) wgLib fe2
  simp only [L66, R66, body66, body_wait, Try.f66, waitFn, Option.getD_some] at hA ⊢
  have hnl : ¬ (((0 : Nat) : Int) < ((0 : Nat) : Int)) := by omega
  u_c stepG_seq ci_rely hF
  u_reg ci_rely hF
  u_op ci_rely hF
  u_c stepG_region_end ci_rely hF
  u_c stepG_seq ci_rely hF
  u_cond false ci_rely hF
  u_exit ci_rely hF
  u_c stepG_seq ci_rely hF
  u_reg ci_rely hF
  u_in ci_rely hF
  refine goes_call rfl rfl (by decide) rfl Try.func80 (nm_wait link) rfl ⟨by u_nil, ?_⟩
  walk_nrmf Try.f80
  refine goes_mono (fun _ _ y => AtKd.mono (fun _ _ z => ⟨_, ?_, ?_, z⟩) y) (hA _ _ _ _ _ _ hF)
  · simp
  · simp
end
end Go.Proofs.Ytpdnceeniokemaa.Wk

set_option linter.unusedVariables false
set_option linter.unusedSimpArgs false
namespace Go.Proofs.Ytpdnceeniokemaa.Br
open Go Go.Conc
section
variable {P : Program} {Z : Sig} {Q : Goroutine → World → Prop}
theorem bts_ctl [Br.Thr] {S : Nat → Prop} {g g' : Goroutine} {w : World} (hrun : g.status = .running) (hs : ∀ v, stepG P true g v = .go g' v #[]) (h : BTS P Q S 0 g' w) : BTS P Q S 0 g w :=
  BTS.step hrun fun W hh => ⟨g', w, W, #[], hs W, hh, by simp, h⟩
theorem bts_cons [Br.Thr] {S : Nat → Prop} (hB : Bodied P Z.F) {b : Frame} {a : Act} {k : List Item} {cs : List Frame} {w : World} {ops : Array Oper} {i : Nat} {rest : List Nat} {o : Oper} (ho : ops[i]? = some o) (hw : Region.wanted o (yielded ops a.tmps) = true) (hok : okOp Z P [] o = true) (hk : b.kind ≠ .early)
    (h : ∀ d, ∀ K : Act → World → Prop, (∀ a' w', (∀ b, Pz w b → Pz w' b) → BTS P Q S 0 (G (b.at a' (.inRegion ops rest :: k)) cs) w' → K a' w') → uponK o a K ((execOp a.eval o).run P (w.at d))) : BTS P Q S 0 (G (b.at a (.inRegion ops (i :: rest) :: k)) cs) w := by
  refine BTS.step rfl fun W hh => ?_
  have hex := op_execOp hB (K := []) (ρ := a.eval) (fun f => rfl) (fun t ht => by cases ht) hok
  have hz := run_evs P hex.2.1 (w.at W.drawn) #[] (by simp)
  have hl := (run_left (S := S) hex.2.1 (w.at W.drawn) #[] (fun b hb => (hh.pz hb).em) (by simp)).evs
  have hs := hex.2.2 S (w.at W.drawn) W #[] hh.toHid
  have hu := h W.drawn (fun a' w' => (∀ b, Pz w b → Pz w' b) ∧ BTS P Q S 0 (G (b.at a' (.inRegion ops rest :: k)) cs) w') fun a' w' h1 h2 => ⟨h1, h2⟩
  rw [← Sem.runT_fst P _ _ #[]] at hu
  cases hx : (execOp a.eval o).runT P (w.at W.drawn) #[] with
  | mk r es =>
    rw [hx] at hz hl hs hu
    have hev : ∀ e ∈ seen P b.fn es, EvN S e := fun e he => evN_of (hz e (mem_seen he)) (hl e (mem_seen he))
    have hst : ∀ e ∈ seen P b.fn es, EvZ e := fun e he => hz e (mem_seen he)
    have nl : ∀ w', (∀ b, Pz w b → Pz w' b) → ¬ Lost S w' := fun w' hp ⟨x, h1, _, h3⟩ => h3 (hp x (hh.pz h1))
    have real : ∀ (W' : World) (n : Next), (execOp a.eval o).runT P W #[] = (.ok n W', es) → (execOp a.eval o).run P W = .ok n W' ∧ listed P b.fn a o W = seen P b.fn es := fun W' n e => by
      have h1 := Sem.runT_fst P (execOp a.eval o) W #[]
      rw [e] at h1
      refine ⟨h1.symm, ?_⟩
      unfold listed
      rw [Sem.runT_eq] at e
      rw [(Prod.mk.inj e).2]
    cases r with
    | ok n w' =>
      cases n with
      | value v =>
        obtain ⟨hp, hb⟩ : (∀ b, Pz w b → Pz w' b) ∧ BTS P Q S 0 (G (b.at (a.put o.dst v) (.inRegion ops rest :: k)) cs) w' := hu
        rcases hs with h1 | ⟨W', e, hh'⟩
        · exact absurd h1 (nl w' hp)
        · obtain ⟨r1, r2⟩ := real W' _ e
          refine ⟨_, w', W', _, stepG_value ho hw hk r1, Hd.of hh' hh.thr, ?_, ?_⟩
          · rw [r2]; exact hev
          · rw [r2, still_of hst]; exact hb
      | skip =>
        obtain ⟨hp, hb⟩ : (∀ b, Pz w b → Pz w' b) ∧ BTS P Q S 0 (G (b.at (a.put o.dst undef) (.inRegion ops rest :: k)) cs) w' := hu
        rcases hs with h1 | ⟨W', e, hh'⟩
        · exact absurd h1 (nl w' hp)
        · obtain ⟨r1, r2⟩ := real W' _ e
          refine ⟨_, w', W', _, stepG_none ho hw hk r1, Hd.of hh' hh.thr, ?_, ?_⟩
          · rw [r2]; exact hev
          · rw [r2, still_of hst]; exact hb
      | _ => exact hu.elim
    | halt x w' => exact hu.elim
theorem bts_at [Br.Thr] {S : Nat → Prop} {g : Goroutine} {w : World} {d : Nat} (h : BTS P Q S 0 g w) : BTS P Q S 0 g (w.at d) := fun W gs sl t q hh => h W gs sl t q ⟨hh.toHid, hh.thr⟩
end
end Go.Proofs.Ytpdnceeniokemaa.Br
namespace Go.Proofs.Ytpdnceeniokemaa.Wk
open Go Go.Conc Go.ConcN Go.RowKit Go.Conc.Lib Go.ConcR.Gen Go.ConcN.Gen
open Go.ConcR (KK wgBlock WgAt stA smA rd wr mk Payload Aside2 DC0 ofEvent_cell)
open Go.Proofs.Ytpdnceeniokemaa.Br (BT BTS Hd Hid Pz Pst CallsB bts_ctl bts_cons bts_at)
theorem pz_alloc {w : World} (o : Obj) {b : Nat} (h : Pz w b) : Pz (w.alloc o) b := by
  obtain ⟨e, he⟩ := h
  exact ⟨e, (Below.heap_alloc _ _ _ (Array.getElem?_eq_some_iff.1 he).1).trans he⟩
theorem pz_set {w : World} {a : Addr} (v : Value) {b : Nat} (hb : a.block ≠ b) (h : Pz w b) : Pz (w.setCell a v) b := by
  obtain ⟨e, he⟩ := h
  exact ⟨e, ((aside_setCell w a v).block b (Ne.symm hb)).trans he⟩
theorem info2 : (Try.prog.info? 2).map (fun i => (i.zero, i.size, i.bytes)) = some (some (.int .i64 0), 1, 8) := by kernel_rfl
section
variable (W : World) (n : Nat)
/-- The world at the head of the loop: three new blocks. -/
def w3 : World := ((W.alloc (.cells (madeCells #[.int .i64 0] n) 2)).alloc (.cells #[.slice (some ⟨W.heap.size, 0, none⟩) n n] 53)).alloc (.cells #[.int .u64 0, .int .u32 0] 106)
end
section
variable {w : World} {a0 : Option Addr} {n cap : Nat} {Q : Goroutine → World → Prop} {cs : List Frame}
theorem enter66 : Frame.enter Try.prog 66 #[.slice a0 n cap] .normal = (base 66).at ⟨#[.slice a0 n cap, undef, undef, undef, undef, undef, undef, undef, undef, undef, undef, undef, undef, undef, undef, undef, undef, undef, undef, undef, undef, undef, undef], []⟩ [.code body66] := by
  simp [Frame.enter, Frame.at, Try.func66, base, body66, Try.f66]
set_option maxRecDepth 100000 in
set_option maxHeartbeats 4000000 in
theorem prologue [Br.Thr] {S : Nat → Prop} (hn : n ≤ 1073741824) (h : ∀ g, AnchS w.heap.size n cs a0 cap 0 g → BTS Try.prog Q S 0 g (w3 w n)) : BTS Try.prog Q S 0 (G (Frame.enter Try.prog 66 #[.slice a0 n cap] .normal) cs) w := by
  obtain ⟨i0, hi, hz0, hz1, hz2⟩ := info_parts info2
  have hmk := fun w => run_make (P := Try.prog) w 53 2 i0 (.int .i64 0) Try.underlying53 hi hz0 .i64 .i64 n n (by omega) (by omega) (by rw [hz2]; omega) (by omega)
  rw [enter66]
  simp only [body66, Try.f66, Option.getD_some]
  refine bts_ctl rfl (fun _ => stepG_seq) ?_
  refine bts_ctl rfl (fun _ => stepG_region) ?_
  simp only [List.size_toArray, List.length_cons, List.length_nil, Nat.reduceAdd, Nat.zero_add, List.range, List.range.loop]
  refine bts_cons zgOk.bodied rfl rfl (by decide) (by decide) (fun d K hK => ?_)
  go_simp
  refine hK _ _ (fun b hb => hb) (bts_at ?_)
  clear hK K
  refine bts_ctl rfl (fun _ => stepG_region_end) ?_
  refine bts_ctl rfl (fun _ => stepG_seq) ?_
  refine bts_ctl rfl (fun _ => stepG_region) ?_
  simp only [List.size_toArray, List.length_cons, List.length_nil, Nat.reduceAdd, Nat.zero_add, List.range, List.range.loop]
  refine bts_cons zgOk.bodied rfl rfl (by decide) (by decide) (fun d K hK => ?_)
  go_simp
  refine hK _ _ (fun b hb => hb) (bts_at ?_)
  clear hK K
  refine bts_cons zgOk.bodied rfl rfl (by decide) (by decide) (fun d K hK => ?_)
  go_simp
  refine hK _ _ (fun b hb => hb) (bts_at ?_)
  clear hK K
  refine bts_cons zgOk.bodied rfl rfl (by decide) (by decide) (fun d K hK => ?_)
  go_simp
  refine hK _ ((w.alloc (.cells (madeCells #[.int .i64 0] n) 2)).at d) (fun b hb => pz_alloc _ hb) (bts_at ?_)
  clear hK K hmk hi hz0 hz1 hz2
  have hsz : ∀ d, (w.at d).heap.size = w.heap.size := fun d => rfl
  simp only [hsz]
  clear hsz
  obtain ⟨wa, hwa⟩ : ∃ wa, w.alloc (.cells (madeCells #[.int .i64 0] n) 2) = wa := ⟨_, rfl⟩
  have sa : wa.heap.size = w.heap.size + 1 := by rw [← hwa]; simp
  rw [hwa]
  refine bts_cons zgOk.bodied rfl rfl (by decide) (by decide) (fun d K hK => ?_)
  go_simp
  refine hK _ ((wa.alloc (.cells #[.slice none 0 0] 53)).at d) (fun b hb => pz_alloc _ hb) (bts_at ?_)
  clear hK K
  have hsz : ∀ d, (wa.at d).heap.size = w.heap.size + 1 := fun d => sa
  simp only [hsz]
  clear hsz
  have hc : (wa.alloc (.cells #[.slice none 0 0] 53)).heap[w.heap.size + 1]? = some (.cells #[.slice none 0 0] 53) := by
    have := heap_alloc_new wa (.cells #[.slice none 0 0] 53)
    rwa [sa] at this
  have hset : (wa.alloc (.cells #[.slice none 0 0] 53)).setCell ⟨w.heap.size + 1, 0, none⟩ (.slice (some ⟨w.heap.size, 0, none⟩) n n) = wa.alloc (.cells #[.slice (some ⟨w.heap.size, 0, none⟩) n n] 53) := by
    rw [World.setCell_alloc_at _ _ _ _ _ sa.symm]
    rfl
  have hpz : ∀ b, Pz (wa.alloc (.cells #[.slice none 0 0] 53)) b → w.heap.size + 1 ≠ b := fun b ⟨e, he⟩ eq => by
    rw [← eq, hc] at he; cases he
  generalize wa.alloc (.cells #[.slice none 0 0] 53) = wb at *
  refine bts_cons zgOk.bodied rfl rfl (by decide) (by decide) (fun d K hK => ?_)
  have hu1 : (wb.at d).cell? ⟨w.heap.size + 1, 0, none⟩ = _ := (cell_of_one hc).1
  have hu2 : (wb.at d).frozen? ⟨w.heap.size + 1, 0, none⟩ = _ := (cell_of_one hc).2
  go_simp
  refine hK _ ((wb.setCell ⟨w.heap.size + 1, 0, none⟩ (.slice (some ⟨w.heap.size, 0, none⟩) n n)).at d) (fun b hb => pz_set _ (hpz b hb) hb) (bts_at ?_)
  clear hK K hu1 hu2 hpz hc
  rw [hset]
  clear hset wb
  obtain ⟨wc, hwc⟩ : ∃ wc, wa.alloc (.cells #[.slice (some ⟨w.heap.size, 0, none⟩) n n] 53) = wc := ⟨_, rfl⟩
  have sc : wc.heap.size = w.heap.size + 2 := by rw [← hwc]; simp [sa]
  rw [hwc]
  refine bts_ctl rfl (fun _ => stepG_region_end) ?_
  refine bts_ctl rfl (fun _ => stepG_seq) ?_
  refine bts_ctl rfl (fun _ => stepG_region) ?_
  simp only [List.size_toArray, List.length_cons, List.length_nil, Nat.reduceAdd, Nat.zero_add, List.range, List.range.loop]
  refine bts_cons zgOk.bodied rfl rfl (by decide) (by decide) (fun d K hK => ?_)
  go_simp
  refine hK _ _ (fun b hb => hb) (bts_at ?_)
  clear hK K
  refine bts_cons zgOk.bodied rfl rfl (by decide) (by decide) (fun d K hK => ?_)
  go_simp
  refine hK _ ((wc.alloc (.cells #[.int .u64 0, .int .u32 0] 106)).at d) (fun b hb => pz_alloc _ hb) (bts_at ?_)
  clear hK K
  have hsz : ∀ d, (wc.at d).heap.size = w.heap.size + 2 := fun d => sc
  simp only [hsz]
  clear hsz
  have hc : (wc.alloc (.cells #[.int .u64 0, .int .u32 0] 106)).heap[w.heap.size + 2]? = some (.cells #[.int .u64 0, .int .u32 0] 106) := by
    have := heap_alloc_new wc (.cells #[.int .u64 0, .int .u32 0] 106)
    rwa [sc] at this
  have hset : ((wc.alloc (.cells #[.int .u64 0, .int .u32 0] 106)).setCell ⟨w.heap.size + 2, 0, none⟩ (.int .u64 0)).setCell ⟨w.heap.size + 2, 1, none⟩ (.int .u32 0) = wc.alloc (.cells #[.int .u64 0, .int .u32 0] 106) := by
    rw [World.setCell_alloc_at _ _ _ _ _ sc.symm, World.setCell_alloc_at _ _ _ _ _ sc.symm]
    rfl
  have hpz : ∀ b, Pz (wc.alloc (.cells #[.int .u64 0, .int .u32 0] 106)) b → w.heap.size + 2 ≠ b := fun b ⟨e, he⟩ eq => by
    rw [← eq, hc] at he; cases he
  have hw3 := hide (show wc.alloc (.cells #[.int .u64 0, .int .u32 0] 106) = w3 w n by rw [← hwc, ← hwa]; rfl)
  clear hwc hwa sa sc
  generalize wc.alloc (.cells #[.int .u64 0, .int .u32 0] 106) = wd at *
  refine bts_cons zgOk.bodied rfl rfl (by decide) (by decide) (fun d K hK => ?_)
  have hu1 : (wd.at d).cell? ⟨w.heap.size + 2, 0, none⟩ = some (.int .u64 0) := by simp [World.cell?, World.at, hc]
  have hu2 : (wd.at d).frozen? ⟨w.heap.size + 2, 0, none⟩ = false := by simp [World.frozen?, World.at, hc]
  have hu3 : (wd.at d).cell? ⟨w.heap.size + 2, 1, none⟩ = some (.int .u32 0) := by simp [World.cell?, World.at, hc]
  have hu4 : (wd.at d).frozen? ⟨w.heap.size + 2, 1, none⟩ = false := by simp [World.frozen?, World.at, hc]
  have hb2 : ((wd.at d).setCell ⟨w.heap.size + 2, 0, none⟩ (.int .u64 0)).heap[w.heap.size + 2]? = some (.cells #[.int .u64 0, .int .u32 0] 106) := by
    rw [setCell_eq_setRow (wd.at d) (w.heap.size + 2) 0 #[.int .u64 0, .int .u32 0] 106 (0, 0) _ hc, setRow_heap (wd.at d) (w.heap.size + 2) _ _ 106 _ hc]
    rfl
  have hu5 : ((wd.at d).setCell ⟨w.heap.size + 2, 0, none⟩ (.int .u64 0)).cell? ⟨w.heap.size + 2, 1, none⟩ = some (.int .u32 0) := by simp [World.cell?, hb2]
  have hu6 : ((wd.at d).setCell ⟨w.heap.size + 2, 0, none⟩ (.int .u64 0)).frozen? ⟨w.heap.size + 2, 1, none⟩ = false := by simp [World.frozen?, hb2]
  go_simp
  have hfin : ((wd.at d).setCell ⟨w.heap.size + 2, 0, none⟩ (.int .u64 0)).setCell ⟨w.heap.size + 2, 1, none⟩ (.int .u32 0) = wd.at d := by
    show ((wd.setCell ⟨w.heap.size + 2, 0, none⟩ (.int .u64 0)).setCell ⟨w.heap.size + 2, 1, none⟩ (.int .u32 0)).at d = wd.at d
    rw [hset]
  rw [hfin]
  refine hK _ _ (fun b hb => hb) (bts_at ?_)
  clear hK K hu1 hu2 hu3 hu4 hu5 hu6 hb2 hfin hset hpz hc
  rw [unhide hw3]
  clear hw3 wd
  refine bts_ctl rfl (fun _ => stepG_region_end) ?_
  refine bts_ctl rfl (fun _ => stepG_seq) ?_
  refine bts_ctl rfl (fun _ => stepG_seq) ?_
  refine bts_ctl rfl (fun _ => stepG_region) ?_
  simp only [List.size_toArray, List.length_cons, List.length_nil, Nat.reduceAdd, Nat.zero_add, List.range, List.range.loop]
  refine bts_cons zgOk.bodied rfl rfl (by decide) (by decide) (fun d K hK => ?_)
  go_simp
  refine hK _ _ (fun b hb => hb) (bts_at ?_)
  clear hK K
  refine bts_cons zgOk.bodied rfl rfl (by decide) (by decide) (fun d K hK => ?_)
  go_simp
  refine hK _ _ (fun b hb => hb) (bts_at ?_)
  clear hK K
  refine bts_cons zgOk.bodied rfl rfl (by decide) (by decide) (fun d K hK => ?_)
  go_simp
  refine hK _ _ (fun b hb => hb) (bts_at ?_)
  clear hK K
  refine bts_ctl rfl (fun _ => stepG_region_end) ?_
  refine bts_ctl rfl (fun _ => stepG_block) ?_
  refine bts_ctl rfl (fun _ => stepG_loop) ?_
  exact h _ ⟨_, rfl, by simp, by simp, by simp, by simp, by simp, by simp⟩
end
end Go.Proofs.Ytpdnceeniokemaa.Wk
