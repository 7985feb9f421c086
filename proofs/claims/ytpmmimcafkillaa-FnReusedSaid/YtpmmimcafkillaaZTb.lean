/-
  The trace's law for a round: goroutine 0 and workers with blocks of their own that grow, a place that a lock guards, shared places, elder goroutines that say mute words alone, a prefix that goroutine 0 knows. It names no program; no conditions.
  The trace's law for a round, continued: a worker's release of the group; the join: all is known to goroutine 0 but what is shunned, all is handed over. It names no program; no conditions.
-/
import Derived.Conc.LockTrace
import Derived.Conc.Beside
set_option linter.unusedVariables false
set_option linter.unusedSimpArgs false
namespace Go.Proofs.Ytpmmimcafkillaa.Tr
open Go Go.Conc Go.ConcN
open Go.ConcR (stA smA)

/-- the round's places: old blocks lie below N; the ledger, the group, the map; what is shunned; elders 1 .. b; the prefix's length -/
structure Lay where
  N : Nat
  Lg : Nat
  Wg : Nat
  Mp : Nat
  S : Nat → Prop
  b : Nat
  n0 : Nat
  lgN : Lg < N
  wgN : Wg < N
  mpN : Mp < N
  lw : Lg ≠ Wg
  lm : Lg ≠ Mp
  wm : Wg ≠ Mp
  sN : ∀ x, S x → x < N ∧ x ≠ Lg ∧ x ≠ Wg ∧ x ≠ Mp
def Lay.lk (Y : Lay) : Addr := ⟨Y.Lg, 0, none⟩
def Lay.Sh (Y : Lay) (l : Loc) : Prop := ∃ a, l = .cell a ∧ (a.block = Y.Wg ∨ (a.block = Y.Lg ∧ a.off ≠ 2))
def Lay.Pr (Y : Lay) (l : Loc) : Prop := l = .obj Y.Mp ∨ ∃ a, l = .cell a ∧ a.block = Y.Mp
def Lay.Ro (Y : Lay) (l : Loc) : Prop := ∃ a, l = .cell a ∧ ((a.block < Y.N ∧ ¬ Y.S a.block ∧ a.block ≠ Y.Lg ∧ a.block ≠ Y.Wg ∧ a.block ≠ Y.Mp) ∨ (a.block = Y.Lg ∧ a.off = 2))
def In (F : Nat → Prop) (l : Loc) : Prop := ∃ a, l = .cell a ∧ F a.block
def Sn (S : Nat → Prop) (l : Loc) : Prop := ∃ a, l = .cell a ∧ S a.block
/-- goroutine 0, and the workers that are started -/
def Lay.Act (Y : Lay) (j g : Nat) : Prop := g = 0 ∨ (Y.b < g ∧ g ≤ Y.b + j)

section
variable {Y : Lay} {l : Loc}
theorem sh_ro (h : Y.Sh l) (k : Y.Ro l) : False := by
  obtain ⟨a, rfl, h⟩ := h
  obtain ⟨a', e, k⟩ := k
  cases e
  rcases h with h | ⟨h, h'⟩ <;> rcases k with ⟨_, _, k1, k2, _⟩ | ⟨k, k'⟩
  · exact k2 h
  · exact Y.lw (k.symm.trans h)
  · exact k1 h
  · exact h' k'
theorem sh_nw (h : Y.Sh l) (k : ∃ a, l = .cell a ∧ Y.N ≤ a.block) : False := by
  obtain ⟨a, rfl, h⟩ := h
  obtain ⟨a', e, k⟩ := k
  cases e
  have := Y.lgN
  have := Y.wgN
  rcases h with h | ⟨h, _⟩ <;> omega
theorem sh_pr (h : Y.Sh l) (k : Y.Pr l) : False := by
  obtain ⟨a, rfl, h⟩ := h
  rcases k with k | ⟨a', e, k⟩
  · cases k
  · cases e
    rcases h with h | ⟨h, _⟩
    · exact Y.wm (h.symm.trans k)
    · exact Y.lm (h.symm.trans k)
theorem ro_nw (h : Y.Ro l) (k : ∃ a, l = .cell a ∧ Y.N ≤ a.block) : False := by
  obtain ⟨a, rfl, h⟩ := h
  obtain ⟨a', e, k⟩ := k
  cases e
  have := Y.lgN
  rcases h with h | ⟨h, _⟩ <;> omega
theorem ro_pr (h : Y.Ro l) (k : Y.Pr l) : False := by
  obtain ⟨a, rfl, h⟩ := h
  rcases k with k | ⟨a', e, k⟩
  · cases k
  · cases e
    rcases h with ⟨_, _, _, _, h⟩ | ⟨h, _⟩
    · exact h k
    · exact Y.lm (h.symm.trans k)
theorem nw_pr (h : ∃ a, l = .cell a ∧ Y.N ≤ a.block) (k : Y.Pr l) : False := by
  obtain ⟨a, rfl, h⟩ := h
  rcases k with k | ⟨a', e, k⟩
  · cases k
  · cases e
    have := Y.mpN
    omega
theorem sn_sh (h : Sn Y.S l) (k : Y.Sh l) : False := by
  obtain ⟨a, rfl, h⟩ := h
  obtain ⟨a', e, k⟩ := k
  cases e
  obtain ⟨_, h1, h2, _⟩ := Y.sN _ h
  rcases k with k | ⟨k, _⟩
  · exact h2 k
  · exact h1 k
theorem sn_ro (h : Sn Y.S l) (k : Y.Ro l) : False := by
  obtain ⟨a, rfl, h⟩ := h
  obtain ⟨a', e, k⟩ := k
  cases e
  obtain ⟨_, h1, _, _⟩ := Y.sN _ h
  rcases k with k | ⟨k, _⟩
  · exact k.2.1 h
  · exact h1 k
theorem sn_nw (h : Sn Y.S l) (k : ∃ a, l = .cell a ∧ Y.N ≤ a.block) : False := by
  obtain ⟨a, rfl, h⟩ := h
  obtain ⟨a', e, k⟩ := k
  cases e
  obtain ⟨h1, _⟩ := Y.sN _ h
  omega
theorem sn_pr (h : Sn Y.S l) (k : Y.Pr l) : False := by
  obtain ⟨a, rfl, h⟩ := h
  obtain ⟨_, _, _, h1⟩ := Y.sN _ h
  rcases k with k | ⟨a', e, k⟩
  · cases k
  · cases e
    exact h1 k
end

/-- what an active goroutine may list: F its own blocks, o who owns what is guarded -/
def OkT (Y : Lay) (F : Nat → Prop) (g : Nat) (o : Option Nat) (op : MemOp) : Prop :=
  op.g = g ∧ (op.act ≠ .mark (.release Y.lk) ∧ op.act ≠ .mark (.release (stA Y.Wg))) ∧
    ∀ x, op.act.touch? = some x → (Y.Sh x.loc ∧ x.kind ≠ .plain ∧ (x.kind = .said → g = 0)) ∨ In F x.loc ∨ (Y.Ro x.loc ∧ x.write = false) ∨ (Y.Pr x.loc ∧ o = some g)

def TokT (Y : Lay) (j : Nat) (t : Trace) : Option Nat → Prop
  | none => ∀ i x, touchAt t i = some x → Y.Pr x.loc → (∀ g, Y.Act j g → Knows t g i) ∨ ∃ p, t.act? p = some (.mark (.releaseMerge Y.lk)) ∧ Y.n0 ≤ p ∧ t.heard p ∧ Before t i p
  | some g => Y.Act j g ∧ ∀ i x, touchAt t i = some x → Y.Pr x.loc → Knows t g i

structure TR (Y : Lay) (F : Nat → Nat → Prop) (o : Option Nat) (j sz : Nat) (t : Trace) : Prop where
  len : Y.n0 ≤ t.size
  nsz : Y.N ≤ sz
  fF : ∀ g f, F g f → Y.N ≤ f ∧ f < sz
  fd : ∀ g g' f, F g f → F g' f → g = g'
  k0 : ∀ i x, i < Y.n0 → touchAt t i = some x → x.loc.isMemory = true → (∀ g, Y.Act j g → Knows t g i) ∨ (Sn Y.S x.loc ∧ x.kind = .atomic)
  wl : ∀ i x, Y.n0 ≤ i → touchAt t i = some x → (Y.Sh x.loc ∧ x.kind ≠ .plain ∧ (x.kind = .said → t.g? i = some 0)) ∨ (Y.Ro x.loc ∧ x.write = false) ∨ (∃ a, x.loc = .cell a ∧ Y.N ≤ a.block ∧ a.block < sz) ∨ Y.Pr x.loc
  own : ∀ g, Y.Act j g → ∀ i x, touchAt t i = some x → In (F g) x.loc → Knows t g i
  tok : TokT Y j t o
  norel : ∀ i, Y.n0 ≤ i → t.act? i ≠ some (.mark (.release Y.lk)) ∧ t.act? i ≠ some (.mark (.release (stA Y.Wg)))
  nr : ∀ said, ¬ Race said t
  gs : ∀ i g, Y.n0 ≤ i → t.g? i = some g → g ≤ Y.b + j
  gm : ∀ i g, Y.n0 ≤ i → t.g? i = some g → 1 ≤ g → g ≤ Y.b → touchAt t i = none
  over : ∀ i g, i < Y.n0 → t.g? i = some g → g ≠ 0 → t.counts i → ∃ k, t.g? k = some 0 ∧ HappensBefore t i k

section
variable {Y : Lay} {F F' : Nat → Nat → Prop} {o : Option Nat} {j sz g : Nat} {t u : Trace}
theorem touch_app {i : Nat} {x : Touch} (h : touchAt (t ++ u) i = some x) : (i < t.size ∧ touchAt t i = some x) ∨ (t.size ≤ i ∧ ∃ op ∈ u, (t ++ u)[i]? = some op ∧ op.act.touch? = some x) := by
  obtain ⟨z, hz, hzx⟩ := touch_of h
  rcases getElem?_append_cases hz with ⟨hi, hz'⟩ | ⟨hi, hzu⟩
  · exact .inl ⟨hi, by rw [touchAt_of hz']; exact hzx⟩
  · exact .inr ⟨hi, z, hzu, hz, hzx⟩
theorem g_app {i g : Nat} (h : (t ++ u).g? i = some g) : (i < t.size ∧ t.g? i = some g) ∨ (t.size ≤ i ∧ ∃ op ∈ u, (t ++ u)[i]? = some op ∧ op.g = g) := by
  obtain ⟨z, hz, hzx⟩ := Option.map_eq_some_iff.1 h
  rcases getElem?_append_cases hz with ⟨hi, hz'⟩ | ⟨hi, hzu⟩
  · exact .inl ⟨hi, by simp [Trace.g?, hz', hzx]⟩
  · exact .inr ⟨hi, z, hzu, hz, hzx⟩
theorem act_app {i : Nat} {x : MemAct} (h : (t ++ u).act? i = some x) : (i < t.size ∧ t.act? i = some x) ∨ (t.size ≤ i ∧ ∃ op ∈ u, op.act = x) := by
  obtain ⟨z, hz, hzx⟩ := Option.map_eq_some_iff.1 h
  rcases getElem?_append_cases hz with ⟨hi, hz'⟩ | ⟨hi, hzu⟩
  · exact .inl ⟨hi, by rw [act?_of hz', hzx]⟩
  · exact .inr ⟨hi, z, hzu, hzx⟩
theorem lt_g? {i g : Nat} (h : t.g? i = some g) : i < t.size := by
  obtain ⟨z, hz, _⟩ := Option.map_eq_some_iff.1 h
  exact lt_size_of_getElem? hz
theorem lt_touch {i : Nat} {x : Touch} (h : touchAt t i = some x) : i < t.size := by
  obtain ⟨z, hz, _⟩ := touch_of h
  exact lt_size_of_getElem? hz

/-- what conflicts is known -/
theorem TR.conf (h : TR Y F o j sz t) (ha : Y.Act j g) {op : MemOp} (ho : OkT Y (F g) g o op) {y : Touch} (hy : op.act.touch? = some y) {i : Nat} {x : Touch} {said : Bool} (hx : touchAt t i = some x) (hc : x.conflicts said y) : Knows t g i := by
  obtain ⟨hl, hm, hw, hk⟩ := hc
  have hcl := ho.2.2 y hy
  have fn : In (F g) y.loc → ∃ a, y.loc = .cell a ∧ Y.N ≤ a.block := fun ⟨a, e, hf⟩ => ⟨a, e, (h.fF g _ hf).1⟩
  rcases Nat.lt_or_ge i Y.n0 with hi | hi
  · rcases h.k0 i x hi hx hm with hk' | ⟨hs, hat⟩
    · exact hk' g ha
    · exfalso
      rw [hl] at hs
      rcases hcl with ⟨h1, h2, h3⟩ | h1 | ⟨h1, _⟩ | ⟨h1, _⟩
      · exact sn_sh hs h1
      · exact sn_nw hs (fn h1)
      · exact sn_ro hs h1
      · exact sn_pr hs h1
  · have hxc := h.wl i x hi hx
    rw [hl] at hxc
    have nx : (∃ a, y.loc = .cell a ∧ Y.N ≤ a.block ∧ a.block < sz) → ∃ a, y.loc = .cell a ∧ Y.N ≤ a.block := fun ⟨a, e, h1, _⟩ => ⟨a, e, h1⟩
    rcases hcl with ⟨h1, h2, h3⟩ | h1 | ⟨h1, h2⟩ | ⟨h1, h2⟩
    · rcases hxc with ⟨k1, k2, k3⟩ | ⟨k1, _⟩ | k1 | k1
      · rcases hk with e | e | ⟨_, e1, e2⟩
        · exact absurd e k2
        · exact absurd e h2
        · obtain ⟨z, hz, hzg⟩ := Option.map_eq_some_iff.1 (k3 e1)
          have := knows_own hz
          rw [hzg] at this
          rw [h3 e2]
          exact this
      · exact (sh_ro h1 k1).elim
      · exact (sh_nw h1 (nx k1)).elim
      · exact (sh_pr h1 k1).elim
    · exact h.own g ha i x hx (by rw [hl]; exact h1)
    · rcases hxc with ⟨k1, _⟩ | ⟨_, k2⟩ | k1 | k1
      · exact (sh_ro k1 h1).elim
      · rw [h2, k2] at hw
        simp at hw
      · exact (ro_nw h1 (nx k1)).elim
      · exact (ro_pr h1 k1).elim
    · have ht := h.tok
      rw [h2] at ht
      exact ht.2 i x hx (by rw [hl]; exact h1)
theorem act_not_elder {Y : Lay} {j g : Nat} (ha : Y.Act j g) (h1 : 1 ≤ g) (h2 : g ≤ Y.b) : False := by
  rcases ha with h | ⟨h, _⟩ <;> omega
theorem counts_app {i : Nat} (hi : i < t.size) : (t ++ u).counts i ↔ t.counts i := by simp only [Trace.counts, act?_old hi, heard_old hi]

/-- ████ OPERATIONS OF ONE WHO IS ACTIVE. ████ -/
theorem TR.app (h : TR Y F o j sz t) (ha : Y.Act j g) (hu : ∀ op ∈ u, OkT Y (F g) g o op) : TR Y F o j sz (t ++ u) := by
  have hle : g ≤ Y.b + j := by rcases ha with h | ⟨_, h⟩ <;> omega
  have mine : ∀ {i : Nat} {op : MemOp}, op ∈ u → (t ++ u)[i]? = some op → Knows (t ++ u) g i := fun ho hi => by
    have := knows_own hi
    rwa [(hu _ ho).1] at this
  refine ⟨by have := h.len; simp; omega, h.nsz, h.fF, h.fd, fun i x hi hx hm => ?_, fun i x hi hx => ?_, fun g' hg' i x hx hin => ?_, ?_, fun i hi => ?_, fun said => ?_, fun i g' hi hg => ?_, fun i g' hi hg h1 h2 => ?_, fun i g' hi hg hne hc => ?_⟩
  · rcases touch_app hx with ⟨_, hx'⟩ | ⟨hge, _⟩
    · exact (h.k0 i x hi hx' hm).imp (fun k g hg => (k g hg).app u) id
    · have := h.len; omega
  · rcases touch_app hx with ⟨hlt, hx'⟩ | ⟨hge, op, hop, hi', hox⟩
    · rcases h.wl i x hi hx' with ⟨k1, k2, k3⟩ | k
      · exact .inl ⟨k1, k2, fun e => by rw [g?_old hlt]; exact k3 e⟩
      · exact .inr k
    · rcases (hu op hop).2.2 x hox with ⟨k1, k2, k3⟩ | ⟨a, e, k⟩ | k | ⟨k, _⟩
      · exact .inl ⟨k1, k2, fun e => by simp [Trace.g?, hi', (hu op hop).1, k3 e]⟩
      · exact .inr (.inr (.inl ⟨a, e, h.fF g _ k⟩))
      · exact .inr (.inl k)
      · exact .inr (.inr (.inr k))
  · rcases touch_app hx with ⟨_, hx'⟩ | ⟨hge, op, hop, hi', hox⟩
    · exact (h.own g' hg' i x hx' hin).app u
    · have hn : ∃ a, x.loc = .cell a ∧ Y.N ≤ a.block := let ⟨a, e, k⟩ := hin; ⟨a, e, (h.fF g' _ k).1⟩
      rcases (hu op hop).2.2 x hox with ⟨k1, _⟩ | ⟨a, e, k⟩ | ⟨k, _⟩ | ⟨k, _⟩
      · exact (sh_nw k1 hn).elim
      · obtain ⟨a', e', k'⟩ := hin
        rw [e] at e'
        cases e'
        rw [h.fd g' g _ k' k]
        exact mine hop hi'
      · exact (ro_nw k hn).elim
      · exact (nw_pr hn k).elim
  · have ht := h.tok
    cases o with
    | none =>
      intro i x hx hp
      rcases touch_app hx with ⟨_, hx'⟩ | ⟨hge, op, hop, hi', hox⟩
      · rcases ht i x hx' hp with k | ⟨p, k1, k2, k3, k4⟩
        · exact .inl fun g hg => (k g hg).app u
        · have hpl := lt_of_act? k1
          exact .inr ⟨p, by rw [act?_old hpl]; exact k1, k2, (heard_old hpl).2 k3, k4.app u⟩
      · exfalso
        rcases (hu op hop).2.2 x hox with ⟨k1, _⟩ | ⟨a, e, k⟩ | ⟨k, _⟩ | ⟨_, k⟩
        · exact sh_pr k1 hp
        · exact nw_pr ⟨a, e, (h.fF g _ k).1⟩ hp
        · exact ro_pr k hp
        · cases k
    | some g' =>
      refine ⟨ht.1, fun i x hx hp => ?_⟩
      rcases touch_app hx with ⟨_, hx'⟩ | ⟨hge, op, hop, hi', hox⟩
      · exact (ht.2 i x hx' hp).app u
      · rcases (hu op hop).2.2 x hox with ⟨k1, _⟩ | ⟨a, e, k⟩ | ⟨k, _⟩ | ⟨_, k⟩
        · exact (sh_pr k1 hp).elim
        · exact (nw_pr ⟨a, e, (h.fF g _ k).1⟩ hp).elim
        · exact (ro_pr k hp).elim
        · cases k
          exact mine hop hi'
  · refine ⟨fun e => ?_, fun e => ?_⟩
    · rcases act_app e with ⟨_, e'⟩ | ⟨_, op, hop, e'⟩
      · exact (h.norel i hi).1 e'
      · exact (hu op hop).2.1.1 e'
    · rcases act_app e with ⟨_, e'⟩ | ⟨_, op, hop, e'⟩
      · exact (h.norel i hi).2 e'
      · exact (hu op hop).2.1.2 e'
  · exact noRace_append (h.nr said) (fun op hop => (hu op hop).1) fun i a hi op hop b hb hc => h.conf ha (hu op hop) hb hi hc
  · rcases g_app hg with ⟨_, hg'⟩ | ⟨_, op, hop, _, e⟩
    · exact h.gs i g' hi hg'
    · rw [← e, (hu op hop).1]; exact hle
  · rcases g_app hg with ⟨hlt, hg'⟩ | ⟨_, op, hop, _, e⟩
    · rw [touchAt_old hlt]; exact h.gm i g' hi hg' h1 h2
    · rw [← e, (hu op hop).1] at h1 h2
      exact (act_not_elder ha h1 h2).elim
  · have hlt : i < t.size := Nat.lt_of_lt_of_le hi h.len
    obtain ⟨k, hk, hb⟩ := h.over i g' hi (by rw [← g?_old (u := u) hlt]; exact hg) hne ((counts_app hlt).1 hc)
    exact ⟨k, by rw [g?_old (lt_g? hk)]; exact hk, hb_app u hb⟩

/-- one word that touches nothing and is no plain release -/
theorem okT_word {F : Nat → Prop} {o : Option Nat} {z : MemOp} (hn : z.act.touch? = none) (h1 : z.act ≠ .mark (.release Y.lk)) (h2 : z.act ≠ .mark (.release (stA Y.Wg))) : OkT Y F z.g o z :=
  ⟨rfl, ⟨h1, h2⟩, fun x hx => by rw [hn] at hx; cases hx⟩
theorem TR.word (h : TR Y F o j sz t) {z : MemOp} (ha : Y.Act j z.g) (hn : z.act.touch? = none) (h1 : z.act ≠ .mark (.release Y.lk)) (h2 : z.act ≠ .mark (.release (stA Y.Wg))) : TR Y F o j sz (t ++ #[z]) :=
  h.app ha fun op hop => by simp at hop; subst hop; exact okT_word hn h1 h2
theorem old_touch1 {z : MemOp} (hn : z.act.touch? = none) {i : Nat} {x : Touch} (hx : touchAt (t ++ #[z]) i = some x) : touchAt t i = some x := by
  rcases touch_app hx with ⟨_, hx'⟩ | ⟨_, op, hop, _, hox⟩
  · exact hx'
  · simp at hop; subst hop; rw [hn] at hox; cases hox

/-- ████ WHOEVER ACQUIRES, HEARING, WHILE NOBODY OWNS, OWNS. ████ -/
theorem TR.acquire (h : TR Y F none j sz t) {z : MemOp} (ha : Y.Act j z.g) (hz : z.act = .mark (.acquire Y.lk)) (hd : Deaf t z.g = 0) : TR Y F (some z.g) j sz (t ++ #[z]) := by
  have hn : z.act.touch? = none := by rw [hz]; rfl
  have hb := h.word ha hn (by rw [hz]; simp) (by rw [hz]; simp)
  have hq : (t ++ #[z])[t.size]? = some z := by simp
  refine ⟨hb.len, hb.nsz, hb.fF, hb.fd, hb.k0, hb.wl, hb.own, ⟨ha, fun i x hx hp => ?_⟩, hb.norel, hb.nr, hb.gs, hb.gm, hb.over⟩
  rcases h.tok i x (old_touch1 hn hx) hp with k | ⟨p, k1, k2, k3, k4⟩
  · exact (k _ ha).app _
  · have hpl := lt_of_act? k1
    have edge : HappensBefore (t ++ #[z]) p t.size := .single (.inr ⟨.marked hpl (.inr (by rw [act?_old hpl]; exact k1)) (by rw [act?_of hq, hz]) (fun k hk _ => (hb.norel k (by omega)).1), (heard_old hpl).2 k3,
      ⟨z.g, by simp [Trace.g?], by rw [deaf_old (Nat.le_refl _)]; exact hd⟩⟩)
    exact ⟨t.size, z, hq, rfl, .inr ((k4.app #[z]).hb edge)⟩
/-- ████ THE OWNER RELEASES, HEARING: NOBODY OWNS. ████ -/
theorem TR.release (h : TR Y F (some g) j sz t) {y : MemOp} (hg : y.g = g) (hy : y.act = .mark (.releaseMerge Y.lk)) (hd : Deaf t g = 0) : TR Y F none j sz (t ++ #[y]) := by
  have hn : y.act.touch? = none := by rw [hy]; rfl
  have hb := h.word (z := y) (by rw [hg]; exact h.tok.1) hn (by rw [hy]; simp) (by rw [hy]; simp)
  have hq : (t ++ #[y])[t.size]? = some y := by simp
  refine ⟨hb.len, hb.nsz, hb.fF, hb.fd, hb.k0, hb.wl, hb.own, fun i x hx hp => .inr ⟨t.size, by rw [act?_of hq, hy], h.len, ⟨g, by simp [Trace.g?, hg], by rw [deaf_old (Nat.le_refl _)]; exact hd⟩, .inr ?_⟩, hb.norel, hb.nr, hb.gs, hb.gm, hb.over⟩
  exact (h.tok.2 i x (old_touch1 hn hx) hp).hb_new (Nat.le_refl _) hq hg

/-- THE go STATEMENT. -/
theorem TR.fork (h : TR Y F o j sz t) {x y : MemOp} (hx : x.g = 0 ∧ x.act = .go (Y.b + j + 1)) (hy : y.g = Y.b + j + 1 ∧ y.act = .start) (h0 : Deaf t 0 = 0) (hk : Deaf t (Y.b + j + 1) = 0)
    (hF : ∀ g f, F' g f → (F g f ∧ g ≠ Y.b + j + 1) ∨ (g = Y.b + j + 1 ∧ F 0 f)) (hd : ∀ g g' f, F' g f → F' g' f → g = g') : TR Y F' o (j + 1) sz (t ++ #[x, y]) := by
  have hm : ∀ op ∈ #[x, y], op = x ∨ op = y := by intro op hop; simpa using hop
  have hnt : ∀ op ∈ #[x, y], op.act.touch? = none := by
    intro op hop
    rcases hm op hop with rfl | rfl
    · rw [hx.2]; rfl
    · rw [hy.2]; rfl
  have old : ∀ {i : Nat} {b : Touch}, touchAt (t ++ #[x, y]) i = some b → touchAt t i = some b := by
    intro i b hb
    rcases touch_app hb with ⟨_, hb'⟩ | ⟨_, op, hop, _, hox⟩
    · exact hb'
    · rw [hnt op hop] at hox; cases hox
  have act : ∀ g, Y.Act (j + 1) g → Y.Act j g ∨ g = Y.b + j + 1 := fun g hg => by
    rcases hg with h | ⟨h1, h2⟩
    · exact .inl (.inl h)
    · by_cases e : g = Y.b + j + 1
      · exact .inr e
      · exact .inl (.inr ⟨h1, by omega⟩)
  have all : ∀ {i : Nat}, (∀ g, Y.Act j g → Knows t g i) → ∀ g, Y.Act (j + 1) g → Knows (t ++ #[x, y]) g i := fun hk' g hg => by
    rcases act g hg with h | rfl
    · exact (hk' g h).app _
    · exact fork_knows hx hy h0 hk (hk' 0 (.inl rfl))
  refine ⟨by have := h.len; simp; omega, h.nsz, fun g f hf => ?_, hd, fun i z hi hz hmem => ?_, fun i z hi hz => ?_, fun g hg i z hz hin => ?_, ?_, fun i hi => ?_, fun said => ?_, fun i g hi hg => ?_, fun i g hi hg h1 h2 => ?_, fun i g hi hg hne hc => ?_⟩
  · rcases hF g f hf with ⟨k, _⟩ | ⟨_, k⟩
    · exact h.fF g f k
    · exact h.fF 0 f k
  · exact (h.k0 i z hi (old hz) hmem).imp all id
  · have hlt := lt_touch (old hz)
    rcases h.wl i z hi (old hz) with ⟨k1, k2, k3⟩ | k
    · exact .inl ⟨k1, k2, fun e => by rw [g?_old hlt]; exact k3 e⟩
    · exact .inr k
  · obtain ⟨a, e, hf⟩ := hin
    rcases hF g _ hf with ⟨k, hne⟩ | ⟨rfl, k⟩
    · rcases act g hg with hg' | hg'
      · exact (h.own g hg' i z (old hz) ⟨a, e, k⟩).app _
      · exact absurd hg' hne
    · exact fork_knows hx hy h0 hk (h.own 0 (.inl rfl) i z (old hz) ⟨a, e, k⟩)
  · have ht := h.tok
    cases o with
    | none =>
      intro i z hz hp
      rcases ht i z (old hz) hp with k | ⟨p, k1, k2, k3, k4⟩
      · exact .inl (all k)
      · have hpl := lt_of_act? k1
        exact .inr ⟨p, by rw [act?_old hpl]; exact k1, k2, (heard_old hpl).2 k3, k4.app _⟩
    | some g' =>
      refine ⟨?_, fun i z hz hp => (ht.2 i z (old hz) hp).app _⟩
      rcases ht.1 with k | ⟨k1, k2⟩
      · exact .inl k
      · exact .inr ⟨k1, by omega⟩
  · refine ⟨fun e => ?_, fun e => ?_⟩
    · rcases act_app e with ⟨_, e'⟩ | ⟨_, op, hop, e'⟩
      · exact (h.norel i hi).1 e'
      · rcases hm op hop with rfl | rfl
        · rw [hx.2] at e'; cases e'
        · rw [hy.2] at e'; cases e'
    · rcases act_app e with ⟨_, e'⟩ | ⟨_, op, hop, e'⟩
      · exact (h.norel i hi).2 e'
      · rcases hm op hop with rfl | rfl
        · rw [hx.2] at e'; cases e'
        · rw [hy.2] at e'; cases e'
  · have e : t ++ #[x, y] = (t ++ #[x]) ++ #[y] := by apply Array.ext'; simp
    rw [e]
    refine noRace_append (g := Y.b + j + 1) (noRace_append (g := 0) (h.nr said) (fun op hop => by simp at hop; rw [hop]; exact hx.1) (fun i b _ op hop c hc _ => ?_))
      (fun op hop => by simp at hop; rw [hop]; exact hy.1) (fun i b _ op hop c hc _ => ?_)
    · rw [hnt op (by simp at hop ⊢; exact .inl hop)] at hc; cases hc
    · rw [hnt op (by simp at hop ⊢; exact .inr hop)] at hc; cases hc
  · rcases g_app hg with ⟨_, hg'⟩ | ⟨_, op, hop, _, e⟩
    · have := h.gs i g hi hg'; omega
    · rcases hm op hop with rfl | rfl
      · rw [← e, hx.1]; omega
      · rw [← e, hy.1]; omega
  · rcases g_app hg with ⟨hlt, hg'⟩ | ⟨_, op, hop, _, e⟩
    · rw [touchAt_old hlt]; exact h.gm i g hi hg' h1 h2
    · rcases hm op hop with rfl | rfl
      · rw [← e, hx.1] at h1; omega
      · rw [← e, hy.1] at h2; omega
  · have hlt : i < t.size := Nat.lt_of_lt_of_le hi h.len
    obtain ⟨k, hk, hb⟩ := h.over i g hi (by rw [← g?_old (u := #[x, y]) hlt]; exact hg) hne ((counts_app hlt).1 hc)
    exact ⟨k, by rw [g?_old (lt_g? hk)]; exact hk, hb_app _ hb⟩

/-- fewer blocks are told -/
theorem TR.less (h : TR Y F o j sz t) (hF : ∀ g f, F' g f → F g f) : TR Y F' o j sz t :=
  ⟨h.len, h.nsz, fun g f hf => h.fF g f (hF g f hf), fun g g' f h1 h2 => h.fd g g' f (hF _ _ h1) (hF _ _ h2), h.k0, h.wl, fun g hg i x hx ⟨a, e, hf⟩ => h.own g hg i x hx ⟨a, e, hF g _ hf⟩, h.tok, h.norel, h.nr, h.gs, h.gm, h.over⟩
/-- a new block, g's -/
theorem TR.grow (h : TR Y F o j sz t) (hF : ∀ g' f, F' g' f → F g' f ∨ (g' = g ∧ f = sz)) : TR Y F' o j (sz + 1) t := by
  have key : ∀ g' f, F' g' f → Y.N ≤ f ∧ f < sz + 1 := fun g' f hf => by
    rcases hF g' f hf with k | ⟨_, rfl⟩
    · have := h.fF g' f k; omega
    · have := h.nsz; omega
  refine ⟨h.len, by have := h.nsz; omega, key, fun g1 g2 f h1 h2 => ?_, h.k0, fun i x hi hx => ?_, fun g' hg' i x hx ⟨a, e, hf⟩ => ?_, h.tok, h.norel, h.nr, h.gs, h.gm, h.over⟩
  · rcases hF g1 f h1 with k1 | ⟨k1, e1⟩ <;> rcases hF g2 f h2 with k2 | ⟨k2, e2⟩
    · exact h.fd g1 g2 f k1 k2
    · have := h.fF g1 f k1; omega
    · have := h.fF g2 f k2; omega
    · rw [k1, k2]
  · rcases h.wl i x hi hx with k | k | ⟨a, e, k1, k2⟩ | k
    · exact .inl k
    · exact .inr (.inl k)
    · exact .inr (.inr (.inl ⟨a, e, k1, by omega⟩))
    · exact .inr (.inr (.inr k))
  · rcases hF g' _ hf with k | ⟨rfl, e'⟩
    · exact h.own g' hg' i x hx ⟨a, e, k⟩
    · have hn : ∃ a, x.loc = .cell a ∧ Y.N ≤ a.block := ⟨a, e, by have := h.nsz; omega⟩
      rcases Nat.lt_or_ge i Y.n0 with hi | hi
      · rcases h.k0 i x hi hx (by rw [e]; rfl) with k | ⟨k, _⟩
        · exact k _ hg'
        · exact (sn_nw k hn).elim
      · rcases h.wl i x hi hx with ⟨k, _⟩ | ⟨k, _⟩ | ⟨a', e2, k1, k2⟩ | k
        · exact (sh_nw k hn).elim
        · exact (ro_nw k hn).elim
        · rw [e] at e2
          cases e2
          omega
        · exact (nw_pr hn k).elim

/-- words of an elder one's that touch nothing -/
theorem TR.elder (h : TR Y F o j sz t) {e : Nat} (h1 : 1 ≤ e) (h2 : e ≤ Y.b) (hu : ∀ op ∈ u, op.g = e) (hn : ∀ op ∈ u, op.act.touch? = none) (hr : ∀ op ∈ u, op.act ≠ .mark (.release Y.lk) ∧ op.act ≠ .mark (.release (stA Y.Wg))) : TR Y F o j sz (t ++ u) := by
  have old : ∀ {i : Nat} {b : Touch}, touchAt (t ++ u) i = some b → i < t.size ∧ touchAt t i = some b := by
    intro i b hb
    rcases touch_app hb with hb' | ⟨_, op, hop, _, hox⟩
    · exact hb'
    · rw [hn op hop] at hox; cases hox
  refine ⟨by have := h.len; simp; omega, h.nsz, h.fF, h.fd, fun i x hi hx hm => (h.k0 i x hi (old hx).2 hm).imp (fun k g hg => (k g hg).app u) id, fun i x hi hx => ?_, fun g hg i x hx hin => (h.own g hg i x (old hx).2 hin).app u, ?_, fun i hi => ?_, fun said => ?_, fun i g hi hg => ?_, fun i g hi hg k1 k2 => ?_, fun i g hi hg hne hc => ?_⟩
  · rcases h.wl i x hi (old hx).2 with ⟨k1, k2, k3⟩ | k
    · exact .inl ⟨k1, k2, fun e => by rw [g?_old (old hx).1]; exact k3 e⟩
    · exact .inr k
  · have ht := h.tok
    cases o with
    | none =>
      intro i x hx hp
      rcases ht i x (old hx).2 hp with k | ⟨p, k1, k2, k3, k4⟩
      · exact .inl fun g hg => (k g hg).app u
      · have hpl := lt_of_act? k1
        exact .inr ⟨p, by rw [act?_old hpl]; exact k1, k2, (heard_old hpl).2 k3, k4.app u⟩
    | some g' => exact ⟨ht.1, fun i x hx hp => (ht.2 i x (old hx).2 hp).app u⟩
  · refine ⟨fun e' => ?_, fun e' => ?_⟩
    · rcases act_app e' with ⟨_, k⟩ | ⟨_, op, hop, k⟩
      · exact (h.norel i hi).1 k
      · exact (hr op hop).1 k
    · rcases act_app e' with ⟨_, k⟩ | ⟨_, op, hop, k⟩
      · exact (h.norel i hi).2 k
      · exact (hr op hop).2 k
  · exact noRace_append (h.nr said) hu fun i a _ op hop b hb _ => by rw [hn op hop] at hb; cases hb
  · rcases g_app hg with ⟨_, k⟩ | ⟨_, op, hop, _, k⟩
    · exact h.gs i g hi k
    · rw [← k, hu op hop]; omega
  · rcases g_app hg with ⟨hlt, k⟩ | ⟨_, op, hop, hi', k⟩
    · rw [touchAt_old hlt]; exact h.gm i g hi k k1 k2
    · rw [touchAt_of hi', hn op hop]
  · have hlt : i < t.size := Nat.lt_of_lt_of_le hi h.len
    obtain ⟨k, hk, hb⟩ := h.over i g hi (by rw [← g?_old (u := u) hlt]; exact hg) hne ((counts_app hlt).1 hc)
    exact ⟨k, by rw [g?_old (lt_g? hk)]; exact hk, hb_app _ hb⟩
end

/-- the round's beginning -/
theorem TR.init {Y : Lay} {t : Trace} (hn : Y.n0 = t.size) (hk : ∀ i x, touchAt t i = some x → x.loc.isMemory = true → Knows t 0 i ∨ (Sn Y.S x.loc ∧ x.kind = .atomic)) (hc : ∀ said, ¬ Race said t) (ho : t.HandedOver) : TR Y (fun _ _ => False) none 0 Y.N t := by
  have a0 : ∀ g, Y.Act 0 g → g = 0 := fun g hg => by rcases hg with h | ⟨h1, h2⟩ <;> omega
  have no : ∀ {i : Nat} {x : Touch}, Y.n0 ≤ i → touchAt t i = some x → False := fun hi hx => by have := lt_touch hx; omega
  refine ⟨by omega, Nat.le_refl _, fun g f hf => hf.elim, fun g g' f hf => hf.elim, fun i x _ hx hm => (hk i x hx hm).imp (fun k g hg => a0 g hg ▸ k) id, fun i x hi hx => (no hi hx).elim, fun g _ i x _ ⟨_, _, hf⟩ => hf.elim, fun i x hx hp => .inl fun g hg => ?_, fun i hi => ⟨fun e => ?_, fun e => ?_⟩, hc, fun i g hi hg => ?_, fun i g hi hg => ?_, fun i g _ hg hne hcn => ho i g hg hne hcn⟩
  · rw [a0 g hg]
    have hm : x.loc.isMemory = true := by
      rcases hp with e | ⟨a, e, _⟩ <;> rw [e] <;> rfl
    rcases hk i x hx hm with k | ⟨k, _⟩
    · exact k
    · exact (sn_pr k hp).elim
  · have := lt_of_act? e; omega
  · have := lt_of_act? e; omega
  · have := lt_g? hg; omega
  · have := lt_g? hg; omega
end Go.Proofs.Ytpmmimcafkillaa.Tr

set_option linter.unusedVariables false
set_option linter.unusedSimpArgs false
namespace Go.Proofs.Ytpmmimcafkillaa.Tr
open Go Go.Conc Go.ConcN
open Go.ConcR (stA smA)

/-- goroutine g has released the group at r, heard; behind that it touches the group's cells alone, atomically, unheard -/
structure Rel (Y : Lay) (t : Trace) (g r : Nat) : Prop where
  act : t.act? r = some (.mark (.releaseMerge (stA Y.Wg)))
  hg : t.g? r = some g
  heard : t.heard r
  late : Y.n0 ≤ r
  after : ∀ i x, r < i → t.g? i = some g → touchAt t i = some x → (∃ a, x.loc = .cell a ∧ a.block = Y.Wg) ∧ x.kind = .atomic ∧ ¬ t.heard i

section
variable {Y : Lay} {F : Nat → Nat → Prop} {o : Option Nat} {j sz g r : Nat} {t u : Trace}
theorem Rel.app (h : Rel Y t g r) (hu : ∀ i x, t.size ≤ i → (t ++ u).g? i = some g → touchAt (t ++ u) i = some x → (∃ a, x.loc = .cell a ∧ a.block = Y.Wg) ∧ x.kind = .atomic ∧ ¬ (t ++ u).heard i) : Rel Y (t ++ u) g r := by
  have hr : r < t.size := lt_of_act? h.act
  refine ⟨by rw [act?_old hr]; exact h.act, by rw [g?_old hr]; exact h.hg, (heard_old hr).2 h.heard, h.late, fun i x hi hg hx => ?_⟩
  rcases Nat.lt_or_ge i t.size with hlt | hge
  · have := h.after i x hi (by rw [← g?_old (u := u) hlt]; exact hg) (by rw [← touchAt_old (u := u) hlt]; exact hx)
    exact ⟨this.1, this.2.1, fun e => this.2.2 ((heard_old hlt).1 e)⟩
  · exact hu i x hge hg hx
theorem Rel.other (h : Rel Y t g r) (hu : ∀ op ∈ u, op.g ≠ g) : Rel Y (t ++ u) g r :=
  h.app fun i x hi hg hx => by
    rcases g_app hg with ⟨hlt, _⟩ | ⟨_, op, hop, _, e⟩
    · omega
    · exact absurd e (hu op hop)
theorem Rel.still (h : Rel Y t g r) (hu : ∀ op ∈ u, op.act.touch? = none) : Rel Y (t ++ u) g r :=
  h.app fun i x hi hg hx => by
    rcases touch_app hx with ⟨hlt, _⟩ | ⟨_, op, hop, _, e⟩
    · omega
    · rw [hu op hop] at e; cases e
/-- its own steps on the group, deaf -/
theorem Rel.own (h : Rel Y t g r) (fn : FuncId) (pos : String) (es : Array Event)
    (hes : ∀ k e, es[k]? = some e → (MemAct.ofEvent e).touch? = none ∨ ((∃ a wr, e = ⟨.cell a, wr, true⟩ ∧ a.block = Y.Wg) ∧ 0 < deafBehind (Deaf t g) (es.extract 0 k))) : Rel Y (t ++ MemOp.ofEvents g fn pos es) g r := by
  refine h.app fun i x hi hg hx => ?_
  rcases touch_app hx with ⟨hlt, _⟩ | ⟨hge, op, hop, hi', hox⟩
  · omega
  have hj : (MemOp.ofEvents g fn pos es)[i - t.size]? = some op := by
    rw [Array.getElem?_append] at hi'
    simpa [Nat.not_lt.2 hge] using hi'
  rw [ofEvents_eq, Array.getElem?_map] at hj
  obtain ⟨e, he, rfl⟩ := Option.map_eq_some_iff.1 hj
  have hjs : i - t.size ≤ es.size := by
    rcases Nat.lt_or_ge (i - t.size) es.size with h' | h'
    · omega
    · rw [Array.getElem?_eq_none h'] at he; cases he
  rcases hes _ e he with h0 | ⟨⟨a, wr, rfl, ha⟩, hd⟩
  · simp only at hox; rw [h0] at hox; cases hox
  · have hxx : x = ⟨.cell a, wr, .atomic⟩ := by
      cases wr <;> simp [MemAct.ofEvent, MemAct.touch?] at hox <;> exact hox.symm
    subst hxx
    refine ⟨⟨a, rfl, ha⟩, rfl, ?_⟩
    rintro ⟨g', hg', hdf⟩
    have e1 : g' = g := by rw [hg] at hg'; exact (Option.some.inj hg').symm
    subst e1
    have := deaf_inside t g' fn pos es (i - t.size) hjs
    rw [show t.size + (i - t.size) = i by omega, hdf] at this
    omega
/-- it says so, hearing -/
theorem Rel.new (hl : Y.n0 ≤ t.size) {y : MemOp} (hg : y.g = g) (hy : y.act = .mark (.releaseMerge (stA Y.Wg))) (hd : Deaf t g = 0) : Rel Y (t ++ #[y]) g t.size := by
  have hq : (t ++ #[y])[t.size]? = some y := by simp
  refine ⟨by rw [act?_of hq, hy], by simp [Trace.g?, hg], ⟨g, by simp [Trace.g?, hg], by rw [deaf_old (Nat.le_refl _)]; exact hd⟩, hl, fun i x hi hg hx => ?_⟩
  have := lt_touch hx
  simp at this
  omega

/-- ████ THE JOIN ████ -/
theorem TR.fin (h : TR Y F o j sz t) (hd : Deaf t 0 = 0) (hrel : ∀ k, 1 ≤ k → k ≤ j → ∃ r, Rel Y t (Y.b + k) r) {z : MemOp} (hg : z.g = 0) (hz : z.act = .mark (.acquire (stA Y.Wg))) :
    (∀ said, ¬ Race said (t ++ #[z])) ∧ (∀ i a, touchAt (t ++ #[z]) i = some a → a.loc.isMemory = true → Knows (t ++ #[z]) 0 i ∨ (Sn (fun b => Y.S b ∨ b = Y.Wg) a.loc ∧ a.kind = .atomic)) ∧ (t ++ #[z]).HandedOver := by
  have ha : Y.Act j z.g := .inl hg
  have hn : z.act.touch? = none := by rw [hz]; rfl
  have hb := h.word ha hn (by rw [hz]; simp) (by rw [hz]; simp)
  have hq : (t ++ #[z])[t.size]? = some z := by simp
  have hh : (t ++ #[z]).heard t.size := ⟨0, by simp [Trace.g?, hg], by rw [deaf_old (Nat.le_refl _)]; exact hd⟩
  -- whose release stands is known up to there
  have kn : ∀ {g r i : Nat}, Rel Y t g r → t.g? i = some g → i ≤ r → Knows (t ++ #[z]) 0 i ∧ (g ≠ 0 → ∃ k, (t ++ #[z]).g? k = some 0 ∧ HappensBefore (t ++ #[z]) i k) := fun {g r i} hr hgi hle => by
    have hrl := lt_of_act? hr.act
    have edge : HappensBefore (t ++ #[z]) r t.size := .single (.inr ⟨.marked hrl (.inr (by rw [act?_old hrl]; exact hr.act)) (by rw [act?_of hq, hz]) (fun k hk _ => (hb.norel k (by have := hr.late; omega)).2), (heard_old hrl).2 hr.heard, hh⟩)
    have hb' : Before (t ++ #[z]) i r := by
      rcases Nat.lt_or_ge i r with hlt | hge
      · exact .inr (.single (.inl ⟨hlt, g, by rw [g?_old (by omega)]; exact hgi, by rw [g?_old hrl]; exact hr.hg⟩))
      · exact .inl (by omega)
    exact ⟨⟨t.size, z, hq, hg, .inr (hb'.hb edge)⟩, fun _ => ⟨t.size, by simp [Trace.g?, hg], hb'.hb edge⟩⟩
  refine ⟨hb.nr, fun i a hi hm => ?_, fun i g hgi hne hc => ?_⟩
  · have hi' := old_touch1 hn hi
    have hlt := lt_touch hi'
    rcases Nat.lt_or_ge i Y.n0 with h0 | h0
    · rcases h.k0 i a h0 hi' hm with k | ⟨⟨x, e, k⟩, k'⟩
      · exact .inl ((k 0 (.inl rfl)).app _)
      · exact .inr ⟨⟨x, e, .inl k⟩, k'⟩
    · obtain ⟨op, ho, hox⟩ := touch_of hi'
      have hgi : t.g? i = some op.g := by simp [Trace.g?, ho]
      have hle := h.gs i op.g h0 hgi
      rcases Nat.eq_zero_or_pos op.g with e0 | hp
      · have := knows_own ho
        rw [e0] at this
        exact .inl (this.app _)
      · rcases Nat.lt_or_ge Y.b op.g with hb' | hb'
        · obtain ⟨r, hr⟩ := hrel (op.g - Y.b) (by omega) (by omega)
          rw [show Y.b + (op.g - Y.b) = op.g by omega] at hr
          rcases Nat.lt_or_ge r i with hri | hri
          · obtain ⟨⟨x, e, k⟩, k', _⟩ := hr.after i a hri hgi hi'
            exact .inr ⟨⟨x, e, .inr k⟩, k'⟩
          · exact .inl (kn hr hgi hri).1
        · have := h.gm i op.g h0 hgi hp hb'
          rw [this] at hi'
          cases hi'
  · rcases Nat.lt_or_ge i t.size with hlt | hge
    · rcases Nat.lt_or_ge i Y.n0 with h0 | h0
      · exact hb.over i g h0 hgi hne hc
      · have hgi' : t.g? i = some g := by rw [← g?_old (u := #[z]) hlt]; exact hgi
        have hc' := (counts_app hlt).1 hc
        obtain ⟨x, hx, hxm, hxk⟩ := hc'
        have hle := h.gs i g h0 hgi'
        rcases Nat.lt_or_ge Y.b g with hb' | hb'
        · obtain ⟨r, hr⟩ := hrel (g - Y.b) (by omega) (by omega)
          rw [show Y.b + (g - Y.b) = g by omega] at hr
          rcases Nat.lt_or_ge r i with hri | hri
          · exfalso
            obtain ⟨_, k', k''⟩ := hr.after i x hri hgi' hx
            rcases hxk with h1 | h1
            · exact h1 k'
            · exact k'' h1
          · exact (kn hr hgi' hri).2 hne
        · have := h.gm i g h0 hgi' (by omega) hb'
          have hx' : touchAt t i = some x := hx
          rw [this] at hx'
          cases hx'
    · exfalso
      obtain ⟨x, hx, _⟩ := hc
      have hx' : touchAt (t ++ #[z]) i = some x := hx
      have := lt_touch (old_touch1 hn hx')
      omega
end
end Go.Proofs.Ytpmmimcafkillaa.Tr
