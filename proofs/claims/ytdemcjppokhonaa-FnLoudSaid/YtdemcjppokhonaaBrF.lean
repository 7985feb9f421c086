/-
  From the entry to the return beside goroutines that only leave. It names no program; no conditions.
-/
import Derived.Test.YtdemcjppokhonaaBrE
set_option linter.unusedVariables false
set_option linter.unusedSimpArgs false
namespace Go.Proofs.Ytdemcjppokhonaa
open Go Go.Conc
open Go.ConcN (sumTo upd sumTo_upd upd_ne upd_same)
variable {P : Program}

theorem hush_noRace {t : Trace} (h : Hush t) (said : Bool) : ¬ Race said t := by
  rintro ⟨i, j, hij, ⟨a, b, ha, hb, hloc, hmem, hwr, hkd⟩, hn, _⟩
  obtain ⟨x, hx, hxa⟩ := touch_of ha
  obtain ⟨y, hy, hyb⟩ := touch_of hb
  have key : ∀ (k : Nat) (z z' : MemOp) (u v : Touch), t[k]? = some z → z' ∈ t → z.act.touch? = some u → z'.act.touch? = some v → z.g ≠ 0 → u.loc = v.loc → (u.write = true ∨ v.write = true) → (u.kind = .plain ∨ v.kind = .plain ∨ (said = true ∧ u.kind = .said ∧ v.kind = .said)) → False := by
    intro k z z' u v hz hz' hu hv hg hl hw hkind
    rcases h.2 k z hz hg with e | ⟨⟨c, e⟩, _⟩
    · rw [e] at hu; cases hu
    · rw [e] at hu
      simp only [MemAct.touch?, if_true, Option.some.injEq] at hu
      subst hu
      simp only [Bool.false_eq_true, false_or, reduceCtorEq, false_and, and_false, or_false] at hw hkind
      refine h.1.2 z' hz' c ?_
      rw [hv]
      obtain ⟨l, wr, kd⟩ := v
      simp only at hl hw hkind
      rw [← hl, hw, hkind]
  by_cases hxg : x.g = 0
  · by_cases hyg : y.g = 0
    · exact hn (hb_po hij hx hy (hxg.trans hyg.symm))
    · exact key j y x b a hy (mem_of_getElem? hx) hyb hxa hyg hloc.symm (by simpa [or_comm] using hwr) (by rcases hkd with h | h | ⟨h1, h2, h3⟩; exact .inr (.inl h); exact .inl h; exact .inr (.inr ⟨h1, h3, h2⟩))
  · exact key i x y a b hx (mem_of_getElem? hy) hxa hyb hxg hloc (by simpa using hwr) hkd
theorem hush_over {t : Trace} (h : Hush t) : t.HandedOver := by
  intro i g hg hne ⟨x, hx, _⟩
  obtain ⟨op, hop, hox⟩ := touch_of hx
  have hgo : op.g = g := by simpa [Trace.g?, hop] using hg
  rcases h.2 i op hop (by rw [hgo]; exact hne) with e | ⟨_, e⟩
  · rw [e] at hox; cases hox
  · exact e
theorem hush_deaf {t : Trace} (h : Hush t) {j : Nat} (hj : j ≠ 0) : ∀ i, t.deaf j i = 0 := h.1.1.deaf j

/-- Goroutine 0 stands at the step that ends the run. -/
def AtEnd0 (P : Program) (Post : Value → World → Prop) (g : Goroutine) (w : World) : Prop :=
  g.status = .running ∧ ∀ d, ∃ v es, stepG P true g (w.at d) = .ended (.done v) (w.at d) es ∧ (∀ e ∈ es, EvZ e) ∧ Post v (w.at d)

theorem beside_end {Post : Value → World → Prop} {g : Goroutine} : ∀ (M : Nat) (w : World), AtEnd0 P Post g w → ∀ (gs : Array Goroutine) (sl : Option (Nat × Nat)) (t : Trace) (q : Nat → Nat), sumTo gs.size q < M → gs[0]? = some g → Lvs P gs q → Hush t →
    ∃ N last o w' t', runNT P (N + 1) (crowd gs w sl) t = (.ended o w', t') ∧ runN P N (crowd gs w sl) = .next last ∧ step P last = .ended o w' ∧ Good P Post last o w' t' := by
  intro M
  induction M with
  | zero => intro w h gs sl t q hM; omega
  | succ M ih =>
    intro w h gs sl t q hM h0 hL hH
    obtain ⟨hrun, hend⟩ := h
    have haw : ∀ g ∈ gs, awake g := by
      intro x hx
      obtain ⟨i, hi, rfl⟩ := Array.mem_iff_getElem.1 hx
      rcases Nat.eq_zero_or_pos i with rfl | hpos
      · have : gs[0] = g := by simpa [Array.getElem?_eq_getElem hi] using h0
        rw [this]; exact awake_of (.inl hrun)
      · exact awake_of ((hL i _ hpos (Array.getElem?_eq_getElem hi)).status.elim .inl fun x => .inr (.inr x))
    obtain ⟨i, x, d, sl', hi, hx, hst⟩ := crowd_pick (P := P) (w := w) (sl := sl) haw ⟨0, g, h0, hrun⟩
    rcases Nat.eq_zero_or_pos i with rfl | hpos
    · obtain rfl : x = g := by rw [h0] at hi; exact (Option.some.inj hi).symm
      obtain ⟨v, es, he, hez, hp⟩ := hend d
      have hrunT := runT_many_ended (P := P) (sl := sl') (i := 0) hi (show stepG P (0 == 0) x (w.at d) = _ from he)
      have hH' := hush_app hH (mild0 (fn := x.frame.fn) (pos := x.frame.place) hez)
      refine ⟨0, crowd gs w sl, _, _, _, by simp only [runNT, hst, hrunT], rfl, by rw [step, hst, hrunT], v, rfl, hp, hush_noRace hH', hush_over hH', ⟨fun y hy => ?_, rfl⟩, fun j y hy hj => ?_⟩
      · obtain ⟨j, hj⟩ := List.mem_iff_getElem?.1 hy
        rw [List.getElem?_drop] at hj
        exact ⟨_, (hL (1 + j) y (by omega) (by simpa [crowd] using hj)).leaves⟩
      · refine ⟨q j, ?_⟩
        rw [hush_deaf hH' hj]
        exact (hL j y (by omega) hy).hears _ _
    · have hq := hL i x hpos hi
      have hi0 : (i == 0) = false := by simp; omega
      have hlt : i < gs.size := (Array.getElem?_eq_some_iff.1 hi).1
      cases hqi : q i with
      | zero => rw [hqi] at hq; have : x.status = .finished := hq; rw [this] at hx; cases hx
      | succ k =>
        rw [hqi] at hq
        rcases hq with hf | ⟨_, g', hstp, hq'⟩
        · rw [hf] at hx; cases hx
        have hrunT := runT_crowd_go (P := P) (sl := sl') (i := i) hi (by rw [hi0]; exact hstp (w.at d))
        have hsz : ((gs.map (woken P x g' (w.at d))).setIfInBounds i g').size = gs.size := by simp
        have hsum : sumTo gs.size (upd q i k) + (k + 1) = sumTo gs.size q + k := by
          have := sumTo_upd q k id hlt
          simpa [hqi] using this
        obtain ⟨N, last, o, w', t', r1, r2, r3, r4⟩ := ih (w.at d) ⟨hrun, fun d' => hend d'⟩ ((gs.map (woken P x g' (w.at d))).setIfInBounds i g') sl' (t ++ MemOp.ofEvents i x.frame.fn x.frame.place #[]) (upd q i k) (by rw [hsz]; omega)
          (by
            have hne : i ≠ 0 := by omega
            rw [Array.getElem?_setIfInBounds_ne hne, Array.getElem?_map, h0]
            simp [woken_run hrun])
          (fun j y hj hy => by
            by_cases hji : i = j
            · subst hji
              rw [Array.getElem?_setIfInBounds_self_of_lt (by simpa using hlt)] at hy
              obtain rfl := Option.some.inj hy
              rw [upd_same]
              exact hq'
            · rw [Array.getElem?_setIfInBounds_ne hji, Array.getElem?_map] at hy
              obtain ⟨z, hz, rfl⟩ := Option.map_eq_some_iff.1 hy
              rw [woken_quits (hL j z hj hz), upd_ne q k (Ne.symm hji)]
              exact hL j z hj hz) (hush_app hH (mild_none _ _ _))
        refine ⟨N + 1, last, o, w', t', ?_, ?_, r3, r4⟩
        · rw [runNT]; simp only [hst, hrunT]; exact r1
        · rw [runN]; simp only [step, hst, hrunT]; exact r2

/-- ████ FROM THE ENTRY TO THE RETURN. ████ -/
theorem good_of_bto {Post : Value → World → Prop} {g : Goroutine} {w : World} (h : BTo P (AtEnd0 P Post) g w) :
    ∃ N last o w' t', runNT P (N + 1) (solo g w) #[] = (.ended o w', t') ∧ runN P N (solo g w) = .next last ∧ step P last = .ended o w' ∧ Good P Post last o w' t' := by
  obtain ⟨N, gs', g', w', sl', t', q', hr, hs, h0, hL, hH, hE⟩ := h #[g] none #[] (fun _ => 0) rfl (fun i x hi hx => by
    have : i < 1 := by simpa using (Array.getElem?_eq_some_iff.1 hx).1
    omega) ⟨⟨fun op hop => by simp at hop, fun op hop => by simp at hop⟩, fun i op hi => by simp at hi⟩
  obtain ⟨N2, last, o, w2, t2, r1, r2, r3, r4⟩ := beside_end _ w' hE gs' sl' t' q' (Nat.lt_succ_self _) h0 hL hH
  rw [solo_eq_crowd]
  refine ⟨N + N2, last, o, w2, t2, ?_, ?_, r3, r4⟩
  · rw [Nat.add_assoc, runNT_add, hr]; exact r1
  · rw [runN_add, ← runNT_fst P N _ #[], hr]; exact r2
end Go.Proofs.Ytdemcjppokhonaa
