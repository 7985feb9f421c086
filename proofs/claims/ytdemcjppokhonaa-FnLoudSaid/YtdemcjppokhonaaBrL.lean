/-
  The go statement beside goroutines that only leave. It names no program; no conditions.
-/
import Derived.Test.YtdemcjppokhonaaBrK
set_option linter.unusedVariables false
set_option linter.unusedSimpArgs false
namespace Go.Proofs.Ytdemcjppokhonaa
open Go Go.Conc
open Go.ConcN (sumTo upd sumTo_upd upd_ne upd_same)
variable {P : Program} {c : Nat} {z : Value} {Q : Goroutine → World → Prop}

/-- ████ A go STATEMENT, BESIDE LEAVERS: the child sends these values and closes, goroutine 0 receives each, finds the channel closed, and goes on. ████ -/
theorem BTo.pipe {g : Goroutine} {w : World} (hrun : g.status = .running)
    (h : ∀ d, ∃ a' child w' es c z vs s r tm, stepG P true g (w.at d) = .spawn a' child w' es ∧ (∀ e ∈ es, EvZ e) ∧ w'.heap[c]? = some (.chan 0 #[] false s r tm) ∧ RcQ P c z (BTo P Q) vs a' w' ∧ SdQ P c vs child) : BTo P Q g w := by
  suffices H : ∀ (M : Nat) (w : World), (∀ d, ∃ a' child w' es c z vs s r tm, stepG P true g (w.at d) = .spawn a' child w' es ∧ (∀ e ∈ es, EvZ e) ∧ w'.heap[c]? = some (.chan 0 #[] false s r tm) ∧ RcQ P c z (BTo P Q) vs a' w' ∧ SdQ P c vs child) →
      ∀ (gs : Array Goroutine) (sl : Option (Nat × Nat)) (t : Trace) (q : Nat → Nat), sumTo gs.size q < M → gs[0]? = some g → Lvs P gs q → Hush t → Ends P Q gs w sl t from
    fun gs sl t q h0 hL hH => H _ w h gs sl t q (Nat.lt_succ_self _) h0 hL hH
  intro M
  induction M with
  | zero => intro w h gs sl t q hM; omega
  | succ M ih =>
    intro w h gs sl t q hM h0 hL hH
    have hlt0 : 0 < gs.size := (Array.getElem?_eq_some_iff.1 h0).1
    have haw : ∀ g ∈ gs, awake g := by
      intro x hx
      obtain ⟨i, hi, rfl⟩ := Array.mem_iff_getElem.1 hx
      rcases Nat.eq_zero_or_pos i with rfl | hpos
      · have : gs[0] = g := by simpa [Array.getElem?_eq_getElem hi] using h0
        rw [this]; exact awake_of (.inl hrun)
      · exact awake_of ((hL i _ hpos (Array.getElem?_eq_getElem hi)).status.elim .inl fun x => .inr (.inr x))
    obtain ⟨i, x, d, sl', hi, hx, hst⟩ := crowd_pick (P := P) (w := w) (sl := sl) haw ⟨0, g, h0, hrun⟩
    rcases Nat.eq_zero_or_pos i with rfl | hpos
    · obtain rfl : x = g := by rw [h0] at hi; exact (Option.some.inj hi).symm
      obtain ⟨a', child, w', es, c, z, vs, s, r, tm, hs, hez, hc, ⟨n, hA⟩, hB⟩ := h d
      obtain ⟨m, hB⟩ := (sdq_iff P c vs child).1 hB
      have hrT := runT_crowd_spawn (P := P) (sl := sl') (i := 0) hi (show stepG P (0 == 0) x (w.at d) = _ from hs)
      have hco : Co P gs.size ((gs.setIfInBounds 0 a').push child) a' child q := by
        refine ⟨?_, by rw [Array.getElem?_push, if_pos (by simp)], hlt0, fun j y hj hne hy => ?_⟩
        · rw [Array.getElem?_push, if_neg (by simp; omega), Array.getElem?_setIfInBounds_self_of_lt hlt0]
        · rw [Array.getElem?_push, if_neg (by simpa using hne), Array.getElem?_setIfInBounds_ne (by omega)] at hy
          exact hL j y hj hy
      obtain ⟨N, gs', g', w2, sl2, t', q', hr, hsz, r4⟩ := pipe_all vs _ gs.size _ _ _ w' sl' (t ++ ((MemOp.ofEvents 0 x.frame.fn x.frame.place es).push { g := 0, fn := x.frame.fn, pos := x.frame.place, act := .go gs.size } |>.push { g := gs.size, fn := child.frame.fn, pos := x.frame.place, act := .start })) q (n + 1) (m + 1) s r tm hco hc (.inl ⟨n, rfl, hA⟩) (.inl ⟨m, rfl, hB⟩) (by omega) (Nat.lt_succ_self _) (hush_app hH (fun op hop => by
          simp only [Array.mem_push] at hop
          rcases hop with (hop | rfl) | rfl
          · exact mild0 hez op hop
          · exact ⟨fun m hm => (by cases hm), fun r hr => (by cases hr), fun _ => rfl⟩
          · exact ⟨fun m hm => (by cases hm), fun r hr => (by cases hr), fun _ => rfl⟩))
      exact ⟨N + 1, gs', g', w2, sl2, t', q', by simp only [runNT, hst, hrT]; exact hr, by simp at hsz; omega, r4⟩
    · have hq := hL i x hpos hi
      have hi0 : (i == 0) = false := by simp; omega
      have hlt : i < gs.size := (Array.getElem?_eq_some_iff.1 hi).1
      cases hqi : q i with
      | zero => rw [hqi] at hq; have : x.status = .finished := hq; rw [this] at hx; cases hx
      | succ k =>
        rw [hqi] at hq
        rcases hq with hf | ⟨_, g', hstp, hq'⟩
        · rw [hf] at hx; cases hx
        have hrunT := runT_crowd_go (P := P) (sl := sl') (i := i) hi (by rw [hi0]; exact hstp (w.at d))
        have hsum : sumTo gs.size (upd q i k) + (k + 1) = sumTo gs.size q + k := by
          have := sumTo_upd q k id hlt
          simpa [hqi] using this
        refine Ends.next (hst.trans hrunT) (by simp) (ih (w.at d) (fun d' => h d') _ sl' _ (upd q i k) (by simp only [Array.size_setIfInBounds, Array.size_map]; omega) ?_ (fun j y hj hy => ?_) (hush_app hH (mild_none _ _ _)))
        · rw [Array.getElem?_setIfInBounds_ne (by omega), Array.getElem?_map, h0]
          simp [woken_run hrun]
        · by_cases hji : i = j
          · subst hji
            rw [Array.getElem?_setIfInBounds_self_of_lt (by simpa using hlt)] at hy
            obtain rfl := Option.some.inj hy
            rw [upd_same]
            exact hq'
          · rw [Array.getElem?_setIfInBounds_ne hji, Array.getElem?_map] at hy
            obtain ⟨y', hz, rfl⟩ := Option.map_eq_some_iff.1 hy
            rw [woken_quits (hL j y' hj hz), upd_ne q k (Ne.symm hji)]
            exact hL j y' hj hz
end Go.Proofs.Ytdemcjppokhonaa
