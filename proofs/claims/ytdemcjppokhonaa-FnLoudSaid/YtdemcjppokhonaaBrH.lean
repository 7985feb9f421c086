/-
  Goroutine 0 finds a channel closed. It names no program; no conditions.
-/
import Derived.Test.YtdemcjppokhonaaBrG
import Derived.Conc.CrowdComm
set_option linter.unusedVariables false
set_option linter.unusedSimpArgs false
namespace Go.Proofs.Ytdemcjppokhonaa
open Go Go.Conc
open Go.ConcN (sumTo upd sumTo_upd upd_ne upd_same)
variable {P : Program} {Q : Goroutine → World → Prop}

/-- One step of the machine's that goroutine 0 takes. -/
theorem BToH.stepM {H : Trace → Prop} (hK : ∀ t u, H t → Mild u → H (t ++ u)) {g : Goroutine} {w : World} (hrun : g.status = .running)
    (h : ∀ (d : Nat) (gs : Array Goroutine) (sl : Option (Nat × Nat)) (q : Nat → Nat), gs[0]? = some g → Lvs P gs q →
      ∃ gs1 g' w' ops, runT P (crowd gs (w.at d) sl) 0 = (.next (crowd gs1 w' sl), ops) ∧ gs1.size = gs.size ∧ gs1[0]? = some g' ∧ Lvs P gs1 q ∧ (∀ t, H t → Hush (t ++ ops)) ∧ BTo P Q g' w') : BToH P H Q g w := by
  suffices H : ∀ (M : Nat) (w : World), (∀ (d : Nat) (gs : Array Goroutine) (sl : Option (Nat × Nat)) (q : Nat → Nat), gs[0]? = some g → Lvs P gs q →
      ∃ gs1 g' w' ops, runT P (crowd gs (w.at d) sl) 0 = (.next (crowd gs1 w' sl), ops) ∧ gs1.size = gs.size ∧ gs1[0]? = some g' ∧ Lvs P gs1 q ∧ (∀ t, H t → Hush (t ++ ops)) ∧ BTo P Q g' w') → ∀ (gs : Array Goroutine) (sl : Option (Nat × Nat)) (t : Trace) (q : Nat → Nat), sumTo gs.size q < M → gs[0]? = some g → Lvs P gs q → H t →
      ∃ (N : Nat) (gs' : Array Goroutine) (g' : Goroutine) (w' : World) (sl' : Option (Nat × Nat)) (t' : Trace) (q' : Nat → Nat),
        runNT P N (crowd gs w sl) t = (.next (crowd gs' w' sl'), t') ∧ gs.size ≤ gs'.size ∧ gs'[0]? = some g' ∧ Lvs P gs' q' ∧ Hush t' ∧ Q g' w' from
    fun gs sl t q h0 hL hH => H _ w h gs sl t q (Nat.lt_succ_self _) h0 hL hH
  intro M
  induction M with
  | zero => intro w h gs sl t q hM; omega
  | succ M ih =>
    intro w h gs sl t q hM h0 hL hH
    have haw : ∀ g ∈ gs, awake g := by
      intro x hx
      obtain ⟨i, hi, rfl⟩ := Array.mem_iff_getElem.1 hx
      rcases Nat.eq_zero_or_pos i with rfl | hpos
      · have : gs[0] = g := by simpa [Array.getElem?_eq_getElem hi] using h0
        rw [this]; exact awake_of (.inl hrun)
      · exact awake_of ((hL i _ hpos (Array.getElem?_eq_getElem hi)).status.elim .inl fun x => .inr (.inr x))
    obtain ⟨i, x, d, sl', hi, hx, hst⟩ := crowd_pick (P := P) (w := w) (sl := sl) haw ⟨0, g, h0, hrun⟩
    rcases Nat.eq_zero_or_pos i with rfl | hpos
    · obtain ⟨gs1, g', w', ops, hrunT, hsz, h01, hL1, hH1, hB⟩ := h d gs sl' q h0 hL
      obtain ⟨N, gs', a', w2, sl2, t', q', hr, hs', h0', hL', hH', hQ⟩ := hB gs1 sl' (t ++ ops) q h01 hL1 (hH1 _ hH)
      exact ⟨N + 1, gs', a', w2, sl2, t', q', by simp only [runNT, hst, hrunT]; exact hr, Nat.le_trans (Nat.le_of_eq hsz.symm) hs', h0', hL', hH', hQ⟩
    · have hq := hL i x hpos hi
      have hi0 : (i == 0) = false := by simp; omega
      have hlt : i < gs.size := (Array.getElem?_eq_some_iff.1 hi).1
      cases hqi : q i with
      | zero => rw [hqi] at hq; have : x.status = .finished := hq; rw [this] at hx; cases hx
      | succ k =>
        rw [hqi] at hq
        rcases hq with hf | ⟨_, g', hstp, hq'⟩
        · rw [hf] at hx; cases hx
        have hrunT := runT_crowd_go (P := P) (sl := sl') (i := i) hi (by rw [hi0]; exact hstp (w.at d))
        have hsz : ((gs.map (woken P x g' (w.at d))).setIfInBounds i g').size = gs.size := by simp
        have hsum : sumTo gs.size (upd q i k) + (k + 1) = sumTo gs.size q + k := by
          have := sumTo_upd q k id hlt
          simpa [hqi] using this
        obtain ⟨N, gs', a', w2, sl2, t', q', hr, hs', h0', hL', hH', hQ⟩ := ih (w.at d) (fun d' => h d') ((gs.map (woken P x g' (w.at d))).setIfInBounds i g') sl' (t ++ MemOp.ofEvents i x.frame.fn x.frame.place #[]) (upd q i k) (by rw [hsz]; omega)
          (by
            have hne : i ≠ 0 := by omega
            rw [Array.getElem?_setIfInBounds_ne hne, Array.getElem?_map, h0]
            simp [woken_run hrun])
          (fun j y hj hy => by
            by_cases hji : i = j
            · subst hji
              rw [Array.getElem?_setIfInBounds_self_of_lt (by simpa using hlt)] at hy
              obtain rfl := Option.some.inj hy
              rw [upd_same]
              exact hq'
            · rw [Array.getElem?_setIfInBounds_ne hji, Array.getElem?_map] at hy
              obtain ⟨z, hz, rfl⟩ := Option.map_eq_some_iff.1 hy
              rw [woken_quits (hL j z hj hz), upd_ne q k (Ne.symm hji)]
              exact hL j z hj hz) (hK _ _ hH (mild_none _ _ _))
        exact ⟨N + 1, gs', a', w2, sl2, t', q', by simp only [runNT, hst, hrunT]; exact hr, Nat.le_trans (Nat.le_of_eq hsz.symm) hs', h0', hL', hH', hQ⟩

theorem partners_leavers {gs : Array Goroutine} {q : Nat → Nat} (hL : Lvs P gs q) (c : Nat) (send : Bool) : partners (gs.setIfInBounds 0 ph) c send = [] := by
  refine partners_nil fun j x hj => ?_
  rcases getElem?_stand gs 0 j x hj with ⟨_, rfl⟩ | ⟨hne, hx⟩
  · exact offersAt_ph _ _
  · refine offersAt_of_not_blocked (fun hb => ?_) _ _
    rcases (hL j x (by omega) hx).status with h | h <;> rw [h] at hb <;> cases hb

/-- GOROUTINE 0 FINDS THE CHANNEL CLOSED. -/
theorem BTo.recvClosed {g : Goroutine} {w : World} {c s r cap : Nat} {tm : Bool} {z : Value} (hrun : g.status = .running)
    (h : ∀ d, ∃ es, stepG P true g (w.at d) = .comm (core g) #[rcase c z] true (.recv true) (w.at d) es ∧ ∀ e ∈ es, EvZ e) (hc : w.heap[c]? = some (.chan cap #[] true s r tm))
    (hn : ∀ d, BTo P Q (Go.Conc.served (core g) (.tuple #[z, .bool false])) (w.at d)) : BToH P (Pend c) Q g w := by
  refine BToH.stepM (fun _ _ => pend_app) hrun fun d gs sl q h0 hL => ?_
  obtain ⟨es, hs, hez⟩ := h d
  have hr := crowd_recv_closed (P := P) (sl := sl) (i := 0) h0 (show stepG P (0 == 0) g (w.at d) = _ from hs) hc (partners_leavers hL c true)
  have hlt : 0 < gs.size := (Array.getElem?_eq_some_iff.1 h0).1
  rw [finishComm_recv] at hr
  refine ⟨_, _, _, _, hr, by simp, by simp only [Array.getElem?_setIfInBounds_self_of_lt hlt]; rfl, fun j x hj hx => ?_, fun t ht => ?_, hn d⟩
  · rw [Array.getElem?_setIfInBounds_ne (by omega)] at hx
    exact hL j x hj hx
  · rw [← Array.append_assoc]
    exact pend_over (pend_app ht (mild0 hez)) rfl rfl
end Go.Proofs.Ytdemcjppokhonaa
