/-
  A sender and goroutine 0 beside goroutines that only leave. It names no program; no conditions.
-/
import Derived.Test.YtdemcjppokhonaaBrJ
import Derived.Conc.LoneCalls
set_option linter.unusedVariables false
set_option linter.unusedSimpArgs false
namespace Go.Proofs.Ytdemcjppokhonaa
open Go Go.Conc
open Go.ConcN (sumTo upd sumTo_upd upd_ne upd_same)
variable {P : Program} {c : Nat} {z : Value} {Q : Goroutine → World → Prop}

def Ends (P : Program) (Q : Goroutine → World → Prop) (gs : Array Goroutine) (w : World) (sl : Option (Nat × Nat)) (t : Trace) : Prop :=
  ∃ (N : Nat) (gs' : Array Goroutine) (g' : Goroutine) (w' : World) (sl' : Option (Nat × Nat)) (t' : Trace) (q' : Nat → Nat),
    runNT P N (crowd gs w sl) t = (.next (crowd gs' w' sl'), t') ∧ gs.size ≤ gs'.size ∧ gs'[0]? = some g' ∧ Lvs P gs' q' ∧ Hush t' ∧ Q g' w'
theorem Ends.next {gs gs1 : Array Goroutine} {w w1 : World} {sl sl1 : Option (Nat × Nat)} {t ops : Trace} (h : stepT P (crowd gs w sl) = (.next (crowd gs1 w1 sl1), ops)) (hs : gs1.size = gs.size) (he : Ends P Q gs1 w1 sl1 (t ++ ops)) : Ends P Q gs w sl t := by
  obtain ⟨N, gs', g', w', sl', t', q', hr, hs', r⟩ := he
  exact ⟨N + 1, gs', g', w', sl', t', q', by simp only [runNT, h]; exact hr, Nat.le_trans (Nat.le_of_eq hs.symm) hs', r⟩

theorem core_StR {Next : Goroutine → World → Prop} {g : Goroutine} {w : World} (h : StR P c z Next g w) : StR P c z Next (core g) w := by
  obtain ⟨_, es, hs, he, hn⟩ := h
  exact ⟨rfl, es, (stepG_same (g := core g) (h := g) rfl rfl rfl w).trans hs, he, hn⟩
theorem goesR_running {Next : Goroutine → World → Prop} {n : Nat} {a : Goroutine} {w : World} (h : Goes P true (Aside c) (DC c) (StR P c z Next) n a w) : a.status = .running := by
  cases n with
  | zero => exact (h w (Aside.refl c w)).1
  | succ n => rcases h with h | h; exact (h w (Aside.refl c w)).1; exact h.1
theorem sitR_rely {Fin : Goroutine → World → Prop} {vs : List Value} {ra : Nat} {a : Goroutine} {w w₁ : World} (h : SitR P c z Fin vs ra a w) (hw : Aside c w w₁) : SitR P c z Fin vs ra a w₁ := by
  rcases h with ⟨n, rfl, h⟩ | ⟨rfl, g, rfl, h⟩
  · exact .inl ⟨n, rfl, Goes.rely (R := Aside c) (fun _ _ _ h1 h2 => Aside.trans h1 h2) h hw⟩
  · exact .inr ⟨rfl, g, rfl, fun w₂ h₂ => h w₂ (hw.trans h₂)⟩
theorem sitR_firm {Fin : Goroutine → World → Prop} {vs : List Value} {ra s r : Nat} {a : Goroutine} {w w₁ : World} {tm : Bool} (h : SitR P c z Fin vs ra a w) (hc : w₁.heap[c]? = some (.chan 0 #[] false s r tm)) : Firm c w₁ a := by
  rcases h with ⟨n, rfl, h⟩ | ⟨rfl, g, rfl, h⟩
  · exact .inl (goesR_running h)
  · exact .inr ⟨_, _, _, rfl, rfl, s, r, tm, hc⟩
theorem sitS_firm {vs : List Value} {rb s r : Nat} {b : Goroutine} {w₁ : World} {tm : Bool} (h : SitS P c vs rb b) (hc : w₁.heap[c]? = some (.chan 0 #[] false s r tm)) : Firm c w₁ b := by
  rcases h with ⟨n, rfl, h⟩ | ⟨rfl, v, vs', g, z', rfl, rfl, h⟩
  · exact .inl (h.running fun _ => stopS_running)
  · exact .inr ⟨_, _, _, rfl, rfl, s, r, tm, hc⟩
theorem firm_awake {w : World} {o : Goroutine} (h : Firm c w o) : awake o := by
  rcases h with h | ⟨g, kc, sh, rfl, _⟩
  · exact awake_of (.inl h)
  · exact awake_of (.inr (.inl rfl))


def Pipe (P : Program) (c : Nat) (z : Value) (Q : Goroutine → World → Prop) (vs : List Value) : Prop :=
  ∀ (M k : Nat) (gs : Array Goroutine) (a b : Goroutine) (w : World) (sl : Option (Nat × Nat)) (t : Trace) (q : Nat → Nat) (ra rb s r : Nat) (tm : Bool), Co P k gs a b q → w.heap[c]? = some (.chan 0 #[] false s r tm) →
    SitR P c z (BTo P Q) vs ra a w → SitS P c vs rb b → 0 < ra + rb → ra + rb + sumTo gs.size q < M → Hush t → Ends P Q gs w sl t

theorem pipe_inner (vs : List Value) (IH : ∀ v vs', vs = v :: vs' → Pipe P c z Q vs') : Pipe P c z Q vs := by
  intro M k
  induction M with
  | zero => intro gs a b w sl t q ra rb s r tm _ _ _ _ _ hM; omega
  | succ M ih =>
    intro gs a b w sl t q ra rb s r tm hco hc hA hB hpos hM hH
    have hk := hco.k0
    have haw : ∀ g ∈ gs, awake g := by
      intro x hx
      obtain ⟨i, hi, rfl⟩ := Array.mem_iff_getElem.1 hx
      by_cases h0 : i = 0
      · subst h0
        have : gs[0] = a := by simpa [Array.getElem?_eq_getElem hi] using hco.a0
        rw [this]; exact firm_awake (sitR_firm hA hc)
      · by_cases h1 : i = k
        · subst h1
          have : gs[i] = b := by simpa [Array.getElem?_eq_getElem hi] using hco.bk
          rw [this]; exact firm_awake (sitS_firm hB hc)
        · exact awake_of ((hco.lv i _ (by omega) h1 (Array.getElem?_eq_getElem hi)).status.elim .inl fun x => .inr (.inr x))
    have some1 : ∃ (i : Nat) (g : Goroutine), gs[i]? = some g ∧ g.status = .running := by
      rcases hA with ⟨n, rfl, h⟩ | ⟨rfl, g, rfl, h⟩
      · exact ⟨0, a, hco.a0, goesR_running h⟩
      · rcases hB with ⟨m, rfl, h'⟩ | ⟨rfl, _⟩
        · exact ⟨k, b, hco.bk, h'.running fun _ => stopS_running⟩
        · omega
    obtain ⟨i, x, d, sl', hi, hx, hst⟩ := crowd_pick (P := P) (w := w) (sl := sl) haw some1
    have hc' : (w.at d).heap[c]? = some (.chan 0 #[] false s r tm) := hc
    have hclt : c < (w.at d).heap.size := (Array.getElem?_eq_some_iff.1 hc').1
    have hA' := sitR_rely hA (Aside.at c w d)
    by_cases hi0 : i = 0
    · subst hi0
      obtain rfl : x = a := by have := hco.a0; rw [hi] at this; exact Option.some.inj this
      rcases hA' with ⟨n, rfl, hG⟩ | ⟨_, g, rfl, _⟩
      · have hcases : (∀ w₁, Aside c (w.at d) w₁ → StR P c z (NextR P c z (BTo P Q) vs) x w₁) ∨ ∃ n', n = n' + 1 ∧ ∃ g' w' es, stepG P true x (w.at d) = .go g' w' es ∧ DC c (w.at d) w' es ∧ Goes P true (Aside c) (DC c) (StR P c z (NextR P c z (BTo P Q) vs)) n' g' w' := by
          cases n with
          | zero => exact .inl hG
          | succ n =>
            rcases hG with h | ⟨_, h⟩
            · exact .inl h
            · exact .inr ⟨n, rfl, goes_elim (h _ (Aside.refl c _))⟩
        rcases hcases with hstop | ⟨n', rfl, g', w', es, hgo, hd, hG'⟩
        · obtain ⟨hrun, es, hs, he, hn⟩ := hstop _ (Aside.refl c _)
          rcases hB with ⟨m, rfl, hS⟩ | ⟨rfl, v, vs', g, z', rfl, rfl, hS⟩
          · have hbr : b.status = .running := hS.running fun _ => stopS_running
            have hp : partners (gs.setIfInBounds 0 ph) c true = [] := by rw [hco.partners0, offersAt_of_not_blocked (by rw [hbr]; simp)]; rfl
            have hrT := crowd_waits (P := P) (sl := sl') (i := 0) hi (show stepG P (0 == 0) x (w.at d) = _ from hs) (fun cc hcc => by
              simp only [List.mem_toArray, List.mem_singleton] at hcc
              subst hcc
              exact ways_recv_none hc' hp)
            exact Ends.next (hst.trans hrT) (by simp) (ih _ _ _ _ _ _ q 0 (m + 1) s r tm hco.set0 hc' (.inr ⟨rfl, x, rfl, fun w₂ h₂ => core_StR (hstop w₂ h₂)⟩) (.inl ⟨m, rfl, hS⟩) (by omega) (by simp only [Array.size_setIfInBounds]; omega) (hush_app hH (mild0 he)))
          · have hp : partners (gs.setIfInBounds 0 ph) c true = [(k, 0)] := by rw [hco.partners0, offersAt_parked_send]; simp
            have hrT := crowd_recv_meets (P := P) (sl := sl') (i := 0) hi (show stepG P (0 == 0) x (w.at d) = _ from hs) hc' (j := k) (by omega) hco.bk hp
            rw [finishComm_recv, finishComm_send] at hrT
            obtain ⟨n2, hn2⟩ := hn ((w.at d).setChan c 0 #[] false (s + 1) (r + 1) tm) (Aside.put c _ _)
            obtain ⟨m2, hm2⟩ := (sdq_iff P c vs' _).1 hS
            refine Ends.next (hst.trans hrT) (by simp) (IH v vs' rfl _ k _ _ _ _ _ _ q (n2 + 1) (m2 + 1) (s + 1) (r + 1) tm hco.setK.set0 (heap_setChan _ _ _ _ _ _ _ _ hclt) (.inl ⟨n2, rfl, hn2⟩) (.inl ⟨m2, rfl, hm2⟩) (by omega) (Nat.lt_succ_self _) (hush_app hH (mild_app (mild0 he) (mild_comm fun op hop => ?_))))
            simp only [List.mem_toArray, List.mem_cons, List.not_mem_nil, or_false] at hop
            rcases hop with rfl | rfl | rfl | rfl <;> exact ⟨rfl, fun m hm => by cases hm⟩
        · have hrT := runT_crowd_go (P := P) (sl := sl') (i := 0) hi (show stepG P (0 == 0) x (w.at d) = _ from hgo)
          have hc1 : w'.heap[c]? = some (.chan 0 #[] false s r tm) := Eq.trans hd.1 hc'
          exact Ends.next (hst.trans hrT) (by simp) (ih _ _ _ _ _ _ q (n' + 1) rb s r tm (hco.move0 (sitS_firm hB hc1)) hc1 (.inl ⟨n', rfl, hG'⟩) hB (by omega) (by simp only [Array.size_setIfInBounds, Array.size_map]; omega) (hush_app hH (mild0 hd.2)))
      · cases hx
    · by_cases hik : i = k
      · subst hik
        obtain rfl : x = b := by have := hco.bk; rw [hi] at this; exact Option.some.inj this
        have hkf : (i == 0) = false := by simp; omega
        rcases hB with ⟨m, rfl, hS⟩ | ⟨_, v, vs', g, z', rfl, rfl, _⟩
        · have hcases : StopS P c vs x ∨ ∃ m', m = m' + 1 ∧ ∃ g', (∀ w, stepG P false x w = .go g' w #[]) ∧ Sil P (StopS P c vs) m' g' := by
            cases m with
            | zero => exact .inl hS
            | succ m =>
              rcases hS with h | ⟨_, h⟩
              · exact .inl h
              · exact .inr ⟨m, rfl, h⟩
          rcases hcases with hstop | ⟨m', rfl, g', hgo, hS'⟩
          · cases vs with
            | nil =>
              obtain ⟨_, hmw, g₂, m2, hs, hq⟩ := hstop
              have hrT := runT_crowd_go (P := P) (sl := sl') (i := i) hi (by rw [hkf]; exact hs (w.at d) s r tm hc')
              have hlt : i < gs.size := (Array.getElem?_eq_some_iff.1 hi).1
              have hc1 : ((w.at d).shut c s r tm).heap[c]? = some (.chan 0 #[] true s r tm) := heap_put hc'
              have hB1 : BToH P (Pend c) Q (woken P x g₂ ((w.at d).shut c s r tm) a) ((w.at d).shut c s r tm) := by
                rcases hA' with ⟨n, rfl, hG⟩ | ⟨_, g, rfl, hg⟩
                · rw [woken_run (goesR_running hG)]
                  exact BTo.closed (z := z) n a _ 0 s r tm hc1 (Goes.rely (R := Aside c) (fun _ _ _ h1 h2 => Aside.trans h1 h2) hG (Aside.put c _ _))
                · have e : woken P x g₂ ((w.at d).shut c s r tm) (parked (core g) #[rcase c z] (.recv true)) = { parked (core g) #[rcase c z] (.recv true) with status := .running } := by
                    unfold woken
                    rw [if_pos, again_parked_shut rfl hc1]
                    rcases hq.status with h | h <;> simp [hmw, h]
                  rw [e]
                  refine BTo.closed (z := z) 0 _ _ 0 s r tm hc1 (fun w₁ h₁ => ?_)
                  obtain ⟨_, es, hs1, he1, hn⟩ := hg w₁ ((Aside.put c _ _).trans h₁)
                  exact ⟨rfl, es, (stepG_same (h := core g) rfl rfl rfl w₁).trans hs1, he1, hn⟩
              refine Ends.next (hst.trans hrT) (by simp) (hB1 _ _ _ (upd q i m2) ?_ ?_ (pend_close hH))
              · rw [Array.getElem?_setIfInBounds_ne (by omega), Array.getElem?_map, hco.a0]; rfl
              · intro j y hj hy
                by_cases hji : i = j
                · subst hji
                  rw [Array.getElem?_setIfInBounds_self_of_lt (by simpa using hlt)] at hy
                  obtain rfl := Option.some.inj hy
                  rw [upd_same]
                  exact hq
                · rw [Array.getElem?_setIfInBounds_ne hji, Array.getElem?_map] at hy
                  obtain ⟨y', hy', rfl⟩ := Option.map_eq_some_iff.1 hy
                  have := hco.lv j y' hj (Ne.symm hji) hy'
                  rw [woken_quits this, upd_ne q m2 (Ne.symm hji)]
                  exact this
            | cons v vs' =>
              obtain ⟨_, g₂, z', hs, hS2⟩ := hstop
              rcases hA' with ⟨n, rfl, hG⟩ | ⟨rfl, g, rfl, hg⟩
              · have har := goesR_running hG
                have hp : partners (gs.setIfInBounds i ph) c false = [] := by rw [hco.partnersK, offersAt_of_not_blocked (by rw [har]; simp)]; rfl
                have hrT := crowd_waits (P := P) (sl := sl') (i := i) hi (show stepG P (i == 0) x (w.at d) = _ by rw [hkf]; exact hs (w.at d)) (fun cc hcc => by
                  simp only [List.mem_toArray, List.mem_singleton] at hcc
                  subst hcc
                  exact ways_send_none hc' (Nat.le_refl 0) hp)
                exact Ends.next (hst.trans hrT) (by simp) (ih _ _ _ _ _ _ q (n + 1) 0 s r tm hco.setK hc' (.inl ⟨n, rfl, hG⟩) (.inr ⟨rfl, v, vs', g₂, z', rfl, rfl, hS2⟩) (by omega) (by simp only [Array.size_setIfInBounds]; omega) (hush_app hH (mild_none _ _ _)))
              · have hp : partners (gs.setIfInBounds i ph) c false = [(0, 0)] := by rw [hco.partnersK, offersAt_parked_recv]; simp
                have hrT := crowd_send_meets (P := P) (sl := sl') (i := i) hi (show stepG P (i == 0) x (w.at d) = _ by rw [hkf]; exact hs (w.at d)) hc' (j := 0) (by omega) hco.a0 hp
                rw [finishComm_recv, finishComm_send] at hrT
                obtain ⟨_, es, _, _, hn⟩ := hg _ (Aside.refl c _)
                obtain ⟨n2, hn2⟩ := hn ((w.at d).setChan c 0 #[] false (s + 1) (r + 1) tm) (Aside.put c _ _)
                obtain ⟨m2, hm2⟩ := (sdq_iff P c vs' _).1 hS2
                refine Ends.next (hst.trans hrT) (by simp) (IH v vs' rfl _ i _ _ _ _ _ _ q (n2 + 1) (m2 + 1) (s + 1) (r + 1) tm hco.set0.setK (heap_setChan _ _ _ _ _ _ _ _ hclt) (.inl ⟨n2, rfl, hn2⟩) (.inl ⟨m2, rfl, hm2⟩) (by omega) (Nat.lt_succ_self _) (hush_app hH (mild_app (mild_none _ _ _) (mild_comm fun op hop => ?_))))
                simp only [List.mem_toArray, List.mem_cons, List.not_mem_nil, or_false] at hop
                rcases hop with rfl | rfl | rfl | rfl <;> exact ⟨rfl, fun m hm => by cases hm⟩
          · have hrT := runT_crowd_go (P := P) (sl := sl') (i := i) hi (by rw [hkf]; exact hgo (w.at d))
            exact Ends.next (hst.trans hrT) (by simp) (ih _ _ _ _ _ _ q ra (m' + 1) s r tm (hco.moveK (sitR_firm hA' hc')) hc' hA' (.inl ⟨m', rfl, hS'⟩) (by omega) (by simp only [Array.size_setIfInBounds, Array.size_map]; omega) (hush_app hH (mild_none _ _ _)))
        · cases hx
      · have hq := hco.lv i x (by omega) hik hi
        have hif : (i == 0) = false := by simp; omega
        have hlt : i < gs.size := (Array.getElem?_eq_some_iff.1 hi).1
        cases hqi : q i with
        | zero => rw [hqi] at hq; have : x.status = .finished := hq; rw [this] at hx; cases hx
        | succ n =>
          rw [hqi] at hq
          rcases hq with hf | ⟨_, g', hstp, hq'⟩
          · rw [hf] at hx; cases hx
          have hrT := runT_crowd_go (P := P) (sl := sl') (i := i) hi (by rw [hif]; exact hstp (w.at d))
          have hsum : sumTo gs.size (upd q i n) + (n + 1) = sumTo gs.size q + n := by
            have := sumTo_upd q n id hlt
            simpa [hqi] using this
          exact Ends.next (hst.trans hrT) (by simp) (ih _ _ _ _ _ _ (upd q i n) ra rb s r tm (hco.moveL (sitR_firm hA' hc') (sitS_firm hB hc') (by omega) hik hi hq') hc' hA' hB hpos (by simp only [Array.size_setIfInBounds, Array.size_map]; omega) (hush_app hH (mild_none _ _ _)))

theorem pipe_all (vs : List Value) : Pipe P c z Q vs := by
  induction vs with
  | nil => exact pipe_inner [] fun v vs' h => by cases h
  | cons v vs ih => exact pipe_inner (v :: vs) fun v' vs' h => by cases h; exact ih
end Go.Proofs.Ytdemcjppokhonaa
