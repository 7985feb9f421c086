/-
  A round's machine: a worker's step at a stop; a worker's step, whichever. It names no program; no conditions.
  A round's machine: the starter's step, the go statement, an elder one's step. It names no program; no conditions.
-/
import Derived.Test.YtpmmimcafkillaaZTf
set_option linter.unusedVariables false
set_option linter.unusedSimpArgs false
namespace Go.Proofs.Ytpmmimcafkillaa.Tr
open Go Go.Conc Go.ConcN
open Go.ConcR (KK wgBlock WgAt stA smA rd wr mk again_blocked ofEvent_loc_mark ofEvent_cell ofEvent_mk)
open Go.Proofs.Ytpmmimcafkillaa.Mx

section
variable {Y : Lay} {x x' : Th} {sh sh' : Shr} {es : Array Event} {F : Nat → Prop} {o : Option Nat} {gid : Nat} {fn : FuncId} {pos : String}
theorem word_ok {m : Mark} (h1 : (MemAct.mark m).touch? = none) (h2 : m ≠ .release Y.lk) (h3 : m ≠ .release (stA Y.Wg)) : ∀ op ∈ MemOp.ofEvents gid fn pos #[mk m], OkT Y F gid o op := by
  rw [ofEvents_mk1]
  intro op hop
  simp at hop
  subst hop
  exact ⟨rfl, ⟨by simpa using h2, by simpa using h3⟩, fun x hx => by rw [show ({ g := gid, fn, pos, act := MemAct.mark m } : MemOp).act.touch? = none from h1] at hx; cases hx⟩
theorem oft_ok : ∀ op ∈ MemOp.ofEvents gid fn pos #[rd ⟨Y.Lg, 3, none⟩, wr ⟨Y.Lg, 3, none⟩], OkT Y F gid o op := by
  intro op hop
  obtain ⟨e, he, rfl⟩ := of_mem hop
  simp at he
  rcases he with rfl | rfl
  · refine ⟨rfl, ⟨by simp [rd_ev], by simp [rd_ev]⟩, fun y hy => ?_⟩
    simp only [rd_ev, MemAct.touch?, Option.some.injEq] at hy
    subst hy
    exact .inl ⟨⟨_, rfl, .inr ⟨rfl, by simp⟩⟩, by simp, by simp⟩
  · refine ⟨rfl, ⟨by simp [wr_ev], by simp [wr_ev]⟩, fun y hy => ?_⟩
    simp only [wr_ev, MemAct.touch?, Option.some.injEq] at hy
    subst hy
    exact .inl ⟨⟨_, rfl, .inr ⟨rfl, by simp⟩⟩, by simp, by simp⟩
theorem evW_ok (h : EvW Y x x' es) (hq : x ≠ .quit) : ∀ op ∈ MemOp.ofEvents gid fn pos es, OkT Y F gid o op := by
  unfold EvW at h
  split at h
  · subst h; exact word_ok rfl (by simp) (by simp)
  · subst h; exact word_ok rfl (by simp) (by simp)
  · subst h; exact word_ok rfl (by simp) (by simp)
  · subst h; exact word_ok rfl (by simp) (by simp)
  · exact book_ok lb_sh h _ _
  · exact book_ok lb_sh h _ _
  · exact noRoom_ok h _ _
  · subst h; exact oft_ok
  · subst h; exact word_ok rfl (by simp) (by simp)
  · exact book_ok wb_sh h _ _
  · exact absurd rfl hq
theorem evW_deaf (st : TSt x sh x' sh') (h : EvW Y x x' es) : deafBehind (deafT x) es = dq x' := by
  unfold EvW at h
  split at h
  · subst h
    have : dq x' = 0 := by
      cases st
      case lka => rfl
      case lk1 => exact absurd rfl (by assumption)
    rw [this]; rfl
  · subst h
    have : dq x' = 0 := by
      cases st
      case lk2 => rename_i st; cases st; rfl
    rw [this]; rfl
  · subst h
    have : dq x' = 0 := by
      cases st
      case lk1 => rename_i st; cases st; rfl
    rw [this]; rfl
  · subst h
    have : dq x' = 0 := by
      cases st
      case lk2 => rename_i st; cases st; rfl
    rw [this]; rfl
  · exact h.2.1
  · exact h.2.1
  · rw [noRoom_deaf h]
    cases st <;> rfl
  · subst h
    have : dq x' = 0 := by cases st; rfl
    rw [this]; rfl
  · subst h
    have : dq x' = 0 := by cases st; rfl
    rw [this]; rfl
  · exact h.2.1
  · cases st
theorem evW_rel (h : EvW Y x x' es) (hm : muteT x = true) (hq : x ≠ .quit) : ∀ (k : Nat) (e : Event), es[k]? = some e → (MemAct.ofEvent e).touch? = none ∨ ((∃ a wr, e = ⟨.cell a, wr, true⟩ ∧ a.block = Y.Wg) ∧ 0 < deafBehind (deafT x) (es.extract 0 k)) := by
  unfold EvW at h
  split at h <;> try (cases hm; done)
  · intro k e he
    rcases h.2.2 k e he with h0 | h0
    · exact .inl h0
    · rcases h.1 e (Array.mem_of_getElem? he) with h1 | h1 | ⟨a, y, rfl, ha⟩
      · exact .inl (by rw [ofEvent_loc_mark h1]; rfl)
      · exact .inl (by rw [ofEvent_loc_mark h1]; rfl)
      · exact .inr ⟨⟨a, y, rfl, ha⟩, h0⟩
  · exact absurd rfl hq
end

section
variable {P : Program} {Y : Lay} {tL tW : TypeId} {Held : List Nat → World → Prop} {n : Nat} {Fin : (Nat → Prop) → Goroutine → World → Prop} {o0 : Nat}
variable {R : Array Goroutine} {w w' : World} {T : Trace} {sp : Sp} {L : List Wk} {sh sh' : Shr} {log log' : List Nat} {tok tok' : Option Nat} {a : Goroutine} {F0 : Nat → Prop} {K0 f0 d0 : Nat} {qE : Nat → Nat}
variable {k : Nat} {u u' : Wk} {g g' : Goroutine} {es : Array Event} {sl : Option (Nat × Nat)}

theorem sit_after {K s : Nat} {x' : Th} {F' : Nat → Prop} {lg' : List Nat} (h : AfterW P Y tL tW (AtW P Y tL tW Held (K + 1) k) k x' F' lg' g' w') :
    ∃ f, SitW P Y tL tW Held n k ⟨x', F', lg', K, f, dq x'⟩ s g' w' ∧ g'.status = .running := by
  unfold AfterW at h
  split at h
  · rename_i e
    obtain ⟨q, hq⟩ := h
    exact ⟨(n + 2) * q, .inr (.inr ⟨e, q, Nat.le_refl _, by rw [show dq x' = 1 by simp [dq, e]]; exact hq⟩), quitsD_running hq⟩
  · rename_i e
    obtain ⟨m, hm⟩ := h
    exact ⟨(n + 2) * m + 1, .inl ⟨e, by simp [dq, e], m, Nat.le_refl _, hm⟩, Goes.running (fun _ _ x => atW_running x) w' (RF.refl w') hm⟩
theorem sumf_le (c : Nat) {f : Th → Nat} (hf : ∀ x, f x ≤ c) (l : List Th) : sumf f l ≤ c * l.length := by
  induction l with
  | nil => simp [sumf]
  | cons x l ih => rw [sumf_cons, List.length_cons, Nat.mul_add]; have := hf x; omega
theorem oft_le (x : Th) : oftT x ≤ 1 := by cases x <;> simp [oftT]
theorem MI.loc (h : MI P Y tL tW Held n Fin o0 R w T sp L sh log tok a F0 K0 f0 d0 qE) (ho : o0 ≤ 1000) (hk : L[k]? = some u) : LocW u.x sh := by
  refine ⟨sp, ths L, k, h.ci, ths_get hk, ?_, ?_⟩
  · rw [ths_len]; have := len_n h; have := h.nle; omega
  · have := sumf_le 1 oft_le (ths L)
    rw [ths_len] at this
    have := h.oft; have := len_n h; have := h.nle; omega

/-- at a stop -/
theorem moveW (h : MI P Y tL tW Held n Fin o0 R w T sp L sh log tok a F0 K0 f0 d0 qE) (hH : ∀ l (v v' : World), v'.heap[Y.Mp]? = v.heap[Y.Mp]? → Held l v → Held l v') (ho : o0 ≤ 1000) (hk : L[k]? = some u) (hg : R[Y.b + 1 + k]? = some g)
    (hq : u.x ≠ .quit) (hd : u.d = deafT u.x) (hS : WStp P Y tL tW Held (AtW P Y tL tW Held u.K k) k u.x u.F u.lg g w) (hw : ¬ waitsW u.x sh) :
    ∃ m₁ ops, runT P (crowd R w sl) (Y.b + 1 + k) = (.next m₁, ops) ∧ Nxt P Y tL tW Held n Fin o0 (mu n Y sp L sh f0 qE) m₁ (T ++ ops) := by
  have hi0 : (Y.b + 1 + k == 0) = false := by simp
  have hgk := ths_get hk
  have htok := h.tk k u hk
  have notok : u.x = .k1 .la ∨ u.x = .k2 .la → tok = none := fun hla => by
    cases e : tok with
    | none => rfl
    | some g2 =>
      obtain ⟨j, v, hv, rfl⟩ := h.tk0 g2 e
      have ht := (h.tk j v hv).2 e
      have := CI.one h.ci (ths_get hv) hgk (tok_owns ht) (by rcases hla with e | e <;> rw [e] <;> rfl)
      subst this
      rw [hk] at hv; cases hv
      rcases hla with e | e <;> rw [e] at ht <;> cases ht
  obtain ⟨hrun, hoff, hwk, hc1, hc2, hall⟩ := hS
  obtain ⟨x', sh', g', w', es, st, hs, hsh', heff, hev, haft⟩ := (hall sh h.sha (h.loc ho hk)).2 hw log fun hla => h.held (notok hla)
  have hmes := mes_worker (N := n) h.ci (by rw [ths_len]; exact len_n h) hgk st
  have hK := h.mesK k u hk
  obtain ⟨K, eK⟩ : ∃ K, u.K = K + 1 := ⟨u.K - 1, by omega⟩
  rw [eK] at haft
  obtain ⟨f, hsit, hg'⟩ := sit_after (n := n) (s := sh'.s) haft
  have hrunT := runT_crowd_go (P := P) (sl := sl) hg (by rw [hi0]; exact hs)
  have hszN : Y.N ≤ w.heap.size := h.tr.nsz
  have hmp : w'.heap[Y.Mp]? = w.heap[Y.Mp]? := heff.block _ (by have := Y.mpN; omega) Y.lm.symm Y.wm.symm
  have hwake : ∀ z, wakes u.x → (z ∨ (mayWake P g = true ∧ g'.status = .running)) := fun z hz => .inr ⟨hwk hz, hg'⟩
  -- what the trace gives, and the token
  have hops : ∀ op ∈ MemOp.ofEvents (Y.b + 1 + k) g.frame.fn g.frame.place es, OkT Y (Fam Y F0 L (Y.b + 1 + k)) (Y.b + 1 + k) tok op := evW_ok hev hq
  have hfamset : ∀ {al : Bool} {lg : List Nat} {K f d : Nat}, al = false → ∀ gg ff, Fam Y F0 (L.set k ⟨x', addB u.F al w.heap.size, lg, K, f, d⟩) gg ff → Fam Y F0 L gg ff := fun {al} {_} {_} {_} {_} hal => fam_get fun j v hv => by
    rcases set_get hv with ⟨rfl, rfl, _⟩ | ⟨_, hv'⟩
    · exact ⟨u, hk, fun ff hff => hff.elim id fun y => by rw [hal] at y; cases y.1⟩
    · exact ⟨v, hv', fun _ y => y⟩
  have hdeaf : Deaf T (Y.b + 1 + k) = deafT u.x := (h.dfW k u hk).trans hd
  have hTR : ∃ tok', TR Y (Fam Y F0 (L.set k ⟨x', addB u.F (isMk u.x) w.heap.size, if u.x = .k1 .la ∨ u.x = .k2 .la then log else u.lg, K, f, dq x'⟩)) tok' L.length w'.heap.size (T ++ MemOp.ofEvents (Y.b + 1 + k) g.frame.fn g.frame.place es) ∧
      (tokT x' = true ↔ tok' = some (Y.b + 1 + k)) ∧ (tok' = tok ∨ ((∀ g2, tok = some g2 → g2 = Y.b + 1 + k) ∧ (∀ g2, tok' = some g2 → g2 = Y.b + 1 + k))) := by
    by_cases hla : u.x = .k1 .la ∨ u.x = .k2 .la
    · have hes : es = #[mk (.acquire Y.lk)] := by rcases hla with e | e <;> rw [e] at hev <;> exact hev
      have hmk : isMk u.x = false := by rcases hla with e | e <;> rw [e] <;> rfl
      have htn := notok hla
      refine ⟨some (Y.b + 1 + k), ?_, ?_, .inr ⟨fun g2 e => (by rw [htn] at e; cases e), fun g2 e => (Option.some.inj e).symm⟩⟩
      · rw [heff.size, hmk, hes, ofEvents_mk1]
        have := h.tr
        rw [htn] at this
        exact (this.acquire (z := { g := Y.b + 1 + k, fn := g.frame.fn, pos := g.frame.place, act := .mark (.acquire Y.lk) }) (h.actW hk) rfl (by rw [hdeaf]; rcases hla with e | e <;> rw [e] <;> rfl)).less (hfamset rfl)
      · exact ⟨fun _ => rfl, fun _ => (tst_la st hla).1⟩
    by_cases hcs : u.x = .k1 .cs ∨ u.x = .k2 .cs
    · have hes : es = #[mk (.releaseMerge Y.lk)] := by rcases hcs with e | e <;> rw [e] at hev <;> exact hev
      have hmk : isMk u.x = false := by rcases hcs with e | e <;> rw [e] <;> rfl
      have hts := htok.1 (tst_cs st hcs).2
      refine ⟨none, ?_, ?_, .inr ⟨fun g2 e => by rw [hts] at e; exact (Option.some.inj e).symm, fun g2 e => by cases e⟩⟩
      · rw [heff.size, hmk, hes, ofEvents_mk1]
        have := h.tr
        rw [hts] at this
        exact (this.release (y := { g := Y.b + 1 + k, fn := g.frame.fn, pos := g.frame.place, act := .mark (.releaseMerge Y.lk) }) rfl rfl (by rw [hdeaf]; rcases hcs with e | e <;> rw [e] <;> rfl)).less (hfamset rfl)
      · rw [(tst_cs st hcs).1]
        simp
    · have e1 := tst_tok st (fun e => hla (.inl e)) (fun e => hla (.inr e)) (fun e => hcs (.inl e)) (fun e => hcs (.inr e))
      refine ⟨tok, ?_, by rw [e1]; exact htok, .inl rfl⟩
      have hT := h.tr.app (h.actW hk) hops
      rw [heff.size]
      cases hmk : isMk u.x with
      | false => exact hT.less (hfamset rfl)
      | true =>
        refine hT.grow (g := Y.b + 1 + k) fun gg ff hff => ?_
        rcases hff with hff | ⟨j, v, hv, e2, e3⟩
        · exact .inl (.inl hff)
        · rcases set_get hv with ⟨rfl, rfl, _⟩ | ⟨_, hv'⟩
          · rcases e3 with e3 | ⟨_, e3⟩
            · exact .inl (.inr ⟨j, u, hk, e2, e3⟩)
            · exact .inr ⟨e2, e3⟩
          · exact .inl (.inr ⟨j, v, hv', e2, e3⟩)
  obtain ⟨tok', hT', htk', htkn⟩ := hTR
  -- the log
  have hlog : ∃ log', (log'.Nodup ∧ ∀ j, j ∈ log' ↔ (j = k ∧ didT x' = true) ∨ (j ≠ k ∧ j ∈ log)) ∧ (log' = log ∨ ∀ k2 u2, k2 ≠ k → L[k2]? = some u2 → tokT u2.x = false) ∧ (tok' = none → Held log' w') ∧ (tokT x' = true → (if u.x = .k1 .la ∨ u.x = .k2 .la then log else u.lg) = log') := by
    by_cases h2 : u.x = .k2 .cs
    · have ht := (tst_cs st (.inr h2)).2
      have hd' : didT x' = true := by rw [h2] at st; exact tst_did_cs st
      have hlg := h.lg k u hk ht
      have hnk : k ∉ log := fun hin => by
        obtain ⟨v, hv, hdv⟩ := (h.logN.2 k).1 hin
        rw [hk] at hv; cases hv
        rw [h2] at hdv; cases hdv
      refine ⟨log ++ [k], ⟨?_, fun j => ?_⟩, .inr fun k2 u2 hne hk2 => h.tok1 hk hne hk2 ht, fun _ => ?_, fun e => ?_⟩
      · rw [List.nodup_append]
        refine ⟨h.logN.1, by simp, fun a ha b hb e => ?_⟩
        simp at hb
        subst hb e
        exact hnk ha
      · rw [List.mem_append, List.mem_singleton]
        constructor
        · rintro (hj | rfl)
          · by_cases e : j = k
            · subst e; exact absurd hj hnk
            · exact .inr ⟨e, hj⟩
          · exact .inl ⟨rfl, hd'⟩
        · rintro (⟨rfl, _⟩ | ⟨_, hj⟩)
          · exact .inr rfl
          · exact .inl hj
      · have := hc2 h2
        rw [hlg] at this
        exact hH _ _ _ hmp this
      · rw [(tst_cs st (.inr h2)).1] at e; cases e
    · refine ⟨log, logN_same h hk (tst_did st h2), .inl rfl, fun e => ?_, fun e => ?_⟩
      · by_cases h1 : u.x = .k1 .cs
        · have := hc1 h1
          rw [h.lg k u hk (tst_cs st (.inl h1)).2] at this
          exact hH _ _ _ hmp this
        · by_cases hla : u.x = .k1 .la ∨ u.x = .k2 .la
          · have := htk'.1 (tst_la st hla).1
            rw [e] at this; cases this
          · have e1 := tst_tok st (fun e => hla (.inl e)) (fun e => hla (.inr e)) h1 h2
            have hn : tok = none := by
              rcases htkn with e2 | ⟨e2, _⟩
              · rw [← e2]; exact e
              · cases e3 : tok with
                | none => rfl
                | some g2 =>
                  have := e2 g2 e3
                  subst this
                  have := htk'.1 (by rw [e1]; exact htok.2 e3)
                  rw [e] at this; cases this
            exact hH _ _ _ hmp (h.held hn)
      · by_cases hla : u.x = .k1 .la ∨ u.x = .k2 .la
        · rw [if_pos hla]
        · rw [if_neg hla]
          by_cases h1 : u.x = .k1 .cs
          · rw [(tst_cs st (.inl h1)).1] at e; cases e
          · have e1 := tst_tok st (fun e => hla (.inl e)) (fun e => hla (.inr e)) h1 h2
            exact h.lg k u hk (by rw [← e1]; exact e)
  obtain ⟨log', hlN, hlo, hheld, hlg'⟩ := hlog
  have key := MI.stepW (r1 := 1) (.inl rfl) (u' := ⟨x', addB u.F (isMk u.x) w.heap.size, if u.x = .k1 .la ∨ u.x = .k2 .la then log else u.lg, K, f, dq x'⟩) h hk hg (h.ci.worker hgk st) (tst_oft st) (Nat.le_of_lt hmes) (by show mes n sp ((ths L).set k x') sh' ≤ K; omega) hsh'
    (rf_of_eff heff h.f0N hszN hsh') (fun k2 u2 _ hk2 => rf_of_eff heff (h.fN hk2) hszN hsh')
    (fun e => (tst_ws st e).elim .inl fun e2 => hwake _ (.inr e2)) (fun e => (tst_s st e).elim .inl fun e2 => hwake _ (.inl e2)) hsit hT' htk' htkn hheld hlg' hlo hlN ?_ (by rw [hd]; exact evW_deaf st hev)
  · refine ⟨_, _, hrunT, _, _, _, _, _, _, _, _, _, _, _, _, _, _, rfl, key, ?_⟩
    unfold mu
    refine Prod.Lex.left _ _ ?_
    rw [ths_set, ths_up]
    exact hmes
  · intro hmu
    by_cases hwr : u.x = .dn .wr
    · rw [hwr] at hev
      have hes : es = #[mk (.releaseMerge (stA Y.Wg))] := hev
      refine ⟨T.size, ?_⟩
      rw [hes, ofEvents_mk1]
      exact Rel.new h.tr.len rfl rfl (by rw [hdeaf, hwr]; rfl)
    · have hmx : muteT u.x = true := by rw [← tst_mute st hwr]; exact hmu
      obtain ⟨r, hr⟩ := h.rel k u hk hmx
      refine ⟨r, hr.own _ _ es ?_⟩
      rw [hdeaf]
      exact evW_rel hev hmx hq

/-- ████ A WORKER's STEP ████ -/
theorem workerStep (h : MI P Y tL tW Held n Fin o0 R w T sp L sh log tok a F0 K0 f0 d0 qE) (hH : ∀ l (v v' : World), v'.heap[Y.Mp]? = v.heap[Y.Mp]? → Held l v → Held l v') (ho : o0 ≤ 1000) (hk : L[k]? = some u) (hg : R[Y.b + 1 + k]? = some g) (hrun : g.status = .running) :
    ∃ m₁ ops, runT P (crowd R w sl) (Y.b + 1 + k) = (.next m₁, ops) ∧ Nxt P Y tL tW Held n Fin o0 (mu n Y sp L sh f0 qE) m₁ (T ++ ops) := by
  obtain ⟨g2, hg2, hsit⟩ := h.sitW k u hk
  rw [hg] at hg2
  cases hg2
  rcases hsit with ⟨h1, h2, m, h3, hgo⟩ | ⟨_, _, _, _, g₀, e, _⟩ | ⟨h1, q, h2, hQ⟩
  · rcases Goes.cases hgo with hstop | ⟨m', rfl, hst⟩
    · have hS := hstop w (RF.refl w)
      by_cases hw : waitsW u.x sh
      · exact blockW h hk hg h1 h2 (by omega) (Goes.stop hstop) hw ((hS.2.2.2.2.2 sh h.sha (h.loc ho hk)).1 hw)
      · exact moveW h hH ho hk hg h1 h2 hS hw
    · obtain ⟨g', w', es, hs, hD, hgo'⟩ := hst w (RF.refl w)
      exact idleW h hH hk hg h1 h2 h3 hs hD hgo'
  · rw [e] at hrun; cases hrun
  · exact quitW h hk hg h1 h2 hQ hrun
end
end Go.Proofs.Ytpmmimcafkillaa.Tr

set_option linter.unusedVariables false
set_option linter.unusedSimpArgs false
namespace Go.Proofs.Ytpmmimcafkillaa.Tr
open Go Go.Conc Go.ConcN
open Go.ConcR (KK wgBlock WgAt stA smA rd wr mk again_blocked ofEvent_loc_mark ofEvent_cell ofEvent_mk)
open Go.Proofs.Ytpmmimcafkillaa.Mx

section
variable {P : Program} {Y : Lay} {tL tW : TypeId} {Held : List Nat → World → Prop} {n : Nat} {Fin : (Nat → Prop) → Goroutine → World → Prop} {o0 : Nat}
variable {R : Array Goroutine} {w w' : World} {T : Trace} {sp sp' : Sp} {L : List Wk} {sh sh' : Shr} {log log' : List Nat} {tok tok' : Option Nat} {a a' : Goroutine} {F0 F0' : Nat → Prop} {K0 f0 d0 K0' f0' d0' : Nat} {qE : Nat → Nat}
variable {k : Nat} {u u' : Wk} {g g' : Goroutine} {es : Array Event} {sl : Option (Nat × Nat)}

theorem woken_elder {i : Nat} {y y' : Goroutine} (h : MI P Y tL tW Held n Fin o0 R w T sp L sh log tok a F0 K0 f0 d0 qE) (i1 : 1 ≤ i) (ib : i ≤ Y.b) : ∃ z, R[i]? = some z ∧ woken P y y' w' z = z ∧ QuitsD P (qE i) (Deaf T i) z := by
  obtain ⟨z, hz, hq⟩ := h.eld i i1 ib
  exact ⟨z, hz, woken_quitsD hq, hq⟩

theorem MI.stepS {r1 : Nat} (hr1 : r1 = 1 ∨ a'.status = .blocked) (h : MI P Y tL tW Held n Fin o0 R w T sp L sh log tok a F0 K0 f0 d0 qE)
    (ci' : CI sp' (ths L) sh') (cnt' : L.length + rem sp' = n) (oft' : sh'.often = sh.often) (hm : mes n sp' (ths L) sh' ≤ mes n sp (ths L) sh) (hmK : mes n sp' (ths L) sh' ≤ K0') (sha' : ShAt Y tL tW w' sh') (hss : sh'.s = sh.s)
    (rk : ∀ (k : Nat) (u : Wk), L[k]? = some u → RF Y tL tW u.F (tokT u.x) w w') (sit' : SitS P Y tL tW Held n Fin K0' sp' F0' f0' d0' sh'.ws a' w')
    (tr' : TR Y (Fam Y F0' L) tok L.length w'.heap.size (T ++ MemOp.ofEvents 0 a.frame.fn a.frame.place es)) (held' : tok = none → Held log w') (dd : deafBehind d0 es = d0') :
    MI P Y tL tW Held n Fin o0 ((R.map (woken P a a' w')).setIfInBounds 0 a') w' (T ++ MemOp.ofEvents 0 a.frame.fn a.frame.place es) sp' (L.map (Wk.up r1)) sh' log tok a' F0' K0' f0' d0' qE := by
  have ethx : ths (L.map (Wk.up r1)) = ths L := ths_up r1 L
  have elen : (L.map (Wk.up r1)).length = L.length := by simp
  have hsz : 0 < R.size := by rw [h.size]; omega
  have hog : ∀ op ∈ MemOp.ofEvents 0 a.frame.fn a.frame.place es, op.g = 0 := of_g
  have fam : ∀ g f, Fam Y F0' (L.map (Wk.up r1)) g f → Fam Y F0' L g f := fam_get fun j v hv => by
    obtain ⟨u2, hu2, rfl⟩ := up_get hv
    exact ⟨u2, hu2, fun _ x => x⟩
  refine ⟨by simp [h.size], by rw [Array.getElem?_setIfInBounds_self_of_lt (by simpa using hsz)], by rw [ethx]; exact ci', by rw [elen]; exact cnt', h.nle, by rw [ethx, oft']; exact h.oft, by rw [ethx]; exact hmK, ?_, sha', sit', ?_, ?_, by rw [elen]; exact tr'.less fam, ?_, ?_, held', ?_, ⟨h.logN.1, fun j => ?_⟩, ?_, ?_, ?_, ?_⟩
  · intro j v hv
    obtain ⟨u2, hu2, rfl⟩ := up_get hv
    rw [ethx]
    exact Nat.le_trans hm (h.mesK j u2 hu2)
  · intro j v hv
    obtain ⟨u2, hu2, rfl⟩ := up_get hv
    obtain ⟨g2, hg2, hs2⟩ := h.sitW j u2 hu2
    exact ⟨_, by rw [Array.getElem?_setIfInBounds_ne (by omega), Array.getElem?_map, hg2]; rfl, hs2.other hr1 (rk j u2 hu2) fun e => .inl (hss.trans e)⟩
  · intro i i1 ib
    obtain ⟨z, hz, hw, hq⟩ := woken_elder (y := a) (y' := a') (w' := w') h i1 ib
    refine ⟨z, by rw [Array.getElem?_setIfInBounds_ne (by omega), Array.getElem?_map, hz]; simp [hw], ?_⟩
    rw [Deaf_other T (g' := 0) (by omega) _ hog]
    exact hq
  · intro j v hv
    obtain ⟨u2, hu2, rfl⟩ := up_get hv
    exact h.tk j u2 hu2
  · intro g2 hg2
    obtain ⟨j, v, hv, e⟩ := h.tk0 g2 hg2
    exact ⟨j, v.up r1, by rw [List.getElem?_map, hv]; rfl, e⟩
  · intro j v hv ht
    obtain ⟨u2, hu2, rfl⟩ := up_get hv
    exact h.lg j u2 hu2 ht
  · rw [h.logN.2 j]
    constructor
    · rintro ⟨v, hv, hd⟩
      exact ⟨v.up r1, by rw [List.getElem?_map, hv]; rfl, hd⟩
    · rintro ⟨v, hv, hd⟩
      obtain ⟨u2, hu2, rfl⟩ := up_get hv
      exact ⟨u2, hu2, hd⟩
  · intro j v hv hmu
    obtain ⟨u2, hu2, rfl⟩ := up_get hv
    obtain ⟨r, hr⟩ := h.rel j u2 hu2 hmu
    exact ⟨r, hr.other fun op hop => by rw [hog op hop]; omega⟩
  · rw [Deaf_own, h.df0]; exact dd
  · intro j v hv
    obtain ⟨u2, hu2, rfl⟩ := up_get hv
    rw [Deaf_other T (g' := 0) (by omega) _ hog]
    exact h.dfW j u2 hu2
  · intro i hi
    rw [Array.size_setIfInBounds, Array.size_map] at hi
    rw [Deaf_other T (g' := 0) (by omega) _ hog]
    exact h.above i hi

/-- an elder one's step -/
theorem elderStep (h : MI P Y tL tW Held n Fin o0 R w T sp L sh log tok a F0 K0 f0 d0 qE) {i : Nat} (i1 : 1 ≤ i) (ib : i ≤ Y.b) (hg : R[i]? = some g) (hrun : g.status = .running) :
    ∃ m₁ ops, runT P (crowd R w sl) i = (.next m₁, ops) ∧ Nxt P Y tL tW Held n Fin o0 (mu n Y sp L sh f0 qE) m₁ (T ++ ops) := by
  have hi0 : (i == 0) = false := by simp; omega
  obtain ⟨z, hz, hQ⟩ := h.eld i i1 ib
  rw [hg] at hz; cases hz
  cases hqi : qE i with
  | zero => rw [hqi] at hQ; rw [hQ.1] at hrun; cases hrun
  | succ q =>
  rw [hqi] at hQ
  rcases hQ with ⟨h1, _⟩ | ⟨_, g', es, hmu, hst, hQ'⟩
  · rw [h1] at hrun; cases hrun
  have hs := hst w
  have hrunT := runT_crowd_go (P := P) (sl := sl) hg (by rw [hi0]; exact hs)
  have hop : ∀ op ∈ MemOp.ofEvents i g.frame.fn g.frame.place es, op.act.touch? = none ∧ op.act ≠ .mark (.release Y.lk) ∧ op.act ≠ .mark (.release (stA Y.Wg)) := fun op hop => by
    obtain ⟨e, he, rfl⟩ := of_mem hop
    refine ⟨touch_mute (hmu e he), ?_⟩
    have hm := hmu e he
    obtain ⟨loc, x, s⟩ := e
    cases loc with
    | mark m => cases m <;> first | (simp [Event.mute] at hm; done) | exact ⟨by simp [MemAct.ofEvent], by simp [MemAct.ofEvent]⟩
    | _ => simp [Event.mute] at hm
  have hog : ∀ op ∈ MemOp.ofEvents i g.frame.fn g.frame.place es, op.g = i := of_g
  have ethx : ths (L.map (Wk.up 1)) = ths L := ths_up 1 L
  have elen : (L.map (Wk.up 1)).length = L.length := by simp
  have hsz : i < R.size := by rw [h.size]; omega
  have fam : ∀ g f, Fam Y F0 (L.map (Wk.up 1)) g f → Fam Y F0 L g f := fam_get fun j v hv => by
    obtain ⟨u2, hu2, rfl⟩ := up_get hv
    exact ⟨u2, hu2, fun _ x => x⟩
  have key : MI P Y tL tW Held n Fin o0 ((R.map (woken P g g' w)).setIfInBounds i g') w (T ++ MemOp.ofEvents i g.frame.fn g.frame.place es) sp (L.map (Wk.up 1)) sh log tok (woken P g g' w a) F0 K0 (f0 + 1) d0 (upd qE i q) := by
    refine ⟨by simp [h.size], by rw [Array.getElem?_setIfInBounds_ne (by omega), Array.getElem?_map, h.r0]; rfl, by rw [ethx]; exact h.ci, by rw [elen]; exact h.cnt, h.nle, by rw [ethx]; exact h.oft, by rw [ethx]; exact h.mes0, ?_, h.sha, h.sit0.other (.inl rfl) (RF.refl w) .inl, ?_, ?_, by rw [elen]; exact (h.tr.elder i1 ib hog (fun op ho => (hop op ho).1) (fun op ho => (hop op ho).2)).less fam, ?_, ?_, h.held, ?_, ⟨h.logN.1, fun j => ?_⟩, ?_, ?_, ?_, ?_⟩
    · intro j v hv
      obtain ⟨u2, hu2, rfl⟩ := up_get hv
      rw [ethx]
      exact h.mesK j u2 hu2
    · intro j v hv
      obtain ⟨u2, hu2, rfl⟩ := up_get hv
      obtain ⟨g2, hg2, hs2⟩ := h.sitW j u2 hu2
      exact ⟨_, by rw [Array.getElem?_setIfInBounds_ne (by omega), Array.getElem?_map, hg2]; rfl, hs2.other (.inl rfl) (RF.refl w) .inl⟩
    · intro j j1 jb
      by_cases e : i = j
      · subst e
        rw [Array.getElem?_setIfInBounds_self_of_lt (by simpa using hsz)]
        exact ⟨g', rfl, by rw [upd_same, Deaf_own]; exact hQ'⟩
      · obtain ⟨z, hz, hw, hq⟩ := woken_elder (y := g) (y' := g') (w' := w) h j1 jb
        refine ⟨z, by rw [Array.getElem?_setIfInBounds_ne e, Array.getElem?_map, hz]; simp [hw], ?_⟩
        rw [Deaf_other T (g' := i) (by omega) _ hog, upd_ne _ _ (Ne.symm e)]
        exact hq
    · intro j v hv
      obtain ⟨u2, hu2, rfl⟩ := up_get hv
      exact h.tk j u2 hu2
    · intro g2 hg2
      obtain ⟨j, v, hv, e⟩ := h.tk0 g2 hg2
      exact ⟨j, v.up 1, by rw [List.getElem?_map, hv]; rfl, e⟩
    · intro j v hv ht
      obtain ⟨u2, hu2, rfl⟩ := up_get hv
      exact h.lg j u2 hu2 ht
    · rw [h.logN.2 j]
      constructor
      · rintro ⟨v, hv, hd⟩
        exact ⟨v.up 1, by rw [List.getElem?_map, hv]; rfl, hd⟩
      · rintro ⟨v, hv, hd⟩
        obtain ⟨u2, hu2, rfl⟩ := up_get hv
        exact ⟨u2, hu2, hd⟩
    · intro j v hv hmu
      obtain ⟨u2, hu2, rfl⟩ := up_get hv
      obtain ⟨r, hr⟩ := h.rel j u2 hu2 hmu
      exact ⟨r, hr.still fun op ho => (hop op ho).1⟩
    · rw [Deaf_other T (g' := i) (by omega) _ hog]; exact h.df0
    · intro j v hv
      obtain ⟨u2, hu2, rfl⟩ := up_get hv
      rw [Deaf_other T (g' := i) (by omega) _ hog]
      exact h.dfW j u2 hu2
    · intro j hj
      rw [Array.size_setIfInBounds, Array.size_map] at hj
      rw [Deaf_other T (g' := i) (by omega) _ hog]
      exact h.above j hj
  refine ⟨_, _, hrunT, _, _, _, _, _, _, _, _, _, _, _, _, _, _, rfl, key, ?_⟩
  unfold mu
  rw [ethx]
  refine .right _ ?_
  have h1 := sum_up 1 L
  have h2 : sumTo (Y.b + 1) (upd qE i q) + (q + 1) = sumTo (Y.b + 1) qE + q := by
    have := sumTo_upd qE q id (show i < Y.b + 1 by omega)
    simpa [hqi] using this
  have hn := len_n h
  have h3 : (n + 2) * sumTo (Y.b + 1) (upd qE i q) + (n + 2) = (n + 2) * sumTo (Y.b + 1) qE := by
    have : sumTo (Y.b + 1) qE = sumTo (Y.b + 1) (upd qE i q) + 1 := by omega
    rw [this, Nat.mul_succ]
  omega

set_option maxHeartbeats 2000000 in
/-- THE go STATEMENT -/
theorem spawnStep (h : MI P Y tL tW Held n Fin o0 R w T sp L sh log tok a F0 K0 f0 d0 qE) {r : Nat} (hsp : sp = .go (r + 1)) {child : Goroutine} {Fc : Nat → Prop} {m : Nat} (hK : K0 = K0' + 1)
    (hs : stepG P true a w = .spawn a' child w #[]) (hF0 : ∀ f, F0' f → F0 f) (hFc : ∀ f, Fc f → F0 f ∧ ¬ F0' f) (hW : Works P Y tL tW Held (n - (r + 1)) Fc child w) (hgo : GoS P Y tL tW F0' (AtS P Y tL tW Held n Fin K0 (nxt r) F0') m a' w) (hd : d0 = 0) :
    ∃ m₁ ops, runT P (crowd R w sl) 0 = (.next m₁, ops) ∧ Nxt P Y tL tW Held n Fin o0 (mu n Y sp L sh f0 qE) m₁ (T ++ ops) := by
  subst hsp
  have hcnt := h.cnt
  simp only [rem] at hcnt
  have hrunT := runT_crowd_spawn (P := P) (sl := sl) (i := 0) h.r0 (show stepG P (0 == 0) a w = _ from hs)
  rw [h.size] at hrunT
  have hsz : 0 < R.size := by rw [h.size]; omega
  have ej : n - (r + 1) = L.length := by omega
  rw [ej] at hW
  have hmes := mes_spawn (N := n) (r := r) (ths := ths L) (sh := sh) (by rw [ths_len]; omega)
  obtain ⟨mc, hmc⟩ := hW (K0' + 1)
  have eops : ((MemOp.ofEvents 0 a.frame.fn a.frame.place #[]).push { g := 0, fn := a.frame.fn, pos := a.frame.place, act := .go (Y.b + 1 + L.length) }).push { g := Y.b + 1 + L.length, fn := child.frame.fn, pos := a.frame.place, act := .start } = (#[{ g := 0, fn := a.frame.fn, pos := a.frame.place, act := .go (Y.b + 1 + L.length) }, { g := Y.b + 1 + L.length, fn := child.frame.fn, pos := a.frame.place, act := .start }] : Trace) := by
    rw [ofEvents_eq]; simp
  rw [eops] at hrunT
  generalize hops : (#[{ g := 0, fn := a.frame.fn, pos := a.frame.place, act := .go (Y.b + 1 + L.length) }, { g := Y.b + 1 + L.length, fn := child.frame.fn, pos := a.frame.place, act := .start }] : Trace) = ops at hrunT
  have hop : ∀ op ∈ ops, (op.g = 0 ∨ op.g = Y.b + 1 + L.length) ∧ op.act.touch? = none ∧ op.act ≠ .mark .disable ∧ op.act ≠ .mark .enable := by
    rw [← hops]
    intro op ho
    simp at ho
    rcases ho with rfl | rfl <;> refine ⟨by simp, rfl, by simp, by simp⟩
  have hdf : ∀ gid, Deaf (T ++ ops) gid = Deaf T gid := fun gid => Deaf_still _ _ _ fun op ho => (hop op ho).2.2
  have eth : ths (L ++ [⟨.k1 .ld, Fc, [], K0', (n + 2) * mc + 1, 0⟩]) = ths L ++ [.k1 .ld] := by simp [ths]
  have snoc : ∀ {j : Nat} {v : Wk}, (L ++ [(⟨.k1 .ld, Fc, [], K0', (n + 2) * mc + 1, 0⟩ : Wk)])[j]? = some v → L[j]? = some v ∨ (j = L.length ∧ v = ⟨.k1 .ld, Fc, [], K0', (n + 2) * mc + 1, 0⟩) := fun {j v} hv => by
    rcases Nat.lt_trichotomy j L.length with e | e | e
    · rw [List.getElem?_append_left e] at hv; exact .inl hv
    · subst e
      rw [List.getElem?_append_right (Nat.le_refl _)] at hv
      simp at hv
      exact .inr ⟨rfl, hv.symm⟩
    · rw [List.getElem?_eq_none (by simp; omega)] at hv; cases hv
  have old : ∀ {j : Nat} {v : Wk}, L[j]? = some v → (L ++ [(⟨.k1 .ld, Fc, [], K0', (n + 2) * mc + 1, 0⟩ : Wk)])[j]? = some v := fun hv => by rw [List.getElem?_append_left (lt_get hv)]; exact hv
  have hmes' : mes n (nxt r) (ths L ++ [.k1 .ld]) sh < mes n (.go (r + 1)) (ths L) sh := hmes
  have hle : mes n (nxt r) (ths L ++ [.k1 .ld]) sh ≤ K0' := by
    have h0 := h.mes0
    rw [hK] at h0
    exact Nat.le_of_lt_succ (Nat.lt_of_lt_of_le hmes' h0)
  have hRold : ∀ {i : Nat} {z : Goroutine}, 0 < i → R[i]? = some z → ((R.setIfInBounds 0 a').push child)[i]? = some z := fun {i z} hi hz => by
    have hlt := (Array.getElem?_eq_some_iff.1 hz).1
    rw [Array.getElem?_push_lt (by simpa using hlt), ← Array.getElem?_eq_getElem, Array.getElem?_setIfInBounds_ne (by omega)]
    exact hz
  have hcl : ∀ j v, L[j]? = some v → Y.b + 1 + j ≠ Y.b + 1 + L.length := fun j v hv => by have := lt_get hv; omega
  have famOf : ∀ g f, Fam Y F0' (L ++ [(⟨.k1 .ld, Fc, [], K0', (n + 2) * mc + 1, 0⟩ : Wk)]) g f → (Fam Y F0 L g f ∧ g ≠ Y.b + L.length + 1 ∧ (g = 0 → F0' f)) ∨ (g = Y.b + L.length + 1 ∧ Fc f) := by
    rintro g f (⟨h1, h2⟩ | ⟨j, v, hv, h1, h2⟩)
    · exact .inl ⟨.inl ⟨h1, hF0 f h2⟩, by omega, fun _ => h2⟩
    · rcases snoc hv with hv' | ⟨e, rfl⟩
      · exact .inl ⟨.inr ⟨j, v, hv', h1, h2⟩, by have := hcl j v hv'; omega, fun e => by omega⟩
      · exact .inr ⟨by omega, h2⟩
  have key : MI P Y tL tW Held n Fin o0 ((R.setIfInBounds 0 a').push child) w (T ++ ops) (nxt r) (L ++ [⟨.k1 .ld, Fc, [], K0', (n + 2) * mc + 1, 0⟩]) sh log tok a' F0' K0' ((n + 2) * m + 1) 0 qE := by
    have erem : rem (nxt r) = r := by cases r <;> rfl
    have eds : deafS (nxt r) = 0 := by cases r <;> rfl
    have hne3 : nxt r ≠ .w3 := by cases r <;> simp [nxt]
    refine ⟨by simp [h.size]; omega, ?_, by rw [eth]; exact h.ci.spawn, by rw [List.length_append, erem]; simp; omega, h.nle, by rw [eth, sumf_snoc]; have := h.oft; simpa [oftT] using this, by rw [eth]; exact hle, ?_, h.sha, .inl ⟨eds.symm, m, Nat.le_refl _, by rw [← hK]; exact hgo⟩, ?_, ?_, ?_, ?_, ?_, h.held, ?_, ⟨h.logN.1, fun j => ?_⟩, ?_, ?_, ?_, ?_⟩
    · rw [Array.getElem?_push_lt (by simpa using hsz), ← Array.getElem?_eq_getElem, Array.getElem?_setIfInBounds_self_of_lt hsz]
    · intro j v hv
      rw [eth]
      rcases snoc hv with hv' | ⟨_, rfl⟩
      · exact Nat.le_trans (Nat.le_of_lt hmes') (h.mesK j v hv')
      · exact hle
    · intro j v hv
      rcases snoc hv with hv' | ⟨rfl, rfl⟩
      · obtain ⟨g2, hg2, hs2⟩ := h.sitW j v hv'
        exact ⟨g2, hRold (by omega) hg2, hs2⟩
      · refine ⟨child, ?_, .inl ⟨by simp, rfl, mc, Nat.le_refl _, hmc⟩⟩
        have e1 : ((R.setIfInBounds 0 a').push child)[(R.setIfInBounds 0 a').size]? = some child := Array.getElem?_push_size
        have e2 : (R.setIfInBounds 0 a').size = Y.b + 1 + L.length := by simp [h.size]
        rw [e2] at e1
        exact e1
    · intro i i1 ib
      obtain ⟨z, hz, hq⟩ := h.eld i i1 ib
      exact ⟨z, hRold (by omega) hz, by rw [hdf]; exact hq⟩
    · rw [List.length_append]
      rw [← hops]
      refine h.tr.fork ⟨rfl, by simp; omega⟩ ⟨by simp; omega, rfl⟩ (by rw [h.df0]; exact hd) (h.above _ (by rw [h.size]; omega)) (fun g f hf => ?_) (fun g1 g2 f h1 h2 => ?_)
      · rcases famOf g f hf with ⟨k1, k2, _⟩ | ⟨k1, k2⟩
        · exact .inl ⟨k1, k2⟩
        · exact .inr ⟨k1, .inl ⟨rfl, (hFc f k2).1⟩⟩
      · rcases famOf g1 f h1 with ⟨k1, k2, k3⟩ | ⟨k1, k2⟩ <;> rcases famOf g2 f h2 with ⟨k4, k5, k6⟩ | ⟨k4, k5⟩
        · exact h.tr.fd g1 g2 f k1 k4
        · exfalso
          have := h.tr.fd g1 0 f k1 (.inl ⟨rfl, (hFc f k5).1⟩)
          exact (hFc f k5).2 (k3 this)
        · exfalso
          have := h.tr.fd g2 0 f k4 (.inl ⟨rfl, (hFc f k2).1⟩)
          exact (hFc f k2).2 (k6 this)
        · omega
    · intro j v hv
      rcases snoc hv with hv' | ⟨rfl, rfl⟩
      · exact h.tk j v hv'
      · refine ⟨fun e => (by cases e), fun e => ?_⟩
        obtain ⟨j, v, hv', e2⟩ := h.tk0 _ e
        exact absurd e2.symm (hcl j v hv')
    · intro g2 hg2
      obtain ⟨j, v, hv, e⟩ := h.tk0 g2 hg2
      exact ⟨j, v, old hv, e⟩
    · intro j v hv ht
      rcases snoc hv with hv' | ⟨_, rfl⟩
      · exact h.lg j v hv' ht
      · cases ht
    · rw [h.logN.2 j]
      constructor
      · rintro ⟨v, hv, hd⟩
        exact ⟨v, old hv, hd⟩
      · rintro ⟨v, hv, hd⟩
        rcases snoc hv with hv' | ⟨_, rfl⟩
        · exact ⟨v, hv', hd⟩
        · cases hd
    · intro j v hv hmu
      rcases snoc hv with hv' | ⟨_, rfl⟩
      · obtain ⟨r, hr⟩ := h.rel j v hv' hmu
        exact ⟨r, hr.still fun op ho => (hop op ho).2.1⟩
      · cases hmu
    · rw [hdf, h.df0]; exact hd
    · intro j v hv
      rw [hdf]
      rcases snoc hv with hv' | ⟨rfl, rfl⟩
      · exact h.dfW j v hv'
      · exact h.above _ (by rw [h.size]; exact Nat.le_refl _)
    · intro i hi
      rw [hdf]
      exact h.above i (by simp at hi; omega)
  refine ⟨_, _, hrunT, _, _, _, _, _, _, _, _, _, _, _, _, _, _, rfl, key, ?_⟩
  unfold mu
  rw [eth]
  exact Prod.Lex.left _ _ hmes'
end
end Go.Proofs.Ytpmmimcafkillaa.Tr
