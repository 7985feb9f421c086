/-
  A round's machine: the starter's step, whichever; the run: from a round's beginning to behind its join, on whatever tape. It names no program; no conditions.
  A round's machine: its beginning: goroutine 0 ahead of the first worker, elder ones that only leave, a prefix that goroutine 0 knows. It names no program; no conditions.
-/
import Derived.Test.YtpmmimcafkillaaZTh
set_option linter.unusedVariables false
set_option linter.unusedSimpArgs false
namespace Go.Proofs.Ytpmmimcafkillaa.Tr
open Go Go.Conc Go.ConcN
open Go.ConcR (KK wgBlock WgAt stA smA rd wr mk again_blocked ofEvent_loc_mark ofEvent_cell ofEvent_mk)
open Go.Proofs.Ytpmmimcafkillaa.Mx

section
variable (P : Program) (Y : Lay) (tL tW : TypeId) (Held : List Nat → World → Prop) (n : Nat) (Fin : (Nat → Prop) → Goroutine → World → Prop) (o0 : Nat)
/-- behind the join -/
def Done (m' : Machine) (T' : Trace) : Prop := ∃ R' w' sl' q' a' F log sh, m' = crowd R' w' sl' ∧ R'[0]? = some a' ∧ Fin F a' w' ∧ Leavers P T' R' q' ∧
  ((∀ said, ¬ Race said T') ∧ (∀ i a, touchAt T' i = some a → a.loc.isMemory = true → Knows T' 0 i ∨ (Sn (fun b => Y.S b ∨ b = Y.Wg) a.loc ∧ a.kind = .atomic)) ∧ T'.HandedOver) ∧ Deaf T' 0 = 0 ∧
  Held log w' ∧ (log.Nodup ∧ ∀ k, k ∈ log ↔ k < n) ∧ ShAt Y tL tW w' sh ∧ sh = ⟨Mu.free, 0, 0, 0, 0, o0 + n⟩
end
theorem sst_rem {sp sp' : Sp} {sh sh' : Shr} (st : SSt sp sh sp' sh') : rem sp' = rem sp := by cases st <;> rfl
theorem sst_oft {sp sp' : Sp} {sh sh' : Shr} (st : SSt sp sh sp' sh') : sh'.often = sh.often ∧ sh'.s = sh.s := by cases st <;> exact ⟨rfl, rfl⟩

section
variable {P : Program} {Y : Lay} {tL tW : TypeId} {Held : List Nat → World → Prop} {n : Nat} {Fin : (Nat → Prop) → Goroutine → World → Prop} {o0 : Nat}
variable {R : Array Goroutine} {w w' : World} {T : Trace} {sp sp' : Sp} {L : List Wk} {sh sh' : Shr} {log log' : List Nat} {tok tok' : Option Nat} {a a' : Goroutine} {F0 F0' : Nat → Prop} {K0 f0 d0 K0' f0' d0' : Nat} {qE : Nat → Nat}
variable {k : Nat} {u u' : Wk} {g g' : Goroutine} {es : Array Event} {sl : Option (Nat × Nat)}

theorem evS_ok {gid : Nat} {F : Nat → Prop} {o : Option Nat} {fn : FuncId} {pos : String} (h : EvS Y sp sp' es) : ∀ op ∈ MemOp.ofEvents gid fn pos es, OkT Y F gid o op := by
  unfold EvS at h
  split at h
  · exact noRoom_ok h _ _
  · subst h; exact word_ok rfl (by simp) (by simp)
  · exact book_ok wb_sh h _ _
theorem evS_deaf (st : SSt sp sh sp' sh') (h : EvS Y sp sp' es) : deafBehind (deafS sp) es = deafS sp' := by
  unfold EvS at h
  split at h
  · rw [noRoom_deaf h]; cases st; rfl
  · subst h; cases st; rfl
  · exact h.2.1
theorem MI.locS (h : MI P Y tL tW Held n Fin o0 R w T sp L sh log tok a F0 K0 f0 d0 qE) (ho : o0 ≤ 1000) : LocS sp sh := by
  refine ⟨ths L, h.ci, ?_, ?_⟩
  · rw [ths_len]; have := len_n h; have := h.nle; omega
  · have := sumf_le 1 oft_le (ths L)
    rw [ths_len] at this
    have := h.oft; have := len_n h; have := h.nle; omega
theorem act0 (Y : Lay) (j : Nat) : Y.Act j 0 := .inl rfl
theorem fam0 {F0 : Nat → Prop} {L : List Wk} {f : Nat} (hf : F0 f) : Fam Y F0 L 0 f := .inl ⟨rfl, hf⟩

/-- the starter, between stops -/
theorem idleS (h : MI P Y tL tW Held n Fin o0 R w T sp L sh log tok a F0 K0 f0 d0 qE) (hH : ∀ l (v v' : World), v'.heap[Y.Mp]? = v.heap[Y.Mp]? → Held l v → Held l v') {m' : Nat} (hd : d0 = deafS sp) (hf : (n + 2) * (m' + 1) + 1 ≤ f0)
    (hs : stepG P true a w = .go a' w' es) (hD : DF Y 0 F0 false false w w' es) (hgo : GoS P Y tL tW F0 (AtS P Y tL tW Held n Fin (K0 + 1) sp F0) m' a' w') :
    ∃ m₁ ops, runT P (crowd R w sl) 0 = (.next m₁, ops) ∧ Nxt P Y tL tW Held n Fin o0 (mu n Y sp L sh f0 qE) m₁ (T ++ ops) := by
  have hrun := runT_crowd_go (P := P) (sl := sl) h.r0 (show stepG P (0 == 0) a w = _ from hs)
  have hN : ∀ f, F0 f → Y.N ≤ f := fun f hf => (h.f0N f hf).1
  have key := MI.stepS (r1 := 1) (.inl rfl) (f0' := f0 - (n + 2)) (es := es) h h.ci h.cnt rfl (Nat.le_refl _) h.mes0 (sha_of_df hD hN h.sha) rfl
    (fun k u hk => rf_of_df hD hN (fun f h2 h1 => h.dis0 hk f h1 h2) (fun f hf => (h.fN hk f hf).1) (fun _ => rfl))
    (.inl ⟨hd, m', by show _ ≤ f0 - (n + 2); have : (n + 2) * (m' + 1) = (n + 2) * m' + (n + 2) := Nat.mul_succ _ _; omega, hgo⟩)
    ?_ (fun e => hH _ _ _ (hD.out _ (fun x => by have := hN _ x; have := Y.mpN; omega) (fun x => by cases x)) (h.held e)) (deafBehind_still (fun e he => (hD.ev e he).2) _)
  · refine ⟨_, _, hrun, _, _, _, _, _, _, _, _, _, _, _, _, _, _, rfl, key, ?_⟩
    unfold mu
    rw [ths_up]
    refine .right _ ?_
    have h1 := sum_up 1 L
    have hn := len_n h
    have : (n + 2) * (m' + 1) = (n + 2) * m' + (n + 2) := Nat.mul_succ _ _
    omega
  · rw [hD.size]
    refine h.tr.app (act0 Y _) fun op hop => ?_
    obtain ⟨e, he, rfl⟩ := of_mem hop
    exact okT_mono ((hD.ev e he).1 _ _ tok fun x => by cases x) fun f hf => fam0 hf

/-- it waits -/
theorem blockS (h : MI P Y tL tW Held n Fin o0 R w T .w3 L sh log tok a F0 K0 f0 d0 qE) (hd : d0 = 1) (hf : 1 ≤ f0) (hgo : GoS P Y tL tW F0 (AtS P Y tL tW Held n Fin (K0 + 1) .w3 F0) 0 a w) (hw : sh.ws = 0) (hs : stepG P true a w = .go { a with status := .blocked } w #[]) :
    ∃ m₁ ops, runT P (crowd R w sl) 0 = (.next m₁, ops) ∧ Nxt P Y tL tW Held n Fin o0 (mu n Y .w3 L sh f0 qE) m₁ (T ++ ops) := by
  have hrun := runT_crowd_go (P := P) (sl := sl) h.r0 (show stepG P (0 == 0) a w = _ from hs)
  have key := MI.stepS (r1 := 0) (.inr rfl) (f0' := 0) (es := #[]) (w' := w) (a' := { a with status := .blocked }) h h.ci h.cnt rfl (Nat.le_refl _) h.mes0 h.sha rfl (fun k u hk => RF.refl w) (.inr ⟨hd, rfl, hw, a, rfl, hgo⟩)
    (h.tr.app (act0 Y _) fun op hop => by obtain ⟨e, he, _⟩ := of_mem hop; simp at he) h.held rfl
  refine ⟨_, _, hrun, _, _, _, _, _, _, _, _, _, _, _, _, _, _, rfl, key, ?_⟩
  unfold mu
  rw [ths_up]
  refine .right _ ?_
  have h1 := sum_up 0 L
  omega

/-- at a stop -/
theorem moveS (h : MI P Y tL tW Held n Fin o0 R w T sp L sh log tok a F0 K0 f0 d0 qE) (hH : ∀ l (v v' : World), v'.heap[Y.Mp]? = v.heap[Y.Mp]? → Held l v → Held l v') (hd : d0 = deafS sp) (st : SSt sp sh sp' sh') (hs : stepG P true a w = .go a' w' es) (hsh : ShAt Y tL tW w' sh') (heff : Eff Y (isBx sp) w w') (hev : EvS Y sp sp' es)
    {m : Nat} (hgo : GoS P Y tL tW (addB F0 (isBx sp) w.heap.size) (AtS P Y tL tW Held n Fin K0 sp' (addB F0 (isBx sp) w.heap.size)) m a' w') :
    ∃ m₁ ops, runT P (crowd R w sl) 0 = (.next m₁, ops) ∧ Nxt P Y tL tW Held n Fin o0 (mu n Y sp L sh f0 qE) m₁ (T ++ ops) := by
  have hrun := runT_crowd_go (P := P) (sl := sl) h.r0 (show stepG P (0 == 0) a w = _ from hs)
  have hmes := mes_starter (N := n) (ths := ths L) (by rw [ths_len]; exact len_n h) st
  have hK := h.mes0
  obtain ⟨K, eK⟩ : ∃ K, K0 = K + 1 := ⟨K0 - 1, by omega⟩
  have hle : mes n sp' (ths L) sh' ≤ K := by rw [eK] at hK; exact Nat.le_of_lt_succ (Nat.lt_of_lt_of_le hmes hK)
  rw [eK] at hgo
  have hszN : Y.N ≤ w.heap.size := h.tr.nsz
  have hmp : w'.heap[Y.Mp]? = w.heap[Y.Mp]? := heff.block _ (by have := Y.mpN; omega) Y.lm.symm Y.wm.symm
  have key := MI.stepS (r1 := 1) (.inl rfl) (K0' := K) (F0' := addB F0 (isBx sp) w.heap.size) (f0' := (n + 2) * m + 1) (es := es) h (h.ci.starter st) (by rw [sst_rem st]; exact h.cnt) (sst_oft st).1 (Nat.le_of_lt hmes) hle hsh (sst_oft st).2
    (fun k u hk => rf_of_eff heff (h.fN hk) hszN hsh) (.inl ⟨rfl, m, Nat.le_refl _, hgo⟩) ?_ (fun e => hH _ _ _ hmp (h.held e)) (by rw [hd]; exact evS_deaf st hev)
  · refine ⟨_, _, hrun, _, _, _, _, _, _, _, _, _, _, _, _, _, _, rfl, key, ?_⟩
    unfold mu
    rw [ths_up]
    exact Prod.Lex.left _ _ hmes
  · have hT := h.tr.app (u := MemOp.ofEvents 0 a.frame.fn a.frame.place es) (act0 Y _) (evS_ok hev)
    rw [heff.size]
    cases hbx : isBx sp with
    | false =>
      refine hT.less fun gg ff hff => ?_
      rcases hff with ⟨e1, e2 | ⟨e2, _⟩⟩ | hff
      · exact .inl ⟨e1, e2⟩
      · cases e2
      · exact .inr hff
    | true =>
      refine hT.grow (g := 0) fun gg ff hff => ?_
      rcases hff with ⟨e1, e2 | ⟨_, e2⟩⟩ | hff
      · exact .inl (.inl ⟨e1, e2⟩)
      · exact .inr ⟨e1, e2⟩
      · exact .inl (.inr hff)

/-- the join -/
theorem doneS (h : MI P Y tL tW Held n Fin o0 R w T .aq L sh log tok a F0 K0 f0 d0 qE) (hd : d0 = 0) {F : Nat → Prop} (hs : stepG P true a w = .go a' w #[mk (.acquire (stA Y.Wg))]) (hF : Fin F a' w) :
    ∃ m₁ ops, runT P (crowd R w sl) 0 = (.next m₁, ops) ∧ Done P Y tL tW Held n Fin o0 m₁ (T ++ ops) := by
  have hrun := runT_crowd_go (P := P) (sl := sl) h.r0 (show stepG P (0 == 0) a w = _ from hs)
  have hq := h.ci.all (.inr (.inr (.inl rfl)))
  have hxq : ∀ (k : Nat) (u : Wk), L[k]? = some u → u.x = .quit := fun k u hk => hq _ (mem_ths hk)
  have hlen : L.length = n := by have := h.cnt; simp [rem] at this; exact this
  obtain ⟨hm, hs0, hc0, hwt, hws⟩ := h.ci.free (.inr (.inr (.inl rfl)))
  have htok : tok = none := by
    cases e : tok with
    | none => rfl
    | some g2 =>
      obtain ⟨j, v, hv, rfl⟩ := h.tk0 g2 e
      have := (h.tk j v hv).2 e
      rw [hxq j v hv] at this; cases this
  have hrel : ∀ k, 1 ≤ k → k ≤ L.length → ∃ r, Rel Y T (Y.b + k) r := fun k k1 kl => by
    have hlt : k - 1 < L.length := by omega
    obtain ⟨r, hr⟩ := h.rel (k - 1) _ (List.getElem?_eq_getElem hlt) (by rw [hxq _ _ (List.getElem?_eq_getElem hlt)]; rfl)
    exact ⟨r, by rw [show Y.b + k = Y.b + 1 + (k - 1) by omega]; exact hr⟩
  have hd0 : Deaf T 0 = 0 := by rw [h.df0, hd]
  have hfin := h.tr.fin hd0 hrel (z := { g := 0, fn := a.frame.fn, pos := a.frame.place, act := .mark (.acquire (stA Y.Wg)) }) rfl rfl
  rw [ofEvents_mk1] at hrun
  have hdf : ∀ gid, Deaf (T ++ #[({ g := 0, fn := a.frame.fn, pos := a.frame.place, act := .mark (.acquire (stA Y.Wg)) } : MemOp)]) gid = Deaf T gid := fun gid => Deaf_still _ _ _ fun op ho => by simp at ho; subst ho; simp
  have hsz : 0 < R.size := by rw [h.size]; omega
  have hex : ∀ i, ∃ qi, ∀ g, 1 ≤ i → R[i]? = some g → QuitsD P qi (Deaf T i) g := fun i => by
    by_cases i1 : 1 ≤ i
    · by_cases ib : i ≤ Y.b
      · obtain ⟨z, hz, hQ⟩ := h.eld i i1 ib
        exact ⟨qE i, fun g _ hg => by rw [hz] at hg; cases hg; exact hQ⟩
      · by_cases il : i - (Y.b + 1) < L.length
        · obtain ⟨g2, hg2, hsit⟩ := h.sitW (i - (Y.b + 1)) _ (List.getElem?_eq_getElem il)
          have hx := hxq _ _ (List.getElem?_eq_getElem il)
          have hdw := h.dfW _ _ (List.getElem?_eq_getElem il)
          rw [show Y.b + 1 + (i - (Y.b + 1)) = i by omega] at hg2 hdw
          rcases hsit with ⟨e, _⟩ | ⟨e, _⟩ | ⟨_, q, _, hQ⟩
          · exact absurd hx e
          · exact absurd hx e
          · exact ⟨q, fun g _ hg => by rw [hg2] at hg; cases hg; rw [hdw]; exact hQ⟩
        · exact ⟨0, fun g _ hg => by
            have := (Array.getElem?_eq_some_iff.1 hg).1
            rw [h.size] at this
            omega⟩
    · exact ⟨0, fun g e => absurd e i1⟩
  refine ⟨_, _, hrun, (R.map (woken P a a' w)).setIfInBounds 0 a', w, sl, fun i => (hex i).choose, a', F, log, sh, rfl, by rw [Array.getElem?_setIfInBounds_self_of_lt (by simpa using hsz)], hF, ⟨fun i g hi hg => ?_, fun j hj => ?_⟩, hfin, (hdf 0).trans hd0, h.held htok, ⟨h.logN.1, fun k => ?_⟩, h.sha, ?_⟩
  · rw [Array.getElem?_setIfInBounds_ne (by omega), Array.getElem?_map] at hg
    obtain ⟨y, hy, rfl⟩ := Option.map_eq_some_iff.1 hg
    have hqy := (hex i).choose_spec y (by omega) hy
    rw [woken_quitsD hqy, hdf]
    exact hqy
  · rw [hdf]
    exact h.above j (by simpa using hj)
  · rw [h.logN.2 k]
    constructor
    · rintro ⟨u, hu, _⟩
      have := lt_get hu
      omega
    · intro hk
      exact ⟨_, List.getElem?_eq_getElem (by omega : k < L.length), by rw [hxq _ _ (List.getElem?_eq_getElem (by omega : k < L.length))]; rfl⟩
  · have ho := h.oft
    have : sumf oftT (ths L) = n := by
      have : ∀ l : List Th, (∀ x ∈ l, x = .quit) → sumf oftT l = l.length := by
        intro l
        induction l with
        | nil => intro _; rfl
        | cons x l ih =>
          intro hl
          rw [sumf_cons, ih fun y hy => hl y (List.mem_cons_of_mem _ hy), hl x (List.mem_cons_self ..), List.length_cons]
          simp [oftT]; omega
      rw [this _ hq, ths_len]
      exact hlen
    rw [this] at ho
    cases sh
    simp only at hm hs0 hc0 hwt hws ho
    subst hm hs0 hc0 hwt hws ho
    rfl

/-- ████ THE STARTER's STEP ████ -/
theorem starterStep (h : MI P Y tL tW Held n Fin o0 R w T sp L sh log tok a F0 K0 f0 d0 qE) (hH : ∀ l (v v' : World), v'.heap[Y.Mp]? = v.heap[Y.Mp]? → Held l v → Held l v') (ho : o0 ≤ 1000) (hrun : a.status = .running) :
    ∃ m₁ ops, runT P (crowd R w sl) 0 = (.next m₁, ops) ∧ (Nxt P Y tL tW Held n Fin o0 (mu n Y sp L sh f0 qE) m₁ (T ++ ops) ∨ Done P Y tL tW Held n Fin o0 m₁ (T ++ ops)) := by
  have fin : (∃ m₁ ops, runT P (crowd R w sl) 0 = (.next m₁, ops) ∧ Nxt P Y tL tW Held n Fin o0 (mu n Y sp L sh f0 qE) m₁ (T ++ ops)) → ∃ m₁ ops, runT P (crowd R w sl) 0 = (.next m₁, ops) ∧ (Nxt P Y tL tW Held n Fin o0 (mu n Y sp L sh f0 qE) m₁ (T ++ ops) ∨ Done P Y tL tW Held n Fin o0 m₁ (T ++ ops)) := fun ⟨m₁, ops, e1, e2⟩ => ⟨m₁, ops, e1, .inl e2⟩
  rcases h.sit0 with ⟨hd, m, hf, hgo⟩ | ⟨_, _, _, g₀, e, _⟩
  · rcases Goes.cases hgo with hstop | ⟨m', rfl, hst⟩
    · obtain ⟨_, _, hall⟩ := hstop w (RF.refl w)
      have hS := hall sh h.sha (h.locS ho)
      have gen : (∃ sp' sh' g' w' es, SSt sp sh sp' sh' ∧ stepG P true a w = .go g' w' es ∧ ShAt Y tL tW w' sh' ∧ Eff Y (isBx sp) w w' ∧ EvS Y sp sp' es ∧ ∃ m, GoS P Y tL tW (addB F0 (isBx sp) w.heap.size) (AtS P Y tL tW Held n Fin K0 sp' (addB F0 (isBx sp) w.heap.size)) m g' w') → ∃ m₁ ops, runT P (crowd R w sl) 0 = (.next m₁, ops) ∧ (Nxt P Y tL tW Held n Fin o0 (mu n Y sp L sh f0 qE) m₁ (T ++ ops) ∨ Done P Y tL tW Held n Fin o0 m₁ (T ++ ops)) := fun ⟨sp', sh', g', w', es, st, hs, hsh, heff, hev, m, hg⟩ => fin (moveS h hH hd st hs hsh heff hev hg)
      cases sp with
      | go r =>
        cases r with
        | zero => exact hS.elim
        | succ r =>
          obtain ⟨a', child, F0', Fc, hs, _, hF0, hFc, hW, m, hg⟩ := hS
          have hK := h.mes0
          have hmes := mes_spawn (N := n) (r := r) (ths := ths L) (sh := sh) (by rw [ths_len]; have := h.cnt; simp only [rem] at this; omega)
          obtain ⟨K, eK⟩ : ∃ K, K0 = K + 1 := ⟨K0 - 1, by have := Nat.lt_of_lt_of_le hmes hK; omega⟩
          exact fin (spawnStep h rfl eK hs hF0 hFc hW hg hd)
      | w3 =>
        by_cases hw : sh.ws = 0
        · exact fin (blockS h hd (by omega) (Goes.stop hstop) hw (hS.1 hw))
        · obtain ⟨g', w', es, hs, hsh, heff, hev, m, hg⟩ := hS.2 hw
          have e1 : addB F0 false w.heap.size = F0 := by funext f; simp [addB]
          exact fin (moveS h hH hd (SSt.w3 hw) hs hsh heff hev (by rw [show isBx .w3 = false from rfl, e1]; exact hg))
      | aq =>
        obtain ⟨g', w', hs, rfl, hF⟩ := hS
        obtain ⟨m₁, ops, e1, e2⟩ := doneS (sl := sl) h hd hs hF
        exact ⟨m₁, ops, e1, .inr e2⟩
      | fin => exact hS.elim
      | bx r => exact gen hS
      | ad r => exact gen hS
      | aa r => exact gen hS
      | ae r => exact gen hS
      | kd => exact gen hS
      | w1 => exact gen hS
      | w2 old => exact gen hS
      | w4 => exact gen hS
      | ke => exact gen hS
    · obtain ⟨g', w', es, hs, hD, hgo'⟩ := hst w (RF.refl w)
      exact fin (idleS h hH hd hf hs hD hgo')
  · rw [e] at hrun; cases hrun

theorem MI.at (h : MI P Y tL tW Held n Fin o0 R w T sp L sh log tok a F0 K0 f0 d0 qE) (hH : ∀ l (v v' : World), v'.heap[Y.Mp]? = v.heap[Y.Mp]? → Held l v → Held l v') (d : Nat) : MI P Y tL tW Held n Fin o0 R (w.at d) T sp L sh log tok a F0 K0 f0 d0 qE :=
  ⟨h.size, h.r0, h.ci, h.cnt, h.nle, h.oft, h.mes0, h.mesK, h.sha, h.sit0.rely (RF.at w d), fun k u hk => let ⟨g, hg, hs⟩ := h.sitW k u hk; ⟨g, hg, hs.rely (RF.at w d)⟩, h.eld, h.tr, h.tk, h.tk0, fun e => hH log w (w.at d) rfl (h.held e), h.lg, h.logN, h.rel, h.df0, h.dfW, h.above⟩

/-- ████ FROM A ROUND's BEGINNING TO BEHIND ITS JOIN, ON WHATEVER TAPE. ████ -/
theorem MI.run (hH : ∀ l (v v' : World), v'.heap[Y.Mp]? = v.heap[Y.Mp]? → Held l v → Held l v') (ho : o0 ≤ 1000) : ∀ (μ : Nat × Nat) {R : Array Goroutine} {w : World} {T : Trace} {sp : Sp} {L : List Wk} {sh : Shr} {log : List Nat} {tok : Option Nat} {a : Goroutine} {F0 : Nat → Prop} {K0 f0 d0 : Nat} {qE : Nat → Nat} {sl : Option (Nat × Nat)},
    MI P Y tL tW Held n Fin o0 R w T sp L sh log tok a F0 K0 f0 d0 qE → mu n Y sp L sh f0 qE = μ → ∃ N m' T', runNT P N (crowd R w sl) T = (.next m', T') ∧ Done P Y tL tW Held n Fin o0 m' T' := by
  intro μ
  induction μ using (Prod.lex Nat.lt_wfRel Nat.lt_wfRel).wf.induction with
  | _ μ ih =>
  intro R w T sp L sh log tok a F0 K0 f0 d0 qE sl h hμ
  have who : ∀ i g, R[i]? = some g → (i = 0 ∧ g = a) ∨ (1 ≤ i ∧ i ≤ Y.b) ∨ ∃ k u, L[k]? = some u ∧ i = Y.b + 1 + k := fun i g hg => by
    have hlt := (Array.getElem?_eq_some_iff.1 hg).1
    rw [h.size] at hlt
    rcases Nat.eq_zero_or_pos i with e | i1
    · subst e
      rw [h.r0] at hg
      exact .inl ⟨rfl, (Option.some.inj hg).symm⟩
    · by_cases ib : i ≤ Y.b
      · exact .inr (.inl ⟨i1, ib⟩)
      · exact .inr (.inr ⟨i - (Y.b + 1), _, List.getElem?_eq_getElem (by omega), by omega⟩)
  have haw : ∀ g ∈ R, awake g := fun g hg => by
    obtain ⟨i, hi, rfl⟩ := Array.mem_iff_getElem.1 hg
    have hgi : R[i]? = some R[i] := Array.getElem?_eq_getElem hi
    rcases who i _ hgi with ⟨_, e⟩ | ⟨i1, ib⟩ | ⟨k, u, hk, rfl⟩
    · rw [e]
      exact awake_of (h.sit0.status.elim .inl fun x => .inr (.inl x))
    · obtain ⟨z, hz, hQ⟩ := h.eld i i1 ib
      rw [hgi] at hz; cases hz
      exact awake_of (hQ.status.elim .inl fun x => .inr (.inr x))
    · obtain ⟨g2, hg2, hs⟩ := h.sitW k u hk
      rw [hgi] at hg2; cases hg2
      exact awake_of hs.status
  have hsome : ∃ (i : Nat) (g : Goroutine), R[i]? = some g ∧ g.status = .running := by
    rcases h.sit0 with ⟨_, m, _, hg⟩ | ⟨_, e3, e4, _⟩
    · exact ⟨0, a, h.r0, Goes.running (fun _ _ x => atS_running x) w (RF.refl w) hg⟩
    · subst e3
      obtain ⟨i, x, hi, hne, hnw⟩ := h.ci.goes e4
      obtain ⟨u, hu, rfl⟩ : ∃ u, L[i]? = some u ∧ u.x = x := by
        rw [ths, List.getElem?_map] at hi
        obtain ⟨u, hu, e⟩ := Option.map_eq_some_iff.1 hi
        exact ⟨u, hu, e⟩
      obtain ⟨g2, hg2, hs⟩ := h.sitW i u hu
      rcases hs with ⟨_, _, m, _, hg⟩ | ⟨_, _, h3, h4, _⟩ | ⟨e, _⟩
      · exact ⟨_, g2, hg2, Goes.running (fun _ _ x => atW_running x) w (RF.refl w) hg⟩
      · exact absurd ⟨h3, h4⟩ hnw
      · exact absurd e hne
  obtain ⟨i, g, d, sl', hg, hrun, hstep⟩ := crowd_pick (P := P) (w := w) (sl := sl) haw hsome
  have h' := h.at hH d
  have next : ∀ {m₁ ops}, runT P (crowd R (w.at d) sl') i = (.next m₁, ops) → (Nxt P Y tL tW Held n Fin o0 (mu n Y sp L sh f0 qE) m₁ (T ++ ops) ∨ Done P Y tL tW Held n Fin o0 m₁ (T ++ ops)) → ∃ N m' T', runNT P N (crowd R w sl) T = (.next m', T') ∧ Done P Y tL tW Held n Fin o0 m' T' := by
    intro m₁ ops e1 e2
    rcases e2 with ⟨R', w', sl2, sp', L', sh', log', tok', a', F0', K0', f0', d0', qE', rfl, hM, hlt⟩ | e2
    · obtain ⟨N, m', T', hr, hD⟩ := ih _ (hμ ▸ hlt) hM rfl (sl := sl2)
      exact ⟨N + 1, m', T', by simp only [runNT, hstep, e1]; exact hr, hD⟩
    · exact ⟨1, m₁, _, by simp only [runNT, hstep, e1], e2⟩
  rcases who i g hg with ⟨rfl, rfl⟩ | ⟨i1, ib⟩ | ⟨k, u, hk, rfl⟩
  · obtain ⟨m₁, ops, e1, e2⟩ := starterStep (sl := sl') h' hH ho hrun
    exact next e1 e2
  · obtain ⟨m₁, ops, e1, e2⟩ := elderStep (sl := sl') h' i1 ib hg hrun
    exact next e1 (.inl e2)
  · obtain ⟨m₁, ops, e1, e2⟩ := workerStep (sl := sl') h' hH ho hk hg hrun
    exact next e1 (.inl e2)
end
end Go.Proofs.Ytpmmimcafkillaa.Tr

set_option linter.unusedVariables false
set_option linter.unusedSimpArgs false
namespace Go.Proofs.Ytpmmimcafkillaa.Tr
open Go Go.Conc Go.ConcN
open Go.ConcR (KK wgBlock WgAt stA smA rd wr mk)
open Go.Proofs.Ytpmmimcafkillaa.Mx

theorem ok_init : Ok Mu.free 0 (Mx.cnt owns []) (Mx.cnt slp []) (Mx.cnt awk []) (Mx.cnt usf []) (Mx.cnt ust []) (Mx.cnt agx []) (Mx.cnt a1p []) (Mx.cnt uwp []) := by
  constructor <;> simp [Mu.free, Mx.cnt]
theorem CI.init (n o : Nat) : CI (nxt n) [] ⟨Mu.free, 0, 0, 0, 0, o⟩ := by
  refine ⟨⟨by simp, by simp, ok_init⟩, ?_, fun _ => ⟨rfl, rfl, rfl, rfl⟩, fun e => ?_, fun e => ?_, by simp, fun old e => ?_⟩
  · cases n <;> rfl
  · cases n <;> cases e
  · cases n <;> simp [nxt] at e
  · cases n <;> cases e

section
variable {P : Program} {Y : Lay} {tL tW : TypeId} {Held : List Nat → World → Prop} {n : Nat} {Fin : (Nat → Prop) → Goroutine → World → Prop} {o0 : Nat}
/-- ████ A ROUND ████ -/
theorem phase (hH : ∀ l (v v' : World), v'.heap[Y.Mp]? = v.heap[Y.Mp]? → Held l v → Held l v') (ho : o0 ≤ 1000) (hn : n ≤ 300) {R : Array Goroutine} {w : World} {p : Trace} {sl : Option (Nat × Nat)} {q : Nat → Nat} {a : Goroutine}
    (h0 : R[0]? = some a) (hL : Leavers P p R q) (hb : R.size = Y.b + 1) (hN : Y.N = w.heap.size) (hp : Y.n0 = p.size)
    (hc : ∀ said, ¬ Race said p) (hk : ∀ i x, touchAt p i = some x → x.loc.isMemory = true → Knows p 0 i ∨ (Sn Y.S x.loc ∧ x.kind = .atomic)) (hov : p.HandedOver) (hd : Deaf p 0 = 0)
    (hsh : ShAt Y tL tW w ⟨Mu.free, 0, 0, 0, 0, o0⟩) (hheld : Held [] w)
    (hgo : ∀ K, ∃ m, GoS P Y tL tW (fun _ => False) (AtS P Y tL tW Held n Fin (K + 1) (nxt n) (fun _ => False)) m a w) :
    ∃ N m' T', runNT P N (crowd R w sl) p = (.next m', T') ∧ Done P Y tL tW Held n Fin o0 m' T' := by
  obtain ⟨m, hm⟩ := hgo (mes n (nxt n) (ths []) ⟨Mu.free, 0, 0, 0, 0, o0⟩)
  have erem : rem (nxt n) = n := by cases n <;> rfl
  have eds : deafS (nxt n) = 0 := by cases n <;> rfl
  have hM : MI P Y tL tW Held n Fin o0 R w p (nxt n) [] ⟨Mu.free, 0, 0, 0, 0, o0⟩ [] none a (fun _ => False) (mes n (nxt n) (ths []) ⟨Mu.free, 0, 0, 0, 0, o0⟩) ((n + 2) * m + 1) 0 q := by
    refine ⟨hb, h0, CI.init n o0, by simp [erem], hn, by simp [ths, sumf], Nat.le_refl _, fun k u hk => (by simp at hk), hsh, .inl ⟨eds.symm, m, Nat.le_refl _, hm⟩, fun k u hk => (by simp at hk), fun i i1 ib => ?_, ?_, fun k u hk => (by simp at hk), fun g e => (by cases e), fun _ => hheld, fun k u hk => (by simp at hk), ⟨by simp, fun k => by simp⟩, fun k u hk => (by simp at hk), hd, fun k u hk => (by simp at hk), hL.above⟩
    · have hlt : i < R.size := by omega
      exact ⟨R[i], Array.getElem?_eq_getElem hlt, hL.old i _ (by omega) (Array.getElem?_eq_getElem hlt)⟩
    · rw [← hN]
      refine (TR.init hp hk hc hov).less fun g f hf => ?_
      rcases hf with ⟨_, hf⟩ | ⟨k, u, hk, _⟩
      · exact hf
      · simp at hk
  exact hM.run hH ho _ rfl
end
end Go.Proofs.Ytpmmimcafkillaa.Tr
