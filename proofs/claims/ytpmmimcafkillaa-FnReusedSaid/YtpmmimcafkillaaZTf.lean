/-
  A round's machine: a worker's step keeps the invariant. It names no program; no conditions.
  A round's machine: a worker's step: between stops, waiting, at a stop, leaving: it keeps the invariant and lowers the measure. It names no program; no conditions.
-/
import Derived.Test.YtpmmimcafkillaaZTd
set_option linter.unusedVariables false
set_option linter.unusedSimpArgs false
namespace Go.Proofs.Ytpmmimcafkillaa.Tr
open Go Go.Conc Go.ConcN
open Go.ConcR (KK wgBlock WgAt stA smA rd wr mk again_blocked ofEvent_loc_mark ofEvent_cell ofEvent_mk)
open Go.Proofs.Ytpmmimcafkillaa.Mx

theorem of_mem {g : Nat} {fn : FuncId} {pos : String} {es : Array Event} {op : MemOp} (h : op ∈ MemOp.ofEvents g fn pos es) : ∃ e ∈ es, op = { g, fn, pos, act := .ofEvent e } := Go.Conc.mem_ofEvents h
theorem of_g {g : Nat} {fn : FuncId} {pos : String} {es : Array Event} : ∀ op ∈ MemOp.ofEvents g fn pos es, op.g = g := fun op hop => by obtain ⟨e, _, rfl⟩ := of_mem hop; rfl
theorem fam_get {Y : Lay} {F0 : Nat → Prop} {L L' : List Wk} (h : ∀ (k : Nat) (u : Wk), L'[k]? = some u → ∃ v : Wk, L[k]? = some v ∧ (∀ f, u.F f → v.F f)) : ∀ g f, Fam Y F0 L' g f → Fam Y F0 L g f := by
  rintro g f (⟨h1, h2⟩ | ⟨k, u, hk, h1, h2⟩)
  · exact .inl ⟨h1, h2⟩
  · obtain ⟨v, hv, hF⟩ := h k u hk
    exact .inr ⟨k, v, hv, h1, hF f h2⟩
theorem upset_get {r1 : Nat} {L : List Wk} {k j : Nat} {u' v : Wk} (h : ((L.map (Wk.up r1)).set k u')[j]? = some v) : (j = k ∧ v = u' ∧ k < L.length) ∨ (j ≠ k ∧ ∃ u, L[j]? = some u ∧ v = u.up r1) := by
  rcases set_get h with ⟨h1, h2, h3⟩ | ⟨h1, h2⟩
  · exact .inl ⟨h1, h2, by simpa using h3⟩
  · obtain ⟨u, hu, e⟩ := up_get h2
    exact .inr ⟨h1, u, hu, e⟩
theorem mem_ths {L : List Wk} {k : Nat} {u : Wk} (h : L[k]? = some u) : u.x ∈ ths L := List.mem_of_getElem? (ths_get h)

section
variable {P : Program} {Y : Lay} {tL tW : TypeId} {Held : List Nat → World → Prop} {n : Nat} {Fin : (Nat → Prop) → Goroutine → World → Prop} {o0 : Nat}
variable {R : Array Goroutine} {w w' : World} {T : Trace} {sp : Sp} {L : List Wk} {sh sh' : Shr} {log log' : List Nat} {tok tok' : Option Nat} {a : Goroutine} {F0 : Nat → Prop} {K0 f0 d0 : Nat} {qE : Nat → Nat}
variable {k : Nat} {u u' : Wk} {g g' : Goroutine} {es : Array Event}

theorem MI.stepW {r1 : Nat} (hr1 : r1 = 1 ∨ g'.status = .blocked) (h : MI P Y tL tW Held n Fin o0 R w T sp L sh log tok a F0 K0 f0 d0 qE) (hk : L[k]? = some u) (hg : R[Y.b + 1 + k]? = some g)
    (ci' : CI sp ((ths L).set k u'.x) sh') (oft' : sh'.often + oftT u.x = sh.often + oftT u'.x)
    (hm : mes n sp ((ths L).set k u'.x) sh' ≤ mes n sp (ths L) sh) (hmK : mes n sp ((ths L).set k u'.x) sh' ≤ u'.K) (sha' : ShAt Y tL tW w' sh')
    (r0 : RF Y tL tW F0 false w w') (rk : ∀ k2 u2, k2 ≠ k → L[k2]? = some u2 → RF Y tL tW u2.F (tokT u2.x) w w')
    (h1 : sh.ws = 0 → sh'.ws = 0 ∨ (mayWake P g = true ∧ g'.status = .running)) (h2 : sh.s = 0 → sh'.s = 0 ∨ (mayWake P g = true ∧ g'.status = .running))
    (sit' : SitW P Y tL tW Held n k u' sh'.s g' w')
    (tr' : TR Y (Fam Y F0 (L.set k u')) tok' L.length w'.heap.size (T ++ MemOp.ofEvents (Y.b + 1 + k) g.frame.fn g.frame.place es))
    (tk' : tokT u'.x = true ↔ tok' = some (Y.b + 1 + k)) (tkn : tok' = tok ∨ ((∀ g2, tok = some g2 → g2 = Y.b + 1 + k) ∧ (∀ g2, tok' = some g2 → g2 = Y.b + 1 + k)))
    (held' : tok' = none → Held log' w') (lg' : tokT u'.x = true → u'.lg = log') (lgo : log' = log ∨ ∀ k2 u2, k2 ≠ k → L[k2]? = some u2 → tokT u2.x = false)
    (logN' : log'.Nodup ∧ ∀ j, j ∈ log' ↔ (j = k ∧ didT u'.x = true) ∨ (j ≠ k ∧ j ∈ log))
    (rel' : muteT u'.x = true → ∃ r, Rel Y (T ++ MemOp.ofEvents (Y.b + 1 + k) g.frame.fn g.frame.place es) (Y.b + 1 + k) r)
    (dd : deafBehind u.d es = u'.d) :
    MI P Y tL tW Held n Fin o0 ((R.map (woken P g g' w')).setIfInBounds (Y.b + 1 + k) g') w' (T ++ MemOp.ofEvents (Y.b + 1 + k) g.frame.fn g.frame.place es) sp ((L.map (Wk.up r1)).set k u') sh' log' tok' (woken P g g' w' a) F0 K0 (f0 + r1) d0 qE := by
  have hkl := lt_get hk
  have ethx : ths ((L.map (Wk.up r1)).set k u') = (ths L).set k u'.x := by rw [ths_set, ths_up r1]
  have elen : ((L.map (Wk.up r1)).set k u').length = L.length := by simp
  have hsz : Y.b + 1 + k < R.size := by rw [h.size]; omega
  have hne0 : Y.b + 1 + k ≠ 0 := by omega
  have hog : ∀ op ∈ MemOp.ofEvents (Y.b + 1 + k) g.frame.fn g.frame.place es, op.g = Y.b + 1 + k := of_g
  have fam : ∀ g f, Fam Y F0 ((L.map (Wk.up r1)).set k u') g f → Fam Y F0 (L.set k u') g f := fam_get fun j v hv => by
    rcases upset_get hv with ⟨rfl, rfl, _⟩ | ⟨hne, u2, hu2, rfl⟩
    · exact ⟨_, by rw [List.getElem?_set_self (by simpa using hkl)], fun _ x => x⟩
    · exact ⟨u2, by rw [List.getElem?_set_ne (Ne.symm hne)]; exact hu2, fun _ x => x⟩
  refine ⟨by simp [h.size], ?_, by rw [ethx]; exact ci', by rw [elen]; exact h.cnt, h.nle, ?_, ?_, ?_, sha', h.sit0.other hr1 r0 h1, ?_, ?_, by rw [elen]; exact tr'.less fam, ?_, ?_, held', ?_, ⟨logN'.1, fun j => ?_⟩, ?_, ?_, ?_, ?_⟩
  · rw [Array.getElem?_setIfInBounds_ne hne0, Array.getElem?_map, h.r0]; rfl
  · rw [ethx]
    have := sumf_set oftT (ths L) k u.x u'.x (ths_get hk)
    have := h.oft
    omega
  · rw [ethx]; exact Nat.le_trans hm h.mes0
  · intro j v hv
    rw [ethx]
    rcases upset_get hv with ⟨rfl, rfl, _⟩ | ⟨hne, u2, hu2, rfl⟩
    · exact hmK
    · exact Nat.le_trans hm (h.mesK j u2 hu2)
  · intro j v hv
    rcases upset_get hv with ⟨rfl, rfl, _⟩ | ⟨hne, u2, hu2, rfl⟩
    · exact ⟨g', by rw [Array.getElem?_setIfInBounds_self_of_lt (by simpa using hsz)], sit'⟩
    · obtain ⟨g2, hg2, hs2⟩ := h.sitW j u2 hu2
      exact ⟨_, by rw [Array.getElem?_setIfInBounds_ne (by omega), Array.getElem?_map, hg2]; rfl, hs2.other hr1 (rk j u2 hne hu2) h2⟩
  · intro i i1 ib
    obtain ⟨y, hy, hq⟩ := h.eld i i1 ib
    refine ⟨y, by rw [Array.getElem?_setIfInBounds_ne (by omega), Array.getElem?_map, hy]; simp [woken_quitsD hq], ?_⟩
    rw [Deaf_other T (g' := Y.b + 1 + k) (by omega) _ hog]
    exact hq
  · intro j v hv
    rcases upset_get hv with ⟨rfl, rfl, _⟩ | ⟨hne, u2, hu2, rfl⟩
    · exact tk'
    · have ht := h.tk j u2 hu2
      show tokT u2.x = true ↔ _
      rcases tkn with e | ⟨e1, e2⟩
      · rw [e]; exact ht
      · refine ⟨fun x => ?_, fun x => ?_⟩
        · have := e1 _ (ht.1 x); omega
        · have := e2 _ x; omega
  · intro g2 hg2
    have : ∃ j v, L[j]? = some v ∧ g2 = Y.b + 1 + j := by
      rcases tkn with e | ⟨e1, e2⟩
      · exact h.tk0 g2 (by rw [← e]; exact hg2)
      · exact ⟨k, u, hk, e2 _ hg2⟩
    obtain ⟨j, v, hv, e⟩ := this
    have hj : j < ((L.map (Wk.up r1)).set k u').length := by rw [elen]; exact lt_get hv
    exact ⟨j, _, List.getElem?_eq_getElem hj, e⟩
  · intro j v hv ht
    rcases upset_get hv with ⟨rfl, rfl, _⟩ | ⟨hne, u2, hu2, rfl⟩
    · exact lg' ht
    · rcases lgo with e | e
      · rw [e]; exact h.lg j u2 hu2 ht
      · have := e j u2 hne hu2
        rw [show tokT u2.x = true from ht] at this
        cases this
  · rw [logN'.2 j]
    constructor
    · rintro (⟨rfl, hd⟩ | ⟨hne, hj⟩)
      · exact ⟨u', by rw [List.getElem?_set_self (by simpa using hkl)], hd⟩
      · obtain ⟨v, hv, hd⟩ := (h.logN.2 j).1 hj
        exact ⟨v.up r1, by rw [List.getElem?_set_ne (Ne.symm hne), List.getElem?_map, hv]; rfl, hd⟩
    · rintro ⟨v, hv, hd⟩
      rcases upset_get hv with ⟨rfl, rfl, _⟩ | ⟨hne, u2, hu2, rfl⟩
      · exact .inl ⟨rfl, hd⟩
      · exact .inr ⟨hne, (h.logN.2 j).2 ⟨u2, hu2, hd⟩⟩
  · intro j v hv hmu
    rcases upset_get hv with ⟨rfl, rfl, _⟩ | ⟨hne, u2, hu2, rfl⟩
    · exact rel' hmu
    · obtain ⟨r, hr⟩ := h.rel j u2 hu2 hmu
      exact ⟨r, hr.other fun op hop => by rw [hog op hop]; omega⟩
  · rw [Deaf_other T (g' := Y.b + 1 + k) hne0 _ hog]; exact h.df0
  · intro j v hv
    rcases upset_get hv with ⟨rfl, rfl, _⟩ | ⟨hne, u2, hu2, rfl⟩
    · rw [Deaf_own, h.dfW j u hk]; exact dd
    · rw [Deaf_other T (g' := Y.b + 1 + k) (by omega) _ hog]; exact h.dfW j u2 hu2
  · intro i hi
    rw [Array.size_setIfInBounds, Array.size_map] at hi
    rw [Deaf_other T (g' := Y.b + 1 + k) (by omega) _ hog]
    exact h.above i hi

/-! the facts that the steps ask -/
theorem MI.actW (h : MI P Y tL tW Held n Fin o0 R w T sp L sh log tok a F0 K0 f0 d0 qE) (hk : L[k]? = some u) : Y.Act L.length (Y.b + 1 + k) := .inr ⟨by omega, by have := lt_get hk; omega⟩
theorem MI.famW (hk : L[k]? = some u) {f : Nat} (hf : u.F f) : Fam Y F0 L (Y.b + 1 + k) f := .inr ⟨k, u, hk, rfl, hf⟩
theorem okT_mono {F F' : Nat → Prop} {gid : Nat} {o : Option Nat} {op : MemOp} (h : OkT Y F gid o op) (hF : ∀ f, F f → F' f) : OkT Y F' gid o op :=
  ⟨h.1, h.2.1, fun x hx => by
    rcases h.2.2 x hx with k | ⟨a, e, k⟩ | k | k
    · exact .inl k
    · exact .inr (.inl ⟨a, e, hF _ k⟩)
    · exact .inr (.inr (.inl k))
    · exact .inr (.inr (.inr k))⟩
/-- what another one's idle step leaves -/
theorem rf_of_df {F F2 : Nat → Prop} {own own2 mute : Bool} {gid : Nat} (hD : DF Y gid F own mute w w' es) (hN : ∀ f, F f → Y.N ≤ f) (hdis : ∀ f, F2 f → ¬ F f) (h2 : ∀ f, F2 f → Y.N ≤ f) (ho : own2 = true → own = false) : RF Y tL tW F2 own2 w w' := by
  have hl : w'.heap[Y.Lg]? = w.heap[Y.Lg]? := hD.out _ (fun x => by have := hN _ x; have := Y.lgN; omega) (fun _ => Y.lm)
  have hw : w'.heap[Y.Wg]? = w.heap[Y.Wg]? := hD.out _ (fun x => by have := hN _ x; have := Y.wgN; omega) (fun _ => Y.wm)
  refine ⟨hD.tape, hD.output, by rw [hD.os]; exact .refl _, by rw [hD.size]; exact Nat.le_refl _, fun b h1 _ _ h4 => hD.out b (fun x => by have := hN _ x; omega) (fun _ => h4), fun b hb => hD.out b (hdis b hb) (fun _ e => by have := h2 b hb; have := Y.mpN; omega), fun e => hD.out _ (fun x => by have := hN _ x; have := Y.mpN; omega) (fun x => by rw [ho e] at x; cases x), fun ⟨s, hs⟩ => ⟨s, hs.of hl hw⟩⟩
theorem sha_of_df {F : Nat → Prop} {own mute : Bool} {gid : Nat} (hD : DF Y gid F own mute w w' es) (hN : ∀ f, F f → Y.N ≤ f) (hs : ShAt Y tL tW w sh) : ShAt Y tL tW w' sh :=
  hs.of (hD.out _ (fun x => by have := hN _ x; have := Y.lgN; omega) (fun _ => Y.lm)) (hD.out _ (fun x => by have := hN _ x; have := Y.wgN; omega) (fun _ => Y.wm))
/-- what another one's stop leaves -/
theorem rf_of_eff {F : Nat → Prop} {own al : Bool} (e : Eff Y al w w') (hF : ∀ f, F f → Y.N ≤ f ∧ f < w.heap.size) (hN : Y.N ≤ w.heap.size) (hs : ShAt Y tL tW w' sh') : RF Y tL tW F own w w' := by
  have := Y.mpN
  have := Y.lgN
  have := Y.wgN
  refine ⟨e.tape, e.output, e.os, by rw [e.size]; split <;> omega, fun b h1 h2 h3 _ => e.block b (by omega) h2 h3, fun b hb => e.block b (hF b hb).2 (by have := (hF b hb).1; omega) (by have := (hF b hb).1; omega), fun _ => e.block _ (by omega) Y.lm.symm Y.wm.symm, fun _ => ⟨sh', hs⟩⟩
theorem book_ok {B : Addr → Prop} {F : Nat → Prop} {gid : Nat} {o : Option Nat} (hB : ∀ a, B a → Y.Sh (.cell a)) {d d' : Nat} (h : Book B d d' es) (fn : FuncId) (pos : String) : ∀ op ∈ MemOp.ofEvents gid fn pos es, OkT Y F gid o op := by
  intro op hop
  obtain ⟨e, he, rfl⟩ := of_mem hop
  rcases h.1 e he with h1 | h1 | ⟨a, x, rfl, ha⟩
  · simp only [OkT, ofEvent_loc_mark h1]
    exact ⟨trivial, ⟨by simp, by simp⟩, fun x hx => by cases hx⟩
  · simp only [OkT, ofEvent_loc_mark h1]
    exact ⟨trivial, ⟨by simp, by simp⟩, fun x hx => by cases hx⟩
  · simp only [OkT, ofEvent_cell]
    refine ⟨trivial, ⟨by simp, by simp⟩, fun y hy => ?_⟩
    simp only [MemAct.touch?, Option.some.injEq] at hy
    subst hy
    exact .inl ⟨hB a ha, by simp, by simp⟩
theorem lb_sh (a : Addr) (h : Y.Lb a) : Y.Sh (.cell a) := ⟨a, rfl, .inr h⟩
theorem wb_sh (a : Addr) (h : Y.Wb a) : Y.Sh (.cell a) := ⟨a, rfl, .inl h⟩
theorem noRoom_ok {F : Nat → Prop} {gid : Nat} {o : Option Nat} (h : ∀ e ∈ es, e.loc = .mark .noRoom) (fn : FuncId) (pos : String) : ∀ op ∈ MemOp.ofEvents gid fn pos es, OkT Y F gid o op := by
  intro op hop
  obtain ⟨e, he, rfl⟩ := of_mem hop
  simp only [OkT, ofEvent_loc_mark (h e he)]
  exact ⟨trivial, ⟨by simp, by simp⟩, fun x hx => by cases hx⟩
theorem noRoom_deaf (h : ∀ e ∈ es, e.loc = .mark .noRoom) (d : Nat) : deafBehind d es = d := deafBehind_still (fun e he => by rw [h e he]; simp) d
end
end Go.Proofs.Ytpmmimcafkillaa.Tr

set_option linter.unusedVariables false
set_option linter.unusedSimpArgs false
namespace Go.Proofs.Ytpmmimcafkillaa.Tr
open Go Go.Conc Go.ConcN
open Go.ConcR (KK wgBlock WgAt stA smA rd wr mk again_blocked ofEvent_loc_mark ofEvent_cell ofEvent_mk)
open Go.Proofs.Ytpmmimcafkillaa.Mx

/-- the measure -/
def mu (n : Nat) (Y : Lay) (sp : Sp) (L : List Wk) (sh : Shr) (f0 : Nat) (qE : Nat → Nat) : Nat × Nat := (mes n sp (ths L) sh, f0 + sumF L + (n + 2) * sumTo (Y.b + 1) qE)
section
variable (P : Program) (Y : Lay) (tL tW : TypeId) (Held : List Nat → World → Prop) (n : Nat) (Fin : (Nat → Prop) → Goroutine → World → Prop) (o0 : Nat)
/-- the run goes on under the invariant, lower -/
def Nxt (μ : Nat × Nat) (m₁ : Machine) (T' : Trace) : Prop := ∃ R' w' sl' sp' L' sh' log' tok' a' F0' K0' f0' d0' qE', m₁ = crowd R' w' sl' ∧ MI P Y tL tW Held n Fin o0 R' w' T' sp' L' sh' log' tok' a' F0' K0' f0' d0' qE' ∧ Lt2 (mu n Y sp' L' sh' f0' qE') μ
end

theorem set_self {α : Type} {l : List α} {k : Nat} {x : α} (h : l[k]? = some x) : l.set k x = l := by
  apply List.ext_getElem?
  intro j
  rw [List.getElem?_set]
  split
  · rename_i e; subst e
    split
    · exact h.symm
    · rename_i h'; rw [List.getElem?_eq_none (by omega)] at h; cases h
  · rfl
theorem quitsD_running {P : Program} {q : Nat} {g : Goroutine} (h : QuitsD P q 1 g) : g.status = .running := by
  cases q with
  | zero => exact absurd h.2 (by simp)
  | succ q => rcases h with ⟨_, h0⟩ | ⟨h1, _⟩; exact absurd h0 (by simp); exact h1
theorem rd_ev (a : Addr) : MemAct.ofEvent (rd a) = .access ⟨.cell a, false, true⟩ := rfl
theorem wr_ev (a : Addr) : MemAct.ofEvent (wr a) = .access ⟨.cell a, true, true⟩ := rfl
theorem ofEvents_mk1 (g : Nat) (fn : FuncId) (pos : String) (m : Mark) : MemOp.ofEvents g fn pos #[mk m] = #[{ g := g, fn, pos, act := .mark m }] := by rw [ofEvents_eq]; simp [ofEvent_mk]

section
variable {P : Program} {Y : Lay} {tL tW : TypeId} {Held : List Nat → World → Prop} {n : Nat} {Fin : (Nat → Prop) → Goroutine → World → Prop} {o0 : Nat}
variable {R : Array Goroutine} {w w' : World} {T : Trace} {sp : Sp} {L : List Wk} {sh sh' : Shr} {log log' : List Nat} {tok tok' : Option Nat} {a : Goroutine} {F0 : Nat → Prop} {K0 f0 d0 : Nat} {qE : Nat → Nat}
variable {k : Nat} {u u' : Wk} {g g' : Goroutine} {es : Array Event} {sl : Option (Nat × Nat)}

theorem MI.fN (h : MI P Y tL tW Held n Fin o0 R w T sp L sh log tok a F0 K0 f0 d0 qE) (hk : L[k]? = some u) : ∀ f, u.F f → Y.N ≤ f ∧ f < w.heap.size := fun f hf => h.tr.fF _ f (.inr ⟨k, u, hk, rfl, hf⟩)
theorem MI.f0N (h : MI P Y tL tW Held n Fin o0 R w T sp L sh log tok a F0 K0 f0 d0 qE) : ∀ f, F0 f → Y.N ≤ f ∧ f < w.heap.size := fun f hf => h.tr.fF 0 f (.inl ⟨rfl, hf⟩)
theorem MI.dis (h : MI P Y tL tW Held n Fin o0 R w T sp L sh log tok a F0 K0 f0 d0 qE) (hk : L[k]? = some u) {k2 : Nat} {u2 : Wk} (hne : k2 ≠ k) (hk2 : L[k2]? = some u2) : ∀ f, u2.F f → ¬ u.F f := fun f h2 h1 => by
  have := h.tr.fd _ _ f (.inr ⟨k2, u2, hk2, rfl, h2⟩) (.inr ⟨k, u, hk, rfl, h1⟩)
  omega
theorem MI.dis0 (h : MI P Y tL tW Held n Fin o0 R w T sp L sh log tok a F0 K0 f0 d0 qE) (hk : L[k]? = some u) : ∀ f, F0 f → ¬ u.F f := fun f h2 h1 => by
  have := h.tr.fd _ _ f (.inl ⟨rfl, h2⟩) (.inr ⟨k, u, hk, rfl, h1⟩)
  omega
theorem MI.tok1 (h : MI P Y tL tW Held n Fin o0 R w T sp L sh log tok a F0 K0 f0 d0 qE) (hk : L[k]? = some u) {k2 : Nat} {u2 : Wk} (hne : k2 ≠ k) (hk2 : L[k2]? = some u2) (ht : tokT u.x = true) : tokT u2.x = false := by
  cases e : tokT u2.x
  · rfl
  · have h1 := (h.tk k u hk).1 ht
    have h2 := (h.tk k2 u2 hk2).1 e
    rw [h1] at h2
    have := Option.some.inj h2
    omega
theorem len_n (h : MI P Y tL tW Held n Fin o0 R w T sp L sh log tok a F0 K0 f0 d0 qE) : L.length ≤ n := by have := h.cnt; omega
theorem logN_same (h : MI P Y tL tW Held n Fin o0 R w T sp L sh log tok a F0 K0 f0 d0 qE) (hk : L[k]? = some u) {x' : Th} (hd : didT x' = didT u.x) : log.Nodup ∧ ∀ j, j ∈ log ↔ (j = k ∧ didT x' = true) ∨ (j ≠ k ∧ j ∈ log) := by
  refine ⟨h.logN.1, fun j => ?_⟩
  by_cases e : j = k
  · subst e
    rw [hd]
    constructor
    · intro hj
      obtain ⟨v, hv, hd⟩ := (h.logN.2 j).1 hj
      rw [hk] at hv; cases hv
      exact .inl ⟨rfl, hd⟩
    · rintro (⟨_, hd⟩ | ⟨hne, _⟩)
      · exact (h.logN.2 j).2 ⟨u, hk, hd⟩
      · exact absurd rfl hne
  · exact ⟨fun hj => .inr ⟨e, hj⟩, fun hj => hj.elim (fun x => absurd x.1 e) (·.2)⟩
theorem sum_mv {r1 : Nat} (hk : L[k]? = some u) : sumF ((L.map (Wk.up r1)).set k u') + (u.f + r1) = sumF L + r1 * L.length + u'.f := by
  have := sum_set (L := L.map (Wk.up r1)) (k := k) (u := u.up r1) (v := u') (by rw [List.getElem?_map, hk]; rfl)
  rw [sum_up] at this
  exact this

/-- between stops -/
theorem idleW (h : MI P Y tL tW Held n Fin o0 R w T sp L sh log tok a F0 K0 f0 d0 qE) (hH : ∀ l (v v' : World), v'.heap[Y.Mp]? = v.heap[Y.Mp]? → Held l v → Held l v') (hk : L[k]? = some u) (hg : R[Y.b + 1 + k]? = some g)
    {m' : Nat} (hq : u.x ≠ .quit) (hd : u.d = deafT u.x) (hf : (n + 2) * (m' + 1) + 1 ≤ u.f) (hs : stepG P false g w = .go g' w' es) (hD : DF Y (Y.b + 1 + k) u.F (tokT u.x) (muteT u.x) w w' es) (hgo : GoW P Y tL tW Held k u m' g' w') :
    ∃ m₁ ops, runT P (crowd R w sl) (Y.b + 1 + k) = (.next m₁, ops) ∧ Nxt P Y tL tW Held n Fin o0 (mu n Y sp L sh f0 qE) m₁ (T ++ ops) := by
  have hi0 : (Y.b + 1 + k == 0) = false := by simp
  have hrun := runT_crowd_go (P := P) (sl := sl) hg (by rw [hi0]; exact hs)
  have hg' : g'.status = .running := Goes.running (fun _ _ x => atW_running x) w' (RF.refl w') hgo
  have hN : ∀ f, u.F f → Y.N ≤ f := fun f hf => (h.fN hk f hf).1
  have hx := set_self (ths_get hk)
  have htok := h.tk k u hk
  have key := MI.stepW (r1 := 1) (.inl rfl) (u' := { u with f := u.f - (n + 2) }) h hk hg (es := es) (by show CI sp ((ths L).set k u.x) sh; rw [hx]; exact h.ci) rfl (by show mes n sp ((ths L).set k u.x) sh ≤ _; rw [hx]; exact Nat.le_refl _) (by show mes n sp ((ths L).set k u.x) sh ≤ u.K; rw [hx]; exact h.mesK k u hk) (sha_of_df hD hN h.sha)
    (rf_of_df hD hN (h.dis0 hk) (fun f hf => (h.f0N f hf).1) (fun e => by cases e)) (fun k2 u2 hne hk2 => rf_of_df hD hN (h.dis hk hne hk2) (fun f hf => (h.fN hk2 f hf).1) (fun e => by
      cases e2 : tokT u.x
      · rfl
      · have := h.tok1 hk hne hk2 e2; rw [e] at this; cases this))
    .inl .inl (.inl ⟨hq, hd, m', by show _ ≤ u.f - (n + 2); have : (n + 2) * (m' + 1) = (n + 2) * m' + (n + 2) := Nat.mul_succ _ _; omega, hgo⟩)
    (tok' := tok) ?_ htok (.inl rfl) ?_ (fun e => h.lg k u hk e) (.inl rfl) (logN_same h hk (x' := u.x) rfl) ?_ ?_
  · refine ⟨_, _, hrun, _, _, _, _, _, _, _, _, _, _, _, _, _, _, rfl, key, ?_⟩
    have e1 : ths ((L.map (Wk.up 1)).set k { u with f := u.f - (n + 2) }) = ths L := by rw [ths_set, ths_up]; exact hx
    unfold mu
    rw [e1]
    refine .right _ ?_
    have hsum := sum_mv (r1 := 1) (u' := { u with f := u.f - (n + 2) }) hk
    have hn := len_n h
    have : (n + 2) * (m' + 1) = (n + 2) * m' + (n + 2) := Nat.mul_succ _ _
    simp only at hsum ⊢
    omega
  · rw [hD.size]
    refine (h.tr.app (h.actW hk) fun op hop => ?_).less (fam_get fun j v hv => ?_)
    · obtain ⟨e, he, rfl⟩ := of_mem hop
      exact okT_mono ((hD.ev e he).1 _ _ tok fun x => htok.1 x) fun f hf => MI.famW hk hf
    · rcases set_get hv with ⟨rfl, rfl, _⟩ | ⟨_, hv'⟩
      · exact ⟨u, hk, fun _ x => x⟩
      · exact ⟨v, hv', fun _ x => x⟩
  · intro e
    have hf : tokT u.x = false := by
      cases e2 : tokT u.x
      · rfl
      · have := htok.1 e2; rw [e] at this; cases this
    exact hH _ _ _ (hD.out _ (fun x => by have := hN _ x; have := Y.mpN; omega) (fun x => by rw [hf] at x; cases x)) (h.held e)
  · intro hmu
    obtain ⟨r, hr⟩ := h.rel k u hk hmu
    rw [hD.still hmu]
    exact ⟨r, hr.own _ _ #[] (by simp)⟩
  · exact deafBehind_still (fun e he => (hD.ev e he).2) _

/-- it waits -/
theorem blockW (h : MI P Y tL tW Held n Fin o0 R w T sp L sh log tok a F0 K0 f0 d0 qE) (hk : L[k]? = some u) (hg : R[Y.b + 1 + k]? = some g)
    (hq : u.x ≠ .quit) (hd : u.d = deafT u.x) (hf : 1 ≤ u.f) (hgo : GoW P Y tL tW Held k u 0 g w) (hw : waitsW u.x sh) (hs : stepG P false g w = .go { g with status := .blocked } w #[]) :
    ∃ m₁ ops, runT P (crowd R w sl) (Y.b + 1 + k) = (.next m₁, ops) ∧ Nxt P Y tL tW Held n Fin o0 (mu n Y sp L sh f0 qE) m₁ (T ++ ops) := by
  have hi0 : (Y.b + 1 + k == 0) = false := by simp
  have hrun := runT_crowd_go (P := P) (sl := sl) hg (by rw [hi0]; exact hs)
  have hx := set_self (ths_get hk)
  have htok := h.tk k u hk
  have key := MI.stepW (r1 := 0) (.inr rfl) (u' := { u with f := 0 }) h hk hg (es := #[]) (w' := w) (g' := { g with status := .blocked }) (by show CI sp ((ths L).set k u.x) sh; rw [hx]; exact h.ci) rfl (by show mes n sp ((ths L).set k u.x) sh ≤ _; rw [hx]; exact Nat.le_refl _) (by show mes n sp ((ths L).set k u.x) sh ≤ u.K; rw [hx]; exact h.mesK k u hk) h.sha
    (RF.refl w) (fun _ _ _ _ => RF.refl w) .inl .inl (.inr (.inl ⟨hq, hd, hw.1, hw.2, g, rfl, hgo⟩))
    (tok' := tok) ?_ htok (.inl rfl) h.held (fun e => h.lg k u hk e) (.inl rfl) (logN_same h hk (x' := u.x) rfl) ?_ rfl
  · refine ⟨_, _, hrun, _, _, _, _, _, _, _, _, _, _, _, _, _, _, rfl, key, ?_⟩
    have e1 : ths ((L.map (Wk.up 0)).set k { u with f := 0 }) = ths L := by rw [ths_set, ths_up]; exact hx
    unfold mu
    rw [e1]
    refine .right _ ?_
    have hsum := sum_mv (r1 := 0) (u' := { u with f := 0 }) hk
    simp only at hsum ⊢
    omega
  · refine (h.tr.app (h.actW hk) fun op hop => ?_).less (fam_get fun j v hv => ?_)
    · obtain ⟨e, he, _⟩ := of_mem hop
      simp at he
    · rcases set_get hv with ⟨rfl, rfl, _⟩ | ⟨_, hv'⟩
      · exact ⟨u, hk, fun _ x => x⟩
      · exact ⟨v, hv', fun _ x => x⟩
  · intro hmu
    obtain ⟨r, hr⟩ := h.rel k u hk hmu
    exact ⟨r, hr.own _ _ #[] (by simp)⟩

/-- it leaves -/
theorem quitW (h : MI P Y tL tW Held n Fin o0 R w T sp L sh log tok a F0 K0 f0 d0 qE) (hk : L[k]? = some u) (hg : R[Y.b + 1 + k]? = some g)
    (hq : u.x = .quit) {q : Nat} (hf : (n + 2) * q ≤ u.f) (hQ : QuitsD P q u.d g) (hr : g.status = .running) :
    ∃ m₁ ops, runT P (crowd R w sl) (Y.b + 1 + k) = (.next m₁, ops) ∧ Nxt P Y tL tW Held n Fin o0 (mu n Y sp L sh f0 qE) m₁ (T ++ ops) := by
  have hi0 : (Y.b + 1 + k == 0) = false := by simp
  cases q with
  | zero => rw [hQ.1] at hr; cases hr
  | succ q =>
  rcases hQ with ⟨h1, _⟩ | ⟨_, g', es, hmu, hst, hQ'⟩
  · rw [h1] at hr; cases hr
  have hs := hst w
  have hrun := runT_crowd_go (P := P) (sl := sl) hg (by rw [hi0]; exact hs)
  have hx := set_self (ths_get hk)
  have htok := h.tk k u hk
  have hn : ∀ e ∈ es, (MemAct.ofEvent e).touch? = none := fun e he => touch_mute (hmu e he)
  have hop : ∀ op ∈ MemOp.ofEvents (Y.b + 1 + k) g.frame.fn g.frame.place es, op.act.touch? = none ∧ op.act ≠ .mark (.release Y.lk) ∧ op.act ≠ .mark (.release (stA Y.Wg)) := fun op hop => by
    obtain ⟨e, he, rfl⟩ := of_mem hop
    refine ⟨hn e he, ?_⟩
    have hm := hmu e he
    obtain ⟨loc, x, s⟩ := e
    cases loc with
    | mark m => cases m <;> first | (simp [Event.mute] at hm; done) | exact ⟨by simp [MemAct.ofEvent], by simp [MemAct.ofEvent]⟩
    | _ => simp [Event.mute] at hm
  have key := MI.stepW (r1 := 1) (.inl rfl) (u' := { u with f := u.f - (n + 2), d := deafBehind u.d es }) h hk hg (es := es) (w' := w) (g' := g') (by show CI sp ((ths L).set k u.x) sh; rw [hx]; exact h.ci) rfl (by show mes n sp ((ths L).set k u.x) sh ≤ _; rw [hx]; exact Nat.le_refl _) (by show mes n sp ((ths L).set k u.x) sh ≤ u.K; rw [hx]; exact h.mesK k u hk) h.sha
    (RF.refl w) (fun _ _ _ _ => RF.refl w) .inl .inl (.inr (.inr ⟨hq, q, by show _ ≤ u.f - (n + 2); have : (n + 2) * (q + 1) = (n + 2) * q + (n + 2) := Nat.mul_succ _ _; omega, hQ'⟩))
    (tok' := tok) ?_ htok (.inl rfl) h.held (fun e => h.lg k u hk e) (.inl rfl) (logN_same h hk (x' := u.x) rfl) ?_ rfl
  · refine ⟨_, _, hrun, _, _, _, _, _, _, _, _, _, _, _, _, _, _, rfl, key, ?_⟩
    have e1 : ths ((L.map (Wk.up 1)).set k { u with f := u.f - (n + 2), d := deafBehind u.d es }) = ths L := by rw [ths_set, ths_up]; exact hx
    unfold mu
    rw [e1]
    refine .right _ ?_
    have hsum := sum_mv (r1 := 1) (u' := { u with f := u.f - (n + 2), d := deafBehind u.d es }) hk
    have hn := len_n h
    have : (n + 2) * (q + 1) = (n + 2) * q + (n + 2) := Nat.mul_succ _ _
    simp only at hsum ⊢
    omega
  · refine (h.tr.app (h.actW hk) fun op ho => ?_).less (fam_get fun j v hv => ?_)
    · exact ⟨of_g op ho, (hop op ho).2, fun x hx' => by rw [(hop op ho).1] at hx'; cases hx'⟩
    · rcases set_get hv with ⟨rfl, rfl, _⟩ | ⟨_, hv'⟩
      · exact ⟨u, hk, fun _ x => x⟩
      · exact ⟨v, hv', fun _ x => x⟩
  · intro hmu'
    obtain ⟨r, hr'⟩ := h.rel k u hk hmu'
    exact ⟨r, hr'.still fun op ho => (hop op ho).1⟩
end
end Go.Proofs.Ytpmmimcafkillaa.Tr
