/-
  An operation of an ordinary frame moves it or halts the run. It names no program; no conditions.
-/
import Derived.Test.YtdemcjppokhonaaBr7
set_option linter.unusedVariables false
set_option linter.unusedSimpArgs false
namespace Go.Proofs.Ytdemcjppokhonaa
open Go Go.Conc
variable {P : Program} {F : FuncId → Bool}

theorem early_refused (hF : SetOk P F) {fr : Frame} {cs : List Frame} {g : Nat} (w : World) (h : P.globals.size ≤ g) : ∃ o, early P fr cs none g w = .ended o w := by
  unfold early
  simp only [hF.ahead, hF.late g h, Bool.not_true, Bool.false_eq_true, if_false]
  exact ⟨_, rfl⟩

theorem ok_raise {fr : Frame} (h : OkF P F fr) (ch : List PanicEntry) : OkF P F (fr.raise ch) := by
  obtain ⟨fn, tmps, todo, defers, mode, kind, roundOf⟩ := fr
  obtain ⟨h1, h2, h3, h4, h5⟩ := h
  cases mode <;> exact ⟨h1, h2, h3, h4, h5⟩

theorem apply_moves (hF : SetOk P F) {fr : Frame} {up : List Frame} {w : World} (h : OkF P F fr) (hm : fr.mode = .run) {ops : Array Oper} {l : List Nat} {k : List Item} (ht : fr.todo = .inRegion ops l :: k)
    (hu : ∀ f ∈ up, OkF P F f ∧ f.mode = .run) (hg : GC P w) {s : Sem Next} (hs : Lf P (Plain F) s) (hst : ∀ cs v, stepG P true (G fr cs) v = stepG.apply P true fr cs none s v) :
    (∃ fr' up' w' es, Moves P F fr up w fr' up' w' es) ∨ Halts P fr up w := by
  have hl := run_leaf hs w #[]
  have hgw := run_grows P hs.noSys w #[]
  have hrt := run_rt P hs.noSys w #[]
  have hc : GC P (wof (s.runT P w #[]).1) := fun g hgg => run_cells hs.noSys w #[] (hg g hgg)
  have hk : (fr.kind == CallKind.early) = false := by rw [h.kind]; rfl
  cases hr : s.runT P w #[] with
  | mk r es =>
    have hev : ∀ fn, ∀ e ∈ seen P fn es, EvZ e := fun fn e he => by
      have := run_evs P hs.noSys w #[] (by simp)
      rw [hr] at this
      exact this e (mem_seen he)
    rw [hr] at hl hgw hrt hc
    cases r with
    | ok a w' =>
      simp only [wof, Came, mapW] at hl hgw hrt hc
      cases a with
      | value v =>
        refine .inl ⟨fr.finish v, up, w', seen P fr.fn es, (ok_finish h v).1, hu, hc, hgw.1, hgw.2, hev _, fun cs T d hag => ?_⟩
        rw [hst]
        simp only [stepG.apply, ↓reduceIte, hrt T d hag, hk, Bool.false_eq_true, GStep.after, G, Array.append_empty]
      | skip =>
        refine .inl ⟨fr.finish undef, up, w', seen P fr.fn es, (ok_finish h undef).1, hu, hc, hgw.1, hgw.2, hev _, fun cs T d hag => ?_⟩
        rw [hst]
        simp only [stepG.apply, ↓reduceIte, hrt T d hag, hk, Bool.false_eq_true, GStep.after, G, Array.append_empty]
      | enter f args =>
        refine .inl ⟨Frame.enter P f args .normal, fr :: up, w', seen P fr.fn es, (ok_enter hF hl args).1, ?_, hc, hgw.1, hgw.2, hev _, fun cs T d hag => ?_⟩
        · intro f hf
          rcases List.mem_cons.1 hf with rfl | hf
          · exact ⟨h, hm⟩
          · exact hu f hf
        · rw [hst]
          simp only [stepG.apply, ↓reduceIte, hrt T d hag, hk, Bool.false_eq_true, GStep.after, G, ht, Array.append_empty, List.cons_append]
      | _ => exact hl.elim
    | halt x w' =>
      simp only [wof, Came, mapW] at hl hgw hrt hc
      rcases hl with hl | ⟨g, c, t, rfl, hp⟩
      · cases x with
        | panic v =>
          refine .inl ⟨fr.raise [{ v, recovered := false }], up, w', seen P fr.fn es, ok_raise h _, hu, hc, hgw.1, hgw.2, hev _, fun cs T d hag => ?_⟩
          rw [hst]
          simp only [stepG.apply, ↓reduceIte, hrt T d hag, hk, Bool.false_eq_true, GStep.after, G, Array.append_empty]
        | stuck m =>
          refine .inr fun cs => ?_
          rw [hst]
          (simp only [stepG.apply, ↓reduceIte, hr, hk, Bool.false_eq_true, GStep.after]; exact ⟨_, _, _, rfl⟩)
        | unsupported u =>
          refine .inr fun cs => ?_
          rw [hst]
          cases u with
          | initOrder g => cases hl
          | _ => simp only [stepG.apply, ↓reduceIte, hr, hk, Bool.false_eq_true, GStep.after]; exact ⟨_, _, _, rfl⟩
        | _ => cases hl
      · refine .inr fun cs => ?_
        rw [hst]
        have hge : P.globals.size ≤ g := by
          rcases Nat.lt_or_ge g P.globals.size with hlt | hge
          · obtain ⟨c', t', f', hx⟩ := hc g hlt
            rw [hx] at hp
            cases hp
          · exact hge
        obtain ⟨o, he⟩ := early_refused hF (fr := fr) (cs := up ++ cs) w' hge
        simp only [stepG.apply, ↓reduceIte, hr, hk, Bool.false_eq_true, GStep.after, he]; exact ⟨_, _, _, rfl⟩
end Go.Proofs.Ytdemcjppokhonaa
