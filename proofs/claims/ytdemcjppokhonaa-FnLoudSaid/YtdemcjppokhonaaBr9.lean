/-
  Every step of an ordinary frame moves it or halts the run. It names no program; no conditions.
-/
import Derived.Test.YtdemcjppokhonaaBr8
set_option linter.unusedVariables false
set_option linter.unusedSimpArgs false
namespace Go.Proofs.Ytdemcjppokhonaa
open Go Go.Conc
variable {P : Program} {F : FuncId → Bool}

theorem ns_results (fn : Func) (tmps : Array Value) : NoSys P (results fn tmps) := by
  unfold results
  refine ns_bind (ns_mapM_array _ (fun x => ?_) _) fun _ => ns_pure _
  split
  · exact ns_pure _
  · exact ns_bind (ns_asAddr _) fun _ => ns_loadVar _ _

theorem step_ok (hF : SetOk P F) {fr : Frame} {up : List Frame} {w : World} (h : OkF P F fr) (hu : ∀ f ∈ up, OkF P F f ∧ f.mode = .run) (hg : GC P w) (hend : up ≠ [] ∨ fr.mode = .run) :
    (∃ fr' up' w' es, Moves P F fr up w fr' up' w' es) ∨ Halts P fr up w := by
  have hOk := h
  obtain ⟨fn, tmps, todo, defers, mode, kind, roundOf⟩ := fr
  obtain ⟨h1, h2, h3, h4, h5⟩ := h
  simp only at h1 h2 h3 h4 h5
  subst h1 h2 h3
  cases mode with
  | run =>
    have to : ∀ todo', todo'.all (okIt F) = true → (∀ cs v, stepG P true (G ⟨fn, tmps, todo, [], .run, .normal, none⟩ cs) v = .go (G ⟨fn, tmps, todo', [], .run, .normal, none⟩ cs) v #[]) →
        (∃ fr' up' w' es, Moves P F ⟨fn, tmps, todo, [], .run, .normal, none⟩ up w fr' up' w' es) ∨ Halts P ⟨fn, tmps, todo, [], .run, .normal, none⟩ up w :=
      fun todo' ha hs => .inl ⟨_, _, _, _, moves_to ⟨rfl, rfl, rfl, h4, ha⟩ hu hg hs⟩
    cases todo with
    | nil => exact .inl ⟨_, _, _, _, moves_to (fr' := ⟨fn, tmps, [], [], .returning, .normal, none⟩) ⟨rfl, rfl, rfl, h4, rfl⟩ hu hg (fun cs v => by simp [G, stepG, stepG.exec])⟩
    | cons x k =>
      have ha := h5
      simp only [List.all_cons, Bool.and_eq_true] at ha
      cases x with
      | code c =>
        cases c with
        | skip => exact to k ha.2 (fun cs v => by simp [G, stepG, stepG.exec])
        | label l => exact to k ha.2 (fun cs v => by simp [G, stepG, stepG.exec])
        | ret => exact .inl ⟨_, _, _, _, moves_to (fr' := ⟨fn, tmps, _, [], .returning, .normal, none⟩) ⟨rfl, rfl, rfl, h4, h5⟩ hu hg (fun cs v => by simp [G, stepG, stepG.exec])⟩
        | seq a b => exact to (.code a :: .code b :: k) (by have := ha.1; simp only [okIt, okC, Bool.and_eq_true] at this; simp only [List.all_cons, Bool.and_eq_true]; exact ⟨this.1, this.2, ha.2⟩) (fun cs v => by simp [G, stepG, stepG.exec])
        | block id b => exact to (.code b :: .inBlock id :: k) (by have := ha.1; simp only [okIt, okC] at this; simp only [List.all_cons, Bool.and_eq_true]; exact ⟨this, by first | rfl | exact this, ha.2⟩) (fun cs v => by simp [G, stepG, stepG.exec])
        | loop b => exact to (.code b :: .inLoop b :: k) (by have := ha.1; simp only [okIt, okC] at this; simp only [List.all_cons, Bool.and_eq_true]; exact ⟨this, by first | rfl | exact this, ha.2⟩) (fun cs v => by simp [G, stepG, stepG.exec])
        | scope b => exact to (.code b :: .inScope b :: k) (by have := ha.1; simp only [okIt, okC] at this; simp only [List.all_cons, Bool.and_eq_true]; exact ⟨this, by first | rfl | exact this, ha.2⟩) (fun cs v => by simp [G, stepG, stepG.exec])
        | cond c a b =>
          have hab := ha.1
          simp only [okIt, okC, Bool.and_eq_true] at hab
          by_cases hv : ∃ t, (⟨fn, tmps, .code (.cond c a b) :: k, [], .run, .normal, none⟩ : Frame).eval c = .bool t
          · obtain ⟨t, hv⟩ := hv
            exact to (.code (if t then a else b) :: k) (by simp only [List.all_cons, Bool.and_eq_true]; exact ⟨by cases t; exact hab.2; exact hab.1, ha.2⟩) (fun cs v => by simp [G, stepG, stepG.exec, hv])
          · refine .inr fun cs => ?_
            simp only [G, stepG, stepG.exec]
            split
            · rename_i t hv'; exact absurd ⟨t, hv'⟩ hv
            · exact ⟨_, _, _, rfl⟩
        | exit id =>
          cases hx : exitTo id k with
          | some k' => exact to k' (all_exitTo ha.2 hx) (fun cs v => by simp [G, stepG, stepG.exec, hx])
          | none => exact .inr fun cs => by simp only [G, stepG, stepG.exec, hx, Option.elim]; exact ⟨_, _, _, rfl⟩
        | goto l =>
          cases hx : gotoIn l k with
          | some k' => exact to k' (all_gotoIn ha.2 hx) (fun cs v => by simp [G, stepG, stepG.exec, hx])
          | none => exact .inr fun cs => by simp only [G, stepG, stepG.exec, hx, Option.elim]; exact ⟨_, _, _, rfl⟩
        | region id ops draw =>
          cases draw with
          | false => exact to (.inRegion ops (List.range ops.size) :: k) (by have := ha.1; simp only [okIt, okC] at this; simp only [List.all_cons, Bool.and_eq_true]; exact ⟨this, ha.2⟩) (fun cs v => by simp [G, stepG, stepG.exec])
          | true =>
            refine .inl ⟨⟨fn, tmps, .inRegion ops (Region.schedule (P.follows .mixedOrders) ops (w.tape w.drawn (.order fn id))) :: k, [], .run, .normal, none⟩, up, { w with drawn := w.drawn + 1 }, #[], ⟨rfl, rfl, rfl, h4, ?_⟩, hu, hg, Nat.le_succ _, rfl, by simp, fun cs T d hag => ?_⟩
            · have := ha.1; simp only [okIt, okC] at this; simp only [List.all_cons, Bool.and_eq_true]; exact ⟨this, ha.2⟩
            · have h0 : T d = w.tape w.drawn := hag 0 (Nat.lt_succ_self _)
              simp [G, stepG, stepG.exec, choose, Sem.run, Question.forced, Question.cut, rt, h0]
        | rangeFunc f a b c => cases ha.1
        | refuse s => cases ha.1
      | inBlock id => exact to k ha.2 (fun cs v => by simp [G, stepG, stepG.exec])
      | inScope b => exact to k ha.2 (fun cs v => by simp [G, stepG, stepG.exec])
      | inLoop b => exact to (.code b :: .inLoop b :: k) (by have := ha.1; simp only [okIt] at this; simp only [List.all_cons, Bool.and_eq_true]; exact ⟨this, this, ha.2⟩) (fun cs v => by simp [G, stepG, stepG.exec])
      | inRegion ops l =>
        cases l with
        | nil => exact to k ha.2 (fun cs v => by simp [G, stepG, stepG.exec])
        | cons i rest =>
          by_cases hw : ((ops[i]?).map (Region.wanted · (yielded ops tmps))).getD false = true
          · cases ho : ops[i]? with
            | none => rw [ho] at hw; cases hw
            | some o =>
              have hoo : okOp F o.op = true := by
                have := ha.1
                simp only [okIt, List.all_eq_true] at this
                exact this o (Array.mem_toList_iff.2 (Array.mem_of_getElem? ho))
              refine apply_moves hF hOk rfl rfl hu hg (lf_execOp hF.bodied (ρ := (⟨fn, tmps, .inRegion ops (i :: rest) :: k, [], .run, .normal, none⟩ : Frame).eval) (fun f => rfl) hoo) (fun cs v => ?_)
              rw [ho] at hw
              simp only [Option.map_some, Option.getD_some] at hw
              simp [G, stepG, stepG.exec, stepG.oper, Frame.oper?, ho, hw]
          · refine .inl ⟨_, _, _, _, moves_to (ok_finish hOk undef).1 hu hg (fun cs v => ?_)⟩
            simp [G, stepG, stepG.exec, hw]
      | inRangeFunc l => cases ha.1
      | endRangeFunc l => cases ha.1
      | beginRound => cases ha.1
      | call a b c d => cases ha.1
      | extern a b => cases ha.1
  | returning =>
    obtain ⟨f, hf⟩ := h4
    cases up with
    | nil => rcases hend with h | h <;> simp at h
    | cons c up =>
      obtain ⟨hc, hcm⟩ := hu c (List.mem_cons_self ..)
      have hu' : ∀ f ∈ up, OkF P F f ∧ f.mode = .run := fun f hf => hu f (List.mem_cons_of_mem _ hf)
      have hns := ns_results (P := P) f tmps
      have hgw := run_grows P hns w #[]
      have hrt := run_rt P hns w #[]
      have hcc : GC P (wof ((results f tmps).runT P w #[]).1) := fun g hgg => run_cells hns w #[] (hg g hgg)
      cases hr : (results f tmps).runT P w #[] with
      | mk r es =>
        have hev : ∀ e ∈ seen P fn es, EvZ e := fun e he => by
          have := run_evs P hns w #[] (by simp)
          rw [hr] at this
          exact this e (mem_seen he)
        rw [hr] at hgw hrt hcc
        cases r with
        | ok v w' =>
          simp only [wof, mapW] at hgw hrt hcc
          refine .inl ⟨c.finish v, up, w', seen P fn es, (ok_finish hc v).1, hu', hcc, hgw.1, hgw.2, hev, fun cs T d hag => ?_⟩
          simp only [G, stepG, unwind, hf, hrt T d hag, doReturn, GStep.after, List.cons_append, Array.append_empty]
        | halt x w' =>
          refine .inr fun cs => ?_
          cases x <;> (simp only [G, stepG, unwind, hf, hr, GStep.after]; exact ⟨_, _, _, rfl⟩)
  | panicking ch =>
    obtain ⟨f, hf⟩ := h4
    cases up with
    | nil => rcases hend with h | h <;> simp at h
    | cons c up =>
      obtain ⟨hc, hcm⟩ := hu c (List.mem_cons_self ..)
      have hu' : ∀ f ∈ up, OkF P F f ∧ f.mode = .run := fun f hf => hu f (List.mem_cons_of_mem _ hf)
      refine .inl ⟨c.raise ch, up, w, #[], ok_raise hc _, hu', hg, Nat.le_refl _, rfl, by simp, fun cs T d hag => ?_⟩
      simp [G, stepG, unwind, Frame.catches, hf]
end Go.Proofs.Ytdemcjppokhonaa
