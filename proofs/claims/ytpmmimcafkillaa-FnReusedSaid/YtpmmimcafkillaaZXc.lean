/-
  A map of int64 by int64, looked up and written: what is yielded, what is listed. It names no program; no conditions.
  The worker: keep.
  The worker: valuesOf: its operations.
-/
import Derived.Test.YtpmmimcafkillaaZXo
import Derived.Maps.OwnSet
import Derived.Test.YtpmmimcafkillaaZWe
import Derived.Test.YtpmmimcafkillaaZWl
import Derived.Conc.AppendWalk
import Derived.Great.BuildSlice
set_option linter.unusedVariables false
set_option linter.unusedSimpArgs false
namespace Go.Proofs.Ytpmmimcafkillaa.Tr
open Go Go.Conc Go.ConcN
/-- what is kept at a number -/
def look (l : List (Int × Int)) (i : Int) : Option Int := (l.find? (fun p => p.1 == i)).map (·.2)
theorem look_cons (p : Int × Int) (l : List (Int × Int)) (i : Int) : look (p :: l) i = if p.1 = i then some p.2 else look l i := by
  unfold look
  rw [List.find?_cons]
  by_cases h : p.1 = i
  · simp [h]
  · rw [if_neg h, show (p.1 == i) = false by simp [h]]
def kv (e : MapEntry) : Value × Value := (e.key, e.val)
def mkv (p : Int × Int) : Value × Value := (.int .i64 p.1, .int .i64 p.2)
/-- the map's block holds just that, in that order -/
def MpAt (Mp : Nat) (w : World) (l : List (Int × Int)) : Prop := ∃ es clock, w.heap[Mp]? = some (.map es clock) ∧ es.toList.map kv = l.map mkv
theorem findNow_int (i : Int) : ∀ (es : List MapEntry) (l : List (Int × Int)) (j : Nat), es.map kv = l.map mkv →
    ∃ r, Instr.findNow (.int .i64) (.int .i64 i) es j = some r ∧ r.map (·.2) = (look l i).map (fun v => Value.int .i64 v)
  | [], [], j, _ => ⟨none, rfl, rfl⟩
  | [], _ :: _, _, h => by simp at h
  | _ :: _, [], _, h => by simp at h
  | e :: es, p :: l, j, h => by
    simp only [List.map_cons, List.cons.injEq] at h
    obtain ⟨h1, h2⟩ := h
    have hk : e.key = .int .i64 p.1 := congrArg Prod.fst h1
    have hv : e.val = .int .i64 p.2 := congrArg Prod.snd h1
    rw [look_cons, Instr.findNow, hk]
    simp only [Instr.sameNow, if_true]
    by_cases hi : p.1 = i
    · subst hi
      exact ⟨some (j, .int .i64 p.2), by simp [hv], by simp⟩
    · obtain ⟨r, h3, h4⟩ := findNow_int i es l (j + 1) h2
      have : (i == p.1) = false := by simp; exact fun e => hi e.symm
      rw [this, if_neg hi]
      exact ⟨r, h3, h4⟩
section
variable {P : Program} {t k e : TypeId} {Mp : Nat} {w : World} {l : List (Int × Int)} {i v : Int}
theorem findKey_int (hk : P.underlying k = some (.int .i64)) {es : List MapEntry} (h : es.map kv = l.map mkv) (i : Int) :
    ∃ r, (Instr.findKey k (.int .i64 i) es).run P w = .ok r w ∧ (∀ es0, (Instr.findKey k (.int .i64 i) es).events P w es0 = es0) ∧ r.map (·.2) = (look l i).map (fun v => Value.int .i64 v) := by
  obtain ⟨r, h1, h2⟩ := findNow_int i es l 0 h
  exact ⟨r, by simp [Instr.findKey, run_underlying hk, h1, Result.andThen], fun es0 => by simp [Instr.findKey, run_underlying hk, h1, Result.evThen], h2⟩
theorem checkKey_int (hk : P.underlying k = some (.int .i64)) (b : Bool) (i : Int) : (Instr.checkKey b 10000 k (.int .i64 i)).run P w = .ok () w ∧ ∀ es0, (Instr.checkKey b 10000 k (.int .i64 i)).events P w es0 = es0 := by
  have e : Instr.checkKey b 10000 k (.int .i64 i) = Instr.checkKey b (9999 + 1) k (.int .i64 i) := rfl
  rw [e, Instr.checkKey]
  exact ⟨by simp [run_underlying hk, Result.andThen], fun es0 => by simp [run_underlying hk, Result.evThen]⟩
theorem run_lookupI (ht : P.underlying t = some (.map k e)) (hk : P.underlying k = some (.int .i64)) (h : MpAt Mp w l) (hv : look l i = some v) :
    (Instr.lookup t (.map (some Mp)) (.int .i64 i) false).run P w = .ok (.int .i64 v) w ∧
      ∀ es0, (Instr.lookup t (.map (some Mp)) (.int .i64 i) false).events P w es0 = es0.push ⟨.obj Mp, false, false⟩ := by
  obtain ⟨es, clock, hb, hes⟩ := h
  obtain ⟨r, h1, h2, h3⟩ := findKey_int (w := w) hk hes i
  rw [hv] at h3
  rcases r with _ | ⟨n, x⟩
  · simp at h3
  · simp only [Option.map_some, Option.some.injEq] at h3
    subst h3
    have hck := fun b => (checkKey_int (w := w) hk b i).1
    have hcke := fun b => (checkKey_int (w := w) hk b i).2
    have hg : (getObj Mp).run P w = .ok (.map es clock) w := MapKept.run_getObj_map hb
    have hge : ∀ es0, (getObj Mp).events P w es0 = es0.push ⟨.obj Mp, false, false⟩ := fun es0 => by simp [getObj, Sem.events, Sem.runT, hb, Obj.isChan, -Sem.runT_eq]
    constructor
    · simp [Instr.lookup, run_underlying ht, hg, hck, hcke, h1, Result.andThen]
    · intro es0
      simp [Instr.lookup, run_underlying ht, hg, hge, hck, hcke, h1, h2, Result.andThen, Result.evThen]
theorem run_updateI (ht : P.underlying t = some (.map k e)) (hk : P.underlying k = some (.int .i64)) (h : MpAt Mp w l) (hv : look l i = none) :
    ∃ o, (Instr.mapUpdate t (.map (some Mp)) (.int .i64 i) (.int .i64 v)).run P w = .ok () { w with heap := w.heap.setIfInBounds Mp o } ∧ MpAt Mp { w with heap := w.heap.setIfInBounds Mp o } (l ++ [(i, v)]) ∧
      ∀ es0, (Instr.mapUpdate t (.map (some Mp)) (.int .i64 i) (.int .i64 v)).events P w es0 = (es0.push ⟨.obj Mp, false, false⟩).push ⟨.obj Mp, true, false⟩ := by
  obtain ⟨es, clock, hb, hes⟩ := h
  obtain ⟨r, h1, h2, h3⟩ := findKey_int (w := w) hk hes i
  rw [hv] at h3
  rcases r with _ | ⟨n, x⟩
  · have hck := fun b => (checkKey_int (w := w) hk b i).1
    have hcke := fun b => (checkKey_int (w := w) hk b i).2
    have hg : (getObj Mp).run P w = .ok (.map es clock) w := MapKept.run_getObj_map hb
    have hge : ∀ es0, (getObj Mp).events P w es0 = es0.push ⟨.obj Mp, false, false⟩ := fun es0 => by simp [getObj, Sem.events, Sem.runT, hb, Obj.isChan, -Sem.runT_eq]
    have hs : ∀ o, (setObj Mp o).run P w = .ok () { w with heap := w.heap.setIfInBounds Mp o } := fun o => by simp [setObj, Sem.run, hb]
    have hse : ∀ (es1 : Array MapEntry) (c1 : Nat) (es0 : Array Event), (setObj Mp (.map es1 c1)).events P w es0 = es0.push ⟨.obj Mp, true, false⟩ := fun es1 c1 es0 => by simp [setObj, Sem.events, Sem.runT, hb, Obj.isChan, -Sem.runT_eq]
    refine ⟨.map (es.push ⟨.int .i64 i, .int .i64 v, clock⟩) (clock + 1), ?_, ⟨es.push ⟨.int .i64 i, .int .i64 v, clock⟩, clock + 1, ?_, ?_⟩, fun es0 => ?_⟩
    · simp [Instr.mapUpdate, run_underlying ht, hg, hck, hcke, h1, hs, Result.andThen]
    · have hlt := (Array.getElem?_eq_some_iff.1 hb).1
      show (w.heap.setIfInBounds Mp _)[Mp]? = some (.map (es.push ⟨.int .i64 i, .int .i64 v, clock⟩) (clock + 1))
      rw [Array.getElem?_setIfInBounds_self_of_lt hlt]
    · simp [hes, kv, mkv]
    · simp [Instr.mapUpdate, run_underlying ht, hg, hge, hck, hcke, h1, h2, hs, hse, Result.andThen, Result.evThen]
  · simp at h3
end
/-- where it is found -/
theorem findNow_at (i : Int) : ∀ (es : List MapEntry) (l : List (Int × Int)) (j n : Nat) (x : Value), es.map kv = l.map mkv →
    Instr.findNow (.int .i64) (.int .i64 i) es j = some (some (n, x)) → ∃ m e, n = j + m ∧ es[m]? = some e ∧ e.key = .int .i64 i ∧ e.val = x
  | [], _, j, n, x, _, h => by simp [Instr.findNow] at h
  | _ :: _, [], _, _, _, h, _ => by simp at h
  | e :: es, p :: l, j, n, x, h, hf => by
    simp only [List.map_cons, List.cons.injEq] at h
    obtain ⟨h1, h2⟩ := h
    have hk : e.key = .int .i64 p.1 := congrArg Prod.fst h1
    rw [Instr.findNow, hk] at hf
    simp only [Instr.sameNow, if_true] at hf
    by_cases hi : i = p.1
    · subst hi
      simp only [beq_self_eq_true, Option.some.injEq, Prod.mk.injEq] at hf
      obtain ⟨rfl, rfl⟩ := hf
      exact ⟨0, e, by simp, rfl, hk, rfl⟩
    · have : (i == p.1) = false := by simp [hi]
      rw [this] at hf
      obtain ⟨m, e', h3, h4, h5, h6⟩ := findNow_at i es l (j + 1) n x h2 hf
      exact ⟨m + 1, e', by omega, by simpa using h4, h5, h6⟩
theorem run_updateE {P : Program} {t k e : TypeId} {Mp : Nat} {w : World} {l : List (Int × Int)} {i v : Int} (ht : P.underlying t = some (.map k e)) (hk : P.underlying k = some (.int .i64)) (h : MpAt Mp w l) (hv : look l i = some v) :
    ∃ o, (Instr.mapUpdate t (.map (some Mp)) (.int .i64 i) (.int .i64 v)).run P w = .ok () { w with heap := w.heap.setIfInBounds Mp o } ∧ MpAt Mp { w with heap := w.heap.setIfInBounds Mp o } l ∧
      ∀ es0, (Instr.mapUpdate t (.map (some Mp)) (.int .i64 i) (.int .i64 v)).events P w es0 = (es0.push ⟨.obj Mp, false, false⟩).push ⟨.obj Mp, true, false⟩ := by
  obtain ⟨es, clock, hb, hes⟩ := h
  obtain ⟨r, h1, h2⟩ := findNow_int i es.toList l 0 hes
  rw [hv] at h2
  rcases r with _ | ⟨n, x⟩
  · simp at h2
  · simp only [Option.map_some, Option.some.injEq] at h2
    subst h2
    obtain ⟨m, ent, h3, h4, h5, h6⟩ := findNow_at i es.toList l 0 n _ hes h1
    rw [Nat.zero_add] at h3
    subst h3
    have h4' : es[n]? = some ent := by rw [← h4]; simp
    have hfk : (Instr.findKey k (.int .i64 i) es.toList).run P w = .ok (some (n, .int .i64 v)) w := by simp [Instr.findKey, run_underlying hk, h1, Result.andThen]
    have hfke : ∀ es0, (Instr.findKey k (.int .i64 i) es.toList).events P w es0 = es0 := fun es0 => by simp [Instr.findKey, run_underlying hk, h1, Result.evThen]
    have hck := fun b => (checkKey_int (w := w) hk b i).1
    have hcke := fun b => (checkKey_int (w := w) hk b i).2
    have hg : (getObj Mp).run P w = .ok (.map es clock) w := MapKept.run_getObj_map hb
    have hge : ∀ es0, (getObj Mp).events P w es0 = es0.push ⟨.obj Mp, false, false⟩ := fun es0 => by simp [getObj, Sem.events, Sem.runT, hb, Obj.isChan, -Sem.runT_eq]
    have hs : ∀ o, (setObj Mp o).run P w = .ok () { w with heap := w.heap.setIfInBounds Mp o } := fun o => by simp [setObj, Sem.run, hb]
    have hse : ∀ (es1 : Array MapEntry) (c1 : Nat) (es0 : Array Event), (setObj Mp (.map es1 c1)).events P w es0 = es0.push ⟨.obj Mp, true, false⟩ := fun es1 c1 es0 => by simp [setObj, Sem.events, Sem.runT, hb, Obj.isChan, -Sem.runT_eq]
    have hkt : Instr.keyThatStays (.int .i64 i) (.int .i64 i) = pure (.int .i64 i) := by
      unfold Instr.keyThatStays
      rw [if_pos (show Instr.sameBits (9999 + 1) (.int .i64 i) (.int .i64 i) = true by rw [Instr.sameBits]; simp)]
    have hkey : ((es[n]?).map (·.key)).getD (.int .i64 i) = .int .i64 i := by rw [h4']; exact h5
    refine ⟨.map (es.modify n fun e => { e with key := .int .i64 i, val := .int .i64 v }) clock, ?_, ⟨es.modify n fun e => { e with key := .int .i64 i, val := .int .i64 v }, clock, ?_, ?_⟩, fun es0 => ?_⟩
    · simp only [Instr.mapUpdate]
      simp [run_underlying ht, hg, hck, hcke, hfk, hs, hkt, h4', h5, Result.andThen]
    · have hlt := (Array.getElem?_eq_some_iff.1 hb).1
      show (w.heap.setIfInBounds Mp _)[Mp]? = _
      rw [Array.getElem?_setIfInBounds_self_of_lt hlt]
    · rw [← hes]
      apply List.ext_getElem?
      intro q
      simp only [Array.toList_modify, List.getElem?_map, List.getElem?_modify]
      by_cases hq : n = q
      · subst hq
        simp [h4, kv, h5, h6]
      · simp [hq]
    · simp only [Instr.mapUpdate]
      simp [run_underlying ht, hg, hge, hck, hcke, hfk, hfke, hs, hse, hkt, h4', h5, Result.andThen, Result.evThen]
/-- what is kept at i is turned, or stands, in one step -/
structure UpB (P : Program) (Mp : Nat) (num val : Int) (ob : Obj) (w : World) : Prop where
  run : (Instr.mapUpdate 79 (.map (some Mp)) (.int .i64 num) (.int .i64 val)).run P w = .ok () { w with heap := w.heap.setIfInBounds Mp ob }
  ev : ∀ es0, (Instr.mapUpdate 79 (.map (some Mp)) (.int .i64 num) (.int .i64 val)).events P w es0 = (es0.push ⟨.obj Mp, false, false⟩).push ⟨.obj Mp, true, false⟩
theorem look_app (l : List (Int × Int)) (i v q : Int) (h : look l i = none) : look (l ++ [(i, v)]) q = if q = i then some v else look l q := by
  induction l with
  | nil =>
    rw [List.nil_append, look_cons]
    by_cases e : i = q
    · subst e; simp
    · rw [if_neg e, if_neg (Ne.symm e)]
  | cons p l ih =>
    rw [look_cons] at h
    rw [List.cons_append, look_cons, look_cons]
    by_cases e : p.1 = i
    · rw [if_pos e] at h; cases h
    · rw [if_neg e] at h
      rw [ih h]
      by_cases e2 : p.1 = q
      · rw [if_pos e2, if_pos e2, if_neg (fun e3 => e (e2.trans e3))]
      · rw [if_neg e2, if_neg e2]
end Go.Proofs.Ytpmmimcafkillaa.Tr

set_option linter.unusedVariables false
set_option linter.unusedSimpArgs false
namespace Go.Proofs.Ytpmmimcafkillaa.Tr
open Go Go.Conc Go.ConcN Go.RowKit Go.Conc.Lib Go.ConcR.Gen Go.ConcM
open Go.ConcR (KK wgBlock WgAt stA smA rd wr mk DC0)
open Go.Proofs.Ytpmmimcafkillaa.Mx
open Go.Proofs.Ytpmmimcafkillaa.Mx (Mu St)
section
variable {P : Program} {Y : Lay} {tL tW : TypeId} {Held : List Nat → World → Prop}
variable {Nx : Mx.Th → (Nat → Prop) → List Nat → Goroutine → World → Prop} {k : Nat} {F : Nat → Prop} {lg : List Nat} {g : Goroutine} {w : World}
/-- how often: one more -/
theorem afStop (hrun : g.status = .running) (hoff : g.offers = none)
    (hall : ∀ sh, ShAt Y tL tW w sh → LocW .af sh → ∃ g' w', stepG P false g w = .go g' w' #[rd ⟨Y.Lg, 3, none⟩, wr ⟨Y.Lg, 3, none⟩] ∧ ShAt Y tL tW w' { sh with often := sh.often + 1 } ∧ Eff Y false w w' ∧
      ∃ m, Goes P false (RF Y tL tW F false) DC0 (Nx (.k2 .ld) F lg) m g' w') : WStp P Y tL tW Held Nx k .af F lg g w := by
  refine ⟨hrun, hoff, fun hwk => ?_, fun e => (by cases e), fun e => (by cases e), fun sh hsh hloc => ⟨fun hwt => ?_, fun _ l0 _ => ?_⟩⟩
  · rcases hwk with ⟨h, e⟩ | e
    · cases e
    · cases e
  · obtain ⟨⟨sv, e⟩, _⟩ := hwt
    cases e
  · obtain ⟨g', w', hs, hsh', heff, m, h⟩ := hall sh hsh hloc
    refine ⟨.k2 .ld, _, g', w', _, .af, hs, hsh', heff, rfl, ?_⟩
    unfold AfterW
    rw [if_neg (by simp), show isMk .af = false from rfl, addB_false, if_neg (by simp)]
    exact ⟨m, goes_dc0 (fun w => .idle w) h⟩
theorem LocW.oft {x : Mx.Th} {sh : Shr} (h : LocW x sh) : sh.often ≤ 100000 := by
  obtain ⟨sp, ths, i, hc, hi, hn, ho⟩ := h
  exact ho
/-- the owner reads where the map lies -/
theorem df_mp (gid : Nat) (v : World) : DF Y gid F true false v v #[⟨.cell ⟨Y.Lg, 2, none⟩, false, false⟩] := by
  refine ⟨rfl, rfl, rfl, rfl, fun _ _ _ => rfl, fun e he => ?_, fun e => (by cases e)⟩
  rw [Array.mem_singleton] at he
  subst he
  refine ⟨fun fn pos o _ => ⟨rfl, ⟨(by simp [MemAct.ofEvent]), (by simp [MemAct.ofEvent])⟩, fun x hx => ?_⟩, by simp, by simp⟩
  simp only [Go.ConcR.ofEvent_cell, MemAct.touch?, Option.some.injEq] at hx
  subst hx
  exact .inr (.inr (.inl ⟨⟨_, rfl, .inr ⟨rfl, rfl⟩⟩, rfl⟩))
theorem ev_obj (gid : Nat) (x : Bool) : EvD Y gid F true ⟨.obj Y.Mp, x, false⟩ := by
  refine ⟨fun fn pos o ho => ⟨rfl, ⟨(by simp [MemAct.ofEvent]), (by simp [MemAct.ofEvent])⟩, fun y hy => ?_⟩, by simp, by simp⟩
  simp [MemAct.ofEvent, MemAct.touch?] at hy
  subst hy
  exact .inr (.inr (.inr ⟨.inl rfl, ho rfl⟩))
/-- the owner looks up -/
theorem df_look (gid : Nat) (v : World) : DF Y gid F true false v v #[⟨.obj Y.Mp, false, false⟩] :=
  ⟨rfl, rfl, rfl, rfl, fun _ _ _ => rfl, fun e he => (by rw [Array.mem_singleton] at he; subst he; exact ev_obj gid _), fun e => (by cases e)⟩
/-- the owner keeps -/
theorem df_keep (gid : Nat) (v : World) (ob : Obj) : DF Y gid F true false v { v with heap := v.heap.setIfInBounds Y.Mp ob } #[⟨.obj Y.Mp, false, false⟩, ⟨.obj Y.Mp, true, false⟩] := by
  refine ⟨rfl, rfl, rfl, by simp, fun b _ hb => ?_, fun e he => ?_, fun e => (by cases e)⟩
  · show (v.heap.setIfInBounds Y.Mp ob)[b]? = _
    rw [Array.getElem?_setIfInBounds_ne (hb rfl).symm]
  · simp at he
    rcases he with rfl | rfl <;> exact ev_obj gid _
theorem rf_keep (v : World) (ob : Obj) (hF : ∀ f, F f → Y.N ≤ f) : RF Y tL tW F false v { v with heap := v.heap.setIfInBounds Y.Mp ob } := by
  have hb : ∀ b, b ≠ Y.Mp → (v.heap.setIfInBounds Y.Mp ob)[b]? = v.heap[b]? := fun b h => by rw [Array.getElem?_setIfInBounds_ne h.symm]
  refine ⟨rfl, rfl, .refl _, by simp, fun b _ _ _ h => hb b h, fun b h => hb b (fun e => ?_), fun e => (by cases e), fun ⟨sh, h⟩ => ⟨sh, h.of (hb _ Y.lm) (hb _ Y.wm)⟩⟩
  have := hF b h
  have := Y.mpN
  omega
end
theorem u79 : Try.prog.underlying 79 = some (.map 2 2) := by kernel_rfl
theorem u2 : Try.prog.underlying 2 = some (.int .i64) := by kernel_rfl
theorem loud61 : (Try.prog.funcs[(base 61).fn]?).any (·.norace) = false := by kernel_rfl
section
variable {main : Bool} {b : Frame} {a : Act} {kk : List Item} {cs : List Frame} {w : World} {ops : Array Oper} {i : Nat} {rest : List Nat} {o : Oper}
theorem stepG_loadM {x : Operand} (ho : ops[i]? = some o) (hw : Region.wanted o (yielded ops a.tmps) = true) (hk : b.kind ≠ .early) (hop : o.op = .load 79 x)
    {ad : Addr} {v : Option Nat} (hx : a.eval x = .pointer (some ad)) (hc : w.cell? ad = some (.map v)) (hq : (Try.prog.funcs[b.fn]?).any (·.norace) = false) :
    stepG Try.prog main (G (b.at a (.inRegion ops (i :: rest) :: kk)) cs) w = .go (G (b.at (a.put o.dst (.map v)) (.inRegion ops rest :: kk)) cs) w #[⟨.cell ad, false, false⟩] := by
  have hr : (execOp a.eval o).run Try.prog w = .ok (.value (.map v)) w := by
    unfold execOp
    simp only [hop, hx]
    simp [go_sem, hc]
  have he : (execOp a.eval o).events Try.prog w #[] = #[⟨.cell ad, false, false⟩] := by
    unfold execOp
    simp only [hop, hx]
    simp [go_sem, hc]
  rw [stepG_value ho hw hk hr]
  unfold listed
  rw [he, seen_eq hq (by simp)]
theorem stepG_keep {x y z : Operand} (ho : ops[i]? = some o) (hw : Region.wanted o (yielded ops a.tmps) = true) (hk : b.kind ≠ .early) (hop : o.op = .mapUpdate 79 x y z)
    {Mp : Nat} {n v : Int} {ob : Obj} (hx : a.eval x = .map (some Mp)) (hy : a.eval y = .int .i64 n) (hz : a.eval z = .int .i64 v)
    (h1 : (Instr.mapUpdate 79 (.map (some Mp)) (.int .i64 n) (.int .i64 v)).run Try.prog w = .ok () { w with heap := w.heap.setIfInBounds Mp ob })
    (h3 : ∀ es0, (Instr.mapUpdate 79 (.map (some Mp)) (.int .i64 n) (.int .i64 v)).events Try.prog w es0 = (es0.push ⟨.obj Mp, false, false⟩).push ⟨.obj Mp, true, false⟩) (hq : (Try.prog.funcs[b.fn]?).any (·.norace) = false) :
    stepG Try.prog main (G (b.at a (.inRegion ops (i :: rest) :: kk)) cs) w = .go (G (b.at (a.put o.dst undef) (.inRegion ops rest :: kk)) cs) { w with heap := w.heap.setIfInBounds Mp ob } #[⟨.obj Mp, false, false⟩, ⟨.obj Mp, true, false⟩] := by
  have hr : (execOp a.eval o).run Try.prog w = .ok .skip { w with heap := w.heap.setIfInBounds Mp ob } := by
    unfold execOp
    simp only [hop, hx, hy, hz]
    simp [h1, Result.andThen]
  have he : (execOp a.eval o).events Try.prog w #[] = #[⟨.obj Mp, false, false⟩, ⟨.obj Mp, true, false⟩] := by
    unfold execOp
    simp only [hop, hx, hy, hz]
    simp [h1, h3, Result.evThen]
  rw [stepG_none ho hw hk hr]
  unfold listed
  rw [he, seen_eq hq (by simp)]
end
noncomputable def body61 : Code := Try.f61.body.getD .skip
section
variable {Y : Lay} {Held : List Nat → World → Prop} {F : Nat → Prop} {Kn : World → Prop} {k : Nat} {lg : List Nat}
variable {b₀ : Frame} {a₀ : Act} {ops₀ : Array Oper} {i₀ : Nat} {rest₀ : List Nat} {k₀ : List Item} {cs : List Frame}
set_option maxRecDepth 100000 in
set_option maxHeartbeats 16000000 in
/-- ████ keep ████ -/
theorem keepGo (K : KnL Y 92 99 F Kn) (hH : ∀ l (v v' : World), v'.heap[Y.Mp]? = v.heap[Y.Mp]? → Held l v → Held l v') {num val : Int}
    (hUp : ∀ l0 w, KnO Held Kn l0 w → ∃ ob, UpB Try.prog Y.Mp num val ob w ∧ Held (l0 ++ [k]) { w with heap := w.heap.setIfInBounds Y.Mp ob })
    (hk0 : b₀.kind ≠ .early)
    (hT : ∀ d l0, ∃ m, ∀ w, Kn w → Goes Try.prog false (RF Y 92 99 F false) (DF Y (Y.b + 1 + k) F false false) (AtW Try.prog Y 92 99 Held d k (.dn .wr) F l0) m (G (b₀.at (a₀.put ((ops₀[i₀]?).bind (·.dst)) (.tuple #[])) (.inRegion ops₀ rest₀ :: k₀)) cs) w) :
    ∀ d w, Kn w → Goes Try.prog false (RF Y 92 99 F false) DC0 (AtW Try.prog Y 92 99 Held d k .af F lg) 40 (G ((base 61).at ⟨#[.pointer (some ⟨Y.Lg, 0, none⟩), .int .i64 num, .int .i64 val, undef, undef, undef, undef, undef, undef, undef, undef, undef, undef, undef, undef, undef, undef, undef, undef, undef, undef, undef, undef], []⟩ [.code body61]) (b₀.at a₀ (.inRegion ops₀ (i₀ :: rest₀) :: k₀) :: cs)) w := by
  intro d w hF
  simp only [body61, Try.f61, Option.getD_some]
  repeat w_go K.rl
  u_call Try.func83 nm83 Try.f83 K.rl hF
  repeat w_go K.rl
  -- STOP af
  refine Goes.stop (fun w r => ?_)
  replace hF := K.rl hF r
  clear r
  rcases d with _ | d
  · trivial
  refine afStop rfl rfl fun sh hs hloc => ?_
  have ho := hloc.oft
  have e1 : IntKind.i64.wrap ((sh.often : Int) + 1) = ((sh.often + 1 : Nat) : Int) := by rw [IntKind.wrap_i64]; omega
  have hs' : ShAt Y 92 99 (w.setCell ⟨Y.Lg, 3, none⟩ (.int .i64 ((sh.often + 1 : Nat) : Int))) { sh with often := sh.often + 1 } := ⟨hs.1.setOft _, (wg_set _ _ rfl).trans hs.2⟩
  refine ⟨_, _, stepG_add_atomic rfl rfl (by k_ne) rfl Try.func96 x96_n x96_b x96_x .i64 x96_f rfl rfl hs.1.oft (hs.1.thaw 3), by rw [e1]; exact hs', eff_set _ _ (.inl rfl), 90, ?_⟩
  simp only [e1]
  replace hF := K.eff hF (eff_set _ _ (.inl rfl)) hs'
  generalize ((sh.often + 1 : Nat) : Int) = oo at hF ⊢
  clear hs' hs hloc ho e1
  walk_nrm
  repeat w_go K.rl
  u_leave1 Try.func83 K.rl hF
  repeat w_go K.rl
  u_call Try.func84 nm84 Try.f84 K.rl hF
  have hLk := fun (b₁ : Frame) (a₁ : Act) (ops₁ : Array Oper) (i₁ : Nat) (rest₁ : List Nat) (k₁ : List Item) (cs₁ : List Frame) => lockAll (b₁ := b₁) (a₁ := a₁) (ops₁ := ops₁) (i₁ := i₁) (rest₁ := rest₁) (k₁ := k₁) (cs₁ := cs₁) (s := true) (k := k) (lg := lg) (xc := .k2 .cs) (Held := Held) (F := F) K hH (fun sh => .lk2 .la (by simp)) (by simp) rfl
  simp only [body84, Try.f84, Option.getD_some] at hLk
  refine goes_le (by omega) (hLk _ _ _ _ _ _ _ (by k_ne) (fun d l0 => ?_) d _ hF)
  clear hLk hF
  -- IT OWNS
  have hUn := fun (c : Frame) (cs : List Frame) => unlockGo (c := c) (cs := cs) (s := true) (k := k) (lg := l0) (lg' := l0 ++ [k]) (xe := .dn .wr) (Held := Held) (F := F) K hH (by simp) (fun _ => rfl) (fun sh => .lk2o) (by simp) rfl rfl rfl
  simp only [body85, Try.f85, Option.getD_some] at hUn
  refine ⟨100 + (60 + 100), fun w hF => ?_⟩
  refine goes_idle (m := 60 + 100) (n := 100) (fun w => .idle w) (fun w => .refl w) ?_
  walk_nrm
  repeat w_go (KnO.rl K hH)
  u_defer (KnO.rl K hH) hF
  repeat w_go (KnO.rl K hH)
  refine Goes.stop (fun w r => ?_)
  replace hF := KnO.rl K hH hF r
  clear r
  -- where the map lies
  u_in (KnO.rl K hH) hF
  obtain ⟨sh1, hs1⟩ := K.live hF.kn
  rw [stepG_loadM rfl rfl (by k_ne) rfl rfl hs1.1.mp loud61]
  simp only [goes_go]
  refine ⟨df_mp _ _, ?_⟩
  clear hs1 sh1
  refine goes_idle (m := 60 + 69) (n := 30) (fun w => .idle w) (fun w => .refl w) ?_
  walk_nrm
  repeat w_go (KnO.rl K hH)
  refine Goes.stop (fun w r => ?_)
  replace hF := KnO.rl K hH hF r
  clear r
  -- it keeps
  u_in (KnO.rl K hH) hF
  obtain ⟨ob, hub, hup⟩ := hUp l0 _ hF
  have hu1 := hub.run
  have hu3 := hub.ev
  rw [stepG_keep rfl rfl (by k_ne) rfl rfl rfl rfl hu1 hu3 loud61]
  simp only [goes_go]
  refine ⟨df_keep _ _ ob, ?_⟩
  replace hF : KnO Held Kn (l0 ++ [k]) _ := ⟨K.rl hF.kn (rf_keep _ ob (fun f h => ((K.low hF.kn).2 f h).1)), hup⟩
  clear hu1 hu3 hub hup
  refine goes_dc0 (fun w => .idle w) ?_
  walk_nrm
  repeat w_go (KnO.rl K hH)
  u_in (KnO.rl K hH) hF
  rw [stepG_unwind_enter rfl Try.func85 nm85 rfl]
  simp only [goes_go]
  refine ⟨by u_nil, ?_⟩
  walk_nrmf Try.f85
  refine goes_le (by omega) (hUn _ _ rfl (fun d => ?_) d _ hF)
  obtain ⟨mT, hT'⟩ := hT d l0
  refine ⟨mT + 20, fun w hF => goes_idle (fun w => .idle w) (fun w => .refl w) ?_⟩
  u_leave0 Try.func61 K.rl hF
  refine Goes.stop (fun w r => ?_)
  exact hT' _ (K.rl hF r)
end
end Go.Proofs.Ytpmmimcafkillaa.Tr

set_option linter.unusedVariables false
set_option linter.unusedSimpArgs false
namespace Go.Proofs.Ytpmmimcafkillaa.Tr
open Go Go.Conc Go.ConcN Go.RowKit Go.Conc.Lib Go.ConcR.Gen Go.ConcM
open Go.ConcR (KK wgBlock WgAt stA smA rd wr mk DC0)
open Go.Proofs.Ytpmmimcafkillaa.Mx
open Go.Proofs.Ytpmmimcafkillaa.Mx (Mu St)
/-- behind r more blocks -/
def mkN : Nat → Mx.Th
  | 0 => .k1 .cs
  | r + 1 => .mk r
section
variable {P : Program} {Y : Lay} {tL tW : TypeId} {Held : List Nat → World → Prop}
variable {Nx : Mx.Th → (Nat → Prop) → List Nat → Goroutine → World → Prop} {k r : Nat} {F : Nat → Prop} {lg : List Nat} {g : Goroutine} {w : World}
/-- one block more -/
theorem mkStop (hr : r ≤ 30) (hrun : g.status = .running) (hoff : g.offers = none)
    (hall : ∀ sh, ShAt Y tL tW w sh → ∃ g' ob, stepG P false g w = .go g' (w.alloc ob) #[] ∧
      ∃ m, Goes P false (RF Y tL tW (addB F true w.heap.size) true) (DF Y (Y.b + 1 + k) (addB F true w.heap.size) true false) (Nx (mkN r) (addB F true w.heap.size) lg) m g' (w.alloc ob)) : WStp P Y tL tW Held Nx k (.mk r) F lg g w := by
  refine ⟨hrun, hoff, fun hwk => ?_, fun e => (by cases e), fun e => (by cases e), fun sh hsh hloc => ⟨fun hwt => ?_, fun _ l0 _ => ?_⟩⟩
  · rcases hwk with ⟨h, e⟩ | e
    · cases e
    · cases e
  · obtain ⟨⟨sv, e⟩, _⟩ := hwt
    cases e
  · obtain ⟨g', ob, hs, m, h⟩ := hall sh hsh
    have hb : ∀ b, b < w.heap.size → (w.alloc ob).heap[b]? = w.heap[b]? := fun b hb => (by show (w.heap.push ob)[b]? = w.heap[b]?; rw [Array.getElem?_push, if_neg (by omega)])
    have hsh' : ShAt Y tL tW (w.alloc ob) sh := hsh.of (hb _ (Array.getElem?_eq_some_iff.1 hsh.1).1) (hb _ (Array.getElem?_eq_some_iff.1 hsh.2).1)
    have st : TSt (.mk r) sh (mkN r) sh := by
      cases r with
      | zero => exact .mk0
      | succ r => exact .mk hr
    refine ⟨mkN r, sh, g', w.alloc ob, #[], st, hs, hsh', ⟨rfl, rfl, .refl _, (by show (w.heap.push ob).size = _; simp [isMk]), fun b h _ _ => hb b h⟩, by simp [EvW], ?_⟩
    unfold AfterW
    have h1 : mkN r ≠ .quit := by cases r <;> simp [mkN]
    have h2 : tokT (mkN r) = true := by cases r <;> rfl
    have h3 : muteT (mkN r) = false := by cases r <;> rfl
    rw [if_neg h1, show isMk (.mk r) = true from rfl, if_neg (by simp), h2, h3]
    exact ⟨m, h⟩
/-- what is known, with one's own newest block -/
theorem KnL.ext {Kn : World → Prop} (K : KnL Y tL tW F Kn) {B : Nat} {ob : Obj} (hB : Y.N ≤ B) : KnL Y tL tW (addB F true B) (fun w => Kn w ∧ w.heap[B]? = some ob) where
  rl := fun ⟨h, hb⟩ r => ⟨K.rl h ⟨r.tape, r.output, r.os, r.size, r.low, fun b hb => r.mine b (.inl hb), r.keep, r.live⟩, (r.mine B (.inr ⟨rfl, rfl⟩)).trans hb⟩
  live := fun h => K.live h.1
  low := fun ⟨h, hb⟩ => ⟨(K.low h).1, fun f hf => hf.elim (fun hf => (K.low h).2 f hf) (fun ⟨_, e⟩ => e ▸ ⟨hB, (Array.getElem?_eq_some_iff.1 hb).1⟩)⟩
/-- what is known once a block was laid -/
theorem RF.alloc (hF : ∀ f, F f → f < w.heap.size) (hN : Y.N ≤ w.heap.size) (ob : Obj) : RF Y tL tW F true w (w.alloc ob) := by
  have hb : ∀ b, b < w.heap.size → (w.alloc ob).heap[b]? = w.heap[b]? := fun b hb => (by show (w.heap.push ob)[b]? = w.heap[b]?; rw [Array.getElem?_push, if_neg (by omega)])
  refine ⟨rfl, rfl, .refl _, (by show _ ≤ (w.heap.push ob).size; simp), fun b h _ _ _ => hb b (by omega), fun b h => hb b (hF b h), fun _ => hb _ (by have := Y.mpN; omega), fun ⟨sh, h⟩ => ⟨sh, h.of (hb _ (by have := Y.lgN; omega)) (hb _ (by have := Y.wgN; omega))⟩⟩
/-- the owner reads one's own cell; what only is read; it writes one's own -/
theorem df_ownr (gid : Nat) (own : Bool) (v : World) (a : Addr) (h : F a.block ∨ Y.Ro (.cell a)) : DF Y gid F own false v v #[⟨.cell a, false, false⟩] := by
  refine ⟨rfl, rfl, rfl, rfl, fun _ _ _ => rfl, fun e he => ?_, fun e => (by cases e)⟩
  rw [Array.mem_singleton] at he
  subst he
  refine ⟨fun fn pos o _ => ⟨rfl, ⟨(by simp [MemAct.ofEvent]), (by simp [MemAct.ofEvent])⟩, fun x hx => ?_⟩, by simp, by simp⟩
  simp only [Go.ConcR.ofEvent_cell, MemAct.touch?, Option.some.injEq] at hx
  subst hx
  exact h.elim (fun h => .inr (.inl ⟨a, rfl, h⟩)) (fun h => .inr (.inr (.inl ⟨h, rfl⟩)))
theorem df_append (gid : Nat) (own : Bool) (v : World) {a b : Addr} (u : Value) (ha : F a.block) (hb : F b.block) : DF Y gid F own false v (v.setCell b u) #[⟨.cell a, false, false⟩, ⟨.cell b, true, false⟩] := by
  have A := aside_setCell v b u
  refine ⟨A.tape, A.output, A.os, by simp, fun c hc _ => A.block c (fun e => hc (e ▸ hb)), fun e he => ?_, fun e => (by cases e)⟩
  have key : ∀ (c : Addr) (x : Bool), F c.block → EvD Y gid F own ⟨.cell c, x, false⟩ := fun c x hc => by
    refine ⟨fun fn pos o _ => ⟨rfl, ⟨(by simp [MemAct.ofEvent]), (by simp [MemAct.ofEvent])⟩, fun y hy => ?_⟩, by simp, by simp⟩
    simp only [Go.ConcR.ofEvent_cell, MemAct.touch?, Option.some.injEq] at hy
    subst hy
    exact .inr (.inl ⟨c, rfl, hc⟩)
  simp at he
  rcases he with rfl | rfl
  · exact key _ _ ha
  · exact key _ _ hb
end
theorem u29 : Try.prog.underlying 29 = some (.slice 2) := by kernel_rfl
def isZ : Option Value → Bool
  | some (.int .i64 0) => true
  | _ => false
theorem isZ_eq {o : Option Value} (h : isZ o = true) : o = some (.int .i64 0) := by
  unfold isZ at h
  split at h
  · rfl
  · cases h
theorem i2' : (Try.prog.info? 2).map (fun i => decide (i.size = 1) && decide (i.bytes = 8) && isZ i.zero) = some true := by kernel_rfl
theorem i2 : ∃ i : TypeInfo, Try.prog.info? 2 = some i ∧ i.size = 1 ∧ i.bytes = 8 ∧ i.zero = some (.int .i64 0) := by
  have h := i2'
  rcases hi : Try.prog.info? 2 with _ | i
  · rw [hi] at h; cases h
  · rw [hi] at h
    simp only [Option.map_some, Option.some.injEq, Bool.and_eq_true, decide_eq_true_eq] at h
    exact ⟨i, rfl, h.1.1, h.1.2, isZ_eq h.2⟩
section
variable {w : World} {g h n cap : Nat} {v : Int} {cur : Array Value}
theorem addr_add (b n m : Nat) : (⟨b, n, none⟩ : Addr).add m = ⟨b, n + m, none⟩ := by
  unfold Addr.add
  by_cases h : m = 0 <;> simp [h]
/-- one number behind the others, where there is room -/
theorem run_append1 (hg : w.heap[g]? = some (.cells cur 2 (0, 0))) (hn : n < cap) (hc : n < cur.size) (hh : w.heap[h]? = some (.cells #[.int .i64 v] 2 (0, 0))) (ty : TypeId) :
    (Builtin.append_ #[29, 29] ty #[.slice (some ⟨g, 0, none⟩) n cap, .slice (some ⟨h, 0, none⟩) 1 1]).run Try.prog w = .ok (.slice (some ⟨g, 0, none⟩) (n + 1) cap) (w.setCell ⟨g, n, none⟩ (.int .i64 v)) ∧
      (Builtin.append_ #[29, 29] ty #[.slice (some ⟨g, 0, none⟩) n cap, .slice (some ⟨h, 0, none⟩) 1 1]).events Try.prog w #[] = #[⟨.cell ⟨h, 0, none⟩, false, false⟩, ⟨.cell ⟨g, n, none⟩, true, false⟩] := by
  obtain ⟨i, hi, hs, hby, hz⟩ := i2
  have hch : w.cell? ⟨h, 0, none⟩ = some (.int .i64 v) := by simp [World.cell?, hh]
  obtain ⟨u, hcg⟩ : ∃ u, w.cell? ⟨g, n, none⟩ = some u := ⟨cur[n], by simp [World.cell?, hg, hc]⟩
  have hfg : w.frozen? ⟨g, n, none⟩ = false := by simp [World.frozen?, hg]
  have hle : n + 1 ≤ cap := hn
  constructor
  · simp [go_sem, Builtin.append_, run_underlying u29, sizeOf, typeInfo, hi, hs, Builtin.lenOf, Builtin.firstCells, loadCells, loadCellsFrom, storeCells, addr_add, hch, hcg, hfg, hle, stored, Result.andThen]
  · simp [go_sem, Builtin.append_, run_underlying u29, sizeOf, typeInfo, hi, hs, Builtin.lenOf, Builtin.firstCells, loadCells, loadCellsFrom, storeCells, addr_add, hch, hcg, hfg, hle, stored, storedEv, Result.andThen, Result.evThen]
/-- a slice of just that number -/
theorem run_build1 : (Instr.buildSlice 29 1 #[(0, .int .i64 v)]).run Try.prog w = .ok (.slice (some ⟨w.heap.size, 0, none⟩) 1 1) (w.alloc (.cells #[.int .i64 v] 2 (0, 0))) ∧
      (Instr.buildSlice 29 1 #[(0, .int .i64 v)]).events Try.prog w #[] = #[] := by
  obtain ⟨i, hi, hs, hby, hz⟩ := i2
  constructor
  · simp [go_sem, Instr.buildSlice, run_underlying u29, sizeOf, typeInfo, zeroValue, hi, hs, hz, newRow, Instr.fill, Result.andThen]
  · simp [go_sem, Instr.buildSlice, run_underlying u29, sizeOf, typeInfo, zeroValue, hi, hs, hz, newRow, Instr.fill, Result.andThen, Result.evThen]
/-- an empty slice with room for n -/
theorem run_make1 (hn : n ≤ 100000) : ∃ cur : Array Value, cur.size = n ∧ (Instr.makeSlice 29 (.int .i64 0) (.int .i64 (n : Int))).run Try.prog w = .ok (.slice (some ⟨w.heap.size, 0, none⟩) 0 n) (w.alloc (.cells cur 2 (0, 0))) ∧
      (Instr.makeSlice 29 (.int .i64 0) (.int .i64 (n : Int))).events Try.prog w #[] = #[] := by
  obtain ⟨i, hi, hs, hby, hz⟩ := i2
  have hr := run_make (P := Try.prog) w 29 2 i _ u29 hi hz .i64 .i64 0 n (by omega) (by omega) (by rw [hby]; omega) (by omega)
  have he := events_make (P := Try.prog) w 29 2 i _ u29 hi hz .i64 .i64 0 n (by omega) (by omega) (by rw [hby]; omega) (by omega) (by rw [hby]; omega) #[]
  exact ⟨_, by rw [size_madeCells, hs]; simp, hr, he⟩
end
end Go.Proofs.Ytpmmimcafkillaa.Tr
