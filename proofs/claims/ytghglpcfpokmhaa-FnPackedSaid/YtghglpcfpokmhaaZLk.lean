/-
  The crowd's invariant where somebody else, who touches nothing, has made a step and may have waked the starter. It names no program; no conditions.
  A machine with elder ones and callers, and the same without them: which goroutine is which, over every kind of step. It names no program; no conditions.
  The crowd's invariant, at the pick's grain: a step of the starter, a step of a worker, who runs, who is awake. It names no program.
  A trace of goroutine 0 and of workers 1, 2, .. from nothing, laid behind a prefix: worker k is number b + k there, and mute words of the numbers 1 to b, which are elder and only leave, are strewn in. What is carried over: who did what, what is heard, what happens before what. If the prefix is past and the small trace is clean, the great one is past. It names no program; no conditions.
-/
import Derived.Test.YtghglpcfpokmhaaZCy
import Derived.Conc.Strewn
set_option linter.unusedVariables false
set_option linter.unusedSimpArgs false
namespace Go.Proofs.Ytghglpcfpokmhaa.Ct
open Go Go.Conc Go.ConcN
open Go.ConcR (KK wgBlock WgAt stA smA rd wr mk Payload Aside2)
variable [Payload]
variable {P : Program} {ty : TypeId} {Wg C n : Nat} {Own Rd : Nat → Loc → Prop} {Lw : Nat → Nat} {val : Nat → Value} {vals : List Value} {AnchW : Goroutine → World → Prop} {Post : Value → World → Prop}

theorem com_map {gs : Array Goroutine} {w : World} {t : Trace} {D : Nat → WD} {j d0 : Nat} (h : Com P ty Wg C n Own Rd Lw val j gs w t D d0) (g g' : Goroutine) (w' : World) : Com P ty Wg C n Own Rd Lw val j (gs.map (woken P g g' w')) w t D d0 := by
  refine ⟨by simpa using h.size, fun i hi => ?_, h.ct, h.norel, h.deaf0, h.deafW, h.rel, h.has, h.pay⟩
  obtain ⟨x, hx, hs⟩ := h.wk i hi
  exact ⟨x, by rw [Array.getElem?_map, hx]; simp [hs.woken g g' w'], hs⟩

/-- AN ELDER ONE's STEP: some draws, and the starter may be waked. -/
theorem inv_wake (hAr : ∀ g w, AnchW g w → g.status = .running) {μ : Nat × Nat} {gs : Array Goroutine} {w : World} {sl : Option (Nat × Nat)} {t : Trace} (h : Inv P ty Wg C n Own Rd Lw val vals AnchW Post μ (crowd gs w sl) t) (g g' : Goroutine) (d : Nat) (sl' : Option (Nat × Nat)) :
    ∃ μ', Inv P ty Wg C n Own Rd Lw val vals AnchW Post μ' (crowd (gs.map (woken P g g' (w.at d))) (w.at d) sl') t := by
  obtain ⟨gs₁, w₁, sl₁, j, D, tag, f0, d0, a, st, sm, e, ha, hcs, hcom, hwg, hmode, hacq, rfl⟩ := h
  obtain ⟨rfl, rfl, rfl⟩ : gs₁ = gs ∧ w₁ = w ∧ sl₁ = sl := by
    exact ⟨(congrArg Machine.gs e).symm, (congrArg Machine.world e).symm, (congrArg (fun m => m.rest.slice) e).symm⟩
  obtain ⟨tag', f', hcs', hf', htag, _⟩ := hcs.wokenBy hAr (RC.at w₁ d) g g'
  refine ⟨_, _, _, _, j, D, tag', f', d0, woken P g g' (w₁.at d) a, st, sm, rfl, by rw [Array.getElem?_map, ha]; rfl, hcs', com_map (hcom.at d) g g' _, hwg, hmode.retag htag, fun e => ?_, rfl⟩
  rcases htag with rfl | ⟨_, rfl⟩
  · exact hacq e
  · cases e
end Go.Proofs.Ytghglpcfpokmhaa.Ct

set_option linter.unusedVariables false
set_option linter.unusedSimpArgs false
namespace Go.Proofs.Ytghglpcfpokmhaa.Ct
open Go Go.Conc

theorem again_onG (cs : List Frame) (w : World) (a : Goroutine) : (onG cs a).again w = onG cs (a.again w) := by
  obtain ⟨fr, up, st, dy, off⟩ := a
  cases st <;> cases off <;> simp only [Goroutine.again, onG]
  split <;> rfl
theorem woken_onG {P : Program} (cs : List Frame) (g g' : Goroutine) (w : World) (a : Goroutine) : woken P g g' w (onG cs a) = onG cs (woken P g g' w a) := by
  unfold woken
  split
  · exact again_onG cs w a
  · rfl
theorem woken_by_onG {P : Program} (cs : List Frame) (g g' : Goroutine) (w : World) (o : Goroutine) : woken P (onG cs g) (onG cs g') w o = woken P g g' w o := rfl

/-- gs: goroutine 0 and workers; R: the same, goroutine 0 with callers cs, b elder ones between -/
structure Rel (b : Nat) (cs : List Frame) (gs R : Array Goroutine) : Prop where
  pos : 0 < gs.size
  size : R.size = b + gs.size
  zero : R[0]? = (gs[0]?).map (onG cs)
  wk : ∀ i, 1 ≤ i → R[b + i]? = gs[i]?
/-- the elder ones are leaving -/
def El (P : Program) (b : Nat) (q dd : Nat → Nat) (R : Array Goroutine) : Prop := ∀ i, 1 ≤ i → i ≤ b → ∃ g, R[i]? = some g ∧ QuitsD P (q i) (dd i) g

section
variable {P : Program} {b : Nat} {cs : List Frame} {gs R : Array Goroutine} {w : World}
theorem Rel.step0 (h : Rel b cs gs R) (a a' : Goroutine) (w : World) : Rel b cs ((gs.map (woken P a a' w)).setIfInBounds 0 a') ((R.map (woken P (onG cs a) (onG cs a') w)).setIfInBounds 0 (onG cs a')) := by
  have hp := h.pos
  have hs := h.size
  refine ⟨by simpa using hp, by simpa using hs, ?_, fun i hi => ?_⟩
  · rw [Array.getElem?_setIfInBounds_self_of_lt (by simp; omega), Array.getElem?_setIfInBounds_self_of_lt (by simpa using hp)]
    rfl
  · rw [Array.getElem?_setIfInBounds_ne (by omega), Array.getElem?_setIfInBounds_ne (by omega), Array.getElem?_map, Array.getElem?_map, h.wk i hi]
    rfl
theorem Rel.stepW (h : Rel b cs gs R) {k : Nat} (hk : 1 ≤ k) (g g' : Goroutine) (w : World) : Rel b cs ((gs.map (woken P g g' w)).setIfInBounds k g') ((R.map (woken P g g' w)).setIfInBounds (b + k) g') := by
  have hp := h.pos
  have hs := h.size
  refine ⟨by simpa using hp, by simpa using hs, ?_, fun i hi => ?_⟩
  · rw [Array.getElem?_setIfInBounds_ne (by omega), Array.getElem?_setIfInBounds_ne (by omega), Array.getElem?_map, Array.getElem?_map, h.zero]
    cases gs[0]? with
    | none => rfl
    | some a => simp only [Option.map_some, woken_onG]
  · by_cases e : i = k
    · subst e
      by_cases hlt : i < gs.size
      · rw [Array.getElem?_setIfInBounds_self_of_lt (by simp; omega), Array.getElem?_setIfInBounds_self_of_lt (by simpa using hlt)]
      · rw [Array.getElem?_eq_none (by simp; omega), Array.getElem?_eq_none (by simp; omega)]
    · rw [Array.getElem?_setIfInBounds_ne (by omega), Array.getElem?_setIfInBounds_ne (by omega), Array.getElem?_map, Array.getElem?_map, h.wk i hi]
theorem Rel.stepE (h : Rel b cs gs R) {k : Nat} (hk : 1 ≤ k) (hb : k ≤ b) (g g' : Goroutine) (w : World) : Rel b cs (gs.map (woken P g g' w)) ((R.map (woken P g g' w)).setIfInBounds k g') := by
  have hp := h.pos
  have hs := h.size
  refine ⟨by simpa using hp, by simpa using hs, ?_, fun i hi => ?_⟩
  · rw [Array.getElem?_setIfInBounds_ne (by omega), Array.getElem?_map, Array.getElem?_map, h.zero]
    cases gs[0]? with
    | none => rfl
    | some a => simp only [Option.map_some, woken_onG]
  · rw [Array.getElem?_setIfInBounds_ne (by omega), Array.getElem?_map, Array.getElem?_map, h.wk i hi]
theorem Rel.spawn (h : Rel b cs gs R) (a' c : Goroutine) : Rel b cs ((gs.setIfInBounds 0 a').push c) ((R.setIfInBounds 0 (onG cs a')).push c) := by
  have hp := h.pos
  have hs := h.size
  refine ⟨by simp, by simp; omega, ?_, fun i hi => ?_⟩
  · rw [Array.getElem?_push, Array.getElem?_push, if_neg (by simp; omega), if_neg (by simp; omega), Array.getElem?_setIfInBounds_self_of_lt (by omega), Array.getElem?_setIfInBounds_self_of_lt hp]
    rfl
  · rw [Array.getElem?_push, Array.getElem?_push]
    simp only [Array.size_setIfInBounds]
    by_cases e : i = gs.size
    · rw [if_pos (by omega), if_pos e]
    · rw [if_neg (by omega), if_neg e, Array.getElem?_setIfInBounds_ne (by omega), Array.getElem?_setIfInBounds_ne (by omega), h.wk i hi]
theorem El.other {q dd : Nat → Nat} (h : El P b q dd R) {k : Nat} (hk : k = 0 ∨ b < k) (g g' x : Goroutine) (w : World) : El P b q dd ((R.map (woken P g g' w)).setIfInBounds k x) := by
  intro i hi hb
  obtain ⟨y, hy, hq⟩ := h i hi hb
  exact ⟨y, by rw [Array.getElem?_setIfInBounds_ne (by omega), Array.getElem?_map, hy]; simp [woken_quitsD hq], hq⟩
theorem El.push {q dd : Nat → Nat} (h : El P b q dd R) (hb : b < R.size) (x c : Goroutine) : El P b q dd ((R.setIfInBounds 0 x).push c) := by
  intro i hi hb'
  obtain ⟨y, hy, hq⟩ := h i hi hb'
  exact ⟨y, by rw [Array.getElem?_push, if_neg (by simp; omega), Array.getElem?_setIfInBounds_ne (by omega), hy], hq⟩
end
end Go.Proofs.Ytghglpcfpokmhaa.Ct

set_option linter.unusedVariables false
set_option linter.unusedSimpArgs false
set_option linter.unusedSectionVars false
namespace Go.Proofs.Ytghglpcfpokmhaa.Ct
open Go Go.Conc Go.ConcN
open Go.ConcR (KK wgBlock WgAt stA smA rd wr mk Payload Aside2)
variable [Payload]
variable {P : Program} {ty : TypeId} {Wg C n : Nat} {Own Rd : Nat → Loc → Prop} {Lw : Nat → Nat} {val : Nat → Value} {vals : List Value} {AnchW : Goroutine → World → Prop} {Post : Value → World → Prop}
  {μ : Nat × Nat} {gs : Array Goroutine} {w : World} {sl : Option (Nat × Nat)} {t : Trace}

theorem crowd_inj {gs gs' : Array Goroutine} {w w' : World} {sl sl' : Option (Nat × Nat)} (e : crowd gs w sl = crowd gs' w' sl') : gs = gs' ∧ w = w' ∧ sl = sl' :=
  ⟨congrArg Machine.gs e, congrArg Machine.world e, congrArg (fun m => m.rest.slice) e⟩

/-- a step of the starter -/
theorem inv_step0 (A : Apart (ShN Wg) Own Rd) (G : Geo Wg C Lw) (hn : n < 2147483648)
    (hAn : ∀ g w, AnchW g w → ∃ m, Goes P true (RC ty Wg C) (DP Wg Own Rd n (Lw n)) (AtW1 P ty Wg C n Own Rd (Lw n) vals AnchW Post) m g w)
    (hl : vals.length = n) (hv : ∀ i, i < n → vals[i]? = some (val i)) (h : Inv P ty Wg C n Own Rd Lw val vals AnchW Post μ (crowd gs w sl) t) {a : Goroutine} (ha : gs[0]? = some a) (hr : a.status = .running) (d : Nat) (sl' : Option (Nat × Nat)) :
    (∃ o w' ops, runT P (crowd gs (w.at d) sl') 0 = (.ended o w', ops) ∧ Good P Post (crowd gs w sl) o w' (t ++ ops)) ∨
    ∃ m' ops μ', runT P (crowd gs (w.at d) sl') 0 = (.next m', ops) ∧ Lt2 μ' μ ∧ Inv P ty Wg C n Own Rd Lw val vals AnchW Post μ' m' (t ++ ops) := by
  obtain ⟨gs₁, w₁, sl₁, j, D, tag, f0, d0, a₁, st, sm, e, ha₁, hcs, hcom, hwg, hmode, hacq, rfl⟩ := h
  obtain ⟨rfl, rfl, rfl⟩ := crowd_inj e
  rw [ha] at ha₁
  cases ha₁
  have hwg' : WgAt ty Wg (w.at d) st sm := hwg
  rcases stepCaller (sl := sl') A G hn hAn hl hv ha (hcs.rely (RC.at w d)) (hcom.at d) hwg' hmode hacq hr with ⟨o, w₂, ops, h1, h2⟩ | h
  · exact .inl ⟨o, w₂, ops, h1, h2 w sl⟩
  · exact .inr h
/-- a step of worker number k -/
theorem inv_stepW (A : Apart (ShN Wg) Own Rd) (G : Geo Wg C Lw) (hn : n < 2147483648) (hAr : ∀ g w, AnchW g w → g.status = .running)
    (h : Inv P ty Wg C n Own Rd Lw val vals AnchW Post μ (crowd gs w sl) t) {k : Nat} {g : Goroutine} (hg : gs[k + 1]? = some g) (hr : g.status = .running) (d : Nat) (sl' : Option (Nat × Nat)) :
    ∃ m' ops μ', runT P (crowd gs (w.at d) sl') (k + 1) = (.next m', ops) ∧ Lt2 μ' μ ∧ Inv P ty Wg C n Own Rd Lw val vals AnchW Post μ' m' (t ++ ops) := by
  obtain ⟨gs₁, w₁, sl₁, j, D, tag, f0, d0, a₁, st, sm, e, ha, hcs, hcom, hwg, hmode, hacq, rfl⟩ := h
  obtain ⟨rfl, rfl, rfl⟩ := crowd_inj e
  have hi : k < j := by have := (Array.getElem?_eq_some_iff.1 hg).1; rw [hcom.size] at this; omega
  have hwg' : WgAt ty Wg (w.at d) st sm := hwg
  exact stepWorker (sl := sl') A G hAr hn ha (hcs.rely (RC.at w d)) (hcom.at d) hwg' hmode hacq hi hg hr
theorem inv_awake (hAr : ∀ g w, AnchW g w → g.status = .running) (h : Inv P ty Wg C n Own Rd Lw val vals AnchW Post μ (crowd gs w sl) t) : (∀ g ∈ gs, awake g) ∧ ∃ (i : Nat) (g : Goroutine), gs[i]? = some g ∧ g.status = .running := by
  obtain ⟨gs₁, w₁, sl₁, j, D, tag, f0, d0, a₁, st, sm, e, ha, hcs, hcom, hwg, hmode, hacq, rfl⟩ := h
  obtain ⟨rfl, rfl, rfl⟩ := crowd_inj e
  exact ⟨all_awake hAr ha hcs hcom, someone_runs hAr ha hcs hcom hmode⟩
/-- the starter is not lost -/
theorem inv_live {B : Goroutine → Prop} (hB : Bd P B) (hBr : ∀ g, B g → g.status = .running) (hAd : ∀ g w, AnchW g w → ¬ B g) (hAr : ∀ g w, AnchW g w → g.status = .running) (G : Geo Wg C Lw)
    (h : Inv P ty Wg C n Own Rd Lw val vals AnchW Post μ (crowd gs w sl) t) {a : Goroutine} (ha : gs[0]? = some a) : ¬ B a := by
  obtain ⟨gs₁, w₁, sl₁, j, D, tag, f0, d0, a₁, st, sm, e, ha₁, hcs, hcom, hwg, hmode, hacq, rfl⟩ := h
  obtain ⟨rfl, rfl, rfl⟩ := crowd_inj e
  rw [ha] at ha₁
  cases ha₁
  exact csit_live hB hBr hAd hAr (fun j => Nat.lt_of_lt_of_le G.hW (G.mono 0 j (Nat.zero_le _))) (fun j => Nat.lt_of_lt_of_le G.hC (G.mono 0 j (Nat.zero_le _))) G.hCW ⟨⟨st, sm, hwg⟩, hcom.pay⟩ hcs
end Go.Proofs.Ytghglpcfpokmhaa.Ct

namespace Go.Proofs.Ytghglpcfpokmhaa.Lk
open Go.Conc
set_option linter.unusedVariables false

/-- the number that worker g bears where b elder ones are -/
def nr (b g : Nat) : Nat := if g = 0 then 0 else b + g
def nrA (b : Nat) (x : MemAct) : MemAct := match x with
  | .go k => .go (b + k)
  | x => x
def nrO (b : Nat) (o : MemOp) : MemOp := { o with g := nr b o.g, act := nrA b o.act }
theorem nr_inj {b g h : Nat} : nr b g = nr b h ↔ g = h := by
  unfold nr
  constructor
  · intro e
    split at e <;> split at e <;> omega
  · intro e; rw [e]
theorem nr_zero {b g : Nat} (h : nr b g = 0) : g = 0 := by unfold nr at h; split at h <;> omega
theorem nr_pos {b g : Nat} (h : g ≠ 0) : nr b g = b + g := if_neg h
theorem nrA_touch (b : Nat) (x : MemAct) : (nrA b x).touch? = x.touch? := by cases x <;> rfl
theorem nrA_low {b B : Nat} {x : MemAct} (h : x.low B) : (nrA b x).low B := by cases x <;> first | exact h | trivial
theorem nrA_back {b : Nat} {x y : MemAct} (h : nrA b x = y) (hy : ∀ k, y ≠ .go k) : x = y := by
  cases x with
  | go k => exact absurd h.symm (hy (b + k))
  | _ => exact h
/-- a word that turns hearing alone -/
def Wd (x : MemAct) : Prop := x = .mark .disable ∨ x = .mark .enable

structure Lnk (b : Nat) (p s T : Trace) (f : Nat → Nat) : Prop where
  pre : ∃ U, T = p ++ U
  at' : ∀ i o, s[i]? = some o → T[f i]? = some (nrO b o)
  lo : ∀ i, i < s.size → p.size ≤ f i
  up : ∀ i j, i < j → j < s.size → f i < f j
  gap : ∀ k y, T[k]? = some y → p.size ≤ k → (∃ i, i < s.size ∧ k = f i) ∨ (1 ≤ y.g ∧ y.g ≤ b ∧ Wd y.act)
  dfI : ∀ g i, i < s.size → T.deaf (nr b g) (f i) = s.deaf g i
  dfE : ∀ g, Deaf T (nr b g) = Deaf s g

section
variable {b : Nat} {p s T : Trace} {f : Nat → Nat}
theorem Lnk.act (L : Lnk b p s T f) {i : Nat} {x : MemAct} (h : s.act? i = some x) : T.act? (f i) = some (nrA b x) := by
  obtain ⟨o, ho, rfl⟩ := Option.map_eq_some_iff.1 h
  simp [Trace.act?, L.at' i o ho, nrO]
theorem Lnk.by' (L : Lnk b p s T f) {i g : Nat} (h : s.g? i = some g) : T.g? (f i) = some (nr b g) := by
  obtain ⟨o, ho, rfl⟩ := Option.map_eq_some_iff.1 h
  simp [Trace.g?, L.at' i o ho, nrO]
theorem Lnk.touch (L : Lnk b p s T f) {i : Nat} (hi : i < s.size) : touchAt T (f i) = touchAt s i := by
  have ho : s[i]? = some s[i] := Array.getElem?_eq_getElem hi
  rw [touchAt_of (L.at' i _ ho), touchAt_of ho]
  exact nrA_touch b _
theorem Lnk.lt_of (L : Lnk b p s T f) {i j : Nat} (hi : i < s.size) (h : f i < f j) : i < j := by
  rcases Nat.lt_trichotomy i j with x | rfl | x
  · exact x
  · omega
  · have := L.up j i x hi; omega
theorem Lnk.img (L : Lnk b p s T f) {k : Nat} {y : MemOp} (h : T[k]? = some y) (hk : p.size ≤ k) (hy : ¬ Wd y.act) : ∃ i o, i < s.size ∧ k = f i ∧ s[i]? = some o ∧ y = nrO b o := by
  rcases L.gap k y h hk with ⟨i, hi, rfl⟩ | ⟨_, _, e⟩
  · have ho : s[i]? = some s[i] := Array.getElem?_eq_getElem hi
    exact ⟨i, _, hi, rfl, ho, Option.some.inj (h.symm.trans (L.at' i _ ho))⟩
  · exact (hy e).elim
theorem Lnk.imgA (L : Lnk b p s T f) {k : Nat} {x : MemAct} (h : T.act? k = some x) (hk : p.size ≤ k) (hx : ¬ Wd x) (hgo : ∀ n, x ≠ .go n) : ∃ i, i < s.size ∧ k = f i ∧ s.act? i = some x := by
  obtain ⟨y, hy, rfl⟩ := Option.map_eq_some_iff.1 h
  obtain ⟨i, o, hi, rfl, ho, rfl⟩ := L.img hy hk hx
  refine ⟨i, hi, rfl, ?_⟩
  rw [act?_of ho]
  exact congrArg some (nrA_back (b := b) (x := o.act) rfl hgo)
theorem Lnk.heard (L : Lnk b p s T f) {i : Nat} (h : s.heard i) : T.heard (f i) := by
  obtain ⟨g, hg, hd⟩ := h
  exact ⟨nr b g, L.by' hg, by rw [L.dfI g i (lt_of_g? hg)]; exact hd⟩
theorem Lnk.heard' (L : Lnk b p s T f) {i : Nat} (hi : i < s.size) (h : T.heard (f i)) : s.heard i := by
  obtain ⟨g', hg', hd⟩ := h
  have hg : s.g? i = some s[i].g := by simp [Trace.g?, Array.getElem?_eq_getElem hi]
  obtain rfl : g' = nr b s[i].g := Option.some.inj (hg'.symm.trans (L.by' hg))
  exact ⟨_, hg, by rw [← L.dfI _ i hi]; exact hd⟩
/-- whoever is started is none of the elder, nor goroutine 0 -/
def Goes1 (s : Trace) : Prop := ∀ i k, s.act? i = some (.go k) → k ≠ 0

theorem Lnk.notices (hg1 : Goes1 s) (L : Lnk b p s T f) {i j : Nat} (h : Notices s i j) : Notices T (f i) (f j) := by
  cases h with
  | @atomic a hij hi hj hb =>
    have hjs := lt_of_act? hj
    have his : i < s.size := Nat.lt_trans hij hjs
    refine .atomic (L.up _ _ hij hjs) (L.act hi) (L.act hj) (fun k sync h1 h2 e => ?_)
    obtain ⟨k', hk', rfl, ha⟩ := L.imgA e (by have := L.lo i his; omega) (by simp [Wd]) (by simp)
    exact hb k' sync (L.lt_of his h1) (L.lt_of hk' h2) ha
  | @spawn child hi hj hg =>
    have h1 := L.by' hg
    rw [nr_pos (hg1 i child hi)] at h1
    exact .spawn (child := b + child) (L.act hi) (L.act hj) h1
  | handOver hi hj => exact .handOver (L.act hi) (L.act hj)
  | room hi hj => exact .room (L.act hi) (L.act hj)
  | closed hi hj => exact .closed (L.act hi) (L.act hj)
  | @marked a hij hi hj hb =>
    have hjs := lt_of_act? hj
    have his : i < s.size := Nat.lt_trans hij hjs
    refine .marked (L.up _ _ hij hjs) (hi.imp L.act L.act) (L.act hj) (fun k h1 h2 e => ?_)
    obtain ⟨k', hk', rfl, ha⟩ := L.imgA e (by have := L.lo i his; omega) (by simp [Wd]) (by simp)
    exact hb k' (L.lt_of his h1) (L.lt_of hk' h2) ha
theorem Lnk.hb (hg1 : Goes1 s) (L : Lnk b p s T f) {i j : Nat} (h : HappensBefore s i j) : HappensBefore T (f i) (f j) := by
  have one : ∀ x y, (ProgramOrder s x y ∨ (Notices s x y ∧ s.heard x ∧ s.heard y)) → (ProgramOrder T (f x) (f y) ∨ (Notices T (f x) (f y) ∧ T.heard (f x) ∧ T.heard (f y))) := by
    rintro x y (⟨hxy, g, h1, h2⟩ | ⟨n, h1, h2⟩)
    · exact .inl ⟨L.up x y hxy (lt_of_g? h2), nr b g, L.by' h1, L.by' h2⟩
    · exact .inr ⟨L.notices hg1 n, L.heard h1, L.heard h2⟩
  induction h with
  | single e => exact .single (one _ _ e)
  | tail _ e ih => exact .tail ih (one _ _ e)
theorem Lnk.knows (hg1 : Goes1 s) (L : Lnk b p s T f) {i : Nat} (h : Knows s 0 i) : Knows T 0 (f i) := by
  obtain ⟨q, z, hz, hg, hb⟩ := h
  refine ⟨f q, _, L.at' q z hz, by simp [nrO, hg, nr], ?_⟩
  rcases hb with e | e
  · exact .inl (by rw [e])
  · exact .inr (L.hb hg1 e)
theorem Lnk.lt (L : Lnk b p s T f) {i : Nat} (hi : i < s.size) : f i < T.size := lt_size_of_getElem? (L.at' i _ (Array.getElem?_eq_getElem hi))
theorem Lnk.le (L : Lnk b p s T f) : p.size ≤ T.size := by obtain ⟨U, rfl⟩ := L.pre; simp

/-- THE GREAT TRACE IS PAST -/
theorem past_of {Sh Sh' : Loc → Prop} {B B' : Nat} (hP : Past Sh B p) (hB : B ≤ B') (hg1 : Goes1 s) (L : Lnk b p s T f)
    (clean : ∀ said, ¬ Race said s) (known : ∀ i a, touchAt s i = some a → a.loc.isMemory = true → Knows s 0 i ∨ (Sh' a.loc ∧ a.kind = .atomic))
    (root : ∀ i g, s.g? i = some g → g ≠ 0 → ∃ j, s.g? j = some 0 ∧ HappensBefore s j i)
    (shy : ∀ i a, touchAt s i = some a → Sh a.loc → a.kind ≠ .plain) (low : ∀ o ∈ s, o.act.low B') (over : s.HandedOver) (hear : Deaf s 0 = 0) :
    Past (fun l => Sh l ∨ Sh' l) B' T := by
  obtain ⟨U, rfl⟩ := id L.pre
  have place : ∀ k a, touchAt (p ++ U) k = some a → (k < p.size ∧ touchAt p k = some a) ∨ ∃ i, i < s.size ∧ k = f i ∧ touchAt s i = some a := by
    intro k a ha
    by_cases hk : k < p.size
    · exact .inl ⟨hk, by rw [← touchAt_old (u := U) hk]; exact ha⟩
    · obtain ⟨y, hy, hya⟩ := touch_of ha
      obtain ⟨i, o, hi, rfl, _, _⟩ := L.img hy (by omega) (by rintro (e | e) <;> rw [e] at hya <;> cases hya)
      exact .inr ⟨i, hi, rfl, by rw [← L.touch hi]; exact ha⟩
  have cross : ∀ k i, Knows p 0 k → i < s.size → HappensBefore (p ++ U) k (f i) := by
    intro k i hk hi
    have hgi : s.g? i = some s[i].g := by simp [Trace.g?, Array.getElem?_eq_getElem hi]
    by_cases h0 : s[i].g = 0
    · exact hk.hb_new (L.lo i hi) (L.at' i _ (Array.getElem?_eq_getElem hi)) (by simp [nrO, h0, nr])
    · obtain ⟨j, hj, hb⟩ := root i _ hgi h0
      have hjs := lt_of_g? hj
      have hj0 : s[j].g = 0 := by simpa [Trace.g?, Array.getElem?_eq_getElem hjs] using hj
      exact (hk.hb_new (L.lo j hjs) (L.at' j _ (Array.getElem?_eq_getElem hjs)) (by simp [nrO, hj0, nr])).trans (L.hb hg1 hb)
  refine ⟨fun said => ?_, fun k a ha hm => ?_, fun k g hg hne hcn => ?_, ?_, fun o ho => ?_⟩
  · rintro ⟨x, y, hxy, ⟨a, c, ha, hc, hcf⟩, n1, n2⟩
    rcases place x a ha with ⟨hx, hax⟩ | ⟨i, hi, rfl, hai⟩
    · rcases place y c hc with ⟨hy, hcy⟩ | ⟨j, hj, rfl, hcj⟩
      · exact hP.clean said ⟨x, y, hxy, ⟨a, c, hax, hcy, hcf⟩, fun e => n1 (hb_app U e), fun e => n2 (hb_app U e)⟩
      · rcases hP.known x a hax hcf.2.1 with hk | ⟨hs, hka⟩
        · exact n1 (cross x j hk hj)
        · have hkc := shy j c hcj (hcf.1 ▸ hs)
          obtain ⟨_, _, _, hkind⟩ := hcf
          rw [hka] at hkind
          rcases hkind with z | z | ⟨_, z, _⟩
          · cases z
          · exact hkc z
          · cases z
    · rcases place y c hc with ⟨hy, _⟩ | ⟨j, hj, rfl, hcj⟩
      · have := L.lo i hi; omega
      · have hij := L.lt_of hi hxy
        by_cases h1 : HappensBefore s i j
        · exact n1 (L.hb hg1 h1)
        by_cases h2 : HappensBefore s j i
        · exact n2 (L.hb hg1 h2)
        exact clean said ⟨i, j, hij, ⟨a, c, hai, hcj, hcf⟩, h1, h2⟩
  · rcases place k a ha with ⟨_, hak⟩ | ⟨i, _, rfl, hai⟩
    · exact (hP.known k a hak hm).imp (·.app U) (fun x => ⟨.inl x.1, x.2⟩)
    · exact (known i a hai hm).imp (L.knows hg1) (fun x => ⟨.inr x.1, x.2⟩)
  · obtain ⟨a, ha, hmem, hkind⟩ := id hcn
    rcases place k a ha with ⟨hk, _⟩ | ⟨i, hi, rfl, hai⟩
    · obtain ⟨j, hj, hb⟩ := hP.over k g (by rw [← g?_old (u := U) hk]; exact hg) hne ((counts_old hk).1 hcn)
      exact ⟨j, by rw [g?_old (lt_of_g? hj)]; exact hj, hb_app U hb⟩
    · have hgi : s.g? i = some s[i].g := by simp [Trace.g?, Array.getElem?_eq_getElem hi]
      obtain rfl : g = nr b s[i].g := Option.some.inj (hg.symm.trans (L.by' hgi))
      have hne' : s[i].g ≠ 0 := fun e => hne (by rw [e]; rfl)
      obtain ⟨j, hj, hb⟩ := over i _ hgi hne' ⟨a, hai, hmem, hkind.imp id (L.heard' hi)⟩
      exact ⟨f j, L.by' hj, L.hb hg1 hb⟩
  · have h := L.dfE 0
    rw [hear] at h
    exact h
  · obtain ⟨k, hk, rfl⟩ := Array.mem_iff_getElem.1 ho
    have hy : (p ++ U)[k]? = some (p ++ U)[k] := Array.getElem?_eq_getElem hk
    by_cases hlt : k < p.size
    · have e : p[k]? = some (p ++ U)[k] := by rw [← getElem?_append_old (u := U) hlt]; exact hy
      exact MemAct.low_mono hB (hP.seen _ (mem_of_getElem? e))
    · rcases L.gap k _ hy (by omega) with ⟨i, hi, rfl⟩ | ⟨_, _, e⟩
      · have ho : s[i]? = some s[i] := Array.getElem?_eq_getElem hi
        rw [Option.some.inj (hy.symm.trans (L.at' i _ ho))]
        exact nrA_low (low _ (mem_of_getElem? ho))
      · rcases e with e | e <;> rw [e] <;> trivial

theorem Lnk.init (h0 : Deaf p 0 = 0) (hd : ∀ j, b < j → Deaf p j = 0) (f : Nat → Nat) : Lnk b p #[] p f :=
  ⟨⟨#[], by simp⟩, fun i o h => by simp at h, fun i h => by simp at h, fun i j _ h => by simp at h, fun k y hy hk => absurd (lt_size_of_getElem? hy) (by omega), fun g i h => by simp at h, fun g => by
    unfold nr
    split
    · rw [h0]; rfl
    · rw [hd _ (by omega)]; rfl⟩
theorem deafStep_nr {g : Nat} {o : MemOp} (d : Nat) : deafStep (nr b g) d (nrO b o) = deafStep g d o := by
  have e : (nr b o.g = nr b g) ↔ (o.g = g) := nr_inj
  obtain ⟨h, fn, pos, act⟩ := o
  simp only at e
  cases act with
  | mark m => cases m <;> simp [deafStep, nrO, nrA, e]
  | _ => simp [deafStep, nrO, nrA]
/-- both grow by an operation -/
theorem Lnk.both (L : Lnk b p s T f) (o : MemOp) : Lnk b p (s ++ #[o]) (T ++ #[nrO b o]) (fun i => if i = s.size then T.size else f i) := by
  have hs : (s ++ #[o]).size = s.size + 1 := by simp
  refine ⟨?_, fun i x hx => ?_, fun i hi => ?_, fun i j hij hj => ?_, fun k y hy hk => ?_, fun g i hi => ?_, fun g => ?_⟩
  · obtain ⟨U, rfl⟩ := L.pre
    exact ⟨U ++ #[nrO b o], by simp⟩
  · by_cases e : i = s.size
    · subst e
      have : o = x := by simpa using hx
      subst this
      simp
    · have hi : i < s.size := by have := lt_size_of_getElem? hx; omega
      rw [getElem?_append_old hi] at hx
      simp only [if_neg e]
      rw [getElem?_append_old (L.lt hi)]
      exact L.at' i x hx
  · by_cases e : i = s.size
    · simp only [if_pos e]; exact L.le
    · simp only [if_neg e]; exact L.lo i (by omega)
  · have ei : i ≠ s.size := by omega
    simp only [if_neg ei]
    by_cases e : j = s.size
    · simp only [if_pos e]; exact L.lt (by omega)
    · simp only [if_neg e]; exact L.up i j hij (by omega)
  · rcases getElem?_append_cases hy with ⟨_, hy'⟩ | ⟨hk', _⟩
    · rcases L.gap k y hy' hk with ⟨i, hi, rfl⟩ | h
      · exact .inl ⟨i, by omega, by simp [Nat.ne_of_lt hi]⟩
      · exact .inr h
    · have := lt_size_of_getElem? hy
      simp at this
      exact .inl ⟨s.size, by omega, by simp; omega⟩
  · by_cases e : i = s.size
    · subst e
      show (T ++ #[nrO b o]).deaf (nr b g) (if s.size = s.size then T.size else f s.size) = (s ++ #[o]).deaf g s.size
      rw [if_pos rfl, deaf_old (Nat.le_refl _), deaf_old (Nat.le_refl _)]
      exact L.dfE g
    · have hi' : i < s.size := by omega
      simp only [if_neg e]
      rw [deaf_old (Nat.le_of_lt (L.lt hi')), deaf_old (Nat.le_of_lt hi')]
      exact L.dfI g i hi'
  · rw [Deaf_push, Deaf_push, L.dfE g, deafStep_nr]
/-- the great one alone grows, by an elder's word -/
theorem Lnk.word (L : Lnk b p s T f) {y : MemOp} (h1 : 1 ≤ y.g) (h2 : y.g ≤ b) (hm : Wd y.act) : Lnk b p s (T ++ #[y]) f := by
  refine ⟨?_, fun i x hx => ?_, L.lo, L.up, fun k z hz hk => ?_, fun g i hi => ?_, fun g => ?_⟩
  · obtain ⟨U, rfl⟩ := L.pre
    exact ⟨U ++ #[y], by simp⟩
  · rw [getElem?_append_old (L.lt (lt_size_of_getElem? hx))]
    exact L.at' i x hx
  · rcases getElem?_append_cases hz with ⟨_, hz'⟩ | ⟨_, hzu⟩
    · exact L.gap k z hz' hk
    · have : z = y := by simpa using hzu
      subst this
      exact .inr ⟨h1, h2, hm⟩
  · rw [deaf_old (Nat.le_of_lt (L.lt hi))]
    exact L.dfI g i hi
  · rw [Deaf_other T (g' := y.g) (by unfold nr; split <;> omega) #[y] (by simp)]
    exact L.dfE g
end
end Go.Proofs.Ytghglpcfpokmhaa.Lk
