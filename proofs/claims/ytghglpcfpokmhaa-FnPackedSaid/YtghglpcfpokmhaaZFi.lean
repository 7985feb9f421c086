/-
  From the go statement that starts the first worker to the starter's caller that goes on, beside elder ones that leave: the workers are among them, and the group's cells are not to be touched any more. It names no program.
  The library's WaitGroup under this program's numbers; the type of the payload's cells.
  The functions whose lone contracts are used beside leavers: they are of ordinary code; the sort's function value is byName.
-/
import Derived.Test.YtghglpcfpokmhaaZEb
import Derived.Test.YtghglpcfpokmhaaZIf
import Derived.Test.YtghglpcfpokmhaaProg
import Derived.Conc.WgGenN3
set_option linter.unusedVariables false
set_option linter.unusedSimpArgs false
set_option linter.unusedSectionVars false
namespace Go.Proofs.Ytghglpcfpokmhaa.Ct
open Go Go.Conc Go.ConcN
open Go.ConcR (KK wgBlock WgAt stA smA rd wr mk Payload Aside2)
open Go.Proofs.Ytghglpcfpokmhaa.Lk (Lkd Wd Lnk nr)
open Go.Proofs.Ytghglpcfpokmhaa.Br (Pst Shn low_bound pst_of)
variable [Payload]
variable {P : Program} {F : FuncId → Prop} {ty : TypeId} {Wg C n : Nat} {Own Rd Own1 Rd1 : Nat → Loc → Prop} {Lw : Nat → Nat} {val : Nat → Value} {vals : List Value} {A0 A1 : Goroutine → World → Prop} {Q0 Q1 : Value → World → Prop}

/-- the ghost's start -/
theorem inv_start {AnchW : Goroutine → World → Prop} {Post : Value → World → Prop} {a : Goroutine} {w : World}
    (hsp : Spawns P ty Wg C n Own Rd Lw val (Fin P ty Wg C n Own Rd Lw AnchW) n a w) (hwg : WgAt ty Wg w 0 0) (hpay : PayAt C n w) :
    ∃ μ, Inv P ty Wg C n Own Rd Lw val vals AnchW Post μ (crowd #[a] w none) #[] := by
  have hct : CT (ShN Wg) Own Rd #[] 0 := CT.lone (by simp) (by simp)
  have hcom : Com P ty Wg C n Own Rd Lw val 0 #[a] w #[] (fun _ => ⟨0, 0, 0⟩) 0 :=
    ⟨rfl, fun i hi => by omega, hct, fun i hi => by simp [Trace.act?] at hi, rfl, fun i hi => by omega, fun i hi => by omega, fun i hi => by omega, hpay⟩
  have hmode : ∀ tag, isOpen tag → pend tag = 0 → (∀ vs, tag ≠ .w2 vs) → Go.ConcN.Mode 0 (fun _ => (⟨0, 0, 0⟩ : WD)) tag 0 0 := fun tag h1 h2 h3 => by
    have := Go.ConcN.Mode.opn (j := 0) (D := fun _ => (⟨0, 0, 0⟩ : WD)) h1 (fun i hi => by omega) (fun vs e => absurd e (h3 vs))
    simpa [Vc, sumTo, h2] using this
  cases n with
  | zero =>
    obtain ⟨m, hk⟩ := hsp
    exact ⟨_, #[a], w, none, 0, _, .kd, m, 0, a, 0, 0, rfl, rfl, .kd hk, hcom, hwg, hmode .kd trivial rfl (by simp), by simp, rfl⟩
  | succ r =>
    obtain ⟨m, hk⟩ := hsp
    have hc := CSit.skd (vals := vals) (Post := Post) (Nat.lt_succ_self r) hk
    rw [Nat.sub_self] at hc
    exact ⟨_, #[a], w, none, 0, _, .sp r 5, m, 0, a, 0, 0, rfl, rfl, hc, hcom, hwg, hmode (.sp r 5) trivial rfl (by simp), by simp, rfl⟩

/-- ████ THE PHASE ████ -/
theorem phase (hF : SetOk P F) (hP : Late P) {S : Nat → Prop} (A : Apart (ShN Wg) Own Rd) (A' : Apart (ShN Wg) Own1 Rd1) (hX : Fam (Shn S) Wg Own Rd Own1 Rd1) {Sk : Goroutine → World → Prop} {RdX : Nat → Loc → Prop} (hSk : SkOk P Wg Own1 RdX Sk) (Ge : Geo Wg C Lw) (hn : n < 2147483648)
    (h0 : Ask P ty Wg C n Own Rd Lw vals A0 Q0) (h1 : Ask P ty Wg C n Own1 Rd1 Lw vals A1 Q1) (hl : vals.length = n) (hv : ∀ i, i < n → vals[i]? = some (val i))
    {fr c : Frame} {rest : List Frame} {w : World} (hfr : OkF P F fr) (hgc : GC P w) (hwg : WgAt ty Wg w 0 0) (hpay : PayAt C n w)
    (hs0 : Spawns P ty Wg C n Own Rd Lw val (Fin P ty Wg C n Own Rd Lw A0) n (G fr []) w) (hs1 : Spawns P ty Wg C n Own1 Rd1 Lw val (Fin P ty Wg C n Own1 Rd1 Lw A1) n (G fr [s1 P, s2 P]) w) (hk0 : Sk (G fr []) w)
    {R : Array Goroutine} {sl : Option (Nat × Nat)} {p : Trace} {q : Nat → Nat} (hz : R[0]? = some (G fr (c :: rest))) (hL : Leavers P p R q) (hPs : Pst S 0 p) :
    ∃ N R' w' sl' T' q' v, runNT P N (crowd R w sl) p = (.next (crowd R' w' sl'), T') ∧ R'[0]? = some (G (c.finish v) rest) ∧ Leavers P T' R' q' ∧ Pst (fun b => S b ∨ b = Wg) 0 T' ∧ Q0 v w' := by
  have hpos : 0 < R.size := (Array.getElem?_eq_some_iff.1 hz).1
  obtain ⟨b, hb⟩ : ∃ b, R.size = b + 1 := ⟨R.size - 1, by omega⟩
  obtain ⟨μ, hI0⟩ := inv_start (vals := vals) (Post := Q0) hs0 hwg hpay
  obtain ⟨μ1, hI1⟩ := inv_start (vals := vals) (Post := Q1) hs1 hwg hpay
  have hSim : Sim P F ty Wg C n (Shn S) Sk Own Rd Own1 Rd1 Lw val vals A0 A1 Q0 Q1 b (c :: rest) p q μ (crowd R w sl) p := by
    refine ⟨#[G fr []], #[G fr [s1 P, s2 P]], R, w, sl, none, none, G fr [], #[], μ1, rfl, rfl, ⟨by simp, by simpa using hb, ?_, fun i hi => ?_⟩, ⟨by simp, by simp, rfl, fun i hi => ?_⟩, fun i hi hib => ?_, hI0, hI1, ⟨fun _ => 0, Lnk.init hPs.hears (fun j hj => hL.above j (by omega)) _⟩, fun i x hx => (by simp [touchAt, Trace.act?] at hx), ⟨fun i g hg => (by simp [Trace.g?] at hg), fun k k1 km => (by simp at km; omega)⟩, fun op hop => (by simp at hop), fun _ => hk0, hfr, fun f hf => (by cases hf), ⟨rfl, rfl⟩, hgc⟩
    · rw [hz]; rfl
    · rw [Array.getElem?_eq_none (by omega), Array.getElem?_eq_none (by simp; omega)]
    · rw [Array.getElem?_eq_none (by simp; omega), Array.getElem?_eq_none (by simp; omega)]
    · have hlt : i < R.size := by omega
      exact ⟨R[i], Array.getElem?_eq_getElem hlt, hL.old i _ (by omega) (Array.getElem?_eq_getElem hlt)⟩
  obtain ⟨N, q', R', w', slr', T', hrun, d, sl2, gs, a, t, o, w₂, es, sl0, hst, hR, ha, hend, hG, hLk, hTk, hRt, hGz, hdf, hqu, hfa, hea, hE, hgc'⟩ := sim_run hF hP A A' hX hSk Ge hn h0 h1 hl hv (_, μ) q R w sl p rfl hSim
  obtain ⟨v, rfl, hQ, hcl, hov, _, _⟩ := hG
  have hret := ret_real hF hfa (by rw [← hea]; exact hend)
  have hz' : R'[0]? = some (G a.frame (c :: rest)) := by
    rw [hR.zero, ha]
    rw [hea, hret.1]
    rfl
  have hgo := hret.2 c rest
  have hrunT := runT_crowd_go (P := P) (sl := sl2) (i := 0) (w := w'.at d) hz' hgo
  obtain ⟨f, L⟩ := id hLk
  have hL2 := hLk.events 0 a.frame.fn a.frame.place es
  obtain ⟨f2, L2⟩ := id hL2
  have hsz : R'.size = b + gs.size := hR.size
  have hp' : 0 < R'.size := by have := hR.pos; omega
  have hg0 : ∀ op ∈ MemOp.ofEvents 0 a.frame.fn a.frame.place es, op.g = 0 := fun op hop => by obtain ⟨e, _, rfl⟩ := of_mem hop; rfl
  have nz : nr b 0 = 0 := rfl
  have hex : ∀ i, ∃ qi, ∀ g, 1 ≤ i → R'[i]? = some g → QuitsD P qi (Deaf T' i) g := fun i => by
    by_cases h1 : 1 ≤ i
    · by_cases hib : i ≤ b
      · obtain ⟨g, hg, hqq⟩ := hE i h1 hib
        exact ⟨q' i, fun g' _ hg' => by rw [hg] at hg'; cases hg'; exact hqq⟩
      · obtain ⟨k, rfl⟩ : ∃ k, i = b + (k + 1) := ⟨i - b - 1, by omega⟩
        cases hgk : gs[k + 1]? with
        | none => exact ⟨0, fun g' _ hg' => by rw [hR.wk (k + 1) (by omega), hgk] at hg'; cases hg'⟩
        | some g =>
          obtain ⟨qq, hqq⟩ := hqu k g hgk
          refine ⟨qq, fun g' _ hg' => ?_⟩
          rw [hR.wk (k + 1) (by omega), hgk] at hg'
          cases hg'
          have := L.dfE (k + 1)
          rw [Lk.nr_pos (by omega)] at this
          rw [this]
          exact hqq
    · exact ⟨0, fun g h => absurd h h1⟩
  refine ⟨N + 1, (R'.map (woken P (G a.frame (c :: rest)) (G (c.finish v) rest) w₂)).setIfInBounds 0 (G (c.finish v) rest), w₂, sl2, T' ++ MemOp.ofEvents 0 a.frame.fn a.frame.place es, fun i => (hex i).choose, v, ?_, ?_, ⟨fun i g hi hg => ?_, fun j hj => ?_⟩, ?_, hQ⟩
  · rw [runNT_add, hrun]
    simp only [runNT, hst, hrunT]
    rfl
  · rw [Array.getElem?_setIfInBounds_self_of_lt (by simpa using hp')]
  · rw [Array.getElem?_setIfInBounds_ne (by omega), Array.getElem?_map] at hg
    obtain ⟨y, hy, rfl⟩ := Option.map_eq_some_iff.1 hg
    have hqy := (hex i).choose_spec y (by omega) hy
    rw [woken_quitsD hqy, Deaf_other T' (g := i) (g' := 0) (by omega) _ hg0]
    exact hqy
  · rw [Array.size_setIfInBounds, Array.size_map, hsz] at hj
    rw [Deaf_other T' (g := j) (g' := 0) (by have := hR.pos; omega) _ hg0]
    obtain ⟨k, rfl⟩ : ∃ k, j = b + k := ⟨j - b, by omega⟩
    have hk : k ≠ 0 := by have := hR.pos; omega
    have := L.dfE k
    rw [Lk.nr_pos hk] at this
    rw [this]
    refine Deaf_absent fun i op hi e => ?_
    have := hRt.1 i op.g (by simp [Trace.g?, hi])
    omega
  · obtain ⟨B, hPast⟩ := hPs.past
    obtain ⟨B2, hB2⟩ := low_bound (t ++ MemOp.ofEvents 0 a.frame.fn a.frame.place es)
    have hRt' := hRt.app (u := MemOp.ofEvents 0 a.frame.fn a.frame.place es) fun op hop => by rw [hg0 op hop]; have := hR.pos; omega
    have key : Past (fun l => Shn S l ∨ ShN Wg l) (B + B2) (T' ++ MemOp.ofEvents 0 a.frame.fn a.frame.place es) := by
      refine Lk.past_of (s := t ++ MemOp.ofEvents 0 a.frame.fn a.frame.place es) (f := f2) hPast (Nat.le_add_right _ _) (fun i k hk => ?_) L2 hcl (fun i x hx hm => ?_) hRt'.root (fun i x hx => (hTk i x hx).1) (fun op hop => MemAct.low_mono (Nat.le_add_left _ _) (hB2 op hop)) hov hdf
      · obtain ⟨op, ho, hop⟩ := Option.map_eq_some_iff.1 hk
        exact gz_ev hGz 0 a.frame.fn a.frame.place es op (Array.mem_of_getElem? ho) k hop
      · obtain ⟨op, ho, hox⟩ := touch_of hx
        by_cases hg : op.g = 0
        · have := knows_own ho
          rw [hg] at this
          exact .inl this
        · have hcnt : x.kind ≠ .atomic ∨ (t ++ MemOp.ofEvents 0 a.frame.fn a.frame.place es).heard i → Knows (t ++ MemOp.ofEvents 0 a.frame.fn a.frame.place es) 0 i := fun hc => by
            obtain ⟨j, hj, hb'⟩ := hov i op.g (by simp [Trace.g?, ho]) hg ⟨x, hx, hm, hc⟩
            obtain ⟨y, hy, hyg⟩ := Option.map_eq_some_iff.1 hj
            exact ⟨j, y, hy, hyg, .inr hb'⟩
          by_cases hk : x.kind = .atomic
          · rcases (hTk i x hx).2 hk with h3 | h3 | h3
            · exfalso
              simp [Trace.g?, ho] at h3
              exact hg h3
            · exact .inl (hcnt (.inr h3))
            · exact .inr ⟨h3, hk⟩
          · exact .inl (hcnt (.inl hk))
    have hsub : ∀ l, (Shn S l ∨ ShN Wg l) → Shn (fun b => S b ∨ b = Wg) l := fun l hl => by
      rcases hl with ⟨x, e, hx⟩ | ⟨x, e, hx⟩
      · exact ⟨x, e, .inl hx⟩
      · exact ⟨x, e, .inr hx⟩
    exact ⟨key.clean, fun i x h1 h2 => (key.known i x h1 h2).imp id fun ⟨h3, h4⟩ => ⟨hsub _ h3, h4⟩, key.over, key.hears⟩
end Go.Proofs.Ytghglpcfpokmhaa.Ct

set_option linter.unusedVariables false
namespace Go.Proofs.Ytghglpcfpokmhaa
open Go Go.Conc
abbrev link : Go.Conc.Lib.WgLink := { add := 30, done := 32, wait := 34, relMerge := 41, disable := 42, enable := 43, inBubble := 44, associate := 45, fatal := 46, uOr := 47, uAdd := 48, raceRead := 49, uLoad := 50, uStore := 51, disassociate := 52, semrelease := 53, acquire := 54, isAssociated := 55, uCas := 56, raceWrite := 57, semacquire := 58, orU64 := 72, addU64 := 73, loadU64 := 74, storeU64 := 75, casU64 := 76, tWgP := 77, tUP := 79, tAssoc := 81, tWg := 70, tAU := 67, tU64 := 65, tUint := 74, tU32 := 68, tPU32 := 85, tPAU := 104, tPU64 := 106, tNoCopy := 62, tANoCopy := 63, tAlign64 := 64 }
set_option maxRecDepth 10000 in
theorem wgLib : Go.Conc.Lib.WgLib Try.prog link :=
  ⟨Try.func30, Try.func32, Try.func34, Try.func41, Try.func42, Try.func43, Try.func44, Try.func45, Try.func46, Try.func47, Try.func48, Try.func49, Try.func50, Try.func51, Try.func52, Try.func53, Try.func54, Try.func55, Try.func56, Try.func57, Try.func58, Try.func72, Try.func73, Try.func74, Try.func75, Try.func76, Try.underlying77, Try.runUnderlying77, Try.sizeOf77, Try.isAgg77, Try.zeroValue77, Try.underlying79, Try.runUnderlying79, Try.sizeOf79, Try.isAgg79, Try.zeroValue79, Try.underlying81, Try.runUnderlying81, Try.sizeOf81, Try.isAgg81, Try.zeroValue81, Try.underlying70, Try.runUnderlying70, Try.sizeOf70, Try.isAgg70, Try.zeroValue70, Try.underlying67, Try.runUnderlying67, Try.sizeOf67, Try.isAgg67, Try.zeroValue67, Try.underlying65, Try.runUnderlying65, Try.sizeOf65, Try.isAgg65, Try.zeroValue65, Try.underlying74, Try.runUnderlying74, Try.sizeOf74, Try.isAgg74, Try.zeroValue74, Try.underlying68, Try.runUnderlying68, Try.sizeOf68, Try.isAgg68, Try.zeroValue68, Try.underlying85, Try.runUnderlying85, Try.sizeOf85, Try.isAgg85, Try.zeroValue85, Try.underlying104, Try.runUnderlying104, Try.sizeOf104, Try.isAgg104, Try.zeroValue104, Try.underlying106, Try.runUnderlying106, Try.sizeOf106, Try.isAgg106, Try.zeroValue106, Try.underlying0, Try.runUnderlying0, Try.sizeOf0, Try.isAgg0, Try.zeroValue0, Try.underlying3, Try.runUnderlying3, Try.sizeOf3, Try.isAgg3, Try.zeroValue3, Try.underlying4, Try.runUnderlying4, Try.sizeOf4, Try.isAgg4, Try.zeroValue4, Try.underlying9, Try.runUnderlying9, Try.sizeOf9, Try.isAgg9, Try.zeroValue9, Try.underlying20, Try.runUnderlying20, Try.sizeOf20, Try.isAgg20, Try.zeroValue20, Try.underlying21, Try.runUnderlying21, Try.sizeOf21, Try.isAgg21, Try.zeroValue21, (by kernel_rfl), (by kernel_rfl)⟩
/-- The payload's cells are int64. -/
instance : Go.ConcR.Payload := ⟨2⟩
theorem nm78 : (Try.f31.name == "runtime.NumGoroutine") = false := by kernel_rfl
end Go.Proofs.Ytghglpcfpokmhaa

set_option linter.unusedVariables false
set_option linter.unusedSimpArgs false
namespace Go.Proofs.Ytghglpcfpokmhaa
open Go Go.Conc Go.RowKit
def lateOk (P : Program) : Bool := P.funcs.toList.all fun f => match f.body with
  | none => true
  | some c => (readies c).all fun g => decide (g < P.globals.size)

theorem late_of {P : Program} (h : lateOk P = true) : ∀ g, P.globals.size ≤ g → P.stepOf g = none := by
  intro g hg
  unfold Program.stepOf
  rw [Array.findIdx?_eq_none_iff]
  intro f hf
  have := List.all_eq_true.1 h f (Array.mem_toList_iff.2 hf)
  cases hb : f.body with
  | none => rfl
  | some c =>
    rw [hb] at this
    simp only [List.all_eq_true, decide_eq_true_eq] at this
    simp only [Option.map_some, Option.any_some]
    cases hc : (readies c).contains g with
    | false => rfl
    | true =>
      have := this g (by simpa using hc)
      omega
def FL : List Nat := [4, 5, 7, 9, 10, 11, 12, 13, 14, 15, 16, 18, 19, 20, 21, 22, 23, 24, 25, 26, 27, 28, 29, 35, 36, 37, 38, 39, 40, 59, 60, 61, 62, 63, 64, 65, 66, 67, 68, 69, 70, 71, 77, 78, 79, 80, 81, 82, 83]
def Zg : Br.Sig where
  F f := FL.contains f
  K f := match f with
    | 19 => [1, 12]
    | 27 => [2, 24, 40]
    | 36 => [4, 29, 36, 43, 51, 60, 79, 84, 102, 110, 133, 145]
    | 59 => [3, 22]
    | 60 => [3, 28, 58]
    | 61 => [3]
    | 62 => [3, 39, 43, 47, 53]
    | 63 => [3]
    | 64 => [3, 23, 72, 112]
    | 65 => [4, 35, 54]
    | 66 => [4, 36, 54, 109, 127]
    | 77 => [4, 24, 43]
    | 80 => [3, 16]
    | 81 => [5, 18, 27, 36]
    | 83 => [4, 12]
    | _ => []
  fv := 20
theorem memFL {f : Nat} (h : Zg.F f = true) : f ∈ FL := by simpa [Zg] using h
theorem zok4 : ∀ fn c, Try.prog.funcs[4]? = some fn → fn.body = some c → Br.okC (Br.okOp Zg Try.prog (Zg.K 4)) c = true := by
  intro fn c h1 h2
  cases h1.symm.trans Try.func4
  cases h2.symm.trans (rfl : Try.f4.body = some (Try.f4.body.getD .skip))
  kernel_rfl
theorem zok5 : ∀ fn c, Try.prog.funcs[5]? = some fn → fn.body = some c → Br.okC (Br.okOp Zg Try.prog (Zg.K 5)) c = true := by
  intro fn c h1 h2
  cases h1.symm.trans Try.func5
  cases h2.symm.trans (rfl : Try.f5.body = some (Try.f5.body.getD .skip))
  kernel_rfl
theorem zok7 : ∀ fn c, Try.prog.funcs[7]? = some fn → fn.body = some c → Br.okC (Br.okOp Zg Try.prog (Zg.K 7)) c = true := by
  intro fn c h1 h2
  cases h1.symm.trans Try.func7
  cases h2.symm.trans (rfl : Try.f7.body = some (Try.f7.body.getD .skip))
  kernel_rfl
theorem zok9 : ∀ fn c, Try.prog.funcs[9]? = some fn → fn.body = some c → Br.okC (Br.okOp Zg Try.prog (Zg.K 9)) c = true := by
  intro fn c h1 h2
  cases h1.symm.trans Try.func9
  cases h2.symm.trans (rfl : Try.f9.body = some (Try.f9.body.getD .skip))
  kernel_rfl
theorem zok10 : ∀ fn c, Try.prog.funcs[10]? = some fn → fn.body = some c → Br.okC (Br.okOp Zg Try.prog (Zg.K 10)) c = true := by
  intro fn c h1 h2
  cases h1.symm.trans Try.func10
  cases h2.symm.trans (rfl : Try.f10.body = some (Try.f10.body.getD .skip))
  kernel_rfl
theorem zok11 : ∀ fn c, Try.prog.funcs[11]? = some fn → fn.body = some c → Br.okC (Br.okOp Zg Try.prog (Zg.K 11)) c = true := by
  intro fn c h1 h2
  cases h1.symm.trans Try.func11
  cases h2.symm.trans (rfl : Try.f11.body = some (Try.f11.body.getD .skip))
  kernel_rfl
theorem zok12 : ∀ fn c, Try.prog.funcs[12]? = some fn → fn.body = some c → Br.okC (Br.okOp Zg Try.prog (Zg.K 12)) c = true := by
  intro fn c h1 h2
  cases h1.symm.trans Try.func12
  cases h2.symm.trans (rfl : Try.f12.body = some (Try.f12.body.getD .skip))
  kernel_rfl
theorem zok13 : ∀ fn c, Try.prog.funcs[13]? = some fn → fn.body = some c → Br.okC (Br.okOp Zg Try.prog (Zg.K 13)) c = true := by
  intro fn c h1 h2
  cases h1.symm.trans Try.func13
  cases h2.symm.trans (rfl : Try.f13.body = some (Try.f13.body.getD .skip))
  kernel_rfl
theorem zok14 : ∀ fn c, Try.prog.funcs[14]? = some fn → fn.body = some c → Br.okC (Br.okOp Zg Try.prog (Zg.K 14)) c = true := by
  intro fn c h1 h2
  cases h1.symm.trans Try.func14
  cases h2.symm.trans (rfl : Try.f14.body = some (Try.f14.body.getD .skip))
  kernel_rfl
theorem zok15 : ∀ fn c, Try.prog.funcs[15]? = some fn → fn.body = some c → Br.okC (Br.okOp Zg Try.prog (Zg.K 15)) c = true := by
  intro fn c h1 h2
  cases h1.symm.trans Try.func15
  cases h2.symm.trans (rfl : Try.f15.body = some (Try.f15.body.getD .skip))
  kernel_rfl
theorem zok16 : ∀ fn c, Try.prog.funcs[16]? = some fn → fn.body = some c → Br.okC (Br.okOp Zg Try.prog (Zg.K 16)) c = true := by
  intro fn c h1 h2
  cases h1.symm.trans Try.func16
  cases h2.symm.trans (rfl : Try.f16.body = some (Try.f16.body.getD .skip))
  kernel_rfl
theorem zok18 : ∀ fn c, Try.prog.funcs[18]? = some fn → fn.body = some c → Br.okC (Br.okOp Zg Try.prog (Zg.K 18)) c = true := by
  intro fn c h1 h2
  cases h1.symm.trans Try.func18
  cases h2.symm.trans (rfl : Try.f18.body = some (Try.f18.body.getD .skip))
  kernel_rfl
theorem zok19 : ∀ fn c, Try.prog.funcs[19]? = some fn → fn.body = some c → Br.okC (Br.okOp Zg Try.prog (Zg.K 19)) c = true := by
  intro fn c h1 h2
  cases h1.symm.trans Try.func19
  cases h2.symm.trans (rfl : Try.f19.body = some (Try.f19.body.getD .skip))
  kernel_rfl
theorem zok20 : ∀ fn c, Try.prog.funcs[20]? = some fn → fn.body = some c → Br.okC (Br.okOp Zg Try.prog (Zg.K 20)) c = true := by
  intro fn c h1 h2
  cases h1.symm.trans Try.func20
  cases h2.symm.trans (rfl : Try.f20.body = some (Try.f20.body.getD .skip))
  kernel_rfl
theorem zok21 : ∀ fn c, Try.prog.funcs[21]? = some fn → fn.body = some c → Br.okC (Br.okOp Zg Try.prog (Zg.K 21)) c = true := by
  intro fn c h1 h2
  cases h1.symm.trans Try.func21
  cases h2.symm.trans (rfl : Try.f21.body = some (Try.f21.body.getD .skip))
  kernel_rfl
theorem zok22 : ∀ fn c, Try.prog.funcs[22]? = some fn → fn.body = some c → Br.okC (Br.okOp Zg Try.prog (Zg.K 22)) c = true := by
  intro fn c h1 h2
  cases h1.symm.trans Try.func22
  cases h2.symm.trans (rfl : Try.f22.body = some (Try.f22.body.getD .skip))
  kernel_rfl
theorem zok23 : ∀ fn c, Try.prog.funcs[23]? = some fn → fn.body = some c → Br.okC (Br.okOp Zg Try.prog (Zg.K 23)) c = true := by
  intro fn c h1 h2
  cases h1.symm.trans Try.func23
  cases h2.symm.trans (rfl : Try.f23.body = some (Try.f23.body.getD .skip))
  kernel_rfl
theorem zok24 : ∀ fn c, Try.prog.funcs[24]? = some fn → fn.body = some c → Br.okC (Br.okOp Zg Try.prog (Zg.K 24)) c = true := by
  intro fn c h1 h2
  cases h1.symm.trans Try.func24
  cases h2.symm.trans (rfl : Try.f24.body = some (Try.f24.body.getD .skip))
  kernel_rfl
theorem zok25 : ∀ fn c, Try.prog.funcs[25]? = some fn → fn.body = some c → Br.okC (Br.okOp Zg Try.prog (Zg.K 25)) c = true := by
  intro fn c h1 h2
  cases h1.symm.trans Try.func25
  cases h2.symm.trans (rfl : Try.f25.body = some (Try.f25.body.getD .skip))
  kernel_rfl
theorem zok26 : ∀ fn c, Try.prog.funcs[26]? = some fn → fn.body = some c → Br.okC (Br.okOp Zg Try.prog (Zg.K 26)) c = true := by
  intro fn c h1 h2
  cases h1.symm.trans Try.func26
  cases h2.symm.trans (rfl : Try.f26.body = some (Try.f26.body.getD .skip))
  kernel_rfl
theorem zok27 : ∀ fn c, Try.prog.funcs[27]? = some fn → fn.body = some c → Br.okC (Br.okOp Zg Try.prog (Zg.K 27)) c = true := by
  intro fn c h1 h2
  cases h1.symm.trans Try.func27
  cases h2.symm.trans (rfl : Try.f27.body = some (Try.f27.body.getD .skip))
  kernel_rfl
theorem zok28 : ∀ fn c, Try.prog.funcs[28]? = some fn → fn.body = some c → Br.okC (Br.okOp Zg Try.prog (Zg.K 28)) c = true := by
  intro fn c h1 h2
  cases h1.symm.trans Try.func28
  cases h2.symm.trans (rfl : Try.f28.body = some (Try.f28.body.getD .skip))
  kernel_rfl
theorem zok29 : ∀ fn c, Try.prog.funcs[29]? = some fn → fn.body = some c → Br.okC (Br.okOp Zg Try.prog (Zg.K 29)) c = true := by
  intro fn c h1 h2
  cases h1.symm.trans Try.func29
  cases h2.symm.trans (rfl : Try.f29.body = some (Try.f29.body.getD .skip))
  kernel_rfl
theorem zok35 : ∀ fn c, Try.prog.funcs[35]? = some fn → fn.body = some c → Br.okC (Br.okOp Zg Try.prog (Zg.K 35)) c = true := by
  intro fn c h1 h2
  cases h1.symm.trans Try.func35
  cases h2.symm.trans (rfl : Try.f35.body = some (Try.f35.body.getD .skip))
  kernel_rfl
theorem zok36 : ∀ fn c, Try.prog.funcs[36]? = some fn → fn.body = some c → Br.okC (Br.okOp Zg Try.prog (Zg.K 36)) c = true := by
  intro fn c h1 h2
  cases h1.symm.trans Try.func36
  cases h2.symm.trans (rfl : Try.f36.body = some (Try.f36.body.getD .skip))
  kernel_rfl
theorem zok37 : ∀ fn c, Try.prog.funcs[37]? = some fn → fn.body = some c → Br.okC (Br.okOp Zg Try.prog (Zg.K 37)) c = true := by
  intro fn c h1 h2
  cases h1.symm.trans Try.func37
  cases h2.symm.trans (rfl : Try.f37.body = some (Try.f37.body.getD .skip))
  kernel_rfl
theorem zok38 : ∀ fn c, Try.prog.funcs[38]? = some fn → fn.body = some c → Br.okC (Br.okOp Zg Try.prog (Zg.K 38)) c = true := by
  intro fn c h1 h2
  cases h1.symm.trans Try.func38
  cases h2.symm.trans (rfl : Try.f38.body = some (Try.f38.body.getD .skip))
  kernel_rfl
theorem zok39 : ∀ fn c, Try.prog.funcs[39]? = some fn → fn.body = some c → Br.okC (Br.okOp Zg Try.prog (Zg.K 39)) c = true := by
  intro fn c h1 h2
  cases h1.symm.trans Try.func39
  cases h2.symm.trans (rfl : Try.f39.body = some (Try.f39.body.getD .skip))
  kernel_rfl
theorem zok40 : ∀ fn c, Try.prog.funcs[40]? = some fn → fn.body = some c → Br.okC (Br.okOp Zg Try.prog (Zg.K 40)) c = true := by
  intro fn c h1 h2
  cases h1.symm.trans Try.func40
  cases h2.symm.trans (rfl : Try.f40.body = some (Try.f40.body.getD .skip))
  kernel_rfl
theorem zok59 : ∀ fn c, Try.prog.funcs[59]? = some fn → fn.body = some c → Br.okC (Br.okOp Zg Try.prog (Zg.K 59)) c = true := by
  intro fn c h1 h2
  cases h1.symm.trans Try.func59
  cases h2.symm.trans (rfl : Try.f59.body = some (Try.f59.body.getD .skip))
  kernel_rfl
theorem zok60 : ∀ fn c, Try.prog.funcs[60]? = some fn → fn.body = some c → Br.okC (Br.okOp Zg Try.prog (Zg.K 60)) c = true := by
  intro fn c h1 h2
  cases h1.symm.trans Try.func60
  cases h2.symm.trans (rfl : Try.f60.body = some (Try.f60.body.getD .skip))
  kernel_rfl
theorem zok61 : ∀ fn c, Try.prog.funcs[61]? = some fn → fn.body = some c → Br.okC (Br.okOp Zg Try.prog (Zg.K 61)) c = true := by
  intro fn c h1 h2
  cases h1.symm.trans Try.func61
  cases h2.symm.trans (rfl : Try.f61.body = some (Try.f61.body.getD .skip))
  kernel_rfl
theorem zok62 : ∀ fn c, Try.prog.funcs[62]? = some fn → fn.body = some c → Br.okC (Br.okOp Zg Try.prog (Zg.K 62)) c = true := by
  intro fn c h1 h2
  cases h1.symm.trans Try.func62
  cases h2.symm.trans (rfl : Try.f62.body = some (Try.f62.body.getD .skip))
  kernel_rfl
theorem zok63 : ∀ fn c, Try.prog.funcs[63]? = some fn → fn.body = some c → Br.okC (Br.okOp Zg Try.prog (Zg.K 63)) c = true := by
  intro fn c h1 h2
  cases h1.symm.trans Try.func63
  cases h2.symm.trans (rfl : Try.f63.body = some (Try.f63.body.getD .skip))
  kernel_rfl
theorem zok64 : ∀ fn c, Try.prog.funcs[64]? = some fn → fn.body = some c → Br.okC (Br.okOp Zg Try.prog (Zg.K 64)) c = true := by
  intro fn c h1 h2
  cases h1.symm.trans Try.func64
  cases h2.symm.trans (rfl : Try.f64.body = some (Try.f64.body.getD .skip))
  kernel_rfl
theorem zok65 : ∀ fn c, Try.prog.funcs[65]? = some fn → fn.body = some c → Br.okC (Br.okOp Zg Try.prog (Zg.K 65)) c = true := by
  intro fn c h1 h2
  cases h1.symm.trans Try.func65
  cases h2.symm.trans (rfl : Try.f65.body = some (Try.f65.body.getD .skip))
  kernel_rfl
theorem zok66 : ∀ fn c, Try.prog.funcs[66]? = some fn → fn.body = some c → Br.okC (Br.okOp Zg Try.prog (Zg.K 66)) c = true := by
  intro fn c h1 h2
  cases h1.symm.trans Try.func66
  cases h2.symm.trans (rfl : Try.f66.body = some (Try.f66.body.getD .skip))
  kernel_rfl
theorem zok67 : ∀ fn c, Try.prog.funcs[67]? = some fn → fn.body = some c → Br.okC (Br.okOp Zg Try.prog (Zg.K 67)) c = true := by
  intro fn c h1 h2
  cases h1.symm.trans Try.func67
  cases h2.symm.trans (rfl : Try.f67.body = some (Try.f67.body.getD .skip))
  kernel_rfl
theorem zok68 : ∀ fn c, Try.prog.funcs[68]? = some fn → fn.body = some c → Br.okC (Br.okOp Zg Try.prog (Zg.K 68)) c = true := by
  intro fn c h1 h2
  cases h1.symm.trans Try.func68
  cases h2.symm.trans (rfl : Try.f68.body = some (Try.f68.body.getD .skip))
  kernel_rfl
theorem zok69 : ∀ fn c, Try.prog.funcs[69]? = some fn → fn.body = some c → Br.okC (Br.okOp Zg Try.prog (Zg.K 69)) c = true := by
  intro fn c h1 h2
  cases h1.symm.trans Try.func69
  cases h2.symm.trans (rfl : Try.f69.body = some (Try.f69.body.getD .skip))
  kernel_rfl
theorem zok70 : ∀ fn c, Try.prog.funcs[70]? = some fn → fn.body = some c → Br.okC (Br.okOp Zg Try.prog (Zg.K 70)) c = true := by
  intro fn c h1 h2
  cases h1.symm.trans Try.func70
  cases h2.symm.trans (rfl : Try.f70.body = some (Try.f70.body.getD .skip))
  kernel_rfl
theorem zok71 : ∀ fn c, Try.prog.funcs[71]? = some fn → fn.body = some c → Br.okC (Br.okOp Zg Try.prog (Zg.K 71)) c = true := by
  intro fn c h1 h2
  cases h1.symm.trans Try.func71
  cases h2.symm.trans (rfl : Try.f71.body = some (Try.f71.body.getD .skip))
  kernel_rfl
theorem zok77 : ∀ fn c, Try.prog.funcs[77]? = some fn → fn.body = some c → Br.okC (Br.okOp Zg Try.prog (Zg.K 77)) c = true := by
  intro fn c h1 h2
  cases h1.symm.trans Try.func77
  cases h2.symm.trans (rfl : Try.f77.body = some (Try.f77.body.getD .skip))
  kernel_rfl
theorem zok78 : ∀ fn c, Try.prog.funcs[78]? = some fn → fn.body = some c → Br.okC (Br.okOp Zg Try.prog (Zg.K 78)) c = true := by
  intro fn c h1 h2
  cases h1.symm.trans Try.func78
  cases h2.symm.trans (rfl : Try.f78.body = some (Try.f78.body.getD .skip))
  kernel_rfl
theorem zok79 : ∀ fn c, Try.prog.funcs[79]? = some fn → fn.body = some c → Br.okC (Br.okOp Zg Try.prog (Zg.K 79)) c = true := by
  intro fn c h1 h2
  cases h1.symm.trans Try.func79
  cases h2.symm.trans (rfl : Try.f79.body = some (Try.f79.body.getD .skip))
  kernel_rfl
theorem zok80 : ∀ fn c, Try.prog.funcs[80]? = some fn → fn.body = some c → Br.okC (Br.okOp Zg Try.prog (Zg.K 80)) c = true := by
  intro fn c h1 h2
  cases h1.symm.trans Try.func80
  cases h2.symm.trans (rfl : Try.f80.body = some (Try.f80.body.getD .skip))
  kernel_rfl
theorem zok81 : ∀ fn c, Try.prog.funcs[81]? = some fn → fn.body = some c → Br.okC (Br.okOp Zg Try.prog (Zg.K 81)) c = true := by
  intro fn c h1 h2
  cases h1.symm.trans Try.func81
  cases h2.symm.trans (rfl : Try.f81.body = some (Try.f81.body.getD .skip))
  kernel_rfl
theorem zok82 : ∀ fn c, Try.prog.funcs[82]? = some fn → fn.body = some c → Br.okC (Br.okOp Zg Try.prog (Zg.K 82)) c = true := by
  intro fn c h1 h2
  cases h1.symm.trans Try.func82
  cases h2.symm.trans (rfl : Try.f82.body = some (Try.f82.body.getD .skip))
  kernel_rfl
theorem zok83 : ∀ fn c, Try.prog.funcs[83]? = some fn → fn.body = some c → Br.okC (Br.okOp Zg Try.prog (Zg.K 83)) c = true := by
  intro fn c h1 h2
  cases h1.symm.trans Try.func83
  cases h2.symm.trans (rfl : Try.f83.body = some (Try.f83.body.getD .skip))
  kernel_rfl
theorem zgOk : Br.SetOk Try.prog Zg := by
  refine ⟨fun f hf => ?_, fun f fn c hf h1 h2 => ?_, fun g hg => ?_, by kernel_rfl⟩
  · have := memFL hf
    simp only [FL, List.mem_cons, List.not_mem_nil, or_false] at this
    rcases this with rfl | rfl | rfl | rfl | rfl | rfl | rfl | rfl | rfl | rfl | rfl | rfl | rfl | rfl | rfl | rfl | rfl | rfl | rfl | rfl | rfl | rfl | rfl | rfl | rfl | rfl | rfl | rfl | rfl | rfl | rfl | rfl | rfl | rfl | rfl | rfl | rfl | rfl | rfl | rfl | rfl | rfl | rfl | rfl | rfl | rfl | rfl | rfl | rfl
    · exact ⟨Try.f4, Try.f4.body.getD .skip, Try.func4, by kernel_rfl, rfl⟩
    · exact ⟨Try.f5, Try.f5.body.getD .skip, Try.func5, by kernel_rfl, rfl⟩
    · exact ⟨Try.f7, Try.f7.body.getD .skip, Try.func7, by kernel_rfl, rfl⟩
    · exact ⟨Try.f9, Try.f9.body.getD .skip, Try.func9, by kernel_rfl, rfl⟩
    · exact ⟨Try.f10, Try.f10.body.getD .skip, Try.func10, by kernel_rfl, rfl⟩
    · exact ⟨Try.f11, Try.f11.body.getD .skip, Try.func11, by kernel_rfl, rfl⟩
    · exact ⟨Try.f12, Try.f12.body.getD .skip, Try.func12, by kernel_rfl, rfl⟩
    · exact ⟨Try.f13, Try.f13.body.getD .skip, Try.func13, by kernel_rfl, rfl⟩
    · exact ⟨Try.f14, Try.f14.body.getD .skip, Try.func14, by kernel_rfl, rfl⟩
    · exact ⟨Try.f15, Try.f15.body.getD .skip, Try.func15, by kernel_rfl, rfl⟩
    · exact ⟨Try.f16, Try.f16.body.getD .skip, Try.func16, by kernel_rfl, rfl⟩
    · exact ⟨Try.f18, Try.f18.body.getD .skip, Try.func18, by kernel_rfl, rfl⟩
    · exact ⟨Try.f19, Try.f19.body.getD .skip, Try.func19, by kernel_rfl, rfl⟩
    · exact ⟨Try.f20, Try.f20.body.getD .skip, Try.func20, by kernel_rfl, rfl⟩
    · exact ⟨Try.f21, Try.f21.body.getD .skip, Try.func21, by kernel_rfl, rfl⟩
    · exact ⟨Try.f22, Try.f22.body.getD .skip, Try.func22, by kernel_rfl, rfl⟩
    · exact ⟨Try.f23, Try.f23.body.getD .skip, Try.func23, by kernel_rfl, rfl⟩
    · exact ⟨Try.f24, Try.f24.body.getD .skip, Try.func24, by kernel_rfl, rfl⟩
    · exact ⟨Try.f25, Try.f25.body.getD .skip, Try.func25, by kernel_rfl, rfl⟩
    · exact ⟨Try.f26, Try.f26.body.getD .skip, Try.func26, by kernel_rfl, rfl⟩
    · exact ⟨Try.f27, Try.f27.body.getD .skip, Try.func27, by kernel_rfl, rfl⟩
    · exact ⟨Try.f28, Try.f28.body.getD .skip, Try.func28, by kernel_rfl, rfl⟩
    · exact ⟨Try.f29, Try.f29.body.getD .skip, Try.func29, by kernel_rfl, rfl⟩
    · exact ⟨Try.f35, Try.f35.body.getD .skip, Try.func35, by kernel_rfl, rfl⟩
    · exact ⟨Try.f36, Try.f36.body.getD .skip, Try.func36, by kernel_rfl, rfl⟩
    · exact ⟨Try.f37, Try.f37.body.getD .skip, Try.func37, by kernel_rfl, rfl⟩
    · exact ⟨Try.f38, Try.f38.body.getD .skip, Try.func38, by kernel_rfl, rfl⟩
    · exact ⟨Try.f39, Try.f39.body.getD .skip, Try.func39, by kernel_rfl, rfl⟩
    · exact ⟨Try.f40, Try.f40.body.getD .skip, Try.func40, by kernel_rfl, rfl⟩
    · exact ⟨Try.f59, Try.f59.body.getD .skip, Try.func59, by kernel_rfl, rfl⟩
    · exact ⟨Try.f60, Try.f60.body.getD .skip, Try.func60, by kernel_rfl, rfl⟩
    · exact ⟨Try.f61, Try.f61.body.getD .skip, Try.func61, by kernel_rfl, rfl⟩
    · exact ⟨Try.f62, Try.f62.body.getD .skip, Try.func62, by kernel_rfl, rfl⟩
    · exact ⟨Try.f63, Try.f63.body.getD .skip, Try.func63, by kernel_rfl, rfl⟩
    · exact ⟨Try.f64, Try.f64.body.getD .skip, Try.func64, by kernel_rfl, rfl⟩
    · exact ⟨Try.f65, Try.f65.body.getD .skip, Try.func65, by kernel_rfl, rfl⟩
    · exact ⟨Try.f66, Try.f66.body.getD .skip, Try.func66, by kernel_rfl, rfl⟩
    · exact ⟨Try.f67, Try.f67.body.getD .skip, Try.func67, by kernel_rfl, rfl⟩
    · exact ⟨Try.f68, Try.f68.body.getD .skip, Try.func68, by kernel_rfl, rfl⟩
    · exact ⟨Try.f69, Try.f69.body.getD .skip, Try.func69, by kernel_rfl, rfl⟩
    · exact ⟨Try.f70, Try.f70.body.getD .skip, Try.func70, by kernel_rfl, rfl⟩
    · exact ⟨Try.f71, Try.f71.body.getD .skip, Try.func71, by kernel_rfl, rfl⟩
    · exact ⟨Try.f77, Try.f77.body.getD .skip, Try.func77, by kernel_rfl, rfl⟩
    · exact ⟨Try.f78, Try.f78.body.getD .skip, Try.func78, by kernel_rfl, rfl⟩
    · exact ⟨Try.f79, Try.f79.body.getD .skip, Try.func79, by kernel_rfl, rfl⟩
    · exact ⟨Try.f80, Try.f80.body.getD .skip, Try.func80, by kernel_rfl, rfl⟩
    · exact ⟨Try.f81, Try.f81.body.getD .skip, Try.func81, by kernel_rfl, rfl⟩
    · exact ⟨Try.f82, Try.f82.body.getD .skip, Try.func82, by kernel_rfl, rfl⟩
    · exact ⟨Try.f83, Try.f83.body.getD .skip, Try.func83, by kernel_rfl, rfl⟩
  · have := memFL hf
    simp only [FL, List.mem_cons, List.not_mem_nil, or_false] at this
    rcases this with rfl | rfl | rfl | rfl | rfl | rfl | rfl | rfl | rfl | rfl | rfl | rfl | rfl | rfl | rfl | rfl | rfl | rfl | rfl | rfl | rfl | rfl | rfl | rfl | rfl | rfl | rfl | rfl | rfl | rfl | rfl | rfl | rfl | rfl | rfl | rfl | rfl | rfl | rfl | rfl | rfl | rfl | rfl | rfl | rfl | rfl | rfl | rfl | rfl
    · exact zok4 fn c h1 h2
    · exact zok5 fn c h1 h2
    · exact zok7 fn c h1 h2
    · exact zok9 fn c h1 h2
    · exact zok10 fn c h1 h2
    · exact zok11 fn c h1 h2
    · exact zok12 fn c h1 h2
    · exact zok13 fn c h1 h2
    · exact zok14 fn c h1 h2
    · exact zok15 fn c h1 h2
    · exact zok16 fn c h1 h2
    · exact zok18 fn c h1 h2
    · exact zok19 fn c h1 h2
    · exact zok20 fn c h1 h2
    · exact zok21 fn c h1 h2
    · exact zok22 fn c h1 h2
    · exact zok23 fn c h1 h2
    · exact zok24 fn c h1 h2
    · exact zok25 fn c h1 h2
    · exact zok26 fn c h1 h2
    · exact zok27 fn c h1 h2
    · exact zok28 fn c h1 h2
    · exact zok29 fn c h1 h2
    · exact zok35 fn c h1 h2
    · exact zok36 fn c h1 h2
    · exact zok37 fn c h1 h2
    · exact zok38 fn c h1 h2
    · exact zok39 fn c h1 h2
    · exact zok40 fn c h1 h2
    · exact zok59 fn c h1 h2
    · exact zok60 fn c h1 h2
    · exact zok61 fn c h1 h2
    · exact zok62 fn c h1 h2
    · exact zok63 fn c h1 h2
    · exact zok64 fn c h1 h2
    · exact zok65 fn c h1 h2
    · exact zok66 fn c h1 h2
    · exact zok67 fn c h1 h2
    · exact zok68 fn c h1 h2
    · exact zok69 fn c h1 h2
    · exact zok70 fn c h1 h2
    · exact zok71 fn c h1 h2
    · exact zok77 fn c h1 h2
    · exact zok78 fn c h1 h2
    · exact zok79 fn c h1 h2
    · exact zok80 fn c h1 h2
    · exact zok81 fn c h1 h2
    · exact zok82 fn c h1 h2
    · exact zok83 fn c h1 h2
  · exact late_of (by decide +kernel) g hg
end Go.Proofs.Ytghglpcfpokmhaa
