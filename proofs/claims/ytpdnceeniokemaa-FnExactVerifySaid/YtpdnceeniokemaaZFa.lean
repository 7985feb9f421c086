/-
  From the go statement that starts the first worker to the starter's caller that goes on, beside elder ones that leave: the workers are among them, and the group's cells are not to be touched any more. It names no program.
  The library's WaitGroup under this program's numbers; the type of the payload's cells.
-/
import Derived.Test.YtpdnceeniokemaaZEb
import Derived.Test.YtpdnceeniokemaaZIf
import Derived.Test.YtpdnceeniokemaaProg
import Derived.Conc.WgGenN3
set_option linter.unusedVariables false
set_option linter.unusedSimpArgs false
set_option linter.unusedSectionVars false
namespace Go.Proofs.Ytpdnceeniokemaa.Ct
open Go Go.Conc Go.ConcN
open Go.ConcR (KK wgBlock WgAt stA smA rd wr mk Payload Aside2)
open Go.Proofs.Ytpdnceeniokemaa.Lk (Lkd Wd Lnk nr)
open Go.Proofs.Ytpdnceeniokemaa.Br (Pst Shn low_bound pst_of)
variable [Payload]
variable {P : Program} {F : FuncId → Prop} {ty : TypeId} {Wg C n : Nat} {Own Rd Own1 Rd1 : Nat → Loc → Prop} {Lw : Nat → Nat} {val : Nat → Value} {vals : List Value} {A0 A1 : Goroutine → World → Prop} {Q0 Q1 : Value → World → Prop}

/-- the ghost's start -/
theorem inv_start {AnchW : Goroutine → World → Prop} {Post : Value → World → Prop} {a : Goroutine} {w : World}
    (hsp : Spawns P ty Wg C n Own Rd Lw val (Fin P ty Wg C n Own Rd Lw AnchW) n a w) (hwg : WgAt ty Wg w 0 0) (hpay : PayAt C n w) :
    ∃ μ, Inv P ty Wg C n Own Rd Lw val vals AnchW Post μ (crowd #[a] w none) #[] := by
  have hct : CT (ShN Wg) Own Rd #[] 0 := CT.lone (by simp) (by simp)
  have hcom : Com P ty Wg C n Own Rd Lw val 0 #[a] w #[] (fun _ => ⟨0, 0, 0⟩) 0 :=
    ⟨rfl, fun i hi => by omega, hct, fun i hi => by simp [Trace.act?] at hi, rfl, fun i hi => by omega, fun i hi => by omega, fun i hi => by omega, hpay⟩
  have hmode : ∀ tag, isOpen tag → pend tag = 0 → (∀ vs, tag ≠ .w2 vs) → Go.ConcN.Mode 0 (fun _ => (⟨0, 0, 0⟩ : WD)) tag 0 0 := fun tag h1 h2 h3 => by
    have := Go.ConcN.Mode.opn (j := 0) (D := fun _ => (⟨0, 0, 0⟩ : WD)) h1 (fun i hi => by omega) (fun vs e => absurd e (h3 vs))
    simpa [Vc, sumTo, h2] using this
  cases n with
  | zero =>
    obtain ⟨m, hk⟩ := hsp
    exact ⟨_, #[a], w, none, 0, _, .kd, m, 0, a, 0, 0, rfl, rfl, .kd hk, hcom, hwg, hmode .kd trivial rfl (by simp), by simp, rfl⟩
  | succ r =>
    obtain ⟨m, hk⟩ := hsp
    have hc := CSit.skd (vals := vals) (Post := Post) (Nat.lt_succ_self r) hk
    rw [Nat.sub_self] at hc
    exact ⟨_, #[a], w, none, 0, _, .sp r 5, m, 0, a, 0, 0, rfl, rfl, hc, hcom, hwg, hmode (.sp r 5) trivial rfl (by simp), by simp, rfl⟩

/-- ████ THE PHASE ████ -/
theorem phase (hF : SetOk P F) (hP : Late P) {S : Nat → Prop} (A : Apart (ShN Wg) Own Rd) (A' : Apart (ShN Wg) Own1 Rd1) (hX : Fam (Shn S) Wg Own Rd Own1 Rd1) {Sk : Goroutine → World → Prop} {RdX : Nat → Loc → Prop} (hSk : SkOk P Wg Own1 RdX Sk) (Ge : Geo Wg C Lw) (hn : n < 2147483648)
    (h0 : Ask P ty Wg C n Own Rd Lw vals A0 Q0) (h1 : Ask P ty Wg C n Own1 Rd1 Lw vals A1 Q1) (hl : vals.length = n) (hv : ∀ i, i < n → vals[i]? = some (val i))
    {fr c : Frame} {rest : List Frame} {w : World} (hfr : OkF P F fr) (hgc : GC P w) (hwg : WgAt ty Wg w 0 0) (hpay : PayAt C n w)
    (hs0 : Spawns P ty Wg C n Own Rd Lw val (Fin P ty Wg C n Own Rd Lw A0) n (G fr []) w) (hs1 : Spawns P ty Wg C n Own1 Rd1 Lw val (Fin P ty Wg C n Own1 Rd1 Lw A1) n (G fr [s1 P, s2 P]) w) (hk0 : Sk (G fr []) w)
    {R : Array Goroutine} {sl : Option (Nat × Nat)} {p : Trace} {q : Nat → Nat} (hz : R[0]? = some (G fr (c :: rest))) (hL : Leavers P p R q) (hPs : Pst S 0 p) :
    ∃ N R' w' sl' T' q' v, runNT P N (crowd R w sl) p = (.next (crowd R' w' sl'), T') ∧ R'[0]? = some (G (c.finish v) rest) ∧ Leavers P T' R' q' ∧ Pst (fun b => S b ∨ b = Wg) 0 T' ∧ Q0 v w' := by
  have hpos : 0 < R.size := (Array.getElem?_eq_some_iff.1 hz).1
  obtain ⟨b, hb⟩ : ∃ b, R.size = b + 1 := ⟨R.size - 1, by omega⟩
  obtain ⟨μ, hI0⟩ := inv_start (vals := vals) (Post := Q0) hs0 hwg hpay
  obtain ⟨μ1, hI1⟩ := inv_start (vals := vals) (Post := Q1) hs1 hwg hpay
  have hSim : Sim P F ty Wg C n (Shn S) Sk Own Rd Own1 Rd1 Lw val vals A0 A1 Q0 Q1 b (c :: rest) p q μ (crowd R w sl) p := by
    refine ⟨#[G fr []], #[G fr [s1 P, s2 P]], R, w, sl, none, none, G fr [], #[], μ1, rfl, rfl, ⟨by simp, by simpa using hb, ?_, fun i hi => ?_⟩, ⟨by simp, by simp, rfl, fun i hi => ?_⟩, fun i hi hib => ?_, hI0, hI1, ⟨fun _ => 0, Lnk.init hPs.hears (fun j hj => hL.above j (by omega)) _⟩, fun i x hx => (by simp [touchAt, Trace.act?] at hx), ⟨fun i g hg => (by simp [Trace.g?] at hg), fun k k1 km => (by simp at km; omega)⟩, fun op hop => (by simp at hop), fun _ => hk0, hfr, fun f hf => (by cases hf), ⟨rfl, rfl⟩, hgc⟩
    · rw [hz]; rfl
    · rw [Array.getElem?_eq_none (by omega), Array.getElem?_eq_none (by simp; omega)]
    · rw [Array.getElem?_eq_none (by simp; omega), Array.getElem?_eq_none (by simp; omega)]
    · have hlt : i < R.size := by omega
      exact ⟨R[i], Array.getElem?_eq_getElem hlt, hL.old i _ (by omega) (Array.getElem?_eq_getElem hlt)⟩
  obtain ⟨N, q', R', w', slr', T', hrun, d, sl2, gs, a, t, o, w₂, es, sl0, hst, hR, ha, hend, hG, hLk, hTk, hRt, hGz, hdf, hqu, hfa, hea, hE, hgc'⟩ := sim_run hF hP A A' hX hSk Ge hn h0 h1 hl hv (_, μ) q R w sl p rfl hSim
  obtain ⟨v, rfl, hQ, hcl, hov, _, _⟩ := hG
  have hret := ret_real hF hfa (by rw [← hea]; exact hend)
  have hz' : R'[0]? = some (G a.frame (c :: rest)) := by
    rw [hR.zero, ha]
    rw [hea, hret.1]
    rfl
  have hgo := hret.2 c rest
  have hrunT := runT_crowd_go (P := P) (sl := sl2) (i := 0) (w := w'.at d) hz' hgo
  obtain ⟨f, L⟩ := id hLk
  have hL2 := hLk.events 0 a.frame.fn a.frame.place es
  obtain ⟨f2, L2⟩ := id hL2
  have hsz : R'.size = b + gs.size := hR.size
  have hp' : 0 < R'.size := by have := hR.pos; omega
  have hg0 : ∀ op ∈ MemOp.ofEvents 0 a.frame.fn a.frame.place es, op.g = 0 := fun op hop => by obtain ⟨e, _, rfl⟩ := of_mem hop; rfl
  have nz : nr b 0 = 0 := rfl
  have hex : ∀ i, ∃ qi, ∀ g, 1 ≤ i → R'[i]? = some g → QuitsD P qi (Deaf T' i) g := fun i => by
    by_cases h1 : 1 ≤ i
    · by_cases hib : i ≤ b
      · obtain ⟨g, hg, hqq⟩ := hE i h1 hib
        exact ⟨q' i, fun g' _ hg' => by rw [hg] at hg'; cases hg'; exact hqq⟩
      · obtain ⟨k, rfl⟩ : ∃ k, i = b + (k + 1) := ⟨i - b - 1, by omega⟩
        cases hgk : gs[k + 1]? with
        | none => exact ⟨0, fun g' _ hg' => by rw [hR.wk (k + 1) (by omega), hgk] at hg'; cases hg'⟩
        | some g =>
          obtain ⟨qq, hqq⟩ := hqu k g hgk
          refine ⟨qq, fun g' _ hg' => ?_⟩
          rw [hR.wk (k + 1) (by omega), hgk] at hg'
          cases hg'
          have := L.dfE (k + 1)
          rw [Lk.nr_pos (by omega)] at this
          rw [this]
          exact hqq
    · exact ⟨0, fun g h => absurd h h1⟩
  refine ⟨N + 1, (R'.map (woken P (G a.frame (c :: rest)) (G (c.finish v) rest) w₂)).setIfInBounds 0 (G (c.finish v) rest), w₂, sl2, T' ++ MemOp.ofEvents 0 a.frame.fn a.frame.place es, fun i => (hex i).choose, v, ?_, ?_, ⟨fun i g hi hg => ?_, fun j hj => ?_⟩, ?_, hQ⟩
  · rw [runNT_add, hrun]
    simp only [runNT, hst, hrunT]
    rfl
  · rw [Array.getElem?_setIfInBounds_self_of_lt (by simpa using hp')]
  · rw [Array.getElem?_setIfInBounds_ne (by omega), Array.getElem?_map] at hg
    obtain ⟨y, hy, rfl⟩ := Option.map_eq_some_iff.1 hg
    have hqy := (hex i).choose_spec y (by omega) hy
    rw [woken_quitsD hqy, Deaf_other T' (g := i) (g' := 0) (by omega) _ hg0]
    exact hqy
  · rw [Array.size_setIfInBounds, Array.size_map, hsz] at hj
    rw [Deaf_other T' (g := j) (g' := 0) (by have := hR.pos; omega) _ hg0]
    obtain ⟨k, rfl⟩ : ∃ k, j = b + k := ⟨j - b, by omega⟩
    have hk : k ≠ 0 := by have := hR.pos; omega
    have := L.dfE k
    rw [Lk.nr_pos hk] at this
    rw [this]
    refine Deaf_absent fun i op hi e => ?_
    have := hRt.1 i op.g (by simp [Trace.g?, hi])
    omega
  · obtain ⟨B, hPast⟩ := hPs.past
    obtain ⟨B2, hB2⟩ := low_bound (t ++ MemOp.ofEvents 0 a.frame.fn a.frame.place es)
    have hRt' := hRt.app (u := MemOp.ofEvents 0 a.frame.fn a.frame.place es) fun op hop => by rw [hg0 op hop]; have := hR.pos; omega
    have key : Past (fun l => Shn S l ∨ ShN Wg l) (B + B2) (T' ++ MemOp.ofEvents 0 a.frame.fn a.frame.place es) := by
      refine Lk.past_of (s := t ++ MemOp.ofEvents 0 a.frame.fn a.frame.place es) (f := f2) hPast (Nat.le_add_right _ _) (fun i k hk => ?_) L2 hcl (fun i x hx hm => ?_) hRt'.root (fun i x hx => (hTk i x hx).1) (fun op hop => MemAct.low_mono (Nat.le_add_left _ _) (hB2 op hop)) hov hdf
      · obtain ⟨op, ho, hop⟩ := Option.map_eq_some_iff.1 hk
        exact gz_ev hGz 0 a.frame.fn a.frame.place es op (Array.mem_of_getElem? ho) k hop
      · obtain ⟨op, ho, hox⟩ := touch_of hx
        by_cases hg : op.g = 0
        · have := knows_own ho
          rw [hg] at this
          exact .inl this
        · have hcnt : x.kind ≠ .atomic ∨ (t ++ MemOp.ofEvents 0 a.frame.fn a.frame.place es).heard i → Knows (t ++ MemOp.ofEvents 0 a.frame.fn a.frame.place es) 0 i := fun hc => by
            obtain ⟨j, hj, hb'⟩ := hov i op.g (by simp [Trace.g?, ho]) hg ⟨x, hx, hm, hc⟩
            obtain ⟨y, hy, hyg⟩ := Option.map_eq_some_iff.1 hj
            exact ⟨j, y, hy, hyg, .inr hb'⟩
          by_cases hk : x.kind = .atomic
          · rcases (hTk i x hx).2 hk with h3 | h3 | h3
            · exfalso
              simp [Trace.g?, ho] at h3
              exact hg h3
            · exact .inl (hcnt (.inr h3))
            · exact .inr ⟨h3, hk⟩
          · exact .inl (hcnt (.inl hk))
    have hsub : ∀ l, (Shn S l ∨ ShN Wg l) → Shn (fun b => S b ∨ b = Wg) l := fun l hl => by
      rcases hl with ⟨x, e, hx⟩ | ⟨x, e, hx⟩
      · exact ⟨x, e, .inl hx⟩
      · exact ⟨x, e, .inr hx⟩
    exact ⟨key.clean, fun i x h1 h2 => (key.known i x h1 h2).imp id fun ⟨h3, h4⟩ => ⟨hsub _ h3, h4⟩, key.over, key.hears⟩
end Go.Proofs.Ytpdnceeniokemaa.Ct

set_option linter.unusedVariables false
namespace Go.Proofs.Ytpdnceeniokemaa
open Go Go.Conc
abbrev link : Go.Conc.Lib.WgLink := { add := 77, done := 79, wait := 80, relMerge := 88, disable := 89, enable := 90, inBubble := 91, associate := 92, fatal := 93, uOr := 94, uAdd := 95, raceRead := 96, uLoad := 97, uStore := 98, disassociate := 99, semrelease := 100, acquire := 101, isAssociated := 102, uCas := 103, raceWrite := 104, semacquire := 105, orU64 := 118, addU64 := 119, loadU64 := 120, storeU64 := 121, casU64 := 122, tWgP := 114, tUP := 116, tAssoc := 118, tWg := 106, tAU := 103, tU64 := 101, tUint := 110, tU32 := 104, tPU32 := 122, tPAU := 140, tPU64 := 142, tNoCopy := 98, tANoCopy := 99, tAlign64 := 100 }
theorem wgLib : Go.Conc.Lib.WgLib Try.prog link :=
  ⟨Try.func77, Try.func79, Try.func80, Try.func88, Try.func89, Try.func90, Try.func91, Try.func92, Try.func93, Try.func94, Try.func95, Try.func96, Try.func97, Try.func98, Try.func99, Try.func100, Try.func101, Try.func102, Try.func103, Try.func104, Try.func105, Try.func118, Try.func119, Try.func120, Try.func121, Try.func122, Try.underlying114, Try.runUnderlying114, Try.sizeOf114, Try.isAgg114, Try.zeroValue114, Try.underlying116, Try.runUnderlying116, Try.sizeOf116, Try.isAgg116, Try.zeroValue116, Try.underlying118, Try.runUnderlying118, Try.sizeOf118, Try.isAgg118, Try.zeroValue118, Try.underlying106, Try.runUnderlying106, Try.sizeOf106, Try.isAgg106, Try.zeroValue106, Try.underlying103, Try.runUnderlying103, Try.sizeOf103, Try.isAgg103, Try.zeroValue103, Try.underlying101, Try.runUnderlying101, Try.sizeOf101, Try.isAgg101, Try.zeroValue101, Try.underlying110, Try.runUnderlying110, Try.sizeOf110, Try.isAgg110, Try.zeroValue110, Try.underlying104, Try.runUnderlying104, Try.sizeOf104, Try.isAgg104, Try.zeroValue104, Try.underlying122, Try.runUnderlying122, Try.sizeOf122, Try.isAgg122, Try.zeroValue122, Try.underlying140, Try.runUnderlying140, Try.sizeOf140, Try.isAgg140, Try.zeroValue140, Try.underlying142, Try.runUnderlying142, Try.sizeOf142, Try.isAgg142, Try.zeroValue142, Try.underlying0, Try.runUnderlying0, Try.sizeOf0, Try.isAgg0, Try.zeroValue0, Try.underlying3, Try.runUnderlying3, Try.sizeOf3, Try.isAgg3, Try.zeroValue3, Try.underlying4, Try.runUnderlying4, Try.sizeOf4, Try.isAgg4, Try.zeroValue4, Try.underlying9, Try.runUnderlying9, Try.sizeOf9, Try.isAgg9, Try.zeroValue9, Try.underlying20, Try.runUnderlying20, Try.sizeOf20, Try.isAgg20, Try.zeroValue20, Try.underlying21, Try.runUnderlying21, Try.sizeOf21, Try.isAgg21, Try.zeroValue21, (by kernel_rfl), (by kernel_rfl)⟩
/-- The payload's cells are int64. -/
instance : Go.ConcR.Payload := ⟨2⟩
theorem nm78 : (Try.f78.name == "runtime.NumGoroutine") = false := by kernel_rfl
end Go.Proofs.Ytpdnceeniokemaa
