/-
  How a stop of Done is shown, and one of Add and Wait; what is known of the group there. It names no program; no conditions.
  This program's numbers of the library's WaitGroup; the entries of the model's that Mutex calls; the mutex's word in bits.
  Lock, up to lockSlow's entry: its stops.
-/
import Derived.Test.YtpmmimcafkillaaZXo
import Derived.Conc.WgArith
import Derived.Test.YtpmmimcafkillaaProg
import Derived.Conc.WgGenN3
set_option linter.unusedVariables false
set_option linter.unusedSimpArgs false
namespace Go.Proofs.Ytpmmimcafkillaa.Tr
open Go Go.Conc Go.ConcN
open Go.ConcR (KK wgBlock WgAt stA smA rd wr mk DC0)
open Go.Proofs.Ytpmmimcafkillaa.Mx
section
variable {P : Program} {Y : Lay} {tL tW : TypeId} {Held : List Nat → World → Prop}
variable {Nx : Mx.Th → (Nat → Prop) → List Nat → Goroutine → World → Prop} {k : Nat} {F : Nat → Prop} {lg : List Nat} {g : Goroutine} {w : World} {p : Dp}
theorem dnStop (hrun : g.status = .running) (hoff : g.offers = none) (hw : p = .d4 → mayWake P g = true)
    (hall : ∀ sh, ShAt Y tL tW w sh → LocW (.dn p) sh → ∃ x' sh' g' w' es, TSt (.dn p) sh x' sh' ∧ stepG P false g w = .go g' w' es ∧ ShAt Y tL tW w' sh' ∧ Eff Y false w w' ∧ EvW Y (.dn p) x' es ∧
      (x' = .quit → ∃ q, QuitsD P q 1 g') ∧ (x' ≠ .quit → ∃ m, Goes P false (RF Y tL tW F false) DC0 (Nx x' F lg) m g' w')) : WStp P Y tL tW Held Nx k (.dn p) F lg g w := by
  refine ⟨hrun, hoff, fun hwk => ?_, fun e => (by cases e), fun e => (by cases e), fun sh hsh hloc => ⟨fun hwt => ?_, fun _ l0 _ => ?_⟩⟩
  · rcases hwk with ⟨h, e⟩ | e
    · cases e
    · exact hw (by cases e; rfl)
  · obtain ⟨⟨sv, e⟩, _⟩ := hwt
    cases e
  · obtain ⟨x', sh', g', w', es, st, hs, hsh', heff, hev, hq, hn⟩ := hall sh hsh hloc
    refine ⟨x', sh', g', w', es, st, hs, hsh', heff, hev, ?_⟩
    unfold AfterW
    by_cases e : x' = .quit
    · rw [if_pos e]; exact hq e
    · rw [if_neg e]
      have ht : tokT x' = false := by cases st <;> first | rfl | exact absurd rfl e
      obtain ⟨m, h⟩ := hn e
      rw [show isMk (.dn p) = false from rfl, addB_false, if_neg (by simp), ht]
      exact ⟨m, goes_dc0 (fun w => .idle w) h⟩
variable {n : Nat} {Fin : (Nat → Prop) → Goroutine → World → Prop} {Ns : Sp → (Nat → Prop) → Goroutine → World → Prop} {sp : Sp}
theorem spStop (hrun : g.status = .running) (hoff : g.offers = none) (h1 : ∀ r, sp ≠ .go r) (h2 : sp ≠ .aq) (h3 : sp ≠ .w3) (h4 : sp ≠ .fin) (h5 : isBx sp = false)
    (hall : ∀ sh, ShAt Y tL tW w sh → LocS sp sh → ∃ sp' sh' g' w' es, SSt sp sh sp' sh' ∧ stepG P true g w = .go g' w' es ∧ ShAt Y tL tW w' sh' ∧ Eff Y false w w' ∧ EvS Y sp sp' es ∧ ∃ m, GoS P Y tL tW F (Ns sp' F) m g' w') : SStp P Y tL tW Held n Fin Ns sp F g w := by
  refine ⟨hrun, hoff, fun sh hsh hloc => ?_⟩
  obtain ⟨sp', sh', g', w', es, st, hs, hsh', heff, hev, m, h⟩ := hall sh hsh hloc
  have hgo : ∃ m, GoS P Y tL tW (addB F (isBx sp) w.heap.size) (Ns sp' (addB F (isBx sp) w.heap.size)) m g' w' := by
    rw [h5, addB_false]
    exact ⟨m, h⟩
  rw [← h5] at heff
  cases sp with
  | go r => exact absurd rfl (h1 r)
  | aq => exact absurd rfl h2
  | w3 => exact absurd rfl h3
  | fin => exact absurd rfl h4
  | bx r => cases h5
  | ad r => exact ⟨sp', sh', g', w', es, st, hs, hsh', heff, hev, hgo⟩
  | aa r => exact ⟨sp', sh', g', w', es, st, hs, hsh', heff, hev, hgo⟩
  | ae r => exact ⟨sp', sh', g', w', es, st, hs, hsh', heff, hev, hgo⟩
  | kd => exact ⟨sp', sh', g', w', es, st, hs, hsh', heff, hev, hgo⟩
  | w1 => exact ⟨sp', sh', g', w', es, st, hs, hsh', heff, hev, hgo⟩
  | w2 old => exact ⟨sp', sh', g', w', es, st, hs, hsh', heff, hev, hgo⟩
  | w4 => exact ⟨sp', sh', g', w', es, st, hs, hsh', heff, hev, hgo⟩
  | ke => exact ⟨sp', sh', g', w', es, st, hs, hsh', heff, hev, hgo⟩
/-- the semaphore of Wait -/
theorem w3Stop (hrun : g.status = .running) (hoff : g.offers = none)
    (hall : ∀ sh, ShAt Y tL tW w sh → LocS .w3 sh → (sh.ws = 0 → stepG P true g w = .go { g with status := .blocked } w #[]) ∧
      ∀ s', sh.ws = s' + 1 → ∃ g' w' es, stepG P true g w = .go g' w' es ∧ ShAt Y tL tW w' { sh with ws := s' } ∧ Eff Y false w w' ∧ Book Y.Wb 1 1 es ∧ ∃ m, GoS P Y tL tW F (Ns .w4 F) m g' w') : SStp P Y tL tW Held n Fin Ns .w3 F g w := by
  refine ⟨hrun, hoff, fun sh hsh hloc => ⟨(hall sh hsh hloc).1, fun hne => ?_⟩⟩
  obtain ⟨g', w', es, hs, hsh', heff, hev, m, h⟩ := (hall sh hsh hloc).2 (sh.ws - 1) (by omega)
  exact ⟨g', w', es, hs, hsh', heff, hev, m, h⟩
/-- what a starter says of the group's cell to the race detector -/
theorem df_read (v : World) (off : Nat) : DF Y 0 F false false v v #[⟨.mark (.read ⟨Y.Wg, off, none⟩), false, true⟩] := by
  refine ⟨rfl, rfl, rfl, rfl, fun _ _ _ => rfl, fun e he => ?_, fun e => (by cases e)⟩
  rw [Array.mem_singleton] at he
  subst he
  refine ⟨fun fn pos o _ => ⟨rfl, ⟨(by simp [MemAct.ofEvent]), (by simp [MemAct.ofEvent])⟩, fun x hx => ?_⟩, by simp, by simp⟩
  simp only [MemAct.ofEvent, MemAct.touch?, Option.some.injEq] at hx
  subst hx
  exact .inl ⟨⟨_, rfl, .inl rfl⟩, by simp, fun _ => rfl⟩
theorem df_write (v : World) (off : Nat) : DF Y 0 F false false v v #[⟨.mark (.write ⟨Y.Wg, off, none⟩), false, true⟩] := by
  refine ⟨rfl, rfl, rfl, rfl, fun _ _ _ => rfl, fun e he => ?_, fun e => (by cases e)⟩
  rw [Array.mem_singleton] at he
  subst he
  refine ⟨fun fn pos o _ => ⟨rfl, ⟨(by simp [MemAct.ofEvent]), (by simp [MemAct.ofEvent])⟩, fun x hx => ?_⟩, by simp, by simp⟩
  simp only [MemAct.ofEvent, MemAct.touch?, Option.some.injEq] at hx
  subst hx
  exact .inl ⟨⟨_, rfl, .inl rfl⟩, by simp, fun _ => rfl⟩
end
/-! what is known of the group -/
theorem sumf_len (f : Mx.Th → Nat) (h : ∀ x, f x ≤ 1) (l : List Mx.Th) : sumf f l ≤ l.length := by
  induction l with
  | nil => simp [sumf]
  | cons x l ih => rw [sumf_cons, List.length_cons]; have := h x; omega
theorem live_le (x : Mx.Th) : live x ≤ 1 := by
  cases x with
  | dn p => cases p <;> simp [live]
  | _ => simp [live]
section
variable {x : Mx.Th} {sh : Shr} {sp : Sp}
theorem LocW.cwt (h : LocW x sh) : sh.c ≤ 301 ∧ sh.wt ≤ 1 ∧ sh.ws ≤ 1 := by
  obtain ⟨sp, ths, i, hc, hi, hn, _⟩ := h
  have a := sumf_len live live_le ths
  have b := hc.cnt
  have c : Mx.pend sp ≤ 1 := by cases sp <;> simp [Mx.pend]
  refine ⟨by omega, ?_⟩
  by_cases e : sp = .w3
  · have := hc.wait e; omega
  · have := hc.none e; omega
theorem LocW.d1 (h : LocW (.dn .d1) sh) : 1 ≤ sh.c := by
  obtain ⟨sp, ths, i, hc, hi, hn, _⟩ := h
  have a := sumf_ge live ths i _ hi
  have b := hc.cnt
  simp only [live] at a
  omega
theorem LocW.d23 (h : LocW x sh) (hx : n23 x = 1) : sh.c = 0 ∧ sh.wt = 1 := by
  obtain ⟨sp, ths, i, hc, hi, hn, _⟩ := h
  have a := sumf_ge n23 ths i _ hi
  have b := hc.cnt
  by_cases e : sp = .w3
  · have := hc.wait e
    subst e
    simp only [Mx.pend] at b
    omega
  · have := hc.none e; omega
theorem LocW.d4 (h : LocW (.dn .d4) sh) : sh.ws = 0 := by
  obtain ⟨sp, ths, i, hc, hi, hn, _⟩ := h
  have a := sumf_ge n4 ths i _ hi
  simp only [n4] at a
  by_cases e : sp = .w3
  · have := hc.wait e; omega
  · have := hc.none e; omega
theorem LocS.cwt (h : LocS sp sh) : sh.c ≤ 301 ∧ sh.wt ≤ 1 ∧ sh.ws ≤ 1 := by
  obtain ⟨ths, hc, hn, _⟩ := h
  have a := sumf_len live live_le ths
  have b := hc.cnt
  have c : Mx.pend sp ≤ 1 := by cases sp <;> simp [Mx.pend]
  refine ⟨by omega, ?_⟩
  by_cases e : sp = .w3
  · have := hc.wait e; omega
  · have := hc.none e; omega
theorem LocS.free (h : LocS sp sh) (e : sp ≠ .w3) : sh.wt = 0 ∧ sh.ws = 0 := by
  obtain ⟨ths, hc, hn, _⟩ := h
  have := hc.none e
  omega
theorem LocS.done (h : LocS sp sh) (e : sp = .w4 ∨ sp = .ke ∨ sp = .aq ∨ sp = .fin) : sh.c = 0 := by
  obtain ⟨ths, hc, hn, _⟩ := h
  have a := hc.cnt
  have b := hc.done e
  rcases e with rfl | rfl | rfl | rfl <;> (simp only [Mx.pend] at a; omega)
theorem LocS.w2 {old : Nat} (h : LocS (.w2 old) sh) : old ≠ 0 := by
  obtain ⟨ths, hc, hn, _⟩ := h
  exact hc.w2p old rfl
end
section
variable {Y : Lay} {tL tW : TypeId} {w : World} {sh : Shr}
theorem ShAt.setSt (h : ShAt Y tL tW w sh) (c wt : Nat) : ShAt Y tL tW (w.setCell (stA Y.Wg) (.int .u64 ((c : Int) * KK + (wt : Int)))) { sh with c := c, wt := wt } :=
  ⟨((aside_setCell w _ _).block _ (fun e => Y.lw (by simpa [stA] using e))).trans h.1, h.2.setSt _⟩
theorem ShAt.setSm (h : ShAt Y tL tW w sh) (ws : Nat) : ShAt Y tL tW (w.setCell (smA Y.Wg) (.int .u32 (ws : Int))) { sh with ws := ws } :=
  ⟨((aside_setCell w _ _).block _ (fun e => Y.lw (by simpa [smA] using e))).trans h.1, h.2.setSm _⟩
theorem wb (off : Nat) : Y.Wb ⟨Y.Wg, off, none⟩ := rfl
/-- the state, one less -/
theorem st_dec (c wt : Nat) (h1 : 1 ≤ c) (h2 : c ≤ 301) (h3 : wt ≤ 1) : IntKind.u64.wrap ((c : Int) * KK + (wt : Int) + 18446744069414584320) = ((c - 1 : Nat) : Int) * KK + (wt : Int) := by
  rw [IntKind.wrap_u64]; simp only [KK]; omega
/-- one more -/
theorem st_inc (c wt : Nat) (h2 : c ≤ 301) (h3 : wt ≤ 1) : IntKind.u64.wrap ((c : Int) * KK + (wt : Int) + 4294967296) = ((c + 1 : Nat) : Int) * KK + (wt : Int) := by
  rw [IntKind.wrap_u64]; simp only [KK]; omega
/-- its parts -/
theorem st_parts (c wt : Nat) (h2 : c ≤ 302) (h3 : wt ≤ 1) : ((c : Int) * KK + (wt : Int)) / 4294967296 = (c : Int) ∧ (0 ≤ (c : Int) * KK + (wt : Int) ∧ (c : Int) * KK + (wt : Int) < 9223372036854775808) ∧
    bits .and .u64 ((c : Int) * KK + (wt : Int)) 2147483648 = 0 ∧ bits .and .u64 ((c : Int) * KK + (wt : Int)) 2147483647 = (wt : Int) :=
  ⟨by simp only [KK]; omega, by simp only [KK]; omega, st_flag c wt (by omega) h3, st_waiters c wt (by omega) h3⟩
end
end Go.Proofs.Ytpmmimcafkillaa.Tr

set_option linter.unusedVariables false
namespace Go.Proofs.Ytpmmimcafkillaa
open Go Go.Conc
abbrev link : Go.Conc.Lib.WgLink := { add := 58, done := 60, wait := 63, relMerge := 70, disable := 71, enable := 72, inBubble := 73, associate := 74, fatal := 75, uOr := 76, uAdd := 77, raceRead := 78, uLoad := 79, uStore := 80, disassociate := 81, semrelease := 82, acquire := 86, isAssociated := 87, uCas := 88, raceWrite := 89, semacquire := 90, orU64 := 92, addU64 := 93, loadU64 := 94, storeU64 := 95, casU64 := 99, tWgP := 106, tUP := 108, tAssoc := 110, tWg := 99, tAU := 97, tU64 := 95, tUint := 104, tU32 := 82, tPU32 := 114, tPAU := 124, tPU64 := 126, tNoCopy := 81, tANoCopy := 87, tAlign64 := 88 }
theorem wgLib : Go.Conc.Lib.WgLib Try.prog link :=
  ⟨Try.func58, Try.func60, Try.func63, Try.func70, Try.func71, Try.func72, Try.func73, Try.func74, Try.func75, Try.func76, Try.func77, Try.func78, Try.func79, Try.func80, Try.func81, Try.func82, Try.func86, Try.func87, Try.func88, Try.func89, Try.func90, Try.func92, Try.func93, Try.func94, Try.func95, Try.func99, Try.underlying106, Try.runUnderlying106, Try.sizeOf106, Try.isAgg106, Try.zeroValue106, Try.underlying108, Try.runUnderlying108, Try.sizeOf108, Try.isAgg108, Try.zeroValue108, Try.underlying110, Try.runUnderlying110, Try.sizeOf110, Try.isAgg110, Try.zeroValue110, Try.underlying99, Try.runUnderlying99, Try.sizeOf99, Try.isAgg99, Try.zeroValue99, Try.underlying97, Try.runUnderlying97, Try.sizeOf97, Try.isAgg97, Try.zeroValue97, Try.underlying95, Try.runUnderlying95, Try.sizeOf95, Try.isAgg95, Try.zeroValue95, Try.underlying104, Try.runUnderlying104, Try.sizeOf104, Try.isAgg104, Try.zeroValue104, Try.underlying82, Try.runUnderlying82, Try.sizeOf82, Try.isAgg82, Try.zeroValue82, Try.underlying114, Try.runUnderlying114, Try.sizeOf114, Try.isAgg114, Try.zeroValue114, Try.underlying124, Try.runUnderlying124, Try.sizeOf124, Try.isAgg124, Try.zeroValue124, Try.underlying126, Try.runUnderlying126, Try.sizeOf126, Try.isAgg126, Try.zeroValue126, Try.underlying0, Try.runUnderlying0, Try.sizeOf0, Try.isAgg0, Try.zeroValue0, Try.underlying3, Try.runUnderlying3, Try.sizeOf3, Try.isAgg3, Try.zeroValue3, Try.underlying4, Try.runUnderlying4, Try.sizeOf4, Try.isAgg4, Try.zeroValue4, Try.underlying9, Try.runUnderlying9, Try.sizeOf9, Try.isAgg9, Try.zeroValue9, Try.underlying20, Try.runUnderlying20, Try.sizeOf20, Try.isAgg20, Try.zeroValue20, Try.underlying21, Try.runUnderlying21, Try.sizeOf21, Try.isAgg21, Try.zeroValue21, (by kernel_rfl), (by kernel_rfl)⟩
instance : Go.ConcR.Payload := ⟨2⟩
theorem nm42 : (Try.f42.name == "runtime.NumGoroutine") = false := by kernel_rfl
theorem nm60 : (Try.f60.name == "runtime.NumGoroutine") = false := by kernel_rfl
theorem nm61 : (Try.f61.name == "runtime.NumGoroutine") = false := by kernel_rfl
theorem nm62 : (Try.f62.name == "runtime.NumGoroutine") = false := by kernel_rfl
theorem nm58 : (Try.f58.name == "runtime.NumGoroutine") = false := by kernel_rfl
theorem nm64 : (Try.f64.name == "runtime.NumGoroutine") = false := by kernel_rfl
theorem nm83 : (Try.f83.name == "runtime.NumGoroutine") = false := by kernel_rfl
theorem nm84 : (Try.f84.name == "runtime.NumGoroutine") = false := by kernel_rfl
theorem nm85 : (Try.f85.name == "runtime.NumGoroutine") = false := by kernel_rfl
theorem nm91 : (Try.f91.name == "runtime.NumGoroutine") = false := by kernel_rfl
theorem nm97 : (Try.f97.name == "runtime.NumGoroutine") = false := by kernel_rfl
theorem nm98 : (Try.f98.name == "runtime.NumGoroutine") = false := by kernel_rfl
theorem nm102 : (Try.f102.name == "runtime.NumGoroutine") = false := by kernel_rfl
theorem nm104 : (Try.f104.name == "runtime.NumGoroutine") = false := by kernel_rfl
theorem nm66 : (Try.f66.name == "runtime.NumGoroutine") = false := by kernel_rfl
theorem nm43 : (Try.f43.name == "runtime.NumGoroutine") = false := by kernel_rfl
theorem nm45 : (Try.f45.name == "runtime.NumGoroutine") = false := by kernel_rfl
theorem nm46 : (Try.f46.name == "runtime.NumGoroutine") = false := by kernel_rfl
theorem nm65 : (Try.f65.name == "runtime.NumGoroutine") = false := by kernel_rfl
theorem nm41 : (Try.f41.name == "runtime.NumGoroutine") = false := by kernel_rfl
theorem x101_n : (Try.f101.name == "runtime.NumGoroutine") = false := by kernel_rfl
theorem x101_b : Try.f101.body.isNone = true := by kernel_rfl
theorem x101_x : Extern.findNext Try.f101 = none := by kernel_rfl
theorem x101_f : Extern.find Try.f101 = some (Extern.Atomic.casT (.int .i32)) := by kernel_rfl
theorem x103_n : (Try.f103.name == "runtime.NumGoroutine") = false := by kernel_rfl
theorem x103_b : Try.f103.body.isNone = true := by kernel_rfl
theorem x103_x : Extern.findNext Try.f103 = none := by kernel_rfl
theorem x103_f : Extern.find Try.f103 = some (Extern.Atomic.update (Op.intArith .add) .i32 true) := by kernel_rfl
theorem x105_n : (Try.f105.name == "runtime.NumGoroutine") = false := by kernel_rfl
theorem x105_b : Try.f105.body.isNone = true := by kernel_rfl
theorem x105_x : Extern.findNext Try.f105 = none := by kernel_rfl
theorem x105_f : Extern.find Try.f105 = some (Extern.Sync.canSpin) := by kernel_rfl
theorem x106_n : (Try.f106.name == "runtime.NumGoroutine") = false := by kernel_rfl
theorem x106_b : Try.f106.body.isNone = true := by kernel_rfl
theorem x106_x : Extern.findNext Try.f106 = none := by kernel_rfl
theorem x106_f : Extern.find Try.f106 = some (fun _ => pure (.tuple #[])) := by kernel_rfl
theorem x108_n : (Try.f108.name == "runtime.NumGoroutine") = false := by kernel_rfl
theorem x108_b : Try.f108.body.isNone = true := by kernel_rfl
theorem x108_x : Extern.findNext Try.f108 = none := by kernel_rfl
theorem x108_f : Extern.find Try.f108 = some (Extern.OsHooks.nano) := by kernel_rfl
theorem x109_n : (Try.f109.name == "runtime.NumGoroutine") = false := by kernel_rfl
theorem x109_b : Try.f109.body.isNone = true := by kernel_rfl
theorem x109_x : Extern.findNext Try.f109 = none := by kernel_rfl
theorem x109_f : Extern.find Try.f109 = some (Extern.Sync.semacquire) := by kernel_rfl
theorem x111_n : (Try.f111.name == "runtime.NumGoroutine") = false := by kernel_rfl
theorem x111_b : Try.f111.body.isNone = true := by kernel_rfl
theorem x111_x : Extern.findNext Try.f111 = none := by kernel_rfl
theorem x111_f : Extern.find Try.f111 = some (Extern.Sync.semrelease) := by kernel_rfl
theorem x96_n : (Try.f96.name == "runtime.NumGoroutine") = false := by kernel_rfl
theorem x96_b : Try.f96.body.isNone = true := by kernel_rfl
theorem x96_x : Extern.findNext Try.f96 = none := by kernel_rfl
theorem x96_f : Extern.find Try.f96 = some (Extern.Atomic.update (Op.intArith .add) .i64 true) := by kernel_rfl
theorem x108_q : Try.f108.norace = true := by kernel_rfl
theorem q98 : (Try.prog.funcs[(base 98).fn]?).any (·.norace) = true := by kernel_rfl
theorem q102 : (Try.prog.funcs[(base 102).fn]?).any (·.norace) = true := by kernel_rfl
theorem q104 : (Try.prog.funcs[(base 104).fn]?).any (·.norace) = true := by kernel_rfl
theorem u135 : Try.prog.underlying 135 = some (.pointer 84) := by kernel_rfl
theorem z84 : (Try.prog.info? 84).map (fun i => decide (i.size = 0)) = some false := by kernel_rfl

section
variable {main : Bool} {b : Frame} {a : Act} {kk : List Item} {cs : List Frame} {w : World} {ops : Array Oper} {i : Nat} {rest : List Nat} {o : Oper}
/-- a plain load of an int32 in a function that is 'norace': nothing reaches the trace -/
theorem stepG_loadQ {x : Operand} (ho : ops[i]? = some o) (hw : Region.wanted o (yielded ops a.tmps) = true) (hk : b.kind ≠ .early) (hop : o.op = .load 21 x)
    {ad : Addr} {v : Int} (hx : a.eval x = .pointer (some ad)) (hc : w.cell? ad = some (.int .i32 v)) (hq : (Try.prog.funcs[b.fn]?).any (·.norace) = true) :
    stepG Try.prog main (G (b.at a (.inRegion ops (i :: rest) :: kk)) cs) w = .go (G (b.at (a.put o.dst (.int .i32 v)) (.inRegion ops rest :: kk)) cs) w #[] := by
  have hr : (execOp a.eval o).run Try.prog w = .ok (.value (.int .i32 v)) w := by
    unfold execOp
    simp only [hop, hx]
    simp [go_sem, hc]
  have he : (execOp a.eval o).events Try.prog w #[] = #[⟨.cell ad, false, false⟩] := by
    unfold execOp
    simp only [hop, hx]
    simp [go_sem, hc]
  rw [stepG_value ho hw hk hr]
  unfold listed
  rw [he, seen_def, hq]
  simp [seenStep]
end

/-! the word in bits -/
namespace Tr
/-- r: the three low bits; W: how many wait -/
def vv (r W : Nat) : Int := 8 * (W : Int) + (r : Int)
theorem toNat_vv {r W : Nat} (hr : r < 8) (hW : W < 1000000) : (BitVec.ofInt 32 (vv r W)).toNat = 8 * W + r := by
  simp only [vv, BitVec.toNat_ofInt]
  omega
theorem toNat_c {c : Nat} (hc : c < 8) : (BitVec.ofInt 32 (c : Int)).toNat = c := by
  simp only [BitVec.toNat_ofInt]
  omega
theorem nat_and {r W c : Nat} (hr : r < 8) (hc : c < 8) : (8 * W + r) &&& c = r &&& c := by
  apply Nat.eq_of_testBit_eq
  intro i
  rw [Nat.testBit_and, Nat.testBit_and, show 8 * W + r = 2 ^ 3 * W + r from rfl, Nat.testBit_two_pow_mul_add W (show r < 2 ^ 3 from hr) i]
  split
  · rfl
  · have : c.testBit i = false := Nat.testBit_lt_two_pow (Nat.lt_of_lt_of_le (show c < 2 ^ 3 from hc) (Nat.pow_le_pow_right (by omega) (by omega)))
    simp [this]
theorem nat_or {r W c : Nat} (hr : r < 8) (hc : c < 8) : (8 * W + r) ||| c = 8 * W + (r ||| c) := by
  have h8 : r ||| c < 2 ^ 3 := Nat.or_lt_two_pow hr hc
  apply Nat.eq_of_testBit_eq
  intro i
  rw [Nat.testBit_or, show 8 * W + r = 2 ^ 3 * W + r from rfl, show 8 * W + (r ||| c) = 2 ^ 3 * W + (r ||| c) from rfl, Nat.testBit_two_pow_mul_add W (show r < 2 ^ 3 from hr) i, Nat.testBit_two_pow_mul_add W h8 i]
  split
  · rw [Nat.testBit_or]
  · have : c.testBit i = false := Nat.testBit_lt_two_pow (Nat.lt_of_lt_of_le (show c < 2 ^ 3 from hc) (Nat.pow_le_pow_right (by omega) (by omega)))
    simp [this]
theorem and_vv {r W c v : Nat} (hr : r < 8) (hW : W < 1000000) (hc : c < 8) (hv : r &&& c = v) : bits .and .i32 (vv r W) (c : Int) = (v : Int) := by
  have h : bits .and .i32 (vv r W) (c : Int) = IntKind.i32.wrap ((BitVec.ofInt 32 (vv r W) &&& BitVec.ofInt 32 (c : Int)).toNat : Int) := rfl
  have h7 : r &&& c ≤ c := Nat.and_le_right
  rw [h, BitVec.toNat_and, toNat_vv hr hW, toNat_c hc, nat_and hr hc, IntKind.wrap_i32]
  omega
theorem or_vv {r W c v : Nat} (hr : r < 8) (hW : W < 1000000) (hc : c < 8) (hv : r ||| c = v) : bits .or .i32 (vv r W) (c : Int) = vv v W := by
  have h : bits .or .i32 (vv r W) (c : Int) = IntKind.i32.wrap ((BitVec.ofInt 32 (vv r W) ||| BitVec.ofInt 32 (c : Int)).toNat : Int) := rfl
  have h8 : r ||| c < 2 ^ 3 := Nat.or_lt_two_pow hr hc
  rw [h, BitVec.toNat_or, toNat_vv hr hW, toNat_c hc, nat_or hr hc, IntKind.wrap_i32, vv]
  omega
end Tr
end Go.Proofs.Ytpmmimcafkillaa

set_option linter.unusedVariables false
set_option linter.unusedSimpArgs false
namespace Go.Proofs.Ytpmmimcafkillaa.Tr
open Go Go.Conc Go.ConcN Go.RowKit Go.Conc.Lib Go.ConcR.Gen Go.ConcM
open Go.ConcR (KK wgBlock WgAt stA smA rd wr mk DC0)
open Go.Proofs.Ytpmmimcafkillaa.Mx
open Go.Proofs.Ytpmmimcafkillaa.Mx (Mu St)

section
variable {P : Program} {Y : Lay} {tL tW : TypeId} {Held : List Nat → World → Prop}
variable {Nx : Mx.Th → (Nat → Prop) → List Nat → Goroutine → World → Prop} {s : Bool} {k : Nat} {F : Nat → Prop} {lg : List Nat} {g : Goroutine} {w : World} {xc : Mx.Th}
/-- 'acquire' of the lock -/
theorem laStop (hrun : g.status = .running) (hoff : g.offers = none) (hxc : ∀ sh, TSt (kx s .la) sh xc sh) (hq : xc ≠ .quit) (hmu : muteT xc = false)
    (hall : ∀ l0, Held l0 w → ∃ g', stepG P false g w = .go g' w #[mk (.acquire Y.lk)] ∧ ∃ m, Goes P false (RF Y tL tW F true) (DF Y (Y.b + 1 + k) F true false) (Nx xc F l0) m g' w) : WStp P Y tL tW Held Nx k (kx s .la) F lg g w := by
  have hla : kx s .la = .k1 .la ∨ kx s .la = .k2 .la := by cases s; exact .inl rfl; exact .inr rfl
  refine ⟨hrun, hoff, fun hwk => ?_, fun e => (by have := kx_k1 e; cases this), fun e => (by have := kx_k2 e; cases this), fun sh hsh hloc => ⟨fun hwt => ?_, fun _ l0 hl => ?_⟩⟩
  · rcases hwk with ⟨h, e⟩ | e
    · rw [lkOf_kx] at e; cases e
    · cases s <;> cases e
  · obtain ⟨⟨sv, e⟩, _⟩ := hwt
    rw [lkOf_kx] at e
    cases e
  · obtain ⟨g', hs, m, hgo⟩ := hall l0 (hl hla)
    refine ⟨_, _, g', w, _, hxc sh, hs, hsh, by rw [isMk_kx]; exact eff_refl w, by cases s <;> rfl, ?_⟩
    unfold AfterW
    rw [if_neg hq, isMk_kx, addB_false, if_pos hla, (tst_la (hxc sh) hla).1, hmu]
    exact ⟨m, hgo⟩
/-- its 'release and merge' -/
theorem csStop (hrun : g.status = .running) (hoff : g.offers = none) (h1 : s = false → Held lg w) (h2 : s = true → Held (lg ++ [k]) w)
    (hall : ∃ g', stepG P false g w = .go g' w #[mk (.releaseMerge Y.lk)] ∧ ∃ m, Goes P false (RF Y tL tW F false) DC0 (Nx (kx s .ud) F lg) m g' w) : WStp P Y tL tW Held Nx k (kx s .cs) F lg g w := by
  refine ⟨hrun, hoff, fun hwk => ?_, fun e => ?_, fun e => ?_, fun sh hsh hloc => ⟨fun hwt => ?_, fun _ l0 hl => ?_⟩⟩
  · rcases hwk with ⟨h, e⟩ | e
    · rw [lkOf_kx] at e; cases e
    · cases s <;> cases e
  · cases s
    · exact h1 rfl
    · cases e
  · cases s
    · cases e
    · exact h2 rfl
  · obtain ⟨⟨sv, e⟩, _⟩ := hwt
    rw [lkOf_kx] at e
    cases e
  · obtain ⟨g', hs, m, hgo⟩ := hall
    have st : TSt (kx s .cs) sh (kx s .ud) sh := by
      cases s
      · exact .lk1 .cs (by simp) (by simp)
      · exact .lk2 .cs (by simp)
    refine ⟨_, _, g', w, _, st, hs, hsh, by rw [isMk_kx]; exact eff_refl w, by cases s <;> rfl, ?_⟩
    unfold AfterW
    have hn : ¬ (kx s .cs = .k1 .la ∨ kx s .cs = .k2 .la) := fun e => e.elim (fun e => by have := kx_k1 e; cases this) (fun e => by have := kx_k2 e; cases this)
    rw [if_neg (kx_ne s _), isMk_kx, addB_false, if_neg hn, mute_kx, show tokT (kx s .ud) = false by cases s <;> rfl]
    exact ⟨m, goes_dc0 (fun w => .idle w) hgo⟩
/-- Unlock's last -/
theorem ueStop {xe : Mx.Th} (hrun : g.status = .running) (hoff : g.offers = none) (hxe : ∀ sh, TSt (kx s .ue) sh xe sh) (hq : xe ≠ .quit) (hmu : muteT xe = false) (ht : tokT xe = false) (hd : deafT xe = 0)
    (hall : ∃ g', stepG P false g w = .go g' w #[mk .enable] ∧ ∃ m, Goes P false (RF Y tL tW F false) (DF Y (Y.b + 1 + k) F false false) (Nx xe F lg) m g' w) : WStp P Y tL tW Held Nx k (kx s .ue) F lg g w := by
  refine ⟨hrun, hoff, fun hwk => ?_, fun e => (by have := kx_k1 e; cases this), fun e => (by have := kx_k2 e; cases this), fun sh hsh hloc => ⟨fun hwt => ?_, fun _ l0 hl => ?_⟩⟩
  · rcases hwk with ⟨h, e⟩ | e
    · rw [lkOf_kx] at e; cases e
    · cases s <;> cases e
  · obtain ⟨⟨sv, e⟩, _⟩ := hwt
    rw [lkOf_kx] at e
    cases e
  · obtain ⟨g', hs, m, hgo⟩ := hall
    refine ⟨_, _, g', w, _, hxe sh, hs, hsh, by rw [isMk_kx]; exact eff_refl w, evW_kx (by simp) (by simp) (by rw [show dq xe = 0 by simp [dq, hq, hd]]; exact book_en 0), ?_⟩
    unfold AfterW
    have hn : ¬ (kx s .ue = .k1 .la ∨ kx s .ue = .k2 .la) := fun e => e.elim (fun e => by have := kx_k1 e; cases this) (fun e => by have := kx_k2 e; cases this)
    rw [if_neg hq, isMk_kx, addB_false, if_neg hn, hmu, ht]
    exact ⟨m, hgo⟩
end

noncomputable def body84 : Code := Try.f84.body.getD .skip
noncomputable def body102 : Code := Try.f102.body.getD .skip
section
variable {Y : Lay} {Held : List Nat → World → Prop} {F : Nat → Prop} {Kn : World → Prop} {s : Bool} {k : Nat} {lg : List Nat} {xc : Mx.Th}
abbrev GL (Y : Lay) (Held : List Nat → World → Prop) (s : Bool) (k : Nat) (F : Nat → Prop) (lg : List Nat) (d : Nat) (l : Mx.Lk) (n : Nat) (g : Goroutine) (w : World) : Prop :=
  Goes Try.prog false (RF Y 92 99 F false) DC0 (AtW Try.prog Y 92 99 Held d k (kx s l) F lg) n g w
abbrev GO (Y : Lay) (Held : List Nat → World → Prop) (k : Nat) (F : Nat → Prop) (l0 : List Nat) (d : Nat) (x : Mx.Th) (n : Nat) (g : Goroutine) (w : World) : Prop :=
  Goes Try.prog false (RF Y 92 99 F true) (DF Y (Y.b + 1 + k) F true false) (AtW Try.prog Y 92 99 Held d k x F l0) n g w
/-- who owns knows what is guarded -/
structure KnO (Held : List Nat → World → Prop) (Kn : World → Prop) (l0 : List Nat) (w : World) : Prop where
  kn : Kn w
  held : Held l0 w
theorem KnO.rl (K : KnL Y 92 99 F Kn) (hH : ∀ l (v v' : World), v'.heap[Y.Mp]? = v.heap[Y.Mp]? → Held l v → Held l v') {l0 : List Nat} {w w₁ : World} (h : KnO Held Kn l0 w) (r : RF Y 92 99 F true w w₁) : KnO Held Kn l0 w₁ :=
  ⟨K.rl' h.kn r, hH _ _ _ (r.keep rfl) h.held⟩
theorem val0 {m : Mu} (h : m ≠ Mu.free) : m.val ≠ 0 := fun e => h (Mu.val_inj (a := m) (b := Mu.free) (by rw [e]; rfl))
variable {b₀ : Frame} {a₀ : Act} {ops₀ : Array Oper} {i₀ : Nat} {rest₀ : List Nat} {k₀ : List Item} {cs : List Frame}
/-- lockSlow's frame at its entry, and who called it -/
noncomputable def slowFr (cs : List Frame) (Y : Lay) : Goroutine := G ((base 102).at ⟨#[.pointer (some ⟨Y.Lg, 0, none⟩), undef, undef, undef, undef, undef, undef, undef, undef, undef, undef, undef, undef, undef, undef, undef, undef, undef, undef, undef, undef, undef, undef, undef, undef, undef, undef, undef, undef, undef, undef, undef, undef, undef, undef, undef, undef, undef, undef, undef, undef, undef, undef, undef, undef, undef, undef, undef, undef, undef, undef, undef, undef, undef, undef, undef, undef, undef, undef, undef, undef, undef, undef, undef, undef, undef, undef, undef, undef, undef, undef, undef, undef, undef, undef, undef, undef, undef, undef, undef, undef, undef, undef, undef, undef, undef, undef, undef, undef, undef, undef, undef, undef, undef, undef, undef, undef, undef, undef, undef, undef, undef, undef, undef, undef, undef, undef, undef, undef, undef, undef, undef, undef, undef, undef, undef, undef, undef, undef, undef, undef, undef, undef, undef, undef, undef, undef, undef, undef, undef, undef, undef, undef, undef, undef, undef, undef, undef, undef], []⟩ [.code body102]) cs

set_option maxRecDepth 100000 in
set_option maxHeartbeats 8000000 in
/-- ████ Lock ████ -/
theorem lockGo (K : KnL Y 92 99 F Kn) (hH : ∀ l (v v' : World), v'.heap[Y.Mp]? = v.heap[Y.Mp]? → Held l v → Held l v') (hxc : ∀ sh, TSt (kx s .la) sh xc sh) (hq : xc ≠ .quit) (hmu : muteT xc = false)
    (hslow : ∀ (b₁ : Frame) (a₁ : Act) (ops₁ : Array Oper) (i₁ : Nat) (rest₁ : List Nat) (k₁ : List Item) (cs₁ : List Frame), b₁.kind ≠ .early →
      (∀ d l0, ∃ m, ∀ w, KnO Held Kn l0 w → GO Y Held k F l0 d xc m (G (b₁.at (a₁.put ((ops₁[i₁]?).bind (·.dst)) (.tuple #[])) (.inRegion ops₁ rest₁ :: k₁)) cs₁) w) →
      ∀ d w, Kn w → GL Y Held s k F lg d .r0 60 (slowFr (b₁.at a₁ (.inRegion ops₁ (i₁ :: rest₁) :: k₁) :: cs₁) Y) w)
    (hk0 : b₀.kind ≠ .early)
    (hT : ∀ d l0, ∃ m, ∀ w, KnO Held Kn l0 w → GO Y Held k F l0 d xc m (G (b₀.at (a₀.put ((ops₀[i₀]?).bind (·.dst)) (.tuple #[])) (.inRegion ops₀ rest₀ :: k₀)) cs) w) :
    ∀ d w, Kn w → GL Y Held s k F lg d .ld 40 (G ((base 84).at ⟨#[.pointer (some ⟨Y.Lg, 0, none⟩), undef, undef, undef, undef, undef], []⟩ [.code body84]) (b₀.at a₀ (.inRegion ops₀ (i₀ :: rest₀) :: k₀) :: cs)) w := by
  intro d w hF
  simp only [body84, Try.f84, Option.getD_some]
  repeat w_go K.rl
  u_call Try.func97 nm97 Try.f97 K.rl hF
  repeat w_go K.rl
  -- STOP ld
  refine Goes.stop (fun w r => ?_)
  replace hF := K.rl hF r
  clear r
  rcases d with _ | d
  · trivial
  refine lkStop rfl rfl (by simp) (by simp) (by simp) (by simp) (by simp) fun sh hs _ => ⟨.l0, sh.m, sh.s, _, _, _, .ld, stepG_mark0 .disable (by simp) rfl rfl (by k_ne) rfl wgLib.f_disable (x_disable_n link) (x_disable_b link) (x_disable_x link) (x_disable_f link), hs.1, rfl, eff_refl _, book_dis 0, 30, ?_⟩
  walk_nrm
  repeat w_go K.rl
  -- STOP l0
  refine Goes.stop (fun w r => ?_)
  replace hF := K.rl hF r
  clear r
  rcases d with _ | d
  · trivial
  refine lkStop rfl rfl (by simp) (by simp) (by simp) (by simp) (by simp) fun sh hs _ => ?_
  by_cases h0 : sh.m = Mu.free
  · have hc := hs.1.st
    rw [h0] at hc
    have hs' : ShAt Y 92 99 (w.setCell ⟨Y.Lg, 0, none⟩ (.int .i32 (Mu.val ⟨true, false, false, 0⟩))) { sh with m := ⟨true, false, false, 0⟩ } := ⟨hs.1.setSt _, (wg_set _ _ rfl).trans hs.2⟩
    refine ⟨.le, ⟨true, false, false, 0⟩, sh.s, _, _, _, by rw [h0]; exact .l0y, stepG_cas_hit rfl rfl (by k_ne) rfl Try.func101 x101_n x101_b x101_x .i32 x101_f rfl rfl rfl hc (hs.1.thaw 0), hs'.1, hs'.2.trans hs.2.symm, eff_set _ _ (.inl rfl), book_rw 0 _ (lb 0 (by simp)), 30, ?_⟩
    replace hF := K.eff hF (eff_set _ _ (.inl rfl)) hs'
    clear hs'
    show GL Y Held s k F lg d .le 30 _ (w.setCell ⟨Y.Lg, 0, none⟩ (.int .i32 1))
    replace hF : Kn (w.setCell ⟨Y.Lg, 0, none⟩ (.int .i32 1)) := hF
    walk_nrm
    repeat w_go K.rl
    -- STOP le
    refine Goes.stop (fun w r => ?_)
    replace hF := K.rl hF r
    clear r
    rcases d with _ | d
    · trivial
    refine lkStop rfl rfl (by simp) (by simp) (by simp) (by simp) (by simp) fun sh hs _ => ⟨.la, sh.m, sh.s, _, _, _, .le, stepG_mark0 .enable (by simp) rfl rfl (by k_ne) rfl wgLib.f_enable (x_enable_n link) (x_enable_b link) (x_enable_x link) (x_enable_f link), hs.1, rfl, eff_refl _, book_en 0, 30, ?_⟩
    walk_nrm
    repeat w_go K.rl
    u_in K.rl hF
    obtain ⟨sh1, hs1⟩ := K.live hF
    have hc := hs1.1.st
    refine goes_oper_k rfl rfl (by k_ne) (fun Kx hKx => ?_)
    have hcv := run_convert_to_unsafe (P := Try.prog) u135 wgLib.underlying_tUP z84 hc
    have hce := fun es => events_convert_to_unsafe (P := Try.prog) u135 wgLib.underlying_tUP z84 hc es
    go_simp
    refine hKx _ _ ⟨?_, ?_⟩
    · u_none
      intro ex hex
      have hmx := mem_listed hex
      simp [go_sem, hce] at hmx
    clear hKx Kx hcv hce hc hs1
    try walk_nrm
    repeat w_go K.rl
    -- STOP la
    refine Goes.stop (fun w r => ?_)
    replace hF := K.rl hF r
    clear r
    rcases d with _ | d
    · trivial
    refine laStop rfl rfl hxc hq hmu fun l0 hl0 => ⟨_, stepG_markAt .acquire (by simp) rfl rfl (by k_ne) rfl wgLib.f_acquire (x_acquire_n link) (x_acquire_b link) (x_acquire_x link) (x_acquire_f link) (by simp [Act.eval, Lay.lk]), ?_⟩
    obtain ⟨mT, hT'⟩ := hT d l0
    have hF : KnO Held Kn l0 w := ⟨hF, hl0⟩
    refine ⟨mT + 20, goes_idle (fun w => .idle w) (fun w => .refl w) ?_⟩
    walk_nrm
    repeat w_go (KnO.rl K hH)
    u_leave0 Try.func97 (KnO.rl K hH) hF
    repeat w_go (KnO.rl K hH)
    u_leave0 Try.func84 (KnO.rl K hH) hF
    refine Goes.stop (fun w r => ?_)
    exact hT' _ (KnO.rl K hH hF r)
  · refine ⟨.r0, sh.m, sh.s, _, _, _, .l0n h0, stepG_cas_miss rfl rfl (by k_ne) rfl Try.func101 x101_n x101_b x101_x .i32 x101_f rfl rfl rfl hs.1.st (hs.1.thaw 0) (val0 h0), hs.1, rfl, eff_refl _, book_one 0 _ false (lb 0 (by simp)), 100, ?_⟩
    walk_nrm
    repeat w_go K.rl
    u_call Try.func102 nm102 Try.f102 K.rl hF
    unfold slowFr at hslow
    refine goes_le (by omega) (hslow _ _ _ _ _ _ _ (by k_ne) (fun d l0 => ?_) d _ hF)
    obtain ⟨mT, hT'⟩ := hT d l0
    refine ⟨mT + 20, fun w hF => goes_idle (fun w => .idle w) (fun w => .refl w) ?_⟩
    walk_nrm
    repeat w_go (KnO.rl K hH)
    u_leave0 Try.func97 (KnO.rl K hH) hF
    repeat w_go (KnO.rl K hH)
    u_leave0 Try.func84 (KnO.rl K hH) hF
    refine Goes.stop (fun w r => ?_)
    exact hT' _ (KnO.rl K hH hF r)
end
end Go.Proofs.Ytpmmimcafkillaa.Tr
