/-
  A round's machine, what is asked of each goroutine: a worker and the starter, stop by stop, by the abstract automaton; what the others may have done; what it may do. It names no program; no conditions.
  A round's machine: where each goroutine stands; the invariant; small laws on the automaton's steps. It names no program; no conditions.
-/
import Derived.Test.YtpmmimcafkillaaZTb
import Derived.Test.YtpmmimcafkillaaZMe
import Derived.Conc.CompanyMem
set_option linter.unusedVariables false
set_option linter.unusedSimpArgs false
namespace Go.Proofs.Ytpmmimcafkillaa.Tr
open Go Go.Conc Go.ConcN
open Go.ConcR (KK wgBlock WgAt stA smA rd wr mk)
open Go.Proofs.Ytpmmimcafkillaa.Mx

/-- time may have passed -/
def Later (o o' : Os) : Prop := ∃ d : Nat, o' = { o with wall := o.wall + d, mono := o.mono + d }
theorem Later.refl (o : Os) : Later o o := ⟨0, rfl⟩
theorem Later.trans {a b c : Os} (h : Later a b) (k : Later b c) : Later a c := by
  obtain ⟨d, rfl⟩ := h
  obtain ⟨e, rfl⟩ := k
  exact ⟨d + e, by simp [Nat.add_assoc]⟩

section
variable (Y : Lay) (tL tW : TypeId)
/-- the ledger's block -/
def LgAt (w : World) (m : Mu) (s often : Nat) : Prop := w.heap[Y.Lg]? = some (.cells #[.int .i32 m.val, .int .u32 s, .map (some Y.Mp), .int .i64 often] tL)
/-- what is shared holds what sh says -/
def ShAt (w : World) (sh : Shr) : Prop := LgAt Y tL w sh.m sh.s sh.often ∧ WgAt tW Y.Wg w ((sh.c : Int) * KK + (sh.wt : Int)) (sh.ws : Int)
def Live (w : World) : Prop := ∃ sh, ShAt Y tL tW w sh
/-- what the others may have done; F: my own blocks; own: I own what is guarded -/
structure RF (F : Nat → Prop) (own : Bool) (w w₁ : World) : Prop where
  tape : w₁.tape = w.tape
  output : w₁.output = w.output
  os : Later w.os w₁.os
  size : w.heap.size ≤ w₁.heap.size
  low : ∀ b, b < Y.N → b ≠ Y.Lg → b ≠ Y.Wg → b ≠ Y.Mp → w₁.heap[b]? = w.heap[b]?
  mine : ∀ b, F b → w₁.heap[b]? = w.heap[b]?
  keep : own = true → w₁.heap[Y.Mp]? = w.heap[Y.Mp]?
  live : Live Y tL tW w → Live Y tL tW w₁
end
section
variable {Y : Lay} {tL tW : TypeId} {F : Nat → Prop} {own : Bool} {w w₁ w₂ : World} {sh : Shr}
theorem ShAt.of (h : ShAt Y tL tW w sh) (h1 : w₁.heap[Y.Lg]? = w.heap[Y.Lg]?) (h2 : w₁.heap[Y.Wg]? = w.heap[Y.Wg]?) : ShAt Y tL tW w₁ sh := ⟨h1.trans h.1, h2.trans h.2⟩
theorem RF.refl (w : World) : RF Y tL tW F own w w := ⟨rfl, rfl, .refl _, Nat.le_refl _, fun _ _ _ _ _ => rfl, fun _ _ => rfl, fun _ => rfl, id⟩
theorem RF.trans (h : RF Y tL tW F own w w₁) (k : RF Y tL tW F own w₁ w₂) : RF Y tL tW F own w w₂ :=
  ⟨k.tape.trans h.tape, k.output.trans h.output, h.os.trans k.os, Nat.le_trans h.size k.size, fun b h1 h2 h3 h4 => (k.low b h1 h2 h3 h4).trans (h.low b h1 h2 h3 h4), fun b hb => (k.mine b hb).trans (h.mine b hb), fun e => (k.keep e).trans (h.keep e), fun l => k.live (h.live l)⟩
theorem RF.at (w : World) (d : Nat) : RF Y tL tW F own w (w.at d) := ⟨rfl, rfl, .refl _, Nat.le_refl _, fun _ _ _ _ _ => rfl, fun _ _ => rfl, fun _ => rfl, id⟩
end

section
variable (Y : Lay) (g : Nat) (F : Nat → Prop) (own mute : Bool)
/-- an entry of the list of a step between stops -/
def EvD (e : Event) : Prop := (∀ fn pos o, (own = true → o = some g) → OkT Y F g o { g := g, fn, pos, act := .ofEvent e }) ∧ e.loc ≠ .mark .disable ∧ e.loc ≠ .mark .enable
/-- a step between stops -/
structure DF (w w' : World) (es : Array Event) : Prop where
  tape : w'.tape = w.tape
  output : w'.output = w.output
  os : w'.os = w.os
  size : w'.heap.size = w.heap.size
  out : ∀ b, ¬ F b → (own = true → b ≠ Y.Mp) → w'.heap[b]? = w.heap[b]?
  ev : ∀ e ∈ es, EvD Y g F own e
  still : mute = true → es = #[]
end
theorem DF.idle {Y : Lay} {g : Nat} {F : Nat → Prop} {own mute : Bool} (w : World) : DF Y g F own mute w w #[] := ⟨rfl, rfl, rfl, rfl, fun _ _ _ => rfl, by simp, fun _ => rfl⟩
theorem DF.drew {Y : Lay} {g : Nat} {F : Nat → Prop} {own mute : Bool} (w : World) (d : Nat) : DF Y g F own mute w { w with drawn := d } #[] := ⟨rfl, rfl, rfl, rfl, fun _ _ _ => rfl, by simp, fun _ => rfl⟩
/-! where a goroutine stands -/
def tokT : Th → Bool
  | .mk _ | .k1 .cs | .k2 .cs => true
  | _ => false
def muteT : Th → Bool
  | .dn .wr => false
  | .dn _ | .quit => true
  | _ => false
def deafL : Lk → Nat
  | .ld | .la | .cs | .ud | .out => 0
  | _ => 1
def deafT : Th → Nat
  | .k1 l | .k2 l => deafL l
  | .dn .d1 | .dn .d2 | .dn .d3 | .dn .d4 => 1
  | _ => 0
def deafS : Sp → Nat
  | .aa _ | .ae _ | .w1 | .w2 _ | .w3 | .w4 | .ke => 1
  | _ => 0
def isMk : Th → Bool
  | .mk _ => true
  | _ => false
def isBx : Sp → Bool
  | .bx _ => true
  | _ => false
def wakes : Th → Prop := fun x => (∃ h, lkOf x = .us h) ∨ x = .dn .d4
def rem : Sp → Nat
  | .bx r | .ad r | .aa r | .ae r | .go r => r
  | _ => 0

/-- the library's book-keeping at places of B -/
def Bk (B : Addr → Prop) (e : Event) : Prop := e.loc = .mark .disable ∨ e.loc = .mark .enable ∨ ∃ a x, e = ⟨.cell a, x, true⟩ ∧ B a
def Book (B : Addr → Prop) (d d' : Nat) (es : Array Event) : Prop := (∀ e ∈ es, Bk B e) ∧ deafBehind d es = d' ∧ ∀ j e, es[j]? = some e → (MemAct.ofEvent e).touch? = none ∨ 0 < deafBehind d (es.extract 0 j)
def Lay.Lb (Y : Lay) (a : Addr) : Prop := a.block = Y.Lg ∧ a.off ≠ 2
def Lay.Wb (Y : Lay) (a : Addr) : Prop := a.block = Y.Wg
def dq (x : Th) : Nat := if x = .quit then 1 else deafT x
/-- what a worker's stop lists -/
def EvW (Y : Lay) (x x' : Th) (es : Array Event) : Prop :=
  match x with
  | .k1 .la | .k2 .la => es = #[mk (.acquire Y.lk)]
  | .k1 .cs | .k2 .cs => es = #[mk (.releaseMerge Y.lk)]
  | .k1 _ | .k2 _ => Book Y.Lb (deafT x) (dq x') es
  | .mk _ => ∀ e ∈ es, e.loc = .mark .noRoom
  | .af => es = #[rd ⟨Y.Lg, 3, none⟩, wr ⟨Y.Lg, 3, none⟩]
  | .dn .wr => es = #[mk (.releaseMerge (stA Y.Wg))]
  | .dn _ => Book Y.Wb (deafT x) (dq x') es
  | .quit => es = #[]
/-- what the starter's stop lists -/
def EvS (Y : Lay) (sp sp' : Sp) (es : Array Event) : Prop :=
  match sp with
  | .bx _ => ∀ e ∈ es, e.loc = .mark .noRoom
  | .aq => es = #[mk (.acquire (stA Y.Wg))]
  | _ => Book Y.Wb (deafS sp) (deafS sp') es
/-- what a stop's step does to the world: mk: one block more -/
structure Eff (Y : Lay) (al : Bool) (w w' : World) : Prop where
  tape : w'.tape = w.tape
  output : w'.output = w.output
  os : Later w.os w'.os
  size : w'.heap.size = if al = true then w.heap.size + 1 else w.heap.size
  block : ∀ b, b < w.heap.size → b ≠ Y.Lg → b ≠ Y.Wg → w'.heap[b]? = w.heap[b]?
/-- what is known of the shared cells at a worker's stop, at the starter's -/
def LocW (x : Th) (sh : Shr) : Prop := ∃ (sp : Sp) (ths : List Th) (i : Nat), CI sp ths sh ∧ ths[i]? = some x ∧ ths.length ≤ 300 ∧ sh.often ≤ 100000
def LocS (sp : Sp) (sh : Shr) : Prop := ∃ ths : List Th, CI sp ths sh ∧ ths.length ≤ 300 ∧ sh.often ≤ 100000
def addB (F : Nat → Prop) (al : Bool) (b : Nat) : Nat → Prop := fun f => F f ∨ (al = true ∧ f = b)

section
variable (P : Program) (Y : Lay) (tL tW : TypeId) (Held : List Nat → World → Prop) (n : Nat)
/-- how a worker goes on behind a stop -/
def AfterW (Nx : Th → (Nat → Prop) → List Nat → Goroutine → World → Prop) (k : Nat) (x' : Th) (F' : Nat → Prop) (lg' : List Nat) (g' : Goroutine) (w' : World) : Prop :=
  if x' = .quit then ∃ q, QuitsD P q 1 g' else ∃ m, Goes P false (RF Y tL tW F' (tokT x')) (DF Y (Y.b + 1 + k) F' (tokT x') (muteT x')) (Nx x' F' lg') m g' w'
/-- ████ THE LAW OF A WORKER's STOP ████ -/
def WStp (Nx : Th → (Nat → Prop) → List Nat → Goroutine → World → Prop) (k : Nat) (x : Th) (F : Nat → Prop) (lg : List Nat) (g : Goroutine) (w : World) : Prop :=
  g.status = .running ∧ g.offers = none ∧ (wakes x → mayWake P g = true) ∧ (x = .k1 .cs → Held lg w) ∧ (x = .k2 .cs → Held (lg ++ [k]) w) ∧
  ∀ sh, ShAt Y tL tW w sh → LocW x sh →
    (waitsW x sh → stepG P false g w = .go { g with status := .blocked } w #[]) ∧
    (¬ waitsW x sh → ∀ l0, ((x = .k1 .la ∨ x = .k2 .la) → Held l0 w) → ∃ x' sh' g' w' es, TSt x sh x' sh' ∧ stepG P false g w = .go g' w' es ∧ ShAt Y tL tW w' sh' ∧ Eff Y (isMk x) w w' ∧ EvW Y x x' es ∧
      AfterW P Y tL tW Nx k x' (addB F (isMk x) w.heap.size) (if x = .k1 .la ∨ x = .k2 .la then l0 else lg) g' w')
/-- worker k's stops, by depth -/
def AtW : Nat → Nat → Th → (Nat → Prop) → List Nat → Goroutine → World → Prop
  | 0, _, _, _, _, _, _ => True
  | d + 1, k, x, F, lg, g, w => WStp P Y tL tW Held (AtW d k) k x F lg g w
/-- worker k, from where it is on, at every depth -/
def Works (k : Nat) (F : Nat → Prop) (g : Goroutine) (w : World) : Prop := ∀ d, ∃ m, Goes P false (RF Y tL tW F false) (DF Y (Y.b + 1 + k) F false false) (AtW P Y tL tW Held d k (.k1 .ld) F []) m g w

variable (Fin : (Nat → Prop) → Goroutine → World → Prop)
abbrev GoS (F : Nat → Prop) (Stop : Goroutine → World → Prop) (m : Nat) (g : Goroutine) (w : World) : Prop := Goes P true (RF Y tL tW F false) (DF Y 0 F false false) Stop m g w
/-- ████ THE LAW OF THE STARTER's STOP ████ -/
def SStp (Nx : Sp → (Nat → Prop) → Goroutine → World → Prop) (sp : Sp) (F : Nat → Prop) (g : Goroutine) (w : World) : Prop :=
  g.status = .running ∧ g.offers = none ∧
  ∀ sh, ShAt Y tL tW w sh → LocS sp sh →
    match sp with
    | .go 0 => False
    | .fin => False
    | .go (r + 1) => ∃ a' child F0 Fc, stepG P true g w = .spawn a' child w #[] ∧ child.status = .running ∧ (∀ f, F0 f → F f) ∧ (∀ f, Fc f → F f ∧ ¬ F0 f) ∧
        Works P Y tL tW Held (n - (r + 1)) Fc child w ∧ ∃ m, GoS P Y tL tW F0 (Nx (nxt r) F0) m a' w
    | .aq => ∃ g' w', stepG P true g w = .go g' w' #[mk (.acquire (stA Y.Wg))] ∧ w' = w ∧ Fin F g' w'
    | .w3 => (sh.ws = 0 → stepG P true g w = .go { g with status := .blocked } w #[]) ∧
        (sh.ws ≠ 0 → ∃ g' w' es, stepG P true g w = .go g' w' es ∧ ShAt Y tL tW w' { sh with ws := sh.ws - 1 } ∧ Eff Y false w w' ∧ EvS Y .w3 .w4 es ∧ ∃ m, GoS P Y tL tW F (Nx .w4 F) m g' w')
    | sp => ∃ sp' sh' g' w' es, SSt sp sh sp' sh' ∧ stepG P true g w = .go g' w' es ∧ ShAt Y tL tW w' sh' ∧ Eff Y (isBx sp) w w' ∧ EvS Y sp sp' es ∧ ∃ m, GoS P Y tL tW (addB F (isBx sp) w.heap.size) (Nx sp' (addB F (isBx sp) w.heap.size)) m g' w'
/-- the starter's stops, by depth -/
def AtS : Nat → Sp → (Nat → Prop) → Goroutine → World → Prop
  | 0, _, _, _, _ => True
  | d + 1, sp, F, g, w => SStp P Y tL tW Held n Fin (AtS d) sp F g w
end

section
variable {P : Program} {Y : Lay} {tL tW : TypeId} {Held : List Nat → World → Prop} {n : Nat} {Fin : (Nat → Prop) → Goroutine → World → Prop}
theorem atW_running {d k : Nat} {x : Th} {F : Nat → Prop} {lg : List Nat} {g : Goroutine} {w : World} (h : AtW P Y tL tW Held (d + 1) k x F lg g w) : g.status = .running := h.1
theorem atS_running {d : Nat} {sp : Sp} {F : Nat → Prop} {g : Goroutine} {w : World} (h : AtS P Y tL tW Held n Fin (d + 1) sp F g w) : g.status = .running := h.1
end
end Go.Proofs.Ytpmmimcafkillaa.Tr

set_option linter.unusedVariables false
set_option linter.unusedSimpArgs false
namespace Go.Proofs.Ytpmmimcafkillaa.Tr
open Go Go.Conc Go.ConcN
open Go.ConcR (KK wgBlock WgAt stA smA rd wr mk again_blocked ofEvent_loc_mark ofEvent_cell ofEvent_mk)
open Go.Proofs.Ytpmmimcafkillaa.Mx

/-- a worker's record -/
structure Wk where
  x : Th
  F : Nat → Prop
  lg : List Nat
  K : Nat
  f : Nat
  d : Nat
def Wk.up (r : Nat) (u : Wk) : Wk := { u with f := u.f + r }
def ths (L : List Wk) : List Th := L.map (·.x)
def sumF (L : List Wk) : Nat := (L.map (·.f)).sum
def Fam (Y : Lay) (F0 : Nat → Prop) (L : List Wk) : Nat → Nat → Prop := fun g f => (g = 0 ∧ F0 f) ∨ ∃ (k : Nat) (u : Wk), L[k]? = some u ∧ g = Y.b + 1 + k ∧ u.F f
/-- it has done its work on what is guarded -/
def didT : Th → Bool
  | .k2 .ud | .k2 .u0 | .k2 (.uc _) | .k2 .ux | .k2 (.us _) | .k2 .ue | .dn _ | .quit => true
  | _ => false
/-- it has counted -/
def oftT : Th → Nat
  | .k2 _ | .dn _ | .quit => 1
  | _ => 0

section
variable (P : Program) (Y : Lay) (tL tW : TypeId) (Held : List Nat → World → Prop) (n : Nat) (Fin : (Nat → Prop) → Goroutine → World → Prop) (o0 : Nat)
abbrev GoW (k : Nat) (u : Wk) (m : Nat) (g : Goroutine) (w : World) : Prop := Goes P false (RF Y tL tW u.F (tokT u.x)) (DF Y (Y.b + 1 + k) u.F (tokT u.x) (muteT u.x)) (AtW P Y tL tW Held (u.K + 1) k u.x u.F u.lg) m g w
/-- where worker k stands -/
def SitW (k : Nat) (u : Wk) (s : Nat) (g : Goroutine) (w : World) : Prop :=
  (u.x ≠ .quit ∧ u.d = deafT u.x ∧ ∃ m, (n + 2) * m + 1 ≤ u.f ∧ GoW P Y tL tW Held k u m g w) ∨
  (u.x ≠ .quit ∧ u.d = deafT u.x ∧ (∃ sv, lkOf u.x = .s1 sv) ∧ s = 0 ∧ ∃ g₀, g = { g₀ with status := .blocked } ∧ GoW P Y tL tW Held k u 0 g₀ w) ∨
  (u.x = .quit ∧ ∃ q, (n + 2) * q ≤ u.f ∧ QuitsD P q u.d g)
/-- where the starter stands -/
def SitS (K : Nat) (sp : Sp) (F : Nat → Prop) (f d ws : Nat) (g : Goroutine) (w : World) : Prop :=
  (d = deafS sp ∧ ∃ m, (n + 2) * m + 1 ≤ f ∧ GoS P Y tL tW F (AtS P Y tL tW Held n Fin (K + 1) sp F) m g w) ∨
  (d = deafS sp ∧ sp = .w3 ∧ ws = 0 ∧ ∃ g₀, g = { g₀ with status := .blocked } ∧ GoS P Y tL tW F (AtS P Y tL tW Held n Fin (K + 1) sp F) 0 g₀ w)

/-- ████ THE INVARIANT ████ -/
structure MI (R : Array Goroutine) (w : World) (T : Trace) (sp : Sp) (L : List Wk) (sh : Shr) (log : List Nat) (tok : Option Nat) (a : Goroutine) (F0 : Nat → Prop) (K0 f0 d0 : Nat) (qE : Nat → Nat) : Prop where
  size : R.size = Y.b + 1 + L.length
  r0 : R[0]? = some a
  ci : CI sp (ths L) sh
  cnt : L.length + rem sp = n
  nle : n ≤ 300
  oft : sh.often = o0 + sumf oftT (ths L)
  mes0 : mes n sp (ths L) sh ≤ K0
  mesK : ∀ (k : Nat) (u : Wk), L[k]? = some u → mes n sp (ths L) sh ≤ u.K
  sha : ShAt Y tL tW w sh
  sit0 : SitS P Y tL tW Held n Fin K0 sp F0 f0 d0 sh.ws a w
  sitW : ∀ (k : Nat) (u : Wk), L[k]? = some u → ∃ g, R[Y.b + 1 + k]? = some g ∧ SitW P Y tL tW Held n k u sh.s g w
  eld : ∀ i, 1 ≤ i → i ≤ Y.b → ∃ g, R[i]? = some g ∧ QuitsD P (qE i) (Deaf T i) g
  tr : TR Y (Fam Y F0 L) tok L.length w.heap.size T
  tk : ∀ (k : Nat) (u : Wk), L[k]? = some u → (tokT u.x = true ↔ tok = some (Y.b + 1 + k))
  tk0 : ∀ g, tok = some g → ∃ (k : Nat) (u : Wk), L[k]? = some u ∧ g = Y.b + 1 + k
  held : tok = none → Held log w
  lg : ∀ (k : Nat) (u : Wk), L[k]? = some u → tokT u.x = true → u.lg = log
  logN : log.Nodup ∧ ∀ k : Nat, k ∈ log ↔ ∃ u : Wk, L[k]? = some u ∧ didT u.x = true
  rel : ∀ (k : Nat) (u : Wk), L[k]? = some u → muteT u.x = true → ∃ r, Rel Y T (Y.b + 1 + k) r
  df0 : Deaf T 0 = d0
  dfW : ∀ (k : Nat) (u : Wk), L[k]? = some u → Deaf T (Y.b + 1 + k) = u.d
  above : ∀ i, R.size ≤ i → Deaf T i = 0
end

/-! the automaton's steps -/
section
variable {x x' : Th} {sh sh' : Shr}
theorem lk_tok {l l' : Lk} {m m' : Mu} {s s' : Nat} (st : St l m s l' m' s') (h1 : l ≠ .ue) (h2 : l ≠ .la) : tokT (.k1 l') = false := by
  cases st <;> first | rfl | exact absurd rfl h1 | exact absurd rfl h2 | (unfold hd; split <;> rfl)
theorem lk_tok2 {l l' : Lk} {m m' : Mu} {s s' : Nat} (st : St l m s l' m' s') (h2 : l ≠ .la) : tokT (.k2 l') = false := by
  cases st <;> first | rfl | exact absurd rfl h2 | (unfold hd; split <;> rfl)
theorem tst_la (st : TSt x sh x' sh') (h : x = .k1 .la ∨ x = .k2 .la) : tokT x' = true ∧ tokT x = false := by
  rcases h with rfl | rfl
  · cases st
    case lka => exact ⟨rfl, rfl⟩
    case lk1 h2 h3 h => exact absurd rfl (by assumption)
  · cases st
    case lk2 => rename_i st; cases st; exact ⟨rfl, rfl⟩
theorem tst_cs (st : TSt x sh x' sh') (h : x = .k1 .cs ∨ x = .k2 .cs) : tokT x' = false ∧ tokT x = true := by
  rcases h with rfl | rfl
  · cases st
    case lk1 => rename_i st; cases st; exact ⟨rfl, rfl⟩
  · cases st
    case lk2 => rename_i st; cases st; exact ⟨rfl, rfl⟩
theorem tst_tok (st : TSt x sh x' sh') (h1 : x ≠ .k1 .la) (h2 : x ≠ .k2 .la) (h3 : x ≠ .k1 .cs) (h4 : x ≠ .k2 .cs) : tokT x' = tokT x := by
  cases st
  case lk1 l l' m' s' hl hl2 st =>
    have e : tokT (.k1 l) = false := by
      cases l <;> first | rfl | exact absurd rfl h3
    rw [e]
    exact lk_tok st hl (fun e => h1 (by rw [e]))
  case lk2 l l' m' s' hl st =>
    have e : tokT (.k2 l) = false := by
      cases l <;> first | rfl | exact absurd rfl h4
    rw [e]
    exact lk_tok2 st (fun e => h2 (by rw [e]))
  all_goals first | rfl | exact absurd rfl h1
theorem lk_did {l l' : Lk} {m m' : Mu} {s s' : Nat} (st : St l m s l' m' s') (h2 : l ≠ .cs) (h3 : l ≠ .ue) : didT (.k2 l') = didT (.k2 l) := by
  cases st <;> first | rfl | exact absurd rfl h2 | exact absurd rfl h3 | (unfold hd; split <;> rfl)
theorem tst_did (st : TSt x sh x' sh') (h : x ≠ .k2 .cs) : didT x' = didT x := by
  cases st
  case lk2 l l' m' s' hl st => exact lk_did st (fun e => h (by rw [e])) hl
  all_goals rfl
theorem tst_did_cs (st : TSt (.k2 .cs) sh x' sh') : didT x' = true := by
  cases st
  case lk2 st => cases st; rfl
theorem tst_mute (st : TSt x sh x' sh') (h : x ≠ .dn .wr) : muteT x' = muteT x := by
  cases st <;> first | rfl | exact absurd rfl h
theorem tst_oft (st : TSt x sh x' sh') : sh'.often + oftT x = sh.often + oftT x' := by
  cases st <;> rfl
theorem tst_ws (st : TSt x sh x' sh') (h : sh.ws = 0) : sh'.ws = 0 ∨ x = .dn .d4 := by
  cases st <;> first | exact .inl h | exact .inr rfl
theorem st_s {l l' : Lk} {m m' : Mu} {s s' : Nat} (st : St l m s l' m' s') (h : s = 0) : s' = 0 ∨ ∃ h, l = .us h := by
  cases st <;> first | exact .inl h | exact .inr ⟨_, rfl⟩ | omega
theorem tst_s (st : TSt x sh x' sh') (h : sh.s = 0) : sh'.s = 0 ∨ ∃ h, lkOf x = .us h := by
  cases st
  case lk1 l l' m' s' hl hl2 st => exact st_s st h
  case lk2 l l' m' s' hl st => exact st_s st h
  all_goals exact .inl h
end

/-! lists -/
theorem ths_up (r : Nat) (L : List Wk) : ths (L.map (Wk.up r)) = ths L := by simp [ths, Wk.up, Function.comp_def]
theorem ths_set (L : List Wk) (k : Nat) (u : Wk) : ths (L.set k u) = (ths L).set k u.x := by simp [ths, List.map_set]
theorem ths_get {L : List Wk} {k : Nat} {u : Wk} (h : L[k]? = some u) : (ths L)[k]? = some u.x := by simp [ths, h]
theorem ths_len (L : List Wk) : (ths L).length = L.length := by simp [ths]
theorem up_get {r : Nat} {L : List Wk} {k : Nat} {u : Wk} (h : (L.map (Wk.up r))[k]? = some u) : ∃ v, L[k]? = some v ∧ u = v.up r := by
  rw [List.getElem?_map] at h
  obtain ⟨v, hv, e⟩ := Option.map_eq_some_iff.1 h
  exact ⟨v, hv, e.symm⟩
theorem sum_up (r : Nat) (L : List Wk) : sumF (L.map (Wk.up r)) = sumF L + r * L.length := by
  induction L with
  | nil => simp [sumF]
  | cons u l ih =>
    simp only [sumF, List.map_cons, List.sum_cons, List.length_cons] at ih ⊢
    rw [ih, Nat.mul_add]
    simp only [Wk.up]
    omega
theorem sum_set {L : List Wk} {k : Nat} {u v : Wk} (h : L[k]? = some u) : sumF (L.set k v) + u.f = sumF L + v.f := by
  induction L generalizing k with
  | nil => simp at h
  | cons y l ih =>
    cases k with
    | zero =>
      have e : y = u := by simpa using h
      simp only [sumF, List.set_cons_zero, List.map_cons, List.sum_cons, e]
      omega
    | succ k =>
      have := ih (k := k) (by simpa using h)
      simp only [sumF, List.set_cons_succ, List.map_cons, List.sum_cons] at this ⊢
      omega
theorem set_get {α : Type} {L : List α} {k j : Nat} {u v : α} (h : (L.set k v)[j]? = some u) : (j = k ∧ u = v ∧ k < L.length) ∨ (j ≠ k ∧ L[j]? = some u) := by
  rw [List.getElem?_set] at h
  by_cases e : k = j
  · subst e
    rw [if_pos rfl] at h
    split at h
    · exact .inl ⟨rfl, (Option.some.inj h).symm, by assumption⟩
    · cases h
  · rw [if_neg e] at h
    exact .inr ⟨fun h' => e h'.symm, h⟩
theorem lt_get {α : Type} {L : List α} {k : Nat} {u : α} (h : L[k]? = some u) : k < L.length := by
  rcases Nat.lt_or_ge k L.length with h' | h'
  · exact h'
  · rw [List.getElem?_eq_none h'] at h; cases h
theorem cnt_two (f : Lk → Nat) (h0 : f .out = 0) {l : List Lk} {i j : Nat} {a b : Lk} (hi : l[i]? = some a) (hj : l[j]? = some b) (hne : i ≠ j) : f a + f b ≤ Mx.cnt f l := by
  have h1 := cnt_set f l i a .out hi
  have h2 : (l.set i Lk.out)[j]? = some b := by rw [List.getElem?_set_ne hne]; exact hj
  have h3 := cnt_ge f _ j b h2
  have h4 := cnt_set f (l.set i .out) j b .out h2
  omega
theorem tok_owns {x : Th} (h : tokT x = true) : owns (lkOf x) = 1 := by
  cases x with
  | k1 l => cases l <;> first | rfl | cases h
  | mk r => rfl
  | k2 l => cases l <;> first | rfl | cases h
  | _ => cases h
/-- at most one owns -/
theorem CI.one {sp : Sp} {l : List Th} {sh : Shr} (h : CI sp l sh) {i j : Nat} {a b : Th} (hi : l[i]? = some a) (hj : l[j]? = some b) (ha : owns (lkOf a) = 1) (hb : owns (lkOf b) = 1) : i = j := by
  apply Classical.byContradiction
  intro hne
  have := cnt_two owns rfl (l := l.map lkOf) (i := i) (j := j) (a := lkOf a) (b := lkOf b) (by simp [hi]) (by simp [hj]) hne
  have ho := h.inv.num.own
  split at ho <;> omega

section
variable {P : Program} {Y : Lay} {tL tW : TypeId} {Held : List Nat → World → Prop} {n : Nat} {Fin : (Nat → Prop) → Goroutine → World → Prop}
theorem rf_trans {F : Nat → Prop} {own : Bool} : ∀ a b c, RF Y tL tW F own a b → RF Y tL tW F own b c → RF Y tL tW F own a c := fun _ _ _ h k => h.trans k
theorem SitW.status {k : Nat} {u : Wk} {s : Nat} {g : Goroutine} {w : World} (h : SitW P Y tL tW Held n k u s g w) : g.status = .running ∨ g.status = .blocked ∨ g.status = .finished := by
  rcases h with ⟨_, _, m, _, hg⟩ | ⟨_, _, _, _, g₀, rfl, _⟩ | ⟨_, q, _, hq⟩
  · exact .inl (Goes.running (fun _ _ x => atW_running x) w (RF.refl w) hg)
  · exact .inr (.inl rfl)
  · exact hq.status.elim .inl fun x => .inr (.inr x)
theorem SitS.status {K : Nat} {sp : Sp} {F : Nat → Prop} {f d ws : Nat} {g : Goroutine} {w : World} (h : SitS P Y tL tW Held n Fin K sp F f d ws g w) : g.status = .running ∨ g.status = .blocked := by
  rcases h with ⟨_, m, _, hg⟩ | ⟨_, _, _, g₀, rfl, _⟩
  · exact .inl (Goes.running (fun _ _ x => atS_running x) w (RF.refl w) hg)
  · exact .inr rfl
/-- the world was turned by another's doing; nobody was woken -/
theorem SitW.rely {k : Nat} {u : Wk} {s : Nat} {g : Goroutine} {w w' : World} (h : SitW P Y tL tW Held n k u s g w) (r : RF Y tL tW u.F (tokT u.x) w w') : SitW P Y tL tW Held n k u s g w' := by
  rcases h with ⟨h1, h2, m, h3, hg⟩ | ⟨h1, h2, h3, h4, g₀, h5, hg⟩ | h
  · exact .inl ⟨h1, h2, m, h3, Goes.rely rf_trans hg r⟩
  · exact .inr (.inl ⟨h1, h2, h3, h4, g₀, h5, Goes.rely rf_trans hg r⟩)
  · exact .inr (.inr h)
theorem SitS.rely {K : Nat} {sp : Sp} {F : Nat → Prop} {f d ws : Nat} {g : Goroutine} {w w' : World} (h : SitS P Y tL tW Held n Fin K sp F f d ws g w) (r : RF Y tL tW F false w w') : SitS P Y tL tW Held n Fin K sp F f d ws g w' := by
  rcases h with ⟨h2, m, h3, hg⟩ | ⟨h2, h3, h4, g₀, h5, hg⟩
  · exact .inl ⟨h2, m, h3, Goes.rely rf_trans hg r⟩
  · exact .inr ⟨h2, h3, h4, g₀, h5, Goes.rely rf_trans hg r⟩
theorem SitW.other {r1 k : Nat} {u : Wk} {s s' : Nat} {g y y' : Goroutine} {w w' : World} (hr1 : r1 = 1 ∨ y'.status = .blocked) (h : SitW P Y tL tW Held n k u s g w) (r : RF Y tL tW u.F (tokT u.x) w w') (hw : s = 0 → s' = 0 ∨ (mayWake P y = true ∧ y'.status = .running)) :
    SitW P Y tL tW Held n k (u.up r1) s' (woken P y y' w' g) w' := by
  rcases h with ⟨h1, h2, m, h3, hg⟩ | ⟨h1, h2, h3, h4, g₀, rfl, hg⟩ | ⟨h1, q, h2, hq⟩
  · have hr : g.status = .running := Goes.running (fun _ _ x => atW_running x) w (RF.refl w) hg
    rw [woken_run hr]
    exact .inl ⟨h1, h2, m, Nat.le_trans h3 (Nat.le_add_right _ _), Goes.rely rf_trans hg r⟩
  · have hg' := Goes.rely rf_trans hg r
    have hst := hg' w' (RF.refl w')
    by_cases hc : (mayWake P y && y'.status != .blocked && y'.status != .waiting) = true
    · have : woken P y y' w' { g₀ with status := .blocked } = g₀ := by unfold woken; rw [if_pos hc]; exact again_blocked hst.1 hst.2.1 _
      rw [this]
      have hr : r1 = 1 := hr1.resolve_right fun e => by simp [e] at hc
      exact .inl ⟨h1, h2, 0, by simp [Wk.up, hr], hg'⟩
    · have : woken P y y' w' { g₀ with status := .blocked } = { g₀ with status := .blocked } := by unfold woken; rw [if_neg hc]
      rw [this]
      rcases hw h4 with h5 | ⟨h5, h6⟩
      · exact .inr (.inl ⟨h1, h2, h3, h5, g₀, rfl, hg'⟩)
      · exact absurd (by simp [h5, h6]) hc
  · rw [woken_quitsD hq]
    exact .inr (.inr ⟨h1, q, Nat.le_trans h2 (Nat.le_add_right _ _), hq⟩)
theorem SitS.other {r1 K : Nat} {sp : Sp} {F : Nat → Prop} {f d ws ws' : Nat} {g y y' : Goroutine} {w w' : World} (hr1 : r1 = 1 ∨ y'.status = .blocked) (h : SitS P Y tL tW Held n Fin K sp F f d ws g w) (r : RF Y tL tW F false w w') (hw : ws = 0 → ws' = 0 ∨ (mayWake P y = true ∧ y'.status = .running)) :
    SitS P Y tL tW Held n Fin K sp F (f + r1) d ws' (woken P y y' w' g) w' := by
  rcases h with ⟨h2, m, h3, hg⟩ | ⟨h2, h3, h4, g₀, rfl, hg⟩
  · have hr : g.status = .running := Goes.running (fun _ _ x => atS_running x) w (RF.refl w) hg
    rw [woken_run hr]
    exact .inl ⟨h2, m, Nat.le_trans h3 (Nat.le_add_right _ _), Goes.rely rf_trans hg r⟩
  · have hg' := Goes.rely rf_trans hg r
    have hst := hg' w' (RF.refl w')
    by_cases hc : (mayWake P y && y'.status != .blocked && y'.status != .waiting) = true
    · have : woken P y y' w' { g₀ with status := .blocked } = g₀ := by unfold woken; rw [if_pos hc]; exact again_blocked hst.1 hst.2.1 _
      rw [this]
      have hr : r1 = 1 := hr1.resolve_right fun e => by simp [e] at hc
      exact .inl ⟨h2, 0, by simp [hr], hg'⟩
    · have : woken P y y' w' { g₀ with status := .blocked } = { g₀ with status := .blocked } := by unfold woken; rw [if_neg hc]
      rw [this]
      rcases hw h4 with h5 | ⟨h5, h6⟩
      · exact .inr ⟨h2, h3, h5, g₀, rfl, hg'⟩
      · exact absurd (by simp [h5, h6]) hc
end
end Go.Proofs.Ytpmmimcafkillaa.Tr
