/-
  The rule of what is dirty, in company.
  The starter: its loop that starts a round's workers, and Wait.
-/
import Derived.Test.YtpmmimcafkillaaZXr
set_option linter.unusedVariables false
set_option linter.unusedSimpArgs false
namespace Go.Proofs.Ytpmmimcafkillaa.Tr
open Go Go.Conc Go.ConcN Go.RowKit Go.Conc.Lib Go.ConcR.Gen Go.ConcM
open Go.ConcR (KK wgBlock WgAt stA smA rd wr mk DC0)
open Go.Proofs.Ytpmmimcafkillaa.Mx
open Go.Proofs.Ytpmmimcafkillaa.Mx (Mu St)
theorem loud65 : (Try.prog.funcs[(base 65).fn]?).any (·.norace) = false := by kernel_rfl
theorem loud45 : (Try.prog.funcs[(base 45).fn]?).any (·.norace) = false := by kernel_rfl
theorem nm65 : (Try.f65.name == "runtime.NumGoroutine") = false := by kernel_rfl
theorem nm46 : (Try.f46.name == "runtime.NumGoroutine") = false := by kernel_rfl
noncomputable def body65 : Code := Try.f65.body.getD .skip
noncomputable def body45 : Code := Try.f45.body.getD .skip
noncomputable def LI : Code := (loopOf body65).getD .skip
noncomputable def RI : Code := sndS (sndS body65)
/-- a list that is read, whoever comes -/
structure RdL (Y : Lay) (F : Nat → Prop) (Kw : World → Prop) (p : Option Addr) (xs : List Int) : Prop where
  rd : ∀ w, Kw w → ∀ (j : Nat) (x : Int), xs[j]? = some x → ∃ ad, p = some ad ∧ w.cell? (ad.add j) = some (.int .i64 x)
  ok : ∀ (j : Nat) (ad : Addr), j < xs.length → p = some ad → F (ad.add j).block ∨ Y.Ro (.cell (ad.add j))
theorem rdl_own {Y : Lay} {F : Nat → Prop} {Kw : World → Prop} {B : Nat} {vs : List Int} (hB : F B) (hb : ∀ w, Kw w → w.heap[B]? = some (.cells (vs.map (Value.int .i64)).toArray 2 (0, 0))) : RdL Y F Kw (some ⟨B, 0, none⟩) vs :=
  ⟨fun w h j x hx => ⟨_, rfl, by rw [addr_add, Nat.zero_add]; simp [World.cell?, hb w h, hx]⟩, fun j ad _ e => by cases e; exact .inl (by rw [addr_add]; exact hB)⟩
section
variable {Y : Lay} {F : Nat → Prop} {Kw : World → Prop} {gid : Nat} {xs : List Int} {p : Option Addr} {cap : Nat} {v : Int} {Stop : Goroutine → World → Prop}
variable {b₀ : Frame} {a₀ : Act} {ops₀ : Array Oper} {i₀ : Nat} {rest₀ : List Nat} {k₀ : List Item} {cs : List Frame}
set_option maxRecDepth 100000 in
set_option maxHeartbeats 2000000 in
theorem headI (K : KnL Y 92 99 F Kw) (hR : RdL Y F Kw p xs) (hk0 : b₀.kind ≠ .early) (hl : xs.length ≤ 1000) {m : Nat}
    (hT : ∀ r : Int, (0 ≤ r ↔ v ∈ xs) → ∀ w, Kw w → Goes Try.prog false (RF Y 92 99 F false) (DF Y gid F false false) Stop m (G (b₀.at (a₀.put ((ops₀[i₀]?).bind (·.dst)) (.int .i64 r)) (.inRegion ops₀ rest₀ :: k₀)) cs) w) :
    ∀ (r j : Nat), j + r = xs.length → v ∉ xs.take j → ∀ (j2 j3 j4 j5 j9 j10 j11 j12 j13 j14 j15 j16 j17 j18 : Value) w, Kw w →
      Goes Try.prog false (RF Y 92 99 F false) (DF Y gid F false false) Stop (m + 40 + 60 * r) (G ((base 65).at ⟨#[.slice p xs.length cap, .int .i64 v, j2, j3, j4, j5, .slice p xs.length cap, .int .i64 (xs.length : Int), .int .i64 (j : Int), j9, j10, j11, j12, j13, j14, j15, j16, j17, j18], []⟩ [.code LI, .inLoop LI, .inBlock 0, .code RI]) (b₀.at a₀ (.inRegion ops₀ (i₀ :: rest₀) :: k₀) :: cs)) w := by
  intro r
  induction r with
  | zero =>
    intro j hj hno j2 j3 j4 j5 j9 j10 j11 j12 j13 j14 j15 j16 j17 j18 w hF
    obtain rfl : j = xs.length := by omega
    rw [List.take_length] at hno
    have hT' := hT (-1) (by constructor; omega; exact fun h => absurd h hno)
    simp only [LI, RI, loopOf, sndS, body65, Try.f65, Option.getD_some]
    refine goes_idle (m := m) (n := 40 + 60 * 0) (fun w => .idle w) (fun w => .refl w) ?_
    repeat w_go K.rl
    u_leave1 Try.func65 K.rl hF
    refine Goes.stop (fun w r => ?_)
    exact hT' _ (K.rl hF r)
  | succ r ih =>
    intro j hj hno j2 j3 j4 j5 j9 j10 j11 j12 j13 j14 j15 j16 j17 j18 w hF
    have hjl : j < xs.length := by omega
    have hval : xs[j]? = some xs[j] := List.getElem?_eq_getElem hjl
    generalize xs[j] = x at hval
    obtain ⟨ad, rfl, _⟩ := hR.rd _ hF j x hval
    have hok := hR.ok j ad hjl rfl
    have hcl : ∀ w, Kw w → w.cell? (ad.add j) = some (.int .i64 x) := fun w h => by
      obtain ⟨ad', e, h'⟩ := hR.rd w h j x hval
      cases e
      exact h'
    have q1 : decide ((j : Int) < (xs.length : Int)) = true := decide_eq_true (by omega)
    have hwr : IntKind.i64.wrap ((j : Int) + 1) = ((j + 1 : Nat) : Int) := by rw [IntKind.wrap_i64]; omega
    simp only [LI, RI, loopOf, sndS, body65, Try.f65, Option.getD_some] at ih
    simp only [LI, RI, loopOf, sndS, body65, Try.f65, Option.getD_some]
    refine goes_le (n := (m + 40 + 60 * r + 30 + 1) + 29) (by omega) ?_
    refine goes_idle (m := m + 40 + 60 * r + 30 + 1) (n := 29) (fun w => .idle w) (fun w => .refl w) ?_
    repeat (w_but "op" K.rl)
    w_go K.rl
    repeat (w_but "op" K.rl)
    w_go K.rl
    w_go K.rl
    repeat (w_but "op" K.rl)
    w_go K.rl
    w_go K.rl
    w_go K.rl
    u_in K.rl hF
    rw [stepG_index (j := j) rfl rfl (by k_ne) rfl rfl rfl hjl]
    simp only [goes_go]
    refine ⟨by u_nil, ?_⟩
    walk_nrm
    refine Goes.stop (fun w r => ?_)
    replace hF := K.rl hF r
    clear r
    u_in K.rl hF
    rw [stepG_load2 rfl rfl (by k_ne) rfl rfl (hcl _ hF) loud65]
    simp only [goes_go]
    refine ⟨df_ownr _ _ _ _ hok, ?_⟩
    refine goes_idle (m := m + 40 + 60 * r) (n := 30) (fun w => .idle w) (fun w => .refl w) ?_
    by_cases hvx : v = x
    · have qe : (v == x) = true := by simp [hvx]
      have qe2 : decide (v = x) = true := by simp [hvx]
      have hT' := hT j (by constructor; exact fun _ => hvx ▸ List.mem_of_getElem? hval; omega)
      clear hvx
      walk_nrm
      repeat w_go K.rl
      u_leave1 Try.func65 K.rl hF
      refine Goes.stop (fun w r => ?_)
      exact Goes.mono (hT' _ (K.rl hF r)) (by omega)
    · have qe : (v == x) = false := by simp [hvx]
      have qe2 : decide (v = x) = false := by simp [hvx]
      have hno' : v ∉ xs.take (j + 1) := by
        rw [List.take_add_one, hval]
        simp only [Option.toList_some, List.mem_append, List.mem_singleton]
        exact fun h => h.elim hno hvx
      clear hvx
      walk_nrm
      repeat w_nl K.rl
      u_c stepG_inLoop K.rl hF
      refine Goes.stop (fun w r => ?_)
      exact ih (j + 1) (by omega) hno' _ _ _ _ _ _ _ _ _ _ _ _ _ _ _ (K.rl hF r)
set_option maxRecDepth 100000 in
set_option maxHeartbeats 2000000 in
/-- slices.Contains -/
theorem con46 (K : KnL Y 92 99 F Kw) (hR : RdL Y F Kw p xs) (hk0 : b₀.kind ≠ .early) (hl : xs.length ≤ 1000) {m : Nat}
    (hT : ∀ w, Kw w → Goes Try.prog false (RF Y 92 99 F false) (DF Y gid F false false) Stop m (G (b₀.at (a₀.put ((ops₀[i₀]?).bind (·.dst)) (.bool (xs.contains v))) (.inRegion ops₀ rest₀ :: k₀)) cs) w) :
    ∀ w, Kw w → Goes Try.prog false (RF Y 92 99 F false) (DF Y gid F false false) Stop (m + 140 + 60 * xs.length) (G ((base 46).at { tmps := #[.slice p xs.length cap, .int .i64 v] ++ Array.replicate (Try.f46.ntmps - 2) undef, defers := [] } [.code (Try.f46.body.getD .skip)]) (b₀.at a₀ (.inRegion ops₀ (i₀ :: rest₀) :: k₀) :: cs)) w := by
  intro w hF
  refine goes_le (n := (m + 30 + 40 + 60 * xs.length) + 70) (by omega) ?_
  refine goes_idle (n := 70) (fun w => .idle w) (fun w => .refl w) ?_
  simp only [Try.f46, Option.getD_some, Nat.reduceSub, Array.replicate_succ, Array.replicate_zero, List.push_toArray, List.append_toArray, List.nil_append, List.cons_append]
  repeat w_go K.rl
  u_call Try.func65 nm65 Try.f65 K.rl hF
  repeat (w_but "code.loop" K.rl)
  u_c stepG_loop K.rl hF
  refine Goes.stop (fun w r => ?_)
  replace hF := K.rl hF r
  clear r
  have key := fun (b₁ : Frame) (a₁ : Act) (ops₁ : Array Oper) (i₁ : Nat) (rest₁ : List Nat) (k₁ : List Item) (cs₁ : List Frame) (hk1 : b₁.kind ≠ .early) (m1 : Nat) hT1 =>
    headI (gid := gid) (Stop := Stop) (cap := cap) (v := v) (b₀ := b₁) (a₀ := a₁) (ops₀ := ops₁) (i₀ := i₁) (rest₀ := rest₁) (k₀ := k₁) (cs := cs₁) (m := m1) K hR hk1 hl hT1 xs.length 0 (by omega) (by simp)
  simp only [LI, RI, loopOf, sndS, body65, Try.f65, Option.getD_some] at key
  refine goes_le (by omega) (key _ _ _ _ _ _ _ (by k_ne) (m + 30) (fun r hr w hF => ?_) _ _ _ _ _ _ _ _ _ _ _ _ _ _ _ hF)
  have qd : decide (0 ≤ r) = xs.contains v := by
    rw [List.contains_eq_mem]
    exact decide_eq_decide.2 hr
  generalize xs.contains v = c at qd hT
  refine goes_idle (n := 30) (fun w => .idle w) (fun w => .refl w) ?_
  clear hr
  walk_nrm
  repeat w_go K.rl
  u_leave1 Try.func46 K.rl hF
  refine Goes.stop (fun w r => ?_)
  exact hT _ (K.rl hF r)
end
section
variable {Y : Lay} {F : Nat → Prop} {Kw : World → Prop} {gid : Nat} {vs ch : List Int} {B : Nat} {Stop : Goroutine → World → Prop} {qb : Addr} {p : Option Addr} {cap j : Nat}
variable {b₀ : Frame} {a₀ : Act} {ops₀ : Array Oper} {i₀ : Nat} {rest₀ : List Nat} {k₀ : List Item} {cs : List Frame}
set_option maxRecDepth 100000 in
set_option maxHeartbeats 2000000 in
/-- ████ the rule of what is dirty ████ -/
theorem rule45 (K : KnL Y 92 99 F Kw) (hq : ∀ w, Kw w → w.cell? qb = some (.slice p ch.length cap)) (oq : F qb.block ∨ Y.Ro (.cell qb)) (hR : RdL Y F Kw p ch) (hc : ch.length ≤ 1000) (hB : F B) (hb : ∀ w, Kw w → w.heap[B]? = some (.cells (vs.map (Value.int .i64)).toArray 2 (0, 0))) (hk0 : b₀.kind ≠ .early) (hl : vs.length ≤ 1000)
    (hT : ∃ m, ∀ w, Kw w → Goes Try.prog false (RF Y 92 99 F false) (DF Y gid F false false) Stop m (G (b₀.at (a₀.put ((ops₀[i₀]?).bind (·.dst)) (.int .i64 (if ch.contains (j : Int) || vs.contains 1 then 1 else 0))) (.inRegion ops₀ rest₀ :: k₀)) cs) w) :
    ∃ m, ∀ w, Kw w → Goes Try.prog false (RF Y 92 99 F false) (DF Y gid F false false) Stop m (G ((base 45).at ⟨#[.int .i64 (j : Int), .slice (some ⟨B, 0, none⟩) vs.length vs.length, .pointer (some qb), undef, undef, undef, undef, undef, undef, undef, undef, undef, undef], []⟩ [.code body45]) (b₀.at a₀ (.inRegion ops₀ (i₀ :: rest₀) :: k₀) :: cs)) w := by
  obtain ⟨mT, hT⟩ := hT
  have h46 := fun (xs : List Int) (p : Option Addr) (cap : Nat) (v : Int) (hR : RdL Y F Kw p xs) (hl : xs.length ≤ 1000) (b₁ : Frame) (a₁ : Act) (ops₁ : Array Oper) (i₁ : Nat) (rest₁ : List Nat) (k₁ : List Item) (cs₁ : List Frame) (hk1 : b₁.kind ≠ .early) (m1 : Nat) hT1 =>
    con46 (gid := gid) (Stop := Stop) (cap := cap) (v := v) (b₀ := b₁) (a₀ := a₁) (ops₀ := ops₁) (i₀ := i₁) (rest₀ := rest₁) (k₀ := k₁) (cs := cs₁) (m := m1) K hR hk1 hl hT1
  simp only [Try.f46, Option.getD_some, Nat.reduceSub, Array.replicate_succ, Array.replicate_zero, List.push_toArray, List.append_toArray, List.nil_append, List.cons_append] at h46
  refine ⟨((mT + 30 + 140 + 60 * vs.length + 60) + 140 + 60 * ch.length + 60 + 1) + 30, fun w hF => goes_idle (n := 30) (fun w => .idle w) (fun w => .refl w) ?_⟩
  simp only [body45, Try.f45, Option.getD_some]
  repeat (w_but "op" K.rl)
  w_go K.rl
  repeat (w_but "op" K.rl)
  refine Goes.stop (fun w r => ?_)
  replace hF := K.rl hF r
  clear r
  u_in K.rl hF
  rw [stepG_load29 rfl rfl (by k_ne) rfl rfl (hq _ hF) loud45]
  simp only [goes_go]
  refine ⟨df_ownr _ _ _ _ oq, ?_⟩
  walk_nrm
  refine goes_idle (n := 60) (fun w => .idle w) (fun w => .refl w) ?_
  w_go K.rl
  u_call Try.func46 nm46 Try.f46 K.rl hF
  refine Goes.stop (fun w r => ?_)
  replace hF := K.rl hF r
  clear r
  refine h46 _ _ _ _ hR hc _ _ _ _ _ _ _ (by k_ne) _ (fun w hF => ?_) _ hF
  generalize ch.contains (j : Int) = c1 at hT
  refine goes_idle (n := 60) (fun w => .idle w) (fun w => .refl w) ?_
  cases c1 with
  | true =>
    walk_nrm
    repeat w_go K.rl
    u_leave1 Try.func45 K.rl hF
    refine Goes.stop (fun w r => ?_)
    exact Goes.mono (hT _ (K.rl hF r)) (by omega)
  | false =>
    walk_nrm
    w_go K.rl
    w_go K.rl
    u_call Try.func46 nm46 Try.f46 K.rl hF
    refine Goes.stop (fun w r => ?_)
    replace hF := K.rl hF r
    clear r
    refine h46 _ _ _ _ (rdl_own hB hb) hl _ _ _ _ _ _ _ (by k_ne) _ (fun w hF => ?_) _ hF
    generalize vs.contains 1 = c2 at hT
    refine goes_idle (n := 30) (fun w => .idle w) (fun w => .refl w) ?_
    cases c2 with
    | true =>
      walk_nrm
      repeat w_go K.rl
      u_leave1 Try.func45 K.rl hF
      refine Goes.stop (fun w r => ?_)
      exact hT _ (K.rl hF r)
    | false =>
      walk_nrm
      repeat w_go K.rl
      u_leave1 Try.func45 K.rl hF
      refine Goes.stop (fun w r => ?_)
      exact hT _ (K.rl hF r)
end
end Go.Proofs.Ytpmmimcafkillaa.Tr

set_option linter.unusedVariables false
set_option linter.unusedSimpArgs false
namespace Go.Proofs.Ytpmmimcafkillaa.Tr
open Go Go.Conc Go.ConcN Go.RowKit Go.Conc.Lib Go.ConcR.Gen Go.ConcM
open Go.ConcR (KK wgBlock WgAt stA smA rd wr mk DC0)
open Go.Proofs.Ytpmmimcafkillaa.Mx
open Go.Proofs.Ytpmmimcafkillaa.Mx (Mu St)
section
variable {P : Program} {Y : Lay} {tL tW : TypeId} {Held : List Nat → World → Prop} {F : Nat → Prop} {g : Goroutine} {w : World} {n r : Nat} {Fin : (Nat → Prop) → Goroutine → World → Prop} {Ns : Sp → (Nat → Prop) → Goroutine → World → Prop}
theorem bxStop (hrun : g.status = .running) (hoff : g.offers = none)
    (hall : ∀ sh, ShAt Y tL tW w sh → ∃ g' ob, stepG P true g w = .go g' (w.alloc ob) #[] ∧ ∃ m, GoS P Y tL tW (addB F true w.heap.size) (Ns (.ad r) (addB F true w.heap.size)) m g' (w.alloc ob)) : SStp P Y tL tW Held n Fin Ns (.bx r) F g w := by
  refine ⟨hrun, hoff, fun sh hsh hloc => ?_⟩
  obtain ⟨g', ob, hs, m, h⟩ := hall sh hsh
  have hb : ∀ b, b < w.heap.size → (w.alloc ob).heap[b]? = w.heap[b]? := fun b hb => (by show (w.heap.push ob)[b]? = w.heap[b]?; rw [Array.getElem?_push, if_neg (by omega)])
  have hsh' : ShAt Y tL tW (w.alloc ob) sh := hsh.of (hb _ (Array.getElem?_eq_some_iff.1 hsh.1).1) (hb _ (Array.getElem?_eq_some_iff.1 hsh.2).1)
  exact ⟨.ad r, sh, g', w.alloc ob, #[], .bx, hs, hsh', ⟨rfl, rfl, .refl _, (by show (w.heap.push ob).size = _; simp [isBx]), fun b h _ _ => hb b h⟩, by simp [EvS], m, h⟩
theorem df_ownw (gid : Nat) (own : Bool) (v : World) (a : Addr) (u : Value) (h : F a.block) : DF Y gid F own false v (v.setCell a u) #[⟨.cell a, true, false⟩] := by
  have A := aside_setCell v a u
  refine ⟨A.tape, A.output, A.os, by simp, fun b hb _ => A.block b (fun e => hb (e ▸ h)), fun e he => ?_, fun e => (by cases e)⟩
  rw [Array.mem_singleton] at he
  subst he
  refine ⟨fun fn pos o _ => ⟨rfl, ⟨(by simp [MemAct.ofEvent]), (by simp [MemAct.ofEvent])⟩, fun x hx => ?_⟩, by simp, by simp⟩
  simp only [Go.ConcR.ofEvent_cell, MemAct.touch?, Option.some.injEq] at hx
  subst hx
  exact .inr (.inl ⟨a, rfl, h⟩)
end
theorem loud42 : (Try.prog.funcs[(base 42).fn]?).any (·.norace) = false := by kernel_rfl
theorem nm58 : (Try.f58.name == "runtime.NumGoroutine") = false := by kernel_rfl
section
variable {main : Bool} {b : Frame} {a : Act} {kk : List Item} {cs : List Frame} {w : World} {ops : Array Oper} {i : Nat} {rest : List Nat} {o : Oper}
theorem stepG_alloc2 (ho : ops[i]? = some o) (hw : Region.wanted o (yielded ops a.tmps) = true) (hk : b.kind ≠ .early) (hop : o.op = .alloc 2) :
    stepG Try.prog main (G (b.at a (.inRegion ops (i :: rest) :: kk)) cs) w = .go (G (b.at (a.put o.dst (.pointer (some ⟨w.heap.size, 0, none⟩))) (.inRegion ops rest :: kk)) cs) (w.alloc (.cells #[.int .i64 0] 2 (0, 0))) #[] := by
  have hr : (execOp a.eval o).run Try.prog w = .ok (.value (.pointer (some ⟨w.heap.size, 0, none⟩))) (w.alloc (.cells #[.int .i64 0] 2 (0, 0))) := by
    unfold execOp
    simp only [hop]
    simp [go_sem]
  have he : (execOp a.eval o).events Try.prog w #[] = #[] := by
    unfold execOp
    simp only [hop]
    simp [go_sem]
  rw [stepG_value ho hw hk hr]
  unfold listed
  rw [he, seen_none]
theorem stepG_store2 {x y : Operand} (ho : ops[i]? = some o) (hw : Region.wanted o (yielded ops a.tmps) = true) (hk : b.kind ≠ .early) (hop : o.op = .store 2 x y)
    {ad : Addr} {v u : Int} (hx : a.eval x = .pointer (some ad)) (hy : a.eval y = .int .i64 v) (hc : w.cell? ad = some (.int .i64 u)) (hf : w.frozen? ad = false) (hq : (Try.prog.funcs[b.fn]?).any (·.norace) = false) :
    stepG Try.prog main (G (b.at a (.inRegion ops (i :: rest) :: kk)) cs) w = .go (G (b.at (a.put o.dst undef) (.inRegion ops rest :: kk)) cs) (w.setCell ad (.int .i64 v)) #[⟨.cell ad, true, false⟩] := by
  have hr : (execOp a.eval o).run Try.prog w = .ok .skip (w.setCell ad (.int .i64 v)) := by
    unfold execOp
    simp only [hop, hx, hy]
    simp [go_sem, hc, hf]
    try (unfold stored; simp [go_sem, hc, hf])
  have he : (execOp a.eval o).events Try.prog w #[] = #[⟨.cell ad, true, false⟩] := by
    unfold execOp
    simp only [hop, hx, hy]
    simp [go_sem, hc, hf]
  rw [stepG_none ho hw hk hr]
  unfold listed
  rw [he, seen_eq hq (by simp)]
theorem stepG_goV {x : Operand} (ho : ops[i]? = some o) (hw : Region.wanted o (yielded ops a.tmps) = true) (hk : b.kind ≠ .early) {ats : Array TypeId} (hop : o.op = .go { callee := .value x, args := #[], argTypes := ats })
    {caps : Array Value} (hx : a.eval x = .func (.func 59) #[] caps) :
    stepG Try.prog main (G (b.at a (.inRegion ops (i :: rest) :: kk)) cs) w = .spawn (G (b.at (a.put o.dst undef) (.inRegion ops rest :: kk)) cs) (born Try.prog { target := .fn (.func 59) caps, args := #[] }) w #[] := by
  have hr : (execOp a.eval o).run Try.prog w = .ok (.spawn { target := .fn (.func 59) caps, args := #[] }) w := by
    unfold execOp
    simp only [hop]
    simp [resolve, hx, Deferred.ofValue, Result.andThen]
  have he : (execOp a.eval o).events Try.prog w #[] = #[] := by
    unfold execOp
    simp only [hop]
    simp [resolve, hx, Deferred.ofValue, Result.andThen, Result.evThen]
  rw [stepG_spawn ho hw hk hr rfl]
  unfold listed
  rw [he, seen_none]
end
noncomputable def body42 : Code := Try.f42.body.getD .skip
noncomputable def L1 : Code := (loopOf body42).getD .skip
noncomputable def B1 : Code := inB (fstS (sndS (sndS L1)))
noncomputable def X1 : Code := fstS (sndS (sndS B1))
noncomputable def L2 : Code := (loopOf X1).getD .skip
noncomputable def R12 : Code := sndS (sndS (sndS B1))
noncomputable def R13 : Code := sndS (sndS (sndS L1))
noncomputable def R14 : Code := sndS (sndS (sndS body42))
noncomputable def ops12 : Array Oper := opsOf R12
section
variable {Y : Lay} {Held : List Nat → World → Prop} {Kn : World → Prop} {l : List Int} {ra bk rb jb : Addr} {cR : Nat} {z0 z1 z17 z18 z19 : Value} {cs : List Frame}
/-- where the starter stands behind Wait -/
def FinS (Kn : World → Prop) (jb rb bk : Addr) (z0 z1 z17 z18 z19 : Value) (cs : List Frame) (F : Nat → Prop) (g : Goroutine) (w : World) : Prop :=
  Kn w ∧ ∃ (j4 j6 j7 j8 j9 j10 j11 j12 j13 j14 j15 j16 j20 j21 j22 j23 j24 j25 j26 j27 j28 j29 j30 j31 j32 j33 j34 j35 j36 : Value) (m : Nat), Goes Try.prog true AtRel DC0 (fun g' w' => g' = (G ((base 42).at ⟨#[z0, z1, .pointer (some jb), .pointer (some rb), j4, .pointer (some bk), j6, j7, j8, j9, j10, j11, j12, j13, j14, j15, j16, z17, z18, z19, j20, j21, j22, j23, j24, j25, j26, j27, j28, j29, j30, j31, j32, j33, j34, j35, j36], []⟩ (.inRegion ops12 [] :: [.inBlock 1, .code R13, .inLoop L1, .inBlock 0, .code R14])) cs) ∧ Kn w') m g w
set_option maxRecDepth 100000 in
set_option maxHeartbeats 4000000 in
/-- ████ THE LOOP THAT STARTS THE WORKERS ████ -/
theorem headS (K : KnL Y 92 99 (fun _ => False) Kn) (hrd : ∀ w, Kn w → ∀ (k : Nat) (x : Int), l[k]? = some x → w.cell? (ra.add k) = some (.int .i64 x)) (hro : ∀ k, k < l.length → Y.Ro (.cell (ra.add k)))
    (hl : l.length ≤ 300)
    (hW : ∀ (k : Nat) (num : Int), l[k]? = some num → ∀ B, Y.N ≤ B → ∀ w, (Kn w ∧ w.heap[B]? = some (.cells #[.int .i64 num] 2 (0, 0))) → Works Try.prog Y 92 99 Held k (addB (fun _ => False) true B) (born Try.prog (call59 Y bk ⟨B, 0, none⟩ rb jb)) w) :
    ∀ (r : Nat), r ≤ l.length → ∀ d, ∃ m, ∀ (j4 j6 j7 j9 j10 j11 j12 j13 j14 j15 j16 j20 j21 j22 j23 j27 j28 j29 j30 j31 j32 j33 j34 j35 j36 : Value) w, Kn w → GoS Try.prog Y 92 99 (fun _ => False) (AtS Try.prog Y 92 99 Held l.length (FinS Kn jb rb bk z0 z1 z17 z18 z19 cs) d (nxt r) (fun _ => False)) m (G ((base 42).at ⟨#[z0, z1, .pointer (some jb), .pointer (some rb), j4, .pointer (some bk), j6, j7, .pointer (some ⟨Y.Wg, 0, none⟩), j9, j10, j11, j12, j13, j14, j15, j16, z17, z18, z19, j20, j21, j22, j23, .slice (some ra) l.length cR, .int .i64 (l.length : Int), .int .i64 (((l.length - r : Nat)) : Int), j27, j28, j29, j30, j31, j32, j33, j34, j35, j36], []⟩ [.code L2, .inLoop L2, .inBlock 2, .code R12, .inBlock 1, .code R13, .inLoop L1, .inBlock 0, .code R14]) cs) w := by
  intro r
  induction r with
  | zero =>
    intro _ d
    refine ⟨40 + 40, fun j4 j6 j7 j9 j10 j11 j12 j13 j14 j15 j16 j20 j21 j22 j23 j27 j28 j29 j30 j31 j32 j33 j34 j35 j36 w hF => ?_⟩
    have hq : decide (((l.length - 0 : Nat) : Int) < (l.length : Int)) = false := decide_eq_false (by omega)
    have hWt := fun (b₀ : Frame) (a₀ : Act) (ops₀ : Array Oper) (i₀ : Nat) (rest₀ : List Nat) (k₀ : List Item) (cs₀ : List Frame) hFin => waitGo (b₀ := b₀) (a₀ := a₀) (ops₀ := ops₀) (i₀ := i₀) (rest₀ := rest₀) (k₀ := k₀) (cs := cs₀) (n := l.length) (Held := Held) (Fin := FinS Kn jb rb bk z0 z1 z17 z18 z19 cs) K hFin
    simp only [FinS, ops12, L2, R12, R13, R14, L1, B1, X1, loopOf, fstS, sndS, inB, opsOf, body42, Try.f42, Option.getD_some, body63, Try.f63] at hWt ⊢
    refine goes_idle (m := 40) (n := 40) (fun w => .idle w) (fun w => .refl w) ?_
    generalize ((l.length - 0 : Nat) : Int) = ii at hq ⊢
    repeat w_go K.rl
    u_call Try.func63 nm63' Try.f63 K.rl hF
    refine Goes.stop (fun w r => ?_)
    replace hF := K.rl hF r
    clear r
    exact goes_dc0 (fun w => .idle w) (hWt _ _ _ _ _ _ _ (fun g w m h1 h2 => ⟨h1, _, _, _, _, _, _, _, _, _, _, _, _, _, _, _, _, _, _, _, _, _, _, _, _, _, _, _, _, _, m, h2⟩) d _ hF)
  | succ r ih =>
    intro hr d
    obtain ⟨k, hk⟩ : ∃ k, l.length - (r + 1) = k := ⟨_, rfl⟩
    have hkl : k < l.length := by omega
    have hval : l[k]? = some l[k] := List.getElem?_eq_getElem hkl
    generalize l[k] = num at hval
    have q1 : decide ((k : Int) < (l.length : Int)) = true := decide_eq_true (by omega)
    have hwr : IntKind.i64.wrap ((k : Int) + 1) = ((l.length - r : Nat) : Int) := by rw [IntKind.wrap_i64]; omega
    rcases d with _ | d
    · exact ⟨0, fun j4 j6 j7 j9 j10 j11 j12 j13 j14 j15 j16 j20 j21 j22 j23 j27 j28 j29 j30 j31 j32 j33 j34 j35 j36 w hF => Goes.stop (fun _ _ => trivial)⟩
    have hAd := fun (B : Nat) (b₀ : Frame) (a₀ : Act) (ops₀ : Array Oper) (i₀ : Nat) (rest₀ : List Nat) (k₀ : List Item) (cs₀ : List Frame) (K1 : KnL Y 92 99 (addB (fun _ => False) true B) (fun w => Kn w ∧ w.heap[B]? = some (.cells #[.int .i64 num] 2 (0, 0)))) hT => addGo (b₀ := b₀) (a₀ := a₀) (ops₀ := ops₀) (i₀ := i₀) (rest₀ := rest₀) (k₀ := k₀) (cs := cs₀) (n := l.length) (Held := Held) (Fin := FinS Kn jb rb bk z0 z1 z17 z18 z19 cs) K1 (r + 1) hT
    have hI := ih (by omega)
    simp only [ops12, L2, R12, R13, R14, L1, B1, X1, loopOf, fstS, sndS, inB, opsOf, body42, Try.f42, Option.getD_some, body58, Try.f58] at hI hAd ⊢
    refine ⟨2 + 29, fun j4 j6 j7 j9 j10 j11 j12 j13 j14 j15 j16 j20 j21 j22 j23 j27 j28 j29 j30 j31 j32 j33 j34 j35 j36 w hF => ?_⟩
    refine goes_idle (m := 2) (n := 29) (fun w => .idle w) (fun w => .refl w) ?_
    rw [hk]
    repeat (w_but "op" K.rl)
    w_go K.rl
    repeat (w_but "op" K.rl)
    u_in K.rl hF
    rw [stepG_index (j := k) rfl rfl (by k_ne) rfl rfl rfl hkl]
    simp only [goes_go]
    refine ⟨by u_nil, ?_⟩
    walk_nrm
    refine Goes.stop (fun w r => ?_)
    replace hF := K.rl hF r
    clear r
    u_in K.rl hF
    rw [stepG_load2 rfl rfl (by k_ne) rfl rfl (hrd _ hF k num hval) loud42]
    simp only [goes_go]
    refine ⟨df_ownr _ _ _ _ (.inr (hro k hkl)), ?_⟩
    walk_nrm
    -- STOP bx
    refine Goes.stop (fun w r => ?_)
    replace hF := K.rl hF r
    clear r
    refine bxStop rfl rfl fun sh hs => ⟨_, _, stepG_alloc2 rfl rfl (by k_ne) rfl, 40 + 60 + 1, ?_⟩
    have hNB := (K.low hF).1
    have hF0 : Kn (w.alloc (.cells #[.int .i64 0] 2 (0, 0))) ∧ (w.alloc (.cells #[.int .i64 0] 2 (0, 0))).heap[w.heap.size]? = some (.cells #[.int .i64 0] 2 (0, 0)) := ⟨K.rl hF (RF.alloc (fun f h => h.elim) hNB _).weak, Deep.blk_alloc_new _ _⟩
    clear hF hs
    generalize w.heap.size = B at hF0 hNB ⊢
    generalize w.alloc (.cells #[.int .i64 0] 2 (0, 0)) = w at hF0 ⊢
    have K0 := K.ext (B := B) (ob := .cells #[.int .i64 0] 2 (0, 0)) hNB
    have K1 := K.ext (B := B) (ob := .cells #[.int .i64 num] 2 (0, 0)) hNB
    walk_nrm
    -- it is filled
    u_in K0.rl hF0
    rw [stepG_store2 (u := 0) rfl rfl (by k_ne) rfl rfl rfl (by simp [World.cell?, hF0.2]) (by simp [World.frozen?, hF0.2]) loud42]
    simp only [goes_go]
    refine ⟨df_ownw _ _ _ _ _ (.inr ⟨rfl, rfl⟩), ?_⟩
    rename_i wx
    have hF : Kn (wx.setCell ⟨B, 0, none⟩ (.int .i64 num)) ∧ (wx.setCell ⟨B, 0, none⟩ (.int .i64 num)).heap[B]? = some (.cells #[.int .i64 num] 2 (0, 0)) := by
      refine ⟨K.rl hF0.1 (rf_own wx _ _ hNB (fun h => h)), ?_⟩
      rw [setCell_eq_setRow wx B 0 _ 2 (0, 0) _ hF0.2, setRow_heap wx B _ _ 2 _ hF0.2]
      simp
    clear hF0 K0
    generalize wx.setCell ⟨B, 0, none⟩ (.int .i64 num) = w at hF ⊢
    refine goes_idle (m := 40) (n := 60) (fun w => .idle w) (fun w => .refl w) ?_
    walk_nrm
    repeat w_go K1.rl
    u_call Try.func58 nm58 Try.f58 K1.rl hF
    refine Goes.stop (fun w r => ?_)
    replace hF := K1.rl hF r
    clear r
    refine goes_dc0 (fun w => .idle w) (hAd B _ _ _ _ _ _ _ K1 (fun d => ?_) d _ hF)
    clear hF
    rcases d with _ | d
    · exact ⟨0, fun w hF => Goes.stop (fun _ _ => trivial)⟩
    obtain ⟨mi, hi⟩ := hI d
    refine ⟨40, fun w hF => ?_⟩
    refine goes_idle (m := 0) (n := 40) (fun w => .idle w) (fun w => .refl w) ?_
    walk_nrm
    repeat w_go K1.rl
    -- STOP go
    refine Goes.stop (fun w r => ?_)
    replace hF := K1.rl hF r
    clear r
    refine Goes.stop (fun w r => ?_)
    replace hF := K1.rl hF r
    clear r
    refine ⟨rfl, rfl, fun sh hs hloc => ⟨_, _, fun _ => False, addB (fun _ => False) true B, stepG_goV rfl rfl (by k_ne) rfl rfl, rfl, fun f h => h.elim, fun f h => ⟨h, fun h => h⟩, ?_, mi + 40, ?_⟩⟩
    · rw [hk]
      exact hW k num hval B hNB _ hF
    · replace hF := hF.1
      clear hs hloc
      refine goes_idle (m := mi) (n := 40) (fun w => .idle w) (fun w => .refl w) ?_
      walk_nrm
      repeat w_nl K.rl
      u_c stepG_inLoop K.rl hF
      refine Goes.stop (fun w r => ?_)
      exact hi _ _ _ _ _ _ _ _ _ _ _ _ _ _ _ _ _ _ _ _ _ _ _ _ _ _ (K.rl hF r)
end
end Go.Proofs.Ytpmmimcafkillaa.Tr
