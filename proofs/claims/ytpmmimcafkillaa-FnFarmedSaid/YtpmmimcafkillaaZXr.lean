/-
  The rule of results, in company.
  The rule of the longest chain, in company.
-/
import Derived.Test.YtpmmimcafkillaaZXp
set_option linter.unusedVariables false
set_option linter.unusedSimpArgs false
namespace Go.Proofs.Ytpmmimcafkillaa.Tr
open Go Go.Conc Go.ConcN Go.RowKit Go.Conc.Lib Go.ConcR.Gen Go.ConcM
open Go.ConcR (KK wgBlock WgAt stA smA rd wr mk DC0)
open Go.Proofs.Ytpmmimcafkillaa.Mx
open Go.Proofs.Ytpmmimcafkillaa.Mx (Mu St)
open Go.Proofs.Ytpmmimcafkillaa.Rs (hst)
section
variable {Y : Lay} {F : Nat → Prop} {Kw : World → Prop} {gid : Nat} {vs : List Int} {B : Nat} {Stop : Goroutine → World → Prop}
variable {b₀ : Frame} {a₀ : Act} {ops₀ : Array Oper} {i₀ : Nat} {rest₀ : List Nat} {k₀ : List Item} {cs : List Frame}
end
/-- what is known of the job where the rule's box lies -/
structure Jx (Y : Lay) (F : Nat → Prop) (Kw : World → Prop) (qb ja : Addr) (n cap0 j : Nat) (kd vl cst : Int) : Prop where
  cqb : ∀ w, Kw w → w.cell? qb = some (.slice (some ja) n cap0)
  oqb : F qb.block ∨ Y.Ro (.cell qb)
  lt : j < n
  ckd : ∀ w, Kw w → w.cell? ((ja.add (j * 4)).add 0) = some (.int .i64 kd)
  okd : F ((ja.add (j * 4)).add 0).block ∨ Y.Ro (.cell ((ja.add (j * 4)).add 0))
  cvl : ∀ w, Kw w → w.cell? ((ja.add (j * 4)).add 1) = some (.int .i64 vl)
  ovl : F ((ja.add (j * 4)).add 1).block ∨ Y.Ro (.cell ((ja.add (j * 4)).add 1))
  ccs : ∀ w, Kw w → w.cell? ((ja.add (j * 4)).add 3) = some (.int .i64 cst)
  ocs : F ((ja.add (j * 4)).add 3).block ∨ Y.Ro (.cell ((ja.add (j * 4)).add 3))
  kd0 : 0 ≤ kd
  kd1 : kd ≤ 9
  vl0 : 0 ≤ vl
  vl1 : vl ≤ 10000000
  cs0 : 1 ≤ cst
  cs1 : cst ≤ 1000
section
variable {Y : Lay} {F : Nat → Prop} {Kw : World → Prop} {gid : Nat} {vs : List Int} {B : Nat} {Stop : Goroutine → World → Prop} {qb ja : Addr} {n cap0 j : Nat} {kd vl cst : Int}
variable {b₀ : Frame} {a₀ : Act} {ops₀ : Array Oper} {i₀ : Nat} {rest₀ : List Nat} {k₀ : List Item} {cs : List Frame}
end
end Go.Proofs.Ytpmmimcafkillaa.Tr

set_option linter.unusedVariables false
set_option linter.unusedSimpArgs false
namespace Go.Proofs.Ytpmmimcafkillaa.Tr
open Go Go.Conc Go.ConcN Go.RowKit Go.Conc.Lib Go.ConcR.Gen Go.ConcM
open Go.ConcR (KK wgBlock WgAt stA smA rd wr mk DC0)
open Go.Proofs.Ytpmmimcafkillaa.Mx
open Go.Proofs.Ytpmmimcafkillaa.Mx (Mu St)
theorem loud43 : (Try.prog.funcs[(base 43).fn]?).any (·.norace) = false := by kernel_rfl
theorem nm41 : (Try.f41.name == "runtime.NumGoroutine") = false := by kernel_rfl
noncomputable def body43 : Code := Try.f43.body.getD .skip
noncomputable def ops43 : Array Oper := opsOf (fstS (sndS body43))
theorem size43 : ops43.size = 9 := by kernel_rfl
theorem goes_callE {main : Bool} {b : Frame} {a : Act} {kk : List Item} {cs : List Frame} {w : World} {ops : Array Oper} {i : Nat} {rest : List Nat} {o : Oper} {K : Goroutine → World → Array Event → Prop} {f : FuncId} {fn : Func} {c : Code} {args : Array Operand} {ats : Array TypeId} {vs : Array Value}
    (ho : ops[i]? = some o) (hw : Region.wanted o (yielded ops a.tmps) = true) (hk : b.kind ≠ .early) (hop : o.op = .call { callee := .value (.func f), args, argTypes := ats }) (hargs : args.map a.eval = vs)
    (hf : Try.prog.funcs[f]? = some fn) (hname : (fn.name == "runtime.NumGoroutine") = false) (hb : fn.body = some c)
    (h : K (G ((base f).at { tmps := vs ++ Array.replicate (fn.ntmps - vs.size) undef, defers := [] } [.code c]) (b.at a (.inRegion ops (i :: rest) :: kk) :: cs)) w #[]) :
    (stepG Try.prog main (G (b.at a (.inRegion ops (i :: rest) :: kk)) cs) w).goes K := by
  subst hargs
  exact goes_call ho hw hk hop hf hname hb h
section
variable {Y : Lay} {F : Nat → Prop} {Kw : World → Prop} {gid : Nat} {vs : List Int} {B : Nat} {Stop : Goroutine → World → Prop} {qb ja : Addr} {n cap0 j : Nat} {kd vl cst : Int}
variable {b₀ : Frame} {a₀ : Act} {ops₀ : Array Oper} {i₀ : Nat} {rest₀ : List Nat} {k₀ : List Item} {cs : List Frame}
set_option maxRecDepth 100000 in
set_option maxHeartbeats 1000000 in
/-- greatestSum -/
theorem sum41 (K : KnL Y 92 99 F Kw) (hB : F B) (hb : ∀ w, Kw w → w.heap[B]? = some (.cells (vs.map (Value.int .i64)).toArray 2 (0, 0))) (hk0 : b₀.kind ≠ .early) (hl : vs.length ≤ 1000) {m : Nat}
    (hT : ∀ w, Kw w → Goes Try.prog false (RF Y 92 99 F false) (DF Y gid F false false) Stop m (G (b₀.at (a₀.put ((ops₀[i₀]?).bind (·.dst)) (.int .i64 (gmax 0 vs))) (.inRegion ops₀ rest₀ :: k₀)) cs) w) :
    ∀ w, Kw w → Goes Try.prog false (RF Y 92 99 F false) (DF Y gid F false false) Stop (m + 40 + 60 * vs.length + 40) (G ((base 41).at { tmps := #[.slice (some ⟨B, 0, none⟩) vs.length vs.length] ++ Array.replicate (Try.f41.ntmps - 1) undef, defers := [] } [.code (Try.f41.body.getD .skip)]) (b₀.at a₀ (.inRegion ops₀ (i₀ :: rest₀) :: k₀) :: cs)) w := by
  have hH := headG (gid := gid) (Stop := Stop) (b₀ := b₀) (a₀ := a₀) (ops₀ := ops₀) (i₀ := i₀) (rest₀ := rest₀) (k₀ := k₀) (cs := cs) K hB hb hk0 hl hT vs.length 0 0 (by omega) rfl
  intro w hF
  refine goes_idle (n := 40) (fun w => .idle w) (fun w => .refl w) ?_
  simp only [LG, RG, loopOf, sndS, body41, Try.f41, Option.getD_some] at hH
  simp only [Try.f41, Option.getD_some, Nat.reduceSub, Array.replicate_succ, Array.replicate_zero, List.push_toArray, List.append_toArray, List.nil_append, List.cons_append]
  repeat (w_but "code.loop" K.rl)
  u_c stepG_loop K.rl hF
  refine Goes.stop (fun w r => ?_)
  exact hH _ _ _ _ _ _ _ _ _ _ _ _ _ _ (K.rl hF r)
def val43 (ja : Addr) (n cap0 j : Nat) (cst : Int) (B : Nat) (vs : List Int) : Nat → Value
  | 0 => .slice (some ja) n cap0
  | 1 => .int .i64 (j : Int)
  | 2 => .pointer (some (ja.add (j * 4)))
  | 3 => .pointer (some ((ja.add (j * 4)).add 3))
  | 4 => .int .i64 cst
  | 5 => .slice (some ⟨B, 0, none⟩) vs.length vs.length
  | 6 => .int .i64 (gmax 0 vs)
  | 7 => .int .i64 (cst + gmax 0 vs)
  | 8 => .int .i64 (cst + gmax 0 vs)
  | _ => undef
set_option maxRecDepth 100000 in
set_option maxHeartbeats 1000000 in
theorem drawn43 (K : KnL Y 92 99 F Kw) (J : Jx Y F Kw qb ja n cap0 j kd vl cst) (hB : F B) (hb : ∀ w, Kw w → w.heap[B]? = some (.cells (vs.map (Value.int .i64)).toArray 2 (0, 0))) (hl : vs.length ≤ 1000) (e1 : IntKind.i64.wrap (cst + gmax 0 vs) = cst + gmax 0 vs) {kk : List Item} {C : List Frame} {id : Nat}
    (hend : ∃ m, ∀ w, Kw w → Goes Try.prog false (RF Y 92 99 F false) (DF Y gid F false false) Stop m (G ((base 43).at ⟨#[.int .i64 (j : Int), .slice (some ⟨B, 0, none⟩) vs.length vs.length, .pointer (some qb), undef, undef, .int .i64 (cst + gmax 0 vs), .slice (some ja) n cap0, .int .i64 (j : Int), .pointer (some (ja.add (j * 4))), .pointer (some ((ja.add (j * 4)).add 3)), .int .i64 cst, .slice (some ⟨B, 0, none⟩) vs.length vs.length, .int .i64 (gmax 0 vs), .int .i64 (cst + gmax 0 vs)], []⟩ (.inRegion ops43 [] :: kk)) C) w) :
    ∃ m, ∀ w, Kw w → Goes Try.prog false (RF Y 92 99 F false) (DF Y gid F false false) Stop m (G ((base 43).at ⟨#[.int .i64 (j : Int), .slice (some ⟨B, 0, none⟩) vs.length vs.length, .pointer (some qb), undef, undef, .int .i64 0, undef, undef, undef, undef, undef, undef, undef, undef], []⟩ (.code (.region id ops43 true) :: kk)) C) w := by
  refine drawn_all (val43 ja n cap0 j cst B vs) ⟨#[.int .i64 (j : Int), .slice (some ⟨B, 0, none⟩) vs.length vs.length, .pointer (some qb), undef, undef, .int .i64 0, undef, undef, undef, undef, undef, undef, undef, undef], []⟩ (by kernel_rfl) mixed (fun w => .drew w _) (fun h r => K.rl h r) (fun {w} h => K.rl h (RF.at w (w.drawn + 1))) (fun i l a hi haf hD rest m h => ?_) ?_
  rotate_left
  · rw [show finA ops43 (val43 ja n cap0 j cst B vs) ⟨#[.int .i64 (j : Int), .slice (some ⟨B, 0, none⟩) vs.length vs.length, .pointer (some qb), undef, undef, .int .i64 0, undef, undef, undef, undef, undef, undef, undef, undef], []⟩ = ⟨#[.int .i64 (j : Int), .slice (some ⟨B, 0, none⟩) vs.length vs.length, .pointer (some qb), undef, undef, .int .i64 (cst + gmax 0 vs), .slice (some ja) n cap0, .int .i64 (j : Int), .pointer (some (ja.add (j * 4))), .pointer (some ((ja.add (j * 4)).add 3)), .int .i64 cst, .slice (some ⟨B, 0, none⟩) vs.length vs.length, .int .i64 (gmax 0 vs), .int .i64 (cst + gmax 0 vs)], []⟩ by kernel_rfl]
    exact hend
  rw [size43] at hi
  have hc : i = 0 ∨ i = 1 ∨ i = 2 ∨ i = 3 ∨ i = 4 ∨ i = 5 ∨ i = 6 ∨ i = 7 ∨ i = 8 := by omega
  rcases hc with rfl | rfl | rfl | rfl | rfl | rfl | rfl | rfl | rfl
  · -- 0
    refine ⟨m + 1, fun w hF => Goes.step rfl fun w₁ h₁ => ?_⟩
    replace hF := K.rl hF h₁
    rw [stepG_load24 rfl rfl (by k_ne) rfl (hD.ev0 2 (by kernel_rfl)) (J.cqb _ hF) loud43]
    exact ⟨df_ownr _ _ _ _ J.oqb, h _ hF⟩
  · -- 1
    refine ⟨m + 1, fun w hF => Goes.step rfl fun w₁ h₁ => ?_⟩
    replace hF := K.rl hF h₁
    rw [stepG_mov rfl rfl (by k_ne) rfl (hD.ev0 0 (by kernel_rfl))]
    exact ⟨.idle _, h _ hF⟩
  · -- 2
    have p0 := pre_of haf (k := 0) (by kernel_rfl)
    have p1 := pre_of haf (k := 1) (by kernel_rfl)
    refine ⟨m + 1, fun w hF => Goes.step rfl fun w₁ h₁ => ?_⟩
    replace hF := K.rl hF h₁
    rw [stepG_task rfl rfl (by k_ne) rfl (hD.ev 0 6 rfl p0) (hD.ev 1 7 rfl p1) J.lt]
    exact ⟨.idle _, h _ hF⟩
  · -- 3
    have p2 := pre_of haf (k := 2) (by kernel_rfl)
    refine ⟨m + 1, fun w hF => Goes.step rfl fun w₁ h₁ => ?_⟩
    replace hF := K.rl hF h₁
    rw [stepG_field3 rfl rfl (by k_ne) rfl (hD.ev 2 8 rfl p2)]
    exact ⟨.idle _, h _ hF⟩
  · -- 4
    have p3 := pre_of haf (k := 3) (by kernel_rfl)
    refine ⟨m + 1, fun w hF => Goes.step rfl fun w₁ h₁ => ?_⟩
    replace hF := K.rl hF h₁
    rw [stepG_load2 rfl rfl (by k_ne) rfl (hD.ev 3 9 rfl p3) (J.ccs _ hF) loud43]
    exact ⟨df_ownr _ _ _ _ J.ocs, h _ hF⟩
  · -- 5
    refine ⟨m + 1, fun w hF => Goes.step rfl fun w₁ h₁ => ?_⟩
    replace hF := K.rl hF h₁
    rw [stepG_mov rfl rfl (by k_ne) rfl (hD.ev0 1 (by kernel_rfl))]
    exact ⟨.idle _, h _ hF⟩
  · -- 6
    have p5 := pre_of haf (k := 5) (by kernel_rfl)
    refine ⟨(m + 40 + 60 * vs.length + 40) + 1, fun w hF => Goes.step rfl fun w₁ h₁ => ?_⟩
    · replace hF := K.rl hF h₁
      refine goes_callE rfl rfl (by k_ne) rfl (vs := #[.slice (some ⟨B, 0, none⟩) vs.length vs.length]) (by simp [hD.ev 5 11 rfl p5]; rfl) Try.func41 nm41 rfl ⟨.idle _, ?_⟩
      exact sum41 (b₀ := base 43) (a₀ := a) (ops₀ := ops43) (i₀ := 6) (rest₀ := rest) (k₀ := kk) (cs := C) K hB hb (by k_ne) hl h _ hF
  · -- 7
    have p4 := pre_of haf (k := 4) (by kernel_rfl)
    have p6 := pre_of haf (k := 6) (by kernel_rfl)
    refine ⟨m + 1, fun w hF => Goes.step rfl fun w₁ h₁ => ?_⟩
    replace hF := K.rl hF h₁
    rw [stepG_add rfl rfl (by k_ne) rfl (hD.ev 4 10 rfl p4) (hD.ev 6 12 rfl p6) e1]
    exact ⟨.idle _, h _ hF⟩
  · -- 8
    have p7 := pre_of haf (k := 7) (by kernel_rfl)
    refine ⟨m + 1, fun w hF => Goes.step rfl fun w₁ h₁ => ?_⟩
    replace hF := K.rl hF h₁
    rw [stepG_asg rfl rfl (by k_ne) rfl (hD.ev 7 13 rfl p7)]
    exact ⟨.idle _, h _ hF⟩

set_option maxRecDepth 100000 in
set_option maxHeartbeats 1000000 in
/-- ████ the rule of the longest chain ████ -/
theorem rule43 (K : KnL Y 92 99 F Kw) (J : Jx Y F Kw qb ja n cap0 j kd vl cst) (hB : F B) (hb : ∀ w, Kw w → w.heap[B]? = some (.cells (vs.map (Value.int .i64)).toArray 2 (0, 0))) (hk0 : b₀.kind ≠ .early) (hl : vs.length ≤ 1000) (e1 : IntKind.i64.wrap (cst + gmax 0 vs) = cst + gmax 0 vs)
    (hT : ∃ m, ∀ w, Kw w → Goes Try.prog false (RF Y 92 99 F false) (DF Y gid F false false) Stop m (G (b₀.at (a₀.put ((ops₀[i₀]?).bind (·.dst)) (.int .i64 (cst + gmax 0 vs))) (.inRegion ops₀ rest₀ :: k₀)) cs) w) :
    ∃ m, ∀ w, Kw w → Goes Try.prog false (RF Y 92 99 F false) (DF Y gid F false false) Stop m (G ((base 43).at ⟨#[.int .i64 (j : Int), .slice (some ⟨B, 0, none⟩) vs.length vs.length, .pointer (some qb), undef, undef, undef, undef, undef, undef, undef, undef, undef, undef, undef], []⟩ [.code body43]) (b₀.at a₀ (.inRegion ops₀ (i₀ :: rest₀) :: k₀) :: cs)) w := by
  obtain ⟨mT, hT⟩ := hT
  obtain ⟨m, hm⟩ := drawn43 (gid := gid) (Stop := Stop) (id := 1) (kk := [.code .ret]) (C := b₀.at a₀ (.inRegion ops₀ (i₀ :: rest₀) :: k₀) :: cs) K J hB hb hl e1 ⟨mT + 30, fun w hF => by
    refine goes_idle (n := 30) (fun w => .idle w) (fun w => .refl w) ?_
    repeat w_go K.rl
    u_leave1 Try.func43 K.rl hF
    refine Goes.stop (fun w r => ?_)
    exact hT _ (K.rl hF r)⟩
  refine ⟨m + 20, fun w hF => goes_idle (n := 20) (fun w => .idle w) (fun w => .refl w) ?_⟩
  simp only [body43, Try.f43, Option.getD_some]
  repeat (w_but "code.region.draws" K.rl)
  refine Goes.stop (fun w r => ?_)
  exact hm _ (K.rl hF r)
end
end Go.Proofs.Ytpmmimcafkillaa.Tr
