/-
  The worker: valuesOf: its steps.
  The worker: valuesOf: its loop.
  The worker: valuesOf, whole.
  The worker: the loads of its drawn region.
-/
import Derived.Test.YtpmmimcafkillaaZXc
import Derived.Test.YtpmmimcafkillaaZXo
set_option linter.unusedVariables false
set_option linter.unusedSimpArgs false
namespace Go.Proofs.Ytpmmimcafkillaa.Tr
open Go Go.Conc Go.ConcN Go.RowKit Go.Conc.Lib Go.ConcR.Gen Go.ConcM
open Go.ConcR (KK wgBlock WgAt stA smA rd wr mk DC0)
open Go.Proofs.Ytpmmimcafkillaa.Mx
open Go.Proofs.Ytpmmimcafkillaa.Mx (Mu St)
section
variable {Y : Lay} {tL tW : TypeId} {F F' : Nat → Prop} {Kn : World → Prop} {B : Nat} {ob : Obj}
/-- what is known, and a block of one's own -/
structure Kb (Y : Lay) (Kn : World → Prop) (F' : Nat → Prop) (B : Nat) (ob : Obj) (w : World) : Prop where
  kn : Kn w
  low : ∀ f, F' f → Y.N ≤ f ∧ f < w.heap.size
  blk : w.heap[B]? = some ob
theorem KnL.kb (K : KnL Y tL tW F Kn) (hs : ∀ f, F f → F' f) (hB : F' B) : KnL Y tL tW F' (Kb Y Kn F' B ob) where
  rl := fun h r => ⟨K.rl h.kn ⟨r.tape, r.output, r.os, r.size, r.low, fun b hb => r.mine b (hs b hb), r.keep, r.live⟩, fun f hf => ⟨(h.low f hf).1, Nat.lt_of_lt_of_le (h.low f hf).2 r.size⟩, (r.mine B hB).trans h.blk⟩
  live := fun h => K.live h.kn
  low := fun h => ⟨(K.low h.kn).1, h.low⟩
theorem rf_own {own : Bool} (w : World) (a : Addr) (u : Value) (hb : Y.N ≤ a.block) (hn : ¬ F a.block) : RF Y tL tW F own w (w.setCell a u) := by
  have A := aside_setCell w a u
  have h : ∀ b, b ≠ a.block → (w.setCell a u).heap[b]? = w.heap[b]? := A.block
  have h1 := Y.lgN
  have h2 := Y.wgN
  have h3 := Y.mpN
  exact ⟨A.tape, A.output, by rw [A.os]; exact .refl _, by simp, fun b h1 _ _ _ => h b (by omega), fun b hf => h b (fun e => hn (e ▸ hf)), fun _ => h _ (by omega), fun ⟨sh, hs⟩ => ⟨sh, hs.of (h _ (by omega)) (h _ (by omega))⟩⟩
end
theorem loud62 : (Try.prog.funcs[(base 62).fn]?).any (·.norace) = false := by kernel_rfl
section
variable {main : Bool} {b : Frame} {a : Act} {kk : List Item} {cs : List Frame} {w : World} {ops : Array Oper} {i : Nat} {rest : List Nat} {o : Oper}
theorem stepG_load2 {x : Operand} (ho : ops[i]? = some o) (hw : Region.wanted o (yielded ops a.tmps) = true) (hk : b.kind ≠ .early) (hop : o.op = .load 2 x)
    {ad : Addr} {v : Int} (hx : a.eval x = .pointer (some ad)) (hc : w.cell? ad = some (.int .i64 v)) (hq : (Try.prog.funcs[b.fn]?).any (·.norace) = false) :
    stepG Try.prog main (G (b.at a (.inRegion ops (i :: rest) :: kk)) cs) w = .go (G (b.at (a.put o.dst (.int .i64 v)) (.inRegion ops rest :: kk)) cs) w #[⟨.cell ad, false, false⟩] := by
  have hr : (execOp a.eval o).run Try.prog w = .ok (.value (.int .i64 v)) w := by
    unfold execOp
    simp only [hop, hx]
    simp [go_sem, hc]
  have he : (execOp a.eval o).events Try.prog w #[] = #[⟨.cell ad, false, false⟩] := by
    unfold execOp
    simp only [hop, hx]
    simp [go_sem, hc]
  rw [stepG_value ho hw hk hr]
  unfold listed
  rw [he, seen_eq hq (by simp)]
theorem stepG_look {x y : Operand} (ho : ops[i]? = some o) (hw : Region.wanted o (yielded ops a.tmps) = true) (hk : b.kind ≠ .early) (hop : o.op = .lookup 79 x y false)
    {Mp : Nat} {n v : Int} {l : List (Int × Int)} (hx : a.eval x = .map (some Mp)) (hy : a.eval y = .int .i64 n) (hm : MpAt Mp w l) (hl : look l n = some v) (hq : (Try.prog.funcs[b.fn]?).any (·.norace) = false) :
    stepG Try.prog main (G (b.at a (.inRegion ops (i :: rest) :: kk)) cs) w = .go (G (b.at (a.put o.dst (.int .i64 v)) (.inRegion ops rest :: kk)) cs) w #[⟨.obj Mp, false, false⟩] := by
  obtain ⟨h1, h2⟩ := run_lookupI (P := Try.prog) u79 u2 hm hl
  have hr : (execOp a.eval o).run Try.prog w = .ok (.value (.int .i64 v)) w := by
    unfold execOp
    simp only [hop, hx, hy]
    simp [h1, Result.andThen]
  have he : (execOp a.eval o).events Try.prog w #[] = #[⟨.obj Mp, false, false⟩] := by
    unfold execOp
    simp only [hop, hx, hy]
    simp [h1, h2, Result.evThen]
  rw [stepG_value ho hw hk hr]
  unfold listed
  rw [he, seen_eq hq (by simp)]
/-- an element's place -/
theorem stepG_index {x y : Operand} (ho : ops[i]? = some o) (hw : Region.wanted o (yielded ops a.tmps) = true) (hk : b.kind ≠ .early) (hop : o.op = .indexAddr 29 x y)
    {ad : Addr} {n c j : Nat} (hx : a.eval x = .slice (some ad) n c) (hy : a.eval y = .int .i64 (j : Int)) (hj : j < n) :
    stepG Try.prog main (G (b.at a (.inRegion ops (i :: rest) :: kk)) cs) w = .go (G (b.at (a.put o.dst (.pointer (some (ad.add j)))) (.inRegion ops rest :: kk)) cs) w #[] := by
  obtain ⟨ii, hi, hs, hby, hz⟩ := i2
  have h1 : ¬ ((j : Int) < 0) := by omega
  have h2 : (j : Int) < (n : Int) := by omega
  have hr : (execOp a.eval o).run Try.prog w = .ok (.value (.pointer (some (ad.add j)))) w := by
    unfold execOp
    simp only [hop, hx, hy]
    simp [go_sem, Instr.indexAt, run_underlying u29, sizeOf, typeInfo, hi, hs, h1, h2, hj, Result.andThen]
  have he : (execOp a.eval o).events Try.prog w #[] = #[] := by
    unfold execOp
    simp only [hop, hx, hy]
    simp [go_sem, Instr.indexAt, run_underlying u29, sizeOf, typeInfo, hi, hs, h1, h2, hj, Result.andThen, Result.evThen]
  rw [stepG_value ho hw hk hr]
  unfold listed
  rw [he, seen_none]
theorem stepG_build {x : Operand} (ho : ops[i]? = some o) (hw : Region.wanted o (yielded ops a.tmps) = true) (hk : b.kind ≠ .early) (hop : o.op = .buildSlice 29 1 #[(0, x)])
    {v : Int} (hx : a.eval x = .int .i64 v) :
    stepG Try.prog main (G (b.at a (.inRegion ops (i :: rest) :: kk)) cs) w = .go (G (b.at (a.put o.dst (.slice (some ⟨w.heap.size, 0, none⟩) 1 1)) (.inRegion ops rest :: kk)) cs) (w.alloc (.cells #[.int .i64 v] 2 (0, 0))) #[] := by
  obtain ⟨h1, h2⟩ := run_build1 (w := w) (v := v)
  have hr : (execOp a.eval o).run Try.prog w = .ok (.value (.slice (some ⟨w.heap.size, 0, none⟩) 1 1)) (w.alloc (.cells #[.int .i64 v] 2 (0, 0))) := by
    unfold execOp
    simp only [hop, List.map_toArray, List.map_cons, List.map_nil, hx]
    simp only [h1, Sem.run_bind, Result.andThen_ok, Sem.run_pure]
  have he : (execOp a.eval o).events Try.prog w #[] = #[] := by
    unfold execOp
    simp only [hop, List.map_toArray, List.map_cons, List.map_nil, hx]
    simp only [h1, h2, Sem.events_bind, Result.evThen_ok, Sem.events_pure]
  rw [stepG_value ho hw hk hr]
  unfold listed
  rw [he, seen_none]
theorem stepG_append {x y : Operand} (ho : ops[i]? = some o) (hw : Region.wanted o (yielded ops a.tmps) = true) (hk : b.kind ≠ .early) (hop : o.op = .call { callee := .builtin .append, args := #[x, y], argTypes := #[29, 29] })
    {g h n cap : Nat} {v : Int} {cur : Array Value} (hx : a.eval x = .slice (some ⟨g, 0, none⟩) n cap) (hy : a.eval y = .slice (some ⟨h, 0, none⟩) 1 1)
    (hg : w.heap[g]? = some (.cells cur 2 (0, 0))) (hn : n < cap) (hc : n < cur.size) (hh : w.heap[h]? = some (.cells #[.int .i64 v] 2 (0, 0))) (hq : (Try.prog.funcs[b.fn]?).any (·.norace) = false) :
    stepG Try.prog main (G (b.at a (.inRegion ops (i :: rest) :: kk)) cs) w = .go (G (b.at (a.put o.dst (.slice (some ⟨g, 0, none⟩) (n + 1) cap)) (.inRegion ops rest :: kk)) cs) (w.setCell ⟨g, n, none⟩ (.int .i64 v)) #[⟨.cell ⟨h, 0, none⟩, false, false⟩, ⟨.cell ⟨g, n, none⟩, true, false⟩] := by
  obtain ⟨h1, h2⟩ := run_append1 hg hn hc hh o.type
  have hr : (execOp a.eval o).run Try.prog w = .ok (.value (.slice (some ⟨g, 0, none⟩) (n + 1) cap)) (w.setCell ⟨g, n, none⟩ (.int .i64 v)) := by
    unfold execOp
    simp only [hop, resolve, invoke, builtin, Sem.run_bind, Sem.run_pure, Result.andThen_ok, List.map_toArray, List.map_cons, List.map_nil, hx, hy, h1]
  have he : (execOp a.eval o).events Try.prog w #[] = #[⟨.cell ⟨h, 0, none⟩, false, false⟩, ⟨.cell ⟨g, n, none⟩, true, false⟩] := by
    rw [events_append_op x y 29 hop hx hy, h2]
  rw [stepG_value ho hw hk hr]
  unfold listed
  rw [he, seen_eq hq (by simp)]
end
/-- the row, one more in it -/
theorem row_set {w : World} {g n : Nat} {cur : Array Value} {v : Value} (hg : w.heap[g]? = some (.cells cur 2 (0, 0))) (hn : n < cur.size) :
    ∃ cur' : Array Value, (w.setCell ⟨g, n, none⟩ v).heap[g]? = some (.cells cur' 2 (0, 0)) ∧ cur'.size = cur.size ∧ cur'.toList.take (n + 1) = cur.toList.take n ++ [v] := by
  refine ⟨cur.setIfInBounds n v, ?_, by simp, ?_⟩
  · rw [setCell_eq_setRow w g n _ 2 (0, 0) _ hg]
    exact setRow_heap w g _ _ 2 _ hg
  · have hl : n < cur.toList.length := by simpa using hn
    have h2 : (List.take n cur.toList).length = n := by rw [List.length_take]; omega
    rw [Array.toList_setIfInBounds, List.set_eq_take_append_cons_drop, if_pos hl, List.take_append, h2, List.take_of_length_le (by omega), show n + 1 - n = 1 by omega]
    rfl
end Go.Proofs.Ytpmmimcafkillaa.Tr

set_option linter.unusedVariables false
set_option linter.unusedSimpArgs false
namespace Go.Proofs.Ytpmmimcafkillaa.Tr
open Go Go.Conc Go.ConcN Go.RowKit Go.Conc.Lib Go.ConcR.Gen Go.ConcM
open Go.ConcR (KK wgBlock WgAt stA smA rd wr mk DC0)
open Go.Proofs.Ytpmmimcafkillaa.Mx
open Go.Proofs.Ytpmmimcafkillaa.Mx (Mu St)
noncomputable def body62 : Code := Try.f62.body.getD .skip
noncomputable def LV : Code := (loopOf body62).getD .skip
noncomputable def RV : Code := sndS (sndS (sndS (sndS (sndS body62))))
def HeadV (Y : Lay) (Held : List Nat → World → Prop) (F : Nat → Prop) (Kn : World → Prop) (k : Nat) (l0 : List Nat) (bs : Option Addr) (ns vs : List Int) (cap : Nat) (b₀ : Frame) (a₀ : Act) (ops₀ : Array Oper) (i₀ : Nat) (rest₀ : List Nat) (k₀ : List Item) (cs : List Frame) (r d : Nat) : Prop :=
  ∀ (F' : Nat → Prop) (B : Nat) (cur : Array Value) (j : Nat), (∀ f, F f → F' f) → F' B → Y.N ≤ B → ¬ F B → cur.size = ns.length → j + r = ns.length → cur.toList.take j = (vs.take j).map (Value.int .i64) →
    ∀ (j1 j2 j3 j4 j6 j7 j8 j9 j10 j11 j12 j13 j14 j15 j16 j17 j21 j22 j23 j24 j25 j26 j27 j28 j29 j30 j31 j32 j33 j34 : Value) w, KnO Held (Kb Y Kn F' B (.cells cur 2 (0, 0))) l0 w → Goes Try.prog false (RF Y 92 99 F' true) (DF Y (Y.b + 1 + k) F' true false) (AtW Try.prog Y 92 99 Held d k (mkN r) F' l0) 200
      (G ((base 62).at ⟨#[.pointer (some ⟨Y.Lg, 0, none⟩), j1, j2, j3, j4, .slice (some ⟨B, 0, none⟩) j ns.length, j6, j7, j8, j9, j10, j11, j12, j13, j14, j15, j16, j17, .slice bs ns.length cap, .int .i64 (ns.length : Int), .int .i64 (j : Int), j21, j22, j23, j24, j25, j26, j27, j28, j29, j30, j31, j32, j33, j34], [dcall 85 #[.pointer (some ⟨Y.Lg, 0, none⟩)]]⟩ [.code LV, .inLoop LV, .inBlock 0, .code RV]) (b₀.at a₀ (.inRegion ops₀ (i₀ :: rest₀) :: k₀) :: cs)) w
section
variable {Y : Lay} {Held : List Nat → World → Prop} {F : Nat → Prop} {Kn : World → Prop} {k : Nat} {l0 : List Nat} {bs : Option Addr} {ns vs : List Int} {cap : Nat}
variable {b₀ : Frame} {a₀ : Act} {ops₀ : Array Oper} {i₀ : Nat} {rest₀ : List Nat} {k₀ : List Item} {cs : List Frame}
set_option maxRecDepth 100000 in
set_option maxHeartbeats 16000000 in
theorem headV (K : KnL Y 92 99 F Kn) (hH : ∀ l (v v' : World), v'.heap[Y.Mp]? = v.heap[Y.Mp]? → Held l v → Held l v') (hn : ns.length ≤ 20) (hv : vs.length = ns.length)
    (hRd : ∀ w, Kn w → ∀ (j : Nat) (n : Int), ns[j]? = some n → ∃ ad, bs = some ad ∧ w.cell? (ad.add j) = some (.int .i64 n) ∧ Y.Ro (.cell (ad.add j)))
    (hLook : ∀ w, KnO Held Kn l0 w → ∃ l, MpAt Y.Mp w l ∧ ∀ (j : Nat) (n v : Int), ns[j]? = some n → vs[j]? = some v → look l n = some v)
    (hT : ∀ (F' : Nat → Prop) (B : Nat), (∀ f, F f → F' f) → F' B → ∀ d, ∃ m, ∀ w, Kb Y Kn F' B (.cells (vs.map (Value.int .i64)).toArray 2 (0, 0)) w → Goes Try.prog false (RF Y 92 99 F' false) (DF Y (Y.b + 1 + k) F' false false) (AtW Try.prog Y 92 99 Held d k .af F' l0) m (G (b₀.at (a₀.put ((ops₀[i₀]?).bind (·.dst)) (.slice (some ⟨B, 0, none⟩) ns.length ns.length)) (.inRegion ops₀ rest₀ :: k₀)) cs) w) (hk0 : b₀.kind ≠ .early) : ∀ r d, HeadV Y Held F Kn k l0 bs ns vs cap b₀ a₀ ops₀ i₀ rest₀ k₀ cs r d := by
  intro r
  induction r with
  | zero =>
    intro d
    refine fun F' B cur j hs hB hBN hBF hcs hj htk j1 j2 j3 j4 j6 j7 j8 j9 j10 j11 j12 j13 j14 j15 j16 j17 j21 j22 j23 j24 j25 j26 j27 j28 j29 j30 j31 j32 j33 j34 w hF => ?_
    obtain rfl : j = ns.length := by omega
    have e1 : cur = (vs.map (Value.int .i64)).toArray := by
      apply Array.ext'
      rw [List.take_of_length_le (by simp; omega), List.take_of_length_le (by omega)] at htk
      simpa using htk
    subst e1
    have K' := K.kb (B := B) (ob := (.cells (vs.map (Value.int .i64)).toArray 2 (0, 0))) hs hB
    have hUn := fun (c : Frame) (cs : List Frame) => unlockGo (c := c) (cs := cs) (s := false) (k := k) (lg := l0) (lg' := l0) (xe := .af) (Held := Held) (F := F') K' hH (fun _ => rfl) (by simp) (fun sh => .lk1o) (by simp) rfl rfl rfl
    simp only [body85, Try.f85, Option.getD_some] at hUn
    simp only [LV, RV, loopOf, sndS, body62, Try.f62, Option.getD_some]
    refine goes_dc0 (fun w => .idle w) ?_
    repeat w_go (KnO.rl K' hH)
    u_in (KnO.rl K' hH) hF
    rw [stepG_unwind_enter rfl Try.func85 nm85 rfl]
    simp only [goes_go]
    refine ⟨by u_nil, ?_⟩
    walk_nrmf Try.f85
    refine goes_le (by omega) (hUn _ _ rfl (fun d => ?_) d _ hF)
    obtain ⟨mT, hT'⟩ := hT F' B hs hB d
    refine ⟨mT + 20, fun w hF => goes_idle (fun w => .idle w) (fun w => .refl w) ?_⟩
    u_leave1 Try.func62 K'.rl hF
    refine Goes.stop (fun w r => ?_)
    exact hT' _ (K'.rl hF r)
  | succ r ih =>
    intro d
    refine fun F' B cur j hs hB hBN hBF hcs hj htk j1 j2 j3 j4 j6 j7 j8 j9 j10 j11 j12 j13 j14 j15 j16 j17 j21 j22 j23 j24 j25 j26 j27 j28 j29 j30 j31 j32 j33 j34 w hF => ?_
    have hjl : j < ns.length := by omega
    obtain ⟨num, hnum⟩ : ∃ n, ns[j]? = some n := ⟨_, List.getElem?_eq_getElem hjl⟩
    obtain ⟨val, hval⟩ : ∃ n, vs[j]? = some n := ⟨_, List.getElem?_eq_getElem (by omega)⟩
    obtain ⟨ad, rfl, -, hro⟩ := hRd w hF.kn.kn j num hnum
    have K' := K.kb (B := B) (ob := .cells cur 2 (0, 0)) hs hB
    have q1 : decide ((j : Int) < (ns.length : Int)) = true := decide_eq_true (by omega)
    have hwr : IntKind.i64.wrap ((j : Int) + 1) = ((j + 1 : Nat) : Int) := by rw [IntKind.wrap_i64]; omega
    simp only [HeadV, LV, RV, loopOf, sndS, body62, Try.f62, Option.getD_some] at ih
    simp only [LV, RV, loopOf, sndS, body62, Try.f62, Option.getD_some]
    refine goes_idle (m := 170) (n := 30) (fun w => .idle w) (fun w => .refl w) ?_
    repeat (w_but "op" (KnO.rl K' hH))
    w_go (KnO.rl K' hH)
    repeat (w_but "op" (KnO.rl K' hH))
    u_in (KnO.rl K' hH) hF
    rw [stepG_index (j := j) rfl rfl (by k_ne) rfl rfl rfl hjl]
    simp only [goes_go]
    refine ⟨by u_nil, ?_⟩
    walk_nrm
    refine Goes.stop (fun w r => ?_)
    replace hF := KnO.rl K' hH hF r
    clear r
    -- the number
    u_in (KnO.rl K' hH) hF
    obtain ⟨ad', e, hcl, -⟩ := hRd _ hF.kn.kn j num hnum
    obtain rfl : ad = ad' := Option.some.inj e
    rw [stepG_load2 rfl rfl (by k_ne) rfl rfl hcl loud62]
    simp only [goes_go]
    refine ⟨df_ownr _ _ _ _ (.inr hro), ?_⟩
    clear hcl e
    refine goes_idle (m := 139) (n := 30) (fun w => .idle w) (fun w => .refl w) ?_
    walk_nrm
    repeat w_go (KnO.rl K' hH)
    refine Goes.stop (fun w r => ?_)
    replace hF := KnO.rl K' hH hF r
    clear r
    -- the map
    u_in (KnO.rl K' hH) hF
    obtain ⟨sh1, hs1⟩ := K'.live hF.kn
    rw [stepG_loadM rfl rfl (by k_ne) rfl rfl hs1.1.mp loud62]
    simp only [goes_go]
    refine ⟨df_mp _ _, ?_⟩
    clear hs1 sh1
    refine goes_idle (m := 98) (n := 40) (fun w => .idle w) (fun w => .refl w) ?_
    walk_nrm
    repeat w_go (KnO.rl K' hH)
    refine Goes.stop (fun w r => ?_)
    replace hF := KnO.rl K' hH hF r
    clear r
    u_in (KnO.rl K' hH) hF
    obtain ⟨l, hm, hl⟩ := hLook _ ⟨hF.kn.kn, hF.held⟩
    rw [stepG_look rfl rfl (by k_ne) rfl rfl rfl hm (hl j num val hnum hval) loud62]
    simp only [goes_go]
    refine ⟨df_look _ _, ?_⟩
    clear hm hl
    walk_nrm
    -- STOP mk
    refine Goes.stop (fun w r => ?_)
    replace hF := KnO.rl K' hH hF r
    clear r
    rcases d with _ | d
    · trivial
    refine mkStop (by omega) rfl rfl fun sh hsh => ⟨_, _, stepG_build rfl rfl (by k_ne) rfl rfl, 250, ?_⟩
    have hlo := K'.low hF.kn
    have hBs : B ≠ w.heap.size := fun e => by have := (hlo.2 B hB).2; omega
    have K2 := K'.ext (ob := .cells #[.int .i64 val] 2 (0, 0)) hlo.1
    have r1 : RF Y 92 99 F' true w (w.alloc (.cells #[.int .i64 val] 2 (0, 0))) := RF.alloc (fun f h => (hlo.2 f h).2) hlo.1 _
    replace hF : KnO Held (fun v => Kb Y Kn F' B (.cells cur 2 (0, 0)) v ∧ v.heap[w.heap.size]? = some (.cells #[.int .i64 val] 2 (0, 0))) l0 (w.alloc (.cells #[.int .i64 val] 2 (0, 0))) :=
      ⟨⟨K'.rl' hF.kn r1, heap_alloc_new w _⟩, hH _ _ _ (r1.keep rfl) hF.held⟩
    have hs2 : ∀ f, F f → addB F' true w.heap.size f := fun f h => .inl (hs f h)
    have hB2 : addB F' true w.heap.size B := .inl hB
    have hh2 : addB F' true w.heap.size w.heap.size := .inr ⟨rfl, rfl⟩
    generalize w.heap.size = hb at *
    generalize addB F' true hb = F2 at *
    clear r1 hsh
    refine goes_idle (m := 220) (n := 30) (fun w => .idle w) (fun w => .refl w) ?_
    walk_nrm
    repeat w_go (KnO.rl K2 hH)
    refine Goes.stop (fun w r => ?_)
    replace hF := KnO.rl K2 hH hF r
    clear r
    -- the append
    u_in (KnO.rl K2 hH) hF
    rw [stepG_append rfl rfl (by k_ne) rfl rfl rfl hF.kn.1.blk hjl (by omega) hF.kn.2 loud62]
    simp only [goes_go]
    refine ⟨df_append _ _ _ _ hh2 hB2, ?_⟩
    obtain ⟨cur', hb', hsz', htk'⟩ := row_set (v := .int .i64 val) hF.kn.1.blk (show j < cur.size by omega)
    have r2 := fun (own : Bool) (v : World) => rf_own (Y := Y) (tL := 92) (tW := 99) (own := own) v ⟨B, j, none⟩ (.int .i64 val) hBN hBF
    have hlo2 := (K2.low hF.kn).2
    have K3 := K.kb (B := B) (ob := .cells cur' 2 (0, 0)) hs2 hB2
    replace hF : KnO Held (Kb Y Kn F2 B (.cells cur' 2 (0, 0))) l0 _ := ⟨⟨K.rl hF.kn.1.kn (r2 false _), fun f h => (by have := hlo2 f h; simpa using this), hb'⟩, hH _ _ _ ((r2 true _).keep rfl) hF.held⟩
    refine goes_idle (m := 200) (n := 19) (fun w => .idle w) (fun w => .refl w) ?_
    walk_nrm
    repeat w_nl (KnO.rl K3 hH)
    u_c stepG_inLoop (KnO.rl K3 hH) hF
    refine Goes.stop (fun w r => ?_)
    replace hF := KnO.rl K3 hH hF r
    clear r
    exact ih d F2 B cur' (j + 1) hs2 hB2 hBN hBF (hsz'.trans hcs) (by omega) (by rw [htk', htk, List.take_add_one, hval]; simp) _ _ _ _ _ _ _ _ _ _ _ _ _ _ _ _ _ _ _ _ _ _ _ _ _ _ _ _ _ _ _ hF
end
end Go.Proofs.Ytpmmimcafkillaa.Tr

set_option linter.unusedVariables false
set_option linter.unusedSimpArgs false
namespace Go.Proofs.Ytpmmimcafkillaa.Tr
open Go Go.Conc Go.ConcN Go.RowKit Go.Conc.Lib Go.ConcR.Gen Go.ConcM
open Go.ConcR (KK wgBlock WgAt stA smA rd wr mk DC0)
open Go.Proofs.Ytpmmimcafkillaa.Mx
open Go.Proofs.Ytpmmimcafkillaa.Mx (Mu St)
section
variable {main : Bool} {b : Frame} {a : Act} {kk : List Item} {cs : List Frame} {w : World} {ops : Array Oper} {i : Nat} {rest : List Nat} {o : Oper}
theorem stepG_makeR {x : Operand} (ho : ops[i]? = some o) (hw : Region.wanted o (yielded ops a.tmps) = true) (hk : b.kind ≠ .early) (hop : o.op = .makeSlice 29 (.const (.int .i64 0)) x)
    {n : Nat} {ob : Obj} (hx : a.eval x = .int .i64 (n : Int)) (h1 : (Instr.makeSlice 29 (.int .i64 0) (.int .i64 (n : Int))).run Try.prog w = .ok (.slice (some ⟨w.heap.size, 0, none⟩) 0 n) (w.alloc ob))
    (h2 : (Instr.makeSlice 29 (.int .i64 0) (.int .i64 (n : Int))).events Try.prog w #[] = #[]) :
    stepG Try.prog main (G (b.at a (.inRegion ops (i :: rest) :: kk)) cs) w = .go (G (b.at (a.put o.dst (.slice (some ⟨w.heap.size, 0, none⟩) 0 n)) (.inRegion ops rest :: kk)) cs) (w.alloc ob) #[] := by
  have hr : (execOp a.eval o).run Try.prog w = .ok (.value (.slice (some ⟨w.heap.size, 0, none⟩) 0 n)) (w.alloc ob) := by
    unfold execOp
    simp only [hop, hx, show a.eval (.const (.int .i64 0)) = .int .i64 0 from rfl]
    simp only [h1, Sem.run_bind, Result.andThen_ok, Sem.run_pure]
  have he : (execOp a.eval o).events Try.prog w #[] = #[] := by
    unfold execOp
    simp only [hop, hx, show a.eval (.const (.int .i64 0)) = .int .i64 0 from rfl]
    simp only [h1, h2, Sem.events_bind, Result.evThen_ok, Sem.events_pure]
  rw [stepG_value ho hw hk hr]
  unfold listed
  rw [he, seen_none]
end
section
variable {Y : Lay} {Held : List Nat → World → Prop} {F : Nat → Prop} {Kn : World → Prop} {k : Nat} {lg : List Nat} {bs : Option Addr} {ns vs : List Int} {cap : Nat}
variable {b₀ : Frame} {a₀ : Act} {ops₀ : Array Oper} {i₀ : Nat} {rest₀ : List Nat} {k₀ : List Item} {cs : List Frame}
set_option maxRecDepth 100000 in
set_option maxHeartbeats 16000000 in
/-- ████ valuesOf ████ -/
theorem valuesGo (K : KnL Y 92 99 F Kn) (hH : ∀ l (v v' : World), v'.heap[Y.Mp]? = v.heap[Y.Mp]? → Held l v → Held l v') (hn : ns.length ≤ 20) (hv : vs.length = ns.length)
    (hRd : ∀ w, Kn w → ∀ (j : Nat) (n : Int), ns[j]? = some n → ∃ ad, bs = some ad ∧ w.cell? (ad.add j) = some (.int .i64 n) ∧ Y.Ro (.cell (ad.add j)))
    (hLook : ∀ l0 w, KnO Held Kn l0 w → ∃ l, MpAt Y.Mp w l ∧ ∀ (j : Nat) (n v : Int), ns[j]? = some n → vs[j]? = some v → look l n = some v)
    (hT : ∀ (F' : Nat → Prop) (B : Nat), (∀ f, F f → F' f) → F' B → ∀ d l0, ∃ m, ∀ w, Kb Y Kn F' B (.cells (vs.map (Value.int .i64)).toArray 2 (0, 0)) w → Goes Try.prog false (RF Y 92 99 F' false) (DF Y (Y.b + 1 + k) F' false false) (AtW Try.prog Y 92 99 Held d k .af F' l0) m (G (b₀.at (a₀.put ((ops₀[i₀]?).bind (·.dst)) (.slice (some ⟨B, 0, none⟩) ns.length ns.length)) (.inRegion ops₀ rest₀ :: k₀)) cs) w) (hk0 : b₀.kind ≠ .early) :
    ∀ d w, Kn w → Goes Try.prog false (RF Y 92 99 F false) DC0 (AtW Try.prog Y 92 99 Held d k (.k1 .ld) F lg) 80 (G ((base 62).at ⟨#[.pointer (some ⟨Y.Lg, 0, none⟩), .slice bs ns.length cap, undef, undef, undef, undef, undef, undef, undef, undef, undef, undef, undef, undef, undef, undef, undef, undef, undef, undef, undef, undef, undef, undef, undef, undef, undef, undef, undef, undef, undef, undef, undef, undef, undef], []⟩ [.code body62]) (b₀.at a₀ (.inRegion ops₀ (i₀ :: rest₀) :: k₀) :: cs)) w := by
  intro d w hF
  have hHead := fun l0 => headV (l0 := l0) (cap := cap) (b₀ := b₀) (a₀ := a₀) (ops₀ := ops₀) (i₀ := i₀) (rest₀ := rest₀) (k₀ := k₀) (cs := cs) (k := k) K hH hn hv hRd (hLook l0) (fun F' B h1 h2 d => hT F' B h1 h2 d l0) hk0
  simp only [HeadV, LV, RV, loopOf, sndS, body62, Try.f62, Option.getD_some] at hHead
  simp only [body62, Try.f62, Option.getD_some]
  repeat w_go K.rl
  u_call Try.func84 nm84 Try.f84 K.rl hF
  have hLk := fun (b₁ : Frame) (a₁ : Act) (ops₁ : Array Oper) (i₁ : Nat) (rest₁ : List Nat) (k₁ : List Item) (cs₁ : List Frame) => lockAll (b₁ := b₁) (a₁ := a₁) (ops₁ := ops₁) (i₁ := i₁) (rest₁ := rest₁) (k₁ := k₁) (cs₁ := cs₁) (s := false) (k := k) (lg := lg) (xc := .mk ns.length) (Held := Held) (F := F) K hH (fun sh => .lka (by omega)) (by simp) rfl
  simp only [body84, Try.f84, Option.getD_some] at hLk
  refine goes_le (by omega) (hLk _ _ _ _ _ _ _ (by k_ne) (fun d l0 => ?_) d _ hF)
  clear hLk hF
  refine ⟨100 + 100, fun w hF => ?_⟩
  refine goes_idle (m := 100) (n := 100) (fun w => .idle w) (fun w => .refl w) ?_
  walk_nrm
  repeat w_go (KnO.rl K hH)
  u_defer (KnO.rl K hH) hF
  repeat w_go (KnO.rl K hH)
  -- STOP mk: the row
  refine Goes.stop (fun w r => ?_)
  replace hF := KnO.rl K hH hF r
  clear r
  refine Goes.stop (fun w r => ?_)
  replace hF := KnO.rl K hH hF r
  clear r
  rcases d with _ | d
  · trivial
  obtain ⟨cur, hcs, hm1, hm2⟩ := run_make1 (w := w) (n := ns.length) (by omega)
  refine mkStop (by omega) rfl rfl fun sh hsh => ⟨_, _, stepG_makeR rfl rfl (by k_ne) rfl rfl hm1 hm2, 200 + 60, ?_⟩
  have hlo := K.low hF.kn
  have r1 : RF Y 92 99 F true w (w.alloc (.cells cur 2 (0, 0))) := RF.alloc (fun f h => (hlo.2 f h).2) hlo.1 _
  have hsz : (w.alloc (.cells cur 2 (0, 0))).heap.size = w.heap.size + 1 := by show (w.heap.push _).size = _; simp
  have hs2 : ∀ f, F f → addB F true w.heap.size f := fun f h => .inl h
  have hB2 : addB F true w.heap.size w.heap.size := .inr ⟨rfl, rfl⟩
  have K2 := K.kb (B := w.heap.size) (ob := .cells cur 2 (0, 0)) hs2 hB2
  replace hF : KnO Held (Kb Y Kn (addB F true w.heap.size) w.heap.size (.cells cur 2 (0, 0))) l0 (w.alloc (.cells cur 2 (0, 0))) :=
    ⟨⟨K.rl' hF.kn r1, fun f hf => hf.elim (fun h => ⟨(hlo.2 f h).1, by rw [hsz]; have := (hlo.2 f h).2; omega⟩) (fun ⟨_, e⟩ => by rw [e, hsz]; exact ⟨hlo.1, by omega⟩), heap_alloc_new w _⟩, hH _ _ _ (r1.keep rfl) hF.held⟩
  have hBN := hlo.1
  have hBF : ¬ F w.heap.size := fun h => by have := (hlo.2 _ h).2; omega
  generalize w.heap.size = B at *
  generalize addB F true B = F2 at *
  clear r1 hsh hsz hm1 hm2 hlo
  refine goes_idle (m := 200) (n := 60) (fun w => .idle w) (fun w => .refl w) ?_
  walk_nrm
  repeat (w_but "code.loop" (KnO.rl K2 hH))
  u_c stepG_loop (KnO.rl K2 hH) hF
  refine Goes.stop (fun w r => ?_)
  replace hF := KnO.rl K2 hH hF r
  clear r
  exact hHead l0 ns.length d F2 B cur 0 hs2 hB2 hBN hBF hcs (by omega) (by simp) _ _ _ _ _ _ _ _ _ _ _ _ _ _ _ _ _ _ _ _ _ _ _ _ _ _ _ _ _ _ _ hF
end
end Go.Proofs.Ytpmmimcafkillaa.Tr

set_option linter.unusedVariables false
set_option linter.unusedSimpArgs false
namespace Go.Proofs.Ytpmmimcafkillaa.Tr
open Go Go.Conc Go.ConcN Go.RowKit Go.Conc.Lib Go.ConcR.Gen Go.ConcM
open Go.ConcR (KK wgBlock WgAt stA smA rd wr mk DC0)
open Go.Proofs.Ytpmmimcafkillaa.Mx
open Go.Proofs.Ytpmmimcafkillaa.Mx (Mu St)
theorem loud59 : (Try.prog.funcs[(baseD 59).fn]?).any (·.norace) = false := by kernel_rfl
theorem u24 : Try.prog.underlying 24 = some (.slice 33) := by kernel_rfl
theorem i33' : (Try.prog.info? 33).map (fun i => decide (i.size = 4)) = some true := by kernel_rfl
theorem i33 : ∃ i : TypeInfo, Try.prog.info? 33 = some i ∧ i.size = 4 := by
  have h := i33'
  rcases hi : Try.prog.info? 33 with _ | i
  · rw [hi] at h; cases h
  · rw [hi] at h
    exact ⟨i, rfl, by simpa using h⟩
section
variable {main : Bool} {b : Frame} {a : Act} {kk : List Item} {cs : List Frame} {w : World} {ops : Array Oper} {i : Nat} {rest : List Nat} {o : Oper}
theorem stepG_load78 {x : Operand} (ho : ops[i]? = some o) (hw : Region.wanted o (yielded ops a.tmps) = true) (hk : b.kind ≠ .early) (hop : o.op = .load 78 x)
    {ad : Addr} {v : Value} (hx : a.eval x = .pointer (some ad)) (hc : w.cell? ad = some v) (hq : (Try.prog.funcs[b.fn]?).any (·.norace) = false) :
    stepG Try.prog main (G (b.at a (.inRegion ops (i :: rest) :: kk)) cs) w = .go (G (b.at (a.put o.dst v) (.inRegion ops rest :: kk)) cs) w #[⟨.cell ad, false, false⟩] := by
  have hr : (execOp a.eval o).run Try.prog w = .ok (.value v) w := by
    unfold execOp
    simp only [hop, hx]
    simp [go_sem, hc]
  have he : (execOp a.eval o).events Try.prog w #[] = #[⟨.cell ad, false, false⟩] := by
    unfold execOp
    simp only [hop, hx]
    simp [go_sem, hc]
  rw [stepG_value ho hw hk hr]
  unfold listed
  rw [he, seen_eq hq (by simp)]
theorem stepG_load64 {x : Operand} (ho : ops[i]? = some o) (hw : Region.wanted o (yielded ops a.tmps) = true) (hk : b.kind ≠ .early) (hop : o.op = .load 64 x)
    {ad : Addr} {v : Value} (hx : a.eval x = .pointer (some ad)) (hc : w.cell? ad = some v) (hq : (Try.prog.funcs[b.fn]?).any (·.norace) = false) :
    stepG Try.prog main (G (b.at a (.inRegion ops (i :: rest) :: kk)) cs) w = .go (G (b.at (a.put o.dst v) (.inRegion ops rest :: kk)) cs) w #[⟨.cell ad, false, false⟩] := by
  have hr : (execOp a.eval o).run Try.prog w = .ok (.value v) w := by
    unfold execOp
    simp only [hop, hx]
    simp [go_sem, hc]
  have he : (execOp a.eval o).events Try.prog w #[] = #[⟨.cell ad, false, false⟩] := by
    unfold execOp
    simp only [hop, hx]
    simp [go_sem, hc]
  rw [stepG_value ho hw hk hr]
  unfold listed
  rw [he, seen_eq hq (by simp)]
theorem stepG_load24 {x : Operand} (ho : ops[i]? = some o) (hw : Region.wanted o (yielded ops a.tmps) = true) (hk : b.kind ≠ .early) (hop : o.op = .load 24 x)
    {ad : Addr} {v : Value} (hx : a.eval x = .pointer (some ad)) (hc : w.cell? ad = some v) (hq : (Try.prog.funcs[b.fn]?).any (·.norace) = false) :
    stepG Try.prog main (G (b.at a (.inRegion ops (i :: rest) :: kk)) cs) w = .go (G (b.at (a.put o.dst v) (.inRegion ops rest :: kk)) cs) w #[⟨.cell ad, false, false⟩] := by
  have hr : (execOp a.eval o).run Try.prog w = .ok (.value v) w := by
    unfold execOp
    simp only [hop, hx]
    simp [go_sem, hc]
  have he : (execOp a.eval o).events Try.prog w #[] = #[⟨.cell ad, false, false⟩] := by
    unfold execOp
    simp only [hop, hx]
    simp [go_sem, hc]
  rw [stepG_value ho hw hk hr]
  unfold listed
  rw [he, seen_eq hq (by simp)]
theorem stepG_load29 {x : Operand} (ho : ops[i]? = some o) (hw : Region.wanted o (yielded ops a.tmps) = true) (hk : b.kind ≠ .early) (hop : o.op = .load 29 x)
    {ad : Addr} {v : Value} (hx : a.eval x = .pointer (some ad)) (hc : w.cell? ad = some v) (hq : (Try.prog.funcs[b.fn]?).any (·.norace) = false) :
    stepG Try.prog main (G (b.at a (.inRegion ops (i :: rest) :: kk)) cs) w = .go (G (b.at (a.put o.dst v) (.inRegion ops rest :: kk)) cs) w #[⟨.cell ad, false, false⟩] := by
  have hr : (execOp a.eval o).run Try.prog w = .ok (.value v) w := by
    unfold execOp
    simp only [hop, hx]
    simp [go_sem, hc]
  have he : (execOp a.eval o).events Try.prog w #[] = #[⟨.cell ad, false, false⟩] := by
    unfold execOp
    simp only [hop, hx]
    simp [go_sem, hc]
  rw [stepG_value ho hw hk hr]
  unfold listed
  rw [he, seen_eq hq (by simp)]
/-- a task's place -/
theorem stepG_task {x y : Operand} (ho : ops[i]? = some o) (hw : Region.wanted o (yielded ops a.tmps) = true) (hk : b.kind ≠ .early) (hop : o.op = .indexAddr 24 x y)
    {ad : Addr} {n c j : Nat} (hx : a.eval x = .slice (some ad) n c) (hy : a.eval y = .int .i64 (j : Int)) (hj : j < n) :
    stepG Try.prog main (G (b.at a (.inRegion ops (i :: rest) :: kk)) cs) w = .go (G (b.at (a.put o.dst (.pointer (some (ad.add (j * 4))))) (.inRegion ops rest :: kk)) cs) w #[] := by
  obtain ⟨ii, hi, hs⟩ := i33
  have h1 : ¬ ((j : Int) < 0) := by omega
  have h2 : (j : Int) < (n : Int) := by omega
  have hr : (execOp a.eval o).run Try.prog w = .ok (.value (.pointer (some (ad.add (j * 4))))) w := by
    unfold execOp
    simp only [hop, hx, hy]
    simp [go_sem, Instr.indexAt, run_underlying u24, sizeOf, typeInfo, hi, hs, h1, h2, hj, Result.andThen]
  have he : (execOp a.eval o).events Try.prog w #[] = #[] := by
    unfold execOp
    simp only [hop, hx, hy]
    simp [go_sem, Instr.indexAt, run_underlying u24, sizeOf, typeInfo, hi, hs, h1, h2, hj, Result.andThen, Result.evThen]
  rw [stepG_value ho hw hk hr]
  unfold listed
  rw [he, seen_none]
theorem stepG_field {x : Operand} (ho : ops[i]? = some o) (hw : Region.wanted o (yielded ops a.tmps) = true) (hk : b.kind ≠ .early) (hop : o.op = .fieldAddr 33 x 2)
    {ad : Addr} (hx : a.eval x = .pointer (some ad)) :
    stepG Try.prog main (G (b.at a (.inRegion ops (i :: rest) :: kk)) cs) w = .go (G (b.at (a.put o.dst (.pointer (some (ad.add 2)))) (.inRegion ops rest :: kk)) cs) w #[] := by
  have hr : (execOp a.eval o).run Try.prog w = .ok (.value (.pointer (some (ad.add 2)))) w := by
    unfold execOp
    simp only [hop, hx]
    simp [go_sem]
  have he : (execOp a.eval o).events Try.prog w #[] = #[] := by
    unfold execOp
    simp only [hop, hx]
    simp [go_sem]
  rw [stepG_value ho hw hk hr]
  unfold listed
  rw [he, seen_none]
end
end Go.Proofs.Ytpmmimcafkillaa.Tr
