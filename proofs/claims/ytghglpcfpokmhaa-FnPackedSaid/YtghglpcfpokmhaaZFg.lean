/-
  The starter, digestsOf, from the head of its loop: what it knows of the world; the loop that starts the workers; the wait; whoever stands below.
  The starter: the loop that starts the workers, by induction on how many are still to be started, whoever stands below.
  The starter's return, with nobody below and with the two frames of Cw below; what is asked of the anchor at Wait's loop.
  The starter ahead of its first worker: what its steps list.
-/
import Derived.Test.YtghglpcfpokmhaaZFc
import Derived.Conc.CrowdMono
import Derived.Laws.MakeOwn
set_option linter.unusedVariables false
set_option linter.unusedSimpArgs false
namespace Go.Proofs.Ytghglpcfpokmhaa.Wk
open Go Go.Conc Go.ConcN Go.RowKit Go.Conc.Lib Go.ConcR.Gen Go.ConcN.Gen
open Go.ConcR (KK wgBlock WgAt stA smA rd wr mk Payload Aside2 DC0 ofEvent_cell)

structure CI (N : Nat) (W : World) (n B s : Nat) (vi vx : Option Value) (w : World) : Prop where
  below : Below N W w
  lo : N + 3 ≤ B
  size : w.heap.size = B + s
  outv : w.cell? ⟨N + 1, 0, none⟩ = some (.slice (some ⟨N, 0, none⟩) n n)
  ci : ∀ v, vi = some v → w.heap[B]? = some (.cells #[v] 3)
  cx : ∀ v, vx = some v → w.heap[B + 1]? = some (.cells #[v] 22)

section
variable {N : Nat} {W : World} {n B s : Nat} {vi vx : Option Value} {w w₁ : World}
theorem CI.aside2 (h : CI N W n B s vi vx w) (ha : Aside2 N (N + 2) w w₁) : CI N W n B s vi vx w₁ :=
  ⟨⟨ha.os.trans h.below.os, ha.tape.trans h.below.tape, ha.output.trans h.below.output, by rw [ha.size]; exact h.below.size, fun k hk => (ha.block k (by omega) (by omega)).trans (h.below.block k hk)⟩, h.lo, by rw [ha.size]; exact h.size,
    (cell_of_block (ha.block (N + 1) (by omega) (by omega)) 0).trans h.outv, fun v e => (ha.block B (by have := h.lo; omega) (by have := h.lo; omega)).trans (h.ci v e), fun v e => (ha.block (B + 1) (by have := h.lo; omega) (by have := h.lo; omega)).trans (h.cx v e)⟩
theorem ci_rely (h : CI N W n B s vi vx w ∧ WgLive 70 (N + 2) w) (r : RC 70 (N + 2) N w w₁) : CI N W n B s vi vx w₁ ∧ WgLive 70 (N + 2) w₁ := ⟨h.1.aside2 r.aside, r.live h.2⟩
theorem live_low {Low : Nat} (h : WgLive 70 (N + 2) w) (hl : ∀ b, b < Low → w₁.heap[b]? = w.heap[b]?) (hL : N + 2 < Low) : WgLive 70 (N + 2) w₁ := let ⟨st, sm, x⟩ := h; ⟨st, sm, x.of_block (hl _ hL)⟩
theorem low_alloc (h : w.heap.size = B + s) (o : Obj) : ∀ b, b < B → (w.alloc o).heap[b]? = w.heap[b]? := fun b hb => Below.heap_alloc _ _ _ (by omega)
theorem low_set (a : Addr) (v : Value) (ha : B ≤ a.block) : ∀ b, b < B → (w.setCell a v).heap[b]? = w.heap[b]? := fun b hb => (aside_setCell w a v).block b (by omega)

theorem CI.alloc1 (h : CI N W n B 0 none none w) (v : Value) : CI N W n B 1 (some v) none (w.alloc (.cells #[v] 3)) := by
  have hs := h.size
  refine ⟨h.below.alloc (by have := h.lo; omega) _, h.lo, by simp [hs], (cell_of_block (Below.heap_alloc _ _ _ (by have := h.lo; omega)) 0).trans h.outv, fun u e => ?_, fun u e => by cases e⟩
  cases e
  have := heap_alloc_new w (.cells #[v] 3)
  rwa [hs] at this
theorem CI.alloc2 {u : Value} (h : CI N W n B 1 (some u) none w) (v : Value) : CI N W n B 2 (some u) (some v) (w.alloc (.cells #[v] 22)) := by
  have hs := h.size
  refine ⟨h.below.alloc (by have := h.lo; omega) _, h.lo, by simp [hs], (cell_of_block (Below.heap_alloc _ _ _ (by have := h.lo; omega)) 0).trans h.outv, fun u' e => (Below.heap_alloc _ _ _ (by omega)).trans (h.ci u' e), fun u' e => ?_⟩
  cases e
  have := heap_alloc_new w (.cells #[v] 22)
  rwa [hs] at this
theorem heap_set1 {b : Nat} {u : Value} {t : TypeId} (h : w.heap[b]? = some (.cells #[u] t)) (v : Value) : (w.setCell ⟨b, 0, none⟩ v).heap[b]? = some (.cells #[v] t) := by
  rw [setCell_eq_setRow w b 0 #[u] t (0, 0) _ h, setRow_heap w b _ _ t _ h]
  simp
theorem CI.store1 {u : Value} (h : CI N W n B 2 (some u) vx w) (v : Value) : CI N W n B 2 (some v) vx (w.setCell ⟨B, 0, none⟩ v) := by
  have hA := aside_setCell w ⟨B, 0, none⟩ v
  have hlo := h.lo
  refine ⟨⟨hA.os.trans h.below.os, hA.tape.trans h.below.tape, hA.output.trans h.below.output, by rw [hA.size]; exact h.below.size, fun k hk => (hA.block k (by simp; omega)).trans (h.below.block k hk)⟩, h.lo, by rw [hA.size]; exact h.size,
    (cell_of_block (hA.block (N + 1) (by simp; omega)) 0).trans h.outv, fun u' e => ?_, fun u' e => (hA.block (B + 1) (by simp)).trans (h.cx u' e)⟩
  cases e
  exact heap_set1 (h.ci u rfl) v
theorem CI.store2 {u : Value} (h : CI N W n B 2 vi (some u) w) (v : Value) : CI N W n B 2 vi (some v) (w.setCell ⟨B + 1, 0, none⟩ v) := by
  have hA := aside_setCell w ⟨B + 1, 0, none⟩ v
  have hlo := h.lo
  refine ⟨⟨hA.os.trans h.below.os, hA.tape.trans h.below.tape, hA.output.trans h.below.output, by rw [hA.size]; exact h.below.size, fun k hk => (hA.block k (by simp; omega)).trans (h.below.block k hk)⟩, h.lo, by rw [hA.size]; exact h.size,
    (cell_of_block (hA.block (N + 1) (by simp; omega)) 0).trans h.outv, fun u' e => (hA.block B (by simp)).trans (h.ci u' e), fun u' e => ?_⟩
  cases e
  exact heap_set1 (h.cx u rfl) v
theorem CI.next (h : CI N W n B 2 vi vx w) : CI N W n (B + 2) 0 none none w := ⟨h.below, (by have := h.lo; omega), h.size, h.outv, fun _ e => (by cases e), fun _ e => (by cases e)⟩
theorem cell_of_one {b : Nat} {u : Value} {t : TypeId} (h : w.heap[b]? = some (.cells #[u] t)) : w.cell? ⟨b, 0, none⟩ = some u ∧ w.frozen? ⟨b, 0, none⟩ = false := ⟨by simp [World.cell?, h], by simp [World.frozen?, h]⟩
end

@[go_sem] theorem run_makeFunc' (P : Program) (fn : Fn) (first cap : Array Value) (w : World) : (Instr.makeFunc fn first cap).run P w = .ok (.func fn first cap) w := rfl
@[go_sem] theorem events_makeFunc' (P : Program) (fn : Fn) (first cap : Array Value) (w : World) (es : Array Event) : (Instr.makeFunc fn first cap).events P w es = es := rfl
@[go_sem] theorem events_store_slice (P : Program) (w : World) (es : Array Event) (a : Addr) (m : Mode) (b : Option Addr) (l c : Nat) : (store a (.slice b l c) m).events P w es = storedEv P w es a (.slice b l c) m := events_store P w es a _ m rfl
theorem add_block (a : Addr) (n : Nat) : (a.add n).block = a.block := by unfold Addr.add; split <;> rfl
theorem loud66 : (Try.prog.funcs[(base 17).fn]?).any (·.norace) = false := by kernel_rfl
section
variable {main : Bool} {b : Frame} {a : Act} {kk : List Item} {cs : List Frame} {w : World} {ops : Array Oper} {i : Nat} {rest : List Nat} {o : Oper}
/-- A PLAIN STORE OF AN int, AS ONE STEP. -/
theorem stepG_store3 {x y : Operand} (ho : ops[i]? = some o) (hw : Region.wanted o (yielded ops a.tmps) = true) (hk : b.kind ≠ .early) (hop : o.op = .store 3 x y)
    {ad : Addr} {v : Int} {u : Value} (hx : a.eval x = .pointer (some ad)) (hy : a.eval y = .int .i64 v) (hc : w.cell? ad = some u) (hz : w.frozen? ad = false) (hq : (Try.prog.funcs[b.fn]?).any (·.norace) = false) :
    stepG Try.prog main (G (b.at a (.inRegion ops (i :: rest) :: kk)) cs) w = .go (G (b.at (a.put o.dst undef) (.inRegion ops rest :: kk)) cs) (w.setCell ad (.int .i64 v)) #[⟨.cell ad, true, false⟩] := by
  have hr : (execOp a.eval o).run Try.prog w = .ok .skip (w.setCell ad (.int .i64 v)) := by
    unfold execOp
    simp only [hop, hx, hy]
    simp [go_sem, stored, hc, hz]
  have he : (execOp a.eval o).events Try.prog w #[] = #[⟨.cell ad, true, false⟩] := by
    unfold execOp
    simp only [hop, hx, hy]
    simp [go_sem, storedEv, hc, hz]
  rw [stepG_none ho hw hk hr]
  unfold listed
  rw [he, seen_eq hq (by simp)]
/-- A PLAIN STORE OF A LIST OF BYTES, AS ONE STEP. -/
theorem stepG_store22 {x y : Operand} (ho : ops[i]? = some o) (hw : Region.wanted o (yielded ops a.tmps) = true) (hk : b.kind ≠ .early) (hop : o.op = .store 22 x y)
    {ad : Addr} {p : Option Addr} {l c : Nat} {u : Value} (hx : a.eval x = .pointer (some ad)) (hy : a.eval y = .slice p l c) (hc : w.cell? ad = some u) (hz : w.frozen? ad = false) (hq : (Try.prog.funcs[b.fn]?).any (·.norace) = false) :
    stepG Try.prog main (G (b.at a (.inRegion ops (i :: rest) :: kk)) cs) w = .go (G (b.at (a.put o.dst undef) (.inRegion ops rest :: kk)) cs) (w.setCell ad (.slice p l c)) #[⟨.cell ad, true, false⟩] := by
  have hr : (execOp a.eval o).run Try.prog w = .ok .skip (w.setCell ad (.slice p l c)) := by
    unfold execOp
    simp only [hop, hx, hy]
    simp [go_sem, stored, hc, hz]
  have he : (execOp a.eval o).events Try.prog w #[] = #[⟨.cell ad, true, false⟩] := by
    unfold execOp
    simp only [hop, hx, hy]
    simp [go_sem, storedEv, hc, hz]
  rw [stepG_none ho hw hk hr]
  unfold listed
  rw [he, seen_eq hq (by simp)]
end

noncomputable def body66 : Code := Try.f17.body.getD .skip
noncomputable def L66 : Code := match body66 with | .seq _ (.seq _ (.seq _ (.seq (.seq _ (.block _ (.loop c))) _))) => c | _ => .skip
noncomputable def R66 : Code := match body66 with | .seq _ (.seq _ (.seq _ (.seq _ r))) => r | _ => .skip
noncomputable def ops9 : Array Oper := match R66 with | .seq (.region _ ops _) _ => ops | _ => #[]
noncomputable def tail9 : Code := match R66 with | .seq _ r => r | _ => .skip
theorem array23 (T : Array Value) (h : T.size = 23) : ∃ v0 v1 v2 v3 v4 v5 v6 v7 v8 v9 v10 v11 v12 v13 v14 v15 v16 v17 v18 v19 v20 v21 v22 : Value, T = #[v0, v1, v2, v3, v4, v5, v6, v7, v8, v9, v10, v11, v12, v13, v14, v15, v16, v17, v18, v19, v20, v21, v22] :=
  ⟨T[0], T[1], T[2], T[3], T[4], T[5], T[6], T[7], T[8], T[9], T[10], T[11], T[12], T[13], T[14], T[15], T[16], T[17], T[18], T[19], T[20], T[21], T[22], by
    apply Array.ext
    · simpa using h
    · intro i h1 h2
      have hi : i < 23 := by simpa using h2
      rcases i with _ | _ | _ | _ | _ | _ | _ | _ | _ | _ | _ | _ | _ | _ | _ | _ | _ | _ | _ | _ | _ | _ | _ | i
      all_goals first | rfl | omega⟩

/-- One body as the starter finds it. -/
structure El where
  p : Option Addr
  cap : Nat
  l : List Int
def El.v (e : El) : Value := .slice e.p e.l.length e.cap
def val (zs : List El) (j : Nat) : Value := .int .i64 (dig ((zs[j]?.map (·.l)).getD []))
def valsE (zs : List El) (n : Nat) : List Value := (List.range n).map (val zs)
theorem valsE_length {zs : List El} {n : Nat} : (valsE zs n).length = n := by simp [valsE]
theorem valsE_get {zs : List El} {n : Nat} (i : Nat) (hi : i < n) : (valsE zs n)[i]? = some (val zs i) := by simp [valsE, hi]

section
variable (N : Nat) (S : Nat → Prop) (W : World) (n : Nat) (zs : List El) (O : Nat → Loc → Prop) (cs : List Frame)
/-- What the starter knows once all are started. -/
abbrev FE : World → Prop := CI N W n (N + 3 + 2 * n) 0 none none
noncomputable def cW (T : Array Value) : Frame := (base 17).at ⟨T, []⟩ (.inRegion ops9 (0 :: []) :: [.code tail9])
/-- THE ANCHOR AT THE HEAD OF Wait's LOOP. -/
def AnW (g : Goroutine) (w : World) : Prop := ∃ T : Array Value, T.size = 23 ∧ T[3]? = some (.pointer (some ⟨N + 1, 0, none⟩)) ∧ AnchWN link (FE N W n) (N + 2) (cW T) cs g w
/-- WHAT IS SAID AT THE RETURN. -/
def PostE (v : Value) (w' : World) : Prop := v = .slice (some ⟨N, 0, none⟩) n n ∧ Full N (valsE zs n) w' ∧ FE N W n w' ∧ WgLive 70 (N + 2) w'
abbrev GS (j : Nat) (Stop : Goroutine → World → Prop) (m : Nat) (g : Goroutine) (w : World) : Prop := Goes Try.prog true (RC 70 (N + 2) N) (DP (N + 2) O (Rd N S) j (Lw N j)) Stop m g w
abbrev SP (r : Nat) : Goroutine → World → Prop := Spawns Try.prog 70 (N + 2) N n O (Rd N S) (Lw N) (val zs) (Fin Try.prog 70 (N + 2) N n O (Rd N S) (Lw N) (AnW N W n cs)) r
/-- The next stop, r workers being still to be started. -/
def StopS : Nat → Goroutine → World → Prop
  | 0 => AtKd Try.prog 70 (N + 2) N n O (Rd N S) (Lw N n) (AnW N W n cs)
  | r + 1 => AtKdS Try.prog 70 (N + 2) N n O (Rd N S) (Lw N) (val zs) (n - (r + 1)) (SP N S W n zs O cs r)
theorem spawns_iff (r : Nat) (g : Goroutine) (w : World) : SP N S W n zs O cs r g w ↔ ∃ m, GS N S O (n - r) (StopS N S W n zs O cs r) m g w := by cases r <;> exact Iff.rfl
/-- THE ANCHOR AT THE HEAD OF THE FUNCTION's OWN LOOP: j workers are started. -/
def AnchS (a0 : Option Addr) (cap j : Nat) (g : Goroutine) : Prop :=
  ∃ T : Array Value, g = G ((base 17).at ⟨T, []⟩ [.code L66, .inLoop L66, .inBlock 0, .code R66]) cs ∧ T.size = 23 ∧ T[3]? = some (.pointer (some ⟨N + 1, 0, none⟩)) ∧ T[4]? = some (.pointer (some ⟨N + 2, 0, none⟩)) ∧
    T[11]? = some (.slice a0 n cap) ∧ T[12]? = some (.int .i64 n) ∧ T[13]? = some (.int .i64 j)
/-- The bodies, as the call finds them. -/
structure BodiesAt (a0 : Option Addr) : Prop where
  el : ∀ j e, zs[j]? = some e → ∃ b o, a0 = some ⟨b, o, none⟩ ∧ b < N ∧ ¬ S b ∧ W.cell? ⟨b, o + j, none⟩ = some e.v
  body : ∀ e ∈ zs, Bdy N S W e.p e.cap e.l
end

section
variable {N : Nat} {S : Nat → Prop} {W : World} {n : Nat} {zs : List El} {O : Nat → Loc → Prop} {cs : List Frame}
theorem fe2 {B s : Nat} {vi vx : Option Value} : ∀ w w', Aside2 N (N + 2) w w' → CI N W n B s vi vx w → CI N W n B s vi vx w' := fun _ _ h1 h2 => h2.aside2 h1

set_option maxRecDepth 100000 in
/-- BACK FROM wg.Wait: TO THE RETURN. -/
theorem afterWait (hS : ∀ b, S b → b < N) (hf : Fm N S O) {mT nn Low : Nat} {Rw : Nat → Loc → Prop} {vals : List Value} {Post : Value → World → Prop}
    (hret : ∀ T todo w, T[2]? = some (.slice (some ⟨N, 0, none⟩) n n) → FE N W n w ∧ WgLive 70 (N + 2) w → Goes Try.prog true (RC 70 (N + 2) N) (DP (N + 2) O Rw nn Low) (AtRet Try.prog (N + 2) N nn O Rw vals Post) mT (G { (base 17).at ⟨T, []⟩ todo with mode := .returning } cs) w)
    (T : Array Value) (hT : T.size = 23) (t3 : T[3]? = some (.pointer (some ⟨N + 1, 0, none⟩))) (w : World) (h1 : FE N W n w) (h2 : WgLive 70 (N + 2) w) :
    Goes Try.prog true (RC 70 (N + 2) N) (DP (N + 2) O Rw nn Low) (AtRet Try.prog (N + 2) N nn O Rw vals Post) (mT + 7) (G ((base 17).at ((⟨T, []⟩ : Act).put ((ops9[0]?).bind (·.dst)) (.tuple #[])) (.inRegion ops9 [] :: [.code tail9])) cs) w := by
  have hF := And.intro h1 h2
  obtain ⟨v0, v1, v2, v3, v4, v5, v6, v7, v8, v9, v10, v11, v12, v13, v14, v15, v16, v17, v18, v19, v20, v21, v22, rfl⟩ := array23 T hT
  simp only [List.getElem?_toArray, List.getElem?_cons_succ, List.getElem?_cons_zero, Option.some.injEq] at t3
  subst t3
  simp only [ops9, tail9, R66, body66, Try.f17, Option.getD_some]
  walk_nrm
  u_c stepG_region_end ci_rely hF
  u_c stepG_seq ci_rely hF
  u_reg ci_rely hF
  u_in ci_rely hF
  refine goes_oper_k rfl rfl (by decide) (fun K hK => ?_)
  have hc := hF.1.outv
  go_simp
  refine hK _ _ ⟨⟨fun _ _ => rfl, fun e he => ?_⟩, ?_⟩
  · have hm := mem_listed he
    simp [go_sem, *] at hm
    subst hm
    exact ev0_rd hf _ _ (by simp) (by simp) (fun hx => by have := hS _ hx; simp only at this; omega)
  clear hK K hc
  u_op ci_rely hF
  u_c stepG_region_end ci_rely hF
  u_c stepG_ret' ci_rely hF
  refine hret _ _ _ ?_ hF
  simp
end
end Go.Proofs.Ytghglpcfpokmhaa.Wk

set_option linter.unusedVariables false
set_option linter.unusedSimpArgs false
namespace Go.Proofs.Ytghglpcfpokmhaa.Wk
open Go Go.Conc Go.ConcN Go.RowKit Go.Conc.Lib Go.ConcR.Gen Go.ConcN.Gen
open Go.ConcR (KK wgBlock WgAt stA smA rd wr mk Payload Aside2 DC0 ofEvent_cell)
section
variable {N : Nat} {S : Nat → Prop} {W : World} {n : Nat} {zs : List El} {O : Nat → Loc → Prop} {cs : List Frame}
/-- FROM THE HEAD OF Wait's LOOP. -/
theorem anW_round (hS : ∀ b, S b → b < N) (hf : Fm N S O) {mT nn Low : Nat} {Rw : Nat → Loc → Prop} {vals : List Value} {Post : Value → World → Prop}
    (hret : ∀ T todo w, T[2]? = some (.slice (some ⟨N, 0, none⟩) n n) → FE N W n w ∧ WgLive 70 (N + 2) w → Goes Try.prog true (RC 70 (N + 2) N) (DP (N + 2) O Rw nn Low) (AtRet Try.prog (N + 2) N nn O Rw vals Post) mT (G { (base 17).at ⟨T, []⟩ todo with mode := .returning } cs) w)
    (g : Goroutine) (w : World) (h : AnW N W n cs g w) : ∃ m, Goes Try.prog true (RC 70 (N + 2) N) (DP (N + 2) O Rw nn Low) (AtW1 Try.prog 70 (N + 2) N nn O Rw Low vals (AnW N W n cs) Post) m g w := by
  obtain ⟨T, hT, t3, hA⟩ := h
  obtain ⟨m, hm⟩ := waitRoundN (L := link) (P := Try.prog) wgLib (C := N) (n := nn) (Low := Low) (Own := O) (Rd := Rw) (vals := vals) (Post := Post) (b₀ := base 17) (a₀ := ⟨T, []⟩) (ops₀ := ops9) (i₀ := 0) (rest₀ := []) (k₀ := [.code tail9]) (cs := cs) (mT := mT + 7) fe2 (afterWait hS hf hret T hT t3) g w hA
  exact ⟨m, goes_mono (fun _ _ y => AtW1.mono (fun _ _ z => ⟨T, hT, t3, z⟩) y) hm⟩

set_option maxRecDepth 100000 in
set_option maxHeartbeats 8000000 in
/-- ████ THE LOOP THAT STARTS THE WORKERS: j started, r to start. ████ -/
theorem spawnsFrom (hS : ∀ b, S b → b < N) (hf : Fm N S O) {a0 : Option Addr} {cap : Nat} (hz : zs.length = n) (hn : n ≤ 9223372036854775807) (hB : BodiesAt N S W zs a0) : ∀ (r j : Nat), j + r = n →
    ∃ f, ∀ (g : Goroutine) (w : World), AnchS N n cs a0 cap j g → CI N W n (N + 3 + 2 * j) 0 none none w ∧ WgLive 70 (N + 2) w → GS N S O j (StopS N S W n zs O cs r) f g w := by
  intro r
  induction r with
  | zero =>
    intro j hj
    obtain rfl : j = n := by omega
    refine ⟨9 + 1 + 3, ?_⟩
    rintro g w ⟨T, rfl, hT, t3, t4, t10, t11, t12⟩ hF
    obtain ⟨v0, v1, v2, v3, v4, v5, v6, v7, v8, v9, v10, v11, v12, v13, v14, v15, v16, v17, v18, v19, v20, v21, v22, rfl⟩ := array23 T hT
    simp only [List.getElem?_toArray, List.getElem?_cons_succ, List.getElem?_cons_zero, Option.some.injEq] at t3 t4 t10 t11 t12
    subst t3 t4 t10 t11 t12
    have hA := fun (a₀ : Act) (ops₀ : Array Oper) (i₀ : Nat) (rest₀ : List Nat) (k₀ : List Item) => waitStartN (L := link) (P := Try.prog) (Wg := N + 2) (C := N) (n := j) (Low := Lw N j) (Own := O) (Rd := Rd N S) (F := FE N W j) (b₀ := base 17) (a₀ := a₀) (ops₀ := ops₀) (i₀ := i₀) (rest₀ := rest₀) (k₀ := k₀) (cs := cs) wgLib fe2
    simp only [StopS, L66, R66, body66, body_wait, Try.f17, waitFn, Option.getD_some] at hA ⊢
    have hnl : ¬ ((j : Int) < (j : Int)) := by omega
    u_c stepG_seq ci_rely hF
    u_reg ci_rely hF
    u_op ci_rely hF
    u_c stepG_region_end ci_rely hF
    u_c stepG_seq ci_rely hF
    u_cond false ci_rely hF
    u_exit ci_rely hF
    u_c stepG_seq ci_rely hF
    u_reg ci_rely hF
    u_in ci_rely hF
    refine goes_call rfl rfl (by decide) rfl Try.func34 (nm_wait link) rfl ⟨by u_nil, ?_⟩
    walk_nrmf Try.f34
    refine goes_mono (fun _ _ y => AtKd.mono (fun _ _ z => ⟨_, ?_, ?_, z⟩) y) (hA _ _ _ _ _ _ hF)
    · simp
    · simp
  | succ r ih =>
    intro j hj
    obtain ⟨f₁, h₁⟩ := ih (j + 1) (by omega)
    have hjz : j < zs.length := by omega
    obtain ⟨el, hel⟩ : ∃ el, zs[j]? = some el := ⟨_, List.getElem?_eq_getElem hjz⟩
    obtain ⟨bb, bo, rfl, hbl, hbS, hbc⟩ := hB.el j el hel
    have hbd := hB.body el (List.mem_of_getElem? hel)
    have hval : val zs j = .int .i64 (dig el.l) := by simp [val, hel]
    obtain ⟨ep, ec, ell⟩ := el
    simp only [El.v] at hbc hbd hval
    refine ⟨21 + 1 + 12, ?_⟩
    rintro g w ⟨T, rfl, hT, t3, t4, t10, t11, t12⟩ hF
    obtain ⟨v0, v1, v2, v3, v4, v5, v6, v7, v8, v9, v10, v11, v12, v13, v14, v15, v16, v17, v18, v19, v20, v21, v22, rfl⟩ := array23 T hT
    simp only [List.getElem?_toArray, List.getElem?_cons_succ, List.getElem?_cons_zero, Option.some.injEq] at t3 t4 t10 t11 t12
    subst t3 t4 t10 t11 t12
    have ej : n - (r + 1) = j := by omega
    have hjn : j < n := by omega
    have hlt : (j : Int) < (n : Int) := by omega
    have hj0 : (0 : Int) ≤ (j : Int) := by omega
    obtain ⟨B, hB'⟩ : ∃ B, N + 3 + 2 * j = B := ⟨_, rfl⟩
    have hLw : Lw N j = B := by rw [← hB']; rfl
    rw [hB'] at hF
    have hA := fun (b₀ : Frame) (a₀ : Act) (ops₀ : Array Oper) (i₀ : Nat) (rest₀ : List Nat) (k₀ : List Item) (cs : List Frame) (mT : Nat) => addPosN (L := link) (P := Try.prog) (Wg := N + 2) (C := N) (n := n) (Own := O) (Rd := Rd N S) (Lw := Lw N) (val := val zs) (j := j) (Next := SP N S W n zs O cs r) (F := CI N W n B 2 (some (.int .i64 j)) (some (.slice ep ell.length ec))) (b₀ := b₀) (a₀ := a₀) (ops₀ := ops₀) (i₀ := i₀) (rest₀ := rest₀) (k₀ := k₀) (cs := cs) (mT := mT) wgLib fe2
    simp only [StopS, ej, L66, R66, body66, body_add, Try.f17, addFn, Option.getD_some] at hA ⊢
    u_c stepG_seq ci_rely hF
    u_reg ci_rely hF
    u_op ci_rely hF
    u_c stepG_region_end ci_rely hF
    u_c stepG_seq ci_rely hF
    u_cond true ci_rely hF
    u_c stepG_skip ci_rely hF
    u_c stepG_seq ci_rely hF
    u_c stepG_block ci_rely hF
    u_c stepG_seq ci_rely hF
    u_reg ci_rely hF
    u_op ci_rely hF
    u_op ci_rely hF
    -- bodies[j] is read
    u_in ci_rely hF
    refine goes_oper_k rfl rfl (by decide) (fun K hK => ?_)
    have hex := (World.cell?_of_block (hF.1.below.block bb hbl)).trans hbc
    go_simp
    refine hK _ _ ⟨⟨fun _ _ => rfl, fun e he => ?_⟩, ?_⟩
    · have hm := mem_listed he
      simp [go_sem, *] at hm
      subst hm
      exact ev0_rd hf _ _ (by simp only; omega) (by simp only; omega) hbS
    clear hK K hex
    -- this iteration's i and body are made
    u_in ci_rely hF
    refine goes_oper_k rfl rfl (by decide) (fun K hK => ?_)
    have hsz := hF.1.size
    go_simp
    refine hK _ _ ⟨⟨fun b hb => low_alloc hsz _ b (by rw [hLw] at hb; exact hb), fun e he => ?_⟩, ?_⟩
    · have hm := mem_listed he
      simp [go_sem, *] at hm
    clear hK K
    replace hF := And.intro (hF.1.alloc1 (.int .i64 0)) (live_low hF.2 (low_alloc hsz (.cells #[.int .i64 0] 3)) (by have := hF.1.lo; omega))
    clear hsz
    u_in ci_rely hF
    refine goes_oper_k rfl rfl (by decide) (fun K hK => ?_)
    have hsz := hF.1.size
    go_simp
    refine hK _ _ ⟨⟨fun b hb => low_alloc hsz _ b (by rw [hLw] at hb; exact hb), fun e he => ?_⟩, ?_⟩
    · have hm := mem_listed he
      simp [go_sem, *] at hm
    clear hK K
    replace hF := And.intro (hF.1.alloc2 (.slice none 0 0)) (live_low hF.2 (low_alloc hsz (.cells #[.slice none 0 0] 22)) (by have := hF.1.lo; omega))
    clear hsz
    -- .. and written
    u_in ci_rely hF
    obtain ⟨hu1, hu2⟩ := cell_of_one (hF.1.ci _ rfl)
    rw [stepG_store3 rfl rfl (by decide) rfl rfl rfl hu1 hu2 loud66]
    simp only [goes_go]
    refine ⟨⟨fun b hb => low_set ⟨B, 0, none⟩ _ (Nat.le_refl B) b (by rw [hLw] at hb; exact hb), fun e he => ?_⟩, ?_⟩
    · rw [Array.mem_singleton] at he
      subst he
      exact ev0_wr hS hf _ _ (by rw [hLw]; exact (Nat.le_refl B))
    replace hF := And.intro (hF.1.store1 (.int .i64 j)) (live_low hF.2 (low_set ⟨B, 0, none⟩ (.int .i64 j) (Nat.le_refl B)) (by have := hF.1.lo; omega))
    clear hu1 hu2
    walk_nrm
    u_in ci_rely hF
    obtain ⟨hu1, hu2⟩ := cell_of_one (hF.1.cx _ rfl)
    rw [stepG_store22 rfl rfl (by decide) rfl rfl rfl hu1 hu2 loud66]
    simp only [goes_go]
    refine ⟨⟨fun b hb => low_set ⟨B + 1, 0, none⟩ _ (Nat.le_succ B) b (by rw [hLw] at hb; exact hb), fun e he => ?_⟩, ?_⟩
    · rw [Array.mem_singleton] at he
      subst he
      exact ev0_wr hS hf _ _ (by rw [hLw]; exact (Nat.le_succ B))
    replace hF := And.intro (hF.1.store2 (.slice ep ell.length ec)) (live_low hF.2 (low_set ⟨B + 1, 0, none⟩ (.slice ep ell.length ec) (Nat.le_succ B)) (by have := hF.1.lo; omega))
    clear hu1 hu2
    walk_nrm
    u_c stepG_region_end ci_rely hF
    u_c stepG_seq ci_rely hF
    u_reg ci_rely hF
    -- wg.Add(1), IN COMPANY
    u_in ci_rely hF
    refine goes_call rfl rfl (by decide) rfl Try.func30 (nm_add link) rfl ⟨by u_nil, ?_⟩
    walk_nrmf Try.f30
    refine hA _ _ _ _ _ _ _ 3 ?_ _ hF
    clear hA hF
    intro w' h1 h2
    have hF := And.intro h1 h2
    clear h1 h2
    walk_nrm
    u_c stepG_region_end ci_rely hF
    u_reg ci_rely hF
    u_op ci_rely hF
    -- THE go STATEMENT
    refine Goes.stop (fun w₂ r₂ => ?_)
    replace hF := ci_rely hF r₂
    clear r₂
    subst hB'
    have e4 : N + 3 + 2 * j + 1 = N + 4 + 2 * j := by omega
    have hib := (cell_of_one (hF.1.ci _ rfl)).1
    have hxb := (cell_of_one (hF.1.cx _ rfl)).1
    rw [e4] at hxb
    simp only [e4]
    refine ⟨rfl, ?_⟩
    rw [stepG_spawn (d := call78 N j) (w' := w₂) (f := .func 31) (c := #[.pointer (some ⟨N + 2, 0, none⟩), .pointer (some ⟨N + 4 + 2 * j, 0, none⟩), .pointer (some ⟨N + 1, 0, none⟩), .pointer (some ⟨N + 3 + 2 * j, 0, none⟩)]) rfl rfl (by decide) (by simp [go_sem, call78, Deferred.ofValue]) rfl]
    generalize hL : listed _ _ _ _ _ = Lx
    have hLx : Lx = #[] := by
      rw [← hL]
      simp [listed, go_sem, seen, Deferred.ofValue]
      rfl
    subst hLx
    clear hL
    refine ⟨_, _, rfl, rfl, fun hpay => ?_, ?_⟩
    · rw [hval]
      exact works hf hjn hn hbd ⟨fun b hb => hF.1.below.block b hb, hF.1.outv, hib, hxb, hF.2, hpay⟩
    -- ON TO THE LOOP's HEAD
    refine (spawns_iff N S W n zs O cs r _ _).2 ⟨f₁ + 7, ?_⟩
    have e6 : n - r = j + 1 := by omega
    rw [e6]
    replace hF : CI N W n (N + 3 + 2 * (j + 1)) 0 none none w₂ ∧ WgLive 70 (N + 2) w₂ := ⟨by have := hF.1.next; rwa [show N + 3 + 2 * j + 2 = N + 3 + 2 * (j + 1) by omega] at this, hF.2⟩
    clear hib hxb
    have hwr : IntKind.i64.wrap ((j : Int) + 1) = ((j + 1 : Nat) : Int) := by rw [IntKind.wrap_i64]; omega
    walk_nrm
    u_c stepG_region_end ci_rely hF
    u_c stepG_inBlock ci_rely hF
    u_reg ci_rely hF
    u_op ci_rely hF
    u_op ci_rely hF
    u_c stepG_region_end ci_rely hF
    u_c stepG_inLoop ci_rely hF
    exact h₁ _ _ ⟨_, rfl, by simp, by simp, by simp, by simp, by simp, by simp⟩ hF
end
end Go.Proofs.Ytghglpcfpokmhaa.Wk

set_option linter.unusedVariables false
set_option linter.unusedSimpArgs false
namespace Go.Proofs.Ytghglpcfpokmhaa.Wk
open Go Go.Conc Go.ConcN Go.RowKit Go.Conc.Lib Go.ConcR.Gen Go.ConcN.Gen
open Go.ConcR (KK wgBlock WgAt stA smA rd wr mk Payload Aside2 DC0 ofEvent_cell)
open Go.Proofs.Ytghglpcfpokmhaa.Ct (s1 s2 s3 s4 Ask Dy Pn)
section
variable {N : Nat} {S : Nat → Prop} {W : World} {n : Nat} {zs : List El} {O Rw : Nat → Loc → Prop} {nn Low : Nat} {vals : List Value}
theorem ret0 {Post : Value → World → Prop} (hP : ∀ w, Full N vals w → FE N W n w ∧ WgLive 70 (N + 2) w → Post (.slice (some ⟨N, 0, none⟩) n n) w) (T : Array Value) (todo : List Item) (w : World) (h2 : T[2]? = some (.slice (some ⟨N, 0, none⟩) n n)) (hF : FE N W n w ∧ WgLive 70 (N + 2) w) :
    Goes Try.prog true (RC 70 (N + 2) N) (DP (N + 2) O Rw nn Low) (AtRet Try.prog (N + 2) N nn O Rw vals Post) 0 (G { (base 17).at ⟨T, []⟩ todo with mode := .returning } []) w := by
  refine Goes.stop (fun w₂ r₂ => ⟨rfl, fun hfull => ⟨.slice (some ⟨N, 0, none⟩) n n, #[], ?_, by simp, hP _ hfull (ci_rely hF r₂)⟩⟩)
  have : T.getD 2 undef = .slice (some ⟨N, 0, none⟩) n n := by simp [Array.getD_eq_getD_getElem?, h2]
  simp [G, stepG, unwind, doReturn, results, Frame.at, base, Try.func17, Try.f17, seen, GStep.after, this, h2]
theorem inits_no : Try.prog.inits.idxOf? Try.prog.funcs.size = none := by kernel_rfl
theorem ret1 (T : Array Value) (todo : List Item) (w : World) (h2 : T[2]? = some (.slice (some ⟨N, 0, none⟩) n n)) (hF : FE N W n w ∧ WgLive 70 (N + 2) w) :
    Goes Try.prog true (RC 70 (N + 2) N) (DP (N + 2) O Rw nn Low) (AtRet Try.prog (N + 2) N nn O Rw vals fun _ _ => True) 5 (G { (base 17).at ⟨T, []⟩ todo with mode := .returning } [s1 Try.prog, s2 Try.prog]) w := by
  have hq : (T.getD 2 undef) = .slice (some ⟨N, 0, none⟩) n n := by simp [Array.getD_eq_getD_getElem?, h2]
  refine Goes.step rfl fun w₁ _ => ?_
  have e : stepG Try.prog true (G { (base 17).at ⟨T, []⟩ todo with mode := .returning } [s1 Try.prog, s2 Try.prog]) w₁ = .go (G (s1 Try.prog) [s2 Try.prog]) w₁ #[] := by
    simp [G, stepG, unwind, doReturn, results, Frame.at, base, Try.func17, Try.f17, seen, GStep.after, hq, Ct.s1_finish]
  rw [e]
  refine ⟨by u_nil, ?_⟩
  refine Goes.step rfl fun w₁ _ => ?_
  rw [Ct.s_step1]
  refine ⟨by u_nil, ?_⟩
  refine Goes.step rfl fun w₁ _ => ?_
  rw [Ct.s_step2]
  refine ⟨by u_nil, ?_⟩
  refine Goes.step rfl fun w₁ _ => ?_
  obtain ⟨v, w', e, hh⟩ := Ct.s_step3 (P := Try.prog) (w := w₁)
  rw [e]
  refine ⟨⟨fun b _ => by rw [hh], by simp⟩, ?_⟩
  refine Goes.step rfl fun w₁ _ => ?_
  rw [Ct.s_step4]
  refine ⟨by u_nil, ?_⟩
  exact Goes.stop (fun w₂ _ => ⟨rfl, fun _ => ⟨v, #[], Ct.s_step5 inits_no v, by simp, trivial⟩⟩)

theorem anW_live {cs : List Frame} {g : Goroutine} {w : World} (h : AnW N W n cs g w) : g.status = .running ∧ ¬ Dy g ∧ ¬ Pn Try.prog g := by
  obtain ⟨T, _, _, T', rfl, _⟩ := h
  refine ⟨rfl, fun hd => ?_, fun hp => ?_⟩
  · obtain ⟨_, d, f, x, r, e, _⟩ := hd
    cases e
  · rcases hp with ⟨fr, ch, e, hm, _⟩ | ⟨ch, e⟩ | ⟨ch, e⟩
    · have h := congrArg (fun g => g.frame) e
      simp only [G] at h
      rw [← h] at hm
      exact absurd hm (by simp [Frame.at, base])
    · have h := congrArg (fun g => g.frame.mode) e
      exact absurd h (by simp [G, Frame.raise, s1, Frame.at, base])
    · have h := congrArg (fun g => g.frame.mode) e
      exact absurd h (by simp [G, Frame.raise, s2, Frame.at, base])
theorem ask0 (hS : ∀ b, S b → b < N) (hf : Fm N S O) : Ct.Ask Try.prog 70 (N + 2) N n O (Rd N S) (Lw N) (valsE zs n) (AnW N W n []) (PostE N W n zs) :=
  ⟨fun g w h => (anW_live h).1, fun g w h => (anW_live h).2, fun g w h => anW_round hS hf (ret0 fun w h1 h2 => ⟨rfl, h1, h2.1, h2.2⟩) g w h⟩
theorem ask1 (hS : ∀ b, S b → b < N) (hf : Fm N S O) : Ct.Ask Try.prog 70 (N + 2) N n O (Rd N S) (Lw N) (valsE zs n) (AnW N W n [s1 Try.prog, s2 Try.prog]) (fun _ _ => True) :=
  ⟨fun g w h => (anW_live h).1, fun g w h => (anW_live h).2, fun g w h => anW_round hS hf ret1 g w h⟩
end
end Go.Proofs.Ytghglpcfpokmhaa.Wk

set_option linter.unusedVariables false
set_option linter.unusedSimpArgs false
namespace Go.Proofs.Ytghglpcfpokmhaa.Wk
open Go Go.Conc Go.ConcN Go.RowKit Go.Conc.Lib Go.ConcR.Gen Go.ConcN.Gen
open Go.ConcR (KK wgBlock WgAt stA smA rd wr mk Payload Aside2 DC0 ofEvent_cell)
def RF : Nat → Loc → Prop := fun _ _ => False
section
variable {N : Nat} {S : Nat → Prop} {W : World} {n : Nat} {zs : List El} {O : Nat → Loc → Prop} {cs : List Frame} {w w₁ : World}
theorem aside22 (h : Aside2 (N + 2) (N + 2) w w₁) : Aside2 N (N + 2) w w₁ := ⟨h.tape, h.os, h.output, h.size, fun k _ h2 => h.block k h2 h2⟩
theorem ci_rely2 {B s : Nat} {vi vx : Option Value} (h : CI N W n B s vi vx w ∧ WgLive 70 (N + 2) w) (r : RC 70 (N + 2) (N + 2) w w₁) : CI N W n B s vi vx w₁ ∧ WgLive 70 (N + 2) w₁ := ⟨h.1.aside2 (aside22 r.aside), r.live h.2⟩
theorem ev0_wrF (hS : ∀ b, S b → b < N) (f : Fm N S O) (a : Addr) (s : Bool) (h : N + 3 ≤ a.block) {j : Nat} : Ev0 (N + 2) O RF j ⟨.cell a, true, s⟩ := by
  refine ⟨fun fn pos => ⟨rfl, fun y hy => ?_⟩, by simp, by simp, by simp⟩
  simp only [ofEvent_cell, MemAct.touch?, Option.some.injEq] at hy
  subst hy
  exact .inr ⟨fun ⟨a', e, hb⟩ => by cases e; omega, fun k _ _ hk => f.not k a (by omega) (fun hx => by have := hS _ hx; omega) hk, fun _ k _ _ hk => hk⟩
theorem pay_not (h : WgLive 70 (N + 2) w) : ¬ PayAt (N + 2) n w := fun ⟨cs, e, _⟩ => by
  obtain ⟨st, sm, h⟩ := h
  unfold WgAt wgBlock at h
  rw [h] at e
  simp only [Option.some.injEq, Obj.cells.injEq] at e
  exact absurd e.2.1 (by decide)
abbrev GF (Stop : Goroutine → World → Prop) (m : Nat) (g : Goroutine) (w : World) : Prop := Goes Try.prog true (RC 70 (N + 2) (N + 2)) (DP (N + 2) O RF 1 (N + 3)) Stop m g w

set_option maxRecDepth 100000 in
set_option maxHeartbeats 8000000 in
theorem firstIter (hS : ∀ b, S b → b < N) (hf : Fm N S O) {a0 : Option Addr} {cap j : Nat} (hz : zs.length = n) (hn : n ≤ 9223372036854775807) (hB : BodiesAt N S W zs a0) (hjn : j < n) (g : Goroutine) (w : World) (hA0 : AnchS N n cs a0 cap j g) (hF : CI N W n (N + 3 + 2 * j) 0 none none w ∧ WgLive 70 (N + 2) w) :
    ∃ m, Goes Try.prog true (RC 70 (N + 2) (N + 2)) (DP (N + 2) O RF 1 (N + 3)) (AtKdS Try.prog 70 (N + 2) (N + 2) n O RF (fun _ => N + 3) (val zs) 1 fun _ _ => True) m g w := by
  have hjz : j < zs.length := by omega
  obtain ⟨el, hel⟩ : ∃ el, zs[j]? = some el := ⟨_, List.getElem?_eq_getElem hjz⟩
  obtain ⟨bb, bo, rfl, hbl, hbS, hbc⟩ := hB.el j el hel
  obtain ⟨ep, ec, ell⟩ := el
  simp only [El.v] at hbc
  refine ⟨21 + 1 + 12, ?_⟩
  obtain ⟨T, rfl, hT, t3, t4, t10, t11, t12⟩ := hA0
  obtain ⟨v0, v1, v2, v3, v4, v5, v6, v7, v8, v9, v10, v11, v12, v13, v14, v15, v16, v17, v18, v19, v20, v21, v22, rfl⟩ := array23 T hT
  simp only [List.getElem?_toArray, List.getElem?_cons_succ, List.getElem?_cons_zero, Option.some.injEq] at t3 t4 t10 t11 t12
  subst t3 t4 t10 t11 t12
  have hlt : (j : Int) < (n : Int) := by omega
  have hj0 : (0 : Int) ≤ (j : Int) := by omega
  obtain ⟨B, hB'⟩ : ∃ B, N + 3 + 2 * j = B := ⟨_, rfl⟩
  have hlo : N + 3 ≤ B := by omega
  rw [hB'] at hF
  have hA := fun (b₀ : Frame) (a₀ : Act) (ops₀ : Array Oper) (i₀ : Nat) (rest₀ : List Nat) (k₀ : List Item) (cs : List Frame) (mT : Nat) => addPosN (L := link) (P := Try.prog) (Wg := N + 2) (C := N + 2) (n := n) (Own := O) (Rd := RF) (Lw := fun _ => N + 3) (val := val zs) (j := 1) (Next := fun _ _ => True) (F := CI N W n B 2 (some (.int .i64 j)) (some (.slice ep ell.length ec))) (b₀ := b₀) (a₀ := a₀) (ops₀ := ops₀) (i₀ := i₀) (rest₀ := rest₀) (k₀ := k₀) (cs := cs) (mT := mT) wgLib (fun _ _ h1 h2 => h2.aside2 (aside22 h1))
  simp only [L66, R66, body66, body_add, Try.f17, addFn, Option.getD_some] at hA ⊢
  u_c stepG_seq ci_rely2 hF
  u_reg ci_rely2 hF
  u_op ci_rely2 hF
  u_c stepG_region_end ci_rely2 hF
  u_c stepG_seq ci_rely2 hF
  u_cond true ci_rely2 hF
  u_c stepG_skip ci_rely2 hF
  u_c stepG_seq ci_rely2 hF
  u_c stepG_block ci_rely2 hF
  u_c stepG_seq ci_rely2 hF
  u_reg ci_rely2 hF
  u_op ci_rely2 hF
  u_op ci_rely2 hF
  -- bodies[j] is read
  u_in ci_rely2 hF
  refine goes_oper_k rfl rfl (by decide) (fun K hK => ?_)
  have hex := (World.cell?_of_block (hF.1.below.block bb hbl)).trans hbc
  go_simp
  refine hK _ _ ⟨⟨fun _ _ => rfl, fun e he => ?_⟩, ?_⟩
  · have hm := mem_listed he
    simp [go_sem, *] at hm
    subst hm
    exact ev0_rd hf _ _ (by simp only; omega) (by simp only; omega) hbS
  clear hK K hex
  -- this iteration's i and body are made
  u_in ci_rely2 hF
  refine goes_oper_k rfl rfl (by decide) (fun K hK => ?_)
  have hsz := hF.1.size
  go_simp
  refine hK _ _ ⟨⟨fun b hb => low_alloc hsz _ b (by omega), fun e he => ?_⟩, ?_⟩
  · have hm := mem_listed he
    simp [go_sem, *] at hm
  clear hK K
  replace hF := And.intro (hF.1.alloc1 (.int .i64 0)) (live_low hF.2 (low_alloc hsz (.cells #[.int .i64 0] 3)) (by have := hF.1.lo; omega))
  clear hsz
  u_in ci_rely2 hF
  refine goes_oper_k rfl rfl (by decide) (fun K hK => ?_)
  have hsz := hF.1.size
  go_simp
  refine hK _ _ ⟨⟨fun b hb => low_alloc hsz _ b (by omega), fun e he => ?_⟩, ?_⟩
  · have hm := mem_listed he
    simp [go_sem, *] at hm
  clear hK K
  replace hF := And.intro (hF.1.alloc2 (.slice none 0 0)) (live_low hF.2 (low_alloc hsz (.cells #[.slice none 0 0] 22)) (by have := hF.1.lo; omega))
  clear hsz
  -- .. and written
  u_in ci_rely2 hF
  obtain ⟨hu1, hu2⟩ := cell_of_one (hF.1.ci _ rfl)
  rw [stepG_store3 rfl rfl (by decide) rfl rfl rfl hu1 hu2 loud66]
  simp only [goes_go]
  refine ⟨⟨fun b hb => low_set ⟨B, 0, none⟩ _ (Nat.le_refl B) b (by omega), fun e he => ?_⟩, ?_⟩
  · rw [Array.mem_singleton] at he
    subst he
    exact ev0_wrF hS hf _ _ hlo
  replace hF := And.intro (hF.1.store1 (.int .i64 j)) (live_low hF.2 (low_set ⟨B, 0, none⟩ (.int .i64 j) (Nat.le_refl B)) (by have := hF.1.lo; omega))
  clear hu1 hu2
  walk_nrm
  u_in ci_rely2 hF
  obtain ⟨hu1, hu2⟩ := cell_of_one (hF.1.cx _ rfl)
  rw [stepG_store22 rfl rfl (by decide) rfl rfl rfl hu1 hu2 loud66]
  simp only [goes_go]
  refine ⟨⟨fun b hb => low_set ⟨B + 1, 0, none⟩ _ (Nat.le_succ B) b (by omega), fun e he => ?_⟩, ?_⟩
  · rw [Array.mem_singleton] at he
    subst he
    exact ev0_wrF hS hf _ _ (by simp only; omega)
  replace hF := And.intro (hF.1.store2 (.slice ep ell.length ec)) (live_low hF.2 (low_set ⟨B + 1, 0, none⟩ (.slice ep ell.length ec) (Nat.le_succ B)) (by have := hF.1.lo; omega))
  clear hu1 hu2
  walk_nrm
  u_c stepG_region_end ci_rely2 hF
  u_c stepG_seq ci_rely2 hF
  u_reg ci_rely2 hF
  -- wg.Add(1), IN COMPANY
  u_in ci_rely2 hF
  refine goes_call rfl rfl (by decide) rfl Try.func30 (nm_add link) rfl ⟨by u_nil, ?_⟩
  walk_nrmf Try.f30
  refine hA _ _ _ _ _ _ _ 3 ?_ _ hF
  clear hA hF
  intro w' h1 h2
  have hF := And.intro h1 h2
  clear h1 h2
  walk_nrm
  u_c stepG_region_end ci_rely2 hF
  u_reg ci_rely2 hF
  u_op ci_rely2 hF
  -- THE go STATEMENT
  refine Goes.stop (fun w₂ r₂ => ?_)
  replace hF := ci_rely2 hF r₂
  clear r₂
  subst hB'
  have e4 : N + 3 + 2 * j + 1 = N + 4 + 2 * j := by omega
  simp only [e4]
  refine ⟨rfl, ?_⟩
  rw [stepG_spawn (d := call78 N j) (w' := w₂) (f := .func 31) (c := #[.pointer (some ⟨N + 2, 0, none⟩), .pointer (some ⟨N + 4 + 2 * j, 0, none⟩), .pointer (some ⟨N + 1, 0, none⟩), .pointer (some ⟨N + 3 + 2 * j, 0, none⟩)]) rfl rfl (by decide) (by simp [go_sem, call78, Deferred.ofValue]) rfl]
  generalize hL : listed _ _ _ _ _ = Lx
  have hLx : Lx = #[] := by
    rw [← hL]
    simp [listed, go_sem, seen, Deferred.ofValue]
    rfl
  subst hLx
  clear hL
  exact ⟨_, _, rfl, rfl, fun hpay => absurd hpay (pay_not hF.2), trivial⟩
end
end Go.Proofs.Ytghglpcfpokmhaa.Wk
