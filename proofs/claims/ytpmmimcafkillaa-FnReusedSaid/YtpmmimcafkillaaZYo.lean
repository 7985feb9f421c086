/-
  workedOut, beside leavers: whole.
  Contracts of the program's JobOk and of what it calls; nothing that was there is written.
  What is worked out lies between nothing and the modulus; a ledger's result, of whatever rule.
-/
import Derived.Test.YtpmmimcafkillaaZYm
import Derived.Test.YtpmmimcafkillaaZJbP
set_option linter.unusedVariables false
set_option linter.unusedSimpArgs false
namespace Go.Proofs.Ytpmmimcafkillaa.Tr
open Go Go.Conc Go.RowKit
open Go.Proofs.Ytpmmimcafkillaa.Rn (slv RM RdP irnd_any)
open Go.Proofs.Ytpmmimcafkillaa.Br (BT BTS Hd Hid Pz Pst Shn Thr EvN bt_ctl bt_cons bt_skip bt_call bt_enter CallsB rt)
open Go.Proofs.Ytpmmimcafkillaa.Rs (Rule outOf out_at out_len plc plc_need rnds round_at round_len ri_rnds)
open Go.Proofs.Ytpmmimcafkillaa (Tv Tks Ins jobOk job_tok TOk job_short)
section
variable {main : Bool} {b : Frame} {a : Act} {kk : List Item} {cs : List Frame} {w : World} {ops : Array Oper} {i : Nat} {rest : List Nat} {o : Oper}
theorem stepG_box24 {x : Operand} {p : Option Addr} {n c : Nat} (ho : ops[i]? = some o) (hw : Region.wanted o (yielded ops a.tmps) = true) (hk : b.kind ≠ .early) (hop : o.op = .box 24 x) (hx : a.eval x = .slice p n c) :
    stepG Try.prog main (G (b.at a (.inRegion ops (i :: rest) :: kk)) cs) w = .go (G (b.at (a.put o.dst (.pointer (some ⟨w.heap.size, 0, none⟩))) (.inRegion ops rest :: kk)) cs) (w.alloc (.cells #[.slice p n c] 24 (0, 0))) #[] := by
  have hr : (execOp a.eval o).run Try.prog w = .ok (.value (.pointer (some ⟨w.heap.size, 0, none⟩))) (w.alloc (.cells #[.slice p n c] 24 (0, 0))) := by
    unfold execOp
    simp only [hop, hx]
    simp [go_sem]
  have he : (execOp a.eval o).events Try.prog w #[] = #[] := by
    unfold execOp
    simp only [hop, hx]
    simp [go_sem]
  rw [stepG_value ho hw hk hr]
  unfold listed
  rw [he, seen_none]
theorem stepG_box64 {x : Operand} {g : Nat} {caps : Array Value} (ho : ops[i]? = some o) (hw : Region.wanted o (yielded ops a.tmps) = true) (hk : b.kind ≠ .early) (hop : o.op = .box 64 x) (hx : a.eval x = .func (.func g) #[] caps) :
    stepG Try.prog main (G (b.at a (.inRegion ops (i :: rest) :: kk)) cs) w = .go (G (b.at (a.put o.dst (.pointer (some ⟨w.heap.size, 0, none⟩))) (.inRegion ops rest :: kk)) cs) (w.alloc (.cells #[.func (.func g) #[] caps] 64 (0, 0))) #[] := by
  have hr : (execOp a.eval o).run Try.prog w = .ok (.value (.pointer (some ⟨w.heap.size, 0, none⟩))) (w.alloc (.cells #[.func (.func g) #[] caps] 64 (0, 0))) := by
    unfold execOp
    simp only [hop, hx]
    simp [go_sem]
  have he : (execOp a.eval o).events Try.prog w #[] = #[] := by
    unfold execOp
    simp only [hop, hx]
    simp [go_sem]
  rw [stepG_value ho hw hk hr]
  unfold listed
  rw [he, seen_none]
theorem stepG_box92 {x : Operand} {l : Array Value} (ho : ops[i]? = some o) (hw : Region.wanted o (yielded ops a.tmps) = true) (hk : b.kind ≠ .early) (hop : o.op = .box 92 x) (hx : a.eval x = .agg l) :
    stepG Try.prog main (G (b.at a (.inRegion ops (i :: rest) :: kk)) cs) w = .go (G (b.at (a.put o.dst (.pointer (some ⟨w.heap.size, 0, none⟩))) (.inRegion ops rest :: kk)) cs) (w.alloc (.cells l 92 (0, 0))) #[] := by
  have hr : (execOp a.eval o).run Try.prog w = .ok (.value (.pointer (some ⟨w.heap.size, 0, none⟩))) (w.alloc (.cells l 92 (0, 0))) := by
    unfold execOp
    simp only [hop, hx]
    simp [go_sem, Value.cells]
  have he : (execOp a.eval o).events Try.prog w #[] = #[] := by
    unfold execOp
    simp only [hop, hx]
    simp [go_sem]
  rw [stepG_value ho hw hk hr]
  unfold listed
  rw [he, seen_none]
theorem stepG_alloc78 (ho : ops[i]? = some o) (hw : Region.wanted o (yielded ops a.tmps) = true) (hk : b.kind ≠ .early) (hop : o.op = .alloc 78) :
    stepG Try.prog main (G (b.at a (.inRegion ops (i :: rest) :: kk)) cs) w = .go (G (b.at (a.put o.dst (.pointer (some ⟨w.heap.size, 0, none⟩))) (.inRegion ops rest :: kk)) cs) (w.alloc (.cells #[.pointer none] 78 (0, 0))) #[] := by
  have hr : (execOp a.eval o).run Try.prog w = .ok (.value (.pointer (some ⟨w.heap.size, 0, none⟩))) (w.alloc (.cells #[.pointer none] 78 (0, 0))) := by
    unfold execOp
    simp only [hop]
    simp [go_sem]
  have he : (execOp a.eval o).events Try.prog w #[] = #[] := by
    unfold execOp
    simp only [hop]
    simp [go_sem]
  rw [stepG_value ho hw hk hr]
  unfold listed
  rw [he, seen_none]
theorem stepG_store78 {x y : Operand} (ho : ops[i]? = some o) (hw : Region.wanted o (yielded ops a.tmps) = true) (hk : b.kind ≠ .early) (hop : o.op = .store 78 x y)
    {ad : Addr} {v : Option Addr} {u : Value} (hx : a.eval x = .pointer (some ad)) (hy : a.eval y = .pointer v) (hc : w.cell? ad = some u) (hf : w.frozen? ad = false) (hq : (Try.prog.funcs[b.fn]?).any (·.norace) = false) :
    stepG Try.prog main (G (b.at a (.inRegion ops (i :: rest) :: kk)) cs) w = .go (G (b.at (a.put o.dst undef) (.inRegion ops rest :: kk)) cs) (w.setCell ad (.pointer v)) #[⟨.cell ad, true, false⟩] := by
  have hr : (execOp a.eval o).run Try.prog w = .ok .skip (w.setCell ad (.pointer v)) := by
    unfold execOp
    simp only [hop, hx, hy]
    simp [go_sem, hc, hf]
    try (unfold stored; simp [go_sem, hc, hf])
  have he : (execOp a.eval o).events Try.prog w #[] = #[⟨.cell ad, true, false⟩] := by
    unfold execOp
    simp only [hop, hx, hy]
    simp [go_sem, hc, hf, events_store Try.prog w #[] ad (.pointer v) .plain rfl, storedEv]
  rw [stepG_none ho hw hk hr]
  unfold listed
  rw [he, seen_eq hq (by simp)]
end
theorem bt_alloc' [Thr] {P : Program} {Q : Goroutine → World → Prop} {g g' : Goroutine} {w : World} {ob : Obj} (hrun : g.status = .running) (h : ∀ W : World, W.heap.size = w.heap.size → stepG P true g W = .go g' (W.alloc ob) #[]) (hn : BT P Q g' (w.alloc ob)) : BT P Q g w :=
  bt_known hrun (fun S W hh => ⟨_, _, h W hh.size, hd_alloc hh ob, by simp, rfl⟩) hn
theorem hd_set [Thr] {S : Nat → Prop} {w W : World} (h : Hd S w W) {ad : Addr} {u : Value} (hc : w.cell? ad = some u) (v : Value) : Hd S (w.setCell ad v) (W.setCell ad v) := by
  have hns := (hd_cell h hc).2
  have A := aside_setCell w ad v
  have B := aside_setCell W ad v
  refine ⟨⟨?_, rfl, ?_, ?_, ?_, fun b hb => ?_, fun b hb => ?_⟩, h.thr⟩
  · show (W.setCell ad v).tape = (w.setCell ad v).tape; rw [A.tape, B.tape]; exact h.tape
  · show (W.setCell ad v).os = (w.setCell ad v).os; rw [A.os, B.os]; exact h.os
  · show (W.setCell ad v).output = (w.setCell ad v).output; rw [A.output, B.output]; exact h.output
  · show (W.setCell ad v).heap.size = (w.setCell ad v).heap.size; rw [A.size, B.size]; exact h.size
  · show (W.setCell ad v).heap[b]? = (w.setCell ad v).heap[b]?
    by_cases e : b = ad.block
    · subst e
      have : W.heap[ad.block]? = w.heap[ad.block]? := h.out _ hb
      simp only [World.setCell, Array.getElem?_modify, this]
    · rw [A.block b e, B.block b e]; exact h.out b hb
  · have e : b ≠ ad.block := fun e => hns (e ▸ hb)
    obtain ⟨c, t, h1, h2⟩ := h.inn b hb
    exact ⟨c, t, (A.block b e).trans h1, (B.block b e).trans h2⟩
theorem bt_store [Thr] {P : Program} {Q : Goroutine → World → Prop} {g g' : Goroutine} {w : World} {ad : Addr} {u v : Value} (hrun : g.status = .running) (hc : w.cell? ad = some u) (h : ∀ W : World, W.cell? ad = some u → W.frozen? ad = w.frozen? ad → stepG P true g W = .go g' (W.setCell ad v) #[⟨.cell ad, true, false⟩]) (hn : BT P Q g' (w.setCell ad v)) : BT P Q g w :=
  bt_known hrun (fun S W hh => ⟨_, _, h W (hd_cell hh hc).1 (by have := hh.out _ (hd_cell hh hc).2; simp only [World.frozen?]; rw [show W.heap[ad.block]? = w.heap[ad.block]? from this]), hd_set hh hc v, (by intro e he; simp at he; subst he; exact evN_cell (hd_cell hh hc).2), rfl⟩) hn
theorem alloc_out (w : World) (ob : Obj) : ∃ w', w.alloc ob = w' ∧ w'.heap.size = w.heap.size + 1 ∧ (∀ b, b < w.heap.size → w'.heap[b]? = w.heap[b]?) ∧ w'.heap[w.heap.size]? = some ob ∧ w'.os = w.os ∧ w'.output = w.output :=
  ⟨_, rfl, by show (w.heap.push ob).size = _; simp, fun b hb => by show (w.heap.push ob)[b]? = _; rw [Array.getElem?_push, if_neg (by omega)], heap_alloc_new w ob, rfl, rfl⟩
section
variable {ts : List Tv} {f : Rule} {w : World} {a : Option Addr} {cap : Nat} {rule : Value}
/-- what roundsOf leaves -/
def R57 (w : World) (ts : List Tv) (v : Value) (w' : World) : Prop := ∃ g c, v = .slice (some ⟨g, 0, none⟩) (rnds ts).length c ∧ RdA w.heap.size w' g c (rnds ts) ∧ w'.os = w.os ∧ w'.output = w.output ∧ w.heap.size ≤ w'.heap.size ∧ ∀ b, b < w.heap.size → w'.heap[b]? = w.heap[b]?
theorem ins_low {w w' : World} {a : Option Addr} {l : List Int} (hB : BelL w.heap.size w w') (h : Ins w a l) : Ins w' a l := by
  intro j x hx
  obtain ⟨b, o, h1, h2, h3⟩ := h j x hx
  exact ⟨b, o, h1, Nat.lt_of_lt_of_le h2 hB.size, cell_blk (hB.block _ (cell_lt h3)) h3⟩
theorem tks_low {w w' : World} {a : Option Addr} {ts : List Tv} (hB : BelL w.heap.size w w') (h : Tks w a ts) : Tks w' a ts := by
  intro j t ht
  obtain ⟨b, o, p, c, h1, h2, h3, h4, h5, h6, h7, h8⟩ := h j t ht
  have c0 : ∀ {ad : Addr} {x : Value}, w.cell? ad = some x → w'.cell? ad = some x := fun hc => cell_blk (hB.block _ (cell_lt hc)) hc
  exact ⟨b, o, p, c, h1, Nat.lt_of_lt_of_le h2 hB.size, c0 h3, c0 h4, c0 h5, c0 h6, ins_low hB h7, h8⟩
theorem calls_imp {P : Program} {f : FuncId} {args : Array Value} {w : World} {R R' : Ending → World → Prop} (h : Calls P f args w R) (hr : ∀ e w', R e w' → R' e w') : Calls P f args w R' := fun cs =>
  let ⟨e, w', fr, h1, h2, h3, h4⟩ := h cs
  ⟨e, w', fr, hr _ _ h1, h2, h3, h4⟩
theorem r57_of {T : Nat → Question → Nat} {d : Nat} {w w' : World} {ts : List Tv} {n : Nat} {e : Ending} (h : RdP (rt T d w) n (rnds ts) e w') : ∃ v, e = .returned v ∧ R57 w ts v w' := by
  obtain ⟨gP, g, c, gs, ps, sl, h1, h2⟩ := h
  exact ⟨_, h1, g, c, rfl, rdA_of (w := rt T d w) h2, h2.bel.os, h2.bel.output, h2.bel.size, h2.bel.block⟩
theorem r57_pz {w w' : World} {ts : List Tv} {v : Value} (h : R57 w ts v w') {b : Nat} (hb : Pz w b) : Pz w' b := by
  obtain ⟨g, c, _, _, _, _, _, h6⟩ := h
  obtain ⟨e, he⟩ := hb
  exact ⟨e, (h6 b (Array.getElem?_eq_some_iff.1 he).1).trans he⟩
set_option maxRecDepth 100000 in
set_option maxHeartbeats 4000000 in
/-- ████ workedOut ████ -/
theorem work_B [Thr] (hj : jobOk ts = true) (hl : ts.length ≤ maxLen) (hR : RuleOk w rule ts.length f) (hT : Tks w a ts) (hbd : ∀ x ∈ outOf f ts, 0 ≤ x ∧ x < 1000000007) (hg : Br.GC Try.prog w) (hTh : Thr.N ≤ w.heap.size) :
    CallsB Try.prog 42 #[.slice a ts.length cap, rule] w (PostW w (outOf f ts)) := by
  intro cc cs Q hk
  have hR' := hR
  obtain ⟨gf, caps, fn, code, rfl, -⟩ := hR'
  have h200 := job_short hj
  have e42 : Frame.enter Try.prog 42 #[.slice a ts.length cap, .func (.func gf) #[] caps] .normal = (base 42).at ⟨#[.slice a ts.length cap, .func (.func gf) #[] caps, undef, undef, undef, undef, undef, undef, undef, undef, undef, undef, undef, undef, undef, undef, undef, undef, undef, undef, undef, undef, undef, undef, undef, undef, undef, undef, undef, undef, undef, undef, undef, undef, undef, undef, undef], []⟩ [.code body42] := by
    simp [Frame.enter, Frame.at, Try.func42, base, Try.f42, body42]
  rw [e42]
  clear e42
  have hrnds := fun g c => rounds (Q := Q) (cs := cc :: cs) (wv := w) (a := a) (cap := cap) (rule := .func (.func gf) #[] caps) (g := g) (c := c) (z0 := .slice a ts.length cap) (z1 := .func (.func gf) #[] caps) hj hR hT hbd hg hTh (workEnd hj hg hk) (rnds ts).length 0 (by omega)
  simp only [L2, R12, R13, R14, L1, B1, X1, loopOf, fstS, sndS, inB, opsOf, body42, Try.f42, Option.getD_some] at hrnds ⊢
  refine kA ?_
  (refine kG ?_; simp only [List.size_toArray, List.length_cons, List.length_nil, Nat.reduceAdd, Nat.zero_add, List.range, List.range.loop])
  refine bt_alloc' rfl (fun W hW => by rw [stepG_box24 rfl rfl (by k_ne) rfl rfl, hW]) ?_
  walk_nrm
  obtain ⟨w1, e1, s1, b1, n1, o1, p1⟩ := alloc_out w (.cells #[.slice a ts.length cap] 24 (0, 0))
  rw [e1]
  refine bt_alloc' rfl (fun W hW => by rw [stepG_box64 rfl rfl (by k_ne) rfl rfl, hW.trans s1]) ?_
  walk_nrm
  obtain ⟨w2, e2, s2, b2, n2, o2, p2⟩ := alloc_out w1 (.cells #[.func (.func gf) #[] caps] 64 (0, 0))
  rw [s1] at n2 s2 b2
  replace s2 : w2.heap.size = w.heap.size + 2 := s2
  rw [e2]
  (repeat (first | refine kA ?_ | refine kB ?_ | refine kC ?_ | refine kD ?_ | refine kE ?_ | refine kF ?_ | (refine kG ?_; simp only [List.size_toArray, List.length_cons, List.length_nil, Nat.reduceAdd, Nat.zero_add, List.range, List.range.loop]) | (refine kO rfl (by rfl) (by decide) (by decide) (fun dzz Kzz hKzz => ?_); go_simp; refine hKzz _ _ (fun b hb => hb) (bt_at ?_); clear hKzz Kzz; try walk_nrm) | (refine bt_skip rfl (by rfl) ?_; try walk_nrm)))
  have cj2 : w2.cell? ⟨w.heap.size, 0, none⟩ = some (.slice a ts.length cap) := by
    have := (b2 w.heap.size (by omega)).trans n1
    simp [World.cell?, this]
  refine bt_load (w := w2) rfl cj2 (fun W hW => stepG_load24 rfl rfl (by k_ne) rfl rfl hW loud42) ?_
  walk_nrm
  (repeat (first | refine kA ?_ | refine kB ?_ | refine kC ?_ | refine kD ?_ | refine kE ?_ | refine kF ?_ | (refine kG ?_; simp only [List.size_toArray, List.length_cons, List.length_nil, Nat.reduceAdd, Nat.zero_add, List.range, List.range.loop]) | (refine kO rfl (by rfl) (by decide) (by decide) (fun dzz Kzz hKzz => ?_); go_simp; refine hKzz _ _ (fun b hb => hb) (bt_at ?_); clear hKzz Kzz; try walk_nrm) | (refine bt_skip rfl (by rfl) ?_; try walk_nrm)))
  refine bt_alloc' rfl (fun W hW => by rw [stepG_makeMap rfl rfl (by k_ne) rfl (n := ts.length) (by omega) rfl, hW.trans s2]) ?_
  walk_nrm
  obtain ⟨w3, e3, s3, b3, n3, o3, p3⟩ := alloc_out w2 (.map #[] 0)
  rw [s2] at n3 s3 b3
  replace s3 : w3.heap.size = w.heap.size + 3 := s3
  rw [e3]
  (repeat (first | refine kA ?_ | refine kB ?_ | refine kC ?_ | refine kD ?_ | refine kE ?_ | refine kF ?_ | (refine kG ?_; simp only [List.size_toArray, List.length_cons, List.length_nil, Nat.reduceAdd, Nat.zero_add, List.range, List.range.loop]) | (refine kO rfl (by rfl) (by decide) (by decide) (fun dzz Kzz hKzz => ?_); go_simp; refine hKzz _ _ (fun b hb => hb) (bt_at ?_); clear hKzz Kzz; try walk_nrm) | (refine bt_skip rfl (by rfl) ?_; try walk_nrm)))
  refine bt_alloc' rfl (fun W hW => by rw [stepG_box92 rfl rfl (by k_ne) rfl rfl, hW.trans s3]) ?_
  walk_nrm
  obtain ⟨w4, e4, s4, b4, n4, o4, p4⟩ := alloc_out w3 (.cells #[.int .i32 0, .int .u32 0, .map (some (w.heap.size + 2)), .int .i64 0] 92 (0, 0))
  rw [s3] at n4 s4 b4
  replace s4 : w4.heap.size = w.heap.size + 4 := s4
  rw [e4]
  (repeat (first | refine kA ?_ | refine kB ?_ | refine kC ?_ | refine kD ?_ | refine kE ?_ | refine kF ?_ | (refine kG ?_; simp only [List.size_toArray, List.length_cons, List.length_nil, Nat.reduceAdd, Nat.zero_add, List.range, List.range.loop]) | (refine kO rfl (by rfl) (by decide) (by decide) (fun dzz Kzz hKzz => ?_); go_simp; refine hKzz _ _ (fun b hb => hb) (bt_at ?_); clear hKzz Kzz; try walk_nrm) | (refine bt_skip rfl (by rfl) ?_; try walk_nrm)))
  refine bt_alloc' rfl (fun W hW => by rw [stepG_alloc78 rfl rfl (by k_ne) rfl, hW.trans s4]) ?_
  walk_nrm
  obtain ⟨w5, e5, s5, b5, n5, o5, p5⟩ := alloc_out w4 (.cells #[.pointer none] 78 (0, 0))
  rw [s4] at n5 s5 b5
  replace s5 : w5.heap.size = w.heap.size + 5 := s5
  rw [e5]
  have c5 : w5.cell? ⟨w.heap.size + 4, 0, none⟩ = some (.pointer none) := by simp [World.cell?, n5]
  have f5 : w5.frozen? ⟨w.heap.size + 4, 0, none⟩ = false := by simp [World.frozen?, n5]
  (repeat (first | refine kA ?_ | refine kB ?_ | refine kC ?_ | refine kD ?_ | refine kE ?_ | refine kF ?_ | (refine kG ?_; simp only [List.size_toArray, List.length_cons, List.length_nil, Nat.reduceAdd, Nat.zero_add, List.range, List.range.loop]) | (refine kO rfl (by rfl) (by decide) (by decide) (fun dzz Kzz hKzz => ?_); go_simp; refine hKzz _ _ (fun b hb => hb) (bt_at ?_); clear hKzz Kzz; try walk_nrm) | (refine bt_skip rfl (by rfl) ?_; try walk_nrm)))
  refine bt_store (w := w5) rfl c5 (fun W hW hW2 => stepG_store78 (u := .pointer none) rfl rfl (by k_ne) rfl rfl rfl hW (hW2.trans f5) loud42) ?_
  have a6 := aside_setCell w5 ⟨w.heap.size + 4, 0, none⟩ (.pointer (some ⟨w.heap.size + 3, 0, none⟩))
  have n6 : (w5.setCell ⟨w.heap.size + 4, 0, none⟩ (.pointer (some ⟨w.heap.size + 3, 0, none⟩))).cell? ⟨w.heap.size + 4, 0, none⟩ = some (.pointer (some ⟨w.heap.size + 3, 0, none⟩)) := by
    simp [World.cell?, World.setCell, Array.getElem?_modify, n5]
  walk_nrm
  generalize w5.setCell ⟨w.heap.size + 4, 0, none⟩ (.pointer (some ⟨w.heap.size + 3, 0, none⟩)) = w6 at a6 n6 ⊢
  have h6 : ∀ b, b < w.heap.size + 4 → w6.heap[b]? = w5.heap[b]? := fun b hb => a6.block b (by show b ≠ w.heap.size + 4; omega)
  have l6 : ∀ b, b < w.heap.size → w6.heap[b]? = w.heap[b]? := fun b hb => by rw [h6 b (by omega), b5 b (by omega), b4 b (by omega), b3 b (by omega), b2 b (by omega), b1 b hb]
  have x0 := ((h6 w.heap.size (by omega)).trans ((b5 _ (by omega)).trans ((b4 _ (by omega)).trans ((b3 _ (by omega)).trans ((b2 _ (by omega)).trans n1)))))
  have x1 := ((h6 (w.heap.size + 1) (by omega)).trans ((b5 _ (by omega)).trans ((b4 _ (by omega)).trans ((b3 _ (by omega)).trans n2))))
  have x2 := ((h6 (w.heap.size + 1 + 1) (by omega)).trans ((b5 _ (by omega)).trans ((b4 _ (by omega)).trans n3)))
  have x3 := ((h6 (w.heap.size + 3) (by omega)).trans ((b5 _ (by omega)).trans n4))
  have s6 : w6.heap.size = w.heap.size + 5 := a6.size.trans s5
  have hB6 : BelL w.heap.size w w6 := ⟨by rw [a6.os, o5, o4, o3, o2, o1]; exact .refl _, by rw [a6.output, p5, p4, p3, p2, p1], by omega, l6⟩
  clear e1 e2 e3 e4 e5 s1 s2 s3 s4 s5 b1 b2 b3 b4 b5 n1 n2 n3 n4 n5 o1 o2 o3 o4 o5 p1 p2 p3 p4 p5 cj2 c5 f5 a6 h6
  clear w1 w2 w3 w4 w5
  have y0 : w6.cell? ⟨w.heap.size, 0, none⟩ = some (.slice a ts.length cap) := by simp [World.cell?, x0]
  (repeat (first | refine kA ?_ | refine kB ?_ | refine kC ?_ | refine kD ?_ | refine kE ?_ | refine kF ?_ | (refine kG ?_; simp only [List.size_toArray, List.length_cons, List.length_nil, Nat.reduceAdd, Nat.zero_add, List.range, List.range.loop]) | (refine kO rfl (by rfl) (by decide) (by decide) (fun dzz Kzz hKzz => ?_); go_simp; refine hKzz _ _ (fun b hb => hb) (bt_at ?_); clear hKzz Kzz; try walk_nrm) | (refine bt_skip rfl (by rfl) ?_; try walk_nrm)))
  refine bt_load (w := w6) rfl y0 (fun W hW => stepG_load24 rfl rfl (by k_ne) rfl rfl hW loud42) ?_
  walk_nrm
  have hT6 : Tks w6 a ts := tks_low hB6 hT
  refine bt_call (R := R57 w6 ts) zgOk (fun T d => calls_imp (irnd_any a cap ts (rt T d w6) hl hj hT6) fun e w' h => r57_of h) (gc_belL hB6 hg) (fun v w T d h => h) (fun v w' h b hb => r57_pz h hb) (by kernel_rfl) (by simp [Zg]) Try.func57 rfl rfl rfl rfl rfl (by k_ne) (by simp [Act.eval]) (fun v w7 h7 => ?_)
  walk_nrm
  obtain ⟨g, c, rfl, hrd, ho7, hp7, hs7, hb7⟩ := h7
  (repeat (first | refine kA ?_ | refine kB ?_ | refine kC ?_ | refine kD ?_ | refine kE ?_ | refine kF ?_ | (refine kG ?_; simp only [List.size_toArray, List.length_cons, List.length_nil, Nat.reduceAdd, Nat.zero_add, List.range, List.range.loop]) | (refine kO rfl (by rfl) (by decide) (by decide) (fun dzz Kzz hKzz => ?_); go_simp; refine hKzz _ _ (fun b hb => hb) (bt_at ?_); clear hKzz Kzz; try walk_nrm) | (refine bt_skip rfl (by rfl) ?_; try walk_nrm)))
  refine bt_ctl rfl (fun _ => stepG_loop) ?_
  have hI0 : InvW ts f w a cap (.func (.func gf) #[] caps) g c 0 w7 := by
    refine ⟨hB6.trans ⟨by rw [ho7]; exact .refl _, hp7, hs7, fun b hb => hb7 b (by rw [s6]; omega)⟩ (Nat.le_refl _), ?_, ?_, ?_, fun l => ⟨[], ⟨#[], 0, ?_, rfl⟩, ⟨fun n v hn hv => ?_, fun n hn => rfl⟩⟩, ?_, ?_⟩
    · exact cell_blk (hb7 _ (by rw [s6]; show w.heap.size < _; omega)) y0
    · refine cell_blk (hb7 _ (by rw [s6]; show w.heap.size + 1 < _; omega)) ?_
      simp [World.cell?, x1]
    · rw [hb7 _ (by omega), x3]; rfl
    · rw [hb7 _ (by omega)]; exact x2
    · rcases hn with hn | ⟨k', hk', _⟩
      · omega
      · simp at hk'
    · exact cell_blk (hb7 _ (by rw [s6]; show w.heap.size + 4 < _; omega)) n6
    · rw [← s6]; exact hrd
  exact hrnds g c _ _ _ _ _ _ _ _ _ _ _ _ _ _ _ _ _ _ _ _ _ _ _ _ _ _ _ _ _ w7 hI0
end
end Go.Proofs.Ytpmmimcafkillaa.Tr

namespace Go.Proofs.Ytpmmimcafkillaa
open Go.RowKit
set_option linter.unusedVariables false
set_option linter.unusedSimpArgs false

set_option maxHeartbeats 400000 in
theorem ifr_any (x : Int) (w : World) : Calls Try.prog 68 #[.int .i64 x] w fun e w' => e = .returned (.bool (frm x)) ∧ w' = w := by
  by_cases h1 : 0 ≤ x
  · by_cases h2 : x ≤ 10000000
    · go_enter Try.func68, Try.ntmps68
      go_wp2
      go_ret
      exact ⟨ret_bool (by simp [frm, h1, h2]), rfl⟩
    · go_enter Try.func68, Try.ntmps68
      go_wp2
      go_ret
      exact ⟨ret_bool (by simp [frm, h2]), rfl⟩
  · have hd : decide (0 ≤ x) = false := by simpa using h1
    go_enter Try.func68, Try.ntmps68
    go_wp2
    go_ret
    exact ⟨ret_bool (by simp [frm, hd]), rfl⟩

set_option maxHeartbeats 1600000 in
theorem ineed_any (a : Option Addr) (cap : Nat) (zs : List Int) (n : Int) (w : World) (hl : zs.length ≤ maxLen) (n0 : 0 ≤ n) (n1 : n ≤ 1000000) (hr : Ins w a zs) :
    Calls Try.prog 69 #[.slice a zs.length cap, .int .i64 n] w fun e w' => e = .returned (.bool (nOk n zs)) ∧ w' = w := by
  unfold maxLen at hl
  have hr' := hide hr
  clear hr
  by_cases h10 : zs.length ≤ 10
  rotate_left
  · have g0 : decide ((10 : Int) < zs.length) = true := by simp; omega
    have hf := hide (show nOk n zs = false by simp [nOk]; omega)
    go_enter Try.func69, Try.ntmps69
    go_wp2
    go_ret
    exact ⟨ret_bool (unhide hf).symm, rfl⟩
  have g0 : decide ((10 : Int) < zs.length) = false := by simp; omega
  have hf := hide (show nOk n zs = ndOk n 0 (zs.drop 0) by simp [nOk, h10])
  go_enter Try.func69, Try.ntmps69
  go_wp2
  go_loop [5, 13] (fun s t => ∃ (k : Nat) (m : Int), k ≤ zs.length ∧ t = .int .i64 k ∧ s = .int .i64 m ∧ 0 ≤ m ∧ m ≤ 1000001 ∧ Hid (nOk n zs = ndOk n m (zs.drop k))) (fun _ t => zs.length - (intOf t).toNat)
  case atStart => exact ⟨0, 0, by omega, rfl, rfl, by omega, by omega, hf⟩
  case round =>
    obtain ⟨k, m, hk, rfl, rfl, m0, m1, hm⟩ := hrel
    by_cases hlt : k < zs.length
    · obtain ⟨b, o, x, rfl, hx, i1, c0⟩ := ins_at (unhide hr') (Below.refl _ _) hlt
      have hd := hide (show nOk n zs = (decide (m ≤ x) && decide (x < n) && ndOk n (x + 1) (zs.drop (k + 1))) by rw [unhide hm, drop_at hx]; rfl)
      clear hx hm i1
      by_cases h1 : x < m
      · have g1 : decide (x < m) = true := by simpa using h1
        have hfin := hide (show nOk n zs = false by rw [unhide hd]; simp; omega)
        clear hd
        go_wp2
        go_ret
        exact ⟨ret_bool (unhide hfin).symm, rfl⟩
      · have g1 : decide (x < m) = false := by simpa using h1
        by_cases h2 : n ≤ x
        · have g2 : decide (n ≤ x) = true := by simpa using h2
          have hfin := hide (show nOk n zs = false by rw [unhide hd]; simp; omega)
          clear hd
          go_wp2
          go_ret
          exact ⟨ret_bool (unhide hfin).symm, rfl⟩
        · have g2 : decide (n ≤ x) = false := by simpa using h2
          have hfin := hide (show nOk n zs = ndOk n (x + 1) (zs.drop (k + 1)) by rw [unhide hd, decide_eq_true (by omega), decide_eq_true (by omega)]; rfl)
          have x0 : 0 ≤ x := by omega
          have x1 : x ≤ 1000000 := by omega
          clear hd
          go_wp2
          go_round
          case rel => exact ⟨k + 1, x + 1, by omega, by go_num, by go_num, by omega, by omega, hfin⟩
          case measure => simp [intOf]; omega
    · have hfin := hide (show nOk n zs = true by rw [unhide hm, drop_end hlt]; rfl)
      clear hm
      go_wp2
      go_ret
      exact ⟨ret_bool (unhide hfin).symm, rfl⟩

set_option maxHeartbeats 1600000 in
theorem itsk_any (t : Tv) (a : Option Addr) (cap : Nat) (i : Int) (w : World) (hl : t.2.2.1.length ≤ maxLen) (n0 : 0 ≤ i) (n1 : i ≤ 1000000) (hr : Ins w a t.2.2.1) :
    Calls Try.prog 55 #[agT t.1 t.2.1 a t.2.2.1.length cap t.2.2.2, .int .i64 i] w fun e w' => e = .returned (.bool (tskOk i t)) ∧ Below w.heap.size w w' := by
  obtain ⟨k, v, zs, d⟩ := t
  simp only at hl hr
  have hr' := hide hr
  have hl' := hide hl
  clear hr hl
  obtain ⟨x1, e1⟩ : ∃ x, decide ((0 : Int) ≤ k) = x := ⟨_, rfl⟩
  obtain ⟨x2, e2⟩ : ∃ x, decide (k ≤ (9 : Int)) = x := ⟨_, rfl⟩
  obtain ⟨x3, e3⟩ : ∃ x, frm v = x := ⟨_, rfl⟩
  obtain ⟨x4, e4⟩ : ∃ x, nOk i zs = x := ⟨_, rfl⟩
  obtain ⟨x5, e5⟩ : ∃ x, decide ((1 : Int) ≤ d) = x := ⟨_, rfl⟩
  obtain ⟨x6, e6⟩ : ∃ x, decide (d ≤ (1000 : Int)) = x := ⟨_, rfl⟩
  have hf := hide (show tskOk i (k, v, zs, d) = (x1 && x2 && x3 && x4 && x5 && x6) by simp only [tskOk, e1, e2, e3, e4, e5, e6])
  have e3' := hide e3
  have e4' := hide e4
  clear e3 e4
  cases x1 with
  | false =>
    go_enter Try.func55, Try.ntmps55
    go_wp2
    go_ret
    exact ⟨ret_bool (unhide hf).symm, (Below.refl _ _).alloc (Nat.le_refl _) _⟩
  | true =>
  cases x2 with
  | false =>
    go_enter Try.func55, Try.ntmps55
    go_wp2
    go_ret
    exact ⟨ret_bool (unhide hf).symm, (Below.refl _ _).alloc (Nat.le_refl _) _⟩
  | true =>
  go_enter Try.func55, Try.ntmps55
  go_wp2_with fail
  refine (ifr_any v _).mono ?_
  rintro e w1 ⟨rfl, rfl⟩
  rw [unhide e3']
  cases x3 with
  | false =>
    go_wp2
    go_ret
    exact ⟨ret_bool (unhide hf).symm, (Below.refl _ _).alloc (Nat.le_refl _) _⟩
  | true =>
  go_wp2_with fail
  refine (ineed_any a cap zs i _ (unhide hl') n0 n1 ((unhide hr').below ((Below.refl _ _).alloc (Nat.le_refl _) _))).mono ?_
  rintro e w1 ⟨rfl, rfl⟩
  rw [unhide e4']
  cases x4 with
  | false =>
    go_wp2
    go_ret
    exact ⟨ret_bool (unhide hf).symm, (Below.refl _ _).alloc (Nat.le_refl _) _⟩
  | true =>
  cases x5 with
  | false =>
    go_wp2
    go_ret
    exact ⟨ret_bool (unhide hf).symm, (Below.refl _ _).alloc (Nat.le_refl _) _⟩
  | true =>
  cases x6 with
  | false =>
    go_wp2
    go_ret
    exact ⟨ret_bool (unhide hf).symm, (Below.refl _ _).alloc (Nat.le_refl _) _⟩
  | true =>
    go_wp2
    go_ret
    exact ⟨ret_bool (unhide hf).symm, (Below.refl _ _).alloc (Nat.le_refl _) _⟩

set_option maxHeartbeats 1600000 in
theorem ijob_any (a : Option Addr) (cap : Nat) (ts : List Tv) (w : World) (hl : ts.length ≤ maxLen) (hr : Tks w a ts) :
    Calls Try.prog 37 #[.slice a ts.length cap] w fun e w' => e = .returned (.bool (jobOk ts)) ∧ Below w.heap.size w w' := by
  unfold maxLen at hl
  have hr' := hide hr
  clear hr
  by_cases h200 : ts.length ≤ 200
  rotate_left
  · have g0 : decide ((200 : Int) < ts.length) = true := by simp; omega
    have hf := hide (show jobOk ts = false by simp [jobOk]; omega)
    go_enter Try.func37, Try.ntmps37
    go_wp2
    go_ret
    exact ⟨ret_bool (unhide hf).symm, Below.refl _ _⟩
  have g0 : decide ((200 : Int) < ts.length) = false := by simp; omega
  have hf := hide (show jobOk ts = okFrom 0 (ts.drop 0) by simp [jobOk, h200])
  go_enter Try.func37, Try.ntmps37
  go_wp2
  go_loopw [10] (fun t wr => ∃ k : Nat, k ≤ ts.length ∧ t = .int .i64 k ∧ Hid (jobOk ts = okFrom k (ts.drop k)) ∧ Hid (Below w.heap.size w wr)) (fun t _ => ts.length - (intOf t).toNat)
  case atStart => exact ⟨0, by omega, rfl, hf, hide (Below.refl _ _)⟩
  case round =>
    obtain ⟨k, hk, rfl, hm, hB⟩ := hrel
    by_cases hlt : k < ts.length
    · obtain ⟨b, o, p, c, t, rfl, hx, i1, c0, c1, c2, c3, hK, hmx⟩ := tks_at (unhide hr') (unhide hB) hlt
      have hd := hide (show jobOk ts = (tskOk k t && okFrom (k + 1) (ts.drop (k + 1))) by rw [unhide hm, drop_at hx]; rfl)
      have hK' := hide hK
      have hmx' := hide hmx
      obtain ⟨v, hv⟩ : ∃ v, tskOk k t = v := ⟨_, rfl⟩
      have hv' := hide hv
      clear hx hm hK hmx hv
      go_wp2_with fail
      refine (itsk_any t p c k _ (unhide hmx') (by omega) (by omega) ((unhide hK').below ((Below.refl _ _).alloc (Nat.le_refl _) _))).mono ?_
      rintro e w1 ⟨rfl, hb1⟩
      rw [unhide hv']
      have hd2 := hide (show jobOk ts = (v && okFrom (k + 1) (ts.drop (k + 1))) by rw [unhide hd, unhide hv'])
      have hB1 := hide (laterB ((unhide hB).alloc (unhide hB).size _) hb1)
      clear hb1 hd hv'
      cases v with
      | false =>
        go_wp2
        go_ret
        exact ⟨ret_bool (unhide hd2).symm, unhide hB1⟩
      | true =>
        go_wp2
        go_roundw
        case rel => exact ⟨k + 1, by omega, by go_num, hd2, hB1⟩
        case measure => simp [intOf]; omega
    · have hfin := hide (show jobOk ts = true by rw [unhide hm, drop_end hlt]; rfl)
      clear hm
      go_wp2
      go_ret
      exact ⟨ret_bool (unhide hfin).symm, unhide hB⟩

end Go.Proofs.Ytpmmimcafkillaa

set_option linter.unusedVariables false
set_option linter.unusedSimpArgs false
namespace Go.Proofs.Ytpmmimcafkillaa.Tr
open Go Go.Conc Go.RowKit
open Go.Proofs.Ytpmmimcafkillaa.Br (BT BTS Hd Hid Pz Pst Shn Thr EvN bt_ctl bt_cons bt_skip bt_call bt_callB bt_enter CallsB rt)
open Go.Proofs.Ytpmmimcafkillaa.Rs (Rule outOf out_at out_len resR dtR hst)
open Go.Proofs.Ytpmmimcafkillaa (Tv Tks Ins jobOk job_tok TOk job_short)
theorem hst_in (h x : Int) : 0 ≤ hst h x ∧ hst h x < 1000000007 := by unfold hst; omega
theorem hst_fold (vs : List Int) : ∀ h : Int, 0 ≤ h ∧ h < 1000000007 → 0 ≤ vs.foldl hst h ∧ vs.foldl hst h < 1000000007 := by
  induction vs with
  | nil => intro h hh; exact hh
  | cons v vs ih => intro h hh; exact ih _ (hst_in h v)
theorem out_in {f : Rule} {ts : List Tv} (hj : jobOk ts = true) {x : Int} (hx : x ∈ outOf f ts) : ∃ k t, ts[k]? = some t ∧ (outOf f ts)[k]? = some x ∧ x = f k (Rs.ask (outOf f ts) t) := by
  obtain ⟨k, hk⟩ := List.mem_iff_getElem?.1 hx
  have hlt : k < ts.length := by rw [← out_len f ts]; exact (List.getElem?_eq_some_iff.1 hk).1
  have ht := List.getElem?_eq_getElem hlt
  have := out_at (f := f) hj ht
  exact ⟨k, _, ht, hk, Option.some.inj (hk.symm.trans this)⟩
theorem res_bd {ts : List Tv} (hj : jobOk ts = true) : ∀ x ∈ outOf (resR ts) ts, 0 ≤ x ∧ x < 1000000007 := by
  intro x hx
  obtain ⟨k, t, ht, _, rfl⟩ := out_in hj hx
  simp only [resR, ht]
  exact hst_fold _ _ ⟨Int.emod_nonneg _ (by omega), Int.emod_lt_of_pos _ (by omega)⟩
theorem dt_bd {ts : List Tv} {ch : List Int} (hj : jobOk ts = true) : ∀ x ∈ outOf (dtR ch) ts, x = 0 ∨ x = 1 := by
  intro x hx
  obtain ⟨k, t, ht, _, rfl⟩ := out_in hj hx
  unfold dtR
  split
  · exact .inr rfl
  · exact .inl rfl
end Go.Proofs.Ytpmmimcafkillaa.Tr
