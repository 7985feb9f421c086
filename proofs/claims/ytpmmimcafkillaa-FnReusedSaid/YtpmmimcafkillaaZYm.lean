/-
  workedOut, beside leavers: from round to round.
  workedOut, beside leavers: its end.
-/
import Derived.Test.YtpmmimcafkillaaZYk
set_option linter.unusedVariables false
set_option linter.unusedSimpArgs false
namespace Go.Proofs.Ytpmmimcafkillaa.Tr
open Go Go.Conc Go.RowKit
open Go.Proofs.Ytpmmimcafkillaa.Rn (slv)
open Go.Proofs.Ytpmmimcafkillaa.Br (BT BTS Hd Hid Pz Pst Shn Thr EvN bt_ctl bt_cons bt_skip bt_call CallsB rt)
open Go.Proofs.Ytpmmimcafkillaa.Rs (Rule outOf out_at out_len plc plc_need rnds round_at round_len ri_rnds)
open Go.Proofs.Ytpmmimcafkillaa (Tv Tks Ins jobOk job_tok TOk job_short)
/-- the same but for tape and draws -/
def SameW (w w' : World) : Prop := w'.heap = w.heap ∧ w'.os = w.os ∧ w'.output = w.output
set_option maxRecDepth 100000 in
set_option maxHeartbeats 2000000 in
theorem piece4 {z0 z1 : Value} {jb rb bk : Addr} {g c M p q cq : Nat} {l : List Int} {w : World} (hc : w.cell? ⟨g, p, none⟩ = some (slv (q, cq) l)) (hp : p < M) (j4 j6 j7 j8 j9 j10 j11 j12 j13 j14 j15 j16 j20 j21 j22 j23 j24 j25 j26 j27 j28 j29 j30 j31 j32 j33 j34 j35 j36 : Value) :
    (fstS B1).wp Try.prog (fun e a' w' => e = .normal ∧ a' = ⟨#[z0, z1, .pointer (some jb), .pointer (some rb), j4, .pointer (some bk), j6, slv (q, cq) l, j8, j9, j10, j11, j12, j13, j14, j15, j16, .slice (some ⟨g, 0, none⟩) M c, .int .i64 (M : Int), .int .i64 (p : Int), j20, .pointer (some ⟨g, p, none⟩), slv (q, cq) l, j23, j24, j25, j26, j27, j28, j29, j30, j31, j32, j33, j34, j35, j36], []⟩ ∧ SameW w w') ⟨#[z0, z1, .pointer (some jb), .pointer (some rb), j4, .pointer (some bk), j6, j7, j8, j9, j10, j11, j12, j13, j14, j15, j16, .slice (some ⟨g, 0, none⟩) M c, .int .i64 (M : Int), .int .i64 (p : Int), j20, j21, j22, j23, j24, j25, j26, j27, j28, j29, j30, j31, j32, j33, j34, j35, j36], []⟩ w := by
  simp only [B1, L1, loopOf, fstS, sndS, inB, body42, Try.f42, Option.getD_some]
  go_wp2
  exact ⟨rfl, rfl, rfl⟩
set_option maxRecDepth 100000 in
set_option maxHeartbeats 2000000 in
theorem piece5 {z0 z1 : Value} {jb rb bk : Addr} {g c M p q cq : Nat} {l : List Int} {w : World} (j4 j6 j8 j9 j10 j11 j12 j13 j14 j15 j16 j20 j21 j22 j23 j24 j25 j26 j27 j28 j29 j30 j31 j32 j33 j34 j35 j36 : Value) :
    (fstS (sndS B1)).wp Try.prog (fun e a' w' => e = .normal ∧ (∃ u23, a' = ⟨#[z0, z1, .pointer (some jb), .pointer (some rb), j4, .pointer (some bk), j6, slv (q, cq) l, .pointer (some ⟨w.heap.size, 0, none⟩), j9, j10, j11, j12, j13, j14, j15, j16, .slice (some ⟨g, 0, none⟩) M c, .int .i64 (M : Int), .int .i64 (p : Int), j20, j21, j22, u23, j24, j25, j26, j27, j28, j29, j30, j31, j32, j33, j34, j35, j36], []⟩) ∧ SameW (w.alloc (.cells #[.int .u64 0, .int .u32 0] 99 (0, 0))) w') ⟨#[z0, z1, .pointer (some jb), .pointer (some rb), j4, .pointer (some bk), j6, slv (q, cq) l, j8, j9, j10, j11, j12, j13, j14, j15, j16, .slice (some ⟨g, 0, none⟩) M c, .int .i64 (M : Int), .int .i64 (p : Int), j20, j21, j22, j23, j24, j25, j26, j27, j28, j29, j30, j31, j32, j33, j34, j35, j36], []⟩ w := by
  simp only [B1, L1, loopOf, fstS, sndS, inB, body42, Try.f42, Option.getD_some]
  go_wp2
  exact ⟨rfl, rfl, rfl⟩
theorem bt_at [Thr] {P : Program} {Q : Goroutine → World → Prop} {g : Goroutine} {w : World} {d : Nat} (h : BT P Q g w) : BT P Q g (w.at d) := fun S W gs sl t q hh => h S W gs sl t q ⟨hh.toHid, hh.thr⟩
section
variable {b : Frame} {a : Act} {kk : List Item} {cs : List Frame} {w : World} {ops : Array Oper} {i : Nat} {rest : List Nat} {o : Oper} [Thr] {Q : Goroutine → World → Prop}
theorem kA {x y : Code} (h : BT Try.prog Q (G (b.at a (.code x :: .code y :: kk)) cs) w) : BT Try.prog Q (G (b.at a (.code (.seq x y) :: kk)) cs) w := bt_ctl rfl (fun _ => stepG_seq) h
theorem kB (h : BT Try.prog Q (G (b.at a kk) cs) w) : BT Try.prog Q (G (b.at a (.code .skip :: kk)) cs) w := bt_ctl rfl (fun _ => stepG_skip) h
theorem kC (h : BT Try.prog Q (G (b.at a kk) cs) w) : BT Try.prog Q (G (b.at a (.inRegion ops [] :: kk)) cs) w := bt_ctl rfl (fun _ => stepG_region_end) h
theorem kD {id : Nat} {c : Code} (h : BT Try.prog Q (G (b.at a (.code c :: .inBlock id :: kk)) cs) w) : BT Try.prog Q (G (b.at a (.code (.block id c) :: kk)) cs) w := bt_ctl rfl (fun _ => stepG_block) h
theorem kE {id : Nat} (h : BT Try.prog Q (G (b.at a kk) cs) w) : BT Try.prog Q (G (b.at a (.inBlock id :: kk)) cs) w := bt_ctl rfl (fun _ => stepG_inBlock) h
theorem kF (h : BT Try.prog Q (G { b.at a (.code .ret :: kk) with mode := .returning } cs) w) : BT Try.prog Q (G (b.at a (.code .ret :: kk)) cs) w := bt_ctl rfl (fun _ => stepG_ret') h
theorem kG {id : Nat} (h : BT Try.prog Q (G (b.at a (.inRegion ops (List.range ops.size) :: kk)) cs) w) : BT Try.prog Q (G (b.at a (.code (.region id ops false) :: kk)) cs) w := bt_ctl rfl (fun _ => stepG_region) h
theorem kI {c : Operand} {x y : Code} (e : a.eval c = .bool false) (h : BT Try.prog Q (G (b.at a (.code y :: kk)) cs) w) : BT Try.prog Q (G (b.at a (.code (.cond c x y) :: kk)) cs) w := bt_ctl rfl (fun _ => stepG_cond e) h
theorem kJ {c : Operand} {x y : Code} (e : a.eval c = .bool true) (h : BT Try.prog Q (G (b.at a (.code x :: kk)) cs) w) : BT Try.prog Q (G (b.at a (.code (.cond c x y) :: kk)) cs) w := bt_ctl rfl (fun _ => stepG_cond e) h
theorem kO (ho : ops[i]? = some o) (hw : Region.wanted o (yielded ops a.tmps) = true) (hok : Br.okOp Zg Try.prog [] o = true) (hk : b.kind ≠ .early)
    (h : ∀ d, ∀ K : Act → World → Prop, (∀ a' w', (∀ b, Pz w b → Pz w' b) → BT Try.prog Q (G (b.at a' (.inRegion ops rest :: kk)) cs) w' → K a' w') → uponK o a K ((execOp a.eval o).run Try.prog (w.at d))) : BT Try.prog Q (G (b.at a (.inRegion ops (i :: rest) :: kk)) cs) w := bt_cons zgOk.bodied ho hw hok hk h
end
theorem ok4 : Br.okC (Br.okOp Zg Try.prog []) (fstS B1) = true := by kernel_rfl
theorem ok5 : Br.okC (Br.okOp Zg Try.prog []) (fstS (sndS B1)) = true := by kernel_rfl
theorem sameW_pz {w w' : World} (h : SameW w w') : ∀ b, Pz w b → Pz w' b := fun b ⟨e, he⟩ => ⟨e, by rw [h.1]; exact he⟩
theorem pz_alloc (w : World) {ob : Obj} {b : Nat} (h : Pz w b) : Pz (w.alloc ob) b := by
  obtain ⟨e, he⟩ := h
  refine ⟨e, ?_⟩
  have hlt := (Array.getElem?_eq_some_iff.1 he).1
  show (w.heap.push ob)[b]? = _
  rw [Array.getElem?_push, if_neg (by omega)]
  exact he
section
variable {Q : Goroutine → World → Prop} {ts : List Tv} {f : Rule} {wv : World} {a : Option Addr} {cap : Nat} {rule : Value} {g c : Nat} {z0 z1 : Value} {cs : List Frame}
theorem InvW.same {p : Nat} {w w' : World} (h : InvW ts f wv a cap rule g c p w) (hb : ∀ b, b < w.heap.size → w'.heap[b]? = w.heap[b]?) (hs : w.heap.size ≤ w'.heap.size) (ho : w'.output = w.output) (hos : Later w.os w'.os) : InvW ts f wv a cap rule g c p w' := by
  have hlg := (Array.getElem?_eq_some_iff.1 h.lg).1
  have c0 : ∀ {ad : Addr} {x : Value}, w.cell? ad = some x → w'.cell? ad = some x := fun hc => cell_blk (hb _ (cell_lt hc)) hc
  refine ⟨h.bel.trans ⟨hos, ho, hs, hb⟩ h.bel.size, c0 h.jb, c0 h.rb, (hb _ hlg).trans h.lg, fun l => ?_, c0 h.bk, h.rd.bel (M := 0) (fun b _ h2 _ => hb b h2) hs⟩
  obtain ⟨lm, ⟨es, cl, h1, h2⟩, h3⟩ := h.mp l
  exact ⟨lm, ⟨es, cl, (hb _ (Array.getElem?_eq_some_iff.1 h1).1).trans h1, h2⟩, h3⟩
set_option maxRecDepth 100000 in
set_option maxHeartbeats 4000000 in
/-- ████ FROM ROUND TO ROUND ████ -/
theorem rounds [Thr] (hj : jobOk ts = true) (hR : RuleOk wv rule ts.length f) (hT : Tks wv a ts) (hbd : ∀ x ∈ outOf f ts, 0 ≤ x ∧ x < 1000000007) (hg : Br.GC Try.prog wv) (hTh : Thr.N ≤ wv.heap.size)
    (hk : ∀ (p : Nat) (j4 j6 j7 j8 j9 j10 j11 j12 j13 j14 j15 j16 j20 j21 j22 j23 j24 j25 j26 j27 j28 j29 j30 j31 j32 j33 j34 j35 j36 : Value) w, p = (rnds ts).length → InvW ts f wv a cap rule g c p w → BT Try.prog Q (G ((base 42).at ⟨#[z0, z1, .pointer (some ⟨wv.heap.size, 0, none⟩), .pointer (some ⟨wv.heap.size + 1, 0, none⟩), j4, .pointer (some ⟨wv.heap.size + 4, 0, none⟩), j6, j7, j8, j9, j10, j11, j12, j13, j14, j15, j16, .slice (some ⟨g, 0, none⟩) (rnds ts).length c, .int .i64 ((rnds ts).length : Int), .int .i64 (p : Int), j20, j21, j22, j23, j24, j25, j26, j27, j28, j29, j30, j31, j32, j33, j34, j35, j36], []⟩ [.code R14]) cs) w) :
    ∀ (r p : Nat), p + r = (rnds ts).length → ∀ (j4 j6 j7 j8 j9 j10 j11 j12 j13 j14 j15 j16 j20 j21 j22 j23 j24 j25 j26 j27 j28 j29 j30 j31 j32 j33 j34 j35 j36 : Value) w, InvW ts f wv a cap rule g c p w → BT Try.prog Q (G ((base 42).at ⟨#[z0, z1, .pointer (some ⟨wv.heap.size, 0, none⟩), .pointer (some ⟨wv.heap.size + 1, 0, none⟩), j4, .pointer (some ⟨wv.heap.size + 4, 0, none⟩), j6, j7, j8, j9, j10, j11, j12, j13, j14, j15, j16, .slice (some ⟨g, 0, none⟩) (rnds ts).length c, .int .i64 ((rnds ts).length : Int), .int .i64 (p : Int), j20, j21, j22, j23, j24, j25, j26, j27, j28, j29, j30, j31, j32, j33, j34, j35, j36], []⟩ [.code L1, .inLoop L1, .inBlock 0, .code R14]) cs) w := by
  intro r
  induction r with
  | zero =>
    intro p hp j4 j6 j7 j8 j9 j10 j11 j12 j13 j14 j15 j16 j20 j21 j22 j23 j24 j25 j26 j27 j28 j29 j30 j31 j32 j33 j34 j35 j36 w hI
    obtain rfl : p = (rnds ts).length := by omega
    have hk' := hk
    simp only [L2, R12, R13, R14, L1, B1, X1, loopOf, fstS, sndS, inB, opsOf, body42, Try.f42, Option.getD_some] at hk' ⊢
    have q1 : decide (((rnds ts).length : Int) < ((rnds ts).length : Int)) = false := decide_eq_false (by omega)
    (repeat (first | refine kA ?_ | refine kB ?_ | refine kC ?_ | refine kD ?_ | refine kE ?_ | refine kF ?_ | (refine kG ?_; simp only [List.size_toArray, List.length_cons, List.length_nil, Nat.reduceAdd, Nat.zero_add, List.range, List.range.loop]) | (refine kO rfl (by rfl) (by decide) (by decide) (fun dzz Kzz hKzz => ?_); go_simp; refine hKzz _ _ (fun b hb => hb) (bt_at ?_); clear hKzz Kzz; try walk_nrm) | (refine bt_skip rfl (by rfl) ?_; try walk_nrm)))
    refine kI rfl ?_
    refine bt_ctl rfl (fun _ => stepG_exit rfl) ?_
    exact hk' _ _ _ _ _ _ _ _ _ _ _ _ _ _ _ _ _ _ _ _ _ _ _ _ _ _ _ _ _ _ w rfl hI
  | succ r ih =>
    intro p hp j4 j6 j7 j8 j9 j10 j11 j12 j13 j14 j15 j16 j20 j21 j22 j23 j24 j25 j26 j27 j28 j29 j30 j31 j32 j33 j34 j35 j36 w hI
    have hpl : p < (rnds ts).length := by omega
    obtain ⟨l, hl⟩ : ∃ l, (rnds ts)[p]? = some l := ⟨_, List.getElem?_eq_getElem hpl⟩
    obtain ⟨q, cq, hqc, hqN, hql⟩ := hI.rd.2 p l hl
    have q1 : decide ((p : Int) < ((rnds ts).length : Int)) = true := decide_eq_true (by omega)
    have hwr : IntKind.i64.wrap ((p : Int) + 1) = ((p + 1 : Nat) : Int) := by have := round_len hj hl; have := Rs.rn_len ts ts.length; have h200 := job_short hj; have : (rnds ts).length ≤ ts.length := Rs.rn_len ts ts.length; rw [IntKind.wrap_i64]; omega
    have hih := ih (p + 1) (by omega)
    simp only [L2, R12, R13, R14, L1, B1, X1, loopOf, fstS, sndS, inB, opsOf, body42, Try.f42, Option.getD_some] at hih
    simp only [L1, loopOf, body42, Try.f42, Option.getD_some]
    (repeat (first | refine kA ?_ | refine kB ?_ | refine kC ?_ | refine kD ?_ | refine kE ?_ | refine kF ?_ | (refine kG ?_; simp only [List.size_toArray, List.length_cons, List.length_nil, Nat.reduceAdd, Nat.zero_add, List.range, List.range.loop]) | (refine kO rfl (by rfl) (by decide) (by decide) (fun dzz Kzz hKzz => ?_); go_simp; refine hKzz _ _ (fun b hb => hb) (bt_at ?_); clear hKzz Kzz; try walk_nrm) | (refine bt_skip rfl (by rfl) ?_; try walk_nrm)))
    refine kJ rfl ?_
    (repeat (first | refine kA ?_ | refine kD ?_ | refine kE ?_ | refine kB ?_))
    have hgw : Br.GC Try.prog w := gc_belL hI.bel hg
    refine Br.BT.code (c := fstS B1) (R := fun a' w' => a' = ⟨#[z0, z1, .pointer (some ⟨wv.heap.size, 0, none⟩), .pointer (some ⟨wv.heap.size + 1, 0, none⟩), j4, .pointer (some ⟨wv.heap.size + 4, 0, none⟩), j6, slv (q, cq) l, j8, j9, j10, j11, j12, j13, j14, j15, j16, .slice (some ⟨g, 0, none⟩) (rnds ts).length c, .int .i64 ((rnds ts).length : Int), .int .i64 (p : Int), .bool true, .pointer (some ⟨g, p, none⟩), slv (q, cq) l, j23, j24, j25, j26, j27, j28, j29, j30, j31, j32, j33, j34, j35, j36], []⟩ ∧ SameW w w') zgOk Try.func42 rfl ok4 rfl hgw (fun a w T d h => h) (fun T d => wp_mono (piece4 (w := rt T d w) hqc hpl j4 j6 j7 j8 j9 j10 j11 j12 j13 j14 j15 j16 (.bool true) j21 j22 j23 j24 j25 j26 j27 j28 j29 j30 j31 j32 j33 j34 j35 j36) fun e a' w' ⟨h1, h2, h3⟩ => ⟨h1, h2, h3⟩) (fun a' w' h => sameW_pz h.2) ?_
    rintro a' w4 ⟨rfl, hs4⟩
    have hI4 : InvW ts f wv a cap rule g c p w4 := hI.same (fun b _ => by rw [hs4.1]) (by rw [hs4.1]; exact Nat.le_refl _) hs4.2.2 (by rw [hs4.2.1]; exact .refl _)
    have hqN4 : wv.heap.size + 5 ≤ q ∧ q < w4.heap.size := by rw [hs4.1]; exact hqN
    have hql4 : ∀ (k : Nat) x, l[k]? = some x → w4.cell? ⟨q, k, none⟩ = some (.int .i64 x) := fun k x hx => cell_blk (by rw [hs4.1]) (hql k x hx)
    clear hI hqc hqN hql hs4 hgw
    (repeat (first | refine kA ?_ | refine kD ?_ | refine kE ?_ | refine kB ?_))
    have hgw : Br.GC Try.prog w4 := gc_belL hI4.bel hg
    refine Br.BT.code (c := fstS (sndS B1)) (R := fun a' w' => (∃ u23, a' = ⟨#[z0, z1, .pointer (some ⟨wv.heap.size, 0, none⟩), .pointer (some ⟨wv.heap.size + 1, 0, none⟩), j4, .pointer (some ⟨wv.heap.size + 4, 0, none⟩), j6, slv (q, cq) l, .pointer (some ⟨w4.heap.size, 0, none⟩), j9, j10, j11, j12, j13, j14, j15, j16, .slice (some ⟨g, 0, none⟩) (rnds ts).length c, .int .i64 ((rnds ts).length : Int), .int .i64 (p : Int), .bool true, .pointer (some ⟨g, p, none⟩), slv (q, cq) l, u23, j24, j25, j26, j27, j28, j29, j30, j31, j32, j33, j34, j35, j36], []⟩) ∧ SameW (w4.alloc (.cells #[.int .u64 0, .int .u32 0] 99 (0, 0))) w') zgOk Try.func42 rfl ok5 rfl hgw (fun a w T d h => h) (fun T d => wp_mono (piece5 (w := rt T d w4) _ _ _ _ _ _ _ _ _ _ _ _ _ _ _ _ _ _ _ _ _ _ _ _ _ _ _ _) fun e a' w' ⟨h1, h2, h3⟩ => ⟨h1, h2, h3⟩) (fun a' w' h b hb => sameW_pz h.2 b (pz_alloc w4 hb)) ?_
    rintro a' w5 ⟨⟨u23, rfl⟩, hs5⟩
    have hb5 : ∀ b, b < w4.heap.size → w5.heap[b]? = w4.heap[b]? := fun b hb => by
      rw [hs5.1]
      show (w4.heap.push _)[b]? = _
      rw [Array.getElem?_push, if_neg (by omega)]
    have hz5 : w5.heap.size = w4.heap.size + 1 := by rw [hs5.1]; show (w4.heap.push _).size = _; simp
    have hWg : w5.heap[w4.heap.size]? = some (.cells #[.int .u64 0, .int .u32 0] 99 (0, 0)) := by rw [hs5.1]; exact heap_alloc_new w4 _
    have hI5 : InvW ts f wv a cap rule g c p w5 := hI4.same hb5 (by omega) hs5.2.2 (by rw [hs5.2.1]; exact .refl _)
    have hql5 : ∀ (k : Nat) x, l[k]? = some x → w5.cell? ⟨q, k, none⟩ = some (.int .i64 x) := fun k x hx => cell_blk (hb5 _ hqN4.2) (hql4 k x hx)
    generalize w4.heap.size = Wg at hqN4 hz5 hWg ⊢
    have hWgN : wv.heap.size + 5 ≤ Wg := by omega
    clear hI4 hql4 hb5 hs5 hgw
    (repeat (first | refine kA ?_ | refine kB ?_ | refine kC ?_ | refine kD ?_ | refine kE ?_ | refine kF ?_ | (refine kG ?_; simp only [List.size_toArray, List.length_cons, List.length_nil, Nat.reduceAdd, Nat.zero_add, List.range, List.range.loop]) | (refine kO rfl (by rfl) (by decide) (by decide) (fun dzz Kzz hKzz => ?_); go_simp; refine hKzz _ _ (fun b hb => hb) (bt_at ?_); clear hKzz Kzz; try walk_nrm) | (refine bt_skip rfl (by rfl) ?_; try walk_nrm)))
    refine bt_ctl rfl (fun _ => stepG_loop) ?_
    have hN : wv.heap.size ≤ w5.heap.size := hI5.bel.size
    intro S
    have hrb := roundB (S := S) (w := w5) (wv := wv) (Lg := wv.heap.size + 3) (Wg := Wg) (Mp := wv.heap.size + 2) (gq := q) (cR := cq) (o0 := cnt ts p) (p := p) (ts := ts) (f := f) (l := l) (bk := ⟨wv.heap.size + 4, 0, none⟩) (rb := ⟨wv.heap.size + 1, 0, none⟩) (jb := ⟨wv.heap.size, 0, none⟩) (rule := rule) (a := a) (cap := cap) (z0 := z0) (z1 := z1) (z17 := .slice (some ⟨g, 0, none⟩) (rnds ts).length c) (z18 := .int .i64 ((rnds ts).length : Int)) (z19 := .int .i64 (p : Int)) (cs := cs) hj hl (by have := cntR_le hj p; have := job_short hj; omega) hI5.lg hWg (hI5.mp l) hI5.bk ⟨by simp, by show wv.heap.size + 4 ≠ Wg; omega, by simp⟩ hI5.rb ⟨by simp, by show wv.heap.size + 1 ≠ Wg; omega, by simp⟩ hI5.jb ⟨by show wv.heap.size ≠ _; omega, by show wv.heap.size ≠ Wg; omega, by show wv.heap.size ≠ _; omega⟩ hql5 ⟨by omega, by omega, by omega⟩ hI5.bel.block hN ⟨by omega, by omega, by omega⟩ hR hT hbd (by omega)
    simp only [L2, R12, R13, R14, L1, B1, X1, loopOf, fstS, sndS, inB, opsOf, body42, Try.f42, Option.getD_some] at hrb ⊢
    refine Br.BTS.trans ((hrb _ _ _ _ _ _ _ _ _ _ _ _ _ _ _ _ _ _ _ _ _ _ _ _ _).mono ?_)
    rintro g' w6 ⟨⟨y4, y6, y7, y8, y9, y10, y11, y12, y13, y14, y15, y16, y20, y21, y22, y23, y24, y25, y26, y27, y28, y29, y30, y31, y32, y33, y34, y35, y36, rfl⟩, hP⟩
    have c6 : ∀ {ad : Addr} {x : Value}, w5.cell? ad = some x → ad.block ≠ wv.heap.size + 3 → ad.block ≠ Wg → ad.block ≠ wv.heap.size + 2 → w6.cell? ad = some x := fun hc h1 h2 h3 => cell_blk (hP.low _ (cell_lt hc) h1 h2 h3) hc
    have hI6 : InvW ts f wv a cap rule g c (p + 1) w6 := by
      refine ⟨hI5.bel.trans (M := wv.heap.size) ⟨hP.os, hP.output, hP.size, fun k hk' => hP.low k (by omega) (by omega) (by omega) (by omega)⟩ (Nat.le_refl _), c6 hI5.jb (by show wv.heap.size ≠ _; omega) (by show wv.heap.size ≠ _; omega) (by show wv.heap.size ≠ _; omega), c6 hI5.rb (by simp) (by show wv.heap.size + 1 ≠ Wg; omega) (by simp), ?_, hP.held, c6 hI5.bk (by simp) (by show wv.heap.size + 4 ≠ Wg; omega) (by simp), hI5.rd.bel (M := 0) (fun b h1 h2 h3 => hP.low b h2 (by omega) (fun e => h3 99 (by rw [e]; exact hWg)) (by omega)) hP.size⟩
      have := hP.lg
      rw [cnt_succ hl]
      exact this
    clear hrb hP c6 hI5 hql5 hWg hqN4
    (repeat (first | refine kA ?_ | refine kB ?_ | refine kC ?_ | refine kD ?_ | refine kE ?_ | refine kF ?_ | (refine kG ?_; simp only [List.size_toArray, List.length_cons, List.length_nil, Nat.reduceAdd, Nat.zero_add, List.range, List.range.loop]) | (refine kO rfl (by rfl) (by decide) (by decide) (fun dzz Kzz hKzz => ?_); go_simp; refine hKzz _ _ (fun b hb => hb) (bt_at ?_); clear hKzz Kzz; try walk_nrm) | (refine bt_skip rfl (by rfl) ?_; try walk_nrm)))
    refine bt_ctl rfl (fun _ => stepG_inLoop) ?_
    exact hih _ _ _ _ _ _ _ _ _ _ _ _ _ _ _ _ _ _ _ _ _ _ _ _ _ _ _ _ _ w6 hI6
end
end Go.Proofs.Ytpmmimcafkillaa.Tr

set_option linter.unusedVariables false
set_option linter.unusedSimpArgs false
namespace Go.Proofs.Ytpmmimcafkillaa.Tr
open Go Go.Conc Go.RowKit
open Go.Proofs.Ytpmmimcafkillaa.Rn (slv)
open Go.Proofs.Ytpmmimcafkillaa.Br (BT BTS Hd Hid Pz Pst Shn Thr EvN bt_ctl bt_cons bt_skip bt_call bt_enter CallsB rt)
open Go.Proofs.Ytpmmimcafkillaa.Rs (Rule outOf out_at out_len plc plc_need rnds round_at round_len ri_rnds)
open Go.Proofs.Ytpmmimcafkillaa (Tv Tks Ins jobOk job_tok TOk job_short)
theorem bts_of_rts [Thr] {P : Program} {Q2 : Goroutine → World → Prop} {S : Nat → Prop} {g : Goroutine} {w : World} (h : ∀ W, Hd S w W → RTS P (fun g' W' => ∃ w', Hd S w' W' ∧ Q2 g' w') S 0 g W) : BTS P Q2 S 0 g w := fun W gs sl t q hh h0 hL hP => by
  obtain ⟨N, gs', g', W', sl', t', q', hr, h1, h2, h3, w', h4, h5⟩ := h W hh W.drawn gs sl t q h0 hL hP
  exact ⟨N, gs', g', w', W', S, sl', t', q', hr, h1, h2, h3, h4, h5⟩
theorem nm64 : (Try.f64.name == "runtime.NumGoroutine") = false := by kernel_rfl
theorem b64 : Try.f64.body.isNone = false := by kernel_rfl
/-- what workedOut leaves -/
def PostW (w : World) (rs : List Int) (v : Value) (w' : World) : Prop := ∃ B, v = .slice (some ⟨B, 0, none⟩) rs.length rs.length ∧ w.heap.size ≤ B ∧ w'.heap[B]? = some (.cells (rs.map (Value.int .i64)).toArray 2 (0, 0)) ∧ BelL w.heap.size w w'
section
variable {Q : Goroutine → World → Prop} {ts : List Tv} {f : Rule} {wv : World} {a : Option Addr} {cap : Nat} {rule : Value} {g c : Nat} {z0 z1 : Value} {cc : Frame} {cs : List Frame}
set_option maxRecDepth 100000 in
set_option maxHeartbeats 4000000 in
theorem workEnd [Thr] (hj : jobOk ts = true) (hg : Br.GC Try.prog wv) (hk : ∀ v w', PostW wv (outOf f ts) v w' → BT Try.prog Q (G (cc.finish v) cs) w') :
    ∀ (p : Nat) (j4 j6 j7 j8 j9 j10 j11 j12 j13 j14 j15 j16 j20 j21 j22 j23 j24 j25 j26 j27 j28 j29 j30 j31 j32 j33 j34 j35 j36 : Value) w, p = (rnds ts).length → InvW ts f wv a cap rule g c p w → BT Try.prog Q (G ((base 42).at ⟨#[z0, z1, .pointer (some ⟨wv.heap.size, 0, none⟩), .pointer (some ⟨wv.heap.size + 1, 0, none⟩), j4, .pointer (some ⟨wv.heap.size + 4, 0, none⟩), j6, j7, j8, j9, j10, j11, j12, j13, j14, j15, j16, .slice (some ⟨g, 0, none⟩) (rnds ts).length c, .int .i64 ((rnds ts).length : Int), .int .i64 (p : Int), j20, j21, j22, j23, j24, j25, j26, j27, j28, j29, j30, j31, j32, j33, j34, j35, j36], []⟩ [.code R14]) (cc :: cs)) w := by
  intro p j4 j6 j7 j8 j9 j10 j11 j12 j13 j14 j15 j16 j20 j21 j22 j23 j24 j25 j26 j27 j28 j29 j30 j31 j32 j33 j34 j35 j36 w hp hI
  have hlen := out_len f ts
  have h200 := job_short hj
  have hcnt : cnt ts p = ts.length := by rw [hp]; exact cnt_all hj
  simp only [R14, sndS, body42, Try.f42, Option.getD_some]
  refine kA ?_
  (refine kG ?_; simp only [List.size_toArray, List.length_cons, List.length_nil, Nat.reduceAdd, Nat.zero_add, List.range, List.range.loop])
  refine bt_load (w := w) rfl hI.bk (fun W hW => stepG_load78 rfl rfl (by k_ne) rfl rfl hW loud42) ?_
  walk_nrm
  refine bt_enter Try.func64 nm64 b64 rfl rfl rfl (by k_ne) (vs := #[.pointer (some ⟨wv.heap.size + 3, 0, none⟩)]) (by simp [Act.eval]) ?_
  have e64 : Frame.enter Try.prog 64 #[.pointer (some ⟨wv.heap.size + 3, 0, none⟩)] .normal = (base 64).at ⟨#[.pointer (some ⟨wv.heap.size + 3, 0, none⟩), undef, undef, undef, undef, undef, undef, undef, undef, undef, undef, undef, undef, undef, undef, undef, undef, undef, undef, undef, undef, undef, undef], []⟩ [.code body64] := by
    simp [Frame.enter, Frame.at, Try.func64, base, Try.f64, body64]
  rw [e64]
  clear e64
  intro S
  refine Br.BTS.trans (bts_of_rts fun W hh => ?_)
  have hlt : ∀ b, S b → b < w.heap.size := fun b hb => hh.lt hb
  have hem : ∀ b, S b → ∃ e, w.heap[b]? = some (.cells #[] e (0, 0)) := fun b hb => let ⟨c, e, h1, _⟩ := hh.inn b hb; ⟨e, h1⟩
  have hsz : W.heap.size = w.heap.size := hh.size
  have eW : ∀ b, ¬ S b → W.heap[b]? = w.heap[b]? := fun b hb => hh.out b hb
  obtain ⟨lm, ⟨es, cl, hm1, hm2⟩, hm3⟩ := hI.mp []
  have sLg : ¬ S (wv.heap.size + 3) := fun h => by obtain ⟨e, he⟩ := hem _ h; rw [hI.lg] at he; simp at he
  have sMp : ¬ S (wv.heap.size + 2) := fun h => by obtain ⟨e, he⟩ := hem _ h; rw [hm1] at he; simp at he
  have ltLg : wv.heap.size + 3 < W.heap.size := by rw [hsz]; exact (Array.getElem?_eq_some_iff.1 hI.lg).1
  have ltMp : wv.heap.size + 2 < W.heap.size := by omega
  obtain ⟨ns, hns⟩ : ∃ ns : List Int, ns = (List.range ts.length).map fun i : Nat => (i : Int) := ⟨_, rfl⟩
  have hnl : ns.length = ts.length := by rw [hns]; simp
  have hnsj : ∀ j, j < ns.length → ns[j]? = some (j : Int) := fun j hj' => by rw [hns, List.getElem?_map, List.getElem?_range (by omega)]; rfl
  have hAll := fun (b₀ : Frame) (a₀ : Act) (ops₀ : Array Oper) (i₀ : Nat) (rest₀ : List Nat) (k₀ : List Item) (cs₀ : List Frame) => allA (b₀ := b₀) (a₀ := a₀) (ops₀ := ops₀) (i₀ := i₀) (rest₀ := rest₀) (k₀ := k₀) (cs := cs₀) (Q := fun g' W' => ∃ w', Hd S w' W' ∧ BT Try.prog Q g' w') (S := S) (Wb := W) (Lg := wv.heap.size + 3) (Mp := wv.heap.size + 2) (ns := ns) (vs := outOf f ts) (lm := lm) ltLg ltMp (by omega) (fun b hb => by rw [hsz]; exact hlt b hb) sLg ⟨es, cl, (eW _ sMp).trans hm1, hm2⟩ (by rw [hlen, hnl]) (by omega) hnsj (fun j n v hn hv => by
    have hjl : j < ns.length := (List.getElem?_eq_some_iff.1 hn).1
    rw [hnsj j hjl] at hn
    obtain rfl := Option.some.inj hn
    exact hm3.has j v (.inl (by rw [hp]; exact (ri_rnds hj).all j (by omega))) hv)
  refine hAll _ _ _ _ _ _ _ (by k_ne) (fun B w' hK => RTS.done fun d => ?_) W ⟨fun _ _ _ => rfl, by rw [hnl]; have := (eW _ sLg).trans hI.lg; rw [hcnt] at this; exact this, Nat.le_refl _, rfl, rfl, rfl, by simp⟩
  have hpin := hK.pin (B, .cells ((outOf f ts).map (Value.int .i64)).toArray 2 (0, 0)) (by simp)
  have hbl : ∀ b, b < w.heap.size → w'.heap[b]? = W.heap[b]? := fun b hb => by
    by_cases e : b = wv.heap.size + 3
    · subst e
      rw [hK.lg, hnl, eW _ sLg, hI.lg, hcnt]
    · exact hK.low b (by rw [hsz]; exact hb) e
  have hnSB : ¬ S B := fun h => by have := hlt _ h; have := hpin.1; simp only at this; omega
  refine ⟨vw S (w'.at d), vw_hd (fun b hb => ?_) hh.thr, ?_⟩
  · obtain ⟨c', e, _, h2⟩ := hh.inn b hb
    exact ⟨c', e, (hbl b (hlt b hb)).trans h2⟩
  have hPW : BelL w.heap.size w (vw S (w'.at d)) := by
    refine ⟨?_, ?_, ?_, fun k hk' => ?_⟩
    · have h1 : w'.os = W.os := hK.os
      have h2 : W.os = w.os := hh.os
      show Later w.os w'.os
      rw [h1, h2]; exact .refl _
    · exact hK.output.trans hh.output
    · rw [vw_size]; have := hK.size; show w.heap.size ≤ w'.heap.size; omega
    · by_cases hx : S k
      · obtain ⟨c', e, h1, h2⟩ := hh.inn k hx
        rw [vw_in (W := w'.at d) hx ((hbl k hk').trans h2)]
        exact h1.symm
      · rw [vw_out hx]
        exact (hbl k hk').trans (eW k hx)
  have hPB : (vw S (w'.at d)).heap[B]? = some (.cells ((outOf f ts).map (Value.int .i64)).toArray 2 (0, 0)) := by rw [vw_out hnSB]; exact hpin.2
  have hBge : wv.heap.size ≤ B := by have := hpin.1; have := hI.bel.size; simp only at *; omega
  have hfin := hk (.slice (some ⟨B, 0, none⟩) (outOf f ts).length (outOf f ts).length) _ ⟨B, rfl, hBge, hPB, hI.bel.trans hPW hI.bel.size⟩
  clear hAll hK hpin hbl
  generalize vw S (w'.at d) = w7 at hfin hPB hPW ⊢
  rw [hlen, ← hnl] at hfin
  walk_nrm
  (repeat (first | refine kA ?_ | refine kB ?_ | refine kC ?_ | refine kD ?_ | refine kE ?_ | refine kF ?_ | (refine kG ?_; simp only [List.size_toArray, List.length_cons, List.length_nil, Nat.reduceAdd, Nat.zero_add, List.range, List.range.loop]) | (refine kO rfl (by rfl) (by decide) (by decide) (fun dzz Kzz hKzz => ?_); go_simp; refine hKzz _ _ (fun b hb => hb) (bt_at ?_); clear hKzz Kzz; try walk_nrm) | (refine bt_skip rfl (by rfl) ?_; try walk_nrm)))
  refine Br.BT.leave (v := .slice (some ⟨B, 0, none⟩) ns.length ns.length) ⟨rfl, rfl, rfl, Try.f42, Try.func42, by simp [results, Try.f42, Frame.at, hnl]⟩ hfin
end
end Go.Proofs.Ytpmmimcafkillaa.Tr
