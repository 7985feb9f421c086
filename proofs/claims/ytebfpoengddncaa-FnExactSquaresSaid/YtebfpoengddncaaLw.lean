/-
  The law of FnExactSquares, beside leavers: it answers true.
-/
import Derived.Test.YtebfpoengddncaaLw2
set_option linter.unusedVariables false
set_option linter.unusedSimpArgs false
namespace Go.Proofs.Ytebfpoengddncaa
open Go Go.Conc Go.RowKit


set_option maxHeartbeats 6400000 in
set_option maxRecDepth 100000 in
theorem lawSq (a : Option Addr) (ca : Nat) (l : List Nat) (n : Int) (w : World) (hg : GC Try.prog w) (hm : l.length ≤ maxLen) (ha : Fls false 0 w.heap.size w a l) :
    BA Try.prog (AtEnd0 Try.prog (PostL w)) (G (Frame.enter Try.prog 3 #[.slice a l.length ca, .int .i64 n] .normal) []) w := by
  rw [enter_at _ Try.func3 rfl]
  simp only [Try.f3, Option.getD_some, List.size_toArray, List.length_cons, List.length_nil, Nat.reduceAdd, Nat.reduceSub, Array.replicate_succ, Array.replicate_zero, List.push_toArray, List.append_toArray, List.nil_append, List.cons_append]
  by_cases hl : l.length ≤ 1048576
  · have hd0 : decide ((1048576 : Int) < (l.length : Int)) = false := decide_eq_false (by omega)
    have hd1 : ¬ (1048576 < l.length) := by omega
    (repeat (first | (first | refine ba_ctl rfl (fun _ => stepG_seq) ?_ | refine ba_ctl rfl (fun _ => stepG_skip) ?_ | refine ba_ctl rfl (fun _ => stepG_block) ?_ | refine ba_ctl rfl (fun _ => stepG_loop) ?_ | refine ba_ctl rfl (fun _ => stepG_inLoop) ?_ | refine ba_ctl rfl (fun _ => stepG_inBlock) ?_ | refine ba_ctl rfl (fun _ => stepG_region_end) ?_ | refine ba_ctl rfl (fun _ => stepG_ret') ?_ | (refine ba_ctl rfl (fun _ => stepG_region) ?_; simp only [List.size_toArray, List.length_cons, List.length_nil, Nat.reduceAdd, Nat.zero_add, List.range, List.range.loop])) | (refine ba_cons bod rfl (by rfl) rfl (by decide) (fun dzz Kzz hKzz => ?_); go_simp; refine hKzz _ _ (BA.at ?_ dzz); clear hKzz Kzz; try walk_nrm) | (refine ba_skip rfl (by rfl) ?_; try walk_nrm)))
    (refine ba_ctl rfl (fun _ => stepG_cond (t := false) rfl) ?_; simp only [if_true, if_false, Bool.false_eq_true, ↓reduceIte])
    (repeat (first | (first | refine ba_ctl rfl (fun _ => stepG_seq) ?_ | refine ba_ctl rfl (fun _ => stepG_skip) ?_ | refine ba_ctl rfl (fun _ => stepG_block) ?_ | refine ba_ctl rfl (fun _ => stepG_loop) ?_ | refine ba_ctl rfl (fun _ => stepG_inLoop) ?_ | refine ba_ctl rfl (fun _ => stepG_inBlock) ?_ | refine ba_ctl rfl (fun _ => stepG_region_end) ?_ | refine ba_ctl rfl (fun _ => stepG_ret') ?_ | (refine ba_ctl rfl (fun _ => stepG_region) ?_; simp only [List.size_toArray, List.length_cons, List.length_nil, Nat.reduceAdd, Nat.zero_add, List.range, List.range.loop])) | (refine ba_cons bod rfl (by rfl) rfl (by decide) (fun dzz Kzz hKzz => ?_); go_simp; refine hKzz _ _ (BA.at ?_ dzz); clear hKzz Kzz; try walk_nrm) | (refine ba_skip rfl (by rfl) ?_; try walk_nrm)))
    -- the model's answer
    refine ba_call setOk (tofB a ca l w hl ha) hg tofR rfl Try.func5 (by rfl) (by rfl) rfl (by rfl) rfl (by decide) (by simp [Act.eval]) ?_
    rintro v w1 ⟨g1, rfl, hg1, o1, b1⟩
    try walk_nrm
    have G1 := b1.gc hg
    (repeat (first | (first | refine ba_ctl rfl (fun _ => stepG_seq) ?_ | refine ba_ctl rfl (fun _ => stepG_skip) ?_ | refine ba_ctl rfl (fun _ => stepG_block) ?_ | refine ba_ctl rfl (fun _ => stepG_loop) ?_ | refine ba_ctl rfl (fun _ => stepG_inLoop) ?_ | refine ba_ctl rfl (fun _ => stepG_inBlock) ?_ | refine ba_ctl rfl (fun _ => stepG_region_end) ?_ | refine ba_ctl rfl (fun _ => stepG_ret') ?_ | (refine ba_ctl rfl (fun _ => stepG_region) ?_; simp only [List.size_toArray, List.length_cons, List.length_nil, Nat.reduceAdd, Nat.zero_add, List.range, List.range.loop])) | (refine ba_cons bod rfl (by rfl) rfl (by decide) (fun dzz Kzz hKzz => ?_); go_simp; refine hKzz _ _ (BA.at ?_ dzz); clear hKzz Kzz; try walk_nrm) | (refine ba_skip rfl (by rfl) ?_; try walk_nrm)))
    refine ba_call setOk (ssqB (some ⟨g1, 0, none⟩) l.length l n w1 (row_fls o1)) G1 (fun v w T d h => h.tp T d) rfl Try.func4 (by rfl) (by rfl) rfl (by rfl) rfl (by decide) (by simp [Act.eval]) ?_
    rintro v w2 ⟨gS, cS, LS, rfl, hgS, oS, lS, b2⟩
    try walk_nrm
    have B2 : Bel w.heap.size w w2 := b1.trans (b2.mono b1.size)
    have G2 := B2.gc hg
    have a2 := (B2.fls ha).mono (Nat.le_refl _) B2.size
    have oS2 := own_mono oS (Nat.zero_le _)
    have kS : gS < w2.heap.size := own_lt oS
    clear oS o1
    (repeat (first | (first | refine ba_ctl rfl (fun _ => stepG_seq) ?_ | refine ba_ctl rfl (fun _ => stepG_skip) ?_ | refine ba_ctl rfl (fun _ => stepG_block) ?_ | refine ba_ctl rfl (fun _ => stepG_loop) ?_ | refine ba_ctl rfl (fun _ => stepG_inLoop) ?_ | refine ba_ctl rfl (fun _ => stepG_inBlock) ?_ | refine ba_ctl rfl (fun _ => stepG_region_end) ?_ | refine ba_ctl rfl (fun _ => stepG_ret') ?_ | (refine ba_ctl rfl (fun _ => stepG_region) ?_; simp only [List.size_toArray, List.length_cons, List.length_nil, Nat.reduceAdd, Nat.zero_add, List.range, List.range.loop])) | (refine ba_cons bod rfl (by rfl) rfl (by decide) (fun dzz Kzz hKzz => ?_); go_simp; refine hKzz _ _ (BA.at ?_ dzz); clear hKzz Kzz; try walk_nrm) | (refine ba_skip rfl (by rfl) ?_; try walk_nrm)))
    -- the program's answer
    refine ba_call setOk (tofB a ca l w2 hl a2) G2 tofR rfl Try.func5 (by rfl) (by rfl) rfl (by rfl) rfl (by decide) (by simp [Act.eval]) ?_
    rintro v w3 ⟨gX, rfl, hgX, oX, b3⟩
    try walk_nrm
    have B3 : Bel w.heap.size w w3 := B2.trans (b3.mono B2.size)
    have G3 := B3.gc hg
    have oS3 := b3.own oS2
    have kX : gX < w3.heap.size := own_lt oX
    clear oS2 a2
    (repeat (first | (first | refine ba_ctl rfl (fun _ => stepG_seq) ?_ | refine ba_ctl rfl (fun _ => stepG_skip) ?_ | refine ba_ctl rfl (fun _ => stepG_block) ?_ | refine ba_ctl rfl (fun _ => stepG_loop) ?_ | refine ba_ctl rfl (fun _ => stepG_inLoop) ?_ | refine ba_ctl rfl (fun _ => stepG_inBlock) ?_ | refine ba_ctl rfl (fun _ => stepG_region_end) ?_ | refine ba_ctl rfl (fun _ => stepG_ret') ?_ | (refine ba_ctl rfl (fun _ => stepG_region) ?_; simp only [List.size_toArray, List.length_cons, List.length_nil, Nat.reduceAdd, Nat.zero_add, List.range, List.range.loop])) | (refine ba_cons bod rfl (by rfl) rfl (by decide) (fun dzz Kzz hKzz => ?_); go_simp; refine hKzz _ _ (BA.at ?_ dzz); clear hKzz Kzz; try walk_nrm) | (refine ba_skip rfl (by rfl) ?_; try walk_nrm)))
    refine ba_callB (isq_B (some ⟨gX, 0, none⟩) l.length l n w3 G3 (row_fls oX)) Try.func6 (by rfl) (by rfl) rfl (by rfl) rfl (by decide) (by simp [Act.eval]) ?_
    rintro v w4 ⟨gG, cG, LG, rfl, hgG, oG, lG, b4⟩
    try walk_nrm
    have B4 : Bel w.heap.size w w4 := B3.trans (b4.mono B3.size)
    have G4 := B4.gc hg
    have a4 := (B4.fls ha).mono (Nat.le_refl _) B4.size
    have oS4 := b4.own oS3
    have oX4 := b4.own (own_mono oX (Nat.zero_le _))
    have oG4 := own_mono oG (Nat.zero_le _)
    have hN : sqN l n ≤ 4096 := sqN_le l n
    have hLG : LG.length ≤ 4096 := by rw [lG.1]; exact hN
    have hLS : LS.length ≤ 4096 := by rw [lS.1]; exact hN
    have sm : SmL LG LS := lG.sm lS
    clear oX oS3 oG hN
    (repeat (first | (first | refine ba_ctl rfl (fun _ => stepG_seq) ?_ | refine ba_ctl rfl (fun _ => stepG_skip) ?_ | refine ba_ctl rfl (fun _ => stepG_block) ?_ | refine ba_ctl rfl (fun _ => stepG_loop) ?_ | refine ba_ctl rfl (fun _ => stepG_inLoop) ?_ | refine ba_ctl rfl (fun _ => stepG_inBlock) ?_ | refine ba_ctl rfl (fun _ => stepG_region_end) ?_ | refine ba_ctl rfl (fun _ => stepG_ret') ?_ | (refine ba_ctl rfl (fun _ => stepG_region) ?_; simp only [List.size_toArray, List.length_cons, List.length_nil, Nat.reduceAdd, Nat.zero_add, List.range, List.range.loop])) | (refine ba_cons bod rfl (by rfl) rfl (by decide) (fun dzz Kzz hKzz => ?_); go_simp; refine hKzz _ _ (BA.at ?_ dzz); clear hKzz Kzz; try walk_nrm) | (refine ba_skip rfl (by rfl) ?_; try walk_nrm)))
    refine ba_call setOk (eqB (some ⟨gG, 0, none⟩) (some ⟨gS, 0, none⟩) cG cS LG LS w4 (by omega) sm (row_fls oG4) (row_fls oS4)) G4 eqR rfl Try.func7 (by rfl) (by rfl) rfl (by rfl) rfl (by decide) (by simp [Act.eval]) ?_
    rintro v w5 ⟨rfl, b5⟩
    try walk_nrm
    have B5 : Bel w.heap.size w w5 := B4.trans (b5.mono B4.size)
    have G5 := B5.gc hg
    have a5 := (B5.fls ha).mono (Nat.le_refl _) B5.size
    have oS5 := b5.own oS4
    have oX5 := b5.own oX4
    have oG5 := b5.own oG4
    clear oS4 oX4 oG4 a4
    (repeat (first | (first | refine ba_ctl rfl (fun _ => stepG_seq) ?_ | refine ba_ctl rfl (fun _ => stepG_skip) ?_ | refine ba_ctl rfl (fun _ => stepG_block) ?_ | refine ba_ctl rfl (fun _ => stepG_loop) ?_ | refine ba_ctl rfl (fun _ => stepG_inLoop) ?_ | refine ba_ctl rfl (fun _ => stepG_inBlock) ?_ | refine ba_ctl rfl (fun _ => stepG_region_end) ?_ | refine ba_ctl rfl (fun _ => stepG_ret') ?_ | (refine ba_ctl rfl (fun _ => stepG_region) ?_; simp only [List.size_toArray, List.length_cons, List.length_nil, Nat.reduceAdd, Nat.zero_add, List.range, List.range.loop])) | (refine ba_cons bod rfl (by rfl) rfl (by decide) (fun dzz Kzz hKzz => ?_); go_simp; refine hKzz _ _ (BA.at ?_ dzz); clear hKzz Kzz; try walk_nrm) | (refine ba_skip rfl (by rfl) ?_; try walk_nrm)))
    (refine ba_ctl rfl (fun _ => stepG_cond (t := false) rfl) ?_; simp only [if_true, if_false, Bool.false_eq_true, ↓reduceIte])
    (repeat (first | (first | refine ba_ctl rfl (fun _ => stepG_seq) ?_ | refine ba_ctl rfl (fun _ => stepG_skip) ?_ | refine ba_ctl rfl (fun _ => stepG_block) ?_ | refine ba_ctl rfl (fun _ => stepG_loop) ?_ | refine ba_ctl rfl (fun _ => stepG_inLoop) ?_ | refine ba_ctl rfl (fun _ => stepG_inBlock) ?_ | refine ba_ctl rfl (fun _ => stepG_region_end) ?_ | refine ba_ctl rfl (fun _ => stepG_ret') ?_ | (refine ba_ctl rfl (fun _ => stepG_region) ?_; simp only [List.size_toArray, List.length_cons, List.length_nil, Nat.reduceAdd, Nat.zero_add, List.range, List.range.loop])) | (refine ba_cons bod rfl (by rfl) rfl (by decide) (fun dzz Kzz hKzz => ?_); go_simp; refine hKzz _ _ (BA.at ?_ dzz); clear hKzz Kzz; try walk_nrm) | (refine ba_skip rfl (by rfl) ?_; try walk_nrm)))
    -- the argument is as it was
    refine ba_call setOk (tofB a ca l w5 hl a5) G5 tofR rfl Try.func5 (by rfl) (by rfl) rfl (by rfl) rfl (by decide) (by simp [Act.eval]) ?_
    rintro v w6 ⟨g6, rfl, hg6, o6, b6⟩
    try walk_nrm
    have B6 : Bel w.heap.size w w6 := B5.trans (b6.mono B5.size)
    have G6 := B6.gc hg
    have oS6 := b6.own oS5
    have oX6 := b6.own oX5
    have oG6 := b6.own oG5
    clear oS5 oX5 oG5 a5
    (repeat (first | (first | refine ba_ctl rfl (fun _ => stepG_seq) ?_ | refine ba_ctl rfl (fun _ => stepG_skip) ?_ | refine ba_ctl rfl (fun _ => stepG_block) ?_ | refine ba_ctl rfl (fun _ => stepG_loop) ?_ | refine ba_ctl rfl (fun _ => stepG_inLoop) ?_ | refine ba_ctl rfl (fun _ => stepG_inBlock) ?_ | refine ba_ctl rfl (fun _ => stepG_region_end) ?_ | refine ba_ctl rfl (fun _ => stepG_ret') ?_ | (refine ba_ctl rfl (fun _ => stepG_region) ?_; simp only [List.size_toArray, List.length_cons, List.length_nil, Nat.reduceAdd, Nat.zero_add, List.range, List.range.loop])) | (refine ba_cons bod rfl (by rfl) rfl (by decide) (fun dzz Kzz hKzz => ?_); go_simp; refine hKzz _ _ (BA.at ?_ dzz); clear hKzz Kzz; try walk_nrm) | (refine ba_skip rfl (by rfl) ?_; try walk_nrm)))
    refine ba_call setOk (eqB (some ⟨gX, 0, none⟩) (some ⟨g6, 0, none⟩) l.length l.length l l w6 hl SmL.rfl (row_fls oX6) (row_fls o6)) G6 eqR rfl Try.func7 (by rfl) (by rfl) rfl (by rfl) rfl (by decide) (by simp [Act.eval]) ?_
    rintro v w7 ⟨rfl, b7⟩
    try walk_nrm
    have B7 : Bel w.heap.size w w7 := B6.trans (b7.mono B6.size)
    have G7 := B7.gc hg
    have oS7 := b7.own oS6
    have oX7 := b7.own oX6
    have oG7 := b7.own oG6
    clear oS6 oX6 oG6 o6
    (repeat (first | (first | refine ba_ctl rfl (fun _ => stepG_seq) ?_ | refine ba_ctl rfl (fun _ => stepG_skip) ?_ | refine ba_ctl rfl (fun _ => stepG_block) ?_ | refine ba_ctl rfl (fun _ => stepG_loop) ?_ | refine ba_ctl rfl (fun _ => stepG_inLoop) ?_ | refine ba_ctl rfl (fun _ => stepG_inBlock) ?_ | refine ba_ctl rfl (fun _ => stepG_region_end) ?_ | refine ba_ctl rfl (fun _ => stepG_ret') ?_ | (refine ba_ctl rfl (fun _ => stepG_region) ?_; simp only [List.size_toArray, List.length_cons, List.length_nil, Nat.reduceAdd, Nat.zero_add, List.range, List.range.loop])) | (refine ba_cons bod rfl (by rfl) rfl (by decide) (fun dzz Kzz hKzz => ?_); go_simp; refine hKzz _ _ (BA.at ?_ dzz); clear hKzz Kzz; try walk_nrm) | (refine ba_skip rfl (by rfl) ?_; try walk_nrm)))
    (refine ba_ctl rfl (fun _ => stepG_cond (t := false) rfl) ?_; simp only [if_true, if_false, Bool.false_eq_true, ↓reduceIte])
    (first | refine ba_ctl rfl (fun _ => stepG_seq) ?_ | refine ba_ctl rfl (fun _ => stepG_skip) ?_ | refine ba_ctl rfl (fun _ => stepG_block) ?_ | refine ba_ctl rfl (fun _ => stepG_loop) ?_ | refine ba_ctl rfl (fun _ => stepG_inLoop) ?_ | refine ba_ctl rfl (fun _ => stepG_inBlock) ?_ | refine ba_ctl rfl (fun _ => stepG_region_end) ?_ | refine ba_ctl rfl (fun _ => stepG_ret') ?_ | (refine ba_ctl rfl (fun _ => stepG_region) ?_; simp only [List.size_toArray, List.length_cons, List.length_nil, Nat.reduceAdd, Nat.zero_add, List.range, List.range.loop]))
    exact lawSq2 a ca l n w hg hl ha w2 w3 w7 gS cS gX gG cG LS LG B2 hgX kS b3 B3 kX hgG lS lG hLG hLS sm B7 oS7 oX7 oG7 _ _ _ _ _ _ _ _ _ _ _ _ _ _ _ _ _ _ _ _ _ _ _ _ _ _ _ _ _ _ _ _ _ _ _ _ _ _ _ _ _ _ _ _ _ _ _ _ _ _ _ _ _ _ _ _ _ _ _ _ _ _ _ _ _ _
  · have hd0 : decide ((1048576 : Int) < (l.length : Int)) = true := decide_eq_true (by omega)
    have hd1 : 1048576 < l.length := by omega
    (repeat (first | (first | refine ba_ctl rfl (fun _ => stepG_seq) ?_ | refine ba_ctl rfl (fun _ => stepG_skip) ?_ | refine ba_ctl rfl (fun _ => stepG_block) ?_ | refine ba_ctl rfl (fun _ => stepG_loop) ?_ | refine ba_ctl rfl (fun _ => stepG_inLoop) ?_ | refine ba_ctl rfl (fun _ => stepG_inBlock) ?_ | refine ba_ctl rfl (fun _ => stepG_region_end) ?_ | refine ba_ctl rfl (fun _ => stepG_ret') ?_ | (refine ba_ctl rfl (fun _ => stepG_region) ?_; simp only [List.size_toArray, List.length_cons, List.length_nil, Nat.reduceAdd, Nat.zero_add, List.range, List.range.loop])) | (refine ba_cons bod rfl (by rfl) rfl (by decide) (fun dzz Kzz hKzz => ?_); go_simp; refine hKzz _ _ (BA.at ?_ dzz); clear hKzz Kzz; try walk_nrm) | (refine ba_skip rfl (by rfl) ?_; try walk_nrm)))
    (refine ba_ctl rfl (fun _ => stepG_cond (t := true) rfl) ?_; simp only [if_true, if_false, Bool.false_eq_true, ↓reduceIte])
    (repeat (first | (first | refine ba_ctl rfl (fun _ => stepG_seq) ?_ | refine ba_ctl rfl (fun _ => stepG_skip) ?_ | refine ba_ctl rfl (fun _ => stepG_block) ?_ | refine ba_ctl rfl (fun _ => stepG_loop) ?_ | refine ba_ctl rfl (fun _ => stepG_inLoop) ?_ | refine ba_ctl rfl (fun _ => stepG_inBlock) ?_ | refine ba_ctl rfl (fun _ => stepG_region_end) ?_ | refine ba_ctl rfl (fun _ => stepG_ret') ?_ | (refine ba_ctl rfl (fun _ => stepG_region) ?_; simp only [List.size_toArray, List.length_cons, List.length_nil, Nat.reduceAdd, Nat.zero_add, List.range, List.range.loop])) | (refine ba_cons bod rfl (by rfl) rfl (by decide) (fun dzz Kzz hKzz => ?_); go_simp; refine hKzz _ _ (BA.at ?_ dzz); clear hKzz Kzz; try walk_nrm) | (refine ba_skip rfl (by rfl) ?_; try walk_nrm)))
    exact ba_end (t := 4) Try.func3 (by rfl) (by kernel_rfl) rfl fun d => ⟨rfl, ⟨rfl, rfl, Nat.le_refl _, fun _ _ => rfl⟩⟩
end Go.Proofs.Ytebfpoengddncaa
