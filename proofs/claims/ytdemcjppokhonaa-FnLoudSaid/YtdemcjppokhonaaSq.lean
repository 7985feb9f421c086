/-
  Squares of the program, beside leavers: it answers the means of the squares.
-/
import Derived.Test.YtdemcjppokhonaaBx
set_option linter.unusedVariables false
set_option linter.unusedSimpArgs false
namespace Go.Proofs.Ytdemcjppokhonaa
open Go Go.Conc Go.RowKit

/-- an answer, the tape not told -/
def AnsB (f : Nat → Nat) (N : Nat) (w : World) (v : Value) (w' : World) : Prop :=
  ∃ g cap L, v = .slice (some ⟨g, 0, none⟩) L.length cap ∧ w.heap.size ≤ g ∧ w'.ownsRow w.heap.size 25 1 (.slice (some ⟨g, 0, none⟩) L.length cap) L.length (L.map fl) ∧ Ls f N L ∧ Bel w.heap.size w w'
theorem AnsB.tp {f : Nat → Nat} {N : Nat} {w w' : World} {v : Value} (h : AnsB f N w v w') (T : Nat → Question → Nat) (d : Nat) : AnsB f N w v (rt T d w') := by
  obtain ⟨g, cap, L, h1, h2, h3, h4, h5⟩ := h
  exact ⟨g, cap, L, h1, h2, h3, h4, h5.rt T d⟩
theorem AnsB.of {f : Nat → Nat} {N : Nat} {w w' : World} {e : Ending} {T : Nat → Question → Nat} {d : Nat} (h : Ans f N (rt T d w) e w') : ∃ v, e = .returned v ∧ AnsB f N w v w' := by
  obtain ⟨g, cap, L, h1, h2, h3, h4, h5⟩ := h
  exact ⟨_, h1, g, cap, L, rfl, h2, h3, h4, ⟨h5.os, h5.output, h5.size, h5.block⟩⟩
theorem own_le {w : World} {B g n cap e m : Nat} {xs : List Value} (h : w.ownsRow B e m (.slice (some ⟨g, 0, none⟩) n cap) n xs) : n ≤ cap := by
  rcases h.2 with ⟨h0, _⟩ | ⟨g', cp, cur, e1, h⟩
  · cases h0
  · simp only [Value.slice.injEq] at e1
    have := h
    simp_all

/-- from behind the receive that found the channel closed to the caller -/
theorem sq_fin (Fin : Goroutine → World → Prop) (c : Nat) (cf : Frame) (cs : List Frame) (out : Value) (v0 v1 v2 v3 v4 v5 v6 v8 v9 v10 v11 v12 v13 v14 v15 v16 v17 v18 v19 v20 v21 v22 v23 v24 v25 v26 v27 v28 v29 v30 v31 v34 v35 v36 v37 v38 v39 v40 v41 : Value) (w : World) (h : BA Try.prog Fin (G (cf.finish out) cs) w) :
    BA Try.prog Fin (atR6 c (cf :: cs) out (.tuple #[.slice none 0 0, .bool false]) v0 v1 v2 v3 v4 v5 v6 v8 v9 v10 v11 v12 v13 v14 v15 v16 v17 v18 v19 v20 v21 v22 v23 v24 v25 v26 v27 v28 v29 v30 v31 v34 v35 v36 v37 v38 v39 v40 v41 [1]) w := by
  simp only [atR6, ops8, L8b, L8, R11, T6, body6, Try.f24, Option.getD_some]
  (repeat (first | (first | refine ba_ctl rfl (fun _ => stepG_seq) ?_ | refine ba_ctl rfl (fun _ => stepG_skip) ?_ | refine ba_ctl rfl (fun _ => stepG_block) ?_ | refine ba_ctl rfl (fun _ => stepG_loop) ?_ | refine ba_ctl rfl (fun _ => stepG_inLoop) ?_ | refine ba_ctl rfl (fun _ => stepG_inBlock) ?_ | refine ba_ctl rfl (fun _ => stepG_region_end) ?_ | refine ba_ctl rfl (fun _ => stepG_ret') ?_ | (refine ba_ctl rfl (fun _ => stepG_region) ?_; simp only [List.size_toArray, List.length_cons, List.length_nil, Nat.reduceAdd, Nat.zero_add, List.range, List.range.loop])) | (refine ba_cons bod rfl (by rfl) rfl (by decide) (fun dzz Kzz hKzz => ?_); go_simp; refine hKzz _ _ (BA.at ?_ dzz); clear hKzz Kzz; try walk_nrm) | (refine ba_skip rfl (by rfl) ?_; try walk_nrm)))
  (refine ba_ctl rfl (fun _ => stepG_cond (t := false) rfl) ?_; simp only [if_true, if_false, Bool.false_eq_true, ↓reduceIte])
  refine ba_ctl rfl (fun _ => stepG_exit (by rfl)) ?_
  (repeat (first | (first | refine ba_ctl rfl (fun _ => stepG_seq) ?_ | refine ba_ctl rfl (fun _ => stepG_skip) ?_ | refine ba_ctl rfl (fun _ => stepG_block) ?_ | refine ba_ctl rfl (fun _ => stepG_loop) ?_ | refine ba_ctl rfl (fun _ => stepG_inLoop) ?_ | refine ba_ctl rfl (fun _ => stepG_inBlock) ?_ | refine ba_ctl rfl (fun _ => stepG_region_end) ?_ | refine ba_ctl rfl (fun _ => stepG_ret') ?_ | (refine ba_ctl rfl (fun _ => stepG_region) ?_; simp only [List.size_toArray, List.length_cons, List.length_nil, Nat.reduceAdd, Nat.zero_add, List.range, List.range.loop])) | (refine ba_cons bod rfl (by rfl) rfl (by decide) (fun dzz Kzz hKzz => ?_); go_simp; refine hKzz _ _ (BA.at ?_ dzz); clear hKzz Kzz; try walk_nrm) | (refine ba_skip rfl (by rfl) ?_; try walk_nrm)))
  exact ba_leave (t := 4) Try.func24 (by rfl) rfl h

set_option maxHeartbeats 1600000 in
set_option maxRecDepth 100000 in
theorem sq_bad (Fin : Goroutine → World → Prop) (cf : Frame) (cs : List Frame) (a : Option Addr) (ca : Nat) (l : List Nat) (n : Int) (w : World) (hg : GC Try.prog w) (hno : ¬ (l.length ≤ 4096 ∧ 1 ≤ n ∧ n ≤ 4096)) (f : Nat → Nat)
    (hn : ∀ v w', AnsB f 0 w v w' → BA Try.prog Fin (G (cf.finish v) cs) w') : BA Try.prog Fin (G (Frame.enter Try.prog 24 #[.slice a l.length ca, .int .i64 n] .normal) (cf :: cs)) w := by
  rw [enter_at _ Try.func24 rfl]
  simp only [Try.f24, Option.getD_some, List.size_toArray, List.length_cons, List.length_nil, Nat.reduceAdd, Nat.reduceSub, Array.replicate_succ, Array.replicate_zero, List.push_toArray, List.append_toArray, List.nil_append, List.cons_append]
  (repeat (first | (first | refine ba_ctl rfl (fun _ => stepG_seq) ?_ | refine ba_ctl rfl (fun _ => stepG_skip) ?_ | refine ba_ctl rfl (fun _ => stepG_block) ?_ | refine ba_ctl rfl (fun _ => stepG_loop) ?_ | refine ba_ctl rfl (fun _ => stepG_inLoop) ?_ | refine ba_ctl rfl (fun _ => stepG_inBlock) ?_ | refine ba_ctl rfl (fun _ => stepG_region_end) ?_ | refine ba_ctl rfl (fun _ => stepG_ret') ?_ | (refine ba_ctl rfl (fun _ => stepG_region) ?_; simp only [List.size_toArray, List.length_cons, List.length_nil, Nat.reduceAdd, Nat.zero_add, List.range, List.range.loop])) | (refine ba_cons bod rfl (by rfl) rfl (by decide) (fun dzz Kzz hKzz => ?_); go_simp; refine hKzz _ _ (BA.at ?_ dzz); clear hKzz Kzz; try walk_nrm) | (refine ba_skip rfl (by rfl) ?_; try walk_nrm)))
  refine ba_call setOk (R := fun v w' => v = .bool (decide (l.length ≤ 4096)) ∧ Bel w.heap.size w w') (fun T d => (isnd_any a l.length ca (rt T d w)).mono fun e w' hh => ?_) hg (fun v w T d h => ⟨h.1, h.2.rt T d⟩) rfl Try.func38 (by rfl) (by rfl) rfl (by rfl) rfl (by decide) (by simp [Act.eval]) ?_
  · obtain ⟨rfl, rfl⟩ := hh
    exact ⟨_, rfl, rfl, (Bel.refl _ w).rt T d⟩
  rintro v w1 ⟨rfl, hb1⟩
  try walk_nrm
  have fin : ∀ d, BA Try.prog Fin (G (cf.finish (.slice (some ⟨w1.heap.size, 0, none⟩) 0 0)) cs) ((w1.at d).alloc (.cells #[] 25)) := fun d => by
    refine hn _ _ ⟨w1.heap.size, 0, [], rfl, hb1.size, World.ownsRow_lit (base := w.heap.size) (e := 25) (size := 1) (w1.at d) #[] 0 hb1.size (by unfold maxLen; omega) rfl, Ls.nil _, ?_⟩
    exact Bel.trans (b := w1.at d) ⟨hb1.os, hb1.output, hb1.size, hb1.block⟩ (Bel.of ((Below.refl _ (w1.at d)).alloc hb1.size (.cells #[] 25)))
  have tail : ∀ d, BA Try.prog Fin (G (cf.finish (.slice (some ⟨w1.heap.size, 0, none⟩) 0 0)) cs) ((w1.at d).alloc (.cells #[] 25)) := fin
  by_cases hl : l.length ≤ 4096
  · have hd : decide (l.length ≤ 4096) = true := decide_eq_true hl
    simp only [hd]
    by_cases h1 : n < 1
    · have hd1 : decide (n < 1) = true := decide_eq_true h1
      (repeat (first | (first | refine ba_ctl rfl (fun _ => stepG_seq) ?_ | refine ba_ctl rfl (fun _ => stepG_skip) ?_ | refine ba_ctl rfl (fun _ => stepG_block) ?_ | refine ba_ctl rfl (fun _ => stepG_loop) ?_ | refine ba_ctl rfl (fun _ => stepG_inLoop) ?_ | refine ba_ctl rfl (fun _ => stepG_inBlock) ?_ | refine ba_ctl rfl (fun _ => stepG_region_end) ?_ | refine ba_ctl rfl (fun _ => stepG_ret') ?_ | (refine ba_ctl rfl (fun _ => stepG_region) ?_; simp only [List.size_toArray, List.length_cons, List.length_nil, Nat.reduceAdd, Nat.zero_add, List.range, List.range.loop])) | (refine ba_cons bod rfl (by rfl) rfl (by decide) (fun dzz Kzz hKzz => ?_); go_simp; refine hKzz _ _ (BA.at ?_ dzz); clear hKzz Kzz; try walk_nrm) | (refine ba_skip rfl (by rfl) ?_; try walk_nrm)))
      (refine ba_ctl rfl (fun _ => stepG_cond (t := true) rfl) ?_; simp only [if_true, if_false, Bool.false_eq_true, ↓reduceIte])
      (repeat (first | (first | refine ba_ctl rfl (fun _ => stepG_seq) ?_ | refine ba_ctl rfl (fun _ => stepG_skip) ?_ | refine ba_ctl rfl (fun _ => stepG_block) ?_ | refine ba_ctl rfl (fun _ => stepG_loop) ?_ | refine ba_ctl rfl (fun _ => stepG_inLoop) ?_ | refine ba_ctl rfl (fun _ => stepG_inBlock) ?_ | refine ba_ctl rfl (fun _ => stepG_region_end) ?_ | refine ba_ctl rfl (fun _ => stepG_ret') ?_ | (refine ba_ctl rfl (fun _ => stepG_region) ?_; simp only [List.size_toArray, List.length_cons, List.length_nil, Nat.reduceAdd, Nat.zero_add, List.range, List.range.loop])) | (refine ba_cons bod rfl (by rfl) rfl (by decide) (fun dzz Kzz hKzz => ?_); go_simp; refine hKzz _ _ (BA.at ?_ dzz); clear hKzz Kzz; try walk_nrm) | (refine ba_skip rfl (by rfl) ?_; try walk_nrm)))
      refine ba_cons bod rfl (by rfl) rfl (by decide) (fun d K hK => ?_)
      go_simp
      refine hK _ _ ?_
      clear hK K
      try walk_nrm
      (repeat (first | (first | refine ba_ctl rfl (fun _ => stepG_seq) ?_ | refine ba_ctl rfl (fun _ => stepG_skip) ?_ | refine ba_ctl rfl (fun _ => stepG_block) ?_ | refine ba_ctl rfl (fun _ => stepG_loop) ?_ | refine ba_ctl rfl (fun _ => stepG_inLoop) ?_ | refine ba_ctl rfl (fun _ => stepG_inBlock) ?_ | refine ba_ctl rfl (fun _ => stepG_region_end) ?_ | refine ba_ctl rfl (fun _ => stepG_ret') ?_ | (refine ba_ctl rfl (fun _ => stepG_region) ?_; simp only [List.size_toArray, List.length_cons, List.length_nil, Nat.reduceAdd, Nat.zero_add, List.range, List.range.loop])) | (refine ba_cons bod rfl (by rfl) rfl (by decide) (fun dzz Kzz hKzz => ?_); go_simp; refine hKzz _ _ (BA.at ?_ dzz); clear hKzz Kzz; try walk_nrm) | (refine ba_skip rfl (by rfl) ?_; try walk_nrm)))
      exact ba_leave (t := 4) Try.func24 (by rfl) rfl (fin d)
    · have hd1 : decide (n < 1) = false := decide_eq_false h1
      have h2 : 4096 < n := by omega
      have hd2 : decide (4096 < n) = true := decide_eq_true h2
      (repeat (first | (first | refine ba_ctl rfl (fun _ => stepG_seq) ?_ | refine ba_ctl rfl (fun _ => stepG_skip) ?_ | refine ba_ctl rfl (fun _ => stepG_block) ?_ | refine ba_ctl rfl (fun _ => stepG_loop) ?_ | refine ba_ctl rfl (fun _ => stepG_inLoop) ?_ | refine ba_ctl rfl (fun _ => stepG_inBlock) ?_ | refine ba_ctl rfl (fun _ => stepG_region_end) ?_ | refine ba_ctl rfl (fun _ => stepG_ret') ?_ | (refine ba_ctl rfl (fun _ => stepG_region) ?_; simp only [List.size_toArray, List.length_cons, List.length_nil, Nat.reduceAdd, Nat.zero_add, List.range, List.range.loop])) | (refine ba_cons bod rfl (by rfl) rfl (by decide) (fun dzz Kzz hKzz => ?_); go_simp; refine hKzz _ _ (BA.at ?_ dzz); clear hKzz Kzz; try walk_nrm) | (refine ba_skip rfl (by rfl) ?_; try walk_nrm)))
      (refine ba_ctl rfl (fun _ => stepG_cond (t := true) rfl) ?_; simp only [if_true, if_false, Bool.false_eq_true, ↓reduceIte])
      (repeat (first | (first | refine ba_ctl rfl (fun _ => stepG_seq) ?_ | refine ba_ctl rfl (fun _ => stepG_skip) ?_ | refine ba_ctl rfl (fun _ => stepG_block) ?_ | refine ba_ctl rfl (fun _ => stepG_loop) ?_ | refine ba_ctl rfl (fun _ => stepG_inLoop) ?_ | refine ba_ctl rfl (fun _ => stepG_inBlock) ?_ | refine ba_ctl rfl (fun _ => stepG_region_end) ?_ | refine ba_ctl rfl (fun _ => stepG_ret') ?_ | (refine ba_ctl rfl (fun _ => stepG_region) ?_; simp only [List.size_toArray, List.length_cons, List.length_nil, Nat.reduceAdd, Nat.zero_add, List.range, List.range.loop])) | (refine ba_cons bod rfl (by rfl) rfl (by decide) (fun dzz Kzz hKzz => ?_); go_simp; refine hKzz _ _ (BA.at ?_ dzz); clear hKzz Kzz; try walk_nrm) | (refine ba_skip rfl (by rfl) ?_; try walk_nrm)))
      refine ba_cons bod rfl (by rfl) rfl (by decide) (fun d K hK => ?_)
      go_simp
      refine hK _ _ ?_
      clear hK K
      try walk_nrm
      (repeat (first | (first | refine ba_ctl rfl (fun _ => stepG_seq) ?_ | refine ba_ctl rfl (fun _ => stepG_skip) ?_ | refine ba_ctl rfl (fun _ => stepG_block) ?_ | refine ba_ctl rfl (fun _ => stepG_loop) ?_ | refine ba_ctl rfl (fun _ => stepG_inLoop) ?_ | refine ba_ctl rfl (fun _ => stepG_inBlock) ?_ | refine ba_ctl rfl (fun _ => stepG_region_end) ?_ | refine ba_ctl rfl (fun _ => stepG_ret') ?_ | (refine ba_ctl rfl (fun _ => stepG_region) ?_; simp only [List.size_toArray, List.length_cons, List.length_nil, Nat.reduceAdd, Nat.zero_add, List.range, List.range.loop])) | (refine ba_cons bod rfl (by rfl) rfl (by decide) (fun dzz Kzz hKzz => ?_); go_simp; refine hKzz _ _ (BA.at ?_ dzz); clear hKzz Kzz; try walk_nrm) | (refine ba_skip rfl (by rfl) ?_; try walk_nrm)))
      exact ba_leave (t := 4) Try.func24 (by rfl) rfl (fin d)
  · have hd : decide (l.length ≤ 4096) = false := decide_eq_false hl
    simp only [hd]
    (repeat (first | (first | refine ba_ctl rfl (fun _ => stepG_seq) ?_ | refine ba_ctl rfl (fun _ => stepG_skip) ?_ | refine ba_ctl rfl (fun _ => stepG_block) ?_ | refine ba_ctl rfl (fun _ => stepG_loop) ?_ | refine ba_ctl rfl (fun _ => stepG_inLoop) ?_ | refine ba_ctl rfl (fun _ => stepG_inBlock) ?_ | refine ba_ctl rfl (fun _ => stepG_region_end) ?_ | refine ba_ctl rfl (fun _ => stepG_ret') ?_ | (refine ba_ctl rfl (fun _ => stepG_region) ?_; simp only [List.size_toArray, List.length_cons, List.length_nil, Nat.reduceAdd, Nat.zero_add, List.range, List.range.loop])) | (refine ba_cons bod rfl (by rfl) rfl (by decide) (fun dzz Kzz hKzz => ?_); go_simp; refine hKzz _ _ (BA.at ?_ dzz); clear hKzz Kzz; try walk_nrm) | (refine ba_skip rfl (by rfl) ?_; try walk_nrm)))
    (refine ba_ctl rfl (fun _ => stepG_cond (t := true) rfl) ?_; simp only [if_true, if_false, Bool.false_eq_true, ↓reduceIte])
    (repeat (first | (first | refine ba_ctl rfl (fun _ => stepG_seq) ?_ | refine ba_ctl rfl (fun _ => stepG_skip) ?_ | refine ba_ctl rfl (fun _ => stepG_block) ?_ | refine ba_ctl rfl (fun _ => stepG_loop) ?_ | refine ba_ctl rfl (fun _ => stepG_inLoop) ?_ | refine ba_ctl rfl (fun _ => stepG_inBlock) ?_ | refine ba_ctl rfl (fun _ => stepG_region_end) ?_ | refine ba_ctl rfl (fun _ => stepG_ret') ?_ | (refine ba_ctl rfl (fun _ => stepG_region) ?_; simp only [List.size_toArray, List.length_cons, List.length_nil, Nat.reduceAdd, Nat.zero_add, List.range, List.range.loop])) | (refine ba_cons bod rfl (by rfl) rfl (by decide) (fun dzz Kzz hKzz => ?_); go_simp; refine hKzz _ _ (BA.at ?_ dzz); clear hKzz Kzz; try walk_nrm) | (refine ba_skip rfl (by rfl) ?_; try walk_nrm)))
    refine ba_cons bod rfl (by rfl) rfl (by decide) (fun d K hK => ?_)
    go_simp
    refine hK _ _ ?_
    clear hK K
    try walk_nrm
    (repeat (first | (first | refine ba_ctl rfl (fun _ => stepG_seq) ?_ | refine ba_ctl rfl (fun _ => stepG_skip) ?_ | refine ba_ctl rfl (fun _ => stepG_block) ?_ | refine ba_ctl rfl (fun _ => stepG_loop) ?_ | refine ba_ctl rfl (fun _ => stepG_inLoop) ?_ | refine ba_ctl rfl (fun _ => stepG_inBlock) ?_ | refine ba_ctl rfl (fun _ => stepG_region_end) ?_ | refine ba_ctl rfl (fun _ => stepG_ret') ?_ | (refine ba_ctl rfl (fun _ => stepG_region) ?_; simp only [List.size_toArray, List.length_cons, List.length_nil, Nat.reduceAdd, Nat.zero_add, List.range, List.range.loop])) | (refine ba_cons bod rfl (by rfl) rfl (by decide) (fun dzz Kzz hKzz => ?_); go_simp; refine hKzz _ _ (BA.at ?_ dzz); clear hKzz Kzz; try walk_nrm) | (refine ba_skip rfl (by rfl) ?_; try walk_nrm)))
    exact ba_leave (t := 4) Try.func24 (by rfl) rfl (fin d)
end Go.Proofs.Ytdemcjppokhonaa
