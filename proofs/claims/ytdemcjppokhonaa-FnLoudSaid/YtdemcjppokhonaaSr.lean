/-
  Squares of the program, beside leavers: it answers the means of the squares.
-/
import Derived.Test.YtdemcjppokhonaaSq
set_option linter.unusedVariables false
set_option linter.unusedSimpArgs false
namespace Go.Proofs.Ytdemcjppokhonaa
open Go Go.Conc Go.RowKit

theorem SmL.cut {l m : List Nat} (h : SmL l m) (o s : Nat) : SmL ((l.drop o).take s) ((m.drop o).take s) := by
  refine ⟨by rw [List.length_take, List.length_take, List.length_drop, List.length_drop, h.1], fun j x y hx hy => ?_⟩
  have h1 : j < s := by
    have := (List.getElem?_eq_some_iff.1 hx).1
    rw [List.length_take] at this
    omega
  rw [List.getElem?_take_of_lt h1, List.getElem?_drop] at hx hy
  exact h.2 _ x y hx hy
theorem sqs_sm {l L : List Nat} (h : Ls (fun j => nv .mul (nth l j) (nth l j)) l.length L) : SmL L (sqs l) := by
  refine ⟨by rw [sqs_len]; exact h.1, fun j x y hx hy => ?_⟩
  have := h.2 j x hx
  unfold sqs at hy
  rw [List.getElem?_map] at hy
  obtain ⟨z, hz, rfl⟩ := Option.map_eq_some_iff.1 hy
  simp only [nth_of hz] at this
  exact this
theorem GC.at {P : Program} {w : World} (h : GC P w) (d : Nat) : GC P (w.at d) := h

set_option maxHeartbeats 3200000 in
set_option maxRecDepth 100000 in
theorem sq_good (Fin : Goroutine → World → Prop) (cf : Frame) (cs : List Frame) (a : Option Addr) (ca : Nat) (l : List Nat) (s : Nat) (w : World) (hg : GC Try.prog w) (ha : Fls false 0 w.heap.size w a l) (hl : l.length ≤ 4096) (h1 : 1 ≤ s) (h2 : s ≤ 4096)
    (hn : ∀ v w', AnsB (sqB l s) (l.length / s) w v w' → BA Try.prog Fin (G (cf.finish v) cs) w') : BA Try.prog Fin (G (Frame.enter Try.prog 24 #[.slice a l.length ca, .int .i64 s] .normal) (cf :: cs)) w := by
  rw [enter_at _ Try.func24 rfl]
  simp only [Try.f24, Option.getD_some, List.size_toArray, List.length_cons, List.length_nil, Nat.reduceAdd, Nat.reduceSub, Array.replicate_succ, Array.replicate_zero, List.push_toArray, List.append_toArray, List.nil_append, List.cons_append]
  (repeat (first | (first | refine ba_ctl rfl (fun _ => stepG_seq) ?_ | refine ba_ctl rfl (fun _ => stepG_skip) ?_ | refine ba_ctl rfl (fun _ => stepG_block) ?_ | refine ba_ctl rfl (fun _ => stepG_loop) ?_ | refine ba_ctl rfl (fun _ => stepG_inLoop) ?_ | refine ba_ctl rfl (fun _ => stepG_inBlock) ?_ | refine ba_ctl rfl (fun _ => stepG_region_end) ?_ | refine ba_ctl rfl (fun _ => stepG_ret') ?_ | (refine ba_ctl rfl (fun _ => stepG_region) ?_; simp only [List.size_toArray, List.length_cons, List.length_nil, Nat.reduceAdd, Nat.zero_add, List.range, List.range.loop])) | (refine ba_cons bod rfl (by rfl) rfl (by decide) (fun dzz Kzz hKzz => ?_); go_simp; refine hKzz _ _ (BA.at ?_ dzz); clear hKzz Kzz; try walk_nrm) | (refine ba_skip rfl (by rfl) ?_; try walk_nrm)))
  refine ba_call setOk (R := fun v w' => v = .bool (decide (l.length ≤ 4096)) ∧ Bel w.heap.size w w') (fun T d => (isnd_any a l.length ca (rt T d w)).mono fun e w' hh => ?_) hg (fun v w T d h => ⟨h.1, h.2.rt T d⟩) rfl Try.func38 (by rfl) (by rfl) rfl (by rfl) rfl (by decide) (by simp [Act.eval]) ?_
  · obtain ⟨rfl, rfl⟩ := hh
    exact ⟨_, rfl, rfl, (Bel.refl _ w).rt T d⟩
  rintro v w1 ⟨rfl, hb1⟩
  try walk_nrm
  have hd : decide (l.length ≤ 4096) = true := decide_eq_true hl
  simp only [hd]
  have hd1 : decide ((s : Int) < 1) = false := decide_eq_false (by omega)
  have hd2 : decide ((4096 : Int) < (s : Int)) = false := decide_eq_false (by omega)
  have e1 : ¬ ((s : Int) < 1) := by omega
  have e2 : ¬ ((4096 : Int) < (s : Int)) := by omega
  (repeat (first | (first | refine ba_ctl rfl (fun _ => stepG_seq) ?_ | refine ba_ctl rfl (fun _ => stepG_skip) ?_ | refine ba_ctl rfl (fun _ => stepG_block) ?_ | refine ba_ctl rfl (fun _ => stepG_loop) ?_ | refine ba_ctl rfl (fun _ => stepG_inLoop) ?_ | refine ba_ctl rfl (fun _ => stepG_inBlock) ?_ | refine ba_ctl rfl (fun _ => stepG_region_end) ?_ | refine ba_ctl rfl (fun _ => stepG_ret') ?_ | (refine ba_ctl rfl (fun _ => stepG_region) ?_; simp only [List.size_toArray, List.length_cons, List.length_nil, Nat.reduceAdd, Nat.zero_add, List.range, List.range.loop])) | (refine ba_cons bod rfl (by rfl) rfl (by decide) (fun dzz Kzz hKzz => ?_); go_simp; refine hKzz _ _ (BA.at ?_ dzz); clear hKzz Kzz; try walk_nrm) | (refine ba_skip rfl (by rfl) ?_; try walk_nrm)))
  (refine ba_ctl rfl (fun _ => stepG_cond (t := false) rfl) ?_; simp only [if_true, if_false, Bool.false_eq_true, ↓reduceIte])
  (repeat (first | (first | refine ba_ctl rfl (fun _ => stepG_seq) ?_ | refine ba_ctl rfl (fun _ => stepG_skip) ?_ | refine ba_ctl rfl (fun _ => stepG_block) ?_ | refine ba_ctl rfl (fun _ => stepG_loop) ?_ | refine ba_ctl rfl (fun _ => stepG_inLoop) ?_ | refine ba_ctl rfl (fun _ => stepG_inBlock) ?_ | refine ba_ctl rfl (fun _ => stepG_region_end) ?_ | refine ba_ctl rfl (fun _ => stepG_ret') ?_ | (refine ba_ctl rfl (fun _ => stepG_region) ?_; simp only [List.size_toArray, List.length_cons, List.length_nil, Nat.reduceAdd, Nat.zero_add, List.range, List.range.loop])) | (refine ba_cons bod rfl (by rfl) rfl (by decide) (fun dzz Kzz hKzz => ?_); go_simp; refine hKzz _ _ (BA.at ?_ dzz); clear hKzz Kzz; try walk_nrm) | (refine ba_skip rfl (by rfl) ?_; try walk_nrm)))
  -- the channel
  have hmk : ∀ v, (Instr.makeChan 59 (.int .i64 0)).run Try.prog v = .ok (.chan (some v.heap.size)) (v.alloc (.chan 0 #[] false 0 0 false)) := fun v => by simp [go_sem, Instr.makeChan]
  refine ba_cons bod rfl (by rfl) rfl (by decide) (fun d K hK => ?_)
  go_simp
  refine hK _ _ ?_
  clear hK K
  try walk_nrm
  have hb2 : Bel w.heap.size w ((w1.at d).alloc (.chan 0 #[] false 0 0 false)) := Bel.trans (b := w1.at d) ⟨hb1.os, hb1.output, hb1.size, hb1.block⟩ (Bel.of ((Below.refl _ (w1.at d)).alloc hb1.size _))
  have hch2 : ((w1.at d).alloc (.chan 0 #[] false 0 0 false)).heap[w1.heap.size]? = some (.chan 0 #[] false 0 0 false) := heap_alloc_new (w1.at d) _
  have hs2 : ((w1.at d).alloc (.chan 0 #[] false 0 0 false)).heap.size = w1.heap.size + 1 := by simp [World.alloc, World.at]
  have hc0 : w.heap.size ≤ w1.heap.size := hb1.size
  have hg2 : GC Try.prog ((w1.at d).alloc (.chan 0 #[] false 0 0 false)) := hb2.gc hg
  have ha2 : Fls false 0 ((w1.at d).alloc (.chan 0 #[] false 0 0 false)).heap.size ((w1.at d).alloc (.chan 0 #[] false 0 0 false)) a l := (hb2.fls ha).mono (Nat.le_refl _) hb2.size
  have eH : (w1.at d).heap.size = w1.heap.size := rfl
  simp only [eH] at hs2 ⊢
  clear eH
  generalize (w1.at d).alloc (.chan 0 #[] false 0 0 false) = w2 at *
  generalize w1.heap.size = c at *
  (repeat (first | (first | refine ba_ctl rfl (fun _ => stepG_seq) ?_ | refine ba_ctl rfl (fun _ => stepG_skip) ?_ | refine ba_ctl rfl (fun _ => stepG_block) ?_ | refine ba_ctl rfl (fun _ => stepG_loop) ?_ | refine ba_ctl rfl (fun _ => stepG_inLoop) ?_ | refine ba_ctl rfl (fun _ => stepG_inBlock) ?_ | refine ba_ctl rfl (fun _ => stepG_region_end) ?_ | refine ba_ctl rfl (fun _ => stepG_ret') ?_ | (refine ba_ctl rfl (fun _ => stepG_region) ?_; simp only [List.size_toArray, List.length_cons, List.length_nil, Nat.reduceAdd, Nat.zero_add, List.range, List.range.loop])) | (refine ba_cons bod rfl (by rfl) rfl (by decide) (fun dzz Kzz hKzz => ?_); go_simp; refine hKzz _ _ (BA.at ?_ dzz); clear hKzz Kzz; try walk_nrm) | (refine ba_skip rfl (by rfl) ?_; try walk_nrm)))
  -- the squares
  refine ba_call setOk (R := fun v w' => AnsB (fun j => nv .mul (nth l j) (nth l j)) l.length w2 v w') (fun T d => (squ_any a ca l (rt T d w2) hl ha2).mono fun e w' hh => AnsB.of hh) hg2 (fun v w T d h => h.tp T d) rfl Try.func51 (by rfl) (by rfl) rfl (by rfl) rfl (by decide) (by simp [Act.eval]) ?_
  rintro v w3 ⟨g, cap, L, rfl, hg3, hown, hLs, hb3⟩
  try walk_nrm
  have hch3 : w3.heap[c]? = some (.chan 0 #[] false 0 0 false) := (hb3.block c (by omega)).trans hch2
  have hgl : g < w3.heap.size := (hown.lt g rfl).2
  have hcel3 : Cel g 0 L w3 := fun j x hx => by
    obtain ⟨b, o, e, _, _, q, _⟩ := fls_ownB hown j x hx
    cases e
    exact q
  (refine ba_cons bod rfl (by rfl) rfl (by decide) (fun dzz Kzz hKzz => ?_); go_simp; refine hKzz _ _ (BA.at ?_ dzz); clear hKzz Kzz; try walk_nrm)
  have hLl : L.length = l.length := hLs.1
  intro d
  refine BTo.pipe rfl fun d' => ⟨?ga, born Try.prog (call13 c g s L.length cap), w3.at d', ?es, c, .slice none 0 0, bks g s (L.length / s) 0 cap, 0, 0, false, ?spawn, ?evs, hch3, ?rc, sends_all c g s L.length cap (by omega) (own_le hown)⟩
  case spawn =>
    refine stepG_spawn (o := ?oo) (d := call13 c g s L.length cap) (w' := w3.at d') (f := .func 50) (c := #[]) ?ho ?hw ?hk ?hr ?hd
    case ho => rfl
    case hw => rfl
    case hk => decide
    case hr => simp [go_sem, call13, Deferred.ofValue]; try rfl
    case hd => rfl
  case evs =>
    intro e he
    have := mem_listed he
    simp [go_sem, Deferred.ofValue] at this
  case rc =>
    have hF0 : AF c g w3.heap.size L w.heap.size (w3.at d') (.slice none 0 0) 0 [] (w3.at d') := ⟨World.ownsRow_nil _ _ _ _, hcel3, Below.refl _ _, Nat.le_refl _⟩
    have hK : l.length / s ≤ 4096 := Nat.le_trans (Nat.div_le_self _ _) hl
    have hfin : ∀ (out : Value) (M : List Nat) (v0 v1 v2 v3 v4 v5 v6 v8 v9 v10 v11 v12 v13 v14 v15 v16 v17 v18 v19 v20 v21 v22 v23 v24 v25 v26 v27 v28 v29 v30 v31 v34 v35 v36 v37 v38 v39 v40 v41 : Value) (w' : World), out ≠ .slice none 0 0 → AF c g w3.heap.size L w.heap.size (w3.at d') out (L.length / s) M w' → Ls (fun j => meanV ((L.drop (j * s)).take s)) (L.length / s) M → BTo Try.prog Fin (atR6 c (cf :: cs) out (.tuple #[.slice none 0 0, .bool false]) v0 v1 v2 v3 v4 v5 v6 v8 v9 v10 v11 v12 v13 v14 v15 v16 v17 v18 v19 v20 v21 v22 v23 v24 v25 v26 v27 v28 v29 v30 v31 v34 v35 v36 v37 v38 v39 v40 v41 [1]) w' := by
      intro out M v0 v1 v2 v3 v4 v5 v6 v8 v9 v10 v11 v12 v13 v14 v15 v16 v17 v18 v19 v20 v21 v22 v23 v24 v25 v26 v27 v28 v29 v30 v31 v34 v35 v36 v37 v38 v39 v40 v41 w' hnn hF hM
      refine (sq_fin Fin c cf cs out v0 v1 v2 v3 v4 v5 v6 v8 v9 v10 v11 v12 v13 v14 v15 v16 v17 v18 v19 v20 v21 v22 v23 v24 v25 v26 v27 v28 v29 v30 v31 v34 v35 v36 v37 v38 v39 v40 v41 w' (hn out w' ?_)).bto
      rcases hF.own.2 with ⟨h0, _⟩ | ⟨g', cp, cur, e, r⟩
      · exact absurd h0 hnn
      · subst e
        have hML := hM.1
        refine ⟨g', cp, M, by rw [hML], by have := (hF.own.lt g' rfl).1; have := hb3.size; omega, ?_, ?_, ?_⟩
        · rw [hML]
          exact own_mono hF.own (by have := hb3.size; omega)
        · rw [← hLl]
          exact hM.congr fun j _ => meanV_sm ((sqs_sm hLs).cut _ _)
        · exact (hb2.trans (hb3.mono (by omega))).trans ⟨hF.below.os, hF.below.output, hF.below.size, hF.below.block⟩
    have nxt : ∀ (out r33 : Value) (v0 v1 v2 v3 v4 v5 v6 v8 v9 v10 v11 v12 v13 v14 v15 v16 v17 v18 v19 v20 v21 v22 v23 v24 v25 v26 v27 v28 v29 v30 v31 v34 v35 v36 v37 v38 v39 v40 v41 : Value) (w' : World), out ≠ .slice none 0 0 → AF c g w3.heap.size L w.heap.size (w3.at d') out 0 [] w' → StR Try.prog c (.slice none 0 0) (NextR Try.prog c (.slice none 0 0) (BTo Try.prog Fin) (bks g s (L.length / s) 0 cap)) (atR6 c (cf :: cs) out r33 v0 v1 v2 v3 v4 v5 v6 v8 v9 v10 v11 v12 v13 v14 v15 v16 v17 v18 v19 v20 v21 v22 v23 v24 v25 v26 v27 v28 v29 v30 v31 v34 v35 v36 v37 v38 v39 v40 v41 [0, 1]) w' := by
      intro out r33 v0 v1 v2 v3 v4 v5 v6 v8 v9 v10 v11 v12 v13 v14 v15 v16 v17 v18 v19 v20 v21 v22 v23 v24 v25 v26 v27 v28 v29 v30 v31 v34 v35 v36 v37 v38 v39 v40 v41 w₁ hnn hF
      have r := rcq_from c g w3.heap.size L w.heap.size (w3.at d') (cf :: cs) (BTo Try.prog Fin) s (L.length / s) (by omega) hc0 (by omega) hgl h1 h2 (by rw [hLl]; exact hK) hfin (L.length / s) 0 cap [] out r33 v0 v1 v2 v3 v4 v5 v6 v8 v9 v10 v11 v12 v13 v14 v15 v16 v17 v18 v19 v20 v21 v22 v23 v24 v25 v26 v27 v28 v29 v30 v31 v34 v35 v36 v37 v38 v39 v40 v41 w₁ (by omega) (Nat.div_mul_le_self _ _) hnn hF (Ls.nil _)
      rw [Nat.zero_mul] at r
      exact r
    have first := fun (v1 v2 v3 v4 v7 v8 v9 v10 v11 v12 v13 v14 v15 v16 v17 v18 v19 v20 v21 v22 v23 v24 v25 v26 v27 v28 v29 v30 v31 v32 v33 v34 v35 v36 v37 v38 v39 v40 v41 : Value) => seg_first c g w3.heap.size L w.heap.size (w3.at d') (cf :: cs) (StR Try.prog c (.slice none 0 0) (NextR Try.prog c (.slice none 0 0) (BTo Try.prog Fin) (bks g s (L.length / s) 0 cap))) 0 (by omega) hc0 (by omega) hgl a l.length ca s h1 h2 hl v1 v2 v3 v4 v7 v8 v9 v10 v11 v12 v13 v14 v15 v16 v17 v18 v19 v20 v21 v22 v23 v24 v25 v26 v27 v28 v29 v30 v31 v32 v33 v34 v35 v36 v37 v38 v39 v40 v41 (w3.at d') hF0 (fun out r33 v0 v1 v2 v3 v4 v5 v6 v8 v9 v10 v11 v12 v13 v14 v15 v16 v17 v18 v19 v20 v21 v22 v23 v24 v25 v26 v27 v28 v29 v30 v31 v34 v35 v36 v37 v38 v39 v40 v41 w' hnn hF => Goes.stop fun w₁ h₁ => nxt out r33 v0 v1 v2 v3 v4 v5 v6 v8 v9 v10 v11 v12 v13 v14 v15 v16 v17 v18 v19 v20 v21 v22 v23 v24 v25 v26 v27 v28 v29 v30 v31 v34 v35 v36 v37 v38 v39 v40 v41 w₁ hnn (AF.aside (by omega) hc0 (by omega) hF h₁))
    simp only [ops5, T6, body6, Try.f24, Option.getD_some] at first
    exact first _ _ _ _ _ _ _ _ _ _ _ _ _ _ _ _ _ _ _ _ _ _ _ _ _ _ _ _ _ _ _ _ _ _ _ _ _ _ _
end Go.Proofs.Ytdemcjppokhonaa
