/-
  impl.Pack beside leavers: from its loop on.
  impl.Pack beside leavers.
  Plain facts on decimal digits: the digits of a whole number from 0 on, and of one in at least so many digits. No program is named here; there are no conditions.
  The text of a mark: its contract; how the law writes marks into a list of strings and into a list of assets, and looks for them again.
-/
import Derived.Test.YtghglpcfpokmhaaZPa
import Derived.WalkKit
import Derived.Test.YtghglpcfpokmhaaZShelf
import Derived.Test.YtghglpcfpokmhaaZPk
set_option linter.unusedVariables false
set_option linter.unusedSimpArgs false
namespace Go.Proofs.Ytghglpcfpokmhaa
open Go Go.Conc Go.RowKit
open Go.Proofs.Ytghglpcfpokmhaa.Bb (Tks)
open Go.Proofs.Ytghglpcfpokmhaa.Wk (El BodiesV Bel dig_B valsE)
open Go.Proofs.Ytghglpcfpokmhaa.Br (BT BTS Hd Pz Pst CallsB bt_ctl bt_cons bt_skip bt_callB rt)
theorem array54 (T : Array Value) (h : T.size = 54) : ∃ v0 v1 v2 v3 v4 v5 v6 v7 v8 v9 v10 v11 v12 v13 v14 v15 v16 v17 v18 v19 v20 v21 v22 v23 v24 v25 v26 v27 v28 v29 v30 v31 v32 v33 v34 v35 v36 v37 v38 v39 v40 v41 v42 v43 v44 v45 v46 v47 v48 v49 v50 v51 v52 v53 : Value, T = #[v0, v1, v2, v3, v4, v5, v6, v7, v8, v9, v10, v11, v12, v13, v14, v15, v16, v17, v18, v19, v20, v21, v22, v23, v24, v25, v26, v27, v28, v29, v30, v31, v32, v33, v34, v35, v36, v37, v38, v39, v40, v41, v42, v43, v44, v45, v46, v47, v48, v49, v50, v51, v52, v53] :=
  ⟨T[0], T[1], T[2], T[3], T[4], T[5], T[6], T[7], T[8], T[9], T[10], T[11], T[12], T[13], T[14], T[15], T[16], T[17], T[18], T[19], T[20], T[21], T[22], T[23], T[24], T[25], T[26], T[27], T[28], T[29], T[30], T[31], T[32], T[33], T[34], T[35], T[36], T[37], T[38], T[39], T[40], T[41], T[42], T[43], T[44], T[45], T[46], T[47], T[48], T[49], T[50], T[51], T[52], T[53], by
    apply Array.ext
    · simpa using h
    · intro i h1 h2
      have hi : i < 54 := by simpa using h2
      rcases i with _ | _ | _ | _ | _ | _ | _ | _ | _ | _ | _ | _ | _ | _ | _ | _ | _ | _ | _ | _ | _ | _ | _ | _ | _ | _ | _ | _ | _ | _ | _ | _ | _ | _ | _ | _ | _ | _ | _ | _ | _ | _ | _ | _ | _ | _ | _ | _ | _ | _ | _ | _ | _ | _ | i
      all_goals first | rfl | omega⟩
theorem gc_bel {w w' : World} (h : Bel w.heap.size w w') (hg : Br.GC Try.prog w) : Br.GC Try.prog w' := fun g hgg => by
  obtain ⟨c, t, f, e⟩ := hg g hgg
  exact ⟨c, t, f, (h.block g (Array.getElem?_eq_some_iff.1 e).1).trans e⟩
theorem bel_of {w w' : World} (h : Below w.heap.size w w') : Bel w.heap.size w w' := ⟨h.os, h.output, h.size, h.block⟩
theorem bodyPost_mono {P : Program} {fn : Func} {R R' : Ending → World → Prop} (h : ∀ v w, R (.returned v) w → R' (.returned v) w) (hp : ∀ e w, R e w → ∃ v, e = .returned v) : ∀ e a w, bodyPost P fn R e a w → bodyPost P fn R' e a w := by
  intro e a w q
  cases e with
  | normal => obtain ⟨h1, v, h2, h3⟩ := q; exact ⟨h1, v, h2, h _ _ h3⟩
  | ret => obtain ⟨h1, v, h2, h3⟩ := q; exact ⟨h1, v, h2, h _ _ h3⟩
  | panic ch => obtain ⟨_, hv⟩ := q; obtain ⟨v, e⟩ := hp _ _ hv; cases e
  | exit id => exact q.elim
  | goto l => exact q.elim
  | outgrown => obtain ⟨v, e⟩ := hp _ _ q; cases e
/-- what is held behind the loop -/
def RL (w w2 : World) (ns : List ByteArray) (ts : List (List Int)) (a' : Act) (w' : World) : Prop := ∃ T g' c', a' = ⟨T, []⟩ ∧ T.size = 54 ∧ T[6]? = some (.slice (some ⟨g', 0, none⟩) ns.length c') ∧ Own w' w.heap.size g' ns.length c' (pkL ns ts) ∧ Bel w.heap.size w w' ∧ KP w2 w'
theorem okA31 : Br.okC (Br.okOp Zg Try.prog []) A31 = true := by kernel_rfl
theorem okB31 : Br.okC (Br.okOp Zg Try.prog []) B31 = true := by kernel_rfl
set_option maxRecDepth 100000 in
theorem pack_end [Br.Thr] {Q : Goroutine → World → Prop} {c : Frame} {cs : List Frame} (b d : Option Addr) (cb cd : Nat) (ns : List ByteArray) (ts : List (List Int)) (w w2 : World) (gi gs : Nat) (hne : ns.length = ts.length) (h100 : ns.length ≤ 100) (hz : ∀ n ∈ ns, n.size ≤ 1048576) (hs : Sts w b ns) (hb : Tks w d ts) (hg : Br.GC Try.prog w)
    (hbel : Bel w.heap.size w w2) (hown : Own w2 w.heap.size gi 0 ns.length []) (hgs : ∀ j t, ts[j]? = some t → w2.cell? ⟨gs, j, none⟩ = some (.int .i64 (dig t))) (hgl : gs < w2.heap.size) (hgg : gi ≠ gs) (hk : ∀ v w', RPk w ns ts v w' → BT Try.prog Q (G (c.finish v) cs) w')
    (v2 v3 v4 v5 v7 v8 v9 v10 v11 v12 v13 v14 v15 v16 v17 v18 v19 v20 v21 v22 v23 v27 v28 v29 v30 v31 v32 v33 v34 v35 v36 v37 v38 v39 v40 v41 v42 v43 v44 v45 v46 v47 v48 v49 v50 v51 v52 v53 : Value) :
    BT Try.prog Q (G ((base 6).at ⟨#[.slice b ns.length cb, .slice d ts.length cd, v2, v3, v4, v5, .slice (some ⟨gi, 0, none⟩) 0 ns.length, v7, v8, v9, v10, v11, v12, v13, v14, v15, v16, v17, v18, v19, v20, v21, v22, v23, .slice (some ⟨gs, 0, none⟩) ns.length ns.length, .int .i64 ns.length, .int .i64 0, v27, v28, v29, v30, v31, v32, v33, v34, v35, v36, v37, v38, v39, v40, v41, v42, v43, v44, v45, v46, v47, v48, v49, v50, v51, v52, v53], []⟩ [.code A31, .code B31]) (c :: cs)) w2 := by
  refine Br.BT.code (R := RL w w2 ns ts) zgOk Try.func6 rfl okA31 rfl (gc_bel hbel hg) (fun a w T d ⟨T', g', c', h1, h2, h3, h4, h5, h6⟩ => ⟨T', g', c', h1, h2, h3, h4, ⟨h5.os, h5.output, h5.size, h5.block⟩, h6⟩) (fun T dd => ?_) (fun a' w' ⟨_, _, _, _, _, _, _, _, h⟩ => h) (fun a' w' h => ?_)
  · have hL := pack_loop b d cb cd ns ts (rt T w.drawn w) (rt T dd w2) gi gs ns.length hne h100 hz hs hb ⟨hbel.os, rfl, hbel.output, hbel.size, hbel.block⟩ hown hgs hgl hgg v2 v3 v4 v5 v7 v8 v9 v10 v11 v12 v13 v14 v15 v16 v17 v18 v19 v20 v21 v22 v23 v27 v28 v29 v30 v31 v32 v33 v34 v35 v36 v37 v38 v39 v40 v41 v42 v43 v44 v45 v46 v47 v48 v49 v50 v51 v52 v53
    refine wp_mono hL ?_
    rintro e a' w' ⟨he, T', g', c', h1, h2, h3, h4, h5, h6⟩
    refine ⟨he, T', g', c', h1, h2, h3, h4.own, ⟨h4.bel.os, h4.bel.output, h4.bel.size, h4.bel.block⟩, fun x hx => ?_⟩
    rcases Nat.eq_zero_or_pos ns.length with h0 | h0
    · obtain ⟨y, hy⟩ := hx
      exact ⟨y, by rw [h6 h0]; exact hy⟩
    · have hxi : x ≠ gi := fun e => by
        rw [e] at hx
        have := own_pz0 hown hx
        omega
      obtain ⟨y, hy⟩ := hx
      exact ⟨y, (h5 x (Array.getElem?_eq_some_iff.1 hy).1 hxi).trans hy⟩
  · obtain ⟨T, g', c', rfl, hT, t6, ho, hb', hkp⟩ := h
    obtain ⟨u0, u1, u2, u3, u4, u5, u6, u7, u8, u9, u10, u11, u12, u13, u14, u15, u16, u17, u18, u19, u20, u21, u22, u23, u24, u25, u26, u27, u28, u29, u30, u31, u32, u33, u34, u35, u36, u37, u38, u39, u40, u41, u42, u43, u44, u45, u46, u47, u48, u49, u50, u51, u52, u53, rfl⟩ := array54 T hT
    simp only [List.getElem?_toArray, List.getElem?_cons_succ, List.getElem?_cons_zero, Option.some.injEq] at t6
    subst t6
    refine Br.BT.body (R := fun v w4 => RPk w ns ts v w4 ∧ KP w' w4) zgOk Try.func6 rfl okB31 rfl (gc_bel hb' hg) (fun v w T d ⟨⟨L, ok, g, c, h1, h2, h3, h4⟩, h5⟩ => ⟨⟨L, ok, g, c, h1, h2, ⟨h3.os, h3.output, h3.size, h3.block⟩, h4⟩, h5⟩) (fun T dd => ?_) (fun v w4 h => h.2) (fun v w4 h => hk v w4 h.1)
    refine wp_mono (pack_tail ns ts (rt T w.drawn w) (rt T dd w') g' ns.length c' hne h100 rfl hz ho ⟨hb'.os, rfl, hb'.output, hb'.size, hb'.block⟩ u0 u1 u2 u3 u4 u5 u7 u8 u9 u10 u11 u12 u13 u14 u15 u16 u17 u18 u19 u20 u21 u22 u23 u24 u25 u26 u27 u28 u29 u30 u31 u32 u33 u34 u35 u36 u37 u38 u39 u40 u41 u42 u43 u44 u45 u46 u47 u48 u49 u50 u51 u52 u53) (bodyPost_mono ?_ ?_)
    · rintro v w4 ⟨v', e, ⟨L, ok, g, c, h1, h2, h3, h4⟩, h5⟩
      exact ⟨v', e, ⟨L, ok, g, c, h1, h2, ⟨h3.os, h3.output, h3.size, h3.block⟩, h4⟩, h5⟩
    · rintro e w4 ⟨v, h, _⟩
      exact ⟨v, h⟩
end Go.Proofs.Ytghglpcfpokmhaa

set_option linter.unusedVariables false
set_option linter.unusedSimpArgs false
namespace Go.Proofs.Ytghglpcfpokmhaa
open Go Go.Conc Go.RowKit
open Go.Proofs.Ytghglpcfpokmhaa.Bb (Tks)
open Go.Proofs.Ytghglpcfpokmhaa.Wk (El BodiesV Bel dig_B valsE)
open Go.Proofs.Ytghglpcfpokmhaa.Br (BT BTS Hd Pz Pst CallsB bt_ctl bt_cons bt_skip bt_callB rt)
theorem bodiesV_bel {w w' : World} {zs : List El} {d : Option Addr} (h : BodiesV w zs d) (hb : ∀ k, k < w.heap.size → w'.heap[k]? = w.heap[k]?) (hsz : w.heap.size ≤ w'.heap.size) : BodiesV w' zs d := by
  refine ⟨fun j e he => ?_, fun e he => ?_⟩
  · obtain ⟨b, o, h1, h2, h3⟩ := h.el j e he
    exact ⟨b, o, h1, Nat.lt_of_lt_of_le h2 hsz, (World.cell?_of_block (hb b h2)).trans h3⟩
  · obtain ⟨h1, h2, h3, h4⟩ := h.body e he
    refine ⟨fun j x hx => ?_, h2, h3, h4⟩
    obtain ⟨b, o, h5, h6, h7⟩ := h1 j x hx
    exact ⟨b, o, h5, Nat.lt_of_lt_of_le h6 hsz, (World.cell?_of_block (hb b h6)).trans h7⟩
theorem bodiesV_tks {w : World} {zs : List El} {d : Option Addr} (h : BodiesV w zs d) : Tks w d (zs.map (·.l)) := by
  intro j t ht
  rw [List.getElem?_map] at ht
  obtain ⟨e, he, rfl⟩ := Option.map_eq_some_iff.1 ht
  obtain ⟨b, o, h1, h2, h3⟩ := h.el j e he
  obtain ⟨h4, h5, h6, h7⟩ := h.body e (List.mem_of_getElem? he)
  exact ⟨b, o, e.p, e.cap, h1, h2, h3, h4, Nat.le_trans h6 h7⟩
theorem own_made {w : World} {n : Nat} (hn : n ≤ 1048576) : Own (w.alloc (.cells (madeCells #[.string ⟨#[]⟩, .int .i64 0, .int .i64 0] (n * 3)) 38)) w.heap.size w.heap.size 0 n [] := by
  refine ⟨rfl, .inr ⟨w.heap.size, n, _, rfl, Nat.le_refl _, heap_alloc_new w _, Nat.zero_le _, by unfold maxLen; omega, by simp [size_madeCells], ?_⟩⟩
  simp [flK]
set_option maxRecDepth 100000 in
set_option maxHeartbeats 4000000 in
theorem ipack_yes [Br.Thr] (b d : Option Addr) (cb cd : Nat) (ns : List ByteArray) (zs : List El) (w : World) (hne : ns.length = zs.length) (h100 : ns.length ≤ 100) (hz : ∀ n ∈ ns, n.size ≤ 1048576) (hs : Sts w b ns) (hB : BodiesV w zs d) (hg : Br.GC Try.prog w) (hTh : Br.Thr.N ≤ w.heap.size) :
    CallsB Try.prog 6 #[.slice b ns.length cb, .slice d zs.length cd] w (RPk w ns (zs.map (·.l))) := by
  intro c cs Q hk
  have e31 : Frame.enter Try.prog 6 #[.slice b ns.length cb, .slice d zs.length cd] .normal = (base 6).at ⟨#[.slice b ns.length cb, .slice d zs.length cd] ++ Array.replicate 52 undef, []⟩ [.code (Try.f6.body.getD .skip)] := by
    simp [Frame.enter, Frame.at, Try.func6, base, Try.f6]
  rw [e31]
  clear e31
  simp only [Try.f6, Option.getD_some, List.size_toArray, List.length_cons, List.length_nil, Nat.reduceAdd, Nat.reduceSub, Array.replicate_succ, Array.replicate_zero, List.push_toArray, List.append_toArray, List.nil_append, List.cons_append]
  have g0 : ((ns.length : Int) != zs.length) = false := by simp; omega
  have g1 : decide ((100 : Int) < ns.length) = false := by simp; omega
  obtain ⟨i0, hi, hz0, hz1, hz2⟩ := info_parts info44
  have hneH := hide hne
  clear hne
  (repeat (first | (first | refine bt_ctl rfl (fun _ => stepG_seq) ?_ | refine bt_ctl rfl (fun _ => stepG_skip) ?_ | refine bt_ctl rfl (fun _ => stepG_region_end) ?_ | refine bt_ctl rfl (fun _ => stepG_ret') ?_ | (refine bt_ctl rfl (fun _ => stepG_region) ?_; simp only [List.size_toArray, List.length_cons, List.length_nil, Nat.reduceAdd, Nat.zero_add, List.range, List.range.loop])) | (refine bt_cons zgOk.bodied rfl (by rfl) (by decide) (by decide) (fun dzz Kzz hKzz => ?_); go_simp; refine hKzz _ _ (fun b hb => hb) (bt_at ?_); clear hKzz Kzz; try walk_nrm) | (refine bt_skip rfl (by rfl) ?_; try walk_nrm)))
  (refine bt_ctl rfl (fun _ => stepG_cond (t := false) rfl) ?_; simp only [if_true, if_false, Bool.false_eq_true, ↓reduceIte])
  (repeat (first | (first | refine bt_ctl rfl (fun _ => stepG_seq) ?_ | refine bt_ctl rfl (fun _ => stepG_skip) ?_ | refine bt_ctl rfl (fun _ => stepG_region_end) ?_ | refine bt_ctl rfl (fun _ => stepG_ret') ?_ | (refine bt_ctl rfl (fun _ => stepG_region) ?_; simp only [List.size_toArray, List.length_cons, List.length_nil, Nat.reduceAdd, Nat.zero_add, List.range, List.range.loop])) | (refine bt_cons zgOk.bodied rfl (by rfl) (by decide) (by decide) (fun dzz Kzz hKzz => ?_); go_simp; refine hKzz _ _ (fun b hb => hb) (bt_at ?_); clear hKzz Kzz; try walk_nrm) | (refine bt_skip rfl (by rfl) ?_; try walk_nrm)))
  have hmk := fun w => run_make (P := Try.prog) w 28 38 i0 (.agg #[.string ⟨#[]⟩, .int .i64 0, .int .i64 0]) Try.underlying28 hi hz0 .i64 .i64 0 ns.length (by omega) (by omega) (by rw [hz2]; omega) (by omega)
  refine bt_cons zgOk.bodied rfl (by rfl) (by decide) (by decide) (fun dzz Kzz hKzz => ?_)
  go_simp
  refine hKzz _ ((w.alloc (.cells (madeCells #[.string ⟨#[]⟩, .int .i64 0, .int .i64 0] (ns.length * 3)) 38)).at dzz) (fun b hb => Wk.pz_alloc _ hb) (bt_at ?_)
  clear hKzz Kzz hmk hi hz0 hz1 hz2
  have hsz : ∀ d, (w.at d).heap.size = w.heap.size := fun _ => rfl
  simp only [hsz]
  clear hsz
  have om := hide (own_made (w := w) (n := ns.length) (by omega))
  have bm := hide (show ∀ k, k < w.heap.size → (w.alloc (.cells (madeCells #[.string ⟨#[]⟩, .int .i64 0, .int .i64 0] (ns.length * 3)) 38)).heap[k]? = w.heap[k]? from fun k hk' => Below.heap_alloc _ _ _ hk')
  have sm := hide (show (w.alloc (.cells (madeCells #[.string ⟨#[]⟩, .int .i64 0, .int .i64 0] (ns.length * 3)) 38)).heap.size = w.heap.size + 1 by simp)
  have om1 := hide (show (w.alloc (.cells (madeCells #[.string ⟨#[]⟩, .int .i64 0, .int .i64 0] (ns.length * 3)) 38)).os = w.os ∧ (w.alloc (.cells (madeCells #[.string ⟨#[]⟩, .int .i64 0, .int .i64 0] (ns.length * 3)) 38)).output = w.output from ⟨rfl, rfl⟩)
  generalize w.alloc (.cells (madeCells #[.string ⟨#[]⟩, .int .i64 0, .int .i64 0] (ns.length * 3)) 38) = wm at *
  have Bm := hide (show Bel w.heap.size w wm from ⟨(unhide om1).1, (unhide om1).2, by have := unhide sm; omega, unhide bm⟩)
  try walk_nrm
  (repeat (first | (first | refine bt_ctl rfl (fun _ => stepG_seq) ?_ | refine bt_ctl rfl (fun _ => stepG_skip) ?_ | refine bt_ctl rfl (fun _ => stepG_region_end) ?_ | refine bt_ctl rfl (fun _ => stepG_ret') ?_ | (refine bt_ctl rfl (fun _ => stepG_region) ?_; simp only [List.size_toArray, List.length_cons, List.length_nil, Nat.reduceAdd, Nat.zero_add, List.range, List.range.loop])) | (refine bt_cons zgOk.bodied rfl (by rfl) (by decide) (by decide) (fun dzz Kzz hKzz => ?_); go_simp; refine hKzz _ _ (fun b hb => hb) (bt_at ?_); clear hKzz Kzz; try walk_nrm) | (refine bt_skip rfl (by rfl) ?_; try walk_nrm)))
  refine bt_callB (dig_B (w := wm) (zs := zs) (n := zs.length) (cap := cd) (a0 := d) rfl (by have := unhide hneH; omega) (bodiesV_bel hB (unhide bm) (by have := unhide sm; omega)) (gc_bel (unhide Bm) hg) (Nat.le_trans hTh (unhide Bm).size)) Try.func17 (by kernel_rfl) (by kernel_rfl) rfl (by rfl) rfl (by decide) (by simp [Act.eval]) ?_
  rintro v w2 ⟨rfl, hsum, hbel⟩
  have hsm := unhide sm
  have hBel : Bel w.heap.size w w2 := ⟨hbel.os.trans (unhide Bm).os, hbel.output.trans (unhide Bm).output, Nat.le_trans (unhide Bm).size hbel.size, fun k hk' => (hbel.block k (by omega)).trans ((unhide bm) k hk')⟩
  have hO2 : Own w2 w.heap.size w.heap.size 0 ns.length [] := by
    obtain ⟨h1, h2⟩ := unhide om
    refine ⟨h1, ?_⟩
    rcases h2 with ⟨hv, _⟩ | ⟨g', cap', cur, hv, hB', hh, r⟩
    · cases hv
    · refine .inr ⟨g', cap', cur, hv, hB', (hbel.block g' (Array.getElem?_eq_some_iff.1 hh).1).trans hh, r⟩
  have hlt2 : wm.heap.size < w2.heap.size := (Array.getElem?_eq_some_iff.1 hsum).1
  have hsums : ∀ j t, (zs.map (·.l))[j]? = some t → w2.cell? ⟨wm.heap.size, j, none⟩ = some (.int .i64 (dig t)) := fun j t ht => by
    rw [List.getElem?_map] at ht
    obtain ⟨e, he, rfl⟩ := Option.map_eq_some_iff.1 ht
    have hj := (List.getElem?_eq_some_iff.1 he).1
    have hv : (valsE zs zs.length)[j]? = some (.int .i64 (dig e.l)) := by rw [Wk.valsE_get j hj]; simp [Wk.val, he]
    simp [World.cell?, hsum, hv]
  have H1 := hide hBel
  have H2 := hide hO2
  have H3 := hide hlt2
  have H4 := hide hsums
  have H5 := hide hsm
  clear hBel hO2 hlt2 hsums hsm hsum hbel om bm sm om1 Bm
  try walk_nrm
  (repeat (first | (first | refine bt_ctl rfl (fun _ => stepG_seq) ?_ | refine bt_ctl rfl (fun _ => stepG_skip) ?_ | refine bt_ctl rfl (fun _ => stepG_region_end) ?_ | refine bt_ctl rfl (fun _ => stepG_ret') ?_ | (refine bt_ctl rfl (fun _ => stepG_region) ?_; simp only [List.size_toArray, List.length_cons, List.length_nil, Nat.reduceAdd, Nat.zero_add, List.range, List.range.loop])) | (refine bt_cons zgOk.bodied rfl (by rfl) (by decide) (by decide) (fun dzz Kzz hKzz => ?_); go_simp; refine hKzz _ _ (fun b hb => hb) (bt_at ?_); clear hKzz Kzz; try walk_nrm) | (refine bt_skip rfl (by rfl) ?_; try walk_nrm)))
  have e2 : (zs.map (·.l)).length = zs.length := by simp
  have hT := bodiesV_tks hB
  have hL : ns.length = (zs.map (·.l)).length := by rw [e2]; exact unhide hneH
  have key := pack_end (Q := Q) (c := c) (cs := cs) b d cb cd ns (zs.map (·.l)) w w2 w.heap.size wm.heap.size hL h100 hz hs hT hg (unhide H1) (unhide H2) (unhide H4) (unhide H3) (by have := unhide H5; omega) hk
  rw [e2] at key
  have e3 := (unhide hneH).symm
  rw [e3] at key ⊢
  exact key _ _ _ _ _ _ _ _ _ _ _ _ _ _ _ _ _ _ _ _ _ _ _ _ _ _ _ _ _ _ _ _ _ _ _ _ _ _ _ _ _ _ _ _ _ _ _ _
theorem ipack_B [Br.Thr] (b d : Option Addr) (cb cd : Nat) (ns : List ByteArray) (zs : List El) (w : World) (hz : ∀ n ∈ ns, n.size ≤ 1048576) (hs : Sts w b ns) (hB : BodiesV w zs d) (hg : Br.GC Try.prog w) (hTh : Br.Thr.N ≤ w.heap.size) :
    CallsB Try.prog 6 #[.slice b ns.length cb, .slice d zs.length cd] w (RPk w ns (zs.map (·.l))) := by
  by_cases hne : ns.length = zs.length
  · by_cases h100 : ns.length ≤ 100
    · exact ipack_yes b d cb cd ns zs w hne h100 hz hs hB hg hTh
    · exact ipack_no2 b d cb cd ns zs w hne h100
  · exact ipack_no1 b d cb cd ns zs w hne
end Go.Proofs.Ytghglpcfpokmhaa

namespace Go.Proofs.Ytghglpcfpokmhaa.Pl

def dg (n : Nat) : UInt8 := UInt8.ofNat (48 + n % 10)
theorem dg_toNat (n : Nat) : (dg n).toNat = 48 + n % 10 := by unfold dg; simp; omega

def decF : Nat → Nat → List UInt8
  | 0, _ => []
  | k + 1, n => if n < 10 then [dg n] else decF k (n / 10) ++ [dg n]
def dec (n : Nat) : List UInt8 := decF (n + 1) n
theorem decF_enough : ∀ (f g n : Nat), n < f → n < g → decF f n = decF g n := by
  intro f
  induction f with
  | zero => intro g n h; omega
  | succ f ih =>
    intro g n h1 h2
    cases g with
    | zero => omega
    | succ g =>
      unfold decF
      by_cases h : n < 10
      · rw [if_pos h, if_pos h]
      · rw [if_neg h, if_neg h, ih g (n / 10) (by omega) (by omega)]
theorem dec_small {n : Nat} (h : n < 10) : dec n = [dg n] := by unfold dec decF; rw [if_pos h]
theorem dec_step {n : Nat} (h : 10 ≤ n) : dec n = dec (n / 10) ++ [dg n] := by
  unfold dec
  rw [decF, if_neg (by omega), decF_enough n (n / 10 + 1) (n / 10) (by omega) (by omega)]
/-- the digits of what is left ahead of what is there; nothing of 0 -/
def decOn (x : Nat) (acc : List UInt8) : List UInt8 := if x = 0 then acc else dec x ++ acc
theorem decOn_step {x : Nat} (acc : List UInt8) (h : x ≠ 0) : decOn (x / 10) (dg x :: acc) = decOn x acc := by
  unfold decOn
  rw [if_neg h]
  by_cases h1 : x < 10
  · rw [if_pos (by omega), dec_small h1]; rfl
  · rw [if_neg (by omega), dec_step (n := x) (by omega)]; simp
theorem decOn_first (n : Nat) : decOn (n / 10) [dg n] = dec n := by
  by_cases h : n = 0
  · subst h; rfl
  · rw [decOn_step [] h, decOn, if_neg h, List.append_nil]
theorem dec_length_lt : ∀ (k n : Nat), n < 10 ^ (k + 1) → (dec n).length ≤ k + 1 := by
  intro k
  induction k with
  | zero => intro n h; rw [dec_small (by simpa using h)]; simp
  | succ k ih =>
    intro n h
    by_cases h1 : n < 10
    · rw [dec_small h1]; simp
    · rw [dec_step (by omega)]
      have := ih (n / 10) (by rw [Nat.pow_succ] at h; omega)
      simp; omega
theorem dec_ne (n : Nat) : dec n ≠ [] := by
  by_cases h : n < 10
  · rw [dec_small h]; simp
  · rw [dec_step (by omega)]; simp

/-- in at least k digits -/
def wide (k n : Nat) : List UInt8 := List.replicate (k - (dec n).length) 48 ++ dec n
def two (n : Nat) : List UInt8 := [dg (n / 10), dg n]
def three (n : Nat) : List UInt8 := [dg (n / 100), dg (n / 10), dg n]
theorem dec_two {n : Nat} (h : 10 ≤ n) (h2 : n < 100) : dec n = [dg (n / 10), dg n] := by rw [dec_step h, dec_small (by omega)]; rfl
theorem dec_three {n : Nat} (h : 100 ≤ n) (h2 : n < 1000) : dec n = [dg (n / 100), dg (n / 10), dg n] := by
  rw [dec_step (by omega), dec_two (by omega) (by omega), show n / 10 / 10 = n / 100 by omega]; rfl
theorem dg_zero {n : Nat} (h : n % 10 = 0) : dg n = 48 := by unfold dg; rw [h]; rfl
theorem wide_two {n : Nat} (h : n < 100) : wide 2 n = two n := by
  unfold wide two
  by_cases h1 : n < 10
  · rw [dec_small h1, dg_zero (n := n / 10) (by omega)]; rfl
  · rw [dec_two (by omega) h]; rfl
theorem wide_three {n : Nat} (h : n < 1000) : wide 3 n = three n := by
  unfold wide three
  by_cases h1 : n < 10
  · rw [dec_small h1, dg_zero (n := n / 10) (by omega), dg_zero (n := n / 100) (by omega)]; rfl
  by_cases h2 : n < 100
  · rw [dec_two (by omega) h2, dg_zero (n := n / 100) (by omega)]; rfl
  · rw [dec_three (by omega) h]; rfl

end Go.Proofs.Ytghglpcfpokmhaa.Pl

namespace Go.Proofs.Ytghglpcfpokmhaa
open Go.RowKit
set_option linter.unusedVariables false
set_option linter.unusedSimpArgs false

theorem conv1 (x : Nat) (w : World) : (convert 22 9 (.slice (some ⟨w.heap.size, 0, none⟩) 1 1)).run Try.prog (w.alloc (.cells #[.int .u8 (48 + (x : Int) % 10)] 5)) = .ok (.string ⟨#[Pl.dg x]⟩) (w.alloc (.cells #[.int .u8 (48 + (x : Int) % 10)] 5)) := by
  refine run_convert_bytes_back (P := Try.prog) _ 22 9 5 ⟨w.heap.size, 0, none⟩ 1 [Pl.dg x] Try.underlying22 Try.underlying5 Try.underlying9 (fun j hj => ?_)
  match j, hj with
  | 0, _ => simp [Addr.add, Pl.dg_toNat]
theorem str_cons (c : UInt8) (l : List UInt8) : (⟨#[c]⟩ : ByteArray) ++ ⟨l.toArray⟩ = ⟨(c :: l).toArray⟩ := ByteArray.mk_append_mk [c] l
/-- the text of a mark -/
def mkT (z : Int) : ByteArray := ⟨(109 :: Pl.dec z.toNat).toArray⟩
theorem grown_below {w w1 w2 : World} {g : Option Nat} (h : w.grownBy w1 g) (hb : Below w1.heap.size w1 w2) : w.grownBy w2 g :=
  grown_trans h ⟨hb.os, hb.tape, hb.output, hb.size, fun j hj _ => hb.block j hj⟩
/-- the first i cells bear the marks from q on -/
def MkS (q : Int) (i : Nat) (xs : List Value) : Prop := ∀ j, j < i → xs[j]? = some (sv (mkT (q + j)))
theorem MkS.set {q : Int} {i : Nat} {xs : List Value} (h : MkS q i xs) (hi : i < xs.length) : MkS q (i + 1) (xs.set i (sv (mkT (q + i)))) := by
  intro j hj
  by_cases e : j = i
  · subst e; simp [hi]
  · rw [List.getElem?_set_ne (by omega)]; exact h j (by omega)
theorem keep1 {w w0 w1 : World} {a : Addr} {v : Value} (h : w0.cell? a = some v ∧ Below w.heap.size w w0) (hb : Below w0.heap.size w0 w1) : w1.cell? a = some v ∧ Below w.heap.size w w1 := ⟨cell_later hb h.1, laterB h.2 hb⟩
theorem keep1d {w w0 : World} {a : Addr} {v : Value} (h : w0.cell? a = some v ∧ Below w.heap.size w w0) : w0.drew.cell? a = some v ∧ Below w.heap.size w w0.drew := ⟨h.1, h.2.drew⟩
end Go.Proofs.Ytghglpcfpokmhaa
