/-
  In company of the sender: Squares' loop of receives.
-/
import Derived.Test.YtdemcjppokhonaaRc
import Derived.Laws.MakeOwn
set_option linter.unusedVariables false
set_option linter.unusedSimpArgs false
namespace Go.Proofs.Ytdemcjppokhonaa
open Go Go.Conc Go.RowKit

noncomputable def body6 : Code := Try.f24.body.getD .skip
noncomputable def T6 : Code := match body6 with | .seq _ (.seq _ (.seq _ (.seq _ (.seq _ r)))) => r | _ => .skip
noncomputable def ops5 : Array Oper := match body6 with | .seq _ (.seq _ (.seq _ (.seq _ (.seq (.region _ ops _) _)))) => ops | _ => #[]
noncomputable def L8 : Code := match T6 with | .seq _ (.seq (.seq _ (.block _ (.loop c))) _) => c | _ => .skip
noncomputable def R11 : Code := match T6 with | .seq _ (.seq _ r) => r | _ => .skip
noncomputable def ops8 : Array Oper := match L8 with | .seq (.region _ ops _) _ => ops | _ => #[]
noncomputable def L8b : Code := match L8 with | .seq _ r => r | _ => .skip

/-- what goroutine 0 knows behind the go statement -/
structure AF (c g B0 : Nat) (L : List Nat) (N : Nat) (W : World) (out : Value) (k : Nat) (M : List Nat) (w : World) : Prop where
  own : w.ownsRow B0 25 1 out k (M.map fl)
  cel : Cel g 0 L w
  below : Below N W w
  size : B0 ≤ w.heap.size

theorem AF.aside {c g B0 : Nat} {L : List Nat} {N : Nat} {W : World} {out : Value} {k : Nat} {M : List Nat} {w w' w₁ : World} (hc : c < B0) (hN : N ≤ c) (hgc : g ≠ c) (h : AF c g B0 L N W out k M w) (ha : Go.Conc.Aside c w' w₁)
    (e : (w'.heap, w'.os, w'.tape, w'.output) = (w.heap, w.os, w.tape, w.output) := by rfl) : AF c g B0 L N W out k M w₁ := by
  have ha : Go.Conc.Aside c w w₁ := asT (Go.Conc.Aside.refl c w) ha e
  refine ⟨⟨h.own.1, ?_⟩, fun j x hx => (World.cell?_of_block (ha.block g hgc)).trans (h.cel j x hx), ⟨ha.os.trans h.below.os, ha.tape.trans h.below.tape, ha.output.trans h.below.output, by rw [ha.size]; exact h.below.size, fun k hk => (ha.block k (by omega)).trans (h.below.block k hk)⟩, by rw [ha.size]; exact h.size⟩
  rcases h.own.2 with h0 | ⟨g', cp, cur, e, hg, hh, r⟩
  · exact .inl h0
  · exact .inr ⟨g', cp, cur, e, hg, (ha.block g' (by omega)).trans hh, r⟩

theorem uponK_append {P : Program} {o : Oper} {a : Act} {K : Act → World → Prop} {w w' : World} {v xv v' : Value} (s x : Operand) (t : TypeId)
    (ho : o.op = .call { callee := .builtin .append, args := #[s, x], argTypes := #[t, t] }) (hs : a.eval s = v) (hx : a.eval x = xv)
    (hr : (Builtin.append_ #[t, t] o.type #[v, xv]).run P w = .ok v' w') (h : K (a.put o.dst v') w') : uponK o a K ((execOp a.eval o).run P w) := by
  unfold execOp
  simp only [ho, resolve, invoke, builtin, Sem.run_bind, Sem.run_pure, Result.andThen_ok, List.map_toArray, List.map_cons, List.map_nil, hs, hx, hr]
  exact h

theorem Goes_callV {P : Program} {main : Bool} {R : World → World → Prop} {D : World → World → Array Event → Prop} (T : Terms R D) {b : Frame} {a : Act} {k : List Item} {cs : List Frame} {w : World} {ops : Array Oper} {i : Nat} {rest : List Nat} {o : Oper} {f : FuncId} {args : Array Operand} {vs : Array Value} {ats : Array TypeId}
    {nf m : Nat} {Post : Value → World → Prop} {Stop : Goroutine → World → Prop} (hcall : CallsC P main R D f vs nf w Post)
    (ho : ops[i]? = some o) (hw : Region.wanted o (yielded ops a.tmps) = true) (hk : b.kind ≠ .early) (hop : o.op = .call { callee := .value (.func f), args, argTypes := ats }) (hargs : args.map a.eval = vs)
    (hnext : ∀ v w', Post v w' → Goes P main R D Stop m (G (b.at (a.put o.dst v) (.inRegion ops rest :: k)) cs) w') :
    Goes P main R D Stop (m + nf + 3) (G (b.at a (.inRegion ops (i :: rest) :: k)) cs) w := by
  subst hargs
  exact Goes.call T ho hw hk hop hcall hnext


section
variable (c g B0 : Nat) (L : List Nat) (N : Nat) (W : World) (cs : List Frame)
noncomputable def atR6 (out r33 : Value) (v0 v1 v2 v3 v4 v5 v6 v8 v9 v10 v11 v12 v13 v14 v15 v16 v17 v18 v19 v20 v21 v22 v23 v24 v25 v26 v27 v28 v29 v30 v31 v34 v35 v36 v37 v38 v39 v40 v41 : Value) (rest : List Nat) : Goroutine :=
  G ((base 24).at ⟨#[v0, v1, v2, v3, v4, v5, v6, out, v8, v9, v10, v11, v12, v13, v14, v15, v16, v17, v18, v19, v20, v21, v22, v23, v24, v25, v26, v27, v28, v29, v30, v31, .chan (some c), r33, v34, v35, v36, v37, v38, v39, v40, v41], []⟩ [.inRegion ops8 rest, .code L8b, .inLoop L8, .inBlock 0, .code R11]) cs

set_option maxRecDepth 100000 in
set_option maxHeartbeats 3200000 in
/-- ONE ROUND -/
theorem seg_round (Stop : Goroutine → World → Prop) (n₀ : Nat) (hc : c < B0) (hN : N ≤ c) (hgc : g ≠ c) (hg : g < B0) (o s cap k : Nat) (M bl : List Nat) (hb : bl = (L.drop o).take s) (hbl : bl.length = s) (h1 : 1 ≤ s) (hs : s ≤ 4096) (hk4 : k ≤ 4096) (out : Value) (v0 v1 v2 v3 v4 v5 v6 v8 v9 v10 v11 v12 v13 v14 v15 v16 v17 v18 v19 v20 v21 v22 v23 v24 v25 v26 v27 v28 v29 v30 v31 v34 v35 v36 v37 v38 v39 v40 v41 : Value) (w : World) (hF : AF c g B0 L N W out k M w)
    (next : ∀ (out' r33 : Value) (v0 v1 v2 v3 v4 v5 v6 v8 v9 v10 v11 v12 v13 v14 v15 v16 v17 v18 v19 v20 v21 v22 v23 v24 v25 v26 v27 v28 v29 v30 v31 v34 v35 v36 v37 v38 v39 v40 v41 : Value) (x : Nat) w', Sm x (meanV bl) → out' ≠ .slice none 0 0 → AF c g B0 L N W out' (k + 1) (M ++ [x]) w' → Goes Try.prog true (Go.Conc.Aside c) (DC c) Stop n₀ (atR6 c cs out' r33 v0 v1 v2 v3 v4 v5 v6 v8 v9 v10 v11 v12 v13 v14 v15 v16 v17 v18 v19 v20 v21 v22 v23 v24 v25 v26 v27 v28 v29 v30 v31 v34 v35 v36 v37 v38 v39 v40 v41 [0, 1]) w') :
    ∃ n, Goes Try.prog true (Go.Conc.Aside c) (DC c) Stop n (atR6 c cs out (.tuple #[.slice (some ⟨g, o, none⟩) s cap, .bool true]) v0 v1 v2 v3 v4 v5 v6 v8 v9 v10 v11 v12 v13 v14 v15 v16 v17 v18 v19 v20 v21 v22 v23 v24 v25 v26 v27 v28 v29 v30 v31 v34 v35 v36 v37 v38 v39 v40 v41 [1]) w := by
  obtain ⟨NM, hM⟩ := meanC c g o s cap bl hbl h1 hs hgc
  have hcel : ∀ w1, Cel g 0 L w1 → Cel g o bl w1 := fun w1 h j x hx => by
    have := h (o + j) x (by
      subst hb
      have hj : j < s := by rw [← hbl]; exact (List.getElem?_eq_some_iff.1 hx).1
      rw [List.getElem?_take_of_lt hj, List.getElem?_drop] at hx
      exact hx)
    rw [Nat.zero_add] at this
    exact this
  simp only [atR6, ops8, L8b, L8, R11, T6, body6, Try.f24, Option.getD_some] at next ⊢
  co_apply Exists.intro
  repeat (first | (co_apply Goes.step rfl; intro _ hzz; walk_rw; refine ⟨⟨rfl, noev⟩, ?_⟩; replace hF := (AF.aside hc hN hgc) hF hzz; clear hzz) | (co_apply Goes.step rfl; intro _ hzz; replace hF := (AF.aside hc hN hgc) hF hzz; clear hzz; refine goes_oper_k rfl (by rfl) (by decide) (fun Kzz hKzz => ?_); go_simp; refine hKzz _ _ ⟨⟨rfl, listed_ok bod rfl _⟩, ?_⟩; clear hKzz Kzz; try walk_nrm))
  (co_apply Goes.step rfl; intro _ hzz; rw [stepG_cond (t := true) rfl]; simp only [goes_go, if_true, if_false, Bool.false_eq_true, ↓reduceIte]; refine ⟨⟨rfl, noev⟩, ?_⟩; replace hF := (AF.aside hc hN hgc) hF hzz; clear hzz)
  repeat (first | (co_apply Goes.step rfl; intro _ hzz; walk_rw; refine ⟨⟨rfl, noev⟩, ?_⟩; replace hF := (AF.aside hc hN hgc) hF hzz; clear hzz) | (co_apply Goes.step rfl; intro _ hzz; replace hF := (AF.aside hc hN hgc) hF hzz; clear hzz; refine goes_oper_k rfl (by rfl) (by decide) (fun Kzz hKzz => ?_); go_simp; refine hKzz _ _ ⟨⟨rfl, listed_ok bod rfl _⟩, ?_⟩; clear hKzz Kzz; try walk_nrm))
  co_apply Goes_callV (tm c) (hM _ (hcel _ hF.cel)) rfl (by rfl) (by decide) rfl (by simp [Act.eval])
  rintro r w' ⟨x, rfl, hx, hF2⟩
  replace hF := AF.aside hc hN hgc hF hF2
  clear hF2
  try walk_nrm
  -- the new cell
  co_apply Goes.step rfl
  intro w₁ h₁
  replace hF := AF.aside hc hN hgc hF h₁
  clear h₁
  refine goes_oper_k rfl (by rfl) (by decide) (fun K hK => ?_)
  go_simp
  have hsz := hF.size
  refine hK _ _ ⟨⟨Below.heap_alloc _ _ _ (by omega), listed_ok bod rfl _⟩, ?_⟩
  clear hK K
  try walk_nrm
  have hnew : (w₁.alloc (.cells #[.float .f64 x] 25)).cell? ⟨w₁.heap.size, 0, none⟩ = some (.float .f64 x) := by
    rw [World.cell?_alloc_at _ _ _ _ rfl]; rfl
  replace hF : AF c g B0 L N W out k M (w₁.alloc (.cells #[.float .f64 x] 25)) := ⟨hF.own.alloc _, fun j y hy => (World.cell?_alloc_lt _ _ _ (by simp; omega)).trans (hF.cel j y hy), hF.below.alloc (by omega) _, by simp; omega⟩
  -- append
  co_apply Goes.step rfl
  intro w₂ h₂
  replace hnew : w₂.cell? ⟨w₁.heap.size, 0, none⟩ = some (.float .f64 x) := (World.cell?_of_block (h₂.block _ (by simp; omega))).trans hnew
  replace hF := AF.aside hc hN hgc hF h₂
  clear h₂
  obtain ⟨i0, hi, hz0, hz1, hz2⟩ := info_parts info22
  have hnews : ∀ j u, [fl x][j]? = some u → w₂.cell? ((⟨w₁.heap.size, 0, none⟩ : Addr).add j) = some u := by
    intro j u hj
    match j, hj with
    | 0, hj => simp at hj; subst hj; simpa [Addr.add, fl] using hnew
  obtain ⟨out', w₃, hr, hown', hgrow, hnil⟩ := run_append_own (P := Try.prog) w₂ B0 24 24 25 i0 (.float .f64 0) 1 8 Try.underlying24 hi hz0 hz1 hz2 rfl (by decide) out k (M.map fl) hF.own ⟨w₁.heap.size, 0, none⟩ 1 1 [fl x] rfl hnews (by intro u hu; simp at hu; subst hu; rfl) (by unfold maxLen; omega) (by omega) hF.size
  have hnn : out' ≠ .slice none 0 0 := fun e => by have := (hnil.1 e).2; omega
  refine goes_oper_k rfl (by rfl) (by decide) (fun K hK => ?_)
  refine uponK_append (.tmp 36) (.tmp 39) 24 rfl rfl rfl hr (hK _ _ ⟨⟨?_, listed_ok bod rfl _⟩, ?_⟩)
  · exact ((Below.refl B0 w₂).grown hgrow hF.size (fun k hk => (hF.own.lt k hk).1)).block c hc
  clear hK K
  try walk_nrm
  have hF3 : AF c g B0 L N W out' (k + 1) (M ++ [x]) w₃ := ⟨by simpa using hown', fun j y hy => ?_, hF.below.grown hgrow (by have := hF.size; omega) (fun k hk => by have := (hF.own.lt k hk).1; omega), Nat.le_trans hF.size hgrow.size⟩
  · clear hF hr hown' hgrow hnews hnew hnil
    repeat (first | (co_apply Goes.step rfl; intro _ hzz; walk_rw; refine ⟨⟨rfl, noev⟩, ?_⟩; replace hF3 := (AF.aside hc hN hgc) hF3 hzz; clear hzz) | (co_apply Goes.step rfl; intro _ hzz; replace hF3 := (AF.aside hc hN hgc) hF3 hzz; clear hzz; refine goes_oper_k rfl (by rfl) (by decide) (fun Kzz hKzz => ?_); go_simp; refine hKzz _ _ ⟨⟨rfl, listed_ok bod rfl _⟩, ?_⟩; clear hKzz Kzz; try walk_nrm))
    exact next _ _ _ _ _ _ _ _ _ _ _ _ _ _ _ _ _ _ _ _ _ _ _ _ _ _ _ _ _ _ _ _ _ _ _ _ _ _ _ _ _ x _ hx hnn hF3
  · exact (World.cell?_of_block (((Below.refl B0 w₂).grown hgrow hF.size (fun k hk => (hF.own.lt k hk).1)).block g hg)).trans (hF.cel j y hy)
end
end Go.Proofs.Ytdemcjppokhonaa
