/-
  Goroutine 0's side of the pipe: from behind the go statement through all receives.
-/
import Derived.Test.YtdemcjppokhonaaRd
set_option linter.unusedVariables false
set_option linter.unusedSimpArgs false
namespace Go.Proofs.Ytdemcjppokhonaa
open Go Go.Conc Go.RowKit

section
variable (c g B0 : Nat) (L : List Nat) (N : Nat) (W : World) (cs : List Frame)
theorem atR_comm (out r33 : Value) (v0 v1 v2 v3 v4 v5 v6 v8 v9 v10 v11 v12 v13 v14 v15 v16 v17 v18 v19 v20 v21 v22 v23 v24 v25 v26 v27 v28 v29 v30 v31 v34 v35 v36 v37 v38 v39 v40 v41 : Value) (w : World) : stepG Try.prog true (atR6 c cs out r33 v0 v1 v2 v3 v4 v5 v6 v8 v9 v10 v11 v12 v13 v14 v15 v16 v17 v18 v19 v20 v21 v22 v23 v24 v25 v26 v27 v28 v29 v30 v31 v34 v35 v36 v37 v38 v39 v40 v41 [0, 1]) w = .comm (core (atR6 c cs out r33 v0 v1 v2 v3 v4 v5 v6 v8 v9 v10 v11 v12 v13 v14 v15 v16 v17 v18 v19 v20 v21 v22 v23 v24 v25 v26 v27 v28 v29 v30 v31 v34 v35 v36 v37 v38 v39 v40 v41 [0, 1])) #[rcase c (.slice none 0 0)] true (.recv true) w #[] := by
  simp only [atR6, ops8, L8b, L8, R11, T6, body6, Try.f24, Option.getD_some]
  rw [stepG_comm (cases := #[rcase c (.slice none 0 0)]) (blocking := true) (shape := .recv true) (w' := w) rfl rfl (by decide) (by simp [go_sem, rcase])]
  simp [listed, go_sem, seen]
  rfl
theorem served_atR (out r33 v : Value) (v0 v1 v2 v3 v4 v5 v6 v8 v9 v10 v11 v12 v13 v14 v15 v16 v17 v18 v19 v20 v21 v22 v23 v24 v25 v26 v27 v28 v29 v30 v31 v34 v35 v36 v37 v38 v39 v40 v41 : Value) : Conc.served (core (atR6 c cs out r33 v0 v1 v2 v3 v4 v5 v6 v8 v9 v10 v11 v12 v13 v14 v15 v16 v17 v18 v19 v20 v21 v22 v23 v24 v25 v26 v27 v28 v29 v30 v31 v34 v35 v36 v37 v38 v39 v40 v41 [0, 1])) v = atR6 c cs out v v0 v1 v2 v3 v4 v5 v6 v8 v9 v10 v11 v12 v13 v14 v15 v16 v17 v18 v19 v20 v21 v22 v23 v24 v25 v26 v27 v28 v29 v30 v31 v34 v35 v36 v37 v38 v39 v40 v41 [1] := by
  simp only [atR6, ops8, L8b, L8, R11, T6, body6, Try.f24, Option.getD_some, core_G, served_G]
  rfl

/-- THE RECEIVES -/
theorem rcq_from (Fin : Goroutine → World → Prop) (s K : Nat) (hc : c < B0) (hN : N ≤ c) (hgc : g ≠ c) (hg : g < B0) (h1 : 1 ≤ s) (hs : s ≤ 4096) (hK : K ≤ 4096)
    (fin : ∀ (out : Value) (M : List Nat) (v0 v1 v2 v3 v4 v5 v6 v8 v9 v10 v11 v12 v13 v14 v15 v16 v17 v18 v19 v20 v21 v22 v23 v24 v25 v26 v27 v28 v29 v30 v31 v34 v35 v36 v37 v38 v39 v40 v41 : Value) (w : World), out ≠ .slice none 0 0 → AF c g B0 L N W out K M w → Ls (fun j => meanV ((L.drop (j * s)).take s)) K M → Fin (atR6 c cs out (.tuple #[.slice none 0 0, .bool false]) v0 v1 v2 v3 v4 v5 v6 v8 v9 v10 v11 v12 v13 v14 v15 v16 v17 v18 v19 v20 v21 v22 v23 v24 v25 v26 v27 v28 v29 v30 v31 v34 v35 v36 v37 v38 v39 v40 v41 [1]) w) :
    ∀ (m k cap : Nat) (M : List Nat) (out r33 : Value) (v0 v1 v2 v3 v4 v5 v6 v8 v9 v10 v11 v12 v13 v14 v15 v16 v17 v18 v19 v20 v21 v22 v23 v24 v25 v26 v27 v28 v29 v30 v31 v34 v35 v36 v37 v38 v39 v40 v41 : Value) (w : World), k + m = K → K * s ≤ L.length → out ≠ .slice none 0 0 → AF c g B0 L N W out k M w → Ls (fun j => meanV ((L.drop (j * s)).take s)) k M →
      StR Try.prog c (.slice none 0 0) (NextR Try.prog c (.slice none 0 0) Fin (bks g s m (k * s) cap)) (atR6 c cs out r33 v0 v1 v2 v3 v4 v5 v6 v8 v9 v10 v11 v12 v13 v14 v15 v16 v17 v18 v19 v20 v21 v22 v23 v24 v25 v26 v27 v28 v29 v30 v31 v34 v35 v36 v37 v38 v39 v40 v41 [0, 1]) w := by
  intro m
  induction m with
  | zero =>
    intro k cap M out r33 v0 v1 v2 v3 v4 v5 v6 v8 v9 v10 v11 v12 v13 v14 v15 v16 v17 v18 v19 v20 v21 v22 v23 v24 v25 v26 v27 v28 v29 v30 v31 v34 v35 v36 v37 v38 v39 v40 v41 w hk hL hnn hF hM
    refine ⟨rfl, #[], atR_comm c cs out r33 v0 v1 v2 v3 v4 v5 v6 v8 v9 v10 v11 v12 v13 v14 v15 v16 v17 v18 v19 v20 v21 v22 v23 v24 v25 v26 v27 v28 v29 v30 v31 v34 v35 v36 v37 v38 v39 v40 v41 w, noev, fun w₂ h₂ => ?_⟩
    show Fin (Conc.served _ _) w₂
    rw [served_atR]
    have hk' : k = K := by omega
    subst hk'
    exact fin out M v0 v1 v2 v3 v4 v5 v6 v8 v9 v10 v11 v12 v13 v14 v15 v16 v17 v18 v19 v20 v21 v22 v23 v24 v25 v26 v27 v28 v29 v30 v31 v34 v35 v36 v37 v38 v39 v40 v41 w₂ hnn (AF.aside hc hN hgc hF h₂) hM
  | succ m ih =>
    intro k cap M out r33 v0 v1 v2 v3 v4 v5 v6 v8 v9 v10 v11 v12 v13 v14 v15 v16 v17 v18 v19 v20 v21 v22 v23 v24 v25 v26 v27 v28 v29 v30 v31 v34 v35 v36 v37 v38 v39 v40 v41 w hk hL hnn hF hM
    refine ⟨rfl, #[], atR_comm c cs out r33 v0 v1 v2 v3 v4 v5 v6 v8 v9 v10 v11 v12 v13 v14 v15 v16 v17 v18 v19 v20 v21 v22 v23 v24 v25 v26 v27 v28 v29 v30 v31 v34 v35 v36 v37 v38 v39 v40 v41 w, noev, fun w₂ h₂ => ?_⟩
    show ∃ n, Goes _ _ _ _ _ n (Conc.served _ _) w₂
    rw [served_atR]
    have e1 : (k + 1) * s = k * s + s := by rw [Nat.add_mul, Nat.one_mul]
    have e2 : (k + 1) * s ≤ K * s := Nat.mul_le_mul_right _ (by omega)
    have hlen : ((L.drop (k * s)).take s).length = s := by rw [List.length_take, List.length_drop]; omega
    refine seg_round c g B0 L N W cs _ 0 hc hN hgc hg (k * s) s cap k M _ rfl hlen h1 hs (by omega) out v0 v1 v2 v3 v4 v5 v6 v8 v9 v10 v11 v12 v13 v14 v15 v16 v17 v18 v19 v20 v21 v22 v23 v24 v25 v26 v27 v28 v29 v30 v31 v34 v35 v36 v37 v38 v39 v40 v41 w₂ (AF.aside hc hN hgc hF h₂) fun out' r33 v0 v1 v2 v3 v4 v5 v6 v8 v9 v10 v11 v12 v13 v14 v15 v16 v17 v18 v19 v20 v21 v22 v23 v24 v25 v26 v27 v28 v29 v30 v31 v34 v35 v36 v37 v38 v39 v40 v41 x w' hx hnn' hF' => ?_
    refine Goes.stop fun w₁ h₁ => ?_
    have := ih (k + 1) (cap - s) (M ++ [x]) out' r33 v0 v1 v2 v3 v4 v5 v6 v8 v9 v10 v11 v12 v13 v14 v15 v16 v17 v18 v19 v20 v21 v22 v23 v24 v25 v26 v27 v28 v29 v30 v31 v34 v35 v36 v37 v38 v39 v40 v41 w₁ (by omega) hL hnn' (AF.aside hc hN hgc hF' h₁) (hM.snoc hx)
    rw [e1] at this
    exact this

set_option maxRecDepth 100000 in
set_option maxHeartbeats 3200000 in
/-- TO THE FIRST RECEIVE -/
theorem seg_first (Stop : Goroutine → World → Prop) (n₀ : Nat) (hc : c < B0) (hN : N ≤ c) (hgc : g ≠ c) (hg : g < B0) (a0 : Option Addr) (n0 c0 s : Nat) (h1 : 1 ≤ s) (hs : s ≤ 4096) (hn : n0 ≤ 4096) (v1 v2 v3 v4 v7 v8 v9 v10 v11 v12 v13 v14 v15 v16 v17 v18 v19 v20 v21 v22 v23 v24 v25 v26 v27 v28 v29 v30 v31 v32 v33 v34 v35 v36 v37 v38 v39 v40 v41 : Value) (w : World) (hF : AF c g B0 L N W (.slice none 0 0) 0 [] w)
    (next : ∀ (out r33 : Value) (v0 v1 v2 v3 v4 v5 v6 v8 v9 v10 v11 v12 v13 v14 v15 v16 v17 v18 v19 v20 v21 v22 v23 v24 v25 v26 v27 v28 v29 v30 v31 v34 v35 v36 v37 v38 v39 v40 v41 : Value) w', out ≠ .slice none 0 0 → AF c g B0 L N W out 0 [] w' → Goes Try.prog true (Go.Conc.Aside c) (DC c) Stop n₀ (atR6 c cs out r33 v0 v1 v2 v3 v4 v5 v6 v8 v9 v10 v11 v12 v13 v14 v15 v16 v17 v18 v19 v20 v21 v22 v23 v24 v25 v26 v27 v28 v29 v30 v31 v34 v35 v36 v37 v38 v39 v40 v41 [0, 1]) w') :
    ∃ n, Goes Try.prog true (Go.Conc.Aside c) (DC c) Stop n (G ((base 24).at ⟨#[.slice a0 n0 c0, v1, v2, v3, v4, .int .i64 s, .chan (some c), v7, v8, v9, v10, v11, v12, v13, v14, v15, v16, v17, v18, v19, v20, v21, v22, v23, v24, v25, v26, v27, v28, v29, v30, v31, v32, v33, v34, v35, v36, v37, v38, v39, v40, v41], []⟩ [.inRegion ops5 [], .code T6]) cs) w := by
  have hs0 : ¬ ((s : Int) = 0) := by omega
  have hsn : ¬ s = 0 := by omega
  have hd : (n0 : Int).tdiv (s : Int) = ((n0 / s : Nat) : Int) := by rw [Int.ofNat_tdiv]
  have hle : n0 / s ≤ n0 := Nat.div_le_self _ _
  generalize hQ : n0 / s = q at *
  have hw : IntKind.i64.wrap (q : Int) = (q : Int) := by rw [IntKind.wrap_i64]; omega
  simp only [atR6, ops5, ops8, L8b, L8, R11, T6, body6, Try.f24, Option.getD_some] at next ⊢
  co_apply Exists.intro
  repeat (first | (co_apply Goes.step rfl; intro _ hzz; walk_rw; refine ⟨⟨rfl, noev⟩, ?_⟩; replace hF := (AF.aside hc hN hgc) hF hzz; clear hzz) | (co_apply Goes.step rfl; intro _ hzz; replace hF := (AF.aside hc hN hgc) hF hzz; clear hzz; refine goes_oper_k rfl (by rfl) (by decide) (fun Kzz hKzz => ?_); go_simp; refine hKzz _ _ ⟨⟨rfl, listed_ok bod rfl _⟩, ?_⟩; clear hKzz Kzz; try walk_nrm))
  -- the row of means
  co_apply Goes.step rfl
  intro w₁ h₁
  replace hF := AF.aside hc hN hgc hF h₁
  clear h₁
  obtain ⟨i0, hi, hz0, hz1, hz2⟩ := info_parts info22
  obtain ⟨w₂, hr, hown, hgrow⟩ := run_make_own (P := Try.prog) w₁ B0 24 25 i0 (.float .f64 0) 1 Try.underlying24 hi hz0 hz1 .i64 .i64 q (by rw [hz2]; omega) (by unfold maxLen; omega) hF.size
  refine goes_oper_k rfl (by rfl) (by decide) (fun K hK => ?_)
  go_simp
  refine hK _ _ ⟨⟨?_, listed_ok bod rfl _⟩, ?_⟩
  · exact ((Below.refl B0 w₁).grown hgrow hF.size (fun k hk => by cases hk)).block c hc
  clear hK K
  try walk_nrm
  have hF3 : AF c g B0 L N W (.slice (some ⟨w₁.heap.size, 0, none⟩) 0 q) 0 [] w₂ := ⟨by simpa using hown, fun j y hy => ?_, hF.below.grown hgrow (by have := hF.size; omega) (fun k hk => by cases hk), Nat.le_trans hF.size hgrow.size⟩
  · clear hF hr hown hgrow
    repeat (first | (co_apply Goes.step rfl; intro _ hzz; walk_rw; refine ⟨⟨rfl, noev⟩, ?_⟩; replace hF3 := (AF.aside hc hN hgc) hF3 hzz; clear hzz) | (co_apply Goes.step rfl; intro _ hzz; replace hF3 := (AF.aside hc hN hgc) hF3 hzz; clear hzz; refine goes_oper_k rfl (by rfl) (by decide) (fun Kzz hKzz => ?_); go_simp; refine hKzz _ _ ⟨⟨rfl, listed_ok bod rfl _⟩, ?_⟩; clear hKzz Kzz; try walk_nrm))
    exact next _ _ _ _ _ _ _ _ _ _ _ _ _ _ _ _ _ _ _ _ _ _ _ _ _ _ _ _ _ _ _ _ _ _ _ _ _ _ _ _ _ _ (by simp) hF3
  · exact (World.cell?_of_block (((Below.refl B0 w₁).grown hgrow hF.size (fun k hk => by cases hk)).block g hg)).trans (hF.cel j y hy)
end
end Go.Proofs.Ytdemcjppokhonaa
