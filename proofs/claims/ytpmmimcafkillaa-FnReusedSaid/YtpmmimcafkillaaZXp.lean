/-
  What is worked out of a job by a rule; the rounds of a job: plain. It names no program; no conditions.
  The rules, in company: plain steps; a call of a function value.
-/
import Derived.Test.YtpmmimcafkillaaZJbP
import Derived.Test.YtpmmimcafkillaaZXo
import Derived.Test.YtpmmimcafkillaaZMm
set_option linter.unusedVariables false
set_option linter.unusedSimpArgs false
namespace Go.Proofs.Ytpmmimcafkillaa.Rs
open Go.Proofs.Ytpmmimcafkillaa (Tv jobOk TOk job_tok)

abbrev Rule := Nat → List Int → Int
def ask (out : List Int) (t : Tv) : List Int := t.2.2.1.map fun n => out.getD n.toNat 0
def outs (f : Rule) : List Tv → List Int → List Int
  | [], acc => acc
  | t :: ts, acc => outs f ts (acc ++ [f acc.length (ask acc t)])
def outOf (f : Rule) (ts : List Tv) : List Int := outs f ts []
variable {f : Rule} {ts : List Tv} {acc : List Int}
theorem outs_len (f : Rule) (ts : List Tv) (acc : List Int) : (outs f ts acc).length = acc.length + ts.length := by
  induction ts generalizing acc with
  | nil => simp [outs]
  | cons t ts ih => rw [outs, ih]; simp; omega
theorem out_len (f : Rule) (ts : List Tv) : (outOf f ts).length = ts.length := by rw [outOf, outs_len]; simp
theorem outs_pre (f : Rule) (ts : List Tv) (acc : List Int) : ∃ l, outs f ts acc = acc ++ l := by
  induction ts generalizing acc with
  | nil => exact ⟨[], by simp [outs]⟩
  | cons t ts ih =>
    obtain ⟨l, h⟩ := ih (acc ++ [f acc.length (ask acc t)])
    exact ⟨f acc.length (ask acc t) :: l, by rw [outs, h]; simp⟩
theorem ask_pre {t : Tv} {l : List Int} (h : ∀ x ∈ t.2.2.1, 0 ≤ x ∧ x < acc.length) : ask (acc ++ l) t = ask acc t := by
  unfold ask
  apply List.map_congr_left
  intro x hx
  obtain ⟨h0, h1⟩ := h x hx
  have : x.toNat < acc.length := by omega
  rw [List.getD_eq_getElem?_getD, List.getD_eq_getElem?_getD, List.getElem?_append_left this]
theorem outs_at {k : Nat} {t : Tv} (ht : ts[k]? = some t) (hn : ∀ x ∈ t.2.2.1, 0 ≤ x ∧ x < acc.length + k) : (outs f ts acc)[acc.length + k]? = some (f (acc.length + k) (ask (outs f ts acc) t)) := by
  induction ts generalizing acc k with
  | nil => simp at ht
  | cons u ts ih =>
    cases k with
    | zero =>
      have e : u = t := by simpa using ht
      subst e
      obtain ⟨l, h⟩ := outs_pre f ts (acc ++ [f acc.length (ask acc u)])
      rw [outs, h, List.append_assoc, ask_pre (by intro x hx; have := hn x hx; omega)]
      simp
    | succ k =>
      have := ih (acc := acc ++ [f acc.length (ask acc u)]) (k := k) (by simpa using ht) (by intro x hx; have := hn x hx; simp; omega)
      simp only [List.length_append, List.length_cons, List.length_nil] at this
      rw [outs, show acc.length + (k + 1) = acc.length + (0 + 1) + k by omega]
      exact this
theorem out_at {k : Nat} {t : Tv} (hj : jobOk ts = true) (ht : ts[k]? = some t) : (outOf f ts)[k]? = some (f k (ask (outOf f ts) t)) := by
  have h := outs_at (f := f) (acc := []) ht (by have := (job_tok hj ht).need; simpa using this)
  simpa [outOf] using h
/-! where a task comes: behind all that it needs -/
def plR : Rule := fun _ vs => vs.foldl (fun p x => if p < x + 1 then x + 1 else p) 0
theorem pl_fold (vs : List Int) : ∀ p : Int, (vs.foldl (fun p x => if p < x + 1 then x + 1 else p) p = p ∨ ∃ x ∈ vs, vs.foldl (fun p x => if p < x + 1 then x + 1 else p) p = x + 1) ∧ p ≤ vs.foldl (fun p x => if p < x + 1 then x + 1 else p) p ∧ ∀ x ∈ vs, x + 1 ≤ vs.foldl (fun p x => if p < x + 1 then x + 1 else p) p := by
  induction vs with
  | nil => intro p; simp
  | cons y vs ih =>
    intro p
    rw [List.foldl_cons]
    obtain ⟨h1, h2, h3⟩ := ih (if p < y + 1 then y + 1 else p)
    generalize List.foldl (fun p x => if p < x + 1 then x + 1 else p) (if p < y + 1 then y + 1 else p) vs = r at *
    refine ⟨?_, ?_, fun x hx => ?_⟩
    · rcases h1 with h | ⟨x, hx, h⟩
      · split at h
        · exact .inr ⟨y, by simp, h⟩
        · exact .inl h
      · exact .inr ⟨x, by simp [hx], h⟩
    · split at h2 <;> omega
    · rcases List.mem_cons.1 hx with rfl | hx
      · split at h2 <;> omega
      · exact h3 x hx
def plc (ts : List Tv) (i : Nat) : Nat := ((outOf plR ts).getD i 0).toNat
theorem plc_at {i : Nat} {t : Tv} (hj : jobOk ts = true) (ht : ts[i]? = some t) : (outOf plR ts)[i]? = some (plc ts i : Int) := by
  have h := out_at (f := plR) hj ht
  have h0 := (pl_fold (ask (outOf plR ts) t) 0).2.1
  unfold plc
  rw [List.getD_eq_getElem?_getD, h, Option.getD_some]
  simp only [plR] at h0 ⊢
  rw [Int.toNat_of_nonneg h0]
theorem plc_need {i : Nat} {t : Tv} {x : Int} (hj : jobOk ts = true) (ht : ts[i]? = some t) (hx : x ∈ t.2.2.1) : plc ts x.toNat < plc ts i := by
  have hp := plc_at hj ht
  rw [out_at (f := plR) hj ht] at hp
  have hn := (job_tok hj ht).need x hx
  have hlt : x.toNat < ts.length := by have := (List.getElem?_eq_some_iff.1 ht).1; omega
  have hq := plc_at hj (List.getElem?_eq_getElem hlt)
  have hm : (plc ts x.toNat : Int) ∈ ask (outOf plR ts) t := List.mem_map.2 ⟨x, hx, by rw [List.getD_eq_getElem?_getD, hq]; rfl⟩
  have := (pl_fold (ask (outOf plR ts) t) 0).2.2 _ hm
  have e := Option.some.inj hp
  simp only [plR] at e
  omega
theorem plc_low {i : Nat} {t : Tv} (hj : jobOk ts = true) (ht : ts[i]? = some t) : plc ts i = 0 ∨ ∃ j, j < i ∧ plc ts i = plc ts j + 1 := by
  have hp := plc_at hj ht
  rw [out_at (f := plR) hj ht] at hp
  have e := Option.some.inj hp
  rcases (pl_fold (ask (outOf plR ts) t) 0).1 with h | ⟨x, hx, h⟩
  · left
    simp only [plR] at e
    omega
  · right
    obtain ⟨y, hy, rfl⟩ := List.mem_map.1 hx
    have hn := (job_tok hj ht).need y hy
    have hlt : y.toNat < ts.length := by have := (List.getElem?_eq_some_iff.1 ht).1; omega
    have hq := plc_at hj (List.getElem?_eq_getElem hlt)
    rw [List.getD_eq_getElem?_getD, hq, Option.getD_some] at h
    simp only [plR] at e
    exact ⟨y.toNat, by omega, by omega⟩
/-! the rounds -/
def rput (rs : List (List Int)) (p i : Nat) : List (List Int) := (if p = rs.length then rs ++ [[]] else rs).modify p (· ++ [(i : Int)])
def rn (ts : List Tv) : Nat → List (List Int)
  | 0 => []
  | k + 1 => rput (rn ts k) (plc ts k) k
def rnds (ts : List Tv) : List (List Int) := rn ts ts.length
structure RI (ts : List Tv) (k : Nat) (rs : List (List Int)) : Prop where
  mem : ∀ (p : Nat) (l : List Int), rs[p]? = some l → l.Nodup ∧ (∀ x, x ∈ l ↔ ∃ i : Nat, i < k ∧ x = (i : Int) ∧ plc ts i = p) ∧ l.length ≤ k
  all : ∀ i, i < k → plc ts i < rs.length
theorem ri_rn (hj : jobOk ts = true) : ∀ k, k ≤ ts.length → RI ts k (rn ts k)
  | 0, _ => ⟨fun p l h => (by simp [rn] at h), fun i h => (by omega)⟩
  | k + 1, hk => by
    have ih := ri_rn hj k (by omega)
    have ht : ts[k]? = some ts[k] := List.getElem?_eq_getElem (by omega)
    have hle : plc ts k ≤ (rn ts k).length := by
      rcases plc_low hj ht with h | ⟨j, h1, h2⟩
      · omega
      · have := ih.all j h1; omega
    have hR : ∀ (q : Nat) (l : List Int), (if plc ts k = (rn ts k).length then rn ts k ++ [[]] else rn ts k)[q]? = some l → l.Nodup ∧ (∀ x, x ∈ l ↔ ∃ i : Nat, i < k ∧ x = (i : Int) ∧ plc ts i = q) ∧ l.length ≤ k := by
      intro q l h
      split at h
      · rcases Nat.lt_trichotomy q (rn ts k).length with hq | hq | hq
        · rw [List.getElem?_append_left hq] at h; exact ih.mem q l h
        · subst hq
          rw [List.getElem?_append_right (Nat.le_refl _)] at h
          simp at h
          subst h
          refine ⟨List.nodup_nil, fun x => ⟨fun hx => (by simp at hx), fun ⟨i, h1, _, h3⟩ => ?_⟩, by simp⟩
          have := ih.all i h1
          omega
        · rw [List.getElem?_eq_none (by simp; omega)] at h; cases h
      · exact ih.mem q l h
    have hlen : plc ts k < (if plc ts k = (rn ts k).length then rn ts k ++ [[]] else rn ts k).length := by
      split
      · simp; omega
      · omega
    have hlen2 : (rn ts k).length ≤ (if plc ts k = (rn ts k).length then rn ts k ++ [[]] else rn ts k).length := by split <;> simp
    refine ⟨fun p l h => ?_, fun i hi => ?_⟩
    · rw [rn, rput, List.getElem?_modify] at h
      obtain ⟨l0, h0, e0⟩ := Option.map_eq_some_iff.1 h
      by_cases hp : plc ts k = p
      · rw [if_pos hp] at e0
        subst e0
        obtain ⟨h1, h2, h3⟩ := hR p l0 h0
        refine ⟨?_, fun x => ?_, by simp; omega⟩
        · rw [List.nodup_append]
          refine ⟨h1, by simp, fun a ha b hb => ?_⟩
          simp at hb
          subst hb
          intro e
          obtain ⟨i, h3, h4, _⟩ := (h2 a).1 ha
          omega
        · rw [List.mem_append, h2]
          constructor
          · rintro (⟨i, h3, h4, h5⟩ | h3)
            · exact ⟨i, by omega, h4, h5⟩
            · simp at h3; exact ⟨k, by omega, h3, hp⟩
          · rintro ⟨i, h3, h4, h5⟩
            by_cases e : i = k
            · subst e; right; simp [h4]
            · exact .inl ⟨i, by omega, h4, h5⟩
      · rw [if_neg hp] at e0
        subst e0
        obtain ⟨h1, h2, h3⟩ := hR p l0 h0
        refine ⟨h1, fun x => ?_, by omega⟩
        rw [h2]
        constructor
        · rintro ⟨i, h3, h4, h5⟩
          exact ⟨i, by omega, h4, h5⟩
        · rintro ⟨i, h3, h4, h5⟩
          have : i ≠ k := fun e => hp (by rw [← e]; exact h5)
          exact ⟨i, by omega, h4, h5⟩
    · rw [rn, rput, List.length_modify]
      by_cases e : i = k
      · subst e; exact hlen
      · have := ih.all i (by omega)
        omega
theorem ri_rnds (hj : jobOk ts = true) : RI ts ts.length (rnds ts) := ri_rn hj _ (Nat.le_refl _)
theorem round_at {p k : Nat} {l : List Int} {x : Int} (hj : jobOk ts = true) (hl : (rnds ts)[p]? = some l) (hx : l[k]? = some x) : ∃ i : Nat, x = (i : Int) ∧ i < ts.length ∧ plc ts i = p := by
  obtain ⟨i, h1, h2, h3⟩ := (((ri_rnds hj).mem p l hl).2.1 x).1 (List.mem_of_getElem? hx)
  exact ⟨i, h2, h1, h3⟩
theorem rput_len (rs : List (List Int)) (p i : Nat) : (rput rs p i).length ≤ rs.length + 1 := by
  rw [rput, List.length_modify]; split <;> simp
theorem rn_len (ts : List Tv) : ∀ k, (rn ts k).length ≤ k
  | 0 => by simp [rn]
  | k + 1 => by
    have := rn_len ts k
    have := rput_len (rn ts k) (plc ts k) k
    rw [rn]; omega
theorem round_len {p : Nat} {l : List Int} (hj : jobOk ts = true) (hl : (rnds ts)[p]? = some l) : l.length ≤ ts.length := ((ri_rnds hj).mem p l hl).2.2
def hst (h x : Int) : Int := (h * 257 + x + 1) % 1000000007
def resR (ts : List Tv) : Rule := fun i vs => match ts[i]? with
  | some t => vs.foldl hst ((t.1 * 1000003 + t.2.1) % 1000000007)
  | none => 0
def dtR (ch : List Int) : Rule := fun i vs => if ch.contains (i : Int) || vs.contains 1 then 1 else 0
end Go.Proofs.Ytpmmimcafkillaa.Rs

set_option linter.unusedVariables false
set_option linter.unusedSimpArgs false
namespace Go.Proofs.Ytpmmimcafkillaa.Tr
open Go Go.Conc Go.ConcN Go.RowKit Go.Conc.Lib Go.ConcR.Gen Go.ConcM
open Go.ConcR (KK wgBlock WgAt stA smA rd wr mk DC0)
open Go.Proofs.Ytpmmimcafkillaa.Mx
open Go.Proofs.Ytpmmimcafkillaa.Mx (Mu St)
section
variable {main : Bool} {b : Frame} {a : Act} {kk : List Item} {cs : List Frame} {w : World} {ops : Array Oper} {i : Nat} {rest : List Nat} {o : Oper}
theorem stepG_val {v : Value} (ho : ops[i]? = some o) (hw : Region.wanted o (yielded ops a.tmps) = true) (hk : b.kind ≠ .early) (hr : (execOp a.eval o).run Try.prog w = .ok (.value v) w) (he : (execOp a.eval o).events Try.prog w #[] = #[]) :
    stepG Try.prog main (G (b.at a (.inRegion ops (i :: rest) :: kk)) cs) w = .go (G (b.at (a.put o.dst v) (.inRegion ops rest :: kk)) cs) w #[] := by
  rw [stepG_value ho hw hk hr]
  unfold listed
  rw [he, seen_none]
theorem stepG_mov {x : Operand} {v : Value} (ho : ops[i]? = some o) (hw : Region.wanted o (yielded ops a.tmps) = true) (hk : b.kind ≠ .early) (hop : o.op = .move x) (hx : a.eval x = v) :
    stepG Try.prog main (G (b.at a (.inRegion ops (i :: rest) :: kk)) cs) w = .go (G (b.at (a.put o.dst v) (.inRegion ops rest :: kk)) cs) w #[] :=
  stepG_val ho hw hk (by unfold execOp; simp only [hop, hx]; simp) (by unfold execOp; simp only [hop, hx]; simp)
theorem stepG_asg {x : Operand} {v : Value} (ho : ops[i]? = some o) (hw : Region.wanted o (yielded ops a.tmps) = true) (hk : b.kind ≠ .early) (hop : o.op = .assign x) (hx : a.eval x = v) :
    stepG Try.prog main (G (b.at a (.inRegion ops (i :: rest) :: kk)) cs) w = .go (G (b.at (a.put o.dst v) (.inRegion ops rest :: kk)) cs) w #[] :=
  stepG_val ho hw hk (by unfold execOp; simp only [hop, hx]; simp) (by unfold execOp; simp only [hop, hx]; simp)
theorem stepG_mul {x y : Operand} {p q r : Int} (ho : ops[i]? = some o) (hw : Region.wanted o (yielded ops a.tmps) = true) (hk : b.kind ≠ .early) (hop : o.op = .binOp .mul 2 x y 2) (hx : a.eval x = .int .i64 p) (hy : a.eval y = .int .i64 q) (hr : IntKind.i64.wrap (p * q) = r) :
    stepG Try.prog main (G (b.at a (.inRegion ops (i :: rest) :: kk)) cs) w = .go (G (b.at (a.put o.dst (.int .i64 r)) (.inRegion ops rest :: kk)) cs) w #[] :=
  stepG_val ho hw hk (by unfold execOp; simp only [hop, hx, hy]; simp [go_sem, hr]) (by unfold execOp; simp only [hop, hx, hy]; simp [go_sem, hr])
theorem stepG_add {x y : Operand} {p q r : Int} (ho : ops[i]? = some o) (hw : Region.wanted o (yielded ops a.tmps) = true) (hk : b.kind ≠ .early) (hop : o.op = .binOp .add 2 x y 2) (hx : a.eval x = .int .i64 p) (hy : a.eval y = .int .i64 q) (hr : IntKind.i64.wrap (p + q) = r) :
    stepG Try.prog main (G (b.at a (.inRegion ops (i :: rest) :: kk)) cs) w = .go (G (b.at (a.put o.dst (.int .i64 r)) (.inRegion ops rest :: kk)) cs) w #[] :=
  stepG_val ho hw hk (by unfold execOp; simp only [hop, hx, hy]; simp [go_sem, hr]) (by unfold execOp; simp only [hop, hx, hy]; simp [go_sem, hr])
theorem stepG_rem {x y : Operand} {p r : Int} (ho : ops[i]? = some o) (hw : Region.wanted o (yielded ops a.tmps) = true) (hk : b.kind ≠ .early) (hop : o.op = .binOp .rem 2 x y 2) (hx : a.eval x = .int .i64 p) (hy : a.eval y = .int .i64 1000000007) (hr : p.tmod 1000000007 = r) :
    stepG Try.prog main (G (b.at a (.inRegion ops (i :: rest) :: kk)) cs) w = .go (G (b.at (a.put o.dst (.int .i64 r)) (.inRegion ops rest :: kk)) cs) w #[] :=
  stepG_val ho hw hk (by unfold execOp; simp only [hop, hx, hy]; simp [go_sem, hr]) (by unfold execOp; simp only [hop, hx, hy]; simp [go_sem, hr])
theorem stepG_field0 {x : Operand} (ho : ops[i]? = some o) (hw : Region.wanted o (yielded ops a.tmps) = true) (hk : b.kind ≠ .early) (hop : o.op = .fieldAddr 33 x 0)
    {ad : Addr} (hx : a.eval x = .pointer (some ad)) :
    stepG Try.prog main (G (b.at a (.inRegion ops (i :: rest) :: kk)) cs) w = .go (G (b.at (a.put o.dst (.pointer (some (ad.add 0)))) (.inRegion ops rest :: kk)) cs) w #[] :=
  stepG_val ho hw hk (by unfold execOp; simp only [hop, hx]; simp [go_sem]) (by unfold execOp; simp only [hop, hx]; simp [go_sem])
theorem stepG_field1 {x : Operand} (ho : ops[i]? = some o) (hw : Region.wanted o (yielded ops a.tmps) = true) (hk : b.kind ≠ .early) (hop : o.op = .fieldAddr 33 x 1)
    {ad : Addr} (hx : a.eval x = .pointer (some ad)) :
    stepG Try.prog main (G (b.at a (.inRegion ops (i :: rest) :: kk)) cs) w = .go (G (b.at (a.put o.dst (.pointer (some (ad.add 1)))) (.inRegion ops rest :: kk)) cs) w #[] :=
  stepG_val ho hw hk (by unfold execOp; simp only [hop, hx]; simp [go_sem]) (by unfold execOp; simp only [hop, hx]; simp [go_sem])
/-- a call of a function value -/
theorem goes_callV {K : Goroutine → World → Array Event → Prop} {f : FuncId} {fn : Func} {c : Code} {x : Operand} {caps : Array Value} {args : Array Operand} {ats : Array TypeId}
    (ho : ops[i]? = some o) (hw : Region.wanted o (yielded ops a.tmps) = true) (hk : b.kind ≠ .early) (hop : o.op = .call { callee := .value x, args, argTypes := ats }) (hx : a.eval x = .func (.func f) #[] caps)
    (hf : Try.prog.funcs[f]? = some fn) (hname : (fn.name == "runtime.NumGoroutine") = false) (hb : fn.body = some c)
    (h : K (G ((base f).at { tmps := (args.map a.eval ++ caps) ++ Array.replicate (fn.ntmps - (args.map a.eval ++ caps).size) undef, defers := [] } [.code c]) (b.at a (.inRegion ops (i :: rest) :: kk) :: cs)) w #[]) :
    (stepG Try.prog main (G (b.at a (.inRegion ops (i :: rest) :: kk)) cs) w).goes K := by
  have hb' : fn.body.isNone = false := by rw [hb]; rfl
  have h1 : ¬ fn.name = "runtime.NumGoroutine" := by simpa using hname
  have h2 : ¬ fn.body = none := by rw [hb]; simp
  have hr : (execOp a.eval o).run Try.prog w = .ok (.enter f (args.map a.eval ++ caps)) w := by
    unfold execOp
    simp [hop, resolve, hx, Deferred.ofValue, invoke, callFunc, hf, h1, h2]
  have he : (execOp a.eval o).events Try.prog w #[] = #[] := by
    unfold execOp
    simp [hop, resolve, hx, Deferred.ofValue, invoke, callFunc, hf, h1, h2]
  rw [stepG_enter ho hw hk hr, enter_at _ hf hb]
  have : listed Try.prog b.fn a o w = #[] := by unfold listed; rw [he]; exact seen_none _ _
  rw [this]
  exact h
end
/-- an operation waits for another -/
def waits (ops : Array Oper) (i k : Nat) : Bool := match ops[i]? with
  | some o => o.after.any fun e => e.on == k && Region.binds .any e
  | none => false
theorem pre_of {ops : Array Oper} {i k : Nat} {l : Array Bool} (haf : ∀ o, ops[i]? = some o → ∀ e ∈ o.after, Region.binds .any e = true → l[e.on]?.getD false = true) (h : waits ops i k = true) : l[k]?.getD false = true := by
  unfold waits at h
  rcases ho : ops[i]? with _ | o
  · rw [ho] at h; cases h
  · rw [ho] at h
    obtain ⟨j, hj, he⟩ := Array.any_eq_true.1 h
    simp only [Bool.and_eq_true, beq_iff_eq] at he
    have := haf o ho _ (Array.getElem_mem hj) he.2
    rw [he.1] at this
    exact this
end Go.Proofs.Ytpmmimcafkillaa.Tr
