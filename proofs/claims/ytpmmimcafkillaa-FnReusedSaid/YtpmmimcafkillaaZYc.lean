/-
  A rule, as a worker calls it: what it answers, whoever comes meanwhile; the three rules of the program.
  A round: what is known, what the map holds, each worker's work.
-/
import Derived.Test.YtpmmimcafkillaaZYa
set_option linter.unusedVariables false
set_option linter.unusedSimpArgs false
namespace Go.Proofs.Ytpmmimcafkillaa.Tr
open Go Go.Conc Go.ConcN Go.RowKit Go.Conc.Lib Go.ConcR.Gen Go.ConcM
open Go.ConcR (KK wgBlock WgAt stA smA rd wr mk DC0)
open Go.Proofs.Ytpmmimcafkillaa.Mx
open Go.Proofs.Ytpmmimcafkillaa.Mx (Mu St)
open Go.Proofs.Ytpmmimcafkillaa.Rs (Rule resR dtR hst)
open Go.Proofs.Ytpmmimcafkillaa (Tv Tks Ins jobOk job_tok TOk)
/-- what lay there before is known as it was, but for what is shunned -/
structure LowK (Y : Lay) (wv : World) (Kw : World → Prop) : Prop where
  low : ∀ v, Kw v → ∀ b, b < wv.heap.size → ¬ Y.S b → v.heap[b]? = wv.heap[b]?
  ro : ∀ ad : Addr, ad.block < wv.heap.size → ¬ Y.S ad.block → Y.Ro (.cell ad)
  em : ∀ b, Y.S b → b < wv.heap.size → ∃ e, wv.heap[b]? = some (.cells #[] e (0, 0))
theorem cell_lt {w : World} {ad : Addr} {x : Value} (h : w.cell? ad = some x) : ad.block < w.heap.size := by
  unfold World.cell? at h
  rcases hb : w.heap[ad.block]? with _ | o
  · simp [hb] at h
  · exact (Array.getElem?_eq_some_iff.1 hb).1
theorem LowK.cell {Y : Lay} {wv : World} {Kw : World → Prop} (h : LowK Y wv Kw) {ad : Addr} {x : Value} (hc : wv.cell? ad = some x) : (∀ v, Kw v → v.cell? ad = some x) ∧ Y.Ro (.cell ad) := by
  have hlt := cell_lt hc
  have hns : ¬ Y.S ad.block := fun hs => by
    obtain ⟨e, he⟩ := h.em _ hs hlt
    simp [World.cell?, he] at hc
  refine ⟨fun v hv => ?_, h.ro ad hlt hns⟩
  have hb := h.low v hv _ hlt hns
  unfold World.cell? at hc ⊢
  rw [hb]
  exact hc
theorem LowK.mono {Y : Lay} {wv : World} {Kw Kw' : World → Prop} (h : LowK Y wv Kw) (hk : ∀ v, Kw' v → Kw v) : LowK Y wv Kw' := ⟨fun v hv => h.low v (hk v hv), h.ro, h.em⟩
/-- ████ A RULE ████ -/
def RuleOk (wv : World) (rule : Value) (nts : Nat) (f : Rule) : Prop :=
  ∃ (g : Nat) (caps : Array Value) (fn : Func) (c : Code), rule = .func (.func g) #[] caps ∧ Try.prog.funcs[g]? = some fn ∧ (fn.name == "runtime.NumGoroutine") = false ∧ fn.body = some c ∧
    ∀ (Y : Lay) (F : Nat → Prop) (Kw : World → Prop) (gid : Nat) (Stop : Goroutine → World → Prop) (B : Nat) (vs : List Int) (j : Nat) (b₀ : Frame) (a₀ : Act) (ops₀ : Array Oper) (i₀ : Nat) (rest₀ : List Nat) (k₀ : List Item) (cs : List Frame),
      KnL Y 92 99 F Kw → LowK Y wv Kw → F B → (∀ w, Kw w → w.heap[B]? = some (.cells (vs.map (Value.int .i64)).toArray 2 (0, 0))) → b₀.kind ≠ .early → vs.length ≤ 10 → (∀ v ∈ vs, 0 ≤ v ∧ v < 1000000007) → j < nts →
      (∃ m, ∀ w, Kw w → Goes Try.prog false (RF Y 92 99 F false) (DF Y gid F false false) Stop m (G (b₀.at (a₀.put ((ops₀[i₀]?).bind (·.dst)) (.int .i64 (f j vs))) (.inRegion ops₀ rest₀ :: k₀)) cs) w) →
      ∃ m, ∀ w, Kw w → Goes Try.prog false (RF Y 92 99 F false) (DF Y gid F false false) Stop m (G ((base g).at { tmps := (#[.int .i64 (j : Int), .slice (some ⟨B, 0, none⟩) vs.length vs.length] ++ caps) ++ Array.replicate (fn.ntmps - (#[Value.int .i64 (j : Int), .slice (some ⟨B, 0, none⟩) vs.length vs.length] ++ caps).size) undef, defers := [] } [.code c]) (b₀.at a₀ (.inRegion ops₀ (i₀ :: rest₀) :: k₀) :: cs)) w
theorem jx_of {Y : Lay} {F : Nat → Prop} {Kw : World → Prop} {wv : World} {qb : Addr} {a : Option Addr} {ts : List Tv} {cap j : Nat} (hL : LowK Y wv Kw) (hj : jobOk ts = true) (hq : wv.cell? qb = some (.slice a ts.length cap)) (hT : Tks wv a ts) (hlt : j < ts.length) :
    ∃ ja t, a = some ja ∧ ts[j]? = some t ∧ TOk j t ∧ Jx Y F Kw qb ja ts.length cap j t.1 t.2.1 t.2.2.2 := by
  obtain ⟨t, hts⟩ : ∃ t, ts[j]? = some t := ⟨_, List.getElem?_eq_getElem hlt⟩
  obtain ⟨b, o, p, c, rfl, h1, c0, c1, c2, c3, h3, h4⟩ := hT j t hts
  have ht := job_tok hj hts
  have e : ∀ i, ((⟨b, o, none⟩ : Addr).add (j * 4)).add i = ⟨b, o + j * 4 + i, none⟩ := fun i => by rw [addr_add, addr_add]
  have q := hL.cell hq
  have C0 := hL.cell c0
  have C1 := hL.cell c1
  have C3 := hL.cell c3
  refine ⟨_, t, rfl, hts, ht, ⟨q.1, .inr q.2, hlt, ?_, ?_, ?_, ?_, ?_, ?_, ht.kind0, ht.kind1, ht.val0, ht.val1, ht.cost0, ht.cost1⟩⟩
  · rw [e]; exact C0.1
  · rw [e]; exact .inr C0.2
  · rw [e]; exact C1.1
  · rw [e]; exact .inr C1.2
  · rw [e]; exact C3.1
  · rw [e]; exact .inr C3.2
theorem rdl_low {Y : Lay} {F : Nat → Prop} {Kw : World → Prop} {wv : World} {p : Option Addr} {xs : List Int} (hL : LowK Y wv Kw) (h : Ins wv p xs) : RdL Y F Kw p xs := by
  refine ⟨fun w hw j x hx => ?_, fun j ad hj e => ?_⟩
  · obtain ⟨b, o, rfl, h1, h2⟩ := h j x hx
    exact ⟨_, rfl, by rw [addr_add]; exact (hL.cell h2).1 w hw⟩
  · obtain ⟨b, o, e', h1, h2⟩ := h j xs[j] (List.getElem?_eq_getElem hj)
    rw [e] at e'
    cases e'
    rw [addr_add]
    exact .inr (hL.cell h2).2
theorem nm66 : (Try.f66.name == "runtime.NumGoroutine") = false := by kernel_rfl
theorem nm45 : (Try.f45.name == "runtime.NumGoroutine") = false := by kernel_rfl
section
variable {wv : World} {qb : Addr} {a : Option Addr} {ts : List Tv} {cap : Nat}
set_option maxRecDepth 100000 in
set_option maxHeartbeats 400000 in
theorem ok66 (hj : jobOk ts = true) (hq : wv.cell? qb = some (.slice a ts.length cap)) (hT : Tks wv a ts) : RuleOk wv (.func (.func 66) #[] #[.pointer (some qb)]) ts.length (resR ts) := by
  refine ⟨66, #[.pointer (some qb)], Try.f66, Try.f66.body.getD .skip, rfl, Try.func66, nm66, rfl, fun Y F Kw gid Stop B vs j b₀ a₀ ops₀ i₀ rest₀ k₀ cs K hL hB hb hk0 hl hvb hlt hT' => ?_⟩
  obtain ⟨ja, t, ha, ht, hok, J⟩ := jx_of (F := F) hL hj hq hT hlt
  have ef : resR ts j vs = vs.foldl hst ((t.1 * 1000003 + t.2.1) % 1000000007) := by simp only [resR, ht]
  rw [ef] at hT'
  have := rule66 (gid := gid) (Stop := Stop) (b₀ := b₀) (a₀ := a₀) (ops₀ := ops₀) (i₀ := i₀) (rest₀ := rest₀) (k₀ := k₀) (cs := cs) K J hB hb hk0 (by omega) hvb hT'
  simp only [Try.ntmps66, List.size_toArray, List.length_cons, List.length_nil, Nat.reduceAdd, Nat.reduceSub, Array.replicate_succ, Array.replicate_zero, List.push_toArray, List.append_toArray, List.nil_append, List.cons_append]
  exact this
set_option maxRecDepth 100000 in
theorem ok45 {p : Option Addr} {ch : List Int} (hq : wv.cell? qb = some (.slice p ch.length cap)) (hc : ch.length ≤ 1000) (hI : Ins wv p ch) (n : Nat) : RuleOk wv (.func (.func 45) #[] #[.pointer (some qb)]) n (dtR ch) := by
  refine ⟨45, #[.pointer (some qb)], Try.f45, Try.f45.body.getD .skip, rfl, Try.func45, nm45, rfl, fun Y F Kw gid Stop B vs j b₀ a₀ ops₀ i₀ rest₀ k₀ cs K hL hB hb hk0 hl hvb hlt hT' => ?_⟩
  have := rule45 (gid := gid) (Stop := Stop) (b₀ := b₀) (a₀ := a₀) (ops₀ := ops₀) (i₀ := i₀) (rest₀ := rest₀) (k₀ := k₀) (cs := cs) K (fun w h => (hL.cell hq).1 w h) (.inr (hL.cell hq).2) (rdl_low hL hI) hc hB hb hk0 (by omega) hT'
  simp only [Try.ntmps45, List.size_toArray, List.length_cons, List.length_nil, Nat.reduceAdd, Nat.reduceSub, Array.replicate_succ, Array.replicate_zero, List.push_toArray, List.append_toArray, List.nil_append, List.cons_append]
  exact this
end
end Go.Proofs.Ytpmmimcafkillaa.Tr

set_option linter.unusedVariables false
set_option linter.unusedSimpArgs false
namespace Go.Proofs.Ytpmmimcafkillaa.Tr
open Go Go.Conc Go.ConcN Go.RowKit Go.Conc.Lib Go.ConcR.Gen Go.ConcM
open Go.ConcR (KK wgBlock WgAt stA smA rd wr mk DC0)
open Go.Proofs.Ytpmmimcafkillaa.Mx
open Go.Proofs.Ytpmmimcafkillaa.Mx (Mu St)
open Go.Proofs.Ytpmmimcafkillaa.Rs (Rule outOf out_at out_len plc plc_need rnds round_at round_len ri_rnds)
open Go.Proofs.Ytpmmimcafkillaa (Tv Tks Ins jobOk job_tok TOk)
/-- what the starter knows in a round -/
structure KnA (Y : Lay) (W v : World) : Prop where
  low : ∀ b, b < Y.N → b ≠ Y.Lg → b ≠ Y.Wg → b ≠ Y.Mp → v.heap[b]? = W.heap[b]?
  size : Y.N ≤ v.heap.size
  live : Live Y 92 99 v
  tape : v.tape = W.tape
  output : v.output = W.output
  os : Later W.os v.os
theorem knA (Y : Lay) (W : World) : KnL Y 92 99 (fun _ => False) (KnA Y W) where
  rl := fun h r => ⟨fun b h1 h2 h3 h4 => (r.low b h1 h2 h3 h4).trans (h.low b h1 h2 h3 h4), Nat.le_trans h.size r.size, r.live h.live, r.tape.trans h.tape, r.output.trans h.output, h.os.trans r.os⟩
  live := fun h => h.live
  low := fun h => ⟨h.size, fun f h => h.elim⟩
/-- what the map holds in round p, behind those of log -/
structure HeldF (Mp : Nat) (ts : List Tv) (rs : List Int) (p : Nat) (l : List Int) (log : List Nat) (lm : List (Int × Int)) : Prop where
  has : ∀ (n : Nat) (x : Int), (plc ts n < p ∨ ∃ k ∈ log, l[k]? = some (n : Int)) → rs[n]? = some x → look lm n = some x
  no : ∀ n : Nat, ¬ (plc ts n < p ∨ ∃ k ∈ log, l[k]? = some (n : Int)) → look lm n = none
def HeldA (Mp : Nat) (ts : List Tv) (rs : List Int) (p : Nat) (l : List Int) (log : List Nat) (v : World) : Prop := ∃ lm, MpAt Mp v lm ∧ HeldF Mp ts rs p l log lm
theorem heldA_blk {Mp : Nat} {ts : List Tv} {rs : List Int} {p : Nat} {l : List Int} : ∀ log (v v' : World), v'.heap[Mp]? = v.heap[Mp]? → HeldA Mp ts rs p l log v → HeldA Mp ts rs p l log v' := fun log v v' h ⟨lm, ⟨es, c, h1, h2⟩, h3⟩ => ⟨lm, ⟨es, c, h.trans h1, h2⟩, h3⟩
/-- an ordinary block of before -/
def Nrm (Y : Lay) (b : Nat) : Prop := b < Y.N ∧ ¬ Y.S b ∧ b ≠ Y.Lg ∧ b ≠ Y.Wg ∧ b ≠ Y.Mp
theorem Nrm.ro {Y : Lay} {ad : Addr} (h : Nrm Y ad.block) : Y.Ro (.cell ad) := ⟨ad, rfl, .inl h⟩
theorem Nrm.cell {Y : Lay} {W v : World} {ad : Addr} {x : Value} (h : Nrm Y ad.block) (hc : W.cell? ad = some x) (hv : KnA Y W v) : v.cell? ad = some x := by
  have := hv.low _ h.1 h.2.2.1 h.2.2.2.1 h.2.2.2.2
  unfold World.cell? at hc ⊢
  rw [this]
  exact hc
theorem upA {Mp : Nat} {ts : List Tv} {rs : List Int} {p k j : Nat} {l : List Int} {l0 : List Nat} {w : World} {val : Int} (h : HeldA Mp ts rs p l l0 w) (hk : l[k]? = some (j : Int)) (hp : ¬ plc ts j < p) (hv : rs[j]? = some val) :
    ∃ ob, UpB Try.prog Mp (j : Int) val ob w ∧ HeldA Mp ts rs p l (l0 ++ [k]) { w with heap := w.heap.setIfInBounds Mp ob } := by
  obtain ⟨lm, hm, hh⟩ := h
  by_cases hin : ∃ k' ∈ l0, l[k']? = some (j : Int)
  · obtain ⟨ob, h1, h2, h3⟩ := run_updateE (P := Try.prog) u79 u2 hm (hh.has j val (.inr hin) hv)
    refine ⟨ob, ⟨h1, h3⟩, lm, h2, ⟨fun n x hn hx => hh.has n x ?_ hx, fun n hn => hh.no n fun hc => hn (hc.imp_right fun ⟨k', h4, h5⟩ => ⟨k', List.mem_append_left _ h4, h5⟩)⟩⟩
    rcases hn with hn | ⟨k', h4, h5⟩
    · exact .inl hn
    · rcases List.mem_append.1 h4 with h4 | h4
      · exact .inr ⟨k', h4, h5⟩
      · simp at h4
        subst h4
        rw [hk] at h5
        have : j = n := by have := Option.some.inj h5; omega
        subst this
        exact .inr hin
  · have hno := hh.no j (fun hc => hc.elim hp hin)
    obtain ⟨ob, h1, h2, h3⟩ := run_updateI (P := Try.prog) (v := val) u79 u2 hm hno
    refine ⟨ob, ⟨h1, h3⟩, _, h2, ⟨fun n x hn hx => ?_, fun n hn => ?_⟩⟩
    · rw [look_app _ _ _ _ hno]
      by_cases e : (n : Int) = (j : Int)
      · have : n = j := by omega
        subst this
        rw [if_pos rfl, ← hv, hx]
      · rw [if_neg e]
        refine hh.has n x ?_ hx
        rcases hn with hn | ⟨k', h4, h5⟩
        · exact .inl hn
        · rcases List.mem_append.1 h4 with h4 | h4
          · exact .inr ⟨k', h4, h5⟩
          · simp at h4
            subst h4
            rw [hk] at h5
            exact absurd (Option.some.inj h5).symm e
    · rw [look_app _ _ _ _ hno]
      have hnl : ¬ (plc ts n < p ∨ ∃ k ∈ l0, l[k]? = some (n : Int)) := fun hc => hn (hc.imp_right fun ⟨k', h4, h5⟩ => ⟨k', List.mem_append_left _ h4, h5⟩)
      rw [if_neg (fun e => hn (.inr ⟨k, by simp, by rw [hk, e]⟩))]
      exact hh.no n hnl
theorem goes_callVE {main : Bool} {b : Frame} {a : Act} {kk : List Item} {cs : List Frame} {w : World} {ops : Array Oper} {i : Nat} {rest : List Nat} {o : Oper} {K : Goroutine → World → Array Event → Prop} {f : FuncId} {fn : Func} {c : Code} {x : Operand} {caps vs : Array Value} {args : Array Operand} {ats : Array TypeId}
    (ho : ops[i]? = some o) (hw : Region.wanted o (yielded ops a.tmps) = true) (hk : b.kind ≠ .early) (hop : o.op = .call { callee := .value x, args, argTypes := ats }) (hx : a.eval x = .func (.func f) #[] caps) (hargs : args.map a.eval = vs)
    (hf : Try.prog.funcs[f]? = some fn) (hname : (fn.name == "runtime.NumGoroutine") = false) (hb : fn.body = some c)
    (h : K (G ((base f).at { tmps := (vs ++ caps) ++ Array.replicate (fn.ntmps - (vs ++ caps).size) undef, defers := [] } [.code c]) (b.at a (.inRegion ops (i :: rest) :: kk) :: cs)) w #[]) :
    (stepG Try.prog main (G (b.at a (.inRegion ops (i :: rest) :: kk)) cs) w).goes K := by
  subst hargs
  exact goes_callV ho hw hk hop hx hf hname hb h
section
variable {Y : Lay} {W wv : World} {ts : List Tv} {f : Rule} {p : Nat} {l : List Int} {bk rb jb : Addr} {rule : Value} {a : Option Addr} {cap : Nat}
set_option maxRecDepth 100000 in
set_option maxHeartbeats 2000000 in
/-- ████ A WORKER OF A ROUND ████ -/
theorem worker (hj : jobOk ts = true) (hl : (rnds ts)[p]? = some l) (hbk : W.cell? bk = some (.pointer (some ⟨Y.Lg, 0, none⟩))) (nbk : Nrm Y bk.block) (hrb : W.cell? rb = some rule) (nrb : Nrm Y rb.block) (hjb : W.cell? jb = some (.slice a ts.length cap)) (njb : Nrm Y jb.block)
    (hL : LowK Y wv (KnA Y W)) (hR : RuleOk wv rule ts.length f) (hT : Tks wv a ts) (hbd : ∀ x ∈ outOf f ts, 0 ≤ x ∧ x < 1000000007) :
    ∀ (k : Nat) (num : Int), l[k]? = some num → ∀ B, Y.N ≤ B → ∀ w, (KnA Y W w ∧ w.heap[B]? = some (.cells #[.int .i64 num] 2 (0, 0))) → Works Try.prog Y 92 99 (HeldA Y.Mp ts (outOf f ts) p l) k (addB (fun _ => False) true B) (born Try.prog (call59 Y bk ⟨B, 0, none⟩ rb jb)) w := by
  intro k num hk B hB w hw
  obtain ⟨j, rfl, hjn, hjp⟩ := round_at hj hl hk
  obtain ⟨t, hts⟩ : ∃ t, ts[j]? = some t := ⟨_, List.getElem?_eq_getElem hjn⟩
  have hok := job_tok hj hts
  have hval := out_at (f := f) hj hts
  have hneed : ∀ x ∈ t.2.2.1, ∃ n : Nat, x = n ∧ n < ts.length ∧ plc ts n < p := fun x hx => by
    have h1 := hok.need x hx
    have h2 := plc_need hj hts hx
    exact ⟨x.toNat, by omega, by omega, by omega⟩
  have hvs : ∀ (i : Nat) (n v : Int), t.2.2.1[i]? = some n → (Rs.ask (outOf f ts) t)[i]? = some v → ∃ m : Nat, n = m ∧ plc ts m < p ∧ (outOf f ts)[m]? = some v := fun i n v hn hv => by
    obtain ⟨m, rfl, hm, hmp⟩ := hneed n (List.mem_of_getElem? hn)
    refine ⟨m, rfl, hmp, ?_⟩
    unfold Rs.ask at hv
    rw [List.getElem?_map, hn, Option.map_some] at hv
    have e := Option.some.inj hv
    rw [Int.toNat_natCast, List.getD_eq_getElem?_getD] at e
    have hlt : m < (outOf f ts).length := by rw [out_len]; exact hm
    rw [List.getElem?_eq_getElem hlt, Option.getD_some] at e
    rw [List.getElem?_eq_getElem hlt, e]
  have hvb : ∀ v ∈ Rs.ask (outOf f ts) t, 0 ≤ v ∧ v < 1000000007 := fun v hv => by
    obtain ⟨i, hi⟩ := List.mem_iff_getElem?.1 hv
    have hil : i < t.2.2.1.length := by have := (List.getElem?_eq_some_iff.1 hi).1; simpa [Rs.ask] using this
    obtain ⟨m, _, _, h3⟩ := hvs i _ v (List.getElem?_eq_getElem hil) hi
    exact hbd v (List.mem_of_getElem? h3)
  obtain ⟨b, o, pn, c, rfl, h1, c0, c1, c2, c3, hI, h4⟩ := hT j t hts
  obtain ⟨g, caps, fn, code, rfl, hfn, hname, hbody, hrun⟩ := hR
  have K := (knA Y W).ext (B := B) (ob := .cells #[.int .i64 (j : Int)] 2 (0, 0)) hB
  have hL' : LowK Y wv (fun v => KnA Y W v ∧ v.heap[B]? = some (.cells #[.int .i64 (j : Int)] 2 (0, 0))) := hL.mono fun v h => h.1
  have C2 := hL'.cell c2
  have hlen : (Rs.ask (outOf f ts) t).length = t.2.2.1.length := by simp [Rs.ask]
  refine workGo (vs := Rs.ask (outOf f ts) t) (ns := t.2.2.1) (j := j) (ja := ⟨b, o, none⟩) (n := ts.length) (cap0 := cap) (bs := pn) (cap := c) (val := f j (Rs.ask (outOf f ts) t)) (rule := .func (.func g) #[] caps) K (heldA_blk) ⟨fun w h => nbk.cell hbk h.1, .inr nbk.ro, fun w h => by simp [World.cell?, h.2], .inl (.inr ⟨rfl, rfl⟩), fun w h => nrb.cell hrb h.1, .inr nrb.ro, fun w h => njb.cell hjb h.1, .inr njb.ro, fun w h => ?_, .inr ?_, hjn⟩ (by have := hok.len; omega) hlen (fun w h i n hn => ?_) (fun l0 w h => ?_) (fun l0 w h => ?_) ?_ w hw
  · rw [addr_add, addr_add]; exact C2.1 w h
  · rw [addr_add, addr_add]; exact C2.2
  · obtain ⟨b', o', rfl, _, h5⟩ := hI i n hn
    exact ⟨_, rfl, by rw [addr_add]; exact (hL'.cell h5).1 w h, by rw [addr_add]; exact (hL'.cell h5).2⟩
  · obtain ⟨lm, hm, hh⟩ := h.held
    refine ⟨lm, hm, fun i n v hn hv => ?_⟩
    obtain ⟨m, rfl, hmp, hx⟩ := hvs i n v hn hv
    exact hh.has m v (.inl hmp) hx
  · exact upA h.held hk (by omega) hval
  · intro F' B' hs hB' s5 s6 s7 s8 s9 s10 s11 s12 s13 s14 s15 s16 s17 rest d l0 hT'
    have K' := K.kb (B := B') (ob := (.cells ((Rs.ask (outOf f ts) t).map (Value.int .i64)).toArray 2 (0, 0))) hs hB'
    obtain ⟨m, hm⟩ := hrun Y F' _ (Y.b + 1 + k) (AtW Try.prog Y 92 99 (HeldA Y.Mp ts (outOf f ts) p l) d k .af F' l0) B' (Rs.ask (outOf f ts) t) j (baseD 59) ⟨#[.pointer (some ⟨Y.Wg, 0, none⟩), .pointer (some bk), .pointer (some ⟨B, 0, none⟩), .pointer (some rb), .pointer (some jb), s5, s6, .func (.func g) #[] caps, .int .i64 (j : Int), s9, s10, s11, s12, s13, s14, .slice (some ⟨B', 0, none⟩) t.2.2.1.length t.2.2.1.length, s16, s17], [dcall 60 #[.pointer (some ⟨Y.Wg, 0, none⟩)]]⟩ ops59 11 rest [] [bot59] K' (hL'.mono fun v h => h.kn) hB' (fun w h => h.blk) (by k_ne) (by have := hok.len; omega) hvb hjn hT'
    refine ⟨m + 1, fun w hF => Goes.step rfl fun w₁ h₁ => ?_⟩
    replace hF := K'.rl hF h₁
    refine goes_callVE rfl rfl (by k_ne) rfl rfl (vs := #[.int .i64 (j : Int), .slice (some ⟨B', 0, none⟩) (Rs.ask (outOf f ts) t).length (Rs.ask (outOf f ts) t).length]) ?_ hfn hname hbody ⟨.idle _, hm _ hF⟩
    rw [hlen]
    simp [Act.eval]
end
end Go.Proofs.Ytpmmimcafkillaa.Tr
