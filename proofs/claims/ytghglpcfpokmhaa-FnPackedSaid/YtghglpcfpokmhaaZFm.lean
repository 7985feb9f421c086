/-
  The starter ahead of its first worker: what is held of it at each step.
  digestsOf, beside leavers: from its entry to the head of the loop that starts the workers.
  digestsOf, beside leavers: the digests of all bodies, in a new block; what lay there before stands.
-/
import Derived.Test.YtghglpcfpokmhaaZFg
import Derived.Test.YtghglpcfpokmhaaZFk
set_option linter.unusedVariables false
set_option linter.unusedSimpArgs false
namespace Go.Proofs.Ytghglpcfpokmhaa.Wk
open Go Go.Conc Go.ConcN Go.RowKit Go.Conc.Lib Go.ConcR.Gen Go.ConcN.Gen
open Go.ConcR (KK wgBlock WgAt stA smA rd wr mk Payload Aside2 DC0 ofEvent_cell)
open Go.Proofs.Ytghglpcfpokmhaa.Ct (SkOk EvsC EvG evG_rd evG_wr evG_disable evG_enable evG_acq)
theorem goes_inv {P : Program} {R : World → World → Prop} {D : World → World → Array Event → Prop} {Stop : Goroutine → World → Prop} {m : Nat} {g : Goroutine} {w : World} (hR : R w w) (h : Goes P true R D Stop m g w) :
    Stop g w ∨ ∃ g' w' es, stepG P true g w = .go g' w' es ∧ D w w' es ∧ ∃ m', Goes P true R D Stop m' g' w' := by
  cases m with
  | zero => exact .inl (h w hR)
  | succ m =>
    rcases h with h | ⟨_, h⟩
    · exact .inl (h w hR)
    · right
      have := h w hR
      revert this
      cases e : stepG P true g w <;> simp only [GStep.goes, false_imp_iff]
      exact fun ⟨h1, h2⟩ => ⟨_, _, _, rfl, h1, m, h2⟩
section
variable {N : Nat} {S : Nat → Prop} {W : World} {n : Nat} {zs : List El} {O : Nat → Loc → Prop} {cs : List Frame} {w w₁ : World}
theorem wg_low {st sm : Nat} {es : Array Event} {k : Nat} {Rw : Nat → Loc → Prop} (h : WgAt 70 (N + 2) w st sm) (d : DP (N + 2) O Rw k (N + 3) w w₁ es) : WgAt 70 (N + 2) w₁ st sm := h.of_block (d.1 _ (by omega))
theorem full_low {vals : List Value} {es : Array Event} {k : Nat} {Rw : Nat → Loc → Prop} (h : Full N vals w) (d : DP (N + 2) O Rw k (N + 3) w w₁ es) : Full N vals w₁ := (d.1 N (by omega)).trans h

section
variable (N n zs O)
abbrev gA := Goes Try.prog true (RC 70 (N + 2) (N + 2)) (DP (N + 2) O RF 1 (N + 3))
abbrev aKd := AtKdS Try.prog 70 (N + 2) (N + 2) n O RF (fun _ => N + 3) (val zs) 1 fun _ _ => True
abbrev aA1 := AtA1 Try.prog 70 (N + 2) (N + 2) n O RF (fun _ => N + 3) (val zs) 1 fun _ _ => True
abbrev aKe := AtKeS Try.prog 70 (N + 2) (N + 2) n O RF (fun _ => N + 3) (val zs) 1 fun _ _ => True
abbrev aGo := AtGoS Try.prog 70 (N + 2) (N + 2) n O RF (fun _ => N + 3) (val zs) 1 fun _ _ => True
/-- where there is a worker to come -/
def SkA (g : Goroutine) (w : World) : Prop :=
  ((∃ m, gA N O (aKd N n zs O) m g w) ∧ WgAt 70 (N + 2) w 0 0) ∨ ((∃ m, gA N O (aA1 N n zs O) m g w) ∧ WgAt 70 (N + 2) w 0 0) ∨ (∃ m, gA N O (aKe N n zs O) m g w) ∨ ∃ m, gA N O (aGo N n zs O) m g w
end
theorem wgAt_at {st sm : Nat} (h : WgAt 70 (N + 2) w st sm) (d : Nat) : WgAt 70 (N + 2) (w.at d) st sm := h
theorem skA : SkOk Try.prog (N + 2) O RF (SkA N n zs O) := by
  have tr : ∀ a b c : World, RC 70 (N + 2) (N + 2) a b → RC 70 (N + 2) (N + 2) b c → RC 70 (N + 2) (N + 2) a c := fun _ _ _ h1 h2 => h1.trans h2
  refine ⟨fun a w d h => ?_, fun a w h hr => ?_⟩
  · rcases h with ⟨⟨m, h⟩, hw⟩ | ⟨⟨m, h⟩, hw⟩ | ⟨m, h⟩ | ⟨m, h⟩
    · exact .inl ⟨⟨m, h.rely tr (RC.at w d)⟩, hw⟩
    · exact .inr (.inl ⟨⟨m, h.rely tr (RC.at w d)⟩, hw⟩)
    · exact .inr (.inr (.inl ⟨m, h.rely tr (RC.at w d)⟩))
    · exact .inr (.inr (.inr ⟨m, h.rely tr (RC.at w d)⟩))
  · rcases h with ⟨⟨m, h⟩, hw⟩ | ⟨⟨m, h⟩, hw⟩ | ⟨m, h⟩ | ⟨m, h⟩
    · rcases goes_inv (RC.refl w) h with ⟨_, g', e, m', h'⟩ | ⟨g', w', es, e, hd, h'⟩
      · exact .inl ⟨_, _, _, e, .inl (by simp [evG_disable]), .inr (.inl ⟨⟨m', h'⟩, hw⟩)⟩
      · exact .inl ⟨_, _, _, e, .inr hd.2, .inl ⟨h', wg_low hw hd⟩⟩
    · rcases goes_inv (RC.refl w) h with ⟨_, h1⟩ | ⟨g', w', es, e, hd, h'⟩
      · obtain ⟨g', e, m', h'⟩ := h1 0 (by omega) (by simpa using hw)
        exact .inl ⟨_, _, _, e, .inl (by simp [evG_rd, evG_wr]), .inr (.inr (.inl ⟨m', h'⟩))⟩
      · exact .inl ⟨_, _, _, e, .inr hd.2, .inr (.inl ⟨h', wg_low hw hd⟩)⟩
    · rcases goes_inv (RC.refl w) h with ⟨_, g', e, m', h'⟩ | ⟨g', w', es, e, hd, h'⟩
      · exact .inl ⟨_, _, _, e, .inl (by simp [evG_enable]), .inr (.inr (.inr ⟨m', h'⟩))⟩
      · exact .inl ⟨_, _, _, e, .inr hd.2, .inr (.inr (.inl h'))⟩
    · rcases goes_inv (RC.refl w) h with ⟨_, g', c, e, _⟩ | ⟨g', w', es, e, hd, h'⟩
      · exact .inr (.inl ⟨_, _, _, e⟩)
      · exact .inl ⟨_, _, _, e, .inr hd.2, .inr (.inr (.inr h'))⟩

section
variable (N W O)
abbrev gW := Goes Try.prog true (RC 70 (N + 2) N) (DP (N + 2) O RF 1 (N + 3))
abbrev tr1 : Value → World → Prop := fun _ _ => True
abbrev wKd := AtKd Try.prog 70 (N + 2) N 1 O RF (N + 3) (AnW N W 0 [])
abbrev wW1 := AtW1 Try.prog 70 (N + 2) N 1 O RF (N + 3) [] (AnW N W 0 []) tr1
abbrev wKe := AtKe Try.prog 70 (N + 2) N 1 O RF (N + 3) [] tr1
abbrev wAq := AtAcq Try.prog 70 (N + 2) N 1 O RF (N + 3) [] tr1
abbrev wRt := AtRet Try.prog (N + 2) N 1 O RF [] tr1
/-- where there is none -/
def SkW (g : Goroutine) (w : World) : Prop := (Full N [] w ∧ WgAt 70 (N + 2) w 0 0) ∧
  ((∃ m, gW N O (wKd N W O) m g w) ∨ (∃ m, gW N O (AnW N W 0 []) m g w) ∨ (∃ m, gW N O (wW1 N W O) m g w) ∨ (∃ m, gW N O (wKe N O) m g w) ∨ (∃ m, gW N O (wAq N O) m g w) ∨ ∃ m, gW N O (wRt N O) m g w)
end
theorem skW (hS : ∀ b, S b → b < N) (hf : Fm N S O) : SkOk Try.prog (N + 2) O RF (SkW N W O) := by
  have tr : ∀ a b c : World, RC 70 (N + 2) N a b → RC 70 (N + 2) N b c → RC 70 (N + 2) N a c := fun _ _ _ h1 h2 => h1.trans h2
  have kp : ∀ {w w' : World} {es : Array Event}, (Full N [] w ∧ WgAt 70 (N + 2) w 0 0) → DP (N + 2) O RF 1 (N + 3) w w' es → (Full N [] w' ∧ WgAt 70 (N + 2) w' 0 0) := fun h hd => ⟨full_low h.1 hd, wg_low h.2 hd⟩
  have one : ∀ a w, (Full N [] w ∧ WgAt 70 (N + 2) w 0 0) → (∃ m, gW N O (wW1 N W O) m a w) → (∃ a' w' es, stepG Try.prog true a w = .go a' w' es ∧ EvsC (N + 2) O RF 1 es ∧ SkW N W O a' w') := fun a w hk ⟨m, h⟩ => by
    rcases goes_inv (RC.refl w) h with ⟨_, h1⟩ | ⟨g', w', es, e, hd, h'⟩
    · obtain ⟨g', e, h2, _⟩ := h1 0 (by omega) (by simpa using hk.2)
      obtain ⟨m', h'⟩ := h2 rfl
      exact ⟨_, _, _, e, .inl (by simp [evG_rd]), hk, .inr (.inr (.inr (.inl ⟨m', h'⟩)))⟩
    · exact ⟨_, _, _, e, .inr hd.2, kp hk hd, .inr (.inr (.inl h'))⟩
  refine ⟨fun a w d ⟨hk, h⟩ => ⟨hk, ?_⟩, fun a w ⟨hk, h⟩ hr => ?_⟩
  · rcases h with ⟨m, h⟩ | ⟨m, h⟩ | ⟨m, h⟩ | ⟨m, h⟩ | ⟨m, h⟩ | ⟨m, h⟩
    · exact .inl ⟨m, h.rely tr (RC.at w d)⟩
    · exact .inr (.inl ⟨m, h.rely tr (RC.at w d)⟩)
    · exact .inr (.inr (.inl ⟨m, h.rely tr (RC.at w d)⟩))
    · exact .inr (.inr (.inr (.inl ⟨m, h.rely tr (RC.at w d)⟩)))
    · exact .inr (.inr (.inr (.inr (.inl ⟨m, h.rely tr (RC.at w d)⟩))))
    · exact .inr (.inr (.inr (.inr (.inr ⟨m, h.rely tr (RC.at w d)⟩))))
  · rcases h with ⟨m, h⟩ | ⟨m, h⟩ | h | ⟨m, h⟩ | ⟨m, h⟩ | ⟨m, h⟩
    · rcases goes_inv (RC.refl w) h with ⟨_, g', e, m', h'⟩ | ⟨g', w', es, e, hd, h'⟩
      · exact .inl ⟨_, _, _, e, .inl (by simp [evG_disable]), hk, .inr (.inl ⟨m', h'⟩)⟩
      · exact .inl ⟨_, _, _, e, .inr hd.2, kp hk hd, .inl h'⟩
    · rcases goes_inv (RC.refl w) h with h1 | ⟨g', w', es, e, hd, h'⟩
      · exact .inl (one a w hk (anW_round hS hf (ret0 fun _ _ _ => trivial) a w h1))
      · exact .inl ⟨_, _, _, e, .inr hd.2, kp hk hd, .inr (.inl h')⟩
    · exact .inl (one a w hk h)
    · rcases goes_inv (RC.refl w) h with ⟨_, g', e, m', h'⟩ | ⟨g', w', es, e, hd, h'⟩
      · exact .inl ⟨_, _, _, e, .inl (by simp [evG_enable]), hk, .inr (.inr (.inr (.inr (.inl ⟨m', h'⟩))))⟩
      · exact .inl ⟨_, _, _, e, .inr hd.2, kp hk hd, .inr (.inr (.inr (.inl h')))⟩
    · rcases goes_inv (RC.refl w) h with ⟨_, g', e, m', h'⟩ | ⟨g', w', es, e, hd, h'⟩
      · exact .inl ⟨_, _, _, e, .inl (by simp [evG_acq]), hk, .inr (.inr (.inr (.inr (.inr ⟨m', h'⟩))))⟩
      · exact .inl ⟨_, _, _, e, .inr hd.2, kp hk hd, .inr (.inr (.inr (.inr (.inl h'))))⟩
    · rcases goes_inv (RC.refl w) h with ⟨_, h1⟩ | ⟨g', w', es, e, hd, h'⟩
      · obtain ⟨v, es, e, he, _⟩ := h1 hk.1
        exact .inr (.inr ⟨_, _, _, e, .inr he⟩)
      · exact .inl ⟨_, _, _, e, .inr hd.2, kp hk hd, .inr (.inr (.inr (.inr (.inr h'))))⟩

set_option maxRecDepth 100000 in
set_option maxHeartbeats 8000000 in
theorem firstWait {a0 : Option Addr} {cap : Nat} (g : Goroutine) (w : World) (hA0 : AnchS N 0 cs a0 cap 0 g) (hF : CI N W 0 (N + 3 + 2 * 0) 0 none none w ∧ WgLive 70 (N + 2) w) : ∃ m, gW N O (AtKd Try.prog 70 (N + 2) N 1 O RF (N + 3) (AnW N W 0 cs)) m g w := by
  refine ⟨9 + 1 + 3, ?_⟩
  obtain ⟨T, rfl, hT, t3, t4, t10, t11, t12⟩ := hA0
  obtain ⟨v0, v1, v2, v3, v4, v5, v6, v7, v8, v9, v10, v11, v12, v13, v14, v15, v16, v17, v18, v19, v20, v21, v22, rfl⟩ := array23 T hT
  simp only [List.getElem?_toArray, List.getElem?_cons_succ, List.getElem?_cons_zero, Option.some.injEq] at t3 t4 t10 t11 t12
  subst t3 t4 t10 t11 t12
  have hA := fun (a₀ : Act) (ops₀ : Array Oper) (i₀ : Nat) (rest₀ : List Nat) (k₀ : List Item) => waitStartN (L := link) (P := Try.prog) (Wg := N + 2) (C := N) (n := 1) (Low := N + 3) (Own := O) (Rd := RF) (F := FE N W 0) (b₀ := base 17) (a₀ := a₀) (ops₀ := ops₀) (i₀ := i₀) (rest₀ := rest₀) (k₀ := k₀) (cs := cs) wgLib fe2
  simp only [L66, R66, body66, body_wait, Try.f17, waitFn, Option.getD_some] at hA ⊢
  have hnl : ¬ (((0 : Nat) : Int) < ((0 : Nat) : Int)) := by omega
  u_c stepG_seq ci_rely hF
  u_reg ci_rely hF
  u_op ci_rely hF
  u_c stepG_region_end ci_rely hF
  u_c stepG_seq ci_rely hF
  u_cond false ci_rely hF
  u_exit ci_rely hF
  u_c stepG_seq ci_rely hF
  u_reg ci_rely hF
  u_in ci_rely hF
  refine goes_call rfl rfl (by decide) rfl Try.func34 (nm_wait link) rfl ⟨by u_nil, ?_⟩
  walk_nrmf Try.f34
  refine goes_mono (fun _ _ y => AtKd.mono (fun _ _ z => ⟨_, ?_, ?_, z⟩) y) (hA _ _ _ _ _ _ hF)
  · simp
  · simp
end
end Go.Proofs.Ytghglpcfpokmhaa.Wk

set_option linter.unusedVariables false
set_option linter.unusedSimpArgs false
namespace Go.Proofs.Ytghglpcfpokmhaa.Br
open Go Go.Conc
section
variable {P : Program} {Z : Sig} {Q : Goroutine → World → Prop}
theorem bts_ctl [Br.Thr] {S : Nat → Prop} {g g' : Goroutine} {w : World} (hrun : g.status = .running) (hs : ∀ v, stepG P true g v = .go g' v #[]) (h : BTS P Q S 0 g' w) : BTS P Q S 0 g w :=
  BTS.step hrun fun W hh => ⟨g', w, W, #[], hs W, hh, by simp, h⟩
theorem bts_cons [Br.Thr] {S : Nat → Prop} (hB : Bodied P Z.F) {b : Frame} {a : Act} {k : List Item} {cs : List Frame} {w : World} {ops : Array Oper} {i : Nat} {rest : List Nat} {o : Oper} (ho : ops[i]? = some o) (hw : Region.wanted o (yielded ops a.tmps) = true) (hok : okOp Z P [] o = true) (hk : b.kind ≠ .early)
    (h : ∀ d, ∀ K : Act → World → Prop, (∀ a' w', (∀ b, Pz w b → Pz w' b) → BTS P Q S 0 (G (b.at a' (.inRegion ops rest :: k)) cs) w' → K a' w') → uponK o a K ((execOp a.eval o).run P (w.at d))) : BTS P Q S 0 (G (b.at a (.inRegion ops (i :: rest) :: k)) cs) w := by
  refine BTS.step rfl fun W hh => ?_
  have hex := op_execOp hB (K := []) (ρ := a.eval) (fun f => rfl) (fun t ht => by cases ht) hok
  have hz := run_evs P hex.2.1 (w.at W.drawn) #[] (by simp)
  have hl := (run_left (S := S) hex.2.1 (w.at W.drawn) #[] (fun b hb => (hh.pz hb).em) (by simp)).evs
  have hs := hex.2.2 S (w.at W.drawn) W #[] hh.toHid
  have hu := h W.drawn (fun a' w' => (∀ b, Pz w b → Pz w' b) ∧ BTS P Q S 0 (G (b.at a' (.inRegion ops rest :: k)) cs) w') fun a' w' h1 h2 => ⟨h1, h2⟩
  rw [← Sem.runT_fst P _ _ #[]] at hu
  cases hx : (execOp a.eval o).runT P (w.at W.drawn) #[] with
  | mk r es =>
    rw [hx] at hz hl hs hu
    have hev : ∀ e ∈ seen P b.fn es, EvN S e := fun e he => evN_of (hz e (mem_seen he)) (hl e (mem_seen he))
    have hst : ∀ e ∈ seen P b.fn es, EvZ e := fun e he => hz e (mem_seen he)
    have nl : ∀ w', (∀ b, Pz w b → Pz w' b) → ¬ Lost S w' := fun w' hp ⟨x, h1, _, h3⟩ => h3 (hp x (hh.pz h1))
    have real : ∀ (W' : World) (n : Next), (execOp a.eval o).runT P W #[] = (.ok n W', es) → (execOp a.eval o).run P W = .ok n W' ∧ listed P b.fn a o W = seen P b.fn es := fun W' n e => by
      have h1 := Sem.runT_fst P (execOp a.eval o) W #[]
      rw [e] at h1
      refine ⟨h1.symm, ?_⟩
      unfold listed
      rw [Sem.runT_eq] at e
      rw [(Prod.mk.inj e).2]
    cases r with
    | ok n w' =>
      cases n with
      | value v =>
        obtain ⟨hp, hb⟩ : (∀ b, Pz w b → Pz w' b) ∧ BTS P Q S 0 (G (b.at (a.put o.dst v) (.inRegion ops rest :: k)) cs) w' := hu
        rcases hs with h1 | ⟨W', e, hh'⟩
        · exact absurd h1 (nl w' hp)
        · obtain ⟨r1, r2⟩ := real W' _ e
          refine ⟨_, w', W', _, stepG_value ho hw hk r1, Hd.of hh' hh.thr, ?_, ?_⟩
          · rw [r2]; exact hev
          · rw [r2, still_of hst]; exact hb
      | skip =>
        obtain ⟨hp, hb⟩ : (∀ b, Pz w b → Pz w' b) ∧ BTS P Q S 0 (G (b.at (a.put o.dst undef) (.inRegion ops rest :: k)) cs) w' := hu
        rcases hs with h1 | ⟨W', e, hh'⟩
        · exact absurd h1 (nl w' hp)
        · obtain ⟨r1, r2⟩ := real W' _ e
          refine ⟨_, w', W', _, stepG_none ho hw hk r1, Hd.of hh' hh.thr, ?_, ?_⟩
          · rw [r2]; exact hev
          · rw [r2, still_of hst]; exact hb
      | _ => exact hu.elim
    | halt x w' => exact hu.elim
theorem bts_at [Br.Thr] {S : Nat → Prop} {g : Goroutine} {w : World} {d : Nat} (h : BTS P Q S 0 g w) : BTS P Q S 0 g (w.at d) := fun W gs sl t q hh => h W gs sl t q ⟨hh.toHid, hh.thr⟩
end
end Go.Proofs.Ytghglpcfpokmhaa.Br
namespace Go.Proofs.Ytghglpcfpokmhaa.Wk
open Go Go.Conc Go.ConcN Go.RowKit Go.Conc.Lib Go.ConcR.Gen Go.ConcN.Gen
open Go.ConcR (KK wgBlock WgAt stA smA rd wr mk Payload Aside2 DC0 ofEvent_cell)
open Go.Proofs.Ytghglpcfpokmhaa.Br (BT BTS Hd Hid Pz Pst CallsB bts_ctl bts_cons bts_at)
theorem pz_alloc {w : World} (o : Obj) {b : Nat} (h : Pz w b) : Pz (w.alloc o) b := by
  obtain ⟨e, he⟩ := h
  exact ⟨e, (Below.heap_alloc _ _ _ (Array.getElem?_eq_some_iff.1 he).1).trans he⟩
theorem pz_set {w : World} {a : Addr} (v : Value) {b : Nat} (hb : a.block ≠ b) (h : Pz w b) : Pz (w.setCell a v) b := by
  obtain ⟨e, he⟩ := h
  exact ⟨e, ((aside_setCell w a v).block b (Ne.symm hb)).trans he⟩
theorem info2 : (Try.prog.info? 2).map (fun i => (i.zero, i.size, i.bytes)) = some (some (.int .i64 0), 1, 8) := by kernel_rfl
section
variable (W : World) (n : Nat)
/-- The world at the head of the loop: three new blocks. -/
def w3 : World := ((W.alloc (.cells (madeCells #[.int .i64 0] n) 2)).alloc (.cells #[.slice (some ⟨W.heap.size, 0, none⟩) n n] 31)).alloc (.cells #[.int .u64 0, .int .u32 0] 70)
end
section
variable {w : World} {a0 : Option Addr} {n cap : Nat} {Q : Goroutine → World → Prop} {cs : List Frame}
theorem enter66 : Frame.enter Try.prog 17 #[.slice a0 n cap] .normal = (base 17).at ⟨#[.slice a0 n cap, undef, undef, undef, undef, undef, undef, undef, undef, undef, undef, undef, undef, undef, undef, undef, undef, undef, undef, undef, undef, undef, undef], []⟩ [.code body66] := by
  simp [Frame.enter, Frame.at, Try.func17, base, body66, Try.f17]
set_option maxRecDepth 100000 in
set_option maxHeartbeats 4000000 in
theorem prologue [Br.Thr] {S : Nat → Prop} (hn : n ≤ 1073741824) (h : ∀ g, AnchS w.heap.size n cs a0 cap 0 g → BTS Try.prog Q S 0 g (w3 w n)) : BTS Try.prog Q S 0 (G (Frame.enter Try.prog 17 #[.slice a0 n cap] .normal) cs) w := by
  obtain ⟨i0, hi, hz0, hz1, hz2⟩ := info_parts info2
  have hmk := fun w => run_make (P := Try.prog) w 31 2 i0 (.int .i64 0) Try.underlying31 hi hz0 .i64 .i64 n n (by omega) (by omega) (by rw [hz2]; omega) (by omega)
  rw [enter66]
  simp only [body66, Try.f17, Option.getD_some]
  refine bts_ctl rfl (fun _ => stepG_seq) ?_
  refine bts_ctl rfl (fun _ => stepG_region) ?_
  simp only [List.size_toArray, List.length_cons, List.length_nil, Nat.reduceAdd, Nat.zero_add, List.range, List.range.loop]
  refine bts_cons zgOk.bodied rfl rfl (by decide) (by decide) (fun d K hK => ?_)
  go_simp
  refine hK _ _ (fun b hb => hb) (bts_at ?_)
  clear hK K
  refine bts_ctl rfl (fun _ => stepG_region_end) ?_
  refine bts_ctl rfl (fun _ => stepG_seq) ?_
  refine bts_ctl rfl (fun _ => stepG_region) ?_
  simp only [List.size_toArray, List.length_cons, List.length_nil, Nat.reduceAdd, Nat.zero_add, List.range, List.range.loop]
  refine bts_cons zgOk.bodied rfl rfl (by decide) (by decide) (fun d K hK => ?_)
  go_simp
  refine hK _ _ (fun b hb => hb) (bts_at ?_)
  clear hK K
  refine bts_cons zgOk.bodied rfl rfl (by decide) (by decide) (fun d K hK => ?_)
  go_simp
  refine hK _ _ (fun b hb => hb) (bts_at ?_)
  clear hK K
  refine bts_cons zgOk.bodied rfl rfl (by decide) (by decide) (fun d K hK => ?_)
  go_simp
  refine hK _ ((w.alloc (.cells (madeCells #[.int .i64 0] n) 2)).at d) (fun b hb => pz_alloc _ hb) (bts_at ?_)
  clear hK K hmk hi hz0 hz1 hz2
  have hsz : ∀ d, (w.at d).heap.size = w.heap.size := fun d => rfl
  simp only [hsz]
  clear hsz
  obtain ⟨wa, hwa⟩ : ∃ wa, w.alloc (.cells (madeCells #[.int .i64 0] n) 2) = wa := ⟨_, rfl⟩
  have sa : wa.heap.size = w.heap.size + 1 := by rw [← hwa]; simp
  rw [hwa]
  refine bts_cons zgOk.bodied rfl rfl (by decide) (by decide) (fun d K hK => ?_)
  go_simp
  refine hK _ ((wa.alloc (.cells #[.slice none 0 0] 31)).at d) (fun b hb => pz_alloc _ hb) (bts_at ?_)
  clear hK K
  have hsz : ∀ d, (wa.at d).heap.size = w.heap.size + 1 := fun d => sa
  simp only [hsz]
  clear hsz
  have hc : (wa.alloc (.cells #[.slice none 0 0] 31)).heap[w.heap.size + 1]? = some (.cells #[.slice none 0 0] 31) := by
    have := heap_alloc_new wa (.cells #[.slice none 0 0] 31)
    rwa [sa] at this
  have hset : (wa.alloc (.cells #[.slice none 0 0] 31)).setCell ⟨w.heap.size + 1, 0, none⟩ (.slice (some ⟨w.heap.size, 0, none⟩) n n) = wa.alloc (.cells #[.slice (some ⟨w.heap.size, 0, none⟩) n n] 31) := by
    rw [World.setCell_alloc_at _ _ _ _ _ sa.symm]
    rfl
  have hpz : ∀ b, Pz (wa.alloc (.cells #[.slice none 0 0] 31)) b → w.heap.size + 1 ≠ b := fun b ⟨e, he⟩ eq => by
    rw [← eq, hc] at he; cases he
  generalize wa.alloc (.cells #[.slice none 0 0] 31) = wb at *
  refine bts_cons zgOk.bodied rfl rfl (by decide) (by decide) (fun d K hK => ?_)
  have hu1 : (wb.at d).cell? ⟨w.heap.size + 1, 0, none⟩ = _ := (cell_of_one hc).1
  have hu2 : (wb.at d).frozen? ⟨w.heap.size + 1, 0, none⟩ = _ := (cell_of_one hc).2
  go_simp
  refine hK _ ((wb.setCell ⟨w.heap.size + 1, 0, none⟩ (.slice (some ⟨w.heap.size, 0, none⟩) n n)).at d) (fun b hb => pz_set _ (hpz b hb) hb) (bts_at ?_)
  clear hK K hu1 hu2 hpz hc
  rw [hset]
  clear hset wb
  obtain ⟨wc, hwc⟩ : ∃ wc, wa.alloc (.cells #[.slice (some ⟨w.heap.size, 0, none⟩) n n] 31) = wc := ⟨_, rfl⟩
  have sc : wc.heap.size = w.heap.size + 2 := by rw [← hwc]; simp [sa]
  rw [hwc]
  refine bts_ctl rfl (fun _ => stepG_region_end) ?_
  refine bts_ctl rfl (fun _ => stepG_seq) ?_
  refine bts_ctl rfl (fun _ => stepG_region) ?_
  simp only [List.size_toArray, List.length_cons, List.length_nil, Nat.reduceAdd, Nat.zero_add, List.range, List.range.loop]
  refine bts_cons zgOk.bodied rfl rfl (by decide) (by decide) (fun d K hK => ?_)
  go_simp
  refine hK _ _ (fun b hb => hb) (bts_at ?_)
  clear hK K
  refine bts_cons zgOk.bodied rfl rfl (by decide) (by decide) (fun d K hK => ?_)
  go_simp
  refine hK _ ((wc.alloc (.cells #[.int .u64 0, .int .u32 0] 70)).at d) (fun b hb => pz_alloc _ hb) (bts_at ?_)
  clear hK K
  have hsz : ∀ d, (wc.at d).heap.size = w.heap.size + 2 := fun d => sc
  simp only [hsz]
  clear hsz
  have hc : (wc.alloc (.cells #[.int .u64 0, .int .u32 0] 70)).heap[w.heap.size + 2]? = some (.cells #[.int .u64 0, .int .u32 0] 70) := by
    have := heap_alloc_new wc (.cells #[.int .u64 0, .int .u32 0] 70)
    rwa [sc] at this
  have hset : ((wc.alloc (.cells #[.int .u64 0, .int .u32 0] 70)).setCell ⟨w.heap.size + 2, 0, none⟩ (.int .u64 0)).setCell ⟨w.heap.size + 2, 1, none⟩ (.int .u32 0) = wc.alloc (.cells #[.int .u64 0, .int .u32 0] 70) := by
    rw [World.setCell_alloc_at _ _ _ _ _ sc.symm, World.setCell_alloc_at _ _ _ _ _ sc.symm]
    rfl
  have hpz : ∀ b, Pz (wc.alloc (.cells #[.int .u64 0, .int .u32 0] 70)) b → w.heap.size + 2 ≠ b := fun b ⟨e, he⟩ eq => by
    rw [← eq, hc] at he; cases he
  have hw3 := hide (show wc.alloc (.cells #[.int .u64 0, .int .u32 0] 70) = w3 w n by rw [← hwc, ← hwa]; rfl)
  clear hwc hwa sa sc
  generalize wc.alloc (.cells #[.int .u64 0, .int .u32 0] 70) = wd at *
  refine bts_cons zgOk.bodied rfl rfl (by decide) (by decide) (fun d K hK => ?_)
  have hu1 : (wd.at d).cell? ⟨w.heap.size + 2, 0, none⟩ = some (.int .u64 0) := by simp [World.cell?, World.at, hc]
  have hu2 : (wd.at d).frozen? ⟨w.heap.size + 2, 0, none⟩ = false := by simp [World.frozen?, World.at, hc]
  have hu3 : (wd.at d).cell? ⟨w.heap.size + 2, 1, none⟩ = some (.int .u32 0) := by simp [World.cell?, World.at, hc]
  have hu4 : (wd.at d).frozen? ⟨w.heap.size + 2, 1, none⟩ = false := by simp [World.frozen?, World.at, hc]
  have hb2 : ((wd.at d).setCell ⟨w.heap.size + 2, 0, none⟩ (.int .u64 0)).heap[w.heap.size + 2]? = some (.cells #[.int .u64 0, .int .u32 0] 70) := by
    rw [setCell_eq_setRow (wd.at d) (w.heap.size + 2) 0 #[.int .u64 0, .int .u32 0] 70 (0, 0) _ hc, setRow_heap (wd.at d) (w.heap.size + 2) _ _ 70 _ hc]
    rfl
  have hu5 : ((wd.at d).setCell ⟨w.heap.size + 2, 0, none⟩ (.int .u64 0)).cell? ⟨w.heap.size + 2, 1, none⟩ = some (.int .u32 0) := by simp [World.cell?, hb2]
  have hu6 : ((wd.at d).setCell ⟨w.heap.size + 2, 0, none⟩ (.int .u64 0)).frozen? ⟨w.heap.size + 2, 1, none⟩ = false := by simp [World.frozen?, hb2]
  go_simp
  have hfin : ((wd.at d).setCell ⟨w.heap.size + 2, 0, none⟩ (.int .u64 0)).setCell ⟨w.heap.size + 2, 1, none⟩ (.int .u32 0) = wd.at d := by
    show ((wd.setCell ⟨w.heap.size + 2, 0, none⟩ (.int .u64 0)).setCell ⟨w.heap.size + 2, 1, none⟩ (.int .u32 0)).at d = wd.at d
    rw [hset]
  rw [hfin]
  refine hK _ _ (fun b hb => hb) (bts_at ?_)
  clear hK K hu1 hu2 hu3 hu4 hu5 hu6 hb2 hfin hset hpz hc
  rw [unhide hw3]
  clear hw3 wd
  refine bts_ctl rfl (fun _ => stepG_region_end) ?_
  refine bts_ctl rfl (fun _ => stepG_seq) ?_
  refine bts_ctl rfl (fun _ => stepG_seq) ?_
  refine bts_ctl rfl (fun _ => stepG_region) ?_
  simp only [List.size_toArray, List.length_cons, List.length_nil, Nat.reduceAdd, Nat.zero_add, List.range, List.range.loop]
  refine bts_cons zgOk.bodied rfl rfl (by decide) (by decide) (fun d K hK => ?_)
  go_simp
  refine hK _ _ (fun b hb => hb) (bts_at ?_)
  clear hK K
  refine bts_cons zgOk.bodied rfl rfl (by decide) (by decide) (fun d K hK => ?_)
  go_simp
  refine hK _ _ (fun b hb => hb) (bts_at ?_)
  clear hK K
  refine bts_cons zgOk.bodied rfl rfl (by decide) (by decide) (fun d K hK => ?_)
  go_simp
  refine hK _ _ (fun b hb => hb) (bts_at ?_)
  clear hK K
  refine bts_ctl rfl (fun _ => stepG_region_end) ?_
  refine bts_ctl rfl (fun _ => stepG_block) ?_
  refine bts_ctl rfl (fun _ => stepG_loop) ?_
  exact h _ ⟨_, rfl, by simp, by simp, by simp, by simp, by simp, by simp⟩
end
end Go.Proofs.Ytghglpcfpokmhaa.Wk

set_option linter.unusedVariables false
set_option linter.unusedSimpArgs false
namespace Go.Proofs.Ytghglpcfpokmhaa.Wk
open Go Go.Conc Go.ConcN Go.RowKit Go.Conc.Lib
open Go.ConcR (KK wgBlock WgAt stA smA rd wr mk Payload Aside2 DC0 ofEvent_cell)
open Go.Proofs.Ytghglpcfpokmhaa.Br (BT BTS Hd Pz Pst CallsB Shn)
/-- All below N stands; nothing is said of tape and draws. -/
structure Bel (N : Nat) (a b : World) : Prop where
  os : b.os = a.os
  output : b.output = a.output
  size : a.heap.size ≤ b.heap.size
  block : ∀ k, k < N → b.heap[k]? = a.heap[k]?
/-- The bodies as the view has them. -/
structure BodiesV (w : World) (zs : List El) (a0 : Option Addr) : Prop where
  el : ∀ j e, zs[j]? = some e → ∃ b o, a0 = some ⟨b, o, none⟩ ∧ b < w.heap.size ∧ w.cell? ⟨b, o + j, none⟩ = some e.v
  body : ∀ e ∈ zs, Bys w e.p e.l ∧ Byt e.l ∧ e.l.length ≤ e.cap ∧ e.cap ≤ maxLen

section
open Classical
def emp : Obj → Obj
  | .cells _ e _ => .cells #[] e (0, 0)
  | o => o
/-- W seen with the blocks of S emptied. -/
noncomputable def vw (S : Nat → Prop) (W : World) : World := { W with heap := W.heap.mapIdx fun i o => if S i then emp o else o }
theorem vw_out {S : Nat → Prop} {W : World} {b : Nat} (h : ¬ S b) : (vw S W).heap[b]? = W.heap[b]? := by
  simp only [vw, Array.getElem?_mapIdx, h, if_false]
  cases W.heap[b]? <;> rfl
theorem vw_in {S : Nat → Prop} {W : World} {b : Nat} {c : Array Value} {e : TypeId} {f : Nat × Nat} (h : S b) (hw : W.heap[b]? = some (.cells c e f)) : (vw S W).heap[b]? = some (.cells #[] e (0, 0)) := by
  simp only [vw, Array.getElem?_mapIdx, h, if_true, hw]
  rfl
theorem vw_hd [Br.Thr] {S : Nat → Prop} {W : World} (h : ∀ b, S b → ∃ c e, W.heap[b]? = some (.cells c e (0, 0))) (ht : ∀ b, S b → Br.Thr.N ≤ b) : Hd S (vw S W) W := by
  refine ⟨⟨rfl, rfl, rfl, rfl, by simp [vw, World.at], fun b hb => (vw_out hb).symm, fun b hb => ?_⟩, ht⟩
  obtain ⟨c, e, hw⟩ := h b hb
  exact ⟨c, e, vw_in hb hw, hw⟩
theorem vw_size (S : Nat → Prop) (W : World) : (vw S W).heap.size = W.heap.size := by simp [vw]
end

section
variable {w : World} {n : Nat}
theorem w3_low {b : Nat} (h : b < w.heap.size) : (w3 w n).heap[b]? = w.heap[b]? := by
  unfold w3
  rw [Below.heap_alloc _ _ _ (by simp only [World.size_alloc]; omega), Below.heap_alloc _ _ _ (by simp only [World.size_alloc]; omega), Below.heap_alloc _ _ _ h]
theorem w3_0 : (w3 w n).heap[w.heap.size]? = some (.cells (madeCells #[.int .i64 0] n) 2) := by
  unfold w3
  rw [Below.heap_alloc _ _ _ (by simp only [World.size_alloc]; omega), Below.heap_alloc _ _ _ (by simp only [World.size_alloc]; omega)]
  exact heap_alloc_new w _
theorem w3_1 : (w3 w n).heap[w.heap.size + 1]? = some (.cells #[.slice (some ⟨w.heap.size, 0, none⟩) n n] 31) := by
  unfold w3
  rw [Below.heap_alloc _ _ _ (by simp only [World.size_alloc]; omega)]
  have := heap_alloc_new (w.alloc (.cells (madeCells #[.int .i64 0] n) 2)) (.cells #[.slice (some ⟨w.heap.size, 0, none⟩) n n] 31)
  simpa only [World.size_alloc] using this
theorem w3_2 : (w3 w n).heap[w.heap.size + 2]? = some (.cells #[.int .u64 0, .int .u32 0] 70) := by
  unfold w3
  have := heap_alloc_new ((w.alloc (.cells (madeCells #[.int .i64 0] n) 2)).alloc (.cells #[.slice (some ⟨w.heap.size, 0, none⟩) n n] 31)) (.cells #[.int .u64 0, .int .u32 0] 70)
  simpa only [World.size_alloc] using this
theorem w3_size : (w3 w n).heap.size = w.heap.size + 3 := by simp [w3]
end
theorem okF66 (T : Array Value) : Ct.OkF Try.prog Ct.FP ((base 17).at ⟨T, []⟩ [.code L66, .inLoop L66, .inBlock 0, .code R66]) := by
  have hL : Ct.okC Try.prog Ct.FP L66 := Ct.cOk_ok (by kernel_rfl)
  have hR : Ct.okC Try.prog Ct.FP R66 := Ct.cOk_ok (by kernel_rfl)
  refine ⟨rfl, rfl, show Ct.FS 17 = true from rfl, fun d hd => (by cases hd), fun x hx => ?_⟩
  simp only [Frame.at, List.mem_cons, List.not_mem_nil, or_false] at hx
  rcases hx with rfl | rfl | rfl | rfl
  · exact hL
  · exact hL
  · trivial
  · exact hR

theorem dig_B [Br.Thr] {w : World} {a0 : Option Addr} {zs : List El} {n cap : Nat} (hz : zs.length = n) (hn : n ≤ 1073741824) (hB : BodiesV w zs a0) (hg : Br.GC Try.prog w) (hTh : Br.Thr.N ≤ w.heap.size) :
    CallsB Try.prog 17 #[.slice a0 n cap] w fun v w' => v = .slice (some ⟨w.heap.size, 0, none⟩) n n ∧ w'.heap[w.heap.size]? = some (.cells (valsE zs n).toArray 2) ∧ Bel w.heap.size w w' := by
  intro c cs Q hk S W gs sl t q hh h0 hL hP
  have hS : ∀ b, S b → b < w.heap.size := fun b hb => hh.lt hb
  refine prologue (S := S) hn (fun g hA => ?_) W gs sl t q hh h0 hL hP
  clear hh h0 hL hP W gs sl t q
  refine BTS.trans ?_
  intro W gs sl t q hh h0 hL hP
  obtain ⟨N, hN⟩ : ∃ N, w.heap.size = N := ⟨_, rfl⟩
  have e0 := w3_0 (w := w) (n := n)
  have e1 := w3_1 (w := w) (n := n)
  have e2 := w3_2 (w := w) (n := n)
  have es := w3_size (w := w) (n := n)
  have el : ∀ b, b < w.heap.size → (w3 w n).heap[b]? = w.heap[b]? := fun b hb => w3_low hb
  have eb : ∀ b, ¬ S b → W.heap[b]? = (w3 w n).heap[b]? := fun b hb => hh.out b hb
  have ein : ∀ b, S b → ∃ c e, (w3 w n).heap[b]? = some (.cells #[] e (0, 0)) ∧ W.heap[b]? = some (.cells c e (0, 0)) := fun b hb => hh.inn b hb
  have esz : W.heap.size = (w3 w n).heap.size := hh.size
  have eos : W.os = (w3 w n).os := hh.os
  have eou : W.output = (w3 w n).output := hh.output
  have o3 : (w3 w n).os = w.os := rfl
  have u3 : (w3 w n).output = w.output := rfl
  rw [hN] at e0 e1 e2 es el hS hA
  have ns : ∀ b, N ≤ b → ¬ S b := fun b hb hx => by have := hS b hx; omega
  rw [← eb _ (ns _ (by omega))] at e0 e1 e2
  have hwg : WgAt 70 (N + 2) W 0 0 := e2
  have hpay : PayAt N n W := ⟨_, e0, size_madeCells _ _⟩
  have hci : CI N W n (N + 3 + 2 * 0) 0 none none W := ⟨Below.refl _ _, by omega, by omega, by simp [World.cell?, e1], fun _ e => (by cases e), fun _ e => (by cases e)⟩
  have hcell : ∀ b o v, b < N → w.cell? ⟨b, o, none⟩ = some v → ¬ S b ∧ W.cell? ⟨b, o, none⟩ = some v := fun b o v hb hv => by
    have hns : ¬ S b := fun hx => by
      obtain ⟨_, e, h1, _⟩ := ein b hx
      rw [el b hb] at h1
      simp [World.cell?, h1] at hv
    exact ⟨hns, (World.cell?_of_block ((eb b hns).trans (el b hb))).trans hv⟩
  have hBA : BodiesAt N S W zs a0 := by
    refine ⟨fun j e he => ?_, fun e he => ?_⟩
    · obtain ⟨b, o, h1, h2, h3⟩ := hB.el j e he
      rw [hN] at h2
      obtain ⟨h4, h5⟩ := hcell _ _ _ h2 h3
      exact ⟨b, o, h1, h2, h4, h5⟩
    · obtain ⟨h1, h2, h3, h4⟩ := hB.body e he
      refine ⟨fun j x hx => ?_, h2, h3, h4⟩
      obtain ⟨b, o, h5, h6, h7⟩ := h1 j x hx
      rw [hN] at h6
      obtain ⟨h8, h9⟩ := hcell _ _ _ h6 h7
      exact ⟨b, o, h5, h6, h8, h9⟩
  have hgc : Ct.GC Try.prog W := fun g hgg => by
    obtain ⟨c, t, f, h1⟩ := hg g hgg
    have hlt : g < N := by rw [← hN]; exact (Array.getElem?_eq_some_iff.1 h1).1
    by_cases hx : S g
    · obtain ⟨c, e, _, h2⟩ := ein g hx
      exact ⟨c, e, _, h2⟩
    · exact ⟨c, t, f, (eb g hx).trans ((el g hlt).trans h1)⟩
  obtain ⟨T, rfl, hT, t3, t4, t11, t12, t13⟩ := hA
  have hA : ∀ cs, AnchS N n cs a0 cap 0 (G ((base 17).at ⟨T, []⟩ [.code L66, .inLoop L66, .inBlock 0, .code R66]) cs) := fun cs => ⟨T, rfl, hT, t3, t4, t11, t12, t13⟩
  have hF : CI N W n (N + 3 + 2 * 0) 0 none none W ∧ WgLive 70 (N + 2) W := ⟨hci, _, _, hwg⟩
  obtain ⟨f0, hf0⟩ := spawnsFrom (O := Own N) (cs := []) (cap := cap) hS (fm0 N S) hz (by omega) hBA n 0 (by omega)
  obtain ⟨f1, hf1⟩ := spawnsFrom (O := Own1 N S) (cs := [Ct.s1 Try.prog, Ct.s2 Try.prog]) (cap := cap) hS (fm1 N S) hz (by omega) hBA n 0 (by omega)
  have hs0 : SP N S W n zs (Own N) [] n (G ((base 17).at ⟨T, []⟩ [.code L66, .inLoop L66, .inBlock 0, .code R66]) []) W := (spawns_iff N S W n zs (Own N) [] n _ _).2 ⟨f0, by rw [Nat.sub_self]; exact hf0 _ _ (hA _) hF⟩
  have hs1 : SP N S W n zs (Own1 N S) [Ct.s1 Try.prog, Ct.s2 Try.prog] n (G ((base 17).at ⟨T, []⟩ [.code L66, .inLoop L66, .inBlock 0, .code R66]) [Ct.s1 Try.prog, Ct.s2 Try.prog]) W := (spawns_iff N S W n zs (Own1 N S) _ n _ _).2 ⟨f1, by rw [Nat.sub_self]; exact hf1 _ _ (hA _) hF⟩
  obtain ⟨Sk, hSk, hk0⟩ : ∃ Sk, Ct.SkOk Try.prog (N + 2) (Own1 N S) RF Sk ∧ Sk (G ((base 17).at ⟨T, []⟩ [.code L66, .inLoop L66, .inBlock 0, .code R66]) []) W := by
    rcases Nat.eq_zero_or_pos n with h | h
    · subst h
      have hfull : Full N [] W := by
        obtain ⟨c, h1, h2⟩ := hpay
        have : c = #[] := by simpa using h2
        rw [this] at h1
        exact h1
      exact ⟨SkW N W (Own1 N S), skW hS (fm1 N S), ⟨hfull, hwg⟩, .inl (firstWait _ _ (hA []) hF)⟩
    · exact ⟨SkA N n zs (Own1 N S), skA, .inl ⟨firstIter hS (fm1 N S) hz (by omega) hBA h _ _ (hA []) hF, hwg⟩⟩
  obtain ⟨M, R', w', sl', T', q', v, hrun, hz', hL', hP', hv, hfull, hci', hlive⟩ := Ct.phase (vals := valsE zs n) Ct.setS Ct.lateS (apart N S) (apart1 hS) (fam hS) hSk (geo N) (by omega) (ask0 hS (fm0 N S)) (ask1 hS (fm1 N S)) valsE_length (fun i hi => valsE_get i hi) (okF66 T) hgc hwg hpay hs0 hs1 hk0 h0 hL hP
  have hbl : ∀ b, b < N → w'.heap[b]? = W.heap[b]? := fun b hb => hci'.below.block b hb
  have hcl : ∀ b, (S b ∨ b = N + 2) → ∃ c e, w'.heap[b]? = some (.cells c e (0, 0)) := fun b hb => by
    rcases hb with hb | rfl
    · obtain ⟨c, e, _, h2⟩ := ein b hb
      exact ⟨c, e, (hbl b (hS b hb)).trans h2⟩
    · obtain ⟨st, sm, h⟩ := hlive
      exact ⟨_, _, h⟩
  refine ⟨M, R', _, vw (fun b => S b ∨ b = N + 2) w', w', _, sl', T', q', hrun, hz', hL', hP', vw_hd hcl (fun b hb => hb.elim (hh.thr b) (fun e => by omega)), hk v _ ⟨by rw [hN]; exact hv, ?_, ?_⟩⟩
  · rw [hN, vw_out (fun h => by rcases h with h | h; exact ns N (Nat.le_refl _) h; omega)]
    exact hfull
  · rw [hN]
    refine ⟨?_, ?_, ?_, fun k hk' => ?_⟩
    · exact hci'.below.os.trans (eos.trans o3)
    · exact hci'.below.output.trans (eou.trans u3)
    · rw [vw_size, hci'.size]; omega
    · by_cases hx : S k
      · obtain ⟨c, e, h1, h2⟩ := ein k hx
        rw [vw_in (.inl hx) ((hbl k hk').trans h2), ← el k hk', h1]
      · rw [vw_out (fun h => by rcases h with h | h; exact hx h; omega), hbl k hk', eb k hx, el k hk']
end Go.Proofs.Ytghglpcfpokmhaa.Wk
