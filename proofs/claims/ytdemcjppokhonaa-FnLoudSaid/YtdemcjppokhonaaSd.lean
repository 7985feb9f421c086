/-
  THE SENDER: sendBlocks sends the list's blocks, closes the channel and leaves; it touches no memory.
-/
import Derived.Test.YtdemcjppokhonaaBw
import Derived.Test.YtdemcjppokhonaaLf
import Derived.Conc.PipeWords
import Derived.Conc.EventLaws
set_option linter.unusedVariables false
set_option linter.unusedSimpArgs false
namespace Go.Proofs.Ytdemcjppokhonaa
open Go Go.Conc

section
variable {P : Program} {S : Goroutine → Prop}
theorem sil_ctl {g g' : Goroutine} (hs : g.status = .running) (h : ∀ w, stepG P false g w = .go g' w #[]) (hq : ∃ n, Sil P S n g') : ∃ n, Sil P S n g := by
  obtain ⟨n, h'⟩ := hq
  exact ⟨n + 1, .inr ⟨hs, g', h, h'⟩⟩
theorem sil_value {b : Frame} {a : Act} {k : List Item} {cs : List Frame} {ops : Array Oper} {i : Nat} {rest : List Nat} {o : Oper} (v : Value) (ho : ops[i]? = some o) (hw : Region.wanted o (yielded ops a.tmps) = true) (hk : b.kind ≠ .early)
    (hr : ∀ w, (execOp a.eval o).run P w = .ok (.value v) w) (he : ∀ w, (execOp a.eval o).events P w #[] = #[])
    (hq : ∃ n, Sil P S n (G (b.at (a.put o.dst v) (.inRegion ops rest :: k)) cs)) : ∃ n, Sil P S n (G (b.at a (.inRegion ops (i :: rest) :: k)) cs) :=
  sil_ctl rfl (fun w => by rw [stepG_value ho hw hk (hr w)]; unfold listed; rw [he w, seen_none]) hq
end

def b13 : Frame := { (default : Frame) with fn := 50, kind := .deferred }
noncomputable def body13 : Code := Try.f50.body.getD .skip
noncomputable def L13 : Code := match body13 with | .seq (.block _ (.loop c)) _ => c | _ => .skip
noncomputable def R13 : Code := match body13 with | .seq _ r => r | _ => .skip
noncomputable def ops13 : Array Oper := match L13 with | .seq _ (.block _ (.seq (.region _ ops _) _)) => ops | _ => #[]
noncomputable def T13 : Code := match L13 with | .seq _ (.block _ (.seq _ r)) => r | _ => .skip
noncomputable def ops13c : Array Oper := match R13 with | .region _ ops _ => ops | _ => #[]
noncomputable def bot : Frame := { (default : Frame) with fn := Try.prog.funcs.size, defers := [], mode := .panicking [goexitEntry] }

section
variable (c b s : Nat)
noncomputable def head13 (o n cap : Nat) (u3 u4 u5 u6 u7 u8 u9 u10 u11 u12 u13 u14 u15 u16 u17 : Value) : Goroutine :=
  G (b13.at ⟨#[.chan (some c), .slice (some ⟨b, o, none⟩) n cap, .int .i64 s, u3, u4, u5, u6, u7, u8, u9, u10, u11, u12, u13, u14, u15, u16, u17], []⟩ [.code L13, .inLoop L13, .inBlock 0, .code R13]) [bot]
noncomputable def atSend13 (o n cap : Nat) (u3 u4 u5 u6 u7 u8 u9 u14 u15 u16 u17 : Value) (rest : List Nat) : Goroutine :=
  G (b13.at ⟨#[.chan (some c), .slice (some ⟨b, o, none⟩) n cap, .int .i64 s, u3, u4, u5, u6, u7, u8, u9, .chan (some c), .slice (some ⟨b, o, none⟩) n cap, .int .i64 s, .slice (some ⟨b, o, none⟩) s cap, u14, u15, u16, u17], []⟩ [.inRegion ops13 rest, .code T13, .inBlock 1, .inLoop L13, .inBlock 0, .code R13]) [bot]
noncomputable def atClose13 (o n cap : Nat) (u3 u4 u5 u6 u7 u8 u9 u10 u11 u12 u13 u14 u15 u16 : Value) (rest : List Nat) : Goroutine :=
  G (b13.at ⟨#[.chan (some c), .slice (some ⟨b, o, none⟩) n cap, .int .i64 s, u3, u4, u5, u6, u7, u8, u9, u10, u11, u12, u13, u14, u15, u16, .chan (some c)], []⟩ [.inRegion ops13c rest]) [bot]

/-- list[:s] of an owned slice -/
theorem sl_h (o n cap : Nat) (h : s ≤ cap) (w : World) : (Instr.sliceAt 24 (.slice (some ⟨b, o, none⟩) n cap) none (some (.int .i64 s)) none).run Try.prog w = .ok (.slice (some ⟨b, o, none⟩) s cap) w := by
  have h0 : (0 : Int) ≤ s := by omega
  have h2 : (s : Int) ≤ cap := by omega
  simp [go_sem, sliced, Addr.add, h0, h2]
theorem sl_l (o n cap : Nat) (h : s ≤ n) (w : World) : (Instr.sliceAt 24 (.slice (some ⟨b, o, none⟩) n cap) (some (.int .i64 s)) none none).run Try.prog w = .ok (.slice (some ⟨b, if cap = s then o else o + s, none⟩) (n - s) (cap - s)) w := by
  have h0 : (0 : Int) ≤ s := by omega
  have h2 : (s : Int) ≤ n := by omega
  by_cases e : cap = s <;> simp [go_sem, sliced, Addr.add, h0, h2, e]
theorem ev_h (o n cap : Nat) (h : s ≤ cap) (w : World) (es : Array Event) : (Instr.sliceAt 24 (.slice (some ⟨b, o, none⟩) n cap) none (some (.int .i64 s)) none).events Try.prog w es = es := by
  have h0 : (0 : Int) ≤ s := by omega
  have h2 : (s : Int) ≤ cap := by omega
  simp [go_sem, Instr.sliceAt, Instr.slice, Instr.sliceBounds, Instr.sliceBound, h0, h2, h]
theorem ev_l (o n cap : Nat) (h : s ≤ n) (w : World) (es : Array Event) : (Instr.sliceAt 24 (.slice (some ⟨b, o, none⟩) n cap) (some (.int .i64 s)) none none).events Try.prog w es = es := by
  have h0 : (0 : Int) ≤ s := by omega
  have h2 : (s : Int) ≤ n := by omega
  simp [go_sem, Instr.sliceAt, Instr.slice, Instr.sliceBounds, Instr.sliceBound, h0, h2, h]

set_option maxRecDepth 100000 in
theorem seg_send (S : Goroutine → Prop) (o n cap : Nat) (hs : s ≤ n) (hc : n ≤ cap) (u3 u4 u5 u6 u7 u8 u9 u10 u11 u12 u13 u14 u15 u16 u17 : Value)
    (next : ∀ (u6 u7 u8 u9 : Value), ∃ m, Sil Try.prog S m (atSend13 c b s o n cap u3 u4 u5 u6 u7 u8 u9 u14 u15 u16 u17 [4])) : ∃ m, Sil Try.prog S m (head13 c b s o n cap u3 u4 u5 u6 u7 u8 u9 u10 u11 u12 u13 u14 u15 u16 u17) := by
  have h1 := sl_h b s o n cap (by omega)
  have h2 := ev_h b s o n cap (by omega)
  have hd : decide ((n : Int) ≥ (s : Int)) = true := decide_eq_true (by omega)
  simp only [head13, atSend13, ops13, T13, L13, R13, body13, Try.f50, Option.getD_some] at next ⊢
  repeat (first | refine sil_ctl rfl (fun w => stepG_seq) ?_ | refine sil_ctl rfl (fun w => stepG_skip) ?_ | refine sil_ctl rfl (fun w => stepG_block) ?_ | refine sil_ctl rfl (fun w => stepG_loop) ?_ | refine sil_ctl rfl (fun w => stepG_inLoop) ?_ | refine sil_ctl rfl (fun w => stepG_inBlock) ?_ | refine sil_ctl rfl (fun w => stepG_region_end) ?_ | (refine sil_ctl rfl (fun w => stepG_region) ?_; simp only [List.size_toArray, List.length_cons, List.length_nil, Nat.reduceAdd, Nat.zero_add, List.range, List.range.loop]))
  (refine sil_value (.slice (some ⟨b, o, none⟩) n cap) rfl (by rfl) (by decide) (fun w => by simp [go_sem, *]) (fun w => by simp [go_sem, *]) ?_; walk_nrm)
  (refine sil_value (.int .i64 n) rfl (by rfl) (by decide) (fun w => by simp [go_sem, *]) (fun w => by simp [go_sem, *]) ?_; walk_nrm)
  (refine sil_value (.int .i64 s) rfl (by rfl) (by decide) (fun w => by simp [go_sem, *]) (fun w => by simp [go_sem, *]) ?_; walk_nrm)
  (refine sil_value (.bool true) rfl (by rfl) (by decide) (fun w => by simp [go_sem, *]) (fun w => by simp [go_sem, *]) ?_; walk_nrm)
  repeat (first | refine sil_ctl rfl (fun w => stepG_seq) ?_ | refine sil_ctl rfl (fun w => stepG_skip) ?_ | refine sil_ctl rfl (fun w => stepG_block) ?_ | refine sil_ctl rfl (fun w => stepG_loop) ?_ | refine sil_ctl rfl (fun w => stepG_inLoop) ?_ | refine sil_ctl rfl (fun w => stepG_inBlock) ?_ | refine sil_ctl rfl (fun w => stepG_region_end) ?_ | (refine sil_ctl rfl (fun w => stepG_region) ?_; simp only [List.size_toArray, List.length_cons, List.length_nil, Nat.reduceAdd, Nat.zero_add, List.range, List.range.loop]))
  refine sil_ctl rfl (fun w => stepG_cond (t := true) rfl) ?_
  simp only [if_true]
  repeat (first | refine sil_ctl rfl (fun w => stepG_seq) ?_ | refine sil_ctl rfl (fun w => stepG_skip) ?_ | refine sil_ctl rfl (fun w => stepG_block) ?_ | refine sil_ctl rfl (fun w => stepG_loop) ?_ | refine sil_ctl rfl (fun w => stepG_inLoop) ?_ | refine sil_ctl rfl (fun w => stepG_inBlock) ?_ | refine sil_ctl rfl (fun w => stepG_region_end) ?_ | (refine sil_ctl rfl (fun w => stepG_region) ?_; simp only [List.size_toArray, List.length_cons, List.length_nil, Nat.reduceAdd, Nat.zero_add, List.range, List.range.loop]))
  (refine sil_value (.chan (some c)) rfl (by rfl) (by decide) (fun w => by simp [go_sem, *]) (fun w => by simp [go_sem, *]) ?_; walk_nrm)
  (refine sil_value (.slice (some ⟨b, o, none⟩) n cap) rfl (by rfl) (by decide) (fun w => by simp [go_sem, *]) (fun w => by simp [go_sem, *]) ?_; walk_nrm)
  (refine sil_value (.int .i64 s) rfl (by rfl) (by decide) (fun w => by simp [go_sem, *]) (fun w => by simp [go_sem, *]) ?_; walk_nrm)
  (refine sil_value (.slice (some ⟨b, o, none⟩) s cap) rfl (by rfl) (by decide) (fun w => by simp [go_sem, *]) (fun w => by simp [go_sem, *]) ?_; walk_nrm)
  exact next ..

set_option maxRecDepth 100000 in
theorem seg_next (S : Goroutine → Prop) (o n cap : Nat) (hs : s ≤ n) (u3 u4 u5 u6 u7 u8 u9 u14 u15 u16 u17 : Value)
    (next : ∀ (u10 u11 u12 u13 u14 u15 u16 : Value), ∃ m, Sil Try.prog S m (head13 c b s (if cap = s then o else o + s) (n - s) (cap - s) u3 u4 u5 u6 u7 u8 u9 u10 u11 u12 u13 u14 u15 u16 u17)) : ∃ m, Sil Try.prog S m (atSend13 c b s o n cap u3 u4 u5 u6 u7 u8 u9 u14 u15 u16 u17 []) := by
  have h1 := sl_l b s o n cap (by omega)
  have h2 := ev_l b s o n cap (by omega)
  simp only [head13, atSend13, ops13, T13, L13, R13, body13, Try.f50, Option.getD_some] at next ⊢
  repeat (first | refine sil_ctl rfl (fun w => stepG_seq) ?_ | refine sil_ctl rfl (fun w => stepG_skip) ?_ | refine sil_ctl rfl (fun w => stepG_block) ?_ | refine sil_ctl rfl (fun w => stepG_loop) ?_ | refine sil_ctl rfl (fun w => stepG_inLoop) ?_ | refine sil_ctl rfl (fun w => stepG_inBlock) ?_ | refine sil_ctl rfl (fun w => stepG_region_end) ?_ | (refine sil_ctl rfl (fun w => stepG_region) ?_; simp only [List.size_toArray, List.length_cons, List.length_nil, Nat.reduceAdd, Nat.zero_add, List.range, List.range.loop]))
  (refine sil_value (.slice (some ⟨b, o, none⟩) n cap) rfl (by rfl) (by decide) (fun w => by simp [go_sem, *]) (fun w => by simp [go_sem, *]) ?_; walk_nrm)
  (refine sil_value (.int .i64 s) rfl (by rfl) (by decide) (fun w => by simp [go_sem, *]) (fun w => by simp [go_sem, *]) ?_; walk_nrm)
  (refine sil_value (.slice (some ⟨b, if cap = s then o else o + s, none⟩) (n - s) (cap - s)) rfl (by rfl) (by decide) (fun w => by simp [go_sem, *]) (fun w => by simp [go_sem, *]) ?_; walk_nrm)
  (refine sil_value (.slice (some ⟨b, if cap = s then o else o + s, none⟩) (n - s) (cap - s)) rfl (by rfl) (by decide) (fun w => by simp [go_sem, *]) (fun w => by simp [go_sem, *]) ?_; walk_nrm)
  refine sil_ctl rfl (fun w => stepG_region_end) ?_
  refine sil_ctl rfl (fun w => stepG_inBlock) ?_
  refine sil_ctl rfl (fun w => stepG_inLoop) ?_
  exact next ..

set_option maxRecDepth 100000 in
theorem seg_close (S : Goroutine → Prop) (o n cap : Nat) (hs : n < s) (u3 u4 u5 u6 u7 u8 u9 u10 u11 u12 u13 u14 u15 u16 u17 : Value)
    (next : ∀ (u6 u7 u8 u9 : Value), ∃ m, Sil Try.prog S m (atClose13 c b s o n cap u3 u4 u5 u6 u7 u8 u9 u10 u11 u12 u13 u14 u15 u16 [1])) : ∃ m, Sil Try.prog S m (head13 c b s o n cap u3 u4 u5 u6 u7 u8 u9 u10 u11 u12 u13 u14 u15 u16 u17) := by
  have hd : ¬ ((s : Int) ≤ (n : Int)) := by omega
  simp only [head13, atClose13, ops13c, L13, R13, body13, Try.f50, Option.getD_some] at next ⊢
  repeat (first | refine sil_ctl rfl (fun w => stepG_seq) ?_ | refine sil_ctl rfl (fun w => stepG_skip) ?_ | refine sil_ctl rfl (fun w => stepG_block) ?_ | refine sil_ctl rfl (fun w => stepG_loop) ?_ | refine sil_ctl rfl (fun w => stepG_inLoop) ?_ | refine sil_ctl rfl (fun w => stepG_inBlock) ?_ | refine sil_ctl rfl (fun w => stepG_region_end) ?_ | (refine sil_ctl rfl (fun w => stepG_region) ?_; simp only [List.size_toArray, List.length_cons, List.length_nil, Nat.reduceAdd, Nat.zero_add, List.range, List.range.loop]))
  (refine sil_value (.slice (some ⟨b, o, none⟩) n cap) rfl (by rfl) (by decide) (fun w => by simp [go_sem, *]) (fun w => by simp [go_sem, *]) ?_; walk_nrm)
  (refine sil_value (.int .i64 n) rfl (by rfl) (by decide) (fun w => by simp [go_sem, *]) (fun w => by simp [go_sem, *]) ?_; walk_nrm)
  (refine sil_value (.int .i64 s) rfl (by rfl) (by decide) (fun w => by simp [go_sem, *]) (fun w => by simp [go_sem, *]) ?_; walk_nrm)
  (refine sil_value (.bool false) rfl (by rfl) (by decide) (fun w => by simp [go_sem, *]) (fun w => by simp [go_sem, *]) ?_; walk_nrm)
  repeat (first | refine sil_ctl rfl (fun w => stepG_seq) ?_ | refine sil_ctl rfl (fun w => stepG_skip) ?_ | refine sil_ctl rfl (fun w => stepG_block) ?_ | refine sil_ctl rfl (fun w => stepG_loop) ?_ | refine sil_ctl rfl (fun w => stepG_inLoop) ?_ | refine sil_ctl rfl (fun w => stepG_inBlock) ?_ | refine sil_ctl rfl (fun w => stepG_region_end) ?_ | (refine sil_ctl rfl (fun w => stepG_region) ?_; simp only [List.size_toArray, List.length_cons, List.length_nil, Nat.reduceAdd, Nat.zero_add, List.range, List.range.loop]))
  refine sil_ctl rfl (fun w => stepG_cond (t := false) rfl) ?_
  simp only [if_false, Bool.false_eq_true]
  refine sil_ctl rfl (fun w => stepG_exit (by rfl)) ?_
  repeat (first | refine sil_ctl rfl (fun w => stepG_seq) ?_ | refine sil_ctl rfl (fun w => stepG_skip) ?_ | refine sil_ctl rfl (fun w => stepG_block) ?_ | refine sil_ctl rfl (fun w => stepG_loop) ?_ | refine sil_ctl rfl (fun w => stepG_inLoop) ?_ | refine sil_ctl rfl (fun w => stepG_inBlock) ?_ | refine sil_ctl rfl (fun w => stepG_region_end) ?_ | (refine sil_ctl rfl (fun w => stepG_region) ?_; simp only [List.size_toArray, List.length_cons, List.length_nil, Nat.reduceAdd, Nat.zero_add, List.range, List.range.loop]))
  (refine sil_value (.chan (some c)) rfl (by rfl) (by decide) (fun w => by simp [go_sem, *]) (fun w => by simp [go_sem, *]) ?_; walk_nrm)
  exact next ..

/-- the blocks that are sent -/
def bks (b s : Nat) : Nat → Nat → Nat → List Value
  | 0, _, _ => []
  | m + 1, o, cap => .slice (some ⟨b, o, none⟩) s cap :: bks b s m (o + s) (cap - s)

theorem atSend_stop (vs : List Value) (o n cap : Nat) (u3 u4 u5 u6 u7 u8 u9 u14 u15 u16 u17 : Value) (next : SdQ Try.prog c vs (atSend13 c b s o n cap u3 u4 u5 u6 u7 u8 u9 u14 u15 u16 u17 [])) :
    AtSd Try.prog c (.slice (some ⟨b, o, none⟩) s cap) (SdQ Try.prog c vs) (atSend13 c b s o n cap u3 u4 u5 u6 u7 u8 u9 u14 u15 u16 u17 [4]) := by
  refine ⟨rfl, atSend13 c b s o n cap u3 u4 u5 u6 u7 u8 u9 u14 u15 u16 u17 [4], .tuple #[], fun w => ?_, ?_⟩
  · simp only [atSend13, ops13, L13, body13, Try.f50, Option.getD_some]
    rw [stepG_comm (cases := #[scase c (.slice (some ⟨b, o, none⟩) s cap) (.tuple #[])]) (blocking := true) (shape := .send) (w' := w) rfl rfl (by decide) (by simp [execOp, scase, Act.eval])]
    simp [listed, execOp, seen]
  · have e : Conc.served (atSend13 c b s o n cap u3 u4 u5 u6 u7 u8 u9 u14 u15 u16 u17 [4]) undef = atSend13 c b s o n cap u3 u4 u5 u6 u7 u8 u9 u14 u15 u16 u17 [] := by
      simp only [atSend13, ops13, L13, body13, Try.f50, Option.getD_some, served_G]
      rfl
    rw [e]; exact next

theorem quits (o n cap : Nat) (u3 u4 u5 u6 u7 u8 u9 u10 u11 u12 u13 u14 u15 u16 : Value) : QuitsIn Try.prog 4 (atClose13 c b s o n cap u3 u4 u5 u6 u7 u8 u9 u10 u11 u12 u13 u14 u15 u16 []) := by
  simp only [atClose13]
  refine .inr ⟨rfl, _, fun w => stepG_region_end, ?_⟩
  refine .inr ⟨rfl, _, fun w => stepG_end, ?_⟩
  refine .inr ⟨rfl, G bot [], fun w => ?_, ?_⟩
  · simp [G, stepG, unwind, doReturn, results, Frame.at, b13, bot, Try.func50, Try.f50, seen, GStep.after, goexitEntry]
  refine .inr ⟨rfl, { G bot [] with status := .finished }, fun w => ?_, rfl⟩
  simp [G, stepG, unwind, bot, goexitEntry, Frame.catches]
  rfl

theorem atClose_stop (o n cap : Nat) (u3 u4 u5 u6 u7 u8 u9 u10 u11 u12 u13 u14 u15 u16 : Value) : AtCl Try.prog c (atClose13 c b s o n cap u3 u4 u5 u6 u7 u8 u9 u10 u11 u12 u13 u14 u15 u16 [1]) := by
  refine ⟨rfl, ?_, atClose13 c b s o n cap u3 u4 u5 u6 u7 u8 u9 u10 u11 u12 u13 u14 u15 u16 [], 4, fun w s' r tm hc => ?_, quits ..⟩
  · simp [mayWake, atClose13, ops13c, R13, body13, Try.f50, G, Frame.at]
  · simp only [atClose13, ops13c, R13, body13, Try.f50, Option.getD_some]
    have hr := run_close_open (P := Try.prog) #[65] 0 hc
    have he := events_close_open (P := Try.prog) (es := #[]) #[65] 0 hc
    rw [stepG_value (v := .tuple #[]) (w' := w.shut c s' r tm) rfl rfl (by decide) (by simp [go_sem, hr, World.shut])]
    have hl : ∀ a o, (execOp a.eval o).events Try.prog w #[] = #[⟨.obj c, false, true⟩, ⟨.obj c, true, true⟩] → listed Try.prog b13.fn a o w = #[⟨.obj c, false, true⟩, ⟨.obj c, true, true⟩] := by
      intro a o h
      unfold listed
      rw [h]
      exact seen_eq (by simp [b13, Try.func50, Try.f50]) (by simp)
    rw [hl _ _ (by simp [go_sem, he])]
    rfl

theorem sends_from (hs : 0 < s) : ∀ (m o n cap : Nat), m * s ≤ n → n < m * s + s → n ≤ cap → ∀ (u3 u4 u5 u6 u7 u8 u9 u10 u11 u12 u13 u14 u15 u16 u17 : Value),
    SdQ Try.prog c (bks b s m o cap) (head13 c b s o n cap u3 u4 u5 u6 u7 u8 u9 u10 u11 u12 u13 u14 u15 u16 u17) := by
  intro m
  induction m with
  | zero =>
    intro o n cap h1 h2 h3 u3 u4 u5 u6 u7 u8 u9 u10 u11 u12 u13 u14 u15 u16 u17
    exact seg_close c b s _ o n cap (by omega) u3 u4 u5 u6 u7 u8 u9 u10 u11 u12 u13 u14 u15 u16 u17 fun u6 u7 u8 u9 => ⟨0, atClose_stop ..⟩
  | succ m ih =>
    intro o n cap h1 h2 h3 u3 u4 u5 u6 u7 u8 u9 u10 u11 u12 u13 u14 u15 u16 u17
    have e : (m + 1) * s = m * s + s := by rw [Nat.add_mul, Nat.one_mul]
    rw [e] at h1 h2
    refine seg_send c b s _ o n cap (by omega) h3 u3 u4 u5 u6 u7 u8 u9 u10 u11 u12 u13 u14 u15 u16 u17 fun u6 u7 u8 u9 => ⟨0, atSend_stop c b s _ o n cap _ _ _ _ _ _ _ _ _ _ _ ?_⟩
    rw [sdq_iff]
    refine seg_next c b s _ o n cap (by omega) u3 u4 u5 u6 u7 u8 u9 u14 u15 u16 u17 fun u10 u11 u12 u13 u14 u15 u16 => ?_
    rw [← sdq_iff]
    cases m with
    | zero => exact ih _ (n - s) (cap - s) (by omega) (by omega) (by omega) u3 u4 u5 u6 u7 u8 u9 u10 u11 u12 u13 u14 u15 u16 u17
    | succ m =>
      have hne : cap ≠ s := by
        have : s ≤ (m + 1) * s := Nat.le_mul_of_pos_left _ (by omega)
        omega
      rw [if_neg hne]
      exact ih _ (n - s) (cap - s) (by omega) (by omega) (by omega) u3 u4 u5 u6 u7 u8 u9 u10 u11 u12 u13 u14 u15 u16 u17
end

/-- the call that the go statement holds -/
def call13 (c b s n cap : Nat) : Deferred := { target := .fn (.func 50) #[], args := #[.chan (some c), .slice (some ⟨b, 0, none⟩) n cap, .int .i64 s] }
theorem born_step (c b s n cap : Nat) (w : World) : stepG Try.prog false (born Try.prog (call13 c b s n cap)) w =
    .go (G (b13.at ⟨#[.chan (some c), .slice (some ⟨b, 0, none⟩) n cap, .int .i64 s, undef, undef, undef, undef, undef, undef, undef, undef, undef, undef, undef, undef, undef, undef, undef], []⟩ [.code body13]) [bot]) w #[] := by
  simp [born, call13, stepG, unwind, callDeferred, invoke, callFunc, Try.func50, Try.f50, seen, GStep.after, G, Frame.enter, Frame.at, b13, bot, body13]

set_option maxRecDepth 100000 in
/-- THE SENDER, WHOLE -/
theorem sends_all (c b s n cap : Nat) (hs : 0 < s) (hc : n ≤ cap) : SdQ Try.prog c (bks b s (n / s) 0 cap) (born Try.prog (call13 c b s n cap)) := by
  have h1 : n / s * s ≤ n := Nat.div_mul_le_self n s
  have h2 : n < n / s * s + s := by
    have := Nat.lt_mul_div_succ n hs
    rw [Nat.mul_comm, Nat.add_mul, Nat.one_mul] at this
    exact this
  rw [sdq_iff]
  refine sil_ctl rfl (born_step c b s n cap) ?_
  have := sends_from c b s hs (n / s) 0 n cap h1 h2 hc
  simp only [sdq_iff] at this
  simp only [head13, L13, R13, body13, Try.f50, Option.getD_some] at this ⊢
  refine sil_ctl rfl (fun w => stepG_seq) ?_
  refine sil_ctl rfl (fun w => stepG_block) ?_
  refine sil_ctl rfl (fun w => stepG_loop) ?_
  exact this ..
end Go.Proofs.Ytdemcjppokhonaa
