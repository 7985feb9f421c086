/-
  The worker: which operation of its drawn region may come next.
  The worker: its drawn region, from the second call on.
  The worker: its drawn region, whole.
-/
import Derived.Test.YtpmmimcafkillaaZXh
set_option linter.unusedVariables false
set_option linter.unusedSimpArgs false
namespace Go.Proofs.Ytpmmimcafkillaa.Tr
open Go Go.Conc Go.ConcN Go.RowKit Go.Conc.Lib Go.ConcR.Gen Go.ConcM
open Go.ConcR (KK wgBlock WgAt stA smA rd wr mk DC0)
open Go.Proofs.Ytpmmimcafkillaa.Mx
open Go.Proofs.Ytpmmimcafkillaa.Mx (Mu St)
noncomputable def body59 : Code := Try.f59.body.getD .skip
def opsOf : Code → Array Oper
  | .region _ ops _ => ops
  | _ => #[]
noncomputable def ops59 : Array Oper := opsOf (sndS body59)
theorem size59 : ops59.size = 13 := by kernel_rfl
theorem rdy {f0 f1 f2 f3 f4 f5 f6 f7 f8 f9 f10 f11 f12 : Bool} {i : Nat} (h : i ∈ Region.ready .any ops59 #[f0, f1, f2, f3, f4, f5, f6, f7, f8, f9, f10, f11, f12]) : (i = 0 ∧ f0 = false) ∨ (i = 1 ∧ f1 = false) ∨ (i = 2 ∧ f2 = false) ∨ (i = 3 ∧ f3 = false) ∨ (i = 4 ∧ f4 = false) ∨ (i = 5 ∧ f5 = false) ∨ (i = 6 ∧ f6 = false) ∨ (i = 7 ∧ f7 = false ∧ f5 = true ∧ f6 = true) ∨ (i = 8 ∧ f8 = false ∧ f7 = true) ∨ (i = 9 ∧ f9 = false ∧ f8 = true) ∨ (i = 10 ∧ f10 = false ∧ f4 = true ∧ f9 = true) ∨ (i = 11 ∧ f11 = false ∧ f2 = true ∧ f3 = true ∧ f10 = true) ∨ (i = 12 ∧ f12 = false ∧ f0 = true ∧ f1 = true ∧ f11 = true) := by
  unfold Region.ready at h
  obtain ⟨h1, h2⟩ := List.mem_filter.1 h
  have hi : i < 13 := by have := List.mem_range.1 h1; rwa [size59] at this
  clear h h1
  simp only [ops59, opsOf, sndS, body59, Try.f59, Option.getD_some] at h2
  have hc : i = 0 ∨ i = 1 ∨ i = 2 ∨ i = 3 ∨ i = 4 ∨ i = 5 ∨ i = 6 ∨ i = 7 ∨ i = 8 ∨ i = 9 ∨ i = 10 ∨ i = 11 ∨ i = 12 := by omega
  rcases hc with rfl | rfl | rfl | rfl | rfl | rfl | rfl | rfl | rfl | rfl | rfl | rfl | rfl <;> simp [Region.binds, Array.getD] at h2 <;> simp [h2]
end Go.Proofs.Ytpmmimcafkillaa.Tr

set_option linter.unusedVariables false
set_option linter.unusedSimpArgs false
namespace Go.Proofs.Ytpmmimcafkillaa.Tr
open Go Go.Conc Go.ConcN Go.RowKit Go.Conc.Lib Go.ConcR.Gen Go.ConcM
open Go.ConcR (KK wgBlock WgAt stA smA rd wr mk DC0)
open Go.Proofs.Ytpmmimcafkillaa.Mx
open Go.Proofs.Ytpmmimcafkillaa.Mx (Mu St)
theorem mem0 {f0 f1 f2 f3 f4 f5 f6 f7 f8 f9 f10 f11 f12 : Bool} : f0 = false → 0 ∈ Region.ready .any ops59 #[f0, f1, f2, f3, f4, f5, f6, f7, f8, f9, f10, f11, f12] := by
  intros
  unfold Region.ready
  refine List.mem_filter.2 ⟨List.mem_range.2 (by rw [size59]; decide), ?_⟩
  simp only [ops59, opsOf, sndS, body59, Try.f59, Option.getD_some]
  simp [Region.binds, Array.getD, *]
theorem mem1 {f0 f1 f2 f3 f4 f5 f6 f7 f8 f9 f10 f11 f12 : Bool} : f1 = false → 1 ∈ Region.ready .any ops59 #[f0, f1, f2, f3, f4, f5, f6, f7, f8, f9, f10, f11, f12] := by
  intros
  unfold Region.ready
  refine List.mem_filter.2 ⟨List.mem_range.2 (by rw [size59]; decide), ?_⟩
  simp only [ops59, opsOf, sndS, body59, Try.f59, Option.getD_some]
  simp [Region.binds, Array.getD, *]
theorem mem2 {f0 f1 f2 f3 f4 f5 f6 f7 f8 f9 f10 f11 f12 : Bool} : f2 = false → 2 ∈ Region.ready .any ops59 #[f0, f1, f2, f3, f4, f5, f6, f7, f8, f9, f10, f11, f12] := by
  intros
  unfold Region.ready
  refine List.mem_filter.2 ⟨List.mem_range.2 (by rw [size59]; decide), ?_⟩
  simp only [ops59, opsOf, sndS, body59, Try.f59, Option.getD_some]
  simp [Region.binds, Array.getD, *]
theorem mem3 {f0 f1 f2 f3 f4 f5 f6 f7 f8 f9 f10 f11 f12 : Bool} : f3 = false → 3 ∈ Region.ready .any ops59 #[f0, f1, f2, f3, f4, f5, f6, f7, f8, f9, f10, f11, f12] := by
  intros
  unfold Region.ready
  refine List.mem_filter.2 ⟨List.mem_range.2 (by rw [size59]; decide), ?_⟩
  simp only [ops59, opsOf, sndS, body59, Try.f59, Option.getD_some]
  simp [Region.binds, Array.getD, *]
theorem mem4 {f0 f1 f2 f3 f4 f5 f6 f7 f8 f9 f10 f11 f12 : Bool} : f4 = false → 4 ∈ Region.ready .any ops59 #[f0, f1, f2, f3, f4, f5, f6, f7, f8, f9, f10, f11, f12] := by
  intros
  unfold Region.ready
  refine List.mem_filter.2 ⟨List.mem_range.2 (by rw [size59]; decide), ?_⟩
  simp only [ops59, opsOf, sndS, body59, Try.f59, Option.getD_some]
  simp [Region.binds, Array.getD, *]
theorem mem5 {f0 f1 f2 f3 f4 f5 f6 f7 f8 f9 f10 f11 f12 : Bool} : f5 = false → 5 ∈ Region.ready .any ops59 #[f0, f1, f2, f3, f4, f5, f6, f7, f8, f9, f10, f11, f12] := by
  intros
  unfold Region.ready
  refine List.mem_filter.2 ⟨List.mem_range.2 (by rw [size59]; decide), ?_⟩
  simp only [ops59, opsOf, sndS, body59, Try.f59, Option.getD_some]
  simp [Region.binds, Array.getD, *]
theorem mem6 {f0 f1 f2 f3 f4 f5 f6 f7 f8 f9 f10 f11 f12 : Bool} : f6 = false → 6 ∈ Region.ready .any ops59 #[f0, f1, f2, f3, f4, f5, f6, f7, f8, f9, f10, f11, f12] := by
  intros
  unfold Region.ready
  refine List.mem_filter.2 ⟨List.mem_range.2 (by rw [size59]; decide), ?_⟩
  simp only [ops59, opsOf, sndS, body59, Try.f59, Option.getD_some]
  simp [Region.binds, Array.getD, *]
theorem mem7 {f0 f1 f2 f3 f4 f5 f6 f7 f8 f9 f10 f11 f12 : Bool} : f7 = false → f5 = true → f6 = true → 7 ∈ Region.ready .any ops59 #[f0, f1, f2, f3, f4, f5, f6, f7, f8, f9, f10, f11, f12] := by
  intros
  unfold Region.ready
  refine List.mem_filter.2 ⟨List.mem_range.2 (by rw [size59]; decide), ?_⟩
  simp only [ops59, opsOf, sndS, body59, Try.f59, Option.getD_some]
  simp [Region.binds, Array.getD, *]
theorem mem8 {f0 f1 f2 f3 f4 f5 f6 f7 f8 f9 f10 f11 f12 : Bool} : f8 = false → f7 = true → 8 ∈ Region.ready .any ops59 #[f0, f1, f2, f3, f4, f5, f6, f7, f8, f9, f10, f11, f12] := by
  intros
  unfold Region.ready
  refine List.mem_filter.2 ⟨List.mem_range.2 (by rw [size59]; decide), ?_⟩
  simp only [ops59, opsOf, sndS, body59, Try.f59, Option.getD_some]
  simp [Region.binds, Array.getD, *]
theorem mem9 {f0 f1 f2 f3 f4 f5 f6 f7 f8 f9 f10 f11 f12 : Bool} : f9 = false → f8 = true → 9 ∈ Region.ready .any ops59 #[f0, f1, f2, f3, f4, f5, f6, f7, f8, f9, f10, f11, f12] := by
  intros
  unfold Region.ready
  refine List.mem_filter.2 ⟨List.mem_range.2 (by rw [size59]; decide), ?_⟩
  simp only [ops59, opsOf, sndS, body59, Try.f59, Option.getD_some]
  simp [Region.binds, Array.getD, *]
theorem mem10 {f0 f1 f2 f3 f4 f5 f6 f7 f8 f9 f10 f11 f12 : Bool} : f10 = false → f4 = true → f9 = true → 10 ∈ Region.ready .any ops59 #[f0, f1, f2, f3, f4, f5, f6, f7, f8, f9, f10, f11, f12] := by
  intros
  unfold Region.ready
  refine List.mem_filter.2 ⟨List.mem_range.2 (by rw [size59]; decide), ?_⟩
  simp only [ops59, opsOf, sndS, body59, Try.f59, Option.getD_some]
  simp [Region.binds, Array.getD, *]
theorem mem11 {f0 f1 f2 f3 f4 f5 f6 f7 f8 f9 f10 f11 f12 : Bool} : f11 = false → f2 = true → f3 = true → f10 = true → 11 ∈ Region.ready .any ops59 #[f0, f1, f2, f3, f4, f5, f6, f7, f8, f9, f10, f11, f12] := by
  intros
  unfold Region.ready
  refine List.mem_filter.2 ⟨List.mem_range.2 (by rw [size59]; decide), ?_⟩
  simp only [ops59, opsOf, sndS, body59, Try.f59, Option.getD_some]
  simp [Region.binds, Array.getD, *]
theorem mem12 {f0 f1 f2 f3 f4 f5 f6 f7 f8 f9 f10 f11 f12 : Bool} : f12 = false → f0 = true → f1 = true → f11 = true → 12 ∈ Region.ready .any ops59 #[f0, f1, f2, f3, f4, f5, f6, f7, f8, f9, f10, f11, f12] := by
  intros
  unfold Region.ready
  refine List.mem_filter.2 ⟨List.mem_range.2 (by rw [size59]; decide), ?_⟩
  simp only [ops59, opsOf, sndS, body59, Try.f59, Option.getD_some]
  simp [Region.binds, Array.getD, *]
theorem rdy_nil {f0 f1 f2 f3 f4 f5 f6 f7 f8 f9 f10 f11 f12 : Bool} (h : Region.ready .any ops59 #[f0, f1, f2, f3, f4, f5, f6, f7, f8, f9, f10, f11, f12] = []) : f12 = true := by
  have g : ∀ i, ¬ i ∈ Region.ready .any ops59 #[f0, f1, f2, f3, f4, f5, f6, f7, f8, f9, f10, f11, f12] := fun i hi => by rw [h] at hi; cases hi
  have g0 : f0 = true := by
    cases e : f0 with
    | true => rfl
    | false => exact absurd (mem0 e) (g 0)
  have g1 : f1 = true := by
    cases e : f1 with
    | true => rfl
    | false => exact absurd (mem1 e) (g 1)
  have g2 : f2 = true := by
    cases e : f2 with
    | true => rfl
    | false => exact absurd (mem2 e) (g 2)
  have g3 : f3 = true := by
    cases e : f3 with
    | true => rfl
    | false => exact absurd (mem3 e) (g 3)
  have g4 : f4 = true := by
    cases e : f4 with
    | true => rfl
    | false => exact absurd (mem4 e) (g 4)
  have g5 : f5 = true := by
    cases e : f5 with
    | true => rfl
    | false => exact absurd (mem5 e) (g 5)
  have g6 : f6 = true := by
    cases e : f6 with
    | true => rfl
    | false => exact absurd (mem6 e) (g 6)
  have g7 : f7 = true := by
    cases e : f7 with
    | true => rfl
    | false => exact absurd (mem7 e g5 g6) (g 7)
  have g8 : f8 = true := by
    cases e : f8 with
    | true => rfl
    | false => exact absurd (mem8 e g7) (g 8)
  have g9 : f9 = true := by
    cases e : f9 with
    | true => rfl
    | false => exact absurd (mem9 e g8) (g 9)
  have g10 : f10 = true := by
    cases e : f10 with
    | true => rfl
    | false => exact absurd (mem10 e g4 g9) (g 10)
  have g11 : f11 = true := by
    cases e : f11 with
    | true => rfl
    | false => exact absurd (mem11 e g2 g3 g10) (g 11)
  have g12 : f12 = true := by
    cases e : f12 with
    | true => rfl
    | false => exact absurd (mem12 e g0 g1 g11) (g 12)
  exact g12
/-- the boxes that the literal was handed -/
structure Bx (Y : Lay) (F : Nat → Prop) (Kn : World → Prop) (bk nb rb jb ja : Addr) (n cap0 j : Nat) (rule : Value) (bs : Option Addr) (nn cap : Nat) : Prop where
  cbk : ∀ w, Kn w → w.cell? bk = some (.pointer (some ⟨Y.Lg, 0, none⟩))
  obk : F bk.block ∨ Y.Ro (.cell bk)
  cnb : ∀ w, Kn w → w.cell? nb = some (.int .i64 (j : Int))
  onb : F nb.block ∨ Y.Ro (.cell nb)
  crb : ∀ w, Kn w → w.cell? rb = some rule
  orb : F rb.block ∨ Y.Ro (.cell rb)
  cjb : ∀ w, Kn w → w.cell? jb = some (.slice (some ja) n cap0)
  ojb : F jb.block ∨ Y.Ro (.cell jb)
  cnd : ∀ w, Kn w → w.cell? ((ja.add (j * 4)).add 2) = some (.slice bs nn cap)
  ond : F ((ja.add (j * 4)).add 2).block ∨ Y.Ro (.cell ((ja.add (j * 4)).add 2))
  lt : j < n
section
variable {Y : Lay} {Held : List Nat → World → Prop} {F' : Nat → Prop} {Kw : World → Prop} {k : Nat} {bk nb rb jb ja : Addr} {n cap0 j : Nat} {rule : Value} {bs : Option Addr} {ns : List Int} {cap B : Nat} {val : Int}
variable {ds : List Deferred} {KK : List Item} {CS : List Frame}
set_option maxRecDepth 100000 in
set_option maxHeartbeats 8000000 in
theorem ph2 (K : KnL Y 92 99 F' Kw) (hH : ∀ l (v v' : World), v'.heap[Y.Mp]? = v.heap[Y.Mp]? → Held l v → Held l v') (X : Bx Y F' Kw bk nb rb jb ja n cap0 j rule bs ns.length cap)
    (hUp : ∀ l0 w, KnO Held Kw l0 w → ∃ ob, UpB Try.prog Y.Mp (j : Int) val ob w ∧ Held (l0 ++ [k]) { w with heap := w.heap.setIfInBounds Y.Mp ob })
    (hRule : ∀ (s5 s6 s7 s8 s9 s10 s11 s12 s13 s14 s15 s16 s17 : Value) (rest : List Nat) (d : Nat) (l0 : List Nat), (∃ m, ∀ w, Kw w → Goes Try.prog false (RF Y 92 99 F' false) (DF Y (Y.b + 1 + k) F' false false) (AtW Try.prog Y 92 99 Held d k .af F' l0) m (G ((baseD 59).at ⟨#[.pointer (some ⟨Y.Wg, 0, none⟩), .pointer (some bk), .pointer (some nb), .pointer (some rb), .pointer (some jb), s5, s6, rule, .int .i64 (j : Int), s9, s10, s11, s12, s13, s14, .slice (some ⟨B, 0, none⟩) ns.length ns.length, .int .i64 val, s17], ds⟩ (.inRegion ops59 rest :: KK)) CS) w) → ∃ m, ∀ w, Kw w → Goes Try.prog false (RF Y 92 99 F' false) (DF Y (Y.b + 1 + k) F' false false) (AtW Try.prog Y 92 99 Held d k .af F' l0) m (G ((baseD 59).at ⟨#[.pointer (some ⟨Y.Wg, 0, none⟩), .pointer (some bk), .pointer (some nb), .pointer (some rb), .pointer (some jb), s5, s6, rule, .int .i64 (j : Int), s9, s10, s11, s12, s13, s14, .slice (some ⟨B, 0, none⟩) ns.length ns.length, s16, s17], ds⟩ (.inRegion ops59 (11 :: rest) :: KK)) CS) w)
    (hEnd : ∀ (s5 s6 s7 s8 s9 s10 s11 s12 s13 s14 s15 s16 s17 : Value) (d : Nat) (l0 : List Nat), ∃ m, ∀ w, Kw w → Goes Try.prog false (RF Y 92 99 F' false) (DF Y (Y.b + 1 + k) F' false false) (AtW Try.prog Y 92 99 Held d k (.dn .wr) F' l0) m (G ((baseD 59).at ⟨#[.pointer (some ⟨Y.Wg, 0, none⟩), .pointer (some bk), .pointer (some nb), .pointer (some rb), .pointer (some jb), s5, s6, s7, s8, s9, s10, s11, s12, s13, s14, s15, s16, s17], ds⟩ (.inRegion ops59 [] :: KK)) CS) w) :
    ∀ (ord : List Nat) (f0 f1 f2 f3 f11 : Bool) (s5 s6 s7 s8 s9 s10 s11 s12 s13 s14 s15 s16 s17 : Value), Ord .any ops59 #[f0, f1, f2, f3, true, true, true, true, true, true, true, f11, false] ord → (f0 = true → s5 = .pointer (some ⟨Y.Lg, 0, none⟩)) → (f1 = true → s6 = .int .i64 (j : Int)) → (f2 = true → s7 = rule) → (f3 = true → s8 = .int .i64 (j : Int)) → s15 = .slice (some ⟨B, 0, none⟩) ns.length ns.length → (f11 = true → s16 = .int .i64 val) → (f11 = true → f2 = true ∧ f3 = true) →
      ∀ (d : Nat) (l0 : List Nat), ∃ m, ∀ w, Kw w → Goes Try.prog false (RF Y 92 99 F' false) (DF Y (Y.b + 1 + k) F' false false) (AtW Try.prog Y 92 99 Held d k .af F' l0) m (G ((baseD 59).at ⟨#[.pointer (some ⟨Y.Wg, 0, none⟩), .pointer (some bk), .pointer (some nb), .pointer (some rb), .pointer (some jb), s5, s6, s7, s8, s9, s10, s11, s12, s13, s14, s15, s16, s17], ds⟩ (.inRegion ops59 ord :: KK)) CS) w := by
  intro ord
  induction ord with
  | nil =>
    intro f0 f1 f2 f3 f11 s5 s6 s7 s8 s9 s10 s11 s12 s13 s14 s15 s16 s17 hO
    cases hO with
    | nil h => have := rdy_nil h; cases this
  | cons i rest ih =>
    intro f0 f1 f2 f3 f11 s5 s6 s7 s8 s9 s10 s11 s12 s13 s14 s15 s16 s17 hO h0 h1 h2 h3 h15 h11 h23 d l0
    cases hO with
    | cons hr hO =>
    rcases rdy hr with ⟨rfl, e⟩ | ⟨rfl, e⟩ | ⟨rfl, e⟩ | ⟨rfl, e⟩ | ⟨rfl, e⟩ | ⟨rfl, e⟩ | ⟨rfl, e⟩ | ⟨rfl, e, g⟩ | ⟨rfl, e, g⟩ | ⟨rfl, e, g⟩ | ⟨rfl, e, g⟩ | ⟨rfl, e, g⟩ | ⟨rfl, e, g⟩
    · subst e
      obtain ⟨m, h⟩ := ih true f1 f2 f3 f11 (.pointer (some ⟨Y.Lg, 0, none⟩)) s6 s7 s8 s9 s10 s11 s12 s13 s14 s15 s16 s17 hO (fun _ => rfl) h1 h2 h3 h15 h11 h23 d l0
      refine ⟨m + 1, fun w hF => Goes.step rfl fun w₁ h₁ => ?_⟩
      replace hF := K.rl hF h₁
      rw [stepG_load78 rfl rfl (by k_ne) rfl rfl (X.cbk _ hF) loud59]
      exact ⟨df_ownr _ _ _ _ X.obk, h _ hF⟩
    · subst e
      obtain ⟨m, h⟩ := ih f0 true f2 f3 f11 s5 (.int .i64 (j : Int)) s7 s8 s9 s10 s11 s12 s13 s14 s15 s16 s17 hO h0 (fun _ => rfl) h2 h3 h15 h11 h23 d l0
      refine ⟨m + 1, fun w hF => Goes.step rfl fun w₁ h₁ => ?_⟩
      replace hF := K.rl hF h₁
      rw [stepG_load2 rfl rfl (by k_ne) rfl rfl (X.cnb _ hF) loud59]
      exact ⟨df_ownr _ _ _ _ X.onb, h _ hF⟩
    · subst e
      obtain ⟨m, h⟩ := ih f0 f1 true f3 f11 s5 s6 rule s8 s9 s10 s11 s12 s13 s14 s15 s16 s17 hO h0 h1 (fun _ => rfl) h3 h15 h11 (fun h => ⟨rfl, (h23 h).2⟩) d l0
      refine ⟨m + 1, fun w hF => Goes.step rfl fun w₁ h₁ => ?_⟩
      replace hF := K.rl hF h₁
      rw [stepG_load64 rfl rfl (by k_ne) rfl rfl (X.crb _ hF) loud59]
      exact ⟨df_ownr _ _ _ _ X.orb, h _ hF⟩
    · subst e
      obtain ⟨m, h⟩ := ih f0 f1 f2 true f11 s5 s6 s7 (.int .i64 (j : Int)) s9 s10 s11 s12 s13 s14 s15 s16 s17 hO h0 h1 h2 (fun _ => rfl) h15 h11 (fun h => ⟨(h23 h).1, rfl⟩) d l0
      refine ⟨m + 1, fun w hF => Goes.step rfl fun w₁ h₁ => ?_⟩
      replace hF := K.rl hF h₁
      rw [stepG_load2 rfl rfl (by k_ne) rfl rfl (X.cnb _ hF) loud59]
      exact ⟨df_ownr _ _ _ _ X.onb, h _ hF⟩
    · cases e
    · cases e
    · cases e
    · cases e
    · cases e
    · cases e
    · cases e
    · obtain ⟨g2, g3, -⟩ := g
      subst e g2 g3
      rw [h2 rfl, h3 rfl, h15]
      exact hRule s5 s6 rule (.int .i64 (j : Int)) s9 s10 s11 s12 s13 s14 (.slice (some ⟨B, 0, none⟩) ns.length ns.length) s16 s17 rest d l0 (ih f0 f1 true true true s5 s6 rule (.int .i64 (j : Int)) s9 s10 s11 s12 s13 s14 (.slice (some ⟨B, 0, none⟩) ns.length ns.length) (.int .i64 val) s17 hO h0 h1 (fun _ => rfl) (fun _ => rfl) rfl (fun _ => rfl) (fun _ => ⟨rfl, rfl⟩) d l0)
    · obtain ⟨g0, g1, g11⟩ := g
      subst g0 g1 g11
      obtain rfl := h0 rfl
      obtain rfl := h1 rfl
      obtain rfl := h11 rfl
      obtain ⟨rfl, rfl⟩ := h23 rfl
      obtain rfl : rest = [] := by
        cases hO with
        | nil h => rfl
        | cons hr _ => rcases rdy hr with ⟨_, e⟩ | ⟨_, e⟩ | ⟨_, e⟩ | ⟨_, e⟩ | ⟨_, e⟩ | ⟨_, e⟩ | ⟨_, e⟩ | ⟨_, e, _⟩ | ⟨_, e, _⟩ | ⟨_, e, _⟩ | ⟨_, e, _⟩ | ⟨_, e, _⟩ | ⟨_, e, _⟩ <;> cases e
      refine ⟨60, fun w hF => goes_dc0 (fun w => .idle w) ?_⟩
      have hK := fun (b₀ : Frame) (a₀ : Act) (ops₀ : Array Oper) (i₀ : Nat) (rest₀ : List Nat) (k₀ : List Item) (cs : List Frame) => keepGo (b₀ := b₀) (a₀ := a₀) (ops₀ := ops₀) (i₀ := i₀) (rest₀ := rest₀) (k₀ := k₀) (cs := cs) (k := k) (lg := l0) (num := (j : Int)) (val := val) K hH hUp
      simp only [body61, Try.f61, Option.getD_some] at hK
      u_call Try.func61 nm61 Try.f61 K.rl hF
      refine goes_le (by omega) (hK _ _ _ _ _ _ _ (by k_ne) (fun d l0 => ?_) d _ hF)
      exact hEnd (.pointer (some ⟨Y.Lg, 0, none⟩)) (.int .i64 (j : Int)) s7 s8 s9 s10 s11 s12 s13 s14 s15 (.int .i64 val) (.tuple #[]) d l0
end
end Go.Proofs.Ytpmmimcafkillaa.Tr

set_option linter.unusedVariables false
set_option linter.unusedSimpArgs false
namespace Go.Proofs.Ytpmmimcafkillaa.Tr
open Go Go.Conc Go.ConcN Go.RowKit Go.Conc.Lib Go.ConcR.Gen Go.ConcM
open Go.ConcR (KK wgBlock WgAt stA smA rd wr mk DC0)
open Go.Proofs.Ytpmmimcafkillaa.Mx
open Go.Proofs.Ytpmmimcafkillaa.Mx (Mu St)
theorem Bx.mono {Y : Lay} {F F' : Nat → Prop} {Kn Kw : World → Prop} {bk nb rb jb ja : Addr} {n cap0 j : Nat} {rule : Value} {bs : Option Addr} {nn cap : Nat} (X : Bx Y F Kn bk nb rb jb ja n cap0 j rule bs nn cap) (hF : ∀ f, F f → F' f) (hK : ∀ w, Kw w → Kn w) : Bx Y F' Kw bk nb rb jb ja n cap0 j rule bs nn cap :=
  ⟨fun w h => X.cbk w (hK w h), X.obk.imp_left (hF _), fun w h => X.cnb w (hK w h), X.onb.imp_left (hF _), fun w h => X.crb w (hK w h), X.orb.imp_left (hF _), fun w h => X.cjb w (hK w h), X.ojb.imp_left (hF _), fun w h => X.cnd w (hK w h), X.ond.imp_left (hF _), X.lt⟩
section
variable {Y : Lay} {Held : List Nat → World → Prop} {F : Nat → Prop} {Kn : World → Prop} {lg : List Nat} {vs : List Int} {k : Nat} {bk nb rb jb ja : Addr} {n cap0 j : Nat} {rule : Value} {bs : Option Addr} {ns : List Int} {cap : Nat} {val : Int}
variable {ds : List Deferred} {KK : List Item} {CS : List Frame}
set_option maxRecDepth 100000 in
set_option maxHeartbeats 8000000 in
theorem ph1 (K : KnL Y 92 99 F Kn) (hH : ∀ l (v v' : World), v'.heap[Y.Mp]? = v.heap[Y.Mp]? → Held l v → Held l v') (X : Bx Y F Kn bk nb rb jb ja n cap0 j rule bs ns.length cap) (hn : ns.length ≤ 20) (hv : vs.length = ns.length)
    (hRd : ∀ w, Kn w → ∀ (j : Nat) (n : Int), ns[j]? = some n → ∃ ad, bs = some ad ∧ w.cell? (ad.add j) = some (.int .i64 n) ∧ Y.Ro (.cell (ad.add j)))
    (hLook : ∀ l0 w, KnO Held Kn l0 w → ∃ l, MpAt Y.Mp w l ∧ ∀ (j : Nat) (n v : Int), ns[j]? = some n → vs[j]? = some v → look l n = some v)
    (hUp : ∀ l0 w, KnO Held Kn l0 w → ∃ ob, UpB Try.prog Y.Mp (j : Int) val ob w ∧ Held (l0 ++ [k]) { w with heap := w.heap.setIfInBounds Y.Mp ob })
    (hRule : ∀ (F' : Nat → Prop) (B : Nat), (∀ f, F f → F' f) → F' B → ∀ (s5 s6 s7 s8 s9 s10 s11 s12 s13 s14 s15 s16 s17 : Value) (rest : List Nat) (d : Nat) (l0 : List Nat), (∃ m, ∀ w, Kb Y Kn F' B (.cells (vs.map (Value.int .i64)).toArray 2 (0, 0)) w → Goes Try.prog false (RF Y 92 99 F' false) (DF Y (Y.b + 1 + k) F' false false) (AtW Try.prog Y 92 99 Held d k .af F' l0) m (G ((baseD 59).at ⟨#[.pointer (some ⟨Y.Wg, 0, none⟩), .pointer (some bk), .pointer (some nb), .pointer (some rb), .pointer (some jb), s5, s6, rule, .int .i64 (j : Int), s9, s10, s11, s12, s13, s14, .slice (some ⟨B, 0, none⟩) ns.length ns.length, .int .i64 val, s17], ds⟩ (.inRegion ops59 rest :: KK)) CS) w) → ∃ m, ∀ w, Kb Y Kn F' B (.cells (vs.map (Value.int .i64)).toArray 2 (0, 0)) w → Goes Try.prog false (RF Y 92 99 F' false) (DF Y (Y.b + 1 + k) F' false false) (AtW Try.prog Y 92 99 Held d k .af F' l0) m (G ((baseD 59).at ⟨#[.pointer (some ⟨Y.Wg, 0, none⟩), .pointer (some bk), .pointer (some nb), .pointer (some rb), .pointer (some jb), s5, s6, rule, .int .i64 (j : Int), s9, s10, s11, s12, s13, s14, .slice (some ⟨B, 0, none⟩) ns.length ns.length, s16, s17], ds⟩ (.inRegion ops59 (11 :: rest) :: KK)) CS) w)
    (hEnd : ∀ (F' : Nat → Prop) (B : Nat), (∀ f, F f → F' f) → F' B → ∀ (s5 s6 s7 s8 s9 s10 s11 s12 s13 s14 s15 s16 s17 : Value) (d : Nat) (l0 : List Nat), ∃ m, ∀ w, Kb Y Kn F' B (.cells (vs.map (Value.int .i64)).toArray 2 (0, 0)) w → Goes Try.prog false (RF Y 92 99 F' false) (DF Y (Y.b + 1 + k) F' false false) (AtW Try.prog Y 92 99 Held d k (.dn .wr) F' l0) m (G ((baseD 59).at ⟨#[.pointer (some ⟨Y.Wg, 0, none⟩), .pointer (some bk), .pointer (some nb), .pointer (some rb), .pointer (some jb), s5, s6, s7, s8, s9, s10, s11, s12, s13, s14, s15, s16, s17], ds⟩ (.inRegion ops59 [] :: KK)) CS) w) :
    ∀ (ord : List Nat) (f0 f1 f2 f3 f4 f5 f6 f7 f8 f9 : Bool) (s5 s6 s7 s8 s9 s10 s11 s12 s13 s14 s15 s16 s17 : Value), Ord .any ops59 #[f0, f1, f2, f3, f4, f5, f6, f7, f8, f9, false, false, false] ord → (f0 = true → s5 = .pointer (some ⟨Y.Lg, 0, none⟩)) → (f1 = true → s6 = .int .i64 (j : Int)) → (f2 = true → s7 = rule) → (f3 = true → s8 = .int .i64 (j : Int)) → (f4 = true → s9 = .pointer (some ⟨Y.Lg, 0, none⟩)) → (f5 = true → s10 = .slice (some ja) n cap0) → (f6 = true → s11 = .int .i64 (j : Int)) → (f7 = true → s12 = .pointer (some (ja.add (j * 4)))) → (f8 = true → s13 = .pointer (some ((ja.add (j * 4)).add 2))) → (f9 = true → s14 = .slice bs ns.length cap) → (f9 = true → f8 = true) → (f8 = true → f7 = true) → (f7 = true → f5 = true ∧ f6 = true) →
      ∀ (d : Nat), ∃ m, ∀ w, Kn w → Goes Try.prog false (RF Y 92 99 F false) (DF Y (Y.b + 1 + k) F false false) (AtW Try.prog Y 92 99 Held d k (.k1 .ld) F lg) m (G ((baseD 59).at ⟨#[.pointer (some ⟨Y.Wg, 0, none⟩), .pointer (some bk), .pointer (some nb), .pointer (some rb), .pointer (some jb), s5, s6, s7, s8, s9, s10, s11, s12, s13, s14, s15, s16, s17], ds⟩ (.inRegion ops59 ord :: KK)) CS) w := by
  intro ord
  induction ord with
  | nil =>
    intro f0 f1 f2 f3 f4 f5 f6 f7 f8 f9 s5 s6 s7 s8 s9 s10 s11 s12 s13 s14 s15 s16 s17 hO
    cases hO with
    | nil h => have := rdy_nil h; cases this
  | cons i rest ih =>
    intro f0 f1 f2 f3 f4 f5 f6 f7 f8 f9 s5 s6 s7 s8 s9 s10 s11 s12 s13 s14 s15 s16 s17 hO h0 h1 h2 h3 h4 h5 h6 h7 h8 h9 i9 i8 i7 d
    cases hO with
    | cons hr hO =>
    rcases rdy hr with ⟨rfl, e⟩ | ⟨rfl, e⟩ | ⟨rfl, e⟩ | ⟨rfl, e⟩ | ⟨rfl, e⟩ | ⟨rfl, e⟩ | ⟨rfl, e⟩ | ⟨rfl, e, g⟩ | ⟨rfl, e, g⟩ | ⟨rfl, e, g⟩ | ⟨rfl, e, g⟩ | ⟨rfl, e, g⟩ | ⟨rfl, e, g⟩
    · subst e
      obtain ⟨m, h⟩ := ih true f1 f2 f3 f4 f5 f6 f7 f8 f9 (.pointer (some ⟨Y.Lg, 0, none⟩)) s6 s7 s8 s9 s10 s11 s12 s13 s14 s15 s16 s17 hO (fun _ => rfl) h1 h2 h3 h4 h5 h6 h7 h8 h9 i9 i8 i7 d
      refine ⟨m + 1, fun w hF => Goes.step rfl fun w₁ h₁ => ?_⟩
      replace hF := K.rl hF h₁
      rw [stepG_load78 rfl rfl (by k_ne) rfl rfl (X.cbk _ hF) loud59]
      exact ⟨df_ownr _ _ _ _ X.obk, h _ hF⟩
    · subst e
      obtain ⟨m, h⟩ := ih f0 true f2 f3 f4 f5 f6 f7 f8 f9 s5 (.int .i64 (j : Int)) s7 s8 s9 s10 s11 s12 s13 s14 s15 s16 s17 hO h0 (fun _ => rfl) h2 h3 h4 h5 h6 h7 h8 h9 i9 i8 i7 d
      refine ⟨m + 1, fun w hF => Goes.step rfl fun w₁ h₁ => ?_⟩
      replace hF := K.rl hF h₁
      rw [stepG_load2 rfl rfl (by k_ne) rfl rfl (X.cnb _ hF) loud59]
      exact ⟨df_ownr _ _ _ _ X.onb, h _ hF⟩
    · subst e
      obtain ⟨m, h⟩ := ih f0 f1 true f3 f4 f5 f6 f7 f8 f9 s5 s6 rule s8 s9 s10 s11 s12 s13 s14 s15 s16 s17 hO h0 h1 (fun _ => rfl) h3 h4 h5 h6 h7 h8 h9 i9 i8 i7 d
      refine ⟨m + 1, fun w hF => Goes.step rfl fun w₁ h₁ => ?_⟩
      replace hF := K.rl hF h₁
      rw [stepG_load64 rfl rfl (by k_ne) rfl rfl (X.crb _ hF) loud59]
      exact ⟨df_ownr _ _ _ _ X.orb, h _ hF⟩
    · subst e
      obtain ⟨m, h⟩ := ih f0 f1 f2 true f4 f5 f6 f7 f8 f9 s5 s6 s7 (.int .i64 (j : Int)) s9 s10 s11 s12 s13 s14 s15 s16 s17 hO h0 h1 h2 (fun _ => rfl) h4 h5 h6 h7 h8 h9 i9 i8 i7 d
      refine ⟨m + 1, fun w hF => Goes.step rfl fun w₁ h₁ => ?_⟩
      replace hF := K.rl hF h₁
      rw [stepG_load2 rfl rfl (by k_ne) rfl rfl (X.cnb _ hF) loud59]
      exact ⟨df_ownr _ _ _ _ X.onb, h _ hF⟩
    · subst e
      obtain ⟨m, h⟩ := ih f0 f1 f2 f3 true f5 f6 f7 f8 f9 s5 s6 s7 s8 (.pointer (some ⟨Y.Lg, 0, none⟩)) s10 s11 s12 s13 s14 s15 s16 s17 hO h0 h1 h2 h3 (fun _ => rfl) h5 h6 h7 h8 h9 i9 i8 i7 d
      refine ⟨m + 1, fun w hF => Goes.step rfl fun w₁ h₁ => ?_⟩
      replace hF := K.rl hF h₁
      rw [stepG_load78 rfl rfl (by k_ne) rfl rfl (X.cbk _ hF) loud59]
      exact ⟨df_ownr _ _ _ _ X.obk, h _ hF⟩
    · subst e
      obtain ⟨m, h⟩ := ih f0 f1 f2 f3 f4 true f6 f7 f8 f9 s5 s6 s7 s8 s9 (.slice (some ja) n cap0) s11 s12 s13 s14 s15 s16 s17 hO h0 h1 h2 h3 h4 (fun _ => rfl) h6 h7 h8 h9 i9 i8 (fun h => ⟨rfl, (i7 h).2⟩) d
      refine ⟨m + 1, fun w hF => Goes.step rfl fun w₁ h₁ => ?_⟩
      replace hF := K.rl hF h₁
      rw [stepG_load24 rfl rfl (by k_ne) rfl rfl (X.cjb _ hF) loud59]
      exact ⟨df_ownr _ _ _ _ X.ojb, h _ hF⟩
    · subst e
      obtain ⟨m, h⟩ := ih f0 f1 f2 f3 f4 f5 true f7 f8 f9 s5 s6 s7 s8 s9 s10 (.int .i64 (j : Int)) s12 s13 s14 s15 s16 s17 hO h0 h1 h2 h3 h4 h5 (fun _ => rfl) h7 h8 h9 i9 i8 (fun h => ⟨(i7 h).1, rfl⟩) d
      refine ⟨m + 1, fun w hF => Goes.step rfl fun w₁ h₁ => ?_⟩
      replace hF := K.rl hF h₁
      rw [stepG_load2 rfl rfl (by k_ne) rfl rfl (X.cnb _ hF) loud59]
      exact ⟨df_ownr _ _ _ _ X.onb, h _ hF⟩
    · subst e
      obtain ⟨m, h⟩ := ih f0 f1 f2 f3 f4 f5 f6 true f8 f9 s5 s6 s7 s8 s9 s10 s11 (.pointer (some (ja.add (j * 4)))) s13 s14 s15 s16 s17 hO h0 h1 h2 h3 h4 h5 h6 (fun _ => rfl) h8 h9 i9 (fun _ => rfl) (fun _ => g) d
      refine ⟨m + 1, fun w hF => Goes.step rfl fun w₁ h₁ => ?_⟩
      replace hF := K.rl hF h₁
      rw [h5 g.1, h6 g.2, stepG_task rfl rfl (by k_ne) rfl rfl rfl X.lt]
      exact ⟨.idle _, by have := h _ hF; rwa [h5 g.1, h6 g.2] at this⟩
    · subst e
      obtain ⟨m, h⟩ := ih f0 f1 f2 f3 f4 f5 f6 f7 true f9 s5 s6 s7 s8 s9 s10 s11 s12 (.pointer (some ((ja.add (j * 4)).add 2))) s14 s15 s16 s17 hO h0 h1 h2 h3 h4 h5 h6 h7 (fun _ => rfl) h9 (fun _ => rfl) (fun _ => g) i7 d
      refine ⟨m + 1, fun w hF => Goes.step rfl fun w₁ h₁ => ?_⟩
      replace hF := K.rl hF h₁
      rw [h7 g, stepG_field rfl rfl (by k_ne) rfl rfl]
      exact ⟨.idle _, by have := h _ hF; rwa [h7 g] at this⟩
    · subst e
      obtain ⟨m, h⟩ := ih f0 f1 f2 f3 f4 f5 f6 f7 f8 true s5 s6 s7 s8 s9 s10 s11 s12 s13 (.slice bs ns.length cap) s15 s16 s17 hO h0 h1 h2 h3 h4 h5 h6 h7 h8 (fun _ => rfl) (fun _ => g) i8 i7 d
      refine ⟨m + 1, fun w hF => Goes.step rfl fun w₁ h₁ => ?_⟩
      replace hF := K.rl hF h₁
      rw [h8 g]
      rw [stepG_load29 rfl rfl (by k_ne) rfl rfl (X.cnd _ hF) loud59]
      exact ⟨df_ownr _ _ _ _ X.ond, (by have := h _ hF; rwa [h8 g] at this)⟩
    · obtain ⟨g4, g9⟩ := g
      have g8 := i9 g9
      have g7 := i8 g8
      obtain ⟨g5, g6⟩ := i7 g7
      subst g4 g9 g8 g7 g5 g6
      rw [h4 rfl, h9 rfl]
      refine ⟨100, fun w hF => goes_dc0 (fun w => .idle w) ?_⟩
      have hK := fun (b₀ : Frame) (a₀ : Act) (ops₀ : Array Oper) (i₀ : Nat) (rest₀ : List Nat) (k₀ : List Item) (cs : List Frame) => valuesGo (b₀ := b₀) (a₀ := a₀) (ops₀ := ops₀) (i₀ := i₀) (rest₀ := rest₀) (k₀ := k₀) (cs := cs) (k := k) (lg := lg) (cap := cap) K hH hn hv hRd hLook
      simp only [body62, Try.f62, Option.getD_some] at hK
      u_call Try.func62 nm62 Try.f62 K.rl hF
      refine goes_le (by omega) (hK _ _ _ _ _ _ _ (fun F' B hs hB d l0 => ?_) (by k_ne) d _ hF)
      have hk : ∀ w, Kb Y Kn F' B (.cells (vs.map (Value.int .i64)).toArray 2 (0, 0)) w → Kn w := fun w h => h.kn
      exact ph2 (K.kb hs hB) hH (X.mono hs hk) (fun l0 w h => hUp l0 w ⟨h.kn.kn, h.held⟩) (hRule F' B hs hB) (hEnd F' B hs hB) rest f0 f1 f2 f3 false s5 s6 s7 s8 (.pointer (some ⟨Y.Lg, 0, none⟩)) s10 s11 s12 s13 (.slice bs ns.length cap) (.slice (some ⟨B, 0, none⟩) ns.length ns.length) s16 s17 hO h0 h1 h2 h3 rfl (by simp) (by simp) d l0
    · obtain ⟨-, -, g⟩ := g
      cases g
    · obtain ⟨-, -, g⟩ := g
      cases g
end
end Go.Proofs.Ytpmmimcafkillaa.Tr
