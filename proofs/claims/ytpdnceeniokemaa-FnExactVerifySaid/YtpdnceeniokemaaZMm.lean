/-
  The starter's own functions and the group's are of ordinary code.
  Lists of numbers in memory: owned rows and lists that are read, and contracts of the law's functions that copy them, hold them against each other, write marks into them and look for these again.
-/
import Derived.Test.YtpdnceeniokemaaZFj
import Derived.Test.YtpdnceeniokemaaProg
import Derived.WalkKit
import Derived.WalkSpells
import Derived.WalkLawsBesides
import Derived.Deep.QuietTactic
import Derived.BigQuiet
import Derived.Deep.RegionHeld3
import Derived.Outline
import Derived.Deep.AppendLies
import Derived.Lib.MinMax
set_option linter.unusedVariables false
set_option linter.unusedSimpArgs false
namespace Go.Proofs.Ytpdnceeniokemaa.Ct
open Go Go.Conc
theorem lv_und {P : Program} (t : TypeId) : Lv P (fun u => P.underlying t = some u) (underlying t) := by
  unfold underlying
  show Lv P _ (match P.underlying t with | some d => pure d | none => stuck "no such type")
  cases P.underlying t with
  | none => exact lv_stuck _
  | some d => exact rfl
theorem lv_conv {P : Program} {s d u : TypeId} (hs : P.underlying s = some (.pointer u)) (hd : P.underlying d = some .unsafePointer) (x : Value) : Lv P (fun _ => True) (convert s d x) := by
  unfold convert
  refine Lv.bind ((lv_und s).mono fun a ha => ?_)
  rw [hs] at ha
  cases ha
  refine Lv.bind ((lv_und d).mono fun a ha => ?_)
  rw [hd] at ha
  cases ha
  show Lv P _ (Conv.unsafePointer s d x)
  unfold Conv.unsafePointer
  refine Lv.bind ((lv_und s).mono fun a ha => ?_)
  rw [hs] at ha
  cases ha
  refine Lv.bind ((lv_und d).mono fun a ha => ?_)
  rw [hd] at ha
  cases ha
  repeat' (first | contradiction | exact lv_seenAt _ | exact lv_cellsIn _ | with_reducible exact lv_stuck _ | with_reducible exact lv_new _ | with_reducible exact lt_sizeOf _ | exact True.intro | (refine lv_bind ?_ (fun _ => ?_)) | split | dsimp only)

def FS : FuncId → Bool := fun f => [66, 77, 80, 94, 95, 97, 98, 103].contains f
def FP (f : FuncId) : Prop := FS f = true
def Zs : Br.Sig := ⟨FS, fun _ => [], 69⟩
theorem bodS : Br.Bodied Try.prog FS := by
  intro f hf
  have h' : f ∈ [66, 77, 80, 94, 95, 97, 98, 103] := by simpa [FS] using hf
  simp only [List.mem_cons, List.not_mem_nil, or_false] at h'
  rcases h' with rfl | rfl | rfl | rfl | rfl | rfl | rfl | rfl
  · exact ⟨Try.f66, Try.f66.body.getD .skip, Try.func66, by kernel_rfl, rfl⟩
  · exact ⟨Try.f77, Try.f77.body.getD .skip, Try.func77, by kernel_rfl, rfl⟩
  · exact ⟨Try.f80, Try.f80.body.getD .skip, Try.func80, by kernel_rfl, rfl⟩
  · exact ⟨Try.f94, Try.f94.body.getD .skip, Try.func94, by kernel_rfl, rfl⟩
  · exact ⟨Try.f95, Try.f95.body.getD .skip, Try.func95, by kernel_rfl, rfl⟩
  · exact ⟨Try.f97, Try.f97.body.getD .skip, Try.func97, by kernel_rfl, rfl⟩
  · exact ⟨Try.f98, Try.f98.body.getD .skip, Try.func98, by kernel_rfl, rfl⟩
  · exact ⟨Try.f103, Try.f103.body.getD .skip, Try.func103, by kernel_rfl, rfl⟩
noncomputable def okS (o : Oper) : Bool := Br.okOp Zs Try.prog [] o || match o.op with
  | .panic _ => true
  | .makeFunc .. => true
  | .go c => (match c.callee with | .value _ => true | _ => false)
  | .defer c => (match c.callee with | .value (.func f) => exL.contains f | _ => false)
  | .convert s d _ => (s == 114 || s == 122) && d == 116
  | .call c => (match c.callee with | .value (.func f) => exL.contains f | _ => false)
  | _ => false
set_option maxRecDepth 100000 in
theorem okS_ok {o : Oper} (h : okS o = true) : OkO Try.prog FP o := by
  intro fr
  unfold okS at h
  rw [Bool.or_eq_true] at h
  rcases h with h | h
  · have := (Br.op_execOp (p := Try.prog) (G := Zs) bodS (K := []) (ρ := fr.eval) (fun f => rfl) (fun t ht => by cases ht) h).1
    refine (lv_lf this).mono fun n hn => ?_
    cases n <;> first | trivial | exact hn.1 | exact hn.elim
  · obtain ⟨dst, op, ty, pos, aft, gd⟩ := o
    simp only at h
    unfold execOp
    cases op <;> simp only at h ⊢ <;> try (first | exact absurd h Bool.false_ne_true | (exact h.elim))
    case panic x => exact lv_val (lv_panicI _)
    case makeFunc => exact lv_val (lv_pure _)
    case convert s d x =>
      simp only [Bool.and_eq_true, Bool.or_eq_true, beq_iff_eq] at h
      obtain ⟨h1 | h1, rfl⟩ := h
      · subst h1; exact lv_val (lv_conv Try.underlying114 Try.underlying116 _)
      · subst h1; exact lv_val (lv_conv Try.underlying122 Try.underlying116 _)
    case go c =>
      refine lv_bind (s := resolve fr.eval c ty) ?_ fun _ => trivial
      unfold resolve Deferred.ofValue
      split
      · exact True.intro
      · exact True.intro
      · split <;> first | exact True.intro | exact lv_stuck _
    case defer c =>
      obtain ⟨cal, ars, ats⟩ := c
      cases cal <;> simp only at h <;> try (first | exact absurd h Bool.false_ne_true | cases h)
      rename_i f
      cases f <;> simp only at h <;> try (first | exact absurd h Bool.false_ne_true | cases h)
      rename_i f
      refine ⟨fun r e => (by cases e), ?_⟩
      refine Lv.mono (fun n hn => ?_) (ext_all h _)
      obtain ⟨v, rfl⟩ := hn
      trivial
    case call c =>
      obtain ⟨cal, ars, ats⟩ := c
      cases cal <;> simp only at h <;> try (first | exact absurd h Bool.false_ne_true | cases h)
      rename_i f
      cases f <;> simp only at h <;> try (first | exact absurd h Bool.false_ne_true | cases h)
      rename_i f
      refine Lv.mono (fun n hn => ?_) (ext_all h _)
      obtain ⟨v, rfl⟩ := hn
      trivial
noncomputable def cOk : Code → Bool
  | .skip | .label _ | .exit _ | .goto _ | .ret | .refuse _ => true
  | .region _ ops _ => ops.toList.all okS
  | .seq a b => cOk a && cOk b
  | .cond _ a b => cOk a && cOk b
  | .block _ b => cOk b
  | .loop b => cOk b
  | .scope b => cOk b
  | .rangeFunc .. => false
theorem ops_ok {ops : Array Oper} (h : ops.toList.all okS = true) : ∀ o ∈ ops, OkO Try.prog FP o := fun o ho => okS_ok (List.all_eq_true.1 h o (Array.mem_toList_iff.2 ho))
theorem cOk_ok : ∀ {c : Code}, cOk c = true → okC Try.prog FP c
  | .skip, _ | .label _, _ | .exit _, _ | .goto _, _ | .ret, _ | .refuse _, _ => trivial
  | .region _ ops _, h => ops_ok h
  | .seq a b, h => by simp only [cOk, Bool.and_eq_true] at h; exact ⟨cOk_ok h.1, cOk_ok h.2⟩
  | .cond _ a b, h => by simp only [cOk, Bool.and_eq_true] at h; exact ⟨cOk_ok h.1, cOk_ok h.2⟩
  | .block _ b, h => cOk_ok (c := b) h
  | .loop b, h => cOk_ok (c := b) h
  | .scope b, h => cOk_ok (c := b) h
set_option maxRecDepth 100000 in
theorem setS : SetOk Try.prog FP := by
  have h' : ∀ f, FP f → f ∈ [66, 77, 80, 94, 95, 97, 98, 103] := fun f hf => by simpa [FP, FS] using hf
  refine ⟨fun f hf => ?_, fun f hf => ?_⟩
  · have := h' f hf
    simp only [List.mem_cons, List.not_mem_nil, or_false] at this
    rcases this with rfl | rfl | rfl | rfl | rfl | rfl | rfl | rfl
    · exact ⟨Try.f66, Try.f66.body.getD .skip, Try.func66, rfl, cOk_ok (by kernel_rfl)⟩
    · exact ⟨Try.f77, Try.f77.body.getD .skip, Try.func77, rfl, cOk_ok (by kernel_rfl)⟩
    · exact ⟨Try.f80, Try.f80.body.getD .skip, Try.func80, rfl, cOk_ok (by kernel_rfl)⟩
    · exact ⟨Try.f94, Try.f94.body.getD .skip, Try.func94, rfl, cOk_ok (by kernel_rfl)⟩
    · exact ⟨Try.f95, Try.f95.body.getD .skip, Try.func95, rfl, cOk_ok (by kernel_rfl)⟩
    · exact ⟨Try.f97, Try.f97.body.getD .skip, Try.func97, rfl, cOk_ok (by kernel_rfl)⟩
    · exact ⟨Try.f98, Try.f98.body.getD .skip, Try.func98, rfl, cOk_ok (by kernel_rfl)⟩
    · exact ⟨Try.f103, Try.f103.body.getD .skip, Try.func103, rfl, cOk_ok (by kernel_rfl)⟩
  · have := h' f hf
    simp only [List.mem_cons, List.not_mem_nil, or_false] at this
    rcases this with rfl | rfl | rfl | rfl | rfl | rfl | rfl | rfl
    · have h : Try.prog.inits.idxOf? 66 = none := by kernel_rfl
      exact h
    · have h : Try.prog.inits.idxOf? 77 = none := by kernel_rfl
      exact h
    · have h : Try.prog.inits.idxOf? 80 = none := by kernel_rfl
      exact h
    · have h : Try.prog.inits.idxOf? 94 = none := by kernel_rfl
      exact h
    · have h : Try.prog.inits.idxOf? 95 = none := by kernel_rfl
      exact h
    · have h : Try.prog.inits.idxOf? 97 = none := by kernel_rfl
      exact h
    · have h : Try.prog.inits.idxOf? 98 = none := by kernel_rfl
      exact h
    · have h : Try.prog.inits.idxOf? 103 = none := by kernel_rfl
      exact h
theorem lateS : Late Try.prog := ⟨late_of (by decide +kernel), by kernel_rfl⟩
end Go.Proofs.Ytpdnceeniokemaa.Ct

namespace Go.Proofs.Ytpdnceeniokemaa
open Go.RowKit
set_option linter.unusedVariables false
set_option linter.unusedSimpArgs false

theorem hide {p : Prop} (h : p) : Hid p := h
theorem unhide {p : Prop} (h : Hid p) : p := h
theorem ret_int {k : IntKind} {a b : Int} (h : a = b) : Ending.returned (.int k a) = .returned (.int k b) := by rw [h]
theorem ret_bool {a b : Bool} (h : a = b) : Ending.returned (.bool a) = .returned (.bool b) := by rw [h]
theorem bcell {W w1 : World} (hb : Below W.heap.size W w1) : (∀ b o, b < W.heap.size → w1.cell? ⟨b, o, none⟩ = W.cell? ⟨b, o, none⟩) ∧ (∀ b o, b < W.heap.size → w1.frozen? ⟨b, o, none⟩ = W.frozen? ⟨b, o, none⟩) :=
  ⟨fun b o h => hb.cell (p := ⟨b, o, none⟩) h, fun b o h => hb.frozen (p := ⟨b, o, none⟩) h⟩
abbrev iv (x : Int) : Value := .int .i64 x
theorem own_mono {w : World} {B B' n m : Nat} {e : TypeId} {v : Value} {xs : List Value} (h : w.ownsRow B e m v n xs) (hB : B' ≤ B) : w.ownsRow B' e m v n xs := by
  obtain ⟨h1, h2⟩ := h
  refine ⟨h1, ?_⟩
  rcases h2 with h2 | ⟨g, cap, cur, hv, hg, r⟩
  · exact Or.inl h2
  · exact Or.inr ⟨g, cap, cur, hv, by omega, r⟩
theorem own_up {w : World} {B B' g n m cap : Nat} {e : TypeId} {xs : List Value} (h : w.ownsRow B e m (.slice (some ⟨g, 0, none⟩) n cap) n xs) (hB : B' ≤ g) : w.ownsRow B' e m (.slice (some ⟨g, 0, none⟩) n cap) n xs := by
  obtain ⟨h1, h2⟩ := h
  refine ⟨h1, ?_⟩
  rcases h2 with h2 | ⟨g', cap', cur, hv, hg, r⟩
  · exact Or.inl h2
  · refine Or.inr ⟨g', cap', cur, hv, ?_, r⟩
    injection hv with e1
    injection e1 with e1
    injection e1 with e1
    omega
theorem ownsRow_below {w w1 : World} {B n m : Nat} {e : TypeId} {v : Value} {xs : List Value} (h : w.ownsRow B e m v n xs) (hb : Below w.heap.size w w1) : w1.ownsRow B e m v n xs := by
  obtain ⟨h1, h2⟩ := h
  refine ⟨h1, ?_⟩
  rcases h2 with h2 | ⟨g, cap, cur, hv, hg, hh, r⟩
  · exact Or.inl h2
  · exact Or.inr ⟨g, cap, cur, hv, hg, by rw [hb.block g (by have := (Array.getElem?_eq_some_iff.1 hh).1; exact this)]; exact hh, r⟩
theorem own_lt {w : World} {B g n cap m : Nat} {e : TypeId} {xs : List Value} (h : w.ownsRow B e m (.slice (some ⟨g, 0, none⟩) n cap) n xs) : g < w.heap.size := (h.lt g rfl).2
theorem own_ge {w : World} {B g n cap m : Nat} {e : TypeId} {xs : List Value} (h : w.ownsRow B e m (.slice (some ⟨g, 0, none⟩) n cap) n xs) : B ≤ g := (h.lt g rfl).1
theorem own_blk {w w1 : World} {B C g n m cap : Nat} {e : TypeId} {xs : List Value} (ho : w.ownsRow B e m (.slice (some ⟨g, 0, none⟩) n cap) n xs) (hb : Below C w w1) (hg : g < C) : w1.ownsRow B e m (.slice (some ⟨g, 0, none⟩) n cap) n xs := by
  obtain ⟨h1, h2⟩ := ho
  refine ⟨h1, ?_⟩
  rcases h2 with h2 | ⟨g', cap', cur, hv, hB, hh, r⟩
  · exact Or.inl h2
  · refine Or.inr ⟨g', cap', cur, hv, hB, ?_, r⟩
    injection hv with e1
    injection e1 with e1
    injection e1 with e1
    subst e1
    rw [hb.block g hg]; exact hh
theorem own_kept {w w1 : World} {B g n m cap h : Nat} {e : TypeId} {xs : List Value} (ho : w.ownsRow B e m (.slice (some ⟨g, 0, none⟩) n cap) n xs) (hg : w.grownBy w1 (some h)) (hne : g ≠ h) : w1.ownsRow B e m (.slice (some ⟨g, 0, none⟩) n cap) n xs := by
  have hlt := own_lt ho
  obtain ⟨h1, h2⟩ := ho
  refine ⟨h1, ?_⟩
  rcases h2 with h2 | ⟨g', cap', cur, hv, hB, hh, r⟩
  · exact Or.inl h2
  · refine Or.inr ⟨g', cap', cur, hv, hB, ?_, r⟩
    injection hv with e1
    injection e1 with e1
    injection e1 with e1
    subst e1
    rw [hg.block g hlt (by intro hh; injection hh with hh; exact hne hh)]; exact hh
theorem below_grown {W w w1 : World} {g : Nat} (h : Below W.heap.size W w) (hg : w.grownBy w1 (some g)) (hB : W.heap.size ≤ g) : Below W.heap.size W w1 :=
  h.grown hg h.size (fun k hk => by injection hk with hk; omega)
theorem laterB {W w w1 : World} (h : Below W.heap.size W w) (hb : Below w.heap.size w w1) : Below W.heap.size W w1 := h.trans (hb.mono h.size)
/-- the first i cells bear the marks from q on -/
def Mkd (q : Int) (i : Nat) (xs : List Value) : Prop := ∀ j, j < i → xs[j]? = some (iv (q + j))
theorem Mkd.set {q : Int} {i : Nat} {xs : List Value} (h : Mkd q i xs) (hi : i < xs.length) : Mkd q (i + 1) (xs.set i (iv (q + i))) := by
  intro j hj
  by_cases e : j = i
  · subst e; simp [hi]
  · rw [List.getElem?_set_ne (by omega)]; exact h j (by omega)
theorem grown_refl (w : World) (g : Option Nat) : w.grownBy w g := ⟨rfl, rfl, rfl, Nat.le_refl _, fun _ _ _ => rfl⟩
theorem grown_trans {w w1 w2 : World} {g : Option Nat} (h : w.grownBy w1 g) (k : w1.grownBy w2 g) : w.grownBy w2 g :=
  ⟨k.os.trans h.os, k.tape.trans h.tape, k.output.trans h.output, Nat.le_trans h.size k.size, fun j hj hn => (k.block j (Nat.lt_of_lt_of_le hj h.size) hn).trans (h.block j hj hn)⟩
theorem grown_set {w w1 : World} {g i : Nat} {v : Value} (h : w.grownBy w1 (some g)) : w.grownBy (w1.setCell ⟨g, i, none⟩ v) (some g) :=
  grown_trans h ⟨rfl, rfl, rfl, by simp, fun j hj hn => by
    have hg : g ≠ j := fun e => hn (by rw [e])
    simp [World.setCell, Array.getElem?_modify, hg]⟩
theorem own_at {w : World} {B g n m cap i : Nat} {e : TypeId} {xs : List Value} (h : w.ownsRow B e m (.slice (some ⟨g, 0, none⟩) n cap) n xs) (hi : i < n * m) : ∃ v, w.cell? ⟨g, i, none⟩ = some v ∧ w.frozen? ⟨g, i, none⟩ = false ∧ xs[i]? = some v ∧ xs.length = n * m := by
  have hl : xs.length = n * m := h.1
  have hc := h.cellAt i hi
  exact ⟨xs[i]'(by omega), by rw [hc, List.getElem?_eq_getElem (by omega)], h.frozenAt i, List.getElem?_eq_getElem (by omega), hl⟩
theorem infoI : (Try.prog.info? 2).map (fun i => (i.zero, i.size, i.bytes)) = some (some (.int .i64 0), 1, 8) := by kernel_rfl
/-- the numbers l behind the address a -/
def Ins (w : World) (a : Option Addr) (l : List Int) : Prop :=
  ∀ j x, l[j]? = some x → ∃ b o, a = some ⟨b, o, none⟩ ∧ b < w.heap.size ∧ w.cell? ⟨b, o + j, none⟩ = some (.int .i64 x)
theorem Ins.nil {w : World} {a : Option Addr} : Ins w a [] := by intro j z hz; simp at hz
theorem Ins.below {w w' : World} {a : Option Addr} {l : List Int} (h : Ins w a l) (s : Below w.heap.size w w') : Ins w' a l := by
  intro j x hx
  obtain ⟨b, o, e, h1, c0⟩ := h j x hx
  exact ⟨b, o, e, Nat.lt_of_lt_of_le h1 s.size, ((bcell s).1 b _ h1).trans c0⟩
theorem ins_at {w wr : World} {a : Option Addr} {l : List Int} {k : Nat} (h : Ins w a l) (hw : Below w.heap.size w wr) (hk : k < l.length) : ∃ b o x, a = some ⟨b, o, none⟩ ∧ l[k]? = some x ∧ b < w.heap.size ∧ wr.cell? ⟨b, o + k, none⟩ = some (.int .i64 x) := by
  obtain ⟨b, o, e, h1, c0⟩ := h k l[k] (List.getElem?_eq_getElem hk)
  exact ⟨b, o, _, e, List.getElem?_eq_getElem hk, h1, ((bcell hw).1 b _ h1).trans c0⟩
/-- an owned list of numbers -/
abbrev OwnI (w : World) (B g n cap : Nat) (l : List Int) : Prop := w.ownsRow B 2 1 (.slice (some ⟨g, 0, none⟩) n cap) n (l.map iv)
theorem ownI_len {w : World} {B g n cap : Nat} {l : List Int} (h : OwnI w B g n cap l) : l.length = n := by
  have hl : (l.map iv).length = n * 1 := h.1
  simpa using hl
theorem ownI_at {w : World} {B g n cap k : Nat} {l : List Int} {x : Int} (hk : l[k]? = some x) (h : OwnI w B g n cap l) : w.cell? ⟨g, k, none⟩ = some (.int .i64 x) := by
  have hl := ownI_len h
  have hj : k < l.length := (List.getElem?_eq_some_iff.1 hk).1
  have := h.cellAt k (by omega)
  rw [this, List.getElem?_map, hk]; rfl
theorem ownI_put {w : World} {B g n cap : Nat} {l : List Int} (k : Nat) (x : Int) (h : OwnI w B g n cap l) : OwnI (w.setCell ⟨g, k, none⟩ (.int .i64 x)) B g n cap (l.set k x) := by
  have h1 := (h.stored k (iv x)).1
  show World.ownsRow _ _ _ _ _ _ _
  rw [List.map_set]; exact h1
theorem ins_own {w : World} {B g n cap : Nat} {l : List Int} (h : OwnI w B g n cap l) : Ins w (some ⟨g, 0, none⟩) l := by
  intro j z hj
  exact ⟨g, 0, rfl, own_lt h, by rw [Nat.zero_add]; exact ownI_at hj h⟩
theorem ownI_lit0 (w : World) {B : Nat} (hB : B ≤ w.heap.size) : OwnI (w.alloc (.cells #[] 2)) B w.heap.size 0 0 [] := by
  have h := World.ownsRow_lit (base := B) (e := 2) (size := 1) w #[] 0 hB (by unfold maxLen; omega) rfl
  exact h
theorem ownI_lit3 (w : World) {B : Nat} (a b c : Int) (hB : B ≤ w.heap.size) : OwnI (w.alloc (.cells #[.int .i64 a, .int .i64 b, .int .i64 c] 2)) B w.heap.size 3 3 [a, b, c] := by
  have h := World.ownsRow_lit (base := B) (e := 2) (size := 1) w #[.int .i64 a, .int .i64 b, .int .i64 c] 3 hB (by unfold maxLen; omega) rfl
  exact h

/-- the copy's list as it stands -/
def midI (l : List Int) (n k : Nat) : List Int := l.take k ++ List.replicate (n - k) 0
theorem midI_len {l : List Int} {n k : Nat} (hl : l.length = n) (hk : k ≤ n) : (midI l n k).length = n := by simp [midI]; omega
theorem midI_set {l : List Int} {n k : Nat} {x : Int} (hl : l.length = n) (h : l[k]? = some x) : (midI l n k).set k x = midI l n (k + 1) := by
  have hk : k < l.length := (List.getElem?_eq_some_iff.1 h).1
  unfold midI
  rw [List.take_add_one, h, List.set_append_right _ _ (by simp; omega)]
  have e : n - k = (n - (k + 1)) + 1 := by omega
  rw [e, List.replicate_succ]
  have e2 : k - (l.take k).length = 0 := by simp; omega
  rw [e2]; simp
theorem made_I (n : Nat) : (madeCells #[.int .i64 0] n).toList = (List.replicate n (0 : Int)).map iv := by
  have := toList_madeCells_one (.int .i64 0) n
  simpa [iv] using this

set_option maxHeartbeats 800000 in
theorem eqi_any (a b : Option Addr) (ca cb : Nat) (l : List Int) (w : World) (hl : l.length ≤ 1048576) (ha : Ins w a l) (hb : Ins w b l) :
    Calls Try.prog 40 #[.slice a l.length ca, .slice b l.length cb] w fun e w' => e = .returned (.bool true) ∧ Below w.heap.size w w' := by
  have ha' := hide ha
  have hb' := hide hb
  clear ha hb
  have hne : ((l.length : Int) != l.length) = false := by simp
  go_enter Try.func40, Try.ntmps40
  go_wp2
  go_loopw [5] (fun t wr => ∃ k : Nat, k ≤ l.length ∧ t = .int .i64 k ∧ Hid (Below w.heap.size w wr)) (fun t _ => l.length - (intOf t).toNat)
  case atStart => exact ⟨0, by omega, rfl, hide (Below.refl _ _)⟩
  case round =>
    obtain ⟨k, hk, rfl, hw⟩ := hrel
    by_cases hlt : k < l.length
    · obtain ⟨b1, o1, x, rfl, hx, i1, c0⟩ := ins_at (unhide ha') (unhide hw) hlt
      obtain ⟨b2, o2, y, rfl, hy, i2, d0⟩ := ins_at (unhide hb') (unhide hw) hlt
      rw [hx] at hy
      injection hy with hy
      subst hy
      have e1 : (x != x) = false := by simp
      clear hx i1 i2
      go_wp2_with fail
      go_quiet (fail)
      go_wp2
      go_roundw
      case rel => exact ⟨k + 1, by omega, by go_num, hide (below_drewN (unhide hw) _)⟩
      case measure => simp [intOf]; omega
    · have hke : k = l.length := by omega
      go_wp2
      go_ret
      exact ⟨rfl, unhide hw⟩

set_option maxHeartbeats 800000 in
theorem marki_any (B g n cap : Nat) (q : Int) (xs : List Value) (w : World) (hn : n ≤ 10000000) (q0 : 0 ≤ q) (q1 : q ≤ 100000000) (h : w.ownsRow B 2 1 (.slice (some ⟨g, 0, none⟩) n cap) n xs) :
    Calls Try.prog 41 #[.slice (some ⟨g, 0, none⟩) n cap, .int .i64 q] w fun e w' => e = .returned (.int .i64 (q + n)) ∧ (∃ ys, w'.ownsRow B 2 1 (.slice (some ⟨g, 0, none⟩) n cap) n ys ∧ Mkd q n ys) ∧ w.grownBy w' (some g) := by
  have h' := hide h
  clear h
  go_enter Try.func41, Try.ntmps41
  go_wp2
  go_loopw [1, 5] (fun s t wr => ∃ k : Nat, k ≤ n ∧ t = .int .i64 k ∧ s = .int .i64 (q + k) ∧ Hid (∃ ys, wr.ownsRow B 2 1 (.slice (some ⟨g, 0, none⟩) n cap) n ys ∧ Mkd q k ys) ∧ Hid (w.grownBy wr (some g))) (fun _ t _ => n - (intOf t).toNat)
  case atStart => exact ⟨0, by omega, rfl, by simp, hide ⟨xs, unhide h', fun j hj => by omega⟩, hide (grown_refl _ _)⟩
  case round =>
    obtain ⟨k, hk, rfl, rfl, hown, hg⟩ := hrel
    by_cases hlt : k < n
    · obtain ⟨ys, hy, hm⟩ := unhide hown
      obtain ⟨v, c0, f0, _, hl⟩ := own_at (i := k) hy (by omega)
      have hnew := hide (show ∃ ys, (wr.setCell ⟨g, k, none⟩ (.int .i64 (q + k))).ownsRow B 2 1 (.slice (some ⟨g, 0, none⟩) n cap) n ys ∧ Mkd q (k + 1) ys from ⟨_, (hy.stored k (iv (q + k))).1, hm.set (by omega)⟩)
      clear hown hy hm hl
      go_wp2
      go_roundw
      case rel => exact ⟨k + 1, by omega, by go_num, by go_num, hnew, hide (grown_set (unhide hg))⟩
      case measure => simp [intOf]; omega
    · have hke : k = n := by omega
      have hf : Hid (∃ ys, wr.ownsRow B 2 1 (.slice (some ⟨g, 0, none⟩) n cap) n ys ∧ Mkd q n ys) := hide (by have := unhide hown; rw [hke] at this; exact this)
      clear hown
      go_wp2
      go_ret
      exact ⟨ret_int (by omega), unhide hf, unhide hg⟩

set_option maxHeartbeats 800000 in
theorem heldi_any (B g n cap : Nat) (q : Int) (xs : List Value) (w : World) (hn : n ≤ 10000000) (q0 : 0 ≤ q) (q1 : q ≤ 100000000) (h : w.ownsRow B 2 1 (.slice (some ⟨g, 0, none⟩) n cap) n xs) (hm : Mkd q n xs) :
    Calls Try.prog 42 #[.slice (some ⟨g, 0, none⟩) n cap, .int .i64 q] w fun e w' => e = .returned (.int .i64 (q + n)) ∧ w' = w := by
  have h' := hide h
  have hm' := hide hm
  clear h hm
  go_enter Try.func42, Try.ntmps42
  go_wp2
  go_loop [1, 5] (fun s t => ∃ k : Nat, k ≤ n ∧ t = .int .i64 k ∧ s = .int .i64 (q + k)) (fun _ t => n - (intOf t).toNat)
  case atStart => exact ⟨0, by omega, rfl, by simp⟩
  case round =>
    obtain ⟨k, hk, rfl, rfl⟩ := hrel
    by_cases hlt : k < n
    · obtain ⟨v, c0, f0, hv, hl⟩ := own_at (i := k) (unhide h') (by omega)
      rw [unhide hm' k hlt] at hv
      cases hv
      have c1 : w.cell? ⟨g, k, none⟩ = some (.int .i64 (q + k)) := c0
      have s0 : ((q + k) != (q + k)) = false := by simp
      clear c0 f0 hl
      go_wp2
      go_round
      case rel => exact ⟨k + 1, by omega, by go_num, by go_num⟩
      case measure => simp [intOf]; omega
    · have hke : k = n := by omega
      go_wp2
      go_ret
      exact ⟨ret_int (by omega), rfl⟩

end Go.Proofs.Ytpdnceeniokemaa
