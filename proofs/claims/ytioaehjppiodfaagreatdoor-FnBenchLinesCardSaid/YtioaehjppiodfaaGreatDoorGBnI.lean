/-
  The bench as a fold over lines, plain: what it answers is in bounds.
  The bench: the program's contract.
-/
import Derived.Test.YtioaehjppiodfaaGreatDoorGBnG
import Derived.Test.YtioaehjppiodfaaGreatDoorGBnT
namespace Go.Proofs.YtioaehjppiodfaaGreatDoor
open Go.RowKit
set_option linter.unusedVariables false
set_option linter.unusedSimpArgs false

def strip (x : List UInt8) : List UInt8 := Lib.trimSuffix x [10]
def atL (A : An) : List UInt8 := Lib.join (awords A) [32]
noncomputable def stepB (o : List UInt8 × Bch) (x : List UInt8) : List UInt8 × Bch := if strip x = [] then o else (o.1 ++ (atL (lineS (strip x) o.2).1 ++ [10]), (lineS (strip x) o.2).2)
noncomputable def foldB (T : List (List UInt8)) : List UInt8 × Bch := T.foldl stepB ([], ([], []))
/-- what the bench answers -/
noncomputable def benchL (t : List UInt8) : List UInt8 := if 20000 < t.length then [] else if 200 < (Ln.rawL t).length then [] else (foldB (Ln.rawL t)).1
theorem foldB_snoc (T : List (List UInt8)) (x : List UInt8) : foldB (T ++ [x]) = stepB (foldB T) x := by simp [foldB]
theorem foldB_take {T : List (List UInt8)} {k : Nat} {x : List UInt8} (h : T[k]? = some x) : foldB (T.take (k + 1)) = stepB (foldB (T.take k)) x := by
  rw [List.take_add_one, h]
  exact foldB_snoc _ x

def OkS (s : Bch) : Prop := TOk s.1 ∧ ∀ l ∈ s.2, TOk l
theorem b64_small {x : Int} (h0 : -1000000000000 ≤ x) (h1 : x ≤ 1000000000000) : B64 x := ⟨by omega, by omega⟩
theorem lenOf_b {l : List Kl} (h : TOk l) : B64 (lenOf l) := by
  unfold lenOf
  rw [if_pos h]
  have := clen_nn h.2.1.nn
  have := h.2.2
  exact b64_small (by omega) (by omega)
theorem seen_b {l : List Kl} (h : AOk l) : ∀ {i : Int}, 0 ≤ i → B64 (seen l i).1 ∧ B64 (seen l i).2 := by
  induction l with
  | nil => intro i hi; rw [show seen [] i = (-1, -1) from rfl]; exact ⟨b64_small (by decide) (by decide), b64_small (by decide) (by decide)⟩
  | cons c l ih =>
    intro i hi
    have hc := h c (by simp)
    unfold COk at hc
    by_cases hlt : i < c.2.2
    · rw [seen_lt hlt]
      unfold sv
      split
      · exact ⟨b64_small (by decide) (by decide), b64_small (by decide) (by decide)⟩
      · exact ⟨b64_small (by dsimp only; omega) (by dsimp only; omega), b64_small (by dsimp only; omega) (by dsimp only; omega)⟩
    · rw [seen_ge hlt]
      exact ih (fun x hx => h x (by simp [hx])) (by omega)
theorem frame_b {l : List Kl} (h : TOk l) (i : Int) : B64 (frameAt l i).1 ∧ B64 (frameAt l i).2 := by
  by_cases hi : 0 ≤ i
  · rw [frameAt_yes h hi]; exact seen_b h.2.1 hi
  · rw [frameAt_neg hi]; exact ⟨b64_small (by decide) (by decide), b64_small (by decide) (by decide)⟩
theorem addL_b (L : List Ch) : B64 (addL L) := by
  have : ∀ (L : List Ch) (n : Int), B64 n → B64 (L.foldl addF n) := by
    intro L
    induction L with
    | nil => intro n h; exact h
    | cons c L ih =>
      intro n h
      rw [List.foldl_cons]
      refine ih _ ?_
      unfold addF
      split
      · rw [IntKind.wrap_i64]
        exact ⟨by omega, by omega⟩
      · exact h
  exact this L 0 (b64_small (by decide) (by decide))
theorem nums1_ok {x : Int} (h : B64 x) : AnOk (.nums [x]) := ⟨by simp, by intro y hy; simp at hy; subst hy; exact h⟩
theorem nums2_ok {x y : Int} (h : B64 x) (k : B64 y) : AnOk (.nums [x, y]) := ⟨by simp, by intro z hz; simp at hz; rcases hz with rfl | rfl; exact h; exact k⟩
theorem err_ok {n : Int} (h0 : -1000000000000 ≤ n) (h1 : n ≤ 1000000000000) : AnOk (.err n) := b64_small h0 h1
/-- what a deed leaves -/
def Fine (s : Bch) (x : An × Bch) : Prop := AnOk x.1 ∧ OkS x.2 ∧ x.2.2.length ≤ s.2.length + 1
theorem doE_fine {r : Option (List Kl)} {s : Bch} (h : OkS s) (ht : ∀ t, r = some t → TOk t) : Fine s (doE r s) := by
  cases r with
  | none => exact ⟨err_ok (by decide) (by decide), h, by unfold doE; dsimp only; omega⟩
  | some t =>
    refine ⟨nums1_ok (lenOf_b (ht t rfl)), ⟨ht t rfl, fun l hl => ?_⟩, by unfold doE; simp⟩
    unfold doE at hl
    dsimp only at hl
    rcases List.mem_append.1 hl with h1 | h1
    · exact h.2 l h1
    · simp at h1; subst h1; exact h.1
theorem undo_fine {s : Bch} (h : OkS s) : Fine s (undoS s) := by
  obtain ⟨tr, st⟩ := s
  rcases List.eq_nil_or_concat st with rfl | ⟨L, t, rfl⟩
  · exact ⟨err_ok (by decide) (by decide), h, by simp [undoS]⟩
  · simp only [List.concat_eq_append] at *
    have hU : undoS (tr, L ++ [t]) = (.nums [lenOf t], (t, L)) := by simp [undoS]
    rw [hU]
    exact ⟨nums1_ok (lenOf_b (h.2 t (by simp))), ⟨h.2 t (by simp), fun l hl => h.2 l (by simp [hl])⟩, by simp; omega⟩
theorem same_fine {s : Bch} {A : An} (h : OkS s) (hA : AnOk A) : Fine s (A, s) := ⟨hA, h, by dsimp only; omega⟩
theorem do_fine (i : Nat) (L : List Int) {s : Bch} (h : OkS s) : Fine s (doS i L s) := by
  unfold doS
  split
  · exact doE_fine h (fun t ht => ins_tok ht)
  · exact doE_fine h (fun t ht => over_tok ht)
  · exact doE_fine h (fun t ht => ext_tok ht)
  · exact doE_fine h (fun t ht => lif_tok ht)
  · exact doE_fine h (fun t ht => rol_tok ht)
  · exact doE_fine h (fun t ht => slp_tok ht)
  · exact doE_fine h (fun t ht => sld_tok ht)
  · exact doE_fine h (fun t ht => rip_tok ht)
  · exact undo_fine h
  · unfold seeS
    split
    · exact same_fine h (err_ok (by decide) (by decide))
    · exact same_fine h (nums2_ok (frame_b h.1 _).1 (frame_b h.1 _).2)
  · exact same_fine h ⟨by have := h.1.1; omega, aok_b64 h.1⟩
  · have := changes_len [] s.1
    exact same_fine h (nums2_ok (b64_small (by omega) (by omega)) (addL_b _))
  · have := dig_bd (btI (Lib.join (s.1.map ctL) [32]))
    exact same_fine h (nums1_ok (b64_small (by unfold sumT; omega) (by unfold sumT; omega)))
  · exact same_fine h (err_ok (by decide) (by decide))
theorem line_fine (X : List UInt8) {s : Bch} (h : OkS s) : Fine s (lineS X s) := by
  unfold lineS
  split
  · unfold tellS
    split
    · exact do_fine _ _ h
    · exact same_fine h (err_ok (by decide) (by decide))
  · exact same_fine h (err_ok (by decide) (by decide))
theorem atL_len {A : An} (h : AnOk A) : (atL A).length ≤ 70000 := by
  cases A with
  | err n =>
    have := Lib.itoa_length_le n h.1 h.2
    simp [atL, awords, Lib.join]; omega
  | nums L =>
    have := join_len (awords (.nums L)) 21 (by
      intro x hx
      rcases List.mem_cons.1 hx with rfl | hx
      · decide
      · obtain ⟨y, hy, rfl⟩ := List.mem_map.1 hx
        exact Lib.itoa_length_le y (h.2 y hy).1 (h.2 y hy).2)
    have e : (awords (.nums L)).length = L.length + 1 := by simp [awords]
    rw [e] at this
    have := h.1
    unfold atL
    omega
  | clips l =>
    have := join_len (awords (.clips l)) 65 (by
      intro x hx
      rcases List.mem_cons.1 hx with rfl | hx
      · decide
      · obtain ⟨y, hy, rfl⟩ := List.mem_map.1 hx
        exact ctL_len (h.2 y hy))
    have e : (awords (.clips l)).length = l.length + 1 := by simp [awords]
    rw [e] at this
    have := h.1
    unfold atL
    omega
theorem ok_nil : OkS ([], []) := ⟨⟨by decide, (fun c hc => by cases hc), by decide⟩, (fun l hl => by cases hl)⟩
theorem step_fine {o : List UInt8 × Bch} {x : List UInt8} {k : Nat} (h : OkS o.2 ∧ o.2.2.length ≤ k ∧ o.1.length ≤ k * 70001) : OkS (stepB o x).2 ∧ (stepB o x).2.2.length ≤ k + 1 ∧ (stepB o x).1.length ≤ (k + 1) * 70001 := by
  obtain ⟨h1, h2, h3⟩ := h
  have e : (k + 1) * 70001 = k * 70001 + 70001 := Nat.succ_mul _ _
  obtain ⟨z, hz⟩ : ∃ z, k * 70001 = z := ⟨_, rfl⟩
  rw [e, hz]
  rw [hz] at h3
  clear e hz
  unfold stepB
  split
  · exact ⟨h1, by omega, by omega⟩
  · have hf := line_fine (strip x) h1
    have hl := atL_len hf.1
    refine ⟨hf.2.1, by have := hf.2.2; dsimp only; omega, ?_⟩
    dsimp only
    rw [List.length_append, List.length_append]
    simp only [List.length_cons, List.length_nil]
    omega
theorem fold_fine (T : List (List UInt8)) : OkS (foldB T).2 ∧ (foldB T).2.2.length ≤ T.length ∧ (foldB T).1.length ≤ T.length * 70001 := by
  have : ∀ k, k ≤ T.length → OkS (foldB (T.take k)).2 ∧ (foldB (T.take k)).2.2.length ≤ k ∧ (foldB (T.take k)).1.length ≤ k * 70001 := by
    intro k
    induction k with
    | zero => intro _; exact ⟨ok_nil, by simp [foldB], by simp [foldB]⟩
    | succ k ih =>
      intro hk
      rw [foldB_take (List.getElem?_eq_getElem (by omega : k < T.length))]
      exact step_fine (ih (by omega))
  have := this T.length (Nat.le_refl _)
  rwa [List.take_length] at this
theorem fold_fine_at (T : List (List UInt8)) {k : Nat} (hk : k ≤ T.length) : OkS (foldB (T.take k)).2 ∧ (foldB (T.take k)).2.2.length ≤ k ∧ (foldB (T.take k)).1.length ≤ k * 70001 := by
  have := fold_fine (T.take k)
  rw [List.length_take, Nat.min_eq_left hk] at this
  exact this

end Go.Proofs.YtioaehjppiodfaaGreatDoor

namespace Go.Proofs.YtioaehjppiodfaaGreatDoor
open Go.RowKit
set_option linter.unusedVariables false
set_option linter.unusedSimpArgs false

theorem bF_keptK {T e : TypeId} {B b : Nat} {bs : List Value} {X Y : World} (h : Lib.IsBuilderF T e B b bs X) (hk : ∀ (k : Nat) (c : Array Value) (t : TypeId) (fz : Nat × Nat), X.heap[k]? = some (.cells c t fz) → t = T ∨ t = e → Y.heap[k]? = some (.cells c t fz)) : Lib.IsBuilderF T e B b bs Y := by
  have H : ∀ p, Lib.BuilderAtF T e B b p bs X → Lib.BuilderAtF T e B b p bs Y := by
    rintro p ⟨hB, v, hb, ⟨hl, hr⟩, hne⟩
    refine ⟨hB, v, hk _ _ _ _ hb (.inl rfl), ⟨hl, ?_⟩, hne⟩
    rcases hr with hr | ⟨g, cap, cur, fz, hv, hg, hh, r⟩
    · exact .inl hr
    · exact .inr ⟨g, cap, cur, fz, hv, hg, hk _ _ _ _ hh (.inr rfl), r⟩
  exact h.elim (fun x => .inl (H _ x)) (fun x => .inr (H _ x))
theorem bF_blk {T e : TypeId} {B b : Nat} {bs : List Value} {X : World} (h : Lib.IsBuilderF T e B b bs X) : ∃ cs, X.heap[b]? = some (.cells cs T (0, 0)) := by
  rcases h with ⟨_, v, hb, _⟩ | ⟨_, v, hb, _⟩ <;> exact ⟨_, hb⟩

/-- the bench under way: the world ahead of the loop is W0 -/
structure Bw (w W0 : World) (bB b M : Nat) (s : Bch) (L : List UInt8) (W : World) : Prop where
  bs : BS w.heap.size W bB s
  iB : Lib.IsBuilderF 46 5 b b (Lib.byteCells L) W
  bel : Below w.heap.size w W
  hb : w.heap.size ≤ b
  old : ∀ (k : Nat) (o : Obj), W0.heap[k]? = some o → k < b → k ≠ bB → (∀ c fz, o ≠ .cells c 36 fz) → W.heap[k]? = some o
theorem Bw.lt {w W0 : World} {bB b M : Nat} {s : Bch} {L : List UInt8} {W : World} (h : Bw w W0 bB b M s L W) : b < W.heap.size := by
  obtain ⟨cs, hc⟩ := bF_blk h.iB
  exact (Array.getElem?_eq_some_iff.1 hc).1
theorem Bw.below {w W0 : World} {bB b M : Nat} {s : Bch} {L : List UInt8} {W W' : World} (h : Bw w W0 bB b M s L W) (hb : Below W.heap.size W W') : Bw w W0 bB b M s L W' :=
  ⟨h.bs.below hb, bF_keptK h.iB (fun k c t fz hk _ => (hb.block k (Array.getElem?_eq_some_iff.1 hk).1).trans hk), laterB h.bel hb, h.hb, fun k o hk h1 h2 h3 => by
    have := h.old k o hk h1 h2 h3
    exact (hb.block k (Array.getElem?_eq_some_iff.1 this).1).trans this⟩
/-- .. behind a deed -/
theorem Bw.deed {w W0 : World} {bB b M : Nat} {s s' : Bch} {L : List UInt8} {W W' : World} (h : Bw w W0 bB b M s L W) (hk : Kb w.heap.size bB W W') (hs : BS w.heap.size W' bB s') : Bw w W0 bB b M s' L W' := by
  obtain ⟨tv, vi, vs, h41, _⟩ := h.bs.ex
  refine ⟨hs, bF_keptK h.iB (fun k c t fz hc ht => hk.2 k _ hc ?_ ?_), h.bel.trans hk.1, h.hb, fun k o ho h1 h2 h3 => hk.2 k o (h.old k o ho h1 h2 h3) (fun e => h2 (Option.some.inj e)) h3⟩
  · intro e
    have e2 : k = bB := Option.some.inj e
    subst e2
    rw [h41] at hc
    cases hc
    rcases ht with ht | ht <;> cases ht
  · intro c' f' e
    cases e
    rcases ht with ht | ht <;> cases ht
/-- .. behind a text written -/
theorem Bw.write {w W0 : World} {bB b M : Nat} {s : Bch} {L l : List UInt8} {t : ByteArray} {W W' : World} (h : Bw w W0 bB b M s L W) (ht : (⟨l.toArray⟩ : ByteArray) = t) (hA : Lib.BuilderAtF 46 5 b b (.pointer (some ⟨b, 0, none⟩)) (Lib.byteCells L ++ Lib.strCells t) W') (hB : Below b W W') (hO : Lib.OthersKept 5 (some b) W W') : Bw w W0 bB b M s (L ++ l) W' := by
  subst ht
  obtain ⟨cs, hc⟩ := bF_blk h.iB
  refine ⟨h.bs.others hO hc (by decide) (by decide), .inr ?_, h.bel.trans (hB.mono h.hb), h.hb, fun k o ho h1 h2 h3 => (hB.block k h1).trans (h.old k o ho h1 h2 h3)⟩
  rw [Lib.byteCells_append]; exact hA
theorem Bw.map {w W0 : World} {bB b M : Nat} {s : Bch} {L : List UInt8} {W : World} (h : Bw w W0 bB b M s L W) (hM : DM W0 M (entL M 13)) (hD : ∀ i, i < 13 → DV W0 M i) (h1 : bB < M) (h2 : M + 35 ≤ b) : DM W M (entL M 13) ∧ ∀ i, i < 13 → DV W M i := by
  have hmap : W.heap[M]? = W0.heap[M]? := by
    obtain ⟨D, ⟨es, cl, hh, _⟩, _⟩ := hM
    rw [hh]
    exact h.old M _ hh (by omega) (by omega) (fun c fz e => by cases e)
  refine ⟨hM.kept hmap, fun i hi => ?_⟩
  have hbx : ∀ {q : Nat} {t : TypeId} {v : Value}, M < q → q < b → t ≠ 36 → Boxed W0 q t v → Boxed W q t v := fun hq hqb ht hx => h.old _ _ hx hqb (by omega) (fun c fz e => by cases e; exact ht rfl)
  have hE : ∀ {q T G F c : Nat}, M < q → q + 2 < b → T ≠ 36 → DVE W0 q T G F c → DVE W q T G F c := fun hq h1 h2 h => ⟨hbx hq (by omega) h2 h.1, hbx (by omega) (by omega) (by decide) h.2.1, hbx (by omega) (by omega) (by decide) h.2.2⟩
  have hP : ∀ {q F c : Nat}, M < q → q + 1 < b → DVP W0 q F c → DVP W q F c := fun hq h1 h => ⟨hbx hq (by omega) (by decide) h.1, hbx (by omega) (by omega) (by decide) h.2⟩
  have hd := hD i hi
  match i, hi with
  | 0, _ => exact hE (by omega) (by omega) (by decide) hd
  | 1, _ => exact hE (by omega) (by omega) (by decide) hd
  | 2, _ => exact hE (by omega) (by omega) (by decide) hd
  | 3, _ => exact hE (by omega) (by omega) (by decide) hd
  | 4, _ => exact hE (by omega) (by omega) (by decide) hd
  | 5, _ => exact hE (by omega) (by omega) (by decide) hd
  | 6, _ => exact hE (by omega) (by omega) (by decide) hd
  | 7, _ => exact hE (by omega) (by omega) (by decide) hd
  | 8, _ => exact hP (by omega) (by omega) hd
  | 9, _ => exact hP (by omega) (by omega) hd
  | 10, _ => exact hP (by omega) (by omega) hd
  | 11, _ => exact hP (by omega) (by omega) hd
  | 12, _ => exact hP (by omega) (by omega) hd
/-- a list of lines that is read -/
theorem lines_in {W0 : World} {B n : Nat} {v : Value} {T : List (List UInt8)} (h : W0.ownsRow B 9 1 v T.length (T.map Ln.encL)) : ∃ a c, v = .slice a T.length c ∧ ∀ (k : Nat) x, T[k]? = some x → ∃ g, a = some ⟨g, 0, none⟩ ∧ (∃ cs fz, W0.heap[g]? = some (.cells cs 9 fz)) ∧ W0.cell? ⟨g, k, none⟩ = some (.string ⟨x.toArray⟩) := by
  rcases h.2 with ⟨h1, h0⟩ | ⟨g, c, cur, hv, hg, hh, _⟩
  · have hT : T = [] := List.length_eq_zero_iff.1 h0
    subst hT
    exact ⟨none, 0, h1, fun k x hx => by simp at hx⟩
  · subst hv
    refine ⟨_, c, rfl, fun k x hx => ⟨g, rfl, ⟨_, _, hh⟩, ?_⟩⟩
    have hk := (List.getElem?_eq_some_iff.1 hx).1
    have := h.cellAt k (by omega)
    rw [this, List.getElem?_map, hx]
    rfl
end Go.Proofs.YtioaehjppiodfaaGreatDoor
