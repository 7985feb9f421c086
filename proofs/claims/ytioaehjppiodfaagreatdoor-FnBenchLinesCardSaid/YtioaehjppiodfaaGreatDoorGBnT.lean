/-
  slices.Collect over strings.Lines: a new list of the pieces of a text; what was there stays but for the iterator's own box.
  Lists of words read as numbers, by the program: its contract; a list of values that grows by one; what was there stays.
-/
import Derived.Test.YtioaehjppiodfaaGreatDoorGBnL
import Derived.Test.YtioaehjppiodfaaGreatDoorGBwd
import Derived.Test.YtioaehjppiodfaaGreatDoorGBnN
namespace Go.Proofs.YtioaehjppiodfaaGreatDoor.Ln
open Go.RowKit Go.Shelf
set_option linter.unusedVariables false
set_option linter.unusedSimpArgs false
attribute [local go_sem] Oper.semAt_some

theorem infoS : (Tryz.prog.info? 9).map (fun i => (i.zero, i.size, i.bytes)) = some (some (.string ⟨#[]⟩), 1, 16) := by kernel_rfl

/-- what the loop of AppendSeq knows: M its box, the row at r, b the iterator's box -/
def IC (T : List (List UInt8)) (M B b : Nat) (w : World) (rest : List (List UInt8)) (r : Nat) (W : World) : Prop :=
  ∃ (done : List (List UInt8)) (v : Value), T = done ++ rest ∧ Boxed W M 26 v ∧ W.ownsRow B 9 1 v done.length (done.map encL) ∧ (∀ k, v.ownBlock = some k → k = r) ∧ B ≤ r ∧ Below b w W
def IN (_ : Code) (_ : Nat) (_ : World) : Prop := False
theorem own_cellsB {w : World} {B n m : Nat} {e : TypeId} {v : Value} {xs : List Value} (h : w.ownsRow B e m v n xs) {k : Nat} (hk : v.ownBlock = some k) : ∃ o : Obj, w.heap[k]? = some o ∧ o.isCells = true := by
  rcases h.2 with ⟨h1, h2⟩ | ⟨g, c, cur, hv, hg, hh, _⟩
  · rw [h1] at hk; cases hk
  · rw [hv] at hk
    have : g = k := Option.some.inj hk
    subst this
    exact ⟨_, hh, rfl⟩
theorem ownsRow_grown {w w1 : World} {B n m : Nat} {e : TypeId} {v : Value} {xs : List Value} {row : Option Nat} (h : w.ownsRow B e m v n xs) (hg : w.grownBy w1 row) (hne : ∀ k, v.ownBlock = some k → some k ≠ row) : w1.ownsRow B e m v n xs := by
  obtain ⟨h1, h2⟩ := h
  refine ⟨h1, ?_⟩
  rcases h2 with h2 | ⟨g, c, cur, hv, hB, hh, r⟩
  · exact Or.inl h2
  · refine Or.inr ⟨g, c, cur, hv, hB, ?_, r⟩
    rw [hg.block g (Array.getElem?_eq_some_iff.1 hh).1 (hne g (by rw [hv]; rfl))]; exact hh
theorem IC.ab {T : List (List UInt8)} {M B b BB : Nat} {w : World} (h1 : M ≠ b) (h2 : b < B) (h3 : M < BB) (h4 : b < BB) (h5 : b ≤ w.heap.size) : AbF BB b (IC T M B b w) := by
  rintro rest r X Y row ⟨done, v, a1, a2, a3, a4, a5, a6⟩ hg hr
  have hM : some M ≠ row := by
    intro e
    rcases hr M e.symm with ⟨e1, _⟩ | ⟨e1, _⟩
    · exact h1 e1
    · omega
  refine ⟨done, v, a1, a2.kept hg hM, ?_, a4, a5, ?_⟩
  · refine ownsRow_grown a3 hg ?_
    intro k hk e
    obtain ⟨o, ho, hc⟩ := own_cellsB a3 hk
    rcases hr k e.symm with ⟨e1, _⟩ | ⟨_, o', ho', hc'⟩
    · have := a4 k hk; omega
    · rw [ho] at ho'; cases ho'; rw [hc] at hc'; cases hc'
  · exact a6.grown hg (Nat.le_trans h5 (by have := a6.size; omega)) (fun k hk => by
      rcases hr k hk with ⟨e1, _⟩ | ⟨e1, _⟩ <;> omega)

theorem rawL_len (t : List UInt8) : (rawL t).length ≤ t.length := by
  induction t with
  | nil => simp [rawL]
  | cons b t ih =>
    rw [rawL]
    split
    · simp; exact ih
    · split
      · simp
      · rename_i x xs e; rw [e] at ih; simp at ih ⊢; omega
theorem rawL_mem {t : List UInt8} : ∀ x ∈ rawL t, x.length ≤ t.length := by
  induction t with
  | nil => simp [rawL]
  | cons b t ih =>
    intro x hx
    rw [rawL] at hx
    split at hx
    · rcases List.mem_cons.1 hx with rfl | hx
      · simp
      · have := ih x hx; simp; omega
    · split at hx
      · simp at hx; subst hx; simp
      · rename_i y ys e
        rcases List.mem_cons.1 hx with rfl | hx
        · have := ih y (by rw [e]; simp); simp; omega
        · have := ih x (by rw [e]; simp [hx]); simp; omega
theorem str_news {w : World} {E : Nat} {x : ByteArray} {t : TypeId} {m : Nat × Nat} (hblk : w.heap[E]? = some (.cells #[.string x] t m)) : ∀ j u, [Value.string x][j]? = some u → w.cell? ((⟨E, 0, none⟩ : Addr).add j) = some u := by
  have := World.news_of_block hblk
  simpa using this

set_option maxRecDepth 100000 in
set_option maxHeartbeats 3200000 in
theorem aseq_any (b : Nat) (s : ByteArray) (w : World) (hbx : Boxed w b 9 (.string s)) (hz : s.size ≤ 20000) :
    Calls Tryz.prog 28 #[.slice none 0 0, .func (.func 29) #[] #[.pointer (some ⟨b, 0, none⟩)]] w fun e w' => ∃ v, e = .returned v ∧ w'.ownsRow (w.heap.size + 1) 9 1 v (rawL s.data.toList).length ((rawL s.data.toList).map encL) ∧ Below b w w' := by
  have hbl := hbx.lt
  have hL3 : Boxed (w.alloc (.cells #[.slice none 0 0] 26)) b 9 (.string s) := hbx.alloc _
  have L3 := hide hL3
  obtain ⟨T, hT⟩ : ∃ T, rawL s.data.toList = T := ⟨_, rfl⟩
  have hT' := hide hT
  rw [hT]
  have hTl : T.length ≤ 20000 := by rw [← hT]; have := rawL_len s.data.toList; rw [← Lib.size_eq] at this; omega
  have S3 : Hid (IC T w.heap.size (w.heap.size + 1) b w T (w.heap.size + 1) (w.alloc (.cells #[.slice none 0 0] 26))) :=
    hide ⟨[], .slice none 0 0, rfl, Boxed.new w 26 _, World.ownsRow_nil _ _ _ _, fun k hk => (by cases hk), Nat.le_refl _, ((Below.refl w.heap.size w).alloc (Nat.le_refl _) _).mono (by omega)⟩
  clear hbx hT hL3
  refine (callsIn_wide (n := 3)).1 ?_
  refine callsIn_of_wp_marks Tryz.func28 rfl trivial ?_ rfl
  simp only [Tryz.ntmps28, List.size_toArray, List.length_cons, List.length_nil, Nat.reduceAdd, Nat.reduceSub, Array.replicate_succ, Array.replicate_zero, List.push_toArray, List.append_toArray, List.nil_append, List.cons_append]
  gi_wp2_with fail
  generalize hs0 : w.heap.size = s0 at *
  have hzW : (w.alloc (.cells #[.slice none 0 0] 26)).heap.size = s0 + 1 := by simp [hs0]
  generalize w.alloc (.cells #[.slice none 0 0] 26) = W0 at *
  refine wpIn_rangeB (α := List UInt8) (w := W0) (gf := 29) (lb := #[.pointer (some ⟨b, 0, none⟩)]) rfl (enters_of Tryz.func29 (by kernel_rfl) rfl) (by have := lines_seq 2 s0 b s W0 (unhide L3) hz (by omega); rw [unhide hT'] at this; exact this) (Below.refl _ _) (by omega) rfl
    (IC T s0 (s0 + 1) b w) IN (IC.ab (by omega) (by omega) (by omega) (by omega) (by omega)) (fun _ _ _ _ _ h _ _ => h) (fun rest r X h => by obtain ⟨_, _, _, _, _, _, h, _⟩ := h; omega)
    ⟨_, unhide S3⟩
    (fun (x : List UInt8) (a' : Act) (W : World) => a' = { tmps := #[.slice none 0 0, .func (.func 29) #[] #[.pointer (some ⟨b, 0, none⟩)], .pointer (some ⟨s0, 0, none⟩), undef, .slice none 0 0, encL x, .func (.func 29) #[] #[.pointer (some ⟨b, 0, none⟩)], encL x, undef, undef, undef, undef, undef], defers := [] })
    (fun x a' X l o o' h _ _ _ => h)
    ?assign ?body ?done ?stop
  case assign =>
    intro l1 x rest r W Kn hI hsz hK
    have hK' := hide hK
    have hI' := hide hI
    clear hK hI
    gi_wp2
    exact unhide hK' _ _ (KeepsOthers.refl _) (KeepX.refl _ _ _) (unhide hI') rfl
  case body =>
    rintro l1 x rest r a' W ⟨done, v, a1, a2, a3, a4, a5, a6⟩ rfl hsz
    obtain ⟨xs, hxs⟩ : ∃ xs : ByteArray, encL x = .string xs := ⟨_, rfl⟩
    rw [hxs]
    have cM := a2.cell
    have fM := a2.frozen
    have hsz' : s0 + 1 ≤ W.heap.size := by omega
    have hdl : done.length ≤ 20000 := by rw [a1] at hTl; simp at hTl; omega
    have hbA : Below W.heap.size W (W.alloc (.cells #[.string xs] 9)) := (Below.refl _ _).alloc (Nat.le_refl _) _
    have oA := hide (ownsRow_below a3 hbA)
    have a2' := hide a2
    have a3' := hide a3
    have a4' := hide a4
    have a6' := hide a6
    have hbA' := hide hbA
    have hrest : T = (done ++ [x]) ++ rest := by rw [a1]; simp
    have hrest' := hide hrest
    have hM : s0 < W.heap.size := by omega
    clear a1 a2 a3 a4 a6 hbA hrest S3
    obtain ⟨i0, hi, hz0, hz1, hz2⟩ := info_parts infoS
    gi_wp2_with (gi_at_builtin; refine wpListIn_lies _ rfl _ _ 26 rfl (s0 + 1) 9 i0 (.string ⟨#[]⟩) 1 16 Tryz.underlying26 hi hz0 hz1 hz2 rfl (by decide) v done.length (done.map encL) rfl (unhide oA) ⟨W.heap.size, 0, none⟩ 1 1 [.string xs] rfl rfl (str_news (heap_alloc_new W _)) (by intro u hu; simp at hu; subst hu; rfl) (by decide) (by unfold maxLen; omega) (by omega) (by simp; omega) ?_)
    intro g cap w' hown hgr hg
    have hMb : w'.heap[s0]? = some (.cells #[v] 26 (0, 0)) := by
      rw [hgr.block s0 (by simp; omega) (fun e => by have := unhide a4' s0 e.symm; omega), (unhide hbA').block s0 hM]
      exact unhide a2'
    have bM : Boxed w' s0 26 v := hMb
    have cM' := bM.cell
    have fM' := bM.frozen
    have hg5 : s0 + 1 ≤ g := by
      rcases hg with hg | hg
      · have := unhide a4' g hg; omega
      · rw [hg]; simp; omega
    have K1 : KeepsOthers W (w'.setCell ⟨s0, 0, none⟩ (.slice (some ⟨g, 0, none⟩) (done.length + 1) cap)) := by
      refine KeepsOthers.trans (KeepsOthers.trans (KeepsOthers.of_grownBy (World.grownBy_alloc W _ none) (fun _ _ e => by cases e)) (KeepsOthers.of_grownBy hgr ?_)) (KeepsOthers.setCell _ _ _)
      intro j o e ho
      obtain ⟨o', ho', hc⟩ := own_cellsB (unhide oA) e
      rw [ho] at ho'; cases ho'; exact hc
    have K2 : KeepX s0 r W (w'.setCell ⟨s0, 0, none⟩ (.slice (some ⟨g, 0, none⟩) (done.length + 1) cap)) := by
      refine ⟨?_, ?_⟩
      · have := hgr.size; simp at this ⊢; omega
      · intro k o ho hc h1 h2
        have hk := (Array.getElem?_eq_some_iff.1 ho).1
        rw [(grownBy_setCell' w' s0 _).block k (by have := hgr.size; simp at this; omega) (fun e => h1 (Option.some.inj e)), hgr.block k (by simp; omega) (fun e => h2 (unhide a4' k e.symm)), (unhide hbA').block k hk]
        exact ho
    have I1 : ∃ r', IC T s0 (s0 + 1) b w rest r' (w'.setCell ⟨s0, 0, none⟩ (.slice (some ⟨g, 0, none⟩) (done.length + 1) cap)) := by
      refine ⟨g, done ++ [x], _, unhide hrest', bM.set _, ?_, fun k hk => ?_, hg5, ?_⟩
      · have := ownsRow_grown hown (grownBy_setCell' w' s0 (.slice (some ⟨g, 0, none⟩) (done.length + 1) cap)) (fun k hk e => by have e1 : g = k := Option.some.inj hk; have e2 : k = s0 := Option.some.inj e; omega)
        simpa [hxs] using this
      · exact (Option.some.inj hk).symm
      · refine Below.grown (Below.grown ((unhide a6').trans ((unhide hbA').mono (by omega))) hgr (by simp; omega) (fun k hk => by have := unhide a4' k hk; omega)) (grownBy_setCell' w' s0 _) (by have := hgr.size; simp at this; omega) (fun k hk => by have e2 : s0 = k := Option.some.inj hk; omega)
    have K1' := hide K1
    have K2' := hide K2
    have I1' := hide I1
    clear K1 K2 I1 hown hgr hMb bM hg
    gi_wp2
    exact ⟨unhide K1', unhide K2', unhide I1'⟩
  case done =>
    rintro D r W hD ⟨done, v, a1, a2, a3, a4, a5, a6⟩ hK
    have a1' : T = done := by simpa using a1
    subst a1'
    have cM := a2.cell
    have fM := a2.frozen
    have a3' := hide a3
    have a6' := hide a6
    have hK' := hide hK
    have hD2 : W.heap[D]? = some (.deferred (some [])) := hK
    clear a1 a2 a3 a4 a6 hK S3
    gi_wp2
    refine ⟨by simp, .inl ⟨_, _, rfl, run_takeDeferred (unhide hK'), ?_⟩⟩
    refine ⟨v, ?_, ?_⟩
    · simp [results, Tryz.f28, go_sem]
    · refine ⟨v, rfl, ?_, ?_⟩
      · have := ownsRow_grown (unhide a3') (grownBy_putObj' W D (.deferred none)) (fun k hk e => by
          have e2 : k = D := Option.some.inj e
          obtain ⟨o, ho, hc⟩ := own_cellsB (unhide a3') hk
          rw [e2, hD2] at ho; cases ho; cases hc)
        rw [hs0]; exact this
      · exact (unhide a6').grown (grownBy_putObj' W D (.deferred none)) (by have := (unhide a6').size; omega) (fun k hk => by have e2 : D = k := Option.some.inj hk; omega)
  case stop =>
    rintro D cc r W hD h hK
    exact h.elim

set_option maxHeartbeats 400000 in
theorem coll_any (b : Nat) (s : ByteArray) (w : World) (hbx : Boxed w b 9 (.string s)) (hz : s.size ≤ 20000) :
    Calls Tryz.prog 13 #[.func (.func 29) #[] #[.pointer (some ⟨b, 0, none⟩)]] w fun e w' => ∃ v, e = .returned v ∧ w'.ownsRow (w.heap.size + 1) 9 1 v (rawL s.data.toList).length ((rawL s.data.toList).map encL) ∧ Below b w w' := by
  have h := hide (aseq_any b s w hbx hz)
  clear hbx
  go_enter Tryz.func13, Tryz.ntmps13
  go_wp2_with fail
  refine (unhide h).mono ?_
  rintro e w1 ⟨v, rfl, h1, h2⟩
  have h1' := hide h1
  have h2' := hide h2
  clear h1 h2
  go_wp2
  go_ret
  exact ⟨v, rfl, unhide h1', unhide h2'⟩
end Go.Proofs.YtioaehjppiodfaaGreatDoor.Ln

namespace Go.Proofs.YtioaehjppiodfaaGreatDoor
open Go.RowKit
set_option linter.unusedVariables false
set_option linter.unusedSimpArgs false

theorem one_news {w : World} {E : Nat} {x : Value} {t : TypeId} {m : Nat × Nat} (hblk : w.heap[E]? = some (.cells #[x] t m)) : ∀ j u, [x][j]? = some u → w.cell? ((⟨E, 0, none⟩ : Addr).add j) = some u := by
  have := World.news_of_block hblk
  simpa using this
/-- one value of one cell behind a list of one's own -/
theorem wpList_one {T e : TypeId} {z : Value} {by' : Nat} (hT : Tryz.prog.underlying T = some (.slice e)) (hinf : (Tryz.prog.info? e).map (fun i => (i.zero, i.size, i.bytes)) = some (some z, 1, by')) (hz1 : z.cells.size = 1) (hby : by' ≤ 1000)
    {ops : Array Oper} {rest : List Oper} {o : Oper} {a : Act} {Q : Exit → Act → World → Prop} (w : World) (hgd : o.guard = none) (s x : Operand) (ho : o.op = .call { callee := .builtin .append, args := #[s, x], argTypes := #[T, T] })
    (B n : Nat) (vs : Value) (xs : List Value) (u : Value) (hu : u.oneCell' = true) (hs : a.eval s = vs) (hown : w.ownsRow B e 1 vs n xs) (hx : a.eval x = .slice (some ⟨w.heap.size, 0, none⟩) 1 1) (hl : n ≤ 1000000) (hB : B ≤ w.heap.size)
    (h : ∀ g' cap' w', w'.ownsRow B e 1 (.slice (some ⟨g', 0, none⟩) (n + 1) cap') (n + 1) (xs ++ [u]) → w.grownBy w' vs.ownBlock → (vs.ownBlock = some g' ∨ w.heap.size ≤ g') → B ≤ g' → Below B w w' → wpList Tryz.prog ops Q rest (a.put o.dst (.slice (some ⟨g', 0, none⟩) (n + 1) cap')) w') :
    wpList Tryz.prog ops Q (o :: rest) a (w.alloc (.cells #[u] e)) := by
  obtain ⟨i0, hi, hz0, hzz, hz2⟩ := info_parts hinf
  have hb : Below w.heap.size w (w.alloc (.cells #[u] e)) := (Below.refl _ _).alloc (Nat.le_refl _) _
  have hgr0 : w.grownBy (w.alloc (.cells #[u] e)) vs.ownBlock := World.grownBy_alloc w _ _
  have hnews := one_news (heap_alloc_new w (.cells #[u] e))
  have hsz : (w.alloc (.cells #[u] e)).heap.size = w.heap.size + 1 := by simp
  generalize w.alloc (.cells #[u] e) = W at *
  refine wpList_append_lies W hgd s x T ho B e i0 z 1 by' hT hi hz0 hzz hz2 hz1 (by decide) vs n xs hs (ownsRow_below hown hb) ⟨w.heap.size, 0, none⟩ 1 1 [u] hx rfl hnews (by intro v hv; simp at hv; subst hv; exact hu) (by decide) (by unfold maxLen; omega) ?_ (by omega) W.heap.size rfl ?_
  · have := Nat.mul_le_mul (show n + 1 ≤ 1000001 by omega) hby
    omega
  · intro g' cap' w' k1 k2 k3 k4
    have k5 := grown_trans hgr0 k2
    have hBg : ∀ k, vs.ownBlock = some k → B ≤ k := fun k hk => (hown.lt k hk).1
    refine h g' cap' w' k1 k5 ?_ (own_ge k1) ((Below.refl _ _).grown k5 hB hBg)
    rcases k3 with k3 | k3
    · exact .inl k3
    · right; omega

/-- strings in memory -/
def StR (w : World) (a : Option Addr) (xs : List ByteArray) : Prop := ∀ (j : Nat) (x : ByteArray), xs[j]? = some x → ∃ b o, a = some ⟨b, o, none⟩ ∧ b < w.heap.size ∧ w.cell? ⟨b, o + j, none⟩ = some (.string x)
theorem StR.below {w w' : World} {a : Option Addr} {xs : List ByteArray} (h : StR w a xs) (hb : Below w.heap.size w w') : StR w' a xs := by
  intro j x hx
  obtain ⟨b, o, e, h1, h2⟩ := h j x hx
  exact ⟨b, o, e, Nat.lt_of_lt_of_le h1 hb.size, ((bcell hb).1 b _ h1).trans h2⟩

/-- what words are read as -/
def numsOf : List ByteArray → Option (List Int)
  | [] => some []
  | x :: xs => match numOf x with
    | none => none
    | some v => (numsOf xs).map (v :: ·)
theorem numsOf_append (xs ys : List ByteArray) : numsOf (xs ++ ys) = match numsOf xs with | none => none | some L => (numsOf ys).map (L ++ ·) := by
  induction xs with
  | nil => simp [numsOf]
  | cons x xs ih =>
    simp only [List.cons_append, numsOf]
    cases numOf x with
    | none => rfl
    | some v =>
      simp only [ih]
      cases numsOf xs with
      | none => rfl
      | some L => simp only [Option.map_some]; cases numsOf ys <;> rfl
theorem numsOf_len {xs : List ByteArray} {L : List Int} (h : numsOf xs = some L) : L.length = xs.length := by
  induction xs generalizing L with
  | nil => injection h with h; subst h; rfl
  | cons x xs ih =>
    simp only [numsOf] at h
    cases hx : numOf x with
    | none => rw [hx] at h; cases h
    | some v =>
      rw [hx] at h
      dsimp only at h
      cases hr : numsOf xs with
      | none => rw [hr] at h; cases h
      | some M => rw [hr] at h; injection h with h; subst h; simp [ih hr]
theorem numsOf_bd {xs : List ByteArray} {L : List Int} (h : numsOf xs = some L) : ∀ v ∈ L, -999999999 ≤ v ∧ v ≤ 999999999 := by
  induction xs generalizing L with
  | nil => injection h with h; subst h; intro v hv; simp at hv
  | cons x xs ih =>
    simp only [numsOf] at h
    cases hx : numOf x with
    | none => rw [hx] at h; cases h
    | some v =>
      rw [hx] at h
      dsimp only at h
      cases hr : numsOf xs with
      | none => rw [hr] at h; cases h
      | some M =>
        rw [hr] at h; injection h with h; subst h
        intro u hu
        rcases List.mem_cons.1 hu with rfl | hu
        · exact numOf_bd hx
        · exact ih hr u hu
theorem takeS {xs : List ByteArray} {k : Nat} {x : ByteArray} (h : xs[k]? = some x) : xs.take (k + 1) = xs.take k ++ [x] := by rw [List.take_add_one, h]; rfl
/-- the answer of numbersOf -/
def NsR (w : World) (r : Option (List Int)) (e : Ending) (w' : World) : Prop :=
  (r = none ∧ e = .returned (.tuple #[.slice none 0 0, .bool false]) ∧ Below w.heap.size w w') ∨
  (∃ L g c, r = some L ∧ e = .returned (.tuple #[.slice (some ⟨g, 0, none⟩) L.length c, .bool true]) ∧ w.heap.size ≤ g ∧ OwnI w' w.heap.size g L.length c L ∧ Below w.heap.size w w')

set_option maxRecDepth 100000 in
set_option maxHeartbeats 1600000 in
theorem nums_any (a : Option Addr) (cap : Nat) (xs : List ByteArray) (w : World) (hl : xs.length ≤ 20000) (hz : ∀ x ∈ xs, x.size ≤ 20000) (hG : Gv w) (hr : StR w a xs) :
    Calls Tryz.prog 53 #[.slice a xs.length cap] w (NsR w (numsOf xs)) := by
  have hr' := hide hr
  have hG' := hide hG
  have hz' := hide hz
  clear hr hG hz
  obtain ⟨i0, hi, hz0, hz1, hz2⟩ := info_parts infoI
  go_enter Tryz.func53, Tryz.ntmps53
  go_wp2_with (refine wpList_make_own _ rfl _ _ 76 rfl w.heap.size 2 i0 (.int .i64 0) 1 Tryz.underlying76 hi hz0 hz1 .i64 .i64 _ xs.length rfl rfl rfl ?b2 ?b3 (Nat.le_refl _) ?_)
  case b2 => rw [hz2]; omega
  case b3 => unfold maxLen; omega
  intro w1 own1 gr1
  have o1 := hide own1
  have b1 := hide (show Below w.heap.size w w1 from (Below.refl _ _).grown gr1 (Nat.le_refl _) (fun k hk => by cases hk))
  clear own1 gr1
  go_wp2
  go_loopw [4, 14] (fun s t wr => ∃ (k g c : Nat) (L : List Int), k ≤ xs.length ∧ t = .int .i64 k ∧ s = .slice (some ⟨g, 0, none⟩) k c ∧ w.heap.size ≤ g ∧ Hid (numsOf (xs.take k) = some L) ∧ Hid (OwnI wr w.heap.size g k c L) ∧ Hid (Below w.heap.size w wr)) (fun _ t _ => xs.length - (intOf t).toNat)
  case atStart => exact ⟨0, w.heap.size, _, [], by omega, rfl, rfl, Nat.le_refl _, hide rfl, hide (unhide o1), b1⟩
  case round =>
    clear o1 b1
    obtain ⟨k, g, c, L, hk, rfl, rfl, hg, hL, ho, hw⟩ := hrel
    by_cases hlt : k < xs.length
    · have hlt' : decide ((k : Int) < xs.length) = true := by rw [decide_eq_true_iff]; omega
      obtain ⟨x, hx⟩ : ∃ x, xs[k]? = some x := ⟨xs[k], List.getElem?_eq_getElem hlt⟩
      obtain ⟨b, o, rfl, hbl, hc⟩ := unhide hr' k x hx
      have C0 : wr.cell? ⟨b, o + k, none⟩ = some (.string x) := ((bcell (unhide hw)).1 b _ hbl).trans hc
      have hxz : x.size ≤ 20000 := unhide hz' x (List.mem_of_getElem? hx)
      have htk := hide (takeS hx)
      have hx' := hide hx
      clear hc hx
      go_wp2_with fail
      refine (number_any x _ hxz ((unhide hG').below (unhide hw))).mono ?_
      rintro e w2 ⟨rfl, b2⟩
      have hw2 := hide (laterB (unhide hw) b2)
      have ho2 := hide (ownsRow_below (unhide ho) b2)
      have hLk : L.length = k := ownI_len (unhide ho)
      cases hv : numOf x with
      | none =>
        have hno : numsOf xs = none := by
          have e1 : xs = xs.take (k + 1) ++ xs.drop (k + 1) := (List.take_append_drop _ _).symm
          rw [e1, numsOf_append, unhide htk, numsOf_append, unhide hL]
          simp [numsOf, hv]
        have hno' := hide hno
        clear b2 hno hv hLk
        unfold nv
        dsimp only [Option.getD_none, Option.isSome_none]
        go_wp2
        exact bodyPost_ret (v := .tuple #[.slice none 0 0, .bool false]) (by simp [results, Tryz.results53, go_sem]) rfl (.inl ⟨unhide hno', rfl, unhide hw2⟩)
      | some v =>
        have hyes := hide (show numsOf (xs.take (k + 1)) = some (L ++ [v]) from by
          rw [unhide htk, numsOf_append, unhide hL]; simp [numsOf, hv])
        have hsz2 := (unhide hw2).size
        clear b2 hv hLk hw ho
        unfold nv
        dsimp only [Option.getD_some, Option.isSome_some]
        go_wp2_with (at_builtin; refine wpList_one Tryz.underlying76 infoI rfl (by decide) _ rfl _ _ rfl w.heap.size k (.slice (some ⟨g, 0, none⟩) k c) (L.map iv) (.int .i64 v) rfl rfl (unhide ho2) rfl (by omega) hsz2 ?_)
        intro g' cap' w3 own3 gr3 hg3 hg3' hb3
        have o3 := hide (show OwnI w3 w.heap.size g' (k + 1) cap' (L ++ [v]) from by unfold OwnI; rw [List.map_append]; exact own3)
        have hw3 := hide ((unhide hw2).trans hb3)
        clear own3 gr3 hg3 hb3 ho2 hw2
        go_wp2
        go_roundw
        case rel => exact ⟨k + 1, g', cap', L ++ [v], by omega, by go_num, rfl, hg3', hyes, o3, hw3⟩
        case measure => simp [intOf]; omega
    · obtain rfl : k = xs.length := by omega
      have hlt' : decide ((xs.length : Int) < xs.length) = false := by simp
      have hL' : numsOf xs = some L := by have := unhide hL; rw [List.take_length] at this; exact this
      have hLn := numsOf_len hL'
      have hL2 := hide hL'
      have hLn' := hide hLn
      clear hL hL' hLn
      go_wp2
      refine bodyPost_ret (v := .tuple #[.slice (some ⟨g, 0, none⟩) xs.length c, .bool true]) (by simp [results, Tryz.results53, go_sem]) rfl (.inr ⟨L, g, c, unhide hL2, ?_, hg, ?_, unhide hw⟩)
      · rw [unhide hLn']
      · rw [unhide hLn']; exact unhide ho
end Go.Proofs.YtioaehjppiodfaaGreatDoor
