/-
  The program's list of a cut: its contract.
-/
import Derived.Test.YtfhbmfndjbdhcaaGreatDoorICw
namespace Go.Proofs.YtfhbmfndjbdhcaaGreatDoor
open Go.RowKit Go.Shelf
set_option linter.unusedVariables false
set_option linter.unusedSimpArgs false
attribute [local go_sem] Oper.semAt_some

/-- the lines of the clips that were handed over, in their order -/
def gX (n d : Int) (dr : Bool) (m : List Kl) : List (Fin m.length) → Nat → List UInt8
  | [], _ => []
  | x :: p, i => lineL n d dr i (clen (m.take x.1)) (kAt m x.1) ++ gX n d dr m p (i + 1)
theorem gX_snoc (n d : Int) (dr : Bool) (m : List Kl) (p : List (Fin m.length)) (x : Fin m.length) (i : Nat) :
    gX n d dr m (p ++ [x]) i = gX n d dr m p i ++ lineL n d dr (i + p.length) (clen (m.take x.1)) (kAt m x.1) := by
  induction p generalizing i with
  | nil => simp [gX]
  | cons y p ih =>
    simp only [List.cons_append, gX, ih, List.append_assoc, List.length_cons]
    rw [show i + 1 + p.length = i + (p.length + 1) by omega]
theorem gX_take {n d : Int} {dr : Bool} {m : List Kl} : ∀ {k : Nat}, k ≤ m.length → gX n d dr m ((List.finRange m.length).take k) 0 = linesL n d dr m k := by
  intro k
  induction k with
  | zero => intro _; rfl
  | succ k ih =>
    intro hk
    rw [fin_take (by omega), gX_snoc, ih (by omega)]
    simp only [linesL, Nat.zero_add]
    rw [List.length_take, List.length_finRange, Nat.min_eq_left (by omega)]
theorem gX_len {n d : Int} {dr : Bool} {m : List Kl} (h : AOk m) : ∀ (p : List (Fin m.length)) (i : Nat), (gX n d dr m p i).length ≤ 64 * p.length := by
  intro p
  induction p with
  | nil => intro i; simp [gX]
  | cons x p ih =>
    intro i
    have h1 := ih (i + 1)
    have hm : kAt m x.1 ∈ m := List.mem_of_getElem? (kAt_get x.2)
    have h2 := lineL_len (n := n) (d := d) (dr := dr) (i := i) (at0 := clen (m.take x.1)) (c := kAt m x.1) (by have := (h (kAt m x.1) hm).2.2.2.2; omega)
    simp only [gX, List.length_append, List.length_cons]
    omega
/-- a line is its words with blanks between, and its end -/
theorem line_join (n d : Int) (dr : Bool) (i : Nat) (at0 x1 x2 x3 : Int) :
    Lib.join [numW i, srcW x1, [67], Pl.tt n d dr x2, Pl.tt n d dr (x2 + x3), Pl.tt n d dr at0, Pl.tt n d dr (at0 + x3)] [32] ++ [10] = lineL n d dr i at0 (x1, x2, x3) := by
  simp [Lib.join, List.intercalate, lineL]
theorem bF_kept {T e : TypeId} {B b : Nat} {bs : List Value} {X Y : World} (h : Lib.IsBuilderF T e B b bs X) (hk : ∀ (k : Nat) (o : Obj), X.heap[k]? = some o → o.isCells = true → Y.heap[k]? = some o) : Lib.IsBuilderF T e B b bs Y := by
  have H : ∀ p, Lib.BuilderAtF T e B b p bs X → Lib.BuilderAtF T e B b p bs Y := by
    rintro p ⟨hB, v, hb, ⟨hl, hr⟩, hne⟩
    refine ⟨hB, v, hk _ _ hb rfl, ⟨hl, ?_⟩, hne⟩
    rcases hr with hr | ⟨g, cap, cur, fz, hv, hg, hh, r⟩
    · exact .inl hr
    · exact .inr ⟨g, cap, cur, fz, hv, hg, hk _ _ hh rfl, r⟩
  exact h.elim (fun x => .inl (H _ x)) (fun x => .inr (H _ x))
theorem own_kind3 {w : World} {B g n cap : Nat} {xs : List Value} (h : w.ownsRow B 44 3 (.slice (some ⟨g, 0, none⟩) n cap) n xs) : ∃ c fz, w.heap[g]? = some (.cells c 44 fz) := by
  rcases h.2 with ⟨h0, _⟩ | ⟨g', cap', cur, hv, _, hgg, _⟩
  · cases h0
  · injection hv with hv
    injection hv with hv
    injection hv with hv
    subst hv
    exact ⟨cur, _, hgg⟩
/-- a line's seven words -/
def wdS (n d : Int) (dr : Bool) (i : Nat) (at0 x1 x2 x3 : Int) : Nat → ByteArray
  | 0 => ⟨(numW i).toArray⟩
  | 1 => ⟨(srcW x1).toArray⟩
  | 2 => ⟨#[67]⟩
  | 3 => ⟨(Pl.tt n d dr x2).toArray⟩
  | 4 => ⟨(Pl.tt n d dr (x2 + x3)).toArray⟩
  | 5 => ⟨(Pl.tt n d dr at0).toArray⟩
  | _ => ⟨(Pl.tt n d dr (at0 + x3)).toArray⟩
theorem icw_yes (n d : Int) (dr : Bool) (i : Nat) (at0 x1 x2 x3 : Int) (w : World) (hi : i < 999) (ha : 0 ≤ at0) (ha1 : at0 + x3 ≤ 10000000) (hc : COk (x1, x2, x3)) (ht : Tab w) (hok : tOk n d dr at0 (x1, x2, x3) = true) :
    Calls Tryz.prog 20 #[.agg #[.int .i64 n, .int .i64 d, .bool dr], .int .i64 i, .int .i64 at0, .agg #[.int .i64 x1, .int .i64 x2, .int .i64 x3]] w fun e w' =>
      e = .returned (.tuple #[.agg #[.string (wdS n d dr i at0 x1 x2 x3 0), .string (wdS n d dr i at0 x1 x2 x3 1), .string (wdS n d dr i at0 x1 x2 x3 2), .string (wdS n d dr i at0 x1 x2 x3 3), .string (wdS n d dr i at0 x1 x2 x3 4), .string (wdS n d dr i at0 x1 x2 x3 5), .string (wdS n d dr i at0 x1 x2 x3 6)], .bool true]) ∧ Below w.heap.size w w' := by
  refine (icw_any n d dr i at0 x1 x2 x3 w hi ha ha1 hc ht (wdS n d dr i at0 x1 x2 x3) rfl rfl rfl rfl rfl rfl rfl).mono ?_
  rintro e w' ⟨⟨v, rfl, hv, _⟩, hb⟩
  rw [hv hok, hok]
  exact ⟨rfl, hb⟩
theorem icw_no (n d : Int) (dr : Bool) (i : Nat) (at0 x1 x2 x3 : Int) (w : World) (hi : i < 999) (ha : 0 ≤ at0) (ha1 : at0 + x3 ≤ 10000000) (hc : COk (x1, x2, x3)) (ht : Tab w) (hok : tOk n d dr at0 (x1, x2, x3) = false) :
    Calls Tryz.prog 20 #[.agg #[.int .i64 n, .int .i64 d, .bool dr], .int .i64 i, .int .i64 at0, .agg #[.int .i64 x1, .int .i64 x2, .int .i64 x3]] w fun e w' =>
      (∃ u0 u1 u2 u3 u4 u5 u6, e = .returned (.tuple #[.agg #[.string u0, .string u1, .string u2, .string u3, .string u4, .string u5, .string u6], .bool false])) ∧ Below w.heap.size w w' := by
  refine (icw_any n d dr i at0 x1 x2 x3 w hi ha ha1 hc ht (wdS n d dr i at0 x1 x2 x3) rfl rfl rfl rfl rfl rfl rfl).mono ?_
  rintro e w' ⟨⟨v, rfl, hv, u0, u1, u2, u3, u4, u5, u6, rfl⟩, hb⟩
  rw [hok]
  exact ⟨⟨u0, u1, u2, u3, u4, u5, u6, rfl⟩, hb⟩
theorem bF_blk {T e : TypeId} {B b : Nat} {bs : List Value} {X : World} (h : Lib.IsBuilderF T e B b bs X) : ∃ c, X.heap[b]? = some (.cells c T (0, 0)) := by
  rcases h with ⟨_, v, hb, _⟩ | ⟨_, v, hb, _⟩ <;> exact ⟨_, hb⟩
/-- a line but for its end, as Join gives it -/
theorem line_str (n d : Int) (dr : Bool) (i : Nat) (at0 x1 x2 x3 : Int) : ∃ sJ : ByteArray,
    (Hid ((⟨(Lib.join ([wdS n d dr i at0 x1 x2 x3 0, wdS n d dr i at0 x1 x2 x3 1, wdS n d dr i at0 x1 x2 x3 2, wdS n d dr i at0 x1 x2 x3 3, wdS n d dr i at0 x1 x2 x3 4, wdS n d dr i at0 x1 x2 x3 5, wdS n d dr i at0 x1 x2 x3 6].map (·.data.toList)) (⟨#[32]⟩ : ByteArray).data.toList).toArray⟩ : ByteArray) = sJ) ∧ Lib.strCells sJ ++ Lib.strCells ⟨#[10]⟩ = Lib.byteCells (lineL n d dr i at0 (x1, x2, x3))) ∧ (x1 ≤ 500 → sJ.size ≤ 64) := by
  refine ⟨_, ⟨rfl, ?_⟩, fun h => ?_⟩
  · rw [← line_join, Lib.byteCells_append]; rfl
  · have h1 := lineL_len (n := n) (d := d) (dr := dr) (i := i) (at0 := at0) (c := (x1, x2, x3)) h
    rw [← line_join, List.length_append] at h1
    rw [Lib.size_eq]
    exact Nat.le_trans (Nat.le_add_right _ _) h1
theorem wd_cells (wA : World) {s0 s1 s2 s3 s4 s5 s6 z0 z1 z2 z3 z4 z5 z6 sJ : ByteArray} (e0 : z0 = s0) (e1 : z1 = s1) (e2 : z2 = s2) (e3 : z3 = s3) (e4 : z4 = s4) (e5 : z5 = s5) (e6 : z6 = s6)
    (hJ : Hid ((⟨(Lib.join ([z0, z1, z2, z3, z4, z5, z6].map (·.data.toList)) (⟨#[32]⟩ : ByteArray).data.toList).toArray⟩ : ByteArray) = sJ)) (hl : sJ.size ≤ 64) :
    Calls Tryz.prog 22 #[.slice (some ⟨wA.heap.size, 0, none⟩) 7 7, .string ⟨#[32]⟩] (wA.alloc (.cells #[.string s0, .string s1, .string s2, .string s3, .string s4, .string s5, .string s6] 57)) fun e w' => e = .returned (.string sJ) ∧ Below (wA.alloc (.cells #[.string s0, .string s1, .string s2, .string s3, .string s4, .string s5, .string s6] 57)).heap.size (wA.alloc (.cells #[.string s0, .string s1, .string s2, .string s3, .string s4, .string s5, .string s6] 57)) w' := by
  subst e0 e1 e2 e3 e4 e5 e6
  have hJ' : (⟨(Lib.join ([z0, z1, z2, z3, z4, z5, z6].map (·.data.toList)) (⟨#[32]⟩ : ByteArray).data.toList).toArray⟩ : ByteArray) = sJ := hJ
  have h := Tryz.strings_Join wA.heap.size 0 7 [z0, z1, z2, z3, z4, z5, z6] ⟨#[32]⟩ (wA.alloc (.cells #[.string z0, .string z1, .string z2, .string z3, .string z4, .string z5, .string z6] 57)) ?_ (by simp) (by simp) (by simp) ?_
  · rw [hJ'] at h; exact h
  · intro j x hj
    obtain ⟨m0, m1, m2, m3, m4, m5, m6⟩ := blk7 (alloc_new wA (.cells #[.string z0, .string z1, .string z2, .string z3, .string z4, .string z5, .string z6] 57))
    match j, hj with
    | 0, hj => simp at hj; subst hj; exact m0
    | 1, hj => simp at hj; subst hj; exact m1
    | 2, hj => simp at hj; subst hj; exact m2
    | 3, hj => simp at hj; subst hj; exact m3
    | 4, hj => simp at hj; subst hj; exact m4
    | 5, hj => simp at hj; subst hj; exact m5
    | 6, hj => simp at hj; subst hj; exact m6
    | j + 7, hj => simp at hj
  · have h9 := congrArg ByteArray.size hJ'
    rw [Lib.size_eq] at h9
    have h8 : (Lib.join ([z0, z1, z2, z3, z4, z5, z6].map (·.data.toList)) (⟨#[32]⟩ : ByteArray).data.toList).length = sJ.size := h9
    omega
theorem oth_blk {b k : Nat} {X Y : World} {c : Array Value} {t : TypeId} {fz : Nat × Nat} (h : Lib.OthersKept 5 (some b) X Y) (hk : X.heap[k]? = some (.cells c t fz)) (h1 : k ≠ b) (h5 : t ≠ 5) : Y.heap[k]? = some (.cells c t fz) :=
  h k _ hk (by simpa using h1) (fun _ _ e => by injection e with _ e _; exact h5 e)
theorem bF_other {B b L : Nat} {bs : List Value} {X : World} {v : Value} (h : Lib.IsBuilderF 52 5 B b bs X) (hL : Boxed X L 2 v) (u : Value) : Lib.IsBuilderF 52 5 B b bs (X.setCell ⟨L, 0, none⟩ u) := by
  have hne : ∀ (k : Nat) (c : Array Value) (t : TypeId) (fz : Nat × Nat), X.heap[k]? = some (.cells c t fz) → t ≠ 2 → (X.setCell ⟨L, 0, none⟩ u).heap[k]? = some (.cells c t fz) := fun k c t fz hk ht => by
    rw [Below.heap_setCell X ⟨L, 0, none⟩ u k (fun e => ?_)]
    · exact hk
    · simp only at e
      have hL' : X.heap[L]? = some (.cells #[v] 2 (0, 0)) := hL
      rw [e] at hk
      rw [hk] at hL'
      injection hL' with hL'
      injection hL' with _ e2 _
      exact ht e2
  have H : ∀ p, Lib.BuilderAtF 52 5 B b p bs X → Lib.BuilderAtF 52 5 B b p bs (X.setCell ⟨L, 0, none⟩ u) := by
    rintro p ⟨hB, v', hb, ⟨hl, hr⟩, hn⟩
    refine ⟨hB, v', hne _ _ _ _ hb (by decide), ⟨hl, ?_⟩, hn⟩
    rcases hr with hr | ⟨g, cap, cur, fz, hv, hg, hh, r⟩
    · exact .inl hr
    · exact .inr ⟨g, cap, cur, fz, hv, hg, hne _ _ _ _ hh (by decide), r⟩
  exact h.elim (fun x => .inl (H _ x)) (fun x => .inr (H _ x))
theorem blk_turn {B c : Nat} {X Y : World} {row : Option Nat} {o : Obj} (h : X.heap[c]? = some o) (hc : o.isCells = true) (hg : X.grownBy Y row) (hr : ∀ r, row = some r → B ≤ r ∧ ∃ o : Obj, X.heap[r]? = some o ∧ o.isCells = false) : Y.heap[c]? = some o := by
  refine (hg.block c (Array.getElem?_eq_some_iff.1 h).1 (fun e => ?_)).trans h
  obtain ⟨_, o', ho', hc'⟩ := hr c e.symm
  rw [h] at ho'; cases ho'; rw [hc] at hc'; cases hc'
theorem boxed_turn {B c : Nat} {t : TypeId} {v : Value} {X Y : World} {row : Option Nat} (h : Boxed X c t v) (hg : X.grownBy Y row) (hr : ∀ r, row = some r → B ≤ r ∧ ∃ o : Obj, X.heap[r]? = some o ∧ o.isCells = false) : Boxed Y c t v := blk_turn h rfl hg hr
theorem below_turn {B n : Nat} {w X Y : World} {row : Option Nat} (h : Below n w X) (hn : n ≤ w.heap.size) (hg : X.grownBy Y row) (hr : ∀ r, row = some r → B ≤ r ∧ ∃ o : Obj, X.heap[r]? = some o ∧ o.isCells = false) (hB : n ≤ B) : Below n w Y :=
  h.grown hg (Nat.le_trans hn h.size) (fun k e => by have := (hr k e).1; omega)

set_option maxRecDepth 100000 in
set_option maxHeartbeats 400000 in
theorem ishow_no (n d : Int) (dr : Bool) (a : Option Addr) (cap : Nat) (l : List Kl) (w : World) (hl : l.length ≤ maxLen) (hT : ¬ TOk l) (hk : Kls w a l) :
    Calls Tryz.prog 6 #[.agg #[.int .i64 n, .int .i64 d, .bool dr], .slice a l.length cap] w fun e w' => e = .returned (.string ⟨#[]⟩) ∧ Below w.heap.size w w' := by
  have hk' := hide hk
  have co := hide (fun w (h : Kls w a l) => opened_no a cap l w hl hT h)
  clear hT hk
  go_enter Tryz.func6, Tryz.ntmps6
  go_wp2_with fail
  refine (unhide co _ ((unhide hk').below (((Below.refl _ w).alloc (Nat.le_refl _) _).alloc (by simp) _))).mono ?_
  rintro e w1 ⟨rfl, hb1⟩
  have k1 : Below w.heap.size w w1 := (((Below.refl _ w).alloc (Nat.le_refl _) _).alloc (by simp) _).trans (hb1.mono (by simp; omega))
  have hS : Boxed w1 (w.heap.size + 1) 9 (.string ⟨#[]⟩) := blk_below (by have := alloc_new (w.alloc (.cells #[.int .i64 n, .int .i64 d, .bool dr] 25)) (.cells #[.string ⟨#[]⟩] 9); rwa [World.size_alloc] at this) hb1
  have s0 := hS.cell
  have s1 := hS.frozen
  have hSl := hS.lt
  have hwl := k1.size
  clear hb1 co hk'
  generalize hz : w.heap.size = z at *
  go_wp2
  have c9 := ((hS.set (.string ⟨#[]⟩)).alloc (.cells #[.slice none 0 0, .int .i64 0] 47)).cell
  have B9 : Below z w ((w1.setCell ⟨z + 1, 0, none⟩ (.string ⟨#[]⟩)).alloc (.cells #[.slice none 0 0, .int .i64 0] 47)) := (k1.setCell (p := ⟨z + 1, 0, none⟩) (by simp) _).alloc (by simpa using hwl) _
  generalize (w1.setCell ⟨z + 1, 0, none⟩ (.string ⟨#[]⟩)).alloc (.cells #[.slice none 0 0, .int .i64 0] 47) = W9 at *
  refine bodyPost_ret (v := .string ⟨#[]⟩) (by simp [results, Tryz.results6, go_sem, c9]) rfl ?_
  exact ⟨rfl, by rw [hz]; exact B9⟩

set_option maxRecDepth 100000 in
set_option maxHeartbeats 4000000 in
theorem ishow_yes (n d : Int) (dr : Bool) (a : Option Addr) (cap : Nat) (l : List Kl) (w : World) (hT : TOk l) (hk : Kls w a l) (ht : Tab w) :
    Calls Tryz.prog 6 #[.agg #[.int .i64 n, .int .i64 d, .bool dr], .slice a l.length cap] w fun e w' => e = .returned (.string ⟨(listOf n d dr (join l)).toArray⟩) ∧ Below w.heap.size w w' := by
  have hl3 := hT.1
  have hA := hide hT.2.1
  have hJT := hide (show TOk (join l) from join_tok hT)
  have hk' := hide hk
  have ht' := hide ht
  have co := hide (fun w (h : Kls w a l) => opened_ok a cap l w hT h)
  clear hT hk ht
  refine (callsIn_wide (n := 6)).1 ?_
  refine callsIn_of_wp_marks Tryz.func6 rfl trivial ?_ rfl
  simp only [Tryz.ntmps6, List.size_toArray, List.length_cons, List.length_nil, Nat.reduceAdd, Nat.reduceSub, Array.replicate_succ, Array.replicate_zero, List.push_toArray, List.append_toArray, List.nil_append, List.cons_append]
  refine wpIn_wide.2 ?_
  go_wp2_with fail
  refine (unhide co _ ((unhide hk').below (((Below.refl _ w).alloc (Nat.le_refl _) _).alloc (by simp) _))).mono ?_
  rintro e w1 ⟨rfl, hb1⟩
  have k1 : Below w.heap.size w w1 := (((Below.refl _ w).alloc (Nat.le_refl _) _).alloc (by simp) _).trans (hb1.mono (by simp; omega))
  have hS1 : Boxed w1 (w.heap.size + 1) 9 (.string ⟨#[]⟩) := blk_below (by have := alloc_new (w.alloc (.cells #[.int .i64 n, .int .i64 d, .bool dr] 25)) (.cells #[.string ⟨#[]⟩] 9); rwa [World.size_alloc] at this) hb1
  have hR1 : w1.heap[w.heap.size]? = some (.cells #[.int .i64 n, .int .i64 d, .bool dr] 25 (0, 0)) := blk_below (by rw [Below.heap_alloc _ _ _ (by simp)]; exact alloc_new _ _) hb1
  have hs1 : w.heap.size + 2 ≤ w1.heap.size := by have := hb1.size; simp at this; omega
  clear hb1 co
  go_wp2_with fail
  obtain ⟨w2, hw2⟩ : ∃ w2, w2 = ((w1.alloc (.cells #[.slice a l.length cap, .int .i64 (clen l)] 47)).alloc (.cells #[.pointer none, .slice none 0 0] 52)).alloc (.cells #[.int .i64 0] 2) := ⟨_, rfl⟩
  have kb2 : Below w1.heap.size w1 w2 := by rw [hw2]; exact (((Below.refl _ w1).alloc (Nat.le_refl _) _).alloc (by simp) _).alloc (by simp; omega) _
  have k2 : Below w.heap.size w w2 := laterB k1 kb2
  have iR2 := blk_below hR1 kb2
  have iS2 : Boxed w2 (w.heap.size + 1) 9 (.string ⟨#[]⟩) := blk_below hS1 kb2
  have iL2 : Boxed w2 (w1.heap.size + 1 + 1) 2 (.int .i64 0) := by
    rw [hw2]
    have := Boxed.new ((w1.alloc (.cells #[.slice a l.length cap, .int .i64 (clen l)] 47)).alloc (.cells #[.pointer none, .slice none 0 0] 52)) 2 (.int .i64 0)
    rw [World.size_alloc, World.size_alloc] at this
    exact this
  have iB2 : Lib.IsBuilderF 52 5 (w1.heap.size + 1) (w1.heap.size + 1) [] w2 := by
    rw [hw2]
    have h9 := Lib.IsBuilderF.of (Lib.fresh_isBuilder 52 5 (w1.alloc (.cells #[.slice a l.length cap, .int .i64 (clen l)] 47)))
    rw [World.size_alloc] at h9
    exact bF_kept h9 (fun k o hk _ => (Below.heap_alloc _ _ _ (Array.getElem?_eq_some_iff.1 hk).1).trans hk)
  have hz2 : w2.heap.size = w1.heap.size + 3 := by rw [hw2]; simp
  rw [← hw2]
  clear hw2
  refine (ijoin_any a cap l w2 (by omega) (unhide hA) ((unhide hk').below k2)).mono ?_
  rintro e w3 ⟨g, c, rfl, hg, hown, hb3⟩
  go_wp2_with fail
  refine (placed_any _ _ _ _).mono ?_
  rintro e w4 ⟨rfl, rfl⟩
  go_wp2_with fail
  have kb3 : Below w2.heap.size w2 (w3.alloc (.cells #[.slice (some ⟨g, 0, none⟩) (join l).length c] 45)) := hb3.alloc hb3.size _
  have k4 : Below w.heap.size w (w3.alloc (.cells #[.slice (some ⟨g, 0, none⟩) (join l).length c] 45)) := laterB k2 kb3
  have iR := blk_below iR2 kb3
  have iS : Boxed (w3.alloc (.cells #[.slice (some ⟨g, 0, none⟩) (join l).length c] 45)) (w.heap.size + 1) 9 (.string ⟨#[]⟩) := blk_below iS2 kb3
  have iL : Boxed (w3.alloc (.cells #[.slice (some ⟨g, 0, none⟩) (join l).length c] 45)) (w1.heap.size + 1 + 1) 2 (.int .i64 0) := blk_below iL2 kb3
  have iB : Lib.IsBuilderF 52 5 (w1.heap.size + 1) (w1.heap.size + 1) [] (w3.alloc (.cells #[.slice (some ⟨g, 0, none⟩) (join l).length c] 45)) := bF_kept iB2 (fun k o hk _ => blk_below hk kb3)
  have iBs : Boxed (w3.alloc (.cells #[.slice (some ⟨g, 0, none⟩) (join l).length c] 45)) w3.heap.size 45 (.slice (some ⟨g, 0, none⟩) (join l).length c) := Boxed.new _ _ _
  have hownW := ownsRow_below hown ((Below.refl _ w3).alloc (Nat.le_refl _) (.cells #[.slice (some ⟨g, 0, none⟩) (join l).length c] 45))
  have iK : KlsU (w1.heap.size + 1 + 1) (w1.heap.size + 1) (w3.alloc (.cells #[.slice (some ⟨g, 0, none⟩) (join l).length c] 45)) (some ⟨g, 0, none⟩) (join l) := by
    refine ⟨kls_own hownW, fun _ g' o' e => ?_⟩
    injection e with e
    injection e with e _ _
    subst e
    exact ⟨by omega, by omega, own_kind3 hownW⟩
  have hz3 : w2.heap.size ≤ w3.heap.size := hb3.size
  have hzW : (w3.alloc (.cells #[.slice (some ⟨g, 0, none⟩) (join l).length c] 45)).heap.size = w3.heap.size + 1 := by simp
  generalize hm : join l = m at *
  have hm' := hide hm
  clear hm
  have hmT := unhide hJT
  have hm3 : m.length ≤ 300 := hmT.1
  have hmA := hide hmT.2.1
  have hmC := hmT.2.2
  have hw1z := k1.size
  clear hJT hmT hA hk' k1 kb2 k2 iR2 iS2 iL2 iB2 hb3 kb3 hown hownW hS1 hR1 hg
  generalize w3.alloc (.cells #[.slice (some ⟨g, 0, none⟩) m.length c] 45) = W0 at *
  generalize hzz : w.heap.size = Rb at *
  generalize hSb : Rb + 1 = Sb at *
  generalize w1.heap.size = Ob at *
  generalize hbb : Ob + 1 = b at *
  generalize hLL : b + 1 = L at *
  generalize w3.heap.size = Bs at *
  have hRW : Rb + 2 ≤ Ob := by omega
  have hLB : L < Bs := by omega
  have hBW : Bs < W0.heap.size := by omega
  refine (wpIn_wide (n := 6)).1 ?_
  refine wpIn_rangeFunc_ownH (F := Fence.wide) (w := W0) rfl (by omega) (gf := 38) (lb := #[.pointer (some ⟨Bs, 0, none⟩)]) rfl trivial (enters_of Tryz.func38 (by kernel_rfl) rfl)
    (placed_stops 5 L b Bs (some ⟨g, 0, none⟩) c m hm3 (unhide hmA) W0 iK (by omega) (by omega) hBW iBs.cell) (fun h k => KeepU.trans h k) keepU_b (Below.refl _ _) (fun _ => rfl)
    (fun pre W => Boxed W L 2 (.int .i64 (pre.length : Nat)) ∧ Lib.IsBuilderF 52 5 b b (Lib.byteCells (gX n d dr m pre 0)) W ∧ W.heap[Rb]? = some (.cells #[.int .i64 n, .int .i64 d, .bool dr] 25 (0, 0)) ∧ Boxed W Sb 9 (.string ⟨#[]⟩) ∧ Below Rb w W ∧ ∀ x ∈ pre, tOk n d dr (clen (m.take x.1)) (kAt m x.1) = true)
    (fun co pre W => co = .ret ∧ (∃ ini x, pre = ini ++ [x] ∧ tOk n d dr (clen (m.take x.1)) (kAt m x.1) = false) ∧ Boxed W Sb 9 (.string ⟨#[]⟩) ∧ Below Rb w W)
    ?hI ?hIx ?h0
    (fun x a' W => ∃ Cx, L < Cx ∧ W.heap[Cx]? = some (.cells #[.int .i64 (kAt m x.1).1, .int .i64 (kAt m x.1).2.1, .int .i64 (kAt m x.1).2.2] 44 (0, 0)) ∧ a' = { tmps := #[.agg #[.int .i64 n, .int .i64 d, .bool dr], .slice a l.length cap, .pointer (some ⟨Rb, 0, none⟩), undef, .pointer (some ⟨Sb, 0, none⟩), .pointer (some ⟨Ob, 0, none⟩), .bool true, .pointer (some ⟨b, 0, none⟩), .pointer (some ⟨L, 0, none⟩), .int .i64 (clen (m.take x.1)), .pointer (some ⟨Cx, 0, none⟩), undef, undef, .tuple #[.agg #[.slice a l.length cap, .int .i64 (clen l)], .bool true], .slice a l.length cap, .tuple #[.agg #[.slice a l.length cap, .int .i64 (clen l)], .bool true], .agg #[.slice a l.length cap, .int .i64 (clen l)], .bool true, .bool true, .bool false, .agg #[.pointer none, .slice none 0 0], .pointer (some ⟨Ob, 0, none⟩), .slice a l.length cap, .slice (some ⟨g, 0, none⟩) m.length c, .func (.func 38) #[] #[.pointer (some ⟨Bs, 0, none⟩)], .int .i64 (clen (m.take x.1)), .agg #[.int .i64 (kAt m x.1).1, .int .i64 (kAt m x.1).2.1, .int .i64 (kAt m x.1).2.2], undef, undef, undef, undef, undef, undef, undef, undef, undef, undef, undef, undef, undef, undef, undef, undef, undef], defers := [] })
    ?hAx ?assign ?body ?done ?stop
  case hI =>
    rintro s X Y row ⟨h1, h2, h3, h4, h5, h6⟩ hg hr
    exact ⟨boxed_turn h1 hg hr, bF_kept h2 (fun k o hk hc => blk_turn hk hc hg hr), blk_turn h3 rfl hg hr, boxed_turn h4 hg hr, below_turn h5 (by omega) hg hr (by omega), h6⟩
  case hIx =>
    rintro co s X Y row ⟨h1, h2, h3, h4⟩ hg hr
    exact ⟨h1, h2, boxed_turn h3 hg hr, below_turn h4 (by omega) hg hr (by omega)⟩
  case h0 => exact ⟨iL, iB, iR, iS, k4, by simp⟩
  case hAx =>
    rintro x a' s X Y row ⟨Cx, e1, e2, e3⟩ hg hr
    exact ⟨Cx, e1, blk_turn e2 rfl hg hr, e3⟩
  case assign =>
    rintro l1 pre x W K ⟨i1, i2, i3, i4, i5, i6⟩ hK
    obtain ⟨⟨c1, c2, c3⟩, hc⟩ : ∃ c, kAt m x.1 = c := ⟨_, rfl⟩
    have hMl : L < W.heap.size := i1.lt
    have kx : Below W.heap.size W (W.alloc (.cells #[.int .i64 c1, .int .i64 c2, .int .i64 c3] 44)) := (Below.refl _ W).alloc (Nat.le_refl _) _
    have hK' := hide hK
    have hI9 := hide (show Boxed (W.alloc (.cells #[.int .i64 c1, .int .i64 c2, .int .i64 c3] 44)) L 2 (.int .i64 (pre.length : Nat)) ∧ Lib.IsBuilderF 52 5 b b (Lib.byteCells (gX n d dr m pre 0)) (W.alloc (.cells #[.int .i64 c1, .int .i64 c2, .int .i64 c3] 44)) ∧ (W.alloc (.cells #[.int .i64 c1, .int .i64 c2, .int .i64 c3] 44)).heap[Rb]? = some (.cells #[.int .i64 n, .int .i64 d, .bool dr] 25 (0, 0)) ∧ Boxed (W.alloc (.cells #[.int .i64 c1, .int .i64 c2, .int .i64 c3] 44)) Sb 9 (.string ⟨#[]⟩) ∧ Below Rb w (W.alloc (.cells #[.int .i64 c1, .int .i64 c2, .int .i64 c3] 44)) ∧ ∀ x ∈ pre, tOk n d dr (clen (m.take x.1)) (kAt m x.1) = true from
      ⟨i1.alloc _, bF_kept i2 (fun k o hk _ => blk_below hk kx), blk_below i3 kx, i4.alloc _, i5.alloc (by have := i5.size; omega) _, i6⟩)
    simp only [plv, hc]
    rw [hc] at hK'
    simp only at hK'
    clear hK i1 i2 i3 i4 i5 i6 hc kx
    generalize clen (m.take x.1) = at0 at *
    gi_wp2
    exact unhide hK' _ _ ((KeepsOthers.alloc _ _).from _) (keepU_alloc _ _) (unhide hI9) ⟨W.heap.size, hMl, alloc_new W _, rfl⟩
  case body =>
    rintro l1 pre x a' W hl1 ⟨r, hr⟩ ⟨iL, iB, iR, iS, iBel, iT⟩ ⟨Cx, hCx, hblk, rfl⟩ hlt
    have hcx : COk (kAt m x.1) := (unhide hmA) _ (List.mem_of_getElem? (kAt_get x.2))
    have q2 := clen_take (kAt_get x.2)
    have q1 := clen_take_le (unhide hmA) (x.1 + 1)
    have q0 := clen_nonneg ((unhide hmA).take x.1)
    have hgl := gX_len (n := n) (d := d) (dr := dr) (unhide hmA) pre 0
    have hgs := hide (gX_snoc n d dr m pre x 0)
    have hix := hide (show ∀ h : tOk n d dr (clen (m.take x.1)) (kAt m x.1) = false, ∃ ini y, pre ++ [x] = ini ++ [y] ∧ tOk n d dr (clen (m.take y.1)) (kAt m y.1) = false from fun h => ⟨pre, x, rfl, h⟩)
    have hit := hide (show ∀ h : tOk n d dr (clen (m.take x.1)) (kAt m x.1) = true, ∀ y ∈ pre ++ [x], tOk n d dr (clen (m.take y.1)) (kAt m y.1) = true from fun h y hy => by
      rcases List.mem_append.1 hy with h1 | h1
      · exact iT y h1
      · simp at h1; rw [h1]; exact h)
    obtain ⟨⟨c1, c2, c3⟩, hc⟩ : ∃ c, kAt m x.1 = c := ⟨_, rfl⟩
    rw [hc] at hcx hblk q2 hgs hix hit
    rw [hc]
    have hqc := q2
    have q3 : clen (m.take x.1) + c3 ≤ 10000000 := by simp only at q2; omega
    have hpl : (pre ++ [x]).length = pre.length + 1 := by simp
    have hpl' := hide hpl
    clear hc q2 q1 hqc hpl iT
    generalize clen (m.take x.1) = at0 at *
    generalize hG : gX n d dr m pre 0 = G at *
    clear hG
    rw [Nat.zero_add] at hgs
    generalize hi : pre.length = i at *
    have hi3 : i < 300 := by omega
    have hsW := iBel.size
    have hLl := iL.lt
    have cL := iL.cell
    have fL := iL.frozen
    have hSl := iS.lt
    obtain ⟨r0, r1, r2⟩ := blk3 iR
    obtain ⟨d0, d1, d2⟩ := blk3 hblk
    have iL' := hide iL
    have iB' := hide iB
    have iR' := hide iR
    have iS' := hide iS
    have iBel' := hide iBel
    have hr' := hide hr
    have hTw := hide ((unhide ht').below (show Below w.heap.size w W by rw [hzz]; exact iBel))
    clear iL iB iR iS iBel hblk hr
    cases hok : tOk n d dr at0 (c1, c2, c3)
    · have hx9 := hide (unhide hix hok)
      clear hix hit
      gi_wp2_with fail
      refine ⟨trivial, CallsIn.mono (CallsIn.inRound l1 (callsIn_wide.2 (icw_no n d dr i at0 c1 c2 c3 W (by omega) q0 q3 hcx (unhide hTw) hok))) ?_⟩
      rintro e wA ⟨⟨u0, u1, u2, u3, u4, u5, u6, rfl⟩, hbA⟩
      have bS : Boxed wA Sb 9 (.string ⟨#[]⟩) := blk_below (unhide iS') hbA
      have cS := bS.cell
      have fS := bS.frozen
      have hSA : Sb < wA.heap.size := bS.lt
      have hfin := hide (show KeepsFrom W0.heap.size W ((wA.setCell ⟨Sb, 0, none⟩ (.string ⟨#[]⟩)).alloc (.cells #[.string u0, .string u1, .string u2, .string u3, .string u4, .string u5, .string u6] 57)) ∧ Boxed ((wA.setCell ⟨Sb, 0, none⟩ (.string ⟨#[]⟩)).alloc (.cells #[.string u0, .string u1, .string u2, .string u3, .string u4, .string u5, .string u6] 57)) Sb 9 (.string ⟨#[]⟩) ∧ Below Rb w ((wA.setCell ⟨Sb, 0, none⟩ (.string ⟨#[]⟩)).alloc (.cells #[.string u0, .string u1, .string u2, .string u3, .string u4, .string u5, .string u6] 57)) from by
        have hko : KeepsOthers W ((wA.setCell ⟨Sb, 0, none⟩ (.string ⟨#[]⟩)).alloc (.cells #[.string u0, .string u1, .string u2, .string u3, .string u4, .string u5, .string u6] 57)) := ((keepOthers_below hbA).trans (KeepsOthers.setCell _ _ _)).trans (KeepsOthers.alloc _ _)
        have hB9 : Below Rb w wA := (unhide iBel').trans (hbA.mono (by omega))
        exact ⟨hko.from _, (bS.set _).alloc _, (hB9.setCell (p := ⟨Sb, 0, none⟩) (by simp; omega) _).alloc (by have := hB9.size; simp; omega) _⟩)
      clear bS hbA r0 r1 r2 d0 d1 d2 cL fL
      gi_wp2
      have h9 := unhide hfin
      exact ⟨h9.1, rfl, unhide hx9, h9.2⟩
    · have hx9 := hide (unhide hit hok)
      clear hix hit
      gi_wp2_with fail
      refine ⟨trivial, CallsIn.mono (CallsIn.inRound l1 (callsIn_wide.2 (icw_yes n d dr i at0 c1 c2 c3 W (by omega) q0 q3 hcx (unhide hTw) hok))) ?_⟩
      rintro e wA ⟨rfl, hbA⟩
      obtain ⟨sJ, hsJ, hJl0⟩ := line_str n d dr i at0 c1 c2 c3
      have hJl := hJl0 (by have := hcx.2.2.2.2; simp only at this; omega)
      have hJx := hide hsJ
      clear hsJ hJl0
      generalize he0 : wdS n d dr i at0 c1 c2 c3 0 = s0 at *
      generalize he1 : wdS n d dr i at0 c1 c2 c3 1 = s1 at *
      generalize he2 : wdS n d dr i at0 c1 c2 c3 2 = s2 at *
      generalize he3 : wdS n d dr i at0 c1 c2 c3 3 = s3 at *
      generalize he4 : wdS n d dr i at0 c1 c2 c3 4 = s4 at *
      generalize he5 : wdS n d dr i at0 c1 c2 c3 5 = s5 at *
      generalize he6 : wdS n d dr i at0 c1 c2 c3 6 = s6 at *
      have hcJ := hide (wd_cells (wA) rfl rfl rfl rfl rfl rfl rfl (unhide hJx).1 hJl)
      have hlt9 := hide (unhide hJx).2
      clear he0 he1 he2 he3 he4 he5 he6 hJx
      have kA2 : Below W.heap.size W (wA.alloc (.cells #[.string s0, .string s1, .string s2, .string s3, .string s4, .string s5, .string s6] 57)) := hbA.alloc hbA.size _
      have bS := blk_below (unhide iS') kA2
      have bR := blk_below (unhide iR') kA2
      have bL := blk_below (unhide iL') kA2
      have bB := bF_kept (unhide iB') (fun k o hk _ => blk_below hk kA2)
      have hAz := hbA.size
      clear r0 r1 r2 d0 d1 d2 cL fL hbA iS' iR' iL' iB'
      gi_wp2_with fail
      generalize wA.alloc (.cells #[.string s0, .string s1, .string s2, .string s3, .string s4, .string s5, .string s6] 57) = WJ at *
      generalize wA.heap.size = Wb at *
      refine ⟨trivial, CallsIn.mono (CallsIn.inRound l1 (callsIn_wide.2 (unhide hcJ))) ?_⟩
      rintro e wB ⟨rfl, hbB⟩
      have kB : Below W.heap.size W wB := laterB kA2 hbB
      replace bS := blk_below bS hbB
      replace bR := blk_below bR hbB
      replace bL := blk_below bL hbB
      replace bB := bF_kept bB (fun k o hk _ => blk_below hk hbB)
      have hBz := kB.size
      clear hbB kA2 hcJ
      gi_wp2_with fail
      refine ⟨trivial, CallsIn.mono (CallsIn.inRound l1 (callsIn_wide.2 (Tryz.Builder_WriteString_k b b (Lib.byteCells G) sJ wB bB (by rw [Lib.byteCells_length]; omega) (by omega)))) ?_⟩
      rintro e wC ⟨rfl, hAtC, hbC, hoC⟩
      have uC : KeepU L b W wC := (KeepU.below kB).trans (KeepU.others hoC hbC.size)
      obtain ⟨cB, hcB⟩ := bF_blk bB
      have koC : KeepsOthers W wC := (keepOthers_below kB).trans (keepOthers_oth hcB hoC hbC.size)
      replace bS := oth_blk hoC bS (by omega) (by decide)
      replace bR := oth_blk hoC bR (by omega) (by decide)
      replace bL := oth_blk hoC bL (by omega) (by decide)
      have belC : Below Rb w wC := ((unhide iBel').trans (kB.mono (by omega))).trans (hbC.mono (by omega))
      have hCz := hbC.size
      clear hbC hoC bB kB hcB
      gi_wp2_with fail
      refine ⟨trivial, CallsIn.mono (CallsIn.inRound l1 (callsIn_wide.2 (Tryz.Builder_WriteString_k b b (Lib.byteCells G ++ Lib.strCells sJ) ⟨#[10]⟩ wC (.inr hAtC) (by rw [List.length_append, Lib.byteCells_length, Lib.strCells_length]; show _ + 1 ≤ _; omega) (by omega)))) ?_⟩
      rintro e wD ⟨rfl, hAtD, hbD, hoD⟩
      have uD : KeepU L b W wD := uC.trans (KeepU.others hoD hbD.size)
      obtain ⟨cB, hcB⟩ := bF_blk (.inr hAtC)
      have koD : KeepsOthers W wD := koC.trans (keepOthers_oth hcB hoD hbD.size)
      replace bS := oth_blk hoD bS (by omega) (by decide)
      replace bR := oth_blk hoD bR (by omega) (by decide)
      replace bL : Boxed wD L 2 (.int .i64 (i : Nat)) := oth_blk hoD bL (by omega) (by decide)
      have belD : Below Rb w wD := belC.trans (hbD.mono (by omega))
      have cL := bL.cell
      have fL := bL.frozen
      have hfin := hide (show KeepsFrom W0.heap.size W (wD.setCell ⟨L, 0, none⟩ (.int .i64 ((i : Int) + 1))) ∧ KeepU L b W (wD.setCell ⟨L, 0, none⟩ (.int .i64 ((i : Int) + 1))) ∧ Boxed (wD.setCell ⟨L, 0, none⟩ (.int .i64 ((i : Int) + 1))) L 2 (.int .i64 ((pre ++ [x]).length : Nat)) ∧ Lib.IsBuilderF 52 5 b b (Lib.byteCells (gX n d dr m (pre ++ [x]) 0)) (wD.setCell ⟨L, 0, none⟩ (.int .i64 ((i : Int) + 1))) ∧ (wD.setCell ⟨L, 0, none⟩ (.int .i64 ((i : Int) + 1))).heap[Rb]? = some (.cells #[.int .i64 n, .int .i64 d, .bool dr] 25 (0, 0)) ∧ Boxed (wD.setCell ⟨L, 0, none⟩ (.int .i64 ((i : Int) + 1))) Sb 9 (.string ⟨#[]⟩) ∧ Below Rb w (wD.setCell ⟨L, 0, none⟩ (.int .i64 ((i : Int) + 1))) ∧ ∀ y ∈ pre ++ [x], tOk n d dr (clen (m.take y.1)) (kAt m y.1) = true from by
        refine ⟨(koD.trans (KeepsOthers.setCell _ _ _)).from _, uD.trans (KeepU.set _ _ _), ?_, ?_, ?_, ?_, belD.setCell (p := ⟨L, 0, none⟩) (by simp; omega) _, unhide hx9⟩
        · rw [unhide hpl']; exact bL.set _
        · rw [unhide hgs, Lib.byteCells_append, ← unhide hlt9, ← List.append_assoc]; exact bF_other (.inr hAtD) bL _
        · rw [Below.heap_setCell _ ⟨L, 0, none⟩ _ Rb (by simp; omega)]; exact bR
        · exact Boxed.other bS (by omega) _)
      clear hAtC hAtD hbD hoD uC uD koC koD bS bR bL belC belD hcB
      gi_wp2
      exact unhide hfin
  case done =>
    rintro D xs W hD rfl ⟨iL, iB, iR, iS, iBel, iT⟩ hK
    have hS9 : gX n d dr m (List.finRange m.length) 0 = linesL n d dr m m.length := by
      have := gX_take (n := n) (d := d) (dr := dr) (m := m) (Nat.le_refl m.length)
      rwa [List.take_of_length_le (by simp)] at this
    rw [hS9] at iB
    have hF := hide (listOf_yes (n := n) (d := d) (dr := dr) (l := m) (fun i hi => iT ⟨i, hi⟩ (by simp)))
    have hDb : D ≠ b := by omega
    have hDS : D ≠ Sb := by omega
    have hWz : W0.heap.size ≤ D := hD
    have hbW : b < W.heap.size := by obtain ⟨_, h9⟩ := bF_blk iB; exact (Array.getElem?_eq_some_iff.1 h9).1
    clear iT hS9 iL iR
    generalize linesL n d dr m m.length = G at *
    have iS' := hide iS
    have iB' := hide iB
    have iBel' := hide iBel
    have hK' := hide hK
    clear iS iB iBel hK
    go_wp2_with fail
    refine (Tryz.Builder_String_any_k b b G W (unhide iB') (by omega)).mono ?_
    rintro e w5 ⟨rfl, hB5, hb5, ho5⟩
    have bS : Boxed w5 Sb 9 (.string ⟨#[]⟩) := oth_blk ho5 (unhide iS') (by omega) (by decide)
    have hK5 : w5.heap[D]? = some (.deferred (some [])) := ho5 D _ (unhide hK') (by simpa using hDb) (fun _ _ e => by cases e)
    have bel5 : Below Rb w w5 := (unhide iBel').trans (hb5.mono (by omega))
    have cS := bS.cell
    have fS := bS.frozen
    have bS9 := bS.set (.string ⟨G.toArray⟩)
    have hK9 := hide (show (w5.setCell ⟨Sb, 0, none⟩ (.string ⟨G.toArray⟩)).heap[D]? = some (.deferred (some [])) by rw [Below.heap_setCell _ ⟨Sb, 0, none⟩ _ D (by simpa using hDS)]; exact hK5)
    have bel9 := hide (bel5.setCell (p := ⟨Sb, 0, none⟩) (by simp; omega) (.string ⟨G.toArray⟩))
    have bS9' := hide bS9
    clear hB5 hb5 ho5 bS hK5 bel5 bS9 iB' iS' hK' iBel'
    go_wp2
    generalize w5.setCell ⟨Sb, 0, none⟩ (.string ⟨G.toArray⟩) = W9 at *
    refine ⟨by simp, .inl ⟨_, _, rfl, run_takeDeferred (unhide hK9), ?_⟩⟩
    have c9 : (W9.putObj D (.deferred none)).cell? ⟨Sb, 0, none⟩ = some (.string ⟨G.toArray⟩) := by
      rw [World.cell?_of_block (a := ⟨Sb, 0, none⟩) (World.putObj_heap_other (Ne.symm hDS))]; exact (unhide bS9').cell
    refine ⟨.string ⟨G.toArray⟩, by simp [results, Tryz.f6, go_sem, c9], by rw [unhide hm', unhide hF], ?_⟩
    rw [hzz]; exact (unhide bel9).trans (belowK_b (w := w) (by omega) _ D _ _ (by omega) (unhide hK9) rfl rfl)
  case stop =>
    rintro D co pre W hD ⟨k, hk, rfl⟩ ⟨rfl, ⟨ini, x, e1, e2⟩, bS, hB3⟩ hK
    have hF := hide (listOf_no (n := n) (d := d) (dr := dr) (l := m) x.2 e2)
    have hDS : D ≠ Sb := by omega
    have bS' := hide bS
    have hB3' := hide hB3
    have hK' := hide hK
    clear e1 e2 bS hB3 hK
    refine wpIn_wide.2 ?_
    go_wp2
    refine ⟨by simp, .inl ⟨_, _, rfl, run_takeDeferred (unhide hK'), ?_⟩⟩
    have c9 : (W.putObj D (.deferred none)).cell? ⟨Sb, 0, none⟩ = some (.string ⟨#[]⟩) := by
      rw [World.cell?_of_block (a := ⟨Sb, 0, none⟩) (World.putObj_heap_other (Ne.symm hDS))]; exact (unhide bS').cell
    refine ⟨.string ⟨#[]⟩, by simp [results, Tryz.f6, go_sem, c9], by rw [unhide hm', unhide hF], ?_⟩
    rw [hzz]; exact (unhide hB3').trans (belowK_b (w := w) (by omega) _ D _ _ (by omega) (unhide hK') rfl rfl)

theorem ishow_any (n d : Int) (dr : Bool) (a : Option Addr) (cap : Nat) (l : List Kl) (w : World) (hl : l.length ≤ maxLen) (hk : Kls w a l) (ht : Tab w) :
    Calls Tryz.prog 6 #[.agg #[.int .i64 n, .int .i64 d, .bool dr], .slice a l.length cap] w fun e w' => e = .returned (.string ⟨(showOf n d dr l).toArray⟩) ∧ Below w.heap.size w w' := by
  by_cases hT : TOk l
  · rw [showOf_yes hT]; exact ishow_yes n d dr a cap l w hT hk ht
  · rw [showOf_no hT]; exact ishow_no n d dr a cap l w hl hT hk

end Go.Proofs.YtfhbmfndjbdhcaaGreatDoor
