/-
  A line read by the model: its contract.
  Lists of numbers in memory, one number more; what the model has read of four times; no conditions.
  A list of clips behind an owned list, at a step of a region that draws; no conditions.
-/
import Derived.Test.YtfhbmfndjbdhcaaGreatDoorLnP
import Derived.Test.YtfhbmfndjbdhcaaGreatDoorIRead
import Derived.Test.YtfhbmfndjbdhcaaGreatDoorSRd
import Derived.Test.YtfhbmfndjbdhcaaGreatDoorJn
import Derived.Test.YtfhbmfndjbdhcaaGreatDoorTrk
import Derived.Deep.RegionHeld3
import Derived.Maps.AppendAt
namespace Go.Proofs.YtfhbmfndjbdhcaaGreatDoor
open Go.RowKit
set_option linter.unusedVariables false
set_option linter.unusedSimpArgs false

/-- what a line is told as, in memory -/
def SlP (x : Int × Kl) (w : World) (e : Ending) (w' : World) : Prop := e = .returned (.tuple #[.agg #[.int .i64 x.2.1, .int .i64 x.2.2.1, .int .i64 x.2.2.2], .int .i64 x.1]) ∧ Below w.heap.size w w'
theorem words_leS (l : List UInt8) : ∀ x ∈ wordsL l, x.length ≤ l.length := by
  induction l with
  | nil => intro x hx; simp [wordsL, stW] at hx; subst hx; simp
  | cons b l ih =>
    intro x hx
    by_cases h : b = 32
    · subst h
      rw [wordsL_blank] at hx
      rcases List.mem_cons.1 hx with rfl | hx
      · simp
      · have := ih x hx; simp; omega
    · rw [wordsL_char h] at hx
      obtain ⟨y, z, e⟩ := wordsL_ne l
      rw [e] at hx ih
      simp only [glue] at hx
      rcases List.mem_cons.1 hx with rfl | hx
      · have := ih y (by simp); simp; omega
      · have := ih x (by simp [hx]); simp; omega
theorem row_slice {w : World} {B : Nat} {v : Value} {k : Nat} {xs : List Value} (h : w.ownsRow B 9 1 v k xs) (h0 : k ≠ 0) : ∃ g cap, v = .slice (some ⟨g, 0, none⟩) k cap ∧ B ≤ g ∧ ∀ j u, xs[j]? = some u → w.cell? ⟨g, j, none⟩ = some u := by
  rcases Joins.ownsRow_forms h with ⟨rfl, hz⟩ | ⟨g, cp, rfl⟩
  · exact absurd hz h0
  · have hc := h.cells (g := g) rfl
    exact ⟨g, cp, rfl, (h.lt g rfl).1, fun j u hu => by have := hc j u hu; rw [Addr.add_lit, Nat.zero_add] at this; exact this⟩
theorem row_len {w : World} {B : Nat} {v : Value} {k : Nat} {xs : List Value} (h : w.ownsRow B 9 1 v k xs) : ∃ a cap, v = .slice a k cap := by
  rcases Joins.ownsRow_forms h with ⟨rfl, hz⟩ | ⟨g, cp, rfl⟩
  · subst hz; exact ⟨none, 0, rfl⟩
  · exact ⟨_, _, rfl⟩
theorem below_ge {B : Nat} {w w1 : World} (h : Below B w w1) (o : Obj) (hB : B ≤ w.heap.size) : Below B w (w1.alloc o) := h.alloc (Nat.le_trans hB h.size) o

theorem put3 {X : World} {q : Nat} {t : TypeId} {a0 a1 a2 v0 v1 v2 : Value} (h : X.heap[q]? = some (.cells #[a0, a1, a2] t (0, 0))) :
    (((X.setCell ⟨q, 0, none⟩ v0).setCell ⟨q, 1, none⟩ v1).setCell ⟨q, 2, none⟩ v2).heap[q]? = some (.cells #[v0, v1, v2] t (0, 0)) := by
  simp [World.setCell, h, Array.getElem?_modify]
theorem set3_belowB {w X : World} {B q : Nat} {v0 v1 v2 : Value} (hb : Below B w X) (h : B ≤ q) :
    Below B w (((X.setCell ⟨q, 0, none⟩ v0).setCell ⟨q, 1, none⟩ v1).setCell ⟨q, 2, none⟩ v2) :=
  ((hb.setCell (p := ⟨q, 0, none⟩) h _).setCell (p := ⟨q, 1, none⟩) h _).setCell (p := ⟨q, 2, none⟩) h _

set_option maxRecDepth 100000 in
set_option maxHeartbeats 2000000 in
theorem sline_4 (n d : Int) (dr : Bool) (s : ByteArray) (no : Int) (tv : Value) (en : Int) (w : World) (hs : s.size ≤ 20000) (hg : ¬ goodW (wordsL s.data.toList)) :
    Calls Tryz.prog 33 #[.agg #[.int .i64 n, .int .i64 d, .bool dr], .string s, .int .i64 no, tv, .int .i64 en] w (SlP (4, (0, 0, 0)) w) := by
  have ka := hide (((Below.refl w.heap.size w).alloc (Nat.le_refl _) (.cells #[.int .i64 n, .int .i64 d, .bool dr] 25)).alloc (by simp) (.cells #[.int .i64 0, .int .i64 0, .int .i64 0] 44))
  have b10 : ((w.alloc (.cells #[.int .i64 n, .int .i64 d, .bool dr] 25)).alloc (.cells #[.int .i64 0, .int .i64 0, .int .i64 0] 44)).heap[w.heap.size + 1]? = some (.cells #[.int .i64 0, .int .i64 0, .int .i64 0] 44 (0, 0)) := by
    have := alloc_new (w.alloc (.cells #[.int .i64 n, .int .i64 d, .bool dr] 25)) (.cells #[.int .i64 0, .int .i64 0, .int .i64 0] 44)
    simpa using this
  obtain ⟨ws, hws⟩ : ∃ ws, wordsL s.data.toList = ws := ⟨_, rfl⟩
  have cW := hide (fun w => swords_any s w hs)
  have hwl : ws.length ≤ 20001 := by
    rw [← hws, wordsL_len]
    have := List.count_le_length (a := (32 : UInt8)) (l := s.data.toList)
    rw [← Lib.size_eq] at this
    omega
  rw [hws] at hg cW
  have hg' := hide hg
  clear hg hws
  go_enter Tryz.func33, Tryz.ntmps33
  go_wp2_with fail
  generalize hQ0 : w.heap.size = Q0 at *
  generalize hQ1 : Q0 + 1 = Q1 at *
  generalize (w.alloc (.cells #[.int .i64 n, .int .i64 d, .bool dr] 25)).alloc (.cells #[.int .i64 0, .int .i64 0, .int .i64 0] 44) = w1 at *
  refine (unhide cW w1).mono ?_
  rintro e w2 ⟨v, rfl, hrow, k2⟩
  have hz1 : Q1 < w1.heap.size := (Array.getElem?_eq_some_iff.1 b10).1
  have kb2 := (unhide ka).trans (k2.mono (by omega))
  have kb3 := hide (below_ge kb2 (.cells #[.int .i64 0, .int .i64 0, .int .i64 0] 44) (by omega))
  have ky := (Below.refl w2.heap.size w2).alloc (Nat.le_refl _) (.cells #[.int .i64 0, .int .i64 0, .int .i64 0] 44)
  have c10 := blk_below (blk_below b10 k2) ky
  have c13 := alloc_new w2 (.cells #[.int .i64 0, .int .i64 0, .int .i64 0] 44)
  by_cases h7 : ws.length = 7
  · rw [h7] at hrow
    obtain ⟨g, cap, rfl, hgB, hcell⟩ := row_slice hrow (by omega)
    have hgl : g < w2.heap.size := (hrow.lt g rfl).2
    have hcl := hide (fun j u (h : (ws.map sW)[j]? = some u) => cell_later ky (hcell j u h))
    obtain ⟨x0, x1, x2⟩ := blk3 c10
    obtain ⟨y0, y1, y2⟩ := blk3 c13
    have f0 : (w2.alloc (.cells #[.int .i64 0, .int .i64 0, .int .i64 0] 44)).frozen? ⟨Q1, 0, none⟩ = false := Lib.frozen_of_heap c10 _
    have f1 : (w2.alloc (.cells #[.int .i64 0, .int .i64 0, .int .i64 0] 44)).frozen? ⟨Q1, 1, none⟩ = false := Lib.frozen_of_heap c10 _
    have f2 : (w2.alloc (.cells #[.int .i64 0, .int .i64 0, .int .i64 0] 44)).frozen? ⟨Q1, 2, none⟩ = false := Lib.frozen_of_heap c10 _
    have h7' := hide h7
    clear ky hrow cW k2 kb2 hcell h7 hwl
    go_wp2_with fail
    generalize w2.alloc (.cells #[.int .i64 0, .int .i64 0, .int .i64 0] 44) = w3 at *
    generalize w2.heap.size = Q3 at *
    go_loopw [14] (fun t wr => ∃ k : Nat, k ≤ 7 ∧ t = .int .i64 k ∧ Hid (∀ x ∈ ws.take k, x ≠ []) ∧ wr = w3) (fun t _ => 7 - (intOf t).toNat)
    case atStart => exact ⟨0, by omega, rfl, hide (by simp), rfl⟩
    case round =>
      obtain ⟨k, hk, rfl, hne, rfl⟩ := hrel
      by_cases hlt : k < 7
      · have q1 : decide ((k : Int) < 7) = true := by simp; omega
        obtain ⟨x, hx⟩ : ∃ x, ws[k]? = some x := ⟨_, List.getElem?_eq_getElem (by have := unhide h7'; omega)⟩
        obtain ⟨X, hX⟩ : ∃ X : ByteArray, (⟨x.toArray⟩ : ByteArray) = X := ⟨_, rfl⟩
        have hck : wr.cell? ⟨g, k, none⟩ = some (.string X) := by rw [← hX]; exact unhide hcl k _ (by rw [List.getElem?_map, hx]; rfl)
        by_cases he : x = []
        · have hem : X.toList.isEmpty = true := by rw [← hX, toList_mk, he]; rfl
          clear hX hx
          go_wp2
          have P9 := put3 (v0 := .int .i64 0) (v1 := .int .i64 0) (v2 := .int .i64 0) c10
          have B9 := set3_belowB (v0 := .int .i64 0) (v1 := .int .i64 0) (v2 := .int .i64 0) (unhide kb3) (show Q0 ≤ Q1 by omega)
          clear x0 x1 x2 y0 y1 y2 f0 f1 f2
          generalize ((wr.setCell ⟨Q1, 0, none⟩ (.int .i64 0)).setCell ⟨Q1, 1, none⟩ (.int .i64 0)).setCell ⟨Q1, 2, none⟩ (.int .i64 0) = W9 at *
          obtain ⟨o0, o1, o2⟩ := blk3 P9
          refine bodyPost_ret (v := .tuple #[.agg #[.int .i64 0, .int .i64 0, .int .i64 0], .int .i64 4]) (by simp [results, Tryz.results33, go_sem, o0, o1, o2]) rfl ?_
          exact ⟨rfl, by rw [hQ0]; exact B9⟩
        · have hem : X.toList.isEmpty = false := by rw [← hX, toList_mk]; cases x; exact absurd rfl he; rfl
          have hne' := hide (show ∀ y ∈ ws.take (k + 1), y ≠ [] from by
            intro y hy
            rw [List.take_add_one, hx] at hy
            rcases List.mem_append.1 hy with hy | hy
            · exact unhide hne y hy
            · simp at hy; rw [hy]; exact he)
          clear hX hx
          go_wp2
          go_roundw
          case rel => exact ⟨k + 1, by omega, by go_num, hne', by first | rfl | trivial⟩
          case measure => simp [intOf]; omega
      · obtain rfl : k = 7 := by omega
        exfalso
        refine unhide hg' ⟨unhide h7', fun x hx => unhide hne x ?_⟩
        rw [List.take_of_length_le (by have := unhide h7'; omega)]
        exact hx
  · obtain ⟨av, cv, rfl⟩ := row_len hrow
    have q1 : ((ws.length : Int) != 7) = true := by simp; omega
    obtain ⟨x0, x1, x2⟩ := blk3 c10
    obtain ⟨y0, y1, y2⟩ := blk3 c13
    have f0 : (w2.alloc (.cells #[.int .i64 0, .int .i64 0, .int .i64 0] 44)).frozen? ⟨Q1, 0, none⟩ = false := Lib.frozen_of_heap c10 _
    have f1 : (w2.alloc (.cells #[.int .i64 0, .int .i64 0, .int .i64 0] 44)).frozen? ⟨Q1, 1, none⟩ = false := Lib.frozen_of_heap c10 _
    have f2 : (w2.alloc (.cells #[.int .i64 0, .int .i64 0, .int .i64 0] 44)).frozen? ⟨Q1, 2, none⟩ = false := Lib.frozen_of_heap c10 _
    clear ky hrow cW k2 kb2
    go_wp2
    have P9 := put3 (v0 := .int .i64 0) (v1 := .int .i64 0) (v2 := .int .i64 0) c10
    have B9 := set3_belowB (v0 := .int .i64 0) (v1 := .int .i64 0) (v2 := .int .i64 0) (unhide kb3) (show Q0 ≤ Q1 by omega)
    clear x0 x1 x2 y0 y1 y2 f0 f1 f2
    generalize (((w2.alloc (.cells #[.int .i64 0, .int .i64 0, .int .i64 0] 44)).setCell ⟨Q1, 0, none⟩ (.int .i64 0)).setCell ⟨Q1, 1, none⟩ (.int .i64 0)).setCell ⟨Q1, 2, none⟩ (.int .i64 0) = W9 at *
    obtain ⟨o0, o1, o2⟩ := blk3 P9
    refine bodyPost_ret (v := .tuple #[.agg #[.int .i64 0, .int .i64 0, .int .i64 0], .int .i64 4]) (by simp [results, Tryz.results33, go_sem, o0, o1, o2]) rfl ?_
    exact ⟨rfl, by rw [hQ0]; exact B9⟩
end Go.Proofs.YtfhbmfndjbdhcaaGreatDoor

namespace Go.Proofs.YtfhbmfndjbdhcaaGreatDoor
open Go.RowKit
set_option linter.unusedVariables false
set_option linter.unusedSimpArgs false

theorem infoI : (Tryz.prog.info? 2).map (fun i => (i.zero, i.size, i.bytes)) = some (some (.int .i64 0), 1, 8) := by kernel_rfl
/-- an owned list of numbers -/
abbrev OwnI (w : World) (B g n cap : Nat) (l : List Int) : Prop := w.ownsRow B 2 1 (.slice (some ⟨g, 0, none⟩) n cap) n (l.map iv)
theorem ownI_len {w : World} {B g n cap : Nat} {l : List Int} (h : OwnI w B g n cap l) : l.length = n := by
  have hl : (l.map iv).length = n * 1 := h.1
  simpa using hl
theorem ownI_at {w : World} {B g n cap k : Nat} {l : List Int} {x : Int} (hk : l[k]? = some x) (h : OwnI w B g n cap l) : w.cell? ⟨g, k, none⟩ = some (.int .i64 x) := by
  have hl := ownI_len h
  have hj : k < l.length := (List.getElem?_eq_some_iff.1 hk).1
  have := h.cellAt k (by omega)
  rw [this, List.getElem?_map, hk]; rfl
theorem ownI_lit0 (w : World) {B : Nat} (hB : B ≤ w.heap.size) : OwnI (w.alloc (.cells #[] 2)) B w.heap.size 0 0 [] := by
  have h := World.ownsRow_lit (base := B) (e := 2) (size := 1) w #[] 0 hB (by unfold maxLen; omega) rfl
  exact h
/-- one number more behind an owned list -/
theorem wpList_i {T : TypeId} (hT : Tryz.prog.underlying T = some (.slice 2)) {ops : Array Oper} {rest : List Oper} {o : Oper} {a : Act} {Q : Exit → Act → World → Prop} {X : World} {B g n cap : Nat} {v : Int} {L : List Int} (hgd : o.guard = none) (s x : Operand) (ho : o.op = .call { callee := .builtin .append, args := #[s, x], argTypes := #[T, T] })
    (hs : a.eval s = .slice (some ⟨g, 0, none⟩) n cap) (hown : OwnI X B g n cap L) (E : Nat) (hE : X.heap.size = E) (hx : a.eval x = .slice (some ⟨E, 0, none⟩) 1 1) (hl : n ≤ 1000000) (hB : B ≤ X.heap.size)
    (h : ∀ g' cap' w', OwnI w' B g' (n + 1) cap' (L ++ [v]) → Below B X w' → wpList Tryz.prog ops Q rest (a.put o.dst (.slice (some ⟨g', 0, none⟩) (n + 1) cap')) w') : wpList Tryz.prog ops Q (o :: rest) a (X.alloc (.cells #[.int .i64 v] 2)) := by
  subst hE
  obtain ⟨i0, hi, hz0, hz1, hz2⟩ := info_parts infoI
  have hge : B ≤ g := (hown.lt g rfl).1
  have hAl := (Below.refl X.heap.size X).alloc (Nat.le_refl _) (.cells #[.int .i64 v] 2)
  have hown2 : OwnI (X.alloc (.cells #[.int .i64 v] 2)) B g n cap L := ownsRow_below hown hAl
  have hn : ∀ j u, [iv v][j]? = some u → (X.alloc (.cells #[.int .i64 v] 2)).cell? ((⟨X.heap.size, 0, none⟩ : Addr).add j) = some u := by
    have := World.news_of_block (alloc_new X (.cells #[.int .i64 v] 2))
    simpa [iv] using this
  refine wpList_append_lies _ hgd s x T ho B 2 i0 (.int .i64 0) 1 8 hT hi hz0 hz1 hz2 rfl (by decide) _ n (L.map iv) hs hown2 ⟨X.heap.size, 0, none⟩ 1 1 [iv v] hx rfl hn (by intro u hu; simp at hu; subst hu; rfl) (by decide) (by unfold maxLen; omega) (by omega) (by simp; omega) _ rfl ?_
  intro g' cap' w' h1 h2 h3 h4
  refine h g' cap' w' (by show World.ownsRow _ _ _ _ _ _ _; rw [List.map_append]; exact h1) ?_
  have hb : Below B X (X.alloc (.cells #[.int .i64 v] 2)) := (Below.refl B X).alloc hB _
  exact hb.grown h2 (by simp; omega) (fun k hk => by simp [Value.ownBlock] at hk; omega)
/-- the word of the j-th time -/
def wdOf (X0 X1 X2 X3 : ByteArray) (j : Nat) : ByteArray := if j = 0 then X0 else if j = 1 then X1 else if j = 2 then X2 else X3
/-- what has been read of the four times -/
def TmI (n d : Int) (dr : Bool) (X0 X1 X2 X3 : ByteArray) (W : World) (wr : World) (G c k : Nat) : Prop :=
  ∃ xs : List Int, OwnI wr W.heap.size G k c xs ∧ Below W.heap.size W wr ∧ ∀ j x, xs[j]? = some x → timeO n d dr (wdOf X0 X1 X2 X3 j).data.toList = some x ∧ 0 ≤ x ∧ x ≤ 10000000
end Go.Proofs.YtfhbmfndjbdhcaaGreatDoor

namespace Go.Proofs.YtfhbmfndjbdhcaaGreatDoor
open Go.RowKit
set_option linter.unusedVariables false
set_option linter.unusedSimpArgs false

theorem flK_oneS (l : List Kl) : ∀ u ∈ flK l, u.oneCell' = true := by
  induction l with
  | nil => intro u hu; simp [flK] at hu
  | cons x l ih =>
    intro u hu
    simp only [flK, List.mem_cons] at hu
    rcases hu with rfl | rfl | rfl | hu
    · rfl
    · rfl
    · rfl
    · exact ih u hu
theorem kls_newsS {w : World} {b o : Nat} {l : List Kl} (h : Kls w (some ⟨b, o, none⟩) l) : ∀ j u, (flK l)[j]? = some u → w.cell? ((⟨b, o, none⟩ : Addr).add j) = some u := by
  intro j u hu
  have hj : j < (flK l).length := (List.getElem?_eq_some_iff.1 hu).1
  rw [flK_len] at hj
  have hk : j / 3 < l.length := by omega
  obtain ⟨x, hx⟩ : ∃ x, l[j / 3]? = some x := ⟨l[j / 3], List.getElem?_eq_getElem hk⟩
  obtain ⟨b', o', e, _, c0, c1, c2⟩ := h _ _ hx
  injection e with e
  injection e with e1 e2 _
  subst e1 e2
  obtain ⟨f0, f1, f2⟩ := flK_get hx
  rw [Addr.add_lit]
  have hr : j % 3 = 0 ∨ j % 3 = 1 ∨ j % 3 = 2 := by omega
  rcases hr with hr | hr | hr
  · have e : j / 3 * 3 = j := by omega
    rw [e] at c0 f0; rw [hu] at f0; injection f0 with f0; rw [f0]; exact c0
  · have e : j / 3 * 3 + 1 = j := by omega
    rw [Nat.add_assoc, e] at c1; rw [e] at f1; rw [hu] at f1; injection f1 with f1; rw [f1]; exact c1
  · have e : j / 3 * 3 + 2 = j := by omega
    rw [Nat.add_assoc, e] at c2; rw [e] at f2; rw [hu] at f2; injection f2 with f2; rw [f2]; exact c2
/-- a list more behind an owned list, at a step of a region that draws -/
theorem step_kA {T : TypeId} (hT : Tryz.prog.underlying T = some (.slice 44)) {ops : Array Oper} {o : Oper} {a : Act} {K : Act → World → Prop} {Q : Exit → Act → World → Prop} {E' : Prop} (w : World) (hgd : o.guard = none) (s x : Operand) (ho : o.op = .call { callee := .builtin .append, args := #[s, x], argTypes := #[T, T] })
    (B g n cap : Nat) (L1 L2 : List Kl) (b2 o2 c2 : Nat) (hs : a.eval s = .slice (some ⟨g, 0, none⟩) n cap) (hown : Own w B g n cap L1) (hx : a.eval x = .slice (some ⟨b2, o2, none⟩) L2.length c2) (hK : Kls w (some ⟨b2, o2, none⟩) L2) (hl1 : n ≤ 1000000) (hl2 : L2.length ≤ 1000000) (hB : B ≤ w.heap.size)
    (h : ∀ g' cap' w', Own w' B g' (n + L2.length) cap' (L1 ++ L2) → w.grownBy w' (some g) → (g' = g ∨ g' = w.heap.size) → K (a.put o.dst (.slice (some ⟨g', 0, none⟩) (n + L2.length) cap')) w') :
    if Region.wanted o (yielded ops a.tmps) = true then Oper.wp Tryz.prog o a w K Q else E' := by
  obtain ⟨i0, hi, hz0, hz1, hz2⟩ := info_parts info44
  have hw : Region.wanted o (yielded ops a.tmps) = true := by simp [Region.wanted, hgd]
  rw [if_pos hw]
  obtain ⟨v', w', hr, h2, h3, h4, h5⟩ := run_append_own_at (P := Tryz.prog) w B T o.type 44 i0 (.agg #[.int .i64 0, .int .i64 0, .int .i64 0]) 3 24 hT hi hz0 hz1 hz2 rfl (by decide) (.slice (some ⟨g, 0, none⟩) n cap) n (flK L1) hown ⟨b2, o2, none⟩ L2.length c2 (flK L2) (flK_len L2) (kls_newsS hK) (flK_oneS L2) (by unfold maxLen; omega) (by omega) hB
  have hv : ∃ g' cap', v' = .slice (some ⟨g', 0, none⟩) (n + L2.length) cap' := by
    rcases Joins.ownsRow_forms h2 with ⟨rfl, _⟩ | ⟨g', cp, rfl⟩
    · have := (h4.1 rfl).1; cases this
    · exact ⟨g', cp, rfl⟩
  obtain ⟨g', cap', rfl⟩ := hv
  unfold Oper.wp execOp
  simp only [ho, resolve, invoke, builtin, Sem.run_bind, Sem.run_pure, Result.andThen_ok, List.map_toArray, List.map_cons, List.map_nil, hs, hx, hr]
  refine h g' cap' w' (by show World.ownsRow _ _ _ _ _ _ _; rw [flK_append]; exact h2) (by simpa [Value.ownBlock] using h3) ?_
  rcases h5 with h5 | h5
  · left; simp [Value.ownBlock] at h5; exact h5
  · right; simp [Value.ownBlock] at h5; exact h5
end Go.Proofs.YtfhbmfndjbdhcaaGreatDoor
