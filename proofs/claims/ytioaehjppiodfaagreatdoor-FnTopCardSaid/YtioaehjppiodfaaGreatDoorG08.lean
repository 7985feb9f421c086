/-
  The steps of a list of changes: the iterator's contract.
  What abides the steps of an iterator with a block of its own: boxes, blocks, what lies below.
  Plain facts on what a list of changes makes of a track.
  Contracts of the program's functions that open a track, tell whether it is one, and how long it is; nothing that was there is written.
-/
import Derived.Test.YtioaehjppiodfaaGreatDoorG07
import Derived.Test.YtioaehjppiodfaaGreatDoorG04
namespace Go.Proofs.YtioaehjppiodfaaGreatDoor
open Go.RowKit Go.Shelf
set_option linter.unusedVariables false
set_option linter.unusedSimpArgs false
attribute [local go_sem] Oper.semAt_some

/-- the cells of a list in a world that keeps blocks below n -/
theorem cell_keepL {X Y : World} {n b o : Nat} {v : Value} (h : ∀ (k : Nat) (x : Obj), k < n → X.heap[k]? = some x → x.isCells = true → Y.heap[k]? = some x) (hb : b < n) (hc : X.cell? ⟨b, o, none⟩ = some v) : Y.cell? ⟨b, o, none⟩ = some v := by
  obtain ⟨x, hx, hcx⟩ := cells_of_cell hc
  exact (World.cell?_of_block (a := ⟨b, o, none⟩) ((h b x hb hx hcx).trans hx.symm)).trans hc
theorem blk6 {X : World} {b : Nat} {t : TypeId} {v0 v1 v2 v3 v4 v5 : Value} (h : X.heap[b]? = some (.cells #[v0, v1, v2, v3, v4, v5] t (0, 0))) :
    X.cell? ⟨b, 0, none⟩ = some v0 ∧ X.cell? ⟨b, 1, none⟩ = some v1 ∧ X.cell? ⟨b, 2, none⟩ = some v2 ∧ X.cell? ⟨b, 3, none⟩ = some v3 ∧ X.cell? ⟨b, 4, none⟩ = some v4 ∧ X.cell? ⟨b, 5, none⟩ = some v5 ∧ (∀ o, X.frozen? ⟨b, o, none⟩ = false) := by
  refine ⟨?_, ?_, ?_, ?_, ?_, ?_, fun o => ?_⟩ <;> simp [World.cell?, World.frozen?, h]
theorem blk4 {X : World} {b : Nat} {t : TypeId} {v0 v1 v2 v3 : Value} (h : X.heap[b]? = some (.cells #[v0, v1, v2, v3] t (0, 0))) :
    X.cell? ⟨b, 0, none⟩ = some v0 ∧ X.cell? ⟨b, 1, none⟩ = some v1 ∧ X.cell? ⟨b, 2, none⟩ = some v2 ∧ X.cell? ⟨b, 3, none⟩ = some v3 := by
  refine ⟨?_, ?_, ?_, ?_⟩ <;> simp [World.cell?, h]

theorem blk6_set {X : World} {b : Nat} {t : TypeId} {v0 v1 v2 v3 v4 v5 u0 u1 u2 u3 : Value} (h : X.heap[b]? = some (.cells #[v0, v1, v2, v3, v4, v5] t (0, 0))) :
    ((((X.setCell ⟨b, 0, none⟩ u0).setCell ⟨b, 1, none⟩ u1).setCell ⟨b, 2, none⟩ u2).setCell ⟨b, 3, none⟩ u3).heap[b]? = some (.cells #[u0, u1, u2, u3, v4, v5] t (0, 0)) := by
  simp [World.setCell, Array.getElem?_modify, h]
theorem blk6_4 {X : World} {b : Nat} {t : TypeId} {v0 v1 v2 v3 v4 v5 u : Value} (h : X.heap[b]? = some (.cells #[v0, v1, v2, v3, v4, v5] t (0, 0))) : (X.setCell ⟨b, 4, none⟩ u).heap[b]? = some (.cells #[v0, v1, v2, v3, u, v5] t (0, 0)) := by
  simp [World.setCell, Array.getElem?_modify, h]
theorem blk6_5 {X : World} {b : Nat} {t : TypeId} {v0 v1 v2 v3 v4 v5 u : Value} (h : X.heap[b]? = some (.cells #[v0, v1, v2, v3, v4, v5] t (0, 0))) : (X.setCell ⟨b, 5, none⟩ u).heap[b]? = some (.cells #[v0, v1, v2, v3, v4, u] t (0, 0)) := by
  simp [World.setCell, Array.getElem?_modify, h]
theorem blk_other {X : World} {b c : Nat} {o : Obj} {u0 u1 u2 u3 : Value} (hne : c ≠ b) (h : X.heap[c]? = some o) :
    ((((X.setCell ⟨b, 0, none⟩ u0).setCell ⟨b, 1, none⟩ u1).setCell ⟨b, 2, none⟩ u2).setCell ⟨b, 3, none⟩ u3).heap[c]? = some o := by
  rw [Below.heap_setCell _ ⟨b, 3, none⟩ _ _ hne, Below.heap_setCell _ ⟨b, 2, none⟩ _ _ hne, Below.heap_setCell _ ⟨b, 1, none⟩ _ _ hne, Below.heap_setCell _ ⟨b, 0, none⟩ _ _ hne]; exact h

end Go.Proofs.YtioaehjppiodfaaGreatDoor

namespace Go.Proofs.YtioaehjppiodfaaGreatDoor
open Go.RowKit Go.Shelf
set_option linter.unusedVariables false
set_option linter.unusedSimpArgs false

/-- a turn that an iterator and its loop may make -/
abbrev TurnOk (B b : Nat) (X : World) (row : Option Nat) : Prop := ∀ k, row = some k → k = b ∨ (B ≤ k ∧ ∃ o : Obj, X.heap[k]? = some o ∧ o.isCells = false)
theorem blk_ab {B b c : Nat} {X Y : World} {row : Option Nat} {o : Obj} (h : X.heap[c]? = some o) (hc : o.isCells = true) (hg : X.grownBy Y row) (hr : TurnOk B b X row) (hne : c ≠ b) : Y.heap[c]? = some o := by
  refine (hg.block c (Array.getElem?_eq_some_iff.1 h).1 (fun e => ?_)).trans h
  rcases hr c e.symm with e | ⟨_, o', ho', hc'⟩
  · exact hne e
  · rw [h] at ho'; cases ho'; rw [hc] at hc'; cases hc'
theorem boxed_ab {B b c : Nat} {t : TypeId} {v : Value} {X Y : World} {row : Option Nat} (h : Boxed X c t v) (hg : X.grownBy Y row) (hr : TurnOk B b X row) (hne : c ≠ b) : Boxed Y c t v := blk_ab h rfl hg hr hne
theorem below_ab {B b n : Nat} {w X Y : World} {row : Option Nat} (h : Below n w X) (hn : n ≤ w.heap.size) (hg : X.grownBy Y row) (hr : TurnOk B b X row) (hb : n ≤ b) (hB : n ≤ B) : Below n w Y :=
  h.grown hg (Nat.le_trans hn h.size) (fun k e => by rcases hr k e with e | ⟨e, _⟩ <;> omega)
theorem row_ab {B b n g N cap m : Nat} {e : TypeId} {xs : List Value} {X Y : World} {row : Option Nat} (h : X.ownsRow n e m (.slice (some ⟨g, 0, none⟩) N cap) N xs) (hg : X.grownBy Y row) (hr : TurnOk B b X row) (hne : g ≠ b) : Y.ownsRow n e m (.slice (some ⟨g, 0, none⟩) N cap) N xs := by
  obtain ⟨h1, h2⟩ := h
  refine ⟨h1, ?_⟩
  rcases h2 with h2 | ⟨g', cap', cur, hv, hB, hh, r⟩
  · exact Or.inl h2
  · refine Or.inr ⟨g', cap', cur, hv, hB, ?_, r⟩
    injection hv with e1
    injection e1 with e1
    injection e1 with e1
    subst e1
    exact blk_ab hh rfl hg hr hne
theorem blk_put {X : World} {c l : Nat} {o o' p : Obj} (h : X.heap[c]? = some o) (hc : o.isCells = true) (hl : X.heap[l]? = some o') (ho : o'.isCells = false) : (X.putObj l p).heap[c]? = some o := by
  refine (World.putObj_heap_other (fun e => ?_)).trans h
  subst e; rw [h] at hl; cases hl; rw [hc] at ho; cases ho
theorem keepX_alloc {A r : Nat} (W : World) (o : Obj) : KeepX A r W (W.alloc o) := KeepX.grown (World.grownBy_alloc W o none) (fun k e => by cases e)

def chAt (l : List Ch) (k : Nat) : Ch := l.getD k (0, 0, 0, 0)
theorem chAt_eq {l : List Ch} {k : Nat} {c : Ch} (h : l[k]? = some c) : chAt l k = c := by unfold chAt; simp [List.getD, h]
theorem chAt_get {l : List Ch} {k : Nat} (h : k < l.length) : l[k]? = some (chAt l k) := by
  unfold chAt; rw [List.getD_eq_getElem?_getD, List.getElem?_eq_getElem h]; rfl
end Go.Proofs.YtioaehjppiodfaaGreatDoor

namespace Go.Proofs.YtioaehjppiodfaaGreatDoor
open Go.RowKit
set_option linter.unusedVariables false
set_option linter.unusedSimpArgs false

/-- what change k makes -/
def mk1 (l : List Kl) (o : Int) (c : Ch) : List Kl := if c.1 = 1 then part l o (o + c.2.2.2) else if c.1 = 3 then [c.2] else []
def mkAt (l : List Kl) (cs : List Ch) (k : Nat) : List Kl := mk1 l (oldL (cs.take k)) (chAt cs k)
def madeUp (l : List Kl) (cs : List Ch) (k : Nat) : List Kl := (List.range k).flatMap (mkAt l cs)
theorem madeUp_succ (l : List Kl) (cs : List Ch) (k : Nat) : madeUp l cs (k + 1) = madeUp l cs k ++ mkAt l cs k := by
  unfold madeUp; rw [List.range_succ, List.flatMap_append]; simp
theorem mkAt_eq {l : List Kl} {cs : List Ch} {k : Nat} {c : Ch} (h : cs[k]? = some c) : mkAt l cs k = mk1 l (oldL (cs.take k)) c := by unfold mkAt; rw [chAt_eq h]
theorem mk1_len (l : List Kl) (o : Int) (c : Ch) : (mk1 l o c).length ≤ l.length + 1 := by
  unfold mk1
  split
  · have := part_len l o (o + c.2.2.2); omega
  · split <;> simp
theorem madeUp_len (l : List Kl) (cs : List Ch) (k : Nat) : (madeUp l cs k).length ≤ k * (l.length + 1) := by
  induction k with
  | zero => simp [madeUp]
  | succ k ih =>
    rw [madeUp_succ, List.length_append, Nat.succ_mul]
    have : (mkAt l cs k).length ≤ l.length + 1 := mk1_len _ _ _
    omega
theorem madeUp_bd {l : List Kl} {cs : List Ch} {k : Nat} (hl : l.length ≤ 300) (hk : k ≤ 300) : (madeUp l cs k).length ≤ 100000 := by
  have h := madeUp_len l cs k
  have h2 : k * (l.length + 1) ≤ 300 * 301 := Nat.mul_le_mul hk (by omega)
  omega
theorem mk1_ok {l : List Kl} (h : AOk l) {c : Ch} (hc : HOk c) (o : Int) : AOk (mk1 l o c) := by
  unfold mk1
  split
  · exact part_ok h _ _
  · split
    · rename_i h1 h3
      rcases hc with ⟨h, _⟩ | ⟨_, h⟩
      · omega
      · exact aok_one.2 h
    · exact AOk.nil
theorem madeUp_ok {l : List Kl} (h : AOk l) {cs : List Ch} (hc : LOk cs) (k : Nat) (hk : k ≤ cs.length) : AOk (madeUp l cs k) := by
  induction k with
  | zero => simp [madeUp]; exact AOk.nil
  | succ k ih =>
    rw [madeUp_succ]
    exact (ih (by omega)).append (mk1_ok h (hc.2 _ (List.mem_of_getElem? (chAt_get (by omega)))) _)
/-- what Apply gives -/
def applyOf (l : List Kl) (cs : List Ch) : Option (List Kl) := if TOk l ∧ LOk cs ∧ oldL cs = clen l then edit (madeUp l cs cs.length) else none
theorem apply_no {l : List Kl} {cs : List Ch} (h : ¬ (TOk l ∧ LOk cs ∧ oldL cs = clen l)) : applyOf l cs = none := if_neg h
theorem apply_yes {l : List Kl} {cs : List Ch} (h : TOk l ∧ LOk cs ∧ oldL cs = clen l) : applyOf l cs = edit (madeUp l cs cs.length) := if_pos h
theorem apply_len (l : List Kl) (cs : List Ch) : (outL (applyOf l cs)).length ≤ 300 := by
  unfold applyOf
  split
  · exact edit_len _
  · simp [outL]
theorem fin_val (n : Nat) : (List.finRange n).map (fun x => x.1) = List.range n := by
  apply List.ext_getElem
  · simp
  · intro i h1 h2; simp
theorem fin_made (l : List Kl) (cs : List Ch) : (List.finRange cs.length).flatMap (fun x => mkAt l cs x.1) = madeUp l cs cs.length := by
  unfold madeUp; rw [← fin_val, List.flatMap_map]
/-- frames of the old track that a list takes by change k end inside it -/
theorem old_le {cs : List Ch} (hc : LOk cs) {k : Nat} (hk : k < cs.length) : 0 ≤ oldL (cs.take k) ∧ oldL (cs.take k) + oldC (chAt cs k) ≤ oldL cs := by
  have h1 := sums_take hc k
  have h2 : oldL cs = oldL (cs.take (k + 1)) + oldL (cs.drop (k + 1)) := by rw [← oldL_append, List.take_append_drop]
  rw [oldL_snoc (chAt_get hk)] at h2
  have h3 := (sums_bd (l := cs.drop (k + 1)) (fun c h => hc.2 c (List.mem_of_mem_drop h))).1
  omega

end Go.Proofs.YtioaehjppiodfaaGreatDoor

namespace Go.Proofs.YtioaehjppiodfaaGreatDoor
open Go.RowKit
set_option linter.unusedVariables false
set_option linter.unusedSimpArgs false

structure Opn (wr : World) (R T : Nat) (s : Value) (x : Int) : Prop where
  r0 : wr.cell? ⟨R, 0, none⟩ = some (.slice none 0 0)
  r1 : wr.cell? ⟨R, 1, none⟩ = some (.int .i64 0)
  fr0 : wr.frozen? ⟨R, 0, none⟩ = false
  fr1 : wr.frozen? ⟨R, 1, none⟩ = false
  t0 : wr.cell? ⟨T, 0, none⟩ = some s
  t1 : wr.cell? ⟨T, 1, none⟩ = some (.int .i64 x)
  ft1 : wr.frozen? ⟨T, 1, none⟩ = false
  lr : R < wr.heap.size
  lt : T < wr.heap.size
theorem ne_blk {b b' o o' : Nat} (h : b ≠ b') : (⟨b, o, none⟩ : Addr) ≠ ⟨b', o', none⟩ := by intro e; injection e with e; exact h e
theorem ne_addr {b o o' : Nat} (h : o ≠ o') : (⟨b, o, none⟩ : Addr) ≠ ⟨b, o', none⟩ := by intro e; injection e with _ e; exact h e
theorem Opn.later {wr w1 : World} {R T : Nat} {s : Value} {x : Int} (h : Opn wr R T s x) (hb : Below wr.heap.size wr w1) : Opn w1 R T s x := by
  obtain ⟨B1, B2⟩ := bcell hb
  exact ⟨(B1 _ _ h.lr).trans h.r0, (B1 _ _ h.lr).trans h.r1, (B2 _ _ h.lr).trans h.fr0, (B2 _ _ h.lr).trans h.fr1, (B1 _ _ h.lt).trans h.t0, (B1 _ _ h.lt).trans h.t1, (B2 _ _ h.lt).trans h.ft1, Nat.lt_of_lt_of_le h.lr hb.size, Nat.lt_of_lt_of_le h.lt hb.size⟩
theorem Opn.set {wr : World} {R T : Nat} {s : Value} {x : Int} (h : Opn wr R T s x) (hne : R ≠ T) (y : Int) : Opn (wr.setCell ⟨T, 1, none⟩ (.int .i64 y)) R T s y := by
  refine ⟨?_, ?_, ?_, ?_, ?_, World.cell?_setCell_same _ _ _ h.t1, ?_, by simp; exact h.lr, by simp; exact h.lt⟩
  · rw [World.cell?_setCell_other _ _ _ _ (ne_blk (by first | exact hne | exact Ne.symm hne))]; exact h.r0
  · rw [World.cell?_setCell_other _ _ _ _ (ne_blk (by first | exact hne | exact Ne.symm hne))]; exact h.r1
  · rw [World.frozen?_setCell]; exact h.fr0
  · rw [World.frozen?_setCell]; exact h.fr1
  · rw [World.cell?_setCell_other _ _ _ _ (ne_addr (by decide))]; exact h.t0
  · rw [World.frozen?_setCell]; exact h.ft1

/-- what opening answers -/
def openV (a : Option Addr) (cap : Nat) (l : List Kl) : Value := if TOk l then .tuple #[.agg #[.slice a l.length cap, .int .i64 (clen l)], .bool true] else .tuple #[.agg #[.slice none 0 0, .int .i64 0], .bool false]

set_option maxHeartbeats 1600000 in
theorem opened_any (a : Option Addr) (cap : Nat) (l : List Kl) (w : World) (hl : l.length ≤ maxLen) (hk : Kls w a l) :
    Calls Tryz.prog 110 #[.slice a l.length cap] w fun e w' => e = .returned (openV a cap l) ∧ Below w.heap.size w w' := by
  have hk' := hide hk
  clear hk
  unfold maxLen at hl
  by_cases hbig : 300 < l.length
  · have hv : openV a cap l = .tuple #[.agg #[.slice none 0 0, .int .i64 0], .bool false] := by unfold openV; rw [if_neg (fun h => by have := h.1; omega)]
    have hbig' : decide ((300 : Int) < l.length) = true := by simp; omega
    rw [hv]
    clear hv
    go_enter Tryz.func110, Tryz.ntmps110
    go_wp2
    exact bodyPost_ret (v := .tuple #[.agg #[.slice none 0 0, .int .i64 0], .bool false]) (by simp [results, Tryz.results110, go_sem]) rfl ⟨rfl, by repeat first | exact Below.refl _ _ | refine Below.setCell ?_ (by simp <;> omega) _ | refine Below.alloc ?_ (by simp <;> omega) _⟩
  have hbig' : decide ((300 : Int) < l.length) = false := by simp; omega
  have hst : Opn ((w.alloc (.cells #[.slice none 0 0, .int .i64 0] 133)).alloc (.cells #[.slice a l.length cap, .int .i64 0] 133)) w.heap.size (w.heap.size + 1) (.slice a l.length cap) 0 := by
    refine ⟨?_, ?_, ?_, ?_, ?_, ?_, ?_, ?_, ?_⟩ <;> simp [go_sem]
  have hB0 : Below w.heap.size w ((w.alloc (.cells #[.slice none 0 0, .int .i64 0] 133)).alloc (.cells #[.slice a l.length cap, .int .i64 0] 133)) := ((Below.refl _ _).alloc (Nat.le_refl _) _).alloc (by simp) _
  have hst' := hide hst
  have hB0' := hide hB0
  clear hst hB0
  go_enter Tryz.func110, Tryz.ntmps110
  go_wp2
  go_loopw [15] (fun t wr => ∃ k : Nat, k ≤ l.length ∧ t = .int .i64 k ∧ Hid (Opn wr w.heap.size (w.heap.size + 1) (.slice a l.length cap) (clen (l.take k))) ∧ Hid (AOk (l.take k)) ∧ Hid (Below w.heap.size w wr)) (fun t _ => l.length - (intOf t).toNat)
  case atStart => exact ⟨0, by omega, rfl, hst', hide (by simp; exact AOk.nil), hB0'⟩
  case round =>
    obtain ⟨k, hk, rfl, hO, hA, hw⟩ := hrel
    obtain ⟨b0, b1⟩ := take_bd (unhide hA) hk
    by_cases hlt : k < l.length
    · obtain ⟨b, o, s, i, n, rfl, hx, c0, c1, c2⟩ := kls_at (unhide hk') (unhide hw) hlt
      have hx' := hide hx
      have hcl := hide (clen_take hx)
      clear hx
      have hO1 := hide ((unhide hO).later (w1 := wr.alloc (.cells #[.int .i64 s, .int .i64 i, .int .i64 n] 94)) ((Below.refl _ _).alloc (Nat.le_refl _) _))
      have hW1 := hide (laterB (unhide hw) (w1 := wr.alloc (.cells #[.int .i64 s, .int .i64 i, .int .i64 n] 94)) ((Below.refl _ _).alloc (Nat.le_refl _) _))
      have hcc : (wr.alloc (.cells #[.int .i64 s, .int .i64 i, .int .i64 n] 94)).cell? ⟨wr.heap.size, 2, none⟩ = some (.int .i64 n) := by simp [go_sem]
      by_cases hc : COk (s, i, n)
      · have n0 := hc.1
        have n1 := hc.2.1
        have hc' := hide hc
        clear hc
        simp only at n0 n1
        go_wp2_with fail
        refine (iclip_any s i n true _ (by simpa using unhide hc')).mono ?_
        rintro e w1 ⟨rfl, hb⟩
        have d2 := cell_later hb hcc
        have hO2 := hide ((unhide hO1).later hb)
        have hw2 := hide (laterB (unhide hW1) hb)
        have x1 := (unhide hO2).t1
        have x2 := (unhide hO2).ft1
        clear hb hw c0 c1 c2 hO hO1 hW1 hcc
        go_wp2
        go_roundw
        case rel => exact ⟨k + 1, by omega, by go_num, hide (by rw [unhide hcl]; exact (unhide hO2).set (by omega) _), hide (aok_take (unhide hA) (unhide hx') (unhide hc')), hide ((unhide hw2).setCell (by simp) _)⟩
        case measure => simp [intOf]; omega
      · have hv2 : openV (some ⟨b, o, none⟩) cap l = .tuple #[.agg #[.slice none 0 0, .int .i64 0], .bool false] := by unfold openV; rw [if_neg (not_tok (unhide hx') hc)]
        have hv3 := hide hv2
        have hc2 := hide (show decide (COk (s, i, n)) = false from decide_eq_false hc)
        clear hc hv2
        go_wp2_with fail
        refine (iclip_any s i n false _ (unhide hc2)).mono ?_
        rintro e w1 ⟨rfl, hb⟩
        have hO2 := hide ((unhide hO1).later hb)
        have hw2 := hide (laterB (unhide hW1) hb)
        have x0 := (unhide hO2).r0
        have x1 := (unhide hO2).r1
        have x2 := (unhide hO2).fr0
        have x3 := (unhide hO2).fr1
        clear hb hw c0 c1 c2 hO hO1 hW1 hcc
        go_wp2
        exact bodyPost_ret (v := .tuple #[.agg #[.slice none 0 0, .int .i64 0], .bool false]) (by simp [results, Tryz.results110, go_sem, x0, x1]) rfl ⟨by rw [unhide hv3], ((unhide hw2).setCell (by simp) _).setCell (by simp) _⟩
    · have hke : k = l.length := by omega
      have hAl : AOk l := by have := unhide hA; rw [hke, List.take_length] at this; exact this
      have hcl : clen (l.take k) = clen l := by rw [hke, List.take_length]
      have hO2 : Hid (Opn wr w.heap.size (w.heap.size + 1) (.slice a l.length cap) (clen l)) := hide (by rw [← hcl]; exact unhide hO)
      rw [hcl] at b0 b1
      clear hO hA hcl
      have x0 := (unhide hO2).r0
      have x1 := (unhide hO2).r1
      have x2 := (unhide hO2).fr0
      have x3 := (unhide hO2).fr1
      have y0 := (unhide hO2).t0
      have y1 := (unhide hO2).t1
      by_cases hm : clen l ≤ 10000000
      · have hm' : decide (10000000 < clen l) = false := by simp; omega
        have hv2 : openV a cap l = .tuple #[.agg #[.slice a l.length cap, .int .i64 (clen l)], .bool true] := by unfold openV; rw [if_pos ⟨by omega, hAl, hm⟩]
        have hv3 := hide hv2
        clear hv2 hAl hm
        go_wp2
        exact bodyPost_ret (v := .tuple #[.agg #[.slice a l.length cap, .int .i64 (clen l)], .bool true]) (by simp [results, Tryz.results110, go_sem, x0, x1]) rfl ⟨by rw [unhide hv3], ((unhide hw).setCell (by simp) _).setCell (by simp) _⟩
      · have hm' : decide (10000000 < clen l) = true := by simp; omega
        have hv2 : openV a cap l = .tuple #[.agg #[.slice none 0 0, .int .i64 0], .bool false] := by unfold openV; rw [if_neg (fun h => hm h.2.2)]
        have hv3 := hide hv2
        clear hv2 hAl hm
        go_wp2
        exact bodyPost_ret (v := .tuple #[.agg #[.slice none 0 0, .int .i64 0], .bool false]) (by simp [results, Tryz.results110, go_sem, x0, x1]) rfl ⟨by rw [unhide hv3], ((unhide hw).setCell (by simp) _).setCell (by simp) _⟩

theorem openV_ok {a : Option Addr} {cap : Nat} {l : List Kl} (h : TOk l) : openV a cap l = .tuple #[.agg #[.slice a l.length cap, .int .i64 (clen l)], .bool true] := by unfold openV; rw [if_pos h]
theorem openV_no {a : Option Addr} {cap : Nat} {l : List Kl} (h : ¬ TOk l) : openV a cap l = .tuple #[.agg #[.slice none 0 0, .int .i64 0], .bool false] := by unfold openV; rw [if_neg h]
theorem opened_ok (a : Option Addr) (cap : Nat) (l : List Kl) (w : World) (h : TOk l) (hk : Kls w a l) :
    Calls Tryz.prog 110 #[.slice a l.length cap] w fun e w' => e = .returned (.tuple #[.agg #[.slice a l.length cap, .int .i64 (clen l)], .bool true]) ∧ Below w.heap.size w w' := by
  rw [← openV_ok h]; exact opened_any a cap l w (by have := h.1; unfold maxLen; omega) hk
theorem opened_no (a : Option Addr) (cap : Nat) (l : List Kl) (w : World) (hl : l.length ≤ maxLen) (h : ¬ TOk l) (hk : Kls w a l) :
    Calls Tryz.prog 110 #[.slice a l.length cap] w fun e w' => e = .returned (.tuple #[.agg #[.slice none 0 0, .int .i64 0], .bool false]) ∧ Below w.heap.size w w' := by
  rw [← openV_no h]; exact opened_any a cap l w hl hk

set_option maxHeartbeats 800000 in
theorem itrack_any (a : Option Addr) (cap : Nat) (l : List Kl) (v : Bool) (w : World) (hl : l.length ≤ maxLen) (hk : Kls w a l) (hv : decide (TOk l) = v) :
    Calls Tryz.prog 131 #[.slice a l.length cap] w fun e w' => e = .returned (.bool v) ∧ Below w.heap.size w w' := by
  subst hv
  have hk' := hide hk
  clear hk
  by_cases h : TOk l
  · rw [decide_eq_true h]
    have h' := hide h
    clear h
    go_enter Tryz.func131, Tryz.ntmps131
    go_wp2_with fail
    refine (opened_ok a cap l _ (unhide h') (unhide hk')).mono ?_
    rintro e w1 ⟨rfl, hb⟩
    go_wp2
    go_ret
    exact ⟨rfl, by first | exact hb | exact hb.alloc hb.size _⟩
  · rw [decide_eq_false h]
    have h' := hide h
    clear h
    go_enter Tryz.func131, Tryz.ntmps131
    go_wp2_with fail
    refine (opened_no a cap l _ hl (unhide h') (unhide hk')).mono ?_
    rintro e w1 ⟨rfl, hb⟩
    go_wp2
    go_ret
    exact ⟨rfl, by first | exact hb | exact hb.alloc hb.size _⟩

set_option maxHeartbeats 800000 in
theorem ilength_any (a : Option Addr) (cap : Nat) (l : List Kl) (w : World) (hl : l.length ≤ maxLen) (hk : Kls w a l) :
    Calls Tryz.prog 112 #[.slice a l.length cap] w fun e w' => e = .returned (.int .i64 (lenOf l)) ∧ Below w.heap.size w w' := by
  have hk' := hide hk
  clear hk
  by_cases h : TOk l
  · have h' := hide h
    unfold lenOf
    rw [if_pos h]
    clear h
    go_enter Tryz.func112, Tryz.ntmps112
    go_wp2_with fail
    refine (opened_ok a cap l _ (unhide h') (unhide hk')).mono ?_
    rintro e w1 ⟨rfl, hb⟩
    go_wp2
    go_ret
    exact ⟨rfl, by first | exact hb | exact hb.alloc hb.size _⟩
  · have h' := hide h
    unfold lenOf
    rw [if_neg h]
    clear h
    go_enter Tryz.func112, Tryz.ntmps112
    go_wp2_with fail
    refine (opened_no a cap l _ hl (unhide h') (unhide hk')).mono ?_
    rintro e w1 ⟨rfl, hb⟩
    go_wp2
    go_ret
    exact ⟨rfl, by first | exact hb | exact hb.alloc hb.size _⟩

end Go.Proofs.YtioaehjppiodfaaGreatDoor
