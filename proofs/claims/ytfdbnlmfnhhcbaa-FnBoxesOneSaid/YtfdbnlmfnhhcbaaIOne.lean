/-
  Contracts of the program's reading of one box: what it keeps, and that nothing else is written.
-/
import Derived.Test.YtfdbnlmfnhhcbaaHead
import Derived.Laws.CopyOwn
import Derived.Deep.OwnRows
namespace Go.Proofs.Ytfdbnlmfnhhcbaa
open Go.RowKit
set_option linter.unusedVariables false
set_option linter.unusedSimpArgs false

/-- a list without an address has no room -/
def Nz (L : List (Bx × (Option Addr × Nat))) : Prop := ∀ p ∈ L, p.2.1 = none → p.2.2 = 0
theorem Nz.snoc {L : List (Bx × (Option Addr × Nat))} {p : Bx × (Option Addr × Nat)} (h : Nz L) (hp : p.2.1 = none → p.2.2 = 0) : Nz (L ++ [p]) := by
  intro q hq
  rcases List.mem_append.1 hq with hq | hq
  · exact h q hq
  · simp at hq; subst hq; exact hp
/-- the reader in block R has read s; what it made lies from block B on -/
def ISt (w : World) (R B : Nat) (s : RS) : Prop := ∃ v L, w.cell? ⟨R, 0, none⟩ = some v ∧ w.cell? ⟨R, 1, none⟩ = some (.int .i64 s.n) ∧ w.frozen? ⟨R, 0, none⟩ = false ∧ w.frozen? ⟨R, 1, none⟩ = false ∧ OwnL w B v L ∧ L.map (·.1) = s.l ∧ R < w.heap.size ∧ B ≤ w.heap.size ∧ s.l.length ≤ 200 ∧ 0 ≤ s.n ∧ s.n ≤ 20000 ∧ Off R v L ∧ Nz L
theorem Row.drop {own : Bool} {lo hi : Nat} {w : World} {b o : Nat} {zs : List Int} (h : Row own lo hi w (some ⟨b, o, none⟩) zs) (k : Nat) : Row own lo hi w (some ⟨b, o + k, none⟩) (zs.drop k) := by
  intro j z hz
  rw [List.getElem?_drop] at hz
  obtain ⟨b', o', e, h1, h2, hc, r⟩ := h (k + j) z hz
  injection e with e
  injection e with e1 e2 _
  subst e1 e2
  exact ⟨b, o + k, rfl, h1, h2, by rw [Nat.add_assoc]; exact hc, r.1, r.2.1, fun ho => by rw [Nat.add_assoc]; exact r.2.2 ho⟩
theorem Row.take {own : Bool} {lo hi : Nat} {w : World} {a : Option Addr} {zs : List Int} (h : Row own lo hi w a zs) (k : Nat) : Row own lo hi w a (zs.take k) := by
  intro j z hz
  rw [List.getElem?_take] at hz
  split at hz
  · exact h j z hz
  · cases hz
theorem splice_all (n : Nat) (zs : List Int) (hn : zs.length = n) : splice (List.replicate n (Value.int .u8 0)) 0 (zs.map u8) = zs.map u8 := by
  unfold splice
  simp
  omega
theorem setR_row {w : World} {R i B : Nat} {u : Value} {own : Bool} {lo hi : Nat} {a : Option Addr} {zs : List Int} (h : Row own lo hi w a zs) (hR : R < lo) : Row own lo hi (w.setCell ⟨R, i, none⟩ u) a zs :=
  h.same fun b h1 _ => Below.heap_setCell _ _ _ _ (by show b ≠ R; omega)

set_option maxHeartbeats 1600000 in
theorem one_leaf (Hh R B b o m : Nat) (bx : List Int) (dep p : Int) (s : RS) (w : World) (hm : bx.length = m + 8) (hl2 : bx.length ≤ 40000) (hd0 : 0 ≤ dep) (hd1 : dep ≤ 100) (hHR : Hh ≤ R) (hHB : Hh ≤ B) (hr : Row false 0 Hh w (some ⟨b, o, none⟩) bx) (hst : ISt w R B s)
    (hH : holds (kindOf bx) = false) (hK : kindOk (kindOf bx) = true) (h200 : s.l.length < 200) (hdat : s.n + m ≤ 20000) :
    Calls Try.prog 37 #[.pointer (some ⟨R, 0, none⟩), .slice (some ⟨b, o, none⟩) (m + 8) (m + 8), .int .i64 dep, .int .i64 p] w fun e w' => e = .returned (.tuple #[]) ∧ ISt w' R B ⟨s.l ++ [⟨kindOf bx, dep, bx.drop 8⟩], s.n + m⟩ ∧ Fr R B w w' := by
  obtain ⟨v, L, c0, c1, f0, f1, hown, hL, hRB, hBw, h2, n0, n1, hoff, hnz⟩ := hst
  obtain ⟨i0, hi, hz0, hz1, hz2⟩ := info_parts info38
  have hks : (kindOf bx).size ≤ maxLen := by have := kindOf_size bx; unfold maxLen; omega
  have hksz : 0 < (kindOf bx).size := by rw [kindOk_size hK]; omega
  have hmk := run_make_row' (P := Try.prog) 22 5 (.int .u8 0) 1 Try.underlying22 info5 rfl .i64 .i64 m (by omega) (by omega)
  have hdl : Hid ((bx.drop 8).length = m) := hide (by simp; omega)
  have hko := kindOf_any b o bx.length bx Hh w (by omega) hl2 (Nat.le_refl _) (by omega) hr
  rw [hm] at hko
  have hko' := hide hko
  have hm40 : m ≤ 40000 := by omega
  have hr' := hide hr
  have hown' := hide hown
  have hoff' := hide hoff
  have hnz' := hide hnz
  have hbw : R < w.heap.size := by omega
  have hLl : Hid (L.length = s.l.length) := hide (by rw [← hL]; simp)
  have hL' := hide hL
  have hm' := hide hm
  clear hr hown hL hko hm hl2 hoff hnz
  by_cases hm0 : m = 0
  · subst hm0
    have hmk0 : ∀ w, (Instr.makeSlice 22 (.int .i64 0) (.int .i64 0)).run Try.prog w = .ok (.slice (some ⟨w.heap.size, 0, none⟩) 0 0) (w.alloc (.cells (madeCells #[.int .u8 0] 0) 5)) := fun w => hmk w
    clear hmk
    go_enter Try.func37, Try.ntmps37
    go_wp2_with fail
    refine (unhide hko').mono ?_
    rintro e w1 ⟨rfl, rfl⟩
    go_wp2_with fail
    refine (cont_any (kindOf bx) false _ hksz hks hH).mono ?_
    rintro e w1 ⟨rfl, rfl⟩
    go_wp2
    rw [run_copy_none (P := Try.prog) _ 22 22 3 5 _ _ _ _ _ _ Try.underlying22 (by kernel_rfl) rfl]
    simp only [Result.andThen]
    rw [Oper.upon_value]
    obtain ⟨w2, hw2⟩ : ∃ w2, w1.alloc (.cells (madeCells #[.int .u8 0] 0) 5) = w2 := ⟨_, rfl⟩
    have hb2 : Below w1.heap.size w1 w2 := by rw [← hw2]; exact (Below.refl _ _).alloc (Nat.le_refl _) _
    have hrow2 : Hid (w2.heap[w1.heap.size]? = some (.cells ((bx.drop 8).map u8).toArray 5 (0, 0))) := hide (by
      rw [← hw2, heap_alloc_new]
      have : bx.drop 8 = [] := List.eq_nil_of_length_eq_zero (unhide hdl)
      rw [this]; simp [madeCells])
    rw [hw2]
    clear hw2
    have hk2 := bcell hb2
    have q0 : w2.cell? ⟨R, 0, none⟩ = some v := by rw [hk2.1 _ _ hbw]; exact c0
    have q1 : w2.cell? ⟨R, 1, none⟩ = some (.int .i64 s.n) := by rw [hk2.1 _ _ hbw]; exact c1
    have g0 : w2.frozen? ⟨R, 0, none⟩ = false := by rw [hk2.2 _ _ hbw]; exact f0
    have g1 : w2.frozen? ⟨R, 1, none⟩ = false := by rw [hk2.2 _ _ hbw]; exact f1
    have hown2 : OwnL w2 B v L := (unhide hown').below hb2
    have hz2' : w1.heap.size < w2.heap.size := by
      have := (Array.getElem?_eq_some_iff.1 (unhide hrow2)).1; exact this
    have hRw2 : R < w2.heap.size := by omega
    have hown3 := hide ((hown2.setOff (unhide hoff') 1 (.int .i64 (s.n))).below ((Below.refl _ _).alloc (Nat.le_refl _) (.cells #[.string (kindOf bx), .int .i64 dep, .slice (some ⟨w1.heap.size, 0, none⟩) 0 0] 42)))
    have hr1 : ¬ R = w2.heap.size := by omega
    have hb2' := hide hb2
    clear hk2 hown2 hb2
    go_wp2_with (at_builtin; refine wpList_append_lies _ rfl _ _ 25 rfl B 42 i0 _ 3 48 Try.underlying25 hi hz0 hz1 hz2 rfl (by decide) v L.length (flatL L) rfl ?k0 ⟨w2.heap.size, 0, none⟩ 1 1 [.string (kindOf bx), .int .i64 dep, .slice (some ⟨w1.heap.size, 0, none⟩) 0 0] rfl rfl ?k1 ?k2 (by decide) ?k3 ?k4 ?k5 (w2.heap.size + 1) (by simp) ?_)
    case k0 => exact (unhide hown3).1
    case k1 =>
      have hsz : (w2.setCell ⟨R, 1, none⟩ (.int .i64 s.n)).heap.size = w2.heap.size := by simp
      have hnb := heap_alloc_new (w2.setCell ⟨R, 1, none⟩ (.int .i64 s.n)) (.cells #[.string (kindOf bx), .int .i64 dep, .slice (some ⟨w1.heap.size, 0, none⟩) 0 0] 42)
      rw [hsz] at hnb
      exact World.news_of_block hnb
    case k2 => intro u hu; simp at hu; rcases hu with rfl | rfl | rfl <;> rfl
    case k3 => have := unhide hLl; unfold maxLen; omega
    case k4 => have := unhide hLl; omega
    case k5 => simp; omega
    intro g cap w3 hown4 hgrow hat hlt
    have hgp : GoodP (((w2.setCell ⟨R, 1, none⟩ (.int .i64 s.n)).alloc (.cells #[.string (kindOf bx), .int .i64 dep, .slice (some ⟨w1.heap.size, 0, none⟩) 0 0] 42))) B v (⟨kindOf bx, dep, bx.drop 8⟩, (some ⟨w1.heap.size, 0, none⟩, 0)) := by
      have hblk : (((w2.setCell ⟨R, 1, none⟩ (.int .i64 s.n)).alloc (.cells #[.string (kindOf bx), .int .i64 dep, .slice (some ⟨w1.heap.size, 0, none⟩) 0 0] 42))).heap[w1.heap.size]? = some (.cells ((bx.drop 8).map u8).toArray 5 (0, 0)) := by
        rw [Below.heap_alloc _ _ _ (by simp; omega), Below.heap_setCell _ _ _ _ (by show w1.heap.size ≠ R; omega)]
        exact unhide hrow2
      refine ⟨?_, hks, by show _ ≤ dep; omega, by show dep ≤ _; omega, by rw [unhide hdl]; exact Nat.le_refl _, by simp only [maxLen]; omega, ?_⟩
      · intro j z hz
        refine ⟨w1.heap.size, 0, rfl, by omega, by simp; omega, ?_, ?_⟩
        · rw [cell_of_row _ _ _ _ _ _ hblk, Nat.zero_add]
          simp only [List.getElem?_toArray, List.getElem?_map]
          rw [hz]; rfl
        · have hbd := (unhide hr').bd z (List.mem_of_mem_drop (List.mem_of_getElem? hz))
          exact ⟨hbd.1, hbd.2, fun _ => frozen_of_row _ _ _ _ _ hblk⟩
      · intro y hy
        injection hy with hy
        subst hy
        refine ⟨by simp; omega, ?_⟩
        intro e
        have := ((unhide hown').1.lt _ e).2
        simp at this
    have hdist : ∀ q ∈ L, ∀ x y, q.2.1 = some x → (some ⟨w1.heap.size, 0, none⟩ : Option Addr) = some y → x.block ≠ y.block := by
      intro q hq x y hx hy
      injection hy with hy
      subst hy
      have := ((unhide hown').2.1 q hq).2.2.2.2.2.2 x hx
      have := this.1
      show x.block ≠ w1.heap.size
      omega
    have hoff3 := hide (Off.snoc (n := L.length + 1) (cap := cap) (p := (⟨kindOf bx, dep, bx.drop 8⟩, (some ⟨w1.heap.size, 0, none⟩, 0))) (unhide hoff') hat (by omega) (fun y hy => by injection hy with hy; subst hy; show w1.heap.size ≠ R; omega))
    have hfin := hide (OwnL.snoc (p := (⟨kindOf bx, dep, bx.drop 8⟩, (some ⟨w1.heap.size, 0, none⟩, 0))) (unhide hown3) hgp hdist (by
      have e : cell3 (⟨kindOf bx, dep, bx.drop 8⟩, (some ⟨w1.heap.size, 0, none⟩, 0)) = [.string (kindOf bx), .int .i64 dep, .slice (some ⟨w1.heap.size, 0, none⟩) 0 0] := by unfold cell3; rw [unhide hdl]
      rw [e]; exact hown4) hgrow (by simpa using hat))
    have hcR : ∀ i, w3.cell? ⟨R, i, none⟩ = (w2.setCell ⟨R, 1, none⟩ (.int .i64 s.n)).cell? ⟨R, i, none⟩ := fun i => by
      have hne : R ≠ w2.heap.size := by omega
      have hRv : v.ownBlock ≠ some R := (unhide hoff').1
      rw [World.cell?_of_block (a := ⟨R, i, none⟩) (hgrow.block R (by simp; omega) (Ne.symm hRv)), World.cell?_alloc_past _ _ _ (by simp; omega)]
    have hfR : ∀ i, w3.frozen? ⟨R, i, none⟩ = w2.frozen? ⟨R, i, none⟩ := fun i => by
      have hRv : v.ownBlock ≠ some R := (unhide hoff').1
      rw [World.frozen?_of_block (a := ⟨R, i, none⟩) (hgrow.block R (by simp; omega) (Ne.symm hRv)), World.frozen?_of_block (a := ⟨R, i, none⟩) (Below.heap_alloc _ _ _ (by simp; omega)), World.frozen?_setCell]
    have y0 : w3.cell? ⟨R, 0, none⟩ = some v := by rw [hcR, World.cell?_setCell_other _ _ _ _ (ne_addr (by decide))]; exact q0
    have y1 : w3.cell? ⟨R, 1, none⟩ = some (.int .i64 s.n) := by rw [hcR]; exact World.cell?_setCell_same _ _ _ q1
    have z0 : w3.frozen? ⟨R, 0, none⟩ = false := by rw [hfR]; exact g0
    have z1 : w3.frozen? ⟨R, 1, none⟩ = false := by rw [hfR]; exact g1
    have hFr : Fr R B w1 w3 := by
      have h1 : Fr R B w1 w2 := Fr.of ((unhide hb2').mono hBw)
      refine (h1.set 1 (.int .i64 s.n)).trans ?_
      refine Fr.of ?_
      refine ((Below.refl B _).alloc (by simp; omega) _).grown hgrow (by simp; omega) (fun k hk => ?_)
      exact ((unhide hown').1.lt _ hk).1
    have hFr' := hide hFr
    have hB3 : B ≤ w3.heap.size := by have := hFr.size; omega
    have hR3 : R < w3.heap.size := by have := hFr.size; omega
    clear hcR hfR hgp hdist hown4 hgrow hat hFr
    go_wp2
    refine ⟨rfl, .tuple #[], by simp [results, Try.results37, go_sem], rfl, ?_, (unhide hFr').set 0 _⟩
    refine ⟨_, _, World.cell?_setCell_same _ _ _ y0, ?_, by rw [World.frozen?_setCell]; exact z0, by rw [World.frozen?_setCell]; exact z1, (unhide hfin).setOff (unhide hoff3) 0 _, ?_, by simp; omega, by simp; omega, ?_, ?_, ?_, unhide hoff3, (unhide hnz').snoc (fun h => by cases h)⟩
    · rw [World.cell?_setCell_other _ _ _ _ (ne_addr (by decide))]; rw [y1]; simp
    · rw [List.map_append, unhide hL']; rfl
    · show (s.l ++ [_]).length ≤ 200
      simp; omega
    · show 0 ≤ s.n + _
      omega
    · show s.n + _ ≤ 20000
      omega

  · have hmp : 0 < m := by omega
    clear hm0
    go_enter Try.func37, Try.ntmps37
    go_wp2_with fail
    refine (unhide hko').mono ?_
    rintro e w1 ⟨rfl, rfl⟩
    go_wp2_with fail
    refine (cont_any (kindOf bx) false _ hksz hks hH).mono ?_
    rintro e w1 ⟨rfl, rfl⟩
    go_wp2
    have hcp := run_copy_row (P := Try.prog) (w1.alloc (.cells (madeCells #[.int .u8 0] m) 5)) 22 22 3 5 w1.heap.size 0 m m ⟨b, o + 8, none⟩ m m (madeCells #[.int .u8 0] m) 5 ((bx.drop 8).map u8) Try.underlying22 (by kernel_rfl) (heap_alloc_new _ _)
      (by rw [List.length_map, unhide hdl]; exact (Nat.min_self m).symm)
      (fun j u hj => by
        rw [List.getElem?_map] at hj
        obtain ⟨z, hz, rfl⟩ := Option.map_eq_some_iff.1 hj
        have h8 := (unhide hr').drop 8
        have hc := (row_at h8 hz).1
        have hlt := (row_at h8 hz).2.1
        rw [Addr.add_lit, World.cell?_alloc_past _ _ _ (by show b < _; omega)]
        exact hc)
      (by rw [List.length_map, unhide hdl, size_madeCells]; omega)
      (fun u hu => by obtain ⟨z, _, rfl⟩ := List.mem_map.1 hu; rfl)
    rw [hcp]
    simp only [Result.andThen]
    rw [Oper.upon_value]
    obtain ⟨w2, hw2⟩ : ∃ w2, (w1.alloc (.cells (madeCells #[.int .u8 0] m) 5)).setRow w1.heap.size ((madeCells #[.int .u8 0] m).toList.take 0 ++ (bx.drop 8).map u8 ++ (madeCells #[.int .u8 0] m).toList.drop (0 + ((bx.drop 8).map u8).length)).toArray = w2 := ⟨_, rfl⟩
    have hb2 : Below w1.heap.size w1 w2 := by rw [← hw2]; exact below_setRow ((Below.refl _ _).alloc (Nat.le_refl _) _) (Nat.le_refl _) _
    have hrow2 : Hid (w2.heap[w1.heap.size]? = some (.cells ((bx.drop 8).map u8).toArray 5 (0, 0))) := hide (by
      rw [← hw2, setRow_heap _ _ _ _ 5 _ (heap_alloc_new _ _)]
      have hdr : (madeCells #[.int .u8 0] m).toList.drop (0 + ((bx.drop 8).map u8).length) = [] := by rw [Nat.zero_add, List.length_map, unhide hdl, toList_madeCells_one]; simp
      rw [List.take_zero, List.nil_append, hdr, List.append_nil])
    have hgl : goInt ((bx.drop 8).map u8).length = .int .i64 m := by rw [List.length_map, unhide hdl]; rfl
    rw [hw2, hgl]
    clear hw2 hcp hgl
    have hk2 := bcell hb2
    have q0 : w2.cell? ⟨R, 0, none⟩ = some v := by rw [hk2.1 _ _ hbw]; exact c0
    have q1 : w2.cell? ⟨R, 1, none⟩ = some (.int .i64 s.n) := by rw [hk2.1 _ _ hbw]; exact c1
    have g0 : w2.frozen? ⟨R, 0, none⟩ = false := by rw [hk2.2 _ _ hbw]; exact f0
    have g1 : w2.frozen? ⟨R, 1, none⟩ = false := by rw [hk2.2 _ _ hbw]; exact f1
    have hown2 : OwnL w2 B v L := (unhide hown').below hb2
    have hz2' : w1.heap.size < w2.heap.size := by
      have := (Array.getElem?_eq_some_iff.1 (unhide hrow2)).1; exact this
    have hRw2 : R < w2.heap.size := by omega
    have hown3 := hide ((hown2.setOff (unhide hoff') 1 (.int .i64 (s.n + m))).below ((Below.refl _ _).alloc (Nat.le_refl _) (.cells #[.string (kindOf bx), .int .i64 dep, .slice (some ⟨w1.heap.size, 0, none⟩) m m] 42)))
    have hr1 : ¬ R = w2.heap.size := by omega
    have hb2' := hide hb2
    clear hk2 hown2 hb2
    go_wp2_with (at_builtin; refine wpList_append_lies _ rfl _ _ 25 rfl B 42 i0 _ 3 48 Try.underlying25 hi hz0 hz1 hz2 rfl (by decide) v L.length (flatL L) rfl ?k0 ⟨w2.heap.size, 0, none⟩ 1 1 [.string (kindOf bx), .int .i64 dep, .slice (some ⟨w1.heap.size, 0, none⟩) m m] rfl rfl ?k1 ?k2 (by decide) ?k3 ?k4 ?k5 (w2.heap.size + 1) (by simp) ?_)
    case k0 => exact (unhide hown3).1
    case k1 =>
      have hsz : (w2.setCell ⟨R, 1, none⟩ (.int .i64 (s.n + m))).heap.size = w2.heap.size := by simp
      have hnb := heap_alloc_new (w2.setCell ⟨R, 1, none⟩ (.int .i64 (s.n + m))) (.cells #[.string (kindOf bx), .int .i64 dep, .slice (some ⟨w1.heap.size, 0, none⟩) m m] 42)
      rw [hsz] at hnb
      exact World.news_of_block hnb
    case k2 => intro u hu; simp at hu; rcases hu with rfl | rfl | rfl <;> rfl
    case k3 => have := unhide hLl; unfold maxLen; omega
    case k4 => have := unhide hLl; omega
    case k5 => simp; omega
    intro g cap w3 hown4 hgrow hat hlt
    have hgp : GoodP (((w2.setCell ⟨R, 1, none⟩ (.int .i64 (s.n + m))).alloc (.cells #[.string (kindOf bx), .int .i64 dep, .slice (some ⟨w1.heap.size, 0, none⟩) m m] 42))) B v (⟨kindOf bx, dep, bx.drop 8⟩, (some ⟨w1.heap.size, 0, none⟩, m)) := by
      have hblk : (((w2.setCell ⟨R, 1, none⟩ (.int .i64 (s.n + m))).alloc (.cells #[.string (kindOf bx), .int .i64 dep, .slice (some ⟨w1.heap.size, 0, none⟩) m m] 42))).heap[w1.heap.size]? = some (.cells ((bx.drop 8).map u8).toArray 5 (0, 0)) := by
        rw [Below.heap_alloc _ _ _ (by simp; omega), Below.heap_setCell _ _ _ _ (by show w1.heap.size ≠ R; omega)]
        exact unhide hrow2
      refine ⟨?_, hks, by show _ ≤ dep; omega, by show dep ≤ _; omega, by rw [unhide hdl]; exact Nat.le_refl _, by simp only [maxLen]; omega, ?_⟩
      · intro j z hz
        refine ⟨w1.heap.size, 0, rfl, by omega, by simp; omega, ?_, ?_⟩
        · rw [cell_of_row _ _ _ _ _ _ hblk, Nat.zero_add]
          simp only [List.getElem?_toArray, List.getElem?_map]
          rw [hz]; rfl
        · have hbd := (unhide hr').bd z (List.mem_of_mem_drop (List.mem_of_getElem? hz))
          exact ⟨hbd.1, hbd.2, fun _ => frozen_of_row _ _ _ _ _ hblk⟩
      · intro y hy
        injection hy with hy
        subst hy
        refine ⟨by simp; omega, ?_⟩
        intro e
        have := ((unhide hown').1.lt _ e).2
        simp at this
    have hdist : ∀ q ∈ L, ∀ x y, q.2.1 = some x → (some ⟨w1.heap.size, 0, none⟩ : Option Addr) = some y → x.block ≠ y.block := by
      intro q hq x y hx hy
      injection hy with hy
      subst hy
      have := ((unhide hown').2.1 q hq).2.2.2.2.2.2 x hx
      have := this.1
      show x.block ≠ w1.heap.size
      omega
    have hoff3 := hide (Off.snoc (n := L.length + 1) (cap := cap) (p := (⟨kindOf bx, dep, bx.drop 8⟩, (some ⟨w1.heap.size, 0, none⟩, m))) (unhide hoff') hat (by omega) (fun y hy => by injection hy with hy; subst hy; show w1.heap.size ≠ R; omega))
    have hfin := hide (OwnL.snoc (p := (⟨kindOf bx, dep, bx.drop 8⟩, (some ⟨w1.heap.size, 0, none⟩, m))) (unhide hown3) hgp hdist (by
      have e : cell3 (⟨kindOf bx, dep, bx.drop 8⟩, (some ⟨w1.heap.size, 0, none⟩, m)) = [.string (kindOf bx), .int .i64 dep, .slice (some ⟨w1.heap.size, 0, none⟩) m m] := by unfold cell3; rw [unhide hdl]
      rw [e]; exact hown4) hgrow (by simpa using hat))
    have hcR : ∀ i, w3.cell? ⟨R, i, none⟩ = (w2.setCell ⟨R, 1, none⟩ (.int .i64 (s.n + m))).cell? ⟨R, i, none⟩ := fun i => by
      have hne : R ≠ w2.heap.size := by omega
      have hRv : v.ownBlock ≠ some R := (unhide hoff').1
      rw [World.cell?_of_block (a := ⟨R, i, none⟩) (hgrow.block R (by simp; omega) (Ne.symm hRv)), World.cell?_alloc_past _ _ _ (by simp; omega)]
    have hfR : ∀ i, w3.frozen? ⟨R, i, none⟩ = w2.frozen? ⟨R, i, none⟩ := fun i => by
      have hRv : v.ownBlock ≠ some R := (unhide hoff').1
      rw [World.frozen?_of_block (a := ⟨R, i, none⟩) (hgrow.block R (by simp; omega) (Ne.symm hRv)), World.frozen?_of_block (a := ⟨R, i, none⟩) (Below.heap_alloc _ _ _ (by simp; omega)), World.frozen?_setCell]
    have y0 : w3.cell? ⟨R, 0, none⟩ = some v := by rw [hcR, World.cell?_setCell_other _ _ _ _ (ne_addr (by decide))]; exact q0
    have y1 : w3.cell? ⟨R, 1, none⟩ = some (.int .i64 (s.n + m)) := by rw [hcR]; exact World.cell?_setCell_same _ _ _ q1
    have z0 : w3.frozen? ⟨R, 0, none⟩ = false := by rw [hfR]; exact g0
    have z1 : w3.frozen? ⟨R, 1, none⟩ = false := by rw [hfR]; exact g1
    have hFr : Fr R B w1 w3 := by
      have h1 : Fr R B w1 w2 := Fr.of ((unhide hb2').mono hBw)
      refine (h1.set 1 (.int .i64 (s.n + m))).trans ?_
      refine Fr.of ?_
      refine ((Below.refl B _).alloc (by simp; omega) _).grown hgrow (by simp; omega) (fun k hk => ?_)
      exact ((unhide hown').1.lt _ hk).1
    have hFr' := hide hFr
    have hB3 : B ≤ w3.heap.size := by have := hFr.size; omega
    have hR3 : R < w3.heap.size := by have := hFr.size; omega
    clear hcR hfR hgp hdist hown4 hgrow hat hFr
    go_wp2
    refine ⟨rfl, .tuple #[], by simp [results, Try.results37, go_sem], rfl, ?_, (unhide hFr').set 0 _⟩
    refine ⟨_, _, World.cell?_setCell_same _ _ _ y0, ?_, by rw [World.frozen?_setCell]; exact z0, by rw [World.frozen?_setCell]; exact z1, (unhide hfin).setOff (unhide hoff3) 0 _, ?_, by simp; omega, by simp; omega, ?_, ?_, ?_, unhide hoff3, (unhide hnz').snoc (fun h => by cases h)⟩
    · rw [World.cell?_setCell_other _ _ _ _ (ne_addr (by decide))]; exact y1
    · rw [List.map_append, unhide hL']; rfl
    · show (s.l ++ [_]).length ≤ 200
      simp; omega
    · show 0 ≤ s.n + _
      omega
    · show s.n + _ ≤ 20000
      omega

end Go.Proofs.Ytfdbnlmfnhhcbaa
