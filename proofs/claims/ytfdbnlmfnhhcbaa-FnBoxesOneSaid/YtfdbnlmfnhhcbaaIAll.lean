/-
  Contracts of the program's reading of a container and of all boxes that fill some bytes: what is kept, by which fault it gives up, and that nothing else is written.
-/
import Derived.Test.YtfdbnlmfnhhcbaaIOne
namespace Go.Proofs.Ytfdbnlmfnhhcbaa
open Go.RowKit
set_option linter.unusedVariables false
set_option linter.unusedSimpArgs false

def endR : Option (Int × Int) → Ending | none => .returned (.tuple #[]) | some f => gave f.1 f.2
/-- the contract of readAll at one depth -/
def RdAllC (dep : Int) : Prop := ∀ (n : Nat) (left : List Int) (a : Option Addr) (cap Hh R B : Nat) (pos : Int) (s : RS) (w : World), Hh ≤ R → Hh ≤ B → left.length < n → left.length ≤ 40000 → left.length ≤ cap → cap ≤ 9223372036854775807 → 0 ≤ pos → pos + left.length ≤ 40000 → Row false 0 Hh w a left → ISt w R B s →
  Calls Try.prog 29 #[.pointer (some ⟨R, 0, none⟩), .slice a left.length cap, .int .i64 dep, .int .i64 pos] w fun e w' => e = endR (rdAll n left dep pos s).2 ∧ ISt w' R B (rdAll n left dep pos s).1 ∧ Fr R B w w'

set_option maxHeartbeats 1600000 in
theorem one_cont (n Hh R B b o m : Nat) (bx : List Int) (dep p : Int) (s : RS) (w : World) (hih : RdAllC (dep + 1)) (hm : bx.length = m + 8) (hn : m < n) (hl2 : bx.length ≤ 40000) (hp0 : 0 ≤ p) (hp1 : p + 8 + m ≤ 40000) (hd0 : 0 ≤ dep) (hd1 : dep ≤ 100) (hHR : Hh ≤ R) (hHB : Hh ≤ B) (hr : Row false 0 Hh w (some ⟨b, o, none⟩) bx) (hst : ISt w R B s)
    (hH : holds (kindOf bx) = true) (hK : kindOk (kindOf bx) = true) (h200 : s.l.length < 200) :
    Calls Try.prog 37 #[.pointer (some ⟨R, 0, none⟩), .slice (some ⟨b, o, none⟩) (m + 8) (m + 8), .int .i64 dep, .int .i64 p] w fun e w' => e = endR (rdAll n (bx.drop 8) (dep + 1) (p + 8) ⟨s.l ++ [⟨kindOf bx, dep, []⟩], s.n⟩).2 ∧ ISt w' R B (rdAll n (bx.drop 8) (dep + 1) (p + 8) ⟨s.l ++ [⟨kindOf bx, dep, []⟩], s.n⟩).1 ∧ Fr R B w w' := by
  obtain ⟨v, L, c0, c1, f0, f1, hown, hL, hRB, hBw, h2, n0, n1, hoff, hnz⟩ := hst
  obtain ⟨i0, hi, hz0, hz1, hz2⟩ := info_parts info38
  have hks : (kindOf bx).size ≤ maxLen := by have := kindOf_size bx; unfold maxLen; omega
  have hksz : 0 < (kindOf bx).size := by rw [kindOk_size hK]; omega
  have hdl : Hid ((bx.drop 8).length = m) := hide (by simp; omega)
  have hko := kindOf_any b o bx.length bx Hh w (by omega) hl2 (Nat.le_refl _) (by omega) hr
  rw [hm] at hko
  have hko' := hide hko
  have hm40 : m ≤ 40000 := by omega
  have hr' := hide hr
  have hown' := hide hown
  have hoff' := hide hoff
  have hnz' := hide hnz
  have hbw : R < w.heap.size := by omega
  have hLl : Hid (L.length = s.l.length) := hide (by rw [← hL]; simp)
  have hL' := hide hL
  have hm' := hide hm
  clear hr hown hL hko hm hl2 hoff hnz
  by_cases hm0 : m = 0
  · subst hm0
    go_enter Try.func37, Try.ntmps37
    go_wp2_with fail
    refine (unhide hko').mono ?_
    rintro e w1 ⟨rfl, rfl⟩
    go_wp2_with fail
    refine (cont_any (kindOf bx) true _ hksz hks hH).mono ?_
    rintro e w1 ⟨rfl, rfl⟩
    have hown3 := hide ((unhide hown').below ((Below.refl _ _).alloc (Nat.le_refl _) (.cells #[.string (kindOf bx), .int .i64 dep, .slice none 0 0] 42)))
    go_wp2_with (at_builtin; refine wpList_append_lies _ rfl _ _ 25 rfl B 42 i0 _ 3 48 Try.underlying25 hi hz0 hz1 hz2 rfl (by decide) v L.length (flatL L) rfl ?k0 ⟨w1.heap.size, 0, none⟩ 1 1 [.string (kindOf bx), .int .i64 dep, .slice none 0 0] rfl rfl ?k1 ?k2 (by decide) ?k3 ?k4 ?k5 (w1.heap.size + 1) (by simp) ?_)
    case k0 => exact (unhide hown3).1
    case k1 => exact World.news_of_block (heap_alloc_new _ _)
    case k2 => intro u hu; simp at hu; rcases hu with rfl | rfl | rfl <;> rfl
    case k3 => have := unhide hLl; unfold maxLen; omega
    case k4 => have := unhide hLl; omega
    case k5 => simp; omega
    intro g cap w3 hown4 hgrow hat hlt
    have hgp : GoodP (w1.alloc (.cells #[.string (kindOf bx), .int .i64 dep, .slice none 0 0] 42)) B v (⟨kindOf bx, dep, []⟩, (none, 0)) :=
      ⟨Row.nil, hks, by show _ ≤ dep; omega, by show dep ≤ _; omega, Nat.le_refl _, Nat.zero_le _, fun y hy => by cases hy⟩
    have hoff3 := hide (Off.snoc (n := L.length + 1) (cap := cap) (p := (⟨kindOf bx, dep, []⟩, (none, 0))) (unhide hoff') hat (by omega) (fun y hy => by cases hy))
    have hfin := hide (OwnL.snoc (p := (⟨kindOf bx, dep, []⟩, (none, 0))) (unhide hown3) hgp (fun q hq x y _ hy => by cases hy) hown4 hgrow (by simpa using hat))
    have hRv : v.ownBlock ≠ some R := (unhide hoff').1
    have hcR : ∀ i, w3.cell? ⟨R, i, none⟩ = w1.cell? ⟨R, i, none⟩ := fun i => by
      rw [World.cell?_of_block (a := ⟨R, i, none⟩) (hgrow.block R (by simp; omega) (Ne.symm hRv)), World.cell?_alloc_past _ _ _ (by omega)]
    have hfR : ∀ i, w3.frozen? ⟨R, i, none⟩ = w1.frozen? ⟨R, i, none⟩ := fun i => by
      rw [World.frozen?_of_block (a := ⟨R, i, none⟩) (hgrow.block R (by simp; omega) (Ne.symm hRv)), World.frozen?_of_block (a := ⟨R, i, none⟩) (Below.heap_alloc _ _ _ (by omega))]
    have y0 : w3.cell? ⟨R, 0, none⟩ = some v := by rw [hcR]; exact c0
    have y1 : w3.cell? ⟨R, 1, none⟩ = some (.int .i64 s.n) := by rw [hcR]; exact c1
    have z0 : w3.frozen? ⟨R, 0, none⟩ = false := by rw [hfR]; exact f0
    have z1 : w3.frozen? ⟨R, 1, none⟩ = false := by rw [hfR]; exact f1
    have hFr : Fr R B w1 w3 := by
      refine Fr.of ?_
      refine ((Below.refl B _).alloc (by omega) _).grown hgrow (by simp; omega) (fun k hk => ?_)
      exact ((unhide hown').1.lt _ hk).1
    have hB3 : B ≤ w3.heap.size := by have := hFr.size; omega
    have hR3 : R < w3.heap.size := by have := hFr.size; omega
    have hFr' := hide hFr
    have hst3 : Hid (ISt (w3.setCell ⟨R, 0, none⟩ (.slice (some ⟨g, 0, none⟩) (L.length + 1) cap)) R B ⟨s.l ++ [⟨kindOf bx, dep, []⟩], s.n⟩) := hide (by
      refine ⟨_, _, World.cell?_setCell_same _ _ _ y0, ?_, by rw [World.frozen?_setCell]; exact z0, by rw [World.frozen?_setCell]; exact z1, (unhide hfin).setOff (unhide hoff3) 0 _, ?_, by simp; omega, by simp; omega, ?_, n0, n1, unhide hoff3, (unhide hnz').snoc (fun _ => rfl)⟩
      · rw [World.cell?_setCell_other _ _ _ _ (ne_addr (by decide))]; exact y1
      · rw [List.map_append, unhide hL']; rfl
      · show (s.l ++ [_]).length ≤ 200
        simp; omega)
    have hrow3 : Hid (Row false 0 Hh (w3.setCell ⟨R, 0, none⟩ (.slice (some ⟨g, 0, none⟩) (L.length + 1) cap)) (some ⟨b, o, none⟩) (bx.drop 8)) := hide (by
      have hFs := (unhide hFr').set 0 (.slice (some ⟨g, 0, none⟩) (L.length + 1) cap)
      have e0 : bx.drop 8 = [] := List.eq_nil_of_length_eq_zero (unhide hdl)
      rw [e0]; exact Row.nil)
    have hcall := hide (hih n (bx.drop 8) (some ⟨b, o, none⟩) 0 Hh R B (p + 8) _ _ hHR hHB (by rw [unhide hdl]; omega) (by rw [unhide hdl]; omega) (by rw [unhide hdl]; exact Nat.le_refl _) (by omega) (by omega) (by rw [unhide hdl]; omega) (unhide hrow3) (unhide hst3))
    clear hcR hfR hgp hown4 hgrow hat hFr
    go_wp2_with fail
    have hcall2 := unhide hcall
    rw [unhide hdl] at hcall2
    refine hcall2.mono ?_
    rintro e w4 ⟨he, hst4, hFr4⟩
    have hFrF := hide (((unhide hFr').set 0 (.slice (some ⟨g, 0, none⟩) (L.length + 1) cap)).trans hFr4)
    have hst4' := hide hst4
    clear hst4 hFr4 hcall hcall2
    cases hf : (rdAll n (bx.drop 8) (dep + 1) (p + 8) ⟨s.l ++ [⟨kindOf bx, dep, []⟩], s.n⟩).2 with
    | none =>
      rw [hf] at he
      have he2 : e = .returned (.tuple #[]) := he
      subst he2
      go_wp2
      exact bodyPost_ret (v := .tuple #[]) (by simp [results, Try.results37, go_sem]) rfl ⟨by rw [hf]; rfl, unhide hst4', unhide hFrF⟩
    | some f =>
      rw [hf] at he
      have he2 : e = gave f.1 f.2 := he
      subst he2
      exact ⟨rfl, by rw [hf]; rfl, unhide hst4', unhide hFrF⟩

  · have hmp : 0 < m := by omega
    clear hm0
    go_enter Try.func37, Try.ntmps37
    go_wp2_with fail
    refine (unhide hko').mono ?_
    rintro e w1 ⟨rfl, rfl⟩
    go_wp2_with fail
    refine (cont_any (kindOf bx) true _ hksz hks hH).mono ?_
    rintro e w1 ⟨rfl, rfl⟩
    have hown3 := hide ((unhide hown').below ((Below.refl _ _).alloc (Nat.le_refl _) (.cells #[.string (kindOf bx), .int .i64 dep, .slice none 0 0] 42)))
    go_wp2_with (at_builtin; refine wpList_append_lies _ rfl _ _ 25 rfl B 42 i0 _ 3 48 Try.underlying25 hi hz0 hz1 hz2 rfl (by decide) v L.length (flatL L) rfl ?k0 ⟨w1.heap.size, 0, none⟩ 1 1 [.string (kindOf bx), .int .i64 dep, .slice none 0 0] rfl rfl ?k1 ?k2 (by decide) ?k3 ?k4 ?k5 (w1.heap.size + 1) (by simp) ?_)
    case k0 => exact (unhide hown3).1
    case k1 => exact World.news_of_block (heap_alloc_new _ _)
    case k2 => intro u hu; simp at hu; rcases hu with rfl | rfl | rfl <;> rfl
    case k3 => have := unhide hLl; unfold maxLen; omega
    case k4 => have := unhide hLl; omega
    case k5 => simp; omega
    intro g cap w3 hown4 hgrow hat hlt
    have hgp : GoodP (w1.alloc (.cells #[.string (kindOf bx), .int .i64 dep, .slice none 0 0] 42)) B v (⟨kindOf bx, dep, []⟩, (none, 0)) :=
      ⟨Row.nil, hks, by show _ ≤ dep; omega, by show dep ≤ _; omega, Nat.le_refl _, Nat.zero_le _, fun y hy => by cases hy⟩
    have hoff3 := hide (Off.snoc (n := L.length + 1) (cap := cap) (p := (⟨kindOf bx, dep, []⟩, (none, 0))) (unhide hoff') hat (by omega) (fun y hy => by cases hy))
    have hfin := hide (OwnL.snoc (p := (⟨kindOf bx, dep, []⟩, (none, 0))) (unhide hown3) hgp (fun q hq x y _ hy => by cases hy) hown4 hgrow (by simpa using hat))
    have hRv : v.ownBlock ≠ some R := (unhide hoff').1
    have hcR : ∀ i, w3.cell? ⟨R, i, none⟩ = w1.cell? ⟨R, i, none⟩ := fun i => by
      rw [World.cell?_of_block (a := ⟨R, i, none⟩) (hgrow.block R (by simp; omega) (Ne.symm hRv)), World.cell?_alloc_past _ _ _ (by omega)]
    have hfR : ∀ i, w3.frozen? ⟨R, i, none⟩ = w1.frozen? ⟨R, i, none⟩ := fun i => by
      rw [World.frozen?_of_block (a := ⟨R, i, none⟩) (hgrow.block R (by simp; omega) (Ne.symm hRv)), World.frozen?_of_block (a := ⟨R, i, none⟩) (Below.heap_alloc _ _ _ (by omega))]
    have y0 : w3.cell? ⟨R, 0, none⟩ = some v := by rw [hcR]; exact c0
    have y1 : w3.cell? ⟨R, 1, none⟩ = some (.int .i64 s.n) := by rw [hcR]; exact c1
    have z0 : w3.frozen? ⟨R, 0, none⟩ = false := by rw [hfR]; exact f0
    have z1 : w3.frozen? ⟨R, 1, none⟩ = false := by rw [hfR]; exact f1
    have hFr : Fr R B w1 w3 := by
      refine Fr.of ?_
      refine ((Below.refl B _).alloc (by omega) _).grown hgrow (by simp; omega) (fun k hk => ?_)
      exact ((unhide hown').1.lt _ hk).1
    have hB3 : B ≤ w3.heap.size := by have := hFr.size; omega
    have hR3 : R < w3.heap.size := by have := hFr.size; omega
    have hFr' := hide hFr
    have hst3 : Hid (ISt (w3.setCell ⟨R, 0, none⟩ (.slice (some ⟨g, 0, none⟩) (L.length + 1) cap)) R B ⟨s.l ++ [⟨kindOf bx, dep, []⟩], s.n⟩) := hide (by
      refine ⟨_, _, World.cell?_setCell_same _ _ _ y0, ?_, by rw [World.frozen?_setCell]; exact z0, by rw [World.frozen?_setCell]; exact z1, (unhide hfin).setOff (unhide hoff3) 0 _, ?_, by simp; omega, by simp; omega, ?_, n0, n1, unhide hoff3, (unhide hnz').snoc (fun _ => rfl)⟩
      · rw [World.cell?_setCell_other _ _ _ _ (ne_addr (by decide))]; exact y1
      · rw [List.map_append, unhide hL']; rfl
      · show (s.l ++ [_]).length ≤ 200
        simp; omega)
    have hrow3 : Hid (Row false 0 Hh (w3.setCell ⟨R, 0, none⟩ (.slice (some ⟨g, 0, none⟩) (L.length + 1) cap)) (some ⟨b, o + 8, none⟩) (bx.drop 8)) := hide (by
      have hFs := (unhide hFr').set 0 (.slice (some ⟨g, 0, none⟩) (L.length + 1) cap)
      exact ((unhide hr').drop 8).fr hFs hHR hHB)
    have hcall := hide (hih n (bx.drop 8) (some ⟨b, o + 8, none⟩) m Hh R B (p + 8) _ _ hHR hHB (by rw [unhide hdl]; omega) (by rw [unhide hdl]; omega) (by rw [unhide hdl]; exact Nat.le_refl _) (by omega) (by omega) (by rw [unhide hdl]; omega) (unhide hrow3) (unhide hst3))
    clear hcR hfR hgp hown4 hgrow hat hFr
    go_wp2_with fail
    have hcall2 := unhide hcall
    rw [unhide hdl] at hcall2
    refine hcall2.mono ?_
    rintro e w4 ⟨he, hst4, hFr4⟩
    have hFrF := hide (((unhide hFr').set 0 (.slice (some ⟨g, 0, none⟩) (L.length + 1) cap)).trans hFr4)
    have hst4' := hide hst4
    clear hst4 hFr4 hcall hcall2
    cases hf : (rdAll n (bx.drop 8) (dep + 1) (p + 8) ⟨s.l ++ [⟨kindOf bx, dep, []⟩], s.n⟩).2 with
    | none =>
      rw [hf] at he
      have he2 : e = .returned (.tuple #[]) := he
      subst he2
      go_wp2
      exact bodyPost_ret (v := .tuple #[]) (by simp [results, Try.results37, go_sem]) rfl ⟨by rw [hf]; rfl, unhide hst4', unhide hFrF⟩
    | some f =>
      rw [hf] at he
      have he2 : e = gave f.1 f.2 := he
      subst he2
      exact ⟨rfl, by rw [hf]; rfl, unhide hst4', unhide hFrF⟩


theorem kindOf_take {left : List Int} {k : Nat} (h : 8 ≤ k) : kindOf (left.take k) = kindOf left := by
  unfold kindOf
  rw [List.drop_take, List.take_take]
  congr 2
  omega
theorem head_of_parts {left : List Int} {dep : Int} {s : RS} {m : Nat} (h1 : siz left = ((m + 8 : Nat) : Int)) (h2 : m + 8 ≤ left.length) :
    headFault left dep s = limN (left.take (m + 8)) dep s.l.length s.n := by
  have hl : (left.take (m + 8)).length = m + 8 := by simp; omega
  unfold headFault limN
  rw [if_neg (by omega), if_neg (by omega), kindOf_take (by omega), hl]
  by_cases e1 : kindOk (kindOf left) = false
  · rw [if_pos e1, if_pos e1]
  · rw [if_neg e1, if_neg e1]
    by_cases e2 : 8 < dep
    · rw [if_pos e2, if_pos e2]
    · rw [if_neg e2, if_neg e2]
      by_cases e3 : s.l.length = 200
      · rw [if_pos (.inl e3), if_pos (by omega)]
      · rw [if_neg (show ¬ ((s.l.length : Int) = 200) by omega)]
        by_cases e4 : holds (kindOf left) = false ∧ 20000 < s.n + siz left - 8
        · rw [if_pos (.inr e4), if_pos ⟨e4.1, by have := e4.2; rw [h1] at this; exact this⟩]
        · rw [if_neg (by rintro (h | h); exact e3 h; exact e4 h), if_neg (fun h => e4 ⟨h.1, by rw [h1]; exact h.2⟩)]
theorem siz_pos {left : List Int} (h : 8 ≤ siz left) : ∃ m : Nat, siz left = ((m + 8 : Nat) : Int) := ⟨(siz left - 8).toNat, by omega⟩

set_option maxRecDepth 100000 in
set_option maxHeartbeats 3200000 in
theorem all_step (dep : Int) (hd0 : 0 ≤ dep) (hd1 : dep ≤ 9) (hih : dep ≤ 8 → RdAllC (dep + 1)) : RdAllC dep := by
  intro n left a cap Hh R B pos s w hHR hHB hn hl40 hlc hc2 hp0 hp1 hr hst
  have hr' := hide hr
  have hst' := hide hst
  have hih' := hide hih
  have hlim0 := hide (show left.length < n ∧ pos + left.length ≤ 40000 from ⟨hn, hp1⟩)
  clear hr hst hih hn hp1
  generalize hres : rdAll n left dep pos s = res
  have hres' := hide hres
  clear hres
  go_enter Try.func29, Try.ntmps29
  go_wp2
  go_loopw [1, 3] (fun t1 t3 wr => ∃ (n' : Nat) (left' : List Int) (a' : Option Addr) (cap' : Nat) (pos' : Int) (s' : RS), t1 = .slice a' left'.length cap' ∧ t3 = .int .i64 pos' ∧ left'.length ≤ 40000 ∧ left'.length ≤ cap' ∧ cap' ≤ 9223372036854775807 ∧ 0 ≤ pos' ∧ pos' ≤ 40000 ∧ Hid (left'.length < n' ∧ pos' + left'.length ≤ 40000 ∧ rdAll n' left' dep pos' s' = res ∧ Row false 0 Hh wr a' left' ∧ ISt wr R B s') ∧ Fr R B w wr) (fun t1 _ _ => match t1 with | .slice _ l _ => l | _ => 0)
  case atStart => exact ⟨n, left, a, cap, pos, s, rfl, rfl, hl40, hlc, hc2, hp0, by have := (unhide hlim0).2; omega, hide ⟨(unhide hlim0).1, (unhide hlim0).2, unhide hres', unhide hr', unhide hst'⟩, Fr.refl _ _ _⟩
  case round =>
    clear hr' hst' hres' hlim0 hl40 hlc hc2 hp0
    obtain ⟨n, left, a, cap, pos, s, rfl, rfl, hl40, hlc, hc2, hp0, hp4, hall, hFr⟩ := hrel
    obtain ⟨hn, hp1, hres, hr, hst⟩ := unhide hall
    clear hall
    have hFr' := hide hFr
    clear hFr
    by_cases hpos : 0 < left.length
    · obtain ⟨z, hz⟩ : ∃ z, left[0]? = some z := ⟨left[0], List.getElem?_eq_getElem hpos⟩
      obtain ⟨b, o, rfl, _, _, _⟩ := hr 0 z hz
      have hhead := hide (head_any b o cap left pos Hh wr hl40 hlc hc2 hr)
      obtain ⟨n, rfl⟩ : ∃ n', n = n' + 1 := ⟨n - 1, by omega⟩
      have hposi : decide (0 < (left.length : Int)) = true := decide_eq_true (by omega)
      clear hz
      by_cases h8 : left.length < 8
      · have hf := hf2 (dep := dep) (s := s) h8
        have hrd := rd_fault (n := n) (pos := pos) hpos (by rw [hf]; decide)
        rw [hf, hres] at hrd
        have he : headE left pos = gave 2 pos := by unfold headE; rw [if_pos h8]
        have hrd' := hide hrd
        have hst' := hide hst
        clear hf hrd hst hres hr h8 hn hp1
        go_wp2_with fail
        refine (unhide hhead).mono ?_
        rintro e w1 ⟨rfl, rfl⟩
        rw [he]
        exact ⟨rfl, by rw [unhide hrd']; rfl, by rw [unhide hrd']; exact unhide hst', unhide hFr'⟩
      · by_cases hs : siz left < 8 ∨ (left.length : Int) < siz left
        · have hf := hf3 (dep := dep) (s := s) (by omega) hs
          have hrd := rd_fault (n := n) (pos := pos) hpos (by rw [hf]; decide)
          rw [hf, hres] at hrd
          have he : headE left pos = gave 3 pos := by unfold headE; rw [if_neg h8, if_pos hs]
          have hrd' := hide hrd
          have hst' := hide hst
          clear hf hrd hst hres hr h8 hs hn hp1
          go_wp2_with fail
          refine (unhide hhead).mono ?_
          rintro e w1 ⟨rfl, rfl⟩
          rw [he]
          exact ⟨rfl, by rw [unhide hrd']; rfl, by rw [unhide hrd']; exact unhide hst', unhide hFr'⟩
        · obtain ⟨m, hm⟩ := siz_pos (left := left) (by omega)
          have hmle : m + 8 ≤ left.length := by omega
          have he : headE left pos = .returned (.int .i64 ((m : Int) + 8)) := by unfold headE; rw [if_neg h8, if_neg hs, hm]; simp
          have htl : (left.take (m + 8)).length = m + 8 := by simp; omega
          have hhf := head_of_parts (dep := dep) (s := s) hm hmle
          obtain ⟨v, L, c0, c1, f0, f1, hown, hL, hRB, hBw, h2, n0, n1, hoff, hnz⟩ := hst
          have hst : ISt wr R B s := ⟨v, L, c0, c1, f0, f1, hown, hL, hRB, hBw, h2, n0, n1, hoff, hnz⟩
          obtain ⟨av, capv, hv, _⟩ := hown.bxs
          have hLl : L.length = s.l.length := by rw [← hL]; simp
          rw [hv, hLl] at c0
          have hbxr := hr.take (m + 8)
          have hlimc := lim_any R b o (left.take (m + 8)).length (left.take (m + 8)) dep pos s.n s.l.length av capv Hh wr (by omega) (by omega) (Nat.le_refl _) (by omega) hbxr c0 c1 h2 n0 n1
          rw [htl] at hlimc
          have hlimc' := hide hlimc
          have hm40 : m + 8 ≤ 40000 := by omega
          have hcm : m + 8 ≤ cap := by omega
          have hst' := hide hst
          have hr' := hide hr
          have hbxr' := hide hbxr
          have hsz' := hide hm
          have htl' := hide htl
          have hres' := hide hres
          have hhf' := hide hhf
          have hn' := hide (show left.length < n + 1 ∧ pos + left.length ≤ 40000 from ⟨hn, hp1⟩)
          clear hst hr hbxr hlimc c0 c1 f0 f1 hown hL hoff hnz hv htl hs hres hhf hn hp1 hm
          by_cases hl0 : limN (left.take (m + 8)) dep s.l.length s.n = 0
          · have hlE : limE (left.take (m + 8)) dep s.l.length s.n pos = .returned (.tuple #[]) := limE_ok hl0
            have hf0 : headFault left dep s = 0 := by rw [unhide hhf']; exact hl0
            obtain ⟨g1, g2, g3, hK, gd, g200, gdat⟩ := head_ok hf0
            have hkt : kindOf (left.take (m + 8)) = kindOf left := kindOf_take (by omega)
            have hin : (left.take (m + 8)).drop 8 = inner left := by unfold inner; rw [unhide hsz']; rfl
            have hrl : (rest left).length = left.length - (m + 8) := by have := rest_len g2 g3; rw [unhide hsz'] at this; omega
            have hrst : left.drop (m + 8) = rest left := by unfold rest; rw [unhide hsz']; rfl
            cases hH : holds (kindOf left)
            · have hone := one_leaf Hh R B b o m (left.take (m + 8)) dep pos s wr (unhide htl') (by rw [unhide htl']; exact hm40) hd0 (by omega) hHR hHB (unhide hbxr') (unhide hst') (by rw [hkt]; exact hH) (by rw [hkt]; exact hK) (by omega) (by rcases gdat with h | h; rw [hH] at h; cases h; rw [unhide hsz'] at h; omega)
              rw [hkt, hin] at hone
              have hresN : Hid (rdAll n (rest left) dep (pos + ((m : Int) + 8)) ⟨s.l ++ [⟨kindOf left, dep, inner left⟩], s.n + m⟩ = res) := hide (by
                rw [← unhide hres', rd_leaf hpos hf0 hH, unhide hsz']
                congr 2
                omega)
              have hone := hide hone
              clear hl0 hf0 g1 g2 g3 gdat hkt hin
              go_wp2_with fail
              refine (unhide hhead).mono ?_
              rintro e w1 ⟨rfl, rfl⟩
              rw [he]
              go_wp2_with fail
              refine (unhide hlimc').mono ?_
              rintro e w1 ⟨rfl, rfl⟩
              rw [hlE]
              go_wp2_with fail
              refine (unhide hone).mono ?_
              rintro e w2 ⟨rfl, hst2, hF2⟩
              have hrow2 := (unhide hr').fr hF2 hHR hHB
              have hFrF := hide ((unhide hFr').trans hF2)
              have hst2' := hide hst2
              have hrest2 : Row false 0 Hh w2 (some ⟨b, o + (m + 8), none⟩) (rest left) := by rw [← hrst]; exact hrow2.drop (m + 8)
              have hrest' := hide hrest2
              have hRL := hide (show (rest left).length < n ∧ pos + ((m : Int) + 8) + (rest left).length ≤ 40000 ∧ (rest left).length ≤ 40000 ∧ 0 ≤ pos + ((m : Int) + 8) ∧ pos + ((m : Int) + 8) ≤ 40000 ∧ (rest left).length ≤ cap - (m + 8) from by have := unhide hn'; rw [hrl]; omega)
              have hrl' := hide hrl
              have hnil : Hid (cap = m + 8 → rest left = []) := hide (fun e => List.eq_nil_of_length_eq_zero (by rw [hrl]; omega))
              clear hst2 hF2 hrow2 hrest2 hrl hrst
              by_cases hce : cap = m + 8
              · have hce' := hide hce
                have hll : left.length = m + 8 := by omega
                go_wp2
                go_roundw
                case rel => exact ⟨n, rest left, some ⟨b, o, none⟩, 0, pos + ((m : Int) + 8), ⟨s.l ++ [⟨kindOf left, dep, inner left⟩], s.n + m⟩, by rw [unhide hnil (unhide hce')]; simp only [List.length_nil]; first | rfl | (congr 1 <;> omega), by first | rfl | go_num, (unhide hRL).2.2.1, by rw [unhide hnil (unhide hce')]; exact Nat.le_refl _, by omega, (unhide hRL).2.2.2.1, (unhide hRL).2.2.2.2.1, hide ⟨(unhide hRL).1, (unhide hRL).2.1, unhide hresN, by rw [unhide hnil (unhide hce')]; exact Row.nil, unhide hst2'⟩, unhide hFrF⟩
                case measure => simp; omega
              · have hcz : ¬ cap - (m + 8) = 0 := by omega
                go_wp2
                go_roundw
                case rel => exact ⟨n, rest left, some ⟨b, o + (m + 8), none⟩, cap - (m + 8), pos + ((m : Int) + 8), ⟨s.l ++ [⟨kindOf left, dep, inner left⟩], s.n + m⟩, by rw [unhide hrl'], by first | rfl | go_num, (unhide hRL).2.2.1, (unhide hRL).2.2.2.2.2, by omega, (unhide hRL).2.2.2.1, (unhide hRL).2.2.2.2.1, hide ⟨(unhide hRL).1, (unhide hRL).2.1, unhide hresN, unhide hrest', unhide hst2'⟩, unhide hFrF⟩
                case measure => simp; omega
            · have hone := one_cont n Hh R B b o m (left.take (m + 8)) dep pos s wr (unhide hih' gd) (unhide htl') (by have := unhide hn'; omega) (by rw [unhide htl']; exact hm40) hp0 (by have := unhide hn'; omega) hd0 (by omega) hHR hHB (unhide hbxr') (unhide hst') (by rw [hkt]; exact hH) (by rw [hkt]; exact hK) (by omega)
              rw [hkt, hin] at hone
              obtain ⟨r, hr2⟩ : ∃ r, rdAll n (inner left) (dep + 1) (pos + 8) ⟨s.l ++ [⟨kindOf left, dep, []⟩], s.n⟩ = r := ⟨_, rfl⟩
              rw [hr2] at hone
              have hone := hide hone
              clear hl0 g1 g2 g3 gdat hkt hin
              obtain ⟨s1, fo⟩ := r
              cases fo with
              | some f =>
                have hrd := rd_in_fault (n := n) (pos := pos) hpos hf0 hH hr2
                rw [unhide hres'] at hrd
                have hrd' := hide hrd
                clear hrd hr2 hf0
                go_wp2_with fail
                refine (unhide hhead).mono ?_
                rintro e w1 ⟨rfl, rfl⟩
                rw [he]
                go_wp2_with fail
                refine (unhide hlimc').mono ?_
                rintro e w1 ⟨rfl, rfl⟩
                rw [hlE]
                go_wp2_with fail
                refine (unhide hone).mono ?_
                rintro e w2 ⟨rfl, hst2, hF2⟩
                have hFrF := (unhide hFr').trans hF2
                exact ⟨rfl, by rw [unhide hrd']; rfl, by rw [unhide hrd']; exact hst2, hFrF⟩
              | none =>
                have hresN : Hid (rdAll n (rest left) dep (pos + ((m : Int) + 8)) s1 = res) := hide (by
                  rw [← unhide hres', rd_in_go hpos hf0 hH hr2, unhide hsz']; congr 1)
                clear hr2 hf0
                go_wp2_with fail
                refine (unhide hhead).mono ?_
                rintro e w1 ⟨rfl, rfl⟩
                rw [he]
                go_wp2_with fail
                refine (unhide hlimc').mono ?_
                rintro e w1 ⟨rfl, rfl⟩
                rw [hlE]
                go_wp2_with fail
                refine (unhide hone).mono ?_
                rintro e w2 ⟨he2, hst2, hF2⟩
                have he3 : e = .returned (.tuple #[]) := he2
                subst he3
                have hrow2 := (unhide hr').fr hF2 hHR hHB
                have hFrF := hide ((unhide hFr').trans hF2)
                have hst2' := hide hst2
                have hrest2 : Row false 0 Hh w2 (some ⟨b, o + (m + 8), none⟩) (rest left) := by rw [← hrst]; exact hrow2.drop (m + 8)
                have hrest' := hide hrest2
                have hRL := hide (show (rest left).length < n ∧ pos + ((m : Int) + 8) + (rest left).length ≤ 40000 ∧ (rest left).length ≤ 40000 ∧ 0 ≤ pos + ((m : Int) + 8) ∧ pos + ((m : Int) + 8) ≤ 40000 ∧ (rest left).length ≤ cap - (m + 8) from by have := unhide hn'; rw [hrl]; omega)
                have hrl' := hide hrl
                have hnil : Hid (cap = m + 8 → rest left = []) := hide (fun e => List.eq_nil_of_length_eq_zero (by rw [hrl]; omega))
                clear hst2 hF2 hrow2 hrest2 hrl hrst
                by_cases hce : cap = m + 8
                · have hce' := hide hce
                  have hll : left.length = m + 8 := by omega
                  go_wp2
                  go_roundw
                  case rel => exact ⟨n, rest left, some ⟨b, o, none⟩, 0, pos + ((m : Int) + 8), s1, by rw [unhide hnil (unhide hce')]; simp only [List.length_nil]; first | rfl | (congr 1 <;> omega), by first | rfl | go_num, (unhide hRL).2.2.1, by rw [unhide hnil (unhide hce')]; exact Nat.le_refl _, by omega, (unhide hRL).2.2.2.1, (unhide hRL).2.2.2.2.1, hide ⟨(unhide hRL).1, (unhide hRL).2.1, unhide hresN, by rw [unhide hnil (unhide hce')]; exact Row.nil, unhide hst2'⟩, unhide hFrF⟩
                  case measure => simp; omega
                · have hcz : ¬ cap - (m + 8) = 0 := by omega
                  go_wp2
                  go_roundw
                  case rel => exact ⟨n, rest left, some ⟨b, o + (m + 8), none⟩, cap - (m + 8), pos + ((m : Int) + 8), s1, by rw [unhide hrl'], by first | rfl | go_num, (unhide hRL).2.2.1, (unhide hRL).2.2.2.2.2, by omega, (unhide hRL).2.2.2.1, (unhide hRL).2.2.2.2.1, hide ⟨(unhide hRL).1, (unhide hRL).2.1, unhide hresN, unhide hrest', unhide hst2'⟩, unhide hFrF⟩
                  case measure => simp; omega
          · have hlE : limE (left.take (m + 8)) dep s.l.length s.n pos = gave (limN (left.take (m + 8)) dep s.l.length s.n) pos := limE_no rfl hl0
            have hrd := rd_fault (n := n) (pos := pos) hpos (by rw [unhide hhf']; exact hl0)
            rw [unhide hhf', unhide hres'] at hrd
            have hrd' := hide hrd
            clear hrd hl0
            go_wp2_with fail
            refine (unhide hhead).mono ?_
            rintro e w1 ⟨rfl, rfl⟩
            rw [he]
            go_wp2_with fail
            refine (unhide hlimc').mono ?_
            rintro e w1 ⟨rfl, rfl⟩
            rw [hlE]
            exact ⟨rfl, by rw [unhide hrd']; rfl, by rw [unhide hrd']; exact unhide hst', unhide hFr'⟩
    · have hnil : left = [] := List.eq_nil_of_length_eq_zero (by omega)
      have hposi : decide (0 < (left.length : Int)) = false := decide_eq_false (by omega)
      have hrd : res = (s, none) := by rw [← hres, hnil]; exact rd_nil
      have hrd' := hide hrd
      have hst' := hide hst
      clear hnil hrd hst hres hr hn hp1
      go_wp2
      exact ⟨rfl, .tuple #[], by simp [results, Try.results29, go_sem], by rw [unhide hrd']; rfl, by rw [unhide hrd']; exact unhide hst', unhide hFr'⟩
end Go.Proofs.Ytfdbnlmfnhhcbaa
