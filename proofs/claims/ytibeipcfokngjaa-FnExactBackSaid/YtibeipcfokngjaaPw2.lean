/-
  Contract of the program's Power: it gives a new list of the powers; nothing that was there is written.
-/
import Derived.Test.YtibeipcfokngjaaPw
namespace Go.Proofs.Ytibeipcfokngjaa
open Go.RowKit
set_option linter.unusedVariables false
set_option linter.unusedSimpArgs false

/-- the list as it stands: the first are there, nought behind them -/
def midF (L : List Nat) (n : Nat) : List Value := L.map fl ++ List.replicate (n - L.length) (fl 0)
theorem midF_set {L : List Nat} {n v : Nat} (h : L.length < n) : (midF L n).set L.length (fl v) = midF (L ++ [v]) n := by
  unfold midF
  rw [List.set_append_right _ _ (by simp)]
  have e : n - L.length = (n - (L.length + 1)) + 1 := by omega
  have e2 : L.length - (L.map fl).length = 0 := by simp
  rw [e2, e, List.replicate_succ]
  simp
theorem midF_own {w W2 : World} {B g n k v : Nat} {L : List Nat} (hL : L.length = k) (hk : k < n) (h : w.ownsRow B 22 1 (.slice (some ⟨g, 0, none⟩) n n) n (midF L n)) (hb : Below w.heap.size w W2) :
    (W2.setCell ⟨g, k, none⟩ (.float .f64 v)).ownsRow B 22 1 (.slice (some ⟨g, 0, none⟩) n n) n (midF (L ++ [v]) n) := by
  subst hL
  have h1 := ((ownsRow_below h hb).stored L.length (fl v)).1
  rw [midF_set hk] at h1
  exact h1
theorem midF_cell {w : World} {B g n k : Nat} {L : List Nat} (hL : L.length = k) (hk : k < n) (h : w.ownsRow B 22 1 (.slice (some ⟨g, 0, none⟩) n n) n (midF L n)) :
    w.cell? ⟨g, k, none⟩ = some (.float .f64 0) ∧ w.frozen? ⟨g, k, none⟩ = false := by
  refine ⟨?_, h.frozenAt k⟩
  subst hL
  rw [h.cellAt L.length (by omega)]
  unfold midF
  rw [List.getElem?_append_right (by simp)]
  have e : n - L.length = (n - (L.length + 1)) + 1 := by omega
  have e2 : L.length - (L.map fl).length = 0 := by simp
  rw [e2, e, List.replicate_succ]; rfl

set_option maxHeartbeats 1600000 in
theorem ipower_yes (a : Option Addr) (ca : Nat) (l : List (Nat × Nat)) (w : World) (hl : l.length ≤ 4096) (ha : Cxs false 0 w.heap.size w a l) :
    Calls Try.prog 26 #[.slice a l.length ca] w fun e w' => ∃ g cap L, e = .returned (.slice (some ⟨g, 0, none⟩) L.length cap) ∧ w.heap.size ≤ g ∧ w'.ownsRow w.heap.size 22 1 (.slice (some ⟨g, 0, none⟩) L.length cap) L.length (L.map fl) ∧ PwL l l.length L ∧ Below w.heap.size w w' := by
  have ha' := hide ha
  clear ha
  obtain ⟨i0, hi, hz0, hz1, hz2⟩ := info_parts info22
  have x2 : decide ((4096 : Int) < l.length) = false := by simp; omega
  go_enter Try.func26, Try.ntmps26
  go_wp2_with (refine wpList_make_full _ rfl _ _ 38 rfl w.heap.size 22 i0 (.float .f64 0) 1 Try.underlying38 hi hz0 hz1 .i64 .i64 _ _ l.length rfl rfl rfl rfl ?b2 ?b3 (Nat.le_refl _) ?_)
  case b2 => rw [hz2]; omega
  case b3 => unfold maxLen; omega
  intro w1 hown hg
  have hb1 : Below w.heap.size w w1 := (Below.refl _ _).grown hg (Nat.le_refl _) (fun k hk => by cases hk)
  have hown1 : Hid (w1.ownsRow w.heap.size 22 1 (.slice (some ⟨w.heap.size, 0, none⟩) l.length l.length) l.length (midF [] l.length)) := hide (by
    rw [toList_madeCells_one] at hown; simpa [fl, midF] using hown)
  have hb1' := hide hb1
  clear hown hg hb1
  go_wp2
  go_loopw [15] (fun t wr => ∃ (k : Nat) (L : List Nat), k ≤ l.length ∧ t = .int .i64 k ∧ Hid (wr.ownsRow w.heap.size 22 1 (.slice (some ⟨w.heap.size, 0, none⟩) l.length l.length) l.length (midF L l.length)) ∧ Hid (PwL l k L) ∧ Hid (Below w.heap.size w wr)) (fun t _ => l.length - (intOf t).toNat)
  case atStart => exact ⟨0, [], by omega, rfl, hown1, hide (PwL.nil l), hb1'⟩
  case round =>
    clear hown1 hb1'
    obtain ⟨k, L, hk, rfl, hown, hpw, hw⟩ := hrel
    by_cases hlt : k < l.length
    · obtain ⟨x, hx⟩ : ∃ x, l[k]? = some x := ⟨l[k], List.getElem?_eq_getElem hlt⟩
      have hstep : Hid (∀ p q v, Res .mul x.1 x.1 p → Res .mul x.2 x.2 q → Res .add p q v → PwL l (k + 1) (L ++ [v])) := hide fun p q v h1 h2 h3 => (unhide hpw).snoc hx ⟨p, q, h1, h2, h3⟩
      obtain ⟨b1, o1, rfl, _, i1, c0, c1, _⟩ := unhide ha' k x hx
      obtain ⟨x1, x2⟩ := x
      have d0 : wr.cell? ⟨b1, o1 + k * 2, none⟩ = some (.float .f64 x1) := by rw [(bcell (unhide hw)).1 _ _ i1]; exact c0
      have d1 : wr.cell? ⟨b1, o1 + k * 2 + 1, none⟩ = some (.float .f64 x2) := by rw [(bcell (unhide hw)).1 _ _ i1]; exact c1
      obtain ⟨m0, m1⟩ := midF_cell (unhide hpw).1 hlt (unhide hown)
      have hsz : w.heap.size < wr.heap.size := World.block_lt_of_cell? _ _ m0
      have hown2 : Hid (∀ v W2, Below wr.heap.size wr W2 → (W2.setCell ⟨w.heap.size, k, none⟩ (.float .f64 v)).ownsRow w.heap.size 22 1 (.slice (some ⟨w.heap.size, 0, none⟩) l.length l.length) l.length (midF (L ++ [v]) l.length)) := hide fun v W2 hb => midF_own (unhide hpw).1 hlt (unhide hown) hb
      clear hx c0 c1 hpw hown
      have hlt2 : (k : Int) < l.length := by omega
      go_wp2
      go_roundw
      case rel =>
        refine ⟨k + 1, _, by omega, by go_num, hide (unhide hown2 _ _ ?_), hide (unhide hstep _ _ _ (fv_res _ _ _ _) (fv_res _ _ _ _) (fv_res _ _ _ _)), hide (Below.setCell ((unhide hw).trans (Below.mono ?_ (unhide hw).size)) (Nat.le_refl _) _)⟩
        · repeat first | exact Below.refl _ _ | refine Below.setCell ?_ (by simp <;> omega) _ | refine Below.alloc ?_ (by simp <;> omega) _ | refine below_drewN ?_ _
        · repeat first | exact Below.refl _ _ | refine Below.setCell ?_ (by simp <;> omega) _ | refine Below.alloc ?_ (by simp <;> omega) _ | refine below_drewN ?_ _
      case measure => simp [intOf]; omega
    · have hke : k = l.length := by omega
      have hlt2 : ¬ (k : Int) < l.length := by omega
      have hfin : Hid (PwL l l.length L) := hide (by have := unhide hpw; rw [hke] at this; exact this)
      have hLk := hide (unhide hfin).1
      clear hpw
      go_wp2
      go_ret
      refine ⟨w.heap.size, l.length, L, ?_, Nat.le_refl _, ?_, unhide hfin, unhide hw⟩
      · rw [unhide hLk]; rfl
      · have := unhide hown
        unfold midF at this
        rw [unhide hLk] at this ⊢
        simpa using this

set_option maxHeartbeats 800000 in
theorem ipower_no (a : Option Addr) (ca : Nat) (l : List (Nat × Nat)) (w : World) (hl : ¬ l.length ≤ 4096) (hm : l.length ≤ 1048576) :
    Calls Try.prog 26 #[.slice a l.length ca] w fun e w' => ∃ g cap, e = .returned (.slice (some ⟨g, 0, none⟩) 0 cap) ∧ w.heap.size ≤ g ∧ w'.ownsRow w.heap.size 22 1 (.slice (some ⟨g, 0, none⟩) 0 cap) 0 [] ∧ Below w.heap.size w w' := by
  have x2 : decide ((4096 : Int) < l.length) = true := by simp; omega
  have hown0 := hide (World.ownsRow_lit (base := w.heap.size) (e := 22) (size := 1) w #[] 0 (Nat.le_refl _) (by unfold maxLen; omega) rfl)
  go_enter Try.func26, Try.ntmps26
  go_wp2
  go_ret
  exact ⟨_, _, rfl, Nat.le_refl _, unhide hown0, (Below.refl _ _).alloc (Nat.le_refl _) _⟩

theorem ipower_any (a : Option Addr) (ca : Nat) (l : List (Nat × Nat)) (w : World) (hm : l.length ≤ 1048576) (ha : Cxs false 0 w.heap.size w a l) :
    Calls Try.prog 26 #[.slice a l.length ca] w fun e w' => ∃ g cap L, e = .returned (.slice (some ⟨g, 0, none⟩) L.length cap) ∧ w.heap.size ≤ g ∧ w'.ownsRow w.heap.size 22 1 (.slice (some ⟨g, 0, none⟩) L.length cap) L.length (L.map fl) ∧ PwV l L ∧ Below w.heap.size w w' := by
  by_cases hl : l.length ≤ 4096
  · exact (ipower_yes a ca l w hl ha).mono fun e w' ⟨g, cap, L, h1, h2, h3, h4, h5⟩ => ⟨g, cap, L, h1, h2, h3, .inl ⟨hl, h4⟩, h5⟩
  · exact (ipower_no a ca l w hl hm).mono fun e w' ⟨g, cap, h1, h2, h3, h5⟩ => ⟨g, cap, [], h1, h2, h3, .inr ⟨hl, rfl⟩, h5⟩

end Go.Proofs.Ytibeipcfokngjaa
