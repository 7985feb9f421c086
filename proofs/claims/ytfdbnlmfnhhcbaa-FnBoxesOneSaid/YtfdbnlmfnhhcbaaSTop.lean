/-
  Contracts of the model's ReadBoxes and SaveBoxes: what they answer; nothing that was there is written.
-/
import Derived.Test.YtfdbnlmfnhhcbaaSRd
namespace Go.Proofs.Ytfdbnlmfnhhcbaa
open Go.RowKit
set_option linter.unusedVariables false
set_option linter.unusedSimpArgs false

theorem rd_codeT (n : Nat) : ∀ (left : List Int) (dep pos : Int) (s : RS) (f : Int × Int), (rdAll n left dep pos s).2 = some f → f.1 ≠ 0 := by
  induction n with
  | zero => intro left dep pos s f h; simp [rdAll] at h
  | succ n ih =>
    intro left dep pos s f h
    unfold rdAll at h
    split at h
    · cases h
    · split at h
      · rename_i hf
        injection h with h
        rw [← h]; exact hf
      · split at h
        · split at h
          · rename_i s1 f1 he
            have := ih (inner left) (dep + 1) (pos + 8) ⟨s.l ++ [⟨kindOf left, dep, []⟩], s.n⟩ f1 (by rw [he])
            injection h with h
            rw [← h]; exact this
          · exact ih _ _ _ _ f h
        · exact ih _ _ _ _ f h
/-- a reader newly made in a world -/
theorem new_sst (w : World) (src : Value) : SSt (w.alloc (.cells #[src, .slice none 0 0, .int .i64 0, .int .i64 0, .int .i64 0] 39)) w.heap.size (w.heap.size + 1) src ⟨[], 0⟩ 0 0 := by
  have hb := heap_alloc_new w (.cells #[src, .slice none 0 0, .int .i64 0, .int .i64 0, .int .i64 0] 39)
  refine ⟨.slice none 0 0, [], ?_, ?_, ?_, ?_, ?_, fun i => frozen_of_row _ _ _ _ _ hb, OwnL.nil (World.ownsRow_nil _ _ _ _), rfl, by simp, by simp, Nat.zero_le _, Int.le_refl _, by show (0 : Int) ≤ 20000; omega, ⟨by show (none : Option Nat) ≠ _; simp, fun p hp => by simp at hp⟩⟩
  all_goals rw [cell_of_row _ _ _ _ _ _ hb]; rfl
theorem seg_all (zs : List Int) : seg zs 0 zs.length = zs := by simp [seg]

set_option maxRecDepth 100000 in
set_option maxHeartbeats 1600000 in
theorem ssave_any (hsp : SpC 0) (a : Option Addr) (cap : Nat) (zs : List Int) (w : World) (hl : zs.length ≤ 100000000) (hlc : zs.length ≤ cap) (hc2 : cap ≤ 9223372036854775807) (hr : Row false 0 w.heap.size w a zs) :
    Calls Try.prog 12 #[.slice a zs.length cap] w fun e w' => ∃ v L, e = .returned v ∧ OwnL w' w.heap.size v L ∧ L.map (·.1) = (rdTop zs).1 ∧ Below w.heap.size w w' := by
  have hr' := hide hr
  have hsp' := hide hsp
  clear hr hsp
  by_cases hbig : (40000 : Int) < zs.length
  · have e0 : (rdTop zs).1 = [] := by unfold rdTop; rw [if_pos (by omega)]
    rw [e0]
    have hol := World.ownsRow_lit (base := w.heap.size) (e := 42) (size := 3) w #[] 0 (Nat.le_refl _) (by unfold maxLen; omega) rfl
    have hol' := hide hol
    clear hol e0
    go_enter Try.func12, Try.ntmps12
    go_wp2
    go_ret
    first | exact ⟨_, [], rfl, OwnL.nil (unhide hol'), rfl, (Below.refl _ _).alloc (Nat.le_refl _) _⟩ | exact ⟨_, rfl, [], OwnL.nil (unhide hol'), rfl, (Below.refl _ _).alloc (Nat.le_refl _) _⟩
  · have e0 : (rdTop zs).1 = (rdAll (zs.length + 1) zs 0 0 ⟨[], 0⟩).1.l := by unfold rdTop; rw [if_neg (by omega)]
    rw [e0]
    have hcall := unhide hsp' (zs.length + 1) 0 zs.length zs a cap w.heap.size w.heap.size (w.heap.size + 1) ⟨[], 0⟩ _ (Nat.zero_le _) (Nat.le_refl _) (by omega) hlc hc2 (by omega) (Nat.le_refl _) (by omega) ((unhide hr').below ((Below.refl _ _).alloc (Nat.le_refl _) _) (Nat.le_refl _)) (new_sst w (.slice a zs.length cap))
    rw [seg_all] at hcall
    have hcall' := hide hcall
    clear hcall e0
    go_enter Try.func12, Try.ntmps12
    go_wp2_with fail
    refine (unhide hcall').mono ?_
    rintro e w1 ⟨rfl, hst, hF⟩
    have hbel : Below w.heap.size w w1 := ((Below.refl w.heap.size w).alloc (Nat.le_refl _) _).trans (hF.below (Nat.le_refl _) (by omega))
    obtain ⟨v, L, c0, c1, c2, c3, c4, hfz, hown, hL, hR, hB, h2, n0, n1, hoff⟩ := hst
    obtain ⟨av, capv, hv, _⟩ := hown.bxs
    subst hv
    have hown' := hide hown
    have hL' := hide hL
    have hbel' := hide hbel
    clear hown hL hoff hbel hF c0 c2 c3 c4 n0 n1 h2
    go_wp2
    go_ret
    exact ⟨_, L, rfl, (unhide hown').mono (by omega), unhide hL', unhide hbel'⟩

set_option maxRecDepth 100000 in
set_option maxHeartbeats 1600000 in
theorem sread_any (hsp : SpC 0) (a : Option Addr) (cap : Nat) (zs : List Int) (w : World) (hl : zs.length ≤ 100000000) (hlc : zs.length ≤ cap) (hc2 : cap ≤ 9223372036854775807) (hr : Row false 0 w.heap.size w a zs) :
    Calls Try.prog 7 #[.slice a zs.length cap] w fun e w' => ∃ v L, e = .returned (.tuple #[v, .agg #[.int .i64 (rdTop zs).2.1, .int .i64 (rdTop zs).2.2]]) ∧ OwnL w' w.heap.size v L ∧ L.map (·.1) = rdBoxes zs ∧ Below w.heap.size w w' := by
  have hr' := hide hr
  have hsp' := hide hsp
  clear hr hsp
  by_cases hbig : (40000 : Int) < zs.length
  · have e0 : rdTop zs = ([], (1, 0)) := by unfold rdTop; rw [if_pos (by omega)]
    have e1 : rdBoxes zs = [] := by unfold rdBoxes; rw [e0]; rfl
    rw [e0, e1]
    clear e0 e1
    have hsz : (w.alloc (.cells #[.int .i64 1, .int .i64 0] 27)).heap.size = w.heap.size + 1 := by simp
    have hol := World.ownsRow_lit (base := w.heap.size) (e := 42) (size := 3) (w.alloc (.cells #[.int .i64 1, .int .i64 0] 27)) #[] 0 (by simp) (by unfold maxLen; omega) rfl
    rw [hsz] at hol
    have hol' := hide hol
    clear hol hsz
    go_enter Try.func7, Try.ntmps7
    go_wp2
    exact bodyPost_ret (v := .tuple #[.slice (some ⟨w.heap.size + 1, 0, none⟩) 0 0, .agg #[.int .i64 1, .int .i64 0]]) (by simp [results, Try.results7, go_sem]) rfl ⟨_, rfl, [], OwnL.nil (unhide hol'), rfl, ((Below.refl _ _).alloc (Nat.le_refl _) _).alloc (by simp) _⟩
  · have hl4 : zs.length ≤ 40000 := by omega
    have e0 : rdTop zs = ((rdAll (zs.length + 1) zs 0 0 ⟨[], 0⟩).1.l, (rdAll (zs.length + 1) zs 0 0 ⟨[], 0⟩).2.getD (0, 0)) := by unfold rdTop; rw [if_neg (by omega)]
    have e1 : rdBoxes zs = if (rdAll (zs.length + 1) zs 0 0 ⟨[], 0⟩).2.getD (0, 0) = (0, 0) then (rdAll (zs.length + 1) zs 0 0 ⟨[], 0⟩).1.l else [] := by unfold rdBoxes; rw [e0]
    rw [e0, e1]
    clear e0 e1
    have hn := new_sst (w.alloc (.cells #[.int .i64 0, .int .i64 0] 27)) (.slice a zs.length cap)
    have hsz : (w.alloc (.cells #[.int .i64 0, .int .i64 0] 27)).heap.size = w.heap.size + 1 := by simp
    rw [hsz] at hn
    have hbA : Below w.heap.size w ((w.alloc (.cells #[.int .i64 0, .int .i64 0] 27)).alloc (.cells #[.slice a zs.length cap, .slice none 0 0, .int .i64 0, .int .i64 0, .int .i64 0] 39)) := ((Below.refl _ _).alloc (Nat.le_refl _) _).alloc (by simp) _
    have hcall := unhide hsp' (zs.length + 1) 0 zs.length zs a cap w.heap.size (w.heap.size + 1) (w.heap.size + 1 + 1) ⟨[], 0⟩ _ (Nat.zero_le _) (Nat.le_refl _) (by omega) hlc hc2 (by omega) (by omega) (by omega) ((unhide hr').below hbA (Nat.le_refl _)) hn
    rw [seg_all] at hcall
    have hcode := rd_codeT (zs.length + 1) zs 0 0 ⟨[], 0⟩
    have hz0 : ((0 : Nat) : Int) = 0 := rfl
    rw [hz0] at hcall
    obtain ⟨res, hres⟩ : ∃ res, rdAll (zs.length + 1) zs 0 0 ⟨[], 0⟩ = res := ⟨_, rfl⟩
    rw [hres] at hcall hcode ⊢
    obtain ⟨lb, hlb⟩ : ∃ lb, (if res.2.getD (0, 0) = (0, 0) then res.1.l else ([] : List Bx)) = lb := ⟨_, rfl⟩
    rw [hlb]
    have hlb' := hide hlb
    clear hlb
    have hcall' := hide hcall
    have hcode' := hide hcode
    have hbA' := hide hbA
    clear hcall hres hn hsz hcode hbA hz0
    go_enter Try.func7, Try.ntmps7
    go_wp2_with fail
    refine (unhide hcall').mono ?_
    rintro e w1 ⟨rfl, hst, hF⟩
    have hbel : Below w.heap.size w w1 := (unhide hbA').trans (hF.below (by omega) (by omega))
    have hblk : w1.heap[w.heap.size]? = some (.cells #[.int .i64 0, .int .i64 0] 27) := by
      rw [hF.2.2.2.2 w.heap.size (by omega) (by omega), Below.heap_alloc _ _ _ (by simp), heap_alloc_new]
    have a0 : w1.cell? ⟨w.heap.size, 0, none⟩ = some (.int .i64 0) := by rw [cell_of_row _ _ _ _ _ _ hblk]; rfl
    have a1 : w1.cell? ⟨w.heap.size, 1, none⟩ = some (.int .i64 0) := by rw [cell_of_row _ _ _ _ _ _ hblk]; rfl
    have b0 : w1.frozen? ⟨w.heap.size, 0, none⟩ = false := frozen_of_row _ _ _ _ _ hblk
    have b1 : w1.frozen? ⟨w.heap.size, 1, none⟩ = false := frozen_of_row _ _ _ _ _ hblk
    obtain ⟨v, L, c0, c1, c2, c3, c4, hfz, hown, hL, hR, hB, h2, n0, n1, hoff⟩ := hst
    obtain ⟨av, capv, hv, _⟩ := hown.bxs
    subst hv
    have hown' := hide hown
    have hL' := hide hL
    have hbel' := hide hbel
    clear hown hL hoff hbel hF c0 c2 n0 n1 h2 hblk
    obtain ⟨s1, fo⟩ := res
    cases fo with
    | none =>
      have c3' : w1.cell? ⟨w.heap.size + 1, 3, none⟩ = some (.int .i64 0) := c3
      clear c3 c4
      go_wp2
      refine bodyPost_ret (v := .tuple #[.slice av L.length capv, .agg #[.int .i64 0, .int .i64 0]]) (by simp [results, Try.results7, go_sem, a0, a1]) rfl ⟨_, rfl, L, ?_, by rw [← unhide hlb']; exact unhide hL', ?_⟩
      · exact (((unhide hown').set (p := ⟨w.heap.size, 0, none⟩) (by show w.heap.size < _; omega) _).set (p := ⟨w.heap.size, 1, none⟩) (by show w.heap.size < _; omega) _).mono (by omega)
      · exact ((unhide hbel').setCell (Nat.le_refl _) _).setCell (Nat.le_refl _) _
    | some fv =>
      have hne : fv.1 ≠ 0 := unhide hcode' fv rfl
      have hnb : (fv.1 != 0) = true := by simpa using hne
      have hne2 : ¬ fv = (0, 0) := fun e => hne (by rw [e])
      have c3' : w1.cell? ⟨w.heap.size + 1, 3, none⟩ = some (.int .i64 fv.1) := c3
      have c4' : w1.cell? ⟨w.heap.size + 1, 4, none⟩ = some (.int .i64 fv.2) := c4
      have hz : w.heap.size < w1.heap.size := by omega
      have hz2 : w.heap.size + 1 < w1.heap.size := by omega
      have hneB : ¬ w.heap.size = w1.heap.size := by omega
      have hneC : ¬ w.heap.size + 1 = w1.heap.size := by omega
      have hif : (if ((some fv : Option (Int × Int)).getD (0, 0)) = (0, 0) then s1.l else ([] : List Bx)) = [] := by
        show (if fv = (0, 0) then s1.l else []) = []
        rw [if_neg hne2]
      have hif' : Hid (lb = []) := hide (by rw [← unhide hlb']; exact hif)
      clear c3 c4 hne hne2 hif
      go_wp2
      go_region
      go_wp2
      have hsz : ((w1.setCell ⟨w.heap.size, 0, none⟩ (.int .i64 fv.1)).setCell ⟨w.heap.size, 1, none⟩ (.int .i64 fv.2)).heap.size = w1.heap.size := by simp
      have hol := World.ownsRow_lit (base := w.heap.size) (e := 42) (size := 3) ((w1.setCell ⟨w.heap.size, 0, none⟩ (.int .i64 fv.1)).setCell ⟨w.heap.size, 1, none⟩ (.int .i64 fv.2)) #[] 0 (by simp; omega) (by unfold maxLen; omega) rfl
      rw [hsz] at hol
      have x0 : (((w1.setCell ⟨w.heap.size, 0, none⟩ (.int .i64 fv.1)).setCell ⟨w.heap.size, 1, none⟩ (.int .i64 fv.2)).alloc (.cells #[] 42)).drew.cell? ⟨w.heap.size, 0, none⟩ = some (.int .i64 fv.1) := by
        show (((w1.setCell ⟨w.heap.size, 0, none⟩ (.int .i64 fv.1)).setCell ⟨w.heap.size, 1, none⟩ (.int .i64 fv.2)).alloc (.cells #[] 42)).cell? _ = _
        rw [World.cell?_alloc_past _ _ _ (by simp; exact hz), World.cell?_setCell_other _ _ _ _ (ne_addr (by decide))]
        exact World.cell?_setCell_same _ _ _ a0
      have x1 : (((w1.setCell ⟨w.heap.size, 0, none⟩ (.int .i64 fv.1)).setCell ⟨w.heap.size, 1, none⟩ (.int .i64 fv.2)).alloc (.cells #[] 42)).drew.cell? ⟨w.heap.size, 1, none⟩ = some (.int .i64 fv.2) := by
        show (((w1.setCell ⟨w.heap.size, 0, none⟩ (.int .i64 fv.1)).setCell ⟨w.heap.size, 1, none⟩ (.int .i64 fv.2)).alloc (.cells #[] 42)).cell? _ = _
        rw [World.cell?_alloc_past _ _ _ (by simp; exact hz)]
        exact World.cell?_setCell_same _ _ _ (show _ = some (.int .i64 0) by rw [World.cell?_setCell_other _ _ _ _ (ne_addr (by decide))]; exact a1)
      refine bodyPost_ret (v := .tuple #[.slice (some ⟨w1.heap.size, 0, none⟩) 0 0, .agg #[.int .i64 fv.1, .int .i64 fv.2]]) (by simp [results, Try.results7, go_sem, x0, x1]) rfl ?_
      have hb2 : Below w.heap.size w (((w1.setCell ⟨w.heap.size, 0, none⟩ (.int .i64 fv.1)).setCell ⟨w.heap.size, 1, none⟩ (.int .i64 fv.2)).alloc (.cells #[] 42)).drew := ((((unhide hbel').setCell (Nat.le_refl _) _).setCell (Nat.le_refl _) _).alloc (by simp; omega) _).drew
      first
        | exact ⟨_, [], rfl, OwnL.nil hol.drew, (unhide hif').symm, hb2⟩
        | exact ⟨_, rfl, [], OwnL.nil hol.drew, (unhide hif').symm, hb2⟩
end Go.Proofs.Ytfdbnlmfnhhcbaa
