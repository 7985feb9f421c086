/-
  Plain: a picture that is moved and moved back; no program is named.
-/
import Derived.Test.YteabmbggljpmoaaMvP
namespace Go.Proofs.Yteabmbggljpmoaa
set_option linter.unusedVariables false
set_option linter.unusedSimpArgs false

theorem z4_pix : Pix Z4 := by decide
theorem mvAt_pix {w h : Int} {l : List Kl} {dx dy y x : Int} (hl : CsOk l) : Pix (mvAt w h l dx dy y x) := by
  unfold mvAt
  split
  · rw [List.getD_eq_getElem?_getD]
    cases hc : l[((y - dy) * w + (x - dx)).toNat]? with
    | none => exact z4_pix
    | some c => exact hl.at hc
  · exact z4_pix
theorem mv_ok {w h : Int} {l : List Kl} {dx dy : Int} (H : MvOk w h l dx dy) : MvOk w h (mvL w h l dx dy l.length) (-dx) (-dy) := by
  obtain ⟨⟨h1, h2, h3, h4⟩, h5, h6⟩ := H
  refine ⟨⟨h1, h2, by rw [mvL_len]; exact h3, ?_⟩, by unfold ByOk at *; omega, by unfold ByOk at *; omega⟩
  intro c hc
  unfold mvL at hc
  rw [List.mem_map] at hc
  obtain ⟨i, _, rfl⟩ := hc
  exact mvAt_pix h4
theorem mvL_at {w h : Int} {l : List Kl} {dx dy : Int} {n i : Nat} (hi : i < n) : (mvL w h l dx dy n)[i]? = some (mvAt w h l dx dy ((i : Int) / w) ((i : Int) % w)) := by
  unfold mvL
  rw [List.getElem?_map, List.getElem?_range hi]
  rfl
/-- what is wanted at a place -/
def wantAt (w h : Int) (l : List Kl) (dx dy y x : Int) (i : Nat) : Kl := if (0 ≤ x + dx ∧ x + dx < w) ∧ (0 ≤ y + dy ∧ y + dy < h) then l.getD i Z4 else Z4
theorem back_at {wn hn y x : Nat} {l : List Kl} {dx dy : Int} (hl : l.length = wn * hn) (hy : y < hn) (hx : x < wn) :
    (mvL wn hn (mvL wn hn l dx dy l.length) (-dx) (-dy) l.length)[y * wn + x]? = some (wantAt wn hn l dx dy y x (y * wn + x)) := by
  have hlt : y * wn + x < l.length := by rw [hl]; exact (place_lt hy hx).1
  rw [mvL_at hlt, (at_yx hx).1, (at_yx hx).2]
  congr 1
  unfold wantAt
  by_cases hin : (0 ≤ (x : Int) + dx ∧ (x : Int) + dx < wn) ∧ (0 ≤ (y : Int) + dy ∧ (y : Int) + dy < hn)
  · rw [if_pos hin]
    have h1 : InAt wn hn (-dx) (-dy) y x := by unfold InAt; omega
    obtain ⟨Y, hY⟩ : ∃ Y : Nat, (y : Int) + dy = Y := ⟨((y : Int) + dy).toNat, by omega⟩
    obtain ⟨X, hX⟩ : ∃ X : Nat, (x : Int) + dx = X := ⟨((x : Int) + dx).toNat, by omega⟩
    have hYh : Y < hn := by omega
    have hXw : X < wn := by omega
    have hJ : ((y : Int) - -dy) * wn + ((x : Int) - -dx) = ((Y * wn + X : Nat) : Int) := by
      rw [show (y : Int) - -dy = Y by omega, show (x : Int) - -dx = X by omega, Int.natCast_add, Int.natCast_mul]
    have hJl : Y * wn + X < l.length := by rw [hl]; exact (place_lt hYh hXw).1
    refine mvAt_in h1 hJ ?_
    rw [mvL_at hJl, (at_yx hXw).1, (at_yx hXw).2]
    congr 1
    have h2 : InAt wn hn dx dy Y X := by unfold InAt; omega
    have hz : l[y * wn + x]? = some (l.getD (y * wn + x) Z4) := by rw [List.getD_eq_getElem?_getD, List.getElem?_eq_getElem hlt]; rfl
    exact mvAt_in h2 (by rw [show (Y : Int) - dy = y by omega, show (X : Int) - dx = x by omega, Int.natCast_add, Int.natCast_mul]) hz
  · rw [if_neg hin]
    exact mvAt_out (fun h => hin (by unfold InAt at h; omega))

end Go.Proofs.Yteabmbggljpmoaa
