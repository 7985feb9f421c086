/-
  Contract of the program's Back: a new list; nothing that was there is written.
-/
import Derived.Test.YtmhciigjjamjkaaWvU
namespace Go.Proofs.Ytmhciigjjamjkaa
open Go.RowKit
set_option linter.unusedVariables false
set_option linter.unusedSimpArgs false

theorem own_drew {w : World} {B n m : Nat} {e : TypeId} {v : Value} {xs : List Value} (h : w.ownsRow B e m v n xs) (N : Nat) : (w.drewN N).ownsRow B e m v n xs := ownsRow_below h (below_drew N)

set_option maxHeartbeats 1600000 in
theorem iback_any (a : Option Addr) (ca : Nat) (l : List (Nat × Nat)) (w : World) (hm : l.length ≤ 1048576) (ha : Cxs false 0 w.heap.size w a l) :
    Calls Try.prog 7 #[.slice a l.length ca] w fun e w' => ∃ g cap L, e = .returned (.slice (some ⟨g, 0, none⟩) L.length cap) ∧ w.heap.size ≤ g ∧ w'.ownsRow w.heap.size 28 2 (.slice (some ⟨g, 0, none⟩) L.length cap) L.length (flC L) ∧ WvV true l L ∧ Below w.heap.size w w' := by
  have ha' := hide ha
  clear ha
  go_enter Try.func7, Try.ntmps7
  go_wp2_with fail
  refine (tsum_any true a ca l _ hm (unhide ha')).mono ?_
  rintro e w1 ⟨L, rfl, h3, h4, h5⟩
  have hL := h4.len
  have h3' := hide h3
  have h4' := hide h4
  have h5' := hide h5
  clear h3 h4 h5
  go_wp2
  go_loopw [13] (fun t wr => ∃ (k : Nat) (M : List (Nat × Nat)), k ≤ L.length ∧ t = .int .i64 k ∧ Hid (wr.ownsRow w.heap.size 28 2 (.slice (some ⟨w.heap.size, 0, none⟩) L.length L.length) L.length (flC M)) ∧ Hid (Dv l L k M) ∧ Hid (Below w.heap.size w wr)) (fun t _ => L.length - (intOf t).toNat)
  case atStart => exact ⟨0, L, by omega, rfl, h3', hide (Dv.start l L), h5'⟩
  case round =>
    clear h3' h5'
    obtain ⟨k, M, hk, rfl, hown, hdv, hw⟩ := hrel
    by_cases hlt : k < L.length
    · have hlt2 : (k : Int) < L.length := by omega
      have hkM : k < M.length := by rw [(unhide hdv).1]; exact hlt
      obtain ⟨c0, c1, f0, f1⟩ := own_cells hkM (unhide hown)
      have hMk : M[k]? = some M[k] := List.getElem?_eq_getElem hkM
      have hLk : L[k]? = some M[k] := by rw [← (unhide hdv).2.2 k (Nat.le_refl _)]; exact hMk
      have hstep : Hid (∀ v1 v2, Res .quo M[k].1 (floatOfInt .f64 l.length) v1 → Res .quo M[k].2 (floatOfInt .f64 l.length) v2 → Dv l L (k + 1) (M.set k (v1, v2))) := hide fun v1 v2 h1 h2 => (unhide hdv).step hlt (by
        rcases unhide h4' with ⟨q1, q2⟩ | ⟨q1, q2⟩
        · exact ⟨M[k], q2.2 k _ hLk, by simp; exact ⟨h1, h2⟩⟩
        · rw [q2] at hlt; simp at hlt)
      have hnew : Hid (∀ v1 v2 A B, ((((wr.drewN A).setCell ⟨w.heap.size, k * 2, none⟩ (.float .f64 v1)).drewN B).setCell ⟨w.heap.size, k * 2 + 1, none⟩ (.float .f64 v2)).ownsRow w.heap.size 28 2 (.slice (some ⟨w.heap.size, 0, none⟩) L.length L.length) L.length (flC (M.set k (v1, v2)))) := hide fun v1 v2 A B => own_put (x := (v1, v2)) hkM (own_drew (own_drew (unhide hown) A) B)
      generalize M[k].1 = m1 at *
      generalize M[k].2 = m2 at *
      clear hMk hLk hown hdv
      go_wp2
      go_roundw
      case rel =>
        exact ⟨k + 1, _, by omega, by go_num, hide (unhide hnew _ _ _ _), hide (unhide hstep _ _ (fv_res _ _ _ _) (fv_res _ _ _ _)), hide ((below_drewN ((below_drewN (unhide hw) _).setCell (Nat.le_refl _) _) _).setCell (Nat.le_refl _) _)⟩
      case measure => simp [intOf]; omega
    · have hke : k = L.length := by omega
      have hlt2 : ¬ (k : Int) < L.length := by omega
      have hfin : Hid (Dv l L L.length M) := hide (by have := unhide hdv; rw [hke] at this; exact this)
      have hMn := hide (unhide hfin).1
      clear hdv hke
      go_wp2
      go_ret
      refine ⟨w.heap.size, L.length, M, ?_, Nat.le_refl _, ?_, (unhide hfin).wv (unhide h4'), unhide hw⟩
      · rw [unhide hMn]; rfl
      · rw [unhide hMn]; exact unhide hown

end Go.Proofs.Ytmhciigjjamjkaa
