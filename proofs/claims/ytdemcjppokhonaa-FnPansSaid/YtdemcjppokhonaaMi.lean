/-
  Contract of the program's Mix: a new list, as long as the longer one; nothing that was there is written.
-/
import Derived.Test.YtdemcjppokhonaaMx
namespace Go.Proofs.Ytdemcjppokhonaa
open Go.RowKit
set_option linter.unusedVariables false
set_option linter.unusedSimpArgs false

/-- the first k are added to -/
def mxF (l m : List Nat) (ga gb k j : Nat) : Nat := if j < k then nv .add (nv .mul (nth l j) ga) (nv .mul (nth m j) gb) else nv .mul (nth l j) ga
theorem Ls.set {f f' : Nat → Nat} {n k v : Nat} {L : List Nat} (h : Ls f n L) (hv : Sm v (f' k)) (he : ∀ j, j ≠ k → f' j = f j) : Ls f' n (L.set k v) := by
  refine ⟨by rw [List.length_set]; exact h.1, ?_⟩
  intro j u hu
  by_cases e : j = k
  · subst e
    rw [List.getElem?_set] at hu
    split at hu
    · split at hu
      · injection hu with hu; subst hu; exact hv
      · cases hu
    · omega
  · rw [List.getElem?_set_ne (by omega)] at hu
    rw [he j e]; exact h.2 j u hu
theorem mx_step {l m : List Nat} {ga gb k n x y v : Nat} {L : List Nat} (h : Ls (mxF l m ga gb k) n L) (hx : Sm x (nv .mul (nth l k) ga)) (hy : Sm y (nv .mul (nth m k) gb)) (hv : ∀ x' y', Sm x x' → Sm y y' → Sm v (nv .add x' y')) : Ls (mxF l m ga gb (k + 1)) n (L.set k v) := by
  refine h.set ?_ ?_
  · unfold mxF; rw [if_pos (by omega)]; exact hv _ _ hx hy
  · intro j hj
    unfold mxF
    by_cases h1 : j < k
    · rw [if_pos h1, if_pos (by omega)]
    · rw [if_neg h1, if_neg (by omega)]
theorem own_setv {w : World} {B g n cap k v : Nat} {L : List Nat} (N : Nat) (h : w.ownsRow B 25 1 (.slice (some ⟨g, 0, none⟩) n cap) n (L.map fl)) : ((w.drewN N).setCell ⟨g, k, none⟩ (.float .f64 v)).ownsRow B 25 1 (.slice (some ⟨g, 0, none⟩) n cap) n ((L.set k v).map fl) := by
  have h1 := ((ownsRow_below h (below_drew N)).stored k (fl v)).1
  rw [List.map_set]
  exact h1
theorem own_seto {w : World} {B g g2 n2 cap2 k v : Nat} {M : List Nat} (N : Nat) (h : w.ownsRow B 25 1 (.slice (some ⟨g2, 0, none⟩) n2 cap2) n2 (M.map fl)) (hne : g2 ≠ g) : ((w.drewN N).setCell ⟨g, k, none⟩ (.float .f64 v)).ownsRow B 25 1 (.slice (some ⟨g2, 0, none⟩) n2 cap2) n2 (M.map fl) :=
  own_kept (ownsRow_below h (below_drew N)) (grown_set (grown_refl _ _)) hne

theorem re_mapL {w : World} {B n : Nat} {V : Value} {L M : List Nat} (h : w.ownsRow B 25 1 V n (L.map fl ++ M.map fl)) : w.ownsRow B 25 1 V n ((L ++ M).map fl) := by rw [List.map_append]; exact h
theorem mix_fin {l m : List Nat} {ga gb sh : Nat} {L O : List Nat} (hsh : sh = min l.length m.length) (h : Ls (mxF l m ga gb sh) l.length L) (hO : Ls (fun j => nv .mul (nth m j) gb) m.length O) : Ls (mixE l m ga gb) (max l.length m.length) (L ++ O.drop sh) := by
  have h1 : Ls (mixE l m ga gb) l.length L := h.congr fun j hj => by
    unfold mxF mixE
    by_cases e : j < sh
    · rw [if_pos e, if_neg (by omega), if_neg (by omega)]
    · rw [if_neg e, if_pos (by omega)]
  have h2 : Ls (fun j => mixE l m ga gb (l.length + j)) (m.length - sh) (O.drop sh) := by
    refine ⟨by rw [List.length_drop, hO.1], ?_⟩
    intro j v hv
    rw [List.getElem?_drop] at hv
    have hlt : sh + j < m.length := by have := (List.getElem?_eq_some_iff.1 hv).1; rw [hO.1] at this; exact this
    have hs : sh = l.length := by omega
    have := hO.2 _ _ hv
    show Sm v (mixE l m ga gb (l.length + j))
    unfold mixE
    rw [if_neg (by omega), if_pos (by omega), ← hs]
    exact this
  have := h1.app h2
  rw [show l.length + (m.length - sh) = max l.length m.length by omega] at this
  exact this

set_option maxHeartbeats 3200000 in
theorem imix_yes (a : Option Addr) (ca : Nat) (l : List Nat) (b : Option Addr) (cb : Nat) (m : List Nat) (ga gb : Nat) (w : World) (hl : l.length ≤ 4096) (hm : m.length ≤ 4096) (ha : Fls false 0 w.heap.size w a l) (hb : Fls false 0 w.heap.size w b m) :
    Calls Try.prog 14 #[.slice a l.length ca, .slice b m.length cb, .float .f64 ga, .float .f64 gb] w (Ans (mixE l m ga gb) (max l.length m.length) w) := by
  have ha' := hide ha
  have hb' := hide hb
  clear ha hb
  have c1 : Hid (∀ w, Calls Try.prog 38 #[.slice a l.length ca] w fun e w' => e = .returned (.bool true) ∧ w' = w) := hide fun w => by have := isnd_any a l.length ca w; rw [decide_eq_true hl] at this; exact this
  have c2 : Hid (∀ w, Calls Try.prog 38 #[.slice b m.length cb] w fun e w' => e = .returned (.bool true) ∧ w' = w) := hide fun w => by have := isnd_any b m.length cb w; rw [decide_eq_true hm] at this; exact this
  obtain ⟨sh, hsh⟩ : ∃ sh, min l.length m.length = sh := ⟨_, rfl⟩
  have hs1 : sh ≤ l.length := by omega
  have hs2 : sh ≤ m.length := by omega
  have hmin : min (l.length : Int) (m.length : Int) = (sh : Int) := by omega
  have hsh' := hide hsh
  clear hsh
  obtain ⟨N, hN⟩ : ∃ N, max l.length m.length = N := ⟨_, rfl⟩
  have hN' := hide hN
  rw [hN]
  clear hN
  go_enter Try.func14, Try.ntmps14
  go_wp2_with fail
  refine (unhide c1 _).mono ?_
  rintro e w0 ⟨rfl, hw0⟩
  have hw0 := hw0.symm
  subst hw0
  go_wp2_with fail
  refine (unhide c2 _).mono ?_
  rintro e w0 ⟨rfl, hw0⟩
  have hw0 := hw0.symm
  subst hw0
  clear c1 c2
  go_wp2_with fail
  refine (gain_any a ca l ga _ hl (unhide ha')).mono ?_
  rintro e w1 ⟨g1, p1, L1, rfl, q1, o1, v1, k1⟩
  have e1 := v1.1
  have v1' := hide v1
  have o1' := hide o1
  have b1' := hide k1
  clear v1 o1 k1
  go_wp2_with fail
  refine (gain_any b cb m gb _ hm (carry (unhide hb') (unhide b1'))).mono ?_
  rintro e w2 ⟨g2, p2, L2, rfl, q2, o2, v2, k2⟩
  have e2 := v2.1
  have g1lt := own_lt (unhide o1')
  have hne : g2 ≠ g1 := by omega
  have v2' := hide v2
  have o2' := hide (own_mono o2 (unhide b1').size)
  have o1' := hide (ownsRow_below (unhide o1') k2)
  have b2' := hide (laterB (unhide b1') k2)
  have hg2 : w.heap.size ≤ g2 := by have := (unhide b1').size; omega
  clear v2 o2 k2 b1' g1lt q2
  have o1s : Hid (w2.ownsRow w.heap.size 25 1 (.slice (some ⟨g1, 0, none⟩) l.length p1) l.length (L1.map fl)) := by rw [← e1]; exact o1'
  have o2s : Hid (w2.ownsRow w.heap.size 25 1 (.slice (some ⟨g2, 0, none⟩) m.length p2) m.length (L2.map fl)) := by rw [← e2]; exact o2'
  rw [e2]
  have e1' := hide e1
  have e2' := hide e2
  clear o1' o2' e1 e2
  have h0 := hide (show Ls (mxF l m ga gb 0) l.length L1 from (unhide v1').congr fun j _ => by unfold mxF; rw [if_neg (by omega)])
  clear v1'
  go_wp2
  go_loopw [34] (fun t wr => ∃ (k : Nat) (L : List Nat), k ≤ sh ∧ t = .int .i64 k ∧ Hid (wr.ownsRow w.heap.size 25 1 (.slice (some ⟨g1, 0, none⟩) l.length p1) l.length (L.map fl)) ∧ Hid (wr.ownsRow w.heap.size 25 1 (.slice (some ⟨g2, 0, none⟩) m.length p2) m.length (L2.map fl)) ∧ Hid (Ls (mxF l m ga gb k) l.length L) ∧ Hid (Below w.heap.size w wr)) (fun t _ => sh - (intOf t).toNat)
  case atStart => exact ⟨0, L1, by omega, rfl, o1s, o2s, h0, b2'⟩
  case round =>
    clear o1s o2s h0 b2'
    obtain ⟨k, L, hk, rfl, ho1, ho2, hL, hw⟩ := hrel
    by_cases hlt : k < sh
    · have hkl : k < l.length := by omega
      have hkm : k < m.length := by omega
      obtain ⟨x, hx, hxs⟩ := (unhide hL).at hkl
      obtain ⟨y, hy, hys⟩ := (unhide v2').at hkm
      have hxs' := hide (show Sm x (nv .mul (nth l k) ga) by unfold mxF at hxs; rw [if_neg (by omega)] at hxs; exact hxs)
      have hys' := hide hys
      obtain ⟨u1, z0, f0, hu1, _⟩ := own_at (i := k) (unhide ho1) (by omega)
      obtain ⟨u2, z2, f2, hu2, _⟩ := own_at (i := k) (unhide ho2) (by omega)
      rw [List.getElem?_map, hx] at hu1
      rw [List.getElem?_map, hy] at hu2
      have hu1 : fl x = u1 := by simpa using hu1
      have hu2 : fl y = u2 := by simpa using hu2
      have d0 : wr.cell? ⟨g1, k, none⟩ = some (.float .f64 x) := by rw [z0, ← hu1]; rfl
      have d2 : wr.cell? ⟨g2, k, none⟩ = some (.float .f64 y) := by rw [z2, ← hu2]; rfl
      clear hu1 hu2 hx hy hxs hys f2 z0 z2
      go_wp2_with fail
      go_region
      go_wp2
      go_roundw
      case rel => exact ⟨k + 1, _, by omega, by go_num, hide (own_setv _ (unhide ho1)), hide (own_seto _ (unhide ho2) hne), hide (mx_step (unhide hL) (unhide hxs') (unhide hys') (fun x' y' h1 h2 => fv_sm h1 h2)), hide (Below.setCell (below_drewN (unhide hw) _) q1 _)⟩
      case measure => simp [intOf]; omega
    · have hke : k = sh := by omega
      have hf := hide (show Ls (mixE l m ga gb) N (L ++ L2.drop sh) by
        rw [← unhide hN']
        exact mix_fin (unhide hsh').symm (by have := unhide hL; rw [hke] at this; exact this) (unhide v2'))
      have hs4 := (unhide hw).size
      have hM : (L2.drop sh).length = m.length - sh := by rw [List.length_drop, unhide e2']
      have hcell := hide (show ∀ j y, (L2.drop sh)[j]? = some y → wr.cell? ⟨g2, sh + j, none⟩ = some (.float .f64 y) by
        intro j y hy
        rw [List.getElem?_drop] at hy
        obtain ⟨b, o, hbo, _, _, hc, _⟩ := fls_of_own (unhide ho2) (sh + j) y hy
        injection hbo with hbo
        injection hbo with h1 h2
        subst h1 h2
        rw [Nat.zero_add] at hc
        exact hc)
      have hadd : l.length + (m.length - sh) = N := by rw [← unhide hN', ← unhide hsh']; omega
      have hN6 : N ≤ 1000000 := by rw [← unhide hN']; omega
      have hadd' := hide hadd
      clear hadd
      have hcap : m.length ≤ p2 := by
        obtain ⟨_, h2⟩ := unhide ho2
        rcases h2 with h2 | ⟨g', cap', cur, hv, hB, hh, r⟩
        · cases h2.1
        · injection hv with e1 e2 e3
          subst e3
          exact r.1
      have hM' := hide hM
      clear hM hL
      generalize L2.drop sh = R at *
      have hslt : decide ((sh : Int) < (sh : Int)) = false := decide_eq_false (by omega)
      subst hke
      by_cases hpk : p2 = k
      · go_wp2_with (refine wpList_flL wr rfl _ _ rfl w.heap.size g1 l.length p1 L R rfl (unhide ho1) g2 _ _ _ rfl (unhide hM') (fun j y h => by have := (List.getElem?_eq_some_iff.1 h).1; rw [unhide hM'] at this; omega) (by rw [unhide hadd']; exact hN6) hs4 ?_)
        intro g' cap' w' hown' hbel' hg'
        have hown2 := hide (show w'.ownsRow w.heap.size 25 1 (.slice (some ⟨g', 0, none⟩) N cap') N ((L ++ R).map fl) by
          refine re_mapL ?_
          have := hown'
          rw [unhide hadd'] at this; exact this)
        have hw2 := hide ((unhide hw).trans hbel')
        rw [unhide hadd']
        clear hown' hbel' ho1 ho2 hw hadd' hcell hM'
        go_wp2
        go_ret
        exact Ans.mk hg' (unhide hown2) (unhide hf) (unhide hw2)
      · go_wp2_with (refine wpList_flL wr rfl _ _ rfl w.heap.size g1 l.length p1 L R rfl (unhide ho1) g2 _ _ _ rfl (unhide hM') (unhide hcell) (by rw [unhide hadd']; exact hN6) hs4 ?_)
        intro g' cap' w' hown' hbel' hg'
        have hown2 := hide (show w'.ownsRow w.heap.size 25 1 (.slice (some ⟨g', 0, none⟩) N cap') N ((L ++ R).map fl) by
          refine re_mapL ?_
          have := hown'
          rw [unhide hadd'] at this; exact this)
        have hw2 := hide ((unhide hw).trans hbel')
        rw [unhide hadd']
        clear hown' hbel' ho1 ho2 hw hadd' hcell hM'
        go_wp2
        go_ret
        exact Ans.mk hg' (unhide hown2) (unhide hf) (unhide hw2)

set_option maxHeartbeats 800000 in
theorem imix_no (a : Option Addr) (ca : Nat) (l : List Nat) (b : Option Addr) (cb : Nat) (m : List Nat) (ga gb : Nat) (w : World) (h : ¬ (l.length ≤ 4096 ∧ m.length ≤ 4096)) (f : Nat → Nat) :
    Calls Try.prog 14 #[.slice a l.length ca, .slice b m.length cb, .float .f64 ga, .float .f64 gb] w (Ans f 0 w) := by
  have hown0 := hide (own_lit w).2
  by_cases hl : l.length ≤ 4096
  · have c1 : Hid (∀ w, Calls Try.prog 38 #[.slice a l.length ca] w fun e w' => e = .returned (.bool true) ∧ w' = w) := hide fun w => by have := isnd_any a l.length ca w; rw [decide_eq_true hl] at this; exact this
    have c2 : Hid (∀ w, Calls Try.prog 38 #[.slice b m.length cb] w fun e w' => e = .returned (.bool false) ∧ w' = w) := hide fun w => by have := isnd_any b m.length cb w; rw [decide_eq_false (show ¬ m.length ≤ 4096 from fun k => h ⟨hl, k⟩)] at this; exact this
    clear h
    go_enter Try.func14, Try.ntmps14
    go_wp2_with fail
    refine (unhide c1 _).mono ?_
    rintro e w0 ⟨rfl, hw0⟩
    have hw0 := hw0.symm
    subst hw0
    go_wp2_with fail
    refine (unhide c2 _).mono ?_
    rintro e w0 ⟨rfl, hw0⟩
    have hw0 := hw0.symm
    subst hw0
    clear c1 c2
    go_wp2
    go_ret
    exact Ans.mk (Nat.le_refl _) (unhide hown0) (Ls.nil _) ((Below.refl _ _).alloc (Nat.le_refl _) _)
  · have c1 : Hid (∀ w, Calls Try.prog 38 #[.slice a l.length ca] w fun e w' => e = .returned (.bool false) ∧ w' = w) := hide fun w => by have := isnd_any a l.length ca w; rw [decide_eq_false hl] at this; exact this
    clear h
    go_enter Try.func14, Try.ntmps14
    go_wp2_with fail
    refine (unhide c1 _).mono ?_
    rintro e w0 ⟨rfl, hw0⟩
    have hw0 := hw0.symm
    subst hw0
    clear c1
    go_wp2
    go_ret
    exact Ans.mk (Nat.le_refl _) (unhide hown0) (Ls.nil _) ((Below.refl _ _).alloc (Nat.le_refl _) _)

theorem imix_any (a : Option Addr) (ca : Nat) (l : List Nat) (b : Option Addr) (cb : Nat) (m : List Nat) (ga gb : Nat) (w : World) (ha : Fls false 0 w.heap.size w a l) (hb : Fls false 0 w.heap.size w b m) :
    Calls Try.prog 14 #[.slice a l.length ca, .slice b m.length cb, .float .f64 ga, .float .f64 gb] w (Ans (mixE l m ga gb) (mixN l m) w) := by
  unfold mixN
  split
  · exact imix_yes a ca l b cb m ga gb w (by omega) (by omega) ha hb
  · exact imix_no a ca l b cb m ga gb w (by assumption) _
end Go.Proofs.Ytdemcjppokhonaa
