/-
  Contracts of Pan, the model's and the program's: a new list, twice as long; nothing that was there is written.
-/
import Derived.Test.YtdemcjppokhonaaLf
import Derived.Deep.RegionLaw
namespace Go.Proofs.Ytdemcjppokhonaa
open Go.RowKit
set_option linter.unusedVariables false
set_option linter.unusedSimpArgs false

theorem step_fl2 {ops : Array Oper} {o : Oper} {a : Act} {K : Act → World → Prop} {Q : Exit → Act → World → Prop} {E' : Prop} (w : World) (N : Nat) (hgd : o.guard = none) (s x : Operand) (ho : o.op = .call { callee := .builtin .append, args := #[s, x], argTypes := #[24, 24] })
    (B g n cap : Nat) (L : List Nat) (u v : Nat) (hs : a.eval s = .slice (some ⟨g, 0, none⟩) n cap) (hown : w.ownsRow B 25 1 (.slice (some ⟨g, 0, none⟩) n cap) n (L.map fl)) (hx : a.eval x = .slice (some ⟨w.heap.size, 0, none⟩) 2 2)
    (hl : n ≤ 1000000) (hB : B ≤ w.heap.size)
    (h : ∀ g' cap' w', w'.ownsRow B 25 1 (.slice (some ⟨g', 0, none⟩) (n + 2) cap') (n + 2) ((L ++ [u, v]).map fl) → Below B w w' → B ≤ g' → K (a.put o.dst (.slice (some ⟨g', 0, none⟩) (n + 2) cap')) w') :
    if Region.wanted o (yielded ops a.tmps) = true then Oper.wp Try.prog o a ((w.drewN N).alloc (.cells #[.float .f64 u, .float .f64 v] 25)) K Q else E' := by
  obtain ⟨i0, hi, hz0, hz1, hz2⟩ := info_parts info22
  have hb : Below w.heap.size w ((w.drewN N).alloc (.cells #[.float .f64 u, .float .f64 v] 25)) := (below_drew N).alloc (Nat.le_refl _) _
  have hblk : ((w.drewN N).alloc (.cells #[.float .f64 u, .float .f64 v] 25)).heap[w.heap.size]? = some (.cells #[.float .f64 u, .float .f64 v] 25 (0, 0)) := heap_alloc_new (w.drewN N) _
  have hnews := World.news_of_block hblk
  have hsz := hb.size
  generalize (w.drewN N).alloc (.cells #[.float .f64 u, .float .f64 v] 25) = W at *
  have hown2 := ownsRow_below hown hb
  have hBg : B ≤ g := (hown.lt g rfl).1
  refine step_append_lies W hgd s x 24 ho B 25 i0 (.float .f64 0) 1 8 Try.underlying24 hi hz0 hz1 hz2 rfl (by decide) _ n (L.map fl) hs hown2 ⟨w.heap.size, 0, none⟩ 2 2 [fl u, fl v] hx rfl (by simpa [fl] using hnews) (by intro y hy; simp at hy; rcases hy with rfl | rfl <;> rfl) (by decide) (by unfold maxLen; omega) (by omega) (by omega) W.heap.size rfl ?_
  intro g' cap' w' h1 h2 h3 h4
  refine h g' cap' w' (by simpa using h1) ?_ (own_ge h1)
  exact (hb.mono hB).trans ((Below.refl _ _).grown h2 (by omega) (fun k hk => by simp [Value.ownBlock] at hk; omega))

/-- 1 -/
abbrev ONE : Nat := 4607182418800017408
def panE (l : List Nat) (at' j : Nat) : Nat := if j % 2 = 0 then nv .mul (nth l (j / 2)) (nv .sub ONE at') else nv .mul (nth l (j / 2)) at'
def panN (l : List Nat) : Nat := if l.length ≤ 2048 then 2 * l.length else 0
theorem Ls.snoc2 {f : Nat → Nat} {k u v : Nat} {L : List Nat} (h : Ls f (2 * k) L) (hu : Sm u (f (2 * k))) (hv : Sm v (f (2 * k + 1))) : Ls f (2 * (k + 1)) (L ++ [u, v]) := by
  have := (h.snoc hu).snoc hv
  rw [List.append_assoc] at this
  exact this
theorem pan_step {l : List Nat} {at' k x : Nat} {L : List Nat} (h : Ls (panE l at') (2 * k) L) (hx : l[k]? = some x) (u v : Nat) (hu : Sm u (nv .mul x (nv .sub ONE at'))) (hv : Sm v (nv .mul x at')) : Ls (panE l at') (2 * (k + 1)) (L ++ [u, v]) := by
  refine h.snoc2 ?_ ?_
  · unfold panE
    rw [if_pos (by omega), show 2 * k / 2 = k by omega, nth_of hx]; exact hu
  · unfold panE
    rw [if_neg (by omega), show (2 * k + 1) / 2 = k by omega, nth_of hx]; exact hv
theorem re_map2 {w : World} {B n u v : Nat} {V : Value} {L : List Nat} (h : Hid (w.ownsRow B 25 1 V n (L.map fl ++ [fl u, fl v]))) : Hid (w.ownsRow B 25 1 V n ((L ++ [u, v]).map fl)) := hide (by rw [List.map_append]; exact unhide h)

set_option maxHeartbeats 1600000 in
theorem ipan_any (a : Option Addr) (ca : Nat) (l : List Nat) (at' : Nat) (w : World) (ha : Fls false 0 w.heap.size w a l) :
    Calls Try.prog 26 #[.slice a l.length ca, .float .f64 at'] w (Ans (panE l at') (panN l) w) := by
  have ha' := hide ha
  clear ha
  by_cases hl : l.length ≤ 2048
  · have hN : panN l = 2 * l.length := by unfold panN; rw [if_pos hl]
    rw [hN]
    clear hN
    obtain ⟨i0, hi, hz0, hz1, hz2⟩ := info_parts info22
    have x2 : decide ((2048 : Int) < l.length) = false := by simp; omega
    go_enter Try.func26, Try.ntmps26
    go_wp2_with (refine wpList_make_own _ rfl _ _ 24 rfl w.heap.size 25 i0 (.float .f64 0) 1 Try.underlying24 hi hz0 hz1 .i64 .i64 _ (2 * l.length) rfl rfl (by simp [go_sem]; try omega) ?b2 ?b3 (Nat.le_refl _) ?_)
    case b2 => rw [hz2]; omega
    case b3 => unfold maxLen; omega
    intro w1 hown hg
    have hb1' := hide (show Below w.heap.size w w1 from Below.grown (below_drew _) hg (Nat.le_refl _) (fun k hk => by cases hk))
    have hown1 : Hid (w1.ownsRow w.heap.size 25 1 (.slice (some ⟨w.heap.size, 0, none⟩) 0 (2 * l.length)) 0 (([] : List Nat).map fl)) := hide (by simpa using hown)
    have hr := hide (show Sm (fv .sub ONE at' w) (nv .sub ONE at') from fv_nv)
    generalize fv .sub ONE at' w = r at *
    clear hown hg
    go_wp2
    go_loopw [6, 21] (fun s t wr => ∃ (k g cap : Nat) (L : List Nat), k ≤ l.length ∧ t = .int .i64 k ∧ s = .slice (some ⟨g, 0, none⟩) (2 * k) cap ∧ w.heap.size ≤ g ∧ Hid (wr.ownsRow w.heap.size 25 1 (.slice (some ⟨g, 0, none⟩) (2 * k) cap) (2 * k) (L.map fl)) ∧ Hid (Ls (panE l at') (2 * k) L) ∧ Hid (Below w.heap.size w wr)) (fun _ t _ => l.length - (intOf t).toNat)
    case atStart => exact ⟨0, w.heap.size, 2 * l.length, [], by omega, rfl, rfl, Nat.le_refl _, hown1, hide (Ls.nil _), hb1'⟩
    case round =>
      clear hown1 hb1'
      obtain ⟨k, g, cap, L, hk, rfl, rfl, hg, hown, hpw, hw⟩ := hrel
      by_cases hlt : k < l.length
      · obtain ⟨x, hx⟩ : ∃ x, l[k]? = some x := ⟨l[k], List.getElem?_eq_getElem hlt⟩
        have hstep := hide (pan_step (unhide hpw) hx)
        obtain ⟨b1, o1, rfl, _, i1, c0, _⟩ := unhide ha' k x hx
        have d0 : wr.cell? ⟨b1, o1 + k, none⟩ = some (.float .f64 x) := by rw [(bcell (unhide hw)).1 _ _ i1]; exact c0
        have s4 := (unhide hw).size
        clear hx c0 hpw
        go_wp2_with (refine wpList_fl2 wr _ rfl _ _ rfl w.heap.size g (2 * k) cap L _ _ rfl (unhide hown) rfl (by omega) s4 ?_)
        intro g' cap' w' hown' hbel' hg'
        have hown2 := hide hown'
        have hw2 := hide ((unhide hw).trans hbel')
        have hL := hide (unhide hstep _ _ (fv_sm (w := wr) Sm.rfl (unhide hr)) (fv_nv (w := wr.drewN (fd .mul x r))))
        clear hown' hbel' hown hw hstep
        go_wp2
        go_roundw
        case rel => exact ⟨k + 1, g', cap', _, by omega, by go_num, rfl, hg', re_map2 hown2, hL, hw2⟩
        case measure => simp [intOf]; omega
      · have hke : k = l.length := by omega
        have hfin : Hid (Ls (panE l at') (2 * l.length) L) := hide (by have := unhide hpw; rw [hke] at this; exact this)
        clear hpw
        subst hke
        go_wp2
        go_ret
        exact Ans.mk hg (unhide hown) (unhide hfin) (unhide hw)
  · have hN : panN l = 0 := by unfold panN; rw [if_neg hl]
    rw [hN]
    clear hN
    by_cases hm : (2048 : Int) < l.length
    · have hown0 := hide (own_lit w).2
      go_enter Try.func26, Try.ntmps26
      go_wp2
      go_ret
      exact Ans.mk (Nat.le_refl _) (unhide hown0) (Ls.nil _) ((Below.refl _ _).alloc (Nat.le_refl _) _)
    · omega

set_option maxHeartbeats 1600000 in
theorem span_yes (a : Option Addr) (ca : Nat) (l : List Nat) (at' : Nat) (w : World) (hl : l.length ≤ 2048) (ha : Fls false 0 w.heap.size w a l) :
    Calls Try.prog 27 #[.slice a l.length ca, .float .f64 at'] w (Ans (panE l at') (2 * l.length) w) := by
  have ha' := hide ha
  clear ha
  have x2 : decide ((l.length : Int) ≤ 2048) = true := by simp; omega
  have hown0 := hide (own_lit w).2
  go_enter Try.func27, Try.ntmps27
  go_wp2
  go_loopw [5, 6] (fun s t wr => ∃ (k g cap : Nat) (L : List Nat), k ≤ l.length ∧ t = .int .i64 k ∧ s = .slice (some ⟨g, 0, none⟩) (2 * k) cap ∧ w.heap.size ≤ g ∧ Hid (wr.ownsRow w.heap.size 25 1 (.slice (some ⟨g, 0, none⟩) (2 * k) cap) (2 * k) (L.map fl)) ∧ Hid (Ls (panE l at') (2 * k) L) ∧ Hid (Below w.heap.size w wr)) (fun _ t _ => l.length - (intOf t).toNat)
  case atStart => exact ⟨0, w.heap.size, 0, [], by omega, rfl, rfl, Nat.le_refl _, hown0, hide (Ls.nil _), hide ((Below.refl _ _).alloc (Nat.le_refl _) _)⟩
  case round =>
    clear hown0
    obtain ⟨k, g, cap, L, hk, rfl, rfl, hg, hown, hpw, hw⟩ := hrel
    by_cases hlt : k < l.length
    · obtain ⟨x, hx⟩ : ∃ x, l[k]? = some x := ⟨l[k], List.getElem?_eq_getElem hlt⟩
      have hstep := hide (pan_step (unhide hpw) hx)
      obtain ⟨b1, o1, rfl, _, i1, c0, _⟩ := unhide ha' k x hx
      have d0 : wr.cell? ⟨b1, o1 + k, none⟩ = some (.float .f64 x) := by rw [(bcell (unhide hw)).1 _ _ i1]; exact c0
      have s4 := (unhide hw).size
      have hlt2 : (k : Int) < l.length := by omega
      clear hx c0 hpw
      go_wp2_with fail
      go_region_law (refine step_fl2 wr _ (by rfl) _ _ (by rfl) w.heap.size g (2 * k) cap L _ _ (by rfl) (unhide hown) (by rfl) (by omega) s4 ?_; intro g' cap' w' hown' hbel' hg')
      all_goals (
        have hown2 := hide hown'
        have hw2 := hide ((unhide hw).trans hbel')
        clear hown' hbel' hown hw
        go_wp2
        go_roundw
        case rel => exact ⟨k + 1, g', cap', _, by omega, by go_num, rfl, hg', hown2, hide (unhide hstep _ _ (fv_sm Sm.rfl fv_nv) fv_nv), hw2⟩
        case measure => simp [intOf]; omega)
    · have hke : k = l.length := by omega
      have hlt2 : ¬ (k : Int) < l.length := by omega
      have hfin : Hid (Ls (panE l at') (2 * l.length) L) := hide (by have := unhide hpw; rw [hke] at this; exact this)
      have hoN := hide (show wr.ownsRow w.heap.size 25 1 (.slice (some ⟨g, 0, none⟩) (2 * l.length) cap) (2 * l.length) (L.map fl) by have := unhide hown; rw [hke] at this; exact this)
      clear hpw hown
      subst hke
      go_wp2
      go_ret
      exact Ans.mk hg (unhide hoN) (unhide hfin) (unhide hw)

set_option maxHeartbeats 800000 in
theorem span_no (a : Option Addr) (ca : Nat) (l : List Nat) (at' : Nat) (w : World) (hl : ¬ l.length ≤ 2048) (f : Nat → Nat) :
    Calls Try.prog 27 #[.slice a l.length ca, .float .f64 at'] w (Ans f 0 w) := by
  have x1 : decide ((0 : Int) < l.length) = true := by simp; omega
  have x2 : decide ((l.length : Int) ≤ 2048) = false := by simp; omega
  have hown0 := hide (own_lit w).2
  go_enter Try.func27, Try.ntmps27
  go_wp2
  go_loopw [5, 6] (fun s t wr => t = .int .i64 0 ∧ s = .slice (some ⟨w.heap.size, 0, none⟩) 0 0 ∧ Hid (wr.ownsRow w.heap.size 25 1 (.slice (some ⟨w.heap.size, 0, none⟩) 0 0) 0 (([] : List Nat).map fl)) ∧ Hid (Below w.heap.size w wr)) (fun _ t _ => 0)
  case atStart => exact ⟨rfl, rfl, hown0, hide ((Below.refl _ _).alloc (Nat.le_refl _) _)⟩
  case round =>
    clear hown0
    obtain ⟨rfl, rfl, hown, hw⟩ := hrel
    go_wp2
    go_ret
    exact Ans.mk (Nat.le_refl _) (unhide hown) (Ls.nil _) (unhide hw)

theorem span_any (a : Option Addr) (ca : Nat) (l : List Nat) (at' : Nat) (w : World) (ha : Fls false 0 w.heap.size w a l) :
    Calls Try.prog 27 #[.slice a l.length ca, .float .f64 at'] w (Ans (panE l at') (panN l) w) := by
  unfold panN
  split
  · exact span_yes a ca l at' w (by assumption) ha
  · exact span_no a ca l at' w (by assumption) _
end Go.Proofs.Ytdemcjppokhonaa
