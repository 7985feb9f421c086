/-
  Contracts of Mix, the model's and the program's: a new list, as long as the longer one; nothing that was there is written.
-/
import Derived.Test.YtdemcjppokhonaaKp
import Derived.Deep.RegionLaw
import Derived.Lib.MinMax
namespace Go.Proofs.Ytdemcjppokhonaa
open Go.RowKit
set_option linter.unusedVariables false
set_option linter.unusedSimpArgs false

def mixE (a b : List Nat) (ga gb j : Nat) : Nat := if b.length ≤ j then nv .mul (nth a j) ga else if a.length ≤ j then nv .mul (nth b j) gb else nv .add (nv .mul (nth a j) ga) (nv .mul (nth b j) gb)
def mixN (a b : List Nat) : Nat := if a.length ≤ 4096 ∧ b.length ≤ 4096 then max a.length b.length else 0
theorem mixN_le (a b : List Nat) : mixN a b ≤ 4096 := by unfold mixN; split <;> omega

theorem own_shape {w : World} {B n m : Nat} {e : TypeId} {v : Value} {xs : List Value} (h : w.ownsRow B e m v n xs) (hv : v ≠ .slice none 0 0) : ∃ g cap, v = .slice (some ⟨g, 0, none⟩) n cap ∧ B ≤ g := by
  obtain ⟨h1, h2⟩ := h
  rcases h2 with h2 | ⟨g, cap, cur, hh, hB, r⟩
  · exact absurd h2.1 hv
  · exact ⟨g, cap, hh, hB⟩
/-- a whole slice is put behind a row of its own -/
theorem wpList_flL {ops : Array Oper} {rest : List Oper} {o : Oper} {a : Act} {Q : Exit → Act → World → Prop} (w : World) (hgd : o.guard = none) (s x : Operand) (ho : o.op = .call { callee := .builtin .append, args := #[s, x], argTypes := #[24, 24] })
    (B g n cap : Nat) (L M : List Nat) (hs : a.eval s = .slice (some ⟨g, 0, none⟩) n cap) (hown : w.ownsRow B 25 1 (.slice (some ⟨g, 0, none⟩) n cap) n (L.map fl)) (E off m c : Nat) (hx : a.eval x = .slice (some ⟨E, off, none⟩) m c)
    (hM : M.length = m) (hcell : ∀ j y, M[j]? = some y → w.cell? ⟨E, off + j, none⟩ = some (.float .f64 y)) (hl : n + m ≤ 1000000) (hB : B ≤ w.heap.size)
    (h : ∀ g' cap' w', w'.ownsRow B 25 1 (.slice (some ⟨g', 0, none⟩) (n + m) cap') (n + m) ((L ++ M).map fl) → Below B w w' → B ≤ g' → wpList Try.prog ops Q rest (a.put o.dst (.slice (some ⟨g', 0, none⟩) (n + m) cap')) w') : wpList Try.prog ops Q (o :: rest) a w := by
  obtain ⟨i0, hi, hz0, hz1, hz2⟩ := info_parts info22
  have hBg : B ≤ g := (hown.lt g rfl).1
  refine wpList_append_own w hgd s x 24 ho B 25 i0 (.float .f64 0) 1 8 Try.underlying24 hi hz0 hz1 hz2 rfl (by decide) _ n (L.map fl) hs hown ⟨E, off, none⟩ m c (M.map fl) hx (by simpa using hM) ?_ (by intro y hy; simp at hy; obtain ⟨z, _, rfl⟩ := hy; rfl) (by unfold maxLen; omega) (by omega) hB ?_
  · intro j u hu
    rw [List.getElem?_map] at hu
    cases hy : M[j]? with
    | none => rw [hy] at hu; cases hu
    | some y =>
      rw [hy] at hu
      have hu2 : fl y = u := by simpa using hu
      rw [← hu2, Addr.add_lit]
      exact hcell j y hy
  · intro v' w' h1 h2 h3
    have hne : v' ≠ .slice none 0 0 := fun e => by have := (h3.1 e).1; injection this with e1; cases e1
    obtain ⟨g', cap', rfl, hg'⟩ := own_shape h1 hne
    refine h g' cap' w' (by rw [List.map_append]; exact h1) ?_ hg'
    exact (Below.refl _ _).grown h2 hB (fun k hk => by simp [Value.ownBlock] at hk; omega)

set_option maxHeartbeats 3200000 in
theorem smix_yes (a : Option Addr) (ca : Nat) (l : List Nat) (b : Option Addr) (cb : Nat) (m : List Nat) (ga gb : Nat) (w : World) (hl : l.length ≤ 4096) (hm : m.length ≤ 4096) (ha : Fls false 0 w.heap.size w a l) (hb : Fls false 0 w.heap.size w b m) :
    Calls Try.prog 15 #[.slice a l.length ca, .slice b m.length cb, .float .f64 ga, .float .f64 gb] w (Ans (mixE l m ga gb) (max l.length m.length) w) := by
  have ha' := hide ha
  have hb' := hide hb
  clear ha hb
  have c1 : Hid (∀ w, Calls Try.prog 40 #[.slice a l.length ca] w fun e w' => e = .returned (.bool true) ∧ w' = w) := hide fun w => by have := sok_any a l.length ca w; rw [decide_eq_true hl] at this; exact this
  have c2 : Hid (∀ w, Calls Try.prog 40 #[.slice b m.length cb] w fun e w' => e = .returned (.bool true) ∧ w' = w) := hide fun w => by have := sok_any b m.length cb w; rw [decide_eq_true hm] at this; exact this
  have hown0 := hide (own_lit w).2
  obtain ⟨N, hN⟩ : ∃ N, max l.length m.length = N := ⟨_, rfl⟩
  have hN1 : l.length ≤ N := by omega
  have hN2 : m.length ≤ N := by omega
  have hN3 : N ≤ 4096 := by omega
  have hN4 : N ≤ l.length ∨ N ≤ m.length := by omega
  rw [hN]
  clear hN
  go_enter Try.func15, Try.ntmps15
  go_wp2_with fail
  refine (unhide c1 _).mono ?_
  rintro e w0 ⟨rfl, rfl⟩
  go_wp2_with fail
  refine (unhide c2 _).mono ?_
  rintro e w0 ⟨rfl, rfl⟩
  clear c1 c2
  go_wp2
  go_loopw [9, 10] (fun s t wr => ∃ (k g cap : Nat) (L : List Nat), k ≤ N ∧ t = .int .i64 k ∧ s = .slice (some ⟨g, 0, none⟩) k cap ∧ w.heap.size ≤ g ∧ Hid (wr.ownsRow w.heap.size 25 1 (.slice (some ⟨g, 0, none⟩) k cap) k (L.map fl)) ∧ Hid (Ls (mixE l m ga gb) k L) ∧ Hid (Below w.heap.size w wr)) (fun _ t _ => N - (intOf t).toNat)
  case atStart => exact ⟨0, w.heap.size, 0, [], by omega, rfl, rfl, Nat.le_refl _, hown0, hide (Ls.nil _), hide ((Below.refl _ _).alloc (Nat.le_refl _) _)⟩
  case round =>
    clear hown0
    obtain ⟨k, g, cap, L, hk, rfl, rfl, hg, hown, hpw, hw⟩ := hrel
    have s4 := (unhide hw).size
    by_cases hkb : m.length ≤ k
    · by_cases hka : k < l.length
      · obtain ⟨x, hx⟩ : ∃ x, l[k]? = some x := ⟨l[k], List.getElem?_eq_getElem hka⟩
        have hstep : Hid (∀ v, Sm v (nv .mul x ga) → Ls (mixE l m ga gb) (k + 1) (L ++ [v])) := hide fun v h => (unhide hpw).snoc (by unfold mixE; rw [if_pos hkb, nth_of hx]; exact h)
        obtain ⟨b1, o1, rfl, _, i1, c0, _⟩ := unhide ha' k x hx
        have d0 : wr.cell? ⟨b1, o1 + k, none⟩ = some (.float .f64 x) := by rw [(bcell (unhide hw)).1 _ _ i1]; exact c0
        clear hx c0 hpw
        go_wp2_with (refine wpList_flN wr _ rfl _ _ rfl w.heap.size g k cap L _ rfl (unhide hown) rfl (by omega) s4 ?_)
        intro g' cap' w' hown' hbel' hg'
        have hown2 := hide hown'
        have hw2 := hide ((unhide hw).trans hbel')
        clear hown' hbel' hown hw
        go_wp2
        go_roundw
        case rel => exact ⟨k + 1, g', cap', _, by omega, by go_num, rfl, hg', re_map hown2, hide (unhide hstep _ fv_nv), hw2⟩
        case measure => simp [intOf]; omega
      · have hke : k = N := by omega
        have hfin : Hid (Ls (mixE l m ga gb) N L) := hide (by have := unhide hpw; rw [hke] at this; exact this)
        have hoN := hide (show wr.ownsRow w.heap.size 25 1 (.slice (some ⟨g, 0, none⟩) N cap) N (L.map fl) by have := unhide hown; rw [hke] at this; exact this)
        clear hpw hown
        subst hke
        go_wp2
        go_ret
        exact Ans.mk hg (unhide hoN) (unhide hfin) (unhide hw)
    · by_cases hka : k < l.length
      · obtain ⟨x, hx⟩ : ∃ x, l[k]? = some x := ⟨l[k], List.getElem?_eq_getElem hka⟩
        obtain ⟨y, hy⟩ : ∃ y, m[k]? = some y := ⟨m[k]'(by omega), List.getElem?_eq_getElem (by omega)⟩
        have hstep : Hid (∀ v, Sm v (nv .add (nv .mul x ga) (nv .mul y gb)) → Ls (mixE l m ga gb) (k + 1) (L ++ [v])) := hide fun v h => (unhide hpw).snoc (by unfold mixE; rw [if_neg hkb, if_neg (by omega), nth_of hx, nth_of hy]; exact h)
        obtain ⟨b1, o1, rfl, _, i1, c0, _⟩ := unhide ha' k x hx
        obtain ⟨b2, o2, rfl, _, i2, c2, _⟩ := unhide hb' k y hy
        have d0 : wr.cell? ⟨b1, o1 + k, none⟩ = some (.float .f64 x) := by rw [(bcell (unhide hw)).1 _ _ i1]; exact c0
        have d2 : wr.cell? ⟨b2, o2 + k, none⟩ = some (.float .f64 y) := by rw [(bcell (unhide hw)).1 _ _ i2]; exact c2
        have hkb2 : k < m.length := by omega
        clear hx hy c0 c2 hpw
        go_wp2_with (refine wpList_flN wr _ rfl _ _ rfl w.heap.size g k cap L _ rfl (unhide hown) rfl (by omega) s4 ?_)
        intro g' cap' w' hown' hbel' hg'
        have hown2 := hide hown'
        have hw2 := hide ((unhide hw).trans hbel')
        clear hown' hbel' hown hw
        go_wp2
        go_roundw
        case rel => exact ⟨k + 1, g', cap', _, by omega, by go_num, rfl, hg', re_map hown2, hide (unhide hstep _ (fv_sm fv_nv fv_nv)), hw2⟩
        case measure => simp [intOf]; omega
      · obtain ⟨y, hy⟩ : ∃ y, m[k]? = some y := ⟨m[k]'(by omega), List.getElem?_eq_getElem (by omega)⟩
        have hstep : Hid (∀ v, Sm v (nv .mul y gb) → Ls (mixE l m ga gb) (k + 1) (L ++ [v])) := hide fun v h => (unhide hpw).snoc (by unfold mixE; rw [if_neg hkb, if_pos (by omega), nth_of hy]; exact h)
        obtain ⟨b2, o2, rfl, _, i2, c2, _⟩ := unhide hb' k y hy
        have d2 : wr.cell? ⟨b2, o2 + k, none⟩ = some (.float .f64 y) := by rw [(bcell (unhide hw)).1 _ _ i2]; exact c2
        have hkb2 : k < m.length := by omega
        clear hy c2 hpw
        go_wp2_with (refine wpList_flN wr _ rfl _ _ rfl w.heap.size g k cap L _ rfl (unhide hown) rfl (by omega) s4 ?_)
        intro g' cap' w' hown' hbel' hg'
        have hown2 := hide hown'
        have hw2 := hide ((unhide hw).trans hbel')
        clear hown' hbel' hown hw
        go_wp2
        go_roundw
        case rel => exact ⟨k + 1, g', cap', _, by omega, by go_num, rfl, hg', re_map hown2, hide (unhide hstep _ fv_nv), hw2⟩
        case measure => simp [intOf]; omega

set_option maxHeartbeats 800000 in
theorem smix_no (a : Option Addr) (ca : Nat) (l : List Nat) (b : Option Addr) (cb : Nat) (m : List Nat) (ga gb : Nat) (w : World) (h : ¬ (l.length ≤ 4096 ∧ m.length ≤ 4096)) (f : Nat → Nat) :
    Calls Try.prog 15 #[.slice a l.length ca, .slice b m.length cb, .float .f64 ga, .float .f64 gb] w (Ans f 0 w) := by
  have hown0 := hide (own_lit w).2
  by_cases hl : l.length ≤ 4096
  · have c1 : Hid (∀ w, Calls Try.prog 40 #[.slice a l.length ca] w fun e w' => e = .returned (.bool true) ∧ w' = w) := hide fun w => by have := sok_any a l.length ca w; rw [decide_eq_true hl] at this; exact this
    have c2 : Hid (∀ w, Calls Try.prog 40 #[.slice b m.length cb] w fun e w' => e = .returned (.bool false) ∧ w' = w) := hide fun w => by have := sok_any b m.length cb w; rw [decide_eq_false (show ¬ m.length ≤ 4096 from fun k => h ⟨hl, k⟩)] at this; exact this
    clear h
    go_enter Try.func15, Try.ntmps15
    go_wp2_with fail
    refine (unhide c1 _).mono ?_
    rintro e w0 ⟨rfl, rfl⟩
    go_wp2_with fail
    refine (unhide c2 _).mono ?_
    rintro e w0 ⟨rfl, rfl⟩
    clear c1 c2
    go_wp2
    go_ret
    exact Ans.mk (Nat.le_refl _) (unhide hown0) (Ls.nil _) ((Below.refl _ _).alloc (Nat.le_refl _) _)
  · have c1 : Hid (∀ w, Calls Try.prog 40 #[.slice a l.length ca] w fun e w' => e = .returned (.bool false) ∧ w' = w) := hide fun w => by have := sok_any a l.length ca w; rw [decide_eq_false hl] at this; exact this
    clear h
    go_enter Try.func15, Try.ntmps15
    go_wp2_with fail
    refine (unhide c1 _).mono ?_
    rintro e w0 ⟨rfl, rfl⟩
    clear c1
    go_wp2
    go_ret
    exact Ans.mk (Nat.le_refl _) (unhide hown0) (Ls.nil _) ((Below.refl _ _).alloc (Nat.le_refl _) _)

theorem smix_any (a : Option Addr) (ca : Nat) (l : List Nat) (b : Option Addr) (cb : Nat) (m : List Nat) (ga gb : Nat) (w : World) (ha : Fls false 0 w.heap.size w a l) (hb : Fls false 0 w.heap.size w b m) :
    Calls Try.prog 15 #[.slice a l.length ca, .slice b m.length cb, .float .f64 ga, .float .f64 gb] w (Ans (mixE l m ga gb) (mixN l m) w) := by
  unfold mixN
  split
  · exact smix_yes a ca l b cb m ga gb w (by omega) (by omega) ha hb
  · exact smix_no a ca l b cb m ga gb w (by assumption) _
end Go.Proofs.Ytdemcjppokhonaa
