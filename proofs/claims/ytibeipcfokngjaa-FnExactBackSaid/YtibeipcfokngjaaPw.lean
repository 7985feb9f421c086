/-
  Contracts of Power, the model's and the program's: each gives a new list of the powers; nothing that was there is written.
-/
import Derived.Test.YtibeipcfokngjaaCCopy
import Derived.Deep.AppendLies
import Derived.Deep.CutRange
import Derived.Deep.CutBlock
namespace Go.Proofs.Ytibeipcfokngjaa
open Go.RowKit
set_option linter.unusedVariables false
set_option linter.unusedSimpArgs false

/-- v is the power of x -/
def PwE (x : Nat × Nat) (v : Nat) : Prop := ∃ p q, Res .mul x.1 x.1 p ∧ Res .mul x.2 x.2 q ∧ Res .add p q v
theorem PwE.sm {x : Nat × Nat} {v v' : Nat} (h : PwE x v) (h' : PwE x v') : Sm v v' := by
  obtain ⟨p, q, h1, h2, h3⟩ := h
  obtain ⟨p', q', k1, k2, k3⟩ := h'
  exact h3.sm k3 (h1.sm k1 Sm.rfl Sm.rfl) (h2.sm k2 Sm.rfl Sm.rfl)
/-- L are the powers of the first k of l -/
def PwL (l : List (Nat × Nat)) (k : Nat) (L : List Nat) : Prop := L.length = k ∧ ∀ (j : Nat) (x : Nat × Nat) (v : Nat), l[j]? = some x → L[j]? = some v → PwE x v
theorem PwL.nil (l : List (Nat × Nat)) : PwL l 0 [] := ⟨rfl, fun j x v _ h => by simp at h⟩
theorem PwL.snoc {l : List (Nat × Nat)} {k : Nat} {L : List Nat} {x : Nat × Nat} {v : Nat} (h : PwL l k L) (hx : l[k]? = some x) (hv : PwE x v) : PwL l (k + 1) (L ++ [v]) := by
  refine ⟨by simp [h.1], ?_⟩
  intro j y u hy hu
  by_cases e : j < k
  · rw [List.getElem?_append_left (by rw [h.1]; exact e)] at hu
    exact h.2 j y u hy hu
  · by_cases e2 : j = k
    · subst e2
      rw [hx] at hy
      cases hy
      rw [List.getElem?_append_right (by rw [h.1]; exact Nat.le_refl _), h.1] at hu
      simp at hu
      subst hu
      exact hv
    · rw [List.getElem?_append_right (by rw [h.1]; omega), h.1] at hu
      have : j - k = (j - k - 1) + 1 := by omega
      rw [this] at hu
      simp at hu
def PwV (l : List (Nat × Nat)) (L : List Nat) : Prop := (l.length ≤ 4096 ∧ PwL l l.length L) ∨ (¬ l.length ≤ 4096 ∧ L = [])
theorem PwV.sm {l : List (Nat × Nat)} {L M : List Nat} (h : PwV l L) (h' : PwV l M) : SmL L M := by
  rcases h with ⟨h1, h2⟩ | ⟨h1, h2⟩ <;> rcases h' with ⟨k1, k2⟩ | ⟨k1, k2⟩
  · refine ⟨h2.1.trans k2.1.symm, ?_⟩
    intro j x y hx hy
    have hj : j < l.length := by have := (List.getElem?_eq_some_iff.1 hx).1; rw [h2.1] at this; exact this
    exact (h2.2 j l[j] x (List.getElem?_eq_getElem hj) hx).sm (k2.2 j l[j] y (List.getElem?_eq_getElem hj) hy)
  · exact absurd h1 k1
  · exact absurd k1 h1
  · rw [h2, k2]; exact SmL.rfl
theorem PwV.len {l : List (Nat × Nat)} {L : List Nat} (h : PwV l L) : L.length ≤ 4096 := by
  rcases h with ⟨h1, h2⟩ | ⟨h1, h2⟩
  · rw [h2.1]; exact h1
  · rw [h2]; simp

theorem fl_news {w : World} {E : Nat} {v : Nat} {t : TypeId} {m : Nat × Nat} (hblk : w.heap[E]? = some (.cells #[.float .f64 v] t m)) : ∀ j u, [fl v][j]? = some u → w.cell? ((⟨E, 0, none⟩ : Addr).add j) = some u := by
  have := World.news_of_block hblk
  simpa [fl] using this

theorem wpList_fl {ops : Array Oper} {rest : List Oper} {o : Oper} {a : Act} {Q : Exit → Act → World → Prop} (w : World) (hgd : o.guard = none) (s x : Operand) (ho : o.op = .call { callee := .builtin .append, args := #[s, x], argTypes := #[38, 38] })
    (B g n cap : Nat) (L : List Nat) (v : Nat) (hs : a.eval s = .slice (some ⟨g, 0, none⟩) n cap) (hown : w.ownsRow B 22 1 (.slice (some ⟨g, 0, none⟩) n cap) n (L.map fl)) (E : Nat) (hx : a.eval x = .slice (some ⟨E, 0, none⟩) 1 1)
    (hblk : w.heap[E]? = some (.cells #[.float .f64 v] 22 (0, 0))) (hl : n ≤ 1000000) (hB : B ≤ w.heap.size)
    (h : ∀ g' cap' w', w'.ownsRow B 22 1 (.slice (some ⟨g', 0, none⟩) (n + 1) cap') (n + 1) ((L ++ [v]).map fl) → Below B w w' → B ≤ g' → wpList Try.prog ops Q rest (a.put o.dst (.slice (some ⟨g', 0, none⟩) (n + 1) cap')) w') : wpList Try.prog ops Q (o :: rest) a w := by
  obtain ⟨i0, hi, hz0, hz1, hz2⟩ := info_parts info22
  have hBg : B ≤ g := (hown.lt g rfl).1
  refine wpList_append_lies w hgd s x 38 ho B 22 i0 (.float .f64 0) 1 8 Try.underlying38 hi hz0 hz1 hz2 rfl (by decide) _ n (L.map fl) hs hown ⟨E, 0, none⟩ 1 1 [fl v] hx rfl (fl_news hblk) (by intro u hu; simp at hu; subst hu; rfl) (by decide) (by unfold maxLen; omega) (by omega) hB w.heap.size rfl ?_
  intro g' cap' w' h1 h2 h3 h4
  refine h g' cap' w' (by simpa using h1) ?_ ?_
  · exact (Below.refl _ _).grown h2 hB (fun k hk => by simp [Value.ownBlock] at hk; omega)
  · rcases h3 with h3 | h3
    · simp [Value.ownBlock] at h3; omega
    · omega

theorem wpList_flN {ops : Array Oper} {rest : List Oper} {o : Oper} {a : Act} {Q : Exit → Act → World → Prop} (w : World) (N : Nat) (hgd : o.guard = none) (s x : Operand) (ho : o.op = .call { callee := .builtin .append, args := #[s, x], argTypes := #[38, 38] })
    (B g n cap : Nat) (L : List Nat) (v : Nat) (hs : a.eval s = .slice (some ⟨g, 0, none⟩) n cap) (hown : w.ownsRow B 22 1 (.slice (some ⟨g, 0, none⟩) n cap) n (L.map fl)) (hx : a.eval x = .slice (some ⟨w.heap.size, 0, none⟩) 1 1)
    (hl : n ≤ 1000000) (hB : B ≤ w.heap.size)
    (h : ∀ g' cap' w', w'.ownsRow B 22 1 (.slice (some ⟨g', 0, none⟩) (n + 1) cap') (n + 1) ((L ++ [v]).map fl) → Below B w w' → B ≤ g' → wpList Try.prog ops Q rest (a.put o.dst (.slice (some ⟨g', 0, none⟩) (n + 1) cap')) w') : wpList Try.prog ops Q (o :: rest) a ((w.drewN N).alloc (.cells #[.float .f64 v] 22)) := by
  have hb : Below w.heap.size w ((w.drewN N).alloc (.cells #[.float .f64 v] 22)) := (below_drew N).alloc (Nat.le_refl _) _
  refine wpList_fl _ hgd s x ho B g n cap L v hs (ownsRow_below hown hb) w.heap.size hx (by simp [World.alloc, World.drewN]) hl (Nat.le_trans hB hb.size) ?_
  intro g' cap' w' h1 h2 h3
  exact h g' cap' w' h1 ((hb.mono hB).trans h2) h3

theorem re_map {w : World} {B n v : Nat} {V : Value} {L : List Nat} (h : Hid (w.ownsRow B 22 1 V n (L.map fl ++ [fl v]))) : Hid (w.ownsRow B 22 1 V n ((L ++ [v]).map fl)) := hide (by rw [List.map_append]; exact unhide h)

set_option maxHeartbeats 1600000 in
theorem spower_yes (a : Option Addr) (ca : Nat) (l : List (Nat × Nat)) (w : World) (hl : l.length ≤ 4096) (ha : Cxs false 0 w.heap.size w a l) :
    Calls Try.prog 25 #[.slice a l.length ca] w fun e w' => ∃ g cap L, e = .returned (.slice (some ⟨g, 0, none⟩) L.length cap) ∧ w.heap.size ≤ g ∧ w'.ownsRow w.heap.size 22 1 (.slice (some ⟨g, 0, none⟩) L.length cap) L.length (L.map fl) ∧ PwL l l.length L ∧ Below w.heap.size w w' := by
  have ha' := hide ha
  clear ha
  have x2 : decide ((l.length : Int) ≤ 4096) = true := by simp; omega
  have hown0 := hide (World.ownsRow_lit (base := w.heap.size) (e := 22) (size := 1) w #[] 0 (Nat.le_refl _) (by unfold maxLen; omega) rfl)
  go_enter Try.func25, Try.ntmps25
  go_wp2
  go_loopw [3, 4] (fun s t wr => ∃ (k g cap : Nat) (L : List Nat), k ≤ l.length ∧ t = .int .i64 k ∧ s = .slice (some ⟨g, 0, none⟩) k cap ∧ w.heap.size ≤ g ∧ Hid (wr.ownsRow w.heap.size 22 1 (.slice (some ⟨g, 0, none⟩) k cap) k (L.map fl)) ∧ Hid (PwL l k L) ∧ Hid (Below w.heap.size w wr)) (fun _ t _ => l.length - (intOf t).toNat)
  case atStart => exact ⟨0, w.heap.size, 0, [], by omega, rfl, rfl, by omega, hown0, hide (PwL.nil l), hide ((Below.refl _ _).alloc (Nat.le_refl _) _)⟩
  case round =>
    clear hown0
    obtain ⟨k, g, cap, L, hk, rfl, rfl, hg, hown, hpw, hw⟩ := hrel
    by_cases hlt : k < l.length
    · obtain ⟨x, hx⟩ : ∃ x, l[k]? = some x := ⟨l[k], List.getElem?_eq_getElem hlt⟩
      have hstep : Hid (∀ p q v, Res .mul x.1 x.1 p → Res .mul x.2 x.2 q → Res .add p q v → PwL l (k + 1) (L ++ [v])) := hide fun p q v h1 h2 h3 => (unhide hpw).snoc hx ⟨p, q, h1, h2, h3⟩
      obtain ⟨b1, o1, rfl, _, i1, c0, c1, _⟩ := unhide ha' k x hx
      obtain ⟨x1, x2⟩ := x
      have d0 : wr.cell? ⟨b1, o1 + k * 2, none⟩ = some (.float .f64 x1) := by rw [(bcell (unhide hw)).1 _ _ i1]; exact c0
      have d1 : wr.cell? ⟨b1, o1 + k * 2 + 1, none⟩ = some (.float .f64 x2) := by rw [(bcell (unhide hw)).1 _ _ i1]; exact c1
      clear hx c0 c1 hpw
      have hlt2 : (k : Int) < l.length := by omega
      go_wp2
      go_region
      go_wp2
      go_region
      go_wp2_with (refine wpList_flN wr _ rfl _ _ rfl w.heap.size g k cap L _ rfl (unhide hown) rfl (by omega) (unhide hw).size ?_)
      intro g' cap' w' hown' hbel' hg'
      have hown2 := hide hown'
      have hw2 := hide ((unhide hw).trans hbel')
      clear hown' hbel' hown hw
      go_wp2
      go_roundw
      case rel => exact ⟨k + 1, g', cap', _, by omega, by go_num, rfl, hg', re_map hown2, hide (unhide hstep _ _ _ (fv_res _ _ _ _) (fv_res _ _ _ _) (fv_res _ _ _ _)), hw2⟩
      case measure => simp [intOf]; omega
    · have hke : k = l.length := by omega
      have hlt2 : ¬ (k : Int) < l.length := by omega
      have hfin : Hid (PwL l l.length L) := hide (by have := unhide hpw; rw [hke] at this; exact this)
      have hLk : L.length = k := (unhide hpw).1
      have hk2 := hide hke
      clear hpw hke
      subst hLk
      go_wp2
      go_ret
      exact ⟨g, cap, L, rfl, hg, unhide hown, unhide hfin, unhide hw⟩

set_option maxHeartbeats 800000 in
theorem spower_no (a : Option Addr) (ca : Nat) (l : List (Nat × Nat)) (w : World) (hl : ¬ l.length ≤ 4096) (hm : l.length ≤ 1048576) :
    Calls Try.prog 25 #[.slice a l.length ca] w fun e w' => ∃ g cap, e = .returned (.slice (some ⟨g, 0, none⟩) 0 cap) ∧ w.heap.size ≤ g ∧ w'.ownsRow w.heap.size 22 1 (.slice (some ⟨g, 0, none⟩) 0 cap) 0 [] ∧ Below w.heap.size w w' := by
  have x1 : decide ((0 : Int) < l.length) = true := by simp; omega
  have x2 : decide ((l.length : Int) ≤ 4096) = false := by simp; omega
  have hown0 := hide (World.ownsRow_lit (base := w.heap.size) (e := 22) (size := 1) w #[] 0 (Nat.le_refl _) (by unfold maxLen; omega) rfl)
  go_enter Try.func25, Try.ntmps25
  go_wp2
  go_loopw [3, 4] (fun s t wr => t = .int .i64 0 ∧ s = .slice (some ⟨w.heap.size, 0, none⟩) 0 0 ∧ Hid (wr.ownsRow w.heap.size 22 1 (.slice (some ⟨w.heap.size, 0, none⟩) 0 0) 0 []) ∧ Hid (Below w.heap.size w wr)) (fun _ t _ => 0)
  case atStart => exact ⟨rfl, rfl, hown0, hide ((Below.refl _ _).alloc (Nat.le_refl _) _)⟩
  case round =>
    clear hown0
    obtain ⟨rfl, rfl, hown, hw⟩ := hrel
    go_wp2
    go_ret
    exact ⟨_, _, rfl, Nat.le_refl _, unhide hown, unhide hw⟩

theorem spower_any (a : Option Addr) (ca : Nat) (l : List (Nat × Nat)) (w : World) (hm : l.length ≤ 1048576) (ha : Cxs false 0 w.heap.size w a l) :
    Calls Try.prog 25 #[.slice a l.length ca] w fun e w' => ∃ g cap L, e = .returned (.slice (some ⟨g, 0, none⟩) L.length cap) ∧ w.heap.size ≤ g ∧ w'.ownsRow w.heap.size 22 1 (.slice (some ⟨g, 0, none⟩) L.length cap) L.length (L.map fl) ∧ PwV l L ∧ Below w.heap.size w w' := by
  by_cases hl : l.length ≤ 4096
  · exact (spower_yes a ca l w hl ha).mono fun e w' ⟨g, cap, L, h1, h2, h3, h4, h5⟩ => ⟨g, cap, L, h1, h2, h3, .inl ⟨hl, h4⟩, h5⟩
  · exact (spower_no a ca l w hl hm).mono fun e w' ⟨g, cap, h1, h2, h3, h5⟩ => ⟨g, cap, [], h1, h2, h3, .inr ⟨hl, rfl⟩, h5⟩

end Go.Proofs.Ytibeipcfokngjaa
