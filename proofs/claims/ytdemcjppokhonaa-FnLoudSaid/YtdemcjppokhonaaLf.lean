/-
  Contracts of the small functions on sounds: lengths, products, sums, means, what is above a limit, the model's and the program's; nothing that was there is written.
-/
import Derived.Test.YtdemcjppokhonaaNv
namespace Go.Proofs.Ytdemcjppokhonaa
open Go.RowKit
set_option linter.unusedVariables false
set_option linter.unusedSimpArgs false

theorem laterB {W w w1 : World} (h : Below W.heap.size W w) (hb : Below w.heap.size w w1) : Below W.heap.size W w1 := h.trans (hb.mono h.size)
theorem carry {W w : World} {a : Option Addr} {l : List Nat} (h : Fls false 0 W.heap.size W a l) (hb : Below W.heap.size W w) : Fls false 0 w.heap.size w a l := (h.below hb (Nat.le_refl _)).mono (Nat.le_refl _) hb.size
theorem fls_ownB {w : World} {B g n cap : Nat} {l : List Nat} (h : w.ownsRow B 25 1 (.slice (some ⟨g, 0, none⟩) n cap) n (l.map fl)) : Fls false 0 w.heap.size w (some ⟨g, 0, none⟩) l :=
  (fls_of_own h).read.mono (Nat.zero_le _) (own_lt h)
theorem own_ge {w : World} {B g n cap m : Nat} {e : TypeId} {xs : List Value} (h : w.ownsRow B e m (.slice (some ⟨g, 0, none⟩) n cap) n xs) : B ≤ g := (h.lt g rfl).1
theorem own_lit (w : World) : w.heap.size ≤ w.heap.size ∧ (w.alloc (.cells #[] 25)).ownsRow w.heap.size 25 1 (.slice (some ⟨w.heap.size, 0, none⟩) 0 0) 0 (([] : List Nat).map fl) :=
  ⟨Nat.le_refl _, World.ownsRow_lit (base := w.heap.size) (e := 25) (size := 1) w #[] 0 (Nat.le_refl _) (by unfold maxLen; omega) rfl⟩

theorem wpList_flA {ops : Array Oper} {rest : List Oper} {o : Oper} {a : Act} {Q : Exit → Act → World → Prop} (w : World) (hgd : o.guard = none) (s x : Operand) (ho : o.op = .call { callee := .builtin .append, args := #[s, x], argTypes := #[24, 24] })
    (B g n cap : Nat) (L : List Nat) (v : Nat) (hs : a.eval s = .slice (some ⟨g, 0, none⟩) n cap) (hown : w.ownsRow B 25 1 (.slice (some ⟨g, 0, none⟩) n cap) n (L.map fl)) (hx : a.eval x = .slice (some ⟨w.heap.size, 0, none⟩) 1 1)
    (hl : n ≤ 1000000) (hB : B ≤ w.heap.size)
    (h : ∀ g' cap' w', w'.ownsRow B 25 1 (.slice (some ⟨g', 0, none⟩) (n + 1) cap') (n + 1) ((L ++ [v]).map fl) → Below B w w' → B ≤ g' → wpList Try.prog ops Q rest (a.put o.dst (.slice (some ⟨g', 0, none⟩) (n + 1) cap')) w') : wpList Try.prog ops Q (o :: rest) a (w.alloc (.cells #[.float .f64 v] 25)) := by
  have hb : Below w.heap.size w (w.alloc (.cells #[.float .f64 v] 25)) := (Below.refl _ _).alloc (Nat.le_refl _) _
  refine wpList_fl _ hgd s x ho B g n cap L v hs (ownsRow_below hown hb) w.heap.size hx (heap_alloc_new w _) hl (Nat.le_trans hB hb.size) ?_
  intro g' cap' w' h1 h2 h3
  exact h g' cap' w' h1 ((hb.mono hB).trans h2) h3

/-- two numbers at once -/
theorem wpList_fl2 {ops : Array Oper} {rest : List Oper} {o : Oper} {a : Act} {Q : Exit → Act → World → Prop} (w : World) (N : Nat) (hgd : o.guard = none) (s x : Operand) (ho : o.op = .call { callee := .builtin .append, args := #[s, x], argTypes := #[24, 24] })
    (B g n cap : Nat) (L : List Nat) (u v : Nat) (hs : a.eval s = .slice (some ⟨g, 0, none⟩) n cap) (hown : w.ownsRow B 25 1 (.slice (some ⟨g, 0, none⟩) n cap) n (L.map fl)) (hx : a.eval x = .slice (some ⟨w.heap.size, 0, none⟩) 2 2)
    (hl : n ≤ 1000000) (hB : B ≤ w.heap.size)
    (h : ∀ g' cap' w', w'.ownsRow B 25 1 (.slice (some ⟨g', 0, none⟩) (n + 2) cap') (n + 2) ((L ++ [u, v]).map fl) → Below B w w' → B ≤ g' → wpList Try.prog ops Q rest (a.put o.dst (.slice (some ⟨g', 0, none⟩) (n + 2) cap')) w') : wpList Try.prog ops Q (o :: rest) a ((w.drewN N).alloc (.cells #[.float .f64 u, .float .f64 v] 25)) := by
  obtain ⟨i0, hi, hz0, hz1, hz2⟩ := info_parts info22
  have hb : Below w.heap.size w ((w.drewN N).alloc (.cells #[.float .f64 u, .float .f64 v] 25)) := (below_drew N).alloc (Nat.le_refl _) _
  have hblk : ((w.drewN N).alloc (.cells #[.float .f64 u, .float .f64 v] 25)).heap[w.heap.size]? = some (.cells #[.float .f64 u, .float .f64 v] 25 (0, 0)) := by simp [World.alloc, World.drewN]
  have hnews := World.news_of_block hblk
  have hsz := hb.size
  generalize (w.drewN N).alloc (.cells #[.float .f64 u, .float .f64 v] 25) = W at *
  have hown2 := ownsRow_below hown hb
  have hBg : B ≤ g := (hown.lt g rfl).1
  refine wpList_append_lies W hgd s x 24 ho B 25 i0 (.float .f64 0) 1 8 Try.underlying24 hi hz0 hz1 hz2 rfl (by decide) _ n (L.map fl) hs hown2 ⟨w.heap.size, 0, none⟩ 2 2 [fl u, fl v] hx rfl (by simpa [fl] using hnews) (by intro y hy; simp at hy; rcases hy with rfl | rfl <;> rfl) (by decide) (by unfold maxLen; omega) (by omega) (by omega) W.heap.size rfl ?_
  intro g' cap' w' h1 h2 h3 h4
  refine h g' cap' w' (by simpa using h1) ?_ (own_ge h1)
  exact (hb.mono hB).trans ((Below.refl _ _).grown h2 (by omega) (fun k hk => by simp [Value.ownBlock] at hk; omega))

theorem isnd_any (a : Option Addr) (n c : Nat) (w : World) : Calls Try.prog 38 #[.slice a n c] w fun e w' => e = .returned (.bool (decide (n ≤ 4096))) ∧ w' = w := by
  go_enter Try.func38, Try.ntmps38
  go_wp2
  go_ret
  exact ⟨ret_bool (by rw [decide_eq_decide]; omega), rfl⟩
theorem sok_any (a : Option Addr) (n c : Nat) (w : World) : Calls Try.prog 40 #[.slice a n c] w fun e w' => e = .returned (.bool (decide (n ≤ 4096))) ∧ w' = w := by
  go_enter Try.func40, Try.ntmps40
  go_wp2
  go_ret
  exact ⟨ret_bool (by rw [decide_eq_decide]; omega), rfl⟩
theorem rp_any (x y : Nat) (w : World) : Calls Try.prog 42 #[.float .f64 x, .float .f64 y] w fun e w' => ∃ v, e = .returned (.float .f64 v) ∧ Sm v (nv .mul x y) ∧ Below w.heap.size w w' := by
  go_enter Try.func42, Try.ntmps42
  go_wp2
  go_ret
  exact ⟨_, rfl, fv_nv, below_drew _⟩

set_option maxHeartbeats 1600000 in
theorem gain_any (a : Option Addr) (ca : Nat) (l : List Nat) (g0 : Nat) (w : World) (hl : l.length ≤ 4096) (ha : Fls false 0 w.heap.size w a l) :
    Calls Try.prog 39 #[.slice a l.length ca, .float .f64 g0] w (Ans (fun j => nv .mul (nth l j) g0) l.length w) := by
  have ha' := hide ha
  clear ha
  obtain ⟨i0, hi, hz0, hz1, hz2⟩ := info_parts info22
  go_enter Try.func39, Try.ntmps39
  go_wp2_with (refine wpList_make_own _ rfl _ _ 24 rfl w.heap.size 25 i0 (.float .f64 0) 1 Try.underlying24 hi hz0 hz1 .i64 .i64 _ l.length rfl rfl rfl ?b2 ?b3 (Nat.le_refl _) ?_)
  case b2 => rw [hz2]; omega
  case b3 => unfold maxLen; omega
  intro w1 hown hg
  have hb1' := hide (show Below w.heap.size w w1 from (Below.refl _ _).grown hg (Nat.le_refl _) (fun k hk => by cases hk))
  have hown1 : Hid (w1.ownsRow w.heap.size 25 1 (.slice (some ⟨w.heap.size, 0, none⟩) 0 l.length) 0 (([] : List Nat).map fl)) := hide (by simpa using hown)
  clear hown hg
  go_wp2
  go_loopw [5, 13] (fun s t wr => ∃ (k g cap : Nat) (L : List Nat), k ≤ l.length ∧ t = .int .i64 k ∧ s = .slice (some ⟨g, 0, none⟩) k cap ∧ w.heap.size ≤ g ∧ Hid (wr.ownsRow w.heap.size 25 1 (.slice (some ⟨g, 0, none⟩) k cap) k (L.map fl)) ∧ Hid (Ls (fun j => nv .mul (nth l j) g0) k L) ∧ Hid (Below w.heap.size w wr)) (fun _ t _ => l.length - (intOf t).toNat)
  case atStart => exact ⟨0, w.heap.size, l.length, [], by omega, rfl, rfl, Nat.le_refl _, hown1, hide (Ls.nil _), hb1'⟩
  case round =>
    clear hown1 hb1'
    obtain ⟨k, g, cap, L, hk, rfl, rfl, hg, hown, hpw, hw⟩ := hrel
    by_cases hlt : k < l.length
    · obtain ⟨x, hx⟩ : ∃ x, l[k]? = some x := ⟨l[k], List.getElem?_eq_getElem hlt⟩
      have hstep : Hid (∀ v, Sm v (nv .mul x g0) → Ls (fun j => nv .mul (nth l j) g0) (k + 1) (L ++ [v])) := hide fun v h => (unhide hpw).snoc (by rw [nth_of hx]; exact h)
      obtain ⟨b1, o1, rfl, _, i1, c0, _⟩ := unhide ha' k x hx
      have d0 : wr.cell? ⟨b1, o1 + k, none⟩ = some (.float .f64 x) := by rw [(bcell (unhide hw)).1 _ _ i1]; exact c0
      clear hx c0 hpw
      go_wp2_with fail
      refine (rp_any x g0 _).mono ?_
      rintro e w4 ⟨v, rfl, hv, hb⟩
      have hL := hide (unhide hstep v hv)
      have o4 := hide (ownsRow_below (unhide hown) hb)
      have b4 := hide (laterB (unhide hw) hb)
      have s4 := (unhide b4).size
      clear hv hstep hown hw hb d0
      go_wp2_with (refine wpList_flA w4 rfl _ _ rfl w.heap.size g k cap L v rfl (unhide o4) rfl (by omega) s4 ?_)
      intro g' cap' w' hown' hbel' hg'
      have hown2 := hide hown'
      have hw2 := hide ((unhide b4).trans hbel')
      clear hown' hbel' o4 b4
      go_wp2
      go_roundw
      case rel => exact ⟨k + 1, g', cap', _, by omega, by go_num, rfl, hg', re_map hown2, hL, hw2⟩
      case measure => simp [intOf]; omega
    · have hke : k = l.length := by omega
      have hfin : Hid (Ls (fun j => nv .mul (nth l j) g0) l.length L) := hide (by have := unhide hpw; rw [hke] at this; exact this)
      have ho := hide (show wr.ownsRow w.heap.size 25 1 (.slice (some ⟨g, 0, none⟩) l.length cap) l.length (L.map fl) by have := unhide hown; rw [hke] at this; exact this)
      have hd : decide ((k : Int) < (l.length : Int)) = false := decide_eq_false (by omega)
      clear hpw hown
      have hk2 := hide hke
      subst hke
      clear hk2 hd
      go_wp2
      go_ret
      exact Ans.mk hg (unhide ho) (unhide hfin) (unhide hw)

/-- the sum from nought on -/
def sumV (l : List Nat) : Nat := l.foldl (nv .add) 0
theorem sumV_snoc (l : List Nat) (x : Nat) : sumV (l ++ [x]) = nv .add (sumV l) x := by simp [sumV]
theorem fold_sm : ∀ (l m : List Nat) (s : Nat), l.length = m.length → (∀ (j x y : Nat), l[j]? = some x → m[j]? = some y → Sm x y) → l.foldl (nv .add) s = m.foldl (nv .add) s
  | [], [], s, _, _ => rfl
  | [], _ :: _, s, h, _ => by simp at h
  | _ :: _, [], s, h, _ => by simp at h
  | x :: l, y :: m, s, h, k => by
    rw [List.foldl_cons, List.foldl_cons, nv_sm Sm.rfl (k 0 x y rfl rfl)]
    exact fold_sm l m _ (by simpa using h) (fun j u v hu hv => k (j + 1) u v hu hv)
theorem sumV_sm {l m : List Nat} (h : SmL l m) : sumV l = sumV m := fold_sm l m 0 h.1 h.2
theorem zero_of : floatOfInt .f64 0 = 0 := by decide +kernel

set_option maxHeartbeats 1600000 in
theorem sum_any (a : Option Addr) (ca : Nat) (l : List Nat) (w : World) (hl : l.length ≤ 1048576) (ha : Fls false 0 w.heap.size w a l) :
    Calls Try.prog 43 #[.slice a l.length ca] w fun e w' => ∃ v, e = .returned (.float .f64 v) ∧ Sm v (sumV l) ∧ Below w.heap.size w w' := by
  have ha' := hide ha
  clear ha
  have hz := zero_of
  go_enter Try.func43, Try.ntmps43
  go_wp2
  go_loopw [3, 9] (fun s t wr => ∃ (k v : Nat), k ≤ l.length ∧ t = .int .i64 k ∧ s = .float .f64 v ∧ Hid (Sm v (sumV (l.take k))) ∧ Hid (Below w.heap.size w wr)) (fun _ t _ => l.length - (intOf t).toNat)
  case atStart => exact ⟨0, 0, by omega, rfl, rfl, hide Sm.rfl, hide (Below.refl _ _)⟩
  case round =>
    obtain ⟨k, v, hk, rfl, rfl, hs, hw⟩ := hrel
    by_cases hlt : k < l.length
    · obtain ⟨x, hx⟩ : ∃ x, l[k]? = some x := ⟨l[k], List.getElem?_eq_getElem hlt⟩
      have hstep : Hid (∀ W, Sm (fv .add v x W) (sumV (l.take (k + 1)))) := hide fun W => by rw [take_snoc hx, sumV_snoc]; exact fv_sm (unhide hs) Sm.rfl
      obtain ⟨b1, o1, rfl, _, i1, c0, _⟩ := unhide ha' k x hx
      have d0 : wr.cell? ⟨b1, o1 + k, none⟩ = some (.float .f64 x) := by rw [(bcell (unhide hw)).1 _ _ i1]; exact c0
      clear hx c0 hs
      go_wp2
      go_roundw
      case rel => exact ⟨k + 1, _, by omega, by go_num, rfl, hide (unhide hstep _), hide (below_drewN (unhide hw) _)⟩
      case measure => simp [intOf]; omega
    · have hke : k = l.length := by omega
      have hs2 := hide (show Sm v (sumV l) by have := unhide hs; rw [hke, List.take_length] at this; exact this)
      clear hs
      subst hke
      go_wp2
      go_ret
      exact ⟨_, rfl, unhide hs2, unhide hw⟩

/-- the mean; 0 of none -/
def meanV (l : List Nat) : Nat := if l.length = 0 then 0 else nv .quo (sumV l) (floatOfInt .f64 l.length)
theorem meanV_sm {l m : List Nat} (h : SmL l m) : meanV l = meanV m := by unfold meanV; rw [sumV_sm h, h.1]

set_option maxHeartbeats 1600000 in
theorem mean_any (a : Option Addr) (ca : Nat) (l : List Nat) (w : World) (hl : l.length ≤ 1048576) (ha : Fls false 0 w.heap.size w a l) :
    Calls Try.prog 47 #[.slice a l.length ca] w fun e w' => ∃ v, e = .returned (.float .f64 v) ∧ Sm v (meanV l) ∧ Below w.heap.size w w' := by
  have ha' := hide ha
  clear ha
  by_cases h0 : l.length = 0
  · have hm : meanV l = 0 := by unfold meanV; rw [if_pos h0]
    rw [hm, h0]
    clear ha' hm h0 hl
    go_enter Try.func47, Try.ntmps47
    go_wp2
    go_ret
    exact ⟨_, rfl, Sm.rfl, Below.refl _ _⟩
  · have hm : meanV l = nv .quo (sumV l) (floatOfInt .f64 l.length) := by unfold meanV; rw [if_neg h0]
    rw [hm]
    clear hm
    have he : ((l.length : Int) == 0) = false := beq_eq_false_iff_ne.2 (by omega)
    go_enter Try.func47, Try.ntmps47
    go_wp2_with fail
    refine (sum_any a ca l w hl (unhide ha')).mono ?_
    rintro e w1 ⟨v, rfl, hv, hb⟩
    have hv' := hide hv
    have hb' := hide hb
    clear hv hb
    go_wp2
    go_ret
    exact ⟨_, rfl, fv_sm (unhide hv') Sm.rfl, below_drewN (unhide hb') _⟩

set_option maxHeartbeats 1600000 in
theorem smean_any (a : Option Addr) (ca : Nat) (l : List Nat) (w : World) (hl : l.length ≤ 1048576) (ha : Fls false 0 w.heap.size w a l) :
    Calls Try.prog 49 #[.slice a l.length ca] w fun e w' => ∃ v, e = .returned (.float .f64 v) ∧ Sm v (nv .quo (sumV l) (floatOfInt .f64 l.length)) ∧ Below w.heap.size w w' := by
  have ha' := hide ha
  clear ha
  go_enter Try.func49, Try.ntmps49
  go_wp2
  go_loopw [3, 4] (fun s t wr => ∃ (k v : Nat), k ≤ l.length ∧ t = .int .i64 k ∧ s = .float .f64 v ∧ Hid (Sm v (sumV (l.take k))) ∧ Hid (Below w.heap.size w wr)) (fun _ t _ => l.length - (intOf t).toNat)
  case atStart => exact ⟨0, 0, by omega, rfl, rfl, hide Sm.rfl, hide (Below.refl _ _)⟩
  case round =>
    obtain ⟨k, v, hk, rfl, rfl, hs, hw⟩ := hrel
    by_cases hlt : k < l.length
    · obtain ⟨x, hx⟩ : ∃ x, l[k]? = some x := ⟨l[k], List.getElem?_eq_getElem hlt⟩
      have hstep : Hid (∀ W, Sm (fv .add v x W) (sumV (l.take (k + 1)))) := hide fun W => by rw [take_snoc hx, sumV_snoc]; exact fv_sm (unhide hs) Sm.rfl
      obtain ⟨b1, o1, rfl, _, i1, c0, _⟩ := unhide ha' k x hx
      have d0 : wr.cell? ⟨b1, o1 + k, none⟩ = some (.float .f64 x) := by rw [(bcell (unhide hw)).1 _ _ i1]; exact c0
      clear hx c0 hs
      go_wp2
      go_roundw
      case rel => exact ⟨k + 1, _, by omega, by go_num, rfl, hide (unhide hstep _), hide (below_drewN (unhide hw) _)⟩
      case measure => simp [intOf]; omega
    · have hke : k = l.length := by omega
      have hs2 := hide (show Sm v (sumV l) by have := unhide hs; rw [hke, List.take_length] at this; exact this)
      clear hs
      subst hke
      go_wp2
      go_ret
      exact ⟨_, rfl, fv_sm (unhide hs2) Sm.rfl, below_drewN (unhide hw) _⟩
end Go.Proofs.Ytdemcjppokhonaa
