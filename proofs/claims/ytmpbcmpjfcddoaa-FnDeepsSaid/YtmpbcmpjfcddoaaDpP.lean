/-
  Plain facts on samples that are merged and laid flat: what is full ahead of all hides all that is behind it.
-/
import Derived.Test.YtmpbcmpjfcddoaaFlP
namespace Go.Proofs.Ytmpbcmpjfcddoaa
set_option linter.unusedVariables false
set_option linter.unusedSimpArgs false
namespace D
theorem ins_head {s : List Kl} {x y : Kl} (h : x.1 ≤ y.1) : insR (x :: s) y = x :: insR s y := by
  have : ¬ y.1 < x.1 := by omega
  simp [insR, this]
theorem fold_head {x : Kl} : ∀ (l s : List Kl), (∀ y ∈ l, x.1 ≤ y.1) → l.foldl insR (x :: s) = x :: l.foldl insR s
  | [], s, _ => rfl
  | y :: l, s, h => by
    show l.foldl insR (insR (x :: s) y) = x :: l.foldl insR (insR s y)
    rw [ins_head (h y (by simp))]
    exact fold_head l _ (fun z hz => h z (by simp [hz]))
theorem srt_head {x : Kl} {l : List Kl} (h : ∀ y ∈ l, x.1 ≤ y.1) : srt (x :: l) = x :: srt l := by
  show (x :: l).foldl insR [] = x :: l.foldl insR []
  exact fold_head l [] h
theorem over_full {p q : Go.Proofs.Ytmpbcmpjfcddoaa.Kl} (h : p.2.2.2 = 255) : over p q = p := by
  have e : ∀ x : Int, part x 0 = 0 := fun x => by simp [part, rnd]
  obtain ⟨a, b, c, d⟩ := p
  simp only at h
  subst h
  simp [over, plusP, scale, e]
theorem srt_okL {l : List Kl} (h : okL l = true) : okL (srt l) = true := by
  unfold okL at *
  simp at h ⊢
  refine ⟨by rw [srt_len]; exact h.1, fun a b c d e hm => h.2 _ _ _ _ _ (srt_mem _ hm)⟩
theorem srt_srt (l : List Kl) : srt (srt l) = srt l := srt_sorted (srt_is_sorted l)
theorem okL_app {l m : List Kl} (h : okL l = true) (k : okL m = true) (n : l.length + m.length ≤ 200) : okL (l ++ m) = true := by
  unfold okL at *
  simp only [Bool.and_eq_true, decide_eq_true_eq, List.all_eq_true] at h k ⊢
  refine ⟨by rw [List.length_append]; exact n, fun x hm => ?_⟩
  rcases List.mem_append.1 hm with hm | hm
  · exact h.2 x hm
  · exact k.2 x hm
theorem mrg_yes {l m : List Kl} (h : okL l = true) (k : okL m = true) (n : l.length + m.length ≤ 200) : mrg l m = srt (l ++ m) := by
  unfold mrg; simp [h, k, n]
theorem mrg_ne {l m : List Kl} (h : mrg l m ≠ []) : okL l = true ∧ okL m = true ∧ l.length + m.length ≤ 200 ∧ mrg l m = srt (l ++ m) := by
  unfold mrg at *
  split at h
  · rename_i g
    simp at g
    exact ⟨g.1.1, g.1.2, g.2, by rw [if_pos (by simp [g.1.1, g.1.2, g.2])]⟩
  · exact absurd rfl h
theorem mrg_sorted (l m : List Kl) : Srtd (mrg l m) := by
  unfold mrg
  split
  · exact srt_is_sorted _
  · exact List.Pairwise.nil
theorem mrg_len2 {l m : List Kl} (h : mrg l m ≠ []) : (mrg l m).length = l.length + m.length := by
  rw [(mrg_ne h).2.2.2, srt_len, List.length_append]
/-- the next one is no nearer -/
theorem mrg_step {l m : List Kl} {k : Nat} {x y : Kl} (hx : (mrg l m)[k]? = some x) (hy : (mrg l m)[k + 1]? = some y) : x.1 ≤ y.1 := by
  obtain ⟨h1, e1⟩ := List.getElem?_eq_some_iff.1 hx
  obtain ⟨h2, e2⟩ := List.getElem?_eq_some_iff.1 hy
  have := List.pairwise_iff_getElem.1 (mrg_sorted l m) k (k + 1) h1 h2 (by omega)
  rw [e1, e2] at this
  exact this
/-- what is full ahead of all -/
theorem flat_front {x : Kl} {a f : List Kl} (hx : x.2.2.2.2 = 255) (ha : ∀ y ∈ a, x.1 ≤ y.1) (hf : ∀ y ∈ f, x.1 ≤ y.1) (h1 : okL (x :: a) = true) (h2 : okL f = true) (n : (x :: a).length + f.length ≤ 200) : flatOf (mrg (x :: a) f) = flatOf (x :: a) := by
  have e1 : flatOf (x :: a) = x.2 := by
    unfold flatOf
    rw [if_pos h1, srt_head ha]
    show over x.2 _ = _
    exact over_full hx
  have e2 : flatOf (mrg (x :: a) f) = x.2 := by
    rw [mrg_yes h1 h2 n]
    unfold flatOf
    rw [if_pos (srt_okL (okL_app h1 h2 n)), srt_srt]
    rw [List.cons_append, srt_head (by intro y hy; rcases List.mem_append.1 hy with h | h; exact ha y h; exact hf y h)]
    show over x.2 _ = _
    exact over_full hx
  rw [e1, e2]
/-- a list that is moved back -/
def farL (l : List Kl) : List Kl := l.map (fun x => (x.1 + 100, x.2))
theorem okL_mem {l : List Kl} (h : okL l = true) {x : Kl} (hx : x ∈ l) : 0 ≤ x.1 ∧ x.1 ≤ 10000000 ∧ Pix x.2 := by
  unfold okL at h
  simp at h
  have := h.2 _ _ _ _ _ hx
  unfold okK at this
  simp at this
  exact ⟨this.1.1, this.1.2, this.2⟩
theorem okL_len {l : List Kl} (h : okL l = true) : l.length ≤ 200 := by
  unfold okL at h; simp at h; exact h.1
theorem okL_of {l : List Kl} (n : l.length ≤ 200) (h : ∀ x ∈ l, 0 ≤ x.1 ∧ x.1 ≤ 10000000 ∧ Pix x.2) : okL l = true := by
  unfold okL okK
  simp only [Bool.and_eq_true, decide_eq_true_eq, List.all_eq_true]
  exact ⟨n, fun x hx => ⟨⟨(h x hx).1, (h x hx).2.1⟩, (h x hx).2.2⟩⟩
/-- all that the law asks of the flat ones behind one that is full -/
theorem deeps_end {a b : List Kl} (hm : mrg a b ≠ []) (hb : ∀ y ∈ b, y.1 ≤ 9999900) (n : a.length + b.length ≤ 30) : flatOf (mrg ((0, 9, 8, 7, 255) :: a) (farL b)) = flatOf ((0, 9, 8, 7, 255) :: a) := by
  obtain ⟨h1, h2, h3, _⟩ := mrg_ne hm
  have hl : (farL b).length = b.length := by simp [farL]
  have hf : ∀ y ∈ farL b, 0 ≤ y.1 ∧ y.1 ≤ 10000000 ∧ Pix y.2 := by
    intro y hy
    obtain ⟨z, hz, rfl⟩ := List.mem_map.1 hy
    have := okL_mem h2 hz
    have := hb z hz
    exact ⟨by show 0 ≤ z.1 + 100; omega, by show z.1 + 100 ≤ _; omega, (okL_mem h2 hz).2.2⟩
  refine flat_front rfl (fun y hy => (okL_mem h1 hy).1) (fun y hy => (hf y hy).1) (okL_of (by simp; omega) ?_) (okL_of (by omega) hf) (by simp; omega)
  intro x hx
  rcases List.mem_cons.1 hx with rfl | hx
  · exact ⟨by omega, by omega, by decide⟩
  · exact okL_mem h1 hx
end D
end Go.Proofs.Ytmpbcmpjfcddoaa
