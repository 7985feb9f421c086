/-
  Plain facts on pixels that are laid over each other in depth.
-/
import Derived.Test.YtmpbcmpjfcddoaaPfo
import Derived.Test.YtmpbcmpjfcddoaaEls
namespace Go.Proofs.Ytmpbcmpjfcddoaa
open Go.RowKit
set_option linter.unusedVariables false
set_option linter.unusedSimpArgs false
namespace D

theorem rnd_mono {a b : Int} (h : a ≤ b) : rnd a 255 ≤ rnd b 255 := by
  unfold rnd
  exact Int.ediv_le_ediv (by omega) (by omega)
theorem part_mono {a b n : Int} (h : a ≤ b) (hn : 0 ≤ n) : part a n ≤ part b n := by
  unfold part
  exact rnd_mono (Int.mul_le_mul_of_nonneg_right h hn)
theorem over_pix {p q : Go.Proofs.Ytmpbcmpjfcddoaa.Kl} (hp : Pix p) (hq : Pix q) : Pix (over p q) := by
  obtain ⟨⟨p0, p1, p2, p3⟩, p4, p5, p6⟩ := hp
  obtain ⟨⟨q0, q1, q2, q3⟩, q4, q5, q6⟩ := hq
  have hn := num_sub p3
  have b0 := part_bd q0 hn
  have b1 := part_bd q1 hn
  have b2 := part_bd q2 hn
  have b3 := part_bd q3 hn
  have m0 := part_mono (n := 255 - p.2.2.2) q4 hn.1
  have m1 := part_mono (n := 255 - p.2.2.2) q5 hn.1
  have m2 := part_mono (n := 255 - p.2.2.2) q6 hn.1
  unfold over plusP scale Pix PxNs
  simp only [Num] at *
  omega
def flatL (l : List Kl) : Go.Proofs.Ytmpbcmpjfcddoaa.Kl := l.foldr (fun x acc => over x.2 acc) Z4
def flatOf (l : List Kl) : Go.Proofs.Ytmpbcmpjfcddoaa.Kl := if okL l then flatL (srt l) else Z4
theorem flat_step {l : List Kl} {j : Nat} {x : Kl} (hx : l[j]? = some x) : flatL (l.drop j) = over x.2 (flatL (l.drop (j + 1))) := by
  have hj := (List.getElem?_eq_some_iff.1 hx)
  rw [List.drop_eq_getElem_cons hj.1, hj.2]; rfl
theorem z4_pix : Pix Z4 := by decide
theorem okK_pix {x : Kl} (h : okK x = true) : Pix x.2 := by
  unfold okK at h
  simp at h
  exact h.2
theorem flat_pix : ∀ {l : List Kl}, (∀ x ∈ l, okK x = true) → Pix (flatL l)
  | [], _ => z4_pix
  | x :: l, h => over_pix (okK_pix (h x (by simp))) (flat_pix (fun y hy => h y (by simp [hy])))
theorem fold_mem : ∀ (l s : List Kl) (z : Kl), z ∈ l.foldl insR s → z ∈ s ∨ z ∈ l
  | [], s, z, h => Or.inl h
  | x :: l, s, z, h => by
    rcases fold_mem l (insR s x) z h with h | h
    · rcases ins_mem h with rfl | h
      · right; simp
      · exact Or.inl h
    · right; simp [h]
theorem srt_mem {l : List Kl} : ∀ z ∈ srt l, z ∈ l := fun z hz => by
  rcases fold_mem l [] z hz with h | h
  · simp at h
  · exact h
theorem srt_ok {l : List Kl} (h : okL l = true) : ∀ x ∈ srt l, okK x = true := by
  unfold okL at h
  simp at h
  intro x hx
  obtain ⟨x0, x1, x2, x3, x4⟩ := x
  exact h.2 _ _ _ _ _ (srt_mem _ hx)

end D
end Go.Proofs.Ytmpbcmpjfcddoaa
