/-
  Bounds on what is read: how many boxes, how long their kinds and bytes are; and what an owned list is to a reader. No conditions.
-/
import Derived.Test.YtdiamcejpjopgaaMark2
import Derived.Test.YtdiamcejpjopgaaSTop
import Derived.Test.YtdiamcejpjopgaaIUp
namespace Go.Proofs.Ytdiamcejpjopgaa
open Go.RowKit
set_option linter.unusedVariables false
set_option linter.unusedSimpArgs false

def Bd (l : List Bx) : Prop := l.length ≤ 200 ∧ ∀ x ∈ l, x.k.size ≤ 4 ∧ x.z.length ≤ 20000
theorem Bd.nil : Bd [] := ⟨Nat.zero_le _, fun x hx => by simp at hx⟩
theorem Bd.snoc {l : List Bx} {x : Bx} (h : Bd l) (hl : l.length ≠ 200) (hk : x.k.size ≤ 4) (hz : x.z.length ≤ 20000) : Bd (l ++ [x]) := by
  obtain ⟨h1, h2⟩ := h
  refine ⟨by simp; omega, fun y hy => ?_⟩
  rcases List.mem_append.1 hy with hy | hy
  · exact h2 y hy
  · rw [List.mem_singleton.1 hy]; exact ⟨hk, hz⟩
def RB (s : RS) : Prop := Bd s.l ∧ 0 ≤ s.n ∧ s.n ≤ 20000
theorem rd_rb (n : Nat) : ∀ (left : List Int) (dep pos : Int) (s : RS), RB s → RB (rdAll n left dep pos s).1 := by
  induction n with
  | zero => intro left dep pos s h; exact h
  | succ n ih =>
    intro left dep pos s h
    unfold rdAll
    split
    · exact h
    · split
      · exact h
      · rename_i hf
        have hf0 : headFault left dep s = 0 := by simpa using hf
        obtain ⟨a0, a1, a2, a3, a4, a5, a6⟩ := head_ok hf0
        split
        · rename_i hh
          have h1 : RB ⟨s.l ++ [⟨kindOf left, dep, []⟩], s.n⟩ := ⟨h.1.snoc a5 (kindOf_size left) (Nat.zero_le _), h.2⟩
          have h2 := ih (inner left) (dep + 1) (pos + 8) _ h1
          split
          · rename_i s1 f he
            rw [he] at h2
            exact h2
          · rename_i s1 he
            rw [he] at h2
            exact ih _ _ _ _ h2
        · rename_i hh
          have hn : s.n + siz left - 8 ≤ 20000 := by
            rcases a6 with h6 | h6
            · exact absurd h6 hh
            · exact h6
          have hil := inner_len a1 a2
          have h0 := h.2.1
          refine ih _ _ _ _ ⟨h.1.snoc a5 (kindOf_size left) (by show (inner left).length ≤ 20000; omega), by show 0 ≤ s.n + siz left - 8; omega, hn⟩
theorem rdTop_bd (zs : List Int) : Bd (rdTop zs).1 := by
  unfold rdTop
  split
  · exact Bd.nil
  · exact (rd_rb _ _ _ _ _ ⟨Bd.nil, Int.le_refl _, by show (0 : Int) ≤ 20000; omega⟩).1
theorem rdBoxes_bd (zs : List Int) : Bd (rdBoxes zs) := by
  unfold rdBoxes
  split
  · exact rdTop_bd zs
  · exact Bd.nil
theorem Bd.small {l : List Bx} (h : Bd l) : Small 1048576 l := by
  intro x hx
  have := h.2 x hx
  omega
theorem endK_bd (l : List Bx) : ∀ k, (∀ x ∈ l, x.k.size ≤ 4 ∧ x.z.length ≤ 20000) → endK k l ≤ k + l.length * 20002 := by
  induction l with
  | nil => intro k h; simp [endK]
  | cons x t ih =>
    intro k h
    have h1 := ih (nxt k x) (fun y hy => h y (by simp [hy]))
    have h2 := h x (by simp)
    unfold endK
    rw [List.length_cons]
    unfold nxt at h1 ⊢
    omega
theorem Bd.endK {l : List Bx} (h : Bd l) : endK 1 l ≤ 1000000000 := by
  have := endK_bd l 1 h.2
  have := h.1
  omega
theorem OwnL.out {w : World} {B : Nat} {v : Value} {L : List (Bx × (Option Addr × Nat))} {l : List Bx} (h : OwnL w B v L) (e : L.map (·.1) = l) : ∃ a cap A, v = .slice a l.length cap ∧ Bxs true B w.heap.size w a A l ∧ Dist A l.length := by
  obtain ⟨a, cap, hv, _, _, _, hb, hd⟩ := h.bxs
  have hl : L.length = l.length := by rw [← e]; simp
  rw [e] at hb
  rw [hl] at hv hd
  exact ⟨a, cap, _, hv, hb, hd⟩
theorem Only.same {S : Nat → Prop} {w w' : World} {lo hi : Nat} (h : Only S w w') (hi' : hi ≤ w.heap.size) (hS : ∀ b, lo ≤ b → b < hi → ¬ S b) : Same lo hi w w' := fun b h0 h1 => h.2.2.2.2 b (by omega) (hS b h0 h1)
end Go.Proofs.Ytdiamcejpjopgaa
