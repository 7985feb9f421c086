/-
  Plain facts on the texts of frames behind one another: the later text is greater, and where there is none the frame was the last one or its time 99:59:59. No program is named here; there are no conditions.
-/
import Derived.Test.YtffibbcombjkcaaReadP
namespace Go.Proofs.Ytffibbcombjkcaa.Pl

/-- greater, by bytes -/
def GT (x y : List UInt8) : Prop := Op.bytesLess x y = false ∧ x ≠ y
theorem GT.same {x y : List UInt8} (c : UInt8) (h : GT x y) : GT (c :: x) (c :: y) := by
  refine ⟨?_, by intro e; injection e with _ e2; exact h.2 e2⟩
  have hc : ¬ c < c := by simp
  simp [Op.bytesLess, h.1]
theorem GT.head {x y : List UInt8} {c d : UInt8} (h : d.toNat < c.toNat) : GT (c :: x) (d :: y) := by
  have h1 : ¬ c < d := by rw [UInt8.lt_iff_toNat_lt]; omega
  have h2 : c ≠ d := by intro e; subst e; omega
  refine ⟨?_, by intro e; injection e with e1 _; exact h2 e1⟩
  simp [Op.bytesLess, h2]
  rw [UInt8.le_iff_toNat_le]; omega
theorem GT.two {a b : Nat} (h : a < b) (hb : b < 100) (x y : List UInt8) : GT (two b ++ x) (two a ++ y) := by
  show GT (dg (b / 10) :: dg b :: x) (dg (a / 10) :: dg a :: y)
  by_cases h1 : a / 10 < b / 10
  · exact GT.head (by rw [dg_toNat, dg_toNat]; omega)
  · have e : a / 10 = b / 10 := by omega
    rw [e]
    exact GT.same _ (GT.head (by rw [dg_toNat, dg_toNat]; omega))
theorem GT.two_same (a : Nat) {x y : List UInt8} (h : GT x y) : GT (Pl.two a ++ x) (Pl.two a ++ y) := GT.same _ (GT.same _ h)
theorem GT.three {a b : Nat} (h : a < b) (hb : b < 1000) (x y : List UInt8) : GT (Pl.three b ++ x) (Pl.three a ++ y) := by
  show GT (dg (b / 100) :: dg (b / 10) :: dg b :: x) (dg (a / 100) :: dg (a / 10) :: dg a :: y)
  by_cases h1 : a / 100 < b / 100
  · exact GT.head (by rw [dg_toNat, dg_toNat]; omega)
  · have e : a / 100 = b / 100 := by omega
    rw [e]
    refine GT.same _ ?_
    by_cases h2 : a / 10 < b / 10
    · exact GT.head (by rw [dg_toNat, dg_toNat]; omega)
    · have e2 : a / 10 = b / 10 := by omega
      rw [e2]
      exact GT.same _ (GT.head (by rw [dg_toNat, dg_toNat]; omega))
theorem GT.ff {b x y : Int} (hb : b ≤ 120) (h0 : 0 ≤ x) (h : x < y) (hy : y < b) : GT (Pl.ff b y) (Pl.ff b x) := by
  unfold Pl.ff
  by_cases h1 : 100 < b
  · rw [if_pos h1, if_pos h1]
    have := GT.three (a := x.toNat) (b := y.toNat) (by omega) (by omega) [] []
    simpa using this
  · rw [if_neg h1, if_neg h1]
    have := GT.two (a := x.toNat) (b := y.toNat) (by omega) (by omega) [] []
    simpa using this
theorem txt_gt (dr : Bool) (b c c' : Int) (h0 : 0 ≤ c) (h : c < c') (hb : 1 ≤ b) (hb2 : b ≤ 120) (hh : ¬ 99 < c' / b / 3600) : GT (txt dr b c') (txt dr b c) := by
  have q0 : 0 ≤ c / b := Int.ediv_nonneg h0 (by omega)
  have q1 : c / b ≤ c' / b := Int.ediv_le_ediv (by omega) (by omega)
  have hc : b * (c / b) + c % b = c := Int.mul_ediv_add_emod c b
  have hc' : b * (c' / b) + c' % b = c' := Int.mul_ediv_add_emod c' b
  have r0 : 0 ≤ c % b := Int.emod_nonneg _ (by omega)
  have r1 : c' % b < b := Int.emod_lt_of_pos _ (by omega)
  unfold txt
  generalize c / b = s at *
  generalize c' / b = s' at *
  generalize c % b = r at *
  generalize c' % b = r' at *
  by_cases hs : s = s'
  · subst hs
    refine GT.two_same _ (GT.same _ (GT.two_same _ (GT.same _ (GT.two_same _ (GT.same _ (GT.ff hb2 r0 (by omega) r1))))))
  · by_cases h1 : s / 3600 < s' / 3600
    · exact GT.two (by omega) (by omega) _ _
    · have e1 : s / 3600 = s' / 3600 := by omega
      rw [e1]
      refine GT.two_same _ (GT.same _ ?_)
      by_cases h2 : s / 60 % 60 < s' / 60 % 60
      · exact GT.two (by omega) (by omega) _ _
      · have e2 : s / 60 % 60 = s' / 60 % 60 := by omega
        rw [e2]
        refine GT.two_same _ (GT.same _ ?_)
        exact GT.two (by omega) (by omega) _ _
theorem clk_lt (n : Int) (dr : Bool) (f : Int) (_h0 : 0 ≤ f) : clk n dr f < clk n dr (f + 1) := by
  unfold clk cd
  split
  · split <;> split <;> split <;> omega
  · omega
theorem tt_next {n d : Int} {dr : Bool} {f : Int} (h : tt n d dr f ≠ []) (k : tt n d dr (f + 1) ≠ []) : (tt n d dr (f + 1)).length = (tt n d dr f).length ∧ GT (tt n d dr (f + 1)) (tt n d dr f) := by
  refine ⟨by rw [tt_length h, tt_length k], ?_⟩
  obtain ⟨h1, h2, h3, h4⟩ := tt_some h
  obtain ⟨k1, k2, k3, k4⟩ := tt_some k
  obtain ⟨b1, b2⟩ := base_bd h1
  obtain ⟨f1, f2⟩ := isf_bd h2
  rw [h4, k4]
  exact txt_gt dr _ _ _ (clk_bd f1 f2).1 (clk_lt n dr f f1) b1 b2 k3
theorem tt_last {n d : Int} {dr : Bool} {f : Int} (h : tt n d dr f ≠ []) (k : tt n d dr (f + 1) = []) : f = 10000000 ∨ (tt n d dr f).take 8 = [57, 57, 58, 53, 57, 58, 53, 57] := by
  obtain ⟨h1, h2, h3, h4⟩ := tt_some h
  obtain ⟨b1, b2⟩ := base_bd h1
  obtain ⟨f1, f2⟩ := isf_bd h2
  by_cases hm : f = 10000000
  · exact .inl hm
  · refine .inr ?_
    have h2' : isf (f + 1) = true := isf_mk ⟨by omega, by omega⟩
    have hh : 99 < clk n dr (f + 1) / base n d dr / 3600 := by
      unfold tt at k
      rw [if_pos ⟨h1, h2'⟩] at k
      by_cases hx : 99 < clk n dr (f + 1) / base n d dr / 3600
      · exact hx
      · rw [if_neg hx] at k; simp [txt, two] at k
    have hq : clk n dr f / base n d dr = 359999 := by
      cases dr
      · have e1 : clk n false f = f := by simp [clk]
        have e2 : clk n false (f + 1) = f + 1 := by simp [clk]
        rw [e1] at h3 ⊢
        rw [e2] at hh
        have u1 : f / base n d false < 360000 := by omega
        have u2 : 360000 ≤ (f + 1) / base n d false := by omega
        have u3 := (Int.le_ediv_iff_mul_le (show 0 < base n d false by omega)).1 u2
        have u4 : 359999 ≤ f / base n d false := (Int.le_ediv_iff_mul_le (show 0 < base n d false by omega)).2 (by omega)
        omega
      · exfalso
        obtain ⟨rfl, rfl | rfl⟩ := rok_drop h1
        · rw [base30 h1] at hh
          have := (clk_bd (n := 30000) (dr := true) (f := f + 1) (by omega) (by omega))
          have e : clk 30000 true (f + 1) ≤ f + 1 + 20000 := by simp [clk, cd]; split <;> omega
          omega
        · rw [base60 h1] at hh
          have e : clk 60000 true (f + 1) ≤ f + 1 + 20000 := by simp [clk, cd]; split <;> omega
          omega
    rw [h4]
    unfold txt
    rw [hq]
    rfl

end Go.Proofs.Ytffibbcombjkcaa.Pl
