/-
  Plain facts on the model's reading of a time's text by places: of the text of a frame come its fields, and of these the frame. No program is named here; there are no conditions.
-/
import Derived.Test.YthjggjnkhhoigaaGreatDoorReadP
namespace Go.Proofs.YthjggjnkhhoigaaGreatDoor.Pl

/-- the number of n digits from a place on -/
def av (t : List UInt8) (lo : Nat) : Nat → Int
  | 0 => 0
  | n + 1 => av t lo n * 10 + (((t.getD (lo + n) 0).toNat : Int) - 48)
def dgt (t : List UInt8) (p : Nat) : Prop := 48 ≤ (t.getD p 0).toNat ∧ (t.getD p 0).toNat ≤ 57
theorem av_bd (t : List UInt8) (lo n : Nat) (hn : n ≤ 3) (h : ∀ m, m < n → dgt t (lo + m)) : 0 ≤ av t lo n ∧ av t lo n ≤ 999 ∧ (n ≤ 2 → av t lo n ≤ 99) := by
  obtain rfl | rfl | rfl | rfl : n = 0 ∨ n = 1 ∨ n = 2 ∨ n = 3 := by omega
  · simp [av]
  · have h0 := h 0 (by omega)
    unfold dgt at h0
    simp only [av]; omega
  · have h0 := h 0 (by omega)
    have h1 := h 1 (by omega)
    unfold dgt at h0 h1
    simp only [av]; omega
  · have h0 := h 0 (by omega)
    have h1 := h 1 (by omega)
    have h2 := h 2 (by omega)
    unfold dgt at h0 h1 h2
    simp only [av]; omega
def nd (len i : Nat) : Nat := if i = 3 then len - 9 else 2
def sF (dr : Bool) (b l0 l1 l2 l3 : Int) : Int :=
  if dr = true then ((l0 * 60 + l1) * 60 + l2) * b + l3 - b / 15 * ((l0 * 60 + l1) - (l0 * 60 + l1) / 10) else ((l0 * 60 + l1) * 60 + l2) * b + l3

theorem sF_clk {n d : Int} {dr : Bool} {f : Int} (hr : rok n d dr = true) (hf : isf f = true) :
    sF dr (base n d dr) (clk n dr f / base n d dr / 3600) (clk n dr f / base n d dr / 60 % 60) (clk n dr f / base n d dr % 60) (clk n dr f % base n d dr) = f := by
  obtain ⟨b1, b2⟩ := base_bd hr
  have hcf := cf_clk hr hf
  have hc : base n d dr * (clk n dr f / base n d dr) + clk n dr f % base n d dr = clk n dr f := Int.mul_ediv_add_emod _ _
  have e : ∀ s : Int, (s / 3600 * 60 + s / 60 % 60) * 60 + s % 60 = s := by intro s; omega
  have hN : ((clk n dr f / base n d dr / 3600 * 60 + clk n dr f / base n d dr / 60 % 60) * 60 + clk n dr f / base n d dr % 60) * base n d dr + clk n dr f % base n d dr = clk n dr f := by
    rw [e, Int.mul_comm]; exact hc
  unfold sF
  rw [hN]
  cases dr
  · rw [if_neg (by simp)]; simp [clk]
  · rw [if_pos rfl]
    obtain ⟨rfl, rfl | rfl⟩ := rok_drop hr
    · rw [base30 hr] at hcf ⊢
      simp [cf, left] at hcf
      generalize clk 30000 true f = c at *
      omega
    · rw [base60 hr] at hcf ⊢
      simp [cf, left] at hcf
      generalize clk 60000 true f = c at *
      omega
theorem dg_dgt (n : Nat) : 48 ≤ (dg n).toNat ∧ (dg n).toNat ≤ 57 := by rw [dg_toNat]; omega
theorem dg_val (n : Nat) : ((dg n).toNat : Int) - 48 = ((n % 10 : Nat) : Int) := by rw [dg_toNat]; omega

/-- the text of a frame is read by places -/
theorem txt_read (dr : Bool) (b c : Int) (h0 : 0 ≤ c) (hb : 1 ≤ b) (hb2 : b ≤ 120) (hh : ¬ 99 < c / b / 3600) :
    (∀ i, i < 4 → ∀ m, m < nd (txt dr b c).length i → dgt (txt dr b c) (3 * i + m)) ∧ av (txt dr b c) 0 2 = c / b / 3600 ∧ av (txt dr b c) 3 2 = c / b / 60 % 60 ∧ av (txt dr b c) 6 2 = c / b % 60 ∧ av (txt dr b c) 9 ((txt dr b c).length - 9) = c % b := by
  have q0 : 0 ≤ c / b := Int.ediv_nonneg h0 (by omega)
  have r0 : 0 ≤ c % b := Int.emod_nonneg _ (by omega)
  have r1 : c % b < b := Int.emod_lt_of_pos _ (by omega)
  unfold txt
  generalize c / b = s at *
  generalize c % b = r at *
  by_cases h : 100 < b
  · have e : ff b r = three r.toNat := by simp [ff, h]
    rw [e]
    refine ⟨?_, ?_, ?_, ?_, ?_⟩
    · intro i hi m hm
      obtain rfl | rfl | rfl | rfl : i = 0 ∨ i = 1 ∨ i = 2 ∨ i = 3 := by omega
      all_goals simp [nd, two, three] at hm
      · obtain rfl | rfl : m = 0 ∨ m = 1 := by omega
        all_goals exact dg_dgt _
      · obtain rfl | rfl : m = 0 ∨ m = 1 := by omega
        all_goals exact dg_dgt _
      · obtain rfl | rfl : m = 0 ∨ m = 1 := by omega
        all_goals exact dg_dgt _
      · obtain rfl | rfl | rfl : m = 0 ∨ m = 1 ∨ m = 2 := by omega
        all_goals exact dg_dgt _
    · simp [av, two, dg_val]; omega
    · simp [av, two, dg_val]; omega
    · simp [av, two, dg_val]; omega
    · simp [av, two, three, dg_val]; omega
  · have e : ff b r = two r.toNat := by simp [ff, h]
    rw [e]
    refine ⟨?_, ?_, ?_, ?_, ?_⟩
    · intro i hi m hm
      obtain rfl | rfl | rfl | rfl : i = 0 ∨ i = 1 ∨ i = 2 ∨ i = 3 := by omega
      all_goals simp [nd, two] at hm
      all_goals obtain rfl | rfl : m = 0 ∨ m = 1 := by omega
      all_goals exact dg_dgt _
    · simp [av, two, dg_val]; omega
    · simp [av, two, dg_val]; omega
    · simp [av, two, dg_val]; omega
    · simp [av, two, dg_val]; omega
theorem tt_sread {n d : Int} {dr : Bool} {f : Int} {t : List UInt8} (h : tt n d dr f = t) (ht : t ≠ []) :
    (∀ i, i < 4 → ∀ m, m < nd t.length i → dgt t (3 * i + m)) ∧ sF dr (base n d dr) (av t 0 2) (av t 3 2) (av t 6 2) (av t 9 (t.length - 9)) = f := by
  subst h
  obtain ⟨h1, h2, h3, h4⟩ := tt_some ht
  obtain ⟨b1, b2⟩ := base_bd h1
  obtain ⟨f1, f2⟩ := isf_bd h2
  rw [h4]
  obtain ⟨a0, a1, a2, a3, a4⟩ := txt_read dr _ _ (clk_bd (n := n) (dr := dr) f1 f2).1 b1 b2 h3
  refine ⟨a0, ?_⟩
  rw [a1, a2, a3, a4]
  exact sF_clk h1 h2

end Go.Proofs.YthjggjnkhhoigaaGreatDoor.Pl
