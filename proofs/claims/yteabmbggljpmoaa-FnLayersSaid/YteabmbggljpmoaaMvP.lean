/-
  Plain facts of pictures that are moved; no program is named.
-/
import Derived.Test.YteabmbggljpmoaaPxP
namespace Go.Proofs.Yteabmbggljpmoaa
set_option linter.unusedVariables false
set_option linter.unusedSimpArgs false

def SideOk (n : Int) : Prop := 1 ≤ n ∧ n ≤ 64
instance (n : Int) : Decidable (SideOk n) := by unfold SideOk; infer_instance
def ByOk (d : Int) : Prop := -10000000 ≤ d ∧ d ≤ 10000000
instance (n : Int) : Decidable (ByOk n) := by unfold ByOk; infer_instance
/-- all are pixels -/
def CsOk (l : List Kl) : Prop := ∀ c ∈ l, Pix c
instance (l : List Kl) : Decidable (CsOk l) := by unfold CsOk; infer_instance
theorem CsOk.at {l : List Kl} (h : CsOk l) {j : Nat} {c : Kl} (hj : l[j]? = some c) : Pix c := h c (List.mem_of_getElem? hj)
theorem csno {l : List Kl} {j : Nat} {c : Kl} (hj : l[j]? = some c) (h : ¬ Pix c) : ¬ CsOk l := fun H => h (H.at hj)
/-- the first k are pixels -/
def CsPre (l : List Kl) (k : Nat) : Prop := ∀ j c, j < k → l[j]? = some c → Pix c
theorem CsPre.zero (l : List Kl) : CsPre l 0 := fun j c h => by omega
theorem CsPre.step {l : List Kl} {k : Nat} {c : Kl} (h : CsPre l k) (hk : l[k]? = some c) (hc : Pix c) : CsPre l (k + 1) := by
  intro j d hj hd
  by_cases e : j = k
  · subst e; rw [hk] at hd; cases hd; exact hc
  · exact h j d (by omega) hd
theorem CsPre.all {l : List Kl} (h : CsPre l l.length) : CsOk l := by
  intro c hc
  obtain ⟨j, hj, he⟩ := List.mem_iff_getElem.1 hc
  exact h j c hj (by rw [List.getElem?_eq_getElem hj, he])
def PicOk (w h : Int) (l : List Kl) : Prop := SideOk w ∧ SideOk h ∧ (l.length : Int) = w * h ∧ CsOk l
instance (w h : Int) (l : List Kl) : Decidable (PicOk w h l) := by unfold PicOk; infer_instance
def InAt (w h dx dy y x : Int) : Prop := (0 ≤ x - dx ∧ x - dx < w) ∧ (0 ≤ y - dy ∧ y - dy < h)
instance (w h dx dy y x : Int) : Decidable (InAt w h dx dy y x) := by unfold InAt; infer_instance
def mvAt (w h : Int) (l : List Kl) (dx dy y x : Int) : Kl := if InAt w h dx dy y x then l.getD ((y - dy) * w + (x - dx)).toNat Z4 else Z4
def mvL (w h : Int) (l : List Kl) (dx dy : Int) (k : Nat) : List Kl := (List.range k).map fun i : Nat => mvAt w h l dx dy ((i : Int) / w) ((i : Int) % w)
def MvOk (w h : Int) (l : List Kl) (dx dy : Int) : Prop := PicOk w h l ∧ ByOk dx ∧ ByOk dy
instance (w h : Int) (l : List Kl) (dx dy : Int) : Decidable (MvOk w h l dx dy) := by unfold MvOk; infer_instance
def movedOf (w h : Int) (l : List Kl) (dx dy : Int) : List Kl := if MvOk w h l dx dy then mvL w h l dx dy l.length else []
theorem mvL_len (w h : Int) (l : List Kl) (dx dy : Int) (k : Nat) : (mvL w h l dx dy k).length = k := by simp [mvL]
theorem mvL_snoc (w h : Int) (l : List Kl) (dx dy : Int) (k : Nat) : mvL w h l dx dy (k + 1) = mvL w h l dx dy k ++ [mvAt w h l dx dy ((k : Int) / w) ((k : Int) % w)] := by
  simp [mvL, List.range_succ]
theorem moved_len (w h : Int) (l : List Kl) (dx dy : Int) : (movedOf w h l dx dy).length ≤ l.length := by
  unfold movedOf
  split
  · rw [mvL_len]; exact Nat.le_refl _
  · simp
theorem pic_len {w h : Int} {l : List Kl} (hp : PicOk w h l) : l.length ≤ 4096 := by
  obtain ⟨⟨w0, w1⟩, ⟨h0, h1⟩, hl, _⟩ := hp
  have := (mul_nn (u := w) (v := h) (a := 64) (b := 64) ⟨by omega, w1⟩ ⟨by omega, h1⟩).2
  omega
/-- a place by row and column -/
theorem at_yx {wn y x : Nat} (hx : x < wn) : ((y * wn + x : Nat) : Int) / (wn : Int) = y ∧ ((y * wn + x : Nat) : Int) % (wn : Int) = x := by
  have h0 : (0 : Int) < wn := by omega
  have e : ((y * wn + x : Nat) : Int) = x + (wn : Int) * y := by rw [Int.natCast_add, Int.natCast_mul, Int.mul_comm]; omega
  rw [e]
  constructor
  · rw [Int.add_mul_ediv_left _ _ (by omega), Int.ediv_eq_zero_of_lt (by omega) (by omega)]; omega
  · rw [Int.add_mul_emod_self_left, Int.emod_eq_of_lt (by omega) (by omega)]
/-- where it comes from lies in the list -/
theorem from_in {wn hn y x : Nat} {dx dy : Int} {l : List Kl} (hl : l.length = wn * hn) (h : InAt wn hn dx dy y x) :
    ∃ J : Nat, ((y : Int) - dy) * wn + ((x : Int) - dx) = J ∧ J < l.length ∧ 0 ≤ ((y : Int) - dy) * wn ∧ ((y : Int) - dy) * wn ≤ wn * hn := by
  obtain ⟨⟨x0, x1⟩, y0, y1⟩ := h
  obtain ⟨Y, hY⟩ : ∃ Y : Nat, (y : Int) - dy = Y := ⟨((y : Int) - dy).toNat, by omega⟩
  obtain ⟨X, hX⟩ : ∃ X : Nat, (x : Int) - dx = X := ⟨((x : Int) - dx).toNat, by omega⟩
  rw [hY, hX]
  have hYh : Y + 1 ≤ hn := by omega
  have hm : (Y + 1) * wn ≤ hn * wn := Nat.mul_le_mul_right _ hYh
  rw [Nat.add_mul, Nat.one_mul] at hm
  have hc : hn * wn = wn * hn := Nat.mul_comm _ _
  refine ⟨Y * wn + X, by rw [Int.natCast_add, Int.natCast_mul], by omega, ?_, ?_⟩
  · rw [← Int.natCast_mul]; omega
  · rw [← Int.natCast_mul, ← Int.natCast_mul]; omega
theorem place_lt {wn hn y x : Nat} (hy : y < hn) (hx : x < wn) : y * wn + x < wn * hn ∧ y * wn + wn ≤ wn * hn := by
  have hm : (y + 1) * wn ≤ hn * wn := Nat.mul_le_mul_right _ hy
  rw [Nat.add_mul, Nat.one_mul, Nat.mul_comm hn wn] at hm
  omega
/-- the program's list as it stands: the first k are there, nought behind them -/
def mvM (w h : Int) (l : List Kl) (dx dy : Int) (n k : Nat) : List Kl := mvL w h l dx dy k ++ List.replicate (n - k) Z4
theorem mvM_len {w h : Int} {l : List Kl} {dx dy : Int} {n k : Nat} (hk : k ≤ n) : (mvM w h l dx dy n k).length = n := by simp [mvM, mvL_len]; omega
theorem mvM_zero (w h : Int) (l : List Kl) (dx dy : Int) (n : Nat) : mvM w h l dx dy n 0 = List.replicate n Z4 := by simp [mvM, mvL]
theorem mvM_all (w h : Int) (l : List Kl) (dx dy : Int) (n : Nat) : mvM w h l dx dy n n = mvL w h l dx dy n := by simp [mvM]
theorem mvM_set {w h : Int} {l : List Kl} {dx dy : Int} {n k : Nat} (hk : k < n) : (mvM w h l dx dy n k).set k (mvAt w h l dx dy ((k : Int) / w) ((k : Int) % w)) = mvM w h l dx dy n (k + 1) := by
  unfold mvM
  rw [mvL_snoc, List.set_append_right _ _ (by rw [mvL_len]; exact Nat.le_refl _), mvL_len]
  have e : n - k = (n - (k + 1)) + 1 := by omega
  rw [e, List.replicate_succ]
  simp
theorem mvM_same {w h : Int} {l : List Kl} {dx dy : Int} {n k : Nat} (hk : k < n) (hz : mvAt w h l dx dy ((k : Int) / w) ((k : Int) % w) = Z4) : mvM w h l dx dy n k = mvM w h l dx dy n (k + 1) := by
  rw [← mvM_set hk, hz]
  unfold mvM
  rw [List.set_append_right _ _ (by rw [mvL_len]; exact Nat.le_refl _), mvL_len]
  have e : n - k = (n - (k + 1)) + 1 := by omega
  rw [e, List.replicate_succ]
  simp
theorem mvAt_in {w h dx dy y x : Int} {l : List Kl} {J : Nat} {z : Kl} (h1 : InAt w h dx dy y x) (hJ : (y - dy) * w + (x - dx) = J) (hz : l[J]? = some z) : mvAt w h l dx dy y x = z := by
  unfold mvAt
  rw [if_pos h1, hJ]
  simp [List.getD, hz]
theorem mvAt_out {w h dx dy y x : Int} {l : List Kl} (h1 : ¬ InAt w h dx dy y x) : mvAt w h l dx dy y x = Z4 := by unfold mvAt; rw [if_neg h1]

end Go.Proofs.Yteabmbggljpmoaa
