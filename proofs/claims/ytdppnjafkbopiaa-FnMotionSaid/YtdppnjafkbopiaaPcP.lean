/-
  Plain facts of pictures: what a picture is, a block turned, a block moved, differences, the best motion; no program is named.
-/
namespace Go.Proofs.Ytdppnjafkbopiaa
set_option linter.unusedVariables false
set_option linter.unusedSimpArgs false

def Side4 (n : Int) : Prop := n = 4 ∨ n = 8 ∨ n = 12 ∨ n = 16
instance (n : Int) : Decidable (Side4 n) := by unfold Side4; infer_instance
def Px8 (n : Int) : Prop := 0 ≤ n ∧ n ≤ 255
instance (n : Int) : Decidable (Px8 n) := by unfold Px8; infer_instance
def PcOk (W H : Int) (l : List Int) : Prop := Side4 W ∧ Side4 H ∧ (l.length : Int) = W * H ∧ ∀ x ∈ l, Px8 x

theorem side4_bd {n : Int} (h : Side4 n) : 4 ≤ n ∧ n ≤ 16 := by unfold Side4 at h; omega
theorem side4_iff (n : Int) : Side4 n ↔ (4 ≤ n ∧ n ≤ 16) ∧ n % 4 = 0 := by unfold Side4; omega
theorem mul4 {W H : Int} (hW : Side4 W) (hH : Side4 H) : 16 ≤ W * H ∧ W * H ≤ 256 := by
  unfold Side4 at hW hH
  rcases hW with rfl | rfl | rfl | rfl <;> rcases hH with rfl | rfl | rfl | rfl <;> decide

/-- one of the four numbers that a row is turned into -/
def four (a b c d : Int) : Nat → Int
  | 0 => a + b + c + d
  | 1 => a + b - c - d
  | 2 => a - b - c + d
  | _ => a - b + c - d
theorem four_bd {a b c d B : Int} (ha : -B ≤ a ∧ a ≤ B) (hb : -B ≤ b ∧ b ≤ B) (hc : -B ≤ c ∧ c ≤ B) (hd : -B ≤ d ∧ d ≤ B) (k : Nat) : -(4 * B) ≤ four a b c d k ∧ four a b c d k ≤ 4 * B := by
  unfold four; split <;> omega
/-- what the rows of a block are turned into, aslant: at 4 x + y number x of row y -/
def asl (f : Nat → Int) (i : Nat) : Int := four (f (4 * (i % 4))) (f (4 * (i % 4) + 1)) (f (4 * (i % 4) + 2)) (f (4 * (i % 4) + 3)) (i / 4)
def Bdd (B : Int) (f : Nat → Int) : Prop := ∀ i, i < 16 → -B ≤ f i ∧ f i ≤ B
theorem Bdd.asl {B : Int} {f : Nat → Int} (h : Bdd B f) : Bdd (4 * B) (asl f) := by
  intro i hi
  exact four_bd (h _ (by omega)) (h _ (by omega)) (h _ (by omega)) (h _ (by omega)) _
/-- a block turned -/
def trn (f : Nat → Int) : Nat → Int := asl (asl f)
theorem Bdd.trn {B : Int} {f : Nat → Int} (h : Bdd B f) : Bdd (16 * B) (trn f) := by
  have := h.asl.asl
  intro i hi
  have := this i hi
  unfold Go.Proofs.Ytdppnjafkbopiaa.trn
  omega
theorem Bdd.mono {B C : Int} {f : Nat → Int} (h : Bdd B f) (hc : B ≤ C) : Bdd C f := fun i hi => by have := h i hi; omega
/-- the rows turned, in their places -/
def mid (f : Nat → Int) (i : Nat) : Int := four (f (4 * (i / 4))) (f (4 * (i / 4) + 1)) (f (4 * (i / 4) + 2)) (f (4 * (i / 4) + 3)) (i % 4)
theorem trn_mid (f : Nat → Int) (k r : Nat) (hk : k < 4) (hr : r < 4) : trn f (4 * r + k) = four (mid f k) (mid f (k + 4)) (mid f (k + 8)) (mid f (k + 12)) r := by
  have e : ∀ j, j < 4 → asl f (4 * k + j) = mid f (k + 4 * j) := by
    intro j hj
    unfold asl mid
    have a1 : (4 * k + j) % 4 = j := by omega
    have a2 : (4 * k + j) / 4 = k := by omega
    have a3 : (k + 4 * j) / 4 = j := by omega
    have a4 : (k + 4 * j) % 4 = k := by omega
    rw [a1, a2, a3, a4]
  unfold trn
  have b1 : (4 * r + k) % 4 = k := by omega
  have b2 : (4 * r + k) / 4 = r := by omega
  rw [show asl (asl f) (4 * r + k) = four (asl f (4 * ((4 * r + k) % 4))) (asl f (4 * ((4 * r + k) % 4) + 1)) (asl f (4 * ((4 * r + k) % 4) + 2)) (asl f (4 * ((4 * r + k) % 4) + 3)) ((4 * r + k) / 4) from rfl, b1, b2]
  have e0 := e 0 (by omega)
  have e1 := e 1 (by omega)
  have e2 := e 2 (by omega)
  have e3 := e 3 (by omega)
  simp only [Nat.add_zero, Nat.mul_zero, Nat.mul_one] at e0 e1 e2 e3
  rw [e0, e1, e2, e3]
theorem four_four (a b c d : Int) (k : Nat) (hk : k < 4) : four (four a b c d 0) (four a b c d 1) (four a b c d 2) (four a b c d 3) k = 4 * (match k with | 0 => a | 1 => b | 2 => c | _ => d) := by
  match k, hk with
  | 0, _ => simp [four]; omega
  | 1, _ => simp [four]; omega
  | 2, _ => simp [four]; omega
  | 3, _ => simp [four]; omega
/-- the number x kept from 0 to n - 1 -/
def clp (n x : Int) : Int := min (n - 1) (max 0 x)
theorem clp_bd {n x : Int} (h : 1 ≤ n) : 0 ≤ clp n x ∧ clp n x ≤ n - 1 := by unfold clp; omega
theorem clp_alt (n x : Int) (h : 1 ≤ n) : min (max x 0) (n - 1) = clp n x := by unfold clp; omega
/-- a pixel, or the nearest one inside -/
def pxA (W H : Int) (l : List Int) (x y : Int) : Int := l.getD (clp H y * W + clp W x).toNat 0
theorem pl_bd {W H x y : Int} (hW : Side4 W) (hH : Side4 H) (hx : 0 ≤ x ∧ x ≤ W - 1) (hy : 0 ≤ y ∧ y ≤ H - 1) : 0 ≤ y * W + x ∧ y * W + x < W * H ∧ 0 ≤ y * W ∧ y * W ≤ 240 := by
  unfold Side4 at hW hH
  rcases hW with rfl | rfl | rfl | rfl <;> rcases hH with rfl | rfl | rfl | rfl <;> omega
theorem pxA_at {W H x y : Int} {l : List Int} (h : PcOk W H l) : ∃ k : Nat, (k : Int) = clp H y * W + clp W x ∧ k < l.length ∧ l[k]? = some (pxA W H l x y) ∧ Px8 (pxA W H l x y) := by
  obtain ⟨hW, hH, hl, hp⟩ := h
  have b1 := clp_bd (n := W) (x := x) (by have := side4_bd hW; omega)
  have b2 := clp_bd (n := H) (x := y) (by have := side4_bd hH; omega)
  have b3 := pl_bd hW hH b1 b2
  have hk : (clp H y * W + clp W x).toNat < l.length := by omega
  have e : l[(clp H y * W + clp W x).toNat]? = some l[(clp H y * W + clp W x).toNat] := List.getElem?_eq_getElem hk
  have e2 : pxA W H l x y = l[(clp H y * W + clp W x).toNat] := by unfold pxA; simp [List.getD, e]
  refine ⟨_, by omega, hk, by rw [e2]; exact e, ?_⟩
  rw [e2]; exact hp _ (List.getElem_mem hk)
/-- pixel i of block n, moved -/
def blk (W H : Int) (l : List Int) (n dx dy : Int) (i : Nat) : Int := pxA W H l (n % (W / 4) * 4 + (i % 4 : Nat) + dx) (n / (W / 4) * 4 + (i / 4 : Nat) + dy)
theorem blk_px {W H n dx dy : Int} {l : List Int} (h : PcOk W H l) (i : Nat) : Px8 (blk W H l n dx dy i) := by
  obtain ⟨k, _, _, _, h⟩ := pxA_at (x := n % (W / 4) * 4 + (i % 4 : Nat) + dx) (y := n / (W / 4) * 4 + (i / 4 : Nat) + dy) h
  exact h
def nBl (W H : Int) : Int := W / 4 * (H / 4)
theorem nBl_eq {W H : Int} (hW : Side4 W) (hH : Side4 H) : W * H / 16 = nBl W H ∧ 1 ≤ nBl W H ∧ nBl W H ≤ 16 := by
  unfold Side4 at hW hH; unfold nBl
  rcases hW with rfl | rfl | rfl | rfl <;> rcases hH with rfl | rfl | rfl | rfl <;> decide
theorem cor_bd {W H n : Int} (hW : Side4 W) (hH : Side4 H) (h0 : 0 ≤ n) (h1 : n < nBl W H) : 1 ≤ W / 4 ∧ W / 4 ≤ 4 ∧ 0 ≤ n % (W / 4) * 4 ∧ n % (W / 4) * 4 ≤ W - 4 ∧ 0 ≤ n / (W / 4) * 4 ∧ n / (W / 4) * 4 ≤ H - 4 := by
  unfold Side4 at hW hH; unfold nBl at h1
  rcases hW with rfl | rfl | rfl | rfl <;> rcases hH with rfl | rfl | rfl | rfl <;> simp at h1 ⊢ <;> omega
/-- the sum of the first k differences -/
def dif (f g : Nat → Int) : Nat → Int
  | 0 => 0
  | k + 1 => dif f g k + max (f k - g k) (g k - f k)
theorem dif_bd {f g : Nat → Int} (hf : ∀ i, Px8 (f i)) (hg : ∀ i, Px8 (g i)) (k : Nat) : 0 ≤ dif f g k ∧ dif f g k ≤ 255 * k := by
  induction k with
  | zero => simp [dif]
  | succ k ih =>
    have := hf k
    have := hg k
    unfold Px8 at *
    unfold dif
    omega
theorem dif_self (f : Nat → Int) (k : Nat) : dif f f k = 0 := by
  induction k with
  | zero => rfl
  | succ k ih => unfold dif; omega
/-- a motion -/
def InM (dx dy : Int) : Prop := -2 ≤ dx ∧ dx ≤ 2 ∧ -2 ≤ dy ∧ dy ≤ 2
def len2 (dx dy : Int) : Int := dx * dx + dy * dy
theorem len2_bd {dx dy : Int} (h : InM dx dy) : 0 ≤ len2 dx dy ∧ len2 dx dy ≤ 8 := by
  unfold InM at h; unfold len2
  have hx : dx = -2 ∨ dx = -1 ∨ dx = 0 ∨ dx = 1 ∨ dx = 2 := by omega
  have hy : dy = -2 ∨ dy = -1 ∨ dy = 0 ∨ dy = 1 ∨ dy = 2 := by omega
  rcases hx with rfl | rfl | rfl | rfl | rfl <;> rcases hy with rfl | rfl | rfl | rfl | rfl <;> decide
theorem len2_zero {dx dy : Int} (h : InM dx dy) (e : len2 dx dy = 0) : dx = 0 ∧ dy = 0 := by
  unfold InM at h; unfold len2 at e
  have hx : dx = -2 ∨ dx = -1 ∨ dx = 0 ∨ dx = 1 ∨ dx = 2 := by omega
  have hy : dy = -2 ∨ dy = -1 ∨ dy = 0 ∨ dy = 1 ∨ dy = 2 := by omega
  rcases hx with rfl | rfl | rfl | rfl | rfl <;> rcases hy with rfl | rfl | rfl | rfl | rfl <;> simp at e ⊢
/-- of two motions the first is no worse -/
def NoW (D : Int → Int → Int) (a b c d : Int) : Prop :=
  D a b < D c d ∨ (D a b = D c d ∧ (len2 a b < len2 c d ∨ (len2 a b = len2 c d ∧ (b < d ∨ (b = d ∧ a ≤ c)))))
theorem NoW.refl (D : Int → Int → Int) (a b : Int) : NoW D a b a b := Or.inr ⟨rfl, Or.inr ⟨rfl, Or.inr ⟨rfl, Int.le_refl _⟩⟩⟩
theorem NoW.trans {D : Int → Int → Int} {a b c d e f : Int} (h : NoW D a b c d) (g : NoW D c d e f) : NoW D a b e f := by
  unfold NoW at *; omega
theorem NoW.anti {D : Int → Int → Int} {a b c d : Int} (h : NoW D a b c d) (g : NoW D c d a b) : a = c ∧ b = d := by
  unfold NoW at *; omega
def Best (D : Int → Int → Int) (a b : Int) : Prop := InM a b ∧ ∀ c d, InM c d → NoW D a b c d
theorem Best.uniq {D : Int → Int → Int} {a b c d : Int} (h : Best D a b) (g : Best D c d) : a = c ∧ b = d := (h.2 c d g.1).anti (g.2 a b h.1)
/-- what the program has gone through: the motions ahead of (dx, dy), by dy, then dx, and none -/
def Gone (dx dy c d : Int) : Prop := InM c d ∧ (d < dy ∨ (d = dy ∧ c < dx) ∨ (c = 0 ∧ d = 0))
def IBest (D : Int → Int → Int) (dx dy a b : Int) : Prop := Gone dx dy a b ∧ ∀ c d, Gone dx dy c d → NoW D a b c d
theorem inM0 : InM 0 0 := by unfold InM; omega
theorem ibest_start (D : Int → Int → Int) (dx dy : Int) (hx : dx ≤ -2) (hy : dy ≤ -2) : IBest D dx dy 0 0 := by
  refine ⟨⟨inM0, Or.inr (Or.inr ⟨rfl, rfl⟩)⟩, fun c d h => ?_⟩
  unfold Gone InM at h
  have : c = 0 ∧ d = 0 := by omega
  obtain ⟨rfl, rfl⟩ := this
  exact NoW.refl _ _ _
theorem ibest_take {D : Int → Int → Int} {dx dy a b : Int} (h : IBest D dx dy a b) (hm : InM dx dy) (ht : D dx dy < D a b ∨ (D dx dy = D a b ∧ len2 dx dy < len2 a b)) : IBest D (dx + 1) dy dx dy := by
  refine ⟨⟨hm, Or.inr (Or.inl ⟨rfl, by omega⟩)⟩, fun c d g => ?_⟩
  by_cases e : c = dx ∧ d = dy
  · obtain ⟨rfl, rfl⟩ := e; exact NoW.refl _ _ _
  · have g' : Gone dx dy c d := ⟨g.1, by have := g.2; omega⟩
    have h1 := h.2 c d g'
    have h2 : NoW D dx dy a b := by unfold NoW; omega
    exact h2.trans h1
theorem ibest_keep {D : Int → Int → Int} {dx dy a b : Int} (h : IBest D dx dy a b) (hm : InM dx dy) (ht : ¬ (D dx dy < D a b ∨ (D dx dy = D a b ∧ len2 dx dy < len2 a b))) : IBest D (dx + 1) dy a b := by
  obtain ⟨⟨g1, g2⟩, h2⟩ := h
  refine ⟨⟨g1, by omega⟩, fun c d g => ?_⟩
  by_cases e : c = dx ∧ d = dy
  · obtain ⟨rfl, rfl⟩ := e
    by_cases hz : a = 0 ∧ b = 0
    · obtain ⟨rfl, rfl⟩ := hz
      have l0 : len2 0 0 = 0 := rfl
      have l1 := (len2_bd hm).1
      by_cases l2 : len2 c d = 0
      · obtain ⟨rfl, rfl⟩ := len2_zero hm l2
        exact NoW.refl _ _ _
      · unfold NoW; omega
    · unfold NoW; omega
  · exact h2 c d ⟨g.1, by have := g.2; omega⟩
theorem ibest_row {D : Int → Int → Int} {dy a b : Int} (h : IBest D 3 dy a b) : IBest D (-2) (dy + 1) a b := by
  obtain ⟨⟨g1, g2⟩, h2⟩ := h
  refine ⟨⟨g1, by unfold InM at g1; omega⟩, fun c d g => h2 c d ⟨g.1, by have := g.1; have := g.2; unfold InM at *; omega⟩⟩
theorem ibest_end {D : Int → Int → Int} {a b : Int} (h : IBest D (-2) 3 a b) : Best D a b :=
  ⟨h.1.1, fun c d hm => h.2 c d ⟨hm, by unfold InM at hm; omega⟩⟩
/-- what the model has gone through: by length, then dy, then dx -/
def GoneS (far dx dy c d : Int) : Prop := InM c d ∧ (len2 c d < far ∨ (len2 c d = far ∧ (d < dy ∨ (d = dy ∧ c < dx))))
/-- best is -1 where nothing was gone through -/
def SBest (D : Int → Int → Int) (far dx dy best a b : Int) : Prop :=
  (best = -1 ∧ a = 0 ∧ b = 0 ∧ ∀ c d, ¬ GoneS far dx dy c d) ∨ (best = D a b ∧ GoneS far dx dy a b ∧ ∀ c d, GoneS far dx dy c d → NoW D a b c d)
theorem sbest_start (D : Int → Int → Int) : SBest D 0 (-2) (-2) (-1) 0 0 := by
  refine Or.inl ⟨rfl, rfl, rfl, fun c d h => ?_⟩
  have := (len2_bd h.1).1
  have := h.1
  have := h.2
  unfold InM at *; omega
theorem sbest_pass {D : Int → Int → Int} {far dx dy best a b : Int} (h : SBest D far dx dy best a b) (hf : len2 dx dy ≠ far) : SBest D far (dx + 1) dy best a b := by
  have key : ∀ c d, GoneS far (dx + 1) dy c d → GoneS far dx dy c d := by
    intro c d g
    refine ⟨g.1, ?_⟩
    by_cases e : c = dx ∧ d = dy
    · obtain ⟨rfl, rfl⟩ := e; have := g.2; omega
    · have := g.2; omega
  rcases h with ⟨h1, h2, h3, h4⟩ | ⟨h1, h2, h3⟩
  · exact Or.inl ⟨h1, h2, h3, fun c d g => h4 c d (key c d g)⟩
  · exact Or.inr ⟨h1, ⟨h2.1, by have := h2.2; omega⟩, fun c d g => h3 c d (key c d g)⟩
theorem sbest_take {D : Int → Int → Int} {far dx dy best a b : Int} (hm : InM dx dy) (h : SBest D far dx dy best a b) (hf : len2 dx dy = far) (ht : best < 0 ∨ D dx dy < best) (hD : ∀ c d, 0 ≤ D c d) : SBest D far (dx + 1) dy (D dx dy) dx dy := by
  refine Or.inr ⟨rfl, ⟨hm, by omega⟩, fun c d g => ?_⟩
  by_cases e : c = dx ∧ d = dy
  · obtain ⟨rfl, rfl⟩ := e; exact NoW.refl _ _ _
  · have g' : GoneS far dx dy c d := ⟨g.1, by have := g.2; omega⟩
    rcases h with ⟨h1, h2, h3, h4⟩ | ⟨h1, h2, h3⟩
    · exact absurd g' (h4 c d)
    · have h5 := h3 c d g'
      have := hD a b
      have : D dx dy < D a b := by omega
      exact NoW.trans (Or.inl this) h5
theorem sbest_keep {D : Int → Int → Int} {far dx dy best a b : Int} (hm : InM dx dy) (h : SBest D far dx dy best a b) (hf : len2 dx dy = far) (ht : ¬ (best < 0 ∨ D dx dy < best)) : SBest D far (dx + 1) dy best a b := by
  rcases h with ⟨h1, h2, h3, h4⟩ | ⟨h1, h2, h3⟩
  · omega
  · refine Or.inr ⟨h1, ⟨h2.1, by have := h2.2; omega⟩, fun c d g => ?_⟩
    by_cases e : c = dx ∧ d = dy
    · obtain ⟨rfl, rfl⟩ := e
      have := h2.2
      unfold NoW; omega
    · exact h3 c d ⟨g.1, by have := g.2; omega⟩
theorem sbest_row {D : Int → Int → Int} {far dy best a b : Int} (h : SBest D far 3 dy best a b) : SBest D far (-2) (dy + 1) best a b := by
  have key : ∀ c d, GoneS far (-2) (dy + 1) c d → GoneS far 3 dy c d := fun c d g => ⟨g.1, by have := g.1; have := g.2; unfold InM at *; omega⟩
  rcases h with ⟨h1, h2, h3, h4⟩ | ⟨h1, h2, h3⟩
  · exact Or.inl ⟨h1, h2, h3, fun c d g => h4 c d (key c d g)⟩
  · exact Or.inr ⟨h1, ⟨h2.1, by have := h2.1; have := h2.2; unfold InM at *; omega⟩, fun c d g => h3 c d (key c d g)⟩
theorem sbest_far {D : Int → Int → Int} {far best a b : Int} (h : SBest D far (-2) 3 best a b) : SBest D (far + 1) (-2) (-2) best a b := by
  have key : ∀ c d, GoneS (far + 1) (-2) (-2) c d → GoneS far (-2) 3 c d := fun c d g => ⟨g.1, by have := g.1; have := g.2; unfold InM at *; omega⟩
  rcases h with ⟨h1, h2, h3, h4⟩ | ⟨h1, h2, h3⟩
  · exact Or.inl ⟨h1, h2, h3, fun c d g => h4 c d (key c d g)⟩
  · exact Or.inr ⟨h1, ⟨h2.1, by have := h2.1; have := h2.2; unfold InM at *; omega⟩, fun c d g => h3 c d (key c d g)⟩
theorem sbest_end {D : Int → Int → Int} {best a b : Int} (h : SBest D 9 (-2) (-2) best a b) : Best D a b := by
  have all : ∀ c d, InM c d → GoneS 9 (-2) (-2) c d := fun c d hm => ⟨hm, by have := (len2_bd hm).2; omega⟩
  rcases h with ⟨h1, h2, h3, h4⟩ | ⟨h1, h2, h3⟩
  · exact absurd (all 0 0 inM0) (h4 0 0)
  · exact ⟨h2.1, fun c d hm => h3 c d (all c d hm)⟩
theorem SBest.inM {D : Int → Int → Int} {far dx dy best a b : Int} (h : SBest D far dx dy best a b) : InM a b := by
  rcases h with ⟨h1, rfl, rfl, h4⟩ | ⟨h1, h2, h3⟩
  · exact inM0
  · exact h2.1

end Go.Proofs.Ytdppnjafkbopiaa
