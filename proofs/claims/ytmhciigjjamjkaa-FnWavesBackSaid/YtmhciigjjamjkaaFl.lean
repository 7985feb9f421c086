/-
  Floats of 64 bits by value, all NaNs one: what an operation gives, and that like operands give like results; no conditions.
-/
import Derived.Test.YtmhciigjjamjkaaProg
import Derived.WalkKit
import Derived.WalkSpells
import Derived.WalkLawsBesides
import Derived.Deep.QuietTactic
import Derived.BigQuiet
namespace Go.Proofs.Ytmhciigjjamjkaa
open Go.RowKit
set_option linter.unusedVariables false
set_option linter.unusedSimpArgs false

theorem hide {p : Prop} (h : p) : Hid p := h
theorem unhide {p : Prop} (h : Hid p) : p := h
theorem ret_int {k : IntKind} {a b : Int} (h : a = b) : Ending.returned (.int k a) = .returned (.int k b) := by rw [h]
theorem ret_bool {a b : Bool} (h : a = b) : Ending.returned (.bool a) = .returned (.bool b) := by rw [h]
theorem bcell {W w1 : World} (hb : Below W.heap.size W w1) : (∀ b o, b < W.heap.size → w1.cell? ⟨b, o, none⟩ = W.cell? ⟨b, o, none⟩) ∧ (∀ b o, b < W.heap.size → w1.frozen? ⟨b, o, none⟩ = W.frozen? ⟨b, o, none⟩) :=
  ⟨fun b o h => hb.cell (p := ⟨b, o, none⟩) h, fun b o h => hb.frozen (p := ⟨b, o, none⟩) h⟩

/-- the bits stand for no number -/
def NaN (x : Nat) : Prop := (Ieee.double.read x).isNaN = true
/-- the same by value, all NaNs one -/
def Sm (x y : Nat) : Prop := x = y ∨ (NaN x ∧ NaN y)
/-- v is what the operation may give -/
def Res (op : BinOp) (x y v : Nat) : Prop := floatBits op .f64 x y = some v ∨ (floatBits op .f64 x y = none ∧ NaN v)

theorem Sm.rfl {x : Nat} : Sm x x := .inl _root_.rfl
theorem Sm.symm {x y : Nat} (h : Sm x y) : Sm y x := by
  rcases h with h | ⟨a, b⟩
  · exact .inl h.symm
  · exact .inr ⟨b, a⟩

/-- the value that an operation gives in a world -/
def fv (op : BinOp) (x y : Nat) (w : World) : Nat := (floatBits op .f64 x y).getD (Question.cut (.nanBits .f64 x y) (w.tape w.drawn (.nanBits .f64 x y)))
/-- how much it draws -/
def fd (op : BinOp) (x y : Nat) : Nat := if (floatBits op .f64 x y).isSome then 0 else 1

theorem nan_read {x : Nat} (h : NaN x) : ∃ s t, Ieee.double.read x = .nan s t := by
  unfold NaN at h
  cases hx : Ieee.double.read x with
  | nan s t => exact ⟨s, t, rfl⟩
  | number s m e => rw [hx] at h; simp [Ieee.Datum.isNaN] at h
  | infinity s => rw [hx] at h; simp [Ieee.Datum.isNaN] at h

theorem cut_nan (x y t : Nat) : NaN (Question.cut (.nanBits .f64 x y) t) := by
  unfold NaN Question.cut Ieee.Format.read
  have hw : Ieee.double.signWeight = 9223372036854775808 := by decide
  have hi : Ieee.double.infRung = 9218868437227405312 := by decide
  have hb : Ieee.double.binade = 4503599627370496 := by decide
  have h1 : t / 2 % (2 ^ 52 - 1) < 4503599627370495 := Nat.mod_lt _ (by decide)
  have h2 : t % 2 < 2 := Nat.mod_lt _ (by decide)
  dsimp only
  rw [hw, hi, hb]
  generalize t / 2 % (2 ^ 52 - 1) = q at *
  generalize t % 2 = p at *
  have hr : (p * 2 ^ 63 + 0x7ff0000000000000 + 1 + q) % 9223372036854775808 = 9218868437227405313 + q := by omega
  rw [hr, if_neg (by omega), if_neg (by omega), if_neg (by omega)]
  simp [Ieee.Datum.isNaN]

theorem fv_res (op : BinOp) (x y : Nat) (w : World) : Res op x y (fv op x y w) := by
  unfold Res fv
  cases h : floatBits op .f64 x y with
  | some v => exact .inl rfl
  | none => exact .inr ⟨rfl, cut_nan x y _⟩

theorem drew_fd_some {w : World} {op : BinOp} {x y : Nat} {v : Nat} (h : floatBits op .f64 x y = some v) : w.drewN (fd op x y) = w := by
  unfold fd; rw [h]; rfl

theorem run_arith {P : Program} {w : World} (op : BinOp) (hop : op = .add ∨ op = .sub ∨ op = .mul ∨ op = .quo) (x y : Nat) :
    (Op.floatArith op .f64 x y).run P w = .ok (.float .f64 (fv op x y w)) (w.drewN (fd op x y)) := by
  cases h : floatBits op .f64 x y with
  | some v =>
    rw [drew_fd_some h, run_floatArith w h]
    unfold fv; rw [h]; rfl
  | none =>
    unfold fv fd
    rw [h]
    rcases hop with rfl | rfl | rfl | rfl <;> simp only [floatBits] at h <;> simp [Op.floatArith, h, choose, Sem.run, Question.forced, World.drewN]

@[go_sem] theorem run_fadd {P : Program} {w : World} (t : TypeId) (x y : Nat) : (binOp .add t (.float .f64 x) (.float .f64 y)).run P w = .ok (.float .f64 (fv .add x y w)) (w.drewN (fd .add x y)) := run_arith .add (by simp) x y
@[go_sem] theorem run_fsub {P : Program} {w : World} (t : TypeId) (x y : Nat) : (binOp .sub t (.float .f64 x) (.float .f64 y)).run P w = .ok (.float .f64 (fv .sub x y w)) (w.drewN (fd .sub x y)) := run_arith .sub (by simp) x y
@[go_sem] theorem run_fmul {P : Program} {w : World} (t : TypeId) (x y : Nat) : (binOp .mul t (.float .f64 x) (.float .f64 y)).run P w = .ok (.float .f64 (fv .mul x y w)) (w.drewN (fd .mul x y)) := run_arith .mul (by simp) x y
@[go_sem] theorem run_fquo {P : Program} {w : World} (t : TypeId) (x y : Nat) : (binOp .quo t (.float .f64 x) (.float .f64 y)).run P w = .ok (.float .f64 (fv .quo x y w)) (w.drewN (fd .quo x y)) := run_arith .quo (by simp) x y

@[go_sem] theorem run_store_float {P : Program} {w : World} {a : Addr} {m : Mode} (k : FloatKind) (x : Nat) : (store a (.float k x) m).run P w = stored P w a (.float k x) m := run_store P w a _ m rfl
@[go_sem] theorem run_store_complex {P : Program} {w : World} {a : Addr} {m : Mode} (k : FloatKind) (x y : Nat) : (store a (.complex k x y) m).run P w = stored P w a (.complex k x y) m := run_store P w a _ m rfl

def arithOp (op : BinOp) : Prop := op = .add ∨ op = .sub ∨ op = .mul ∨ op = .quo

theorem bits_nan_left {op : BinOp} {x y : Nat} (h : NaN x) : floatBits op .f64 x y = none := by
  obtain ⟨s, t, hx⟩ := nan_read h
  unfold floatBits
  cases op <;> simp only [FloatKind.format, Ieee.Format.add, Ieee.Format.sub, Ieee.Format.mul, Ieee.Format.div, hx, Ieee.Datum.sum, Ieee.Datum.product, Ieee.Datum.quotient, Option.map_none]
theorem bits_nan_right {op : BinOp} {x y : Nat} (h : NaN y) : floatBits op .f64 x y = none := by
  obtain ⟨s, t, hx⟩ := nan_read h
  unfold floatBits
  cases op <;> simp only [FloatKind.format, Ieee.Format.add, Ieee.Format.sub, Ieee.Format.mul, Ieee.Format.div, hx] <;> cases Ieee.double.read x <;> simp [Ieee.Datum.sum, Ieee.Datum.product, Ieee.Datum.quotient, Ieee.Datum.opposite]

theorem Res.sm {op : BinOp} {x y v x' y' v' : Nat} (h : Res op x y v) (h' : Res op x' y' v') (hx : Sm x x') (hy : Sm y y') : Sm v v' := by
  have key : floatBits op .f64 x y = floatBits op .f64 x' y' := by
    rcases hx with rfl | ⟨n1, n2⟩
    · rcases hy with rfl | ⟨m1, m2⟩
      · rfl
      · rw [bits_nan_right m1, bits_nan_right m2]
    · rw [bits_nan_left n1, bits_nan_left n2]
  rcases h with h | ⟨h, n⟩ <;> rcases h' with h' | ⟨h', n'⟩
  · rw [key, h'] at h; exact .inl (Option.some.inj h).symm
  · rw [key, h'] at h; cases h
  · rw [key, h'] at h; cases h
  · exact .inr ⟨n, n'⟩

theorem order_nan_left {x y : Nat} (h : NaN x) : FloatKind.f64.format.order x y = none := by
  obtain ⟨s, t, hx⟩ := nan_read h
  simp only [FloatKind.format, Ieee.Format.order, hx, Ieee.Datum.order]
theorem order_nan_right {x y : Nat} (h : NaN y) : FloatKind.f64.format.order x y = none := by
  obtain ⟨s, t, hx⟩ := nan_read h
  simp only [FloatKind.format, Ieee.Format.order, hx]
  cases Ieee.double.read x <;> simp [Ieee.Datum.order]
theorem order_self {x : Nat} (h : ¬ NaN x) : FloatKind.f64.format.order x x = some .eq := by
  simp only [FloatKind.format, Ieee.Format.order]
  unfold NaN at h
  cases hx : Ieee.double.read x with
  | nan s t => rw [hx] at h; simp [Ieee.Datum.isNaN] at h
  | number s m e => simp [Ieee.Datum.order, compare, compareOfLessAndEq]
  | infinity s => cases s <;> simp [Ieee.Datum.order, compare, compareOfLessAndEq]
theorem order_sm {x y x' y' : Nat} (hx : Sm x x') (hy : Sm y y') : FloatKind.f64.format.order x y = FloatKind.f64.format.order x' y' := by
  rcases hx with rfl | ⟨n1, n2⟩
  · rcases hy with rfl | ⟨m1, m2⟩
    · rfl
    · rw [order_nan_right m1, order_nan_right m2]
  · rw [order_nan_left n1, order_nan_left n2]

theorem rung_notnan {s : Bool} {r : Nat} (h : r ≤ Ieee.double.infRung) : ¬ NaN (Ieee.double.word s r) := by
  have hw : Ieee.double.signWeight = 9223372036854775808 := by decide
  have hi : Ieee.double.infRung = 9218868437227405312 := by decide
  unfold NaN Ieee.Format.read Ieee.Format.word
  dsimp only
  rw [hw]
  rw [hi] at h ⊢
  have hr : (if s = true then 9223372036854775808 + r else r) % 9223372036854775808 = r := by split <;> omega
  rw [hr]
  split
  · simp [Ieee.Datum.isNaN]
  · split
    · simp [Ieee.Datum.isNaN]
    · rw [if_pos (by omega)]; simp [Ieee.Datum.isNaN]
theorem ofInt_notnan (n : Int) : ¬ NaN (floatOfInt .f64 n) := by
  show ¬ NaN (Ieee.double.nearest (decide (n < 0)) n.natAbs 0)
  unfold Ieee.Format.nearest
  split
  · exact rung_notnan (Nat.zero_le _)
  · exact rung_notnan (Nat.min_le_right _ _)
theorem ofInt_self (n : Int) : FloatKind.f64.format.order (floatOfInt .f64 n) (floatOfInt .f64 n) = some .eq := order_self (ofInt_notnan n)

/-- a product of complex numbers -/
def CPr (a b c d re im : Nat) : Prop := ∃ p q r s, Res .mul a c p ∧ Res .mul b d q ∧ Res .mul a d r ∧ Res .mul b c s ∧ Res .sub p q re ∧ Res .add r s im
theorem CPr.sm {a b c d re im a' b' c' d' re' im' : Nat} (h : CPr a b c d re im) (h' : CPr a' b' c' d' re' im') (ha : Sm a a') (hb : Sm b b') (hc : Sm c c') (hd : Sm d d') : Sm re re' ∧ Sm im im' := by
  obtain ⟨p, q, r, s, h1, h2, h3, h4, h5, h6⟩ := h
  obtain ⟨p', q', r', s', k1, k2, k3, k4, k5, k6⟩ := h'
  exact ⟨h5.sm k5 (h1.sm k1 ha hc) (h2.sm k2 hb hd), h6.sm k6 (h3.sm k3 ha hd) (h4.sm k4 hb hc)⟩

theorem below_drew {w : World} (n : Nat) : Below w.heap.size w (w.drewN n) := ⟨rfl, rfl, rfl, Nat.le_refl _, fun _ _ => rfl⟩

end Go.Proofs.Ytmhciigjjamjkaa
