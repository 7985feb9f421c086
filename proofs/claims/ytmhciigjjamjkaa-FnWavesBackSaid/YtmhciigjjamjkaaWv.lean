/-
  Contracts of the roots, the model's and the program's, and of a number turned by a root; nothing that was there is written.
-/
import Derived.Test.YtmhciigjjamjkaaPw2
import Derived.Test.YtmhciigjjamjkaaMark2
namespace Go.Proofs.Ytmhciigjjamjkaa
open Go.RowKit
set_option linter.unusedVariables false
set_option linter.unusedSimpArgs false

/-- the roots -/
def rt : Nat → Nat × Nat
  | 0 => (4607182418800017408, 0)
  | 1 => (4604544271217802189, 13827916308072577997)
  | 2 => (0, 13830554455654793216)
  | 3 => (13827916308072577997, 13827916308072577997)
  | 4 => (13830554455654793216, 0)
  | 5 => (13827916308072577997, 4604544271217802189)
  | 6 => (0, 4607182418800017408)
  | _ => (4604544271217802189, 4604544271217802189)

theorem run_carith2 {P : Program} {w : World} (op : BinOp) (hop : op = .add ∨ op = .sub ∨ op = .mul ∨ op = .quo) (x y : Nat) :
    (Op.Complex.arith op .f64 x y).run P w = .ok (fv op x y w) (w.drewN (fd op x y)) := by
  simp [Op.Complex.arith, run_arith op hop x y]

@[go_sem] theorem run_cadd {P : Program} {w : World} (t : TypeId) (a b c d : Nat) : (binOp .add t (.complex .f64 a b) (.complex .f64 c d)).run P w =
    .ok (.complex .f64 (fv .add a c w) (fv .add b d (w.drewN (fd .add a c)))) ((w.drewN (fd .add a c)).drewN (fd .add b d)) := by
  simp [binOp, Op.complexOp, run_carith2 .add (by simp)]

/-- what a product of complex numbers gives in a world -/
def cmv (a b c d : Nat) (w : World) : Nat × Nat × Nat :=
  let w1 := w.drewN (fd .mul a c)
  let w2 := w1.drewN (fd .mul b d)
  let p := fv .mul a c w
  let q := fv .mul b d w1
  let re := fv .sub p q w2
  let w3 := w2.drewN (fd .sub p q)
  let w4 := w3.drewN (fd .mul a d)
  let r := fv .mul a d w3
  let w5 := w4.drewN (fd .mul b c)
  let s := fv .mul b c w4
  (re, fv .add r s w5, fd .mul a c + fd .mul b d + fd .sub p q + fd .mul a d + fd .mul b c + fd .add r s)
theorem cmv_cpr (a b c d : Nat) (w : World) : CPr a b c d (cmv a b c d w).1 (cmv a b c d w).2.1 :=
  ⟨_, _, _, _, fv_res _ _ _ _, fv_res _ _ _ _, fv_res _ _ _ _, fv_res _ _ _ _, fv_res _ _ _ _, fv_res _ _ _ _⟩
theorem drew_drew (w : World) (m n : Nat) : (w.drewN m).drewN n = w.drewN (m + n) := by simp [World.drewN, Nat.add_assoc]
@[go_sem] theorem run_cmul {P : Program} {w : World} (t : TypeId) (a b c d : Nat) : (binOp .mul t (.complex .f64 a b) (.complex .f64 c d)).run P w =
    .ok (.complex .f64 (cmv a b c d w).1 (cmv a b c d w).2.1) (w.drewN (cmv a b c d w).2.2) := by
  simp [binOp, Op.complexOp, Op.Complex.conv, Op.Complex.product, Op.Complex.mul, Op.Complex.sub, Op.Complex.add, run_carith2 .mul (by simp), run_carith2 .sub (by simp), run_carith2 .add (by simp), cmv, drew_drew, Nat.add_assoc]

def ceq (a b c d : Nat) : Bool := (FloatKind.f64.format.order a c == some .eq) && (FloatKind.f64.format.order b d == some .eq)
@[go_sem] theorem run_ceq {P : Program} {w : World} (t : TypeId) (a b c d : Nat) : (binOp .eql t (.complex .f64 a b) (.complex .f64 c d)).run P w = .ok (.bool (ceq a b c d)) w := by
  simp [binOp, Op.complexOp, Op.Complex.cmp, Op.floatCmp, ceq, asBool]

@[go_sem] theorem run_negh {P : Program} {w : World} : (Op.unary .neg (.float .f64 4604544271217802189)).run P w = .ok (.float .f64 13827916308072577997) w := rfl

theorem rem8 (k : Nat) : ((k : Int) % 8) = ((k % 8 : Nat) : Int) := by omega
set_option maxHeartbeats 1600000 in
theorem iroot_any (k : Nat) (hk : k ≤ 1000000) (w : World) : Calls Try.prog 11 #[.int .i64 k] w fun e w' => e = .returned (.complex .f64 (rt (k % 8)).1 (rt (k % 8)).2) ∧ Below w.heap.size w w' := by
  have h8 : k % 8 < 8 := Nat.mod_lt _ (by decide)
  generalize hm : k % 8 = m at h8 ⊢
  have hm' : ((k : Int) % 8) = (m : Int) := by omega
  clear hm
  match m, h8 with
  | 0, _ | 1, _ | 2, _ | 3, _ | 4, _ | 5, _ | 6, _ | 7, _ =>
    go_enter Try.func11, Try.ntmps11
    go_wp2
    go_ret
    refine ⟨rfl, ?_⟩
    repeat first | exact Below.refl _ _ | refine Below.setCell ?_ (by simp <;> omega) _ | refine Below.alloc ?_ (by simp <;> omega) _ | refine below_drewN ?_ _

end Go.Proofs.Ytmhciigjjamjkaa
