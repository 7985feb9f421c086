/-
  Digests and seals as plain numbers; no conditions.
-/
import Derived.Test.YtcgdcabmjihijaaBy
namespace Go.Proofs.Ytcgdcabmjihijaa
open Go.RowKit
set_option linter.unusedVariables false
set_option linter.unusedSimpArgs false

/-- one byte more of a digest -/
def dgf (h z : Int) : Int := (h * 257 + z + 1) % 1000000007
def dgs (l : List Int) : Int := l.foldl dgf 0
/-- the digest of a list of bytes -/
def dig (l : List Int) : Int := dgs (l.take 40000)
theorem dgs_snoc (l : List Int) (z : Int) : dgs (l ++ [z]) = (dgs l * 257 + z + 1) % 1000000007 := by simp [dgs, dgf]
theorem dgs_bd (l : List Int) : 0 ≤ dgs l ∧ dgs l < 1000000007 := by
  rcases List.eq_nil_or_concat l with rfl | ⟨t, z, rfl⟩
  · simp [dgs]
  · rw [List.concat_eq_append, dgs_snoc]; omega
theorem dig_bd (l : List Int) : 0 ≤ dig l ∧ dig l < 1000000007 := dgs_bd _
theorem take_snocI {l : List Int} {k : Nat} {z : Int} (h : l[k]? = some z) : l.take (k + 1) = l.take k ++ [z] := by rw [List.take_add_one, h]; rfl
/-- what a secret has become behind k bytes -/
def sk (s : Int) : Nat → Int
  | 0 => s
  | n + 1 => sk s n * 48271 % 1000000007
theorem sk_bd {s : Int} (h0 : 1 ≤ s) (h1 : s ≤ 1000000006) (k : Nat) : 0 ≤ sk s k ∧ sk s k ≤ 1000000006 := by
  cases k with
  | zero => simp [sk]; omega
  | succ k => simp [sk]; omega
/-- a list sealed -/
def sealB (s : Int) (l : List Int) : List Int := l.mapIdx fun i z => bits .xor .u8 z (sk s (i + 1) % 256)
theorem sealB_snoc (s : Int) (l : List Int) (z : Int) : sealB s (l ++ [z]) = sealB s l ++ [bits .xor .u8 z (sk s (l.length + 1) % 256)] := by
  simp [sealB, List.mapIdx_append]
theorem sealB_len (s : Int) (l : List Int) : (sealB s l).length = l.length := by simp [sealB]
def SealOk (l : List Int) (s : Int) : Prop := (1 ≤ s ∧ s ≤ 1000000006) ∧ l.length ≤ 40000
open Classical in
noncomputable def sealOf (l : List Int) (s : Int) : List Int := if SealOk l s then sealB s l else []
theorem seal_yes {l : List Int} {s : Int} (h : SealOk l s) : sealOf l s = sealB s l := by unfold sealOf; rw [if_pos h]
theorem seal_no {l : List Int} {s : Int} (h : ¬ SealOk l s) : sealOf l s = [] := by unfold sealOf; rw [if_neg h]
theorem seal_len (l : List Int) (s : Int) : (sealOf l s).length ≤ 40000 := by
  by_cases h : SealOk l s
  · rw [seal_yes h, sealB_len]; exact h.2
  · rw [seal_no h]; simp
/-- a lock's numbers are as told, and the minute lies in its time -/
def OpenOk (f t s m : Int) (l : List Int) : Prop := (0 ≤ f ∧ f ≤ t ∧ t ≤ 1000000000) ∧ (f ≤ m ∧ m ≤ t) ∧ SealOk l s
open Classical in
noncomputable def openB (f t s m : Int) (l : List Int) : Bool := decide (OpenOk f t s m l)
open Classical in
noncomputable def openOf (f t s m : Int) (l : List Int) : List Int := if OpenOk f t s m l then sealB s l else []
theorem open_yes {f t s m : Int} {l : List Int} (h : OpenOk f t s m l) : openOf f t s m l = sealB s l ∧ openB f t s m l = true := by unfold openOf openB; rw [if_pos h]; exact ⟨rfl, by simpa using h⟩
theorem open_no {f t s m : Int} {l : List Int} (h : ¬ OpenOk f t s m l) : openOf f t s m l = [] ∧ openB f t s m l = false := by unfold openOf openB; rw [if_neg h]; exact ⟨rfl, by simpa using h⟩
theorem open_len (f t s m : Int) (l : List Int) : (openOf f t s m l).length ≤ 40000 := by
  by_cases h : OpenOk f t s m l
  · rw [(open_yes h).1, sealB_len]; exact h.2.2.2
  · rw [(open_no h).1]; simp
theorem xor_eq (a b : Int) : bits .xor .u8 a b = ((BitVec.ofInt 8 a ^^^ BitVec.ofInt 8 b).toNat : Int) := by
  have h : bits .xor .u8 a b = IntKind.u8.wrap ((BitVec.ofInt 8 a ^^^ BitVec.ofInt 8 b).toNat : Int) := rfl
  have h2 := (BitVec.ofInt 8 a ^^^ BitVec.ofInt 8 b).isLt
  rw [h, IntKind.wrap_u8]
  omega
theorem xor_bd (a b : Int) : 0 ≤ bits .xor .u8 a b ∧ bits .xor .u8 a b ≤ 255 := by
  rw [xor_eq]
  have h2 := (BitVec.ofInt 8 a ^^^ BitVec.ofInt 8 b).isLt
  omega
theorem xor_xor {z : Int} (k : Int) (h0 : 0 ≤ z) (h1 : z ≤ 255) : bits .xor .u8 (bits .xor .u8 z k) k = z := by
  rw [xor_eq, xor_eq]
  have e : BitVec.ofInt 8 ((BitVec.ofInt 8 z ^^^ BitVec.ofInt 8 k).toNat : Int) = BitVec.ofInt 8 z ^^^ BitVec.ofInt 8 k := by
    apply BitVec.eq_of_toNat_eq
    have h2 := (BitVec.ofInt 8 z ^^^ BitVec.ofInt 8 k).isLt
    rw [BitVec.toNat_ofInt]
    omega
  rw [e, BitVec.xor_assoc, BitVec.xor_self, BitVec.xor_zero, BitVec.toNat_ofInt]
  omega
theorem sealB_byt (s : Int) (l : List Int) : Byt (sealB s l) := by
  intro z hz
  obtain ⟨i, hi, rfl⟩ := List.mem_mapIdx.1 hz
  exact xor_bd _ _
theorem seal_byt (l : List Int) (s : Int) : Byt (sealOf l s) := by
  by_cases h : SealOk l s
  · rw [seal_yes h]; exact sealB_byt _ _
  · rw [seal_no h]; intro z hz; simp at hz
theorem sealB_back (s : Int) {l : List Int} (h : Byt l) : sealB s (sealB s l) = l := by
  apply List.ext_getElem
  · simp [sealB_len]
  · intro i h1 h2
    have := h l[i] (List.getElem_mem _)
    simp only [sealB, List.getElem_mapIdx]
    exact xor_xor _ this.1 this.2

end Go.Proofs.Ytcgdcabmjihijaa
