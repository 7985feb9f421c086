/-
  Lists of numbers in memory: owned rows and lists that are read, and contracts of the law's functions that copy them, hold them against each other, write marks into them and look for these again.
  Lists of bytes in memory: owned rows and lists that are read, and contracts of the law's functions that copy them, hold them against each other, write marks into them and look for these again.
  Digests and seals as plain numbers; no conditions.
  Contracts of both digests; nothing is written.
-/
import Derived.Test.YtghglpcfpokmhaaProg
import Derived.WalkKit
import Derived.WalkSpells
import Derived.WalkLawsBesides
import Derived.Deep.QuietTactic
import Derived.BigQuiet
import Derived.Deep.RegionHeld3
import Derived.Outline
import Derived.Deep.AppendLies
import Derived.Lib.MinMax
namespace Go.Proofs.Ytghglpcfpokmhaa
open Go.RowKit
set_option linter.unusedVariables false
set_option linter.unusedSimpArgs false

theorem hide {p : Prop} (h : p) : Hid p := h
theorem unhide {p : Prop} (h : Hid p) : p := h
theorem ret_int {k : IntKind} {a b : Int} (h : a = b) : Ending.returned (.int k a) = .returned (.int k b) := by rw [h]
theorem ret_bool {a b : Bool} (h : a = b) : Ending.returned (.bool a) = .returned (.bool b) := by rw [h]
theorem bcell {W w1 : World} (hb : Below W.heap.size W w1) : (∀ b o, b < W.heap.size → w1.cell? ⟨b, o, none⟩ = W.cell? ⟨b, o, none⟩) ∧ (∀ b o, b < W.heap.size → w1.frozen? ⟨b, o, none⟩ = W.frozen? ⟨b, o, none⟩) :=
  ⟨fun b o h => hb.cell (p := ⟨b, o, none⟩) h, fun b o h => hb.frozen (p := ⟨b, o, none⟩) h⟩
abbrev iv (x : Int) : Value := .int .i64 x
theorem own_mono {w : World} {B B' n m : Nat} {e : TypeId} {v : Value} {xs : List Value} (h : w.ownsRow B e m v n xs) (hB : B' ≤ B) : w.ownsRow B' e m v n xs := by
  obtain ⟨h1, h2⟩ := h
  refine ⟨h1, ?_⟩
  rcases h2 with h2 | ⟨g, cap, cur, hv, hg, r⟩
  · exact Or.inl h2
  · exact Or.inr ⟨g, cap, cur, hv, by omega, r⟩
theorem own_up {w : World} {B B' g n m cap : Nat} {e : TypeId} {xs : List Value} (h : w.ownsRow B e m (.slice (some ⟨g, 0, none⟩) n cap) n xs) (hB : B' ≤ g) : w.ownsRow B' e m (.slice (some ⟨g, 0, none⟩) n cap) n xs := by
  obtain ⟨h1, h2⟩ := h
  refine ⟨h1, ?_⟩
  rcases h2 with h2 | ⟨g', cap', cur, hv, hg, r⟩
  · exact Or.inl h2
  · refine Or.inr ⟨g', cap', cur, hv, ?_, r⟩
    injection hv with e1
    injection e1 with e1
    injection e1 with e1
    omega
theorem ownsRow_below {w w1 : World} {B n m : Nat} {e : TypeId} {v : Value} {xs : List Value} (h : w.ownsRow B e m v n xs) (hb : Below w.heap.size w w1) : w1.ownsRow B e m v n xs := by
  obtain ⟨h1, h2⟩ := h
  refine ⟨h1, ?_⟩
  rcases h2 with h2 | ⟨g, cap, cur, hv, hg, hh, r⟩
  · exact Or.inl h2
  · exact Or.inr ⟨g, cap, cur, hv, hg, by rw [hb.block g (by have := (Array.getElem?_eq_some_iff.1 hh).1; exact this)]; exact hh, r⟩
theorem own_lt {w : World} {B g n cap m : Nat} {e : TypeId} {xs : List Value} (h : w.ownsRow B e m (.slice (some ⟨g, 0, none⟩) n cap) n xs) : g < w.heap.size := (h.lt g rfl).2
theorem own_ge {w : World} {B g n cap m : Nat} {e : TypeId} {xs : List Value} (h : w.ownsRow B e m (.slice (some ⟨g, 0, none⟩) n cap) n xs) : B ≤ g := (h.lt g rfl).1
theorem own_blk {w w1 : World} {B C g n m cap : Nat} {e : TypeId} {xs : List Value} (ho : w.ownsRow B e m (.slice (some ⟨g, 0, none⟩) n cap) n xs) (hb : Below C w w1) (hg : g < C) : w1.ownsRow B e m (.slice (some ⟨g, 0, none⟩) n cap) n xs := by
  obtain ⟨h1, h2⟩ := ho
  refine ⟨h1, ?_⟩
  rcases h2 with h2 | ⟨g', cap', cur, hv, hB, hh, r⟩
  · exact Or.inl h2
  · refine Or.inr ⟨g', cap', cur, hv, hB, ?_, r⟩
    injection hv with e1
    injection e1 with e1
    injection e1 with e1
    subst e1
    rw [hb.block g hg]; exact hh
theorem own_kept {w w1 : World} {B g n m cap h : Nat} {e : TypeId} {xs : List Value} (ho : w.ownsRow B e m (.slice (some ⟨g, 0, none⟩) n cap) n xs) (hg : w.grownBy w1 (some h)) (hne : g ≠ h) : w1.ownsRow B e m (.slice (some ⟨g, 0, none⟩) n cap) n xs := by
  have hlt := own_lt ho
  obtain ⟨h1, h2⟩ := ho
  refine ⟨h1, ?_⟩
  rcases h2 with h2 | ⟨g', cap', cur, hv, hB, hh, r⟩
  · exact Or.inl h2
  · refine Or.inr ⟨g', cap', cur, hv, hB, ?_, r⟩
    injection hv with e1
    injection e1 with e1
    injection e1 with e1
    subst e1
    rw [hg.block g hlt (by intro hh; injection hh with hh; exact hne hh)]; exact hh
theorem below_grown {W w w1 : World} {g : Nat} (h : Below W.heap.size W w) (hg : w.grownBy w1 (some g)) (hB : W.heap.size ≤ g) : Below W.heap.size W w1 :=
  h.grown hg h.size (fun k hk => by injection hk with hk; omega)
theorem laterB {W w w1 : World} (h : Below W.heap.size W w) (hb : Below w.heap.size w w1) : Below W.heap.size W w1 := h.trans (hb.mono h.size)
/-- the first i cells bear the marks from q on -/
def Mkd (q : Int) (i : Nat) (xs : List Value) : Prop := ∀ j, j < i → xs[j]? = some (iv (q + j))
theorem Mkd.set {q : Int} {i : Nat} {xs : List Value} (h : Mkd q i xs) (hi : i < xs.length) : Mkd q (i + 1) (xs.set i (iv (q + i))) := by
  intro j hj
  by_cases e : j = i
  · subst e; simp [hi]
  · rw [List.getElem?_set_ne (by omega)]; exact h j (by omega)
theorem grown_refl (w : World) (g : Option Nat) : w.grownBy w g := ⟨rfl, rfl, rfl, Nat.le_refl _, fun _ _ _ => rfl⟩
theorem grown_trans {w w1 w2 : World} {g : Option Nat} (h : w.grownBy w1 g) (k : w1.grownBy w2 g) : w.grownBy w2 g :=
  ⟨k.os.trans h.os, k.tape.trans h.tape, k.output.trans h.output, Nat.le_trans h.size k.size, fun j hj hn => (k.block j (Nat.lt_of_lt_of_le hj h.size) hn).trans (h.block j hj hn)⟩
theorem grown_set {w w1 : World} {g i : Nat} {v : Value} (h : w.grownBy w1 (some g)) : w.grownBy (w1.setCell ⟨g, i, none⟩ v) (some g) :=
  grown_trans h ⟨rfl, rfl, rfl, by simp, fun j hj hn => by
    have hg : g ≠ j := fun e => hn (by rw [e])
    simp [World.setCell, Array.getElem?_modify, hg]⟩
theorem own_at {w : World} {B g n m cap i : Nat} {e : TypeId} {xs : List Value} (h : w.ownsRow B e m (.slice (some ⟨g, 0, none⟩) n cap) n xs) (hi : i < n * m) : ∃ v, w.cell? ⟨g, i, none⟩ = some v ∧ w.frozen? ⟨g, i, none⟩ = false ∧ xs[i]? = some v ∧ xs.length = n * m := by
  have hl : xs.length = n * m := h.1
  have hc := h.cellAt i hi
  exact ⟨xs[i]'(by omega), by rw [hc, List.getElem?_eq_getElem (by omega)], h.frozenAt i, List.getElem?_eq_getElem (by omega), hl⟩
theorem infoI : (Try.prog.info? 2).map (fun i => (i.zero, i.size, i.bytes)) = some (some (.int .i64 0), 1, 8) := by kernel_rfl
/-- the numbers l behind the address a -/
def Ins (w : World) (a : Option Addr) (l : List Int) : Prop :=
  ∀ j x, l[j]? = some x → ∃ b o, a = some ⟨b, o, none⟩ ∧ b < w.heap.size ∧ w.cell? ⟨b, o + j, none⟩ = some (.int .i64 x)
theorem Ins.nil {w : World} {a : Option Addr} : Ins w a [] := by intro j z hz; simp at hz
theorem Ins.below {w w' : World} {a : Option Addr} {l : List Int} (h : Ins w a l) (s : Below w.heap.size w w') : Ins w' a l := by
  intro j x hx
  obtain ⟨b, o, e, h1, c0⟩ := h j x hx
  exact ⟨b, o, e, Nat.lt_of_lt_of_le h1 s.size, ((bcell s).1 b _ h1).trans c0⟩
theorem ins_at {w wr : World} {a : Option Addr} {l : List Int} {k : Nat} (h : Ins w a l) (hw : Below w.heap.size w wr) (hk : k < l.length) : ∃ b o x, a = some ⟨b, o, none⟩ ∧ l[k]? = some x ∧ b < w.heap.size ∧ wr.cell? ⟨b, o + k, none⟩ = some (.int .i64 x) := by
  obtain ⟨b, o, e, h1, c0⟩ := h k l[k] (List.getElem?_eq_getElem hk)
  exact ⟨b, o, _, e, List.getElem?_eq_getElem hk, h1, ((bcell hw).1 b _ h1).trans c0⟩
/-- an owned list of numbers -/
abbrev OwnI (w : World) (B g n cap : Nat) (l : List Int) : Prop := w.ownsRow B 2 1 (.slice (some ⟨g, 0, none⟩) n cap) n (l.map iv)
theorem ownI_len {w : World} {B g n cap : Nat} {l : List Int} (h : OwnI w B g n cap l) : l.length = n := by
  have hl : (l.map iv).length = n * 1 := h.1
  simpa using hl
theorem ownI_at {w : World} {B g n cap k : Nat} {l : List Int} {x : Int} (hk : l[k]? = some x) (h : OwnI w B g n cap l) : w.cell? ⟨g, k, none⟩ = some (.int .i64 x) := by
  have hl := ownI_len h
  have hj : k < l.length := (List.getElem?_eq_some_iff.1 hk).1
  have := h.cellAt k (by omega)
  rw [this, List.getElem?_map, hk]; rfl
theorem ownI_put {w : World} {B g n cap : Nat} {l : List Int} (k : Nat) (x : Int) (h : OwnI w B g n cap l) : OwnI (w.setCell ⟨g, k, none⟩ (.int .i64 x)) B g n cap (l.set k x) := by
  have h1 := (h.stored k (iv x)).1
  show World.ownsRow _ _ _ _ _ _ _
  rw [List.map_set]; exact h1
theorem ins_own {w : World} {B g n cap : Nat} {l : List Int} (h : OwnI w B g n cap l) : Ins w (some ⟨g, 0, none⟩) l := by
  intro j z hj
  exact ⟨g, 0, rfl, own_lt h, by rw [Nat.zero_add]; exact ownI_at hj h⟩
theorem ownI_lit0 (w : World) {B : Nat} (hB : B ≤ w.heap.size) : OwnI (w.alloc (.cells #[] 2)) B w.heap.size 0 0 [] := by
  have h := World.ownsRow_lit (base := B) (e := 2) (size := 1) w #[] 0 hB (by unfold maxLen; omega) rfl
  exact h
theorem ownI_lit3 (w : World) {B : Nat} (a b c : Int) (hB : B ≤ w.heap.size) : OwnI (w.alloc (.cells #[.int .i64 a, .int .i64 b, .int .i64 c] 2)) B w.heap.size 3 3 [a, b, c] := by
  have h := World.ownsRow_lit (base := B) (e := 2) (size := 1) w #[.int .i64 a, .int .i64 b, .int .i64 c] 3 hB (by unfold maxLen; omega) rfl
  exact h

/-- the copy's list as it stands -/
def midI (l : List Int) (n k : Nat) : List Int := l.take k ++ List.replicate (n - k) 0
theorem midI_len {l : List Int} {n k : Nat} (hl : l.length = n) (hk : k ≤ n) : (midI l n k).length = n := by simp [midI]; omega
theorem midI_set {l : List Int} {n k : Nat} {x : Int} (hl : l.length = n) (h : l[k]? = some x) : (midI l n k).set k x = midI l n (k + 1) := by
  have hk : k < l.length := (List.getElem?_eq_some_iff.1 h).1
  unfold midI
  rw [List.take_add_one, h, List.set_append_right _ _ (by simp; omega)]
  have e : n - k = (n - (k + 1)) + 1 := by omega
  rw [e, List.replicate_succ]
  have e2 : k - (l.take k).length = 0 := by simp; omega
  rw [e2]; simp
theorem made_I (n : Nat) : (madeCells #[.int .i64 0] n).toList = (List.replicate n (0 : Int)).map iv := by
  have := toList_madeCells_one (.int .i64 0) n
  simpa [iv] using this

end Go.Proofs.Ytghglpcfpokmhaa

namespace Go.Proofs.Ytghglpcfpokmhaa
open Go.RowKit
set_option linter.unusedVariables false
set_option linter.unusedSimpArgs false

abbrev bv (x : Int) : Value := .int .u8 x
/-- the first i cells bear the marks from q on -/
def MkB (q : Int) (i : Nat) (xs : List Value) : Prop := ∀ j, j < i → xs[j]? = some (bv ((q + j) % 256))
theorem MkB.set {q : Int} {i : Nat} {xs : List Value} (h : MkB q i xs) (hi : i < xs.length) : MkB q (i + 1) (xs.set i (bv ((q + i) % 256))) := by
  intro j hj
  by_cases e : j = i
  · subst e; simp [hi]
  · rw [List.getElem?_set_ne (by omega)]; exact h j (by omega)
/-- numbers of a byte -/
def Byt (l : List Int) : Prop := ∀ z ∈ l, 0 ≤ z ∧ z ≤ 255
theorem infoB : (Try.prog.info? 5).map (fun i => (i.zero, i.size, i.bytes)) = some (some (.int .u8 0), 1, 1) := by kernel_rfl
/-- the numbers l behind the address a -/
def Bys (w : World) (a : Option Addr) (l : List Int) : Prop :=
  ∀ j x, l[j]? = some x → ∃ b o, a = some ⟨b, o, none⟩ ∧ b < w.heap.size ∧ w.cell? ⟨b, o + j, none⟩ = some (.int .u8 x)
theorem Bys.nil {w : World} {a : Option Addr} : Bys w a [] := by intro j z hz; simp at hz
theorem Bys.below {w w' : World} {a : Option Addr} {l : List Int} (h : Bys w a l) (s : Below w.heap.size w w') : Bys w' a l := by
  intro j x hx
  obtain ⟨b, o, e, h1, c0⟩ := h j x hx
  exact ⟨b, o, e, Nat.lt_of_lt_of_le h1 s.size, ((bcell s).1 b _ h1).trans c0⟩
theorem bys_at {w wr : World} {a : Option Addr} {l : List Int} {k : Nat} (h : Bys w a l) (hw : Below w.heap.size w wr) (hk : k < l.length) : ∃ b o x, a = some ⟨b, o, none⟩ ∧ l[k]? = some x ∧ b < w.heap.size ∧ wr.cell? ⟨b, o + k, none⟩ = some (.int .u8 x) := by
  obtain ⟨b, o, e, h1, c0⟩ := h k l[k] (List.getElem?_eq_getElem hk)
  exact ⟨b, o, _, e, List.getElem?_eq_getElem hk, h1, ((bcell hw).1 b _ h1).trans c0⟩
/-- an owned list of numbers -/
abbrev OwnB (w : World) (B g n cap : Nat) (l : List Int) : Prop := w.ownsRow B 5 1 (.slice (some ⟨g, 0, none⟩) n cap) n (l.map bv)
theorem ownB_len {w : World} {B g n cap : Nat} {l : List Int} (h : OwnB w B g n cap l) : l.length = n := by
  have hl : (l.map bv).length = n * 1 := h.1
  simpa using hl
theorem ownB_at {w : World} {B g n cap k : Nat} {l : List Int} {x : Int} (hk : l[k]? = some x) (h : OwnB w B g n cap l) : w.cell? ⟨g, k, none⟩ = some (.int .u8 x) := by
  have hl := ownB_len h
  have hj : k < l.length := (List.getElem?_eq_some_iff.1 hk).1
  have := h.cellAt k (by omega)
  rw [this, List.getElem?_map, hk]; rfl
theorem ownB_put {w : World} {B g n cap : Nat} {l : List Int} (k : Nat) (x : Int) (h : OwnB w B g n cap l) : OwnB (w.setCell ⟨g, k, none⟩ (.int .u8 x)) B g n cap (l.set k x) := by
  have h1 := (h.stored k (bv x)).1
  show World.ownsRow _ _ _ _ _ _ _
  rw [List.map_set]; exact h1
theorem bys_own {w : World} {B g n cap : Nat} {l : List Int} (h : OwnB w B g n cap l) : Bys w (some ⟨g, 0, none⟩) l := by
  intro j z hj
  exact ⟨g, 0, rfl, own_lt h, by rw [Nat.zero_add]; exact ownB_at hj h⟩
theorem ownB_lit0 (w : World) {B : Nat} (hB : B ≤ w.heap.size) : OwnB (w.alloc (.cells #[] 5)) B w.heap.size 0 0 [] := by
  have h := World.ownsRow_lit (base := B) (e := 5) (size := 1) w #[] 0 hB (by unfold maxLen; omega) rfl
  exact h
/-- the copy's list as it stands -/
def midB (l : List Int) (n k : Nat) : List Int := l.take k ++ List.replicate (n - k) 0
theorem midB_len {l : List Int} {n k : Nat} (hl : l.length = n) (hk : k ≤ n) : (midB l n k).length = n := by simp [midB]; omega
theorem midB_set {l : List Int} {n k : Nat} {x : Int} (hl : l.length = n) (h : l[k]? = some x) : (midB l n k).set k x = midB l n (k + 1) := by
  have hk : k < l.length := (List.getElem?_eq_some_iff.1 h).1
  unfold midB
  rw [List.take_add_one, h, List.set_append_right _ _ (by simp; omega)]
  have e : n - k = (n - (k + 1)) + 1 := by omega
  rw [e, List.replicate_succ]
  have e2 : k - (l.take k).length = 0 := by simp; omega
  rw [e2]; simp
theorem made_B (n : Nat) : (madeCells #[.int .u8 0] n).toList = (List.replicate n (0 : Int)).map bv := by
  have := toList_madeCells_one (.int .u8 0) n
  simpa [bv] using this

end Go.Proofs.Ytghglpcfpokmhaa

namespace Go.Proofs.Ytghglpcfpokmhaa
open Go.RowKit
set_option linter.unusedVariables false
set_option linter.unusedSimpArgs false

/-- one byte more of a digest -/
def dgf (h z : Int) : Int := (h * 257 + z + 1) % 1000000007
def dgs (l : List Int) : Int := l.foldl dgf 0
/-- the digest of a list of bytes -/
def dig (l : List Int) : Int := dgs (l.take 40000)
theorem dgs_snoc (l : List Int) (z : Int) : dgs (l ++ [z]) = (dgs l * 257 + z + 1) % 1000000007 := by simp [dgs, dgf]
theorem dgs_bd (l : List Int) : 0 ≤ dgs l ∧ dgs l < 1000000007 := by
  rcases List.eq_nil_or_concat l with rfl | ⟨t, z, rfl⟩
  · simp [dgs]
  · rw [List.concat_eq_append, dgs_snoc]; omega
theorem dig_bd (l : List Int) : 0 ≤ dig l ∧ dig l < 1000000007 := dgs_bd _
theorem take_snocI {l : List Int} {k : Nat} {z : Int} (h : l[k]? = some z) : l.take (k + 1) = l.take k ++ [z] := by rw [List.take_add_one, h]; rfl
/-- what a secret has become behind k bytes -/
def sk (s : Int) : Nat → Int
  | 0 => s
  | n + 1 => sk s n * 48271 % 1000000007
theorem sk_bd {s : Int} (h0 : 1 ≤ s) (h1 : s ≤ 1000000006) (k : Nat) : 0 ≤ sk s k ∧ sk s k ≤ 1000000006 := by
  cases k with
  | zero => simp [sk]; omega
  | succ k => simp [sk]; omega
/-- a list sealed -/
def sealB (s : Int) (l : List Int) : List Int := l.mapIdx fun i z => bits .xor .u8 z (sk s (i + 1) % 256)
theorem sealB_snoc (s : Int) (l : List Int) (z : Int) : sealB s (l ++ [z]) = sealB s l ++ [bits .xor .u8 z (sk s (l.length + 1) % 256)] := by
  simp [sealB, List.mapIdx_append]
theorem sealB_len (s : Int) (l : List Int) : (sealB s l).length = l.length := by simp [sealB]
def SealOk (l : List Int) (s : Int) : Prop := (1 ≤ s ∧ s ≤ 1000000006) ∧ l.length ≤ 40000
open Classical in
noncomputable def sealOf (l : List Int) (s : Int) : List Int := if SealOk l s then sealB s l else []
theorem seal_yes {l : List Int} {s : Int} (h : SealOk l s) : sealOf l s = sealB s l := by unfold sealOf; rw [if_pos h]
theorem seal_no {l : List Int} {s : Int} (h : ¬ SealOk l s) : sealOf l s = [] := by unfold sealOf; rw [if_neg h]
theorem seal_len (l : List Int) (s : Int) : (sealOf l s).length ≤ 40000 := by
  by_cases h : SealOk l s
  · rw [seal_yes h, sealB_len]; exact h.2
  · rw [seal_no h]; simp
/-- a lock's numbers are as told, and the minute lies in its time -/
def OpenOk (f t s m : Int) (l : List Int) : Prop := (0 ≤ f ∧ f ≤ t ∧ t ≤ 1000000000) ∧ (f ≤ m ∧ m ≤ t) ∧ SealOk l s
open Classical in
noncomputable def openB (f t s m : Int) (l : List Int) : Bool := decide (OpenOk f t s m l)
open Classical in
noncomputable def openOf (f t s m : Int) (l : List Int) : List Int := if OpenOk f t s m l then sealB s l else []
theorem open_yes {f t s m : Int} {l : List Int} (h : OpenOk f t s m l) : openOf f t s m l = sealB s l ∧ openB f t s m l = true := by unfold openOf openB; rw [if_pos h]; exact ⟨rfl, by simpa using h⟩
theorem open_no {f t s m : Int} {l : List Int} (h : ¬ OpenOk f t s m l) : openOf f t s m l = [] ∧ openB f t s m l = false := by unfold openOf openB; rw [if_neg h]; exact ⟨rfl, by simpa using h⟩
theorem open_len (f t s m : Int) (l : List Int) : (openOf f t s m l).length ≤ 40000 := by
  by_cases h : OpenOk f t s m l
  · rw [(open_yes h).1, sealB_len]; exact h.2.2.2
  · rw [(open_no h).1]; simp
theorem xor_eq (a b : Int) : bits .xor .u8 a b = ((BitVec.ofInt 8 a ^^^ BitVec.ofInt 8 b).toNat : Int) := by
  have h : bits .xor .u8 a b = IntKind.u8.wrap ((BitVec.ofInt 8 a ^^^ BitVec.ofInt 8 b).toNat : Int) := rfl
  have h2 := (BitVec.ofInt 8 a ^^^ BitVec.ofInt 8 b).isLt
  rw [h, IntKind.wrap_u8]
  omega
theorem xor_bd (a b : Int) : 0 ≤ bits .xor .u8 a b ∧ bits .xor .u8 a b ≤ 255 := by
  rw [xor_eq]
  have h2 := (BitVec.ofInt 8 a ^^^ BitVec.ofInt 8 b).isLt
  omega
theorem xor_xor {z : Int} (k : Int) (h0 : 0 ≤ z) (h1 : z ≤ 255) : bits .xor .u8 (bits .xor .u8 z k) k = z := by
  rw [xor_eq, xor_eq]
  have e : BitVec.ofInt 8 ((BitVec.ofInt 8 z ^^^ BitVec.ofInt 8 k).toNat : Int) = BitVec.ofInt 8 z ^^^ BitVec.ofInt 8 k := by
    apply BitVec.eq_of_toNat_eq
    have h2 := (BitVec.ofInt 8 z ^^^ BitVec.ofInt 8 k).isLt
    rw [BitVec.toNat_ofInt]
    omega
  rw [e, BitVec.xor_assoc, BitVec.xor_self, BitVec.xor_zero, BitVec.toNat_ofInt]
  omega
theorem sealB_byt (s : Int) (l : List Int) : Byt (sealB s l) := by
  intro z hz
  obtain ⟨i, hi, rfl⟩ := List.mem_mapIdx.1 hz
  exact xor_bd _ _
theorem seal_byt (l : List Int) (s : Int) : Byt (sealOf l s) := by
  by_cases h : SealOk l s
  · rw [seal_yes h]; exact sealB_byt _ _
  · rw [seal_no h]; intro z hz; simp at hz
theorem sealB_back (s : Int) {l : List Int} (h : Byt l) : sealB s (sealB s l) = l := by
  apply List.ext_getElem
  · simp [sealB_len]
  · intro i h1 h2
    have := h l[i] (List.getElem_mem _)
    simp only [sealB, List.getElem_mapIdx]
    exact xor_xor _ this.1 this.2

end Go.Proofs.Ytghglpcfpokmhaa

namespace Go.Proofs.Ytghglpcfpokmhaa
open Go.RowKit
set_option linter.unusedVariables false
set_option linter.unusedSimpArgs false

theorem byt_at {l : List Int} {k : Nat} {z : Int} (h : Byt l) (hz : l[k]? = some z) : 0 ≤ z ∧ z ≤ 255 := h z (List.mem_of_getElem? hz)
set_option maxHeartbeats 800000 in
theorem sdig_any (a : Option Addr) (cap : Nat) (l : List Int) (w : World) (hl : l.length ≤ maxLen) (hy : Byt l) (hk : Bys w a l) :
    Calls Try.prog 22 #[.slice a l.length cap] w fun e w' => e = .returned (.int .i64 (dig l)) ∧ w' = w := by
  unfold maxLen at hl
  have hk' := hide hk
  have hy' := hide hy
  clear hk hy
  go_enter Try.func22, Try.ntmps22
  go_wp2
  go_loop [3, 4] (fun h t => ∃ k : Nat, k ≤ l.length ∧ k ≤ 40000 ∧ t = .int .i64 k ∧ h = .int .i64 (dgs (l.take k))) (fun _ t => l.length - (intOf t).toNat)
  case atStart => exact ⟨0, by omega, by omega, rfl, rfl⟩
  case round =>
    obtain ⟨k, hk1, hk2, rfl, rfl⟩ := hrel
    have hb := dgs_bd (l.take k)
    by_cases hlt : k < l.length
    · by_cases h4 : k < 40000
      · obtain ⟨b, o, x, rfl, hx, i1, c0⟩ := bys_at (unhide hk') (Below.refl _ _) hlt
        have hz := byt_at (unhide hy') hx
        have hs := dgs_snoc (l.take k) x
        rw [← take_snocI hx] at hs
        have hs' := hide hs
        have g1 : decide ((k : Int) < l.length) = true := by simp; omega
        have g2 : decide ((k : Int) < 40000) = true := by simp; omega
        clear hs hx i1
        generalize dgs (l.take k) = D at *
        go_wp2
        go_round
        case rel => exact ⟨k + 1, by omega, by omega, by go_num, by rw [unhide hs']⟩
        case measure => simp [intOf]; omega
      · have hke : Hid (k = 40000) := hide (by omega)
        have g1 : decide ((k : Int) < l.length) = true := by simp; omega
        have g2 : decide ((k : Int) < 40000) = false := by simp; omega
        go_wp2
        go_ret
        exact ⟨ret_int (by unfold dig; rw [unhide hke]), rfl⟩
    · have g1 : decide ((k : Int) < l.length) = false := by simp; omega
      have hke : Hid (k = l.length) := hide (by omega)
      go_wp2
      go_ret
      refine ⟨ret_int ?_, rfl⟩
      unfold dig
      rw [List.take_of_length_le (by have := unhide hke; omega), List.take_of_length_le (by have := unhide hke; omega)]
set_option maxHeartbeats 800000 in
theorem idig_any (a : Option Addr) (cap : Nat) (l : List Int) (w : World) (hl : l.length ≤ maxLen) (hc : l.length ≤ cap) (hc2 : cap ≤ maxLen) (hy : Byt l) (hk : Bys w a l) :
    Calls Try.prog 33 #[.slice a l.length cap] w fun e w' => e = .returned (.int .i64 (dig l)) ∧ w' = w := by
  unfold maxLen at hl hc2
  have hk' := hide hk
  have hy' := hide hy
  clear hk hy
  obtain ⟨N, hN⟩ : ∃ N : Nat, min (l.length : Int) 40000 = N ∧ N ≤ l.length ∧ N ≤ 40000 ∧ l.take 40000 = l.take N := by
    by_cases h : l.length ≤ 40000
    · exact ⟨l.length, by omega, by omega, h, by rw [List.take_of_length_le h, List.take_of_length_le (Nat.le_refl _)]⟩
    · exact ⟨40000, by omega, by omega, by omega, rfl⟩
  obtain ⟨hN1, hN2, hN3, hN4⟩ := hN
  have hN5 := hide hN4
  clear hN4
  go_enter Try.func33, Try.ntmps33
  go_wp2
  go_loop [3, 12] (fun h t => ∃ k : Nat, k ≤ N ∧ t = .int .i64 k ∧ h = .int .i64 (dgs (l.take k))) (fun _ t => N - (intOf t).toNat)
  case atStart => exact ⟨0, by omega, rfl, rfl⟩
  case round =>
    obtain ⟨k, hk1, rfl, rfl⟩ := hrel
    have hb := dgs_bd (l.take k)
    by_cases hlt : k < N
    · obtain ⟨b, o, x, rfl, hx, i1, c0⟩ := bys_at (unhide hk') (Below.refl _ _) (Nat.lt_of_lt_of_le hlt hN2)
      have hz := byt_at (unhide hy') hx
      have hs := dgs_snoc (l.take k) x
      rw [← take_snocI hx] at hs
      have hs' := hide hs
      have g1 : decide ((k : Int) < N) = true := by simp; omega
      clear hs hx i1
      generalize dgs (l.take k) = D at *
      go_wp2
      go_round
      case rel => exact ⟨k + 1, by omega, by go_num, by rw [unhide hs']⟩
      case measure => simp [intOf]; omega
    · have g1 : decide ((k : Int) < N) = false := by simp; omega
      have hke : Hid (k = N) := hide (by omega)
      go_wp2
      go_ret
      exact ⟨ret_int (by unfold dig; rw [unhide hN5, unhide hke]), rfl⟩

end Go.Proofs.Ytghglpcfpokmhaa
