/-
  Lists of bytes in memory: owned rows and lists that are read, and contracts of the law's functions that copy them, hold them against each other, write marks into them and look for these again.
  Digests and seals as plain numbers; no conditions.
  Contracts of both digests; nothing is written.
-/
import Derived.Test.YtpdnceeniokemaaZMm
namespace Go.Proofs.Ytpdnceeniokemaa
open Go.RowKit
set_option linter.unusedVariables false
set_option linter.unusedSimpArgs false

abbrev bv (x : Int) : Value := .int .u8 x
/-- the first i cells bear the marks from q on -/
def MkB (q : Int) (i : Nat) (xs : List Value) : Prop := ∀ j, j < i → xs[j]? = some (bv ((q + j) % 256))
theorem MkB.set {q : Int} {i : Nat} {xs : List Value} (h : MkB q i xs) (hi : i < xs.length) : MkB q (i + 1) (xs.set i (bv ((q + i) % 256))) := by
  intro j hj
  by_cases e : j = i
  · subst e; simp [hi]
  · rw [List.getElem?_set_ne (by omega)]; exact h j (by omega)
/-- numbers of a byte -/
def Byt (l : List Int) : Prop := ∀ z ∈ l, 0 ≤ z ∧ z ≤ 255
theorem infoB : (Try.prog.info? 5).map (fun i => (i.zero, i.size, i.bytes)) = some (some (.int .u8 0), 1, 1) := by kernel_rfl
/-- the numbers l behind the address a -/
def Bys (w : World) (a : Option Addr) (l : List Int) : Prop :=
  ∀ j x, l[j]? = some x → ∃ b o, a = some ⟨b, o, none⟩ ∧ b < w.heap.size ∧ w.cell? ⟨b, o + j, none⟩ = some (.int .u8 x)
theorem Bys.nil {w : World} {a : Option Addr} : Bys w a [] := by intro j z hz; simp at hz
theorem Bys.below {w w' : World} {a : Option Addr} {l : List Int} (h : Bys w a l) (s : Below w.heap.size w w') : Bys w' a l := by
  intro j x hx
  obtain ⟨b, o, e, h1, c0⟩ := h j x hx
  exact ⟨b, o, e, Nat.lt_of_lt_of_le h1 s.size, ((bcell s).1 b _ h1).trans c0⟩
theorem bys_at {w wr : World} {a : Option Addr} {l : List Int} {k : Nat} (h : Bys w a l) (hw : Below w.heap.size w wr) (hk : k < l.length) : ∃ b o x, a = some ⟨b, o, none⟩ ∧ l[k]? = some x ∧ b < w.heap.size ∧ wr.cell? ⟨b, o + k, none⟩ = some (.int .u8 x) := by
  obtain ⟨b, o, e, h1, c0⟩ := h k l[k] (List.getElem?_eq_getElem hk)
  exact ⟨b, o, _, e, List.getElem?_eq_getElem hk, h1, ((bcell hw).1 b _ h1).trans c0⟩
/-- an owned list of numbers -/
abbrev OwnB (w : World) (B g n cap : Nat) (l : List Int) : Prop := w.ownsRow B 5 1 (.slice (some ⟨g, 0, none⟩) n cap) n (l.map bv)
theorem ownB_len {w : World} {B g n cap : Nat} {l : List Int} (h : OwnB w B g n cap l) : l.length = n := by
  have hl : (l.map bv).length = n * 1 := h.1
  simpa using hl
theorem ownB_at {w : World} {B g n cap k : Nat} {l : List Int} {x : Int} (hk : l[k]? = some x) (h : OwnB w B g n cap l) : w.cell? ⟨g, k, none⟩ = some (.int .u8 x) := by
  have hl := ownB_len h
  have hj : k < l.length := (List.getElem?_eq_some_iff.1 hk).1
  have := h.cellAt k (by omega)
  rw [this, List.getElem?_map, hk]; rfl
theorem ownB_put {w : World} {B g n cap : Nat} {l : List Int} (k : Nat) (x : Int) (h : OwnB w B g n cap l) : OwnB (w.setCell ⟨g, k, none⟩ (.int .u8 x)) B g n cap (l.set k x) := by
  have h1 := (h.stored k (bv x)).1
  show World.ownsRow _ _ _ _ _ _ _
  rw [List.map_set]; exact h1
theorem bys_own {w : World} {B g n cap : Nat} {l : List Int} (h : OwnB w B g n cap l) : Bys w (some ⟨g, 0, none⟩) l := by
  intro j z hj
  exact ⟨g, 0, rfl, own_lt h, by rw [Nat.zero_add]; exact ownB_at hj h⟩
theorem ownB_lit0 (w : World) {B : Nat} (hB : B ≤ w.heap.size) : OwnB (w.alloc (.cells #[] 5)) B w.heap.size 0 0 [] := by
  have h := World.ownsRow_lit (base := B) (e := 5) (size := 1) w #[] 0 hB (by unfold maxLen; omega) rfl
  exact h
/-- the copy's list as it stands -/
def midB (l : List Int) (n k : Nat) : List Int := l.take k ++ List.replicate (n - k) 0
theorem midB_len {l : List Int} {n k : Nat} (hl : l.length = n) (hk : k ≤ n) : (midB l n k).length = n := by simp [midB]; omega
theorem midB_set {l : List Int} {n k : Nat} {x : Int} (hl : l.length = n) (h : l[k]? = some x) : (midB l n k).set k x = midB l n (k + 1) := by
  have hk : k < l.length := (List.getElem?_eq_some_iff.1 h).1
  unfold midB
  rw [List.take_add_one, h, List.set_append_right _ _ (by simp; omega)]
  have e : n - k = (n - (k + 1)) + 1 := by omega
  rw [e, List.replicate_succ]
  have e2 : k - (l.take k).length = 0 := by simp; omega
  rw [e2]; simp
theorem made_B (n : Nat) : (madeCells #[.int .u8 0] n).toList = (List.replicate n (0 : Int)).map bv := by
  have := toList_madeCells_one (.int .u8 0) n
  simpa [bv] using this

set_option maxHeartbeats 800000 in
theorem tob_any (a : Option Addr) (cap : Nat) (zs : List Int) (w : World) (hl : zs.length ≤ 1048576) (hr : Bys w a zs) :
    Calls Try.prog 18 #[.slice a zs.length cap] w fun e w' => ∃ B, e = .returned (.slice (some ⟨B, 0, none⟩) zs.length zs.length) ∧ w.heap.size ≤ B ∧ OwnB w' w.heap.size B zs.length zs.length zs ∧ Below w.heap.size w w' := by
  obtain ⟨i0, hi, hz0, hz1, hz2⟩ := info_parts infoB
  go_enter Try.func18, Try.ntmps18
  go_wp2_with (refine wpList_make_full _ rfl _ _ 22 rfl w.heap.size 5 i0 (.int .u8 0) 1 Try.underlying22 hi hz0 hz1 .i64 .i64 _ _ zs.length rfl rfl rfl rfl ?b2 ?b3 (Nat.le_refl _) ?_)
  case b2 => rw [hz2]; omega
  case b3 => unfold maxLen; omega
  intro w1 hown hg
  have hb1 : Below w.heap.size w w1 := (Below.refl _ _).grown hg (Nat.le_refl _) (fun k hk => by cases hk)
  have hown1 : OwnB w1 w.heap.size w.heap.size zs.length zs.length (midB zs zs.length 0) := by
    have e : (midB zs zs.length 0).map bv = (madeCells #[.int .u8 0] zs.length).toList := by rw [made_B]; simp [midB]
    show World.ownsRow _ _ _ _ _ _ _
    rw [e]; exact hown
  clear hown hg
  go_wp2
  go_loopw [4] (fun t wr => ∃ k : Nat, k ≤ zs.length ∧ t = .int .i64 k ∧ Hid (OwnB wr w.heap.size w.heap.size zs.length zs.length (midB zs zs.length k)) ∧ Hid (Below w.heap.size w wr)) (fun t _ => zs.length - (intOf t).toNat)
  case atStart => exact ⟨0, by omega, rfl, hide hown1, hide hb1⟩
  case round =>
    clear hown1 hb1
    obtain ⟨k, hk, rfl, hown, hb⟩ := hrel
    by_cases hlt : k < zs.length
    · obtain ⟨z, hz⟩ : ∃ z, zs[k]? = some z := ⟨zs[k], List.getElem?_eq_getElem hlt⟩
      obtain ⟨b, o, rfl, h2, c0⟩ := hr k z hz
      have hcw : wr.cell? ⟨b, o + k, none⟩ = some (.int .u8 z) := by rw [(bcell (unhide hb)).1 _ _ h2]; exact c0
      have hr' := hide hr
      have hml : k < (midB zs zs.length k).length := by rw [midB_len rfl hk]; exact hlt
      have x0 := ownB_at (List.getElem?_eq_getElem hml) (unhide hown)
      have f0 := (unhide hown).frozenAt k
      have hnew := hide (show _ from by have := ownB_put k z (unhide hown); rw [midB_set rfl hz] at this; exact this)
      generalize (midB zs zs.length k)[k] = u0 at *
      clear hr hz c0 hown hml
      go_wp2
      go_roundw
      case rel => exact ⟨k + 1, by omega, by go_num, hnew, hide ((unhide hb).setCell (Nat.le_refl _) _)⟩
      case measure => simp [intOf]; omega
    · have hke : k = zs.length := by omega
      have hr' := hide hr
      clear hr
      go_wp2
      go_ret
      refine ⟨_, rfl, Nat.le_refl _, ?_, unhide hb⟩
      have := unhide hown
      rw [hke] at this
      simpa [midB] using this

set_option maxHeartbeats 800000 in
theorem eqb_any (a b : Option Addr) (ca cb : Nat) (l : List Int) (w : World) (hl : l.length ≤ 1048576) (ha : Bys w a l) (hb : Bys w b l) :
    Calls Try.prog 20 #[.slice a l.length ca, .slice b l.length cb] w fun e w' => e = .returned (.bool true) ∧ Below w.heap.size w w' := by
  have ha' := hide ha
  have hb' := hide hb
  clear ha hb
  have hne : ((l.length : Int) != l.length) = false := by simp
  go_enter Try.func20, Try.ntmps20
  go_wp2
  go_loopw [5] (fun t wr => ∃ k : Nat, k ≤ l.length ∧ t = .int .i64 k ∧ Hid (Below w.heap.size w wr)) (fun t _ => l.length - (intOf t).toNat)
  case atStart => exact ⟨0, by omega, rfl, hide (Below.refl _ _)⟩
  case round =>
    obtain ⟨k, hk, rfl, hw⟩ := hrel
    by_cases hlt : k < l.length
    · obtain ⟨b1, o1, x, rfl, hx, i1, c0⟩ := bys_at (unhide ha') (unhide hw) hlt
      obtain ⟨b2, o2, y, rfl, hy, i2, d0⟩ := bys_at (unhide hb') (unhide hw) hlt
      rw [hx] at hy
      injection hy with hy
      subst hy
      have e1 : (x != x) = false := by simp
      clear hx i1 i2
      go_wp2_with fail
      go_quiet (fail)
      go_wp2
      go_roundw
      case rel => exact ⟨k + 1, by omega, by go_num, hide (below_drewN (unhide hw) _)⟩
      case measure => simp [intOf]; omega
    · have hke : k = l.length := by omega
      go_wp2
      go_ret
      exact ⟨rfl, unhide hw⟩

set_option maxHeartbeats 800000 in
theorem markb_any (B g n cap : Nat) (q : Int) (xs : List Value) (w : World) (hn : n ≤ 10000000) (q0 : 0 ≤ q) (q1 : q ≤ 100000000) (h : w.ownsRow B 5 1 (.slice (some ⟨g, 0, none⟩) n cap) n xs) :
    Calls Try.prog 46 #[.slice (some ⟨g, 0, none⟩) n cap, .int .i64 q] w fun e w' => e = .returned (.int .i64 (q + n)) ∧ (∃ ys, w'.ownsRow B 5 1 (.slice (some ⟨g, 0, none⟩) n cap) n ys ∧ MkB q n ys) ∧ w.grownBy w' (some g) := by
  have h' := hide h
  clear h
  go_enter Try.func46, Try.ntmps46
  go_wp2
  go_loopw [1, 5] (fun s t wr => ∃ k : Nat, k ≤ n ∧ t = .int .i64 k ∧ s = .int .i64 (q + k) ∧ Hid (∃ ys, wr.ownsRow B 5 1 (.slice (some ⟨g, 0, none⟩) n cap) n ys ∧ MkB q k ys) ∧ Hid (w.grownBy wr (some g))) (fun _ t _ => n - (intOf t).toNat)
  case atStart => exact ⟨0, by omega, rfl, by simp, hide ⟨xs, unhide h', fun j hj => by omega⟩, hide (grown_refl _ _)⟩
  case round =>
    obtain ⟨k, hk, rfl, rfl, hown, hg⟩ := hrel
    by_cases hlt : k < n
    · obtain ⟨ys, hy, hm⟩ := unhide hown
      obtain ⟨v, c0, f0, _, hl⟩ := own_at (i := k) hy (by omega)
      have hnew := hide (show ∃ ys, (wr.setCell ⟨g, k, none⟩ (.int .u8 ((q + k) % 256))).ownsRow B 5 1 (.slice (some ⟨g, 0, none⟩) n cap) n ys ∧ MkB q (k + 1) ys from ⟨_, (hy.stored k (bv ((q + k) % 256))).1, hm.set (by omega)⟩)
      clear hown hy hm hl
      go_wp2
      go_roundw
      case rel => exact ⟨k + 1, by omega, by go_num, by go_num, hnew, hide (grown_set (unhide hg))⟩
      case measure => simp [intOf]; omega
    · have hke : k = n := by omega
      have hf : Hid (∃ ys, wr.ownsRow B 5 1 (.slice (some ⟨g, 0, none⟩) n cap) n ys ∧ MkB q n ys) := hide (by have := unhide hown; rw [hke] at this; exact this)
      clear hown
      go_wp2
      go_ret
      exact ⟨ret_int (by omega), unhide hf, unhide hg⟩

set_option maxHeartbeats 800000 in
theorem heldb_any (B g n cap : Nat) (q : Int) (xs : List Value) (w : World) (hn : n ≤ 10000000) (q0 : 0 ≤ q) (q1 : q ≤ 100000000) (h : w.ownsRow B 5 1 (.slice (some ⟨g, 0, none⟩) n cap) n xs) (hm : MkB q n xs) :
    Calls Try.prog 47 #[.slice (some ⟨g, 0, none⟩) n cap, .int .i64 q] w fun e w' => e = .returned (.int .i64 (q + n)) ∧ w' = w := by
  have h' := hide h
  have hm' := hide hm
  clear h hm
  go_enter Try.func47, Try.ntmps47
  go_wp2
  go_loop [1, 5] (fun s t => ∃ k : Nat, k ≤ n ∧ t = .int .i64 k ∧ s = .int .i64 (q + k)) (fun _ t => n - (intOf t).toNat)
  case atStart => exact ⟨0, by omega, rfl, by simp⟩
  case round =>
    obtain ⟨k, hk, rfl, rfl⟩ := hrel
    by_cases hlt : k < n
    · obtain ⟨v, c0, f0, hv, hl⟩ := own_at (i := k) (unhide h') (by omega)
      rw [unhide hm' k hlt] at hv
      cases hv
      have c1 : w.cell? ⟨g, k, none⟩ = some (.int .u8 ((q + k) % 256)) := c0
      have s0 : ((q + k) % 256 != (q + k) % 256) = false := by simp
      clear c0 f0 hl
      go_wp2
      go_round
      case rel => exact ⟨k + 1, by omega, by go_num, by go_num⟩
      case measure => simp [intOf]; omega
    · have hke : k = n := by omega
      go_wp2
      go_ret
      exact ⟨ret_int (by omega), rfl⟩

end Go.Proofs.Ytpdnceeniokemaa

namespace Go.Proofs.Ytpdnceeniokemaa
open Go.RowKit
set_option linter.unusedVariables false
set_option linter.unusedSimpArgs false

/-- one byte more of a digest -/
def dgf (h z : Int) : Int := (h * 257 + z + 1) % 1000000007
def dgs (l : List Int) : Int := l.foldl dgf 0
/-- the digest of a list of bytes -/
def dig (l : List Int) : Int := dgs (l.take 40000)
theorem dgs_snoc (l : List Int) (z : Int) : dgs (l ++ [z]) = (dgs l * 257 + z + 1) % 1000000007 := by simp [dgs, dgf]
theorem dgs_bd (l : List Int) : 0 ≤ dgs l ∧ dgs l < 1000000007 := by
  rcases List.eq_nil_or_concat l with rfl | ⟨t, z, rfl⟩
  · simp [dgs]
  · rw [List.concat_eq_append, dgs_snoc]; omega
theorem dig_bd (l : List Int) : 0 ≤ dig l ∧ dig l < 1000000007 := dgs_bd _
theorem take_snocI {l : List Int} {k : Nat} {z : Int} (h : l[k]? = some z) : l.take (k + 1) = l.take k ++ [z] := by rw [List.take_add_one, h]; rfl
/-- what a secret has become behind k bytes -/
def sk (s : Int) : Nat → Int
  | 0 => s
  | n + 1 => sk s n * 48271 % 1000000007
theorem sk_bd {s : Int} (h0 : 1 ≤ s) (h1 : s ≤ 1000000006) (k : Nat) : 0 ≤ sk s k ∧ sk s k ≤ 1000000006 := by
  cases k with
  | zero => simp [sk]; omega
  | succ k => simp [sk]; omega
/-- a list sealed -/
def sealB (s : Int) (l : List Int) : List Int := l.mapIdx fun i z => bits .xor .u8 z (sk s (i + 1) % 256)
theorem sealB_snoc (s : Int) (l : List Int) (z : Int) : sealB s (l ++ [z]) = sealB s l ++ [bits .xor .u8 z (sk s (l.length + 1) % 256)] := by
  simp [sealB, List.mapIdx_append]
theorem sealB_len (s : Int) (l : List Int) : (sealB s l).length = l.length := by simp [sealB]
def SealOk (l : List Int) (s : Int) : Prop := (1 ≤ s ∧ s ≤ 1000000006) ∧ l.length ≤ 40000
open Classical in
noncomputable def sealOf (l : List Int) (s : Int) : List Int := if SealOk l s then sealB s l else []
theorem seal_yes {l : List Int} {s : Int} (h : SealOk l s) : sealOf l s = sealB s l := by unfold sealOf; rw [if_pos h]
theorem seal_no {l : List Int} {s : Int} (h : ¬ SealOk l s) : sealOf l s = [] := by unfold sealOf; rw [if_neg h]
theorem seal_len (l : List Int) (s : Int) : (sealOf l s).length ≤ 40000 := by
  by_cases h : SealOk l s
  · rw [seal_yes h, sealB_len]; exact h.2
  · rw [seal_no h]; simp
/-- a lock's numbers are as told, and the minute lies in its time -/
def OpenOk (f t s m : Int) (l : List Int) : Prop := (0 ≤ f ∧ f ≤ t ∧ t ≤ 1000000000) ∧ (f ≤ m ∧ m ≤ t) ∧ SealOk l s
open Classical in
noncomputable def openB (f t s m : Int) (l : List Int) : Bool := decide (OpenOk f t s m l)
open Classical in
noncomputable def openOf (f t s m : Int) (l : List Int) : List Int := if OpenOk f t s m l then sealB s l else []
theorem open_yes {f t s m : Int} {l : List Int} (h : OpenOk f t s m l) : openOf f t s m l = sealB s l ∧ openB f t s m l = true := by unfold openOf openB; rw [if_pos h]; exact ⟨rfl, by simpa using h⟩
theorem open_no {f t s m : Int} {l : List Int} (h : ¬ OpenOk f t s m l) : openOf f t s m l = [] ∧ openB f t s m l = false := by unfold openOf openB; rw [if_neg h]; exact ⟨rfl, by simpa using h⟩
theorem open_len (f t s m : Int) (l : List Int) : (openOf f t s m l).length ≤ 40000 := by
  by_cases h : OpenOk f t s m l
  · rw [(open_yes h).1, sealB_len]; exact h.2.2.2
  · rw [(open_no h).1]; simp
theorem xor_eq (a b : Int) : bits .xor .u8 a b = ((BitVec.ofInt 8 a ^^^ BitVec.ofInt 8 b).toNat : Int) := by
  have h : bits .xor .u8 a b = IntKind.u8.wrap ((BitVec.ofInt 8 a ^^^ BitVec.ofInt 8 b).toNat : Int) := rfl
  have h2 := (BitVec.ofInt 8 a ^^^ BitVec.ofInt 8 b).isLt
  rw [h, IntKind.wrap_u8]
  omega
theorem xor_bd (a b : Int) : 0 ≤ bits .xor .u8 a b ∧ bits .xor .u8 a b ≤ 255 := by
  rw [xor_eq]
  have h2 := (BitVec.ofInt 8 a ^^^ BitVec.ofInt 8 b).isLt
  omega
theorem xor_xor {z : Int} (k : Int) (h0 : 0 ≤ z) (h1 : z ≤ 255) : bits .xor .u8 (bits .xor .u8 z k) k = z := by
  rw [xor_eq, xor_eq]
  have e : BitVec.ofInt 8 ((BitVec.ofInt 8 z ^^^ BitVec.ofInt 8 k).toNat : Int) = BitVec.ofInt 8 z ^^^ BitVec.ofInt 8 k := by
    apply BitVec.eq_of_toNat_eq
    have h2 := (BitVec.ofInt 8 z ^^^ BitVec.ofInt 8 k).isLt
    rw [BitVec.toNat_ofInt]
    omega
  rw [e, BitVec.xor_assoc, BitVec.xor_self, BitVec.xor_zero, BitVec.toNat_ofInt]
  omega
theorem sealB_byt (s : Int) (l : List Int) : Byt (sealB s l) := by
  intro z hz
  obtain ⟨i, hi, rfl⟩ := List.mem_mapIdx.1 hz
  exact xor_bd _ _
theorem seal_byt (l : List Int) (s : Int) : Byt (sealOf l s) := by
  by_cases h : SealOk l s
  · rw [seal_yes h]; exact sealB_byt _ _
  · rw [seal_no h]; intro z hz; simp at hz
theorem sealB_back (s : Int) {l : List Int} (h : Byt l) : sealB s (sealB s l) = l := by
  apply List.ext_getElem
  · simp [sealB_len]
  · intro i h1 h2
    have := h l[i] (List.getElem_mem _)
    simp only [sealB, List.getElem_mapIdx]
    exact xor_xor _ this.1 this.2

end Go.Proofs.Ytpdnceeniokemaa

namespace Go.Proofs.Ytpdnceeniokemaa
open Go.RowKit
set_option linter.unusedVariables false
set_option linter.unusedSimpArgs false

theorem byt_at {l : List Int} {k : Nat} {z : Int} (h : Byt l) (hz : l[k]? = some z) : 0 ≤ z ∧ z ≤ 255 := h z (List.mem_of_getElem? hz)
set_option maxHeartbeats 800000 in
theorem sdig_any (a : Option Addr) (cap : Nat) (l : List Int) (w : World) (hl : l.length ≤ maxLen) (hy : Byt l) (hk : Bys w a l) :
    Calls Try.prog 17 #[.slice a l.length cap] w fun e w' => e = .returned (.int .i64 (dig l)) ∧ w' = w := by
  unfold maxLen at hl
  have hk' := hide hk
  have hy' := hide hy
  clear hk hy
  go_enter Try.func17, Try.ntmps17
  go_wp2
  go_loop [3, 4] (fun h t => ∃ k : Nat, k ≤ l.length ∧ k ≤ 40000 ∧ t = .int .i64 k ∧ h = .int .i64 (dgs (l.take k))) (fun _ t => l.length - (intOf t).toNat)
  case atStart => exact ⟨0, by omega, by omega, rfl, rfl⟩
  case round =>
    obtain ⟨k, hk1, hk2, rfl, rfl⟩ := hrel
    have hb := dgs_bd (l.take k)
    by_cases hlt : k < l.length
    · by_cases h4 : k < 40000
      · obtain ⟨b, o, x, rfl, hx, i1, c0⟩ := bys_at (unhide hk') (Below.refl _ _) hlt
        have hz := byt_at (unhide hy') hx
        have hs := dgs_snoc (l.take k) x
        rw [← take_snocI hx] at hs
        have hs' := hide hs
        have g1 : decide ((k : Int) < l.length) = true := by simp; omega
        have g2 : decide ((k : Int) < 40000) = true := by simp; omega
        clear hs hx i1
        generalize dgs (l.take k) = D at *
        go_wp2
        go_round
        case rel => exact ⟨k + 1, by omega, by omega, by go_num, by rw [unhide hs']⟩
        case measure => simp [intOf]; omega
      · have hke : Hid (k = 40000) := hide (by omega)
        have g1 : decide ((k : Int) < l.length) = true := by simp; omega
        have g2 : decide ((k : Int) < 40000) = false := by simp; omega
        go_wp2
        go_ret
        exact ⟨ret_int (by unfold dig; rw [unhide hke]), rfl⟩
    · have g1 : decide ((k : Int) < l.length) = false := by simp; omega
      have hke : Hid (k = l.length) := hide (by omega)
      go_wp2
      go_ret
      refine ⟨ret_int ?_, rfl⟩
      unfold dig
      rw [List.take_of_length_le (by have := unhide hke; omega), List.take_of_length_le (by have := unhide hke; omega)]
set_option maxHeartbeats 800000 in
theorem idig_any (a : Option Addr) (cap : Nat) (l : List Int) (w : World) (hl : l.length ≤ maxLen) (hc : l.length ≤ cap) (hc2 : cap ≤ maxLen) (hy : Byt l) (hk : Bys w a l) :
    Calls Try.prog 19 #[.slice a l.length cap] w fun e w' => e = .returned (.int .i64 (dig l)) ∧ w' = w := by
  unfold maxLen at hl hc2
  have hk' := hide hk
  have hy' := hide hy
  clear hk hy
  obtain ⟨N, hN⟩ : ∃ N : Nat, min (l.length : Int) 40000 = N ∧ N ≤ l.length ∧ N ≤ 40000 ∧ l.take 40000 = l.take N := by
    by_cases h : l.length ≤ 40000
    · exact ⟨l.length, by omega, by omega, h, by rw [List.take_of_length_le h, List.take_of_length_le (Nat.le_refl _)]⟩
    · exact ⟨40000, by omega, by omega, by omega, rfl⟩
  obtain ⟨hN1, hN2, hN3, hN4⟩ := hN
  have hN5 := hide hN4
  clear hN4
  go_enter Try.func19, Try.ntmps19
  go_wp2
  go_loop [3, 12] (fun h t => ∃ k : Nat, k ≤ N ∧ t = .int .i64 k ∧ h = .int .i64 (dgs (l.take k))) (fun _ t => N - (intOf t).toNat)
  case atStart => exact ⟨0, by omega, rfl, rfl⟩
  case round =>
    obtain ⟨k, hk1, rfl, rfl⟩ := hrel
    have hb := dgs_bd (l.take k)
    by_cases hlt : k < N
    · obtain ⟨b, o, x, rfl, hx, i1, c0⟩ := bys_at (unhide hk') (Below.refl _ _) (Nat.lt_of_lt_of_le hlt hN2)
      have hz := byt_at (unhide hy') hx
      have hs := dgs_snoc (l.take k) x
      rw [← take_snocI hx] at hs
      have hs' := hide hs
      have g1 : decide ((k : Int) < N) = true := by simp; omega
      clear hs hx i1
      generalize dgs (l.take k) = D at *
      go_wp2
      go_round
      case rel => exact ⟨k + 1, by omega, by go_num, by rw [unhide hs']⟩
      case measure => simp [intOf]; omega
    · have g1 : decide ((k : Int) < N) = false := by simp; omega
      have hke : Hid (k = N) := hide (by omega)
      go_wp2
      go_ret
      exact ⟨ret_int (by unfold dig; rw [unhide hN5, unhide hke]), rfl⟩

end Go.Proofs.Ytpdnceeniokemaa
