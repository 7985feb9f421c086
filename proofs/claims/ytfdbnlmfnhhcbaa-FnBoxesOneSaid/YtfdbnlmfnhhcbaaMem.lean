/-
  Boxes as plain values, and what it is that a slice in memory holds such values; no conditions.
-/
import Derived.Test.YtfdbnlmfnhhcbaaProg
import Derived.WalkKit
import Derived.WalkSpells
import Derived.WalkLawsBesides
import Derived.Deep.QuietTactic
import Derived.BigQuiet
namespace Go.Proofs.Ytfdbnlmfnhhcbaa
open Go.RowKit
set_option linter.unusedVariables false
set_option linter.unusedSimpArgs false

theorem hide {p : Prop} (h : p) : Hid p := h
theorem unhide {p : Prop} (h : Hid p) : p := h
theorem ret_int {k : IntKind} {a b : Int} (h : a = b) : Ending.returned (.int k a) = .returned (.int k b) := by rw [h]
theorem ret_bool {a b : Bool} (h : a = b) : Ending.returned (.bool a) = .returned (.bool b) := by rw [h]
theorem bcell {W w1 : World} (hb : Below W.heap.size W w1) : (∀ b o, b < W.heap.size → w1.cell? ⟨b, o, none⟩ = W.cell? ⟨b, o, none⟩) ∧ (∀ b o, b < W.heap.size → w1.frozen? ⟨b, o, none⟩ = W.frozen? ⟨b, o, none⟩) :=
  ⟨fun b o h => hb.cell (p := ⟨b, o, none⟩) h, fun b o h => hb.frozen (p := ⟨b, o, none⟩) h⟩

/-- a box as a value: its kind, its depth, its bytes -/
structure Bx where
  k : ByteArray
  d : Int
  z : List Int

/-- blocks lo to hi are the same in both worlds -/
def Same (lo hi : Nat) (w w' : World) : Prop := ∀ b, lo ≤ b → b < hi → w'.heap[b]? = w.heap[b]?

/-- the bytes zs behind the address a, in a block from lo on and ahead of hi; own: they may be written -/
def Row (own : Bool) (lo hi : Nat) (w : World) (a : Option Addr) (zs : List Int) : Prop :=
  ∀ j z, zs[j]? = some z → ∃ b o, a = some ⟨b, o, none⟩ ∧ lo ≤ b ∧ b < hi ∧ w.cell? ⟨b, o + j, none⟩ = some (.int .u8 z) ∧ 0 ≤ z ∧ z ≤ 255 ∧ (own = true → w.frozen? ⟨b, o + j, none⟩ = false)

/-- the boxes l behind the address a; A: where their bytes lie, and with what room -/
def Bxs (own : Bool) (lo hi : Nat) (w : World) (a : Option Addr) (A : Nat → Option Addr × Nat) (l : List Bx) : Prop :=
  ∀ j x, l[j]? = some x → ∃ b o, a = some ⟨b, o, none⟩ ∧ lo ≤ b ∧ b < hi ∧ w.cell? ⟨b, o + j * 3, none⟩ = some (.string x.k) ∧ w.cell? ⟨b, o + j * 3 + 1, none⟩ = some (.int .i64 x.d) ∧
    w.cell? ⟨b, o + j * 3 + 2, none⟩ = some (.slice (A j).1 x.z.length (A j).2) ∧ Row own lo hi w (A j).1 x.z ∧ x.k.size ≤ maxLen ∧ -9223372036854775808 ≤ x.d ∧ x.d ≤ 9223372036854775807 ∧ x.z.length ≤ (A j).2 ∧ (A j).2 ≤ maxLen ∧
    (own = true → w.frozen? ⟨b, o + j * 3, none⟩ = false ∧ w.frozen? ⟨b, o + j * 3 + 1, none⟩ = false ∧ w.frozen? ⟨b, o + j * 3 + 2, none⟩ = false ∧ ∀ y, (A j).1 = some y → y.block ≠ b)
/-- no two of the byte lists lie in one block -/
def Dist (A : Nat → Option Addr × Nat) (n : Nat) : Prop := ∀ i j x y, i < j → j < n → (A i).1 = some x → (A j).1 = some y → x.block ≠ y.block

theorem Row.same {own : Bool} {lo hi : Nat} {w w' : World} {a : Option Addr} {zs : List Int} (h : Row own lo hi w a zs) (s : Same lo hi w w') : Row own lo hi w' a zs := by
  intro j z hz
  obtain ⟨b, o, e, h1, h2, hc, z0, z1, hf⟩ := h j z hz
  have hs := s b h1 h2
  exact ⟨b, o, e, h1, h2, (World.cell?_of_block (a := ⟨b, o + j, none⟩) hs).trans hc, z0, z1, fun ho => (World.frozen?_of_block (a := ⟨b, o + j, none⟩) hs).trans (hf ho)⟩
theorem Row.mono {own : Bool} {lo hi lo' hi' : Nat} {w : World} {a : Option Addr} {zs : List Int} (h : Row own lo hi w a zs) (h1 : lo' ≤ lo) (h2 : hi ≤ hi') : Row own lo' hi' w a zs := by
  intro j z hz
  obtain ⟨b, o, e, i1, i2, r⟩ := h j z hz
  exact ⟨b, o, e, by omega, by omega, r⟩
theorem Row.read {lo hi : Nat} {w : World} {a : Option Addr} {zs : List Int} (h : Row true lo hi w a zs) : Row false lo hi w a zs := by
  intro j z hz
  obtain ⟨b, o, e, i1, i2, hc, z0, z1, _⟩ := h j z hz
  exact ⟨b, o, e, i1, i2, hc, z0, z1, fun h => by cases h⟩
theorem Bxs.same {own : Bool} {lo hi : Nat} {w w' : World} {a : Option Addr} {A : Nat → Option Addr × Nat} {l : List Bx} (h : Bxs own lo hi w a A l) (s : Same lo hi w w') : Bxs own lo hi w' a A l := by
  intro j x hx
  obtain ⟨b, o, e, h1, h2, c0, c1, c2, r, k1, d0, d1, z1, z2, hf⟩ := h j x hx
  have hs := s b h1 h2
  have C := fun i => World.cell?_of_block (a := ⟨b, i, none⟩) hs
  have F := fun i => World.frozen?_of_block (a := ⟨b, i, none⟩) hs
  exact ⟨b, o, e, h1, h2, (C _).trans c0, (C _).trans c1, (C _).trans c2, r.same s, k1, d0, d1, z1, z2, fun ho => ⟨(F _).trans (hf ho).1, (F _).trans (hf ho).2.1, (F _).trans (hf ho).2.2.1, (hf ho).2.2.2⟩⟩
theorem Bxs.mono {own : Bool} {lo hi lo' hi' : Nat} {w : World} {a : Option Addr} {A : Nat → Option Addr × Nat} {l : List Bx} (h : Bxs own lo hi w a A l) (h1 : lo' ≤ lo) (h2 : hi ≤ hi') : Bxs own lo' hi' w a A l := by
  intro j x hx
  obtain ⟨b, o, e, i1, i2, c0, c1, c2, r, rest⟩ := h j x hx
  exact ⟨b, o, e, by omega, by omega, c0, c1, c2, r.mono h1 h2, rest⟩
theorem Bxs.read {lo hi : Nat} {w : World} {a : Option Addr} {A : Nat → Option Addr × Nat} {l : List Bx} (h : Bxs true lo hi w a A l) : Bxs false lo hi w a A l := by
  intro j x hx
  obtain ⟨b, o, e, i1, i2, c0, c1, c2, r, k1, d0, d1, z1, z2, hf⟩ := h j x hx
  exact ⟨b, o, e, i1, i2, c0, c1, c2, r.read, k1, d0, d1, z1, z2, fun h => by cases h⟩
theorem Row.below {own : Bool} {lo hi B : Nat} {w w' : World} {a : Option Addr} {zs : List Int} (h : Row own lo hi w a zs) (s : Below B w w') (hB : hi ≤ B) : Row own lo hi w' a zs :=
  h.same fun b _ h2 => s.block b (by omega)
theorem Bxs.below {own : Bool} {lo hi B : Nat} {w w' : World} {a : Option Addr} {A : Nat → Option Addr × Nat} {l : List Bx} (h : Bxs own lo hi w a A l) (s : Below B w w') (hB : hi ≤ B) : Bxs own lo hi w' a A l :=
  h.same fun b _ h2 => s.block b (by omega)
theorem Row.nil {own : Bool} {lo hi : Nat} {w : World} {a : Option Addr} : Row own lo hi w a [] := by
  intro j z hz; simp at hz
theorem Bxs.nil {own : Bool} {lo hi : Nat} {w : World} {a : Option Addr} {A : Nat → Option Addr × Nat} : Bxs own lo hi w a A [] := by
  intro j z hz; simp at hz


def u8 (z : Int) : Value := .int .u8 z
theorem info5 : (Try.prog.info? 5).map (fun i => (i.zero, i.size, i.bytes)) = some (some (.int .u8 0), 1, 1) := by kernel_rfl
theorem info38 : (Try.prog.info? 42).map (fun i => (i.zero, i.size, i.bytes)) = some (some (.agg #[.string ByteArray.empty, .int .i64 0, .slice none 0 0]), 3, 48) := by kernel_rfl
theorem ownsRow_below {w w1 : World} {B n m : Nat} {e : TypeId} {v : Value} {xs : List Value} (h : w.ownsRow B e m v n xs) (hb : Below w.heap.size w w1) : w1.ownsRow B e m v n xs := by
  obtain ⟨h1, h2⟩ := h
  refine ⟨h1, ?_⟩
  rcases h2 with h2 | ⟨g, cap, cur, hv, hg, hh, r⟩
  · exact Or.inl h2
  · exact Or.inr ⟨g, cap, cur, hv, hg, by rw [hb.block g (by have := (Array.getElem?_eq_some_iff.1 hh).1; exact this)]; exact hh, r⟩
theorem own_set {w : World} {B n m g cap : Nat} {e : TypeId} {xs : List Value} {p : Addr} (h : w.ownsRow B e m (.slice (some ⟨g, 0, none⟩) n cap) n xs) (hp : p.block ≠ g) (u : Value) : (w.setCell p u).ownsRow B e m (.slice (some ⟨g, 0, none⟩) n cap) n xs := by
  obtain ⟨h1, h2⟩ := h
  refine ⟨h1, ?_⟩
  rcases h2 with ⟨h2, _⟩ | ⟨g', cap', cur, hv, hg, hh, r⟩
  · cases h2
  · have hv' := hv
    simp only [Value.slice.injEq, Option.some.injEq, Addr.mk.injEq, and_true, true_and] at hv
    obtain ⟨rfl, rfl⟩ := hv
    exact Or.inr ⟨g, cap, cur, rfl, hg, by rw [Below.heap_setCell _ _ _ _ (Ne.symm hp)]; exact hh, r⟩
theorem own_mono {w : World} {B B' n m : Nat} {e : TypeId} {v : Value} {xs : List Value} (h : w.ownsRow B e m v n xs) (hB : B' ≤ B) : w.ownsRow B' e m v n xs := by
  obtain ⟨h1, h2⟩ := h
  refine ⟨h1, ?_⟩
  rcases h2 with h2 | ⟨g, cap, cur, hv, hg, r⟩
  · exact Or.inl h2
  · exact Or.inr ⟨g, cap, cur, hv, by omega, r⟩
/-- a row of bytes that is owned, as a row -/
theorem row_of_own {w : World} {B g n cap : Nat} {zs : List Int} (h : w.ownsRow B 5 1 (.slice (some ⟨g, 0, none⟩) n cap) n (zs.map u8)) (hz : ∀ z ∈ zs, 0 ≤ z ∧ z ≤ 255) : Row true g (g + 1) w (some ⟨g, 0, none⟩) zs := by
  intro j z hj
  have hl : zs.length = n := by have := h.1; simpa using this
  have hjl : j < zs.length := (List.getElem?_eq_some_iff.1 hj).1
  have hc := h.cellAt j (by omega)
  rw [List.getElem?_map, hj] at hc
  have hm := hz z (List.mem_of_getElem? hj)
  exact ⟨g, 0, rfl, by omega, by omega, by rw [Nat.zero_add]; exact hc, hm.1, hm.2, fun _ => by rw [Nat.zero_add]; exact h.frozenAt j⟩
theorem Row.bd {own : Bool} {lo hi : Nat} {w : World} {a : Option Addr} {zs : List Int} (h : Row own lo hi w a zs) : ∀ z ∈ zs, 0 ≤ z ∧ z ≤ 255 := by
  intro z hz
  obtain ⟨j, hj⟩ := List.getElem?_of_mem hz
  obtain ⟨b, o, _, _, _, _, z0, z1, _⟩ := h j z hj
  exact ⟨z0, z1⟩
theorem take_snoc {α : Type} {l : List α} {k : Nat} {x : α} (h : l[k]? = some x) : l.take (k + 1) = l.take k ++ [x] := by
  rw [List.take_add_one, h]; rfl
theorem set_mid {α : Type} {l : List α} {k n : Nat} {x d : α} (f : α → α) (hl : l.length = n) (h : l[k]? = some x) : ((l.take k).map f ++ List.replicate (n - k) d).set k (f x) = (l.take (k + 1)).map f ++ List.replicate (n - (k + 1)) d := by
  have hk : k < l.length := (List.getElem?_eq_some_iff.1 h).1
  rw [take_snoc h, List.set_append_right _ _ (by simp; omega)]
  have e : n - k = (n - (k + 1)) + 1 := by omega
  rw [e, List.replicate_succ]
  have e2 : k - ((l.take k).map f).length = 0 := by simp; omega
  rw [e2]; simp
theorem tob_step {w : World} {B g n k : Nat} {zs : List Int} {z : Int} (hl : zs.length = n) (hz : zs[k]? = some z) (h : w.ownsRow B 5 1 (.slice (some ⟨g, 0, none⟩) n n) n ((zs.take k).map u8 ++ List.replicate (n - k) (u8 0))) :
    (w.setCell ⟨g, k, none⟩ (.int .u8 z)).ownsRow B 5 1 (.slice (some ⟨g, 0, none⟩) n n) n ((zs.take (k + 1)).map u8 ++ List.replicate (n - (k + 1)) (u8 0)) := by
  have hk : k < zs.length := (List.getElem?_eq_some_iff.1 hz).1
  have h1 := (h.stored k (u8 z)).1
  have e : ((zs.take k).map u8 ++ List.replicate (n - k) (u8 0)).set k (u8 z) = (zs.take (k + 1)).map u8 ++ List.replicate (n - (k + 1)) (u8 0) := by
    rw [take_snoc hz, List.set_append_right _ _ (by simp; omega)]
    have e : n - k = (n - (k + 1)) + 1 := by omega
    rw [e, List.replicate_succ]
    have e2 : k - ((zs.take k).map u8).length = 0 := by simp; omega
    rw [e2]; simp
  rw [e] at h1
  exact h1
theorem tob_cell {w : World} {B g n k : Nat} {zs : List Int} (hl : zs.length = n) (hk : k < n) (h : w.ownsRow B 5 1 (.slice (some ⟨g, 0, none⟩) n n) n ((zs.take k).map u8 ++ List.replicate (n - k) (u8 0))) :
    w.cell? ⟨g, k, none⟩ = some (.int .u8 0) ∧ w.frozen? ⟨g, k, none⟩ = false := by
  refine ⟨?_, h.frozenAt k⟩
  rw [h.cellAt k (by omega), List.getElem?_append_right (by simp; omega)]
  have e2 : k - ((zs.take k).map u8).length = 0 := by simp; omega
  rw [e2]
  have e : n - k = (n - (k + 1)) + 1 := by omega
  rw [e, List.replicate_succ]; rfl

end Go.Proofs.Ytfdbnlmfnhhcbaa
