/-
  Bytes of the call's own that may bear the library's mark behind their end: what holds of them under calls, stores, slicing and appending; no conditions.
-/
import Derived.Test.YtcpllfjhhlbmiaaDoorDrD
import Derived.Test.YtcpllfjhhlbmiaaDoorSwS
import Derived.Deep.AppendLies
import Derived.Deep.RegionLaw
import Derived.Lib.SlBytesConst
namespace Go.Proofs.YtcpllfjhhlbmiaaDoor
open Go.RowKit
set_option linter.unusedVariables false
set_option linter.unusedSimpArgs false

theorem add_off (G k j : Nat) : (⟨G, k, none⟩ : Addr).add j = ⟨G, k + j, none⟩ := by unfold Addr.add; split <;> simp_all
/-- bytes in a row of their own -/
def OwT (w : World) (B G n c : Nat) (L : List UInt8) : Prop :=
  L.length = n ∧ B ≤ G ∧ n ≤ c ∧ c ≤ maxLen ∧ ∃ cur fz, w.heap[G]? = some (.cells cur 5 fz) ∧ (fz = (0, 0) ∨ cur.size ≤ fz.1) ∧ cur.size = c ∧ cur.toList.take n = L.map bv
section
variable {w w1 : World} {B G n c : Nat} {L : List UInt8}
theorem OwT.of_own (h : w.ownsRow B 5 1 (.slice (some ⟨G, 0, none⟩) n c) n (L.map bv)) : OwT w B G n c L := by
  obtain ⟨h1, h2⟩ := h
  rcases h2 with ⟨h2, _⟩ | ⟨g, cap, cur, hv, hg, hh, q1, q2, q3, q4⟩
  · cases h2
  · injection hv with e1 _ e3
    injection e1 with e1
    injection e1 with e1
    subst e1 e3
    rw [Nat.mul_one] at q3 q4
    exact ⟨by simpa using h1, hg, q1, q2, cur, _, hh, .inl rfl, q3, q4⟩
theorem OwT.lt (h : OwT w B G n c L) : G < w.heap.size := by
  obtain ⟨_, _, _, _, cur, fz, hh, _⟩ := h
  exact (Array.getElem?_eq_some_iff.1 hh).1
theorem OwT.ge (h : OwT w B G n c L) : B ≤ G := h.2.1
theorem OwT.cap (h : OwT w B G n c L) : n ≤ c := h.2.2.1
theorem OwT.kept (h : OwT w B G n c L) (hk : w1.heap[G]? = w.heap[G]?) : OwT w1 B G n c L := by
  obtain ⟨h1, h2, h3, h4, cur, fz, hh, r⟩ := h
  exact ⟨h1, h2, h3, h4, cur, fz, hk.trans hh, r⟩
theorem OwT.mono (h : OwT w B G n c L) {B' : Nat} (hB : B' ≤ B) : OwT w B' G n c L := ⟨h.1, Nat.le_trans hB h.2.1, h.2.2⟩
theorem OwT.cell (h : OwT w B G n c L) {k : Nat} {x : UInt8} (hk : L[k]? = some x) : w.cell? ⟨G, k, none⟩ = some (bv x) := by
  obtain ⟨h1, h2, h3, h4, cur, fz, hh, hf, h5, h6⟩ := h
  have hkn : k < n := by have := (List.getElem?_eq_some_iff.1 hk).1; omega
  rw [cell_of_row w G k cur 5 fz hh]
  have e : (cur.toList.take n)[k]? = some (bv x) := by rw [h6, List.getElem?_map, hk]; rfl
  rw [List.getElem?_take_of_lt hkn] at e
  simpa using e
theorem OwT.froz (h : OwT w B G n c L) {k : Nat} (hk : k < n) : w.frozen? ⟨G, k, none⟩ = false := by
  obtain ⟨h1, h2, h3, h4, cur, fz, hh, hf, h5, h6⟩ := h
  simp only [World.frozen?, hh]
  rcases hf with rfl | hf
  · simp
  · simp
    omega
theorem OwT.take (h : OwT w B G n c L) {k : Nat} (hk : k ≤ n) : OwT w B G k c (L.take k) := by
  obtain ⟨h1, h2, h3, h4, cur, fz, hh, hf, h5, h6⟩ := h
  refine ⟨by rw [List.length_take]; omega, h2, by omega, h4, cur, fz, hh, hf, h5, ?_⟩
  rw [List.map_take, ← h6, List.take_take]
  congr 1
  omega
theorem OwT.set (h : OwT w B G n c L) {k : Nat} (hk : k < n) (x : UInt8) : OwT (w.setCell ⟨G, k, none⟩ (bv x)) B G n c (L.set k x) := by
  obtain ⟨h1, h2, h3, h4, cur, fz, hh, hf, h5, h6⟩ := h
  refine ⟨by rw [List.length_set]; exact h1, h2, h3, h4, cur.setIfInBounds k (bv x), fz, ?_, by simpa using hf, by simpa using h5, ?_⟩
  · simp [World.setCell, Array.getElem?_modify, hh]
  · rw [Array.toList_setIfInBounds, List.take_set, h6, List.map_set]
theorem OwT.conv (w : World) (s : ByteArray) (hB : B ≤ w.heap.size) (hs : s.data.toList = L) (hl : s.size ≤ 100000000) : OwT (w.drew.alloc (.cells (bytesRow s (grownCap w s.size 0 5)) 5 ((bytesRow s (grownCap w s.size 0 5)).size, (bytesRow s (grownCap w s.size 0 5)).size + 1))) B w.heap.size s.size (grownCap w s.size 0 5) L := by
  have hge := grownCap_ge w s.size 0 5
  have hn : L.length = s.size := by rw [← hs]; rfl
  refine ⟨hn, hB, hge, grownCap_le_maxLen w s.size 0 5 (by unfold maxLen; omega), bytesRow s (grownCap w s.size 0 5), ((bytesRow s (grownCap w s.size 0 5)).size, (bytesRow s (grownCap w s.size 0 5)).size + 1), ?_, .inr (Nat.le_refl _), ?_, ?_⟩
  · exact alloc_new w.drew _
  · unfold bytesRow
    rw [Array.size_append, Array.size_map, Array.size_replicate]
    show s.size + _ = _
    omega
  · unfold bytesRow
    rw [Array.toList_append, Array.toList_map, hs, List.take_append_of_le_length (by rw [List.length_map]; omega), List.take_of_length_le (by rw [List.length_map]; omega)]
    rfl
theorem OwT.str (h : OwT w B G n c L) : (convert 22 9 (.slice (some ⟨G, 0, none⟩) n c)).run Tryd.prog w = .ok (.string ⟨L.toArray⟩) w := by
  have e := h.1
  subst e
  exact run_convert_bytes_back (P := Tryd.prog) w 22 9 5 ⟨G, 0, none⟩ c _ Tryd.underlying22 Tryd.underlying5 Tryd.underlying9 (fun j hj => by rw [add_off]; exact h.cell (k := 0 + j) (x := L[j]) (by rw [Nat.zero_add]; exact List.getElem?_eq_getElem hj))
end

/-- append of bytes at a step of a region that draws its order -/
theorem step_bytes {ops : Array Oper} {o : Oper} {a : Act} {K : Act → World → Prop} {Q : Exit → Act → World → Prop} {E : Prop} (w : World) (hgd : o.guard = none) (s x : Operand)
    (ho : o.op = .call { callee := .builtin .append, args := #[s, x], argTypes := #[22, 22] })
    (B g n cap : Nat) (xs : List UInt8) (hs : a.eval s = .slice (some ⟨g, 0, none⟩) n cap) (hown : w.ownsRow B 5 1 (.slice (some ⟨g, 0, none⟩) n cap) n (xs.map bv))
    (G k m c : Nat) (ys : List UInt8) (hx : a.eval x = .slice (some ⟨G, k, none⟩) m c) (hl : ys.length = m) (hc : ∀ j y, ys[j]? = some y → w.cell? ⟨G, k + j, none⟩ = some (bv y))
    (N : Nat) (hN : n + m = N) (hnm : N ≤ 100000000) (hB : B ≤ w.heap.size)
    (h : ∀ g' cap' w', w'.ownsRow B 5 1 (.slice (some ⟨g', 0, none⟩) N cap') N ((xs ++ ys).map bv) → w.grownBy w' (some g) → K (a.put o.dst (.slice (some ⟨g', 0, none⟩) N cap')) w') :
    if Region.wanted o (yielded ops a.tmps) = true then Oper.wp Tryd.prog o a w K Q else E := by
  have hw : Region.wanted o (yielded ops a.tmps) = true := by simp [Region.wanted, hgd]
  rw [if_pos hw]
  subst hN
  obtain ⟨ib, hi, hz0, hz1, hz2⟩ := info_parts infoB
  obtain ⟨v', w', hrun, r1, r2, r3⟩ := run_append_own (P := Tryd.prog) w B 22 o.type 5 ib (.int .u8 0) 1 1 Tryd.underlying22 hi hz0 hz1 hz2 rfl (by decide) _ n (xs.map bv) hown ⟨G, k, none⟩ m c (ys.map bv) (by rw [List.length_map, hl]; omega)
    (fun j u hu => by
      rw [List.getElem?_map] at hu
      cases hy : ys[j]? with
      | none => rw [hy] at hu; cases hu
      | some y => rw [hy] at hu; cases hu; rw [add_off]; exact hc j y hy)
    (by intro u hu; obtain ⟨y, _, rfl⟩ := List.mem_map.1 hu; rfl) (by unfold maxLen; omega) (by omega) hB
  obtain ⟨g', cap', rfl⟩ : ∃ g' cap', v' = .slice (some ⟨g', 0, none⟩) (n + m) cap' := by
    rcases Joins.ownsRow_forms r1 with ⟨rfl, _⟩ | ⟨g', cap', rfl⟩
    · exact absurd (r3.1 rfl).1 (by intro e; cases e)
    · exact ⟨g', cap', rfl⟩
  rw [← List.map_append] at r1
  have hK := h g' cap' w' r1 r2
  unfold Oper.wp
  simp [execOp, ho, resolve, invoke, builtin, hs, hx, hrun, Result.andThen]
  exact hK

/-- the state: the cursor, and the bytes in a row of their own -/
structure BT (w : World) (B g : Nat) (a : Option Addr) (len cap : Nat) (wr : World) (G n c : Nat) (L : List UInt8) : Prop where
  ds : DS w B g a len cap wr
  ow : OwT wr w.heap.size G n c L
section
variable {w wr w1 : World} {B g : Nat} {a : Option Addr} {len cap G n c : Nat} {L : List UInt8}
theorem BT.step (h : BT w B g a len cap wr G n c L) (hB : B ≤ g) (hg : g < w.heap.size) (hc : CurAt w1 g a len cap) (hgr : wr.grownBy w1 (some g)) : BT w B g a len cap w1 G n c L :=
  ⟨h.ds.step hB hc hgr, h.ow.kept (hgr.block G h.ow.lt (fun e => by have := Option.some.inj e; have := h.ow.ge; omega))⟩
theorem BT.later (h : BT w B g a len cap wr G n c L) (hB : B ≤ g) (hb : Below wr.heap.size wr w1) : BT w B g a len cap w1 G n c L :=
  ⟨h.ds.later hB hb, h.ow.kept (hb.block G h.ow.lt)⟩
theorem BT.size (h : BT w B g a len cap wr G n c L) : w.heap.size ≤ wr.heap.size := h.ds.gr.size
theorem BT.take (h : BT w B g a len cap wr G n c L) {k : Nat} (hk : k ≤ n) : BT w B g a len cap wr G k c (L.take k) := ⟨h.ds, h.ow.take hk⟩
theorem BT.set (h : BT w B g a len cap wr G n c L) (hBw : B ≤ w.heap.size) (hg : g < w.heap.size) {k : Nat} (hk : k < n) (x : UInt8) : BT w B g a len cap (wr.setCell ⟨G, k, none⟩ (bv x)) G n c (L.set k x) :=
  ⟨h.ds.app hBw hg ((Below.refl _ _).setCell (p := ⟨G, k, none⟩) h.ow.ge _), h.ow.set hk x⟩
/-- .. and new bytes made of them -/
theorem BT.new (h : BT w B g a len cap wr G n c L) (hBw : B ≤ w.heap.size) (hg : g < w.heap.size) (hb : Below wr.heap.size wr w1) {G' n' c' : Nat} {L' : List UInt8} (ho : w1.ownsRow wr.heap.size 5 1 (.slice (some ⟨G', 0, none⟩) n' c') n' (L'.map bv)) : BT w B g a len cap w1 G' n' c' L' :=
  ⟨h.ds.app hBw hg (hb.mono h.size), (OwT.of_own ho).mono h.size⟩
end
theorem lit_at12 {w : World} {T : TypeId} {fz : Nat × Nat} (k : Nat) (hk : k < 12) : ∃ x : UInt8, (w.alloc (.cells #[.int .u8 48, .int .u8 49, .int .u8 50, .int .u8 57, .int .u8 58, .int .u8 44, .int .u8 45, .int .u8 62, .int .u8 10, .int .u8 32, .int .u8 120, .int .u8 127] T fz)).cell? ⟨w.heap.size, k, none⟩ = some (.int .u8 (x.toNat : Int)) := by
  rw [World.cell?_alloc_mark]
  have hc : k = 0 ∨ k = 1 ∨ k = 2 ∨ k = 3 ∨ k = 4 ∨ k = 5 ∨ k = 6 ∨ k = 7 ∨ k = 8 ∨ k = 9 ∨ k = 10 ∨ k = 11 := by omega
  rcases hc with rfl | rfl | rfl | rfl | rfl | rfl | rfl | rfl | rfl | rfl | rfl | rfl
  · exact ⟨48, rfl⟩
  · exact ⟨49, rfl⟩
  · exact ⟨50, rfl⟩
  · exact ⟨57, rfl⟩
  · exact ⟨58, rfl⟩
  · exact ⟨44, rfl⟩
  · exact ⟨45, rfl⟩
  · exact ⟨62, rfl⟩
  · exact ⟨10, rfl⟩
  · exact ⟨32, rfl⟩
  · exact ⟨120, rfl⟩
  · exact ⟨127, rfl⟩

end Go.Proofs.YtcpllfjhhlbmiaaDoor
