/-
  Bytes of the call's own that may bear the library's mark behind their end: what holds of them under calls, stores, slicing and appending; no conditions.
  The contract of the model's draw of a rate and a damaged list; nothing that was there is written.
-/
import Derived.Test.YtfhbmfndjbdhcaaGreatDoorDlr
import Derived.Test.YtfhbmfndjbdhcaaGreatDoorBs
import Derived.Deep.AppendLies
import Derived.Deep.RegionLaw
import Derived.Lib.SlBytesConst
import Derived.Lib.AppendStr
import Derived.Test.YtfhbmfndjbdhcaaGreatDoorSLs
namespace Go.Proofs.YtfhbmfndjbdhcaaGreatDoor
open Go.RowKit
set_option linter.unusedVariables false
set_option linter.unusedSimpArgs false

theorem add_off (G k j : Nat) : (⟨G, k, none⟩ : Addr).add j = ⟨G, k + j, none⟩ := by unfold Addr.add; split <;> simp_all
/-- bytes in a row of their own -/
def OwT (w : World) (B G n c : Nat) (L : List UInt8) : Prop :=
  L.length = n ∧ B ≤ G ∧ n ≤ c ∧ c ≤ maxLen ∧ ∃ cur fz, w.heap[G]? = some (.cells cur 5 fz) ∧ (fz = (0, 0) ∨ cur.size ≤ fz.1) ∧ cur.size = c ∧ cur.toList.take n = L.map bv
section
variable {w w1 : World} {B G n c : Nat} {L : List UInt8}
theorem OwT.of_own (h : w.ownsRow B 5 1 (.slice (some ⟨G, 0, none⟩) n c) n (L.map bv)) : OwT w B G n c L := by
  obtain ⟨h1, h2⟩ := h
  rcases h2 with ⟨h2, _⟩ | ⟨g, cap, cur, hv, hg, hh, q1, q2, q3, q4⟩
  · cases h2
  · injection hv with e1 _ e3
    injection e1 with e1
    injection e1 with e1
    subst e1 e3
    rw [Nat.mul_one] at q3 q4
    exact ⟨by simpa using h1, hg, q1, q2, cur, _, hh, .inl rfl, q3, q4⟩
theorem OwT.lt (h : OwT w B G n c L) : G < w.heap.size := by
  obtain ⟨_, _, _, _, cur, fz, hh, _⟩ := h
  exact (Array.getElem?_eq_some_iff.1 hh).1
theorem OwT.ge (h : OwT w B G n c L) : B ≤ G := h.2.1
theorem OwT.cap (h : OwT w B G n c L) : n ≤ c := h.2.2.1
theorem OwT.kept (h : OwT w B G n c L) (hk : w1.heap[G]? = w.heap[G]?) : OwT w1 B G n c L := by
  obtain ⟨h1, h2, h3, h4, cur, fz, hh, r⟩ := h
  exact ⟨h1, h2, h3, h4, cur, fz, hk.trans hh, r⟩
theorem OwT.mono (h : OwT w B G n c L) {B' : Nat} (hB : B' ≤ B) : OwT w B' G n c L := ⟨h.1, Nat.le_trans hB h.2.1, h.2.2⟩
theorem OwT.cell (h : OwT w B G n c L) {k : Nat} {x : UInt8} (hk : L[k]? = some x) : w.cell? ⟨G, k, none⟩ = some (bv x) := by
  obtain ⟨h1, h2, h3, h4, cur, fz, hh, hf, h5, h6⟩ := h
  have hkn : k < n := by have := (List.getElem?_eq_some_iff.1 hk).1; omega
  rw [cell_of_row w G k cur 5 fz hh]
  have e : (cur.toList.take n)[k]? = some (bv x) := by rw [h6, List.getElem?_map, hk]; rfl
  rw [List.getElem?_take_of_lt hkn] at e
  simpa using e
theorem OwT.froz (h : OwT w B G n c L) {k : Nat} (hk : k < n) : w.frozen? ⟨G, k, none⟩ = false := by
  obtain ⟨h1, h2, h3, h4, cur, fz, hh, hf, h5, h6⟩ := h
  simp only [World.frozen?, hh]
  rcases hf with rfl | hf
  · simp
  · simp
    omega
theorem OwT.take (h : OwT w B G n c L) {k : Nat} (hk : k ≤ n) : OwT w B G k c (L.take k) := by
  obtain ⟨h1, h2, h3, h4, cur, fz, hh, hf, h5, h6⟩ := h
  refine ⟨by rw [List.length_take]; omega, h2, by omega, h4, cur, fz, hh, hf, h5, ?_⟩
  rw [List.map_take, ← h6, List.take_take]
  congr 1
  omega
theorem OwT.set (h : OwT w B G n c L) {k : Nat} (hk : k < n) (x : UInt8) : OwT (w.setCell ⟨G, k, none⟩ (bv x)) B G n c (L.set k x) := by
  obtain ⟨h1, h2, h3, h4, cur, fz, hh, hf, h5, h6⟩ := h
  refine ⟨by rw [List.length_set]; exact h1, h2, h3, h4, cur.setIfInBounds k (bv x), fz, ?_, by simpa using hf, by simpa using h5, ?_⟩
  · simp [World.setCell, Array.getElem?_modify, hh]
  · rw [Array.toList_setIfInBounds, List.take_set, h6, List.map_set]
theorem OwT.conv (w : World) (s : ByteArray) (hB : B ≤ w.heap.size) (hs : s.data.toList = L) (hl : s.size ≤ 100000000) : OwT (w.drew.alloc (.cells (bytesRow s (grownCap w s.size 0 5)) 5 ((bytesRow s (grownCap w s.size 0 5)).size, (bytesRow s (grownCap w s.size 0 5)).size + 1))) B w.heap.size s.size (grownCap w s.size 0 5) L := by
  have hge := grownCap_ge w s.size 0 5
  have hn : L.length = s.size := by rw [← hs]; rfl
  refine ⟨hn, hB, hge, grownCap_le_maxLen w s.size 0 5 (by unfold maxLen; omega), bytesRow s (grownCap w s.size 0 5), ((bytesRow s (grownCap w s.size 0 5)).size, (bytesRow s (grownCap w s.size 0 5)).size + 1), ?_, .inr (Nat.le_refl _), ?_, ?_⟩
  · exact alloc_new w.drew _
  · unfold bytesRow
    rw [Array.size_append, Array.size_map, Array.size_replicate]
    show s.size + _ = _
    omega
  · unfold bytesRow
    rw [Array.toList_append, Array.toList_map, hs, List.take_append_of_le_length (by rw [List.length_map]; omega), List.take_of_length_le (by rw [List.length_map]; omega)]
    rfl
theorem OwT.str (h : OwT w B G n c L) : (convert 22 9 (.slice (some ⟨G, 0, none⟩) n c)).run Tryz.prog w = .ok (.string ⟨L.toArray⟩) w := by
  have e := h.1
  subst e
  exact run_convert_bytes_back (P := Tryz.prog) w 22 9 5 ⟨G, 0, none⟩ c _ Tryz.underlying22 Tryz.underlying5 Tryz.underlying9 (fun j hj => by rw [add_off]; exact h.cell (k := 0 + j) (x := L[j]) (by rw [Nat.zero_add]; exact List.getElem?_eq_getElem hj))
end

/-- append of bytes at a step of a region that draws its order -/
theorem step_bytes {ops : Array Oper} {o : Oper} {a : Act} {K : Act → World → Prop} {Q : Exit → Act → World → Prop} {E : Prop} (w : World) (hgd : o.guard = none) (s x : Operand)
    (ho : o.op = .call { callee := .builtin .append, args := #[s, x], argTypes := #[22, 22] })
    (B g n cap : Nat) (xs : List UInt8) (hs : a.eval s = .slice (some ⟨g, 0, none⟩) n cap) (hown : w.ownsRow B 5 1 (.slice (some ⟨g, 0, none⟩) n cap) n (xs.map bv))
    (G k m c : Nat) (ys : List UInt8) (hx : a.eval x = .slice (some ⟨G, k, none⟩) m c) (hl : ys.length = m) (hc : ∀ j y, ys[j]? = some y → w.cell? ⟨G, k + j, none⟩ = some (bv y))
    (N : Nat) (hN : n + m = N) (hnm : N ≤ 100000000) (hB : B ≤ w.heap.size)
    (h : ∀ g' cap' w', w'.ownsRow B 5 1 (.slice (some ⟨g', 0, none⟩) N cap') N ((xs ++ ys).map bv) → w.grownBy w' (some g) → K (a.put o.dst (.slice (some ⟨g', 0, none⟩) N cap')) w') :
    if Region.wanted o (yielded ops a.tmps) = true then Oper.wp Tryz.prog o a w K Q else E := by
  have hw : Region.wanted o (yielded ops a.tmps) = true := by simp [Region.wanted, hgd]
  rw [if_pos hw]
  subst hN
  obtain ⟨ib, hi, hz0, hz1, hz2⟩ := info_parts infoB
  obtain ⟨v', w', hrun, r1, r2, r3⟩ := run_append_own (P := Tryz.prog) w B 22 o.type 5 ib (.int .u8 0) 1 1 Tryz.underlying22 hi hz0 hz1 hz2 rfl (by decide) _ n (xs.map bv) hown ⟨G, k, none⟩ m c (ys.map bv) (by rw [List.length_map, hl]; omega)
    (fun j u hu => by
      rw [List.getElem?_map] at hu
      cases hy : ys[j]? with
      | none => rw [hy] at hu; cases hu
      | some y => rw [hy] at hu; cases hu; rw [add_off]; exact hc j y hy)
    (by intro u hu; obtain ⟨y, _, rfl⟩ := List.mem_map.1 hu; rfl) (by unfold maxLen; omega) (by omega) hB
  obtain ⟨g', cap', rfl⟩ : ∃ g' cap', v' = .slice (some ⟨g', 0, none⟩) (n + m) cap' := by
    rcases Joins.ownsRow_forms r1 with ⟨rfl, _⟩ | ⟨g', cap', rfl⟩
    · exact absurd (r3.1 rfl).1 (by intro e; cases e)
    · exact ⟨g', cap', rfl⟩
  rw [← List.map_append] at r1
  have hK := h g' cap' w' r1 r2
  unfold Oper.wp
  simp [execOp, ho, resolve, invoke, builtin, hs, hx, hrun, Result.andThen]
  exact hK

theorem DS.app {w wr w1 : World} {B g : Nat} {a : Option Addr} {len cap : Nat} (h : DS w B g a len cap wr) (hB : B ≤ w.heap.size) (hg : g < w.heap.size) (hb : Below w.heap.size wr w1) : DS w B g a len cap w1 :=
  ⟨h.cur.other (hb.block g hg), h.rd.belowB hb hB, ⟨hb.os.trans h.gr.os, hb.tape.trans h.gr.tape, hb.output.trans h.gr.output, Nat.le_trans h.gr.size hb.size, fun j hj hn => (hb.block j hj).trans (h.gr.block j hj hn)⟩⟩
/-- the state: the cursor, and the bytes in a row of their own -/
structure BT (w : World) (B g : Nat) (a : Option Addr) (len cap : Nat) (wr : World) (G n c : Nat) (L : List UInt8) : Prop where
  ds : DS w B g a len cap wr
  ow : OwT wr w.heap.size G n c L
section
variable {w wr w1 : World} {B g : Nat} {a : Option Addr} {len cap G n c : Nat} {L : List UInt8}
theorem BT.step (h : BT w B g a len cap wr G n c L) (hB : B ≤ g) (hg : g < w.heap.size) (hc : CurAt w1 g a len cap) (hgr : wr.grownBy w1 (some g)) : BT w B g a len cap w1 G n c L :=
  ⟨h.ds.step hB hc hgr, h.ow.kept (hgr.block G h.ow.lt (fun e => by have := Option.some.inj e; have := h.ow.ge; omega))⟩
theorem BT.later (h : BT w B g a len cap wr G n c L) (hB : B ≤ g) (hb : Below wr.heap.size wr w1) : BT w B g a len cap w1 G n c L :=
  ⟨h.ds.later hB hb, h.ow.kept (hb.block G h.ow.lt)⟩
theorem BT.size (h : BT w B g a len cap wr G n c L) : w.heap.size ≤ wr.heap.size := h.ds.gr.size
theorem BT.take (h : BT w B g a len cap wr G n c L) {k : Nat} (hk : k ≤ n) : BT w B g a len cap wr G k c (L.take k) := ⟨h.ds, h.ow.take hk⟩
theorem BT.set (h : BT w B g a len cap wr G n c L) (hBw : B ≤ w.heap.size) (hg : g < w.heap.size) {k : Nat} (hk : k < n) (x : UInt8) : BT w B g a len cap (wr.setCell ⟨G, k, none⟩ (bv x)) G n c (L.set k x) :=
  ⟨h.ds.app hBw hg ((Below.refl _ _).setCell (p := ⟨G, k, none⟩) h.ow.ge _), h.ow.set hk x⟩
/-- .. and new bytes made of them -/
theorem BT.new (h : BT w B g a len cap wr G n c L) (hBw : B ≤ w.heap.size) (hg : g < w.heap.size) (hb : Below wr.heap.size wr w1) {G' n' c' : Nat} {L' : List UInt8} (ho : w1.ownsRow wr.heap.size 5 1 (.slice (some ⟨G', 0, none⟩) n' c') n' (L'.map bv)) : BT w B g a len cap w1 G' n' c' L' :=
  ⟨h.ds.app hBw hg (hb.mono h.size), (OwT.of_own ho).mono h.size⟩
end
theorem lit_at14 {w : World} {T : TypeId} {fz : Nat × Nat} (k : Nat) (hk : k < 14) : ∃ x : UInt8, (w.alloc (.cells #[.int .u8 48, .int .u8 49, .int .u8 50, .int .u8 51, .int .u8 32, .int .u8 58, .int .u8 59, .int .u8 66, .int .u8 76, .int .u8 82, .int .u8 67, .int .u8 10, .int .u8 53, .int .u8 120] T fz)).cell? ⟨w.heap.size, k, none⟩ = some (.int .u8 (x.toNat : Int)) := by
  rw [World.cell?_alloc_mark]
  have hc : k = 0 ∨ k = 1 ∨ k = 2 ∨ k = 3 ∨ k = 4 ∨ k = 5 ∨ k = 6 ∨ k = 7 ∨ k = 8 ∨ k = 9 ∨ k = 10 ∨ k = 11 ∨ k = 12 ∨ k = 13 := by omega
  rcases hc with rfl | rfl | rfl | rfl | rfl | rfl | rfl | rfl | rfl | rfl | rfl | rfl | rfl | rfl
  · exact ⟨48, rfl⟩
  · exact ⟨49, rfl⟩
  · exact ⟨50, rfl⟩
  · exact ⟨51, rfl⟩
  · exact ⟨32, rfl⟩
  · exact ⟨58, rfl⟩
  · exact ⟨59, rfl⟩
  · exact ⟨66, rfl⟩
  · exact ⟨76, rfl⟩
  · exact ⟨82, rfl⟩
  · exact ⟨67, rfl⟩
  · exact ⟨10, rfl⟩
  · exact ⟨53, rfl⟩
  · exact ⟨120, rfl⟩

/-- cells stored into a row that may bear the library's mark behind its end -/
theorem run_storeF (P : Program) (g o : Nat) (t : TypeId) (fz : Nat × Nat) : ∀ (vs : List Value) (i : Nat) (cur : Array Value) (w : World), w.heap[g]? = some (.cells cur t fz) → (fz = (0, 0) ∨ cur.size ≤ fz.1) → o + i + vs.length ≤ cur.size → (∀ v ∈ vs, v.oneCell' = true) →
    (storeCells ⟨g, o, none⟩ vs i).run P w = .ok () (w.setRow g (cur.toList.take (o + i) ++ vs ++ cur.toList.drop (o + i + vs.length)).toArray)
  | [], i, cur, w, hg, _, _, _ => by
    simp only [storeCells, List.append_nil, List.length_nil, Nat.add_zero, List.take_append_drop, Array.toArray_toList]
    rw [setRow_self w g cur t fz hg]
    rfl
  | v :: rest, i, cur, w, hg, hz, hl, h1 => by
    have hi : o + i < cur.size := by simp at hl; omega
    have hcell : w.cell? ⟨g, o + i, none⟩ = some cur[o + i] := by simp [World.cell?, hg, hi]
    have hfro : w.frozen? ⟨g, o + i, none⟩ = false := by
      simp only [World.frozen?, hg]
      rcases hz with rfl | hz
      · simp
      · simp
        omega
    have hst : (store ((⟨g, o, none⟩ : Addr).add i) v).run P w = .ok () (w.setRow g (cur.setIfInBounds (o + i) v)) := by
      rw [add_off, run_store P w _ v _ (h1 v (by simp)), hcell]
      simp [hfro, setCell_eq_setRow w g (o + i) cur t fz v hg]
    have ih := run_storeF P g o t fz rest (i + 1) (cur.setIfInBounds (o + i) v) (w.setRow g (cur.setIfInBounds (o + i) v)) (setRow_heap w g cur _ t _ hg) (by simpa using hz) (by simp at hl ⊢; omega) (fun x hx => h1 x (by simp [hx]))
    simp only [storeCells, Sem.run_bind, hst, Result.andThen_ok, ih, setRow_setRow]
    congr 3
    have e := list_seg_step cur.toList (o + i) v rest (by simp at hl ⊢; omega)
    simpa [Array.toList_setIfInBounds, Nat.add_assoc] using e
theorem strCells_bv (s : ByteArray) : Lib.strCells s = s.data.toList.map bv := by
  simp [Lib.strCells]
  intro a _
  rfl
/-- a text's bytes behind such bytes -/
theorem run_owS {w : World} {B G n c : Nat} {L : List UInt8} (ty : TypeId) (s : ByteArray) (h : OwT w B G n c L) (hn : n + s.size ≤ 1000000) (hB : B ≤ w.heap.size) :
    ∃ G' c' w', (Builtin.append_ #[22, 9] ty #[.slice (some ⟨G, 0, none⟩) n c, .string s]).run Tryz.prog w = .ok (.slice (some ⟨G', 0, none⟩) (n + s.size) c') w' ∧ OwT w' B G' (n + s.size) c' (L ++ s.data.toList) ∧ Below B w w' := by
  obtain ⟨ib, hi, hz0, hz1, hz2⟩ := info_parts infoB
  have hlt := h.lt
  obtain ⟨h1, h2, h3, h4, cur, fz, hh, hf, h5, h6⟩ := h
  have hsz : (Lib.strCells s).length = s.size := Lib.strCells_length s
  by_cases hroom : n + s.size ≤ c
  · have hst := run_storeF Tryz.prog G n 5 fz (Lib.strCells s) 0 cur w hh hf (by rw [hsz]; omega) (Lib.strCells_oneCell s)
    simp only [Nat.add_zero, hsz] at hst
    have hff := Lib.run_firstCells_string (P := Tryz.prog) w 1 s
    refine ⟨G, c, w.setRow G (cur.toList.take n ++ Lib.strCells s ++ cur.toList.drop (n + s.size)).toArray, ?_, ?_, ?_⟩
    · simp [Builtin.append_, run_underlying Tryz.underlying22, run_underlying Tryz.underlying9, sizeOf, typeInfo, hi, hz1, Builtin.lenOf, hroom, hff, Addr.add_lit, hst]
    · refine ⟨by rw [List.length_append, h1]; rfl, h2, hroom, h4, _, fz, setRow_heap w G cur _ 5 fz hh, ?_, ?_, ?_⟩
      · rcases hf with hf | hf
        · exact .inl hf
        · refine .inr ?_
          simp only [List.size_toArray, List.length_append, List.length_take, List.length_drop, Array.length_toList, hsz]
          omega
      · simp only [List.size_toArray, List.length_append, List.length_take, List.length_drop, Array.length_toList, hsz]
        omega
      · rw [h6, List.map_append, ← strCells_bv]
        have hl : (L.map bv ++ Lib.strCells s).length = n + s.size := by rw [List.length_append, List.length_map, h1, hsz]
        show ((L.map bv ++ Lib.strCells s ++ _ : List Value)).take (n + s.size) = _
        rw [← hl]
        exact List.take_left
    · exact (Below.refl B w).grown (w' := w.setRow G _) (row := some G) ⟨rfl, rfl, rfl, by simp, fun k _ hk => setRow_other w G k _ (fun e => hk (by rw [e]))⟩ hB (fun k hk => by injection hk with hk; omega)
  · have holds : ∀ j u, (L.map bv)[j]? = some u → w.cell? ((⟨G, 0, none⟩ : Addr).add j) = some u := by
      intro j u hu
      rw [List.getElem?_map] at hu
      cases hy : L[j]? with
      | none => rw [hy] at hu; cases hu
      | some y =>
        rw [hy] at hu; cases hu
        rw [add_off, Nat.zero_add]
        exact OwT.cell ⟨h1, h2, h3, h4, cur, fz, hh, hf, h5, h6⟩ hy
    have hr := Lib.run_append_grow_string (P := Tryz.prog) w 22 9 ty 5 ib (.int .u8 0) Tryz.underlying22 Tryz.underlying9 hi hz0 ⟨G, 0, none⟩ n c (L.map bv) (by rw [hz1, List.length_map, h1]; omega) holds s (by omega) (by omega) (by rw [hz2]; exact growslice_fits (by omega) (by omega))
    have hge := grownCap_ge w (n + s.size) c 5
    have hcm : grownCap w (n + s.size) c 5 ≤ maxLen := grownCap_le_maxLen w (n + s.size) c 5 (by unfold maxLen; omega)
    refine ⟨_, _, _, hr, ⟨by rw [List.length_append, h1]; rfl, hB, hge, hcm, _, (0, 0), alloc_new w.drew _, .inl rfl, ?_, ?_⟩, (Below.refl B w).drew.alloc hB _⟩
    · have hz1' : (Value.int IntKind.u8 0).cells.size = 1 := rfl
      simp only [Array.size_append, List.size_toArray, size_zeroCells, hz1', List.length_map, h1, hsz]
      omega
    · rw [List.map_append, ← strCells_bv]
      have hl : (L.map bv ++ Lib.strCells s).length = n + s.size := by rw [List.length_append, List.length_map, h1, hsz]
      simp only [Array.toList_append]
      rw [← hl]
      exact List.take_left
theorem wpList_owS {ops : Array Oper} {rest : List Oper} {o : Oper} {a : Act} {Q : Exit → Act → World → Prop} (w : World) (hgd : o.guard = none) (s x : Operand) (ho : o.op = .call { callee := .builtin .append, args := #[s, x], argTypes := #[22, 9] })
    (B G n c : Nat) (L : List UInt8) (str : ByteArray) (hs : a.eval s = .slice (some ⟨G, 0, none⟩) n c) (hown : OwT w B G n c L) (hx : a.eval x = .string str) (hn : n + str.size ≤ 1000000) (hB : B ≤ w.heap.size)
    (h : ∀ G' c' w', OwT w' B G' (n + str.size) c' (L ++ str.data.toList) → Below B w w' → wpList Tryz.prog ops Q rest (a.put o.dst (.slice (some ⟨G', 0, none⟩) (n + str.size) c')) w') : wpList Tryz.prog ops Q (o :: rest) a w := by
  obtain ⟨G', c', w', hrun, h1, h2⟩ := run_owS o.type str hown hn hB
  refine wpList_plain hgd fun K hK => ?_
  unfold Oper.wp
  simp [execOp, ho, resolve, invoke, builtin, hs, hx, hrun, Result.andThen]
  exact hK _ _ (h G' c' w' h1 h2)

end Go.Proofs.YtfhbmfndjbdhcaaGreatDoor

namespace Go.Proofs.YtfhbmfndjbdhcaaGreatDoor
open Go.RowKit
set_option linter.unusedVariables false
set_option linter.unusedSimpArgs false
theorem showOf_len (n d : Int) (dr : Bool) (l : List Kl) : (showOf n d dr l).length ≤ 19200 := by
  by_cases hT : TOk l
  · rw [showOf_yes hT]
    have hJ : TOk (join l) := join_tok hT
    by_cases ha : allOk n d dr (join l) (join l).length
    · rw [listOf_yes ha]
      have := linesL_len (n := n) (d := d) (dr := dr) hJ.2.1 (join l).length (Nat.le_refl _)
      have := hJ.1
      omega
    · have e : listOf n d dr (join l) = [] := if_neg ha
      rw [e]; simp
  · rw [showOf_no hT]; simp
/-- the state: the bytes, and the boxes of the rate and of the answer -/
structure BU (W w : World) (B g : Nat) (a : Option Addr) (len cap : Nat) (k5 : Nat) (n d : Int) (dr : Bool) (wr : World) (G m c : Nat) (L : List UInt8) : Prop where
  bt : BT w B g a len cap wr G m c L
  r2 : R3 wr W.heap.size 0 0 false
  r5 : R3 wr k5 n d dr
section
variable {W w wr w1 : World} {B g k5 : Nat} {a : Option Addr} {len cap G m c : Nat} {n d : Int} {dr : Bool} {L : List UInt8}
theorem BU.step (h : BU W w B g a len cap k5 n d dr wr G m c L) (hB : B ≤ g) (hg : g < w.heap.size) (h2 : W.heap.size ≠ g) (h5 : k5 ≠ g) (hc : CurAt w1 g a len cap) (hgr : wr.grownBy w1 (some g)) : BU W w B g a len cap k5 n d dr w1 G m c L :=
  ⟨h.bt.step hB hg hc hgr, h.r2.kept hgr h2, h.r5.kept hgr h5⟩
theorem BU.later (h : BU W w B g a len cap k5 n d dr wr G m c L) (hB : B ≤ g) (hb : Below wr.heap.size wr w1) : BU W w B g a len cap k5 n d dr w1 G m c L :=
  ⟨h.bt.later hB hb, h.r2.later hb, h.r5.later hb⟩
theorem BU.take (h : BU W w B g a len cap k5 n d dr wr G m c L) {k : Nat} (hk : k ≤ m) : BU W w B g a len cap k5 n d dr wr G k c (L.take k) := ⟨h.bt.take hk, h.r2, h.r5⟩
theorem R3.ne {w : World} {b k i : Nat} {n d : Int} {dr : Bool} {u : Value} (h : R3 w b n d dr) (hne : b ≠ k) : R3 (w.setCell ⟨k, i, none⟩ u) b n d dr := (heap_set_ne hne).trans h
theorem BU.set (h : BU W w B g a len cap k5 n d dr wr G m c L) (hBw : B ≤ w.heap.size) (hg : g < w.heap.size) (h2 : W.heap.size < w.heap.size) (h5 : k5 < w.heap.size) {k : Nat} (hk : k < m) (x : UInt8) : BU W w B g a len cap k5 n d dr (wr.setCell ⟨G, k, none⟩ (bv x)) G m c (L.set k x) :=
  ⟨h.bt.set hBw hg hk x, h.r2.ne (by have := h.bt.ow.ge; omega), h.r5.ne (by have := h.bt.ow.ge; omega)⟩
theorem BU.new (h : BU W w B g a len cap k5 n d dr wr G m c L) (hBw : B ≤ w.heap.size) (hg : g < w.heap.size) (hb : Below wr.heap.size wr w1) {G' m' c' : Nat} {L' : List UInt8} (ho : w1.ownsRow wr.heap.size 5 1 (.slice (some ⟨G', 0, none⟩) m' c') m' (L'.map bv)) : BU W w B g a len cap k5 n d dr w1 G' m' c' L' :=
  ⟨h.bt.new hBw hg hb ho, h.r2.later hb, h.r5.later hb⟩
theorem BU.more (h : BU W w B g a len cap k5 n d dr wr G m c L) (hBw : B ≤ w.heap.size) (hg : g < w.heap.size) (h2 : W.heap.size < w.heap.size) (h5 : k5 < w.heap.size) (hb : Below w.heap.size wr w1) {G' m' c' : Nat} {L' : List UInt8} (ho : OwT w1 w.heap.size G' m' c' L') : BU W w B g a len cap k5 n d dr w1 G' m' c' L' :=
  ⟨⟨h.bt.ds.app hBw hg hb, ho⟩, h.r2.below hb h2, h.r5.below hb h5⟩
end
theorem src_take {w w1 : World} {G q : Nat} {L : List UInt8} (h : ∀ j y, L[j]? = some y → w.cell? ⟨G, j, none⟩ = some (bv y)) (hb : Below w.heap.size w w1) (hG : G < w.heap.size) : ∀ j y, (L.take q)[j]? = some y → w1.cell? ⟨G, 0 + j, none⟩ = some (bv y) := by
  intro j y hy
  rw [Nat.zero_add, (bcell hb).1 _ _ hG]
  refine h j y ?_
  rw [List.getElem?_take] at hy
  split at hy
  · exact hy
  · cases hy
theorem src_drop {w w1 : World} {G q : Nat} {L : List UInt8} (h : ∀ j y, L[j]? = some y → w.cell? ⟨G, j, none⟩ = some (bv y)) (hb : Below w.heap.size w w1) (hG : G < w.heap.size) : ∀ j y, (L.drop q)[j]? = some y → w1.cell? ⟨G, q + j, none⟩ = some (bv y) := by
  intro j y hy
  rw [(bcell hb).1 _ _ hG]
  rw [List.getElem?_drop] at hy
  exact h _ y hy
theorem src_one {X : World} {P : Nat} (h : X.heap[P]? = some (.cells #[.int .u8 32] 5 (0, 0))) : ∀ j y, ([32] : List UInt8)[j]? = some y → X.cell? ⟨P, 0 + j, none⟩ = some (bv y) := by
  intro j y hy
  cases j with
  | zero =>
    simp at hy
    subst hy
    rw [cell_of_row X P 0 _ 5 _ h]
    rfl
  | succ j => simp at hy
theorem own_heap {w w' : World} {B e m n : Nat} {v : Value} {xs : List Value} (hh : w'.heap = w.heap) (h : w.ownsRow B e m v n xs) : w'.ownsRow B e m v n xs := by
  obtain ⟨h1, h2⟩ := h
  refine ⟨h1, ?_⟩
  rw [hh]
  exact h2
theorem lt_blk {X : World} {b : Nat} {o : Obj} (h : X.heap[b]? = some o) : b < X.heap.size := (Array.getElem?_eq_some_iff.1 h).1
theorem sz_al {w : World} {o : Obj} : (w.alloc o).heap.size = w.heap.size + 1 := by simp
/-- a rate and a text that are drawn -/
def RlR (W : World) (e : Ending) (w' : World) : Prop := ∃ (n d : Int) (dr : Bool) (L : List UInt8), e = .returned (.tuple #[.agg #[.int .i64 n, .int .i64 d, .bool dr], .string ⟨L.toArray⟩]) ∧ L.length ≤ 20000 ∧ Below W.heap.size W w'

set_option maxRecDepth 100000 in
set_option maxHeartbeats 12800000 in
theorem drl_any (a : Option Addr) (len cap : Nat) (W : World) (hl2 : len ≤ 4096) (hr : RdB W W.heap.size a len) :
    Calls Tryz.prog 11 #[.slice a len cap] W (RlR W) := by
  have hlen : len ≤ 9223372036854775807 := by omega
  have a1 : Below W.heap.size W (W.alloc (.cells #[.int .i64 0, .int .i64 0, .bool false] 25)) := (Below.refl _ _).alloc (Nat.le_refl _) _
  have R1 := hide (R3.new W 0 0 false)
  have z1 := nbk_alloc W (.cells #[.int .i64 0, .int .i64 0, .bool false] 25)
  have B1 := hide a1
  have Q1 := hide (hr.belowB a1 (Nat.le_refl _))
  clear hr a1
  go_enter Tryz.func11, Tryz.ntmps11
  go_wp2_with fail
  generalize W.alloc (.cells #[.int .i64 0, .int .i64 0, .bool false] 25) = w1 at *
  have Q1' : Hid (RdB w1 w1.heap.size a len) := hide (fun j hj => by
    obtain ⟨b, o, z, e, h1, h2⟩ := unhide Q1 j hj
    exact ⟨b, o, z, e, by omega, h2⟩)
  have z1' := hide z1
  clear z1
  refine (new_any a len cap _ hlen (by omega) (unhide Q1')).mono ?_
  rintro e w2 ⟨g, rfl, hg1, k2, b2⟩
  have z1 := unhide z1'
  have hWg : W.heap.size < g := by omega
  have D2 := hide (⟨k2, (unhide Q1).belowB b2 (by omega), grown_refl _ _⟩ : DS w2 W.heap.size g a len cap w2)
  have R2 := hide ((unhide R1).later b2)
  have B2 := hide (laterB (unhide B1) b2)
  clear R1 B1 Q1 Q1' k2 b2 z1' z1
  go_wp2_with fail
  refine (d6rate_any W.heap.size g a len cap _ (by omega) hlen (unhide D2).cur (unhide D2).rd).mono ?_
  rintro e w3 ⟨n, d, dr, rfl, d3⟩
  have R3x := hide ((unhide R2).kept d3.gr (by omega))
  have B3 := hide (below_grown (unhide B2) d3.gr (by omega))
  have hg3 := d3.cur.lt
  have a3 : Below w3.heap.size w3 (w3.alloc (.cells #[.int .i64 n, .int .i64 d, .bool dr] 25)) := (Below.refl _ _).alloc (Nat.le_refl _) _
  have C4 := hide (d3.cur.below a3)
  have Q4 := hide (d3.rd.belowB a3 (by omega))
  have R4 := hide ((unhide R3x).later a3)
  have hBW := hide (laterB (unhide B3) a3)
  have P4 := hide (R3.new w3 n d dr)
  have z4 := nbk_alloc w3 (.cells #[.int .i64 n, .int .i64 d, .bool dr] 25)
  have hW3 := (unhide R3x).lt
  clear d3 D2 R2 R3x B2 B3 a3
  go_wp2_with fail
  generalize w3.alloc (.cells #[.int .i64 n, .int .i64 d, .bool dr] 25) = w at *
  generalize w3.heap.size = k5 at *
  clear w3
  have hB : W.heap.size ≤ g := by omega
  have hg : g < w.heap.size := by omega
  have hBw : W.heap.size ≤ w.heap.size := by omega
  have h2w : W.heap.size < w.heap.size := by omega
  have h5w : k5 < w.heap.size := by omega
  have h2g : W.heap.size ≠ g := by omega
  have h5g : k5 ≠ g := by omega
  clear z4
  refine wp_region_noPanic ?_
  refine wp_region_held_drew (S := (fun w' => R3 w' k5 n d dr)) (by kernel_rfl) ?_ (fun hH0 => ?_)
  · exact unhide P4
  refine wpAnyH_take (i := 0) (oi := { dst := some 13, op := Go.Op.load 25 (Go.Operand.tmp 5), type := 25, pos := _, after := #[], guard := none }) (v := ?_) rfl (by kernel_rfl) (by kernel_rfl) (by kernel_rfl) (fun _ _ _ h => h) (Or.inl ⟨by rfl, ?_⟩) hH0 ?_
  rotate_left
  · (intro w hSw; have hSc := hSw.cells; obtain ⟨q0, q1, q2⟩ := hSc; go_simp <;> with_reducible rfl)
  (try simp only [Act.put, List.setIfInBounds_toArray, List.set_cons_zero, List.set_cons_succ])
  refine wpAnyH_take (i := 1) (oi := { dst := some 14, op := Go.Op.move (Go.Operand.tmp 4), type := 38, pos := _, after := #[], guard := none }) (v := ?_) rfl (by kernel_rfl) (by kernel_rfl) (by kernel_rfl) (fun _ _ _ h => h) (Or.inl ⟨by rfl, ?_⟩) hH0 ?_
  rotate_left
  · (intro w hSw; go_simp <;> with_reducible rfl)
  (try simp only [Act.put, List.setIfInBounds_toArray, List.set_cons_zero, List.set_cons_succ])
  refine wpAnyH_ready (rs := [2]) (by kernel_rfl) (by simp) ?_
  refine AllReadyH.cons (o := { dst := some 15, op := Go.Op.call { callee := Go.Callee.value (Go.Operand.func 15), args := #[Go.Operand.tmp 14], argTypes := #[38] }, type := 26, pos := _, after := #[{ on := 1, ground := Go.Ground.data }], guard := none }) rfl (fun K hK => ?_) AllReadyH.nil
  go_simp
  go_at_call 15
  refine (dtrack_any W.heap.size g a len cap w.drew hB hlen (unhide C4) (unhide Q4)).mono ?_
  rintro e w5 ⟨G0, c0, T, rfl, hT, t5⟩
  have t5x : w.grownBy w5 (some g) := ⟨t5.ds.gr.os, t5.ds.gr.tape, t5.ds.gr.output, t5.ds.gr.size, t5.ds.gr.block⟩
  have D5 := hide (⟨t5.ds.cur, t5.ds.rd, t5x⟩ : DS w W.heap.size g a len cap w5)
  have R5 := hide ((unhide R4).kept t5x h2g)
  have P5 := hide ((unhide P4).kept t5x h5g)
  obtain ⟨S, hS⟩ : ∃ S, showOf n d dr T = S := ⟨_, rfl⟩
  have hSl : S.length ≤ 19200 := by rw [← hS]; exact showOf_len _ _ _ _
  have c1 := hide (show Calls Tryz.prog 7 #[.agg #[.int .i64 n, .int .i64 d, .bool dr], .slice (some ⟨G0, 0, none⟩) T.length c0] w5 _ from sshow_any n d dr (some ⟨G0, 0, none⟩) c0 T w5 (by unfold maxLen; omega) (kls_own t5.ow))
  rw [hS] at c1
  go_wp2_with fail
  refine hK.out _ _ ?_ (fun hH1 => ?_)
  · exact unhide P5
  clear hK K hH0 t5 t5x C4 Q4 R4 P4 hS hT
  (try simp only [Act.put, List.setIfInBounds_toArray, List.set_cons_zero, List.set_cons_succ])
  refine wpAnyH_ready (rs := [3]) (by kernel_rfl) (by simp) ?_
  refine AllReadyH.cons (o := { dst := some 16, op := Go.Op.call { callee := Go.Callee.value (Go.Operand.func 7), args := #[Go.Operand.tmp 13, Go.Operand.tmp 15], argTypes := #[25, 26] }, type := 9, pos := _, after := #[{ on := 0, ground := Go.Ground.data }, { on := 2, ground := Go.Ground.data }, { on := 2, ground := Go.Ground.chain }], guard := none }) rfl (fun K hK => ?_) AllReadyH.nil
  go_simp
  go_at_call 7
  refine (unhide c1).mono ?_
  rintro e w6 ⟨rfl, k6⟩
  have D6 := hide ((unhide D5).later hB k6)
  have R6 := hide ((unhide R5).later k6)
  have P6 := hide ((unhide P5).later k6)
  obtain ⟨s, hs⟩ : ∃ s : ByteArray, (⟨S.toArray⟩ : ByteArray) = s := ⟨_, rfl⟩
  have hsS : s.data.toList = S := by rw [← hs]
  have hss := hide (show s.size = S.length by rw [← hs]; rfl)
  rw [hs]
  go_wp2_with fail
  refine hK.out _ _ ?_ (fun hH2 => ?_)
  · exact unhide P6
  clear hK K hH1 k6 c1 D5 R5 P5 hs
  (try simp only [Act.put, List.setIfInBounds_toArray, List.set_cons_zero, List.set_cons_succ])
  have hcv := run_bytes_of_string (P := Tryz.prog) w6 9 22 5 s Tryz.underlying9 Tryz.underlying22 Tryz.underlying5
  have T3' := hide (show BU W w W.heap.size g a len cap k5 n d dr (w6.drew.alloc (.cells (bytesRow s (grownCap w6 s.size 0 5)) 5 ((bytesRow s (grownCap w6 s.size 0 5)).size, (bytesRow s (grownCap w6 s.size 0 5)).size + 1))) w6.heap.size s.size (grownCap w6 s.size 0 5) S from ⟨⟨(unhide D6).later hB ((Below.refl w6.heap.size w6).drew.alloc (Nat.le_refl _) _), OwT.conv w6 s (unhide D6).gr.size hsS (by have := unhide hss; omega)⟩, (unhide R6).later ((Below.refl w6.heap.size w6).drew.alloc (Nat.le_refl _) _), (unhide P6).later ((Below.refl w6.heap.size w6).drew.alloc (Nat.le_refl _) _)⟩)
  have T3 := hide (show BU W w W.heap.size g a len cap k5 n d dr (w6.alloc (.cells (bytesRow s (grownCap w6 s.size 0 5)) 5 ((bytesRow s (grownCap w6 s.size 0 5)).size, (bytesRow s (grownCap w6 s.size 0 5)).size + 1))).drew w6.heap.size s.size (grownCap w6 s.size 0 5) S from unhide T3')
  refine wpAnyH_ready (rs := [4]) (by kernel_rfl) (by simp) ?_
  refine AllReadyH.cons (o := { dst := some 17, op := Go.Op.convert 9 22 (Go.Operand.tmp 16), type := 22, pos := _, after := #[{ on := 3, ground := Go.Ground.data }], guard := none }) rfl (fun K hK => ?_) AllReadyH.nil
  go_simp
  refine hK.out _ _ ?_ (fun hH3 => ?_)
  · exact (unhide T3).r5
  clear hK K hH2 D6 R6 P6 hsS
  (try simp only [Act.put, List.setIfInBounds_toArray, List.set_cons_zero, List.set_cons_succ])
  refine wpAnyH_take (i := 5) (oi := { dst := some 6, op := Go.Op.assign (Go.Operand.tmp 17), type := 22, pos := _, after := #[{ on := 4, ground := Go.Ground.data }, { on := 3, ground := Go.Ground.chain }, { on := 0, ground := Go.Ground.phase }, { on := 1, ground := Go.Ground.phase }, { on := 2, ground := Go.Ground.phase }, { on := 3, ground := Go.Ground.phase }, { on := 4, ground := Go.Ground.phase }], guard := none }) (v := ?_) rfl (by kernel_rfl) (by kernel_rfl) (by kernel_rfl) (fun _ _ _ h => h) (Or.inl ⟨by rfl, ?_⟩) hH3 ?_
  rotate_left
  · (intro w hSw; go_simp <;> with_reducible rfl)
  (try simp only [Act.put, List.setIfInBounds_toArray, List.set_cons_zero, List.set_cons_succ])
  refine wpAnyH_done (by kernel_rfl) ?_ _
  refine NoPanic.normal ?_
  clear hcv T3'
  generalize (w6.alloc (.cells (bytesRow s (grownCap w6 s.size 0 5)) 5 ((bytesRow s (grownCap w6 s.size 0 5)).size, (bytesRow s (grownCap w6 s.size 0 5)).size + 1))).drew = w7 at *
  generalize w6.heap.size = G1 at *
  generalize grownCap w6 s.size 0 5 = cc at *
  have hss2 := unhide hss
  generalize s.size = m0 at *
  subst hss2
  clear hss hH3
  go_wp2_with fail
  refine (once_any W.heap.size g a len cap 2 _ hB hlen (unhide T3).bt.ds.cur (unhide T3).bt.ds.rd (by omega)).mono ?_
  rintro e wr ⟨o, rfl, k1, g1⟩
  have T5 := hide ((unhide T3).step hB hg h2g h5g k1 g1)
  clear k1 g1 T3
  have hfin : ∀ (G c : Nat) (L : List UInt8), True := fun _ _ _ => trivial
  clear hfin
  cases o with
  | false =>
    have OD : OwT wr.drew w.heap.size G1 S.length cc S := (unhide T5).bt.ow.kept rfl
    have hcv := OD.str
    obtain ⟨c0, c1, c2⟩ := (unhide T5).r5.cells
    obtain ⟨a0, a1, a2⟩ := (unhide T5).r2.cells
    have f0 := (unhide T5).r2.fz 0
    have f1 := (unhide T5).r2.fz 1
    have f2 := (unhide T5).r2.fz 2
    have hGe := (unhide T5).bt.ow.ge
    have OS : OwT (((wr.setCell ⟨W.heap.size, 0, none⟩ (.int .i64 n)).setCell ⟨W.heap.size, 1, none⟩ (.int .i64 d)).setCell ⟨W.heap.size, 2, none⟩ (.bool dr)).drew w.heap.size G1 S.length cc S := (unhide T5).bt.ow.kept (by show (((wr.setCell ⟨W.heap.size, 0, none⟩ (.int .i64 n)).setCell ⟨W.heap.size, 1, none⟩ (.int .i64 d)).setCell ⟨W.heap.size, 2, none⟩ (.bool dr)).heap[G1]? = _; rw [heap_set_ne (show G1 ≠ W.heap.size by omega), heap_set_ne (show G1 ≠ W.heap.size by omega), heap_set_ne (show G1 ≠ W.heap.size by omega)])
    have hcv2 := OS.str
    have fin := hide (show S.length ≤ 20000 ∧ Below W.heap.size W (((wr.setCell ⟨W.heap.size, 0, none⟩ (.int .i64 n)).setCell ⟨W.heap.size, 1, none⟩ (.int .i64 d)).setCell ⟨W.heap.size, 2, none⟩ (.bool dr)).drew from ⟨by have := (unhide T5).bt.ow.1; omega, ((((below_grown (unhide hBW) (unhide T5).bt.ds.gr hB).setCell (p := ⟨W.heap.size, 0, none⟩) (Nat.le_refl _) (.int .i64 n)).setCell (p := ⟨W.heap.size, 1, none⟩) (Nat.le_refl _) (.int .i64 d)).setCell (p := ⟨W.heap.size, 2, none⟩) (Nat.le_refl _) (.bool dr)).drew⟩)
    clear OS OD hGe
    go_wp2_with fail
    go_region
    go_wp2
    exact bodyPost_ret (v := .tuple #[.agg #[.int .i64 n, .int .i64 d, .bool dr], .string ⟨S.toArray⟩]) (by simp [results, Tryz.results11, go_sem, a0, a1, a2]) rfl ⟨n, d, dr, S, rfl, (unhide fin).1, (unhide fin).2⟩
  | true =>
  by_cases hS0 : S.length = 0
  · have hSn : S = [] := List.eq_nil_of_length_eq_zero hS0
    subst hSn
    have T5z : Hid (BU W w W.heap.size g a len cap k5 n d dr wr G1 0 cc []) := T5
    clear T5 hS0
    have OD : OwT wr.drew w.heap.size G1 0 cc [] := (unhide T5z).bt.ow.kept rfl
    have hcv := OD.str
    obtain ⟨c0, c1, c2⟩ := (unhide T5z).r5.cells
    obtain ⟨a0, a1, a2⟩ := (unhide T5z).r2.cells
    have f0 := (unhide T5z).r2.fz 0
    have f1 := (unhide T5z).r2.fz 1
    have f2 := (unhide T5z).r2.fz 2
    have hGe := (unhide T5z).bt.ow.ge
    have OS : OwT (((wr.setCell ⟨W.heap.size, 0, none⟩ (.int .i64 n)).setCell ⟨W.heap.size, 1, none⟩ (.int .i64 d)).setCell ⟨W.heap.size, 2, none⟩ (.bool dr)).drew w.heap.size G1 0 cc [] := (unhide T5z).bt.ow.kept (by show (((wr.setCell ⟨W.heap.size, 0, none⟩ (.int .i64 n)).setCell ⟨W.heap.size, 1, none⟩ (.int .i64 d)).setCell ⟨W.heap.size, 2, none⟩ (.bool dr)).heap[G1]? = _; rw [heap_set_ne (show G1 ≠ W.heap.size by omega), heap_set_ne (show G1 ≠ W.heap.size by omega), heap_set_ne (show G1 ≠ W.heap.size by omega)])
    have hcv2 := OS.str
    have fin := hide (show ([] : List UInt8).length ≤ 20000 ∧ Below W.heap.size W (((wr.setCell ⟨W.heap.size, 0, none⟩ (.int .i64 n)).setCell ⟨W.heap.size, 1, none⟩ (.int .i64 d)).setCell ⟨W.heap.size, 2, none⟩ (.bool dr)).drew from ⟨by have := (unhide T5z).bt.ow.1; omega, ((((below_grown (unhide hBW) (unhide T5z).bt.ds.gr hB).setCell (p := ⟨W.heap.size, 0, none⟩) (Nat.le_refl _) (.int .i64 n)).setCell (p := ⟨W.heap.size, 1, none⟩) (Nat.le_refl _) (.int .i64 d)).setCell (p := ⟨W.heap.size, 2, none⟩) (Nat.le_refl _) (.bool dr)).drew⟩)
    clear OS OD hGe
    go_wp2_with fail
    go_region
    go_wp2
    exact bodyPost_ret (v := .tuple #[.agg #[.int .i64 n, .int .i64 d, .bool dr], .string ⟨([] : List UInt8).toArray⟩]) (by simp [results, Tryz.results11, go_sem, a0, a1, a2]) rfl ⟨n, d, dr, [], rfl, (unhide fin).1, (unhide fin).2⟩
  have hS1 : decide ((0 : Int) < S.length) = true := by rw [decide_eq_true_iff]; omega
  go_wp2_with fail
  refine (below_any W.heap.size g a len cap 2 _ hB hlen (unhide T5).bt.ds.cur (unhide T5).bt.ds.rd (by omega)).mono ?_
  rintro e w8 ⟨x1, rfl, x10, x11, k1, g1⟩
  have T8 := hide ((unhide T5).step hB hg h2g h5g k1 g1)
  obtain ⟨n0, hn0⟩ : ∃ n0 : Nat, 1 + x1 = n0 := ⟨(1 + x1).toNat, by omega⟩
  have hn1 : n0 ≤ 2 := by omega
  clear k1 g1 T5
  go_wp2
  clear hn0 x10 x11
  go_loopw [6, 7] (fun s t wr => ∃ (k G m c : Nat) (L : List UInt8), k ≤ 2 ∧ m + 60 * k ≤ 19400 ∧ t = .int .i64 k ∧ s = .slice (some ⟨G, 0, none⟩) m c ∧ Hid (BU W w W.heap.size g a len cap k5 n d dr wr G m c L)) (fun _ t _ => (intOf t).toNat)
  case atStart => exact ⟨n0, G1, S.length, cc, S, by omega, by omega, rfl, rfl, T8⟩
  case round =>
  clear T8 hn1
  obtain ⟨k, G, m, c, L, hk2, hnk, rfl, rfl, hT⟩ := hrel
  by_cases hgo : 0 < k ∧ 0 < m
  · obtain ⟨hk0, hm0'⟩ := hgo
    have hk1 : decide ((0 : Int) < k) = true := by rw [decide_eq_true_iff]; omega
    have hm1 : decide ((0 : Int) < m) = true := by rw [decide_eq_true_iff]; omega
    go_wp2_with fail
    refine (below_any W.heap.size g a len cap (m : Int) _ hB hlen (unhide hT).bt.ds.cur (unhide hT).bt.ds.rd (by omega)).mono ?_
    rintro e w6 ⟨dk, rfl, d0, d1, k1, g1⟩
    obtain ⟨q, rfl⟩ := Int.eq_ofNat_of_zero_le d0
    have T6 := hide ((unhide hT).step hB hg h2g h5g k1 g1)
    have hq : q < m := by omega
    clear k1 g1 hT
    go_wp2_with fail
    refine (below_any W.heap.size g a len cap 5 _ hB hlen (unhide T6).bt.ds.cur (unhide T6).bt.ds.rd (by omega)).mono ?_
    rintro e w7 ⟨p, rfl, p0, p1, k1, g1⟩
    have T7 := hide ((unhide T6).step hB hg h2g h5g k1 g1)
    clear k1 g1 T6
    have hLn := (unhide T7).bt.ow.1
    have hqc : q ≤ c := by have := (unhide T7).bt.ow.cap; omega
    have hnc : m ≤ c := (unhide T7).bt.ow.cap
    have hp : p = 0 ∨ p = 1 ∨ p = 2 ∨ p = 3 ∨ p = 4 := by omega
    rcases hp with rfl | rfl | rfl | rfl | rfl
    · have kc := Lib.run_convert_bytes_const (P := Tryz.prog) w7 22 5 #[.int .u8 48, .int .u8 49, .int .u8 50, .int .u8 51, .int .u8 32, .int .u8 58, .int .u8 59, .int .u8 66, .int .u8 76, .int .u8 82, .int .u8 67, .int .u8 10, .int .u8 53, .int .u8 120] 14 14 Tryz.underlying22 Tryz.underlying5
      have hla := hide (fun r hr => lit_at14 (w := w7) (T := 5) (fz := (14, 15)) r hr)
      have T8 := hide ((unhide T7).later hB ((Below.refl w7.heap.size w7).alloc (Nat.le_refl _) (.cells #[.int .u8 48, .int .u8 49, .int .u8 50, .int .u8 51, .int .u8 32, .int .u8 58, .int .u8 59, .int .u8 66, .int .u8 76, .int .u8 82, .int .u8 67, .int .u8 10, .int .u8 53, .int .u8 120] 5 (14, 15))))
      have hEg : w7.heap.size ≠ g := by have := (unhide T7).bt.ds.cur.lt; omega
      clear T7
      go_wp2_with fail
      generalize hY : w7.alloc _ = Y at *
      refine (below_any W.heap.size g a len cap 14 _ hB hlen (unhide T8).bt.ds.cur (unhide T8).bt.ds.rd (by omega)).mono ?_
      rintro e w9 ⟨r, rfl, r0, r1, k1, g1⟩
      obtain ⟨r, rfl⟩ := Int.eq_ofNat_of_zero_le r0
      obtain ⟨x, hx⟩ := unhide hla r (by omega)
      have hx1 := grown_cell g1 hEg hx
      have T9 := hide ((unhide T8).step hB hg h2g h5g k1 g1)
      obtain ⟨y, hy⟩ : ∃ y, L[q]? = some y := ⟨L[q]'(by omega), List.getElem?_eq_getElem _⟩
      have hy1 : w9.cell? ⟨G, q, none⟩ = some (.int .u8 (y.toNat : Int)) := (unhide T9).bt.ow.cell hy
      have hy2 := (unhide T9).bt.ow.froz hq
      have TF := hide ((unhide T9).set hBw hg h2w h5w hq x)
      clear hx k1 g1 T8 hla hY T9 kc
      go_wp2
      go_roundw
      case rel => exact ⟨k - 1, G, m, c, _, by omega, by omega, by go_num, rfl, TF⟩
      case measure => simp [intOf]; omega
    · have T8 := hide ((unhide T7).take (k := q) (by omega))
      clear T7
      have hqc' : (q : Int) ≤ c := by omega
      go_wp2
      go_roundw
      case rel => exact ⟨k - 1, G, q, c, _, by omega, by omega, by go_num, rfl, T8⟩
      case measure => simp [intOf]; omega
    · have hsrc := hide (fun j y hj => (unhide T7).bt.ow.cell (k := j) (x := y) hj)
      have hGl := (unhide T7).bt.ow.lt
      have hqc' : (q : Int) ≤ c := by omega
      have hw1 : IntKind.i64.wrap ((q : Int) + 1) = (q : Int) + 1 := by rw [IntKind.wrap_i64]; omega
      have hq1 : ((q : Int) + 1) ≤ m := by omega
      have hq2 : ((m : Int)) ≤ c := by omega
      have hq3 : ((q : Int) + 1).toNat = q + 1 := by omega
      have hq4 : (0 : Int) ≤ (q : Int) + 1 := by omega
      have own0 := hide (show ((w7.alloc (.cells #[] 5)).drew).ownsRow w7.heap.size 5 1 (.slice (some ⟨w7.heap.size, 0, none⟩) 0 0) 0 (([] : List UInt8).map bv) from own_heap rfl (ownB_lit0 w7 (Nat.le_refl _)))
      have kb0 := hide (show Below w7.heap.size w7 (w7.alloc (.cells #[] 5)).drew from ((Below.refl w7.heap.size w7).alloc (Nat.le_refl _) _).drew)
      by_cases hcq : c = q + 1
      · obtain rfl : m = q + 1 := by omega
        subst hcq
        have hle : (q : Int) ≤ (q : Int) + 1 := by omega
        have hle2 : ((q : Int) + 1) ≤ (q : Int) + 1 := by omega
        go_wp2_with fail
        go_region_law ((first
          | (refine step_bytes _ rfl (.tmp 61) (.tmp 64) rfl w7.heap.size w7.heap.size 0 0 [] rfl (unhide own0) G 0 q (q + 1) (L.take q) rfl (by rw [List.length_take]; omega) (src_take (unhide hsrc) (unhide kb0) hGl) q (by omega) (by omega) (unhide kb0).size ?_
             intro g1 c1 w8 own1 gr1
             have O1 := hide own1
             have kb1 := hide ((unhide kb0).grown gr1 (unhide kb0).size (fun k hk => by injection hk with hk; omega))
             clear own1 gr1)
          | (refine step_bytes _ rfl (.tmp 65) (.tmp 69) rfl w7.heap.size g1 q c1 ([] ++ L.take q) rfl (unhide O1) G 0 0 0 [] rfl rfl (fun j y hy => by simp at hy) q (by omega) (by omega) (unhide kb1).size ?_
             intro g2 c2 w9 own2 gr2
             have TF := hide ((unhide T7).new hBw hg ((unhide kb1).grown gr2 (unhide kb1).size (fun k hk => by injection hk with hk; have := own_ge (unhide O1); omega)) own2)
             clear own2 gr2)))
        clear O1 kb0 kb1 own0 T7 hsrc
        go_wp2
        go_roundw
        case rel => exact ⟨k - 1, g2, q, c2, _, by omega, by omega, by go_num, rfl, TF⟩
        case measure => simp [intOf]; omega
      · have hcq' : ¬ (c : Int) = (q : Int) + 1 := by omega
        go_wp2_with fail
        go_region_law ((first
          | (refine step_bytes _ rfl (.tmp 61) (.tmp 64) rfl w7.heap.size w7.heap.size 0 0 [] rfl (unhide own0) G 0 q c (L.take q) rfl (by rw [List.length_take]; omega) (src_take (unhide hsrc) (unhide kb0) hGl) q (by omega) (by omega) (unhide kb0).size ?_
             intro g1 c1 w8 own1 gr1
             have O1 := hide own1
             have kb1 := hide ((unhide kb0).grown gr1 (unhide kb0).size (fun k hk => by injection hk with hk; omega))
             clear own1 gr1)
          | (refine step_bytes _ rfl (.tmp 65) (.tmp 69) rfl w7.heap.size g1 q c1 ([] ++ L.take q) rfl (unhide O1) G (q + 1) (m - (q + 1)) (c - (q + 1)) (L.drop (q + 1)) (by simp [Act.eval, Act.put]) (by rw [List.length_drop]; omega) (src_drop (unhide hsrc) (unhide kb1) hGl) (m - 1) (by omega) (by omega) (unhide kb1).size ?_
             intro g2 c2 w9 own2 gr2
             have TF := hide ((unhide T7).new hBw hg ((unhide kb1).grown gr2 (unhide kb1).size (fun k hk => by injection hk with hk; have := own_ge (unhide O1); omega)) own2)
             clear own2 gr2)))
        clear O1 kb0 kb1 own0 T7 hsrc
        go_wp2
        go_roundw
        case rel => exact ⟨k - 1, g2, m - 1, c2, _, by omega, by omega, by go_num, rfl, TF⟩
        case measure => simp [intOf]; omega
    · have hsrc := hide (fun j y hj => (unhide T7).bt.ow.cell (k := j) (x := y) hj)
      have hGl := (unhide T7).bt.ow.lt
      have hqc' : (q : Int) ≤ c := by omega
      have hq1 : (q : Int) ≤ m := by omega
      have hq2 : ((m : Int)) ≤ c := by omega
      have own0 := hide (show ((w7.alloc (.cells #[] 5)).drew).ownsRow w7.heap.size 5 1 (.slice (some ⟨w7.heap.size, 0, none⟩) 0 0) 0 (([] : List UInt8).map bv) from own_heap rfl (ownB_lit0 w7 (Nat.le_refl _)))
      have kb0 := hide (show Below w7.heap.size w7 (w7.alloc (.cells #[] 5)).drew from ((Below.refl w7.heap.size w7).alloc (Nat.le_refl _) _).drew)
      have hcq : ¬ c = q := by omega
      have ownB := hide (show (((w7.alloc (.cells #[] 5)).alloc (.cells #[.int .u8 32] 5)).drew).ownsRow w7.heap.size 5 1 (.slice (some ⟨w7.heap.size, 0, none⟩) 0 0) 0 (([] : List UInt8).map bv) from own_heap rfl ((ownB_lit0 w7 (Nat.le_refl _)).alloc (.cells #[.int .u8 32] 5)))
      have kbB := hide (show Below w7.heap.size w7 ((w7.alloc (.cells #[] 5)).alloc (.cells #[.int .u8 32] 5)).drew from (((Below.refl w7.heap.size w7).alloc (Nat.le_refl _) _).alloc (by rw [sz_al]; omega) _).drew)
      have hsB := hide (show (((w7.alloc (.cells #[] 5)).alloc (.cells #[.int .u8 32] 5)).drew).heap[w7.heap.size + 1]? = some (.cells #[.int .u8 32] 5 (0, 0)) by
        have := alloc_new (w7.alloc (.cells #[] 5)) (.cells #[.int .u8 32] 5)
        rw [sz_al] at this
        exact this)
      have ownC := hide (show (((w7.alloc (.cells #[.int .u8 32] 5)).alloc (.cells #[] 5)).drew).ownsRow w7.heap.size 5 1 (.slice (some ⟨w7.heap.size + 1, 0, none⟩) 0 0) 0 (([] : List UInt8).map bv) by
        have := ownB_lit0 (B := w7.heap.size) (w7.alloc (.cells #[.int .u8 32] 5)) (by rw [sz_al]; omega)
        rw [sz_al] at this
        exact own_heap rfl this)
      have kbC := hide (show Below w7.heap.size w7 ((w7.alloc (.cells #[.int .u8 32] 5)).alloc (.cells #[] 5)).drew from (((Below.refl w7.heap.size w7).alloc (Nat.le_refl _) _).alloc (by rw [sz_al]; omega) _).drew)
      have hsC := hide (show (((w7.alloc (.cells #[.int .u8 32] 5)).alloc (.cells #[] 5)).drew).heap[w7.heap.size]? = some (.cells #[.int .u8 32] 5 (0, 0)) from ((Below.refl (w7.alloc (.cells #[.int .u8 32] 5)).heap.size (w7.alloc (.cells #[.int .u8 32] 5))).alloc (Nat.le_refl _) (.cells #[] 5)).block _ (by rw [sz_al]; omega) |>.trans (alloc_new w7 (.cells #[.int .u8 32] 5)))
      go_wp2_with fail
      go_region_law ((first
        | (refine step_bytes _ rfl (.tmp 73) (.tmp 76) rfl w7.heap.size w7.heap.size 0 0 [] rfl (unhide own0) G 0 q c (L.take q) rfl (by rw [List.length_take]; omega) (src_take (unhide hsrc) (unhide kb0) hGl) q (by omega) (by omega) (unhide kb0).size ?_
           intro g1 c1 w8 own1 gr1
           have O1 := hide own1
           have kb1 := hide ((unhide kb0).grown gr1 (unhide kb0).size (fun k hk => by injection hk with hk; omega))
           clear own1 gr1)
        | (refine step_bytes _ rfl (.tmp 73) (.tmp 76) rfl w7.heap.size w7.heap.size 0 0 [] rfl (unhide ownB) G 0 q c (L.take q) rfl (by rw [List.length_take]; omega) (src_take (unhide hsrc) (unhide kbB) hGl) q (by omega) (by omega) (unhide kbB).size ?_
           intro g1 c1 w8 own1 gr1
           have O1 := hide own1
           have kb1 := hide ((unhide kbB).grown gr1 (unhide kbB).size (fun k hk => by injection hk with hk; omega))
           have h10 := hide (show w8.heap[(w7.heap.size + 1)]? = some (.cells #[.int .u8 32] 5 (0, 0)) from (gr1.block _ (lt_blk (unhide hsB)) (by intro e; injection e with e; omega)).trans (unhide hsB))
           clear own1 gr1)
        | (refine step_bytes _ rfl (.tmp 73) (.tmp 76) rfl w7.heap.size (w7.heap.size + 1) 0 0 [] rfl (unhide ownC) G 0 q c (L.take q) rfl (by rw [List.length_take]; omega) (src_take (unhide hsrc) (unhide kbC) hGl) q (by omega) (by omega) (unhide kbC).size ?_
           intro g1 c1 w8 own1 gr1
           have O1 := hide own1
           have kb1 := hide ((unhide kbC).grown gr1 (unhide kbC).size (fun k hk => by injection hk with hk; omega))
           have h10 := hide (show w8.heap[w7.heap.size]? = some (.cells #[.int .u8 32] 5 (0, 0)) from (gr1.block _ (lt_blk (unhide hsC)) (by intro e; injection e with e; omega)).trans (unhide hsC))
           clear own1 gr1)
        | (refine step_bytes _ rfl (.tmp 77) (.tmp 78) rfl w7.heap.size g1 q c1 ([] ++ L.take q) rfl (unhide O1) (w7.heap.size + 1) 0 1 1 [32] rfl rfl (src_one (unhide h10)) (q + 1) (by omega) (by omega) (unhide kb1).size ?_
           intro g2 c2 w9 own2 gr2
           have O2 := hide own2
           have kb2 := hide ((unhide kb1).grown gr2 (unhide kb1).size (fun k hk => by injection hk with hk; have := own_ge (unhide O1); omega))
           clear own2 gr2)
        | (refine step_bytes _ rfl (.tmp 77) (.tmp 78) rfl w7.heap.size g1 q c1 ([] ++ L.take q) rfl (unhide O1) w7.heap.size 0 1 1 [32] rfl rfl (src_one (unhide h10)) (q + 1) (by omega) (by omega) (unhide kb1).size ?_
           intro g2 c2 w9 own2 gr2
           have O2 := hide own2
           have kb2 := hide ((unhide kb1).grown gr2 (unhide kb1).size (fun k hk => by injection hk with hk; have := own_ge (unhide O1); omega))
           clear own2 gr2)
        | (refine step_bytes _ rfl (.tmp 77) (.tmp 78) rfl w7.heap.size g1 q c1 ([] ++ L.take q) rfl ((unhide O1).alloc (.cells #[.int .u8 32] 5)) w8.heap.size 0 1 1 [32] rfl rfl (src_one (alloc_new w8 (.cells #[.int .u8 32] 5))) (q + 1) (by omega) (by omega) (by rw [sz_al]; have := (unhide kb1).size; omega) ?_
           intro g2 c2 w9 own2 gr2
           have O2 := hide own2
           have kb2 := hide (((unhide kb1).alloc (unhide kb1).size (.cells #[.int .u8 32] 5)).grown gr2 (by rw [sz_al]; have := (unhide kb1).size; omega) (fun k hk => by injection hk with hk; have := own_ge (unhide O1); omega))
           clear own2 gr2)
        | (refine step_bytes _ rfl (.tmp 79) (.tmp 82) rfl w7.heap.size g2 (q + 1) c2 (([] ++ L.take q) ++ [32]) rfl (unhide O2) G q (m - q) (c - q) (L.drop q) (by simp [Act.eval, Act.put, hcq]) (by rw [List.length_drop]; omega) (src_drop (unhide hsrc) (unhide kb2) hGl) (m + 1) (by omega) (by omega) (unhide kb2).size ?_
           intro g3 c3 w10 own3 gr3
           have TF := hide ((unhide T7).new hBw hg ((unhide kb2).grown gr3 (unhide kb2).size (fun k hk => by injection hk with hk; have := own_ge (unhide O2); omega)) own3)
           clear own3 gr3)))
      all_goals (
        clear O1 O2 kb0 kb1 kb2 own0 ownB ownC kbB kbC hsB hsC T7 hsrc
        go_wp2
        go_roundw
        case rel => exact ⟨k - 1, g3, m + 1, c3, _, by omega, by omega, by go_num, rfl, TF⟩
        case measure => simp [intOf]; omega)
    · have hw7 : w.heap.size ≤ w7.heap.size := (unhide T7).bt.size
      go_wp2_with (at_builtin; refine wpList_owS w7 rfl _ _ rfl w.heap.size G m c L ⟨#[48, 48, 50, 32, 82, 49, 32, 67, 32, 48, 48, 58, 48, 48, 58, 48, 48, 58, 48, 48, 32, 48, 48, 58, 48, 48, 58, 48, 48, 58, 48, 49, 32, 48, 48, 58, 48, 48, 58, 48, 48, 58, 48, 48, 32, 48, 48, 58, 48, 48, 58, 48, 48, 58, 48, 49, 10]⟩ rfl (unhide T7).bt.ow rfl (by show m + 57 ≤ _; omega) hw7 ?_)
      intro g2 c2 w9 own2 bl2
      have TF := hide ((unhide T7).more hBw hg h2w h5w bl2 own2)
      clear own2 bl2 T7
      go_wp2
      go_roundw
      case rel => exact ⟨k - 1, g2, m + 57, c2, _, by omega, by omega, by go_num, rfl, TF⟩
      case measure => simp [intOf]; omega
  · have hend : k = 0 ∨ (0 < k ∧ m = 0) := by omega
    clear hgo
    rcases hend with rfl | ⟨hk1, rfl⟩
    · skip
      have OD : OwT wr.drew w.heap.size G m c L := (unhide hT).bt.ow.kept rfl
      have hcv := OD.str
      obtain ⟨c0, c1, c2⟩ := (unhide hT).r5.cells
      obtain ⟨a0, a1, a2⟩ := (unhide hT).r2.cells
      have f0 := (unhide hT).r2.fz 0
      have f1 := (unhide hT).r2.fz 1
      have f2 := (unhide hT).r2.fz 2
      have hGe := (unhide hT).bt.ow.ge
      have OS : OwT (((wr.setCell ⟨W.heap.size, 0, none⟩ (.int .i64 n)).setCell ⟨W.heap.size, 1, none⟩ (.int .i64 d)).setCell ⟨W.heap.size, 2, none⟩ (.bool dr)).drew w.heap.size G m c L := (unhide hT).bt.ow.kept (by show (((wr.setCell ⟨W.heap.size, 0, none⟩ (.int .i64 n)).setCell ⟨W.heap.size, 1, none⟩ (.int .i64 d)).setCell ⟨W.heap.size, 2, none⟩ (.bool dr)).heap[G]? = _; rw [heap_set_ne (show G ≠ W.heap.size by omega), heap_set_ne (show G ≠ W.heap.size by omega), heap_set_ne (show G ≠ W.heap.size by omega)])
      have hcv2 := OS.str
      have fin := hide (show L.length ≤ 20000 ∧ Below W.heap.size W (((wr.setCell ⟨W.heap.size, 0, none⟩ (.int .i64 n)).setCell ⟨W.heap.size, 1, none⟩ (.int .i64 d)).setCell ⟨W.heap.size, 2, none⟩ (.bool dr)).drew from ⟨by have := (unhide hT).bt.ow.1; omega, ((((below_grown (unhide hBW) (unhide hT).bt.ds.gr hB).setCell (p := ⟨W.heap.size, 0, none⟩) (Nat.le_refl _) (.int .i64 n)).setCell (p := ⟨W.heap.size, 1, none⟩) (Nat.le_refl _) (.int .i64 d)).setCell (p := ⟨W.heap.size, 2, none⟩) (Nat.le_refl _) (.bool dr)).drew⟩)
      clear OS OD hGe
      go_wp2_with fail
      go_region
      go_wp2
      exact bodyPost_ret (v := .tuple #[.agg #[.int .i64 n, .int .i64 d, .bool dr], .string ⟨L.toArray⟩]) (by simp [results, Tryz.results11, go_sem, a0, a1, a2]) rfl ⟨n, d, dr, L, rfl, (unhide fin).1, (unhide fin).2⟩
    · have hk2 : decide (0 < k) = true := decide_eq_true hk1
      have hk3 : decide ((0 : Int) < k) = true := by rw [decide_eq_true_iff]; omega
      have OD : OwT wr.drew w.heap.size G 0 c L := (unhide hT).bt.ow.kept rfl
      have hcv := OD.str
      obtain ⟨c0, c1, c2⟩ := (unhide hT).r5.cells
      obtain ⟨a0, a1, a2⟩ := (unhide hT).r2.cells
      have f0 := (unhide hT).r2.fz 0
      have f1 := (unhide hT).r2.fz 1
      have f2 := (unhide hT).r2.fz 2
      have hGe := (unhide hT).bt.ow.ge
      have OS : OwT (((wr.setCell ⟨W.heap.size, 0, none⟩ (.int .i64 n)).setCell ⟨W.heap.size, 1, none⟩ (.int .i64 d)).setCell ⟨W.heap.size, 2, none⟩ (.bool dr)).drew w.heap.size G 0 c L := (unhide hT).bt.ow.kept (by show (((wr.setCell ⟨W.heap.size, 0, none⟩ (.int .i64 n)).setCell ⟨W.heap.size, 1, none⟩ (.int .i64 d)).setCell ⟨W.heap.size, 2, none⟩ (.bool dr)).heap[G]? = _; rw [heap_set_ne (show G ≠ W.heap.size by omega), heap_set_ne (show G ≠ W.heap.size by omega), heap_set_ne (show G ≠ W.heap.size by omega)])
      have hcv2 := OS.str
      have fin := hide (show L.length ≤ 20000 ∧ Below W.heap.size W (((wr.setCell ⟨W.heap.size, 0, none⟩ (.int .i64 n)).setCell ⟨W.heap.size, 1, none⟩ (.int .i64 d)).setCell ⟨W.heap.size, 2, none⟩ (.bool dr)).drew from ⟨by have := (unhide hT).bt.ow.1; omega, ((((below_grown (unhide hBW) (unhide hT).bt.ds.gr hB).setCell (p := ⟨W.heap.size, 0, none⟩) (Nat.le_refl _) (.int .i64 n)).setCell (p := ⟨W.heap.size, 1, none⟩) (Nat.le_refl _) (.int .i64 d)).setCell (p := ⟨W.heap.size, 2, none⟩) (Nat.le_refl _) (.bool dr)).drew⟩)
      clear OS OD hGe
      go_wp2_with fail
      go_region
      go_wp2
      exact bodyPost_ret (v := .tuple #[.agg #[.int .i64 n, .int .i64 d, .bool dr], .string ⟨L.toArray⟩]) (by simp [results, Tryz.results11, go_sem, a0, a1, a2]) rfl ⟨n, d, dr, L, rfl, (unhide fin).1, (unhide fin).2⟩

end Go.Proofs.YtfhbmfndjbdhcaaGreatDoor
