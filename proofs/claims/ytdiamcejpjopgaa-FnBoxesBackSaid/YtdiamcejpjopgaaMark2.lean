/-
  Contracts of the law's functions that mark a list of boxes and look for the marks again.
-/
import Derived.Test.YtdiamcejpjopgaaMark
import Derived.Deep.RegionHeld3
namespace Go.Proofs.Ytdiamcejpjopgaa
open Go.RowKit
set_option linter.unusedVariables false
set_option linter.unusedSimpArgs false

theorem endK_le (k : Nat) (l : List Bx) (i : Nat) : endK k (l.take i) ≤ endK k l := by
  induction l generalizing k i with
  | nil => simp [endK]
  | cons x t ih =>
    cases i with
    | zero =>
      simp [endK]
      have : ∀ k (t : List Bx), k ≤ endK k t := by
        intro k t
        induction t generalizing k with
        | nil => exact Nat.le_refl _
        | cons y u ihu => have := ihu (nxt k y); unfold nxt at this; simp [endK, nxt]; omega
      have h1 := this (nxt k x) t
      unfold nxt at h1 ⊢
      omega
    | succ i => simpa [endK] using ih (nxt k x) i
theorem endK_ge (k : Nat) (t : List Bx) : k ≤ endK k t := by
  have := endK_le k t 0
  simpa [endK] using this

set_option maxRecDepth 100000 in
set_option maxHeartbeats 1600000 in
theorem markx_any (lo hi : Nat) (a : Option Addr) (cap : Nat) (A : Nat → Option Addr × Nat) (l : List Bx) (k : Nat) (w : World) (hl : l.length ≤ 1048576) (hs : Small 1048576 l) (k0 : 0 < k) (k1 : endK k l ≤ 1000000000) (hhi : hi ≤ w.heap.size) (hr : Bxs true lo hi w a A l) (hd : Dist A l.length) :
    Calls Try.prog 27 #[.slice a l.length cap, .int .i64 k] w fun e w' => e = .returned (.int .i64 (endK k l)) ∧ Bxs true lo hi w' a A (markL k l) ∧ Only (fun b => lo ≤ b ∧ b < hi) w w' := by
  have hr' := hide hr
  have hd' := hide hd
  have hs' := hide hs
  have k1' := hide k1
  clear hr hd hs k1
  go_enter Try.func27, Try.ntmps27
  go_wp2
  go_loopw [1, 5] (fun s t wr => ∃ i q : Nat, i ≤ l.length ∧ t = .int .i64 i ∧ s = .int .i64 q ∧ 0 < q ∧ q ≤ 1000000000 ∧ Hid (q = endK k (l.take i)) ∧ Hid (Bxs true lo hi wr a A (mixL k l i)) ∧ Only (fun b => lo ≤ b ∧ b < hi) w wr) (fun _ t _ => l.length - (intOf t).toNat)
  case atStart => exact ⟨0, k, by omega, rfl, rfl, k0, by have := endK_ge k l; have := unhide k1'; omega, hide rfl, hide (by simpa [mixL, markL] using unhide hr'), Only.refl⟩
  case round =>
    obtain ⟨i, q, hi', rfl, rfl, q0, q1, hq, hbx, honly⟩ := hrel
    by_cases hlt : i < l.length
    · obtain ⟨x, hx⟩ : ∃ x, l[i]? = some x := ⟨l[i], List.getElem?_eq_getElem hlt⟩
      have hmx := mixL_at k l i x hx
      obtain ⟨b, o, rfl, h1, h2, c0, c1, c2, hrow, kk, _, _, z1, z2, hf⟩ := unhide hbx i x hmx
      obtain ⟨f0, f1, f2, hne⟩ := hf rfl
      have hxs := unhide hs' x (List.mem_of_getElem? hx)
      have hxl : x.z.length ≤ 1048576 := by omega
      have hnx : endK k (l.take (i + 1)) = q + 2 + x.z.length := by rw [take_snoc hx, endK_snoc, ← unhide hq]; rfl
      have hnle : endK k (l.take (i + 1)) ≤ 1000000000 := Nat.le_trans (endK_le k l (i + 1)) (unhide k1')
      have q2 : q + 2 + x.z.length ≤ 1000000000 := by omega
      have hnx' := hide hnx
      have honly' := hide honly
      have hrow' := hide hrow
      have hne' := hide hne
      have hx' := hide hx
      have hbw : b < w.heap.size := by omega
      have hbwr : b < wr.heap.size := World.block_lt_of_cell? _ _ c0
      clear honly hrow hne hmx hxs hx hnx hnle kk z1 z2
      go_wp2_with fail
      refine (mt_any q _ q0 q1).mono ?_
      rintro e w1 ⟨rfl, hb1⟩
      obtain ⟨hc, hfz⟩ := bcell hb1
      have e0 : w1.cell? ⟨b, o + i * 3, none⟩ = some (.string x.k) := by rw [hc _ _ hbwr]; exact c0
      have e1 : w1.cell? ⟨b, o + i * 3 + 1, none⟩ = some (.int .i64 x.d) := by rw [hc _ _ hbwr]; exact c1
      have e2 : w1.cell? ⟨b, o + i * 3 + 2, none⟩ = some (.slice (A i).1 x.z.length (A i).2) := by rw [hc _ _ hbwr]; exact c2
      have g0 : w1.frozen? ⟨b, o + i * 3, none⟩ = false := by rw [hfz _ _ hbwr]; exact f0
      have g1 : w1.frozen? ⟨b, o + i * 3 + 1, none⟩ = false := by rw [hfz _ _ hbwr]; exact f1
      have hb1' := hide hb1
      clear hc hfz hb1 c0 c1 c2 f0 f1 f2
      have hA1 : o + i * 3 + 2 ≠ o + i * 3 := by omega
      have hA2 : o + i * 3 + 2 ≠ o + i * 3 + 1 := by omega
      go_wp2_with fail
      have hrow2 : Row true lo hi ((w1.setCell ⟨b, o + i * 3, none⟩ (.string (mt q))).setCell ⟨b, o + i * 3 + 1, none⟩ (.int .i64 ((q : Int) + 1))) (A i).1 x.z := by
        refine (unhide hrow').sameB (Nat.le_refl _) (fun y hy hy1 hy2 => ?_)
        have hyb := unhide hne' y hy
        rw [Below.heap_setCell _ _ _ _ hyb, Below.heap_setCell _ _ _ _ hyb]
        exact (unhide hb1').block _ (by have := (unhide honly').size; omega)
      refine (markb_any lo hi (A i).1 (A i).2 x.z ((q : Int) + 1 + 1) _ hxl (by omega) (by omega) hrow2).mono ?_
      rintro e w2 ⟨rfl, hrow3, honly3⟩
      have hrow3' := hide hrow3
      have honly3' := hide honly3
      clear hrow2 hrow3 honly3
      go_wp2
      go_roundw
      case rel =>
        have ho3 := unhide honly3'
        have hb1 := unhide hb1'
        have hsz1 := hb1.size
        have hW : ∀ g, g < wr.heap.size → g ≠ b → (∀ y, (A i).1 = some y → y.block ≠ g) → w2.heap[g]? = wr.heap[g]? := fun g hg hgb hgA => by
          rw [ho3.2.2.2.2 g (by simp; omega) (fun h => by obtain ⟨⟨y, hy, e⟩, _⟩ := h; exact hgA y hy e), Below.heap_setCell _ _ _ _ hgb, Below.heap_setCell _ _ _ _ hgb]
          exact hb1.block g hg
        have hblkb : w2.heap[b]? = ((w1.setCell ⟨b, o + i * 3, none⟩ (.string (mt q))).setCell ⟨b, o + i * 3 + 1, none⟩ (.int .i64 ((q : Int) + 1))).heap[b]? :=
          ho3.2.2.2.2 b (by simp; omega) (fun h => by obtain ⟨⟨y, hy, e⟩, _⟩ := h; exact unhide hne' y hy e)
        have C := fun j => World.cell?_of_block (a := ⟨b, j, none⟩) hblkb
        have F := fun j => World.frozen?_of_block (a := ⟨b, j, none⟩) hblkb
        have hupd := bxs_upd (w' := w2) (y := mkX q x) (unhide hbx) (by rw [mixL_len k l i hi']; exact unhide hd') (mixL_at k l i x (unhide hx')) (by simp [mkX, marks_len]) (by
            have : ∀ n q acc, (mtF n q acc).size ≤ acc.size + n := by
              intro n
              induction n with
              | zero => intro q acc; simp [mtF]
              | succ n ih =>
                intro q acc
                unfold mtF
                split
                · omega
                · have := ih (q / 10) (strOfNums [48 + (q : Int) % 10] ++ acc)
                  rw [ByteArray.size_append, strOfNums_size] at this
                  simp at this
                  omega
            have h := this q q ⟨#[]⟩
            show (mt q).size ≤ maxLen
            unfold mt
            rw [ByteArray.size_append]
            have e1 : (⟨#[109]⟩ : ByteArray).size = 1 := rfl
            have e2 : (⟨#[]⟩ : ByteArray).size = 0 := rfl
            rw [e2] at h
            unfold maxLen
            omega) (by show _ ≤ (q : Int) + 1; omega) (by show (q : Int) + 1 ≤ _; omega)
          (by rw [C, World.cell?_setCell_other _ _ _ _ (ne_addr (by omega))]; exact World.cell?_setCell_same _ _ _ e0)
          (by rw [C]; exact World.cell?_setCell_same _ _ _ (show _ = some (.int .i64 x.d) by rw [World.cell?_setCell_other _ _ _ _ (ne_addr (by omega))]; exact e1))
          (fun j h1 h2 => by rw [C, World.cell?_setCell_other _ _ _ _ (ne_addr (by omega)), World.cell?_setCell_other _ _ _ _ (ne_addr (by omega))]; exact (bcell hb1).1 _ _ hbwr)
          (fun j => by rw [F, World.frozen?_setCell, World.frozen?_setCell]; exact (bcell hb1).2 _ _ hbwr)
          (by have h := unhide hrow3'; rw [show (q : Int) + 1 + 1 = (q : Int) + 2 by omega] at h; exact h)
          (fun g hg1 hg2 hgb hgA => hW g (by have := (unhide honly').size; omega) hgb hgA)
        rw [unhide hq, mixL_set k l i x (unhide hx')] at hupd
        refine ⟨i + 1, q + 2 + x.z.length, by omega, by go_num, by congr 1 <;> omega, by omega, by omega, hide (unhide hnx').symm, hide hupd, ?_⟩
        exact (unhide honly').trans ((((Only.of (S := fun b => lo ≤ b ∧ b < hi) hb1).set (p := ⟨b, o + i * 3, none⟩) ⟨h1, h2⟩ _).set (p := ⟨b, o + i * 3 + 1, none⟩) ⟨h1, h2⟩ _).trans (ho3.mono (fun g hg => hg.2)))
      case measure => simp [intOf]; omega
    · have hie : i = l.length := by omega
      have hres : Hid (q = endK k l) := hide (by have := unhide hq; rw [hie, List.take_length] at this; exact this)
      have hres2 : Hid (Bxs true lo hi wr a A (markL k l)) := hide (by have := unhide hbx; rw [hie] at this; simpa [mixL] using this)
      clear hq hbx
      go_wp2
      go_ret
      exact ⟨ret_int (by rw [unhide hres]), unhide hres2, honly⟩

theorem markL_get (k : Nat) (l : List Bx) (i : Nat) (x : Bx) (h : l[i]? = some x) : (markL k l)[i]? = some (mkX (endK k (l.take i)) x) := by
  induction l generalizing k i with
  | nil => simp at h
  | cons y t ih =>
    cases i with
    | zero => simp at h; subst h; rfl
    | succ i => simp [markL, endK] at h ⊢; exact ih (nxt k y) i h

theorem keep1 {w w0 w1 : World} {a1 : Addr} {v1 : Value} (h : w0.cell? a1 = some v1 ∧ Below w.heap.size w w0) (hb : Below w0.heap.size w0 w1) : w1.cell? a1 = some v1 ∧ Below w.heap.size w w1 :=
  ⟨cell_later hb h.1, h.2.trans (hb.mono h.2.size)⟩
theorem keep1d {w w0 : World} {a1 : Addr} {v1 : Value} (h : w0.cell? a1 = some v1 ∧ Below w.heap.size w w0) : w0.drew.cell? a1 = some v1 ∧ Below w.heap.size w w0.drew := ⟨h.1, h.2.drew⟩
set_option maxRecDepth 100000 in
set_option maxHeartbeats 1600000 in
theorem heldx_any (a : Option Addr) (cap : Nat) (A : Nat → Option Addr × Nat) (l : List Bx) (k : Nat) (w : World) (hl : l.length ≤ 1048576) (hs : Small 1048576 l) (k0 : 0 < k) (k1 : endK k l ≤ 1000000000) (hr : Bxs false 0 w.heap.size w a A (markL k l)) :
    Calls Try.prog 33 #[.slice a l.length cap, .int .i64 k] w fun e w' => e = .returned (.int .i64 (endK k l)) ∧ Below w.heap.size w w' := by
  have hr' := hide hr
  have hs' := hide hs
  have k1' := hide k1
  clear hr hs k1
  go_enter Try.func33, Try.ntmps33
  go_wp2
  go_loopw [1, 5] (fun s t wr => ∃ i q : Nat, i ≤ l.length ∧ t = .int .i64 i ∧ s = .int .i64 q ∧ 0 < q ∧ q ≤ 1000000000 ∧ Hid (q = endK k (l.take i)) ∧ Below w.heap.size w wr) (fun _ t _ => l.length - (intOf t).toNat)
  case atStart => exact ⟨0, k, by omega, rfl, rfl, k0, by have := endK_ge k l; have := unhide k1'; omega, hide rfl, Below.refl _ _⟩
  case round =>
    obtain ⟨i, q, hi', rfl, rfl, q0, q1, hq, hw⟩ := hrel
    by_cases hlt : i < l.length
    · obtain ⟨x, hx⟩ : ∃ x, l[i]? = some x := ⟨l[i], List.getElem?_eq_getElem hlt⟩
      have hmx := markL_get k l i x hx
      rw [← unhide hq] at hmx
      obtain ⟨b, o, rfl, _, h2, c0, c1, c2, hrow, j1, j2, j3, j4, j5, j6⟩ := unhide hr' i _ hmx
      have hxs := unhide hs' x (List.mem_of_getElem? hx)
      have hxl : x.z.length ≤ 1048576 := by omega
      have hnx : endK k (l.take (i + 1)) = q + 2 + x.z.length := by rw [take_snoc hx, endK_snoc, ← unhide hq]; rfl
      have hnle : endK k (l.take (i + 1)) ≤ 1000000000 := Nat.le_trans (endK_le k l (i + 1)) (unhide k1')
      have q2 : q + 2 + x.z.length ≤ 1000000000 := by omega
      have hnx' := hide hnx
      have e0 : wr.cell? ⟨b, o + i * 3, none⟩ = some (.string (mt q)) := by rw [(bcell hw).1 _ _ h2]; exact c0
      have hall : Hid (wr.cell? ⟨b, o + i * 3, none⟩ = some (.string (mt q)) ∧ Below w.heap.size w wr) := hide ⟨e0, hw⟩
      have hlen : (mkX q x).z.length = x.z.length := by simp [mkX, marks_len]
      have d1 : w.cell? ⟨b, o + i * 3 + 1, none⟩ = some (.int .i64 ((q : Int) + 1)) := c1
      have d2 : w.cell? ⟨b, o + i * 3 + 2, none⟩ = some (.slice (A i).1 x.z.length (A i).2) := by rw [hlen] at c2; exact c2
      have hrow' : Hid (Row false 0 w.heap.size w (A i).1 (marks ((q : Int) + 2) x.z.length)) := hide hrow
      have d1' := hide d1
      have d2' := hide d2
      clear hmx hx hxs hnx hnle c0 c1 c2 hrow hw e0 hlen d1 d2
      go_wp2_with fail
      go_region_held3 (fun w' => w'.cell? ⟨b, o + i * 3, none⟩ = some (.string (mt q)) ∧ Below w.heap.size w w')
        (first | (refine keep1 ?_ hb; assumption) | (exact keep1d (unhide hall)))
        (first | (go_at_call 55; refine (mt_any q _ q0 q1).mono ?_; rintro e w1 ⟨rfl, hb⟩))
      rename_i hH
      have hH' := hide hH
      have hw1 := hH.2
      have e1 : w1.cell? ⟨b, o + i * 3 + 1, none⟩ = some (.int .i64 ((q : Int) + 1)) := by rw [(bcell hw1).1 _ _ h2]; exact unhide d1'
      have e2 : w1.cell? ⟨b, o + i * 3 + 2, none⟩ = some (.slice (A i).1 x.z.length (A i).2) := by rw [(bcell hw1).1 _ _ h2]; exact unhide d2'
      have hqq : ((q : Int) + 1 != (q : Int) + 1) = false := by simp
      have hw1' := hide hw1
      clear hH hw1
      go_wp2_with fail
      refine (heldb_any (A i).1 (A i).2 x.z.length w.heap.size ((q : Int) + 1 + 1) _ hxl (by omega) (by omega) ?_).mono ?_
      · rw [show (q : Int) + 1 + 1 = (q : Int) + 2 by omega]; exact (unhide hrow').below (unhide hw1') (Nat.le_refl _)
      rintro e w2 ⟨rfl, rfl⟩
      obtain ⟨N, hN⟩ : ∃ N : Nat, (q : Int) + 1 + 1 + (x.z.length : Int) = (N : Int) ∧ q + 2 + x.z.length = N := ⟨q + 2 + x.z.length, by omega, rfl⟩
      have hNp : 0 < N ∧ N ≤ 1000000000 := by omega
      obtain ⟨hN0, hN1⟩ := hNp
      have hnn : Hid (N = endK k (l.take (i + 1))) := hide (by rw [unhide hnx', ← hN.2])
      rw [hN.1]
      clear hN hqq e1 e2 hH' hall hnx' q2 j1 j2 j3 j4 j5 j6
      go_wp2
      go_roundw
      case rel => exact ⟨i + 1, N, by omega, by go_num, rfl, hN0, hN1, hnn, unhide hw1'⟩
      case measure => simp [intOf]; omega
    · have hie : i = l.length := by omega
      have hres : Hid (q = endK k l) := hide (by have := unhide hq; rw [hie, List.take_length] at this; exact this)
      clear hq
      go_wp2
      go_ret
      exact ⟨ret_int (by rw [unhide hres]), hw⟩
end Go.Proofs.Ytdiamcejpjopgaa
