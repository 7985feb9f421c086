/-
  For every list of bytes that a lock, a minute and a body are drawn of: what is sealed opens in its time and only then, and is what it was; no conditions.
-/
import Derived.Test.YtpdnceeniokemaaDrO
import Derived.Test.YtpdnceeniokemaaOp
namespace Go.Proofs.Ytpdnceeniokemaa
open Go.RowKit
set_option linter.unusedVariables false
set_option linter.unusedSimpArgs false

theorem big_any (a : Option Addr) (n c : Nat) (w : World) : Calls Try.prog 11 #[.slice a n c] w fun e w' => e = .returned (.bool (decide (4096 < n))) ∧ w' = w := by
  go_enter Try.func11, Try.ntmps11
  go_wp2
  go_ret
  exact ⟨ret_bool (by simp; omega), rfl⟩
/-- bytes as a text -/
def bst (L : List Int) : List UInt8 := L.map fun z => UInt8.ofNat z.toNat
theorem bst_at {L : List Int} (hy : Byt L) {j : Nat} {z : Int} (h : L[j]? = some z) : ∃ c, (bst L)[j]? = some c ∧ (c.toNat : Int) = z := by
  have := hy z (List.mem_of_getElem? h)
  refine ⟨UInt8.ofNat z.toNat, by simp [bst, h], ?_⟩
  rw [UInt8.toNat_ofNat']
  omega
theorem cvB {w : World} {B G n c : Nat} {L : List Int} (ho : OwnB w B G n c L) (hy : Byt L) : (convert 22 9 (.slice (some ⟨G, 0, none⟩) n c)).run Try.prog w = .ok (.string ⟨(bst L).toArray⟩) w := by
  have hl := ownB_len ho
  have hbl : (bst L).length = n := by simp [bst, hl]
  subst hbl
  refine run_convert_bytes_back (P := Try.prog) _ 22 9 5 ⟨G, 0, none⟩ c (bst L) Try.underlying22 Try.underlying5 Try.underlying9 (fun j hj => ?_)
  have hjL : j < L.length := by simpa [bst] using hj
  obtain ⟨cc, h1, h2⟩ := bst_at hy (List.getElem?_eq_getElem hjL)
  have h3 := ownB_at (List.getElem?_eq_getElem hjL) ho
  have h4 : (bst L)[j] = cc := (List.getElem?_eq_some_iff.1 h1).2
  rw [Addr.add_lit, Nat.zero_add, h4, h2]
  exact h3
theorem open_late {f t s : Int} {M : List Int} (h : t ≤ 1000000000) : openB f t s (t + 1) M = false := (open_no (fun x => by have := x.2.1.2; omega)).2
theorem open_soon {f t s : Int} {M : List Int} : openB f t s (f - 1) M = false := (open_no (fun x => by have := x.2.1.1; omega)).2
theorem keep3 {w w0 w1 : World} {a1 a2 a3 : Addr} {v1 v2 v3 : Value} (h : w0.cell? a1 = some v1 ∧ w0.cell? a2 = some v2 ∧ w0.cell? a3 = some v3 ∧ Below w.heap.size w w0) (hb : Below w0.heap.size w0 w1) : w1.cell? a1 = some v1 ∧ w1.cell? a2 = some v2 ∧ w1.cell? a3 = some v3 ∧ Below w.heap.size w w1 :=
  ⟨cell_later' hb h.1, cell_later' hb h.2.1, cell_later' hb h.2.2.1, laterB h.2.2.2 hb⟩
theorem keep3d {w w0 : World} {a1 a2 a3 : Addr} {v1 v2 v3 : Value} (h : w0.cell? a1 = some v1 ∧ w0.cell? a2 = some v2 ∧ w0.cell? a3 = some v3 ∧ Below w.heap.size w w0) : w0.drew.cell? a1 = some v1 ∧ w0.drew.cell? a2 = some v2 ∧ w0.drew.cell? a3 = some v3 ∧ Below w.heap.size w w0.drew := ⟨h.1, h.2.1, h.2.2.1, h.2.2.2.drew⟩
theorem open_true {f t s m : Int} {M : List Int} (h : openB f t s m M = true) : OpenOk f t s m M := by
  by_cases hk : OpenOk f t s m M
  · exact hk
  · rw [(open_no hk).2] at h; cases h
theorem open_len0 {f t s m : Int} {M : List Int} (h : openB f t s m M = false) : openOf f t s m M = [] := by
  by_cases hk : OpenOk f t s m M
  · rw [(open_yes hk).2] at h; cases h
  · exact (open_no hk).1
set_option maxRecDepth 100000 in
set_option maxHeartbeats 6400000 in
theorem lawSd {W : World} (a : Option Addr) (len cap : Nat) (hr : RdB W W.heap.size a len) :
    Calls Try.prog 3 #[.slice a len cap] W fun e w' => e = .returned (.bool true) ∧ Below W.heap.size W w' := by
  have hr' := hide hr
  clear hr
  by_cases hbig : 4096 < len
  · have gb : decide (4096 < len) = true := by simpa using hbig
    go_enter Try.func3, Try.ntmps3
    go_wp2_with fail
    refine (big_any a len cap W).mono ?_
    rintro e w1 ⟨rfl, hw0⟩
    have hw1 := hw0.symm
    subst hw1
    go_wp2
    go_ret
    exact ⟨rfl, Below.refl _ _⟩
  have gb : decide (4096 < len) = false := by simpa using hbig
  go_enter Try.func3, Try.ntmps3
  go_wp2_with fail
  refine (big_any a len cap W).mono ?_
  rintro e w1 ⟨rfl, hw0⟩
  have hw1 := hw0.symm
  subst hw1
  go_wp2_with fail
  refine (dopen_any a len cap W (by omega) (unhide hr')).mono ?_
  rintro e w2 ⟨f, t, s, m, G, c, L, rfl, hy, hn, ow, hb⟩
  have hbx := (Below.refl w2.heap.size w2).alloc (Nat.le_refl _) (.cells #[.int .i64 f, .int .i64 t, .int .i64 s] 25)
  have Oy := hide (ownsRow_below ow hbx)
  have H0 := hide (laterB hb hbx)
  have hQ := hide (show (w2.alloc (.cells #[.int .i64 f, .int .i64 t, .int .i64 s] 25)).heap[w2.heap.size]? = some (.cells #[.int .i64 f, .int .i64 t, .int .i64 s] 25 (0, 0)) from heap_alloc_new w2 _)
  have hqz : w2.heap.size < (w2.alloc (.cells #[.int .i64 f, .int .i64 t, .int .i64 s] 25)).heap.size := by simp
  obtain ⟨x0, x1, x2⟩ := blk3 (unhide hQ)
  have hGq : G < w2.heap.size := own_lt ow
  have hy' := hide hy
  have hlM : Hid (L.length ≤ maxLen) := hide (by unfold maxLen; omega)
  obtain ⟨M, hM⟩ : ∃ M, sealOf L s = M := ⟨_, rfl⟩
  obtain ⟨O, hO⟩ : ∃ O, openOf f t s m M = O := ⟨_, rfl⟩
  obtain ⟨v, hv⟩ : ∃ v, openB f t s m M = v := ⟨_, rfl⟩
  have hMn : M.length ≤ 40000 := by rw [← hM]; exact seal_len L s
  have hMy := hide (show Byt M by rw [← hM]; exact seal_byt L s)
  have hMM : Hid (M.length ≤ maxLen) := hide (by unfold maxLen; omega)
  have hM' := hide hM
  have hO' := hide hO
  have hv' := hide hv
  have hOn : O.length ≤ 40000 := by rw [← hO]; exact open_len f t s m M
  have hvv : (v != v) = false := by simp
  have hMM2 : ((M.length : Int) != M.length) = false := by simp
  clear hy ow hb hbx hM hO hv
  go_wp2_with fail
  generalize w2.alloc (.cells #[.int .i64 f, .int .i64 t, .int .i64 s] 25) = X at *
  obtain ⟨q, hq⟩ : ∃ q, w2.heap.size = q := ⟨_, rfl⟩
  rw [hq] at hqz hQ x0 x1 x2 ⊢
  have H1 := hide (Below.refl X.heap.size X)
  refine (iseal_any _ _ L s _ (unhide hlM) (unhide hy') (bys_own (unhide Oy))).mono ?_
  rintro e w3 hS
  rw [unhide hM'] at hS
  obtain ⟨G3, c3, rfl, q3, o3, k3⟩ := hS
  have Om := hide (own_mono o3 (Nat.zero_le _))
  have Oy := hide (ownsRow_below (unhide Oy) k3)
  have J1 := hide k3
  clear k3 o3 H1 x0 x1 x2
  obtain ⟨z40, z41, z42⟩ := blk3 (((unhide J1).block q hqz).trans (unhide hQ))
  go_wp2_with fail
  refine (iopen_any f t s m _ _ M _ (unhide hMM) (unhide hMy) (bys_own (unhide Om))).mono ?_
  rintro e w4 hS
  rw [unhide hO', unhide hv'] at hS
  obtain ⟨G4, c4, rfl, q4, o4, k4⟩ := hS
  have Oo := hide (own_mono o4 (Nat.zero_le _))
  have Oy := hide (ownsRow_below (unhide Oy) k4)
  have Om := hide (ownsRow_below (unhide Om) k4)
  have J4 := hide (laterB (unhide J1) k4)
  clear J1
  clear k4 o4 q4 z40 z41 z42
  obtain ⟨y0, y1, y2⟩ := blk3 (((unhide J4).block q hqz).trans (unhide hQ))
  have hall := hide (show w4.cell? ⟨q, 0, none⟩ = some (.int .i64 f) ∧ w4.cell? ⟨q, 1, none⟩ = some (.int .i64 t) ∧ w4.cell? ⟨q, 2, none⟩ = some (.int .i64 s) ∧ Below w4.heap.size w4 w4 from ⟨y0, y1, y2, Below.refl _ _⟩)
  have hc16 := hide (show ∀ w', (w'.cell? ⟨q, 0, none⟩ = some (.int .i64 f) ∧ w'.cell? ⟨q, 1, none⟩ = some (.int .i64 t) ∧ w'.cell? ⟨q, 2, none⟩ = some (.int .i64 s) ∧ Below w4.heap.size w4 w') → Calls Try.prog 16 #[.slice (some ⟨G, 0, none⟩) L.length c, .int .i64 s] w' fun e w'' => ∃ G9 c9, e = .returned (.slice (some ⟨G9, 0, none⟩) M.length c9) ∧ OwnB w'' 0 G9 M.length c9 M ∧ Below w'.heap.size w' w'' from fun w' hw => by
    refine (sseal_any _ _ L s _ (unhide hlM) (unhide hy') (bys_own (ownsRow_below (unhide Oy) hw.2.2.2))).mono ?_
    rintro e w'' hS
    rw [unhide hM'] at hS
    obtain ⟨G9, c9, rfl, q9, o9, k9⟩ := hS
    exact ⟨G9, c9, rfl, own_mono o9 (Nat.zero_le _), k9⟩)
  have hc15 := hide (show ∀ w' G9 c9, OwnB w' 0 G9 M.length c9 M → Calls Try.prog 15 #[lkv f t s, .int .i64 m, .slice (some ⟨G9, 0, none⟩) M.length c9] w' fun e w'' => ∃ G8 c8, e = .returned (.tuple #[.slice (some ⟨G8, 0, none⟩) O.length c8, .bool v]) ∧ Below w'.heap.size w' w'' from fun w' G9 c9 hw => by
    refine (sopen_any f t s m _ _ M _ (unhide hMM) (unhide hMy) (bys_own hw)).mono ?_
    rintro e w'' hS
    rw [unhide hO', unhide hv'] at hS
    obtain ⟨G8, c8, rfl, q8, o8, k8⟩ := hS
    exact ⟨G8, c8, rfl, k8⟩)
  go_wp2_with fail
  go_region_held3 (fun w' => w'.cell? ⟨q, 0, none⟩ = some (.int .i64 f) ∧ w'.cell? ⟨q, 1, none⟩ = some (.int .i64 t) ∧ w'.cell? ⟨q, 2, none⟩ = some (.int .i64 s) ∧ Below w4.heap.size w4 w')
    (first | (with_reducible refine keep3 ?_ hb16; assumption) | (with_reducible refine keep3 ?_ hb15; assumption) | (exact keep3d (unhide hall)))
    (first | (go_at_call 16; refine (unhide hc16 _ (by assumption)).mono ?_; rintro e wA ⟨G9, c9, rfl, o9, hb16⟩) | (go_at_call 15; refine (unhide hc15 _ _ _ o9).mono ?_; rintro e wB ⟨G8, c8, rfl, hb15⟩))
  rename_i hH
  have kB := hide hH.2.2.2
  clear hH hall hc15 y0 y1 y2
  have Oy := hide (ownsRow_below (unhide Oy) (unhide kB))
  have Om := hide (ownsRow_below (unhide Om) (unhide kB))
  have Oo := hide (ownsRow_below (unhide Oo) (unhide kB))
  have J9 := hide (laterB (unhide J4) (unhide kB))
  clear J4 kB hc16
  obtain ⟨z100, z101, z102⟩ := blk3 (((unhide J9).block q hqz).trans (unhide hQ))
  go_wp2_with fail
  refine (sseal_any _ _ L s _ (unhide hlM) (unhide hy') (bys_own (unhide Oy))).mono ?_
  rintro e w10 hS
  rw [unhide hM'] at hS
  obtain ⟨G10, c10, rfl, q10, o10, k10⟩ := hS
  have Oy := hide (ownsRow_below (unhide Oy) k10)
  have Om := hide (ownsRow_below (unhide Om) k10)
  have Oo := hide (ownsRow_below (unhide Oo) k10)
  have J10 := hide (laterB (unhide J9) k10)
  clear J9
  clear k10 o10 q10 z100 z101 z102
  cases v with
  | false =>
    have hO0 : O.length = 0 := by rw [← unhide hO', open_len0 (unhide hv')]; rfl
    go_wp2
    go_ret
    exact ⟨ret_bool (by first | rfl | (simp; done) | (simp; omega)), (unhide H0).trans ((unhide J10).mono (unhide H0).size)⟩
  | true =>
  have hok := open_true (unhide hv')
  by_cases hbl : L.length ≤ 40000
  rotate_left
  · have hO0 : O.length = 0 := by
      rw [← unhide hO', (open_yes hok).1, sealB_len, ← unhide hM', seal_no (fun h => hbl h.2)]; rfl
    have g4 : decide ((40000 : Int) < L.length) = true := by simp; omega
    go_wp2
    go_ret
    exact ⟨ret_bool (by first | rfl | (simp; done) | (simp; omega)), (unhide H0).trans ((unhide J10).mono (unhide H0).size)⟩
  have g4 : decide ((40000 : Int) < L.length) = false := by simp; omega
  have hOL := hide (show O = L by rw [← unhide hO', (open_yes hok).1, ← unhide hM', seal_yes ⟨hok.2.2.1, hbl⟩]; exact sealB_back s (unhide hy'))
  obtain ⟨⟨ok1, ok2, ok3⟩, ⟨ok4, ok5⟩, ok6, ok7⟩ := hok
  obtain ⟨z110, z111, z112⟩ := blk3 (((unhide J10).block q hqz).trans (unhide hQ))
  go_wp2_with fail
  refine (iopen_any f t s (t + 1) _ _ M _ (unhide hMM) (unhide hMy) (bys_own (unhide Om))).mono ?_
  rintro e w11 hS
  rw [open_late ok3] at hS
  obtain ⟨G11, c11, rfl, q11, o11, k11⟩ := hS
  have Oa := hide (own_mono o11 (Nat.zero_le _))
  have Oy := hide (ownsRow_below (unhide Oy) k11)
  have Om := hide (ownsRow_below (unhide Om) k11)
  have Oo := hide (ownsRow_below (unhide Oo) k11)
  have J11 := hide (laterB (unhide J10) k11)
  clear J10
  clear k11 o11 q11 z110 z111 z112
  obtain ⟨z120, z121, z122⟩ := blk3 (((unhide J11).block q hqz).trans (unhide hQ))
  go_wp2_with fail
  refine (iopen_any f t s (f - 1) _ _ M _ (unhide hMM) (unhide hMy) (bys_own (unhide Om))).mono ?_
  rintro e w12 hS
  rw [open_soon] at hS
  obtain ⟨G12, c12, rfl, q12, o12, k12⟩ := hS
  have Ob := hide (own_mono o12 (Nat.zero_le _))
  have Oy := hide (ownsRow_below (unhide Oy) k12)
  have Om := hide (ownsRow_below (unhide Om) k12)
  have Oo := hide (ownsRow_below (unhide Oo) k12)
  have Oa := hide (ownsRow_below (unhide Oa) k12)
  have J12 := hide (laterB (unhide J11) k12)
  clear J11
  clear k12 o12 q12 z120 z121 z122
  obtain ⟨z0, z1, z2⟩ := blk3 (((unhide J12).block q hqz).trans (unhide hQ))
  have cv1 := cvB (unhide Oo) (show Byt O by rw [unhide hOL]; exact unhide hy')
  have cv2 := cvB (unhide Oy) (unhide hy')
  rw [show bst O = bst L by rw [unhide hOL]] at cv1
  have hbs : ((⟨(bst L).toArray⟩ : ByteArray).toList == (⟨(bst L).toArray⟩ : ByteArray).toList) = true := by simp
  have g5 : decide (f ≤ m) = true := by simpa using ok4
  have g6 : decide (m ≤ t) = true := by simpa using ok5
  go_wp2
  go_ret
  exact ⟨rfl, (unhide H0).trans ((unhide J12).mono (unhide H0).size)⟩

end Go.Proofs.Ytpdnceeniokemaa
