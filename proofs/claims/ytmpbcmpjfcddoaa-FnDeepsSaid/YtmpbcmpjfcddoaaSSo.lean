/-
  Contract of the model's sort; the answer is new memory.
-/
import Derived.Test.YtmpbcmpjfcddoaaSDp
namespace Go.Proofs.Ytmpbcmpjfcddoaa
open Go.RowKit
set_option linter.unusedVariables false
set_option linter.unusedSimpArgs false
namespace D

theorem ins_at {x : Kl} : ∀ (P : List Kl) (j : Nat), (∀ z ∈ P.take j, z.1 ≤ x.1) → (∀ z ∈ P.drop j, x.1 < z.1) → P.take j ++ x :: P.drop j = insR P x
  | [], j, _, _ => by simp [insR]
  | y :: P, 0, _, h2 => by
    have h := h2 y (by simp)
    simp only [List.take_zero, List.drop_zero, List.nil_append, insR]
    rw [if_pos h]
  | y :: P, j + 1, h1, h2 => by
    have h := h1 y (by simp)
    simp only [List.take_succ_cons, List.drop_succ_cons, List.cons_append, insR]
    rw [if_neg (by omega), ins_at P j (fun z hz => h1 z (by simp [hz])) (fun z hz => h2 z (by simpa using hz))]
theorem gap_set {P : List Kl} {j : Nat} {y x : Kl} (hj : j ≤ P.length) : (P.take j ++ y :: P.drop j).set j x = P.take j ++ x :: P.drop j := by
  rw [List.set_append_right _ _ (by simp; omega)]
  have : j - (P.take j).length = 0 := by simp; omega
  rw [this]; rfl
theorem gap_left {P : List Kl} {j : Nat} {p : Kl} (hp : P[j]? = some p) : P.take (j + 1) ++ p :: P.drop (j + 1) = P.take j ++ p :: P.drop j := by
  have hj := (List.getElem?_eq_some_iff.1 hp)
  rw [take_snocK hp, List.drop_eq_getElem_cons hj.1, hj.2]; simp
theorem gap_at {P : List Kl} {j : Nat} {y p : Kl} (hp : P[j]? = some p) : (P.take (j + 1) ++ y :: P.drop (j + 1))[j]? = some p := by
  have hj := (List.getElem?_eq_some_iff.1 hp)
  have hj1 := hj.1
  rw [List.getElem?_append_left (by simp; omega), List.getElem?_take]; simp [hp]
theorem gap_mid {P : List Kl} {j : Nat} {y : Kl} (hj : j ≤ P.length) : (P.take j ++ y :: P.drop j)[j]? = some y := by
  rw [List.getElem?_append_right (by simp; omega)]
  have : j - (P.take j).length = 0 := by simp; omega
  rw [this]; rfl
theorem own_drewN {w : World} {B g n cap : Nat} {l : List Kl} (h : Own w B g n cap l) (k : Nat) : Own (w.drewN k) B g n cap l := ownsRow_below h ⟨rfl, rfl, rfl, Nat.le_refl _, fun _ _ => rfl⟩
theorem below_set5 {N : Nat} {w w1 : World} {k o0 o1 o2 o3 o4 : Nat} {v0 v1 v2 v3 v4 : Value} (h : Below N w w1) (hg : N ≤ k) : Below N w (((((w1.setCell ⟨k, o0, none⟩ v0).setCell ⟨k, o1, none⟩ v1).setCell ⟨k, o2, none⟩ v2).setCell ⟨k, o3, none⟩ v3).setCell ⟨k, o4, none⟩ v4) :=
  ((((h.setCell hg _).setCell hg _).setCell hg _).setCell hg _).setCell hg _
theorem drop_gt {P : List Kl} {j : Nat} {p x : Kl} (hp : P[j]? = some p) (h : x.1 < p.1) (hd : ∀ z ∈ P.drop (j + 1), x.1 < z.1) : ∀ z ∈ P.drop j, x.1 < z.1 := by
  have hj := (List.getElem?_eq_some_iff.1 hp)
  intro z hz
  rw [List.drop_eq_getElem_cons hj.1, hj.2] at hz
  rcases List.mem_cons.1 hz with rfl | hz
  · exact h
  · exact hd z hz
theorem take_le {P : List Kl} {j : Nat} {p x : Kl} (hs : Srtd P) (hp : P[j]? = some p) (h : p.1 ≤ x.1) : ∀ z ∈ P.take (j + 1), z.1 ≤ x.1 := by
  intro z hz
  rw [take_snocK hp] at hz
  rcases List.mem_append.1 hz with hz | hz
  · obtain ⟨i, hi, he⟩ := List.mem_iff_getElem.1 hz
    have hj := (List.getElem?_eq_some_iff.1 hp)
    simp at hi
    have := List.pairwise_iff_getElem.1 hs i j (by omega) hj.1 (by omega)
    rw [hj.2] at this
    simp at he
    rw [he] at this
    omega
  · simp at hz; subst hz; exact h

set_option maxRecDepth 100000 in
set_option maxHeartbeats 3200000 in
theorem sso_any (B ga n ca : Nat) (l : List Kl) (w : World) (hO : Own w B ga n ca l) (hn : n ≤ 1000) : Calls Try.prog 23 #[.slice (some ⟨ga, 0, none⟩) n ca] w fun e w' => ∃ g c, e = .returned (.slice (some ⟨g, 0, none⟩) n c) ∧ Own w' w.heap.size g n c (srt l) ∧ Below w.heap.size w w' := by
  have hL' := hide (own_len hO)
  have hO' := hide hO
  have hb0 : Hid (Below w.heap.size w (w.alloc (.cells #[] 32))) := hide ((Below.refl _ _).alloc (Nat.le_refl _) _)
  have ho0 : Hid (Own (w.alloc (.cells #[] 32)) w.heap.size w.heap.size 0 0 (srt (l.take 0))) := hide (own_lit0 w (Nat.le_refl _))
  clear hO
  go_enter Try.func23, Try.ntmps23
  go_wp2
  go_loopw [3, 4] (fun s t wr => ∃ i g c : Nat, i ≤ n ∧ s = .slice (some ⟨g, 0, none⟩) i c ∧ t = .int .i64 i ∧ Hid (Own wr w.heap.size g i c (srt (l.take i))) ∧ Hid (Below w.heap.size w wr)) (fun _ t _ => n - (intOf t).toNat)
  case atStart => exact ⟨0, w.heap.size, 0, by omega, rfl, rfl, ho0, hb0⟩
  case round =>
    clear ho0 hb0
    obtain ⟨i, g, c, hi, rfl, rfl, hOw, hB⟩ := hrel
    by_cases hlt : i < n
    rotate_left
    · have hie : i = n := by omega
      have hfin : Hid (Own wr w.heap.size g n c (srt l)) := hide (by
        have h1 := unhide hOw
        rw [List.take_of_length_le (by rw [unhide hL']; omega), hie] at h1
        exact h1)
      have tk : decide ((i : Int) < n) = false := by simp; omega
      have tk' : decide (i < n) = false := by simp; omega
      subst hie
      go_wp2
      go_ret
      exact ⟨g, c, rfl, unhide hfin, unhide hB⟩
    have tk : decide ((i : Int) < n) = true := by simp; omega
    have tk' : decide (i < n) = true := by simp; omega
    obtain ⟨⟨x0, x1, x2, x3, x4⟩, hx⟩ : ∃ x, l[i]? = some x := ⟨l[i]'(by have := unhide hL'; omega), List.getElem?_eq_getElem (by have := unhide hL'; omega)⟩
    obtain ⟨c0, c1, c2, c3, c4⟩ := own_cells hx (ownsRow_below (unhide hO') (unhide hB))
    have hx' := hide hx
    have bi : (i : Int) < n := by omega
    have bi0 : (0 : Int) ≤ i := by omega
    obtain ⟨P, hP⟩ : ∃ P, srt (l.take i) = P := ⟨_, rfl⟩
    have hPs : Hid (Srtd P) := hide (by rw [← hP]; exact srt_is_sorted _)
    have hPn : Hid (srt (l.take (i + 1)) = insR P (x0, x1, x2, x3, x4)) := hide (by rw [take_snocK hx, srt_snoc, hP])
    rw [hP] at hOw
    have hPl : Hid (P.length = i) := hide (own_len (unhide hOw))
    have s0 := (unhide hB).size
    have glt : g < wr.heap.size := own_lt (unhide hOw)
    clear hP hx
    go_wp2_with (at_builtin; refine wpList_kN Try.underlying24 (B := w.heap.size) (C := wr.heap.size) (wr := wr) (g := g) (n := i) (cap := c) (L := P) rfl _ _ rfl rfl (unhide hOw) (hX := Below.refl _ _) glt wr.heap.size rfl rfl (by omega) s0 s0 ?_)
    intro g1 k1 w1 ho1 hb1 hg1 hlt1
    have hB1 : Hid (Below w.heap.size w w1) := hide ((unhide hB).trans hb1)
    have ho1' : Hid (Own w1 w.heap.size g1 (i + 1) k1 (P.take i ++ (x0, x1, x2, x3, x4) :: P.drop i)) := hide (by rw [List.take_of_length_le (by rw [unhide hPl]; omega), List.drop_of_length_le (by rw [unhide hPl]; omega)]; exact ho1)
    have hd1 : Hid (∀ z ∈ P.drop i, x0 < z.1) := hide (by rw [List.drop_of_length_le (by rw [unhide hPl]; omega)]; simp)
    clear ho1 hb1 hOw hB c0 c1 c2 c3 c4 glt s0 hlt1
    go_wp2
    go_loopw [5] (fun s wr => ∃ (j : Nat) (y : Kl), j ≤ i ∧ s = .int .i64 j ∧ Hid (Own wr w.heap.size g1 (i + 1) k1 (P.take j ++ y :: P.drop j)) ∧ Hid (∀ z ∈ P.drop j, x0 < z.1) ∧ Hid (Below w.heap.size w wr)) (fun s _ => (intOf s).toNat)
    case atStart => exact ⟨i, _, by omega, rfl, ho1', hd1, hB1⟩
    case round =>
      clear ho1' hd1 hB1
      obtain ⟨j, y, hj, rfl, hOw, hdr, hB⟩ := hrel
      have hjP : j ≤ P.length := by have := unhide hPl; omega
      have bj : (j : Int) < (i : Int) + 1 := by omega
      have bj0 : (0 : Int) ≤ j := by omega
      have hend : Hid (∀ X : World, Own X w.heap.size g1 (i + 1) k1 (P.take j ++ y :: P.drop j) → (∀ z ∈ P.take j, z.1 ≤ x0) → Own (((((X.setCell ⟨g1, j * 5, none⟩ (.int .i64 x0)).setCell ⟨g1, j * 5 + 1, none⟩ (.int .i64 x1)).setCell ⟨g1, j * 5 + 2, none⟩ (.int .i64 x2)).setCell ⟨g1, j * 5 + 3, none⟩ (.int .i64 x3)).setCell ⟨g1, j * 5 + 4, none⟩ (.int .i64 x4)) w.heap.size g1 (i + 1) k1 (srt (l.take (i + 1)))) := hide (fun X h hle => by
        have h1 := own_put (x := (x0, x1, x2, x3, x4)) (k := j) (by simp; omega) h
        rw [gap_set hjP, ins_at P j hle (unhide hdr), ← unhide hPn] at h1
        exact h1)
      have hcx : ∀ X : World, Below w.heap.size w X → _ := fun X h => own_cells (unhide hx') (ownsRow_below (unhide hO') h)
      have hcx' := hide hcx
      clear hcx
      by_cases hj0 : 0 < j
      rotate_left
      · have hje : j = 0 := by omega
        have t1 : decide ((0 : Int) < j) = false := by simp; omega
        have t1' : decide (0 < j) = false := by simp; omega
        have hle : Hid (∀ z ∈ P.take j, z.1 ≤ x0) := hide (by rw [hje]; simp)
        clear hje
        go_wp2_with fail
        go_quiet (fail)
        generalize hX : wr.drewN _ = X
        have hOX : Hid (Own X w.heap.size g1 (i + 1) k1 (P.take j ++ y :: P.drop j)) := hide (by rw [← hX]; exact own_drewN (unhide hOw) _)
        have hBX : Hid (Below w.heap.size w X) := hide (by rw [← hX]; exact below_drewN (unhide hB) _)
        clear hX hOw hB
        obtain ⟨c0, c1, c2, c3, c4⟩ := unhide hcx' X (unhide hBX)
        obtain ⟨e0, e1, e2, e3, e4⟩ := own_cells (gap_mid (y := y) hjP) (unhide hOX)
        have f0 := (unhide hOX).frozenAt (j * 5)
        have f1 := (unhide hOX).frozenAt (j * 5 + 1)
        have f2 := (unhide hOX).frozenAt (j * 5 + 2)
        have f3 := (unhide hOX).frozenAt (j * 5 + 3)
        have f4 := (unhide hOX).frozenAt (j * 5 + 4)
        have hnew := hide (unhide hend X (unhide hOX) (unhide hle))
        have hBn := hide (below_set5 (o0 := j * 5) (o1 := j * 5 + 1) (o2 := j * 5 + 2) (o3 := j * 5 + 3) (o4 := j * 5 + 4) (v0 := .int .i64 x0) (v1 := .int .i64 x1) (v2 := .int .i64 x2) (v3 := .int .i64 x3) (v4 := .int .i64 x4) (unhide hBX) hg1)
        clear hend hcx' hle hOX hBX hdr
        go_wp2
        go_roundw
        case rel => exact ⟨i + 1, g1, k1, by omega, by go_num, by go_num, hnew, hBn⟩
        case measure => simp [intOf]; omega
      obtain ⟨J, hJ⟩ : ∃ J, j = J + 1 := ⟨j - 1, by omega⟩
      have hJ' := hide hJ
      obtain ⟨⟨p0, p1, p2, p3, p4⟩, hp⟩ : ∃ p, P[J]? = some p := ⟨P[J]'(by omega), List.getElem?_eq_getElem (by omega)⟩
      have hp' := hide hp
      have hgp : Hid ((P.take j ++ y :: P.drop j)[J]? = some (p0, p1, p2, p3, p4)) := hide (by rw [hJ]; exact gap_at hp)
      have t1 : decide ((0 : Int) < j) = true := by simp; omega
      have t1' : decide (0 < j) = true := by simp; omega
      have tJ : IntKind.i64.wrap ((j : Int) - 1) = J := by rw [IntKind.wrap_i64]; omega
      have bJ : (J : Int) < (i : Int) + 1 := by omega
      have bJ0 : (0 : Int) ≤ J := by omega
      have hJi : J ≤ i := by omega
      have hJj : J < j := by omega
      obtain ⟨c0, c1, c2, c3, c4⟩ := unhide hcx' wr (unhide hB)
      obtain ⟨d0, d1, d2, d3, d4⟩ := own_cells (unhide hgp) (unhide hOw)
      clear hp hJ
      by_cases hgt : x0 < p0
      · have t2 : decide (x0 < p0) = true := by simpa using hgt
        have hd2 : Hid (∀ z ∈ P.drop J, x0 < z.1) := hide (drop_gt (x := (x0, x1, x2, x3, x4)) (unhide hp') hgt (by have := unhide hdr; rw [unhide hJ'] at this; exact this))
        go_wp2_with fail
        go_quiet (fail)
        generalize hX : wr.drewN _ = X
        have hOX : Hid (Own X w.heap.size g1 (i + 1) k1 (P.take j ++ y :: P.drop j)) := hide (by rw [← hX]; exact own_drewN (unhide hOw) _)
        have hBX : Hid (Below w.heap.size w X) := hide (by rw [← hX]; exact below_drewN (unhide hB) _)
        clear hX hOw hB c0 c1 c2 c3 c4 d0 d1 d2 d3 d4
        obtain ⟨d0, d1, d2, d3, d4⟩ := own_cells (unhide hgp) (unhide hOX)
        obtain ⟨e0, e1, e2, e3, e4⟩ := own_cells (gap_mid (y := y) hjP) (unhide hOX)
        have f0 := (unhide hOX).frozenAt (j * 5)
        have f1 := (unhide hOX).frozenAt (j * 5 + 1)
        have f2 := (unhide hOX).frozenAt (j * 5 + 2)
        have f3 := (unhide hOX).frozenAt (j * 5 + 3)
        have f4 := (unhide hOX).frozenAt (j * 5 + 4)
        have hnew : Hid (Own (((((X.setCell ⟨g1, j * 5, none⟩ (.int .i64 p0)).setCell ⟨g1, j * 5 + 1, none⟩ (.int .i64 p1)).setCell ⟨g1, j * 5 + 2, none⟩ (.int .i64 p2)).setCell ⟨g1, j * 5 + 3, none⟩ (.int .i64 p3)).setCell ⟨g1, j * 5 + 4, none⟩ (.int .i64 p4)) w.heap.size g1 (i + 1) k1 (P.take J ++ (p0, p1, p2, p3, p4) :: P.drop J)) := hide (by
          have h1 := own_put (x := (p0, p1, p2, p3, p4)) (k := j) (by simp; omega) (unhide hOX)
          rw [gap_set hjP] at h1
          rw [← gap_left (unhide hp'), ← unhide hJ']
          exact h1)
        have hBn := hide (below_set5 (o0 := j * 5) (o1 := j * 5 + 1) (o2 := j * 5 + 2) (o3 := j * 5 + 3) (o4 := j * 5 + 4) (v0 := .int .i64 p0) (v1 := .int .i64 p1) (v2 := .int .i64 p2) (v3 := .int .i64 p3) (v4 := .int .i64 p4) (unhide hBX) hg1)
        clear hend hcx' hOX hBX hdr hgp
        go_wp2
        go_roundw
        case rel => exact ⟨J, _, hJi, by go_num, hnew, hd2, hBn⟩
        case measure => simp [intOf]; omega
      · have t2 : decide (x0 < p0) = false := by simpa using hgt
        have hle : Hid (∀ z ∈ P.take j, z.1 ≤ x0) := hide (by rw [unhide hJ']; exact take_le (x := (x0, x1, x2, x3, x4)) (unhide hPs) (unhide hp') (by show p0 ≤ x0; omega))
        go_wp2_with fail
        go_quiet (fail)
        generalize hX : wr.drewN _ = X
        have hOX : Hid (Own X w.heap.size g1 (i + 1) k1 (P.take j ++ y :: P.drop j)) := hide (by rw [← hX]; exact own_drewN (unhide hOw) _)
        have hBX : Hid (Below w.heap.size w X) := hide (by rw [← hX]; exact below_drewN (unhide hB) _)
        clear hX hOw hB c0 c1 c2 c3 c4 d0 d1 d2 d3 d4
        obtain ⟨c0, c1, c2, c3, c4⟩ := unhide hcx' X (unhide hBX)
        obtain ⟨e0, e1, e2, e3, e4⟩ := own_cells (gap_mid (y := y) hjP) (unhide hOX)
        have f0 := (unhide hOX).frozenAt (j * 5)
        have f1 := (unhide hOX).frozenAt (j * 5 + 1)
        have f2 := (unhide hOX).frozenAt (j * 5 + 2)
        have f3 := (unhide hOX).frozenAt (j * 5 + 3)
        have f4 := (unhide hOX).frozenAt (j * 5 + 4)
        have hnew := hide (unhide hend X (unhide hOX) (unhide hle))
        have hBn := hide (below_set5 (o0 := j * 5) (o1 := j * 5 + 1) (o2 := j * 5 + 2) (o3 := j * 5 + 3) (o4 := j * 5 + 4) (v0 := .int .i64 x0) (v1 := .int .i64 x1) (v2 := .int .i64 x2) (v3 := .int .i64 x3) (v4 := .int .i64 x4) (unhide hBX) hg1)
        clear hend hcx' hle hOX hBX hdr hgp
        go_wp2
        go_roundw
        case rel => exact ⟨i + 1, g1, k1, by omega, by go_num, by go_num, hnew, hBn⟩
        case measure => simp [intOf]; omega

end D
end Go.Proofs.Ytmpbcmpjfcddoaa
