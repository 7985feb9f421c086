/-
  For every code: what the program shows of drawn titles it reads back, and a damaged text that it reads is the one text of its titles; where the library's variables lie there.
-/
import Derived.Test.YtcpllfjhhlbmiaaDoorTbD
import Derived.Test.YtcpllfjhhlbmiaaDoorTbP
import Derived.Test.YtcpllfjhhlbmiaaDoorRdL
import Derived.Laws.StructEq
namespace Go.Proofs.YtcpllfjhhlbmiaaDoor
open Go.RowKit
set_option linter.unusedVariables false
set_option linter.unusedSimpArgs false

theorem rdb_up {w : World} {B B' : Nat} {a : Option Addr} {len : Nat} (h : RdB w B a len) (hB : B ≤ B') : RdB w B' a len := by
  intro j hj
  obtain ⟨b, o, z, e, hb2, r⟩ := h j hj
  exact ⟨b, o, z, e, by omega, r⟩
theorem rdT_bad {S : List UInt8} {l : List Kl} {k n : Int} (h : rdT S = (l, k, n)) (hk : k ≠ 0) : l = [] := by
  unfold rdT at h
  split at h
  · injection h with h1 _; exact h1.symm
  · split at h
    · injection h with _ h2; injection h2 with h2 _; omega
    · injection h with h1 _; exact h1.symm
theorem rdT_good {S : List UInt8} {l : List Kl} {n : Int} (h : rdT S = (l, 0, n)) : tOk l = true ∧ showT l = S := by
  unfold rdT at h
  split at h
  · injection h with _ h2; injection h2 with h2 _; cases h2
  · split at h
    · rename_i h0
      injection h with h1 _
      exact titles_one (m := l) (Prod.ext h1 h0)
    · rename_i h0
      injection h with _ h2; injection h2 with h2 _; exact absurd h2 h0
theorem rdT_back {l : List Kl} (h : showT l ≠ []) (hl : (showT l).length ≤ 40000) : rdT (showT l) = (l, 0, 0) := by
  have hk : tOk l = true := by
    cases hh : tOk l with
    | true => rfl
    | false => exact absurd (by unfold showT; rw [hh, if_neg (by decide)]) h
  exact titles_back hk hl
theorem tOk_sz {l : List Kl} (h : tOk l = true) : ∀ x ∈ l, x.2.2.size ≤ 200 := by
  unfold tOk at h
  rw [Bool.and_eq_true] at h
  exact ts_txt h.2

set_option maxRecDepth 100000 in
set_option maxHeartbeats 12800000 in
theorem lawTb {W : World} (a : Option Addr) (len cap : Nat) (hr : RdB W W.heap.size a len) (hM : MaxL W) (hT : Tab W) :
    Calls Tryd.prog 3 #[.slice a len cap] W fun e w' => e = .returned (.bool true) ∧ Below W.heap.size W w' := by
  have hr' := hide hr
  have hM' := hide hM
  have hT' := hide hT
  clear hr hM hT
  go_enter Tryd.func3, Tryd.ntmps3
  go_wp2_with fail
  refine (big_any a len cap W).mono ?_
  rintro e w0 ⟨rfl, rfl⟩
  by_cases hb : 4096 < len
  · rw [decide_eq_true hb]
    go_wp2
    go_ret
    exact ⟨rfl, Below.refl _ _⟩
  rw [decide_eq_false hb]
  go_wp2_with fail
  refine (dshw_any a len cap w0 (by omega) (unhide hr')).mono ?_
  rintro e w1 ⟨gl, n, c, L, rfl, hn, ow, hsz, k1⟩
  have hLn := own_len ow
  have OL := hide (kls_own ow)
  have hsz' := hide hsz
  have H := hide k1
  clear ow hsz k1
  obtain ⟨sT, hsT⟩ : ∃ sT, (⟨(showT L).toArray⟩ : ByteArray) = sT := ⟨_, rfl⟩
  have hsT' := hide hsT
  have hsl := hide (showT_len (l := L) (by omega) (unhide hsz'))
  have c1 := hide (show Calls Tryd.prog 8 #[.slice (some ⟨gl, 0, none⟩) n c] w1 _ by
    have h5 := ishow_any (some ⟨gl, 0, none⟩) c L sT w1 (by omega) (unhide OL) (fun x hx => by have := unhide hsz' x hx; omega) (MaxL.below (unhide hM') (unhide H)) (Tab.below (unhide hT') (unhide H)) hsT
    rw [hLn] at h5
    exact h5)
  clear hsT
  go_wp2_with fail
  refine (unhide c1).mono ?_
  rintro e w2 ⟨rfl, kb⟩
  have H := hide (laterB (unhide H) kb)
  have OL := hide ((unhide OL).below kb)
  clear kb c1
  have c2 := hide (show Calls Tryd.prog 9 #[.slice (some ⟨gl, 0, none⟩) n c] w2 _ by
    have h5 := sshow_any (some ⟨gl, 0, none⟩) c L sT w2 (by omega) (unhide OL) (fun x hx => by have := unhide hsz' x hx; omega) (unhide hsT')
    rw [hLn] at h5
    exact h5)
  go_wp2_with fail
  refine (unhide c2).mono ?_
  rintro e w3 ⟨rfl, kb⟩
  have H := hide (laterB (unhide H) kb)
  have OL := hide ((unhide OL).below kb)
  clear kb c2
  have gss : (sT.toList != sT.toList) = false := by simp
  by_cases hemp : sT = ⟨#[]⟩
  · subst hemp
    clear OL
    go_wp2_with fail
    refine (drd_any a len cap _ (by omega) (rdb_up (rdb_later (unhide hr') (unhide H)) (unhide H).size)).mono ?_
    rintro e w5 ⟨S, rfl, hS, kb⟩
    have H := hide (laterB (unhide H) kb)
    obtain ⟨l, k, nn, hR⟩ : ∃ l k nn, rdT S = (l, k, nn) := ⟨_, _, _, rfl⟩
    obtain ⟨s, hs⟩ : ∃ s, (⟨S.toArray⟩ : ByteArray) = s := ⟨_, rfl⟩
    have hR' := hide hR
    have hs' := hide hs
    have hss := hide (show s.size ≤ 1048576 by rw [← hs]; show S.toArray.size ≤ _; simp; omega)
    rw [hs]
    have cI := hide (iread_any s S l k nn w5 hs (by omega) (MaxL.below (unhide hM') (unhide H)) (Tab.below (unhide hT') (unhide H)) hR)
    have cS := hide (fun w => srd_any s S l k nn w (unhide hss) (by rw [← hs]) hR)
    clear kb hs hR
    go_wp2_with fail
    refine (unhide cI).mono ?_
    rintro e w6 ⟨g6, c6, rfl, hl6, o6, kb⟩
    have H := hide (laterB (unhide H) kb)
    have OM := hide (kls_own o6)
    clear kb o6 cI
    have V1 := hide (alloc_new w6 (.cells #[.int .i64 k, .int .i64 nn] 28))
    have al := (Below.refl w6.heap.size w6).alloc (Nat.le_refl _) (.cells #[.int .i64 k, .int .i64 nn] 28)
    have H := hide (laterB (unhide H) al)
    have OM := hide ((unhide OM).below al)
    clear al
    go_wp2_with fail
    generalize w6.alloc (.cells #[.int .i64 k, .int .i64 nn] 28) = X1 at *
    generalize w6.heap.size = F1 at *
    refine (unhide cS _).mono ?_
    rintro e w7 ⟨g7, c7, rfl, _, o7, kb⟩
    have H := hide (laterB (unhide H) kb)
    have OM := hide ((unhide OM).below kb)
    have V1 := hide (blk_below (unhide V1) kb)
    clear kb o7 cS
    have V2 := hide (alloc_new w7 (.cells #[.int .i64 k, .int .i64 nn] 28))
    have al := (Below.refl w7.heap.size w7).alloc (Nat.le_refl _) (.cells #[.int .i64 k, .int .i64 nn] 28)
    have H := hide (laterB (unhide H) al)
    have OM := hide ((unhide OM).below al)
    have V1 := hide (blk_below (unhide V1) al)
    clear al
    have H8 := H
    have e1 : (k != k) = false := by simp
    have e2 : (nn != nn) = false := by simp
    obtain ⟨p0, p1⟩ := blk2 (unhide V1)
    obtain ⟨q0, q1⟩ := blk2 (unhide V2)
    by_cases hk : k = 0
    rotate_left
    · have hk' : (k != 0) = true := by simpa using hk
      obtain rfl := rdT_bad (unhide hR') hk
      go_wp2
      go_ret
      exact ⟨rfl, unhide H⟩
    subst hk
    obtain ⟨okl, shl⟩ := rdT_good (unhide hR')
    have cK := hide (fun w (h : Below w0.heap.size w0 w) (hk : Kls w (some ⟨g6, 0, none⟩) l) => iok_any (some ⟨g6, 0, none⟩) c6 l true w (by omega) hk (fun x hx => by have := tOk_sz okl x hx; omega) (MaxL.below (unhide hM') h) okl)
    have cW := hide (fun w (h : Below w0.heap.size w0 w) (hk : Kls w (some ⟨g6, 0, none⟩) l) => ishow_any (some ⟨g6, 0, none⟩) c6 l s w (by omega) hk (fun x hx => by have := tOk_sz okl x hx; omega) (MaxL.below (unhide hM') h) (Tab.below (unhide hT') h) (by rw [shl]; exact unhide hs'))
    have ess : (s.toList == s.toList) = true := by simp
    clear okl shl
    go_wp2_with fail
    generalize w7.alloc (.cells #[.int .i64 0, .int .i64 nn] 28) = X2 at *
    refine (unhide cK _ (unhide H) (unhide OM)).mono ?_
    rintro e w8 ⟨rfl, kb⟩
    have H := hide (laterB (unhide H) kb)
    have OM := hide ((unhide OM).below kb)
    clear kb cK p0 p1 q0 q1 V1 V2 H8
    go_wp2_with fail
    refine (unhide cW _ (unhide H) (unhide OM)).mono ?_
    rintro e w9 ⟨rfl, kb⟩
    have H := hide (laterB (unhide H) kb)
    clear kb cW OM
    go_wp2
    go_ret
    exact ⟨rfl, unhide H⟩
  have hemp1 : ¬ sT.toList = [] := by
    intro h
    rw [Lib.toList_data] at h
    exact hemp (by cases sT; simp at h ⊢; exact h)
  have hemp2 : sT.toList.isEmpty = false := by simpa using hemp1
  by_cases hbig : 40000 < sT.size
  · have hbig1 : decide ((sT.size : Int) ≤ 40000) = false := decide_eq_false (by omega)
    clear OL
    go_wp2_with fail
    refine (drd_any a len cap _ (by omega) (rdb_up (rdb_later (unhide hr') (unhide H)) (unhide H).size)).mono ?_
    rintro e w5 ⟨S, rfl, hS, kb⟩
    have H := hide (laterB (unhide H) kb)
    obtain ⟨l, k, nn, hR⟩ : ∃ l k nn, rdT S = (l, k, nn) := ⟨_, _, _, rfl⟩
    obtain ⟨s, hs⟩ : ∃ s, (⟨S.toArray⟩ : ByteArray) = s := ⟨_, rfl⟩
    have hR' := hide hR
    have hs' := hide hs
    have hss := hide (show s.size ≤ 1048576 by rw [← hs]; show S.toArray.size ≤ _; simp; omega)
    rw [hs]
    have cI := hide (iread_any s S l k nn w5 hs (by omega) (MaxL.below (unhide hM') (unhide H)) (Tab.below (unhide hT') (unhide H)) hR)
    have cS := hide (fun w => srd_any s S l k nn w (unhide hss) (by rw [← hs]) hR)
    clear kb hs hR
    go_wp2_with fail
    refine (unhide cI).mono ?_
    rintro e w6 ⟨g6, c6, rfl, hl6, o6, kb⟩
    have H := hide (laterB (unhide H) kb)
    have OM := hide (kls_own o6)
    clear kb o6 cI
    have V1 := hide (alloc_new w6 (.cells #[.int .i64 k, .int .i64 nn] 28))
    have al := (Below.refl w6.heap.size w6).alloc (Nat.le_refl _) (.cells #[.int .i64 k, .int .i64 nn] 28)
    have H := hide (laterB (unhide H) al)
    have OM := hide ((unhide OM).below al)
    clear al
    go_wp2_with fail
    generalize w6.alloc (.cells #[.int .i64 k, .int .i64 nn] 28) = X1 at *
    generalize w6.heap.size = F1 at *
    refine (unhide cS _).mono ?_
    rintro e w7 ⟨g7, c7, rfl, _, o7, kb⟩
    have H := hide (laterB (unhide H) kb)
    have OM := hide ((unhide OM).below kb)
    have V1 := hide (blk_below (unhide V1) kb)
    clear kb o7 cS
    have V2 := hide (alloc_new w7 (.cells #[.int .i64 k, .int .i64 nn] 28))
    have al := (Below.refl w7.heap.size w7).alloc (Nat.le_refl _) (.cells #[.int .i64 k, .int .i64 nn] 28)
    have H := hide (laterB (unhide H) al)
    have OM := hide ((unhide OM).below al)
    have V1 := hide (blk_below (unhide V1) al)
    clear al
    have H8 := H
    have e1 : (k != k) = false := by simp
    have e2 : (nn != nn) = false := by simp
    obtain ⟨p0, p1⟩ := blk2 (unhide V1)
    obtain ⟨q0, q1⟩ := blk2 (unhide V2)
    by_cases hk : k = 0
    rotate_left
    · have hk' : (k != 0) = true := by simpa using hk
      obtain rfl := rdT_bad (unhide hR') hk
      go_wp2
      go_ret
      exact ⟨rfl, unhide H⟩
    subst hk
    obtain ⟨okl, shl⟩ := rdT_good (unhide hR')
    have cK := hide (fun w (h : Below w0.heap.size w0 w) (hk : Kls w (some ⟨g6, 0, none⟩) l) => iok_any (some ⟨g6, 0, none⟩) c6 l true w (by omega) hk (fun x hx => by have := tOk_sz okl x hx; omega) (MaxL.below (unhide hM') h) okl)
    have cW := hide (fun w (h : Below w0.heap.size w0 w) (hk : Kls w (some ⟨g6, 0, none⟩) l) => ishow_any (some ⟨g6, 0, none⟩) c6 l s w (by omega) hk (fun x hx => by have := tOk_sz okl x hx; omega) (MaxL.below (unhide hM') h) (Tab.below (unhide hT') h) (by rw [shl]; exact unhide hs'))
    have ess : (s.toList == s.toList) = true := by simp
    clear okl shl
    go_wp2_with fail
    generalize w7.alloc (.cells #[.int .i64 0, .int .i64 nn] 28) = X2 at *
    refine (unhide cK _ (unhide H) (unhide OM)).mono ?_
    rintro e w8 ⟨rfl, kb⟩
    have H := hide (laterB (unhide H) kb)
    have OM := hide ((unhide OM).below kb)
    clear kb cK p0 p1 q0 q1 V1 V2 H8
    go_wp2_with fail
    refine (unhide cW _ (unhide H) (unhide OM)).mono ?_
    rintro e w9 ⟨rfl, kb⟩
    have H := hide (laterB (unhide H) kb)
    clear kb cW OM
    go_wp2
    go_ret
    exact ⟨rfl, unhide H⟩
  have hbig1 : decide ((sT.size : Int) ≤ 40000) = true := decide_eq_true (by omega)
  have hbk := hide (show rdT (showT L) = (L, 0, 0) by
    have h1 := unhide hsT'
    refine rdT_back ?_ ?_
    · intro h; rw [h] at h1; exact hemp h1.symm
    · rw [← h1] at hbig
      have : (⟨(showT L).toArray⟩ : ByteArray).size = (showT L).length := by show (showT L).toArray.size = _; simp
      omega)
  have cR := hide (show Calls Tryd.prog 10 #[.string sT] w3 _ by
    have h5 := iread_any sT (showT L) L 0 0 w3 (unhide hsT') (by have := unhide hsl; omega) (MaxL.below (unhide hM') (unhide H)) (Tab.below (unhide hT') (unhide H)) (unhide hbk)
    rw [hLn] at h5
    exact h5)
  go_wp2_with fail
  refine (unhide cR).mono ?_
  rintro e w4 ⟨g4, c4, rfl, _, o4, kb⟩
  have H := hide (laterB (unhide H) kb)
  have OL := hide ((unhide OL).below kb)
  have OB := hide (kls_own (show Own w4 _ g4 L.length c4 L by rw [hLn]; exact o4))
  clear kb o4 cR hbk
  have V0 := hide (alloc_new w4 (.cells #[.int .i64 0, .int .i64 0] 28))
  have al := (Below.refl w4.heap.size w4).alloc (Nat.le_refl _) (.cells #[.int .i64 0, .int .i64 0] 28)
  have H := hide (laterB (unhide H) al)
  have OL := hide ((unhide OL).below al)
  have OB := hide ((unhide OB).below al)
  clear al
  obtain ⟨z0, z1⟩ := blk2 (unhide V0)
  have gnn : ((n : Int) != n) = false := by simp
  have hLn' := hide hLn
  clear hLn
  go_wp2
  generalize w4.alloc (.cells #[.int .i64 0, .int .i64 0] 28) = X0 at *
  clear z0 z1 V0
  go_loopw [7] (fun t wr => ∃ k : Nat, k ≤ n ∧ t = .int .i64 k ∧ Hid (Below X0.heap.size X0 wr)) (fun t _ => n - (intOf t).toNat)
  case atStart => exact ⟨0, by omega, rfl, hide (Below.refl _ _)⟩
  case round =>
    obtain ⟨k, hk, rfl, hw⟩ := hrel
    by_cases hlt : k < n
    · obtain ⟨x, hx⟩ : ∃ x, L[k]? = some x := ⟨L[k]'(by have := unhide hLn'; omega), List.getElem?_eq_getElem _⟩
      obtain ⟨b1, o1, e1, i1, c0, c1, c2⟩ := unhide OL k x hx
      obtain ⟨b2, o2, e2, i2, d0, d1, d2⟩ := unhide OB k x hx
      injection e1 with e1
      injection e1 with e1 e1'
      injection e2 with e2
      injection e2 with e2 e2'
      subst e1 e1' e2 e2'
      have C := fun o => (bcell (unhide hw)).1 _ o i1
      have E := fun o => (bcell (unhide hw)).1 _ o i2
      obtain ⟨x1, x2, x3⟩ := x
      have f0 := (C _).trans c0
      have f1 := (C _).trans c1
      have f2 := (C _).trans c2
      have h0 := (E _).trans d0
      have h1 := (E _).trans d1
      have h2 := (E _).trans d2
      rw [Nat.zero_add] at f0 f1 f2 h0 h1 h2
      clear hx c0 c1 c2 d0 d1 d2 C E i1 i2
      go_wp2_with fail
      go_region
      go_wp2
      go_roundw
      case rel => exact ⟨k + 1, by omega, by go_num, hide (unhide hw).drew⟩
      case measure => simp [intOf]; omega
    · have H := hide (laterB (unhide H) (unhide hw))
      clear OL OB
      go_wp2_with fail
      refine (drd_any a len cap _ (by omega) (rdb_up (rdb_later (unhide hr') (unhide H)) (unhide H).size)).mono ?_
      rintro e w5 ⟨S, rfl, hS, kb⟩
      have H := hide (laterB (unhide H) kb)
      obtain ⟨l, k, nn, hR⟩ : ∃ l k nn, rdT S = (l, k, nn) := ⟨_, _, _, rfl⟩
      obtain ⟨s, hs⟩ : ∃ s, (⟨S.toArray⟩ : ByteArray) = s := ⟨_, rfl⟩
      have hR' := hide hR
      have hs' := hide hs
      have hss := hide (show s.size ≤ 1048576 by rw [← hs]; show S.toArray.size ≤ _; simp; omega)
      rw [hs]
      have cI := hide (iread_any s S l k nn w5 hs (by omega) (MaxL.below (unhide hM') (unhide H)) (Tab.below (unhide hT') (unhide H)) hR)
      have cS := hide (fun w => srd_any s S l k nn w (unhide hss) (by rw [← hs]) hR)
      clear kb hs hR
      go_wp2_with fail
      refine (unhide cI).mono ?_
      rintro e w6 ⟨g6, c6, rfl, hl6, o6, kb⟩
      have H := hide (laterB (unhide H) kb)
      have OM := hide (kls_own o6)
      clear kb o6 cI
      have V1 := hide (alloc_new w6 (.cells #[.int .i64 k, .int .i64 nn] 28))
      have al := (Below.refl w6.heap.size w6).alloc (Nat.le_refl _) (.cells #[.int .i64 k, .int .i64 nn] 28)
      have H := hide (laterB (unhide H) al)
      have OM := hide ((unhide OM).below al)
      clear al
      go_wp2_with fail
      generalize w6.alloc (.cells #[.int .i64 k, .int .i64 nn] 28) = X1 at *
      generalize w6.heap.size = F1 at *
      refine (unhide cS _).mono ?_
      rintro e w7 ⟨g7, c7, rfl, _, o7, kb⟩
      have H := hide (laterB (unhide H) kb)
      have OM := hide ((unhide OM).below kb)
      have V1 := hide (blk_below (unhide V1) kb)
      clear kb o7 cS
      have V2 := hide (alloc_new w7 (.cells #[.int .i64 k, .int .i64 nn] 28))
      have al := (Below.refl w7.heap.size w7).alloc (Nat.le_refl _) (.cells #[.int .i64 k, .int .i64 nn] 28)
      have H := hide (laterB (unhide H) al)
      have OM := hide ((unhide OM).below al)
      have V1 := hide (blk_below (unhide V1) al)
      clear al
      have H8 := H
      have e1 : (k != k) = false := by simp
      have e2 : (nn != nn) = false := by simp
      obtain ⟨p0, p1⟩ := blk2 (unhide V1)
      obtain ⟨q0, q1⟩ := blk2 (unhide V2)
      by_cases hk : k = 0
      rotate_left
      · have hk' : (k != 0) = true := by simpa using hk
        obtain rfl := rdT_bad (unhide hR') hk
        go_wp2
        go_ret
        exact ⟨rfl, unhide H⟩
      subst hk
      obtain ⟨okl, shl⟩ := rdT_good (unhide hR')
      have cK := hide (fun w (h : Below w0.heap.size w0 w) (hk : Kls w (some ⟨g6, 0, none⟩) l) => iok_any (some ⟨g6, 0, none⟩) c6 l true w (by omega) hk (fun x hx => by have := tOk_sz okl x hx; omega) (MaxL.below (unhide hM') h) okl)
      have cW := hide (fun w (h : Below w0.heap.size w0 w) (hk : Kls w (some ⟨g6, 0, none⟩) l) => ishow_any (some ⟨g6, 0, none⟩) c6 l s w (by omega) hk (fun x hx => by have := tOk_sz okl x hx; omega) (MaxL.below (unhide hM') h) (Tab.below (unhide hT') h) (by rw [shl]; exact unhide hs'))
      have ess : (s.toList == s.toList) = true := by simp
      clear okl shl
      go_wp2_with fail
      generalize w7.alloc (.cells #[.int .i64 0, .int .i64 nn] 28) = X2 at *
      refine (unhide cK _ (unhide H) (unhide OM)).mono ?_
      rintro e w8 ⟨rfl, kb⟩
      have H := hide (laterB (unhide H) kb)
      have OM := hide ((unhide OM).below kb)
      clear kb cK p0 p1 q0 q1 V1 V2 H8
      go_wp2_with fail
      refine (unhide cW _ (unhide H) (unhide OM)).mono ?_
      rintro e w9 ⟨rfl, kb⟩
      have H := hide (laterB (unhide H) kb)
      clear kb cW OM
      go_wp2
      go_ret
      exact ⟨rfl, unhide H⟩

end Go.Proofs.YtcpllfjhhlbmiaaDoor
