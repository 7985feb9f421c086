/-
  The contract of the model's Apply.
-/
import Derived.Test.YtfcjdempigoiiaaChk
import Derived.Test.YtfcjdempigoiiaaApP
import Derived.Test.YtfcjdempigoiiaaSEd
namespace Go.Proofs.Ytfcjdempigoiiaa
open Go.RowKit
set_option linter.unusedVariables false
set_option linter.unusedSimpArgs false

theorem ownV_g {w : World} {B : Nat} {v : Value} {l : List Kl} {g n c : Nat} (h : OwnV w B v l) (hv : v = .slice (some ⟨g, 0, none⟩) n c) : n = l.length ∧ Own w B g l.length c l := by
  rcases h.2 with ⟨hv', hn⟩ | ⟨g', cap, cur, hv', _⟩
  · rw [hv'] at hv; cases hv
  · rw [hv'] at hv
    injection hv with e1 e2 e3
    injection e1 with e1
    injection e1 with e1 _ _
    subst e1 e2 e3
    exact ⟨rfl, by rw [hv'] at h; exact h⟩
theorem blk3 {X : World} {b : Nat} {t : TypeId} {v0 v1 v2 : Value} (h : X.heap[b]? = some (.cells #[v0, v1, v2] t (0, 0))) :
    X.cell? ⟨b, 0, none⟩ = some v0 ∧ X.cell? ⟨b, 1, none⟩ = some v1 ∧ X.cell? ⟨b, 2, none⟩ = some v2 := by
  refine ⟨?_, ?_, ?_⟩ <;> simp [World.cell?, h]
theorem kls_lit2 (w : World) (x1 x2 x3 x4 : Int) : Kls ((w.alloc (.cells #[.int .i64 x1, .int .i64 x2, .int .i64 x3, .int .i64 x4] 60)).alloc (.cells #[.int .i64 x2, .int .i64 x3, .int .i64 x4] 63)) (some ⟨w.heap.size + 1, 0, none⟩) [(x2, x3, x4)] := by
  intro j x hx
  cases j with
  | succ j => simp at hx
  | zero =>
    simp at hx
    subst hx
    have h := World.alloc_heap_new (w.alloc (.cells #[.int .i64 x1, .int .i64 x2, .int .i64 x3, .int .i64 x4] 60)) (.cells #[.int .i64 x2, .int .i64 x3, .int .i64 x4] 63)
    rw [World.size_alloc] at h
    obtain ⟨h1, h2, h3⟩ := blk3 h
    exact ⟨_, _, rfl, by simp, h1, h2, h3⟩
/-- the list so far, in memory -/
def MR (w wr : World) (L : List Kl) (v : Value) : Prop := OwnV wr w.heap.size v L ∧ Below w.heap.size w wr

set_option maxHeartbeats 3200000 in
theorem sapply_any (a b : Option Addr) (ca cb : Nat) (l : List Kl) (cs : List Ch) (w : World) (hl0 : l.length ≤ maxLen) (hc0 : cs.length ≤ maxLen) (hk : Kls w a l) (hkc : Chs w b cs) :
    Calls Try.prog 18 #[.slice a l.length ca, .slice b cs.length cb] w fun e w' => EdR w w' (applyOf l cs) e := by
  have hk' := hide hk
  have hkc' := hide hkc
  clear hk hkc
  by_cases hT : TOk l
  case neg =>
    have hd := hide (decide_eq_false hT)
    have hr := hide (apply_no (cs := cs) (fun h => hT h.1))
    clear hT
    go_enter Try.func18, Try.ntmps18
    go_wp2_with fail
    refine (strack_any a ca l false _ hl0 (unhide hk') (unhide hd)).mono ?_
    rintro e w1 ⟨rfl, hb⟩
    go_wp2
    exact bodyPost_ret (v := .tuple #[.slice (some ⟨w1.heap.size, 0, none⟩) 0 0, .bool false]) (by simp [results, Try.results18, go_sem]) rfl (edR_none (unhide hr) hb)
  by_cases hC : LOk cs
  case neg =>
    have hd := hide (decide_eq_true hT)
    have hd2 := hide (decide_eq_false hC)
    have hr := hide (apply_no (l := l) (fun h => hC h.2.1))
    clear hT hC
    go_enter Try.func18, Try.ntmps18
    go_wp2_with fail
    refine (strack_any a ca l true _ hl0 (unhide hk') (unhide hd)).mono ?_
    rintro e w1 ⟨rfl, hb⟩
    go_wp2_with fail
    refine (slist_any b cb cs false _ hc0 ((unhide hkc').below hb) (unhide hd2)).mono ?_
    rintro e w2 ⟨rfl, hb2⟩
    go_wp2
    exact bodyPost_ret (v := .tuple #[.slice (some ⟨w2.heap.size, 0, none⟩) 0 0, .bool false]) (by simp [results, Try.results18, go_sem]) rfl (edR_none (unhide hr) (laterB hb hb2))
  have hd := hide (decide_eq_true hT)
  have hd2 := hide (decide_eq_true hC)
  have hlT : l.length ≤ 300 := hT.1
  have hlC : cs.length ≤ 300 := hC.1
  have hT' := hide hT
  have hC' := hide hC
  clear hT hC
  go_enter Try.func18, Try.ntmps18
  go_wp2_with fail
  refine (strack_any a ca l true _ hl0 (unhide hk') (unhide hd)).mono ?_
  rintro e w1 ⟨rfl, hb⟩
  have H1 := hide hb
  clear hb hd
  go_wp2_with fail
  refine (slist_any b cb cs true _ hc0 ((unhide hkc').below (unhide H1)) (unhide hd2)).mono ?_
  rintro e w2 ⟨rfl, hb2⟩
  have H2 := hide (laterB (unhide H1) hb2)
  clear hb2 hd2 H1
  have h0 := hide (show MR w (w2.alloc (.cells #[] 63)) (madeUp l cs 0) (.slice (some ⟨w2.heap.size, 0, none⟩) 0 0) from ⟨own_lit0 w2 (unhide H2).size, (unhide H2).alloc (unhide H2).size _⟩)
  clear H2
  go_wp2
  go_loopw [6, 7, 8] (fun s q t wr => ∃ (k : Nat) (sa : Option Addr) (sc : Nat), k ≤ cs.length ∧ t = .int .i64 k ∧ q = .int .i64 (oldL (cs.take k)) ∧ s = .slice sa (madeUp l cs k).length sc ∧ Hid (MR w wr (madeUp l cs k) (.slice sa (madeUp l cs k).length sc))) (fun _ _ t _ => cs.length - (intOf t).toNat)
  case atStart => exact ⟨0, some ⟨w2.heap.size, 0, none⟩, 0, by omega, rfl, by simp [oldL], rfl, h0⟩
  case round =>
    clear h0
    obtain ⟨k, sa, sc, hk, rfl, rfl, rfl, hJ⟩ := hrel
    obtain ⟨q0, q1, _, _⟩ := sums_take (unhide hC') k
    obtain ⟨L, hL⟩ : ∃ L, L = madeUp l cs k := ⟨_, rfl⟩
    rw [← hL] at hJ ⊢
    have hLl : L.length ≤ 100000 := by rw [hL]; exact madeUp_bd hlT (by omega)
    by_cases hlt : k < cs.length
    · obtain ⟨x1, x2, x3, x4, b', o', hx, rfl, hb0, c0, c1, c2, c3⟩ := chs_at (unhide hkc') (unhide hJ).2 hlt
      have hH := (unhide hC').2 _ (List.mem_of_getElem? hx)
      have hlen := hH.len
      have hkind : x1 = 1 ∨ x1 = 2 ∨ x1 = 3 := by rcases hH with h | h <;> simp only at h <;> omega
      simp only at hlen
      obtain ⟨n0, n1⟩ := hlen
      have hs := hide (oldL_snoc hx)
      have hm := hide (show madeUp l cs (k + 1) = L ++ mk1 l (oldL (cs.take k)) (x1, x2, x3, x4) by rw [madeUp_succ, mkAt_eq hx, hL])
      have hown := hide (unhide hJ).1
      have hwB := hide (unhide hJ).2
      have hrl : ∀ j, (Value.slice sa L.length sc).ownBlock = some j → j < wr.heap.size := fun j e => ((unhide hown).lt j e).2
      have hrl' := hide hrl
      clear hx hH hJ hL hrl
      generalize hok : oldL (cs.take k) = ok at *
      have hwA := hide ((unhide hwB).alloc (unhide hwB).size (.cells #[.int .i64 x1, .int .i64 x2, .int .i64 x3, .int .i64 x4] 60))
      rcases hkind with rfl | rfl | rfl
      · go_wp2_with fail
        refine (spart_any a ca l ok (ok + x4) _ (unhide hT') ⟨by omega, by omega⟩ ⟨by omega, by omega⟩ ((unhide hk').below (unhide hwA))).mono ?_
        rintro e w3 ⟨g3, c3', rfl, q3, n3, k3⟩
        have hp := part_len l ok (ok + x4)
        have hwX : w3.cell? ⟨wr.heap.size, 3, none⟩ = some (.int .i64 x4) := by rw [(bcell k3).1 _ _ (by simp)]; simp [go_sem]
        have hown3 := hide (ownsRow_below (ownsRow_below (unhide hown) ((Below.refl _ wr).alloc (Nat.le_refl _) (.cells #[.int .i64 1, .int .i64 x2, .int .i64 x3, .int .i64 x4] 60))) k3)
        have hw3 := hide (laterB (unhide hwA) k3)
        have hn3 := hide n3
        have hwr3 : wr.heap.size < w3.heap.size := by have := k3.size; simp at this; omega
        clear n3 k3 hown hwB hwA c0 c1 c2 c3
        go_wp2_with (at_builtin; refine wpList_apps Try.underlying24 _ rfl _ _ rfl w.heap.size _ L (part l ok (ok + x4)) (some ⟨g3, 0, none⟩) c3' rfl (unhide hown3) rfl (kls_own (unhide hn3)) (fun h => by cases h) (by omega) (by omega) (unhide hw3).size ?_)
        intro v4 w4 n4 k4 g4
        have hJ' := hide (show MR w w4 (madeUp l cs (k + 1)) v4 from ⟨by rw [unhide hm]; simpa [mk1] using n4, (unhide hw3).trans k4⟩)
        have hwX4 : w4.cell? ⟨wr.heap.size, 3, none⟩ = some (.int .i64 x4) := by
          refine (World.cell?_of_block (a := ⟨wr.heap.size, 3, none⟩) (g4.block _ hwr3 ?_)).trans hwX
          intro e
          have hh : wr.heap.size < wr.heap.size := unhide hrl' _ e.symm
          omega
        obtain ⟨a5, c5, hv5, _, _⟩ := ownV_kls n4
        subst hv5
        clear n4 k4 g4 hown3 hw3 hn3 hwX
        go_wp2
        go_roundw
        case rel => exact ⟨k + 1, a5, c5, by omega, by go_num, by rw [unhide hs]; simp [oldC], by rw [unhide hm]; simp [mk1], by rw [unhide hm]; rw [unhide hm] at hJ'; simpa [mk1] using hJ'⟩
        case measure => simp [intOf]; omega
      · go_wp2
        go_roundw
        case rel =>
          have hm2 : madeUp l cs (k + 1) = L := by rw [unhide hm]; simp [mk1]
          exact ⟨k + 1, sa, sc, by omega, by go_num, by rw [unhide hs]; simp [oldC], by rw [hm2], by rw [hm2]; exact hide ⟨ownsRow_below (unhide hown) ((Below.refl _ wr).alloc (Nat.le_refl _) _), unhide hwA⟩⟩
        case measure => simp [intOf]; omega
      · go_wp2_with (at_builtin; refine wpList_apps Try.underlying24 _ rfl _ _ rfl w.heap.size _ L [(x2, x3, x4)] (some ⟨wr.heap.size + 1, 0, none⟩) 1 rfl (ownsRow_below (unhide hown) (((Below.refl _ wr).alloc (Nat.le_refl _) _).alloc (by simp) _)) rfl (kls_lit2 wr _ _ _ _) (fun h => by cases h) (by omega) (by simp) (by have := (unhide hwB).size; simp; omega) ?_)
        intro v4 w4 n4 k4 g4
        have hm2 : madeUp l cs (k + 1) = L ++ [(x2, x3, x4)] := by rw [unhide hm]; simp [mk1]
        obtain ⟨a5, c5, hv5, _, _⟩ := ownV_kls n4
        subst hv5
        have hJ' := hide (show MR w w4 (madeUp l cs (k + 1)) (.slice a5 (L ++ [(x2, x3, x4)]).length c5) from ⟨by rw [hm2]; exact n4, ((unhide hwA).alloc (unhide hwA).size _).trans k4⟩)
        have hm3 := hide hm2
        clear n4 k4 g4 hm2
        go_wp2
        go_roundw
        case rel => exact ⟨k + 1, a5, c5, by omega, by go_num, by rw [unhide hs]; simp [oldC], by rw [unhide hm3], by rw [unhide hm3]; have := unhide hJ'; rw [unhide hm3] at this; exact hide this⟩
        case measure => simp [intOf]; omega
    · have hke : k = cs.length := by omega
      have hown := hide (unhide hJ).1
      have hwB := hide (unhide hJ).2
      have hLe := hide (show L = madeUp l cs cs.length by rw [hL, hke])
      have hoe := hide (show oldL (cs.take k) = oldL cs by rw [hke, List.take_length])
      obtain ⟨_, _, _, hkl, hnn⟩ := ownV_kls (unhide hown)
      have hkl' := hide (show Kls wr sa L from by
        obtain ⟨a', c', e1, e2, _⟩ := ownV_kls (unhide hown)
        injection e1 with e1 _ _
        rw [e1]; exact e2)
      clear hJ hL hkl hnn
      go_wp2_with fail
      refine (slen_any a ca l _ (by omega) (unhide hT').2.1 ((unhide hk').below (unhide hwB))).mono ?_
      rintro e w3 ⟨rfl, rfl⟩
      have H3 := hwB
      have hkl3 := hkl'
      clear hwB hown hkl'
      rw [unhide hoe]
      by_cases hsum : oldL cs = clen l
      · have hsum' : (oldL cs != clen l) = false := by simpa using hsum
        have hr := hide (show applyOf l cs = edit L by rw [apply_yes ⟨unhide hT', unhide hC', hsum⟩, unhide hLe])
        go_wp2_with fail
        refine (sedit_any sa sc L _ hLl (unhide hkl3)).mono ?_
        rintro e w5 hE
        obtain ⟨g, c, rfl, E⟩ := edR_from hE (unhide H3)
        go_wp2
        refine bodyPost_ret (v := .tuple #[.slice (some ⟨g, 0, none⟩) (outL (edit L)).length c, .bool (edit L).isSome]) (by simp [results, Try.results18, go_sem]) rfl ?_
        rw [unhide hr]
        exact ⟨g, c, rfl, E⟩
      · have hsum' : (oldL cs != clen l) = true := by simpa using hsum
        have hr := hide (apply_no (l := l) (cs := cs) (fun h => hsum h.2.2))
        go_wp2
        exact bodyPost_ret (v := .tuple #[.slice (some ⟨w3.heap.size, 0, none⟩) 0 0, .bool false]) (by simp [results, Try.results18, go_sem]) rfl (edR_none (unhide hr) (unhide H3))

end Go.Proofs.Ytfcjdempigoiiaa
