/-
  Contracts of the model's slip, ripple and roll; answers are new memory, nothing that was there is written.
-/
import Derived.Test.YtnmahojdaodlgaaSEd3
namespace Go.Proofs.Ytnmahojdaodlgaa
open Go.RowKit
set_option linter.unusedVariables false
set_option linter.unusedSimpArgs false


set_option maxHeartbeats 3200000 in
theorem sroll_any (a : Option Addr) (cap : Nat) (l : List Kl) (i n : Int) (w : World) (hl : l.length ≤ maxLen) (hk : Kls w a l) :
    Calls Try.prog 41 #[.slice a l.length cap, .int .i64 i, .int .i64 n] w fun e w' => EdR w w' (rollS l i n) e := by
  have hk' := hide hk
  clear hk
  by_cases hT : TOk l
  · have hd := hide (decide_eq_true hT)
    have hT' := hide hT
    have hL := hT.2.2
    have hl3 := hT.1
    by_cases hn : InR n (-10000000) 10000000
    · have hnb : (decide (-10000000 ≤ n) && decide (n ≤ 10000000)) = true := by
        have h1 := hn.1
        have h2 := hn.2
        simp; omega
      by_cases hr : real l i
      · have hrd := hide (decide_eq_true hr)
        by_cases hq : real l (i + 1)
        · have hqd := hide (decide_eq_true hq)
          obtain ⟨n0, n1⟩ := hn
          have i0 := hr.1
          have i1 := hr.2.1
          have j1 := hq.2.1
          have hS : rollS l i n = edit ((l.set i.toNat (trimK (ck l i) 0 n)).set (i + 1).toNat (trimK (ck l (i + 1)) n 0)) := if_pos ⟨hT, ⟨n0, n1⟩, hr, hq⟩
          obtain ⟨k, rfl⟩ : ∃ k : Nat, i = k := ⟨i.toNat, by omega⟩
          obtain ⟨⟨p1, p2, p3⟩, hp⟩ : ∃ p, l[k]? = some p := ⟨_, List.getElem?_eq_getElem (show k < l.length by omega)⟩
          obtain ⟨⟨q1, q2, q3⟩, hq'⟩ : ∃ q, l[k + 1]? = some q := ⟨_, List.getElem?_eq_getElem (show k + 1 < l.length by omega)⟩
          have e1 : (k : Int).toNat = k := by omega
          have e2 : ((k : Int) + 1).toNat = k + 1 := by omega
          have e3 : trimK (p1, p2, p3) 0 n = (p1, p2, p3 + n) := by unfold trimK; simp
          have e4 : trimK (q1, q2, q3) n 0 = (q1, q2 + n, q3 - n) := by unfold trimK; simp only; congr 2; omega
          rw [e1, e2, ck_at hp, ck_at1 hq', e3, e4] at hS
          clear e3 e4
          have hS' := hide hS
          have hpc := hT.2.1 _ (List.mem_of_getElem? hp)
          have hqc := hT.2.1 _ (List.mem_of_getElem? hq')
          obtain ⟨a1, a2, a3, a4, _⟩ := hpc
          obtain ⟨b1, b2, b3, b4, _⟩ := hqc
          simp only at a1 a2 a3 a4 b1 b2 b3 b4
          have hpp := hide hp
          have hqq := hide hq'
          clear hT hr hq hS hp hq'
          go_enter Try.func41, Try.ntmps41
          go_wp2_with fail
          refine (strack_any a cap l true _ hl (unhide hk') (unhide hd)).mono ?_
          rintro e w1 ⟨rfl, hb⟩
          go_wp2_with fail
          refine (by_any n true _ hnb).mono ?_
          rintro e w2 ⟨rfl, rfl⟩
          go_wp2_with fail
          refine (sreal_any a cap l k true _ hl ((unhide hk').below hb) (unhide hrd)).mono ?_
          rintro e w3 ⟨rfl, rfl⟩
          go_wp2_with fail
          refine (sreal_any a cap l (k + 1) true _ hl ((unhide hk').below hb) (unhide hqd)).mono ?_
          rintro e w4 ⟨rfl, rfl⟩
          have H1 := hide (below_lit hb (o := .cells #[] 26))
          have hz := hb.size
          have o1 := hide (own_lit0 w4 (Nat.le_refl _))
          have K1 := hide (((unhide hk').below hb).below ((Below.refl _ _).alloc (Nat.le_refl _) (.cells #[] 26)))
          clear hb hk'
          go_wp2_with (at_builtin; refine wpList_apps Try.underlying24 _ rfl _ _ rfl w4.heap.size (.slice (some ⟨w4.heap.size, 0, none⟩) 0 0) [] l a cap rfl (unhide o1) rfl (unhide K1) (fun h => (kls_some (unhide K1) (by omega) h).elim) (by simp) (by omega) (by simp) ?_)
          intro v w5 nv kv _
          obtain ⟨g, c, rfl⟩ := ownV_some nv (by omega)
          have ov := hide (show Own w5 w4.heap.size g l.length c l from nv)
          have H5 := hide ((unhide H1).trans (kv.mono hz))
          obtain ⟨x0, x1, x2⟩ := own_cells (unhide hpp) (unhide ov)
          obtain ⟨y0, y1, y2⟩ := own_cells (unhide hqq) (unhide ov)
          have f0 := (unhide ov).frozenAt (k * 3 + 2)
          have f1 := (unhide ov).frozenAt ((k + 1) * 3 + 1)
          have f2 := (unhide ov).frozenAt ((k + 1) * 3 + 2)
          have hg : w.heap.size ≤ g := by have := own_ge (unhide ov); omega
          simp only at x0 x1 x2 y0 y1 y2
          have oA := own_ln (unhide hpp) (unhide ov) (p3 + n)
          have hqA : (l.set k (p1, p2, p3 + n))[k + 1]? = some (q1, q2, q3) := by rw [List.getElem?_set_ne (by omega)]; exact unhide hqq
          have oB := own_in hqA oA (q2 + n)
          have hqB : ((l.set k (p1, p2, p3 + n)).set (k + 1) (q1, q2 + n, q3))[k + 1]? = some (q1, q2 + n, q3) := by rw [List.getElem?_set_self (by rw [List.length_set]; omega)]
          have oC := own_ln hqB oB (q3 - n)
          rw [List.set_set] at oC
          have oN := hide oC
          have HN := hide ((((unhide H5).setCell (p := ⟨g, k * 3 + 2, none⟩) hg (.int .i64 (p3 + n))).setCell (p := ⟨g, (k + 1) * 3 + 1, none⟩) hg (.int .i64 (q2 + n))).setCell (p := ⟨g, (k + 1) * 3 + 2, none⟩) hg (.int .i64 (q3 - n)))
          clear nv kv H1 o1 ov H5 oA oB oC hqA hqB
          obtain ⟨M, hM⟩ : ∃ M, M = (l.set k (p1, p2, p3 + n)).set (k + 1) (q1, q2 + n, q3 - n) := ⟨_, rfl⟩
          have hMl : l.length = M.length := by rw [hM]; simp
          have hM' := hide hM
          have oM : Hid (Own (((w5.setCell ⟨g, k * 3 + 2, none⟩ (.int .i64 (p3 + n))).setCell ⟨g, (k + 1) * 3 + 1, none⟩ (.int .i64 (q2 + n))).setCell ⟨g, (k + 1) * 3 + 2, none⟩ (.int .i64 (q3 - n))) w4.heap.size g M.length c M) := hide (by have := unhide oN; simp only at this; rw [← unhide hM', hMl] at this; exact this)
          clear hM oN
          have hMl' := hide hMl
          have hM1 : M.length ≤ 1000 := by omega
          have hM1' := hide hM1
          clear hMl hM1
          go_wp2_with fail
          rw [unhide hMl']
          refine (sedit_any (some ⟨g, 0, none⟩) c M _ (unhide hM1') (kls_own (unhide oM))).mono ?_
          rintro e w6 hE
          obtain ⟨g', c', rfl, E⟩ := edR_from hE (unhide HN)
          rw [← unhide hMl']
          have hr2 := hide (show edit M = rollS l k n by rw [unhide hS', unhide hM'])
          rw [unhide hr2] at E ⊢
          go_wp2
          exact bodyPost_ret (v := .tuple #[.slice (some ⟨g', 0, none⟩) (outL (rollS l k n)).length c', .bool (rollS l k n).isSome]) (by simp [results, Try.results41, go_sem]) rfl ⟨g', c', rfl, E⟩
        · have hqd := hide (decide_eq_false hq)
          have i0 := hr.1
          have i1 := hr.2.1
          have hS := hide (show rollS l i n = none from if_neg (fun h => hq h.2.2.2))
          clear hT hr hq
          go_enter Try.func41, Try.ntmps41
          go_wp2_with fail
          refine (strack_any a cap l true _ hl (unhide hk') (unhide hd)).mono ?_
          rintro e w1 ⟨rfl, hb⟩
          go_wp2_with fail
          refine (by_any n true _ hnb).mono ?_
          rintro e w2 ⟨rfl, rfl⟩
          go_wp2_with fail
          refine (sreal_any a cap l i true _ hl ((unhide hk').below hb) (unhide hrd)).mono ?_
          rintro e w3 ⟨rfl, rfl⟩
          go_wp2_with fail
          refine (sreal_any a cap l (i + 1) false _ hl ((unhide hk').below hb) (unhide hqd)).mono ?_
          rintro e w4 ⟨rfl, rfl⟩
          go_wp2
          exact bodyPost_ret (v := .tuple #[.slice (some ⟨w4.heap.size, 0, none⟩) 0 0, .bool false]) (by simp [results, Try.results41, go_sem]) rfl (edR_none (unhide hS) hb)
      · have hrd := hide (decide_eq_false hr)
        have hS := hide (show rollS l i n = none from if_neg (fun h => hr h.2.2.1))
        clear hT hr
        go_enter Try.func41, Try.ntmps41
        go_wp2_with fail
        refine (strack_any a cap l true _ hl (unhide hk') (unhide hd)).mono ?_
        rintro e w1 ⟨rfl, hb⟩
        go_wp2_with fail
        refine (by_any n true _ hnb).mono ?_
        rintro e w2 ⟨rfl, rfl⟩
        go_wp2_with fail
        refine (sreal_any a cap l i false _ hl ((unhide hk').below hb) (unhide hrd)).mono ?_
        rintro e w3 ⟨rfl, rfl⟩
        go_wp2
        exact bodyPost_ret (v := .tuple #[.slice (some ⟨w3.heap.size, 0, none⟩) 0 0, .bool false]) (by simp [results, Try.results41, go_sem]) rfl (edR_none (unhide hS) hb)
    · have hnb : (decide (-10000000 ≤ n) && decide (n ≤ 10000000)) = false := by
        have h1 : ¬ (-10000000 ≤ n ∧ n ≤ 10000000) := hn
        simp; omega
      have hS := hide (show rollS l i n = none from if_neg (fun h => hn h.2.1))
      clear hT hn
      go_enter Try.func41, Try.ntmps41
      go_wp2_with fail
      refine (strack_any a cap l true _ hl (unhide hk') (unhide hd)).mono ?_
      rintro e w1 ⟨rfl, hb⟩
      go_wp2_with fail
      refine (by_any n false _ hnb).mono ?_
      rintro e w2 ⟨rfl, rfl⟩
      go_wp2
      exact bodyPost_ret (v := .tuple #[.slice (some ⟨w2.heap.size, 0, none⟩) 0 0, .bool false]) (by simp [results, Try.results41, go_sem]) rfl (edR_none (unhide hS) hb)
  · have hd := hide (decide_eq_false hT)
    have hS := hide (show rollS l i n = none from if_neg (fun h => hT h.1))
    clear hT
    go_enter Try.func41, Try.ntmps41
    go_wp2_with fail
    refine (strack_any a cap l false _ hl (unhide hk') (unhide hd)).mono ?_
    rintro e w1 ⟨rfl, hb⟩
    go_wp2
    exact bodyPost_ret (v := .tuple #[.slice (some ⟨w1.heap.size, 0, none⟩) 0 0, .bool false]) (by simp [results, Try.results41, go_sem]) rfl (edR_none (unhide hS) hb)

end Go.Proofs.Ytnmahojdaodlgaa
