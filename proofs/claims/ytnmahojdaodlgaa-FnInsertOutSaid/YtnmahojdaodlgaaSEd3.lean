/-
  Contracts of the model's slip, ripple and roll; answers are new memory, nothing that was there is written.
-/
import Derived.Test.YtnmahojdaodlgaaSEd2
namespace Go.Proofs.Ytnmahojdaodlgaa
open Go.RowKit
set_option linter.unusedVariables false
set_option linter.unusedSimpArgs false

theorem flK_in {l : List Kl} {k : Nat} {c : Kl} (h : l[k]? = some c) (x : Int) : (flK l).set (k * 3 + 1) (iv x) = flK (l.set k (c.1, x, c.2.2)) := by
  induction l generalizing k with
  | nil => simp at h
  | cons y l ih =>
    cases k with
    | zero => simp at h; subst h; rfl
    | succ k =>
      have e : (k + 1) * 3 + 1 = k * 3 + 1 + 1 + 1 + 1 := by omega
      rw [e]
      simp only [flK, List.set_cons_succ]
      rw [ih (by simpa using h)]
theorem flK_ln {l : List Kl} {k : Nat} {c : Kl} (h : l[k]? = some c) (x : Int) : (flK l).set (k * 3 + 2) (iv x) = flK (l.set k (c.1, c.2.1, x)) := by
  induction l generalizing k with
  | nil => simp at h
  | cons y l ih =>
    cases k with
    | zero => simp at h; subst h; rfl
    | succ k =>
      have e : (k + 1) * 3 + 2 = k * 3 + 2 + 1 + 1 + 1 := by omega
      rw [e]
      simp only [flK, List.set_cons_succ]
      rw [ih (by simpa using h)]
theorem own_in {w : World} {B g n cap k : Nat} {l : List Kl} {c : Kl} (hk : l[k]? = some c) (h : Own w B g n cap l) (x : Int) : Own (w.setCell ⟨g, k * 3 + 1, none⟩ (.int .i64 x)) B g n cap (l.set k (c.1, x, c.2.2)) := by
  have h1 := (h.stored (k * 3 + 1) (iv x)).1
  rw [flK_in hk] at h1
  exact h1
theorem own_ln {w : World} {B g n cap k : Nat} {l : List Kl} {c : Kl} (hk : l[k]? = some c) (h : Own w B g n cap l) (x : Int) : Own (w.setCell ⟨g, k * 3 + 2, none⟩ (.int .i64 x)) B g n cap (l.set k (c.1, c.2.1, x)) := by
  have h1 := (h.stored (k * 3 + 2) (iv x)).1
  rw [flK_ln hk] at h1
  exact h1
theorem ownV_some {w : World} {B : Nat} {v : Value} {l : List Kl} (h : OwnV w B v l) (hl : 0 < l.length) : ∃ g c, v = .slice (some ⟨g, 0, none⟩) l.length c := by
  rcases h.2 with ⟨hv, hn⟩ | ⟨g, cap, cur, hv, _⟩
  · omega
  · exact ⟨g, cap, hv⟩
theorem kls_some {w : World} {a : Option Addr} {l : List Kl} (h : Kls w a l) (hl : 0 < l.length) (hn : a = none) : False := by
  obtain ⟨b, o, e, _⟩ := h 0 l[0] (List.getElem?_eq_getElem hl)
  rw [hn] at e; cases e
theorem ck_at {l : List Kl} {k : Nat} {c : Kl} (h : l[k]? = some c) : ck l (k : Int) = c := by
  unfold ck; rw [Int.toNat_natCast, List.getD_eq_getElem?_getD, h]; rfl
theorem ck_at1 {l : List Kl} {k : Nat} {c : Kl} (h : l[k + 1]? = some c) : ck l ((k : Int) + 1) = c := by
  have : ((k : Int) + 1) = ((k + 1 : Nat) : Int) := by omega
  rw [this]; exact ck_at h

set_option maxHeartbeats 3200000 in
theorem sslip_any (a : Option Addr) (cap : Nat) (l : List Kl) (i n : Int) (w : World) (hl : l.length ≤ maxLen) (hk : Kls w a l) :
    Calls Try.prog 43 #[.slice a l.length cap, .int .i64 i, .int .i64 n] w fun e w' => EdR w w' (slipS l i n) e := by
  have hk' := hide hk
  clear hk
  by_cases hT : TOk l
  · have hd := hide (decide_eq_true hT)
    have hT' := hide hT
    have hL := hT.2.2
    have hl3 := hT.1
    by_cases hn : InR n (-10000000) 10000000
    · have hnb : (decide (-10000000 ≤ n) && decide (n ≤ 10000000)) = true := by
        have h1 := hn.1
        have h2 := hn.2
        simp; omega
      by_cases hr : real l i
      · have hrd := hide (decide_eq_true hr)
        obtain ⟨n0, n1⟩ := hn
        have i0 := hr.1
        have i1 := hr.2.1
        have hS : slipS l i n = edit (l.set i.toNat (trimK (ck l i) n n)) := if_pos ⟨hT, ⟨n0, n1⟩, hr⟩
        obtain ⟨k, rfl⟩ : ∃ k : Nat, i = k := ⟨i.toNat, by omega⟩
        obtain ⟨⟨p1, p2, p3⟩, hp⟩ : ∃ p, l[k]? = some p := ⟨_, List.getElem?_eq_getElem (show k < l.length by omega)⟩
        have e1 : (k : Int).toNat = k := by omega
        have e2 : trimK (p1, p2, p3) n n = (p1, p2 + n, p3) := by unfold trimK; simp
        rw [e1, ck_at hp, e2] at hS
        have hS' := hide hS
        have hpc := hT.2.1 _ (List.mem_of_getElem? hp)
        obtain ⟨a1, a2, a3, a4, _⟩ := hpc
        simp only at a1 a2 a3 a4
        have hpp := hide hp
        clear hT hr hS hp e2
        go_enter Try.func43, Try.ntmps43
        go_wp2_with fail
        refine (strack_any a cap l true _ hl (unhide hk') (unhide hd)).mono ?_
        rintro e w1 ⟨rfl, hb⟩
        go_wp2_with fail
        refine (by_any n true _ hnb).mono ?_
        rintro e w2 ⟨rfl, rfl⟩
        go_wp2_with fail
        refine (sreal_any a cap l k true _ hl ((unhide hk').below hb) (unhide hrd)).mono ?_
        rintro e w3 ⟨rfl, rfl⟩
        have H1 := hide (below_lit hb (o := .cells #[] 26))
        have hz := hb.size
        have o1 := hide (own_lit0 w3 (Nat.le_refl _))
        have K1 := hide (((unhide hk').below hb).below ((Below.refl _ _).alloc (Nat.le_refl _) (.cells #[] 26)))
        clear hb hk'
        go_wp2_with (at_builtin; refine wpList_apps Try.underlying24 _ rfl _ _ rfl w3.heap.size (.slice (some ⟨w3.heap.size, 0, none⟩) 0 0) [] l a cap rfl (unhide o1) rfl (unhide K1) (fun h => (kls_some (unhide K1) (by omega) h).elim) (by simp) (by omega) (by simp) ?_)
        intro v w5 nv kv _
        obtain ⟨g, c, rfl⟩ := ownV_some nv (by omega)
        have ov := hide (show Own w5 w3.heap.size g l.length c l from nv)
        have H5 := hide ((unhide H1).trans (kv.mono hz))
        obtain ⟨x0, x1, x2⟩ := own_cells (unhide hpp) (unhide ov)
        have f0 := (unhide ov).frozenAt (k * 3 + 1)
        have hg : w.heap.size ≤ g := by have := own_ge (unhide ov); omega
        simp only at x0 x1 x2
        have oN := hide (own_in (unhide hpp) (unhide ov) (p2 + n))
        have HN := hide ((unhide H5).setCell (p := ⟨g, k * 3 + 1, none⟩) hg (.int .i64 (p2 + n)))
        clear nv kv H1 o1 ov H5
        obtain ⟨M, hM⟩ : ∃ M, M = l.set k (p1, p2 + n, p3) := ⟨_, rfl⟩
        have hMl : l.length = M.length := by rw [hM]; simp
        have hM' := hide hM
        have oM : Hid (Own (w5.setCell ⟨g, k * 3 + 1, none⟩ (.int .i64 (p2 + n))) w3.heap.size g M.length c M) := hide (by have := unhide oN; simp only at this; rw [← unhide hM', hMl] at this; exact this)
        clear hM oN
        have hMl' := hide hMl
        have hM1 : M.length ≤ 1000 := by omega
        have hM1' := hide hM1
        clear hMl hM1
        go_wp2_with fail
        rw [unhide hMl']
        refine (sedit_any (some ⟨g, 0, none⟩) c M _ (unhide hM1') (kls_own (unhide oM))).mono ?_
        rintro e w6 hE
        obtain ⟨g', c', rfl, E⟩ := edR_from hE (unhide HN)
        rw [← unhide hMl']
        have hr2 := hide (show edit M = slipS l k n by rw [unhide hS', unhide hM'])
        rw [unhide hr2] at E ⊢
        go_wp2
        exact bodyPost_ret (v := .tuple #[.slice (some ⟨g', 0, none⟩) (outL (slipS l k n)).length c', .bool (slipS l k n).isSome]) (by simp [results, Try.results43, go_sem]) rfl ⟨g', c', rfl, E⟩
      · have hrd := hide (decide_eq_false hr)
        have hS := hide (show slipS l i n = none from if_neg (fun h => hr h.2.2))
        clear hT hr
        go_enter Try.func43, Try.ntmps43
        go_wp2_with fail
        refine (strack_any a cap l true _ hl (unhide hk') (unhide hd)).mono ?_
        rintro e w1 ⟨rfl, hb⟩
        go_wp2_with fail
        refine (by_any n true _ hnb).mono ?_
        rintro e w2 ⟨rfl, rfl⟩
        go_wp2_with fail
        refine (sreal_any a cap l i false _ hl ((unhide hk').below hb) (unhide hrd)).mono ?_
        rintro e w3 ⟨rfl, rfl⟩
        go_wp2
        exact bodyPost_ret (v := .tuple #[.slice (some ⟨w3.heap.size, 0, none⟩) 0 0, .bool false]) (by simp [results, Try.results43, go_sem]) rfl (edR_none (unhide hS) hb)
    · have hnb : (decide (-10000000 ≤ n) && decide (n ≤ 10000000)) = false := by
        have h1 : ¬ (-10000000 ≤ n ∧ n ≤ 10000000) := hn
        simp; omega
      have hS := hide (show slipS l i n = none from if_neg (fun h => hn h.2.1))
      clear hT hn
      go_enter Try.func43, Try.ntmps43
      go_wp2_with fail
      refine (strack_any a cap l true _ hl (unhide hk') (unhide hd)).mono ?_
      rintro e w1 ⟨rfl, hb⟩
      go_wp2_with fail
      refine (by_any n false _ hnb).mono ?_
      rintro e w2 ⟨rfl, rfl⟩
      go_wp2
      exact bodyPost_ret (v := .tuple #[.slice (some ⟨w2.heap.size, 0, none⟩) 0 0, .bool false]) (by simp [results, Try.results43, go_sem]) rfl (edR_none (unhide hS) hb)
  · have hd := hide (decide_eq_false hT)
    have hS := hide (show slipS l i n = none from if_neg (fun h => hT h.1))
    clear hT
    go_enter Try.func43, Try.ntmps43
    go_wp2_with fail
    refine (strack_any a cap l false _ hl (unhide hk') (unhide hd)).mono ?_
    rintro e w1 ⟨rfl, hb⟩
    go_wp2
    exact bodyPost_ret (v := .tuple #[.slice (some ⟨w1.heap.size, 0, none⟩) 0 0, .bool false]) (by simp [results, Try.results43, go_sem]) rfl (edR_none (unhide hS) hb)

set_option maxHeartbeats 3200000 in
theorem sripple_any (a : Option Addr) (cap : Nat) (l : List Kl) (i n : Int) (w : World) (hl : l.length ≤ maxLen) (hk : Kls w a l) :
    Calls Try.prog 45 #[.slice a l.length cap, .int .i64 i, .int .i64 n] w fun e w' => EdR w w' (rippleS l i n) e := by
  have hk' := hide hk
  clear hk
  by_cases hT : TOk l
  · have hd := hide (decide_eq_true hT)
    have hT' := hide hT
    have hL := hT.2.2
    have hl3 := hT.1
    by_cases hn : InR n (-10000000) 10000000
    · have hnb : (decide (-10000000 ≤ n) && decide (n ≤ 10000000)) = true := by
        have h1 := hn.1
        have h2 := hn.2
        simp; omega
      by_cases hr : real l i
      · have hrd := hide (decide_eq_true hr)
        obtain ⟨n0, n1⟩ := hn
        have i0 := hr.1
        have i1 := hr.2.1
        have hS : rippleS l i n = edit (l.set i.toNat (trimK (ck l i) 0 n)) := if_pos ⟨hT, ⟨n0, n1⟩, hr⟩
        obtain ⟨k, rfl⟩ : ∃ k : Nat, i = k := ⟨i.toNat, by omega⟩
        obtain ⟨⟨p1, p2, p3⟩, hp⟩ : ∃ p, l[k]? = some p := ⟨_, List.getElem?_eq_getElem (show k < l.length by omega)⟩
        have e1 : (k : Int).toNat = k := by omega
        have e2 : trimK (p1, p2, p3) 0 n = (p1, p2, p3 + n) := by unfold trimK; simp
        rw [e1, ck_at hp, e2] at hS
        have hS' := hide hS
        have hpc := hT.2.1 _ (List.mem_of_getElem? hp)
        obtain ⟨a1, a2, a3, a4, _⟩ := hpc
        simp only at a1 a2 a3 a4
        have hpp := hide hp
        clear hT hr hS hp e2
        go_enter Try.func45, Try.ntmps45
        go_wp2_with fail
        refine (strack_any a cap l true _ hl (unhide hk') (unhide hd)).mono ?_
        rintro e w1 ⟨rfl, hb⟩
        go_wp2_with fail
        refine (by_any n true _ hnb).mono ?_
        rintro e w2 ⟨rfl, rfl⟩
        go_wp2_with fail
        refine (sreal_any a cap l k true _ hl ((unhide hk').below hb) (unhide hrd)).mono ?_
        rintro e w3 ⟨rfl, rfl⟩
        have H1 := hide (below_lit hb (o := .cells #[] 26))
        have hz := hb.size
        have o1 := hide (own_lit0 w3 (Nat.le_refl _))
        have K1 := hide (((unhide hk').below hb).below ((Below.refl _ _).alloc (Nat.le_refl _) (.cells #[] 26)))
        clear hb hk'
        go_wp2_with (at_builtin; refine wpList_apps Try.underlying24 _ rfl _ _ rfl w3.heap.size (.slice (some ⟨w3.heap.size, 0, none⟩) 0 0) [] l a cap rfl (unhide o1) rfl (unhide K1) (fun h => (kls_some (unhide K1) (by omega) h).elim) (by simp) (by omega) (by simp) ?_)
        intro v w5 nv kv _
        obtain ⟨g, c, rfl⟩ := ownV_some nv (by omega)
        have ov := hide (show Own w5 w3.heap.size g l.length c l from nv)
        have H5 := hide ((unhide H1).trans (kv.mono hz))
        obtain ⟨x0, x1, x2⟩ := own_cells (unhide hpp) (unhide ov)
        have f0 := (unhide ov).frozenAt (k * 3 + 2)
        have hg : w.heap.size ≤ g := by have := own_ge (unhide ov); omega
        simp only at x0 x1 x2
        have oN := hide (own_ln (unhide hpp) (unhide ov) (p3 + n))
        have HN := hide ((unhide H5).setCell (p := ⟨g, k * 3 + 2, none⟩) hg (.int .i64 (p3 + n)))
        clear nv kv H1 o1 ov H5
        obtain ⟨M, hM⟩ : ∃ M, M = l.set k (p1, p2, p3 + n) := ⟨_, rfl⟩
        have hMl : l.length = M.length := by rw [hM]; simp
        have hM' := hide hM
        have oM : Hid (Own (w5.setCell ⟨g, k * 3 + 2, none⟩ (.int .i64 (p3 + n))) w3.heap.size g M.length c M) := hide (by have := unhide oN; simp only at this; rw [← unhide hM', hMl] at this; exact this)
        clear hM oN
        have hMl' := hide hMl
        have hM1 : M.length ≤ 1000 := by omega
        have hM1' := hide hM1
        clear hMl hM1
        go_wp2_with fail
        rw [unhide hMl']
        refine (sedit_any (some ⟨g, 0, none⟩) c M _ (unhide hM1') (kls_own (unhide oM))).mono ?_
        rintro e w6 hE
        obtain ⟨g', c', rfl, E⟩ := edR_from hE (unhide HN)
        rw [← unhide hMl']
        have hr2 := hide (show edit M = rippleS l k n by rw [unhide hS', unhide hM'])
        rw [unhide hr2] at E ⊢
        go_wp2
        exact bodyPost_ret (v := .tuple #[.slice (some ⟨g', 0, none⟩) (outL (rippleS l k n)).length c', .bool (rippleS l k n).isSome]) (by simp [results, Try.results45, go_sem]) rfl ⟨g', c', rfl, E⟩
      · have hrd := hide (decide_eq_false hr)
        have hS := hide (show rippleS l i n = none from if_neg (fun h => hr h.2.2))
        clear hT hr
        go_enter Try.func45, Try.ntmps45
        go_wp2_with fail
        refine (strack_any a cap l true _ hl (unhide hk') (unhide hd)).mono ?_
        rintro e w1 ⟨rfl, hb⟩
        go_wp2_with fail
        refine (by_any n true _ hnb).mono ?_
        rintro e w2 ⟨rfl, rfl⟩
        go_wp2_with fail
        refine (sreal_any a cap l i false _ hl ((unhide hk').below hb) (unhide hrd)).mono ?_
        rintro e w3 ⟨rfl, rfl⟩
        go_wp2
        exact bodyPost_ret (v := .tuple #[.slice (some ⟨w3.heap.size, 0, none⟩) 0 0, .bool false]) (by simp [results, Try.results45, go_sem]) rfl (edR_none (unhide hS) hb)
    · have hnb : (decide (-10000000 ≤ n) && decide (n ≤ 10000000)) = false := by
        have h1 : ¬ (-10000000 ≤ n ∧ n ≤ 10000000) := hn
        simp; omega
      have hS := hide (show rippleS l i n = none from if_neg (fun h => hn h.2.1))
      clear hT hn
      go_enter Try.func45, Try.ntmps45
      go_wp2_with fail
      refine (strack_any a cap l true _ hl (unhide hk') (unhide hd)).mono ?_
      rintro e w1 ⟨rfl, hb⟩
      go_wp2_with fail
      refine (by_any n false _ hnb).mono ?_
      rintro e w2 ⟨rfl, rfl⟩
      go_wp2
      exact bodyPost_ret (v := .tuple #[.slice (some ⟨w2.heap.size, 0, none⟩) 0 0, .bool false]) (by simp [results, Try.results45, go_sem]) rfl (edR_none (unhide hS) hb)
  · have hd := hide (decide_eq_false hT)
    have hS := hide (show rippleS l i n = none from if_neg (fun h => hT h.1))
    clear hT
    go_enter Try.func45, Try.ntmps45
    go_wp2_with fail
    refine (strack_any a cap l false _ hl (unhide hk') (unhide hd)).mono ?_
    rintro e w1 ⟨rfl, hb⟩
    go_wp2
    exact bodyPost_ret (v := .tuple #[.slice (some ⟨w1.heap.size, 0, none⟩) 0 0, .bool false]) (by simp [results, Try.results45, go_sem]) rfl (edR_none (unhide hS) hb)

end Go.Proofs.Ytnmahojdaodlgaa
