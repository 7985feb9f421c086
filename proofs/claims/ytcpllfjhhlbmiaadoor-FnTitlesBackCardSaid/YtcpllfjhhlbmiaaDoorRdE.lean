/-
  The reading of titles by the program, at the line of the times; nothing that was there is written.
-/
import Derived.Test.YtcpllfjhhlbmiaaDoorRdD
import Derived.Lib.OwnKind
namespace Go.Proofs.YtcpllfjhhlbmiaaDoor
open Go.RowKit
set_option linter.unusedVariables false
set_option linter.unusedSimpArgs false
theorem own_set {W : World} {B n m q i : Nat} {e : TypeId} {v u : Value} {xs : List Value} (ho : W.ownsRow B e m v n xs) (hne : ∀ g, v.ownBlock = some g → g ≠ q) : (W.setCell ⟨q, i, none⟩ u).ownsRow B e m v n xs := by
  obtain ⟨h1, h2⟩ := ho
  refine ⟨h1, ?_⟩
  rcases h2 with h2 | ⟨g, cap, cur, hv, hg, hh, r⟩
  · exact .inl h2
  · refine .inr ⟨g, cap, cur, hv, hg, ?_, r⟩
    rw [heap_set_ne (hne g (by rw [hv]; rfl))]; exact hh
theorem own_ne {W : World} {B n m q : Nat} {e T : TypeId} {v : Value} {xs : List Value} {cs : Array Value} {fz : Nat × Nat} (ho : W.ownsRow B e m v n xs) (hq : W.heap[q]? = some (.cells cs T fz)) (hT : T ≠ e) : ∀ g, v.ownBlock = some g → g ≠ q := by
  intro g hg e'
  obtain ⟨c, fz', h⟩ := Lib.ownsRow_kind ho g hg
  subst e'
  rw [hq] at h
  injection h with h
  injection h with _ h _
  exact hT h
theorem Rw.put {w W : World} {q g c : Nat} {acc : List Kl} {v : Value} {ws : List UInt8} {x y x' y' : Int} {s s' : ByteArray} (h : Rw w q g c acc v ws x y s W) : Rw w q g c acc v ws x' y' s' (((W.setCell ⟨q, 0, none⟩ (.int .i64 x')).setCell ⟨q, 1, none⟩ (.int .i64 y')).setCell ⟨q, 2, none⟩ (.string s')) := by
  have n1 : ∀ g', (Value.slice (some ⟨g, 0, none⟩) acc.length c).ownBlock = some g' → g' ≠ q := by
    intro g' hg; simp [Value.ownBlock] at hg; have := h.ne; omega
  have n2 := own_ne h.row h.ttl (by decide)
  exact ⟨own_set (own_set (own_set h.own n1) n1) n1, own_set (own_set (own_set h.row n2) n2) n2, set3 h.bel h.hq, put3 h.ttl, h.hq, h.ne⟩
theorem Rw.cut0 {w W : World} {q g c g6 n6 c6 : Nat} {acc : List Kl} {ws : List UInt8} {x y : Int} {s : ByteArray} (h : Rw w q g c acc (.slice (some ⟨g6, 0, none⟩) n6 c6) ws x y s W) : Rw w q g c acc (.slice (some ⟨g6, 0, none⟩) 0 c6) [] x y s W := by
  refine ⟨h.own, ⟨rfl, .inr ?_⟩, h.bel, h.ttl, h.hq, h.ne⟩
  rcases h.row.2 with h2 | ⟨g, cap, cur, hv, hg, hh, h3, h4, h5, h6⟩
  · exact absurd h2.1 (by simp)
  · injection hv with h7 h8 h9
    injection h7 with h7
    injection h7 with h7 _ _
    subst h7 h9
    exact ⟨g6, c6, cur, rfl, hg, hh, Nat.zero_le _, h4, h5, by simp⟩
theorem Rw.cutn {w W : World} {q g c : Nat} {acc : List Kl} {ws : List UInt8} {x y : Int} {s : ByteArray} (h : Rw w q g c acc (.slice none 0 0) ws x y s W) : Rw w q g c acc (.slice none 0 0) [] x y s W :=
  ⟨h.own, World.ownsRow_nil _ _ _ _, h.bel, h.ttl, h.hq, h.ne⟩
set_option maxRecDepth 100000 in
set_option maxHeartbeats 6400000 in
theorem at1 {w W : World} {R : List Kl × Int} {q g c : Nat} {acc : List Kl} {e x y : Int} {r ws : List UInt8} {s sr : ByteArray} {v : Value} {t : Array Value} {J : Nat → Nat → Act → World → Prop} {Q : Exit → Act → World → Prop} (hM : MaxL w) (hT : Tab w) (hG : Go1 w R q J) (hQ : EndQ w R Q)
    (hA : At q g c acc.length v sr e t) (S : Rw w q g c acc v ws x y s W) (hr : (⟨r.toArray⟩ : ByteArray) = sr) (hl : r.length ≤ 1048576) (hn : acc.length ≤ 200) (hL : L1 R acc e r) : (X49 1).wp Tryd.prog (jmp J (2 * r.length) Q) ⟨t, []⟩ W := by
  obtain ⟨u, rfl⟩ := hA.split
  conv => arg 2; whnf
  have S0 := S
  have S := hide S
  clear S0
  have hG' := hide hG
  have hQ' := hide hQ
  clear hG hQ
  have hG := hG'
  have hQ := hQ'
  clear hG' hQ'
  have hL := hide hL
  have hqs := lt_blk (unhide S).ttl
  cases hc : cutN r with
  | none =>
    have hR := hide (l1_none (unhide hL) hc)
    have cC := hide (cut_any hM (unhide S).bel hr hl (by rw [cut_nl, hc]) hr rfl)
    obtain ⟨a0, b0, k0, ht⟩ : ∃ a b k, toP r = (a, b, k) := ⟨_, _, _, rfl⟩
    have cT := hide (fun w' (h : Below w.heap.size w w') => itm_any sr r a0 b0 k0 w' (by rw [← hr]; show r.toArray.size ≤ _; simpa using hl) (by rw [← hr]) (hM.below h) ht)
    clear hL hA hM hT hG hc ht
    go_wp2_with fail
    refine (unhide cC).mono ?_
    rintro e w1 ⟨rfl, kb⟩
    have S := hide ((unhide S).later kb)
    clear kb
    go_wp2_with fail
    refine (unhide cT _ (unhide S).bel).mono ?_
    rintro e w2 ⟨rfl, kb⟩
    have S := hide ((unhide S).later kb)
    clear kb
    clear cC cT
    obtain ⟨c0, c1, c2⟩ := blk3 (unhide S).ttl
    have f0 := Lib.frozen_of_heap (unhide S).ttl 0
    have f1 := Lib.frozen_of_heap (unhide S).ttl 1
    have f2 := Lib.frozen_of_heap (unhide S).ttl 2
    have S := hide ((unhide S).put (x' := a0) (y' := b0) (s' := ⟨#[]⟩))
    go_wp2
    rw [jmp_ret]
    exact unhide hQ _ _ _ _ acc _ rfl rfl (unhide hR) hn (unhide S).own (unhide S).bel
  | some p =>
    obtain ⟨l, r1⟩ := p
    have hlen := cutN_len hc
    obtain ⟨sl, hsl⟩ : ∃ z, (⟨l.toArray⟩ : ByteArray) = z := ⟨_, rfl⟩
    obtain ⟨s1, hs1⟩ : ∃ z, (⟨r1.toArray⟩ : ByteArray) = z := ⟨_, rfl⟩
    have cC := hide (cut_any hM (unhide S).bel hr hl (by rw [cut_nl, hc]) hsl hs1)
    obtain ⟨a0, b0, k0, ht⟩ : ∃ a b k, toP l = (a, b, k) := ⟨_, _, _, rfl⟩
    have cT := hide (fun w' (h : Below w.heap.size w w') => itm_any sl l a0 b0 k0 w' (by rw [← hsl]; show l.toArray.size ≤ _; simp; omega) (by rw [← hsl]) (hM.below h) ht)
    cases hm : tms l with
    | none =>
      have hR := hide (l1_bad (unhide hL) hc hm)
      have hk := toP_none hm
      rw [ht] at hk
      simp only at hk
      subst hk
      clear hL hA hM hT hG hc ht hm
      go_wp2_with fail
      refine (unhide cC).mono ?_
      rintro e w1 ⟨rfl, kb⟩
      have S := hide ((unhide S).later kb)
      clear kb
      go_wp2_with fail
      refine (unhide cT _ (unhide S).bel).mono ?_
      rintro e w2 ⟨rfl, kb⟩
      have S := hide ((unhide S).later kb)
      clear kb
      clear cC cT
      obtain ⟨c0, c1, c2⟩ := blk3 (unhide S).ttl
      have f0 := Lib.frozen_of_heap (unhide S).ttl 0
      have f1 := Lib.frozen_of_heap (unhide S).ttl 1
      have f2 := Lib.frozen_of_heap (unhide S).ttl 2
      have S := hide ((unhide S).put (x' := a0) (y' := b0) (s' := ⟨#[]⟩))
      go_wp2
      rw [jmp_ret]
      exact unhide hQ _ _ _ _ acc _ rfl rfl (unhide hR) hn (unhide S).own (unhide S).bel
    | some p =>
      obtain ⟨a, b⟩ := p
      have hk := toP_some hm
      rw [ht] at hk
      simp only [Prod.mk.injEq] at hk
      obtain ⟨rfl, rfl, rfl⟩ := hk
      obtain ⟨tv, htv⟩ : ∃ z, (decide (e ≤ (a : Int)) && decide ((a : Int) < b)) = z := ⟨_, rfl⟩
      have cU := hide (fun w => turn_any a b e ⟨#[]⟩ tv w htv)
      have hfm := Joins.ownsRow_forms (unhide S).row
      cases tv
      · have hR := hide (l1_turn (unhide hL) hc hm (by simpa using htv))
        clear hL hA hM hT hG hc ht hm htv
        rcases hfm with ⟨rfl, _⟩ | ⟨g6, c6, rfl⟩
        · skip
          go_wp2_with fail
          refine (unhide cC).mono ?_
          rintro e w1 ⟨rfl, kb⟩
          have S := hide ((unhide S).later kb)
          clear kb
          go_wp2_with fail
          refine (unhide cT _ (unhide S).bel).mono ?_
          rintro e w2 ⟨rfl, kb⟩
          have S := hide ((unhide S).later kb)
          clear kb
          clear cC cT
          obtain ⟨c0, c1, c2⟩ := blk3 (unhide S).ttl
          have f0 := Lib.frozen_of_heap (unhide S).ttl 0
          have f1 := Lib.frozen_of_heap (unhide S).ttl 1
          have f2 := Lib.frozen_of_heap (unhide S).ttl 2
          have S := hide ((unhide S).put (x' := a) (y' := b) (s' := ⟨#[]⟩))
          go_wp2_with fail
          have S := hide (unhide S).cutn
          generalize (((w2.setCell ⟨q, 0, none⟩ (.int .i64 a)).setCell ⟨q, 1, none⟩ (.int .i64 b)).setCell ⟨q, 2, none⟩ (.string ⟨#[]⟩)) = W2 at *
          clear c0 c1 c2 f0 f1 f2
          obtain ⟨c0, c1, c2⟩ := blk3 (unhide S).ttl
          go_wp2_with fail
          refine (unhide cU _).mono ?_
          rintro e w3 ⟨rfl, kb⟩
          have S := hide ((unhide S).later kb)
          clear kb
          go_wp2
          rw [jmp_ret]
          exact unhide hQ _ _ _ _ acc _ rfl rfl (unhide hR) hn (unhide S).own (unhide S).bel
        · skip
          go_wp2_with fail
          refine (unhide cC).mono ?_
          rintro e w1 ⟨rfl, kb⟩
          have S := hide ((unhide S).later kb)
          clear kb
          go_wp2_with fail
          refine (unhide cT _ (unhide S).bel).mono ?_
          rintro e w2 ⟨rfl, kb⟩
          have S := hide ((unhide S).later kb)
          clear kb
          clear cC cT
          obtain ⟨c0, c1, c2⟩ := blk3 (unhide S).ttl
          have f0 := Lib.frozen_of_heap (unhide S).ttl 0
          have f1 := Lib.frozen_of_heap (unhide S).ttl 1
          have f2 := Lib.frozen_of_heap (unhide S).ttl 2
          have S := hide ((unhide S).put (x' := a) (y' := b) (s' := ⟨#[]⟩))
          go_wp2_with fail
          have S := hide (unhide S).cut0
          generalize (((w2.setCell ⟨q, 0, none⟩ (.int .i64 a)).setCell ⟨q, 1, none⟩ (.int .i64 b)).setCell ⟨q, 2, none⟩ (.string ⟨#[]⟩)) = W2 at *
          clear c0 c1 c2 f0 f1 f2
          obtain ⟨c0, c1, c2⟩ := blk3 (unhide S).ttl
          go_wp2_with fail
          refine (unhide cU _).mono ?_
          rintro e w3 ⟨rfl, kb⟩
          have S := hide ((unhide S).later kb)
          clear kb
          go_wp2
          rw [jmp_ret]
          exact unhide hQ _ _ _ _ acc _ rfl rfl (unhide hR) hn (unhide S).own (unhide S).bel
      · have hJ := hide (l1_ok (unhide hL) hc hm (by simpa using htv))
        clear hL hA hM hT hQ hc ht hm htv
        rcases hfm with ⟨rfl, _⟩ | ⟨g6, c6, rfl⟩
        · skip
          go_wp2_with fail
          refine (unhide cC).mono ?_
          rintro e w1 ⟨rfl, kb⟩
          have S := hide ((unhide S).later kb)
          clear kb
          go_wp2_with fail
          refine (unhide cT _ (unhide S).bel).mono ?_
          rintro e w2 ⟨rfl, kb⟩
          have S := hide ((unhide S).later kb)
          clear kb
          clear cC cT
          obtain ⟨c0, c1, c2⟩ := blk3 (unhide S).ttl
          have f0 := Lib.frozen_of_heap (unhide S).ttl 0
          have f1 := Lib.frozen_of_heap (unhide S).ttl 1
          have f2 := Lib.frozen_of_heap (unhide S).ttl 2
          have S := hide ((unhide S).put (x' := a) (y' := b) (s' := ⟨#[]⟩))
          go_wp2_with fail
          have S := hide (unhide S).cutn
          generalize (((w2.setCell ⟨q, 0, none⟩ (.int .i64 a)).setCell ⟨q, 1, none⟩ (.int .i64 b)).setCell ⟨q, 2, none⟩ (.string ⟨#[]⟩)) = W2 at *
          clear c0 c1 c2 f0 f1 f2
          obtain ⟨c0, c1, c2⟩ := blk3 (unhide S).ttl
          go_wp2_with fail
          refine (unhide cU _).mono ?_
          rintro e w3 ⟨rfl, kb⟩
          have S := hide ((unhide S).later kb)
          clear kb
          go_wp2
          go_step3
          show ∃ n', n' < 2 * r.length ∧ J 2 n' _ _
          exact ⟨2 * r1.length, by omega, (unhide hG).j2 ⟨rfl, rfl, rfl, rfl, rfl, rfl⟩ (unhide S) hs1 (by simp; omega) hn (unhide hJ)⟩
        · skip
          go_wp2_with fail
          refine (unhide cC).mono ?_
          rintro e w1 ⟨rfl, kb⟩
          have S := hide ((unhide S).later kb)
          clear kb
          go_wp2_with fail
          refine (unhide cT _ (unhide S).bel).mono ?_
          rintro e w2 ⟨rfl, kb⟩
          have S := hide ((unhide S).later kb)
          clear kb
          clear cC cT
          obtain ⟨c0, c1, c2⟩ := blk3 (unhide S).ttl
          have f0 := Lib.frozen_of_heap (unhide S).ttl 0
          have f1 := Lib.frozen_of_heap (unhide S).ttl 1
          have f2 := Lib.frozen_of_heap (unhide S).ttl 2
          have S := hide ((unhide S).put (x' := a) (y' := b) (s' := ⟨#[]⟩))
          go_wp2_with fail
          have S := hide (unhide S).cut0
          generalize (((w2.setCell ⟨q, 0, none⟩ (.int .i64 a)).setCell ⟨q, 1, none⟩ (.int .i64 b)).setCell ⟨q, 2, none⟩ (.string ⟨#[]⟩)) = W2 at *
          clear c0 c1 c2 f0 f1 f2
          obtain ⟨c0, c1, c2⟩ := blk3 (unhide S).ttl
          go_wp2_with fail
          refine (unhide cU _).mono ?_
          rintro e w3 ⟨rfl, kb⟩
          have S := hide ((unhide S).later kb)
          clear kb
          go_wp2
          go_step3
          show ∃ n', n' < 2 * r.length ∧ J 2 n' _ _
          exact ⟨2 * r1.length, by omega, (unhide hG).j2 ⟨rfl, rfl, rfl, rfl, rfl, rfl⟩ (unhide S) hs1 (by simp; omega) hn (unhide hJ)⟩

end Go.Proofs.YtcpllfjhhlbmiaaDoor
