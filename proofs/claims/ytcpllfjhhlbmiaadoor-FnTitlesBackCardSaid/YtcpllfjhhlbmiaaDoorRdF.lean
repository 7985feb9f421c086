/-
  The reading of titles by the program, at a line of the words; nothing that was there is written.
-/
import Derived.Test.YtcpllfjhhlbmiaaDoorRdE
import Derived.Lib.OwnKind
namespace Go.Proofs.YtcpllfjhhlbmiaaDoor
open Go.RowKit
set_option linter.unusedVariables false
set_option linter.unusedSimpArgs false
theorem wpList_sb {ops : Array Oper} {rest : List Oper} {o : Oper} {a : Act} {Q : Exit → Act → World → Prop} (w : World) (hgd : o.guard = none) (sl x : Operand) (ho : o.op = .call { callee := .builtin .append, args := #[sl, x], argTypes := #[22, 9] })
    (B : Nat) (v : Value) (L l : List UInt8) (hs : a.eval sl = v) (hown : w.ownsRow B 5 1 v L.length (L.map bv)) (s : ByteArray) (hl : (⟨l.toArray⟩ : ByteArray) = s) (hx : a.eval x = .string s) (hlen : L.length + l.length ≤ 2000000) (hB : B ≤ w.heap.size)
    (L' : List UInt8) (hL' : L ++ l = L') (h : ∀ v' w', Hid (w'.ownsRow B 5 1 v' L'.length (L'.map bv)) → w.grownBy w' v.ownBlock → wpList Tryd.prog ops Q rest (a.put o.dst v') w') : wpList Tryd.prog ops Q (o :: rest) a w := by
  obtain ⟨ib, hi, hz0, hz1, hz2⟩ := info_parts infoB
  have hsz : s.size = l.length := by rw [← hl]; show l.toArray.size = _; simp
  exact Lib.wpList_append_own_string (P := Tryd.prog) w hgd sl x 22 9 ho B 5 ib Tryd.underlying22 Tryd.underlying9 hi hz0 hz1 hz2 v L.length (L.map bv) hs hown s hx (by unfold maxLen; omega) (by omega) hB (fun v' w' h2 h3 _ => h v' w' (hide (hL' ▸ row_app hl h2)) h3)
theorem Rw.app {w X Y : World} {q g c : Nat} {acc : List Kl} {v v' : Value} {ws ws' : List UInt8} {x y : Int} {s : ByteArray} (h : Rw w q g c acc v ws x y s X) (ho : Y.ownsRow w.heap.size 5 1 v' ws'.length (ws'.map bv)) (hg : X.grownBy Y v.ownBlock) : Rw w q g c acc v' ws' x y s Y := by
  obtain ⟨cs, fz, hk⟩ := Lib.ownsRow_kind h.own g rfl
  exact ⟨h.own.kept hg (.inr (fun e => own_ne h.row hk (by decide) g e.symm rfl)), ho, h.bel.grown hg h.bel.size (fun k hk => (h.row.lt k hk).1), okk_blk (okk_grown h.row hg) h.ttl (by decide), h.hq, h.ne⟩
theorem full_str {r : List UInt8} {s : ByteArray} (h : (⟨r.toArray⟩ : ByteArray) = s) (hr : r = []) : s.toList.isEmpty = true := by
  subst h hr; rw [Lib.toList_data]; rfl
set_option maxRecDepth 100000 in
set_option maxHeartbeats 6400000 in
theorem at2 {w W : World} {R : List Kl × Int} {q g c : Nat} {acc : List Kl} {e : Int} {a b : Nat} {r ws : List UInt8} {s sr : ByteArray} {v : Value} {t : Array Value} {J : Nat → Nat → Act → World → Prop} {Q : Exit → Act → World → Prop} (hM : MaxL w) (hT : Tab w) (hG : Go1 w R q J) (hQ : EndQ w R Q)
    (hA : At q g c acc.length v sr e t) (S : Rw w q g c acc v ws a b s W) (hr : (⟨r.toArray⟩ : ByteArray) = sr) (hl : ws.length + r.length ≤ 1048576) (hn : acc.length ≤ 200) (hL : L2 R acc a b ws r) : (X49 2).wp Tryd.prog (jmp J (2 * r.length) Q) ⟨t, []⟩ W := by
  obtain ⟨u, rfl⟩ := hA.split
  conv => arg 2; whnf
  have S0 := S
  have S := hide S
  clear S0
  have hG' := hide hG
  have hQ' := hide hQ
  clear hG hQ
  have hG := hG'
  have hQ := hQ'
  clear hG' hQ'
  have hL := hide hL
  cases hc : cutN r with
  | none =>
    have hR := hide (l2_none (unhide hL) hc)
    have cC := hide (cut_any hM (unhide S).bel hr (by omega) (by rw [cut_nl, hc]) hr rfl)
    clear hL hA hM hT hG hc
    go_wp2_with fail
    refine (unhide cC).mono ?_
    rintro e w1 ⟨rfl, kb⟩
    have S := hide ((unhide S).later kb)
    clear kb
    go_wp2
    rw [jmp_ret]
    exact unhide hQ _ _ _ _ acc _ rfl rfl (unhide hR) hn (unhide S).own (unhide S).bel
  | some p =>
    obtain ⟨l, r1⟩ := p
    have hlen := cutN_len hc
    obtain ⟨sl, hsl⟩ : ∃ z, (⟨l.toArray⟩ : ByteArray) = z := ⟨_, rfl⟩
    obtain ⟨s1, hs1⟩ : ∃ z, (⟨r1.toArray⟩ : ByteArray) = z := ⟨_, rfl⟩
    have cC := hide (cut_any hM (unhide S).bel hr (by omega) (by rw [cut_nl, hc]) hsl hs1)
    by_cases hx : l = []
    · have hJ := hide (l2_empty (unhide hL) (by rw [hc, hx]))
      have he := full_str hsl hx
      clear hL hA hM hT hQ hc hx
      go_wp2_with fail
      refine (unhide cC).mono ?_
      rintro e w1 ⟨rfl, kb⟩
      have S := hide ((unhide S).later kb)
      clear kb
      go_wp2
      go_step3
      show ∃ n', n' < 2 * r.length ∧ J 3 n' _ _
      exact ⟨2 * r1.length + 1, by omega, (unhide hG).j3 ⟨rfl, rfl, rfl, rfl, rfl, rfl⟩ (unhide S) hs1 (by omega) hn (unhide hJ)⟩
    · have hJ := hide (l2_more (unhide hL) hc hx)
      have he := empty_str hsl hx
      obtain ⟨Wa, hWa⟩ : ∃ z, ws ++ l = z := ⟨_, rfl⟩
      obtain ⟨Wb, hWb⟩ : ∃ z, Wa ++ [10] = z := ⟨_, rfl⟩
      have hWl := hide (show Wa.length = ws.length + l.length by rw [← hWa]; simp)
      have hWm := hide (show Wb.length = Wa.length + 1 by rw [← hWb]; simp)
      rw [hWa, hWb] at hJ
      clear hL hA hM hT hQ hc hx
      go_wp2_with fail
      refine (unhide cC).mono ?_
      rintro e w1 ⟨rfl, kb⟩
      have S := hide ((unhide S).later kb)
      clear kb
      go_wp2_with (at_builtin; refine wpList_sb _ rfl _ _ rfl w.heap.size _ ws l rfl (unhide S).row sl hsl rfl (by (try simp only [List.length_append, List.length_cons, List.length_nil]); have h7 := unhide hWl; have h8 := unhide hWm; omega) (unhide S).bel.size Wa hWa ?_)
      intro v2 w2 ho2 hg2
      have S := hide ((unhide S).app (unhide ho2) hg2)
      clear ho2 hg2
      go_wp2_with (at_builtin; refine wpList_sb _ rfl _ _ rfl w.heap.size _ Wa [10] rfl (unhide S).row ⟨#[10]⟩ rfl rfl (by (try simp only [List.length_append, List.length_cons, List.length_nil]); have h7 := unhide hWl; have h8 := unhide hWm; omega) (unhide S).bel.size Wb hWb ?_)
      intro v3 w3 ho3 hg3
      have S := hide ((unhide S).app (unhide ho3) hg3)
      clear ho3 hg3
      go_wp2
      try go_step3
      show ∃ n', n' < 2 * r.length ∧ J 2 n' _ _
      exact ⟨2 * r1.length, by omega, (unhide hG).j2 ⟨rfl, rfl, rfl, rfl, rfl, rfl⟩ (unhide S) hs1 (by have h7 := unhide hWl; have h8 := unhide hWm; omega) hn (unhide hJ)⟩

end Go.Proofs.YtcpllfjhhlbmiaaDoor
