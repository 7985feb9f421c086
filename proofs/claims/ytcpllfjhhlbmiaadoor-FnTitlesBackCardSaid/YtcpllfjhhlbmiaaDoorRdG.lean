/-
  The reading of titles by the program, behind the words of a title; nothing that was there is written.
-/
import Derived.Test.YtcpllfjhhlbmiaaDoorRdF
import Derived.Test.YtcpllfjhhlbmiaaDoorDlI
import Derived.Lib.OwnKind
namespace Go.Proofs.YtcpllfjhhlbmiaaDoor
open Go.RowKit
set_option linter.unusedVariables false
set_option linter.unusedSimpArgs false
theorem wpList_t {ops : Array Oper} {rest : List Oper} {o : Oper} {a : Act} {Q : Exit → Act → World → Prop} (w : World) (hgd : o.guard = none) (s x : Operand) (ho : o.op = .call { callee := .builtin .append, args := #[s, x], argTypes := #[24, 24] })
    (B g n cap : Nat) (L : List Kl) (v : Kl) (hs : a.eval s = .slice (some ⟨g, 0, none⟩) n cap) (hown : Own w B g n cap L) (E : Nat) (hx : a.eval x = .slice (some ⟨E, 0, none⟩) 1 1)
    (hblk : w.heap[E]? = some (.cells #[.int .i64 v.1, .int .i64 v.2.1, .string v.2.2] 32 (0, 0))) (hl : n ≤ 1000000) (hB : B ≤ w.heap.size)
    (h : ∀ g' cap' w', Own w' B g' (n + 1) cap' (L ++ [v]) → w.grownBy w' (some g) → (g = g' ∨ g' = w.heap.size) → g' < w'.heap.size → wpList Tryd.prog ops Q rest (a.put o.dst (.slice (some ⟨g', 0, none⟩) (n + 1) cap')) w') : wpList Tryd.prog ops Q (o :: rest) a w :=
  wpList_plain hgd fun K hK => wp_t w s x ho B g n cap L v hs hown E hx hblk hl hB (fun g' cap' w' h1 h2 h3 h4 => hK _ _ (h g' cap' w' h1 h2 h3 h4))
theorem Rw.push {w W Y : World} {q g c g' c' : Nat} {acc P : List Kl} {v : Value} {ws : List UInt8} {x y : Int} {s : ByteArray} {o : Obj} (h : Rw w q g c acc v ws x y s W) (ho : Own Y w.heap.size g' P.length c' P) (hg : (W.alloc o).grownBy Y (some g)) (hor : g = g' ∨ g' = (W.alloc o).heap.size) : Rw w q g' c' P v ws x y s Y := by
  obtain ⟨cs, fz, hk⟩ := Lib.ownsRow_kind (h.own.alloc o) g rfl
  have hq1 : q < (W.alloc o).heap.size := lt_blk (blk_below h.ttl ((Below.refl _ _).alloc (Nat.le_refl _) o))
  refine ⟨ho, (h.row.alloc o).kept hg (.inr (fun e => own_ne (h.row.alloc o) hk (by decide) g e rfl)), (h.bel.alloc h.bel.size o).grown hg (h.bel.alloc h.bel.size o).size (fun k hk => by injection hk with hk; have := own_ge h.own; omega), ?_, h.hq, ?_⟩
  · rw [hg.block q hq1 (by intro e; injection e with e; exact h.ne e)]
    exact blk_below h.ttl ((Below.refl _ _).alloc (Nat.le_refl _) o)
  · rcases hor with h1 | h1
    · rw [← h1]; exact h.ne
    · omega
theorem Rw.text {w W : World} {q g c : Nat} {acc : List Kl} {v : Value} {ws : List UInt8} {x y : Int} {s s' : ByteArray} (h : Rw w q g c acc v ws x y s W) : Rw w q g c acc v ws x y s' (W.setCell ⟨q, 2, none⟩ (.string s')) := by
  have n1 : ∀ g', (Value.slice (some ⟨g, 0, none⟩) acc.length c).ownBlock = some g' → g' ≠ q := by
    intro g' hg; simp [Value.ownBlock] at hg; have := h.ne; omega
  have n2 := own_ne h.row h.ttl (by decide)
  exact ⟨own_set h.own n1, own_set h.row n2, h.bel.setCell (p := ⟨q, 2, none⟩) h.hq _, by simp [World.setCell, h.ttl, Array.getElem?_modify], h.hq, h.ne⟩
theorem trm_len (ws : List UInt8) : (trm ws).length ≤ ws.length := by
  unfold trm Lib.trimSuffix
  split
  · simp
  · exact Nat.le_refl _
set_option maxRecDepth 100000 in
set_option maxHeartbeats 6400000 in
theorem at3 {w W : World} {R : List Kl × Int} {q g c : Nat} {acc : List Kl} {e : Int} {a b : Nat} {r ws : List UInt8} {s sr : ByteArray} {v : Value} {t : Array Value} {J : Nat → Nat → Act → World → Prop} {Q : Exit → Act → World → Prop} (hM : MaxL w) (hT : Tab w) (hG : Go1 w R q J) (hQ : EndQ w R Q)
    (hA : At q g c acc.length v sr e t) (S : Rw w q g c acc v ws a b s W) (hr : (⟨r.toArray⟩ : ByteArray) = sr) (hl : ws.length + r.length ≤ 1048576) (hn : acc.length ≤ 200) (hL : L3 R acc a b ws r) : (X49 3).wp Tryd.prog (jmp J (2 * r.length + 1) Q) ⟨t, []⟩ W := by
  obtain ⟨u, rfl⟩ := hA.split
  conv => arg 2; whnf
  have S0 := S
  have S := hide S
  clear S0
  have hG' := hide hG
  have hQ' := hide hQ
  clear hG hQ
  have hG := hG'
  have hQ := hQ'
  clear hG' hQ'
  have hL := hide hL
  obtain ⟨sw, hsw⟩ : ∃ z, (⟨ws.toArray⟩ : ByteArray) = z := ⟨_, rfl⟩
  obtain ⟨st, hst⟩ : ∃ z, (⟨(trm ws).toArray⟩ : ByteArray) = z := ⟨_, rfl⟩
  have hcv := conv_own (unhide S).row
  rw [hsw] at hcv
  have htl := trm_len ws
  obtain ⟨tv, htv⟩ : ∃ z, txOk (trm ws) = z := ⟨_, rfl⟩
  have cS := hide (fun w => Tryd.strings_TrimSuffix sw ⟨#[10]⟩ w (by rw [← hsw]; show ws.toArray.size ≤ _; simp; omega))
  rw [show Lib.trimSuffix sw.data.toList (⟨#[10]⟩ : ByteArray).data.toList = trm ws by rw [← hsw]; rfl, hst] at cS
  have cX := hide (fun w' (h : Below w.heap.size w w') => itext_any st tv w' (by rw [← hst]; show (trm ws).toArray.size ≤ _; simp; omega) (hM.below h) (by rw [← hst]; exact htv))
  cases tv
  · have hR := hide (l3_text (unhide hL) htv)
    clear hL hA hM hT hG htv
    go_wp2_with fail
    refine (unhide cS _).mono ?_
    rintro e w1 ⟨rfl, rfl⟩
    obtain ⟨c0, c1, c2⟩ := blk3 (unhide S).ttl
    have f0 := Lib.frozen_of_heap (unhide S).ttl 0
    have f1 := Lib.frozen_of_heap (unhide S).ttl 1
    have f2 := Lib.frozen_of_heap (unhide S).ttl 2
    have S := hide ((unhide S).text (s' := st))
    obtain ⟨d0, d1, d2⟩ := blk3 (unhide S).ttl
    go_wp2_with fail
    generalize W9 : (World.setCell _ ⟨q, 2, none⟩ (.string st)) = W2 at *
    clear c0 c1 c2 f0 f1 f2 W9 hcv
    refine (unhide cX _ (unhide S).bel).mono ?_
    rintro e w3 ⟨rfl, kb⟩
    have S := hide ((unhide S).later kb)
    clear kb cX cS d0 d1 d2
    go_wp2
    rw [jmp_ret]
    exact unhide hQ _ _ _ _ acc _ rfl rfl (unhide hR) hn (unhide S).own (unhide S).bel
  by_cases h2 : acc.length = 200
  · have hR := hide (l3_many (unhide hL) htv h2)
    have h2i : (((acc.length : Nat) : Int) == 200) = true := by rw [h2]; rfl
    clear hL hA hM hT hG htv h2
    go_wp2_with fail
    refine (unhide cS _).mono ?_
    rintro e w1 ⟨rfl, rfl⟩
    obtain ⟨c0, c1, c2⟩ := blk3 (unhide S).ttl
    have f0 := Lib.frozen_of_heap (unhide S).ttl 0
    have f1 := Lib.frozen_of_heap (unhide S).ttl 1
    have f2 := Lib.frozen_of_heap (unhide S).ttl 2
    have S := hide ((unhide S).text (s' := st))
    obtain ⟨d0, d1, d2⟩ := blk3 (unhide S).ttl
    go_wp2_with fail
    generalize W9 : (World.setCell _ ⟨q, 2, none⟩ (.string st)) = W2 at *
    clear c0 c1 c2 f0 f1 f2 W9 hcv
    refine (unhide cX _ (unhide S).bel).mono ?_
    rintro e w3 ⟨rfl, kb⟩
    have S := hide ((unhide S).later kb)
    clear kb cX cS d0 d1 d2
    go_wp2
    rw [jmp_ret]
    exact unhide hQ _ _ _ _ acc _ rfl rfl (unhide hR) hn (unhide S).own (unhide S).bel
  have h2i : (((acc.length : Nat) : Int) == 200) = false := by rw [beq_eq_false_iff_ne]; omega
  have hJ := hide (l3_ok (unhide hL) htv h2)
  rw [hst] at hJ
  obtain ⟨P, hP⟩ : ∃ P, acc ++ [((a : Int), (b : Int), st)] = P := ⟨_, rfl⟩
  have hPl : P.length = acc.length + 1 := by rw [← hP]; simp
  rw [hP] at hJ
  clear hL hA hM hT hQ htv
  go_wp2_with fail
  refine (unhide cS _).mono ?_
  rintro e w1 ⟨rfl, rfl⟩
  obtain ⟨c0, c1, c2⟩ := blk3 (unhide S).ttl
  have f0 := Lib.frozen_of_heap (unhide S).ttl 0
  have f1 := Lib.frozen_of_heap (unhide S).ttl 1
  have f2 := Lib.frozen_of_heap (unhide S).ttl 2
  have S := hide ((unhide S).text (s' := st))
  obtain ⟨d0, d1, d2⟩ := blk3 (unhide S).ttl
  go_wp2_with fail
  generalize W9 : (World.setCell _ ⟨q, 2, none⟩ (.string st)) = W2 at *
  clear c0 c1 c2 f0 f1 f2 W9 hcv
  refine (unhide cX _ (unhide S).bel).mono ?_
  rintro e w3 ⟨rfl, kb⟩
  have S := hide ((unhide S).later kb)
  clear kb cX cS d0 d1 d2
  obtain ⟨c0, c1, c2⟩ := blk3 (unhide S).ttl
  have f0 := Lib.frozen_of_heap (unhide S).ttl 0
  have f1 := Lib.frozen_of_heap (unhide S).ttl 1
  have f2 := Lib.frozen_of_heap (unhide S).ttl 2
  have z3 := (unhide S).bel.size
  have eS := alloc_new w3 (.cells #[.int .i64 a, .int .i64 b, .string st] 32)
  go_wp2_with (at_builtin; refine wpList_t _ rfl _ _ rfl w.heap.size g acc.length c acc ((a : Int), (b : Int), st) rfl ((unhide S).own.alloc _) w3.heap.size rfl eS (by omega) (by simp; omega) ?_)
  intro g' c' w4 ho4 hg4 hor hlt
  have S := hide ((unhide S).push (P := P) (by rw [hPl]; exact ho4) hg4 (by simpa using hor))
  clear ho4 hg4 hor hlt eS c0 c1 c2 f0 f1 f2
  obtain ⟨c0, c1, c2⟩ := blk3 (unhide S).ttl
  go_wp2
  try go_step3
  show ∃ n', n' < 2 * r.length + 1 ∧ J 0 n' _ _
  exact ⟨2 * r.length, by omega, (unhide hG).j0 ⟨rfl, by rw [hPl]; rfl, rfl, rfl, rfl, rfl⟩ (unhide S) hr (by omega) (by omega) (unhide hJ)⟩

end Go.Proofs.YtcpllfjhhlbmiaaDoor
