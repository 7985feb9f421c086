/-
  What is left of a reel behind told ones: the program's function and its contract.
-/
import Derived.Test.YtfbifffmieimoaaRlA
import Derived.Test.YtfbifffmieimoaaTrk
namespace Go.Proofs.Ytfbifffmieimoaa.Rl
open Go.RowKit
open Go.Proofs.Ytfbifffmieimoaa
set_option linter.unusedVariables false
set_option linter.unusedSimpArgs false

/-- one reel more behind an owned list: all blocks but its row stand -/
theorem wpList_kg {T : TypeId} (hT : Try.prog.underlying T = some (.slice 34)) {ops : Array Oper} {rest : List Oper} {o : Oper} {a : Act} {Q : Exit → Act → World → Prop} {X : World} {v1 v2 v3 : Int} (hgd : o.guard = none) (s x : Operand) (ho : o.op = .call { callee := .builtin .append, args := #[s, x], argTypes := #[T, T] })
    (B g n cap : Nat) (L : List Kl) (hs : a.eval s = .slice (some ⟨g, 0, none⟩) n cap) (hown : Own X B g n cap L) (E : Nat) (hE : X.heap.size = E) (hx : a.eval x = .slice (some ⟨E, 0, none⟩) 1 1)
    (hl : n ≤ 1000000)
    (h : ∀ g' cap' w', Own w' B g' (n + 1) cap' (L ++ [(v1, v2, v3)]) → X.grownBy w' (some g) → B ≤ g' → wpList Try.prog ops Q rest (a.put o.dst (.slice (some ⟨g', 0, none⟩) (n + 1) cap')) w') : wpList Try.prog ops Q (o :: rest) a (X.alloc (.cells #[.int .i64 v1, .int .i64 v2, .int .i64 v3] 34)) := by
  subst hE
  obtain ⟨i0, hi, hz0, hz1, hz2⟩ := info_parts info44
  have hBg : B ≤ g := (hown.lt g rfl).1
  have hgX : g < X.heap.size := own_lt hown
  have hal : Below X.heap.size X (X.alloc (.cells #[.int .i64 v1, .int .i64 v2, .int .i64 v3] 34)) := (Below.refl _ _).alloc (Nat.le_refl _) _
  refine wpList_append_lies _ hgd s x T ho B 34 i0 (.agg #[.int .i64 0, .int .i64 0, .int .i64 0]) 3 24 hT hi hz0 hz1 hz2 rfl (by decide) _ n (flK L) hs (ownsRow_below hown hal) ⟨X.heap.size, 0, none⟩ 1 1 [iv v1, iv v2, iv v3] hx rfl (K_news (c := (v1, v2, v3)) (heap_alloc_new X _)) (by intro u hu; simp at hu; rcases hu with rfl | rfl | rfl <;> rfl) (by decide) (by unfold maxLen; omega) (by omega) (by have := hal.size; omega) _ rfl ?_
  intro g' cap' w' h1 h2 h3 h4
  refine h g' cap' w' (by show World.ownsRow _ _ _ _ _ _ _; rw [flK_append]; exact h1) ?_ ?_
  · refine ⟨h2.os.trans hal.os, h2.tape.trans hal.tape, h2.output.trans hal.output, Nat.le_trans hal.size h2.size, fun k hk hn => ?_⟩
    rw [h2.block k (Nat.lt_of_lt_of_le hk hal.size) (by simpa [Value.ownBlock] using hn)]
    exact hal.block k hk
  · rcases h3 with h3 | h3
    · simp [Value.ownBlock] at h3; omega
    · have := hal.size; omega

theorem blk3f {X : World} {b : Nat} {t : TypeId} {v0 v1 v2 : Value} (h : X.heap[b]? = some (.cells #[v0, v1, v2] t (0, 0))) : ∀ j, X.frozen? ⟨b, j, none⟩ = false := fun j => by simp [World.frozen?, h]
theorem blk3 {X : World} {b : Nat} {t : TypeId} {v0 v1 v2 : Value} (h : X.heap[b]? = some (.cells #[v0, v1, v2] t (0, 0))) : X.cell? ⟨b, 0, none⟩ = some v0 ∧ X.cell? ⟨b, 1, none⟩ = some v1 ∧ X.cell? ⟨b, 2, none⟩ = some v2 := by
  refine ⟨?_, ?_, ?_⟩ <;> simp [World.cell?, h]
theorem blk_below {X Y : World} {b : Nat} {o : Obj} (h : X.heap[b]? = some o) (hb : Below X.heap.size X Y) : Y.heap[b]? = some o := by
  rw [hb.block b (Array.getElem?_eq_some_iff.1 h).1]; exact h
theorem blk_grown {X Y : World} {b g : Nat} {o : Obj} (h : X.heap[b]? = some o) (hb : X.grownBy Y (some g)) (hne : b ≠ g) : Y.heap[b]? = some o := by
  rw [hb.block b (Array.getElem?_eq_some_iff.1 h).1 (by intro e; injection e with e; exact hne e)]; exact h
theorem set_mid {X : World} {b : Nat} {t : TypeId} {v0 v1 v2 u : Value} (h : X.heap[b]? = some (.cells #[v0, v1, v2] t (0, 0))) : (X.setCell ⟨b, 1, none⟩ u).heap[b]? = some (.cells #[v0, u, v2] t (0, 0)) := by
  simp [World.setCell, h, Array.getElem?_modify]
theorem own_set {X : World} {B g n m cap b o : Nat} {e : TypeId} {xs : List Value} {u : Value} (h : X.ownsRow B e m (.slice (some ⟨g, 0, none⟩) n cap) n xs) (hne : b ≠ g) : (X.setCell ⟨b, o, none⟩ u).ownsRow B e m (.slice (some ⟨g, 0, none⟩) n cap) n xs :=
  own_kept (h := b) h ⟨rfl, rfl, rfl, by simp [World.setCell], fun k hk hn => by
    have : b ≠ k := fun e => hn (by rw [e])
    simp [World.setCell, Array.getElem?_modify, this]⟩ (fun e => hne e.symm)

/-- what the loop holds: the reel's box, the list so far -/
structure WoR (w : World) (R : Nat) (x1 f x3 : Int) (wr : World) (g c : Nat) (L : List Kl) : Prop where
  box : wr.heap[R]? = some (.cells #[.int .i64 x1, .int .i64 f, .int .i64 x3] 34 (0, 0))
  own : Own wr (R + 1) g L.length c L
  bel : Below R w wr
theorem wo_drop {x1 x3 f : Int} {l : List Kl} {k : Nat} {c : Kl} (hx : l[k]? = some c) : l.drop k = c :: l.drop (k + 1) := by
  have hk : k < l.length := (List.getElem?_eq_some_iff.1 hx).1
  rw [List.drop_eq_getElem_cons hk]
  rw [List.getElem?_eq_getElem hk] at hx
  injection hx with hx
  rw [hx]
theorem WoR.ge {w wr : World} {R g c : Nat} {x1 f x3 : Int} {L : List Kl} (h : WoR w R x1 f x3 wr g c L) : R + 1 ≤ g := own_ge h.own
theorem WoR.later {w wr X : World} {R g c : Nat} {x1 f x3 : Int} {L : List Kl} (h : WoR w R x1 f x3 wr g c L) (hb : Below wr.heap.size wr X) : WoR w R x1 f x3 X g c L := by
  have hR : R < wr.heap.size := (Array.getElem?_eq_some_iff.1 h.box).1
  exact ⟨blk_below h.box hb, ownsRow_below h.own hb, h.bel.trans (hb.mono (by omega))⟩
theorem WoR.put {w X : World} {R g c : Nat} {x1 f x3 : Int} {L : List Kl} (h : WoR w R x1 f x3 X g c L) (u : Int) : WoR w R x1 u x3 (X.setCell ⟨R, 1, none⟩ (.int .i64 u)) g c L := by
  have hg := h.ge
  exact ⟨set_mid h.box, own_set h.own (by omega), h.bel.setCell (Nat.le_refl _) _⟩
theorem WoR.app {w X Y : World} {R g c g' c' : Nat} {x1 f x3 : Int} {L : List Kl} {v : Kl} (h : WoR w R x1 f x3 X g c L) (ho : Own Y (R + 1) g' (L.length + 1) c' (L ++ [v])) (hb : X.grownBy Y (some g)) : WoR w R x1 f x3 Y g' c' (L ++ [v]) := by
  have hg := h.ge
  have hR : R < X.heap.size := (Array.getElem?_eq_some_iff.1 h.box).1
  exact ⟨blk_grown h.box hb (by omega), by rw [List.length_append]; exact ho, h.bel.grown hb (by omega) (fun k hk => by injection hk with hk; omega)⟩

set_option maxHeartbeats 3200000 in
theorem wo_any (x1 x2 x3 : Int) (a : Option Addr) (cap : Nat) (l : List Kl) (w : World) (hl : l.length ≤ 100000) (hk : Kls w a l) :
    Calls Try.prog 40 #[.agg #[.int .i64 x1, .int .i64 x2, .int .i64 x3], .slice a l.length cap] w fun e w' => ∃ g c, e = .returned (.slice (some ⟨g, 0, none⟩) (wo x1 x3 x2 l).length c) ∧ Own w' w.heap.size g (wo x1 x3 x2 l).length c (wo x1 x3 x2 l) ∧ Below w.heap.size w w' := by
  have hk' := hide hk
  clear hk
  have h0 := hide (show WoR w w.heap.size x1 x2 x3 ((w.alloc (.cells #[.int .i64 x1, .int .i64 x2, .int .i64 x3] 34)).alloc (.cells #[] 34)) (w.heap.size + 1) 0 [] from
    ⟨blk_below (heap_alloc_new w _) ((Below.refl _ _).alloc (Nat.le_refl _) _), by have := own_lit0 (w.alloc (.cells #[.int .i64 x1, .int .i64 x2, .int .i64 x3] 34)) (B := w.heap.size + 1) (by simp); simpa using this, ((Below.refl _ _).alloc (Nat.le_refl _) _).alloc (by simp) _⟩)
  go_enter Try.func40, Try.ntmps40
  go_wp2
  go_loopw [5, 11] (fun s t wr => ∃ (k g c : Nat) (f : Int) (L : List Kl), k ≤ l.length ∧ t = .int .i64 k ∧ s = .slice (some ⟨g, 0, none⟩) L.length c ∧ Hid (L.length ≤ k) ∧ Hid (WoR w w.heap.size x1 f x3 wr g c L) ∧ Hid (wo x1 x3 x2 l = L ++ wo x1 x3 f (l.drop k))) (fun _ t _ => l.length - (intOf t).toNat)
  case atStart => exact ⟨0, w.heap.size + 1, 0, x2, [], by omega, rfl, rfl, hide (Nat.le_refl _), h0, hide (by simp)⟩
  case round =>
    clear h0
    obtain ⟨k, g, cp, f, L, hk, rfl, rfl, hL, hJ, hE⟩ := hrel
    by_cases hlt : k < l.length
    · obtain ⟨b, o', s, i, n, rfl, hx, c0, c1, c2⟩ := kls_at (unhide hk') ((unhide hJ).bel.mono (Nat.le_refl _)) hlt
      have hdr := hide (wo_drop (x1 := x1) (x3 := x3) (f := f) hx)
      clear hx
      have hXb : Below wr.heap.size wr (wr.alloc (.cells #[.int .i64 s, .int .i64 i, .int .i64 n] 34)) := (Below.refl _ _).alloc (Nat.le_refl _) _
      have hJX' := hide ((unhide hJ).later hXb)
      have hXn' := hide (heap_alloc_new wr (.cells #[.int .i64 s, .int .i64 i, .int .i64 n] 34))
      have hglt : g < wr.heap.size := own_lt (unhide hJ).own
      have hRlt : w.heap.size < wr.heap.size := (Array.getElem?_eq_some_iff.1 (unhide hJ).box).1
      have hne : wr.heap.size ≠ w.heap.size := by omega
      obtain ⟨e0, e1, e2⟩ := blk3 (unhide hJ).box
      have ef := blk3f (unhide hJ).box 1
      have hPn := hide (((unhide hJ).put n).later ((Below.refl _ _).alloc (Nat.le_refl _) (.cells #[.int .i64 s, .int .i64 i, .int .i64 n] 34)))
      clear hJ hXb
      by_cases hskip : s ≠ x1 ∨ n ≤ f ∨ x3 ≤ i
      · have hE' := hide (show wo x1 x3 x2 l = L ++ wo x1 x3 f (l.drop (k + 1)) by rw [unhide hE, unhide hdr, wo_skip hskip])
        have hq := hide hskip
        clear hE hdr hskip
        by_cases h1 : s = x1
        · have b1 : (s != x1) = false := by simp [h1]
          by_cases h2 : n ≤ f
          · have b2 : decide (n ≤ f) = true := by simpa using h2
            have h1' := hide h1
            clear h1
            go_wp2
            go_roundw
            case rel => exact ⟨k + 1, g, cp, f, L, by omega, by go_num, rfl, hide (by have := unhide hL; omega), hJX', hE'⟩
            case measure => simp [intOf]; omega
          · have b2 : decide (n ≤ f) = false := by simpa using h2
            have h3 : x3 ≤ i := by rcases unhide hq with h | h | h; exact absurd h1 h; exact absurd h h2; exact h
            have b3 : decide (x3 ≤ i) = true := by simpa using h3
            have h1' := hide h1
            clear h1 h2
            go_wp2
            go_roundw
            case rel => exact ⟨k + 1, g, cp, f, L, by omega, by go_num, rfl, hide (by have := unhide hL; omega), hJX', hE'⟩
            case measure => simp [intOf]; omega
        · have b1 : (s != x1) = true := by simp [h1]
          clear h1
          go_wp2
          go_roundw
          case rel => exact ⟨k + 1, g, cp, f, L, by omega, by go_num, rfl, hide (by have := unhide hL; omega), hJX', hE'⟩
          case measure => simp [intOf]; omega
      · have hT := hide (show wo x1 x3 x2 l = L ++ ((if f < i then [(x1, f, i)] else []) ++ wo x1 x3 n (l.drop (k + 1))) by rw [unhide hE, unhide hdr, wo_take hskip])
        have h1 : s = x1 := by omega
        have b1 : (s != x1) = false := by simp [h1]
        have b2 : decide (n ≤ f) = false := by simp; omega
        have b3 : decide (x3 ≤ i) = false := by simp; omega
        have h1' := hide h1
        clear hE hdr h1 hskip
        by_cases h4 : f < i
        · have hE' := hide (show wo x1 x3 x2 l = (L ++ [(x1, f, i)]) ++ wo x1 x3 n (l.drop (k + 1)) by rw [unhide hT, if_pos h4]; simp)
          have b4 : decide (f < i) = true := by simpa using h4
          clear hT
          go_wp2_with (at_builtin; refine wpList_kg Try.underlying27 rfl _ _ rfl (w.heap.size + 1) g L.length cp L rfl (unhide hJX').own (wr.heap.size + 1) (by simp) rfl (by have := unhide hL; omega) ?_)
          intro g' cap' w' hown' hgr' hg'
          have hN := (unhide hJX').app hown' hgr'
          have hbx := blk_grown (unhide hXn') hgr' (by omega)
          obtain ⟨d0', d1', d2'⟩ := blk3 hbx
          obtain ⟨e0', e1', e2'⟩ := blk3 hN.box
          have ef' := blk3f hN.box 1
          have hN' := hide (hN.put n)
          have hLL := hide (show (L ++ [(x1, f, i)]).length = L.length + 1 by simp)
          clear hown' hgr' hbx hN hJX' hPn e0 e1 e2 ef
          go_wp2
          go_roundw
          case rel => exact ⟨k + 1, g', cap', n, L ++ [(x1, f, i)], by omega, by go_num, by rw [unhide hLL], hide (by have := unhide hL; have := unhide hLL; omega), hN', hE'⟩
          case measure => simp [intOf]; omega
        · have hE' := hide (show wo x1 x3 x2 l = L ++ wo x1 x3 n (l.drop (k + 1)) by rw [unhide hT, if_neg h4]; simp)
          have b4 : decide (f < i) = false := by simpa using h4
          clear hT h4
          go_wp2
          go_roundw
          case rel => exact ⟨k + 1, g, cp, n, L, by omega, by go_num, rfl, hide (by have := unhide hL; omega), hPn, hE'⟩
          case measure => simp [intOf]; omega
    · have hke : k = l.length := by omega
      have hT : Hid (wo x1 x3 x2 l = L ++ (if f < x3 then [(x1, f, x3)] else [])) := hide (by rw [unhide hE, hke, List.drop_length]; rfl)
      obtain ⟨e0, e1, e2⟩ := blk3 (unhide hJ).box
      have hglt : g < wr.heap.size := own_lt (unhide hJ).own
      have hRlt : w.heap.size < wr.heap.size := (Array.getElem?_eq_some_iff.1 (unhide hJ).box).1
      clear hE
      by_cases h4 : f < x3
      · have hE' := hide (show wo x1 x3 x2 l = L ++ [(x1, f, x3)] by rw [unhide hT, if_pos h4])
        have b4 : decide (f < x3) = true := by simpa using h4
        clear hT
        go_wp2_with (at_builtin; refine wpList_kg Try.underlying27 rfl _ _ rfl (w.heap.size + 1) g L.length cp L rfl (unhide hJ).own wr.heap.size rfl rfl (by have := unhide hL; omega) ?_)
        intro g' cap' w' hown' hgr' hg'
        have hN := hide ((unhide hJ).app hown' hgr')
        clear hown' hgr' hJ e0 e1 e2
        have hLL := hide (show (L ++ [(x1, f, x3)]).length = L.length + 1 by simp)
        go_wp2
        go_ret
        have hown := (unhide hN).own
        rw [unhide hE']
        rw [unhide hLL] at hown ⊢
        exact ⟨g', cap', rfl, own_mono hown (by omega), (unhide hN).bel⟩
      · have hE' := hide (show wo x1 x3 x2 l = L by rw [unhide hT, if_neg h4]; simp)
        have b4 : decide (f < x3) = false := by simpa using h4
        clear hT h4
        go_wp2
        go_ret
        rw [unhide hE']
        exact ⟨g, cp, rfl, own_mono (unhide hJ).own (by omega), (unhide hJ).bel⟩

end Go.Proofs.Ytfbifffmieimoaa.Rl
