/-
  Lists of clips behind lists of clips: an append of whatever list, room that is made ahead, and the library's Concat, Grow and Clone of clips; answers are new memory.
  Contracts of the model's edits: what it answers of a list of clips, and of what is put between two parts of a track; answers are new memory, nothing that was there is written.
-/
import Derived.Test.YtfcjdempigoiiaaPt
import Derived.Laws.AppendOwnNone
import Derived.Lib.AppendZeros
namespace Go.Proofs.Ytfcjdempigoiiaa
open Go.RowKit
set_option linter.unusedVariables false
set_option linter.unusedSimpArgs false

/-- an owned list that may be nil -/
abbrev OwnV (w : World) (B : Nat) (v : Value) (l : List Kl) : Prop := w.ownsRow B 63 3 v l.length (flK l)
theorem ownV_kls {w : World} {B : Nat} {v : Value} {l : List Kl} (h : OwnV w B v l) : ∃ a c, v = .slice a l.length c ∧ Kls w a l ∧ (a = none → c = 0) := by
  rcases h.2 with ⟨hv, hn⟩ | ⟨g, cap, cur, hv, _⟩
  · have : l = [] := List.length_eq_zero_iff.1 hn
    subst this
    exact ⟨none, 0, hv, Kls.nil, fun _ => rfl⟩
  · subst hv
    exact ⟨_, _, rfl, kls_own h, fun h => by cases h⟩
theorem ownV_of {w : World} {B g cap : Nat} {l : List Kl} (h : Own w B g l.length cap l) : OwnV w B (.slice (some ⟨g, 0, none⟩) l.length cap) l := h
theorem flK_one (l : List Kl) : ∀ u ∈ flK l, u.oneCell' = true := by
  induction l with
  | nil => intro u hu; simp [flK] at hu
  | cons x l ih =>
    intro u hu
    simp only [flK, List.mem_cons] at hu
    rcases hu with rfl | rfl | rfl | hu
    · rfl
    · rfl
    · rfl
    · exact ih u hu
theorem kls_news {w : World} {b o : Nat} {l : List Kl} (h : Kls w (some ⟨b, o, none⟩) l) : ∀ j u, (flK l)[j]? = some u → w.cell? ((⟨b, o, none⟩ : Addr).add j) = some u := by
  intro j u hu
  have hj : j < (flK l).length := (List.getElem?_eq_some_iff.1 hu).1
  rw [flK_len] at hj
  have hk : j / 3 < l.length := by omega
  obtain ⟨x, hx⟩ : ∃ x, l[j / 3]? = some x := ⟨l[j / 3], List.getElem?_eq_getElem hk⟩
  obtain ⟨b', o', e, _, c0, c1, c2⟩ := h _ _ hx
  injection e with e
  injection e with e1 e2 _
  subst e1 e2
  obtain ⟨f0, f1, f2⟩ := flK_get hx
  rw [Addr.add_lit]
  have hr : j % 3 = 0 ∨ j % 3 = 1 ∨ j % 3 = 2 := by omega
  rcases hr with hr | hr | hr
  · have e : j / 3 * 3 = j := by omega
    rw [e] at c0 f0; rw [hu] at f0; injection f0 with f0; rw [f0]; exact c0
  · have e : j / 3 * 3 + 1 = j := by omega
    rw [Nat.add_assoc, e] at c1; rw [e] at f1; rw [hu] at f1; injection f1 with f1; rw [f1]; exact c1
  · have e : j / 3 * 3 + 2 = j := by omega
    rw [Nat.add_assoc, e] at c2; rw [e] at f2; rw [hu] at f2; injection f2 with f2; rw [f2]; exact c2

theorem wpList_apps {T : TypeId} (hT : Try.prog.underlying T = some (.slice 63)) {ops : Array Oper} {rest : List Oper} {o : Oper} {a : Act} {Q : Exit → Act → World → Prop} (w : World) (hgd : o.guard = none) (s x : Operand) (ho : o.op = .call { callee := .builtin .append, args := #[s, x], argTypes := #[T, T] })
    (B : Nat) (v : Value) (L1 L2 : List Kl) (a2 : Option Addr) (c2 : Nat) (hs : a.eval s = v) (hown : OwnV w B v L1) (hx : a.eval x = .slice a2 L2.length c2) (hK : Kls w a2 L2) (hn : a2 = none → c2 = 0) (hl1 : L1.length ≤ 1000000) (hl2 : L2.length ≤ 1000000) (hB : B ≤ w.heap.size)
    (h : ∀ v' w', OwnV w' B v' (L1 ++ L2) → Below B w w' → w.grownBy w' v.ownBlock → wpList Try.prog ops Q rest (a.put o.dst v') w') : wpList Try.prog ops Q (o :: rest) a w := by
  obtain ⟨i0, hi, hz0, hz1, hz2⟩ := info_parts info44
  have hBel : ∀ w', w.grownBy w' v.ownBlock → Below B w w' := fun w' hg => (Below.refl _ _).grown hg hB (fun k hk => (hown.lt k hk).1)
  have hfin : ∀ v' w', w'.ownsRow B 63 3 v' (L1.length + L2.length) (flK L1 ++ flK L2) → OwnV w' B v' (L1 ++ L2) := by
    intro v' w' h1
    show World.ownsRow _ _ _ _ _ _ _
    rw [flK_append, List.length_append]; exact h1
  match a2, L2, hx, hK, hn, hl2, h, hfin with
  | none, [], hx, hK, hn, hl2, h, hfin =>
    rw [hn rfl] at hx
    refine wpList_append_own_none hgd s x T ho B 63 i0 3 hT hi v L1.length (flK L1) hs hown hx ?_
    have := h v w (by rw [List.append_nil]; exact hown) (Below.refl _ _) ⟨rfl, rfl, rfl, Nat.le_refl _, fun _ _ _ => rfl⟩
    exact this
  | none, y :: L2, hx, hK, hn, hl2, h, hfin =>
    obtain ⟨b, o, e, _⟩ := hK 0 y rfl
    cases e
  | some ad, L2, hx, hK, hn, hl2, h, hfin =>
    cases L2 with
    | nil =>
      refine wpList_append_own _ hgd s x T ho B 63 i0 (.agg #[.int .i64 0, .int .i64 0, .int .i64 0]) 3 24 hT hi hz0 hz1 hz2 rfl (by decide) v L1.length (flK L1) hs hown ad 0 c2 [] hx rfl (fun j u hu => by simp at hu) (fun u hu => by simp at hu) (by unfold maxLen; omega) (by omega) hB ?_
      intro v' w' h1 h2 _
      exact h v' w' (hfin v' w' h1) (hBel w' h2) h2
    | cons y L2 =>
      obtain ⟨b, o', e, _⟩ := hK 0 y rfl
      injection e with e
      subst e
      refine wpList_append_own _ hgd s x T ho B 63 i0 (.agg #[.int .i64 0, .int .i64 0, .int .i64 0]) 3 24 hT hi hz0 hz1 hz2 rfl (by decide) v L1.length (flK L1) hs hown ⟨b, o', none⟩ (y :: L2).length c2 (flK (y :: L2)) hx (flK_len _) (kls_news hK) (flK_one _) (by unfold maxLen; omega) (by omega) hB ?_
      intro v' w' h1 h2 _
      exact h v' w' (hfin v' w' h1) (hBel w' h2) h2

end Go.Proofs.Ytfcjdempigoiiaa

namespace Go.Proofs.Ytfcjdempigoiiaa
open Go.RowKit
set_option linter.unusedVariables false
set_option linter.unusedSimpArgs false

/-- an edit's answer in memory -/
def EdR (w w' : World) (r : Option (List Kl)) (e : Ending) : Prop :=
  ∃ g c, e = .returned (.tuple #[.slice (some ⟨g, 0, none⟩) (outL r).length c, .bool r.isSome]) ∧ w.heap.size ≤ g ∧ Own w' w.heap.size g (outL r).length c (outL r) ∧ Below w.heap.size w w'
theorem edR_none {w wx : World} {r : Option (List Kl)} (hr : r = none) (hb : Below w.heap.size w wx) : EdR w (wx.alloc (.cells #[] 63)) r (.returned (.tuple #[.slice (some ⟨wx.heap.size, 0, none⟩) 0 0, .bool false])) := by
  subst hr
  exact ⟨wx.heap.size, 0, rfl, hb.size, own_lit0 wx hb.size, hb.alloc hb.size _⟩
theorem edR_from {w w1 w2 : World} {r : Option (List Kl)} {e : Ending} (h : EdR w1 w2 r e) (hb : Below w.heap.size w w1) : EdR w w2 r e := by
  obtain ⟨g, c, he, h1, h2, h3⟩ := h
  have := hb.size
  exact ⟨g, c, he, by omega, own_mono h2 (by omega), hb.trans (h3.mono (by omega))⟩

set_option maxHeartbeats 1600000 in
theorem sedit_any (a : Option Addr) (cap : Nat) (l : List Kl) (w : World) (hl : l.length ≤ 100000) (hk : Kls w a l) :
    Calls Try.prog 47 #[.slice a l.length cap] w fun e w' => EdR w w' (edit l) e := by
  have hk' := hide hk
  clear hk
  go_enter Try.func47, Try.ntmps47
  go_wp2
  go_loopw [4] (fun t wr => ∃ k : Nat, k ≤ l.length ∧ t = .int .i64 k ∧ Hid (AOk (l.take k)) ∧ Hid (Below w.heap.size w wr)) (fun t _ => l.length - (intOf t).toNat)
  case atStart => exact ⟨0, by omega, rfl, hide (by simp; exact AOk.nil), hide (Below.refl _ _)⟩
  case round =>
    obtain ⟨k, hk, rfl, hA, hw⟩ := hrel
    by_cases hlt : k < l.length
    · obtain ⟨b, o, s, i, n, rfl, hx, c0, c1, c2⟩ := kls_at (unhide hk') (unhide hw) hlt
      have hx' := hide hx
      clear hx
      by_cases hc : COk (s, i, n)
      · have hc' := hide hc
        clear hc
        go_wp2_with fail
        refine (sclip_any s i n true _ (by simpa using unhide hc')).mono ?_
        rintro e w1 ⟨rfl, hb⟩
        have hw1 := hide (laterB (unhide hw) hb)
        clear hb hw c0 c1 c2
        go_wp2
        go_roundw
        case rel => exact ⟨k + 1, by omega, by go_num, hide (aok_take (unhide hA) (unhide hx') (unhide hc')), hw1⟩
        case measure => simp [intOf]; omega
      · have hc2 := hide (show decide (COk (s, i, n)) = false from decide_eq_false hc)
        have he := hide (edit_no (fun h => hc (h _ (List.mem_of_getElem? (unhide hx')))))
        clear hc
        go_wp2_with fail
        refine (sclip_any s i n false _ (unhide hc2)).mono ?_
        rintro e w1 ⟨rfl, hb⟩
        go_wp2
        exact bodyPost_ret (v := .tuple #[.slice (some ⟨w1.heap.size, 0, none⟩) 0 0, .bool false]) (by simp [results, Try.results47, go_sem]) rfl (edR_none (unhide he) (laterB (unhide hw) hb))
    · have hke : k = l.length := by omega
      have hAl := hide (show AOk l by have := unhide hA; rw [hke, List.take_length] at this; exact this)
      clear hA
      go_wp2_with fail
      refine (sjoin_any a cap l _ hl (unhide hAl) ((unhide hk').below (unhide hw))).mono ?_
      rintro e w1 ⟨g, c, rfl, q1, n1, k1⟩
      have own1 := hide n1
      have hw1 := hide (laterB (unhide hw) k1)
      have hg1 : w.heap.size ≤ g := by have := (unhide hw).size; omega
      have hjl := len_join l
      have hjl' := hide hjl
      clear n1 k1 q1 hw
      by_cases hT : TOk (join l)
      · have hT' := hide hT
        have hd := hide (decide_eq_true hT)
        clear hT hjl
        go_wp2_with fail
        refine (strack_any (some ⟨g, 0, none⟩) c (join l) true _ (by have := unhide hjl'; unfold maxLen; omega) (kls_own (unhide own1)) (unhide hd)).mono ?_
        rintro e w2 ⟨rfl, k2⟩
        have he := hide (edit_yes (unhide hAl) (unhide hT'))
        go_wp2
        refine bodyPost_ret (v := .tuple #[.slice (some ⟨g, 0, none⟩) (join l).length c, .bool true]) (by simp [results, Try.results47, go_sem]) rfl ?_
        rw [unhide he]
        exact ⟨g, c, rfl, hg1, ownsRow_below (own_up (unhide own1) hg1) k2, laterB (unhide hw1) k2⟩
      · have hT' := hide hT
        have hd := hide (decide_eq_false hT)
        clear hT hjl
        go_wp2_with fail
        refine (strack_any (some ⟨g, 0, none⟩) c (join l) false _ (by have := unhide hjl'; unfold maxLen; omega) (kls_own (unhide own1)) (unhide hd)).mono ?_
        rintro e w2 ⟨rfl, k2⟩
        go_wp2
        exact bodyPost_ret (v := .tuple #[.slice (some ⟨w2.heap.size, 0, none⟩) 0 0, .bool false]) (by simp [results, Try.results47, go_sem]) rfl (edR_none (edit_no2 (unhide hT')) (laterB (unhide hw1) k2))

end Go.Proofs.Ytfcjdempigoiiaa
