/-
  Lists of clips behind lists of clips: an append of whatever list, room that is made ahead, and the library's Concat, Grow and Clone of clips; answers are new memory.
  Contracts of the library's Grow, Concat and Clone of clips, as the program calls them: the answer is new memory, nothing that was there is written.
-/
import Derived.Test.YtioaehjppiodfaaGreatDoorGPt2
import Derived.Laws.AppendOwnNone
import Derived.Lib.AppendZeros
import Derived.Lib.LazyBuf
namespace Go.Proofs.YtioaehjppiodfaaGreatDoor
open Go.RowKit
set_option linter.unusedVariables false
set_option linter.unusedSimpArgs false

/-- an owned list that may be nil -/
abbrev OwnV (w : World) (B : Nat) (v : Value) (l : List Kl) : Prop := w.ownsRow B 94 3 v l.length (flK l)
theorem ownV_kls {w : World} {B : Nat} {v : Value} {l : List Kl} (h : OwnV w B v l) : ∃ a c, v = .slice a l.length c ∧ Kls w a l ∧ (a = none → c = 0) := by
  rcases h.2 with ⟨hv, hn⟩ | ⟨g, cap, cur, hv, _⟩
  · have : l = [] := List.length_eq_zero_iff.1 hn
    subst this
    exact ⟨none, 0, hv, Kls.nil, fun _ => rfl⟩
  · subst hv
    exact ⟨_, _, rfl, kls_own h, fun h => by cases h⟩
theorem ownV_of {w : World} {B g cap : Nat} {l : List Kl} (h : Own w B g l.length cap l) : OwnV w B (.slice (some ⟨g, 0, none⟩) l.length cap) l := h
theorem flK_one (l : List Kl) : ∀ u ∈ flK l, u.oneCell' = true := by
  induction l with
  | nil => intro u hu; simp [flK] at hu
  | cons x l ih =>
    intro u hu
    simp only [flK, List.mem_cons] at hu
    rcases hu with rfl | rfl | rfl | hu
    · rfl
    · rfl
    · rfl
    · exact ih u hu
theorem kls_news {w : World} {b o : Nat} {l : List Kl} (h : Kls w (some ⟨b, o, none⟩) l) : ∀ j u, (flK l)[j]? = some u → w.cell? ((⟨b, o, none⟩ : Addr).add j) = some u := by
  intro j u hu
  have hj : j < (flK l).length := (List.getElem?_eq_some_iff.1 hu).1
  rw [flK_len] at hj
  have hk : j / 3 < l.length := by omega
  obtain ⟨x, hx⟩ : ∃ x, l[j / 3]? = some x := ⟨l[j / 3], List.getElem?_eq_getElem hk⟩
  obtain ⟨b', o', e, _, c0, c1, c2⟩ := h _ _ hx
  injection e with e
  injection e with e1 e2 _
  subst e1 e2
  obtain ⟨f0, f1, f2⟩ := flK_get hx
  rw [Addr.add_lit]
  have hr : j % 3 = 0 ∨ j % 3 = 1 ∨ j % 3 = 2 := by omega
  rcases hr with hr | hr | hr
  · have e : j / 3 * 3 = j := by omega
    rw [e] at c0 f0; rw [hu] at f0; injection f0 with f0; rw [f0]; exact c0
  · have e : j / 3 * 3 + 1 = j := by omega
    rw [Nat.add_assoc, e] at c1; rw [e] at f1; rw [hu] at f1; injection f1 with f1; rw [f1]; exact c1
  · have e : j / 3 * 3 + 2 = j := by omega
    rw [Nat.add_assoc, e] at c2; rw [e] at f2; rw [hu] at f2; injection f2 with f2; rw [f2]; exact c2

theorem wpList_apps {T : TypeId} (hT : Tryz.prog.underlying T = some (.slice 94)) {ops : Array Oper} {rest : List Oper} {o : Oper} {a : Act} {Q : Exit → Act → World → Prop} (w : World) (hgd : o.guard = none) (s x : Operand) (ho : o.op = .call { callee := .builtin .append, args := #[s, x], argTypes := #[T, T] })
    (B : Nat) (v : Value) (L1 L2 : List Kl) (a2 : Option Addr) (c2 : Nat) (hs : a.eval s = v) (hown : OwnV w B v L1) (hx : a.eval x = .slice a2 L2.length c2) (hK : Kls w a2 L2) (hn : a2 = none → c2 = 0) (hl1 : L1.length ≤ 1000000) (hl2 : L2.length ≤ 1000000) (hB : B ≤ w.heap.size)
    (h : ∀ v' w', OwnV w' B v' (L1 ++ L2) → Below B w w' → w.grownBy w' v.ownBlock → wpList Tryz.prog ops Q rest (a.put o.dst v') w') : wpList Tryz.prog ops Q (o :: rest) a w := by
  obtain ⟨i0, hi, hz0, hz1, hz2⟩ := info_parts info44
  have hBel : ∀ w', w.grownBy w' v.ownBlock → Below B w w' := fun w' hg => (Below.refl _ _).grown hg hB (fun k hk => (hown.lt k hk).1)
  have hfin : ∀ v' w', w'.ownsRow B 94 3 v' (L1.length + L2.length) (flK L1 ++ flK L2) → OwnV w' B v' (L1 ++ L2) := by
    intro v' w' h1
    show World.ownsRow _ _ _ _ _ _ _
    rw [flK_append, List.length_append]; exact h1
  match a2, L2, hx, hK, hn, hl2, h, hfin with
  | none, [], hx, hK, hn, hl2, h, hfin =>
    rw [hn rfl] at hx
    refine wpList_append_own_none hgd s x T ho B 94 i0 3 hT hi v L1.length (flK L1) hs hown hx ?_
    have := h v w (by rw [List.append_nil]; exact hown) (Below.refl _ _) ⟨rfl, rfl, rfl, Nat.le_refl _, fun _ _ _ => rfl⟩
    exact this
  | none, y :: L2, hx, hK, hn, hl2, h, hfin =>
    obtain ⟨b, o, e, _⟩ := hK 0 y rfl
    cases e
  | some ad, L2, hx, hK, hn, hl2, h, hfin =>
    cases L2 with
    | nil =>
      refine wpList_append_own _ hgd s x T ho B 94 i0 (.agg #[.int .i64 0, .int .i64 0, .int .i64 0]) 3 24 hT hi hz0 hz1 hz2 rfl (by decide) v L1.length (flK L1) hs hown ad 0 c2 [] hx rfl (fun j u hu => by simp at hu) (fun u hu => by simp at hu) (by unfold maxLen; omega) (by omega) hB ?_
      intro v' w' h1 h2 _
      exact h v' w' (hfin v' w' h1) (hBel w' h2) h2
    | cons y L2 =>
      obtain ⟨b, o', e, _⟩ := hK 0 y rfl
      injection e with e
      subst e
      refine wpList_append_own _ hgd s x T ho B 94 i0 (.agg #[.int .i64 0, .int .i64 0, .int .i64 0]) 3 24 hT hi hz0 hz1 hz2 rfl (by decide) v L1.length (flK L1) hs hown ⟨b, o', none⟩ (y :: L2).length c2 (flK (y :: L2)) hx (flK_len _) (kls_news hK) (flK_one _) (by unfold maxLen; omega) (by omega) hB ?_
      intro v' w' h1 h2 _
      exact h v' w' (hfin v' w' h1) (hBel w' h2) h2

end Go.Proofs.YtioaehjppiodfaaGreatDoor

namespace Go.Proofs.YtioaehjppiodfaaGreatDoor
open Go.RowKit
set_option linter.unusedVariables false
set_option linter.unusedSimpArgs false

set_option maxRecDepth 100000 in
set_option maxHeartbeats 800000 in
theorem grow_any (n : Nat) (w : World) (hn : n ≤ 1000000) :
    Calls Tryz.prog 168 #[.slice none 0 0, .int .i64 n] w fun e w' => ∃ v, e = .returned v ∧ OwnV w' w.heap.size v [] ∧ Below w.heap.size w w' := by
  obtain ⟨i0, hi, hz0, hz1, hz2⟩ := info_parts info44
  by_cases h0 : n = 0
  · subst h0
    go_enter Tryz.func168, Tryz.ntmps168
    go_wp2
    go_ret
    exact ⟨_, rfl, World.ownsRow_nil _ _ _ _, Below.refl _ _⟩
  · have h1 : decide ((0 : Int) < n) = true := by simp; omega
    have happ := Lib.run_append_nil_zeros (P := Tryz.prog) w 78 3 78 94 i0 (.agg #[.int .i64 0, .int .i64 0, .int .i64 0]) .i64 .i64 Tryz.underlying78 Tryz.underlying3 hi hz0 n (by omega) (by rw [hz1]; omega) (by omega) (by rw [hz2]; omega)
    generalize hcap : grownCap w n 0 94 = cap2 at happ
    have hcapge : n ≤ cap2 := by rw [← hcap]; exact grownCap_ge w _ 0 94
    have hcaple : cap2 ≤ maxLen := by rw [← hcap]; exact grownCap_le_maxLen w _ 0 94 (by unfold maxLen; omega)
    generalize hZ : (Builtin.zeroCells (Value.agg #[.int .i64 0, .int .i64 0, .int .i64 0]).cells n ++ Builtin.zeroCells (Value.agg #[.int .i64 0, .int .i64 0, .int .i64 0]).cells (cap2 - n)) = Z at happ
    have hZs : Z.size = cap2 * 3 := by rw [← hZ]; simp [size_zeroCells, Value.cells]; omega
    clear hcap hZ
    go_enter Tryz.func168, Tryz.ntmps168
    go_wp2_with (at_builtin; refine Lib.wpList_append_run _ rfl _ _ _ _ rfl _ _ rfl rfl _ _ happ ?_)
    go_ret
    exact ⟨_, rfl, ⟨rfl, .inr ⟨w.heap.size, cap2, Z, rfl, Nat.le_refl _, heap_alloc_new w.drew _, Nat.zero_le _, hcaple, hZs, rfl⟩⟩, ((Below.refl _ _).drew).alloc (Nat.le_refl _) _⟩

/-- lists behind each other -/
abbrev Es := List (Option Addr × Nat × List Kl)
def cat : Es → List Kl
  | [] => []
  | e :: es => e.2.2 ++ cat es
theorem cat_append (a b : Es) : cat (a ++ b) = cat a ++ cat b := by
  induction a with
  | nil => rfl
  | cons e a ih => simp [cat, ih]
theorem cat_take {es : Es} {k : Nat} {e : Option Addr × Nat × List Kl} (h : es[k]? = some e) : cat (es.take (k + 1)) = cat (es.take k) ++ e.2.2 := by
  rw [List.take_add_one, h, cat_append]; simp [cat]
theorem cat_take_le (es : Es) (k : Nat) : (cat (es.take k)).length ≤ (cat es).length := by
  have : cat es = cat (es.take k) ++ cat (es.drop k) := by rw [← cat_append, List.take_append_drop]
  rw [this, List.length_append]; omega

set_option maxRecDepth 100000 in
set_option maxHeartbeats 1600000 in
theorem concat_any (b cap : Nat) (es : Es) (w : World) (hl : (cat es).length ≤ 2000) (he : es.length ≤ 10) (hb : b < w.heap.size)
    (hc : ∀ k e, es[k]? = some e → w.cell? ⟨b, k, none⟩ = some (.slice e.1 e.2.2.length e.2.1) ∧ Kls w e.1 e.2.2 ∧ (e.1 = none → e.2.1 = 0)) :
    Calls Tryz.prog 147 #[.slice (some ⟨b, 0, none⟩) es.length cap] w fun e w' => ∃ v, e = .returned v ∧ OwnV w' w.heap.size v (cat es) ∧ Below w.heap.size w w' := by
  have hc' := hide hc
  clear hc
  go_enter Tryz.func147, Tryz.ntmps147
  go_wp2
  go_loop [3, 11] (fun s t => ∃ k : Nat, k ≤ es.length ∧ t = .int .i64 k ∧ s = .int .i64 (cat (es.take k)).length) (fun _ t => es.length - (intOf t).toNat)
  case atStart => exact ⟨0, by omega, rfl, rfl⟩
  case round =>
    obtain ⟨k, hk, rfl, rfl⟩ := hrel
    have hkl := cat_take_le es k
    by_cases hlt : k < es.length
    · obtain ⟨⟨a, c, L⟩, hx⟩ : ∃ e, es[k]? = some e := ⟨_, List.getElem?_eq_getElem hlt⟩
      obtain ⟨c0, _, _⟩ := unhide hc' k _ hx
      have hkl2 := cat_take_le es (k + 1)
      have hct := cat_take hx
      simp only at c0 hct
      rw [hct, List.length_append] at hkl2
      have hct' := hide hct
      clear hx hct
      obtain ⟨m, hm⟩ : ∃ m, m = (cat (es.take k)).length := ⟨_, rfl⟩
      rw [← hm] at hkl hkl2 ⊢
      have hm' := hide hm
      clear hm
      have hneg : decide ((m : Int) + (L.length : Int) < 0) = false := by simp; omega
      go_wp2
      go_round
      case rel => exact ⟨k + 1, by omega, by go_num, by rw [unhide hct', List.length_append, ← unhide hm']; exact congrArg (Value.int .i64) (by omega)⟩
      case measure => simp [intOf]; omega
    · have hke : k = es.length := by omega
      have hct := hide (show cat (es.take k) = cat es by rw [hke, List.take_length])
      rw [unhide hct]
      clear hkl
      obtain ⟨N, hN⟩ : ∃ N, N = (cat es).length := ⟨_, rfl⟩
      rw [← hN] at hl ⊢
      have hN' := hide hN
      clear hN
      go_wp2_with fail
      refine (grow_any N _ (by omega)).mono ?_
      rintro e w1 ⟨v1, rfl, o1, k1⟩
      have o1' := hide o1
      have H1 := hide k1
      clear o1 k1
      go_wp2
      go_loopw [6, 27] (fun s t wr => ∃ k : Nat, k ≤ es.length ∧ t = .int .i64 k ∧ Hid (OwnV wr w.heap.size s (cat (es.take k))) ∧ Hid (Below w.heap.size w wr)) (fun _ t _ => es.length - (intOf t).toNat)
      case atStart => exact ⟨0, by omega, rfl, o1', H1⟩
      case round =>
        clear o1' H1
        obtain ⟨k, hk, rfl, oV, hw⟩ := hrel
        have hkl := cat_take_le es k
        by_cases hlt : k < es.length
        · obtain ⟨⟨a, c, L⟩, hx⟩ : ∃ e, es[k]? = some e := ⟨_, List.getElem?_eq_getElem hlt⟩
          obtain ⟨c0, kl, hnn⟩ := unhide hc' k _ hx
          have c1 := cell_later (unhide hw) c0
          have kl' := hide (kl.below (unhide hw))
          have hnn' := hide hnn
          have hct' := hide (cat_take hx)
          have hLl : L.length ≤ 2000 := by have := cat_take_le es (k + 1); rw [cat_take hx, List.length_append] at this; simp only at this; have := unhide hN'; omega
          simp only at c1 kl' hnn'
          clear hx c0 kl hnn
          have hkl3 : (cat (es.take k)).length ≤ 2000 := by have := unhide hN'; omega
          go_wp2_with (at_builtin; refine wpList_apps Tryz.underlying78 _ rfl _ _ rfl w.heap.size _ (cat (es.take k)) L a c rfl (unhide oV) rfl (unhide kl') (unhide hnn') (by omega) (by omega) (unhide hw).size ?_)
          intro v' w' n' k' _
          have oV' := hide (show OwnV w' w.heap.size v' (cat (es.take (k + 1))) by rw [unhide hct']; exact n')
          have hw' := hide ((unhide hw).trans k')
          clear n' k' oV hw
          go_wp2
          go_roundw
          case rel => exact ⟨k + 1, by omega, by go_num, oV', hw'⟩
          case measure => simp [intOf]; omega
        · have hke : k = es.length := by omega
          have oF := unhide oV
          rw [hke, List.take_length] at oF
          have oF' := hide oF
          clear oF oV
          go_wp2
          go_ret
          exact ⟨_, rfl, unhide oF', unhide hw⟩

set_option maxRecDepth 100000 in
set_option maxHeartbeats 800000 in
theorem clone_any (b o cap : Nat) (l : List Kl) (w : World) (hl : l.length ≤ 1000000) (hk : Kls w (some ⟨b, o, none⟩) l) :
    Calls Tryz.prog 148 #[.slice (some ⟨b, o, none⟩) l.length cap] w fun e w' => ∃ v, e = .returned v ∧ OwnV w' w.heap.size v l ∧ Below w.heap.size w w' := by
  have hA : Below w.heap.size w (w.alloc (.cells #[] 94)) := (Below.refl _ _).alloc (Nat.le_refl _) _
  have K1 := hide (hk.below hA)
  have H1 := hide hA
  have o1 := hide (own_lit0 w (Nat.le_refl _))
  have q53 : ∀ (w : World) (a : Option Addr) (n c : Nat), (binOp .eql 78 (.slice a n c) (.slice none 0 0)).run Tryz.prog w = .ok (.bool a.isNone) w := fun w a n c => run_eql_slice_nil w 78 94 a n c Tryz.underlying78
  clear hk hA
  go_enter Tryz.func148, Tryz.ntmps148
  go_wp2_with (at_builtin; refine wpList_apps Tryz.underlying78 _ rfl _ _ rfl w.heap.size (.slice (some ⟨w.heap.size, 0, none⟩) 0 0) [] l (some ⟨b, o, none⟩) cap rfl (unhide o1) rfl (unhide K1) (fun h => by cases h) (by simp) (by omega) (by simp) ?_)
  intro v w2 nv kv _
  go_wp2
  go_ret
  exact ⟨v, rfl, nv, (unhide H1).trans kv⟩


/-- a list that is none yet, or that lies somewhere -/
def AdOk (a0 : Option Addr) (cap : Nat) (l : List Kl) : Prop := (a0 = none ∧ cap = 0 ∧ l = []) ∨ ∃ b o, a0 = some ⟨b, o, none⟩
set_option maxRecDepth 100000 in
set_option maxHeartbeats 800000 in
theorem clone_nil (w : World) : Calls Tryz.prog 148 #[.slice none 0 0] w fun e w' => ∃ v, e = .returned v ∧ OwnV w' w.heap.size v [] ∧ Below w.heap.size w w' := by
  have q53 : ∀ (w : World) (a : Option Addr) (n c : Nat), (binOp .eql 78 (.slice a n c) (.slice none 0 0)).run Tryz.prog w = .ok (.bool a.isNone) w := fun w a n c => run_eql_slice_nil w 78 94 a n c Tryz.underlying78
  go_enter Tryz.func148, Tryz.ntmps148
  go_wp2
  go_ret
  exact ⟨_, rfl, World.ownsRow_nil _ _ _ _, Below.refl _ _⟩
theorem clone_anyA (a0 : Option Addr) (cap : Nat) (l : List Kl) (w : World) (hl : l.length ≤ 1000000) (hA0 : AdOk a0 cap l) (hk : Kls w a0 l) :
    Calls Tryz.prog 148 #[.slice a0 l.length cap] w fun e w' => ∃ v, e = .returned v ∧ OwnV w' w.heap.size v l ∧ Below w.heap.size w w' := by
  rcases hA0 with ⟨rfl, rfl, rfl⟩ | ⟨b, o, rfl⟩
  · exact clone_nil w
  · exact clone_any b o cap l w hl hk

end Go.Proofs.YtioaehjppiodfaaGreatDoor
