/-
  The program's text of an answer of numbers or of clips: its contract; what was there stays.
  Contracts of the library's Grow, Concat and Clone of clips, as the program calls them: the answer is new memory, nothing that was there is written.
-/
import Derived.Test.YtioaehjppiodfaaGreatDoorG19
import Derived.Laws.AppendOwn
import Derived.Test.YtioaehjppiodfaaGreatDoorG10
import Derived.Lib.LazyBuf
namespace Go.Proofs.YtioaehjppiodfaaGreatDoor
open Go.RowKit
set_option linter.unusedVariables false
set_option linter.unusedSimpArgs false

theorem own_someS {w : World} {B n : Nat} {e : TypeId} {m : Nat} {v : Value} {xs : List Value} (h : w.ownsRow B e m v n xs) (hn : 0 < n) : ∃ g c, v = .slice (some ⟨g, 0, none⟩) n c ∧ B ≤ g := by
  rcases h.2 with ⟨_, h0⟩ | ⟨g, c, cur, hv, hg, _⟩
  · omega
  · exact ⟨g, c, hv, hg⟩

/-- strings behind strings -/
theorem wpList_strs {ops : Array Oper} {rest : List Oper} {o : Oper} {a : Act} {Q : Exit → Act → World → Prop} (w : World) (hgd : o.guard = none) (s x : Operand) (ho : o.op = .call { callee := .builtin .append, args := #[s, x], argTypes := #[26, 26] })
    (B n : Nat) (v : Value) (xs : List Value) (hs : a.eval s = v) (hown : w.ownsRow B 9 1 v n xs) (g2 m c2 : Nat) (news : List Value) (hx : a.eval x = .slice (some ⟨g2, 0, none⟩) m c2) (hn : news.length = m) (hnews : ∀ j u, news[j]? = some u → w.cell? ⟨g2, j, none⟩ = some u) (h1 : ∀ u ∈ news, u.oneCell' = true) (hl : n + m ≤ 1000000) (hB : B ≤ w.heap.size)
    (h : ∀ v' w', w'.ownsRow B 9 1 v' (n + m) (xs ++ news) → w.grownBy w' v.ownBlock → wpList Tryz.prog ops Q rest (a.put o.dst v') w') : wpList Tryz.prog ops Q (o :: rest) a w := by
  obtain ⟨i0, hi, hz0, hz1, hz2⟩ := info_parts infoS
  exact wpList_plain hgd fun _ hK => wp_append_own (P := Tryz.prog) w s x 26 ho B 9 i0 (.string ⟨#[]⟩) 1 16 Tryz.underlying26 hi hz0 hz1 hz2 rfl (by decide) v n xs hs hown ⟨g2, 0, none⟩ m c2 news hx (by omega) (fun j u hu => by rw [Addr.add_lit, Nat.zero_add]; exact hnews j u hu) h1 (by unfold maxLen; omega) (by omega) hB fun v' w' h2 h3 _ => hK _ _ (h v' w' h2 h3)

set_option maxRecDepth 100000 in
set_option maxHeartbeats 1600000 in
theorem atext_nums (a : Option Addr) (cap : Nat) (L : List Int) (w : World) (hL : L.length ≤ 100) (hb : ∀ x ∈ L, B64 x) (hk : Ins w a L) (hG : Gv w) :
    Calls Tryz.prog 18 #[.iface 77 (.slice a L.length cap)] w fun e w' => e = .returned (.string (atext (.nums L))) ∧ Below w.heap.size w w' := by
  have hG' := hide hG
  have hb' := hide hb
  have hk' := hide hk
  clear hG hb hk
  have k1 := ta7775 (.slice a L.length cap)
  have k2 := ta77 (.slice a L.length cap)
  have hJ := hide (fun (w : World) (B g c : Nat) (h : w.ownsRow B 9 1 (.slice (some ⟨g, 0, none⟩) (L.length + 1) c) (L.length + 1) ((awords (.nums L)).map fun x => Value.string ⟨x.toArray⟩)) => join_row (n := L.length + 1) (awords (.nums L)) (by simp [awords]) h (by omega) (by
    have := join_len (awords (.nums L)) 21 (by
      intro x hx
      rcases List.mem_cons.1 hx with rfl | hx
      · decide
      · obtain ⟨y, hy, rfl⟩ := List.mem_map.1 hx
        exact Lib.itoa_length_le y (unhide hb' y hy).1 (unhide hb' y hy).2)
    have e : (awords (.nums L)).length = L.length + 1 := by simp [awords]
    rw [e] at this
    omega))
  have hbw := (Below.refl w.heap.size w).alloc (Nat.le_refl _) (.cells #[.string ⟨#[111, 107]⟩] 9)
  have hbw' := hide hbw
  have hL0 := hide (World.ownsRow_lit (base := w.heap.size) (e := 9) (size := 1) w #[.string ⟨#[111, 107]⟩] 1 (Nat.le_refl _) (by unfold maxLen; omega) rfl)
  clear hbw
  go_enter Tryz.func18, Tryz.ntmps18
  go_wp2
  go_loopw [3, 22] (fun s t wr => ∃ (k g c : Nat), k ≤ L.length ∧ t = .int .i64 k ∧ s = .slice (some ⟨g, 0, none⟩) (k + 1) c ∧ w.heap.size ≤ g ∧ Hid (wr.ownsRow w.heap.size 9 1 (.slice (some ⟨g, 0, none⟩) (k + 1) c) (k + 1) (([111, 107] :: (L.take k).map Lib.itoa).map fun x => Value.string ⟨x.toArray⟩)) ∧ Hid (Below w.heap.size w wr)) (fun _ t _ => L.length - (intOf t).toNat)
  case atStart => exact ⟨0, w.heap.size, 1, by omega, rfl, rfl, Nat.le_refl _, hide (unhide hL0), hbw'⟩
  case round =>
    clear hL0 hbw'
    obtain ⟨k, g, c, hkl, rfl, rfl, hg, ho, hw⟩ := hrel
    by_cases hlt : k < L.length
    · have hlt' : decide ((k : Int) < L.length) = true := by rw [decide_eq_true_iff]; omega
      obtain ⟨b, o, x, rfl, hx, hbl, hc⟩ := ins_at (unhide hk') (unhide hw) hlt
      have hx64 := unhide hb' x (List.mem_of_getElem? hx)
      have hne := hide (show (([111, 107] :: (L.take k).map Lib.itoa).map fun x => Value.string ⟨x.toArray⟩) ++ [.string (nt x)] = (([111, 107] :: (L.take (k + 1)).map Lib.itoa).map fun x => Value.string ⟨x.toArray⟩) from by rw [List.take_add_one, hx]; simp [nt])
      have hsz := (unhide hw).size
      clear hx
      go_wp2_with fail
      refine (ntext64 x hx64 _ ((unhide hG').below (unhide hw))).mono ?_
      rintro e w2 ⟨rfl, b2⟩
      have hw2 := hide (laterB (unhide hw) b2)
      have ho2 := hide (ownsRow_below (unhide ho) b2)
      have hsz2 := (unhide hw2).size
      generalize hxs : (([111, 107] :: (L.take k).map Lib.itoa).map fun x => Value.string ⟨x.toArray⟩) = xs at *
      have hxs' := hide hxs
      clear b2 ho hw hxs
      go_wp2_with (at_builtin; refine wpList_one Tryz.underlying26 infoS rfl (by decide) _ rfl _ _ rfl w.heap.size (k + 1) (.slice (some ⟨g, 0, none⟩) (k + 1) c) xs (.string (nt x)) rfl rfl (unhide ho2) rfl (by omega) hsz2 ?_)
      intro g' cap' w3 own3 gr3 hg3 hg3' hb3
      have o3 := hide (show w3.ownsRow w.heap.size 9 1 (.slice (some ⟨g', 0, none⟩) (k + 1 + 1) cap') (k + 1 + 1) (([111, 107] :: (L.take (k + 1)).map Lib.itoa).map fun x => Value.string ⟨x.toArray⟩) from by rw [← unhide hne]; exact own3)
      have hw3 := hide ((unhide hw2).trans hb3)
      clear own3 gr3 hg3 hb3 ho2 hw2 hne
      go_wp2
      go_roundw
      case rel => exact ⟨k + 1, g', cap', by omega, by go_num, rfl, hg3', o3, hw3⟩
      case measure => simp [intOf]; omega
    · obtain rfl : k = L.length := by omega
      have hlt' : decide ((L.length : Int) < L.length) = false := by simp
      have ho' := hide (show wr.ownsRow w.heap.size 9 1 (.slice (some ⟨g, 0, none⟩) (L.length + 1) c) (L.length + 1) ((awords (.nums L)).map fun x => Value.string ⟨x.toArray⟩) from by have := unhide ho; rw [List.take_length] at this; exact this)
      clear ho
      go_wp2_with fail
      refine (unhide hJ _ _ _ _ (unhide ho')).mono ?_
      rintro e w3 ⟨rfl, hb3⟩
      have h4 := hide (laterB (unhide hw) hb3)
      clear hb3 hJ ho' hw
      go_wp2
      go_ret
      exact ⟨rfl, unhide h4⟩

set_option maxRecDepth 100000 in
set_option maxHeartbeats 1600000 in
theorem atext_clips (a : Option Addr) (cap : Nat) (l : List Kl) (w : World) (hl : l.length ≤ 1000) (hb : ∀ x ∈ l, B64K x) (hk : Kls w a l) (hG : Gv w) :
    Calls Tryz.prog 18 #[.iface 78 (.slice a l.length cap)] w fun e w' => e = .returned (.string (atext (.clips l))) ∧ Below w.heap.size w w' := by
  have hG' := hide hG
  have hb' := hide hb
  have hk' := hide hk
  clear hG hb hk
  have k1 := ta7875 (.slice a l.length cap)
  have k2 := ta7877 (.slice a l.length cap)
  have k3 := ta78 (.slice a l.length cap)
  have hJ := hide (fun (w : World) (B g c : Nat) (h : w.ownsRow B 9 1 (.slice (some ⟨g, 0, none⟩) (1 + l.length) c) (1 + l.length) ((awords (.clips l)).map fun x => Value.string ⟨x.toArray⟩)) => join_row (n := 1 + l.length) (awords (.clips l)) (by simp [awords]; omega) h (by omega) (by
    have := join_len (awords (.clips l)) 65 (by
      intro x hx
      rcases List.mem_cons.1 hx with rfl | hx
      · decide
      · obtain ⟨y, hy, rfl⟩ := List.mem_map.1 hx
        exact ctL_len (unhide hb' y hy))
    have e : (awords (.clips l)).length = l.length + 1 := by simp [awords]
    rw [e] at this
    omega))
  have hbw := (Below.refl w.heap.size w).alloc (Nat.le_refl _) (.cells #[.string ⟨#[111, 107]⟩] 9)
  have hL0 := World.ownsRow_lit (base := w.heap.size) (e := 9) (size := 1) w #[.string ⟨#[111, 107]⟩] 1 (Nat.le_refl _) (by unfold maxLen; omega) rfl
  have cT := hide (ctexts_any a cap l _ (by omega) (unhide hb') ((unhide hG').below hbw) ((unhide hk').below hbw))
  have hbw' := hide hbw
  have hL0' := hide hL0
  clear hbw hL0
  obtain ⟨i0, hi, hz0, hz1, hz2⟩ := info_parts infoS
  go_enter Tryz.func18, Tryz.ntmps18
  go_wp2_with fail
  refine (unhide cT).mono ?_
  rintro e w2 ⟨g2, c2, rfl, hg2, own2, b2⟩
  have hw2 := hide (laterB (unhide hbw') b2)
  have oL := hide (ownsRow_below (unhide hL0') b2)
  have o2 := hide own2
  have hsz2 := (unhide hw2).size
  clear own2 b2 cT hL0' hbw'
  have hnw := hide (show ∀ j u, (l.map fun x => Value.string (ct x))[j]? = some u → w2.cell? ⟨g2, j, none⟩ = some u from by
    intro j u hu
    have hj : j < l.length := by have := (List.getElem?_eq_some_iff.1 hu).1; simpa using this
    have := (unhide o2).cellAt j (by omega)
    rw [this]; exact hu)
  go_wp2_with (at_builtin; refine wpList_strs _ rfl _ _ rfl w.heap.size 1 (.slice (some ⟨w.heap.size, 0, none⟩) 1 1) [.string ⟨#[111, 107]⟩] rfl (unhide oL) g2 l.length c2 (l.map fun x => Value.string (ct x)) rfl (by simp) (unhide hnw) (by intro u hu; obtain ⟨y, _, rfl⟩ := List.mem_map.1 hu; rfl) (by omega) hsz2 ?_)
  intro v3 w3 own3 gr3
  obtain ⟨g3, c3, rfl, hg3⟩ := own_someS own3 (by omega)
  have o3 := hide (show w3.ownsRow w.heap.size 9 1 (.slice (some ⟨g3, 0, none⟩) (1 + l.length) c3) (1 + l.length) ((awords (.clips l)).map fun x => Value.string ⟨x.toArray⟩) from by
    have e : (awords (.clips l)).map (fun x => Value.string ⟨x.toArray⟩) = [Value.string ⟨#[111, 107]⟩] ++ l.map fun x => Value.string (ct x) := by simp [awords, ct]
    rw [e]; exact own3)
  have hw3 := hide ((unhide hw2).trans ((Below.refl _ _).grown gr3 hsz2 (fun k hk => by have e : w.heap.size = k := Option.some.inj hk; omega)))
  clear own3 gr3 o2 oL hw2 hnw
  go_wp2_with fail
  refine (unhide hJ _ _ _ _ (unhide o3)).mono ?_
  rintro e w4 ⟨rfl, hb4⟩
  have h4 := hide (laterB (unhide hw3) hb4)
  clear hb4 hJ o3 hw3
  go_wp2
  go_ret
  exact ⟨rfl, unhide h4⟩

theorem atext_any (v : Value) (A : An) (w : World) (hv : AnV w v A) (hA : AnOk A) (hG : Gv w) :
    Calls Tryz.prog 18 #[v] w fun e w' => e = .returned (.string (atext A)) ∧ Below w.heap.size w w' := by
  cases A with
  | err n => rw [show v = .iface 75 (.int .i64 n) from hv]; exact atext_err n w hA hG
  | nums L => obtain ⟨a, c, rfl, hk⟩ := hv; exact atext_nums a c L w hA.1 hA.2 hk hG
  | clips l => obtain ⟨a, c, rfl, hk⟩ := hv; exact atext_clips a c l w hA.1 hA.2 hk hG
end Go.Proofs.YtioaehjppiodfaaGreatDoor

namespace Go.Proofs.YtioaehjppiodfaaGreatDoor
open Go.RowKit
set_option linter.unusedVariables false
set_option linter.unusedSimpArgs false

set_option maxRecDepth 100000 in
set_option maxHeartbeats 800000 in
theorem grow_any (n : Nat) (w : World) (hn : n ≤ 1000000) :
    Calls Tryz.prog 168 #[.slice none 0 0, .int .i64 n] w fun e w' => ∃ v, e = .returned v ∧ OwnV w' w.heap.size v [] ∧ Below w.heap.size w w' := by
  obtain ⟨i0, hi, hz0, hz1, hz2⟩ := info_parts info44
  by_cases h0 : n = 0
  · subst h0
    go_enter Tryz.func168, Tryz.ntmps168
    go_wp2
    go_ret
    exact ⟨_, rfl, World.ownsRow_nil _ _ _ _, Below.refl _ _⟩
  · have h1 : decide ((0 : Int) < n) = true := by simp; omega
    have happ := Lib.run_append_nil_zeros (P := Tryz.prog) w 78 3 78 94 i0 (.agg #[.int .i64 0, .int .i64 0, .int .i64 0]) .i64 .i64 Tryz.underlying78 Tryz.underlying3 hi hz0 n (by omega) (by rw [hz1]; omega) (by omega) (by rw [hz2]; omega)
    generalize hcap : grownCap w n 0 94 = cap2 at happ
    have hcapge : n ≤ cap2 := by rw [← hcap]; exact grownCap_ge w _ 0 94
    have hcaple : cap2 ≤ maxLen := by rw [← hcap]; exact grownCap_le_maxLen w _ 0 94 (by unfold maxLen; omega)
    generalize hZ : (Builtin.zeroCells (Value.agg #[.int .i64 0, .int .i64 0, .int .i64 0]).cells n ++ Builtin.zeroCells (Value.agg #[.int .i64 0, .int .i64 0, .int .i64 0]).cells (cap2 - n)) = Z at happ
    have hZs : Z.size = cap2 * 3 := by rw [← hZ]; simp [size_zeroCells, Value.cells]; omega
    clear hcap hZ
    go_enter Tryz.func168, Tryz.ntmps168
    go_wp2_with (at_builtin; refine Lib.wpList_append_run _ rfl _ _ _ _ rfl _ _ rfl rfl _ _ happ ?_)
    go_ret
    exact ⟨_, rfl, ⟨rfl, .inr ⟨w.heap.size, cap2, Z, rfl, Nat.le_refl _, heap_alloc_new w.drew _, Nat.zero_le _, hcaple, hZs, rfl⟩⟩, ((Below.refl _ _).drew).alloc (Nat.le_refl _) _⟩

/-- lists behind each other -/
abbrev Es := List (Option Addr × Nat × List Kl)
def cat : Es → List Kl
  | [] => []
  | e :: es => e.2.2 ++ cat es
theorem cat_append (a b : Es) : cat (a ++ b) = cat a ++ cat b := by
  induction a with
  | nil => rfl
  | cons e a ih => simp [cat, ih]
theorem cat_take {es : Es} {k : Nat} {e : Option Addr × Nat × List Kl} (h : es[k]? = some e) : cat (es.take (k + 1)) = cat (es.take k) ++ e.2.2 := by
  rw [List.take_add_one, h, cat_append]; simp [cat]
theorem cat_take_le (es : Es) (k : Nat) : (cat (es.take k)).length ≤ (cat es).length := by
  have : cat es = cat (es.take k) ++ cat (es.drop k) := by rw [← cat_append, List.take_append_drop]
  rw [this, List.length_append]; omega

set_option maxRecDepth 100000 in
set_option maxHeartbeats 1600000 in
theorem concat_any (b cap : Nat) (es : Es) (w : World) (hl : (cat es).length ≤ 2000) (he : es.length ≤ 10) (hb : b < w.heap.size)
    (hc : ∀ k e, es[k]? = some e → w.cell? ⟨b, k, none⟩ = some (.slice e.1 e.2.2.length e.2.1) ∧ Kls w e.1 e.2.2 ∧ (e.1 = none → e.2.1 = 0)) :
    Calls Tryz.prog 147 #[.slice (some ⟨b, 0, none⟩) es.length cap] w fun e w' => ∃ v, e = .returned v ∧ OwnV w' w.heap.size v (cat es) ∧ Below w.heap.size w w' := by
  have hc' := hide hc
  clear hc
  go_enter Tryz.func147, Tryz.ntmps147
  go_wp2
  go_loop [3, 11] (fun s t => ∃ k : Nat, k ≤ es.length ∧ t = .int .i64 k ∧ s = .int .i64 (cat (es.take k)).length) (fun _ t => es.length - (intOf t).toNat)
  case atStart => exact ⟨0, by omega, rfl, rfl⟩
  case round =>
    obtain ⟨k, hk, rfl, rfl⟩ := hrel
    have hkl := cat_take_le es k
    by_cases hlt : k < es.length
    · obtain ⟨⟨a, c, L⟩, hx⟩ : ∃ e, es[k]? = some e := ⟨_, List.getElem?_eq_getElem hlt⟩
      obtain ⟨c0, _, _⟩ := unhide hc' k _ hx
      have hkl2 := cat_take_le es (k + 1)
      have hct := cat_take hx
      simp only at c0 hct
      rw [hct, List.length_append] at hkl2
      have hct' := hide hct
      clear hx hct
      obtain ⟨m, hm⟩ : ∃ m, m = (cat (es.take k)).length := ⟨_, rfl⟩
      rw [← hm] at hkl hkl2 ⊢
      have hm' := hide hm
      clear hm
      have hneg : decide ((m : Int) + (L.length : Int) < 0) = false := by simp; omega
      go_wp2
      go_round
      case rel => exact ⟨k + 1, by omega, by go_num, by rw [unhide hct', List.length_append, ← unhide hm']; exact congrArg (Value.int .i64) (by omega)⟩
      case measure => simp [intOf]; omega
    · have hke : k = es.length := by omega
      have hct := hide (show cat (es.take k) = cat es by rw [hke, List.take_length])
      rw [unhide hct]
      clear hkl
      obtain ⟨N, hN⟩ : ∃ N, N = (cat es).length := ⟨_, rfl⟩
      rw [← hN] at hl ⊢
      have hN' := hide hN
      clear hN
      go_wp2_with fail
      refine (grow_any N _ (by omega)).mono ?_
      rintro e w1 ⟨v1, rfl, o1, k1⟩
      have o1' := hide o1
      have H1 := hide k1
      clear o1 k1
      go_wp2
      go_loopw [6, 27] (fun s t wr => ∃ k : Nat, k ≤ es.length ∧ t = .int .i64 k ∧ Hid (OwnV wr w.heap.size s (cat (es.take k))) ∧ Hid (Below w.heap.size w wr)) (fun _ t _ => es.length - (intOf t).toNat)
      case atStart => exact ⟨0, by omega, rfl, o1', H1⟩
      case round =>
        clear o1' H1
        obtain ⟨k, hk, rfl, oV, hw⟩ := hrel
        have hkl := cat_take_le es k
        by_cases hlt : k < es.length
        · obtain ⟨⟨a, c, L⟩, hx⟩ : ∃ e, es[k]? = some e := ⟨_, List.getElem?_eq_getElem hlt⟩
          obtain ⟨c0, kl, hnn⟩ := unhide hc' k _ hx
          have c1 := cell_later (unhide hw) c0
          have kl' := hide (kl.below (unhide hw))
          have hnn' := hide hnn
          have hct' := hide (cat_take hx)
          have hLl : L.length ≤ 2000 := by have := cat_take_le es (k + 1); rw [cat_take hx, List.length_append] at this; simp only at this; have := unhide hN'; omega
          simp only at c1 kl' hnn'
          clear hx c0 kl hnn
          have hkl3 : (cat (es.take k)).length ≤ 2000 := by have := unhide hN'; omega
          go_wp2_with (at_builtin; refine wpList_apps Tryz.underlying78 _ rfl _ _ rfl w.heap.size _ (cat (es.take k)) L a c rfl (unhide oV) rfl (unhide kl') (unhide hnn') (by omega) (by omega) (unhide hw).size ?_)
          intro v' w' n' k' _
          have oV' := hide (show OwnV w' w.heap.size v' (cat (es.take (k + 1))) by rw [unhide hct']; exact n')
          have hw' := hide ((unhide hw).trans k')
          clear n' k' oV hw
          go_wp2
          go_roundw
          case rel => exact ⟨k + 1, by omega, by go_num, oV', hw'⟩
          case measure => simp [intOf]; omega
        · have hke : k = es.length := by omega
          have oF := unhide oV
          rw [hke, List.take_length] at oF
          have oF' := hide oF
          clear oF oV
          go_wp2
          go_ret
          exact ⟨_, rfl, unhide oF', unhide hw⟩

set_option maxRecDepth 100000 in
set_option maxHeartbeats 800000 in
theorem clone_any (b o cap : Nat) (l : List Kl) (w : World) (hl : l.length ≤ 1000000) (hk : Kls w (some ⟨b, o, none⟩) l) :
    Calls Tryz.prog 148 #[.slice (some ⟨b, o, none⟩) l.length cap] w fun e w' => ∃ v, e = .returned v ∧ OwnV w' w.heap.size v l ∧ Below w.heap.size w w' := by
  have hA : Below w.heap.size w (w.alloc (.cells #[] 94)) := (Below.refl _ _).alloc (Nat.le_refl _) _
  have K1 := hide (hk.below hA)
  have H1 := hide hA
  have o1 := hide (own_lit0 w (Nat.le_refl _))
  have q53 : ∀ (w : World) (a : Option Addr) (n c : Nat), (binOp .eql 78 (.slice a n c) (.slice none 0 0)).run Tryz.prog w = .ok (.bool a.isNone) w := fun w a n c => run_eql_slice_nil w 78 94 a n c Tryz.underlying78
  clear hk hA
  go_enter Tryz.func148, Tryz.ntmps148
  go_wp2_with (at_builtin; refine wpList_apps Tryz.underlying78 _ rfl _ _ rfl w.heap.size (.slice (some ⟨w.heap.size, 0, none⟩) 0 0) [] l (some ⟨b, o, none⟩) cap rfl (unhide o1) rfl (unhide K1) (fun h => by cases h) (by simp) (by omega) (by simp) ?_)
  intro v w2 nv kv _
  go_wp2
  go_ret
  exact ⟨v, rfl, nv, (unhide H1).trans kv⟩


/-- a list that is none yet, or that lies somewhere -/
def AdOk (a0 : Option Addr) (cap : Nat) (l : List Kl) : Prop := (a0 = none ∧ cap = 0 ∧ l = []) ∨ ∃ b o, a0 = some ⟨b, o, none⟩
set_option maxRecDepth 100000 in
set_option maxHeartbeats 800000 in
theorem clone_nil (w : World) : Calls Tryz.prog 148 #[.slice none 0 0] w fun e w' => ∃ v, e = .returned v ∧ OwnV w' w.heap.size v [] ∧ Below w.heap.size w w' := by
  have q53 : ∀ (w : World) (a : Option Addr) (n c : Nat), (binOp .eql 78 (.slice a n c) (.slice none 0 0)).run Tryz.prog w = .ok (.bool a.isNone) w := fun w a n c => run_eql_slice_nil w 78 94 a n c Tryz.underlying78
  go_enter Tryz.func148, Tryz.ntmps148
  go_wp2
  go_ret
  exact ⟨_, rfl, World.ownsRow_nil _ _ _ _, Below.refl _ _⟩
theorem clone_anyA (a0 : Option Addr) (cap : Nat) (l : List Kl) (w : World) (hl : l.length ≤ 1000000) (hA0 : AdOk a0 cap l) (hk : Kls w a0 l) :
    Calls Tryz.prog 148 #[.slice a0 l.length cap] w fun e w' => ∃ v, e = .returned v ∧ OwnV w' w.heap.size v l ∧ Below w.heap.size w w' := by
  rcases hA0 with ⟨rfl, rfl, rfl⟩ | ⟨b, o, rfl⟩
  · exact clone_nil w
  · exact clone_any b o cap l w hl hk

end Go.Proofs.YtioaehjppiodfaaGreatDoor
