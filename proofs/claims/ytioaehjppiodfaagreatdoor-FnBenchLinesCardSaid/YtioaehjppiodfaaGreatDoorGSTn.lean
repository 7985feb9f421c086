/-
  The program's text of an answer of numbers or of clips: its contract; what was there stays.
  The contract of the model's Turned.
-/
import Derived.Test.YtioaehjppiodfaaGreatDoorGBnA
import Derived.Laws.AppendOwn
import Derived.Test.YtioaehjppiodfaaGreatDoorGAdds
namespace Go.Proofs.YtioaehjppiodfaaGreatDoor
open Go.RowKit
set_option linter.unusedVariables false
set_option linter.unusedSimpArgs false

theorem own_someS {w : World} {B n : Nat} {e : TypeId} {m : Nat} {v : Value} {xs : List Value} (h : w.ownsRow B e m v n xs) (hn : 0 < n) : ∃ g c, v = .slice (some ⟨g, 0, none⟩) n c ∧ B ≤ g := by
  rcases h.2 with ⟨_, h0⟩ | ⟨g, c, cur, hv, hg, _⟩
  · omega
  · exact ⟨g, c, hv, hg⟩

/-- strings behind strings -/
theorem wpList_strs {ops : Array Oper} {rest : List Oper} {o : Oper} {a : Act} {Q : Exit → Act → World → Prop} (w : World) (hgd : o.guard = none) (s x : Operand) (ho : o.op = .call { callee := .builtin .append, args := #[s, x], argTypes := #[26, 26] })
    (B n : Nat) (v : Value) (xs : List Value) (hs : a.eval s = v) (hown : w.ownsRow B 9 1 v n xs) (g2 m c2 : Nat) (news : List Value) (hx : a.eval x = .slice (some ⟨g2, 0, none⟩) m c2) (hn : news.length = m) (hnews : ∀ j u, news[j]? = some u → w.cell? ⟨g2, j, none⟩ = some u) (h1 : ∀ u ∈ news, u.oneCell' = true) (hl : n + m ≤ 1000000) (hB : B ≤ w.heap.size)
    (h : ∀ v' w', w'.ownsRow B 9 1 v' (n + m) (xs ++ news) → w.grownBy w' v.ownBlock → wpList Tryz.prog ops Q rest (a.put o.dst v') w') : wpList Tryz.prog ops Q (o :: rest) a w := by
  obtain ⟨i0, hi, hz0, hz1, hz2⟩ := info_parts infoS
  exact wpList_plain hgd fun _ hK => wp_append_own (P := Tryz.prog) w s x 26 ho B 9 i0 (.string ⟨#[]⟩) 1 16 Tryz.underlying26 hi hz0 hz1 hz2 rfl (by decide) v n xs hs hown ⟨g2, 0, none⟩ m c2 news hx (by omega) (fun j u hu => by rw [Addr.add_lit, Nat.zero_add]; exact hnews j u hu) h1 (by unfold maxLen; omega) (by omega) hB fun v' w' h2 h3 _ => hK _ _ (h v' w' h2 h3)

set_option maxRecDepth 100000 in
set_option maxHeartbeats 1600000 in
theorem atext_nums (a : Option Addr) (cap : Nat) (L : List Int) (w : World) (hL : L.length ≤ 100) (hb : ∀ x ∈ L, B64 x) (hk : Ins w a L) (hG : Gv w) :
    Calls Tryz.prog 18 #[.iface 77 (.slice a L.length cap)] w fun e w' => e = .returned (.string (atext (.nums L))) ∧ Below w.heap.size w w' := by
  have hG' := hide hG
  have hb' := hide hb
  have hk' := hide hk
  clear hG hb hk
  have k1 := ta7775 (.slice a L.length cap)
  have k2 := ta77 (.slice a L.length cap)
  have hJ := hide (fun (w : World) (B g c : Nat) (h : w.ownsRow B 9 1 (.slice (some ⟨g, 0, none⟩) (L.length + 1) c) (L.length + 1) ((awords (.nums L)).map fun x => Value.string ⟨x.toArray⟩)) => join_row (n := L.length + 1) (awords (.nums L)) (by simp [awords]) h (by omega) (by
    have := join_len (awords (.nums L)) 21 (by
      intro x hx
      rcases List.mem_cons.1 hx with rfl | hx
      · decide
      · obtain ⟨y, hy, rfl⟩ := List.mem_map.1 hx
        exact Lib.itoa_length_le y (unhide hb' y hy).1 (unhide hb' y hy).2)
    have e : (awords (.nums L)).length = L.length + 1 := by simp [awords]
    rw [e] at this
    omega))
  have hbw := (Below.refl w.heap.size w).alloc (Nat.le_refl _) (.cells #[.string ⟨#[111, 107]⟩] 9)
  have hbw' := hide hbw
  have hL0 := hide (World.ownsRow_lit (base := w.heap.size) (e := 9) (size := 1) w #[.string ⟨#[111, 107]⟩] 1 (Nat.le_refl _) (by unfold maxLen; omega) rfl)
  clear hbw
  go_enter Tryz.func18, Tryz.ntmps18
  go_wp2
  go_loopw [3, 22] (fun s t wr => ∃ (k g c : Nat), k ≤ L.length ∧ t = .int .i64 k ∧ s = .slice (some ⟨g, 0, none⟩) (k + 1) c ∧ w.heap.size ≤ g ∧ Hid (wr.ownsRow w.heap.size 9 1 (.slice (some ⟨g, 0, none⟩) (k + 1) c) (k + 1) (([111, 107] :: (L.take k).map Lib.itoa).map fun x => Value.string ⟨x.toArray⟩)) ∧ Hid (Below w.heap.size w wr)) (fun _ t _ => L.length - (intOf t).toNat)
  case atStart => exact ⟨0, w.heap.size, 1, by omega, rfl, rfl, Nat.le_refl _, hide (unhide hL0), hbw'⟩
  case round =>
    clear hL0 hbw'
    obtain ⟨k, g, c, hkl, rfl, rfl, hg, ho, hw⟩ := hrel
    by_cases hlt : k < L.length
    · have hlt' : decide ((k : Int) < L.length) = true := by rw [decide_eq_true_iff]; omega
      obtain ⟨b, o, x, rfl, hx, hbl, hc⟩ := ins_at (unhide hk') (unhide hw) hlt
      have hx64 := unhide hb' x (List.mem_of_getElem? hx)
      have hne := hide (show (([111, 107] :: (L.take k).map Lib.itoa).map fun x => Value.string ⟨x.toArray⟩) ++ [.string (nt x)] = (([111, 107] :: (L.take (k + 1)).map Lib.itoa).map fun x => Value.string ⟨x.toArray⟩) from by rw [List.take_add_one, hx]; simp [nt])
      have hsz := (unhide hw).size
      clear hx
      go_wp2_with fail
      refine (ntext64 x hx64 _ ((unhide hG').below (unhide hw))).mono ?_
      rintro e w2 ⟨rfl, b2⟩
      have hw2 := hide (laterB (unhide hw) b2)
      have ho2 := hide (ownsRow_below (unhide ho) b2)
      have hsz2 := (unhide hw2).size
      generalize hxs : (([111, 107] :: (L.take k).map Lib.itoa).map fun x => Value.string ⟨x.toArray⟩) = xs at *
      have hxs' := hide hxs
      clear b2 ho hw hxs
      go_wp2_with (at_builtin; refine wpList_one Tryz.underlying26 infoS rfl (by decide) _ rfl _ _ rfl w.heap.size (k + 1) (.slice (some ⟨g, 0, none⟩) (k + 1) c) xs (.string (nt x)) rfl rfl (unhide ho2) rfl (by omega) hsz2 ?_)
      intro g' cap' w3 own3 gr3 hg3 hg3' hb3
      have o3 := hide (show w3.ownsRow w.heap.size 9 1 (.slice (some ⟨g', 0, none⟩) (k + 1 + 1) cap') (k + 1 + 1) (([111, 107] :: (L.take (k + 1)).map Lib.itoa).map fun x => Value.string ⟨x.toArray⟩) from by rw [← unhide hne]; exact own3)
      have hw3 := hide ((unhide hw2).trans hb3)
      clear own3 gr3 hg3 hb3 ho2 hw2 hne
      go_wp2
      go_roundw
      case rel => exact ⟨k + 1, g', cap', by omega, by go_num, rfl, hg3', o3, hw3⟩
      case measure => simp [intOf]; omega
    · obtain rfl : k = L.length := by omega
      have hlt' : decide ((L.length : Int) < L.length) = false := by simp
      have ho' := hide (show wr.ownsRow w.heap.size 9 1 (.slice (some ⟨g, 0, none⟩) (L.length + 1) c) (L.length + 1) ((awords (.nums L)).map fun x => Value.string ⟨x.toArray⟩) from by have := unhide ho; rw [List.take_length] at this; exact this)
      clear ho
      go_wp2_with fail
      refine (unhide hJ _ _ _ _ (unhide ho')).mono ?_
      rintro e w3 ⟨rfl, hb3⟩
      have h4 := hide (laterB (unhide hw) hb3)
      clear hb3 hJ ho' hw
      go_wp2
      go_ret
      exact ⟨rfl, unhide h4⟩

set_option maxRecDepth 100000 in
set_option maxHeartbeats 1600000 in
theorem atext_clips (a : Option Addr) (cap : Nat) (l : List Kl) (w : World) (hl : l.length ≤ 1000) (hb : ∀ x ∈ l, B64K x) (hk : Kls w a l) (hG : Gv w) :
    Calls Tryz.prog 18 #[.iface 78 (.slice a l.length cap)] w fun e w' => e = .returned (.string (atext (.clips l))) ∧ Below w.heap.size w w' := by
  have hG' := hide hG
  have hb' := hide hb
  have hk' := hide hk
  clear hG hb hk
  have k1 := ta7875 (.slice a l.length cap)
  have k2 := ta7877 (.slice a l.length cap)
  have k3 := ta78 (.slice a l.length cap)
  have hJ := hide (fun (w : World) (B g c : Nat) (h : w.ownsRow B 9 1 (.slice (some ⟨g, 0, none⟩) (1 + l.length) c) (1 + l.length) ((awords (.clips l)).map fun x => Value.string ⟨x.toArray⟩)) => join_row (n := 1 + l.length) (awords (.clips l)) (by simp [awords]; omega) h (by omega) (by
    have := join_len (awords (.clips l)) 65 (by
      intro x hx
      rcases List.mem_cons.1 hx with rfl | hx
      · decide
      · obtain ⟨y, hy, rfl⟩ := List.mem_map.1 hx
        exact ctL_len (unhide hb' y hy))
    have e : (awords (.clips l)).length = l.length + 1 := by simp [awords]
    rw [e] at this
    omega))
  have hbw := (Below.refl w.heap.size w).alloc (Nat.le_refl _) (.cells #[.string ⟨#[111, 107]⟩] 9)
  have hL0 := World.ownsRow_lit (base := w.heap.size) (e := 9) (size := 1) w #[.string ⟨#[111, 107]⟩] 1 (Nat.le_refl _) (by unfold maxLen; omega) rfl
  have cT := hide (ctexts_any a cap l _ (by omega) (unhide hb') ((unhide hG').below hbw) ((unhide hk').below hbw))
  have hbw' := hide hbw
  have hL0' := hide hL0
  clear hbw hL0
  obtain ⟨i0, hi, hz0, hz1, hz2⟩ := info_parts infoS
  go_enter Tryz.func18, Tryz.ntmps18
  go_wp2_with fail
  refine (unhide cT).mono ?_
  rintro e w2 ⟨g2, c2, rfl, hg2, own2, b2⟩
  have hw2 := hide (laterB (unhide hbw') b2)
  have oL := hide (ownsRow_below (unhide hL0') b2)
  have o2 := hide own2
  have hsz2 := (unhide hw2).size
  clear own2 b2 cT hL0' hbw'
  have hnw := hide (show ∀ j u, (l.map fun x => Value.string (ct x))[j]? = some u → w2.cell? ⟨g2, j, none⟩ = some u from by
    intro j u hu
    have hj : j < l.length := by have := (List.getElem?_eq_some_iff.1 hu).1; simpa using this
    have := (unhide o2).cellAt j (by omega)
    rw [this]; exact hu)
  go_wp2_with (at_builtin; refine wpList_strs _ rfl _ _ rfl w.heap.size 1 (.slice (some ⟨w.heap.size, 0, none⟩) 1 1) [.string ⟨#[111, 107]⟩] rfl (unhide oL) g2 l.length c2 (l.map fun x => Value.string (ct x)) rfl (by simp) (unhide hnw) (by intro u hu; obtain ⟨y, _, rfl⟩ := List.mem_map.1 hu; rfl) (by omega) hsz2 ?_)
  intro v3 w3 own3 gr3
  obtain ⟨g3, c3, rfl, hg3⟩ := own_someS own3 (by omega)
  have o3 := hide (show w3.ownsRow w.heap.size 9 1 (.slice (some ⟨g3, 0, none⟩) (1 + l.length) c3) (1 + l.length) ((awords (.clips l)).map fun x => Value.string ⟨x.toArray⟩) from by
    have e : (awords (.clips l)).map (fun x => Value.string ⟨x.toArray⟩) = [Value.string ⟨#[111, 107]⟩] ++ l.map fun x => Value.string (ct x) := by simp [awords, ct]
    rw [e]; exact own3)
  have hw3 := hide ((unhide hw2).trans ((Below.refl _ _).grown gr3 hsz2 (fun k hk => by have e : w.heap.size = k := Option.some.inj hk; omega)))
  clear own3 gr3 o2 oL hw2 hnw
  go_wp2_with fail
  refine (unhide hJ _ _ _ _ (unhide o3)).mono ?_
  rintro e w4 ⟨rfl, hb4⟩
  have h4 := hide (laterB (unhide hw3) hb4)
  clear hb4 hJ o3 hw3
  go_wp2
  go_ret
  exact ⟨rfl, unhide h4⟩

theorem atext_any (v : Value) (A : An) (w : World) (hv : AnV w v A) (hA : AnOk A) (hG : Gv w) :
    Calls Tryz.prog 18 #[v] w fun e w' => e = .returned (.string (atext A)) ∧ Below w.heap.size w w' := by
  cases A with
  | err n => rw [show v = .iface 75 (.int .i64 n) from hv]; exact atext_err n w hA hG
  | nums L => obtain ⟨a, c, rfl, hk⟩ := hv; exact atext_nums a c L w hA.1 hA.2 hk hG
  | clips l => obtain ⟨a, c, rfl, hk⟩ := hv; exact atext_clips a c l w hA.1 hA.2 hk hG
end Go.Proofs.YtioaehjppiodfaaGreatDoor

namespace Go.Proofs.YtioaehjppiodfaaGreatDoor
open Go.RowKit
set_option linter.unusedVariables false
set_option linter.unusedSimpArgs false

theorem step_c {T : TypeId} (hT : Tryz.prog.underlying T = some (.slice 103)) {ops : Array Oper} {o : Oper} {a : Act} {K : Act → World → Prop} {Q : Exit → Act → World → Prop} {E' : Prop} (w : World) (hgd : o.guard = none) (s x : Operand) (ho : o.op = .call { callee := .builtin .append, args := #[s, x], argTypes := #[T, T] })
    (B g n cap : Nat) (L : List Ch) (v : Ch) (hs : a.eval s = .slice (some ⟨g, 0, none⟩) n cap) (hown : OwnC w B g n cap L) (E : Nat) (hx : a.eval x = .slice (some ⟨E, 0, none⟩) 1 1)
    (hblk : w.heap[E]? = some (.cells #[.int .i64 v.1, .int .i64 v.2.1, .int .i64 v.2.2.1, .int .i64 v.2.2.2] 103 (0, 0))) (hl : n ≤ 1000000) (hB : B ≤ w.heap.size)
    (h : ∀ g' cap' w', OwnC w' B g' (n + 1) cap' (L ++ [v]) → w.grownBy w' (some g) → (g' = g ∨ g' = w.heap.size) → K (a.put o.dst (.slice (some ⟨g', 0, none⟩) (n + 1) cap')) w') :
    if Region.wanted o (yielded ops a.tmps) = true then Oper.wp Tryz.prog o a w K Q else E' := by
  obtain ⟨i0, hi, hz0, hz1, hz2⟩ := info_parts info48
  refine step_append_lies w hgd s x T ho B 103 i0 (.agg #[.int .i64 0, .int .i64 0, .int .i64 0, .int .i64 0]) 4 32 hT hi hz0 hz1 hz2 rfl (by decide) _ n (flC L) hs hown ⟨E, 0, none⟩ 1 1 [iv v.1, iv v.2.1, iv v.2.2.1, iv v.2.2.2] hx rfl (C_news hblk) (by intro u hu; simp at hu; rcases hu with rfl | rfl | rfl | rfl <;> rfl) (by decide) (by unfold maxLen; omega) (by omega) hB w.heap.size rfl ?_
  intro g' cap' w' h1 h2 h3 h4
  exact h g' cap' w' (by show World.ownsRow _ _ _ _ _ _ _; rw [flC_append]; exact h1) (by simpa [Value.ownBlock] using h2) (Or.imp (fun h3 => by simp [Value.ownBlock] at h3; exact h3.symm) id h3)

end Go.Proofs.YtioaehjppiodfaaGreatDoor
