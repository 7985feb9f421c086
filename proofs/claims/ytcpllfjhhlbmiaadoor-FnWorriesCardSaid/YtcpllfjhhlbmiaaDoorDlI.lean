/-
  Titles that are delayed: the contract of the program; nothing that was there is written.
-/
import Derived.Test.YtcpllfjhhlbmiaaDoorDlS
namespace Go.Proofs.YtcpllfjhhlbmiaaDoor
open Go.RowKit
set_option linter.unusedVariables false
set_option linter.unusedSimpArgs false

theorem clone_any (s : ByteArray) (w : World) (hs : s.size ≤ 1048576) : Calls Tryd.prog 43 #[.string s] w fun e w' => e = .returned (.string s) ∧ Below w.heap.size w w' := by
  go_enter Tryd.func43, Tryd.ntmps43
  go_wp2_with fail
  refine (Tryd.stringslite_Clone s w (by omega)).mono ?_
  rintro e w1 ⟨rfl, k1⟩
  go_wp2
  go_ret
  exact ⟨rfl, k1⟩
theorem wp_t {o : Oper} {a : Act} {K : Act → World → Prop} {Q : Exit → Act → World → Prop} (w : World) (s x : Operand) (ho : o.op = .call { callee := .builtin .append, args := #[s, x], argTypes := #[24, 24] })
    (B g n cap : Nat) (L : List Kl) (v : Kl) (hs : a.eval s = .slice (some ⟨g, 0, none⟩) n cap) (hown : Own w B g n cap L) (E : Nat) (hx : a.eval x = .slice (some ⟨E, 0, none⟩) 1 1)
    (hblk : w.heap[E]? = some (.cells #[.int .i64 v.1, .int .i64 v.2.1, .string v.2.2] 32 (0, 0))) (hl : n ≤ 1000000) (hB : B ≤ w.heap.size)
    (h : ∀ g' cap' w', Own w' B g' (n + 1) cap' (L ++ [v]) → w.grownBy w' (some g) → (g = g' ∨ g' = w.heap.size) → g' < w'.heap.size → K (a.put o.dst (.slice (some ⟨g', 0, none⟩) (n + 1) cap')) w') : o.wp Tryd.prog a w K Q := by
  obtain ⟨i0, hi, hz0, hz1, hz2⟩ := info_parts info44
  refine wp_append_lies w s x 24 ho B 32 i0 _ 3 32 Tryd.underlying24 hi hz0 hz1 hz2 rfl (by decide) _ n (flK L) hs hown ⟨E, 0, none⟩ 1 1 [iv v.1, iv v.2.1, sv v.2.2] hx rfl (K_news hblk) (by intro u hu; simp at hu; rcases hu with rfl | rfl | rfl <;> rfl) (by decide) (by unfold maxLen; omega) (by omega) hB w.heap.size rfl ?_
  intro g' cap' w' h1 h2 h3 h4
  refine h g' cap' w' (by show World.ownsRow _ _ _ _ _ _ _; rw [flK_append]; exact h1) h2 ?_ h4
  rcases h3 with h3 | h3
  · left; simp [Value.ownBlock] at h3; exact h3
  · right; exact h3
theorem step_t {ops : Array Oper} {o : Oper} {a : Act} {K : Act → World → Prop} {Q : Exit → Act → World → Prop} {E' : Prop} (w : World) (hgd : o.guard = none) (s x : Operand) (ho : o.op = .call { callee := .builtin .append, args := #[s, x], argTypes := #[24, 24] })
    (B g n cap : Nat) (L : List Kl) (v : Kl) (hs : a.eval s = .slice (some ⟨g, 0, none⟩) n cap) (hown : Own w B g n cap L) (E : Nat) (hx : a.eval x = .slice (some ⟨E, 0, none⟩) 1 1)
    (hblk : w.heap[E]? = some (.cells #[.int .i64 v.1, .int .i64 v.2.1, .string v.2.2] 32 (0, 0))) (hl : n ≤ 1000000) (hB : B ≤ w.heap.size)
    (h : ∀ g' cap' w', Own w' B g' (n + 1) cap' (L ++ [v]) → w.grownBy w' (some g) → (g = g' ∨ g' = w.heap.size) → g' < w'.heap.size → K (a.put o.dst (.slice (some ⟨g', 0, none⟩) (n + 1) cap')) w') :
    if Region.wanted o (yielded ops a.tmps) = true then Oper.wp Tryd.prog o a w K Q else E' := by
  have hw : Region.wanted o (yielded ops a.tmps) = true := by simp [Region.wanted, hgd]
  rw [if_pos hw]
  exact wp_t w s x ho B g n cap L v hs hown E hx hblk hl hB h
/-- a title's cells, and what lay there -/
def SB (w : World) (q : Nat) (x y : Int) (s : ByteArray) (w' : World) : Prop := w'.cell? ⟨q, 0, none⟩ = some (.int .i64 x) ∧ w'.cell? ⟨q, 1, none⟩ = some (.int .i64 y) ∧ w'.cell? ⟨q, 2, none⟩ = some (.string s)
theorem sb_below {q : Nat} {x y : Int} {s : ByteArray} {w0 w1 : World} (h : w0.cell? ⟨q, 0, none⟩ = some (.int .i64 x) ∧ w0.cell? ⟨q, 1, none⟩ = some (.int .i64 y) ∧ w0.cell? ⟨q, 2, none⟩ = some (.string s)) (hb : Below w0.heap.size w0 w1) : w1.cell? ⟨q, 0, none⟩ = some (.int .i64 x) ∧ w1.cell? ⟨q, 1, none⟩ = some (.int .i64 y) ∧ w1.cell? ⟨q, 2, none⟩ = some (.string s) :=
  ⟨cell_later hb h.1, cell_later hb h.2.1, cell_later hb h.2.2⟩
theorem sb_drew {q : Nat} {x y : Int} {s : ByteArray} {w0 : World} (h : w0.cell? ⟨q, 0, none⟩ = some (.int .i64 x) ∧ w0.cell? ⟨q, 1, none⟩ = some (.int .i64 y) ∧ w0.cell? ⟨q, 2, none⟩ = some (.string s)) : w0.drew.cell? ⟨q, 0, none⟩ = some (.int .i64 x) ∧ w0.drew.cell? ⟨q, 1, none⟩ = some (.int .i64 y) ∧ w0.drew.cell? ⟨q, 2, none⟩ = some (.string s) := h
theorem sb_alloc {q : Nat} {x y : Int} {s : ByteArray} {w0 : World} {o : Obj} (h : w0.cell? ⟨q, 0, none⟩ = some (.int .i64 x) ∧ w0.cell? ⟨q, 1, none⟩ = some (.int .i64 y) ∧ w0.cell? ⟨q, 2, none⟩ = some (.string s)) : (w0.alloc o).cell? ⟨q, 0, none⟩ = some (.int .i64 x) ∧ (w0.alloc o).cell? ⟨q, 1, none⟩ = some (.int .i64 y) ∧ (w0.alloc o).cell? ⟨q, 2, none⟩ = some (.string s) :=
  sb_below h ((Below.refl _ _).alloc (Nat.le_refl _) _)
theorem sb_grown {q g : Nat} {x y : Int} {s : ByteArray} {w0 w1 : World} (h : w0.cell? ⟨q, 0, none⟩ = some (.int .i64 x) ∧ w0.cell? ⟨q, 1, none⟩ = some (.int .i64 y) ∧ w0.cell? ⟨q, 2, none⟩ = some (.string s)) (hg : w0.grownBy w1 (some g)) (hne : q ≠ g) : w1.cell? ⟨q, 0, none⟩ = some (.int .i64 x) ∧ w1.cell? ⟨q, 1, none⟩ = some (.int .i64 y) ∧ w1.cell? ⟨q, 2, none⟩ = some (.string s) := by
  have hb := hg.block q (World.block_lt_of_cell? _ _ h.1) (by intro e; injection e with e; exact hne e)
  have C := fun i => World.cell?_of_block (a := ⟨q, i, none⟩) hb
  exact ⟨(C _).trans h.1, (C _).trans h.2.1, (C _).trans h.2.2⟩

set_option maxRecDepth 100000 in
set_option maxHeartbeats 3200000 in
theorem idel_any (a : Option Addr) (cap : Nat) (l R : List Kl) (by' : Int) (ok : Bool) (w : World) (hl : l.length ≤ 1048576) (hr : Kls w a l) (hsz : ∀ x ∈ l, x.2.2.size ≤ 1048576) (hM : MaxL w) (hR : dly by' l = (R, ok)) :
    Calls Tryd.prog 17 #[.slice a l.length cap, .int .i64 by'] w fun e w' => ∃ g c, e = .returned (.tuple #[.slice (some ⟨g, 0, none⟩) R.length c, .bool ok]) ∧ w.heap.size ≤ g ∧ Own w' w.heap.size g R.length c R ∧ Below w.heap.size w w' := by
  obtain ⟨i0, hi, hz0, hz1, hz2⟩ := info_parts info44
  have hr' := hide hr
  have hsz' := hide hsz
  have hM' := hide hM
  obtain ⟨v, hv⟩ : ∃ v, tOk l = v := ⟨_, rfl⟩
  have cT := hide (iok_any a cap l v _ hl hr hsz hM hv)
  clear hr hsz hM
  cases v
  · have hR2 : R = [] ∧ ok = false := by
      unfold dly at hR; rw [hv] at hR; simp at hR; exact ⟨hR.1, hR.2⟩
    obtain ⟨rfl, rfl⟩ := hR2
    clear hR hv
    go_enter Tryd.func17, Tryd.ntmps17
    go_wp2_with fail
    refine (unhide cT).mono ?_
    rintro e w1 ⟨rfl, k1⟩
    have s1 := k1.size
    have o1 := hide (own_mono (own_lit0 w1 (Nat.le_refl w1.heap.size)) s1)
    have b1 := hide (k1.alloc s1 (.cells #[] 32))
    clear k1 cT
    go_wp2
    exact bodyPost_ret (v := .tuple #[.slice (some ⟨w1.heap.size, 0, none⟩) 0 0, .bool false]) (by simp [results, Tryd.results17, go_sem]) rfl ⟨_, _, rfl, s1, unhide o1, unhide b1⟩
  obtain ⟨hl2, hbd⟩ := t_bd hv
  by_cases hb0 : by' < -359999999
  · have hR2 : R = [] ∧ ok = false := by
      unfold dly at hR; rw [hv, if_pos rfl, if_neg (by omega)] at hR; simp at hR; exact ⟨hR.1, hR.2⟩
    obtain ⟨rfl, rfl⟩ := hR2
    have g0 : decide (by' < -359999999) = true := decide_eq_true hb0
    clear hR hv hbd
    go_enter Tryd.func17, Tryd.ntmps17
    go_wp2_with fail
    refine (unhide cT).mono ?_
    rintro e w1 ⟨rfl, k1⟩
    have s1 := k1.size
    have o1 := hide (own_mono (own_lit0 w1 (Nat.le_refl w1.heap.size)) s1)
    have b1 := hide (k1.alloc s1 (.cells #[] 32))
    clear k1 cT
    go_wp2
    exact bodyPost_ret (v := .tuple #[.slice (some ⟨w1.heap.size, 0, none⟩) 0 0, .bool false]) (by simp [results, Tryd.results17, go_sem]) rfl ⟨_, _, rfl, s1, unhide o1, unhide b1⟩
  have g0 : decide (by' < -359999999) = false := decide_eq_false hb0
  by_cases hb1 : 359999999 < by'
  · have hR2 : R = [] ∧ ok = false := by
      unfold dly at hR; rw [hv, if_pos rfl, if_neg (by omega)] at hR; simp at hR; exact ⟨hR.1, hR.2⟩
    obtain ⟨rfl, rfl⟩ := hR2
    have g1 : decide (359999999 < by') = true := decide_eq_true hb1
    clear hR hv hbd
    go_enter Tryd.func17, Tryd.ntmps17
    go_wp2_with fail
    refine (unhide cT).mono ?_
    rintro e w1 ⟨rfl, k1⟩
    have s1 := k1.size
    have o1 := hide (own_mono (own_lit0 w1 (Nat.le_refl w1.heap.size)) s1)
    have b1 := hide (k1.alloc s1 (.cells #[] 32))
    clear k1 cT
    go_wp2
    exact bodyPost_ret (v := .tuple #[.slice (some ⟨w1.heap.size, 0, none⟩) 0 0, .bool false]) (by simp [results, Tryd.results17, go_sem]) rfl ⟨_, _, rfl, s1, unhide o1, unhide b1⟩
  have g1 : decide (359999999 < by') = false := decide_eq_false hb1
  have hR' := hide (show (if tOk (l.map (sh by')) = true then (l.map (sh by'), true) else ([], false)) = (R, ok) by
    unfold dly at hR; rw [hv, if_pos rfl, if_pos (by omega)] at hR; exact hR)
  have hbd' := hide hbd
  clear hR hv hbd
  go_enter Tryd.func17, Tryd.ntmps17
  go_wp2_with fail
  refine (unhide cT).mono ?_
  rintro e w1 ⟨rfl, k1⟩
  have s1 := k1.size
  have b1 := hide k1
  clear k1 cT
  go_wp2_with (refine wpList_make_own _ rfl _ _ 24 rfl w1.heap.size 32 i0 (.agg #[.int .i64 0, .int .i64 0, .string ⟨#[]⟩]) 3 Tryd.underlying24 hi hz0 hz1 .i64 .i64 _ l.length rfl rfl rfl ?b2 ?b3 ?b4 ?_)
  case b2 => rw [hz2]; omega
  case b3 => unfold maxLen; omega
  case b4 => omega
  intro w3 hown3 hg3
  have b3 := hide ((unhide b1).grown hg3 s1 (fun k hk => by cases hk))
  have o3 : Hid (Own w3 w.heap.size w1.heap.size 0 l.length []) := hide (own_mono hown3 s1)
  clear hown3 hg3 hz0 hz1 hz2 hi b1
  go_wp2
  go_loopw [6, 26] (fun o t wr => ∃ (k g c : Nat), k ≤ l.length ∧ t = .int .i64 k ∧ o = .slice (some ⟨g, 0, none⟩) k c ∧ w.heap.size ≤ g ∧ Hid (Own wr w.heap.size g k c ((l.take k).map (sh by'))) ∧ Hid (Below w.heap.size w wr)) (fun _ t _ => l.length - (intOf t).toNat)
  case atStart => exact ⟨0, _, _, by omega, rfl, rfl, s1, o3, b3⟩
  case round =>
    clear o3 b3
    obtain ⟨k, g, c, hk, rfl, rfl, hg, ho, hb⟩ := hrel
    have hs0 := (unhide hb).size
    have hgl := own_lt (unhide ho)
    by_cases hlt : k < l.length
    · obtain ⟨x, hx⟩ : ∃ x, l[k]? = some x := ⟨l[k], List.getElem?_eq_getElem hlt⟩
      obtain ⟨b, o, rfl, i1, c0, c1, c2⟩ := ((unhide hr').below (unhide hb)) k x hx
      obtain ⟨x0, x1, x2⟩ := unhide hbd' x (List.mem_of_getElem? hx)
      have hxs := unhide hsz' x (List.mem_of_getElem? hx)
      have hms := hide (map_snoc (by' := by') hx)
      obtain ⟨x, y, s⟩ := x
      simp only at c0 c1 c2 x0 x1 x2 hxs
      clear hx
      generalize (l.take k).map (sh by') = P at *
      have cC := hide (fun w => clone_any s w hxs)
      have tx : IntKind.i64.wrap (x + by') = x + by' := by rw [IntKind.wrap_i64]; omega
      have ty : IntKind.i64.wrap (y + by') = y + by' := by rw [IntKind.wrap_i64]; omega
      go_wp2_with fail
      have W0 := alloc_new wr (.cells #[.int .i64 x, .int .i64 y, .string s] 32)
      have B0 := hide (show Below w.heap.size w (wr.alloc (.cells #[.int .i64 x, .int .i64 y, .string s] 32)) from (unhide hb).alloc hs0 _)
      have O0 := hide ((unhide ho).alloc (.cells #[.int .i64 x, .int .i64 y, .string s] 32))
      generalize wr.alloc (.cells #[.int .i64 x, .int .i64 y, .string s] 32) = X at *
      have hqg : wr.heap.size ≠ g := by omega
      generalize wr.heap.size = q at *
      clear c0 c1 c2 hb ho
      have hall := hide (blk3 W0)
      clear W0
      go_region_held3 (fun w' => w'.cell? ⟨q, 0, none⟩ = some (.int .i64 x) ∧ w'.cell? ⟨q, 1, none⟩ = some (.int .i64 y) ∧ w'.cell? ⟨q, 2, none⟩ = some (.string s))
        (first | (refine sb_below ?_ hb; assumption) | (refine sb_grown ?_ (unhide hG9) hqg; assumption) | (refine sb_alloc ?_; assumption) | (refine sb_drew ?_; assumption) | (exact sb_drew (unhide hall)))
        ((first
          | (go_at_call 43
             refine (unhide cC _).mono ?_
             rintro e w4 ⟨rfl, hb⟩
             have O4 : Hid (Own w4 w.heap.size g k c P) := hide (ownsRow_below (w := X.drew) (unhide O0) hb)
             have B4 : Hid (Below w.heap.size w w4) := hide (laterB (unhide B0).drew hb)
             have s4 := (unhide B4).size)
          | (refine step_t _ (by rfl) _ _ (by rfl) w.heap.size g k c P (x + by', y + by', s) (by rfl) ((unhide O4).alloc _) w4.heap.size (by rfl) (alloc_new _ _) (by omega) (by simp; omega) ?_
             intro g' cap' w5 ho5 hg5 hl5 hlt5
             have hG9 := hide hg5
             have b5 := hide (Below.grown ((unhide B4).alloc s4 _) hg5 (by simp; omega) (fun k hk => by injection hk with hk; omega))
             have o6 := hide (show Own w5 w.heap.size g' (k + 1) cap' ((l.take (k + 1)).map (sh by')) by rw [← unhide hms]; exact ho5)
             have hg6 := own_ge ho5
             have o5 := hide ho5
             clear ho5 hg5)))
      clear hall O0 B0 O4 B4 o5 hG9 cC hms
      go_wp2
      go_roundw
      case rel => exact ⟨k + 1, g', cap', by omega, by go_num, rfl, hg6, o6, b5⟩
      case measure => simp [intOf]; omega
    · have hke : k = l.length := by omega
      obtain ⟨P, hP⟩ : ∃ P, l.map (sh by') = P := ⟨_, rfl⟩
      have hPl : P.length = l.length := by rw [← hP]; simp
      have hms := hide (show ∀ x ∈ P, x.2.2.size ≤ 1048576 by rw [← hP]; exact map_size (unhide hsz'))
      have ho2 := hide (show Own wr w.heap.size g P.length c P by
        have := unhide ho
        rw [hke, List.take_length, hP] at this
        rw [hPl]; exact this)
      have hR3 := hide (show (if tOk P = true then (P, true) else ([], false)) = (R, ok) by rw [← hP]; exact unhide hR')
      obtain ⟨v, hv⟩ : ∃ v, tOk P = v := ⟨_, rfl⟩
      have cS := hide (iok_any (some ⟨g, 0, none⟩) c P v wr (by omega) (kls_own (unhide ho2)) (unhide hms) ((unhide hM').below (unhide hb)) hv)
      have hkP : k = P.length := by omega
      have hltf : decide ((P.length : Int) < (l.length : Int)) = false := decide_eq_false (by omega)
      subst hkP
      clear ho hke hP hms hR' hPl
      cases v
      · have hR2 : R = [] ∧ ok = false := by
          have := unhide hR3; rw [hv] at this; simp at this; exact ⟨this.1, this.2⟩
        obtain ⟨rfl, rfl⟩ := hR2
        clear hR3 hv
        go_wp2_with fail
        refine (unhide cS).mono ?_
        rintro e w3 ⟨rfl, k3⟩
        have b3 := hide (laterB (unhide hb) k3)
        have s3 := (unhide b3).size
        have o3 := hide (own_mono (own_lit0 w3 (Nat.le_refl w3.heap.size)) s3)
        have b4 := hide ((unhide b3).alloc s3 (.cells #[] 32))
        clear k3 cS ho2 hb b3
        go_wp2
        exact bodyPost_ret (v := .tuple #[.slice (some ⟨w3.heap.size, 0, none⟩) 0 0, .bool false]) (by simp [results, Tryd.results17, go_sem]) rfl ⟨_, _, rfl, s3, unhide o3, unhide b4⟩
      · have hR2 : R = P ∧ ok = true := by
          have := unhide hR3; rw [hv] at this; simp at this; exact ⟨this.1.symm, this.2⟩
        obtain ⟨rfl, rfl⟩ := hR2
        clear hR3 hv
        go_wp2_with fail
        refine (unhide cS).mono ?_
        rintro e w3 ⟨rfl, k3⟩
        have b3 := hide (laterB (unhide hb) k3)
        have o3 := hide (ownsRow_below (unhide ho2) k3)
        clear k3 cS ho2 hb
        go_wp2
        exact bodyPost_ret (v := .tuple #[.slice (some ⟨g, 0, none⟩) R.length c, .bool true]) (by simp [results, Tryd.results17, go_sem]) rfl ⟨_, _, rfl, hg, unhide o3, unhide b3⟩

end Go.Proofs.YtcpllfjhhlbmiaaDoor
