/-
  Contracts of a copy of a string, of a look for an asset, and of a search by halves; nothing that was there is written.
  impl.Pack: the loop that makes the list, by a lone walk.
  impl.Pack: behind its loop: the sort, the test, the answer, by a lone walk.
  impl.Pack beside leavers: it says no.
-/
import Derived.Test.YtghglpcfpokmhaaZUp1
import Derived.Test.YtghglpcfpokmhaaZShelf
import Derived.Test.YtghglpcfpokmhaaZFm
import Derived.Test.YtghglpcfpokmhaaZBb
import Derived.Deep.CutBlock
import Derived.Deep.RegionHeld3
namespace Go.Proofs.Ytghglpcfpokmhaa
open Go.RowKit
set_option linter.unusedVariables false
set_option linter.unusedSimpArgs false

theorem clone_any (s : ByteArray) (w : World) (hs : s.size ≤ 1048576) : Calls Try.prog 18 #[.string s] w fun e w' => e = .returned (.string s) ∧ Below w.heap.size w w' := by
  go_enter Try.func18, Try.ntmps18
  go_wp2_with fail
  refine (Try.stringslite_Clone s w (by omega)).mono ?_
  rintro e w1 ⟨rfl, k1⟩
  go_wp2
  go_ret
  exact ⟨rfl, k1⟩
set_option maxHeartbeats 1600000 in
theorem idx_any (a : Option Addr) (cap : Nat) (l : List Kl) (s : ByteArray) (p q : Int) (w : World) (hl : l.length ≤ maxLen) (hk : Kls w a l) :
    Calls Try.prog 40 #[.slice a l.length cap, ag3 s p q] w fun e w' => ∃ r : Int, e = .returned (.int .i64 r) ∧ (0 ≤ r ↔ hasK l (s, p, q) = true) ∧ Below w.heap.size w w' := by
  unfold maxLen at hl
  have hb0 : Below w.heap.size w (w.alloc (.cells #[.string s, .int .i64 p, .int .i64 q] 38)) := (Below.refl _ _).alloc (Nat.le_refl _) _
  have hk' := hide (hk.below hb0)
  have hb0' := hide hb0
  obtain ⟨x0, x1, x2⟩ := @cel3 w (.string s) (.int .i64 p) (.int .i64 q) 38
  clear hk hb0
  go_enter Try.func40, Try.ntmps40
  go_wp2
  generalize w.alloc (.cells #[.string s, .int .i64 p, .int .i64 q] 38) = X at *
  go_loopw [8] (fun t wr => ∃ k : Nat, k ≤ l.length ∧ t = .int .i64 k ∧ Hid (∀ (j : Nat) (y : Kl), j < k → l[j]? = some y → kEq (s, p, q) y = false) ∧ Hid (Below X.heap.size X wr)) (fun t _ => l.length - (intOf t).toNat)
  case atStart => exact ⟨0, by omega, rfl, hide (fun j y h => by omega), hide (Below.refl _ _)⟩
  case round =>
    obtain ⟨k, hk1, rfl, hpre, hB⟩ := hrel
    by_cases hlt : k < l.length
    · obtain ⟨y, hy⟩ : ∃ y, l[k]? = some y := ⟨l[k], List.getElem?_eq_getElem hlt⟩
      obtain ⟨b, o, rfl, i1, c0, c1, c2⟩ := unhide hk' k y hy
      obtain ⟨sy, py, qy⟩ := y
      simp only at c0 c1 c2
      have C := fun o => (bcell (unhide hB)).1 b o i1
      rw [← C] at c0 c1 c2
      have z0 := cell_later (unhide hB) x0
      have z1 := cell_later (unhide hB) x1
      have z2 := cell_later (unhide hB) x2
      have g1 : decide ((k : Int) < l.length) = true := by simp; omega
      have hyy := hide hy
      have he := eql3 s sy p q py qy
      obtain ⟨v, hv⟩ : ∃ v, kEq (s, p, q) (sy, py, qy) = v := ⟨_, rfl⟩
      rw [hv] at he
      have hv' := hide hv
      clear hy C hv
      cases v with
      | true =>
        have hfin := hide (hasK_yes (unhide hyy) (unhide hv'))
        go_wp2_with fail
        go_quiet (fail)
        go_wp2
        go_ret
        exact ⟨_, rfl, ⟨fun _ => unhide hfin, fun _ => by omega⟩, laterB (unhide hb0') (below_drewN (unhide hB) _)⟩
      | false =>
        have hn := hide (show ∀ (j : Nat) (y : Kl), j < k + 1 → l[j]? = some y → kEq (s, p, q) y = false from fun j y hj hy => by
          rcases Nat.lt_or_ge j k with h | h
          · exact unhide hpre j y h hy
          · have : j = k := by omega
            subst this
            rw [unhide hyy] at hy; injection hy with hy; subst hy; exact unhide hv')
        clear hpre
        go_wp2_with fail
        go_quiet (fail)
        go_wp2
        go_roundw
        case rel => exact ⟨k + 1, by omega, by go_num, hn, hide (below_drewN (unhide hB) _)⟩
        case measure => simp [intOf]; omega
    · have g1 : decide ((k : Int) < l.length) = false := by simp; omega
      have hfin := hide (hasK_no (x := (s, p, q)) fun j y hj => unhide hpre j y (by have := (List.getElem?_eq_some_iff.1 hj).1; omega) hj)
      go_wp2
      go_ret
      exact ⟨_, rfl, ⟨fun h => by omega, fun h => by rw [unhide hfin] at h; cases h⟩, laterB (unhide hb0') (unhide hB)⟩
set_option maxHeartbeats 800000 in
theorem con_any (a : Option Addr) (cap : Nat) (l : List Kl) (s : ByteArray) (p q : Int) (w : World) (hl : l.length ≤ maxLen) (hk : Kls w a l) :
    Calls Try.prog 26 #[.slice a l.length cap, ag3 s p q] w fun e w' => e = .returned (.bool (hasK l (s, p, q))) ∧ Below w.heap.size w w' := by
  have hb0 : Below w.heap.size w (w.alloc (.cells #[.string s, .int .i64 p, .int .i64 q] 38)) := (Below.refl _ _).alloc (Nat.le_refl _) _
  have hk' := hide (hk.below hb0)
  have hl' := hide hl
  have hb0' := hide hb0
  clear hk hb0 hl
  go_enter Try.func26, Try.ntmps26
  go_wp2_with fail
  refine (idx_any a cap l s p q _ (unhide hl') (unhide hk')).mono ?_
  rintro e w1 ⟨r, rfl, hr, hb⟩
  have hfin := hide (show decide (0 ≤ r) = hasK l (s, p, q) by rw [Bool.eq_iff_iff]; simpa using hr)
  have hB := hide (laterB (unhide hb0') hb)
  clear hr hb
  go_wp2
  go_ret
  exact ⟨ret_bool (unhide hfin), unhide hB⟩

end Go.Proofs.Ytghglpcfpokmhaa

set_option linter.unusedVariables false
set_option linter.unusedSimpArgs false
namespace Go.Proofs.Ytghglpcfpokmhaa
open Go.RowKit
open Go.Proofs.Ytghglpcfpokmhaa.Bb (Tks)
noncomputable def A31 : Code := match Try.f6.body.getD .skip with | .seq _ (.seq _ (.seq _ (.seq (.seq _ A) _))) => A | _ => .skip
noncomputable def B31 : Code := match Try.f6.body.getD .skip with | .seq _ (.seq _ (.seq _ (.seq _ B))) => B | _ => .skip
/-- the state of the loop -/
structure PL (ns : List ByteArray) (ts : List (List Int)) (w wr : World) (k g c : Nat) (L : List Kl) : Prop where
  own : Own wr w.heap.size g k c L
  bel : Below w.heap.size w wr
  eq : L = (pkL ns ts).take k
/-- emptied blocks stay emptied -/
def KP (x w' : World) : Prop := ∀ b, Br.Pz x b → Br.Pz w' b
theorem own_pz0 {w : World} {B g n c : Nat} {L : List Kl} (h : Own w B g n c L) (hp : Br.Pz w g) : c = 0 := by
  obtain ⟨h1, h2⟩ := h
  obtain ⟨e, he⟩ := hp
  rcases h2 with ⟨hv, _⟩ | ⟨g', cap', cur, hv, hB, hh, hc, hm, hcs, htk⟩
  · cases hv
  · injection hv with e1 e2 e3
    injection e1 with e1
    injection e1 with e1
    subst e1 e3
    rw [he] at hh
    injection hh with hh
    injection hh with hh
    rw [← hh] at hcs
    simp at hcs
    omega
theorem own_pz1 {w : World} {B g n : Nat} {L : List Kl} (h : Own w B g n 0 L) : Br.Pz w g := by
  obtain ⟨h1, h2⟩ := h
  rcases h2 with ⟨hv, _⟩ | ⟨g', cap', cur, hv, hB, hh, hc, hm, hcs, htk⟩
  · cases hv
  · injection hv with e1 e2 e3
    injection e1 with e1
    injection e1 with e1
    subst e1 e3
    have : cur = #[] := by simpa using hcs
    rw [this] at hh
    exact ⟨_, hh⟩
theorem kqw {w w' : World} {bn o bt p : Nat} {v u : Value} (i1 : bn < w.heap.size) (h1 : w.cell? ⟨bn, o, none⟩ = some v) (i2 : bt < w.heap.size) (h2 : w.cell? ⟨bt, p, none⟩ = some u) (hb : Below w.heap.size w w') : SQ w bn o bt p v u w' :=
  ⟨((bcell hb).1 bn _ i1).trans h1, ((bcell hb).1 bt _ i2).trans h2, hb⟩
theorem step_kG {ops : Array Oper} {o : Oper} {a : Act} {K : Act → World → Prop} {Q : Exit → Act → World → Prop} {E : Prop} (w : World) (hgd : o.guard = none) (s x : Operand) (ho : o.op = .call { callee := .builtin .append, args := #[s, x], argTypes := #[28, 28] })
    (B g n cap : Nat) (L : List Kl) (v0 : ByteArray) (v1 v2 : Int) (hs : a.eval s = .slice (some ⟨g, 0, none⟩) n cap) (hown : Own w B g n cap L) (hx : a.eval x = .slice (some ⟨w.heap.size, 0, none⟩) 1 1)
    (hl : n ≤ 1000000) (hB : B ≤ w.heap.size)
    (h : ∀ g' cap' w', Own w' B g' (n + 1) cap' (L ++ [(v0, v1, v2)]) → w.grownBy w' (some g) → B ≤ g' → (g' = g ∨ w.heap.size ≤ g') → K (a.put o.dst (.slice (some ⟨g', 0, none⟩) (n + 1) cap')) w') :
    if Region.wanted o (yielded ops a.tmps) = true then Oper.wp Try.prog o a (w.alloc (.cells #[.string v0, .int .i64 v1, .int .i64 v2] 38)) K Q else E := by
  obtain ⟨i0, hi, hz0, hz1, hz2⟩ := info_parts info44
  have hb : Below w.heap.size w (w.alloc (.cells #[.string v0, .int .i64 v1, .int .i64 v2] 38)) := (Below.refl _ _).alloc (Nat.le_refl _) _
  have hblk : (w.alloc (.cells #[.string v0, .int .i64 v1, .int .i64 v2] 38)).heap[w.heap.size]? = some (.cells #[.string v0, .int .i64 v1, .int .i64 v2] 38 (0, 0)) := heap_alloc_new w _
  have hnews := K_news (c := (v0, v1, v2)) hblk
  have hsz := hb.size
  generalize w.alloc (.cells #[.string v0, .int .i64 v1, .int .i64 v2] 38) = W at *
  have hown2 := ownsRow_below hown hb
  have hBg : B ≤ g := (hown.lt g rfl).1
  refine step_append_lies W hgd s x 28 ho B 38 i0 (.agg #[.string ⟨#[]⟩, .int .i64 0, .int .i64 0]) 3 32 Try.underlying28 hi hz0 hz1 hz2 rfl (by decide) _ n (flK L) hs hown2 ⟨w.heap.size, 0, none⟩ 1 1 [sv v0, iv v1, iv v2] hx rfl hnews (by intro u hu; simp at hu; rcases hu with rfl | rfl | rfl <;> rfl) (by decide) (by unfold maxLen; omega) (by omega) (by omega) W.heap.size rfl ?_
  intro g' cap' w' h1 h2 h3 h4
  refine h g' cap' w' (by show World.ownsRow _ _ _ _ _ _ _; rw [flK_append]; exact h1) ?_ (own_ge h1) ?_
  · exact grown_trans ⟨hb.os, hb.tape, hb.output, hb.size, fun j hj _ => hb.block j hj⟩ h2
  · rcases h3 with h3 | h3
    · simp [Value.ownBlock] at h3; exact .inl h3.symm
    · exact .inr (by omega)
set_option maxRecDepth 100000 in
set_option maxHeartbeats 6400000 in
theorem pack_loop (b d : Option Addr) (cb cd : Nat) (ns : List ByteArray) (ts : List (List Int)) (w x : World) (gi gs : Nat) (c : Nat) (hne : ns.length = ts.length) (h100 : ns.length ≤ 100) (hz : ∀ n ∈ ns, n.size ≤ 1048576) (hs : Sts w b ns) (hb : Tks w d ts)
    (hbel : Below w.heap.size w x) (hown : Own x w.heap.size gi 0 c []) (hgs : ∀ j t, ts[j]? = some t → x.cell? ⟨gs, j, none⟩ = some (.int .i64 (dig t))) (hgl : gs < x.heap.size) (hgg : gi ≠ gs)
    (v2 v3 v4 v5 v7 v8 v9 v10 v11 v12 v13 v14 v15 v16 v17 v18 v19 v20 v21 v22 v23 v27 v28 v29 v30 v31 v32 v33 v34 v35 v36 v37 v38 v39 v40 v41 v42 v43 v44 v45 v46 v47 v48 v49 v50 v51 v52 v53 : Value) :
    A31.wp Try.prog (fun e a' w' => e = .normal ∧ ∃ T g' c', a' = ⟨T, []⟩ ∧ T.size = 54 ∧ T[6]? = some (.slice (some ⟨g', 0, none⟩) ns.length c') ∧ PL ns ts w w' ns.length g' c' (pkL ns ts) ∧ (∀ b, b < x.heap.size → b ≠ gi → w'.heap[b]? = x.heap[b]?) ∧ (ns.length = 0 → w'.heap = x.heap))
      ⟨#[.slice b ns.length cb, .slice d ts.length cd, v2, v3, v4, v5, .slice (some ⟨gi, 0, none⟩) 0 c, v7, v8, v9, v10, v11, v12, v13, v14, v15, v16, v17, v18, v19, v20, v21, v22, v23, .slice (some ⟨gs, 0, none⟩) ns.length ns.length, .int .i64 ns.length, .int .i64 0, v27, v28, v29, v30, v31, v32, v33, v34, v35, v36, v37, v38, v39, v40, v41, v42, v43, v44, v45, v46, v47, v48, v49, v50, v51, v52, v53], []⟩ x := by
  have P0 := hide (show PL ns ts w x 0 gi c [] from ⟨hown, hbel, by simp⟩)
  have hs' := hide hs
  have hb' := hide hb
  have hz' := hide hz
  have hG := hide hgs
  have hne' := hide hne
  clear hs hb hz hgs hown hbel hne
  obtain ⟨g0, hg0⟩ : ∃ g0, gi = g0 := ⟨_, rfl⟩
  have hgg' := hide (show g0 ≠ gs from hg0 ▸ hgg)
  have hA0 := hide (show gi = g0 ∨ x.heap.size ≤ gi from .inl hg0)
  have hG0 := hide hg0
  clear hgg hg0
  simp only [A31, Try.f6, Option.getD_some]
  go_wp2
  go_loopw [6, 26] (fun u t wr => ∃ (k g c : Nat) (L : List Kl), k ≤ ns.length ∧ t = .int .i64 k ∧ u = .slice (some ⟨g, 0, none⟩) k c ∧ Hid ((g = g0 ∨ x.heap.size ≤ g) ∧ (∀ b, b < x.heap.size → b ≠ g0 → wr.heap[b]? = x.heap[b]?) ∧ (x.heap.size ≤ wr.heap.size ∧ (k = 0 → wr.heap = x.heap)) ∧ PL ns ts w wr k g c L)) (fun _ t _ => ns.length - (intOf t).toNat)
  case atStart => exact ⟨0, gi, c, [], by omega, rfl, rfl, hide ⟨unhide hA0, fun _ _ _ => rfl, ⟨Nat.le_refl _, fun _ => rfl⟩, unhide P0⟩⟩
  case round =>
    clear P0
    obtain ⟨k, g, c, L, hk1, rfl, rfl, S⟩ := hrel
    by_cases hlt : k < ns.length
    rotate_left
    · have hke : Hid (k = ns.length) := hide (by omega)
      have g2 : decide ((k : Int) < ns.length) = false := by simp; omega
      go_wp2
      have hke := unhide hke
      have hne := unhide hne'
      have hP := (unhide S).2.2.2
      have hL : L = pkL ns ts := by rw [hP.eq, List.take_of_length_le (by rw [pkL_len hne]; omega)]
      rw [hL] at hP
      refine ⟨g, c, ⟨rfl, by omega, rfl⟩, ?_, ?_, ?_⟩
      · rw [← hke]
        exact hP
      · rw [unhide hG0]
        exact (unhide S).2.1
      · intro h
        have h0 : ns.length = 0 := by simpa using h
        exact (unhide S).2.2.1.2 (by omega)
    obtain ⟨bn, on, n, ea, hnn, i1, c0⟩ := sts_at (unhide hs') (unhide S).2.2.2.bel hlt
    subst ea
    obtain ⟨t, hx⟩ : ∃ t, ts[k]? = some t := ⟨ts[k]'(by have := unhide hne'; omega), List.getElem?_eq_getElem _⟩
    obtain ⟨bt, ot, pt, ct, et, i3, w1, K, hmx⟩ := (unhide hb') k t hx
    subst et
    have hsum : wr.cell? ⟨gs, k, none⟩ = some (.int .i64 (dig t)) := (World.cell?_of_block ((unhide S).2.1 gs hgl (unhide hgg').symm)).trans (unhide hG k t hx)
    have hjt : (k : Int) < ts.length := by have := unhide hne'; omega
    have g2 : decide ((k : Int) < ns.length) = true := by simp; omega
    have hns := unhide hz' n (List.mem_of_getElem? hnn)
    have hnn := hide hnn
    have hx := hide hx
    have j1 := hide i1
    have j3 := hide i3
    clear i1 i3 K
    have w0 := hide (show w.cell? ⟨bn, on + k, none⟩ = some (.string n) from ((bcell (unhide S).2.2.2.bel).1 bn _ (unhide j1)).symm.trans c0)
    have f0 : wr.cell? ⟨bt, ot + k, none⟩ = some (.slice pt t.length ct) := ((bcell (unhide S).2.2.2.bel).1 bt _ (unhide j3)).trans w1
    replace w1 := hide w1
    go_upto_block 1 with fail
    go_cut [6, 26] from 26 to 46 (fun s i wx => ∃ g' c', i = .int .i64 k ∧ s = .slice (some ⟨g', 0, none⟩) (k + 1) c' ∧ Hid (Own wx w.heap.size g' (k + 1) c' (L ++ [ass n t]) ∧ wr.grownBy wx (some g) ∧ (g' = g ∨ wr.heap.size ≤ g')))
    case first =>
      have hall := hide (show SQ w bn (on + k) bt (ot + k) (.string n) (.slice pt t.length ct) wr from kqw (unhide j1) (unhide w0) (unhide j3) (unhide w1) (unhide S).2.2.2.bel)
      go_upto_region 7 with fail
      go_region_held3 (fun w' => w'.cell? ⟨bn, on + k, none⟩ = some (.string n) ∧ w'.cell? ⟨bt, ot + k, none⟩ = some (.slice pt t.length ct) ∧ Below w.heap.size w w')
        (first | (with_reducible assumption) | (with_reducible exact kq_drew (unhide hall)) | (with_reducible refine kq_allocd ?_; with_reducible assumption) | (with_reducible refine kq_alloc ?_; with_reducible assumption))
        ((first
          | (go_at_call 18
             refine (clone_any n _ hns).mono ?_
             rintro e w6 ⟨rfl, hw6⟩
             have hB6 := hide (show Below wr.heap.size wr w6 from ⟨hw6.os, hw6.tape, hw6.output, hw6.size, hw6.block⟩)
             have hO6 := hide (ownsRow_below (unhide S).2.2.2.own (unhide hB6))
             have hq6 := kqw (unhide j1) (unhide w0) (unhide j3) (unhide w1) (laterB (unhide S).2.2.2.bel (unhide hB6))
             clear hw6)
          | (refine step_kG _ (by rfl) _ _ (by rfl) w.heap.size g k c L n (t.length : Int) (dig t) (by rfl) (unhide hO6) (by rfl) (by omega) (laterB (unhide S).2.2.2.bel (unhide hB6)).size ?_
             intro g' c' w7 o7 b7 q7 q8
             have hq7 := kqw (unhide j1) (unhide w0) (unhide j3) (unhide w1) (below_grown (laterB (unhide S).2.2.2.bel (unhide hB6)) b7 (own_ge (unhide hO6)))
             have hF7 := hide (show Own w7 w.heap.size g' (k + 1) c' (L ++ [ass n t]) ∧ wr.grownBy w7 (some g) ∧ (g' = g ∨ wr.heap.size ≤ g') from ⟨o7, grown_trans ⟨(unhide hB6).os, (unhide hB6).tape, (unhide hB6).output, (unhide hB6).size, fun j hj _ => (unhide hB6).block j hj⟩ b7, q8.imp id fun h => Nat.le_trans (unhide hB6).size h⟩)
             clear o7 b7 q7 q8)))
      all_goals
        go_wp2
        go_meet
        exact ⟨_, _, rfl, rfl, hF7⟩
    case rest =>
      obtain ⟨g', c', h26, h6, hE⟩ := hcut
      subst h6 h26
      have Sn := hide (show (g' = g0 ∨ x.heap.size ≤ g') ∧ (∀ b, b < x.heap.size → b ≠ g0 → wc.heap[b]? = x.heap[b]?) ∧ (x.heap.size ≤ wc.heap.size ∧ (k + 1 = 0 → wc.heap = x.heap)) ∧ PL ns ts w wc (k + 1) g' c' (L ++ [ass n t]) from by
        obtain ⟨s1, s2, s3, s4⟩ := unhide S
        obtain ⟨e1, e2, e3⟩ := unhide hE
        refine ⟨?_, fun b hb hb0 => ?_, ⟨Nat.le_trans s3.1 e2.size, fun h => by omega⟩, e1, below_grown s4.bel e2 (own_ge s4.own), ?_⟩
        · rcases e3 with e | e
          · rw [e]; exact s1
          · exact .inr (Nat.le_trans s3.1 e)
        · rw [e2.block b (Nat.lt_of_lt_of_le hb s3.1) (by intro e; injection e with e; subst e; rcases s1 with s1 | s1; exact hb0 s1; omega)]; exact s2 b hb hb0
        · rw [pkL_snoc (unhide hnn) (unhide hx), ← s4.eq])
      clear hE S
      go_wp2
      go_roundw
      case rel => exact ⟨k + 1, g', c', _, by omega, by go_num, by go_num, Sn⟩
      case measure => simp [intOf]; omega
end Go.Proofs.Ytghglpcfpokmhaa

set_option linter.unusedVariables false
set_option linter.unusedSimpArgs false
namespace Go.Proofs.Ytghglpcfpokmhaa
open Go.RowKit
/-- What Pack answers, said by a lone walk. -/
def RP0 (w : World) (ns : List ByteArray) (ts : List (List Int)) (v : Value) (w' : World) : Prop := ∃ L ok g c, v = .tuple #[.slice (some ⟨g, 0, none⟩) L.length c, .bool ok] ∧ Own w' w.heap.size g L.length c L ∧ Below w.heap.size w w' ∧ PkQ ns ts L ok
theorem RP0.mk {w w' : World} {ns : List ByteArray} {ts : List (List Int)} {L : List Kl} {n g c : Nat} {ok : Bool} (ho : Own w' w.heap.size g n c L) (hb : Below w.heap.size w w') (hq : PkQ ns ts L ok) {x : World} (hp : KP x w') : ∃ v, Ending.returned (.tuple #[.slice (some ⟨g, 0, none⟩) n c, .bool ok]) = .returned v ∧ RP0 w ns ts v w' ∧ KP x w' := by
  have h1 := own_len ho
  subst h1
  exact ⟨_, rfl, ⟨L, ok, g, c, rfl, ho, hb, hq⟩, hp⟩
set_option maxRecDepth 100000 in
set_option maxHeartbeats 6400000 in
theorem pack_tail (ns : List ByteArray) (ts : List (List Int)) (w x : World) (g n c : Nat) (hne : ns.length = ts.length) (h100 : n ≤ 100) (hnn : ns.length = n) (hz : ∀ n ∈ ns, n.size ≤ 1048576) (hown : Own x w.heap.size g n c (pkL ns ts)) (hbel : Below w.heap.size w x)
    (v0 v1 v2 v3 v4 v5 v7 v8 v9 v10 v11 v12 v13 v14 v15 v16 v17 v18 v19 v20 v21 v22 v23 v24 v25 v26 v27 v28 v29 v30 v31 v32 v33 v34 v35 v36 v37 v38 v39 v40 v41 v42 v43 v44 v45 v46 v47 v48 v49 v50 v51 v52 v53 : Value) :
    B31.wp Try.prog (bodyPost Try.prog Try.f6 fun e w' => ∃ v, e = .returned v ∧ RP0 w ns ts v w' ∧ KP x w')
      ⟨#[v0, v1, v2, v3, v4, v5, .slice (some ⟨g, 0, none⟩) n c, v7, v8, v9, v10, v11, v12, v13, v14, v15, v16, v17, v18, v19, v20, v21, v22, v23, v24, v25, v26, v27, v28, v29, v30, v31, v32, v33, v34, v35, v36, v37, v38, v39, v40, v41, v42, v43, v44, v45, v46, v47, v48, v49, v50, v51, v52, v53], []⟩ x := by
  have hO := hide hown
  have hB := hide hbel
  have hq := hide (show ∀ L, L.Perm (pkL ns ts) → L.Pairwise kle → PkQ ns ts (if pOk L = true then L else []) (pOk L) from fun L h1 h2 => pk_impl hne (by omega) h1 h2)
  have hsz := hide (show ∀ y ∈ pkL ns ts, y.1.size ≤ maxLen from fun y hy => by
    obtain ⟨j, n, t, h1, h2, rfl⟩ := pkL_at hy
    have := hz n (List.mem_of_getElem? h1)
    show n.size ≤ maxLen
    unfold maxLen; omega)
  clear hown hbel hne hnn hz
  simp only [B31, Try.f6, Option.getD_some]
  go_wp2_with fail
  refine (sort_any w.heap.size g n c (pkL ns ts) x (unhide hO) (by omega)).mono ?_
  rintro e w1 ⟨rfl, L, hp, hk, ho, hgr⟩
  have hll := own_len ho
  have hB1 := hide (below_grown (unhide hB) hgr (own_ge (unhide hO)))
  have hO1 := hide ho
  have hK1 := hide (show KP x w1 from fun b hb => by
    by_cases e : b = g
    · subst e
      have h0 := own_pz0 (unhide hO) hb
      rw [h0] at ho
      exact own_pz1 ho
    · obtain ⟨y, hy⟩ := hb
      exact ⟨y, (hgr.block b (Array.getElem?_eq_some_iff.1 hy).1 (fun h => e (Option.some.inj h))).trans hy⟩)
  have hQ := hide (unhide hq L hp hk)
  have hszL := hide (show SzOk L from fun y hy => unhide hsz y (hp.mem_iff.1 hy))
  clear hp hk ho hgr hO hB hq hsz
  subst hll
  go_wp2_with fail
  refine (ipk_any _ c L w1 (by unfold maxLen; omega) (unhide hszL) (kls_own (unhide hO1))).mono ?_
  rintro e w2 ⟨rfl, hb2⟩
  have hB2 := hide (laterB (unhide hB1) hb2)
  have hO2 := hide (ownsRow_below (unhide hO1) hb2)
  have hK2 := hide (show KP x w2 from fun b hb => by
    obtain ⟨y, hy⟩ := unhide hK1 b hb
    exact ⟨y, (hb2.block b (Array.getElem?_eq_some_iff.1 hy).1).trans hy⟩)
  clear hb2 hB1 hO1 hszL hK1
  obtain ⟨v, hv⟩ : ∃ v, pOk L = v := ⟨_, rfl⟩
  have hQ2 := hide (show PkQ ns ts (if v = true then L else []) v by rw [← hv]; exact unhide hQ)
  rw [hv]
  clear hv hQ
  cases v with
  | false =>
    go_wp2
    go_ret2
    exact RP0.mk (own_lit0 w2 (unhide hB2).size) ((unhide hB2).alloc (unhide hB2).size _) (unhide hQ2) (fun b hb => Wk.pz_alloc _ (unhide hK2 b hb))
  | true =>
    go_wp2
    go_ret2
    exact RP0.mk (unhide hO2) (unhide hB2) (unhide hQ2) (unhide hK2)
end Go.Proofs.Ytghglpcfpokmhaa

set_option linter.unusedVariables false
set_option linter.unusedSimpArgs false
namespace Go.Proofs.Ytghglpcfpokmhaa
open Go Go.Conc Go.RowKit
open Go.Proofs.Ytghglpcfpokmhaa.Bb (Tks)
open Go.Proofs.Ytghglpcfpokmhaa.Wk (El BodiesV Bel dig_B valsE)
open Go.Proofs.Ytghglpcfpokmhaa.Br (BT BTS Hd Pz Pst CallsB bt_ctl bt_cons bt_skip bt_callB rt)
theorem bt_at [Br.Thr] {P : Program} {Q : Goroutine → World → Prop} {g : Goroutine} {w : World} {d : Nat} (h : BT P Q g w) : BT P Q g (w.at d) := fun S W gs sl t q hh => h S W gs sl t q ⟨hh.toHid, hh.thr⟩
/-- What Pack answers, beside leavers. -/
def RPk (w : World) (ns : List ByteArray) (ts : List (List Int)) (v : Value) (w' : World) : Prop := ∃ L ok g c, v = .tuple #[.slice (some ⟨g, 0, none⟩) L.length c, .bool ok] ∧ Own w' w.heap.size g L.length c L ∧ Bel w.heap.size w w' ∧ PkQ ns ts L ok
set_option maxRecDepth 100000 in
set_option maxHeartbeats 4000000 in
theorem ipack_no1 [Br.Thr] (b d : Option Addr) (cb cd : Nat) (ns : List ByteArray) (zs : List El) (w : World) (hne : ns.length ≠ zs.length) :
    CallsB Try.prog 6 #[.slice b ns.length cb, .slice d zs.length cd] w (RPk w ns (zs.map (·.l))) := by
  intro c cs Q hk
  have e31 : Frame.enter Try.prog 6 #[.slice b ns.length cb, .slice d zs.length cd] .normal = (base 6).at ⟨#[.slice b ns.length cb, .slice d zs.length cd] ++ Array.replicate 52 undef, []⟩ [.code (Try.f6.body.getD .skip)] := by
    simp [Frame.enter, Frame.at, Try.func6, base, Try.f6]
  rw [e31]
  clear e31
  simp only [Try.f6, Option.getD_some, List.size_toArray, List.length_cons, List.length_nil, Nat.reduceAdd, Nat.reduceSub, Array.replicate_succ, Array.replicate_zero, List.push_toArray, List.append_toArray, List.nil_append, List.cons_append]
  have g0 : ((ns.length : Int) != zs.length) = true := by simp; omega
  have hq : PkQ ns (zs.map (·.l)) [] false := .inr ⟨rfl, rfl, fun g => hne (by have := g.len; simpa using this)⟩
  (repeat (first | (first | refine bt_ctl rfl (fun _ => stepG_seq) ?_ | refine bt_ctl rfl (fun _ => stepG_skip) ?_ | refine bt_ctl rfl (fun _ => stepG_region_end) ?_ | refine bt_ctl rfl (fun _ => stepG_ret') ?_ | (refine bt_ctl rfl (fun _ => stepG_region) ?_; simp only [List.size_toArray, List.length_cons, List.length_nil, Nat.reduceAdd, Nat.zero_add, List.range, List.range.loop])) | (refine bt_cons zgOk.bodied rfl (by rfl) (by decide) (by decide) (fun dzz Kzz hKzz => ?_); go_simp; refine hKzz _ _ (fun b hb => hb) (bt_at ?_); clear hKzz Kzz; try walk_nrm) | (refine bt_skip rfl (by rfl) ?_; try walk_nrm)))
  (refine bt_ctl rfl (fun _ => stepG_cond (t := true) rfl) ?_; simp only [if_true, if_false, Bool.false_eq_true, ↓reduceIte])
  (repeat (first | (first | refine bt_ctl rfl (fun _ => stepG_seq) ?_ | refine bt_ctl rfl (fun _ => stepG_skip) ?_ | refine bt_ctl rfl (fun _ => stepG_region_end) ?_ | refine bt_ctl rfl (fun _ => stepG_ret') ?_ | (refine bt_ctl rfl (fun _ => stepG_region) ?_; simp only [List.size_toArray, List.length_cons, List.length_nil, Nat.reduceAdd, Nat.zero_add, List.range, List.range.loop])) | (refine bt_cons zgOk.bodied rfl (by rfl) (by decide) (by decide) (fun dzz Kzz hKzz => ?_); go_simp; refine hKzz _ _ (fun b hb => hb) (bt_at ?_); clear hKzz Kzz; try walk_nrm) | (refine bt_skip rfl (by rfl) ?_; try walk_nrm)))
  refine bt_cons zgOk.bodied rfl (by rfl) (by decide) (by decide) (fun dzz Kzz hKzz => ?_)
  go_simp
  refine hKzz _ ((w.alloc (.cells #[] 38)).at dzz) (fun b hb => Wk.pz_alloc _ hb) (bt_at ?_)
  clear hKzz Kzz
  try walk_nrm
  (repeat (first | (first | refine bt_ctl rfl (fun _ => stepG_seq) ?_ | refine bt_ctl rfl (fun _ => stepG_skip) ?_ | refine bt_ctl rfl (fun _ => stepG_region_end) ?_ | refine bt_ctl rfl (fun _ => stepG_ret') ?_ | (refine bt_ctl rfl (fun _ => stepG_region) ?_; simp only [List.size_toArray, List.length_cons, List.length_nil, Nat.reduceAdd, Nat.zero_add, List.range, List.range.loop])) | (refine bt_cons zgOk.bodied rfl (by rfl) (by decide) (by decide) (fun dzz Kzz hKzz => ?_); go_simp; refine hKzz _ _ (fun b hb => hb) (bt_at ?_); clear hKzz Kzz; try walk_nrm) | (refine bt_skip rfl (by rfl) ?_; try walk_nrm)))
  refine Br.BT.leave (v := .tuple #[.slice (some ⟨w.heap.size, 0, none⟩) 0 0, .bool false]) ⟨rfl, rfl, rfl, Try.f6, Try.func6, results_tmp2 (t := 4) (u := 5) rfl _ _ _⟩ (hk _ _ ?_)
  exact ⟨[], false, w.heap.size, 0, rfl, own_lit0 w (Nat.le_refl _), ⟨rfl, rfl, by simp, fun k hk' => Below.heap_alloc _ _ _ hk'⟩, hq⟩
set_option maxRecDepth 100000 in
set_option maxHeartbeats 4000000 in
theorem ipack_no2 [Br.Thr] (b d : Option Addr) (cb cd : Nat) (ns : List ByteArray) (zs : List El) (w : World) (hne : ns.length = zs.length) (h100 : ¬ ns.length ≤ 100) :
    CallsB Try.prog 6 #[.slice b ns.length cb, .slice d zs.length cd] w (RPk w ns (zs.map (·.l))) := by
  intro c cs Q hk
  have e31 : Frame.enter Try.prog 6 #[.slice b ns.length cb, .slice d zs.length cd] .normal = (base 6).at ⟨#[.slice b ns.length cb, .slice d zs.length cd] ++ Array.replicate 52 undef, []⟩ [.code (Try.f6.body.getD .skip)] := by
    simp [Frame.enter, Frame.at, Try.func6, base, Try.f6]
  rw [e31]
  clear e31
  simp only [Try.f6, Option.getD_some, List.size_toArray, List.length_cons, List.length_nil, Nat.reduceAdd, Nat.reduceSub, Array.replicate_succ, Array.replicate_zero, List.push_toArray, List.append_toArray, List.nil_append, List.cons_append]
  have g0 : ((ns.length : Int) != zs.length) = false := by simp; omega
  have g1 : decide ((100 : Int) < ns.length) = true := by simp; omega
  have hq : PkQ ns (zs.map (·.l)) [] false := .inr ⟨rfl, rfl, fun g => h100 g.few⟩
  have hneH := hide hne
  clear hne
  (repeat (first | (first | refine bt_ctl rfl (fun _ => stepG_seq) ?_ | refine bt_ctl rfl (fun _ => stepG_skip) ?_ | refine bt_ctl rfl (fun _ => stepG_region_end) ?_ | refine bt_ctl rfl (fun _ => stepG_ret') ?_ | (refine bt_ctl rfl (fun _ => stepG_region) ?_; simp only [List.size_toArray, List.length_cons, List.length_nil, Nat.reduceAdd, Nat.zero_add, List.range, List.range.loop])) | (refine bt_cons zgOk.bodied rfl (by rfl) (by decide) (by decide) (fun dzz Kzz hKzz => ?_); go_simp; refine hKzz _ _ (fun b hb => hb) (bt_at ?_); clear hKzz Kzz; try walk_nrm) | (refine bt_skip rfl (by rfl) ?_; try walk_nrm)))
  (refine bt_ctl rfl (fun _ => stepG_cond (t := true) rfl) ?_; simp only [if_true, if_false, Bool.false_eq_true, ↓reduceIte])
  (repeat (first | (first | refine bt_ctl rfl (fun _ => stepG_seq) ?_ | refine bt_ctl rfl (fun _ => stepG_skip) ?_ | refine bt_ctl rfl (fun _ => stepG_region_end) ?_ | refine bt_ctl rfl (fun _ => stepG_ret') ?_ | (refine bt_ctl rfl (fun _ => stepG_region) ?_; simp only [List.size_toArray, List.length_cons, List.length_nil, Nat.reduceAdd, Nat.zero_add, List.range, List.range.loop])) | (refine bt_cons zgOk.bodied rfl (by rfl) (by decide) (by decide) (fun dzz Kzz hKzz => ?_); go_simp; refine hKzz _ _ (fun b hb => hb) (bt_at ?_); clear hKzz Kzz; try walk_nrm) | (refine bt_skip rfl (by rfl) ?_; try walk_nrm)))
  refine bt_cons zgOk.bodied rfl (by rfl) (by decide) (by decide) (fun dzz Kzz hKzz => ?_)
  go_simp
  refine hKzz _ ((w.alloc (.cells #[] 38)).at dzz) (fun b hb => Wk.pz_alloc _ hb) (bt_at ?_)
  clear hKzz Kzz
  try walk_nrm
  (repeat (first | (first | refine bt_ctl rfl (fun _ => stepG_seq) ?_ | refine bt_ctl rfl (fun _ => stepG_skip) ?_ | refine bt_ctl rfl (fun _ => stepG_region_end) ?_ | refine bt_ctl rfl (fun _ => stepG_ret') ?_ | (refine bt_ctl rfl (fun _ => stepG_region) ?_; simp only [List.size_toArray, List.length_cons, List.length_nil, Nat.reduceAdd, Nat.zero_add, List.range, List.range.loop])) | (refine bt_cons zgOk.bodied rfl (by rfl) (by decide) (by decide) (fun dzz Kzz hKzz => ?_); go_simp; refine hKzz _ _ (fun b hb => hb) (bt_at ?_); clear hKzz Kzz; try walk_nrm) | (refine bt_skip rfl (by rfl) ?_; try walk_nrm)))
  refine Br.BT.leave (v := .tuple #[.slice (some ⟨w.heap.size, 0, none⟩) 0 0, .bool false]) ⟨rfl, rfl, rfl, Try.f6, Try.func6, results_tmp2 (t := 4) (u := 5) rfl _ _ _⟩ (hk _ _ ?_)
  exact ⟨[], false, w.heap.size, 0, rfl, own_lit0 w (Nat.le_refl _), ⟨rfl, rfl, by simp, fun k hk' => Below.heap_alloc _ _ _ hk'⟩, hq⟩
end Go.Proofs.Ytghglpcfpokmhaa
