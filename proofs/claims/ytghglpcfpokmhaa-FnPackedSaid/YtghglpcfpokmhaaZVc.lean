/-
  impl.Verify, plain: what its first loop tells of an asset and which body it keeps, and what its second makes of it; no conditions.
  impl.Verify: its first loop, by a lone walk: what is told of each asset ahead of the sums, and the bodies whose sums are asked for.
  impl.Verify: its second loop and its return, by lone walks.
-/
import Derived.Test.YtghglpcfpokmhaaZFm
import Derived.Test.YtghglpcfpokmhaaZDg
import Derived.Test.YtghglpcfpokmhaaZUp1
import Derived.Test.YtghglpcfpokmhaaZBb
import Derived.Test.YtghglpcfpokmhaaZIdS
import Derived.Test.YtghglpcfpokmhaaZBasA
set_option linter.unusedVariables false
set_option linter.unusedSimpArgs false
namespace Go.Proofs.Ytghglpcfpokmhaa
open Go.RowKit
open Go.Proofs.Ytghglpcfpokmhaa.Wk (El BodiesV)
def nilE : El := ⟨none, 0, []⟩
def fst1 (ns : List ByteArray) (zs : List El) (x : Kl) : Int × El :=
  match ns.findIdx? (fun n => n.toList == x.1.toList) with
  | none => (1, nilE)
  | some k => match zs[k]? with
    | none => (1, nilE)
    | some e => if ((e.l.length : Int) != x.2.1) = true then (2, nilE) else (0, e)
theorem fst1_no {ns : List ByteArray} {zs : List El} {x : Kl} (h : ∀ (j : Nat) (n : ByteArray), ns[j]? = some n → (n.toList == x.1.toList) = false) : fst1 ns zs x = (1, nilE) := by
  have e : ns.findIdx? (fun n => n.toList == x.1.toList) = none := by
    rw [List.findIdx?_eq_none_iff]
    intro n hn
    obtain ⟨j, hj⟩ := List.getElem?_of_mem hn
    exact h j n hj
  simp only [fst1, e]
theorem fst1_at {ns : List ByteArray} {zs : List El} {x : Kl} {k : Nat} {n : ByteArray} {z : El} (h : ∀ (j : Nat) (n : ByteArray), j < k → ns[j]? = some n → (n.toList == x.1.toList) = false) (hn : ns[k]? = some n) (hx : (n.toList == x.1.toList) = true) (ht : zs[k]? = some z) :
    fst1 ns zs x = if ((z.l.length : Int) != x.2.1) = true then (2, nilE) else (0, z) := by
  have e : ns.findIdx? (fun n => n.toList == x.1.toList) = some k := by
    rw [List.findIdx?_eq_some_iff_getElem]
    obtain ⟨h1, h2⟩ := List.getElem?_eq_some_iff.1 hn
    refine ⟨h1, by rw [h2]; exact hx, fun j hj => ?_⟩
    have := h j (ns[j]) hj (List.getElem?_eq_getElem (by omega))
    simpa using this
  simp only [fst1, e, ht]
/-- what the second loop makes of it -/
def snd1 (r : Int × El) (x : Kl) : Int := if r.1 = 0 ∧ (dig r.2.l != x.2.2) = true then 3 else r.1
theorem snd1_fst {ns : List ByteArray} {zs : List El} {x : Kl} (hne : ns.length = zs.length) : snd1 (fst1 ns zs x) x = vcode ns (zs.map (·.l)) x := by
  unfold fst1 vcode
  cases h : ns.findIdx? (fun n => n.toList == x.1.toList) with
  | none => simp [snd1]
  | some k =>
    simp only [List.getElem?_map]
    cases hz : zs[k]? with
    | none => simp [snd1]
    | some e =>
      simp only [Option.map_some]
      by_cases h2 : ((e.l.length : Int) != x.2.1) = true
      · simp only [h2, if_true, vone, snd1]; simp
      · simp only [h2, if_false, vone, snd1]
        by_cases h3 : (dig e.l != x.2.2) = true
        · simp [h3]
        · simp [h3]
theorem fst1_mem {ns : List ByteArray} {zs : List El} {x : Kl} : (fst1 ns zs x).2 = nilE ∨ (fst1 ns zs x).2 ∈ zs := by
  unfold fst1
  split
  · exact .inl rfl
  · split
    · exact .inl rfl
    · rename_i e he
      split
      · exact .inl rfl
      · exact .inr (List.mem_of_getElem? he)
/-- the first k are told -/
def midE (l : List El) (n k : Nat) : List El := l.take k ++ List.replicate (n - k) nilE
theorem midE_len {l : List El} {n k : Nat} (hl : l.length = n) (hk : k ≤ n) : (midE l n k).length = n := by simp [midE]; omega
theorem midE_set {l : List El} {n k : Nat} {x : El} (hl : l.length = n) (h : l[k]? = some x) : (midE l n k).set k x = midE l n (k + 1) := by
  have hk : k < l.length := (List.getElem?_eq_some_iff.1 h).1
  apply List.ext_getElem?
  intro j
  unfold midE
  rw [List.getElem?_set]
  by_cases hj : k = j
  · subst hj
    have hlen : k < (l.take k ++ List.replicate (n - k) nilE).length := by simp; omega
    have a2 : k < (l.take (k + 1)).length := by simp; omega
    rw [if_pos rfl, if_pos hlen, List.getElem?_append_left a2, List.getElem?_take_of_lt (Nat.lt_succ_self k), h]
  · simp only [hj, if_false, List.getElem?_append, List.length_take]
    by_cases h1 : j < k
    · have a1 : j < min k l.length := by omega
      have a2 : j < min (k + 1) l.length := by omega
      simp [a1, a2, List.getElem?_take, h1, Nat.lt_succ_of_lt h1]
    · have a1 : ¬ j < min k l.length := by omega
      have a2 : ¬ j < min (k + 1) l.length := by omega
      simp only [a1, a2, if_false, List.getElem?_replicate]
      have e1 : (j - min k l.length < n - k) ↔ (j - min (k + 1) l.length < n - (k + 1)) := by omega
      simp [e1]
theorem midE_skip {l : List El} {n k : Nat} (hl : l.length = n) (h : l[k]? = some nilE) : midE l n (k + 1) = midE l n k := by
  have hk : k < l.length := (List.getElem?_eq_some_iff.1 h).1
  rw [← midE_set hl h]
  have hg : (midE l n k)[k]? = some nilE := by
    unfold midE
    have a1 : ¬ k < min k l.length := by omega
    simp only [List.getElem?_append, List.length_take, a1, if_false, List.getElem?_replicate]
    have : k - min k l.length < n - k := by omega
    simp [this]
  apply List.ext_getElem?
  intro j
  rw [List.getElem?_set]
  by_cases hj : k = j
  · subst hj; simp [hg, midE_len hl (by omega : k ≤ n)]; omega
  · simp [hj]
theorem midI_skip {l : List Int} {n k : Nat} (hl : l.length = n) (h : l[k]? = some 0) : midI l n (k + 1) = midI l n k := by
  have hk : k < l.length := (List.getElem?_eq_some_iff.1 h).1
  rw [← midI_set hl h]
  have hg : (midI l n k)[k]? = some 0 := by
    unfold midI
    have a1 : ¬ k < min k l.length := by omega
    simp only [List.getElem?_append, List.length_take, a1, if_false, List.getElem?_replicate]
    have : k - min k l.length < n - k := by omega
    simp [this]
  apply List.ext_getElem?
  intro j
  rw [List.getElem?_set]
  by_cases hj : k = j
  · subst hj; simp [hg, midI_len hl (by omega : k ≤ n)]; omega
  · simp [hj]
end Go.Proofs.Ytghglpcfpokmhaa

set_option linter.unusedVariables false
set_option linter.unusedSimpArgs false
namespace Go.Proofs.Ytghglpcfpokmhaa
open Go.RowKit
open Go.Proofs.Ytghglpcfpokmhaa.Wk (El BodiesV)
noncomputable def A39 : Code := match Try.f8.body.getD .skip with | .seq _ (.seq _ (.seq _ (.seq _ (.seq (.seq _ A) _)))) => A | _ => .skip
noncomputable def R39 : Code := match Try.f8.body.getD .skip with | .seq _ (.seq _ (.seq _ (.seq _ (.seq _ R)))) => R | _ => .skip
noncomputable def B39 : Code := match Try.f8.body.getD .skip with | .seq _ (.seq _ (.seq _ (.seq _ (.seq _ (.seq (.seq _ B) _))))) => B | _ => .skip
noncomputable def C39 : Code := match Try.f8.body.getD .skip with | .seq _ (.seq _ (.seq _ (.seq _ (.seq _ (.seq _ C))))) => C | _ => .skip
/-- an owned list of bodies -/
abbrev OwnE (w : World) (B g n : Nat) (l : List El) : Prop := w.ownsRow B 22 1 (.slice (some ⟨g, 0, none⟩) n n) n (l.map El.v)
theorem ownE_put {w : World} {B g n : Nat} {l : List El} (k : Nat) (x : El) (h : OwnE w B g n l) : OwnE (w.setCell ⟨g, k, none⟩ x.v) B g n (l.set k x) := by
  have h1 := (h.stored k x.v).1
  show World.ownsRow _ _ _ _ _ _ _
  rw [List.map_set]; exact h1
theorem own_other {w : World} {B e m g g2 n c i : Nat} {v : Value} {xs : List Value} (hg : g ≠ g2) (ho : w.ownsRow B e m (.slice (some ⟨g, 0, none⟩) n c) n xs) : (w.setCell ⟨g2, i, none⟩ v).ownsRow B e m (.slice (some ⟨g, 0, none⟩) n c) n xs := by
  refine ⟨ho.1, ?_⟩
  rcases ho.2 with ⟨hv, _⟩ | ⟨g', cp, cur, e', hg', hh, r⟩
  · cases hv
  · injection id e' with e1
    injection e1 with e1
    injection e1 with e1
    subst e1
    exact .inr ⟨g, cp, cur, e', hg', (by simp [World.setCell, Array.getElem?_modify, Ne.symm hg]; exact hh), r⟩
theorem bodiesV_below {w w' : World} {zs : List El} {d : Option Addr} (h : BodiesV w zs d) (hb : Below w.heap.size w w') : BodiesV w' zs d := by
  refine ⟨fun j e he => ?_, fun e he => ?_⟩
  · obtain ⟨b, o, h1, h2, h3⟩ := h.el j e he
    exact ⟨b, o, h1, Nat.lt_of_lt_of_le h2 hb.size, (World.cell?_of_block (hb.block b h2)).trans h3⟩
  · obtain ⟨h1, h2, h3, h4⟩ := h.body e he
    exact ⟨h1.below hb, h2, h3, h4⟩
/-- the codes of the first loop -/
def tk (l : List Kl) (ns : List ByteArray) (zs : List El) : List Int := l.map fun y => (fst1 ns zs y).1
/-- the bodies of the first loop -/
def ek (l : List Kl) (ns : List ByteArray) (zs : List El) : List El := l.map fun y => (fst1 ns zs y).2
theorem tk_len {l : List Kl} {ns : List ByteArray} {zs : List El} : (tk l ns zs).length = l.length := by simp [tk]
theorem ek_len {l : List Kl} {ns : List ByteArray} {zs : List El} : (ek l ns zs).length = l.length := by simp [ek]
theorem tk_at {l : List Kl} {ns : List ByteArray} {zs : List El} {k : Nat} {y : Kl} {r : Int × El} (h : l[k]? = some y) (hr : fst1 ns zs y = r) : (tk l ns zs)[k]? = some r.1 := by simp [tk, h, hr]
theorem ek_at {l : List Kl} {ns : List ByteArray} {zs : List El} {k : Nat} {y : Kl} {r : Int × El} (h : l[k]? = some y) (hr : fst1 ns zs y = r) : (ek l ns zs)[k]? = some r.2 := by simp [ek, h, hr]
/-- the state of the loop -/
structure VL (w x wr : World) (gt gz n k : Nat) (tl : List Int) (zl : List El) : Prop where
  t : OwnI wr w.heap.size gt n n tl
  z : OwnE wr w.heap.size gz n zl
  bel : Below w.heap.size w wr
  ne : gt ≠ gz
  size : x.heap.size ≤ wr.heap.size
  keep : ∀ b, b < x.heap.size → b ≠ gt → b ≠ gz → wr.heap[b]? = x.heap[b]?
  nil0 : k = 0 → wr.heap = x.heap
theorem VL.later {w x wr wn : World} {gt gz n k : Nat} {tl : List Int} {zl : List El} (h : VL w x wr gt gz n k tl zl) (hb : Below wr.heap.size wr wn) : VL w x wn gt gz n (k + 1) tl zl :=
  ⟨ownsRow_below h.t hb, ownsRow_below h.z hb, laterB h.bel hb, h.ne, Nat.le_trans h.size hb.size, fun b h1 h2 h3 => (hb.block b (Nat.lt_of_lt_of_le h1 h.size)).trans (h.keep b h1 h2 h3), fun e => by omega⟩
theorem set_block {w : World} {g i b : Nat} {v : Value} (h : b ≠ g) : (w.setCell ⟨g, i, none⟩ v).heap[b]? = w.heap[b]? := by
  simp [World.setCell, Array.getElem?_modify, Ne.symm h]
theorem VL.setT {w x wr : World} {gt gz n k : Nat} {tl tl' : List Int} {zl zl' : List El} (i : Nat) (v : Int) (h : VL w x wr gt gz n (k + 1) tl zl) (e1 : tl.set i v = tl') (e2 : zl = zl') : VL w x (wr.setCell ⟨gt, i, none⟩ (.int .i64 v)) gt gz n (k + 1) tl' zl' := by
  subst e1 e2
  have hge : w.heap.size ≤ gt := (World.ownsRow.lt h.t gt rfl).1
  refine ⟨ownI_put i v h.t, own_other h.ne.symm h.z, ?_, h.ne, by simpa using h.size, fun b h1 h2 h3 => (set_block h2).trans (h.keep b h1 h2 h3), fun e => by omega⟩
  exact ⟨h.bel.os, h.bel.tape, h.bel.output, by simpa using h.bel.size, fun b hb => (set_block (by omega)).trans (h.bel.block b hb)⟩
theorem VL.setZ {w x wr : World} {gt gz n k : Nat} {tl tl' : List Int} {zl zl' : List El} (i : Nat) (v : El) (h : VL w x wr gt gz n (k + 1) tl zl) (e1 : tl = tl') (e2 : zl.set i v = zl') : VL w x (wr.setCell ⟨gz, i, none⟩ (.slice v.p v.l.length v.cap)) gt gz n (k + 1) tl' zl' := by
  subst e1 e2
  have hge : w.heap.size ≤ gz := (World.ownsRow.lt h.z gz rfl).1
  refine ⟨own_other h.ne h.t, ownE_put i v h.z, ?_, h.ne, by simpa using h.size, fun b h1 h2 h3 => (set_block h3).trans (h.keep b h1 h2 h3), fun e => by omega⟩
  exact ⟨h.bel.os, h.bel.tape, h.bel.output, by simpa using h.bel.size, fun b hb => (set_block (by omega)).trans (h.bel.block b hb)⟩
/-- what is held behind the first loop -/
def RV1 (w x : World) (a : Option Addr) (ca gt gz : Nat) (l : List Kl) (ns : List ByteArray) (zs : List El) (a' : Act) (w' : World) : Prop :=
  ∃ T, a' = ⟨T, []⟩ ∧ T.size = 95 ∧ T[0]? = some (.slice a l.length ca) ∧ T[7]? = some (.slice (some ⟨gt, 0, none⟩) l.length l.length) ∧ T[8]? = some (.slice (some ⟨gz, 0, none⟩) l.length l.length) ∧ ∃ k, l.length = k ∧ VL w x w' gt gz l.length k (tk l ns zs) (ek l ns zs)
theorem VL.fin {w x wr : World} {gt gz n k : Nat} {tl : List Int} {zl : List El} (ht : tl.length = n) (hz : zl.length = n) (hk : k = n) (h : VL w x wr gt gz n k (midI tl n k) (midE zl n k)) : ∃ k, n = k ∧ VL w x wr gt gz n k tl zl := by
  subst hk
  refine ⟨k, rfl, ?_⟩
  have e1 : midI tl k k = tl := by simp [midI, ← ht]
  have e2 : midE zl k k = zl := by simp [midE, ← hz]
  rw [e1, e2] at h
  exact h
set_option maxRecDepth 100000 in
set_option maxHeartbeats 6400000 in
theorem ver_loop1 (a b d : Option Addr) (ca cb cd : Nat) (l : List Kl) (ns : List ByteArray) (zs : List El) (w x : World) (gt gz : Nat) (hne : ns.length = zs.length) (h100 : l.length ≤ 100) (hnm : ns.length ≤ 1048576) (hk : Kls w a l) (hs : Sts w b ns) (hB : BodiesV w zs d)
    (hbel : Below w.heap.size w x) (ht : OwnI x w.heap.size gt l.length l.length (List.replicate l.length 0)) (hzz : OwnE x w.heap.size gz l.length (List.replicate l.length nilE)) (hgg : gt ≠ gz)
    (v3 v4 v5 v6 v9 v10 v11 v12 v13 v14 v15 v16 v17 v18 v19 v20 v21 v22 v23 v24 v25 v26 v27 v28 v29 v30 v34 v35 v36 v37 v38 v39 v40 v41 v42 v43 v44 v45 v46 v47 v48 v49 v50 v51 v52 v53 v54 v55 v56 v57 v58 v59 v60 v61 v62 v63 v64 v65 v66 v67 v68 v69 v70 v71 v72 v73 v74 v75 v76 v77 v78 v79 v80 v81 v82 v83 v84 v85 v86 v87 v88 v89 v90 v91 v92 v93 v94 : Value) :
    A39.wp Try.prog (fun e a' w' => e = .normal ∧ RV1 w x a ca gt gz l ns zs a' w') ⟨#[.slice a l.length ca, .slice b ns.length cb, .slice d zs.length cd, v3, v4, v5, v6, .slice (some ⟨gt, 0, none⟩) l.length l.length, .slice (some ⟨gz, 0, none⟩) l.length l.length, v9, v10, v11, v12, v13, v14, v15, v16, v17, v18, v19, v20, v21, v22, v23, v24, v25, v26, v27, v28, v29, v30, .slice a l.length ca, .int .i64 l.length, .int .i64 0, v34, v35, v36, v37, v38, v39, v40, v41, v42, v43, v44, v45, v46, v47, v48, v49, v50, v51, v52, v53, v54, v55, v56, v57, v58, v59, v60, v61, v62, v63, v64, v65, v66, v67, v68, v69, v70, v71, v72, v73, v74, v75, v76, v77, v78, v79, v80, v81, v82, v83, v84, v85, v86, v87, v88, v89, v90, v91, v92, v93, v94], []⟩ x := by
  have V0 := hide (show VL w x x gt gz l.length 0 (midI (tk l ns zs) l.length 0) (midE (ek l ns zs) l.length 0) from ⟨by simpa [midI] using ht, by simpa [midE] using hzz, hbel, hgg, Nat.le_refl _, fun _ _ _ _ => rfl, fun _ => rfl⟩)
  have hk' := hide hk
  have hs' := hide hs
  have hB' := hide hB
  have hne' := hide hne
  have hnM : Hid (ns.length ≤ maxLen) := hide (by unfold maxLen; omega)
  clear hk hs hB hne ht hzz hbel hgg
  simp only [A39, Try.f8, Option.getD_some]
  go_wp2
  go_loopw [33] (fun t wr => ∃ (k : Nat), k ≤ l.length ∧ t = .int .i64 k ∧ Hid (VL w x wr gt gz l.length k (midI (tk l ns zs) l.length k) (midE (ek l ns zs) l.length k))) (fun t _ => l.length - (intOf t).toNat)
  case atStart => exact ⟨0, by omega, rfl, V0⟩
  case round =>
    clear V0
    obtain ⟨k, hk1, rfl, S⟩ := hrel
    by_cases hlt : k < l.length
    rotate_left
    · have hke : Hid (k = l.length) := hide (by omega)
      have g2 : decide ((k : Int) < l.length) = false := by simp; omega
      go_wp2
      exact ⟨_, rfl, rfl, rfl, rfl, rfl, (unhide S).fin tk_len ek_len (unhide hke)⟩
    obtain ⟨y, hy⟩ : ∃ y, l[k]? = some y := ⟨l[k], List.getElem?_eq_getElem hlt⟩
    obtain ⟨bx, o, ea, i1, c0, c1, c2⟩ := (unhide hk').below (unhide S).bel k y hy
    subst ea
    have g2 : decide ((k : Int) < l.length) = true := by simp; omega
    obtain ⟨s, p, q⟩ := y
    simp only at c0 c1 c2
    obtain ⟨x0, x1, x2⟩ := @cel3 wr (.string s) (.int .i64 p) (.int .i64 q) 38
    have SX := hide ((unhide S).later ((Below.refl wr.heap.size wr).alloc (Nat.le_refl _) (.cells #[.string s, .int .i64 p, .int .i64 q] 38)))
    have hyy := hide hy
    clear hy S i1
    go_wp2_with fail
    have hwr : Hid (wr.heap.size < (wr.alloc (.cells #[.string s, .int .i64 p, .int .i64 q] 38)).heap.size) := hide (by simp)
    generalize hXX : wr.alloc (.cells #[.string s, .int .i64 p, .int .i64 q] 38) = X at *
    refine (idxS_any b cb ns s _ (unhide hnM) ((unhide hs').below (unhide SX).bel)).mono ?_
    rintro e w3 ⟨r, rfl, hF, hw3⟩
    subst hw3
    clear hXX c0 c1 c2
    rcases hF with ⟨rfl, hno⟩ | ⟨j, n, rfl, hn, hx, hpre⟩
    · have hf := fst1_no (zs := zs) (x := (s, p, q)) hno
      obtain ⟨v, t0, t1, _⟩ := own_at (i := k) (unhide SX).t (by omega)
      have SN := hide ((unhide SX).setT k 1 (midI_set tk_len (tk_at (unhide hyy) hf)) (midE_skip ek_len (ek_at (unhide hyy) hf)).symm)
      clear hno hf SX
      go_wp2
      go_roundw
      case rel => exact ⟨k + 1, by omega, by go_num, SN⟩
      case measure => simp [intOf]; omega
    have hjl : j < zs.length := by have := (List.getElem?_eq_some_iff.1 hn).1; have := unhide hne'; omega
    obtain ⟨z, hz⟩ : ∃ z, zs[j]? = some z := ⟨zs[j], List.getElem?_eq_getElem hjl⟩
    have hf := fst1_at (zs := zs) (x := (s, p, q)) hpre hn hx hz
    obtain ⟨bt, ot, et, i3, w1⟩ := (bodiesV_below (unhide hB') (unhide SX).bel).el j z hz
    subst et
    unfold El.v at w1
    have hj0 : decide ((j : Int) < 0) = false := by simp
    have hjz : (j : Int) < zs.length := by omega
    clear hpre hn hx hz i3 hjl
    obtain ⟨v, t0, t1, _⟩ := own_at (i := k) (unhide SX).t (by omega)
    cases hc : ((z.l.length : Int) != p) with
    | true =>
      have hf2 := hide (show fst1 ns zs (s, p, q) = (2, nilE) by rw [hf]; simp only at hc ⊢; rw [hc]; rfl)
      clear hf
      have hwc := hide t0
      have hwf := hide t1
      go_wp2_with fail
      go_quiet (fail)
      generalize hYY : World.drewN _ _ = Y
      have hbY : Below w3.heap.size w3 Y := by rw [← hYY]; exact below_drewN (Below.refl _ _) _
      have SY : VL w x Y gt gz l.length (k + 1) (midI (tk l ns zs) l.length k) (midE (ek l ns zs) l.length k) := by
        have h1 := unhide SX
        exact ⟨ownsRow_below h1.t hbY, ownsRow_below h1.z hbY, laterB h1.bel hbY, h1.ne, Nat.le_trans h1.size hbY.size, fun b h2 h3 h4 => (hbY.block b (Nat.lt_of_lt_of_le h2 h1.size)).trans (h1.keep b h2 h3 h4), fun e => by omega⟩
      clear hYY hbY t0 t1 SX w1 x0 x1 x2
      obtain ⟨v', t0, t1, _⟩ := own_at (i := k) SY.t (by omega)
      have SN := hide (SY.setT k 2 (midI_set tk_len (tk_at (unhide hyy) (unhide hf2))) (midE_skip ek_len (ek_at (unhide hyy) (unhide hf2))).symm)
      clear SY
      go_wp2
      go_roundw
      case rel => exact ⟨k + 1, by omega, by go_num, SN⟩
      case measure => simp [intOf]; omega
    | false =>
      have hf2 := hide (show fst1 ns zs (s, p, q) = (0, z) by rw [hf]; simp only at hc ⊢; rw [hc]; rfl)
      clear hf
      go_wp2_with fail
      go_quiet (fail)
      generalize hYY : World.drewN _ _ = Y
      have hbY : Below w3.heap.size w3 Y := by rw [← hYY]; exact below_drewN (Below.refl _ _) _
      have SY : VL w x Y gt gz l.length (k + 1) (midI (tk l ns zs) l.length k) (midE (ek l ns zs) l.length k) := by
        have h1 := unhide SX
        exact ⟨ownsRow_below h1.t hbY, ownsRow_below h1.z hbY, laterB h1.bel hbY, h1.ne, Nat.le_trans h1.size hbY.size, fun b h2 h3 h4 => (hbY.block b (Nat.lt_of_lt_of_le h2 h1.size)).trans (h1.keep b h2 h3 h4), fun e => by omega⟩
      have w2 := cell_later hbY w1
      clear hYY hbY t0 t1 SX w1 x0 x1 x2
      obtain ⟨v', t0, t1, _⟩ := own_at (i := k) SY.z (by omega)
      have SN := hide (SY.setZ k z (midI_skip tk_len (tk_at (unhide hyy) (unhide hf2))).symm (midE_set ek_len (ek_at (unhide hyy) (unhide hf2))))
      clear SY
      go_wp2
      go_roundw
      case rel => exact ⟨k + 1, by omega, by go_num, SN⟩
      case measure => simp [intOf]; omega
end Go.Proofs.Ytghglpcfpokmhaa

set_option linter.unusedVariables false
set_option linter.unusedSimpArgs false
namespace Go.Proofs.Ytghglpcfpokmhaa
open Go.RowKit
open Go.Proofs.Ytghglpcfpokmhaa.Wk (El BodiesV)
/-- the first k of the one, then the other's -/
def mixI (A B : List Int) (k : Nat) : List Int := A.take k ++ B.drop k
theorem mixI_get {A B : List Int} {k : Nat} (hl : A.length = B.length) (hk : k < A.length) : (mixI A B k)[k]? = B[k]? := by
  have e : (A.take k).length = k := by simp; omega
  simp [mixI, List.getElem?_append, e]
theorem mixI_set {A B : List Int} {k : Nat} {v : Int} (hl : A.length = B.length) (h : A[k]? = some v) : (mixI A B k).set k v = mixI A B (k + 1) := by
  have hk : k < A.length := (List.getElem?_eq_some_iff.1 h).1
  have e : (A.take k).length = k := by simp; omega
  unfold mixI
  rw [List.take_add_one, h, List.set_append_right _ _ (by omega), e, Nat.sub_self]
  have : B.drop k = B[k] :: B.drop (k + 1) := by rw [List.drop_eq_getElem_cons (by omega)]
  rw [this, List.set_cons_zero, List.append_assoc]
  rfl
theorem mixI_skip {A B : List Int} {k : Nat} {v : Int} (hl : A.length = B.length) (h : A[k]? = some v) (h2 : B[k]? = some v) : mixI A B (k + 1) = mixI A B k := by
  have hk : k < A.length := (List.getElem?_eq_some_iff.1 h).1
  unfold mixI
  rw [List.take_add_one, h]
  have e2 : B[k] = v := (List.getElem?_eq_some_iff.1 h2).2
  have : B.drop k = v :: B.drop (k + 1) := by rw [List.drop_eq_getElem_cons (by omega), e2]
  rw [this]
  simp
/-- what is told in the end -/
def fk (l : List Kl) (ns : List ByteArray) (zs : List El) : List Int := l.map fun y => snd1 (fst1 ns zs y) y
theorem fk_len {l : List Kl} {ns : List ByteArray} {zs : List El} : (fk l ns zs).length = l.length := by simp [fk]
theorem fk_tk {l : List Kl} {ns : List ByteArray} {zs : List El} : (fk l ns zs).length = (tk l ns zs).length := by simp [fk, tk]
theorem fk_at {l : List Kl} {ns : List ByteArray} {zs : List El} {k : Nat} {y : Kl} {r : Int × El} {v : Int} (h : l[k]? = some y) (hr : fst1 ns zs y = r) (hv : snd1 r y = v) : (fk l ns zs)[k]? = some v := by simp [fk, h, hr, hv]
theorem fk_vfy {l : List Kl} {ns : List ByteArray} {zs : List El} (hne : ns.length = zs.length) (hp : pOk l = true) : fk l ns zs = vfy l ns (zs.map (·.l)) := by
  rw [vfy_ok hp (by simpa using hne)]
  unfold fk
  apply List.map_congr_left
  intro y _
  exact snd1_fst hne
/-- the state of the second loop -/
structure VM (w x wr : World) (gt n k : Nat) (tl : List Int) : Prop where
  t : OwnI wr w.heap.size gt n n tl
  bel : Below w.heap.size w wr
  size : x.heap.size ≤ wr.heap.size
  keep : ∀ b, b < x.heap.size → b ≠ gt → wr.heap[b]? = x.heap[b]?
  nil0 : n = 0 → wr.heap = x.heap
theorem VM.setT {w x wr : World} {gt n k k' : Nat} {tl tl' : List Int} (i : Nat) (v : Int) (hn : n ≠ 0) (h : VM w x wr gt n k tl) (e1 : tl.set i v = tl') : VM w x (wr.setCell ⟨gt, i, none⟩ (.int .i64 v)) gt n k' tl' := by
  subst e1
  have hge : w.heap.size ≤ gt := (World.ownsRow.lt h.t gt rfl).1
  refine ⟨ownI_put i v h.t, ?_, by simpa using h.size, fun b h1 h2 => (set_block h2).trans (h.keep b h1 h2), fun e => absurd e hn⟩
  exact ⟨h.bel.os, h.bel.tape, h.bel.output, by simpa using h.bel.size, fun b hb => (set_block (by omega)).trans (h.bel.block b hb)⟩
theorem VM.same {w x wr : World} {gt n k k' : Nat} {tl tl' : List Int} (h : VM w x wr gt n k tl) (e1 : tl' = tl) : VM w x wr gt n k' tl' := by subst e1; exact ⟨h.t, h.bel, h.size, h.keep, h.nil0⟩
/-- what is held behind the second loop -/
def RV2 (w x : World) (gt n : Nat) (tl : List Int) (a' : Act) (w' : World) : Prop :=
  ∃ T, a' = ⟨T, []⟩ ∧ T.size = 95 ∧ T[7]? = some (.slice (some ⟨gt, 0, none⟩) n n) ∧ VM w x w' gt n n tl
theorem VM.fin {w x wr : World} {gt n k : Nat} {A B : List Int} (hA : A.length = n) (hB : B.length = n) (hk : k = n) (h : VM w x wr gt n k (mixI A B k)) : VM w x wr gt n n A := by
  subst hk
  have e1 : mixI A B k = A := by unfold mixI; rw [List.take_of_length_le (by omega), List.drop_of_length_le (by omega), List.append_nil]
  rw [e1] at h
  exact h
set_option maxRecDepth 100000 in
set_option maxHeartbeats 6400000 in
theorem ver_loop2 (a : Option Addr) (ca : Nat) (l : List Kl) (ns : List ByteArray) (zs : List El) (w x : World) (gt gs : Nat) (h100 : l.length ≤ 100) (hk : Kls w a l)
    (hbel : Below w.heap.size w x) (ht : OwnI x w.heap.size gt l.length l.length (tk l ns zs)) (hgs : ∀ j e, (ek l ns zs)[j]? = some e → x.cell? ⟨gs, j, none⟩ = some (.int .i64 (dig e.l))) (hgl : gs < x.heap.size) (hgg : gt ≠ gs)
    (v1 v2 v3 v4 v5 v6 v8 v9 v10 v11 v12 v13 v14 v15 v16 v17 v18 v19 v20 v21 v22 v23 v24 v25 v26 v27 v28 v29 v30 v31 v32 v33 v34 v35 v36 v37 v38 v39 v40 v41 v42 v43 v44 v45 v46 v47 v48 v49 v50 v51 v52 v53 v54 v55 v56 v57 v58 v59 v60 v61 v62 v63 v64 v65 v66 v67 v68 v72 v73 v74 v75 v76 v77 v78 v79 v80 v81 v82 v83 v84 v85 v86 v87 v88 v89 v90 v91 v92 v93 v94 : Value) :
    B39.wp Try.prog (fun e a' w' => e = .normal ∧ RV2 w x gt l.length (fk l ns zs) a' w') ⟨#[.slice a l.length ca, v1, v2, v3, v4, v5, v6, .slice (some ⟨gt, 0, none⟩) l.length l.length, v8, v9, v10, v11, v12, v13, v14, v15, v16, v17, v18, v19, v20, v21, v22, v23, v24, v25, v26, v27, v28, v29, v30, v31, v32, v33, v34, v35, v36, v37, v38, v39, v40, v41, v42, v43, v44, v45, v46, v47, v48, v49, v50, v51, v52, v53, v54, v55, v56, v57, v58, v59, v60, v61, v62, v63, v64, v65, v66, v67, v68, .slice (some ⟨gs, 0, none⟩) l.length l.length, .int .i64 l.length, .int .i64 0, v72, v73, v74, v75, v76, v77, v78, v79, v80, v81, v82, v83, v84, v85, v86, v87, v88, v89, v90, v91, v92, v93, v94], []⟩ x := by
  have V0 := hide (show VM w x x gt l.length 0 (mixI (fk l ns zs) (tk l ns zs) 0) from ⟨by simpa [mixI] using ht, hbel, Nat.le_refl _, fun _ _ _ => rfl, fun _ => rfl⟩)
  have hk' := hide hk
  have hG := hide hgs
  have hgg' := hide hgg
  have hgl' := hide hgl
  clear hk ht hbel hgg hgs hgl
  simp only [B39, Try.f8, Option.getD_some]
  go_wp2
  go_loopw [71] (fun t wr => ∃ (k : Nat), k ≤ l.length ∧ t = .int .i64 k ∧ Hid (VM w x wr gt l.length k (mixI (fk l ns zs) (tk l ns zs) k))) (fun t _ => l.length - (intOf t).toNat)
  case atStart => exact ⟨0, by omega, rfl, V0⟩
  case round =>
    clear V0
    obtain ⟨k, hk1, rfl, S⟩ := hrel
    by_cases hlt : k < l.length
    rotate_left
    · have hke : Hid (k = l.length) := hide (by omega)
      have g2 : decide ((k : Int) < l.length) = false := by simp; omega
      go_wp2
      exact ⟨_, rfl, rfl, rfl, (unhide S).fin fk_len tk_len (unhide hke)⟩
    obtain ⟨y, hy⟩ : ∃ y, l[k]? = some y := ⟨l[k], List.getElem?_eq_getElem hlt⟩
    obtain ⟨bx, o, ea, i1, c0, c1, c2⟩ := (unhide hk').below (unhide S).bel k y hy
    subst ea
    have g2 : decide ((k : Int) < l.length) = true := by simp; omega
    have hl0 : Hid (l.length ≠ 0) := hide (by omega)
    obtain ⟨r, hr⟩ : ∃ r, fst1 ns zs y = r := ⟨_, rfl⟩
    have hsum : wr.cell? ⟨gs, k, none⟩ = some (.int .i64 (dig r.2.l)) := (World.cell?_of_block ((unhide S).keep gs (unhide hgl') (unhide hgg').symm)).trans (unhide hG k r.2 (ek_at hy hr))
    obtain ⟨v, t0, t1, t2, _⟩ := own_at (i := k) (unhide S).t (by omega)
    have hv : v = .int .i64 r.1 := by
      rw [List.getElem?_map, mixI_get fk_tk (by rw [fk_len]; exact hlt), tk_at hy hr] at t2
      simp [iv] at t2
      exact t2.symm
    subst hv
    obtain ⟨s, p, q⟩ := y
    obtain ⟨c, z⟩ := r
    simp only at c0 c1 c2 hsum t0
    have hyy := hide hy
    have hrr := hide hr
    clear hy hr i1 t2
    generalize hD : dig z.l = D at *
    by_cases hc : c = 0
    · subst hc
      cases hq : (D != q) with
      | true =>
        have SN := hide ((unhide S).setT (k' := k + 1) k 3 (unhide hl0) (mixI_set fk_tk (fk_at (unhide hyy) (unhide hrr) (v := 3) (by simp [snd1, hD, hq]))))
        clear S
        go_wp2
        go_roundw
        case rel => exact ⟨k + 1, by omega, by go_num, SN⟩
        case measure => simp [intOf]; omega
      | false =>
        have SN := hide ((unhide S).same (k' := k + 1) (mixI_skip fk_tk (fk_at (unhide hyy) (unhide hrr) (v := 0) (by simp [snd1, hD, hq])) (tk_at (unhide hyy) (unhide hrr))))
        clear S
        go_wp2
        go_roundw
        case rel => exact ⟨k + 1, by omega, by go_num, SN⟩
        case measure => simp [intOf]; omega
    · have hc0 : (c == 0) = false := by simpa using hc
      have SN := hide ((unhide S).same (k' := k + 1) (mixI_skip fk_tk (fk_at (unhide hyy) (unhide hrr) (v := c) (by simp only [snd1]; rw [if_neg (fun h => hc h.1)])) (tk_at (unhide hyy) (unhide hrr))))
      clear S hc
      go_wp2
      go_roundw
      case rel => exact ⟨k + 1, by omega, by go_num, SN⟩
      case measure => simp [intOf]; omega
set_option maxRecDepth 100000 in
set_option maxHeartbeats 1600000 in
theorem ver_tail (x : World) (gt n : Nat) (v0 v1 v2 v3 v4 v5 v6 v8 v9 v10 v11 v12 v13 v14 v15 v16 v17 v18 v19 v20 v21 v22 v23 v24 v25 v26 v27 v28 v29 v30 v31 v32 v33 v34 v35 v36 v37 v38 v39 v40 v41 v42 v43 v44 v45 v46 v47 v48 v49 v50 v51 v52 v53 v54 v55 v56 v57 v58 v59 v60 v61 v62 v63 v64 v65 v66 v67 v68 v69 v70 v71 v72 v73 v74 v75 v76 v77 v78 v79 v80 v81 v82 v83 v84 v85 v86 v87 v88 v89 v90 v91 v92 v93 v94 : Value) :
    C39.wp Try.prog (bodyPost Try.prog Try.f8 fun e w' => ∃ v, e = .returned v ∧ v = .slice (some ⟨gt, 0, none⟩) n n ∧ w' = x) ⟨#[v0, v1, v2, v3, v4, v5, v6, .slice (some ⟨gt, 0, none⟩) n n, v8, v9, v10, v11, v12, v13, v14, v15, v16, v17, v18, v19, v20, v21, v22, v23, v24, v25, v26, v27, v28, v29, v30, v31, v32, v33, v34, v35, v36, v37, v38, v39, v40, v41, v42, v43, v44, v45, v46, v47, v48, v49, v50, v51, v52, v53, v54, v55, v56, v57, v58, v59, v60, v61, v62, v63, v64, v65, v66, v67, v68, v69, v70, v71, v72, v73, v74, v75, v76, v77, v78, v79, v80, v81, v82, v83, v84, v85, v86, v87, v88, v89, v90, v91, v92, v93, v94], []⟩ x := by
  simp only [C39, Try.f8, Option.getD_some]
  go_wp2
  go_ret
  exact ⟨_, rfl, rfl, rfl⟩
end Go.Proofs.Ytghglpcfpokmhaa
