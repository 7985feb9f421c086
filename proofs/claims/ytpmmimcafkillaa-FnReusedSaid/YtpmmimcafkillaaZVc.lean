/-
  The contract of the program's areChanged: a list of numbers of tasks, each of which there is; nothing is written.
  The contract of the model's Dirty; nothing that was there is written.
  The program's Dirty: what it does with the numbers that were worked out, by a lone walk.
  Dirty, beside leavers: up to the numbers that are worked out.
-/
import Derived.Test.YtpmmimcafkillaaZJbP
import Derived.Test.YtpmmimcafkillaaZJbS
import Derived.Test.YtpmmimcafkillaaZCopyL
import Derived.Test.YtpmmimcafkillaaZXp
import Derived.Test.YtpmmimcafkillaaZFmM
import Derived.Test.YtpmmimcafkillaaZRnM
import Derived.Test.YtpmmimcafkillaaZUe
import Derived.Test.YtpmmimcafkillaaZUb
namespace Go.Proofs.Ytpmmimcafkillaa
open Go.RowKit
set_option linter.unusedVariables false
set_option linter.unusedSimpArgs false
def chIn (n : Int) : List Int → Bool
  | [] => true
  | x :: xs => decide (0 ≤ x) && decide (x < n) && chIn n xs
/-- not more than 200 numbers, each of them at least nought and below n -/
def chOk (n : Int) (cs : List Int) : Bool := decide (cs.length ≤ 200) && chIn n cs
theorem chIn_mem {n : Int} {cs : List Int} (h : chIn n cs = true) : ∀ x ∈ cs, 0 ≤ x ∧ x < n := by
  induction cs with
  | nil => intro x hx; simp at hx
  | cons y cs ih =>
    simp only [chIn, Bool.and_eq_true, decide_eq_true_eq] at h
    intro x hx
    rcases List.mem_cons.1 hx with rfl | hx
    · exact h.1
    · exact ih h.2 x hx
set_option maxRecDepth 100000 in
set_option maxHeartbeats 1600000 in
theorem icha_any (a : Option Addr) (cap : Nat) (zs : List Int) (n : Int) (w : World) (hl : zs.length ≤ maxLen) (hr : Ins w a zs) :
    Calls Try.prog 44 #[.slice a zs.length cap, .int .i64 n] w fun e w' => e = .returned (.bool (chOk n zs)) ∧ w' = w := by
  unfold maxLen at hl
  have hr' := hide hr
  clear hr
  by_cases h200 : zs.length ≤ 200
  rotate_left
  · have g0 : decide ((200 : Int) < zs.length) = true := by simp; omega
    have hf := hide (show chOk n zs = false by simp [chOk]; omega)
    go_enter Try.func44, Try.ntmps44
    go_wp2
    go_ret
    exact ⟨ret_bool (unhide hf).symm, rfl⟩
  have g0 : decide ((200 : Int) < zs.length) = false := by simp; omega
  have hf := hide (show chOk n zs = chIn n (zs.drop 0) by simp [chOk, h200])
  go_enter Try.func44, Try.ntmps44
  go_wp2
  go_loop [12] (fun t => ∃ (k : Nat), k ≤ zs.length ∧ t = .int .i64 k ∧ Hid (chOk n zs = chIn n (zs.drop k))) (fun t => zs.length - (intOf t).toNat)
  case atStart => exact ⟨0, by omega, rfl, hf⟩
  case round =>
    obtain ⟨k, hk, rfl, hm⟩ := hrel
    by_cases hlt : k < zs.length
    · have gk : decide ((k : Int) < zs.length) = true := by simp; omega
      obtain ⟨b, o, x, rfl, hx, i1, c0⟩ := ins_at (unhide hr') (Below.refl _ _) hlt
      have hd := hide (show chOk n zs = (decide (0 ≤ x) && decide (x < n) && chIn n (zs.drop (k + 1))) by rw [unhide hm, drop_at hx]; rfl)
      clear hx hm i1
      by_cases h1 : x < 0
      · have g1 : decide (x < 0) = true := by simpa using h1
        have hfin := hide (show chOk n zs = false by rw [unhide hd]; simp; omega)
        clear hd
        go_wp2
        go_ret
        exact ⟨ret_bool (unhide hfin).symm, rfl⟩
      · have g1 : decide (x < 0) = false := by simpa using h1
        by_cases h2 : n ≤ x
        · have g2 : decide (n ≤ x) = true := by simpa using h2
          have hfin := hide (show chOk n zs = false by rw [unhide hd]; simp; omega)
          clear hd
          go_wp2
          go_ret
          exact ⟨ret_bool (unhide hfin).symm, rfl⟩
        · have g2 : decide (n ≤ x) = false := by simpa using h2
          have hfin := hide (show chOk n zs = chIn n (zs.drop (k + 1)) by rw [unhide hd, decide_eq_true (by omega), decide_eq_true (by omega)]; rfl)
          clear hd
          go_wp2
          go_round
          case rel => exact ⟨k + 1, by omega, by go_num, hfin⟩
          case measure => simp [intOf]; omega
    · have gk : decide ((k : Int) < zs.length) = false := by simp; omega
      have hfin := hide (show chOk n zs = true by rw [unhide hm, drop_end hlt]; rfl)
      clear hm
      go_wp2
      go_ret
      exact ⟨ret_bool (unhide hfin).symm, rfl⟩
end Go.Proofs.Ytpmmimcafkillaa

namespace Go.Proofs.Ytpmmimcafkillaa
open Go.RowKit
open Go.Proofs.Ytpmmimcafkillaa.Rs (outOf out_len out_at dtR)
set_option linter.unusedVariables false
set_option linter.unusedSimpArgs false
/-! which are dirty, plain -/
/-- the places below k of the ones -/
def dlk (o : List Int) : Nat → List Int
  | 0 => []
  | k + 1 => if o.getD k 0 == 1 then dlk o k ++ [(k : Int)] else dlk o k
theorem dlk_one {o : List Int} {k : Nat} {y : Int} (h : o[k]? = some y) : dlk o (k + 1) = if y == 1 then dlk o k ++ [(k : Int)] else dlk o k := by
  rw [dlk, List.getD_eq_getElem?_getD, h, Option.getD_some]
def dtyOf (ts : List Tv) (ch : List Int) : List Int := if jobOk ts && chOk ts.length ch then dlk (outOf (dtR ch) ts) ts.length else []
/-- who is marked: below k by what is worked out, from k on by what has changed -/
def inr (o cs : List Int) (k n : Nat) : List Bool := (List.range n).map fun i => if i < k then o.getD i 0 == 1 else cs.contains (i : Int)
theorem inr_at {o cs : List Int} {k n i : Nat} (h : i < n) : (inr o cs k n)[i]? = some (if i < k then o.getD i 0 == 1 else cs.contains (i : Int)) := by simp [inr, h]
theorem inr_len (o cs : List Int) (k n : Nat) : (inr o cs k n).length = n := by simp [inr]
theorem inr_zero (o : List Int) (n : Nat) : inr o [] 0 n = List.replicate n false := by
  apply List.ext_getElem?
  intro i
  by_cases h : i < n
  · rw [inr_at h]; simp [h]
  · rw [List.getElem?_eq_none (by rw [inr_len]; omega), List.getElem?_eq_none (by simp; omega)]
theorem inr_mark {o cs : List Int} {n q m : Nat} (h : cs[q]? = some (m : Int)) : (inr o (cs.take q) 0 n).set m true = inr o (cs.take (q + 1)) 0 n := by
  have e : cs.take (q + 1) = cs.take q ++ [(m : Int)] := by rw [List.take_add_one, h]; rfl
  apply List.ext_getElem?
  intro i
  by_cases hi : i < n
  · rw [inr_at hi, e]
    by_cases hm : m = i
    · subst hm
      rw [List.getElem?_set_self (by rw [inr_len]; omega)]
      simp
    · rw [List.getElem?_set_ne hm, inr_at hi]
      have : ¬ (i : Int) = m := by omega
      simp [this]
  · rw [List.getElem?_eq_none (by simp [inr_len]; omega), List.getElem?_eq_none (by rw [inr_len]; omega)]
theorem inr_self {o cs : List Int} {k n : Nat} (h : k < n) : (inr o cs k n).set k (cs.contains (k : Int)) = inr o cs k n := by
  apply List.ext_getElem?
  intro i
  by_cases e : k = i
  · subst e
    rw [List.getElem?_set_self (by rw [inr_len]; omega), inr_at h]
    simp
  · rw [List.getElem?_set_ne e]
theorem inr_next {o cs : List Int} {k n : Nat} {y : Int} (h : k < n) (hy : o[k]? = some y) : (inr o cs k n).set k (y == 1) = inr o cs (k + 1) n := by
  apply List.ext_getElem?
  intro i
  by_cases hi : i < n
  · by_cases e : k = i
    · subst e
      rw [List.getElem?_set_self (by rw [inr_len]; omega), inr_at h]
      simp [List.getD_eq_getElem?_getD, hy]
    · rw [List.getElem?_set_ne e, inr_at hi, inr_at hi]
      have : (i < k) ↔ (i < k + 1) := by omega
      simp [this]
  · rw [List.getElem?_eq_none (by simp [inr_len]; omega), List.getElem?_eq_none (by rw [inr_len]; omega)]
/-- whether one of the first needs is dirty -/
def anyd (o zs : List Int) : Bool := zs.any fun z => o.getD z.toNat 0 == 1
theorem anyd_snoc {o zs : List Int} {q z : Nat} {y : Int} (h : zs[q]? = some (z : Int)) (hy : o[z]? = some y) : anyd o (zs.take (q + 1)) = (anyd o (zs.take q) || (y == 1)) := by
  have e : zs.take (q + 1) = zs.take q ++ [(z : Int)] := by rw [List.take_add_one, h]; rfl
  rw [e]
  simp [anyd, List.getD_eq_getElem?_getD, hy]
theorem has_one (o zs : List Int) : (zs.map fun n => o.getD n.toNat 0).contains 1 = anyd o zs := by
  unfold anyd
  induction zs with
  | nil => rfl
  | cons z zs ih => rw [List.map_cons, List.contains_cons, List.any_cons, ih, BEq.comm (a := (1 : Int))]
theorem dt_at {ts : List Tv} {ch : List Int} {k : Nat} {t : Tv} (hj : jobOk ts = true) (ht : ts[k]? = some t) : ∃ y, (outOf (dtR ch) ts)[k]? = some y ∧ (y == 1) = (ch.contains (k : Int) || anyd (outOf (dtR ch) ts) t.2.2.1) := by
  refine ⟨_, out_at (f := dtR ch) hj ht, ?_⟩
  have e : (Rs.ask (outOf (dtR ch) ts) t).contains 1 = anyd (outOf (dtR ch) ts) t.2.2.1 := has_one _ _
  unfold dtR at e ⊢
  rw [e]
  split
  · next h => rw [h]; rfl
  · next h => rw [Bool.not_eq_true] at h; rw [h]; rfl
/-! a row of marks in memory -/
abbrev bv (x : Bool) : Value := .bool x
theorem infoB : (Try.prog.info? 4).map (fun i => (i.zero, i.size, i.bytes)) = some (some (.bool false), 1, 1) := by kernel_rfl
abbrev OwnF (w : World) (B g n : Nat) (l : List Bool) : Prop := w.ownsRow B 4 1 (.slice (some ⟨g, 0, none⟩) n n) n (l.map bv)
theorem made_B (n : Nat) : (madeCells #[.bool false] n).toList = (List.replicate n false).map bv := by
  have := toList_madeCells_one (.bool false) n
  simpa [bv] using this
theorem ownF_at {w : World} {B g n i : Nat} {x : Bool} {l : List Bool} (h : OwnF w B g n l) (hx : l[i]? = some x) : w.cell? ⟨g, i, none⟩ = some (.bool x) ∧ w.frozen? ⟨g, i, none⟩ = false := by
  have hl : (l.map bv).length = n * 1 := h.1
  have hj : i < l.length := (List.getElem?_eq_some_iff.1 hx).1
  refine ⟨?_, h.frozenAt i⟩
  rw [h.cellAt i (by simp at hl; omega), List.getElem?_map, hx]; rfl
theorem ownF_put {w : World} {B g n : Nat} {l : List Bool} (k : Nat) (x : Bool) (h : OwnF w B g n l) : OwnF (w.setCell ⟨g, k, none⟩ (.bool x)) B g n (l.set k x) := by
  have h1 := (h.stored k (bv x)).1
  show World.ownsRow _ _ _ _ _ _ _
  rw [List.map_set]; exact h1
/-- the marks and the list -/
structure DM (W0 wr : World) (gT gR cR n m : Nat) (l : List Bool) (r : List Int) : Prop where
  T : OwnF wr W0.heap.size gT n l
  R : OwnI wr W0.heap.size gR m cR r
  bel : Below W0.heap.size W0 wr
theorem DM.setT {W0 wr : World} {gT gR cR n m : Nat} {l : List Bool} {r : List Int} (h : DM W0 wr gT gR cR n m l r) (i : Nat) (x : Bool) : DM W0 (wr.setCell ⟨gT, i, none⟩ (.bool x)) gT gR cR n m (l.set i x) r :=
  ⟨ownF_put i x h.T, own_set h.R (own_tags h.T h.R (by decide)) _, h.bel.setCell (own_ge h.T) _⟩
theorem DM.app {W0 wr w1 : World} {gT g c g' c' n m : Nat} {l : List Bool} {r : List Int} {v : Int} (h : DM W0 wr gT g c n m l r) (ho : OwnI w1 W0.heap.size g' (m + 1) c' (r ++ [v])) (hg : (wr.alloc (.cells #[.int .i64 v] 2)).grownBy w1 (some g)) : DM W0 w1 gT g' c' n (m + 1) l (r ++ [v]) :=
  have hb : Below wr.heap.size wr (wr.alloc (.cells #[.int .i64 v] 2)) := (Below.refl _ _).alloc (Nat.le_refl _) _
  ⟨own_kept (ownsRow_below h.T hb) hg (own_tags h.T h.R (by decide)), ho, below_grown (laterB h.bel hb) hg (own_ge h.R)⟩
set_option maxRecDepth 100000 in
set_option maxHeartbeats 6400000 in
theorem sdty_any (a b : Option Addr) (cap cb : Nat) (ts : List Tv) (ch : List Int) (w : World) (hl : ts.length ≤ maxLen) (hcl : ch.length ≤ maxLen) (hr : Tks w a ts) (hI : Ins w b ch) :
    Calls Try.prog 18 #[.slice a ts.length cap, .slice b ch.length cb] w (RSd w (dtyOf ts ch)) := by
  have hr' := hide hr
  have hI' := hide hI
  have B0 := hide (show Below w.heap.size w (w.alloc (.cells #[] 2)) from (Below.refl _ _).alloc (Nat.le_refl _) _)
  have O0 := hide (ownI_lit0 w (B := w.heap.size) (Nat.le_refl _))
  have cj := hide (sjob_any a cap ts (w.alloc (.cells #[] 2)) hl (hr.below (unhide B0)))
  clear hr hI
  unfold maxLen at hl hcl
  obtain ⟨D, hD⟩ : ∃ D, dtyOf ts ch = D := ⟨_, rfl⟩
  rw [hD]
  have hD' := hide hD
  clear hD
  obtain ⟨J, hJ⟩ : ∃ J, jobOk ts = J := ⟨_, rfl⟩
  have hJ' := hide hJ
  clear hJ
  go_enter Try.func18, Try.ntmps18
  go_wp2_with fail
  refine (unhide cj).mono ?_
  rintro e w1 ⟨rfl, k1⟩
  rw [unhide hJ']
  have B1 := hide (laterB (unhide B0) k1)
  have R1 := hide (show OwnI w1 w.heap.size w.heap.size 0 0 [] from ownsRow_below (unhide O0) k1)
  clear k1 cj B0 O0
  cases J with
  | false =>
    have hf := hide (show D = [] by rw [← unhide hD', dtyOf, unhide hJ']; rfl)
    go_wp2
    go_ret
    exact RSd.nil (unhide hf) (unhide B1)
  | true =>
  by_cases h200 : ch.length ≤ 200
  rotate_left
  · have g0 : decide ((200 : Int) < ch.length) = true := by simp; omega
    have hf := hide (show D = [] by rw [← unhide hD', dtyOf]; simp [chOk, h200])
    go_wp2
    go_ret
    exact RSd.nil (unhide hf) (unhide B1)
  have g0 : decide ((200 : Int) < ch.length) = false := by simp; omega
  have hs200 : ts.length ≤ 200 := job_short (unhide hJ')
  have hD2 := hide (show D = if chIn ts.length (ch.drop 0) then dlk (outOf (dtR ch) ts) ts.length else [] by rw [← unhide hD', dtyOf, unhide hJ']; simp [chOk, h200])
  obtain ⟨i2, hb0, hb1, hb2, hb3⟩ := info_parts infoB
  go_wp2_with (refine wpList_make_full _ rfl _ _ 61 rfl w.heap.size 4 i2 (.bool false) 1 Try.underlying61 hb0 hb1 hb2 .i64 .i64 _ _ ts.length rfl rfl rfl rfl ?b2 ?b3 ?b4 ?_)
  case b2 => rw [hb3]; omega
  case b3 => unfold maxLen; omega
  case b4 => exact (unhide B1).size
  intro w5 oT gw5
  obtain ⟨o, ho⟩ : ∃ o, outOf (dtR ch) ts = o := ⟨_, rfl⟩
  have ho' := hide ho
  rw [ho] at hD2
  have M0 := hide (show DM w w5 w1.heap.size w.heap.size 0 ts.length 0 (inr o (ch.take 0) 0 ts.length) [] from ⟨by
    show World.ownsRow _ _ _ _ _ _ _
    rw [List.take_zero, inr_zero, ← made_B]; simpa using oT, ownsRow_below (unhide R1) (grown_none gw5), laterB (unhide B1) (grown_none gw5)⟩)
  clear oT gw5 B1 R1 hb0 hb1 hb2 hb3 ho hD'
  generalize w1.heap.size = gT at *
  obtain ⟨gR0, hgR0⟩ : ∃ g, w.heap.size = g := ⟨_, rfl⟩
  have M0 := hide (show DM w w5 gT gR0 0 ts.length 0 (inr o (ch.take 0) 0 ts.length) [] by rw [← hgR0]; exact unhide M0)
  rw [hgR0]
  clear hgR0
  go_wp2
  go_loopw [7] (fun t wr => ∃ k : Nat, k ≤ ch.length ∧ t = .int .i64 k ∧ Hid (D = if chIn ts.length (ch.drop k) then dlk o ts.length else []) ∧ Hid (DM w wr gT gR0 0 ts.length 0 (inr o (ch.take k) 0 ts.length) [])) (fun t _ => ch.length - (intOf t).toNat)
  case atStart => exact ⟨0, by omega, rfl, hD2, M0⟩
  case round =>
    obtain ⟨k, hk, rfl, hd0, hM⟩ := hrel
    clear hD2 M0
    by_cases hlt : k < ch.length
    · have gk : decide ((k : Int) < ch.length) = true := by simp; omega
      obtain ⟨b1, o1, x, rfl, hx, i1, c0⟩ := ins_at (unhide hI') (unhide hM).bel hlt
      have hd := hide (show D = if (decide (0 ≤ x) && decide (x < (ts.length : Int)) && chIn ts.length (ch.drop (k + 1))) then dlk o ts.length else [] by rw [unhide hd0, drop_at hx]; rfl)
      have hx' := hide hx
      clear hx hd0
      by_cases h1 : x < 0
      · have g1 : decide (x < 0) = true := by simpa using h1
        have hfin := hide (show D = [] by rw [unhide hd, decide_eq_false (show ¬ 0 ≤ x by omega)]; rfl)
        clear hd
        go_wp2
        go_ret
        exact RSd.nil (unhide hfin) (unhide hM).bel
      · have g1 : decide (x < 0) = false := by simpa using h1
        by_cases h2 : (ts.length : Int) ≤ x
        · have g2 : decide ((ts.length : Int) ≤ x) = true := by simpa using h2
          have hfin := hide (show D = [] by rw [unhide hd, decide_eq_false (show ¬ x < (ts.length : Int) by omega)]; simp)
          clear hd
          go_wp2
          go_ret
          exact RSd.nil (unhide hfin) (unhide hM).bel
        · have g2 : decide ((ts.length : Int) ≤ x) = false := by simpa using h2
          have hfin := hide (show D = if chIn ts.length (ch.drop (k + 1)) then dlk o ts.length else [] by rw [unhide hd, decide_eq_true (by omega), decide_eq_true (by omega)]; rfl)
          obtain ⟨m, rfl⟩ := Int.eq_ofNat_of_zero_le (show 0 ≤ x by omega)
          have hmn : m < ts.length := by omega
          obtain ⟨cT, fT⟩ := ownF_at (unhide hM).T (inr_at hmn)
          have hM2 := hide (show DM w _ gT gR0 0 ts.length 0 (inr o (ch.take (k + 1)) 0 ts.length) [] from inr_mark (unhide hx') ▸ (unhide hM).setT m true)
          clear hd
          go_wp2
          go_roundw
          case rel => exact ⟨k + 1, by omega, by go_num, hfin, hM2⟩
          case measure => simp [intOf]; omega
    have gk : decide ((k : Int) < ch.length) = false := by simp; omega
    have hD3 := hide (show D = dlk o ts.length by rw [unhide hd0, drop_end hlt]; rfl)
    have hM1 := hide (show DM w _ gT gR0 0 ts.length 0 (inr o ch 0 ts.length) (dlk o 0) by have h := unhide hM; rw [List.take_of_length_le (by omega)] at h; exact h)
    clear hd0 hM
    go_wp2
    go_loopw [5, 8] (fun u t wr => ∃ (k g c m : Nat), k ≤ ts.length ∧ m ≤ k ∧ t = .int .i64 k ∧ u = .slice (some ⟨g, 0, none⟩) m c ∧ Hid (m = (dlk o k).length) ∧ Hid (DM w wr gT g c ts.length m (inr o ch k ts.length) (dlk o k))) (fun _ t _ => ts.length - (intOf t).toNat)
    case atStart => exact ⟨0, gR0, 0, 0, by omega, by omega, rfl, rfl, hide rfl, hM1⟩
    case round =>
      obtain ⟨k2, g, c, m, hk2, hmk, rfl, rfl, hm, hM⟩ := hrel
      clear hM1
      by_cases hlt2 : k2 < ts.length
      rotate_left
      · obtain rfl : k2 = ts.length := by omega
        have gk2 : decide ((ts.length : Int) < ts.length) = false := by simp
        go_wp2
        go_ret
        exact RSd.mk (by rw [unhide hD3]; exact unhide hm) (by rw [unhide hD3]; exact ins_own (unhide hM).R) (unhide hM).bel
      have gk2 : decide ((k2 : Int) < ts.length) = true := by simp; omega
      obtain ⟨b1, o1, p, c', t, rfl, hx, i1, c0, c1, c2, c3, hK, hmx⟩ := tks_at (unhide hr') (unhide hM).bel hlt2
      obtain ⟨y, hy, hyy⟩ := dt_at (ch := ch) (unhide hJ') hx
      rw [unhide ho'] at hy hyy
      have hok := job_tok (unhide hJ') hx
      have hn10 := hok.len
      have hx' := hide hx
      have hy' := hide hy
      have hyy' := hide hyy
      have hM2 := hide (show DM w _ gT g c ts.length m ((inr o ch k2 ts.length).set k2 (ch.contains (k2 : Int))) (dlk o k2) by rw [inr_self hlt2]; exact unhide hM)
      clear hx hmx hy hyy hok hM c0 c1 c2 c3 hK
      rename World => wo
      go_wp2
      go_loopw [9] (fun v wr => ∃ (q : Nat) (x : Bool), q ≤ t.2.2.1.length ∧ v = .int .i64 q ∧ Hid (x = (ch.contains (k2 : Int) || anyd o (t.2.2.1.take q))) ∧ Hid (DM w wr gT g c ts.length m ((inr o ch k2 ts.length).set k2 x) (dlk o k2))) (fun v _ => t.2.2.1.length - (intOf v).toNat)
      case atStart => exact ⟨0, _, by omega, rfl, hide (by simp [anyd]), hM2⟩
      case round =>
        obtain ⟨q, x, hq, rfl, hpx, hM3⟩ := hrel
        clear hM2
        obtain ⟨b2, o2, p2, c2', t2, hae, hx2, i2, d0, d1, d2, d3, hK2, hmx2⟩ := tks_at (unhide hr') (unhide hM3).bel hlt2
        obtain rfl : t2 = t := Option.some.inj (hx2.symm.trans (unhide hx'))
        injection hae with hae
        injection hae with hb2 ho2
        subst hb2
        subst ho2
        clear hx2 hmx2 d0 d1 d3
        by_cases hql : q < t2.2.2.1.length
        · have gq : decide ((q : Int) < t2.2.2.1.length) = true := by simp; omega
          obtain ⟨b3, o3, z, rfl, hz, i3, e0⟩ := ins_at hK2 (Below.refl _ _) hql
          have hnd := (job_tok (unhide hJ') (unhide hx')).need z (List.mem_of_getElem? hz)
          obtain ⟨zn, rfl⟩ := Int.eq_ofNat_of_zero_le hnd.1
          have hzk : zn < k2 := by omega
          have hzn : zn < ts.length := by omega
          obtain ⟨yz, hyz⟩ : ∃ y, o[zn]? = some y := ⟨_, List.getElem?_eq_getElem (by rw [← unhide ho', out_len]; omega)⟩
          have hsn := hide (anyd_snoc hz hyz)
          obtain ⟨cK, fK⟩ := ownF_at (unhide hM3).T (List.getElem?_set_self (by rw [inr_len]; omega))
          obtain ⟨cZ, fZ⟩ := ownF_at (i := zn) (x := yz == 1) (unhide hM3).T (by rw [List.getElem?_set_ne (by omega), inr_at hzn, if_pos hzk, List.getD_eq_getElem?_getD, hyz]; rfl)
          have hK2' := hide hK2
          clear hnd hz hyz hK2
          cases x with
          | true =>
            have hM4 := hide (show DM w _ gT g c ts.length m ((inr o ch k2 ts.length).set k2 true) (dlk o k2) by have h := (unhide hM3).setT k2 true; rw [List.set_set] at h; exact h)
            have hst := hide (show true = (ch.contains (k2 : Int) || anyd o (t2.2.2.1.take (q + 1))) by rw [unhide hsn, ← Bool.or_assoc, ← unhide hpx]; rfl)
            clear hsn hpx
            go_wp2
            go_roundw
            case rel => exact ⟨q + 1, true, by omega, by go_num, hst, hM4⟩
            case measure => simp [intOf]; omega
          | false =>
            obtain ⟨yb, hyb⟩ : ∃ yb, (yz == 1) = yb := ⟨_, rfl⟩
            rw [hyb] at cZ
            have hM4 := hide (show DM w _ gT g c ts.length m ((inr o ch k2 ts.length).set k2 yb) (dlk o k2) by have h := (unhide hM3).setT k2 yb; rw [List.set_set] at h; exact h)
            have hst := hide (show yb = (ch.contains (k2 : Int) || anyd o (t2.2.2.1.take (q + 1))) by rw [unhide hsn, ← Bool.or_assoc, ← unhide hpx, hyb]; rfl)
            clear hsn hpx hyb
            go_wp2
            go_roundw
            case rel => exact ⟨q + 1, yb, by omega, by go_num, hst, hM4⟩
            case measure => simp [intOf]; omega
        · have gq : decide ((q : Int) < t2.2.2.1.length) = false := by simp; omega
          have hqe : q = t2.2.2.1.length := by omega
          have hxv : x = (y == 1) := by rw [unhide hpx, hqe, List.take_length, unhide hyy']
          have hM5 := hide (show DM w _ gT g c ts.length m (inr o ch (k2 + 1) ts.length) (dlk o k2) by have h := unhide hM3; rw [hxv, inr_next hlt2 (unhide hy')] at h; exact h)
          obtain ⟨cK, fK⟩ := ownF_at (i := k2) (x := y == 1) (unhide hM5).T (by rw [inr_at hlt2, if_pos (by omega), List.getD_eq_getElem?_getD, unhide hy']; rfl)
          have hdl := hide (dlk_one (unhide hy'))
          have hgs := (unhide hM5).bel.size
          have hK2' := hide hK2
          clear hpx hqe hxv hM3 hK2
          obtain ⟨yb, hyb⟩ : ∃ yb, (y == 1) = yb := ⟨_, rfl⟩
          rw [hyb] at cK hdl
          clear hyb
          cases yb with
          | false =>
            have hM6 := hide (show DM w _ gT g c ts.length m (inr o ch (k2 + 1) ts.length) (dlk o (k2 + 1)) by rw [unhide hdl]; exact unhide hM5)
            have hm6 := hide (show m = (dlk o (k2 + 1)).length by rw [unhide hdl, unhide hm]; rfl)
            clear hdl hM5 hm
            go_wp2
            go_roundw
            case rel => exact ⟨k2 + 1, g, c, m, by omega, by omega, by go_num, rfl, hm6, hM6⟩
            case measure => simp [intOf]; omega
          | true =>
            go_wp2_with (refine Rn.wpList_iX _ rfl _ _ rfl w.heap.size g m c _ (k2 : Int) rfl (unhide hM5).R rfl ?b3 hgs ?_)
            case b3 => omega
            intro g' cap' w9 hO hg9 _
            have hM6 := hide (show DM w _ gT g' cap' ts.length (m + 1) (inr o ch (k2 + 1) ts.length) (dlk o (k2 + 1)) by rw [unhide hdl]; exact (unhide hM5).app hO hg9)
            have hm6 := hide (show m + 1 = (dlk o (k2 + 1)).length by rw [unhide hdl, unhide hm]; simp)
            clear hdl hM5 hm hO hg9
            go_wp2
            go_roundw
            case rel => exact ⟨k2 + 1, g', cap', m + 1, by omega, by omega, by go_num, rfl, hm6, hM6⟩
            case measure => simp [intOf]; omega
end Go.Proofs.Ytpmmimcafkillaa

set_option linter.unusedVariables false
set_option linter.unusedSimpArgs false
namespace Go.Proofs.Ytpmmimcafkillaa.Tr
open Go Go.RowKit
open Go.Proofs.Ytpmmimcafkillaa (Ins OwnI dlk dlk_one ins_at infoI own_ge own_lt ownI_lit0 ins_own below_grown laterB grown_none)
set_option maxRecDepth 100000 in
set_option maxHeartbeats 4000000 in
theorem dirty_tail {w : World} {B n : Nat} {o : List Int} (hI : Ins w (some ⟨B, 0, none⟩) o) (hn : o.length = n) (h2 : n ≤ 200) (y0 y1 y2 y3 y4 y6 y7 y8 y9 y10 y11 y12 y13 y14 y15 y16 y17 y18 y19 y20 y21 y22 y23 y24 y25 y26 y27 y28 y29 y30 y31 y32 y33 y34 y35 y36 y37 y38 y39 y40 : Value) :
    (sdc 3 (Try.f16.body.getD .skip)).wp Try.prog (bodyPost Try.prog Try.f16 fun e w' => ∃ v, e = .returned v ∧ RDt w (dlk o n) v w') ⟨#[y0, y1, y2, y3, y4, .slice (some ⟨B, 0, none⟩) n n, y6, y7, y8, y9, y10, y11, y12, y13, y14, y15, y16, y17, y18, y19, y20, y21, y22, y23, y24, y25, y26, y27, y28, y29, y30, y31, y32, y33, y34, y35, y36, y37, y38, y39, y40], []⟩ w := by
  have hI' := hide hI
  clear hI
  simp only [sdc, Try.f16, Option.getD_some]
  obtain ⟨i0, hi, hz0, hz1, hz2⟩ := info_parts infoI
  go_wp2_with (refine wpList_make_own _ rfl _ _ 29 rfl w.heap.size 2 i0 _ 1 Try.underlying29 hi hz0 hz1 .i64 .i64 _ n rfl rfl rfl ?b2 ?b3 (Nat.le_refl _) ?_)
  case b2 => rw [hz2]; omega
  case b3 => unfold maxLen; omega
  intro w1 o1 g1
  have hO := hide (show OwnI w1 w.heap.size w.heap.size 0 n [] from o1)
  have hB := hide (grown_none g1)
  clear o1 g1 hi hz0 hz1 hz2
  obtain ⟨g0, hg0⟩ : ∃ g, w.heap.size = g := ⟨_, rfl⟩
  have hO0 := hide (show OwnI w1 w.heap.size g0 0 n [] by rw [← hg0]; exact unhide hO)
  have hg0' := hide hg0
  rw [hg0]
  clear hO hg0
  go_wp2
  go_loopw [6, 28] (fun u t wr => ∃ (k g c m : Nat), k ≤ n ∧ m ≤ k ∧ t = .int .i64 k ∧ u = .slice (some ⟨g, 0, none⟩) m c ∧ Hid (m = (dlk o k).length) ∧ Hid (OwnI wr w.heap.size g m c (dlk o k)) ∧ Hid (Below w.heap.size w wr)) (fun _ t _ => n - (intOf t).toNat)
  case atStart => exact ⟨0, g0, n, 0, by omega, by omega, rfl, rfl, hide rfl, hO0, hB⟩
  case round =>
    obtain ⟨k, g, c, m, hk, hmk, rfl, rfl, hm, hO, hB1⟩ := hrel
    clear hO0 hB
    by_cases hlt : k < n
    rotate_left
    · obtain rfl : k = n := by omega
      have gk : decide ((k : Int) < k) = false := by simp
      go_wp2
      go_ret
      exact RDt.mk (unhide hm) (unhide hO) (unhide hB1)
    have gk : decide ((k : Int) < n) = true := by simp; omega
    obtain ⟨b1, o1, y, hae, hy, i1, c0⟩ := ins_at (unhide hI') (unhide hB1) (k := k) (by omega)
    injection hae with hae
    injection hae with hb2 ho2
    subst hb2
    subst ho2
    rw [Nat.zero_add] at c0
    have hdl := hide (dlk_one hy)
    have hgs := (unhide hB1).size
    clear hy
    cases hyb : y == 1 with
    | false =>
      rw [hyb] at hdl
      have hO2 := hide (show OwnI _ w.heap.size g m c (dlk o (k + 1)) by rw [unhide hdl]; exact unhide hO)
      have hm2 := hide (show m = (dlk o (k + 1)).length by rw [unhide hdl, unhide hm]; rfl)
      clear hdl hO hm
      go_wp2
      go_roundw
      case rel => exact ⟨k + 1, g, c, m, by omega, by omega, by go_num, rfl, hm2, hO2, hB1⟩
      case measure => simp [intOf]; omega
    | true =>
      rw [hyb] at hdl
      go_wp2_with (refine Rn.wpList_iX _ rfl _ _ rfl w.heap.size g m c _ (k : Int) rfl (unhide hO) rfl ?b3 hgs ?_)
      case b3 => omega
      intro g' cap' w9 hO9 hg9 _
      have hO2 := hide (show OwnI w9 w.heap.size g' (m + 1) cap' (dlk o (k + 1)) by rw [unhide hdl]; exact hO9)
      have hm2 := hide (show m + 1 = (dlk o (k + 1)).length by rw [unhide hdl, unhide hm]; simp)
      have hB2 := hide (below_grown (laterB (unhide hB1) ((Below.refl _ _).alloc (Nat.le_refl _) _)) hg9 (own_ge (unhide hO)))
      clear hdl hO hm hO9 hg9 hB1
      go_wp2
      go_roundw
      case rel => exact ⟨k + 1, g', cap', m + 1, by omega, by omega, by go_num, rfl, hm2, hO2, hB2⟩
      case measure => simp [intOf]; omega
end Go.Proofs.Ytpmmimcafkillaa.Tr

set_option linter.unusedVariables false
set_option linter.unusedSimpArgs false
namespace Go.Proofs.Ytpmmimcafkillaa.Tr
open Go Go.Conc Go.RowKit
open Go.Proofs.Ytpmmimcafkillaa.Br (BT BTS Hd Hid Pz Pst Shn Thr EvN bt_ctl bt_cons bt_skip bt_call bt_callB bt_enter CallsB rt)
open Go.Proofs.Ytpmmimcafkillaa.Rs (Rule outOf out_at out_len resR dtR hst)
open Go.Proofs.Ytpmmimcafkillaa (Tv Tks Ins jobOk job_tok TOk job_short chOk icha_any OwnI dlk row_ownX)
section
variable {main : Bool} {b : Frame} {a : Act} {kk : List Item} {cs : List Frame} {w : World} {ops : Array Oper} {i : Nat} {rest : List Nat} {o : Oper}
theorem stepG_box29 {x : Operand} {p : Option Addr} {n c : Nat} (ho : ops[i]? = some o) (hw : Region.wanted o (yielded ops a.tmps) = true) (hk : b.kind ≠ .early) (hop : o.op = .box 29 x) (hx : a.eval x = .slice p n c) :
    stepG Try.prog main (G (b.at a (.inRegion ops (i :: rest) :: kk)) cs) w = .go (G (b.at (a.put o.dst (.pointer (some ⟨w.heap.size, 0, none⟩))) (.inRegion ops rest :: kk)) cs) (w.alloc (.cells #[.slice p n c] 29 (0, 0))) #[] := by
  have hr : (execOp a.eval o).run Try.prog w = .ok (.value (.pointer (some ⟨w.heap.size, 0, none⟩))) (w.alloc (.cells #[.slice p n c] 29 (0, 0))) := by
    unfold execOp
    simp only [hop, hx]
    simp [go_sem]
  have he : (execOp a.eval o).events Try.prog w #[] = #[] := by
    unfold execOp
    simp only [hop, hx]
    simp [go_sem]
  rw [stepG_value ho hw hk hr]
  unfold listed
  rw [he, seen_none]
end
theorem loud16 : (Try.prog.funcs[(base 16).fn]?).any (·.norace) = false := by kernel_rfl
theorem zF44 : Zg.F 44 = true := by kernel_rfl
def RCh (w : World) (x : Bool) (v : Value) (w' : World) : Prop := v = .bool x ∧ BelL w.heap.size w w'
theorem RCh.rt {w w' : World} {x : Bool} {v : Value} {T : Nat → Question → Nat} {d : Nat} (h : RCh w x v w') : RCh w x v (Br.rt T d w') := ⟨h.1, ⟨h.2.os, h.2.output, h.2.size, h.2.block⟩⟩
section
variable {ts : List Tv} {w : World} {a p : Option Addr} {cap c : Nat} {ch : List Int}
theorem cha_B {n : Int} (hl : ch.length ≤ maxLen) (hI : Ins w p ch) (T : Nat → Question → Nat) (d : Nat) : Calls Try.prog 44 #[.slice p ch.length c, .int .i64 n] (rt T d w) fun e w' => ∃ v, e = .returned v ∧ RCh w (chOk n ch) v w' :=
  calls_imp (icha_any p c ch n (rt T d w) hl hI) fun e w' h => ⟨_, h.1, rfl, by rw [h.2]; exact belL_any (w := w) (Below.refl _ _)⟩
set_option maxRecDepth 100000 in
set_option maxHeartbeats 4000000 in
theorem dirty_A [Thr] {Q : Goroutine → World → Prop} {cc : Frame} {cs : List Frame} {l : List Int} (hl : ts.length ≤ maxLen) (hT : Tks w a ts) (hcl : ch.length ≤ maxLen) (hI : Ins w p ch) (hg : Br.GC Try.prog w) (hTh : Thr.N ≤ w.heap.size)
    (hk0 : (jobOk ts && chOk ts.length ch) = false → ∀ v w', PRow w [] v w' → BT Try.prog Q (G (cc.finish v) cs) w')
    (hk1 : jobOk ts = true → chOk ts.length ch = true → ∀ (B : Nat) (w' : World), w.heap.size ≤ B → w'.heap[B]? = some (.cells ((outOf (dtR ch) ts).map (Value.int .i64)).toArray 2 (0, 0)) → BelL w.heap.size w w' → ∀ y1 y2 y3 y4 y6 y7 y8 y9 y10 y11 y12 y13 y14 y15 y16 y17 y18 y19 y20 y21 y22 y23 y24 y25 y26 y27 y28 y29 y30 y31 y32 y33 y34 y35 y36 y37 y38 y39 y40 : Value, BT Try.prog Q (G ((base 16).at ⟨#[.slice a ts.length cap, y1, y2, y3, y4, .slice (some ⟨B, 0, none⟩) (outOf (dtR ch) ts).length (outOf (dtR ch) ts).length, y6, y7, y8, y9, y10, y11, y12, y13, y14, y15, y16, y17, y18, y19, y20, y21, y22, y23, y24, y25, y26, y27, y28, y29, y30, y31, y32, y33, y34, y35, y36, y37, y38, y39, y40], []⟩ [.code (sdc 3 (Try.f16.body.getD .skip))]) (cc :: cs)) w') :
    BT Try.prog Q (G (Frame.enter Try.prog 16 #[.slice a ts.length cap, .slice p ch.length c] .normal) (cc :: cs)) w := by
  have e16 : Frame.enter Try.prog 16 #[.slice a ts.length cap, .slice p ch.length c] .normal = (base 16).at ⟨#[.slice a ts.length cap, .slice p ch.length c, undef, undef, undef, undef, undef, undef, undef, undef, undef, undef, undef, undef, undef, undef, undef, undef, undef, undef, undef, undef, undef, undef, undef, undef, undef, undef, undef, undef, undef, undef, undef, undef, undef, undef, undef, undef, undef, undef, undef], []⟩ [.code (Try.f16.body.getD .skip)] := by
    simp [Frame.enter, Frame.at, Try.func16, base, Try.f16]
  rw [e16]
  clear e16
  simp only [sdc, Try.f16, Option.getD_some] at hk1 ⊢
  (repeat (first | refine kA ?_ | refine kB ?_ | refine kC ?_ | refine kF ?_ | (refine kG ?_; simp only [List.size_toArray, List.length_cons, List.length_nil, Nat.reduceAdd, Nat.zero_add, List.range, List.range.loop]) | (refine kO rfl (by rfl) (by decide) (by decide) (fun dzz Kzz hKzz => ?_); go_simp; refine hKzz _ _ (fun b hb => hb) (bt_at ?_); clear hKzz Kzz; try walk_nrm) | (refine bt_skip rfl (by rfl) ?_; try walk_nrm)))
  refine bt_alloc' rfl (fun W hW => by rw [stepG_box29 rfl rfl (by k_ne) rfl rfl, hW]) ?_
  walk_nrm
  obtain ⟨w1, e1, s1, b1, n1, o1, p1⟩ := alloc_out w (.cells #[.slice p ch.length c] 29 (0, 0))
  rw [e1]
  have hB1 : BelL w.heap.size w w1 := ⟨by rw [o1]; exact .refl _, p1, by omega, b1⟩
  have c1 : w1.cell? ⟨w.heap.size, 0, none⟩ = some (.slice p ch.length c) := by simp [World.cell?, n1]
  have hT1 : Tks w1 a ts := tks_low hB1 hT
  have hI1 : Ins w1 p ch := ins_low hB1 hI
  have hg1 : Br.GC Try.prog w1 := gc_belL hB1 hg
  clear e1 b1 n1 o1 p1
  (repeat (first | refine kA ?_ | refine kB ?_ | refine kC ?_ | refine kF ?_ | (refine kG ?_; simp only [List.size_toArray, List.length_cons, List.length_nil, Nat.reduceAdd, Nat.zero_add, List.range, List.range.loop]) | (refine kO rfl (by rfl) (by decide) (by decide) (fun dzz Kzz hKzz => ?_); go_simp; refine hKzz _ _ (fun b hb => hb) (bt_at ?_); clear hKzz Kzz; try walk_nrm) | (refine bt_skip rfl (by rfl) ?_; try walk_nrm)))
  refine bt_call (R := RJob w1 ts) zgOk (job_B (cap := cap) hl hT1) hg1 (fun v w T d h => h.rt) (fun v w' h => belL_pz h.2) zF37 (by simp [zK]) Try.func37 rfl rfl rfl rfl rfl (by k_ne) (by simp [Act.eval]) (fun v w2 h2 => ?_)
  obtain ⟨rfl, hB2⟩ := h2
  have hB2' : BelL w.heap.size w w2 := hB1.trans hB2 (by omega)
  have c2 : w2.cell? ⟨w.heap.size, 0, none⟩ = some (.slice p ch.length c) := belL_cell hB2 (by show w.heap.size < _; omega) c1
  have hT2 : Tks w2 a ts := tks_low hB2 hT1
  have hI2 : Ins w2 p ch := ins_low hB2 hI1
  have hg2 : Br.GC Try.prog w2 := gc_belL hB2 hg1
  have s2 : w.heap.size < w2.heap.size := by have := hB2.size; omega
  clear hB1 hB2 c1 hT1 hI1 hg1 s1
  walk_nrm
  cases hJ : jobOk ts with
  | false =>
    (repeat (first | refine kA ?_ | refine kB ?_ | refine kC ?_ | refine kF ?_ | (refine kG ?_; simp only [List.size_toArray, List.length_cons, List.length_nil, Nat.reduceAdd, Nat.zero_add, List.range, List.range.loop]) | (refine kO rfl (by rfl) (by decide) (by decide) (fun dzz Kzz hKzz => ?_); go_simp; refine hKzz _ _ (fun b hb => hb) (bt_at ?_); clear hKzz Kzz; try walk_nrm) | (refine bt_skip rfl (by rfl) ?_; try walk_nrm)))
    refine kJ rfl ?_
    (repeat (first | refine kA ?_ | refine kB ?_ | refine kC ?_ | refine kF ?_ | (refine kG ?_; simp only [List.size_toArray, List.length_cons, List.length_nil, Nat.reduceAdd, Nat.zero_add, List.range, List.range.loop]) | (refine kO rfl (by rfl) (by decide) (by decide) (fun dzz Kzz hKzz => ?_); go_simp; refine hKzz _ _ (fun b hb => hb) (bt_at ?_); clear hKzz Kzz; try walk_nrm) | (refine bt_skip rfl (by rfl) ?_; try walk_nrm)))
    refine bt_alloc' rfl (fun W hW => by rw [stepG_bs29 rfl rfl (by k_ne) rfl, hW]) ?_
    walk_nrm
    obtain ⟨w5, e5, s5, b5, n5, o5, p5⟩ := alloc_out w2 (.cells #[] 2 (0, 0))
    rw [e5]
    have hB5 : BelL w.heap.size w w5 := hB2'.trans ⟨by rw [o5]; exact .refl _, p5, by omega, b5⟩ hB2'.size
    (repeat (first | refine kA ?_ | refine kB ?_ | refine kC ?_ | refine kF ?_ | (refine kG ?_; simp only [List.size_toArray, List.length_cons, List.length_nil, Nat.reduceAdd, Nat.zero_add, List.range, List.range.loop]) | (refine kO rfl (by rfl) (by decide) (by decide) (fun dzz Kzz hKzz => ?_); go_simp; refine hKzz _ _ (fun b hb => hb) (bt_at ?_); clear hKzz Kzz; try walk_nrm) | (refine bt_skip rfl (by rfl) ?_; try walk_nrm)))
    exact Br.BT.leave (v := .slice (some ⟨w2.heap.size, 0, none⟩) 0 0) ⟨rfl, rfl, rfl, Try.f16, Try.func16, by simp [results, Try.f16, Frame.at]⟩ (hk0 (by simp [hJ]) _ _ ⟨w2.heap.size, rfl, hB2'.size, by simp [World.at, n5], ⟨hB5.os, hB5.output, hB5.size, hB5.block⟩⟩)
  | true =>
    (repeat (first | refine kA ?_ | refine kB ?_ | refine kC ?_ | refine kF ?_ | (refine kG ?_; simp only [List.size_toArray, List.length_cons, List.length_nil, Nat.reduceAdd, Nat.zero_add, List.range, List.range.loop]) | (refine kO rfl (by rfl) (by decide) (by decide) (fun dzz Kzz hKzz => ?_); go_simp; refine hKzz _ _ (fun b hb => hb) (bt_at ?_); clear hKzz Kzz; try walk_nrm) | (refine bt_skip rfl (by rfl) ?_; try walk_nrm)))
    refine bt_load (w := w2) rfl c2 (fun W hW => stepG_load29 rfl rfl (by k_ne) rfl rfl hW loud16) ?_
    walk_nrm
    (repeat (first | refine kA ?_ | refine kB ?_ | refine kC ?_ | refine kF ?_ | (refine kG ?_; simp only [List.size_toArray, List.length_cons, List.length_nil, Nat.reduceAdd, Nat.zero_add, List.range, List.range.loop]) | (refine kO rfl (by rfl) (by decide) (by decide) (fun dzz Kzz hKzz => ?_); go_simp; refine hKzz _ _ (fun b hb => hb) (bt_at ?_); clear hKzz Kzz; try walk_nrm) | (refine bt_skip rfl (by rfl) ?_; try walk_nrm)))
    refine bt_call (R := RCh w2 (chOk ts.length ch)) zgOk (cha_B (c := c) (n := ts.length) hcl hI2) hg2 (fun v w T d h => h.rt) (fun v w' h => belL_pz h.2) zF44 (by simp [zK]) Try.func44 rfl rfl rfl rfl rfl (by k_ne) (by simp [Act.eval]) (fun v w3 h3 => ?_)
    obtain ⟨rfl, hB3⟩ := h3
    have hB3' : BelL w.heap.size w w3 := hB2'.trans hB3 (by omega)
    have c3 : w3.cell? ⟨w.heap.size, 0, none⟩ = some (.slice p ch.length c) := belL_cell hB3 (by show w.heap.size < _; omega) c2
    have hT3 : Tks w3 a ts := tks_low hB3 hT2
    have hI3 : Ins w3 p ch := ins_low hB3 hI2
    have hg3 : Br.GC Try.prog w3 := gc_belL hB3 hg2
    clear hB3 c2 hT2 hI2 hg2
    walk_nrm
    cases hC : chOk ts.length ch with
    | false =>
      (repeat (first | refine kA ?_ | refine kB ?_ | refine kC ?_ | refine kF ?_ | (refine kG ?_; simp only [List.size_toArray, List.length_cons, List.length_nil, Nat.reduceAdd, Nat.zero_add, List.range, List.range.loop]) | (refine kO rfl (by rfl) (by decide) (by decide) (fun dzz Kzz hKzz => ?_); go_simp; refine hKzz _ _ (fun b hb => hb) (bt_at ?_); clear hKzz Kzz; try walk_nrm) | (refine bt_skip rfl (by rfl) ?_; try walk_nrm)))
      refine kJ rfl ?_
      (repeat (first | refine kA ?_ | refine kB ?_ | refine kC ?_ | refine kF ?_ | (refine kG ?_; simp only [List.size_toArray, List.length_cons, List.length_nil, Nat.reduceAdd, Nat.zero_add, List.range, List.range.loop]) | (refine kO rfl (by rfl) (by decide) (by decide) (fun dzz Kzz hKzz => ?_); go_simp; refine hKzz _ _ (fun b hb => hb) (bt_at ?_); clear hKzz Kzz; try walk_nrm) | (refine bt_skip rfl (by rfl) ?_; try walk_nrm)))
      refine bt_alloc' rfl (fun W hW => by rw [stepG_bs29 rfl rfl (by k_ne) rfl, hW]) ?_
      walk_nrm
      obtain ⟨w5, e5, s5, b5, n5, o5, p5⟩ := alloc_out w3 (.cells #[] 2 (0, 0))
      rw [e5]
      have hB5 : BelL w.heap.size w w5 := hB3'.trans ⟨by rw [o5]; exact .refl _, p5, by omega, b5⟩ hB3'.size
      (repeat (first | refine kA ?_ | refine kB ?_ | refine kC ?_ | refine kF ?_ | (refine kG ?_; simp only [List.size_toArray, List.length_cons, List.length_nil, Nat.reduceAdd, Nat.zero_add, List.range, List.range.loop]) | (refine kO rfl (by rfl) (by decide) (by decide) (fun dzz Kzz hKzz => ?_); go_simp; refine hKzz _ _ (fun b hb => hb) (bt_at ?_); clear hKzz Kzz; try walk_nrm) | (refine bt_skip rfl (by rfl) ?_; try walk_nrm)))
      exact Br.BT.leave (v := .slice (some ⟨w3.heap.size, 0, none⟩) 0 0) ⟨rfl, rfl, rfl, Try.f16, Try.func16, by simp [results, Try.f16, Frame.at]⟩ (hk0 (by simp [hJ, hC]) _ _ ⟨w3.heap.size, rfl, hB3'.size, by simp [World.at, n5], ⟨hB5.os, hB5.output, hB5.size, hB5.block⟩⟩)
    | true =>
      (repeat (first | refine kA ?_ | refine kB ?_ | refine kC ?_ | refine kF ?_ | (refine kG ?_; simp only [List.size_toArray, List.length_cons, List.length_nil, Nat.reduceAdd, Nat.zero_add, List.range, List.range.loop]) | (refine kO rfl (by rfl) (by decide) (by decide) (fun dzz Kzz hKzz => ?_); go_simp; refine hKzz _ _ (fun b hb => hb) (bt_at ?_); clear hKzz Kzz; try walk_nrm) | (refine bt_skip rfl (by rfl) ?_; try walk_nrm)))
      refine kI rfl ?_
      (repeat (first | refine kA ?_ | refine kB ?_ | refine kC ?_ | refine kF ?_ | (refine kG ?_; simp only [List.size_toArray, List.length_cons, List.length_nil, Nat.reduceAdd, Nat.zero_add, List.range, List.range.loop]) | (refine kO rfl (by rfl) (by decide) (by decide) (fun dzz Kzz hKzz => ?_); go_simp; refine hKzz _ _ (fun b hb => hb) (bt_at ?_); clear hKzz Kzz; try walk_nrm) | (refine bt_skip rfl (by rfl) ?_; try walk_nrm)))
      refine bt_pure rfl (fun W => stepG_mkf rfl rfl (by k_ne) rfl) ?_
      walk_nrm
      have hch : ch.length ≤ 200 := by
        have h := hC
        simp only [chOk, Bool.and_eq_true, decide_eq_true_eq] at h
        exact h.1
      have hR := ok45 (cap := c) (qb := ⟨w.heap.size, 0, none⟩) c3 (by omega) hI3 ts.length
      have s3 : w.heap.size ≤ w3.heap.size := hB3'.size
      refine bt_callB (work_B (cap := cap) hJ hl hR hT3 (fun x hx => by have := dt_bd hJ x hx; omega) hg3 (by omega)) Try.func42 nm42 b42 rfl rfl rfl (by k_ne) (by simp [Act.eval]) (fun v w4 h4 => ?_)
      obtain ⟨B, rfl, hBge, hBB, hB4⟩ := h4
      have hB4' : BelL w.heap.size w w4 := hB3'.trans hB4 s3
      walk_nrm
      refine kO rfl (by rfl) (by decide) (by decide) (fun dzz Kzz hKzz => ?_)
      go_simp
      refine hKzz _ _ (fun b hb => hb) (bt_at ?_)
      clear hKzz Kzz
      try walk_nrm
      refine kC ?_
      exact hk1 hJ hC B w4 (by omega) hBB hB4' _ _ _ _ _ _ _ _ _ _ _ _ _ _ _ _ _ _ _ _ _ _ _ _ _ _ _ _ _ _ _ _ _ _ _ _ _ _ _
def dty (ts : List Tv) (ch : List Int) : List Int := if jobOk ts && chOk ts.length ch then dlk (outOf (dtR ch) ts) ts.length else []
theorem okD : Br.okC (Br.okOp Zg Try.prog []) (sdc 3 (Try.f16.body.getD .skip)) = true := by kernel_rfl
/-- ████ Dirty ████ -/
theorem dirty_B [Thr] (hl : ts.length ≤ maxLen) (hT : Tks w a ts) (hcl : ch.length ≤ maxLen) (hI : Ins w p ch) (hg : Br.GC Try.prog w) (hTh : Thr.N ≤ w.heap.size) :
    CallsB Try.prog 16 #[.slice a ts.length cap, .slice p ch.length c] w (RDtB w (dty ts ch)) := by
  intro cc cs Q hk
  refine dirty_A (l := []) hl hT hcl hI hg hTh (fun h0 v w' h => ?_) (fun hJ hC B w' hB hBB hBl => ?_)
  · obtain ⟨B, rfl, hge, hh, hb⟩ := h
    refine hk _ w' ⟨B, 0, ?_, ?_, hb⟩
    · simp [dty, h0]
    · simp only [dty, h0, Bool.false_eq_true, if_false]
      exact row_ownX hh (by simp) (by unfold maxLen; simp) hge
  · intro y1 y2 y3 y4 y6 y7 y8 y9 y10 y11 y12 y13 y14 y15 y16 y17 y18 y19 y20 y21 y22 y23 y24 y25 y26 y27 y28 y29 y30 y31 y32 y33 y34 y35 y36 y37 y38 y39 y40
    have hn := out_len (dtR ch) ts
    have hj := job_short hJ
    have hd : dty ts ch = dlk (outOf (dtR ch) ts) (outOf (dtR ch) ts).length := by simp [dty, hJ, hC, hn]
    have hi := ins_own hBB
    refine Br.BT.body (R := fun v w4 => RDtB w (dty ts ch) v w4 ∧ BelL w'.heap.size w' w4) zgOk Try.func16 rfl okD rfl (gc_belL hBl hg) (fun v w T d ⟨h, h2⟩ => ⟨h.rt, h2.rtt⟩) (fun T dd => ?_) (fun v w4 h => belL_pz h.2) (fun v w4 h => hk v w4 h.1)
    refine wp_mono (dirty_tail (w := rt T dd w') (o := outOf (dtR ch) ts) (fun j x hx => hi j x hx) rfl (by omega) (.slice a ts.length cap) y1 y2 y3 y4 y6 y7 y8 y9 y10 y11 y12 y13 y14 y15 y16 y17 y18 y19 y20 y21 y22 y23 y24 y25 y26 y27 y28 y29 y30 y31 y32 y33 y34 y35 y36 y37 y38 y39 y40) (bodyPost_mono ?_ ?_)
    · rintro v w4 ⟨v', e, g, c, rfl, h2, h3⟩
      have h4 : BelL w'.heap.size w' w4 := belL_any h3
      refine ⟨_, e, ⟨g, c, by rw [hd], ?_, hBl.trans h4 hBl.size⟩, h4⟩
      rw [hd]
      exact Go.Proofs.Ytpmmimcafkillaa.own_mono h2 hBl.size
    · rintro e w4 ⟨v, h, _⟩
      exact ⟨v, h⟩
end
end Go.Proofs.Ytpmmimcafkillaa.Tr
