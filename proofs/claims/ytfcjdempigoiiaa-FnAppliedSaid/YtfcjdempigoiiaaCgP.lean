/-
  Plain facts: what is applied and turned comes back; no program is named.
  Plain facts: the changes from one cut to another make the other, and turned they take it back; no program is named.
-/
import Derived.Test.YtfcjdempigoiiaaTnP
import Derived.Test.YtfcjdempigoiiaaEdP
import Derived.Test.YtfcjdempigoiiaaAlP
namespace Go.Proofs.Ytfcjdempigoiiaa
open Go.RowKit
set_option linter.unusedVariables false
set_option linter.unusedSimpArgs false

/-- what changes make of a track from frame o on -/
def mkR (l : List Kl) : Int → List Ch → List Kl
  | _, [] => []
  | o, c :: cs => mk1 l o c ++ mkR l (o + oldC c) cs
/-- changes turned, from frame o on -/
def tnR (l : List Kl) : Int → List Ch → List Ch
  | _, [] => []
  | o, c :: cs => tn1 l o c ++ tnR l (o + oldC c) cs
theorem mkR_append (l : List Kl) (xs ys : List Ch) : ∀ o, mkR l o (xs ++ ys) = mkR l o xs ++ mkR l (o + oldL xs) ys := by
  induction xs with
  | nil => intro o; simp [mkR, oldL]
  | cons c xs ih =>
    intro o
    simp only [List.cons_append, mkR, oldL, ih, List.append_assoc]
    rw [Int.add_assoc]
theorem tnR_append (l : List Kl) (xs ys : List Ch) : ∀ o, tnR l o (xs ++ ys) = tnR l o xs ++ tnR l (o + oldL xs) ys := by
  induction xs with
  | nil => intro o; simp [tnR, oldL]
  | cons c xs ih =>
    intro o
    simp only [List.cons_append, tnR, oldL, ih, List.append_assoc]
    rw [Int.add_assoc]
theorem made_take (l : List Kl) (cs : List Ch) (k : Nat) (hk : k ≤ cs.length) : madeUp l cs k = mkR l 0 (cs.take k) := by
  induction k with
  | zero => simp [madeUp, mkR]
  | succ k ih =>
    have hc := chAt_get (l := cs) (k := k) (by omega)
    rw [madeUp_succ, ih (by omega), take_snocC hc, mkR_append, mkAt_eq hc]
    simp [mkR]
theorem made_all (l : List Kl) (cs : List Ch) : madeUp l cs cs.length = mkR l 0 cs := by
  rw [made_take l cs cs.length (Nat.le_refl _), List.take_length]
theorem tn_take (l : List Kl) (cs : List Ch) (k : Nat) (hk : k ≤ cs.length) : tnUp l cs k = tnR l 0 (cs.take k) := by
  induction k with
  | zero => simp [tnUp, tnR]
  | succ k ih =>
    have hc := chAt_get (l := cs) (k := k) (by omega)
    rw [tnUp_succ, ih (by omega), take_snocC hc, tnR_append, tnAt_eq hc]
    simp [tnR]
theorem tn_all (l : List Kl) (cs : List Ch) : tnUp l cs cs.length = tnR l 0 cs := by
  rw [tn_take l cs cs.length (Nat.le_refl _), List.take_length]
theorem mkR_adds (b : List Kl) (J : List Kl) : ∀ n, mkR b n (adds J) = J := by
  induction J with
  | nil => intro n; rfl
  | cons k J ih =>
    intro n
    show mk1 b n (3, k) ++ mkR b (n + oldC (3, k)) (adds J) = _
    rw [ih]
    simp [mk1]
theorem old_adds (J : List Kl) : oldL (adds J) = 0 := by
  induction J with
  | nil => rfl
  | cons k J ih =>
    show oldC (3, k) + oldL (adds J) = 0
    rw [ih]
    simp [oldC]
theorem old_nn {cs : List Ch} (h : ∀ c ∈ cs, HOk c) : 0 ≤ oldL cs ∧ 0 ≤ newL cs := by
  induction cs with
  | nil => simp [oldL, newL]
  | cons c cs ih =>
    have h1 := ih (fun x hx => h x (List.mem_cons_of_mem _ hx))
    have h2 := (h c List.mem_cons_self).len
    simp only [oldL, newL, oldC, newC]
    constructor <;> split <;> omega
theorem mkR_ok {l : List Kl} (hl : AOk l) {cs : List Ch} (h : ∀ c ∈ cs, HOk c) : ∀ o, AOk (mkR l o cs) := by
  induction cs with
  | nil => intro o; exact AOk.nil
  | cons c cs ih => intro o; exact (mk1_ok hl (h c List.mem_cons_self) o).append (ih (fun x hx => h x (List.mem_cons_of_mem _ hx)) _)
theorem adds_ok {J : List Kl} (h : AOk J) : ∀ c ∈ adds J, HOk c := by
  intro c hc
  unfold adds at hc
  rw [List.mem_map] at hc
  obtain ⟨k, hk, rfl⟩ := hc
  exact .inr ⟨rfl, h k hk⟩
theorem tnR_ok {l : List Kl} (hl : TOk l) {cs : List Ch} (h : ∀ c ∈ cs, HOk c) : ∀ o, ∀ c ∈ tnR l o cs, HOk c := by
  induction cs with
  | nil => intro o c hc; simp [tnR] at hc
  | cons c cs ih =>
    intro o x hx
    simp only [tnR, List.mem_append] at hx
    rcases hx with hx | hx
    · have hc := h c List.mem_cons_self
      have hlen := hc.len
      unfold tn1 at hx
      split at hx
      · simp at hx; subst hx; exact hc
      · split at hx
        · refine adds_ok ?_ x hx
          refine foldl_ok AOk.nil (part_ok hl.2.1 _ _) ?_
          rw [clen_part hl.2.1]
          have := hl.2.2
          simp only [clen]
          omega
        · simp at hx; subst hx; exact .inl ⟨.inr rfl, rfl, rfl, hlen.1, hlen.2⟩
    · exact ih (fun x hx => h x (List.mem_cons_of_mem _ hx)) _ x hx

/-- changes, and their turn on what sees as they made it -/
theorem back_sees {l : List Kl} (hl : AOk l) {b : List Kl} (hb : AOk b) : ∀ (cs : List Ch) (o n : Int), (∀ c ∈ cs, HOk c) → 0 ≤ o → 0 ≤ n → o + oldL cs ≤ clen l → n + newL cs ≤ clen b →
    (∀ i, 0 ≤ i → i < newL cs → seen b (n + i) = seen (mkR l o cs) i) →
    clen (mkR l o cs) = newL cs ∧ clen (mkR b n (tnR l o cs)) = oldL cs ∧ oldL (tnR l o cs) = newL cs ∧ ∀ i, 0 ≤ i → i < oldL cs → seen (mkR b n (tnR l o cs)) i = seen l (o + i) := by
  intro cs
  induction cs with
  | nil =>
    intro o n _ _ _ _ _ _
    refine ⟨rfl, rfl, rfl, fun i h1 h2 => ?_⟩
    simp only [oldL] at h2
    omega
  | cons c cs ih =>
    intro o n hH ho hn hol hnb hs
    have hc := hH c List.mem_cons_self
    have hcs : ∀ c ∈ cs, HOk c := fun x hx => hH x (List.mem_cons_of_mem _ hx)
    obtain ⟨nn1, nn2⟩ := old_nn hcs
    obtain ⟨u1, u2⟩ := hc.len
    obtain ⟨N, hN⟩ : ∃ N, c.2.2.2 = N := ⟨_, rfl⟩
    rw [hN] at u1 u2
    rcases hc with ⟨h1 | h1, z1, z2, _, _⟩ | ⟨h1, hk⟩
    · have e1 : oldC c = N := by unfold oldC; rw [if_neg (by omega), hN]
      have e2 : newC c = N := by unfold newC; rw [if_neg (by omega), hN]
      have em : mk1 l o c = part l o (o + N) := by unfold mk1; rw [if_pos h1, hN]
      have eb : mk1 b n c = part b n (n + N) := by unfold mk1; rw [if_pos h1, hN]
      have et : tn1 l o c = [c] := by unfold tn1; rw [if_pos h1]
      simp only [oldL, newL, e1, e2] at hol hnb hs ⊢
      have cP : clen (part l o (o + N)) = N := by rw [clen_part hl]; omega
      have cB : clen (part b n (n + N)) = N := by rw [clen_part hb]; omega
      have aP := (part_ok hl o (o + N)).nn
      have aB := (part_ok hb n (n + N)).nn
      have xM : mkR l o (c :: cs) = part l o (o + N) ++ mkR l (o + N) cs := by show mk1 l o c ++ mkR l (o + oldC c) cs = _; rw [em, e1]
      have xT : tnR l o (c :: cs) = c :: tnR l (o + N) cs := by show tn1 l o c ++ tnR l (o + oldC c) cs = _; rw [et, e1]; rfl
      rw [xT]
      have xB : mkR b n (c :: tnR l (o + N) cs) = part b n (n + N) ++ mkR b (n + N) (tnR l (o + N) cs) := by show mk1 b n c ++ mkR b (n + oldC c) _ = _; rw [eb, e1]
      rw [xM] at hs ⊢
      rw [xB]
      obtain ⟨i1, i2, i3, i4⟩ := ih (o + N) (n + N) hcs (by omega) (by omega) (by omega) (by omega) (fun i h0 h9 => by
        have := hs (N + i) (by omega) (by omega)
        rw [seen_append aP (by omega), if_neg (by omega), cP] at this
        rw [show n + N + i = n + (N + i) by omega, this]
        congr 1; omega)
      refine ⟨by rw [clen_append]; omega, by rw [clen_append]; omega, by simp only [oldL, e1]; omega, fun i h0 h9 => ?_⟩
      rw [seen_append aB h0, cB]
      split
      · rename_i hi
        have h8 := hs i h0 (by omega)
        rw [seen_append aP h0, cP, if_pos hi, seen_part hl h0 (by omega)] at h8
        rw [seen_part hb h0 (by omega), show max n 0 + i = n + i by omega, h8]
        congr 1; omega
      · rename_i hi
        rw [i4 (i - N) (by omega) (by omega)]
        congr 1; omega
    · have e1 : oldC c = N := by unfold oldC; rw [if_neg (by omega), hN]
      have e2 : newC c = 0 := by unfold newC; rw [if_pos h1]
      have em : mk1 l o c = [] := by unfold mk1; rw [if_neg (by omega), if_neg (by omega)]
      have et : tn1 l o c = adds (join (part l o (o + N))) := by unfold tn1; rw [if_neg (by omega), if_pos h1, hN]
      simp only [oldL, newL, e1, e2, Int.zero_add] at hol hnb hs ⊢
      have aP := (part_ok hl o (o + N)).nn
      have cJ : clen (join (part l o (o + N))) = N := by rw [clen_join, clen_part hl]; omega
      have xM : mkR l o (c :: cs) = mkR l (o + N) cs := by show mk1 l o c ++ mkR l (o + oldC c) cs = _; rw [em, e1]; rfl
      have xT : tnR l o (c :: cs) = adds (join (part l o (o + N))) ++ tnR l (o + N) cs := by show tn1 l o c ++ tnR l (o + oldC c) cs = _; rw [et, e1]
      have xB : mkR b n (tnR l o (c :: cs)) = join (part l o (o + N)) ++ mkR b n (tnR l (o + N) cs) := by rw [xT, mkR_append, mkR_adds, old_adds, Int.add_zero]
      rw [xM] at hs ⊢
      rw [xB, xT]
      obtain ⟨i1, i2, i3, i4⟩ := ih (o + N) n hcs (by omega) (by omega) (by omega) (by omega) hs
      have aJ : NN (join (part l o (o + N))) := by
        have : ∀ (l o : List Kl), NN o → NN l → NN (l.foldl jstep o) := by
          intro l
          induction l with
          | nil => intro o h _; exact h
          | cons x l ih => intro o h k; exact ih _ (nn_jstep h (k x List.mem_cons_self)) (fun y hy => k y (List.mem_cons_of_mem _ hy))
        exact this _ [] (fun x hx => by simp at hx) aP
      refine ⟨i1, by rw [clen_append]; omega, by rw [oldL_append, old_adds]; omega, fun i h0 h9 => ?_⟩
      rw [seen_append aJ h0, cJ]
      split
      · rename_i hi
        rw [seen_join aP h0, seen_part hl h0 (by omega)]
        congr 1; omega
      · rename_i hi
        rw [i4 (i - N) (by omega) (by omega)]
        congr 1; omega
    · have e1 : oldC c = 0 := by unfold oldC; rw [if_pos h1]
      have e2 : newC c = N := by unfold newC; rw [if_neg (by omega), hN]
      have em : mk1 l o c = [c.2] := by unfold mk1; rw [if_neg (by omega), if_pos h1]
      have et : tn1 l o c = [(2, 0, 0, N)] := by unfold tn1; rw [if_neg (by omega), if_neg (by omega), hN]
      simp only [oldL, newL, e1, e2, Int.zero_add] at hol hnb hs ⊢
      have xM : mkR l o (c :: cs) = c.2 :: mkR l o cs := by show mk1 l o c ++ mkR l (o + oldC c) cs = _; rw [em, e1, Int.add_zero]; rfl
      have xT : tnR l o (c :: cs) = (2, 0, 0, N) :: tnR l o cs := by show tn1 l o c ++ tnR l (o + oldC c) cs = _; rw [et, e1, Int.add_zero]; rfl
      have xB : mkR b n (tnR l o (c :: cs)) = mkR b (n + N) (tnR l o cs) := by rw [xT]; show mk1 b n (2, 0, 0, N) ++ mkR b (n + oldC (2, 0, 0, N)) _ = _; simp [mk1, oldC]
      rw [xM] at hs ⊢
      rw [xB, xT]
      have hk3 : c.2.2.2 = N := hN
      obtain ⟨i1, i2, i3, i4⟩ := ih o (n + N) hcs (by omega) (by omega) (by omega) (by omega) (fun i h0 h9 => by
        have := hs (N + i) (by omega) (by omega)
        rw [seen_ge (by omega)] at this
        rw [show n + N + i = n + (N + i) by omega, this]
        congr 1; omega)
      refine ⟨by simp only [clen]; omega, i2, by simp only [oldL, oldC]; simp; omega, i4⟩

theorem sees_join {x y : List Kl} (hx : AOk x) (hy : AOk y) (hX : AOk (join x)) (hY : AOk (join y)) (hc : clen x = clen y) (hs : ∀ i, 0 ≤ i → i < clen x → seen x i = seen y i) : join x = join y := by
  refine seen_tells hX hY (nj_join x) (nj_join y) (by rw [clen_join, clen_join, hc]) (fun i hi => ?_)
  rw [seen_join hx.nn hi, seen_join hy.nn hi]
  rcases Int.lt_or_le i (clen x) with h | h
  · exact hs i hi h
  · rw [seen_past hx h, seen_past hy (by omega)]

/-- the changes turned take what sees as they made it back to the track -/
theorem turned_back {l b : List Kl} {cs : List Ch} (hl : TOk l) (hb : TOk b) (hcs : LOk cs) (ho : oldL cs = clen l) (hc : clen (mkR l 0 cs) = clen b) (hs : ∀ i, 0 ≤ i → i < clen b → seen b i = seen (mkR l 0 cs) i)
    (hlen : (tnUp l cs cs.length).length ≤ 300) : applyOf b (tnUp l cs cs.length) = some (join l) := by
  have key : clen (mkR l 0 cs) = newL cs := by
    have nl : ∀ (cs : List Ch) (o : Int), (∀ c ∈ cs, HOk c) → 0 ≤ o → o + oldL cs ≤ clen l → clen (mkR l o cs) = newL cs := by
      intro cs
      induction cs with
      | nil => intro o _ _ _; rfl
      | cons c cs ih =>
        intro o hH h0 hle
        have hc := hH c List.mem_cons_self
        have hcs : ∀ c ∈ cs, HOk c := fun x hx => hH x (List.mem_cons_of_mem _ hx)
        obtain ⟨nn1, nn2⟩ := old_nn hcs
        obtain ⟨u1, u2⟩ := hc.len
        simp only [oldL] at hle
        have hoc : 0 ≤ oldC c := by unfold oldC; split <;> omega
        have hI := ih (o + oldC c) hcs (by omega) (by omega)
        show clen (mk1 l o c ++ mkR l (o + oldC c) cs) = newC c + newL cs
        rw [clen_append, hI]
        congr 1
        rcases hc with ⟨h1 | h1, _⟩ | ⟨h1, hk⟩
        · have e1 : oldC c = c.2.2.2 := by unfold oldC; rw [if_neg (by omega)]
          unfold mk1 newC
          rw [if_pos h1, if_neg (by omega), clen_part hl.2.1]
          omega
        · unfold mk1 newC
          rw [if_neg (by omega), if_neg (by omega), if_pos h1]
          rfl
        · unfold mk1 newC
          rw [if_neg (by omega), if_pos h1, if_neg (by omega)]
          simp [clen]
    exact nl cs 0 hcs.2 (by omega) (by omega)
  obtain ⟨i1, i2, i3, i4⟩ := back_sees hl.2.1 hb.2.1 cs 0 0 hcs.2 (by omega) (by omega) (by omega) (by omega) (fun i h0 h9 => by rw [Int.zero_add]; exact hs i h0 (by omega))
  have hT := tnR_ok hl hcs.2 0
  have hM := mkR_ok hb.2.1 hT 0
  rw [tn_all] at hlen ⊢
  rw [apply_yes ⟨hb, ⟨hlen, hT⟩, by omega⟩, made_all]
  have hjM : AOk (join (mkR b 0 (tnR l 0 cs))) := foldl_ok AOk.nil hM (by have := hl.2.2; simp only [clen]; omega)
  have e : join (mkR b 0 (tnR l 0 cs)) = join l := sees_join hM hl.2.1 hjM (join_tok hl).2.1 (by omega) (fun i h0 h9 => by rw [i4 i h0 (by omega), Int.zero_add])
  rw [edit_yes hM (by rw [e]; exact join_tok hl), e]

/-- what is applied and turned comes back -/
theorem applied_back {l b : List Kl} {cs : List Ch} (h : applyOf l cs = some b) (hlen : (tnUp l cs cs.length).length ≤ 300) : applyOf b (tnUp l cs cs.length) = some (join l) := by
  obtain ⟨hl, hcs, ho⟩ := apply_some (l := l) (cs := cs) (by rw [h]; rfl)
  rw [apply_yes ⟨hl, hcs, ho⟩, made_all] at h
  have hM := mkR_ok hl.2.1 hcs.2 0
  by_cases hj : TOk (join (mkR l 0 cs))
  · rw [edit_yes hM hj] at h
    injection h with h
    subst h
    exact turned_back hl hj hcs ho (by rw [clen_join]) (fun i h0 _ => seen_join hM.nn h0) hlen
  · rw [edit_no2 hj] at h
    cases h

end Go.Proofs.Ytfcjdempigoiiaa

namespace Go.Proofs.Ytfcjdempigoiiaa
open Go.RowKit
set_option linter.unusedVariables false
set_option linter.unusedSimpArgs false

theorem pfx_has (l m : List Kl) (n : Nat) : ∃ k, IsPfx l m n k := by
  induction n with
  | zero => exact ⟨0, by omega, by omega, fun i h1 h2 => by omega, fun h => by omega⟩
  | succ n ih =>
    obtain ⟨k, a1, a2, a3, a4⟩ := ih
    by_cases hk : k < (n : Int)
    · exact ⟨k, a1, by omega, a3, fun _ => a4 hk⟩
    · have e : k = n := by omega
      subst e
      by_cases hs : seen l n = seen m n
      · refine ⟨n + 1, by omega, by omega, fun i h1 h2 => ?_, fun h => by omega⟩
        rcases Int.lt_or_le i n with h | h
        · exact a3 i h1 h
        · rw [show i = n by omega]; exact hs
      · exact ⟨n, by omega, by omega, a3, fun _ => hs⟩
theorem pfx_ex (l m : List Kl) {most : Int} (h : 0 ≤ most) : ∃ k, IsPfx l m most k := by
  obtain ⟨n, rfl⟩ : ∃ n : Nat, most = n := ⟨most.toNat, by omega⟩
  exact pfx_has l m n

/-- a frame of a source seen from its end -/
def mirS (x : Int × Int) : Int × Int := if x.1 = 0 then (0, 0) else (x.1, 9999999 - x.2)
theorem mirS_sv (c : Kl) (i : Int) : sv (mirK c) i = mirS (sv c (c.2.2 - 1 - i)) := by
  unfold sv mirK mirS
  by_cases h : c.1 = 0
  · simp [h]
  · simp [h]; omega
theorem seen_mir {l : List Kl} (hl : AOk l) {i : Int} (h0 : 0 ≤ i) (h1 : i < clen l) : seen (mir l) i = mirS (seen l (clen l - 1 - i)) := by
  induction l generalizing i with
  | nil => simp only [clen] at h1; omega
  | cons c l ih =>
    have e : mir (c :: l) = mir l ++ [mirK c] := by simp [mir]
    have hA : AOk l := hl.tail
    simp only [clen] at h1 ⊢
    rw [e, seen_append (mir_ok hA).nn h0, clen_mir]
    split
    · rename_i h
      rw [ih hA h0 h, seen_ge (by omega)]
      congr 2; omega
    · rename_i h
      rw [seen_lt (by simp only [mirK]; omega), seen_lt (by omega), mirS_sv]
      congr 2; omega
theorem seen_form {l : List Kl} (hl : AOk l) {i : Int} (h0 : 0 ≤ i) (h1 : i < clen l) : (seen l i).1 = 0 → seen l i = (0, 0) := by
  induction l generalizing i with
  | nil => simp only [clen] at h1; omega
  | cons c l ih =>
    simp only [clen] at h1
    by_cases h : i < c.2.2
    · rw [seen_lt h]
      unfold sv
      by_cases hc : c.1 = 0
      · simp [hc]
      · simp [hc]
    · rw [seen_ge h]
      exact ih hl.tail (by omega) (by omega)
theorem mirS_inj {x y : Int × Int} (hx : x.1 = 0 → x = (0, 0)) (hy : y.1 = 0 → y = (0, 0)) (h : mirS x = mirS y) : x = y := by
  unfold mirS at h
  obtain ⟨x1, x2⟩ := x
  obtain ⟨y1, y2⟩ := y
  simp only at hx hy h
  by_cases h1 : x1 = 0
  · rw [if_pos h1] at h
    by_cases h2 : y1 = 0
    · rw [hx h1, hy h2]
    · rw [if_neg h2] at h
      injection h with h3 _
      exact absurd h3.symm h2
  · rw [if_neg h1] at h
    by_cases h2 : y1 = 0
    · rw [if_pos h2] at h
      injection h with h3 _
      exact absurd h3 h1
    · rw [if_neg h2] at h
      injection h with h3 h4
      rw [h3, show x2 = y2 by omega]
theorem ends_alike {l m : List Kl} (hl : AOk l) (hm : AOk m) {most q : Int} (h : IsPfx (mir l) (mir m) most q) (h1 : most ≤ clen l) (h2 : most ≤ clen m) {j : Int} (hj : 0 ≤ j) (hq : j < q) : seen l (clen l - 1 - j) = seen m (clen m - 1 - j) := by
  obtain ⟨a1, a2, a3, a4⟩ := h
  have e := a3 j hj hq
  rw [seen_mir hl hj (by omega), seen_mir hm hj (by omega)] at e
  exact mirS_inj (seen_form hl (by omega) (by omega)) (seen_form hm (by omega) (by omega)) e
theorem part_zero {l : List Kl} (hl : AOk l) {a : Int} (h0 : 0 ≤ a) : part l a (a + 0) = [] := by
  have h := clen_ge (part_ok hl a (a + 0))
  rw [clen_part hl] at h
  have : (part l a (a + 0)).length = 0 := by omega
  exact List.length_eq_zero_iff.1 this
theorem mkR_keep {l : List Kl} (hl : AOk l) {o n : Int} (h0 : 0 ≤ o) : mkR l o (frs 1 n) = part l o (o + n) := by
  unfold frs
  by_cases h : n = 0
  · rw [if_pos h, h, part_zero hl h0]; rfl
  · rw [if_neg h]; simp [mkR, mk1]
theorem mkR_drop (l : List Kl) (o n : Int) : mkR l o (frs 2 n) = [] := by
  unfold frs
  by_cases h : n = 0
  · rw [if_pos h]; rfl
  · rw [if_neg h]; simp [mkR, mk1]
theorem old_frs {k n : Int} (hk : k = 1 ∨ k = 2) : oldL (frs k n) = n := by
  unfold frs
  by_cases h : n = 0
  · rw [if_pos h, h]; rfl
  · rw [if_neg h]
    simp only [oldL, oldC]
    rw [if_neg (by omega)]
    omega
theorem frs_ok {k n : Int} (hk : k = 1 ∨ k = 2) (h0 : 0 ≤ n) (h1 : n ≤ 10000000) : ∀ c ∈ frs k n, HOk c := by
  intro c hc
  unfold frs at hc
  split at hc
  · simp at hc
  · simp at hc
    subst hc
    exact .inl ⟨hk, rfl, rfl, by simp only; omega, by simp only; omega⟩

/-- what the changes are made of, and what they make -/
theorem changes_make {l m : List Kl} (hl : TOk l) (hm : TOk m) : (∀ c ∈ changesOf l m, HOk c) ∧ oldL (changesOf l m) = clen l ∧ clen (mkR l 0 (changesOf l m)) = clen m ∧ ∀ i, 0 ≤ i → i < clen m → seen m i = seen (mkR l 0 (changesOf l m)) i := by
  have n1 := clen_nonneg hl.2.1
  have n2 := clen_nonneg hm.2.1
  have b1 := hl.2.2
  have b2 := hm.2.2
  obtain ⟨p, hp⟩ := pfx_ex l m (most := min (clen l) (clen m)) (by omega)
  have p0 := hp.1
  have p1 := hp.2.1
  obtain ⟨q, hq⟩ := pfx_ex (mir l) (mir m) (most := min (clen l) (clen m) - p) (by omega)
  have q0 := hq.1
  have q1 := hq.2.1
  rw [changes_yes ⟨hl, hm⟩ hp hq]
  have hJ : AOk (join (part m p (clen m - q))) := foldl_ok AOk.nil (part_ok hm.2.1 _ _) (by rw [clen_part hm.2.1]; simp only [clen]; omega)
  have eM : mkR l 0 (frs 1 p ++ frs 2 (clen l - p - q) ++ adds (join (part m p (clen m - q))) ++ frs 1 q) = part l 0 p ++ (join (part m p (clen m - q)) ++ part l (clen l - q) (clen l)) := by
    rw [mkR_append, mkR_append, mkR_append, mkR_keep hl.2.1 (by omega), mkR_drop, mkR_adds, mkR_keep hl.2.1 (by rw [oldL_append, oldL_append, old_frs (.inl rfl), old_frs (.inr rfl), old_adds]; omega)]
    rw [oldL_append, oldL_append, old_frs (.inl rfl), old_frs (.inr rfl), old_adds]
    rw [show 0 + (p + (clen l - p - q) + 0) = clen l - q by omega, show clen l - q + q = clen l by omega, Int.zero_add]
    simp
  have cA : clen (part l 0 p) = p := by rw [clen_part hl.2.1]; omega
  have cJ : clen (join (part m p (clen m - q))) = clen m - q - p := by rw [clen_join, clen_part hm.2.1]; omega
  have cQ : clen (part l (clen l - q) (clen l)) = q := by rw [clen_part hl.2.1]; omega
  refine ⟨?_, ?_, ?_, ?_⟩
  · intro c hc
    rw [List.mem_append, List.mem_append, List.mem_append] at hc
    rcases hc with ((hc | hc) | hc) | hc
    · exact frs_ok (.inl rfl) (by omega) (by omega) c hc
    · exact frs_ok (.inr rfl) (by omega) (by omega) c hc
    · exact adds_ok hJ c hc
    · exact frs_ok (.inl rfl) (by omega) (by omega) c hc
  · rw [oldL_append, oldL_append, oldL_append, old_frs (.inl rfl), old_frs (.inr rfl), old_adds, old_frs (.inl rfl)]
    omega
  · rw [eM, clen_append, clen_append]
    omega
  · intro i h0 h1
    rw [eM, seen_append (part_ok hl.2.1 _ _).nn h0, cA]
    split
    · rename_i h
      rw [seen_part hl.2.1 h0 (by omega), show max (0 : Int) 0 + i = i by omega]
      exact (hp.2.2.1 i h0 h).symm
    · rename_i h
      rw [seen_append hJ.nn (by omega), cJ]
      split
      · rename_i h2
        rw [seen_join (part_ok hm.2.1 _ _).nn (by omega), seen_part hm.2.1 (by omega) (by omega)]
        congr 1; omega
      · rename_i h2
        rw [seen_part hl.2.1 (by omega) (by omega)]
        have e := ends_alike hl.2.1 hm.2.1 hq (by omega) (by omega) (j := clen m - 1 - i) (by omega) (by omega)
        rw [show clen m - 1 - (clen m - 1 - i) = i by omega] at e
        rw [← e]
        congr 1; omega

/-- the changes make the other cut -/
theorem changed_makes {l m : List Kl} (hl : TOk l) (hm : TOk m) (hlen : (changesOf l m).length ≤ 300) : applyOf l (changesOf l m) = some (join m) := by
  obtain ⟨h1, h2, h3, h4⟩ := changes_make hl hm
  have hM := mkR_ok hl.2.1 h1 0
  rw [apply_yes ⟨hl, ⟨hlen, h1⟩, h2⟩, made_all]
  have hj : AOk (join (mkR l 0 (changesOf l m))) := foldl_ok AOk.nil hM (by have := hm.2.2; simp only [clen]; omega)
  have e : join (mkR l 0 (changesOf l m)) = join m := sees_join hM hm.2.1 hj (join_tok hm).2.1 h3 (fun i h0 h9 => (h4 i h0 (by omega)).symm)
  rw [edit_yes hM (by rw [e]; exact join_tok hm), e]
/-- turned they take it back -/
theorem changed_back {l m : List Kl} (hl : TOk l) (hm : TOk m) (hlen : (changesOf l m).length ≤ 300) (ht : (tnUp l (changesOf l m) (changesOf l m).length).length ≤ 300) : applyOf m (tnUp l (changesOf l m) (changesOf l m).length) = some (join l) := by
  obtain ⟨h1, h2, h3, h4⟩ := changes_make hl hm
  exact turned_back hl hm ⟨hlen, h1⟩ h2 h3 h4 ht

end Go.Proofs.Ytfcjdempigoiiaa
