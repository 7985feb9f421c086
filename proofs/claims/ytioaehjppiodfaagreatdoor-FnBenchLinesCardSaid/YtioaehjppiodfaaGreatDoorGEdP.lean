/-
  Plain facts of edits: what the document's model answers and what the program makes are the same; what is seen behind a lift; no program is named.
-/
import Derived.Test.YtioaehjppiodfaaGreatDoorGCutP
namespace Go.Proofs.YtioaehjppiodfaaGreatDoor
set_option linter.unusedVariables false
set_option linter.unusedSimpArgs false

def InR (x lo hi : Int) : Prop := lo ≤ x ∧ x ≤ hi
instance (x lo hi : Int) : Decidable (InR x lo hi) := by unfold InR; infer_instance
/-- the model -/
def putS (l : List Kl) (t : Int) (ins : List Kl) (f : Int) : Option (List Kl) := edit (part l 0 t ++ ins ++ part l f 10000000)
def insertS (l : List Kl) (t : Int) (c : Kl) : Option (List Kl) := if TOk l ∧ COk c ∧ InR t 0 (clen l) then putS l t [c] t else none
def overS (l : List Kl) (t : Int) (c : Kl) : Option (List Kl) := if TOk l ∧ COk c ∧ InR t 0 (clen l) then putS l t [c] (t + c.2.2) else none
def Rng (l : List Kl) (t n : Int) : Prop := TOk l ∧ InR t 0 (clen l) ∧ InR n 1 (clen l - t)
instance (l : List Kl) (t n : Int) : Decidable (Rng l t n) := by unfold Rng; infer_instance
def extractS (l : List Kl) (t n : Int) : Option (List Kl) := if Rng l t n then putS l t [] (t + n) else none
def liftS (l : List Kl) (t n : Int) : Option (List Kl) := if Rng l t n then putS l t [(0, 0, n)] (t + n) else none
/-- the program -/
def med (r : Option (List Kl)) : Option (List Kl) :=
  match r with
  | none => none
  | some x => if TOk (join x) then some (join x) else none
def repl (l : List Kl) (t n : Int) (ins : List Kl) : Option (List Kl) :=
  if InR t 0 (clen l) ∧ InR n 0 (clen l - t) ∧ AOk ins then some (part l 0 t ++ ins ++ part l (t + n) (clen l)) else none
theorem med_none : med none = none := rfl
theorem med_some {x : List Kl} (h : AOk x) : med (some x) = edit x := by rw [edit_ok h]; rfl
theorem repl_put {l : List Kl} (h : TOk l) {t n : Int} {ins : List Kl} (h1 : InR t 0 (clen l)) (h2 : InR n 0 (clen l - t)) (h3 : AOk ins) : med (repl l t n ins) = putS l t ins (t + n) := by
  unfold repl putS
  rw [if_pos ⟨h1, h2, h3⟩, med_some (((part_ok h.2.1 _ _).append h3).append (part_ok h.2.1 _ _))]
  rw [part_far h.2.1 (b := clen l) (b' := 10000000) (Int.le_refl _) h.2.2]
theorem aok_one {c : Kl} : AOk [c] ↔ COk c := ⟨fun h => h.head, fun h => AOk.cons h AOk.nil⟩
theorem insert_eq {l : List Kl} (h : TOk l) (t : Int) (c : Kl) : med (repl l t 0 [c]) = insertS l t c := by
  unfold insertS
  by_cases hc : TOk l ∧ COk c ∧ InR t 0 (clen l)
  · rw [if_pos hc, repl_put h hc.2.2 ⟨Int.le_refl _, by have := hc.2.2.2; omega⟩ (aok_one.2 hc.2.1), Int.add_zero]
  · rw [if_neg hc]
    unfold repl
    rw [if_neg (fun k => hc ⟨h, aok_one.1 k.2.2, k.1⟩)]; rfl
theorem extract_eq {l : List Kl} (h : TOk l) (t n : Int) : med (if n < 1 then none else repl l t n []) = extractS l t n := by
  unfold extractS
  by_cases hc : Rng l t n
  · obtain ⟨h1, h2, h3⟩ := hc
    have := h3.1
    rw [if_pos (show Rng l t n from ⟨h1, h2, h3⟩), if_neg (show ¬ n < 1 by omega), repl_put h h2 ⟨by omega, h3.2⟩ AOk.nil]
  · rw [if_neg hc]
    by_cases hn : n < 1
    · rw [if_pos hn]; rfl
    · rw [if_neg hn]
      unfold repl
      rw [if_neg (fun k => hc ⟨h, k.1, by omega, k.2.1.2⟩)]; rfl
theorem lift_eq {l : List Kl} (h : TOk l) (t n : Int) : med (repl l t n [(0, 0, n)]) = liftS l t n := by
  unfold liftS
  by_cases hc : Rng l t n
  · obtain ⟨h1, h2, h3⟩ := hc
    have a1 := h3.1
    have a2 := h3.2
    have a3 := h2.1
    have a4 := h.2.2
    rw [if_pos (show Rng l t n from ⟨h1, h2, h3⟩), repl_put h h2 ⟨by omega, h3.2⟩ (aok_one.2 ⟨by simp only; omega, by simp only; omega, by simp only; omega, by simp only; omega, Or.inr ⟨rfl, rfl⟩⟩)]
  · rw [if_neg hc]
    unfold repl
    rw [if_neg (fun k => hc ⟨h, k.1, (aok_one.1 k.2.2).1, k.2.1.2⟩)]; rfl
theorem over_eq {l : List Kl} (h : TOk l) (t : Int) (c : Kl) : med (repl l t (min c.2.2 (clen l - t)) [c]) = overS l t c := by
  unfold overS
  by_cases hc : TOk l ∧ COk c ∧ InR t 0 (clen l)
  · obtain ⟨h1, h2, h3⟩ := hc
    have a1 := h2.1
    have a2 := h3.2
    rw [if_pos ⟨h1, h2, h3⟩, repl_put h h3 ⟨by omega, by omega⟩ (aok_one.2 h2)]
    unfold putS
    by_cases hm : c.2.2 ≤ clen l - t
    · rw [Int.min_eq_left hm]
    · have e : part l (t + min c.2.2 (clen l - t)) 10000000 = part l (t + c.2.2) 10000000 := by
        rw [part_behind h.2.1 (by omega), part_behind h.2.1 (by omega)]
      rw [e]
  · rw [if_neg hc]
    unfold repl
    rw [if_neg (fun k => hc ⟨h, aok_one.1 k.2.2, k.1⟩)]; rfl

/-- trims -/
def ck (l : List Kl) (i : Int) : Kl := l.getD i.toNat (0, 0, 0)
def real (l : List Kl) (i : Int) : Prop := 0 ≤ i ∧ i < l.length ∧ (ck l i).1 ≠ 0
instance (l : List Kl) (i : Int) : Decidable (real l i) := by unfold real; infer_instance
def trimK (c : Kl) (b e : Int) : Kl := (c.1, c.2.1 + b, c.2.2 + (e - b))
def trim1 (l : List Kl) (t : Kl) : Option (List Kl) := if real l t.1 ∧ COk (trimK (ck l t.1) t.2.1 t.2.2) then some (l.set t.1.toNat (trimK (ck l t.1) t.2.1 t.2.2)) else none
def trimL (l : List Kl) : List Kl → Option (List Kl)
  | [] => some l
  | t :: ts => match trim1 l t with
    | none => none
    | some m => trimL m ts
def slipS (l : List Kl) (i n : Int) : Option (List Kl) := if TOk l ∧ InR n (-10000000) 10000000 ∧ real l i then edit (l.set i.toNat (trimK (ck l i) n n)) else none
def rippleS (l : List Kl) (i n : Int) : Option (List Kl) := if TOk l ∧ InR n (-10000000) 10000000 ∧ real l i then edit (l.set i.toNat (trimK (ck l i) 0 n)) else none
def rollS (l : List Kl) (i n : Int) : Option (List Kl) := if TOk l ∧ InR n (-10000000) 10000000 ∧ real l i ∧ real l (i + 1) then edit ((l.set i.toNat (trimK (ck l i) 0 n)).set (i + 1).toNat (trimK (ck l (i + 1)) n 0)) else none
theorem ck_get {l : List Kl} {i : Int} (h0 : 0 ≤ i) (h1 : i < l.length) : l[i.toNat]? = some (ck l i) := by
  have : i.toNat < l.length := by omega
  rw [List.getElem?_eq_getElem this]
  unfold ck
  rw [List.getD_eq_getElem?_getD, List.getElem?_eq_getElem this]; rfl
theorem aok_set {l : List Kl} (h : AOk l) {k : Nat} {x : Kl} (hk : k < l.length) : AOk (l.set k x) ↔ COk x := by
  constructor
  · intro h'; exact h' x (List.mem_set hk _)
  · intro hx y hy
    rcases List.mem_or_eq_of_mem_set hy with hy | rfl
    · exact h y hy
    · exact hx
theorem trim1_ok {l m : List Kl} {t : Kl} (h : AOk l) (he : trim1 l t = some m) : AOk m ∧ m.length = l.length := by
  unfold trim1 at he
  split at he
  · rename_i hc
    injection he with he
    subst he
    refine ⟨(aok_set h ?_).2 hc.2, by simp⟩
    have := hc.1.1; have := hc.1.2.1; omega
  · cases he
theorem trimL_ok {l m : List Kl} {ts : List Kl} (h : AOk l) (he : trimL l ts = some m) : AOk m ∧ m.length = l.length := by
  induction ts generalizing l with
  | nil => simp only [trimL] at he; injection he with he; subst he; exact ⟨h, rfl⟩
  | cons t ts ih =>
    simp only [trimL] at he
    cases ht : trim1 l t with
    | none => rw [ht] at he; cases he
    | some x =>
      rw [ht] at he
      obtain ⟨a, b⟩ := trim1_ok h ht
      obtain ⟨c, d⟩ := ih a he
      exact ⟨c, by omega⟩
theorem trim1_eq {l : List Kl} (h : AOk l) (i b e : Int) : med (trimL l [(i, b, e)]) = if real l i then edit (l.set i.toNat (trimK (ck l i) b e)) else none := by
  by_cases hr : real l i
  · have hlt : i.toNat < l.length := by have := hr.1; have := hr.2.1; omega
    rw [if_pos hr]
    by_cases hc : COk (trimK (ck l i) b e)
    · have e1 : trim1 l (i, b, e) = some (l.set i.toNat (trimK (ck l i) b e)) := by unfold trim1; rw [if_pos ⟨hr, hc⟩]
      simp only [trimL, e1]
      exact med_some ((aok_set h hlt).2 hc)
    · have e1 : trim1 l (i, b, e) = none := by unfold trim1; rw [if_neg (fun k => hc k.2)]
      simp only [trimL, e1]
      rw [edit_no (fun k => hc ((aok_set h hlt).1 k))]; rfl
  · rw [if_neg hr]
    have e1 : trim1 l (i, b, e) = none := by unfold trim1; rw [if_neg (fun k => hr k.1)]
    simp only [trimL, e1]; rfl
theorem slip_eq {l : List Kl} (h : TOk l) {i n : Int} (hn : InR n (-10000000) 10000000) : med (trimL l [(i, n, n)]) = slipS l i n := by
  rw [trim1_eq h.2.1]
  unfold slipS
  by_cases hr : real l i
  · rw [if_pos hr, if_pos ⟨h, hn, hr⟩]
  · rw [if_neg hr, if_neg (fun k => hr k.2.2)]
theorem ripple_eq {l : List Kl} (h : TOk l) {i n : Int} (hn : InR n (-10000000) 10000000) : med (trimL l [(i, 0, n)]) = rippleS l i n := by
  rw [trim1_eq h.2.1]
  unfold rippleS
  by_cases hr : real l i
  · rw [if_pos hr, if_pos ⟨h, hn, hr⟩]
  · rw [if_neg hr, if_neg (fun k => hr k.2.2)]
theorem ck_set {l : List Kl} {i : Int} {k : Nat} {x : Kl} (h : k ≠ i.toNat) : ck (l.set k x) i = ck l i := by
  unfold ck
  rw [List.getD_eq_getElem?_getD, List.getD_eq_getElem?_getD, List.getElem?_set_ne h]
theorem roll_eq {l : List Kl} (h : TOk l) {i n p : Int} (hn : InR n (-10000000) 10000000) (hp : real l i → p = i + 1) : med (trimL l [(i, 0, n), (p, n, 0)]) = rollS l i n := by
  unfold rollS
  by_cases hr : real l i
  · obtain rfl := hp hr
    have h0 := hr.1
    have h1 := hr.2.1
    have hlt : i.toNat < l.length := by omega
    by_cases hc : COk (trimK (ck l i) 0 n)
    · have e1 : trim1 l (i, 0, n) = some (l.set i.toNat (trimK (ck l i) 0 n)) := by unfold trim1; rw [if_pos ⟨hr, hc⟩]
      have e2 : trimL l [(i, 0, n), (i + 1, n, 0)] = trimL (l.set i.toNat (trimK (ck l i) 0 n)) [(i + 1, n, 0)] := by
        rw [trimL.eq_def]; simp only [e1]
      rw [e2, trim1_eq ((aok_set h.2.1 hlt).2 hc)]
      have ec : ck (l.set i.toNat (trimK (ck l i) 0 n)) (i + 1) = ck l (i + 1) := ck_set (by omega)
      have er : real (l.set i.toNat (trimK (ck l i) 0 n)) (i + 1) ↔ real l (i + 1) := by unfold real; rw [ec, List.length_set]
      rw [ec]
      by_cases hr2 : real l (i + 1)
      · rw [if_pos (er.2 hr2), if_pos ⟨h, hn, hr, hr2⟩]
      · rw [if_neg (fun k => hr2 (er.1 k)), if_neg (fun k => hr2 k.2.2.2)]
    · have e1 : trim1 l (i, 0, n) = none := by unfold trim1; rw [if_neg (fun k => hc k.2)]
      simp only [trimL, e1]
      rw [med_none]
      split
      · rename_i hk
        rw [edit_no]
        intro hA
        have hm : trimK (ck l i) 0 n ∈ (l.set i.toNat (trimK (ck l i) 0 n)).set (i + 1).toNat (trimK (ck l (i + 1)) n 0) := by
          apply List.mem_of_getElem? (i := i.toNat)
          rw [List.getElem?_set_ne (by omega), List.getElem?_set_self hlt]
        exact hc (hA _ hm)
      · rfl
  · rw [if_neg (fun k => hr k.2.2.1)]
    have e1 : trim1 l (i, 0, n) = none := by unfold trim1; rw [if_neg (fun k => hr k.1)]
    simp only [trimL, e1]; rfl

/-- what is seen -/
def NN (l : List Kl) : Prop := ∀ c ∈ l, 0 ≤ c.2.2
theorem AOk.nn {l : List Kl} (h : AOk l) : NN l := fun c hc => by have := (h c hc).1; omega
theorem clen_nn {l : List Kl} (h : NN l) : 0 ≤ clen l := by
  induction l with
  | nil => simp [clen]
  | cons c l ih => have := ih (fun x hx => h x (List.mem_cons_of_mem _ hx)); have := h c List.mem_cons_self; simp only [clen]; omega
def sv (c : Kl) (i : Int) : Int × Int := if c.1 = 0 then (0, 0) else (c.1, c.2.1 + i)
theorem seen_lt {c : Kl} {l : List Kl} {i : Int} (h : i < c.2.2) : seen (c :: l) i = sv c i := by unfold sv; simp only [seen]; rw [if_pos h]
theorem seen_ge {c : Kl} {l : List Kl} {i : Int} (h : ¬ i < c.2.2) : seen (c :: l) i = seen l (i - c.2.2) := by simp only [seen]; rw [if_neg h]
theorem seen_append {l m : List Kl} (h : NN l) {i : Int} (hi : 0 ≤ i) : seen (l ++ m) i = if i < clen l then seen l i else seen m (i - clen l) := by
  induction l generalizing i with
  | nil => rw [if_neg (by simp only [clen]; omega)]; simp [clen]
  | cons c l ih =>
    have ht : NN l := fun x hx => h x (List.mem_cons_of_mem _ hx)
    have := clen_nn ht
    rw [List.cons_append]
    have ec : clen (c :: l) = c.2.2 + clen l := rfl
    rw [ec]
    by_cases hlt : i < c.2.2
    · rw [seen_lt hlt, seen_lt hlt, if_pos (show i < c.2.2 + clen l by omega)]
    · rw [seen_ge hlt, seen_ge hlt, ih ht (by omega)]
      by_cases h2 : i < c.2.2 + clen l
      · rw [if_pos (show i - c.2.2 < clen l by omega), if_pos h2]
      · rw [if_neg (show ¬ i - c.2.2 < clen l by omega), if_neg h2]
        have e : i - c.2.2 - clen l = i - (c.2.2 + clen l) := by omega
        rw [e]
theorem seen_two {p c : Kl} {r : List Kl} {i : Int} (hg : goes p c) (hi : 0 ≤ i) (hp : 0 ≤ p.2.2) (hc : 0 ≤ c.2.2) : seen ((p.1, p.2.1, p.2.2 + c.2.2) :: r) i = seen (p :: c :: r) i := by
  obtain ⟨g1, g2⟩ := hg
  by_cases h1 : i < p.2.2
  · rw [seen_lt (show i < ((p.1, p.2.1, p.2.2 + c.2.2) : Kl).2.2 by simp only; omega), seen_lt h1]; rfl
  · rw [seen_ge (c := p) h1]
    by_cases h2 : i < p.2.2 + c.2.2
    · rw [seen_lt (show i < ((p.1, p.2.1, p.2.2 + c.2.2) : Kl).2.2 from h2), seen_lt (show i - p.2.2 < c.2.2 by omega)]
      unfold sv
      rw [g1]
      by_cases hs : c.1 = 0
      · simp only [hs, if_true]
      · simp only [hs, if_false]
        rcases g2 with g2 | g2
        · exact absurd g2 hs
        · congr 1; omega
    · rw [seen_ge (show ¬ i < ((p.1, p.2.1, p.2.2 + c.2.2) : Kl).2.2 from h2), seen_ge (show ¬ i - p.2.2 < c.2.2 by omega)]
      congr 1; simp only; omega
theorem nn_append {l m : List Kl} (h : NN l) (k : NN m) : NN (l ++ m) := by
  intro x hx
  rcases List.mem_append.1 hx with hx | hx
  · exact h x hx
  · exact k x hx
theorem seen_jstep {o r : List Kl} {c : Kl} (h : NN o) (hc : 0 ≤ c.2.2) {i : Int} (hi : 0 ≤ i) : seen (jstep o c ++ r) i = seen (o ++ c :: r) i := by
  rcases List.eq_nil_or_concat o with rfl | ⟨o, p, rfl⟩
  · rfl
  · rw [List.concat_eq_append] at *
    rw [jstep_snoc]
    split
    · rename_i hg
      have ho : NN o := fun x hx => h x (by simp [hx])
      have hp : 0 ≤ p.2.2 := h p (by simp)
      rw [List.append_assoc, List.append_assoc, seen_append ho hi, seen_append ho hi]
      split
      · rfl
      · simp only [List.cons_append, List.nil_append]
        exact seen_two hg (by omega) hp hc
    · simp
theorem nn_jstep {o : List Kl} {c : Kl} (h : NN o) (hc : 0 ≤ c.2.2) : NN (jstep o c) := by
  rcases List.eq_nil_or_concat o with rfl | ⟨o, p, rfl⟩
  · intro x hx; rw [jstep_nil] at hx; obtain rfl := List.mem_singleton.1 hx; exact hc
  · rw [List.concat_eq_append] at *
    rw [jstep_snoc]
    have hp : 0 ≤ p.2.2 := h p (by simp)
    split
    · refine nn_append (fun x hx => h x (by simp [hx])) (fun x hx => ?_)
      obtain rfl := List.mem_singleton.1 hx
      simp only; omega
    · exact nn_append h (fun x hx => by obtain rfl := List.mem_singleton.1 hx; exact hc)
theorem seen_foldl {l : List Kl} (h : NN l) {o : List Kl} (ho : NN o) {i : Int} (hi : 0 ≤ i) : seen (l.foldl jstep o) i = seen (o ++ l) i := by
  induction l generalizing o with
  | nil => simp
  | cons c l ih =>
    have hc : 0 ≤ c.2.2 := h c List.mem_cons_self
    rw [List.foldl_cons, ih (fun x hx => h x (List.mem_cons_of_mem _ hx)) (nn_jstep ho hc), seen_jstep ho hc hi]
theorem seen_join {l : List Kl} (h : NN l) {i : Int} (hi : 0 ≤ i) : seen (join l) i = seen l i := by
  have := seen_foldl h (o := []) (fun x hx => by simp at hx) hi
  simpa [join] using this
theorem clen_part {l : List Kl} (h : AOk l) (a b : Int) : clen (part l a b) = max 0 (min b (clen l) - max a 0) := by
  induction l generalizing a b with
  | nil => simp only [part, clen]; omega
  | cons c l ih =>
    have h0 := clen_nonneg h.tail
    have h1 := h.head.1
    simp only [part, clen_append, ih h.tail, clen]
    unfold ptOne
    split
    · simp only [clen]; omega
    · simp only [clen]; omega
theorem seen_part {l : List Kl} (h : AOk l) {a b i : Int} (h0 : 0 ≤ i) (h1 : i < min b (clen l) - max a 0) : seen (part l a b) i = seen l (max a 0 + i) := by
  induction l generalizing a b i with
  | nil => simp only [clen] at h1; omega
  | cons c l ih =>
    have hn := clen_nonneg h.tail
    have hc := h.head.1
    simp only [clen] at h1
    simp only [part]
    rw [seen_append (ptOne_ok h.head).nn h0]
    unfold ptOne
    by_cases hlt : max a 0 < min b c.2.2
    · simp only [if_pos hlt, clen, Int.add_zero]
      by_cases h2 : i < min b c.2.2 - max a 0
      · rw [if_pos h2, seen_lt (show i < ((c.1, (if c.1 = 0 then 0 else c.2.1 + max a 0), min b c.2.2 - max a 0) : Kl).2.2 from h2), seen_lt (show max a 0 + i < c.2.2 by omega)]
        unfold sv
        by_cases hs : c.1 = 0
        · simp only [hs, if_true]
        · simp only [hs, if_false, Int.add_assoc]
      · rw [if_neg h2, ih h.tail (by omega) (by omega), seen_ge (show ¬ (max a 0 + i < c.2.2) by omega)]
        congr 1; omega
    · simp only [if_neg hlt, clen]
      rw [if_neg (show ¬ i < 0 by omega), ih h.tail (by omega) (by omega), seen_ge (show ¬ (max a 0 + i < c.2.2) by omega)]
      congr 1; omega

theorem frameAt_yes {l : List Kl} {i : Int} (h : TOk l) (hi : 0 ≤ i) : frameAt l i = seen l i := if_pos ⟨h, hi⟩
theorem frameAt_neg {l : List Kl} {i : Int} (hi : ¬ 0 ≤ i) : frameAt l i = (-1, -1) := if_neg (fun k => hi k.2)
/-- a lift leaves the length, a gap where it lifted, and all else -/
theorem lift_sees {l u : List Kl} {t n : Int} (hu : liftS l t n = some u) : TOk l ∧ Rng l t n ∧ TOk u ∧ clen u = clen l ∧ ∀ i, frameAt u i = if t ≤ i ∧ i < t + n then (0, 0) else frameAt l i := by
  unfold liftS at hu
  split at hu
  case isFalse => cases hu
  rename_i hr
  obtain ⟨h, ⟨h1, h2⟩, h3, h4⟩ := hr
  unfold putS at hu
  have hg : COk ((0, 0, n) : Kl) := by have := h.2.2; exact ⟨h3, by simp only; omega, by simp only; omega, by simp only; omega, Or.inr ⟨rfl, rfl⟩⟩
  have hA : AOk (part l 0 t ++ [(0, 0, n)] ++ part l (t + n) 10000000) := ((part_ok h.2.1 _ _).append (aok_one.2 hg)).append (part_ok h.2.1 _ _)
  rw [edit_ok hA] at hu
  split at hu
  case isFalse => cases hu
  rename_i hT
  injection hu with hu
  subst hu
  have hL := h.2.2
  have e1 : clen (part l 0 t) = t := by rw [clen_part h.2.1]; omega
  have e2 : clen (part l (t + n) 10000000) = clen l - (t + n) := by rw [clen_part h.2.1]; omega
  have e3 : clen (part l 0 t ++ [(0, 0, n)] ++ part l (t + n) 10000000) = clen l := by
    rw [clen_append, clen_append, e1, e2]; simp only [clen]; omega
  refine ⟨h, ⟨h, ⟨h1, h2⟩, h3, h4⟩, hT, by rw [clen_join, e3], ?_⟩
  intro i
  by_cases hi : 0 ≤ i
  · rw [frameAt_yes hT hi, frameAt_yes h hi, seen_join hA.nn hi]
    rw [List.append_assoc, seen_append (part_ok h.2.1 _ _).nn hi, e1]
    by_cases a1 : i < t
    · rw [if_pos a1, if_neg (show ¬ (t ≤ i ∧ i < t + n) by omega), seen_part h.2.1 hi (by omega)]
      congr 1; omega
    · rw [if_neg a1, seen_append (aok_one.2 hg).nn (by omega)]
      simp only [clen, Int.add_zero]
      by_cases a2 : i - t < n
      · rw [if_pos a2, if_pos (show t ≤ i ∧ i < t + n by omega)]
        rw [seen_lt (show i - t < ((0, 0, n) : Kl).2.2 from a2)]; rfl
      · rw [if_neg a2, if_neg (show ¬ (t ≤ i ∧ i < t + n) by omega)]
        by_cases a3 : i < clen l
        · rw [seen_part h.2.1 (by omega) (by omega)]
          congr 1; omega
        · rw [seen_past h.2.1 (by omega), seen_past (part_ok h.2.1 _ _) (by omega)]
  · rw [frameAt_neg hi, frameAt_neg hi, if_neg (show ¬ (t ≤ i ∧ i < t + n) by omega)]

end Go.Proofs.YtioaehjppiodfaaGreatDoor
