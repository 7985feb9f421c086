/-
  Plain facts: how many frames two lists of clips have alike at their beginning; lists mirrored; what Changes gives.
  The clips of a list, each with the frame that it begins at: the iterator's contract.
-/
import Derived.Test.YtioaehjppiodfaaGreatDoorG12
import Derived.Test.YtioaehjppiodfaaGreatDoorG08
import Derived.Test.YtioaehjppiodfaaGreatDoorG04
namespace Go.Proofs.YtioaehjppiodfaaGreatDoor
open Go.RowKit
set_option linter.unusedVariables false
set_option linter.unusedSimpArgs false

/-- k frames are alike at the beginning, and no more of the first 'most' -/
def IsPfx (l m : List Kl) (most k : Int) : Prop := 0 ≤ k ∧ k ≤ most ∧ (∀ i, 0 ≤ i → i < k → seen l i = seen m i) ∧ (k < most → seen l k ≠ seen m k)
theorem IsPfx.unique {l m : List Kl} {most k k' : Int} (h : IsPfx l m most k) (h' : IsPfx l m most k') : k = k' := by
  obtain ⟨a1, a2, a3, a4⟩ := h
  obtain ⟨b1, b2, b3, b4⟩ := h'
  rcases Int.lt_trichotomy k k' with hlt | he | hgt
  · exact absurd (b3 k a1 hlt) (a4 (by omega))
  · exact he
  · exact absurd (a3 k' b1 hgt) (b4 (by omega))
theorem IsPfx.cut {l m : List Kl} {most most' k : Int} (h : IsPfx l m most k) (h0 : 0 ≤ most') (hm : most' ≤ most) : IsPfx l m most' (min k most') := by
  obtain ⟨a1, a2, a3, a4⟩ := h
  refine ⟨by omega, by omega, fun i h1 h2 => a3 i h1 (by omega), fun hlt => ?_⟩
  have e : min k most' = k := by omega
  rw [e]
  exact a4 (by omega)
open Classical in
noncomputable def pfx (l m : List Kl) (most : Int) : Int := if h : ∃ k, IsPfx l m most k then Classical.choose h else 0
theorem pfx_eq {l m : List Kl} {most k : Int} (h : IsPfx l m most k) : pfx l m most = k := by
  have hex : ∃ k, IsPfx l m most k := ⟨k, h⟩
  unfold pfx
  rw [dif_pos hex]
  exact (Classical.choose_spec hex).unique h

/-- a clip seen from its end, of a source seen from its end -/
def mirK (c : Kl) : Kl := (c.1, if c.1 = 0 then c.2.1 else 10000000 - c.2.1 - c.2.2, c.2.2)
def mir (l : List Kl) : List Kl := (l.map mirK).reverse
theorem mirK_ok {c : Kl} (h : COk c) : COk (mirK c) := by
  obtain ⟨h1, h2, h3, h4, h5⟩ := h
  unfold mirK COk
  simp only
  split <;> refine ⟨?_, ?_, ?_, ?_, ?_⟩ <;> omega
theorem mir_len (l : List Kl) : (mir l).length = l.length := by simp [mir]
theorem mir_ok {l : List Kl} (h : AOk l) : AOk (mir l) := by
  intro c hc
  unfold mir at hc
  rw [List.mem_reverse, List.mem_map] at hc
  obtain ⟨d, hd, rfl⟩ := hc
  exact mirK_ok (h d hd)
theorem clen_mir (l : List Kl) : clen (mir l) = clen l := by
  induction l with
  | nil => rfl
  | cons c l ih =>
    unfold mir at *
    rw [List.map_cons, List.reverse_cons, clen_append, ih]
    simp only [clen, mirK]
    omega
theorem mir_tok {l : List Kl} (h : TOk l) : TOk (mir l) := ⟨by rw [mir_len]; exact h.1, mir_ok h.2.1, by rw [clen_mir]; exact h.2.2⟩
theorem mir_get {l : List Kl} {i : Nat} {c : Kl} (hi : i < l.length) (h : l[l.length - 1 - i]? = some c) : (mir l)[i]? = some (mirK c) := by
  unfold mir
  rw [List.getElem?_reverse (by simpa using hi), List.length_map, List.getElem?_map, h]
  rfl

/-- frames of clip i -/
theorem seen_at {l : List Kl} {i : Nat} {p : Kl} (hA : AOk l) (h : l[i]? = some p) {e : Int} (h0 : 0 ≤ e) (h1 : e < p.2.2) : seen l (clen (l.take i) + e) = sv p e := by
  have hi : i < l.length := (List.getElem?_eq_some_iff.1 h).1
  have hd : l.drop i = p :: l.drop (i + 1) := by
    rw [List.drop_eq_getElem_cons hi]
    have := (List.getElem?_eq_some_iff.1 h).2
    rw [this]
  have hc := clen_nonneg (hA.take i)
  have key : seen (l.take i ++ l.drop i) (clen (l.take i) + e) = sv p e := by
    rw [seen_append (hA.take i).nn (by omega), if_neg (by omega), hd, seen_lt (by omega)]
    congr 1
    omega
  rw [List.take_append_drop] at key
  exact key
theorem sv_same {p q : Kl} {x y d : Int} (h1 : p.1 = q.1) (h2 : p.1 = 0 ∨ p.2.1 + x = q.2.1 + y) : sv p (x + d) = sv q (y + d) := by
  unfold sv
  by_cases h : p.1 = 0
  · rw [if_pos h, if_pos (by omega)]
  · rw [if_neg h, if_neg (by omega)]
    rcases h2 with h2 | h2
    · exact absurd h2 h
    · rw [h1]; congr 1; omega
theorem sv_not {p q : Kl} {x y : Int} (hp : 0 ≤ p.1) (hq : 0 ≤ q.1) (h : ¬ (p.1 = q.1 ∧ (p.1 = 0 ∨ p.2.1 + x = q.2.1 + y))) : sv p x ≠ sv q y := by
  intro e
  apply h
  unfold sv at e
  by_cases h1 : p.1 = 0
  · rw [if_pos h1] at e
    by_cases h2 : q.1 = 0
    · exact ⟨by omega, .inl h1⟩
    · rw [if_neg h2] at e
      injection e with e1 _
      exact absurd e1.symm h2
  · rw [if_neg h1] at e
    by_cases h2 : q.1 = 0
    · rw [if_pos h2] at e
      injection e with e1 _
      exact absurd e1 h1
    · rw [if_neg h2] at e
      injection e with e1 e2
      exact ⟨e1, .inr e2⟩
theorem clen_all {l : List Kl} (h : AOk l) {i : Nat} (hi : i ≤ l.length) (hn : l[i]? = none) : clen (l.take i) = clen l := by
  have : l.length ≤ i := by
    rcases Nat.lt_or_ge i l.length with h1 | h1
    · rw [List.getElem?_eq_getElem h1] at hn; cases hn
    · exact h1
  rw [List.take_of_length_le this]

/-- where the model stands in the two lists, so many frames alike -/
structure St (l m : List Kl) (most : Int) (i k : Nat) (x y n : Int) : Prop where
  hi : i ≤ l.length
  hk : k ≤ m.length
  ei : n = clen (l.take i) + x
  ek : n = clen (m.take k) + y
  x0 : 0 ≤ x
  y0 : 0 ≤ y
  xl : ∀ p, l[i]? = some p → x < p.2.2
  yl : ∀ q, m[k]? = some q → y < q.2.2
  le : n ≤ most
  n0 : 0 ≤ n
  al : ∀ f, 0 ≤ f → f < n → seen l f = seen m f
theorem St.start {l m : List Kl} (hl : AOk l) (hm : AOk m) {most : Int} (h : 0 ≤ most) : St l m most 0 0 0 0 0 :=
  ⟨by omega, by omega, by simp [clen], by simp [clen], by omega, by omega, fun p hp => by have := (hl p (List.mem_of_getElem? hp)).1; omega, fun q hq => by have := (hm q (List.mem_of_getElem? hq)).1; omega, h, by omega, fun f h1 h2 => by omega⟩
theorem St.done {l m : List Kl} {most : Int} {i k : Nat} {x y n : Int} (h : St l m most i k x y n) (he : ¬ n < most) : IsPfx l m most n :=
  ⟨h.n0, h.le, h.al, fun hlt => absurd hlt he⟩
theorem St.ihas {l m : List Kl} {most : Int} {i k : Nat} {x y n : Int} (h : St l m most i k x y n) (hx : l[i]? = none → x = 0) (hA : AOk l) (hmost : most ≤ clen l) (hn : n < most) : i < l.length := by
  rcases Nat.lt_or_ge i l.length with h1 | h1
  · exact h1
  · have hno : l[i]? = none := List.getElem?_eq_none h1
    have := clen_all hA h.hi hno
    have := h.ei
    have := hx hno
    omega
theorem St.differ {l m : List Kl} (hl : AOk l) (hm : AOk m) {most : Int} {i k : Nat} {x y n : Int} {p q : Kl} (h : St l m most i k x y n) (hp : l[i]? = some p) (hq : m[k]? = some q)
    (hd : ¬ (p.1 = q.1 ∧ (p.1 = 0 ∨ p.2.1 + x = q.2.1 + y))) : IsPfx l m most n := by
  refine ⟨h.n0, h.le, h.al, fun _ => ?_⟩
  have e1 := seen_at hl hp h.x0 (h.xl p hp)
  have e2 := seen_at hm hq h.y0 (h.yl q hq)
  rw [← h.ei] at e1
  rw [← h.ek] at e2
  rw [e1, e2]
  have c1 := hl p (List.mem_of_getElem? hp)
  have c2 := hm q (List.mem_of_getElem? hq)
  refine sv_not ?_ ?_ hd
  · rcases c1.2.2.2.2 with h | h <;> omega
  · rcases c2.2.2.2.2 with h | h <;> omega
theorem St.alike {l m : List Kl} (hl : AOk l) (hm : AOk m) {most : Int} {i k : Nat} {x y n d : Int} {p q : Kl} (h : St l m most i k x y n) (hp : l[i]? = some p) (hq : m[k]? = some q)
    (h1 : p.1 = q.1) (h2 : p.1 = 0 ∨ p.2.1 + x = q.2.1 + y) (hd : d ≤ p.2.2 - x) (hd2 : d ≤ q.2.2 - y) : ∀ f, 0 ≤ f → f < n + d → seen l f = seen m f := by
  intro f hf0 hf1
  by_cases hlt : f < n
  · exact h.al f hf0 hlt
  · have e1 := seen_at hl hp (e := x + (f - n)) (by have := h.x0; omega) (by omega)
    have e2 := seen_at hm hq (e := y + (f - n)) (by have := h.y0; omega) (by omega)
    have r1 : clen (l.take i) + (x + (f - n)) = f := by have := h.ei; omega
    have r2 : clen (m.take k) + (y + (f - n)) = f := by have := h.ek; omega
    rw [r1] at e1
    rw [r2] at e2
    rw [e1, e2]
    exact sv_same h1 h2

theorem St.khas {l m : List Kl} {most : Int} {i k : Nat} {x y n : Int} (h : St l m most i k x y n) (hy : m[k]? = none → y = 0) (hA : AOk m) (hmost : most ≤ clen m) (hn : n < most) : k < m.length := by
  rcases Nat.lt_or_ge k m.length with h1 | h1
  · exact h1
  · have hno : m[k]? = none := List.getElem?_eq_none h1
    have := clen_all hA h.hk hno
    have := h.ek
    have := hy hno
    omega
theorem St.next {l m : List Kl} (hl : AOk l) (hm : AOk m) {most : Int} {i k i' k' : Nat} {x y n d x' y' : Int} {p q : Kl} (h : St l m most i k x y n) (hp : l[i]? = some p) (hq : m[k]? = some q)
    (h1 : p.1 = q.1) (h2 : p.1 = 0 ∨ p.2.1 + x = q.2.1 + y) (hd0 : 1 ≤ d) (hd : d ≤ p.2.2 - x) (hd2 : d ≤ q.2.2 - y) (hd3 : d ≤ most - n)
    (hi : (x + d = p.2.2 ∧ i' = i + 1 ∧ x' = 0) ∨ (x + d ≠ p.2.2 ∧ i' = i ∧ x' = x + d)) (hk : (y + d = q.2.2 ∧ k' = k + 1 ∧ y' = 0) ∨ (y + d ≠ q.2.2 ∧ k' = k ∧ y' = y + d)) :
    St l m most i' k' x' y' (n + d) ∧ (l[i']? = none → x' = 0) ∧ (m[k']? = none → y' = 0) := by
  have hil : i < l.length := (List.getElem?_eq_some_iff.1 hp).1
  have hkl : k < m.length := (List.getElem?_eq_some_iff.1 hq).1
  have c1 := clen_take hp
  have c2 := clen_take hq
  have ei := h.ei
  have ek := h.ek
  have x0 := h.x0
  have y0 := h.y0
  have n0 := h.n0
  have al := h.alike hl hm hp hq h1 h2 hd hd2
  have A1 : i' ≤ l.length ∧ n + d = clen (l.take i') + x' ∧ 0 ≤ x' ∧ (∀ p, l[i']? = some p → x' < p.2.2) ∧ (l[i']? = none → x' = 0) := by
    rcases hi with ⟨e1, rfl, rfl⟩ | ⟨e1, rfl, rfl⟩
    · refine ⟨hil, by omega, by omega, fun p' hp' => ?_, fun _ => rfl⟩
      have := (hl p' (List.mem_of_getElem? hp')).1
      omega
    · refine ⟨by omega, by omega, by omega, fun p' hp' => ?_, fun hno => ?_⟩
      · rw [hp] at hp'; cases hp'; omega
      · rw [hp] at hno; cases hno
  have A2 : k' ≤ m.length ∧ n + d = clen (m.take k') + y' ∧ 0 ≤ y' ∧ (∀ p, m[k']? = some p → y' < p.2.2) ∧ (m[k']? = none → y' = 0) := by
    rcases hk with ⟨e1, rfl, rfl⟩ | ⟨e1, rfl, rfl⟩
    · refine ⟨hkl, by omega, by omega, fun p' hp' => ?_, fun _ => rfl⟩
      have := (hm p' (List.mem_of_getElem? hp')).1
      omega
    · refine ⟨by omega, by omega, by omega, fun p' hp' => ?_, fun hno => ?_⟩
      · rw [hq] at hp'; cases hp'; omega
      · rw [hq] at hno; cases hno
  exact ⟨⟨A1.1, A2.1, A1.2.1, A2.2.1, A1.2.2.1, A2.2.2.1, A1.2.2.2.1, A2.2.2.2.1, by omega, by omega, al⟩, A1.2.2.2.2, A2.2.2.2.2⟩

/-- what Changes gives -/
noncomputable def changesOf (l m : List Kl) : List Ch :=
  if TOk l ∧ TOk m then frs 1 (pfx l m (min (clen l) (clen m))) ++ frs 2 (clen l - pfx l m (min (clen l) (clen m)) - pfx (mir l) (mir m) (min (clen l) (clen m) - pfx l m (min (clen l) (clen m)))) ++ adds (join (part m (pfx l m (min (clen l) (clen m))) (clen m - pfx (mir l) (mir m) (min (clen l) (clen m) - pfx l m (min (clen l) (clen m)))))) ++ frs 1 (pfx (mir l) (mir m) (min (clen l) (clen m) - pfx l m (min (clen l) (clen m)))) else []
theorem changes_no {l m : List Kl} (h : ¬ (TOk l ∧ TOk m)) : changesOf l m = [] := if_neg h
theorem changes_yes {l m : List Kl} (h : TOk l ∧ TOk m) {p q : Int} (hp : IsPfx l m (min (clen l) (clen m)) p) (hq : IsPfx (mir l) (mir m) (min (clen l) (clen m) - p) q) :
    changesOf l m = frs 1 p ++ frs 2 (clen l - p - q) ++ adds (join (part m p (clen m - q))) ++ frs 1 q := by
  unfold changesOf
  rw [if_pos h, pfx_eq hp, pfx_eq hq]
theorem changes_len (l m : List Kl) : (changesOf l m).length ≤ 100000 := by
  unfold changesOf
  split
  · rename_i h
    rw [List.length_append, List.length_append, List.length_append, adds_len]
    have h1 := frs_len 1 (pfx l m (min (clen l) (clen m)))
    have h2 := frs_len 2 (clen l - pfx l m (min (clen l) (clen m)) - pfx (mir l) (mir m) (min (clen l) (clen m) - pfx l m (min (clen l) (clen m))))
    have h3 := frs_len 1 (pfx (mir l) (mir m) (min (clen l) (clen m) - pfx l m (min (clen l) (clen m))))
    have h4 := len_join (part m (pfx l m (min (clen l) (clen m))) (clen m - pfx (mir l) (mir m) (min (clen l) (clen m) - pfx l m (min (clen l) (clen m)))))
    have h5 := part_len m (pfx l m (min (clen l) (clen m))) (clen m - pfx (mir l) (mir m) (min (clen l) (clen m) - pfx l m (min (clen l) (clen m))))
    have h6 := h.2.1
    omega
  · simp

end Go.Proofs.YtioaehjppiodfaaGreatDoor

namespace Go.Proofs.YtioaehjppiodfaaGreatDoor
open Go.RowKit Go.Shelf
set_option linter.unusedVariables false
set_option linter.unusedSimpArgs false
attribute [local go_sem] Oper.semAt_some

def kAt (l : List Kl) (k : Nat) : Kl := l.getD k (0, 0, 0)
theorem kAt_get {l : List Kl} {k : Nat} (h : k < l.length) : l[k]? = some (kAt l k) := by
  unfold kAt; rw [List.getD_eq_getElem?_getD, List.getElem?_eq_getElem h]; rfl
theorem kAt_eq {l : List Kl} {k : Nat} {c : Kl} (h : l[k]? = some c) : kAt l k = c := by unfold kAt; simp [List.getD, h]
/-- what the iterator hands over -/
def plv (l : List Kl) (k : Nat) : Array Value := #[.int .i64 (clen (l.take k)), .agg #[.int .i64 (kAt l k).1, .int .i64 (kAt l k).2.1, .int .i64 (kAt l k).2.2]]

theorem keepX_cell {A b o : Nat} {X Y : World} {v : Value} (h : KeepX A A X Y) (hb : b ≠ A) (hc : X.cell? ⟨b, o, none⟩ = some v) : Y.cell? ⟨b, o, none⟩ = some v := by
  obtain ⟨x, hx, hcx⟩ := cells_of_cell hc
  exact (World.cell?_of_block (a := ⟨b, o, none⟩) ((h.2 b x hx hcx hb hb).trans hx.symm)).trans hc
theorem blk3' {X : World} {b : Nat} {t : TypeId} {v0 v1 v2 : Value} (h : X.heap[b]? = some (.cells #[v0, v1, v2] t (0, 0))) :
    X.cell? ⟨b, 0, none⟩ = some v0 ∧ X.cell? ⟨b, 1, none⟩ = some v1 ∧ X.cell? ⟨b, 2, none⟩ = some v2 := by
  refine ⟨?_, ?_, ?_⟩ <;> simp [World.cell?, h]
/-- the clips l behind the address a, not in block A -/
def KlsX (A : Nat) (w : World) (a : Option Addr) (l : List Kl) : Prop := Kls w a l ∧ (l ≠ [] → ∀ b o, a = some ⟨b, o, none⟩ → b ≠ A)
theorem KlsX.keep {A : Nat} {X Y : World} {a : Option Addr} {l : List Kl} (h : KlsX A X a l) (hk : KeepX A A X Y) : KlsX A Y a l := by
  refine ⟨fun j x hx => ?_, h.2⟩
  obtain ⟨b, o, e, h1, c0, c1, c2⟩ := h.1 j x hx
  have hb := h.2 (by intro hn; rw [hn] at hx; simp at hx) b o e
  exact ⟨b, o, e, Nat.lt_of_lt_of_le h1 hk.1, keepX_cell hk hb c0, keepX_cell hk hb c1, keepX_cell hk hb c2⟩
theorem keepX_b {A : Nat} {w : World} (W : World) (l : Nat) (o o' : Obj) (hl : w.heap.size ≤ l) (h : W.heap[l]? = some o) (ho : o.isCells = false) (_ : o.isWalk = false) : KeepX A A W (W.putObj l o') := KeepX.putObj h ho

set_option maxRecDepth 100000 in
set_option maxHeartbeats 4000000 in
theorem placed_in (n l0 A Bs : Nat) (a : Option Addr) (cap : Nat) (l : List Kl) (hl : l.length ≤ 300) (hA : AOk l) (W : World) (hk : KlsX A W a l) (hA2 : A < W.heap.size) (hBs : W.cell? ⟨Bs, 0, none⟩ = some (.slice a l.length cap))
    (J Jx : List (Fin l.length) → World → Prop) (hJ : ∀ s X Y, J s X → X.grownBy Y none → J s Y)
    (hY : ∀ pre x W1, J pre W1 → pre.length < l.length → YieldAt Fence.wide (n - 1) Tryz.prog l0 (plv l x.1) W1 fun e W' =>
      (e = .returned (.bool true) ∧ J (pre ++ [x]) W' ∧ KeepX A A W1 W') ∨ (e = .returned (.bool false) ∧ Jx (pre ++ [x]) W'))
    (h0 : J [] W) :
    CallsIn Fence.wide n Tryz.prog 152 #[.func (.yield l0) #[] #[], .pointer (some ⟨Bs, 0, none⟩)] W fun e W' => (∃ v, e = .returned v) ∧ ((∃ xs, xs = List.finRange l.length ∧ J xs W') ∨ (∃ pre, (∃ k, k ≤ l.length ∧ pre = (List.finRange l.length).take k) ∧ Jx pre W')) := by
  refine callsIn_of_wp Tryz.func152 rfl trivial ?_ rfl
  simp only [Tryz.ntmps152, List.size_toArray, List.length_cons, List.length_nil, Nat.reduceAdd, Nat.reduceSub, Array.replicate_succ, Array.replicate_zero, List.push_toArray, List.append_toArray, List.nil_append, List.cons_append]
  have hk' := hide hk
  have hA' := hide hA
  have hY' := hide hY
  have hJ' := hide hJ
  have h0' := hide h0
  clear hk hA hY hJ h0
  gi_wp2
  gi_loopw [3, 8] (fun s i wr => ∃ k : Nat, k ≤ l.length ∧ i = .int .i64 k ∧ s = .int .i64 (clen (l.take k)) ∧ Hid (J ((List.finRange l.length).take k) wr) ∧ Hid (KlsX A wr a l) ∧ A < wr.heap.size)
    (fun _ i _ => l.length - (intOf i).toNat)
  case atStart => exact ⟨0, Nat.zero_le _, rfl, by simp [clen], hide (by simpa using unhide h0'), hk', hA2⟩
  case round =>
    clear h0' hk' hA2 hBs
    obtain ⟨k, hkl, rfl, rfl, hJs, hks, hAw⟩ := hrel
    by_cases hlt : k < l.length
    · obtain ⟨b, o, x1, x2, x3, rfl, hx, d0, d1, d2⟩ := kls_at (unhide hks).1 (Below.refl _ _) hlt
      have hc := (unhide hA') _ (List.mem_of_getElem? hx)
      obtain ⟨n0, n1, i0, i1, _⟩ := hc
      simp only at n0 n1 i0 i1
      obtain ⟨q0, q1⟩ := take_bd ((unhide hA').take k) hkl
      obtain ⟨W1, hW1⟩ : ∃ W1, wr.alloc (.cells #[.int .i64 x1, .int .i64 x2, .int .i64 x3] 94) = W1 := ⟨_, rfl⟩
      have hg1 : wr.grownBy W1 none := by rw [← hW1]; exact World.grownBy_alloc _ _ _
      have hJ1 := (unhide hJ') _ _ _ (unhide hJs) hg1
      have hc1 : W1.heap[wr.heap.size]? = some (.cells #[.int .i64 x1, .int .i64 x2, .int .i64 x3] 94 (0, 0)) := by rw [← hW1]; exact World.alloc_heap_new _ _
      have hkX : KeepX A A wr W1 := by rw [← hW1]; exact keepX_alloc _ _
      obtain ⟨fn, tmps, assign, body, hy, hR⟩ := (unhide hY') _ ⟨k, hlt⟩ W1 hJ1 (by rw [List.length_take, List.length_finRange]; omega)
      have hpv : plv l k = #[.int .i64 (clen (l.take k)), .agg #[.int .i64 x1, .int .i64 x2, .int .i64 x3]] := by unfold plv; rw [kAt_eq hx]
      have hy' : (Instr.yield l0 #[.int .i64 (clen (l.take k)), .agg #[.int .i64 x1, .int .i64 x2, .int .i64 x3]]).run Tryz.prog W1 = .ok (.round l0 fn tmps assign body) W1 := by rw [← hpv]; exact hy
      have ho := hide (clen_take hx)
      have hg1' := hide hg1
      have hc1' := hide hc1
      have hkX' := hide hkX
      clear hy hg1 hc1 hJ1 hx hkX hpv
      generalize clen (l.take k) = ck at *
      subst hW1
      gi_wp2_with fail
      refine ⟨fun h => by simp [Fence.wide] at h, hR.mono ?_⟩
      rintro e W3 (⟨rfl, hJ3, hk3⟩ | ⟨rfl, hJx3⟩)
      · have C3 := hk3.2 _ _ (unhide hc1') rfl (by omega) (by omega)
        have hks3 := hide (((unhide hks).keep (unhide hkX')).keep hk3)
        have hA3 : A < W3.heap.size := Nat.lt_of_lt_of_le (Nat.lt_of_lt_of_le hAw (unhide hkX').1) hk3.1
        obtain ⟨z0, z1, z2⟩ := blk3' C3
        have hJ3' := hide hJ3
        clear d0 d1 d2 hy' hR hg1' hc1' hJs hks hJ3 hk3 C3 hkX'
        generalize wr.heap.size = cb at *
        gi_wp2
        go_roundw
        case rel => exact ⟨k + 1, by omega, by go_num, by rw [unhide ho], hide (by rw [fin_take hlt]; exact unhide hJ3'), hks3, hA3⟩
        case measure => simp [intOf]; omega
      · gi_wp2
        refine bodyPost_ret (results_none rfl _ _ _) rfl ?_
        exact ⟨⟨_, rfl⟩, .inr ⟨_, ⟨k + 1, by omega, (fin_take hlt).symm⟩, hJx3⟩⟩
    · have hke : k = l.length := by omega
      clear hks
      gi_wp2
      go_end0
      refine ⟨⟨_, rfl⟩, .inl ⟨_, rfl, ?_⟩⟩
      have := unhide hJs
      rw [hke, List.take_of_length_le (by simp)] at this
      exact this

theorem placed_stops (n A Bs : Nat) (a : Option Addr) (cap : Nat) (l : List Kl) (hl : l.length ≤ 300) (hA : AOk l) (w : World) (hk : KlsX A w a l) (hA2 : A < w.heap.size) (hBl : Bs < w.heap.size) (hBs : w.cell? ⟨Bs, 0, none⟩ = some (.slice a l.length cap)) :
    SeqStopsK Fence.wide n Tryz.prog 152 #[.pointer (some ⟨Bs, 0, none⟩)] (fun x : Fin l.length => plv l x.1) (KeepX A A) (fun xs => xs = List.finRange l.length) (fun pre => ∃ k, k ≤ l.length ∧ pre = (List.finRange l.length).take k) l.length w :=
  fun l0 J Jx W hW hJ hJx hY h0 => placed_in n l0 A Bs a cap l hl hA W ⟨hk.1.below hW, hk.2⟩ (Nat.lt_of_lt_of_le hA2 hW.size) ((hW.cell (p := ⟨Bs, 0, none⟩) hBl).trans hBs) J Jx (fun s X Y h hg => hJ s X Y none h hg (fun r e => by cases e)) hY h0

set_option maxHeartbeats 1000000 in
theorem placed_any (a : Option Addr) (len cap : Nat) (w : World) :
    Calls Tryz.prog 132 #[.slice a len cap] w fun e w' => e = .returned (.func (.func 152) #[] #[.pointer (some ⟨w.heap.size, 0, none⟩)]) ∧ w' = w.alloc (.cells #[.slice a len cap] 78) := by
  go_enter Tryz.func132, Tryz.ntmps132
  go_wp2
  go_ret
  exact ⟨rfl, rfl⟩

end Go.Proofs.YtioaehjppiodfaaGreatDoor
