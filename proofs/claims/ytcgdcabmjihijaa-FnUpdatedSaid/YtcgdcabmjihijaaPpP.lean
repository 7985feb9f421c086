/-
  Packages made of names and bodies, as plain values: a list that rises by name and has the same assets is one; no conditions.
-/
import Derived.Test.YtcgdcabmjihijaaUpP
import Derived.Test.YtcgdcabmjihijaaDgP
namespace Go.Proofs.Ytcgdcabmjihijaa
open Go.RowKit
set_option linter.unusedVariables false
set_option linter.unusedSimpArgs false

theorem bl_tot : ∀ (x y : List UInt8), Op.bytesLess x y = false → x ≠ y → Op.bytesLess y x = true
  | [], [], _, h => absurd rfl h
  | [], _ :: _, h, _ => by simp [Op.bytesLess] at h
  | _ :: _, [], _, _ => by simp [Op.bytesLess]
  | a :: x, b :: y, h, hne => by
    simp only [Op.bytesLess, Bool.or_eq_false_iff, Bool.and_eq_false_iff, decide_eq_false_iff_not, Bool.or_eq_true, Bool.and_eq_true, decide_eq_true_eq, beq_iff_eq] at h ⊢
    obtain ⟨h1, h2⟩ := h
    by_cases e : a = b
    · subst e
      refine .inr ⟨rfl, bl_tot x y ?_ (fun e => hne (by rw [e]))⟩
      rcases h2 with h2 | h2
      · simp at h2
      · exact h2
    · left
      rw [UInt8.lt_iff_toNat_lt] at h1 ⊢
      have : a.toNat ≠ b.toNat := fun h => e (UInt8.toNat_inj.1 h)
      omega
theorem bef_tot {a b : ByteArray} (h : bef a b = false) (hne : (a.toList == b.toList) = false) : bef b a = true :=
  bl_tot _ _ h (by intro e; rw [e] at hne; simp at hne)
/-- the asset of a name and a body -/
def ass (n : ByteArray) (t : List Int) : Kl := (n, (t.length : Int), dig t)
def pkL (ns : List ByteArray) (ts : List (List Int)) : List Kl := List.zipWith ass ns ts
def Rise (l : List Kl) : Prop := l.Pairwise fun x y => bef x.1 y.1 = true
/-- names and bodies of which a package can be made -/
structure Good (ns : List ByteArray) (ts : List (List Int)) : Prop where
  len : ns.length = ts.length
  few : ns.length ≤ 100
  nms : ∀ n ∈ ns, nmOk n = true
  bds : ∀ t ∈ ts, t.length ≤ 40000
  one : ns.Nodup
def PkQ (ns : List ByteArray) (ts : List (List Int)) (L : List Kl) (ok : Bool) : Prop := (ok = true ∧ Good ns ts ∧ L.Perm (pkL ns ts) ∧ Rise L) ∨ (ok = false ∧ L = [] ∧ ¬ Good ns ts)
theorem Rise.uniq : ∀ {L M : List Kl}, L.Perm M → Rise L → Rise M → L = M
  | [], M, hp, _, _ => by rw [List.nil_perm] at hp; exact hp.symm
  | x :: L, [], hp, _, _ => by simp at hp
  | x :: L, y :: M, hp, h1, h2 => by
    have hxy : x = y := by
      have hx : x ∈ y :: M := hp.mem_iff.1 (List.mem_cons_self ..)
      have hy : y ∈ x :: L := hp.mem_iff.2 (List.mem_cons_self ..)
      rcases List.mem_cons.1 hx with e | hx
      · exact e
      · rcases List.mem_cons.1 hy with e | hy
        · exact e.symm
        · have a1 := (List.pairwise_cons.1 h1).1 y hy
          have a2 := (List.pairwise_cons.1 h2).1 x hx
          have := bef_trans a1 a2
          rw [bef_irr] at this; cases this
    subst hxy
    rw [Rise.uniq (List.Perm.cons_inv hp) (List.pairwise_cons.1 h1).2 (List.pairwise_cons.1 h2).2]
/-- a place in the list is held by y -/
def shf (L : List Kl) (k : Nat) (y : Kl) : List Kl := L.take k ++ y :: L.drop k
theorem shf_len {L : List Kl} {k : Nat} {y : Kl} (h : k ≤ L.length) : (shf L k y).length = L.length + 1 := by simp [shf]; omega
theorem shf_end (L : List Kl) (y : Kl) : shf L L.length y = L ++ [y] := by simp [shf]
theorem shf_at {L : List Kl} {k : Nat} {y : Kl} (h : k ≤ L.length) : (shf L k y)[k]? = some y := by
  have e : (L.take k).length = k := by simp; omega
  unfold shf; rw [List.getElem?_append_right (by omega), e]; simp
theorem shf_pre {L : List Kl} {k j : Nat} {y : Kl} (h : k ≤ L.length) (hj : j < k) : (shf L k y)[j]? = L[j]? := by
  unfold shf; rw [List.getElem?_append_left (by simp; omega), List.getElem?_take_of_lt hj]
theorem shf_set {L : List Kl} {k : Nat} {y x : Kl} (h : k ≤ L.length) : (shf L k y).set k x = shf L k x := by
  have e : (L.take k).length = k := by simp; omega
  unfold shf; rw [List.set_append_right _ _ (by omega), e]; simp
theorem shf_dec {L : List Kl} {k : Nat} {z : Kl} (h : k + 1 ≤ L.length) (hz : L[k]? = some z) : shf L (k + 1) z = shf L k z := by
  unfold shf
  obtain ⟨h1, h2⟩ := List.getElem?_eq_some_iff.1 hz
  rw [take_snocK hz, List.drop_eq_getElem_cons h1, h2]; simp
theorem shf_perm (L : List Kl) (k : Nat) (x : Kl) : (shf L k x).Perm (L ++ [x]) := by
  unfold shf
  refine List.perm_middle.trans ?_
  rw [List.take_append_drop]
  exact (List.perm_append_singleton x L).symm
theorem shf_rise {L : List Kl} {k : Nat} {x : Kl} (h : Rise L) (h1 : ∀ (j : Nat) (y : Kl), j < k → L[j]? = some y → bef y.1 x.1 = true) (h2 : ∀ (j : Nat) (y : Kl), k ≤ j → L[j]? = some y → bef x.1 y.1 = true) : Rise (shf L k x) := by
  unfold Rise shf
  have h' := h
  unfold Rise at h'
  rw [← List.take_append_drop k L, List.pairwise_append] at h'
  obtain ⟨p1, p2, p3⟩ := h'
  have hd : ∀ y ∈ L.drop k, bef x.1 y.1 = true := fun y hy => by
    obtain ⟨j, hj⟩ := List.getElem?_of_mem hy
    rw [List.getElem?_drop] at hj
    exact h2 _ y (by omega) hj
  have ht : ∀ y ∈ L.take k, bef y.1 x.1 = true := fun y hy => by
    obtain ⟨j, hj⟩ := List.getElem?_of_mem hy
    have hjk : j < k := by have := (List.getElem?_eq_some_iff.1 hj).1; simp at this; omega
    rw [List.getElem?_take_of_lt hjk] at hj
    exact h1 j y hjk hj
  rw [List.pairwise_append]
  refine ⟨p1, List.pairwise_cons.2 ⟨hd, p2⟩, fun a ha b hb => ?_⟩
  rcases List.mem_cons.1 hb with rfl | hb
  · exact ht a ha
  · exact p3 a ha b hb
theorem rise_pre {L : List Kl} {k : Nat} {z x : Kl} (h : Rise L) (hz : L[k]? = some z) (hx : bef z.1 x.1 = true) : ∀ (j : Nat) (y : Kl), j < k + 1 → L[j]? = some y → bef y.1 x.1 = true := by
  intro j y hj hy
  by_cases e : j = k
  · subst e; rw [hz] at hy; injection hy with hy; subst hy; exact hx
  · obtain ⟨h1, h2⟩ := List.getElem?_eq_some_iff.1 hy
    obtain ⟨h3, h4⟩ := List.getElem?_eq_some_iff.1 hz
    have := List.pairwise_iff_getElem.1 h j k h1 h3 (by omega)
    rw [h2, h4] at this
    exact bef_trans this hx
theorem pkL_snoc {ns : List ByteArray} {ts : List (List Int)} {k : Nat} {n : ByteArray} {t : List Int} (hn : ns[k]? = some n) (ht : ts[k]? = some t) : (pkL ns ts).take (k + 1) = (pkL ns ts).take k ++ [ass n t] := by
  have : (pkL ns ts)[k]? = some (ass n t) := by simp [pkL, List.getElem?_zipWith, hn, ht]
  exact take_snocK this
theorem pkL_len {ns : List ByteArray} {ts : List (List Int)} (h : ns.length = ts.length) : (pkL ns ts).length = ns.length := by simp [pkL, h]
theorem bad_nm {ns : List ByteArray} {ts : List (List Int)} {k : Nat} {n : ByteArray} (hn : ns[k]? = some n) (h : nmOk n = false) : ¬ Good ns ts := fun g => by rw [g.nms n (List.mem_of_getElem? hn)] at h; cases h
theorem bad_bd {ns : List ByteArray} {ts : List (List Int)} {k : Nat} {t : List Int} (hn : ts[k]? = some t) (h : 40000 < t.length) : ¬ Good ns ts := fun g => by have := g.bds t (List.mem_of_getElem? hn); omega
theorem bad_two {ns : List ByteArray} {ts : List (List Int)} {k i : Nat} {n : ByteArray} {z : Kl} {L : List Kl} (hn : ns[k]? = some n) (hp : L.Perm ((pkL ns ts).take k)) (hz : L[i]? = some z) (he : (z.1.toList == n.toList) = true) : ¬ Good ns ts := fun g => by
  have hm : z ∈ (pkL ns ts).take k := hp.mem_iff.1 (List.mem_of_getElem? hz)
  obtain ⟨j, hj⟩ := List.getElem?_of_mem hm
  have hjk : j < k := by have := (List.getElem?_eq_some_iff.1 hj).1; simp at this; omega
  rw [List.getElem?_take_of_lt hjk] at hj
  have hkl := (List.getElem?_eq_some_iff.1 hn).1
  have hl := g.len
  have e1 : ns[j]? = some (ns[j]'(by omega)) := List.getElem?_eq_getElem (by omega)
  have e2 : ts[j]? = some (ts[j]'(by omega)) := List.getElem?_eq_getElem (by omega)
  simp only [pkL, List.getElem?_zipWith, e1, e2] at hj
  injection hj with hj
  have e3 : z.1 = ns[j]'(by omega) := by rw [← hj]; rfl
  have e4 := nmEq he
  have := List.pairwise_iff_getElem.1 g.one j k (by omega) hkl hjk
  apply this
  rw [← e3, e4]
  exact (List.getElem?_eq_some_iff.1 hn).2.symm
theorem good_of {ns : List ByteArray} {ts : List (List Int)} {L : List Kl} (hl : ns.length = ts.length) (hf : ns.length ≤ 100) (h1 : ∀ (j : Nat) (n : ByteArray), ns[j]? = some n → nmOk n = true) (h2 : ∀ (j : Nat) (t : List Int), ts[j]? = some t → t.length ≤ 40000) (hp : L.Perm (pkL ns ts)) (hr : Rise L) : Good ns ts := by
  refine ⟨hl, hf, fun n hn => ?_, fun t ht => ?_, ?_⟩
  · obtain ⟨j, hj⟩ := List.getElem?_of_mem hn; exact h1 j n hj
  · obtain ⟨j, hj⟩ := List.getElem?_of_mem ht; exact h2 j t hj
  · have hm : (L.map (·.1)).Perm ((pkL ns ts).map (·.1)) := hp.map _
    have he : (pkL ns ts).map (·.1) = ns := by
      apply List.ext_getElem?
      intro j
      by_cases hj : j < ns.length
      · have e1 : ns[j]? = some (ns[j]'hj) := List.getElem?_eq_getElem hj
        have e2 : ts[j]? = some (ts[j]'(by omega)) := List.getElem?_eq_getElem (by omega)
        simp only [List.getElem?_map, pkL, List.getElem?_zipWith, e1, e2]; rfl
      · rw [List.getElem?_eq_none (by simp [pkL_len hl]; omega), List.getElem?_eq_none (by omega)]
    rw [he] at hm
    refine hm.nodup_iff.1 ?_
    refine List.Pairwise.map _ (fun a b hab e => ?_) hr
    rw [e, bef_irr] at hab; cases hab

end Go.Proofs.Ytcgdcabmjihijaa
