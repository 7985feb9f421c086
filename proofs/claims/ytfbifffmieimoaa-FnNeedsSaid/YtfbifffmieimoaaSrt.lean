/-
  The library's sort over an owned list of reels: what it holds then is what it held, sorted by source and beginning.
-/
import Derived.Test.YtfbifffmieimoaaCmp
import Derived.Test.YtfbifffmieimoaaShelf
namespace Go.Proofs.Ytfbifffmieimoaa.Rl
open Go.RowKit Go.Lib Go.Shelf
open Go.Proofs.Ytfbifffmieimoaa
set_option linter.unusedVariables false
set_option linter.unusedSimpArgs false

def encK (x : Kl) : List Value := [iv x.1, iv x.2.1, iv x.2.2]
theorem ltK (x y : Kl) : ltOf cmpK x y = true ↔ ¬ kle y x := by
  unfold ltOf cmpK orI cmpI kle
  rw [decide_eq_true_iff]
  by_cases h1 : x.1 < y.1
  · simp [h1]; omega
  · by_cases h2 : y.1 < x.1
    · simp [h1, h2]
    · have e : x.1 = y.1 := by omega
      simp only [h1, h2, if_false, if_true]
      by_cases h3 : x.2.1 < y.2.1
      · simp [h3, e]
      · by_cases h4 : y.2.1 < x.2.1
        · simp [h3, h4, e] <;> omega
        · simp [h3, h4, e] <;> omega
theorem ltK_no (x y : Kl) : ltOf cmpK x y = false ↔ kle y x := by
  rw [← Bool.not_eq_true, ltK]
  exact Decidable.not_not
theorem swoK : Sort.SWO (ltOf cmpK) := {
  irrefl := fun x => by rw [ltK_no]; unfold kle; omega
  trans := fun x y z h1 h2 => by rw [ltK] at *; unfold kle at *; omega
  ntrans := fun x y z h1 h2 => by rw [ltK_no] at *; unfold kle at *; omega }
theorem flat_eq (l : List Kl) : Sort.flatK encK 3 l.toArray = (flK l).toArray := by
  apply Array.ext
  · simp [flK_len]
  · intro i h1 h2
    have h1' : i < l.length * 3 := by simpa using h1
    have hj : i / 3 < l.length := by omega
    have hg := flK_get (List.getElem?_eq_getElem hj)
    have e := Sort.get_flatK encK 3 l.toArray i (by simpa using h1')
    rw [getElem!_pos _ i h1] at e
    rw [e]
    have e2 : l.toArray[i / 3]! = l[i / 3] := by rw [getElem!_pos _ _ (by simpa using hj)]; simp
    rw [e2]
    have hm : i % 3 = 0 ∨ i % 3 = 1 ∨ i % 3 = 2 := by omega
    have hd : i / 3 * 3 + i % 3 = i := by omega
    have hsome : (flK l)[i]? = some ((flK l).toArray[i]) := by rw [List.getElem?_eq_getElem (by rw [flK_len]; omega)]; simp
    obtain ⟨g0, g1, g2⟩ := hg
    rcases hm with h | h | h
    · have e3 : i / 3 * 3 = i := by omega
      rw [e3, hsome] at g0; injection g0 with g0; rw [g0, h]; rfl
    · have e3 : i / 3 * 3 + 1 = i := by omega
      rw [e3, hsome] at g1; injection g1 with g1; rw [g1, h]; rfl
    · have e3 : i / 3 * 3 + 2 = i := by omega
      rw [e3, hsome] at g2; injection g2 with g2; rw [g2, h]; rfl
theorem holds_own {w : World} {B g n cap : Nat} {l : List Kl} (h : Own w B g n cap l) : Sort.HoldsK encK 3 w g 0 l.toArray := by
  intro j hj
  have hl := own_len h
  rw [flat_eq] at hj ⊢
  have hj' : j < n * 3 := by simp [flK_len] at hj; omega
  rw [Nat.zero_add]
  refine ⟨?_, h.frozenAt j⟩
  rw [h.cellAt j hj', getElem!_pos _ j hj]
  simp
theorem own_sorted {w : World} {B g n : Nat} {l l' : List Kl} {m : Nat} {os : Array Obj} (h : Own w B g n n l) (hl : l'.length = l.length) :
    Own (sortWorldK encK 3 w g 0 m l'.toArray os) B g n n l' ∧ w.grownBy (sortWorldK encK 3 w g 0 m l'.toArray os) (some g) := by
  have hgl := own_lt h
  have hsz := own_len h
  have hge := own_ge h
  have hl3 : (flK l').length = n * 3 := by rw [flK_len]; omega
  have hbl : ∀ k, k < w.heap.size → (sortWorldK encK 3 w g 0 m l'.toArray os).heap[k]? = (Sort.putRowK encK 3 w g 0 l'.toArray).heap[k]? := by
    intro k hk
    unfold sortWorldK Sort.grow
    show ((Sort.putRowK encK 3 (Sort.ahead w m) g 0 l'.toArray).heap ++ os)[k]? = _
    rw [Array.getElem?_append_left (by unfold Sort.putRowK Sort.putRow Sort.mapBlock Sort.ahead; simpa using hk)]
    rfl
  constructor
  · refine ⟨hl3, ?_⟩
    obtain ⟨h1, h2⟩ := h
    rcases h2 with ⟨hv, _⟩ | ⟨g', cap', cur, hv, hB, hh, hc, hm, hcs, htk⟩
    · cases hv
    · injection hv with e1 e2 e3
      injection e1 with e1
      injection e1 with e1
      subst e1 e3
      refine Or.inr ⟨g, n, Sort.putCells id 0 (flK l').toArray cur, rfl, hB, ?_, hc, hm, by simpa [Sort.putCells] using hcs, ?_⟩
      · rw [hbl g hgl]
        unfold Sort.putRowK Sort.putRow Sort.mapBlock
        rw [flat_eq]
        simp only [Array.getElem?_modify, if_true, hh, Option.map_some]
        rfl
      · apply List.ext_getElem
        · simp [Sort.putCells, hl3, hcs]
        · intro i h3 h4
          have hi : i < n * 3 := by omega
          simp [Sort.putCells, hl3, hi]
  · refine ⟨rfl, rfl, rfl, ?_, fun k hk hn => ?_⟩
    · unfold sortWorldK
      rw [Sort.size_grow]
      unfold Sort.putRowK Sort.putRow Sort.mapBlock Sort.ahead
      simp
    · rw [hbl k hk]
      unfold Sort.putRowK Sort.putRow Sort.mapBlock
      have : g ≠ k := fun e => hn (by rw [e])
      simp [Array.getElem?_modify, this]

set_option maxHeartbeats 1000000 in
theorem sort_any (B g n : Nat) (l : List Kl) (w : World) (h : Own w B g n n l) (hn : n ≤ 1000000) :
    Calls Try.prog 61 #[.slice (some ⟨g, 0, none⟩) n n, .func (.func 54) #[] #[]] w fun e w' => e = .returned (.tuple #[]) ∧ ∃ l' : List Kl, l'.Perm l ∧ l'.Pairwise kle ∧ Own w' B g n n l' ∧ w.grownBy w' (some g) := by
  have hl := own_len h
  have eg : ∀ args w, (callFunc 54 args).run Try.prog w = .ok (.enter 54 args) w := enters_of Try.func54 (by kernel_rfl) rfl
  have hcon := AnyQ.slices_SortFunc Try.sortR 3 Try.isAgg34 Try.sizeOf34 encK (fun _ => rfl) (fun x v hv => by simp [encK] at hv; rcases hv with rfl | rfl | rfl <;> rfl) cmpK swoK 54 #[] g 0 n l.toArray w eg (fun m os dk hd x y => by_any x y _) (holds_own h) (own_lt h) (by simp; omega)
  have es : l.toArray.size = n := by simp [hl]
  rw [es] at hcon
  refine Calls.mono hcon ?_
  rintro e w' ⟨rfl, d', m, os, hp, hs, rfl⟩
  obtain ⟨p1, p2, p3⟩ := hp
  have hd : d'.size = n := by rw [p1]; exact es
  have e1 : d'.extract 0 n = d' := by rw [← hd]; simp
  have e2 : l.toArray.extract 0 n = l.toArray := by rw [← es]; simp
  rw [e1, e2] at p3
  have hlen : d'.toList.length = l.length := p3.length_eq
  have hq := own_sorted (m := m) (os := os) h hlen
  have e3 : d'.toList.toArray = d' := by simp
  rw [e3] at hq
  refine ⟨rfl, d'.toList, p3, ?_, hq.1, hq.2⟩
  rw [List.pairwise_iff_getElem]
  intro i j hi hj hij
  have := hs i j (Nat.zero_le _) hij (by simp at hj; omega)
  rw [ltK_no] at this
  rw [getElem!_pos _ i (by simpa using hi), getElem!_pos _ j (by simpa using hj)] at this
  simpa using this

end Go.Proofs.Ytfbifffmieimoaa.Rl
