/-
  The library's sort laid at this program's own numbers: slices.SortFunc over assets.
  The library's sort over an owned list of assets: what it holds then is what it held, and no name stands ahead of one that is less.
  What the program's Pack answers is what the model's answers, as plain values; no conditions.
  Contracts of the law's functions that weigh, copy and hold against each other lists of lists of bytes, and write marks into them.
-/
import Derived.Shelf.SlSortCmp.WholeK
import Derived.Test.YtghglpcfpokmhaaProg
import Derived.Test.YtghglpcfpokmhaaZLv
import Derived.Test.YtghglpcfpokmhaaZUp1
import Derived.Test.YtghglpcfpokmhaaZPk
import Derived.Sort.Grow
namespace Go.Proofs
open Go.Shelf
def Try.sortR_ren : Go.Shelf.Ren := ⟨fun | 6 => 19 | 15 => 37 | 14 => 36 | 28 => 67 | 29 => 68 | 20 => 59 | 21 => 60 | 22 => 61 | 23 => 62 | 24 => 63 | 25 => 64 | 26 => 65 | 27 => 66 | 46 => 77 | 47 => 78 | 48 => 79 | 49 => 80 | 50 => 81 | 57 => 83 | n => n, fun | 22 => 28 | 24 => 38 | 25 => 48 | 3 => 3 | 39 => 74 | 0 => 0 | 53 => 68 | 55 => 65 | 4 => 4 | 46 => 96 | 45 => 95 | 50 => 55 | 5 => 5 | 9 => 9 | 66 => 110 | 70 => 113 | 76 => 115 | 77 => 116 | n => n, fun | n => n⟩
theorem Try.sortR : Go.Proofs.SlLaysF0.n6 Try.prog Try.sortR_ren := {
  mixed := by kernel_rfl
  f6 := ⟨Try.f19.name, by decide, Try.func19.trans (congrArg some (by kernel_rfl))⟩
  f14 := ⟨Try.f36.name, by decide, Try.func36.trans (congrArg some (by kernel_rfl))⟩
  f15 := Try.func37.trans (congrArg some (by kernel_rfl))
  f20 := ⟨Try.f59.name, by decide, Try.func59.trans (congrArg some (by kernel_rfl))⟩
  f21 := ⟨Try.f60.name, by decide, Try.func60.trans (congrArg some (by kernel_rfl))⟩
  f22 := ⟨Try.f61.name, by decide, Try.func61.trans (congrArg some (by kernel_rfl))⟩
  f23 := ⟨Try.f62.name, by decide, Try.func62.trans (congrArg some (by kernel_rfl))⟩
  f24 := ⟨Try.f63.name, by decide, Try.func63.trans (congrArg some (by kernel_rfl))⟩
  f25 := ⟨Try.f64.name, by decide, Try.func64.trans (congrArg some (by kernel_rfl))⟩
  f26 := ⟨Try.f65.name, by decide, Try.func65.trans (congrArg some (by kernel_rfl))⟩
  f27 := ⟨Try.f66.name, by decide, Try.func66.trans (congrArg some (by kernel_rfl))⟩
  f28 := Try.func67.trans (congrArg some (by kernel_rfl))
  f29 := Try.func68.trans (congrArg some (by kernel_rfl))
  f46 := ⟨Try.f77.name, by decide, Try.func77.trans (congrArg some (by kernel_rfl))⟩
  f47 := Try.func78.trans (congrArg some (by kernel_rfl))
  f48 := Try.func79.trans (congrArg some (by kernel_rfl))
  f49 := ⟨Try.f80.name, by decide, Try.func80.trans (congrArg some (by kernel_rfl))⟩
  f50 := ⟨Try.f81.name, by decide, Try.func81.trans (congrArg some (by kernel_rfl))⟩
  f57 := ⟨Try.f83.name, by decide, Try.func83.trans (congrArg some (by kernel_rfl))⟩
  t0 := Try.underlying0
  a0 := Try.isAgg0
  z0 := Try.sizeOf0
  v0 := Try.zeroValue0
  t3 := Try.underlying3
  a3 := Try.isAgg3
  z3 := Try.sizeOf3
  v3 := Try.zeroValue3
  t4 := Try.underlying4
  a4 := Try.isAgg4
  z4 := Try.sizeOf4
  v4 := Try.zeroValue4
  t5 := Try.underlying5
  a5 := Try.isAgg5
  z5 := Try.sizeOf5
  v5 := Try.zeroValue5
  t9 := Try.underlying9
  a9 := Try.isAgg9
  z9 := Try.sizeOf9
  v9 := Try.zeroValue9
  t22 := Try.underlying28
  a22 := Try.isAgg28
  z22 := Try.sizeOf28
  v22 := Try.zeroValue28
  t25 := Try.underlying48
  a25 := Try.isAgg48
  z25 := Try.sizeOf48
  v25 := Try.zeroValue48
  t39 := Try.underlying74
  a39 := Try.isAgg74
  z39 := Try.sizeOf74
  v39 := Try.zeroValue74
  t45 := Try.underlying95
  a45 := Try.isAgg95
  z45 := Try.sizeOf95
  v45 := Try.zeroValue95
  t46 := Try.underlying96
  a46 := Try.isAgg96
  z46 := Try.sizeOf96
  v46 := Try.zeroValue96
  t50 := Try.underlying55
  a50 := Try.isAgg55
  z50 := Try.sizeOf55
  v50 := Try.zeroValue55
  t53 := Try.underlying68
  a53 := Try.isAgg68
  z53 := Try.sizeOf68
  v53 := Try.zeroValue68
  t55 := Try.underlying65
  a55 := Try.isAgg65
  z55 := Try.sizeOf65
  v55 := Try.zeroValue65
  t66 := Try.underlying110
  a66 := Try.isAgg110
  z66 := Try.sizeOf110
  v66 := Try.zeroValue110
  t70 := Try.underlying113
  a70 := Try.isAgg113
  z70 := Try.sizeOf113
  v70 := Try.zeroValue113
  t76 := Try.underlying115
  a76 := Try.isAgg115
  z76 := Try.sizeOf115
  v76 := Try.zeroValue115
  t77 := Try.underlying116
  a77 := Try.isAgg116
  z77 := Try.sizeOf116
  v77 := Try.zeroValue116 }
end Go.Proofs

namespace Go.Proofs.Ytghglpcfpokmhaa
open Go.RowKit Go.Lib Go.Shelf
set_option linter.unusedVariables false
set_option linter.unusedSimpArgs false

def encK (x : Kl) : List Value := [sv x.1, iv x.2.1, iv x.2.2]
def cmpK (x y : Kl) : Int := cmpV x.1 y.1
/-- x may stand ahead of y -/
def kle (x y : Kl) : Prop := bef y.1 x.1 = false
theorem ltK_eq (x y : Kl) : ltOf cmpK x y = bef x.1 y.1 := by
  unfold ltOf cmpK cmpV
  cases h : bef x.1 y.1
  · cases h2 : bef y.1 x.1 <;> rfl
  · rfl
theorem ltK_no (x y : Kl) : ltOf cmpK x y = false ↔ kle y x := by rw [ltK_eq]; rfl
theorem bef_ntrans {x y z : ByteArray} (h1 : bef x y = false) (h2 : bef y z = false) : bef x z = false := by
  cases h : bef x z with
  | false => rfl
  | true =>
    cases e : (y.toList == z.toList) with
    | true => rw [nmEq e] at h1; rw [h] at h1; cases h1
    | false => rw [bef_trans h (bef_tot h2 e)] at h1; cases h1
theorem swoK : Sort.SWO (ltOf cmpK) := {
  irrefl := fun x => by rw [ltK_eq]; exact bef_irr _
  trans := fun x y z h1 h2 => by rw [ltK_eq] at *; exact bef_trans h1 h2
  ntrans := fun x y z h1 h2 => by rw [ltK_eq] at *; exact bef_ntrans h1 h2 }
theorem by_any (x y : Kl) (W : World) : Calls Try.prog 20 #[.agg #[.string x.1, .int .i64 x.2.1, .int .i64 x.2.2], .agg #[.string y.1, .int .i64 y.2.1, .int .i64 y.2.2]] W fun e w' => e = .returned (.int .i64 (cmpK x y)) ∧ ∃ q os, w' = Sort.grow (W.drewN q) os := by
  obtain ⟨s, p, q⟩ := x
  obtain ⟨s', p', q'⟩ := y
  show Calls Try.prog 20 #[.agg #[.string s, .int .i64 p, .int .i64 q], .agg #[.string s', .int .i64 p', .int .i64 q']] W fun e w' => e = .returned (.int .i64 (cmpV s s')) ∧ ∃ q os, w' = Sort.grow (W.drewN q) os
  go_enter Try.func20, Try.ntmps20
  go_wp2_with fail
  refine (cmp_any s s' _).mono ?_
  rintro e w1 ⟨rfl, hw0⟩
  have hw1 := hw0.symm
  subst hw1
  go_wp2
  go_ret
  exact ⟨rfl, 0, _, by rw [Sort.alloc_eq_grow, Sort.alloc_eq_grow, Sort.grow_grow]; rfl⟩
theorem flat_eq (l : List Kl) : Sort.flatK encK 3 l.toArray = (flK l).toArray := by
  apply Array.ext
  · simp [flK_len]
  · intro i h1 h2
    have h1' : i < l.length * 3 := by simpa using h1
    have hj : i / 3 < l.length := by omega
    have hg := flK_get (List.getElem?_eq_getElem hj)
    have e := Sort.get_flatK encK 3 l.toArray i (by simpa using h1')
    rw [getElem!_pos _ i h1] at e
    rw [e]
    have e2 : l.toArray[i / 3]! = l[i / 3] := by rw [getElem!_pos _ _ (by simpa using hj)]; simp
    rw [e2]
    have hm : i % 3 = 0 ∨ i % 3 = 1 ∨ i % 3 = 2 := by omega
    have hd : i / 3 * 3 + i % 3 = i := by omega
    have hsome : (flK l)[i]? = some ((flK l).toArray[i]) := by rw [List.getElem?_eq_getElem (by rw [flK_len]; omega)]; simp
    obtain ⟨g0, g1, g2⟩ := hg
    rcases hm with h | h | h
    · have e3 : i / 3 * 3 = i := by omega
      rw [e3, hsome] at g0; injection g0 with g0; rw [g0, h]; rfl
    · have e3 : i / 3 * 3 + 1 = i := by omega
      rw [e3, hsome] at g1; injection g1 with g1; rw [g1, h]; rfl
    · have e3 : i / 3 * 3 + 2 = i := by omega
      rw [e3, hsome] at g2; injection g2 with g2; rw [g2, h]; rfl
theorem holds_own {w : World} {B g n cap : Nat} {l : List Kl} (h : Own w B g n cap l) : Sort.HoldsK encK 3 w g 0 l.toArray := by
  intro j hj
  have hl := own_len h
  rw [flat_eq] at hj ⊢
  have hj' : j < n * 3 := by simp [flK_len] at hj; omega
  rw [Nat.zero_add]
  refine ⟨?_, h.frozenAt j⟩
  rw [h.cellAt j hj', getElem!_pos _ j hj]
  simp
theorem own_sorted {w : World} {B g n cap : Nat} {l l' : List Kl} {m : Nat} {os : Array Obj} (h : Own w B g n cap l) (hl : l'.length = l.length) :
    Own (sortWorldK encK 3 w g 0 m l'.toArray os) B g n cap l' ∧ w.grownBy (sortWorldK encK 3 w g 0 m l'.toArray os) (some g) := by
  have hgl := own_lt h
  have hsz := own_len h
  have hge := own_ge h
  have hl3 : (flK l').length = n * 3 := by rw [flK_len]; omega
  have hbl : ∀ k, k < w.heap.size → (sortWorldK encK 3 w g 0 m l'.toArray os).heap[k]? = (Sort.putRowK encK 3 w g 0 l'.toArray).heap[k]? := by
    intro k hk
    unfold sortWorldK Sort.grow
    show ((Sort.putRowK encK 3 (Sort.ahead w m) g 0 l'.toArray).heap ++ os)[k]? = _
    rw [Array.getElem?_append_left (by unfold Sort.putRowK Sort.putRow Sort.mapBlock Sort.ahead; simpa using hk)]
    rfl
  constructor
  · refine ⟨hl3, ?_⟩
    obtain ⟨h1, h2⟩ := h
    rcases h2 with ⟨hv, _⟩ | ⟨g', cap', cur, hv, hB, hh, hc, hm, hcs, htk⟩
    · cases hv
    · injection hv with e1 e2 e3
      injection e1 with e1
      injection e1 with e1
      subst e1 e3
      refine Or.inr ⟨g, cap, Sort.putCells id 0 (flK l').toArray cur, rfl, hB, ?_, hc, hm, by simpa [Sort.putCells] using hcs, ?_⟩
      · rw [hbl g hgl]
        unfold Sort.putRowK Sort.putRow Sort.mapBlock
        rw [flat_eq]
        simp only [Array.getElem?_modify, if_true, hh, Option.map_some]
        rfl
      · apply List.ext_getElem
        · simp [Sort.putCells, hl3, hcs]; try omega
        · intro i h3 h4
          have hi : i < n * 3 := by omega
          simp [Sort.putCells, hl3, hi]
  · refine ⟨rfl, rfl, rfl, ?_, fun k hk hn => ?_⟩
    · unfold sortWorldK
      rw [Sort.size_grow]
      unfold Sort.putRowK Sort.putRow Sort.mapBlock Sort.ahead
      simp
    · rw [hbl k hk]
      unfold Sort.putRowK Sort.putRow Sort.mapBlock
      have : g ≠ k := fun e => hn (by rw [e])
      simp [Array.getElem?_modify, this]

set_option maxHeartbeats 1000000 in
theorem sort_any (B g n cap : Nat) (l : List Kl) (w : World) (h : Own w B g n cap l) (hn : n ≤ 1000000) :
    Calls Try.prog 19 #[.slice (some ⟨g, 0, none⟩) n cap, .func (.func 20) #[] #[]] w fun e w' => e = .returned (.tuple #[]) ∧ ∃ l' : List Kl, l'.Perm l ∧ l'.Pairwise kle ∧ Own w' B g n cap l' ∧ w.grownBy w' (some g) := by
  have hl := own_len h
  have eg : ∀ args w, (callFunc 20 args).run Try.prog w = .ok (.enter 20 args) w := enters_of Try.func20 (by kernel_rfl) rfl
  have hcon := AnyQ.slices_SortFunc Try.sortR 3 Try.isAgg38 Try.sizeOf38 encK (fun _ => rfl) (fun x v hv => by simp [encK] at hv; rcases hv with rfl | rfl | rfl <;> rfl) cmpK swoK 20 #[] g 0 cap l.toArray w eg (fun m os dk hd x y => by_any x y _) (holds_own h) (own_lt h) (by simp; omega)
  have es : l.toArray.size = n := by simp [hl]
  rw [es] at hcon
  refine Calls.mono hcon ?_
  rintro e w' ⟨rfl, d', m, os, hp, hs, rfl⟩
  obtain ⟨p1, p2, p3⟩ := hp
  have hd : d'.size = n := by rw [p1]; exact es
  have e1 : d'.extract 0 n = d' := by rw [← hd]; simp
  have e2 : l.toArray.extract 0 n = l.toArray := by rw [← es]; simp
  rw [e1, e2] at p3
  have hlen : d'.toList.length = l.length := p3.length_eq
  have hq := own_sorted (m := m) (os := os) h hlen
  have e3 : d'.toList.toArray = d' := by simp
  rw [e3] at hq
  refine ⟨rfl, d'.toList, p3, ?_, hq.1, hq.2⟩
  rw [List.pairwise_iff_getElem]
  intro i j hi hj hij
  have := hs i j (Nat.zero_le _) hij (by simp at hj; omega)
  rw [ltK_no] at this
  rw [getElem!_pos _ i (by simpa using hi), getElem!_pos _ j (by simpa using hj)] at this
  simpa using this


end Go.Proofs.Ytghglpcfpokmhaa

namespace Go.Proofs.Ytghglpcfpokmhaa
open Go.RowKit
set_option linter.unusedVariables false
set_option linter.unusedSimpArgs false

theorem as_of_pOk {l : List Kl} (h : pOk l = true) {x : Kl} (hx : x ∈ l) : asOk x = true := by
  obtain ⟨k, hk⟩ := List.getElem?_of_mem hx
  have hkl := (List.getElem?_eq_some_iff.1 hk).1
  have hi := (pOk_parts h).2 k hkl
  by_cases h0 : k = 0
  · subst h0; rw [it_zero hk] at hi; exact hi
  · have hy : l[k - 1]? = some (l[k - 1]'(by omega)) := List.getElem?_eq_getElem (by omega)
    rw [it_succ hk (by omega) hy] at hi
    simp only [Bool.and_eq_true] at hi
    exact hi.1
theorem pk_rise {l : List Kl} (h : pOk l = true) : Rise l := by
  unfold Rise
  rw [List.pairwise_iff_getElem]
  intro i j hi hj hij
  exact rise h hij (List.getElem?_eq_getElem hi) (List.getElem?_eq_getElem hj)
theorem pkL_at {ns : List ByteArray} {ts : List (List Int)} {x : Kl} (h : x ∈ pkL ns ts) : ∃ (j : Nat) (n : ByteArray) (t : List Int), ns[j]? = some n ∧ ts[j]? = some t ∧ x = ass n t := by
  obtain ⟨j, hj⟩ := List.getElem?_of_mem h
  simp only [pkL, List.getElem?_zipWith] at hj
  cases h1 : ns[j]? with
  | none => simp [h1] at hj
  | some n =>
    cases h2 : ts[j]? with
    | none => simp [h1, h2] at hj
    | some t =>
      simp only [h1, h2] at hj
      injection hj with hj
      exact ⟨j, n, t, h1, h2, hj.symm⟩
theorem ass_mem {ns : List ByteArray} {ts : List (List Int)} {j : Nat} {n : ByteArray} {t : List Int} (h1 : ns[j]? = some n) (h2 : ts[j]? = some t) : ass n t ∈ pkL ns ts := by
  have : (pkL ns ts)[j]? = some (ass n t) := by simp [pkL, List.getElem?_zipWith, h1, h2]
  exact List.mem_of_getElem? this
theorem as_parts {x : Kl} (h : asOk x = true) : nmOk x.1 = true ∧ x.2.1 ≤ 40000 := by
  simp only [asOk, Bool.and_eq_true, decide_eq_true_eq] at h
  exact ⟨h.1.1, h.1.2.2⟩
theorem pk_names {ns : List ByteArray} {ts : List (List Int)} (hl : ns.length = ts.length) : (pkL ns ts).map (·.1) = ns := by
  apply List.ext_getElem?
  intro j
  by_cases hj : j < ns.length
  · have e1 : ns[j]? = some (ns[j]'hj) := List.getElem?_eq_getElem hj
    have e2 : ts[j]? = some (ts[j]'(by omega)) := List.getElem?_eq_getElem (by omega)
    simp only [List.getElem?_map, pkL, List.getElem?_zipWith, e1, e2]; rfl
  · rw [List.getElem?_eq_none (by simp [pkL_len hl]; omega), List.getElem?_eq_none (by omega)]
/-- sorted, and looked at by PackOk -/
theorem pk_impl {ns : List ByteArray} {ts : List (List Int)} {L : List Kl} (hl : ns.length = ts.length) (hf : ns.length ≤ 100) (hp : L.Perm (pkL ns ts)) (hk : L.Pairwise kle) : PkQ ns ts (if pOk L = true then L else []) (pOk L) := by
  cases h : pOk L with
  | true =>
    rw [if_pos rfl]
    have hr := pk_rise h
    refine .inl ⟨rfl, good_of hl hf (fun j n hn => ?_) (fun j t ht => ?_) hp hr, hp, hr⟩
    · have hj := (List.getElem?_eq_some_iff.1 hn).1
      have e2 : ts[j]? = some (ts[j]'(by omega)) := List.getElem?_eq_getElem (by omega)
      exact (as_parts (as_of_pOk h (hp.mem_iff.2 (ass_mem hn e2)))).1
    · have hj := (List.getElem?_eq_some_iff.1 ht).1
      have e1 : ns[j]? = some (ns[j]'(by omega)) := List.getElem?_eq_getElem (by omega)
      have := (as_parts (as_of_pOk h (hp.mem_iff.2 (ass_mem e1 ht)))).2
      have e : (ass (ns[j]'(by omega)) t).2.1 = (t.length : Int) := rfl
      rw [e] at this
      omega
  | false =>
    rw [if_neg (by simp)]
    refine .inr ⟨rfl, rfl, fun g => ?_⟩
    have hno : (L.map (·.1)).Nodup := by
      have := (hp.map (·.1)).nodup_iff.2 (by rw [pk_names hl]; exact g.one)
      exact this
    have hok : pOk L = true := by
      refine pOk_good (by rw [hp.length_eq, pkL_len hl]; exact hf) (fun k hkl => ?_)
      have hx : L[k]? = some (L[k]'hkl) := List.getElem?_eq_getElem hkl
      have has : asOk (L[k]'hkl) = true := by
        obtain ⟨j, n, t, h1, h2, h3⟩ := pkL_at (hp.mem_iff.1 (List.mem_of_getElem? hx))
        rw [h3]
        have a1 := g.nms n (List.mem_of_getElem? h1)
        have a2 := g.bds t (List.mem_of_getElem? h2)
        have a3 : 0 ≤ dig t ∧ dig t ≤ 1000000006 := by have := dig_bd t; omega
        unfold asOk ass
        rw [a1, decide_eq_true (show (0 : Int) ≤ (t.length : Int) by omega), decide_eq_true (show (t.length : Int) ≤ 40000 by omega), decide_eq_true a3.1, decide_eq_true a3.2]
        rfl
      by_cases h0 : k = 0
      · subst h0; rw [it_zero hx]; exact has
      · have hy : L[k - 1]? = some (L[k - 1]'(by omega)) := List.getElem?_eq_getElem (by omega)
        rw [it_succ hx (by omega) hy, has, Bool.true_and]
        have h1 := List.pairwise_iff_getElem.1 hk (k - 1) k (by omega) hkl (by omega)
        have h2 := List.pairwise_iff_getElem.1 hno (k - 1) k (by simp; omega) (by simpa using hkl) (by omega)
        simp only [List.getElem_map] at h2
        refine bef_tot h1 ?_
        cases e : ((L[k]'hkl).1.toList == (L[k - 1]'(by omega)).1.toList) with
        | false => rfl
        | true => exact absurd (nmEq e).symm h2
    rw [h] at hok; cases hok
theorem PkQ.uniq {ns : List ByteArray} {ts : List (List Int)} {L M : List Kl} {u v : Bool} (h1 : PkQ ns ts L u) (h2 : PkQ ns ts M v) : L = M ∧ u = v := by
  rcases h1 with ⟨rfl, g1, p1, r1⟩ | ⟨rfl, rfl, g1⟩ <;> rcases h2 with ⟨rfl, g2, p2, r2⟩ | ⟨rfl, rfl, g2⟩
  · exact ⟨Rise.uniq (p1.trans p2.symm) r1 r2, rfl⟩
  · exact absurd g1 g2
  · exact absurd g2 g1
  · exact ⟨rfl, rfl⟩

end Go.Proofs.Ytghglpcfpokmhaa

namespace Go.Proofs.Ytghglpcfpokmhaa.Bb
open Go.RowKit
open Go.Proofs.Ytghglpcfpokmhaa
set_option linter.unusedVariables false
set_option linter.unusedSimpArgs false

/-- lists of bytes behind the address a -/
def Tks (w : World) (a : Option Addr) (ts : List (List Int)) : Prop :=
  ∀ j t, ts[j]? = some t → ∃ b o p c, a = some ⟨b, o, none⟩ ∧ b < w.heap.size ∧ w.cell? ⟨b, o + j, none⟩ = some (.slice p t.length c) ∧ Bys w p t ∧ t.length ≤ maxLen
theorem Tks.below {w w' : World} {a : Option Addr} {ts : List (List Int)} (h : Tks w a ts) (s : Below w.heap.size w w') : Tks w' a ts := by
  intro j t ht
  obtain ⟨b, o, p, c, e, h1, h2, h3, h4⟩ := h j t ht
  exact ⟨b, o, p, c, e, Nat.lt_of_lt_of_le h1 s.size, ((bcell s).1 b _ h1).trans h2, h3.below s, h4⟩
theorem blk_below {X Y : World} {b : Nat} {o : Obj} (h : X.heap[b]? = some o) (hb : Below X.heap.size X Y) : Y.heap[b]? = some o := by
  rw [hb.block b (Array.getElem?_eq_some_iff.1 h).1]; exact h
def tot (ts : List (List Int)) : Nat := (ts.map List.length).sum
theorem tot_snoc {ts : List (List Int)} {k : Nat} {t : List Int} (h : ts[k]? = some t) : tot (ts.take (k + 1)) = tot (ts.take k) + t.length := by
  rw [List.take_add_one, h]; simp [tot]
theorem tot_append (a b : List (List Int)) : tot (a ++ b) = tot a + tot b := by simp [tot]
/-- an owned list of owned lists of bytes: its rows lie from lo on, below hi -/
structure TO (lo hi : Nat) (w : World) (B : Nat) (ts : List (List Int)) (k : Nat) : Prop where
  ge : lo ≤ B
  lt : B < hi
  blk : ∃ cur : Array Value, w.heap[B]? = some (.cells cur 22 (0, 0)) ∧ cur.size = ts.length ∧ ∀ j t, ts[j]? = some t → j < k → ∃ g, g < hi ∧ cur[j]? = some (.slice (some ⟨g, 0, none⟩) t.length t.length) ∧ OwnB w lo g t.length t.length t
theorem TO.later {lo hi : Nat} {w w1 : World} {B : Nat} {ts : List (List Int)} {k : Nat} (h : TO lo hi w B ts k) (hb : Below w.heap.size w w1) : TO lo hi w1 B ts k := by
  obtain ⟨cur, h1, h2, h3⟩ := h.blk
  refine ⟨h.ge, h.lt, cur, blk_below h1 hb, h2, fun j t ht hj => ?_⟩
  obtain ⟨g, g1, g2, g3⟩ := h3 j t ht hj
  exact ⟨g, g1, g2, ownsRow_below g3 hb⟩
theorem TO.mono {lo hi hi' : Nat} {w : World} {B : Nat} {ts : List (List Int)} {k : Nat} (h : TO lo hi w B ts k) (hh : hi ≤ hi') : TO lo hi' w B ts k := by
  obtain ⟨cur, h1, h2, h3⟩ := h.blk
  refine ⟨h.ge, Nat.lt_of_lt_of_le h.lt hh, cur, h1, h2, fun j t ht hj => ?_⟩
  obtain ⟨g, g1, g2, g3⟩ := h3 j t ht hj
  exact ⟨g, Nat.lt_of_lt_of_le g1 hh, g2, g3⟩
theorem TO.tks {lo hi : Nat} {w : World} {B : Nat} {ts : List (List Int)} (h : TO lo hi w B ts ts.length) (hm : ∀ t ∈ ts, t.length ≤ maxLen) : Tks w (some ⟨B, 0, none⟩) ts := by
  obtain ⟨cur, h1, h2, h3⟩ := h.blk
  intro j t ht
  obtain ⟨g, g1, g2, g3⟩ := h3 j t ht (List.getElem?_eq_some_iff.1 ht).1
  refine ⟨B, 0, some ⟨g, 0, none⟩, t.length, rfl, (Array.getElem?_eq_some_iff.1 h1).1, ?_, bys_own g3, hm t (List.mem_of_getElem? ht)⟩
  rw [Nat.zero_add]
  simp [World.cell?, h1, g2]
theorem own_ne {w : World} {lo g n cap B : Nat} {l : List Int} {cur : Array Value} (h : OwnB w lo g n cap l) (hB : w.heap[B]? = some (.cells cur 22 (0, 0))) : g ≠ B := by
  rcases h.2 with ⟨hv, _⟩ | ⟨g', cap', cur', hv, _, hh, _⟩
  · cases hv
  · injection hv with e1
    injection e1 with e1
    injection e1 with e1
    subst e1
    intro e
    rw [e, hB] at hh
    injection hh with hh
    injection hh with _ hh
    exact absurd hh (by decide)
theorem TO.put {lo hi : Nat} {w : World} {B k g : Nat} {ts : List (List Int)} {t : List Int} (h : TO lo hi w B ts k) (hx : ts[k]? = some t) (hO : OwnB w lo g t.length t.length t) (hg : g < hi) :
    TO lo hi (w.setCell ⟨B, k, none⟩ (.slice (some ⟨g, 0, none⟩) t.length t.length)) B ts (k + 1) := by
  obtain ⟨cur, h1, h2, h3⟩ := h.blk
  have hk : k < ts.length := (List.getElem?_eq_some_iff.1 hx).1
  have hkeep : ∀ (v : Value) (g n cap : Nat) (l : List Int), OwnB w lo g n cap l → OwnB (w.setCell ⟨B, k, none⟩ v) lo g n cap l := fun v g n cap l ho => by
    have hne := own_ne ho h1
    exact own_kept (h := B) ho ⟨rfl, rfl, rfl, by simp [World.setCell], fun i hi hn => by
      have : B ≠ i := fun e => hn (by rw [e])
      simp [World.setCell, Array.getElem?_modify, this]⟩ hne
  refine ⟨h.ge, h.lt, cur.setIfInBounds k (.slice (some ⟨g, 0, none⟩) t.length t.length), ?_, by simpa using h2, fun j u hu hj => ?_⟩
  · simp [World.setCell, h1, Array.getElem?_modify]
  · by_cases e : j = k
    · subst e
      rw [hx] at hu
      injection hu with hu
      subst hu
      exact ⟨g, hg, by simp [h2, hk], hkeep _ _ _ _ _ hO⟩
    · obtain ⟨g', g1, g2, g3⟩ := h3 j u hu (by omega)
      exact ⟨g', g1, by rw [Array.getElem?_setIfInBounds_ne (by omega)]; exact g2, hkeep _ _ _ _ _ g3⟩
theorem info22 : (Try.prog.info? 22).map (fun i => (i.zero, i.size, i.bytes)) = some (some (.slice none 0 0), 1, 24) := by kernel_rfl

theorem below_drw {w w1 : World} (h : Below w.heap.size w w1) : Below w.heap.size w w1.drew := h.drew
theorem keep2 {w w0 w1 : World} {a1 a2 : Addr} {v1 v2 : Value} (h : w0.cell? a1 = some v1 ∧ w0.cell? a2 = some v2 ∧ Below w.heap.size w w0) (hb : Below w0.heap.size w0 w1) : w1.cell? a1 = some v1 ∧ w1.cell? a2 = some v2 ∧ Below w.heap.size w w1 :=
  ⟨cell_later hb h.1, cell_later hb h.2.1, h.2.2.trans (hb.mono h.2.2.size)⟩
theorem keep2d {w w0 : World} {a1 a2 : Addr} {v1 v2 : Value} (h : w0.cell? a1 = some v1 ∧ w0.cell? a2 = some v2 ∧ Below w.heap.size w w0) : w0.drew.cell? a1 = some v1 ∧ w0.drew.cell? a2 = some v2 ∧ Below w.heap.size w w0.drew :=
  ⟨h.1, h.2.1, h.2.2.drew⟩
/-- all blocks but those from lo on and below hi stand -/
structure Rng (lo hi : Nat) (w w' : World) : Prop where
  os : w'.os = w.os
  tape : w'.tape = w.tape
  output : w'.output = w.output
  size : w.heap.size ≤ w'.heap.size
  block : ∀ k, k < w.heap.size → (k < lo ∨ hi ≤ k) → w'.heap[k]? = w.heap[k]?
  empt : ∀ (k : Nat) (e : TypeId), w.heap[k]? = some (.cells #[] e (0, 0)) → w'.heap[k]? = some (.cells #[] e (0, 0))
theorem Rng.refl (lo hi : Nat) (w : World) : Rng lo hi w w := ⟨rfl, rfl, rfl, Nat.le_refl _, fun _ _ _ => rfl, fun _ _ h => h⟩
theorem Rng.more {lo hi g : Nat} {w w1 w2 : World} (h : Rng lo hi w w1) (k : w1.grownBy w2 (some g)) (h1 : lo ≤ g) (h2 : g < hi) (hn : ∀ e : TypeId, w1.heap[g]? = some (.cells #[] e (0, 0)) → w2.heap[g]? = some (.cells #[] e (0, 0))) : Rng lo hi w w2 :=
  ⟨k.os.trans h.os, k.tape.trans h.tape, k.output.trans h.output, Nat.le_trans h.size k.size, fun i hi' ho => (k.block i (Nat.lt_of_lt_of_le hi' h.size) (by intro e; injection e with e; omega)).trans (h.block i hi' ho), fun i e he => by
    have h3 := h.empt i e he
    by_cases hg : i = g
    · rw [hg] at h3 ⊢; exact hn e h3
    · exact (k.block i (Array.getElem?_eq_some_iff.1 h3).1 (by intro e2; injection e2 with e2; exact hg e2)).trans h3⟩
/-- rows that can be written -/
structure TW (lo hi : Nat) (w : World) (B : Nat) (ts : List (List Int)) : Prop where
  blk : ∃ cur : Array Value, w.heap[B]? = some (.cells cur 22 (0, 0)) ∧ cur.size = ts.length ∧ ∀ (j : Nat) (t : List Int), ts[j]? = some t → ∃ g, lo ≤ g ∧ g < hi ∧ cur[j]? = some (.slice (some ⟨g, 0, none⟩) t.length t.length) ∧ ∃ c, w.heap[g]? = some (.cells c 5 (0, 0)) ∧ c.size = t.length ∧ t.length ≤ maxLen
theorem TO.tw {lo hi : Nat} {w : World} {B : Nat} {ts : List (List Int)} (h : TO lo hi w B ts ts.length) : TW lo hi w B ts := by
  obtain ⟨cur, h1, h2, h3⟩ := h.blk
  refine ⟨cur, h1, h2, fun j t ht => ?_⟩
  obtain ⟨g, g1, g2, g3⟩ := h3 j t ht (List.getElem?_eq_some_iff.1 ht).1
  rcases g3.2 with ⟨hv, _⟩ | ⟨g', cap', cur', hv, hB, hh, _, hmx, hcs, _⟩
  · cases hv
  · injection hv with e1 e2 e3
    injection e1 with e1
    injection e1 with e1
    subst e1 e3
    exact ⟨g, hB, g1, g2, cur', hh, by simpa using hcs, hmx⟩
theorem row_own {lo g n : Nat} {w : World} {c : Array Value} (h : w.heap[g]? = some (.cells c 5 (0, 0))) (hc : c.size = n) (hm : n ≤ maxLen) (hg : lo ≤ g) : w.ownsRow lo 5 1 (.slice (some ⟨g, 0, none⟩) n n) n c.toList :=
  ⟨by simpa using hc, Or.inr ⟨g, n, c, rfl, hg, h, Nat.le_refl _, hm, by simpa using hc, by rw [List.take_of_length_le (by simp [hc])]⟩⟩
theorem TW.marked {lo hi : Nat} {w w1 : World} {B g n : Nat} {ts : List (List Int)} {ys : List Value} (h : TW lo hi w B ts) (hgr : w.grownBy w1 (some g)) (hg : ∃ c, w.heap[g]? = some (.cells c 5 (0, 0)) ∧ c.size = n) (hy : w1.ownsRow lo 5 1 (.slice (some ⟨g, 0, none⟩) n n) n ys) : TW lo hi w1 B ts := by
  obtain ⟨cur, h1, h2, h3⟩ := h.blk
  obtain ⟨c0, hc0, hn0⟩ := hg
  have hBg : B ≠ g := by
    intro e; rw [e, hc0] at h1; injection h1 with h1; injection h1 with _ h1; exact absurd h1 (by decide)
  refine ⟨cur, ?_, h2, fun j t ht => ?_⟩
  · rw [hgr.block B (Array.getElem?_eq_some_iff.1 h1).1 (by intro e; injection e with e; exact hBg e)]; exact h1
  · obtain ⟨g', a1, a2, a3, c, a4, a5, a6⟩ := h3 j t ht
    refine ⟨g', a1, a2, a3, ?_⟩
    by_cases e : g' = g
    · subst e
      rw [hc0] at a4
      injection a4 with a4
      injection a4 with a4
      subst a4
      rcases hy.2 with ⟨hv, _⟩ | ⟨g'', cap', cur', hv, hB, hh, _, hmx, hcs, _⟩
      · cases hv
      · injection hv with e1 e2 e3
        injection e1 with e1
        injection e1 with e1
        subst e1 e3
        exact ⟨cur', hh, by omega, a6⟩
    · exact ⟨c, by rw [hgr.block g' (Array.getElem?_eq_some_iff.1 a4).1 (by intro e2; injection e2 with e2; exact e e2)]; exact a4, a5, a6⟩

end Go.Proofs.Ytghglpcfpokmhaa.Bb
