/-
  Contracts of the leaves of Update: where a name stands, names compared; nothing that was there is written.
  The library's sort laid at this program's own numbers: slices.SortFunc over assets.
  The library's sort over an owned list of assets: what it holds then is what it held, and no name stands ahead of one that is less.
  What the program's Pack answers is what the model's answers, as plain values; no conditions.
-/
import Derived.Test.YtpdnceeniokemaaZUpP
import Derived.Test.YtpdnceeniokemaaZPki
import Derived.Shelf.SlSortCmp.WholeK
import Derived.Test.YtpdnceeniokemaaProg
import Derived.Test.YtpdnceeniokemaaZLkB
import Derived.Test.YtpdnceeniokemaaZCopyL
import Derived.Sort.Grow
namespace Go.Proofs.Ytpdnceeniokemaa
open Go.RowKit
set_option linter.unusedVariables false
set_option linter.unusedSimpArgs false

set_option maxHeartbeats 800000 in
theorem sfnd_any (a : Option Addr) (cap : Nat) (l : List Kl) (s : ByteArray) (w : World) (hl : l.length ≤ maxLen) (hk : Kls w a l) :
    Calls Try.prog 72 #[.slice a l.length cap, .string s] w fun e w' => ∃ r, e = .returned (.int .i64 r) ∧ Fnd l s r ∧ w' = w := by
  unfold maxLen at hl
  have hk' := hide hk
  clear hk
  go_enter Try.func72, Try.ntmps72
  go_wp2
  go_loop [5] (fun t => ∃ k : Nat, k ≤ l.length ∧ t = .int .i64 k ∧ Hid (∀ (j : Nat) (y : Kl), j < k → l[j]? = some y → (y.1.toList == s.toList) = false)) (fun t => l.length - (intOf t).toNat)
  case atStart => exact ⟨0, by omega, rfl, hide (fun j y h => by omega)⟩
  case round =>
    obtain ⟨k, hk1, rfl, hpre⟩ := hrel
    by_cases hlt : k < l.length
    · obtain ⟨x, hx⟩ : ∃ x, l[k]? = some x := ⟨l[k], List.getElem?_eq_getElem hlt⟩
      obtain ⟨b, o, rfl, i1, c0, c1, c2⟩ := unhide hk' k x hx
      have hxx := hide hx
      have g1 : decide ((k : Int) < l.length) = true := by simp; omega
      clear hx c1 c2 i1
      cases he : (x.1.toList == s.toList) with
      | true =>
        have hfin := hide (show Fnd l s (k : Int) from .inr ⟨k, x, rfl, unhide hxx, he⟩)
        go_wp2
        go_ret
        exact ⟨_, rfl, unhide hfin, rfl⟩
      | false =>
        have hn := hide (show ∀ (j : Nat) (y : Kl), j < k + 1 → l[j]? = some y → (y.1.toList == s.toList) = false from fun j y hj hy => by
          rcases Nat.lt_or_ge j k with h | h
          · exact unhide hpre j y h hy
          · have : j = k := by omega
            subst this
            rw [unhide hxx] at hy; injection hy with hy; subst hy; exact he)
        clear hpre
        go_wp2
        go_round
        case rel => exact ⟨k + 1, by omega, by go_num, hn⟩
        case measure => simp [intOf]; omega
    · have g1 : decide ((k : Int) < l.length) = false := by simp; omega
      have hfin := hide (show Fnd l s (-1) from .inl ⟨rfl, hasN_no fun j y hj => unhide hpre j y (by have := (List.getElem?_eq_some_iff.1 hj).1; omega) hj⟩)
      go_wp2
      go_ret
      exact ⟨_, rfl, unhide hfin, rfl⟩
theorem nan_any (a : ByteArray) (w : World) : Calls Try.prog 116 #[.string a] w fun e w' => e = .returned (.bool false) ∧ w' = w := by
  go_enter Try.func116, Try.ntmps116
  go_wp2
  go_ret
  exact ⟨ret_bool (by simp), rfl⟩
set_option maxHeartbeats 800000 in
theorem cmp_any (a b : ByteArray) (w : World) : Calls Try.prog 84 #[.string a, .string b] w fun e w' => e = .returned (.int .i64 (cmpV a b)) ∧ w' = w := by
  obtain ⟨u, hu⟩ : ∃ u, Op.bytesLess a.toList b.toList = u := ⟨_, rfl⟩
  obtain ⟨v, hv⟩ : ∃ v, bef b a = v := ⟨_, rfl⟩
  have hw : (u || a.toList == b.toList) = !v := by rw [← hu, ← hv]; exact bef_le a b
  have hC := hide (show cmpV a b = if u = true then -1 else if v = true then 1 else 0 by unfold cmpV; rw [hv, show bef a b = u from hu])
  clear hv
  cases u with
  | true =>
    go_enter Try.func84, Try.ntmps84
    go_wp2_with fail
    refine (nan_any a _).mono ?_
    rintro e w1 ⟨rfl, rfl⟩
    go_wp2_with fail
    refine (nan_any b _).mono ?_
    rintro e w1 ⟨rfl, rfl⟩
    go_wp2
    go_ret
    exact ⟨ret_int (unhide hC).symm, rfl⟩
  | false =>
    cases v with
    | true =>
      have hw2 : (a.toList == b.toList) = false := by simpa using hw
      clear hw
      go_enter Try.func84, Try.ntmps84
      go_wp2_with fail
      refine (nan_any a _).mono ?_
      rintro e w1 ⟨rfl, rfl⟩
      go_wp2_with fail
      refine (nan_any b _).mono ?_
      rintro e w1 ⟨rfl, rfl⟩
      go_wp2
      go_ret
      exact ⟨ret_int (unhide hC).symm, rfl⟩
    | false =>
      have hw2 : (a.toList == b.toList) = true := by simpa using hw
      clear hw
      go_enter Try.func84, Try.ntmps84
      go_wp2_with fail
      refine (nan_any a _).mono ?_
      rintro e w1 ⟨rfl, rfl⟩
      go_wp2_with fail
      refine (nan_any b _).mono ?_
      rintro e w1 ⟨rfl, rfl⟩
      go_wp2
      go_ret
      exact ⟨ret_int (unhide hC).symm, rfl⟩
set_option maxHeartbeats 800000 in
theorem bnm_any (s s' : ByteArray) (p q p' q' : Int) (w : World) : Calls Try.prog 69 #[ag3 s p q, ag3 s' p' q'] w fun e w' => e = .returned (.int .i64 (cmpV s s')) ∧ Below w.heap.size w w' := by
  go_enter Try.func69, Try.ntmps69
  go_wp2_with fail
  refine (cmp_any s s' _).mono ?_
  rintro e w1 ⟨rfl, hw0⟩
  have hw1 := hw0.symm
  subst hw1
  go_wp2
  go_ret
  exact ⟨rfl, (((Below.refl _ _).alloc (Nat.le_refl _) _).alloc (by simp) _)⟩

end Go.Proofs.Ytpdnceeniokemaa

namespace Go.Proofs
open Go.Shelf
def Try.sortR_ren : Go.Shelf.Ren := ⟨fun | 6 => 68 | 15 => 83 | 14 => 82 | 28 => 114 | 29 => 115 | 20 => 106 | 21 => 107 | 22 => 108 | 23 => 109 | 24 => 110 | 25 => 111 | 26 => 112 | 27 => 113 | 46 => 123 | 47 => 124 | 48 => 125 | 49 => 126 | 50 => 127 | 57 => 128 | n => n, fun | 22 => 37 | 24 => 79 | 25 => 88 | 3 => 3 | 39 => 110 | 0 => 0 | 53 => 104 | 55 => 101 | 4 => 4 | 46 => 133 | 45 => 132 | 50 => 93 | 5 => 5 | 9 => 9 | 66 => 146 | 70 => 149 | 76 => 151 | 77 => 152 | n => n, fun | n => n⟩
theorem Try.sortR : Go.Proofs.SlLaysF0.n6 Try.prog Try.sortR_ren := {
  mixed := by kernel_rfl
  f6 := ⟨Try.f68.name, by decide, Try.func68.trans (congrArg some (by kernel_rfl))⟩
  f14 := ⟨Try.f82.name, by decide, Try.func82.trans (congrArg some (by kernel_rfl))⟩
  f15 := Try.func83.trans (congrArg some (by kernel_rfl))
  f20 := ⟨Try.f106.name, by decide, Try.func106.trans (congrArg some (by kernel_rfl))⟩
  f21 := ⟨Try.f107.name, by decide, Try.func107.trans (congrArg some (by kernel_rfl))⟩
  f22 := ⟨Try.f108.name, by decide, Try.func108.trans (congrArg some (by kernel_rfl))⟩
  f23 := ⟨Try.f109.name, by decide, Try.func109.trans (congrArg some (by kernel_rfl))⟩
  f24 := ⟨Try.f110.name, by decide, Try.func110.trans (congrArg some (by kernel_rfl))⟩
  f25 := ⟨Try.f111.name, by decide, Try.func111.trans (congrArg some (by kernel_rfl))⟩
  f26 := ⟨Try.f112.name, by decide, Try.func112.trans (congrArg some (by kernel_rfl))⟩
  f27 := ⟨Try.f113.name, by decide, Try.func113.trans (congrArg some (by kernel_rfl))⟩
  f28 := Try.func114.trans (congrArg some (by kernel_rfl))
  f29 := Try.func115.trans (congrArg some (by kernel_rfl))
  f46 := ⟨Try.f123.name, by decide, Try.func123.trans (congrArg some (by kernel_rfl))⟩
  f47 := Try.func124.trans (congrArg some (by kernel_rfl))
  f48 := Try.func125.trans (congrArg some (by kernel_rfl))
  f49 := ⟨Try.f126.name, by decide, Try.func126.trans (congrArg some (by kernel_rfl))⟩
  f50 := ⟨Try.f127.name, by decide, Try.func127.trans (congrArg some (by kernel_rfl))⟩
  f57 := ⟨Try.f128.name, by decide, Try.func128.trans (congrArg some (by kernel_rfl))⟩
  t0 := Try.underlying0
  a0 := Try.isAgg0
  z0 := Try.sizeOf0
  v0 := Try.zeroValue0
  t3 := Try.underlying3
  a3 := Try.isAgg3
  z3 := Try.sizeOf3
  v3 := Try.zeroValue3
  t4 := Try.underlying4
  a4 := Try.isAgg4
  z4 := Try.sizeOf4
  v4 := Try.zeroValue4
  t5 := Try.underlying5
  a5 := Try.isAgg5
  z5 := Try.sizeOf5
  v5 := Try.zeroValue5
  t9 := Try.underlying9
  a9 := Try.isAgg9
  z9 := Try.sizeOf9
  v9 := Try.zeroValue9
  t22 := Try.underlying37
  a22 := Try.isAgg37
  z22 := Try.sizeOf37
  v22 := Try.zeroValue37
  t25 := Try.underlying88
  a25 := Try.isAgg88
  z25 := Try.sizeOf88
  v25 := Try.zeroValue88
  t39 := Try.underlying110
  a39 := Try.isAgg110
  z39 := Try.sizeOf110
  v39 := Try.zeroValue110
  t45 := Try.underlying132
  a45 := Try.isAgg132
  z45 := Try.sizeOf132
  v45 := Try.zeroValue132
  t46 := Try.underlying133
  a46 := Try.isAgg133
  z46 := Try.sizeOf133
  v46 := Try.zeroValue133
  t50 := Try.underlying93
  a50 := Try.isAgg93
  z50 := Try.sizeOf93
  v50 := Try.zeroValue93
  t53 := Try.underlying104
  a53 := Try.isAgg104
  z53 := Try.sizeOf104
  v53 := Try.zeroValue104
  t55 := Try.underlying101
  a55 := Try.isAgg101
  z55 := Try.sizeOf101
  v55 := Try.zeroValue101
  t66 := Try.underlying146
  a66 := Try.isAgg146
  z66 := Try.sizeOf146
  v66 := Try.zeroValue146
  t70 := Try.underlying149
  a70 := Try.isAgg149
  z70 := Try.sizeOf149
  v70 := Try.zeroValue149
  t76 := Try.underlying151
  a76 := Try.isAgg151
  z76 := Try.sizeOf151
  v76 := Try.zeroValue151
  t77 := Try.underlying152
  a77 := Try.isAgg152
  z77 := Try.sizeOf152
  v77 := Try.zeroValue152 }
end Go.Proofs

namespace Go.Proofs.Ytpdnceeniokemaa
open Go.RowKit Go.Lib Go.Shelf
set_option linter.unusedVariables false
set_option linter.unusedSimpArgs false

def encK (x : Kl) : List Value := [sv x.1, iv x.2.1, iv x.2.2]
def cmpK (x y : Kl) : Int := cmpV x.1 y.1
/-- x may stand ahead of y -/
def kle (x y : Kl) : Prop := bef y.1 x.1 = false
theorem ltK_eq (x y : Kl) : ltOf cmpK x y = bef x.1 y.1 := by
  unfold ltOf cmpK cmpV
  cases h : bef x.1 y.1
  · cases h2 : bef y.1 x.1 <;> rfl
  · rfl
theorem ltK_no (x y : Kl) : ltOf cmpK x y = false ↔ kle y x := by rw [ltK_eq]; rfl
theorem bef_ntrans {x y z : ByteArray} (h1 : bef x y = false) (h2 : bef y z = false) : bef x z = false := by
  cases h : bef x z with
  | false => rfl
  | true =>
    cases e : (y.toList == z.toList) with
    | true => rw [nmEq e] at h1; rw [h] at h1; cases h1
    | false => rw [bef_trans h (bef_tot h2 e)] at h1; cases h1
theorem swoK : Sort.SWO (ltOf cmpK) := {
  irrefl := fun x => by rw [ltK_eq]; exact bef_irr _
  trans := fun x y z h1 h2 => by rw [ltK_eq] at *; exact bef_trans h1 h2
  ntrans := fun x y z h1 h2 => by rw [ltK_eq] at *; exact bef_ntrans h1 h2 }
theorem by_any (x y : Kl) (W : World) : Calls Try.prog 69 #[.agg #[.string x.1, .int .i64 x.2.1, .int .i64 x.2.2], .agg #[.string y.1, .int .i64 y.2.1, .int .i64 y.2.2]] W fun e w' => e = .returned (.int .i64 (cmpK x y)) ∧ ∃ q os, w' = Sort.grow (W.drewN q) os := by
  obtain ⟨s, p, q⟩ := x
  obtain ⟨s', p', q'⟩ := y
  show Calls Try.prog 69 #[.agg #[.string s, .int .i64 p, .int .i64 q], .agg #[.string s', .int .i64 p', .int .i64 q']] W fun e w' => e = .returned (.int .i64 (cmpV s s')) ∧ ∃ q os, w' = Sort.grow (W.drewN q) os
  go_enter Try.func69, Try.ntmps69
  go_wp2_with fail
  refine (cmp_any s s' _).mono ?_
  rintro e w1 ⟨rfl, hw0⟩
  have hw1 := hw0.symm
  subst hw1
  go_wp2
  go_ret
  exact ⟨rfl, 0, _, by rw [Sort.alloc_eq_grow, Sort.alloc_eq_grow, Sort.grow_grow]; rfl⟩
theorem flat_eq (l : List Kl) : Sort.flatK encK 3 l.toArray = (flK l).toArray := by
  apply Array.ext
  · simp [flK_len]
  · intro i h1 h2
    have h1' : i < l.length * 3 := by simpa using h1
    have hj : i / 3 < l.length := by omega
    have hg := flK_get (List.getElem?_eq_getElem hj)
    have e := Sort.get_flatK encK 3 l.toArray i (by simpa using h1')
    rw [getElem!_pos _ i h1] at e
    rw [e]
    have e2 : l.toArray[i / 3]! = l[i / 3] := by rw [getElem!_pos _ _ (by simpa using hj)]; simp
    rw [e2]
    have hm : i % 3 = 0 ∨ i % 3 = 1 ∨ i % 3 = 2 := by omega
    have hd : i / 3 * 3 + i % 3 = i := by omega
    have hsome : (flK l)[i]? = some ((flK l).toArray[i]) := by rw [List.getElem?_eq_getElem (by rw [flK_len]; omega)]; simp
    obtain ⟨g0, g1, g2⟩ := hg
    rcases hm with h | h | h
    · have e3 : i / 3 * 3 = i := by omega
      rw [e3, hsome] at g0; injection g0 with g0; rw [g0, h]; rfl
    · have e3 : i / 3 * 3 + 1 = i := by omega
      rw [e3, hsome] at g1; injection g1 with g1; rw [g1, h]; rfl
    · have e3 : i / 3 * 3 + 2 = i := by omega
      rw [e3, hsome] at g2; injection g2 with g2; rw [g2, h]; rfl
theorem holds_own {w : World} {B g n cap : Nat} {l : List Kl} (h : Own w B g n cap l) : Sort.HoldsK encK 3 w g 0 l.toArray := by
  intro j hj
  have hl := own_len h
  rw [flat_eq] at hj ⊢
  have hj' : j < n * 3 := by simp [flK_len] at hj; omega
  rw [Nat.zero_add]
  refine ⟨?_, h.frozenAt j⟩
  rw [h.cellAt j hj', getElem!_pos _ j hj]
  simp
theorem own_sorted {w : World} {B g n cap : Nat} {l l' : List Kl} {m : Nat} {os : Array Obj} (h : Own w B g n cap l) (hl : l'.length = l.length) :
    Own (sortWorldK encK 3 w g 0 m l'.toArray os) B g n cap l' ∧ w.grownBy (sortWorldK encK 3 w g 0 m l'.toArray os) (some g) := by
  have hgl := own_lt h
  have hsz := own_len h
  have hge := own_ge h
  have hl3 : (flK l').length = n * 3 := by rw [flK_len]; omega
  have hbl : ∀ k, k < w.heap.size → (sortWorldK encK 3 w g 0 m l'.toArray os).heap[k]? = (Sort.putRowK encK 3 w g 0 l'.toArray).heap[k]? := by
    intro k hk
    unfold sortWorldK Sort.grow
    show ((Sort.putRowK encK 3 (Sort.ahead w m) g 0 l'.toArray).heap ++ os)[k]? = _
    rw [Array.getElem?_append_left (by unfold Sort.putRowK Sort.putRow Sort.mapBlock Sort.ahead; simpa using hk)]
    rfl
  constructor
  · refine ⟨hl3, ?_⟩
    obtain ⟨h1, h2⟩ := h
    rcases h2 with ⟨hv, _⟩ | ⟨g', cap', cur, hv, hB, hh, hc, hm, hcs, htk⟩
    · cases hv
    · injection hv with e1 e2 e3
      injection e1 with e1
      injection e1 with e1
      subst e1 e3
      refine Or.inr ⟨g, cap, Sort.putCells id 0 (flK l').toArray cur, rfl, hB, ?_, hc, hm, by simpa [Sort.putCells] using hcs, ?_⟩
      · rw [hbl g hgl]
        unfold Sort.putRowK Sort.putRow Sort.mapBlock
        rw [flat_eq]
        simp only [Array.getElem?_modify, if_true, hh, Option.map_some]
        rfl
      · apply List.ext_getElem
        · simp [Sort.putCells, hl3, hcs]; try omega
        · intro i h3 h4
          have hi : i < n * 3 := by omega
          simp [Sort.putCells, hl3, hi]
  · refine ⟨rfl, rfl, rfl, ?_, fun k hk hn => ?_⟩
    · unfold sortWorldK
      rw [Sort.size_grow]
      unfold Sort.putRowK Sort.putRow Sort.mapBlock Sort.ahead
      simp
    · rw [hbl k hk]
      unfold Sort.putRowK Sort.putRow Sort.mapBlock
      have : g ≠ k := fun e => hn (by rw [e])
      simp [Array.getElem?_modify, this]

set_option maxHeartbeats 1000000 in
theorem sort_any (B g n cap : Nat) (l : List Kl) (w : World) (h : Own w B g n cap l) (hn : n ≤ 1000000) :
    Calls Try.prog 68 #[.slice (some ⟨g, 0, none⟩) n cap, .func (.func 69) #[] #[]] w fun e w' => e = .returned (.tuple #[]) ∧ ∃ l' : List Kl, l'.Perm l ∧ l'.Pairwise kle ∧ Own w' B g n cap l' ∧ w.grownBy w' (some g) := by
  have hl := own_len h
  have eg : ∀ args w, (callFunc 69 args).run Try.prog w = .ok (.enter 69 args) w := enters_of Try.func69 (by kernel_rfl) rfl
  have hcon := AnyQ.slices_SortFunc Try.sortR 3 Try.isAgg79 Try.sizeOf79 encK (fun _ => rfl) (fun x v hv => by simp [encK] at hv; rcases hv with rfl | rfl | rfl <;> rfl) cmpK swoK 69 #[] g 0 cap l.toArray w eg (fun m os dk hd x y => by_any x y _) (holds_own h) (own_lt h) (by simp; omega)
  have es : l.toArray.size = n := by simp [hl]
  rw [es] at hcon
  refine Calls.mono hcon ?_
  rintro e w' ⟨rfl, d', m, os, hp, hs, rfl⟩
  obtain ⟨p1, p2, p3⟩ := hp
  have hd : d'.size = n := by rw [p1]; exact es
  have e1 : d'.extract 0 n = d' := by rw [← hd]; simp
  have e2 : l.toArray.extract 0 n = l.toArray := by rw [← es]; simp
  rw [e1, e2] at p3
  have hlen : d'.toList.length = l.length := p3.length_eq
  have hq := own_sorted (m := m) (os := os) h hlen
  have e3 : d'.toList.toArray = d' := by simp
  rw [e3] at hq
  refine ⟨rfl, d'.toList, p3, ?_, hq.1, hq.2⟩
  rw [List.pairwise_iff_getElem]
  intro i j hi hj hij
  have := hs i j (Nat.zero_le _) hij (by simp at hj; omega)
  rw [ltK_no] at this
  rw [getElem!_pos _ i (by simpa using hi), getElem!_pos _ j (by simpa using hj)] at this
  simpa using this


end Go.Proofs.Ytpdnceeniokemaa

namespace Go.Proofs.Ytpdnceeniokemaa
open Go.RowKit
set_option linter.unusedVariables false
set_option linter.unusedSimpArgs false

theorem as_of_pOk {l : List Kl} (h : pOk l = true) {x : Kl} (hx : x ∈ l) : asOk x = true := by
  obtain ⟨k, hk⟩ := List.getElem?_of_mem hx
  have hkl := (List.getElem?_eq_some_iff.1 hk).1
  have hi := (pOk_parts h).2 k hkl
  by_cases h0 : k = 0
  · subst h0; rw [it_zero hk] at hi; exact hi
  · have hy : l[k - 1]? = some (l[k - 1]'(by omega)) := List.getElem?_eq_getElem (by omega)
    rw [it_succ hk (by omega) hy] at hi
    simp only [Bool.and_eq_true] at hi
    exact hi.1
theorem pk_rise {l : List Kl} (h : pOk l = true) : Rise l := by
  unfold Rise
  rw [List.pairwise_iff_getElem]
  intro i j hi hj hij
  exact rise h hij (List.getElem?_eq_getElem hi) (List.getElem?_eq_getElem hj)
theorem pkL_at {ns : List ByteArray} {ts : List (List Int)} {x : Kl} (h : x ∈ pkL ns ts) : ∃ (j : Nat) (n : ByteArray) (t : List Int), ns[j]? = some n ∧ ts[j]? = some t ∧ x = ass n t := by
  obtain ⟨j, hj⟩ := List.getElem?_of_mem h
  simp only [pkL, List.getElem?_zipWith] at hj
  cases h1 : ns[j]? with
  | none => simp [h1] at hj
  | some n =>
    cases h2 : ts[j]? with
    | none => simp [h1, h2] at hj
    | some t =>
      simp only [h1, h2] at hj
      injection hj with hj
      exact ⟨j, n, t, h1, h2, hj.symm⟩
theorem ass_mem {ns : List ByteArray} {ts : List (List Int)} {j : Nat} {n : ByteArray} {t : List Int} (h1 : ns[j]? = some n) (h2 : ts[j]? = some t) : ass n t ∈ pkL ns ts := by
  have : (pkL ns ts)[j]? = some (ass n t) := by simp [pkL, List.getElem?_zipWith, h1, h2]
  exact List.mem_of_getElem? this
theorem as_parts {x : Kl} (h : asOk x = true) : nmOk x.1 = true ∧ x.2.1 ≤ 40000 := by
  simp only [asOk, Bool.and_eq_true, decide_eq_true_eq] at h
  exact ⟨h.1.1, h.1.2.2⟩
theorem pk_names {ns : List ByteArray} {ts : List (List Int)} (hl : ns.length = ts.length) : (pkL ns ts).map (·.1) = ns := by
  apply List.ext_getElem?
  intro j
  by_cases hj : j < ns.length
  · have e1 : ns[j]? = some (ns[j]'hj) := List.getElem?_eq_getElem hj
    have e2 : ts[j]? = some (ts[j]'(by omega)) := List.getElem?_eq_getElem (by omega)
    simp only [List.getElem?_map, pkL, List.getElem?_zipWith, e1, e2]; rfl
  · rw [List.getElem?_eq_none (by simp [pkL_len hl]; omega), List.getElem?_eq_none (by omega)]
/-- sorted, and looked at by PackOk -/
theorem pk_impl {ns : List ByteArray} {ts : List (List Int)} {L : List Kl} (hl : ns.length = ts.length) (hf : ns.length ≤ 100) (hp : L.Perm (pkL ns ts)) (hk : L.Pairwise kle) : PkQ ns ts (if pOk L = true then L else []) (pOk L) := by
  cases h : pOk L with
  | true =>
    rw [if_pos rfl]
    have hr := pk_rise h
    refine .inl ⟨rfl, good_of hl hf (fun j n hn => ?_) (fun j t ht => ?_) hp hr, hp, hr⟩
    · have hj := (List.getElem?_eq_some_iff.1 hn).1
      have e2 : ts[j]? = some (ts[j]'(by omega)) := List.getElem?_eq_getElem (by omega)
      exact (as_parts (as_of_pOk h (hp.mem_iff.2 (ass_mem hn e2)))).1
    · have hj := (List.getElem?_eq_some_iff.1 ht).1
      have e1 : ns[j]? = some (ns[j]'(by omega)) := List.getElem?_eq_getElem (by omega)
      have := (as_parts (as_of_pOk h (hp.mem_iff.2 (ass_mem e1 ht)))).2
      have e : (ass (ns[j]'(by omega)) t).2.1 = (t.length : Int) := rfl
      rw [e] at this
      omega
  | false =>
    rw [if_neg (by simp)]
    refine .inr ⟨rfl, rfl, fun g => ?_⟩
    have hno : (L.map (·.1)).Nodup := by
      have := (hp.map (·.1)).nodup_iff.2 (by rw [pk_names hl]; exact g.one)
      exact this
    have hok : pOk L = true := by
      refine pOk_good (by rw [hp.length_eq, pkL_len hl]; exact hf) (fun k hkl => ?_)
      have hx : L[k]? = some (L[k]'hkl) := List.getElem?_eq_getElem hkl
      have has : asOk (L[k]'hkl) = true := by
        obtain ⟨j, n, t, h1, h2, h3⟩ := pkL_at (hp.mem_iff.1 (List.mem_of_getElem? hx))
        rw [h3]
        have a1 := g.nms n (List.mem_of_getElem? h1)
        have a2 := g.bds t (List.mem_of_getElem? h2)
        have a3 : 0 ≤ dig t ∧ dig t ≤ 1000000006 := by have := dig_bd t; omega
        unfold asOk ass
        rw [a1, decide_eq_true (show (0 : Int) ≤ (t.length : Int) by omega), decide_eq_true (show (t.length : Int) ≤ 40000 by omega), decide_eq_true a3.1, decide_eq_true a3.2]
        rfl
      by_cases h0 : k = 0
      · subst h0; rw [it_zero hx]; exact has
      · have hy : L[k - 1]? = some (L[k - 1]'(by omega)) := List.getElem?_eq_getElem (by omega)
        rw [it_succ hx (by omega) hy, has, Bool.true_and]
        have h1 := List.pairwise_iff_getElem.1 hk (k - 1) k (by omega) hkl (by omega)
        have h2 := List.pairwise_iff_getElem.1 hno (k - 1) k (by simp; omega) (by simpa using hkl) (by omega)
        simp only [List.getElem_map] at h2
        refine bef_tot h1 ?_
        cases e : ((L[k]'hkl).1.toList == (L[k - 1]'(by omega)).1.toList) with
        | false => rfl
        | true => exact absurd (nmEq e).symm h2
    rw [h] at hok; cases hok
theorem PkQ.uniq {ns : List ByteArray} {ts : List (List Int)} {L M : List Kl} {u v : Bool} (h1 : PkQ ns ts L u) (h2 : PkQ ns ts M v) : L = M ∧ u = v := by
  rcases h1 with ⟨rfl, g1, p1, r1⟩ | ⟨rfl, rfl, g1⟩ <;> rcases h2 with ⟨rfl, g2, p2, r2⟩ | ⟨rfl, rfl, g2⟩
  · exact ⟨Rise.uniq (p1.trans p2.symm) r1 r2, rfl⟩
  · exact absurd g1 g2
  · exact absurd g2 g1
  · exact ⟨rfl, rfl⟩

end Go.Proofs.Ytpdnceeniokemaa
