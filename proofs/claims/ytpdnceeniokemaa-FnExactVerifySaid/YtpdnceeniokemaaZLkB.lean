/-
  Packages made of names and bodies, as plain values: a list that rises by name and has the same assets is one; no conditions.
  Contracts of the leaves: bounds, secrets, locks; nothing is written.
  Contracts of what asks for a name, and of what orders two names; nothing is written.
  Three cells in a block; no conditions.
-/
import Derived.Test.YtpdnceeniokemaaZUpP
import Derived.Test.YtpdnceeniokemaaZDg
namespace Go.Proofs.Ytpdnceeniokemaa
open Go.RowKit
set_option linter.unusedVariables false
set_option linter.unusedSimpArgs false

theorem bl_tot : ∀ (x y : List UInt8), Op.bytesLess x y = false → x ≠ y → Op.bytesLess y x = true
  | [], [], _, h => absurd rfl h
  | [], _ :: _, h, _ => by simp [Op.bytesLess] at h
  | _ :: _, [], _, _ => by simp [Op.bytesLess]
  | a :: x, b :: y, h, hne => by
    simp only [Op.bytesLess, Bool.or_eq_false_iff, Bool.and_eq_false_iff, decide_eq_false_iff_not, Bool.or_eq_true, Bool.and_eq_true, decide_eq_true_eq, beq_iff_eq] at h ⊢
    obtain ⟨h1, h2⟩ := h
    by_cases e : a = b
    · subst e
      refine .inr ⟨rfl, bl_tot x y ?_ (fun e => hne (by rw [e]))⟩
      rcases h2 with h2 | h2
      · simp at h2
      · exact h2
    · left
      rw [UInt8.lt_iff_toNat_lt] at h1 ⊢
      have : a.toNat ≠ b.toNat := fun h => e (UInt8.toNat_inj.1 h)
      omega
theorem bef_tot {a b : ByteArray} (h : bef a b = false) (hne : (a.toList == b.toList) = false) : bef b a = true :=
  bl_tot _ _ h (by intro e; rw [e] at hne; simp at hne)
/-- the asset of a name and a body -/
def ass (n : ByteArray) (t : List Int) : Kl := (n, (t.length : Int), dig t)
def pkL (ns : List ByteArray) (ts : List (List Int)) : List Kl := List.zipWith ass ns ts
def Rise (l : List Kl) : Prop := l.Pairwise fun x y => bef x.1 y.1 = true
/-- names and bodies of which a package can be made -/
structure Good (ns : List ByteArray) (ts : List (List Int)) : Prop where
  len : ns.length = ts.length
  few : ns.length ≤ 100
  nms : ∀ n ∈ ns, nmOk n = true
  bds : ∀ t ∈ ts, t.length ≤ 40000
  one : ns.Nodup
def PkQ (ns : List ByteArray) (ts : List (List Int)) (L : List Kl) (ok : Bool) : Prop := (ok = true ∧ Good ns ts ∧ L.Perm (pkL ns ts) ∧ Rise L) ∨ (ok = false ∧ L = [] ∧ ¬ Good ns ts)
theorem Rise.uniq : ∀ {L M : List Kl}, L.Perm M → Rise L → Rise M → L = M
  | [], M, hp, _, _ => by rw [List.nil_perm] at hp; exact hp.symm
  | x :: L, [], hp, _, _ => by simp at hp
  | x :: L, y :: M, hp, h1, h2 => by
    have hxy : x = y := by
      have hx : x ∈ y :: M := hp.mem_iff.1 (List.mem_cons_self ..)
      have hy : y ∈ x :: L := hp.mem_iff.2 (List.mem_cons_self ..)
      rcases List.mem_cons.1 hx with e | hx
      · exact e
      · rcases List.mem_cons.1 hy with e | hy
        · exact e.symm
        · have a1 := (List.pairwise_cons.1 h1).1 y hy
          have a2 := (List.pairwise_cons.1 h2).1 x hx
          have := bef_trans a1 a2
          rw [bef_irr] at this; cases this
    subst hxy
    rw [Rise.uniq (List.Perm.cons_inv hp) (List.pairwise_cons.1 h1).2 (List.pairwise_cons.1 h2).2]
/-- a place in the list is held by y -/
def shf (L : List Kl) (k : Nat) (y : Kl) : List Kl := L.take k ++ y :: L.drop k
theorem shf_len {L : List Kl} {k : Nat} {y : Kl} (h : k ≤ L.length) : (shf L k y).length = L.length + 1 := by simp [shf]; omega
theorem shf_end (L : List Kl) (y : Kl) : shf L L.length y = L ++ [y] := by simp [shf]
theorem shf_at {L : List Kl} {k : Nat} {y : Kl} (h : k ≤ L.length) : (shf L k y)[k]? = some y := by
  have e : (L.take k).length = k := by simp; omega
  unfold shf; rw [List.getElem?_append_right (by omega), e]; simp
theorem shf_pre {L : List Kl} {k j : Nat} {y : Kl} (h : k ≤ L.length) (hj : j < k) : (shf L k y)[j]? = L[j]? := by
  unfold shf; rw [List.getElem?_append_left (by simp; omega), List.getElem?_take_of_lt hj]
theorem shf_set {L : List Kl} {k : Nat} {y x : Kl} (h : k ≤ L.length) : (shf L k y).set k x = shf L k x := by
  have e : (L.take k).length = k := by simp; omega
  unfold shf; rw [List.set_append_right _ _ (by omega), e]; simp
theorem shf_dec {L : List Kl} {k : Nat} {z : Kl} (h : k + 1 ≤ L.length) (hz : L[k]? = some z) : shf L (k + 1) z = shf L k z := by
  unfold shf
  obtain ⟨h1, h2⟩ := List.getElem?_eq_some_iff.1 hz
  rw [take_snocK hz, List.drop_eq_getElem_cons h1, h2]; simp
theorem shf_perm (L : List Kl) (k : Nat) (x : Kl) : (shf L k x).Perm (L ++ [x]) := by
  unfold shf
  refine List.perm_middle.trans ?_
  rw [List.take_append_drop]
  exact (List.perm_append_singleton x L).symm
theorem shf_rise {L : List Kl} {k : Nat} {x : Kl} (h : Rise L) (h1 : ∀ (j : Nat) (y : Kl), j < k → L[j]? = some y → bef y.1 x.1 = true) (h2 : ∀ (j : Nat) (y : Kl), k ≤ j → L[j]? = some y → bef x.1 y.1 = true) : Rise (shf L k x) := by
  unfold Rise shf
  have h' := h
  unfold Rise at h'
  rw [← List.take_append_drop k L, List.pairwise_append] at h'
  obtain ⟨p1, p2, p3⟩ := h'
  have hd : ∀ y ∈ L.drop k, bef x.1 y.1 = true := fun y hy => by
    obtain ⟨j, hj⟩ := List.getElem?_of_mem hy
    rw [List.getElem?_drop] at hj
    exact h2 _ y (by omega) hj
  have ht : ∀ y ∈ L.take k, bef y.1 x.1 = true := fun y hy => by
    obtain ⟨j, hj⟩ := List.getElem?_of_mem hy
    have hjk : j < k := by have := (List.getElem?_eq_some_iff.1 hj).1; simp at this; omega
    rw [List.getElem?_take_of_lt hjk] at hj
    exact h1 j y hjk hj
  rw [List.pairwise_append]
  refine ⟨p1, List.pairwise_cons.2 ⟨hd, p2⟩, fun a ha b hb => ?_⟩
  rcases List.mem_cons.1 hb with rfl | hb
  · exact ht a ha
  · exact p3 a ha b hb
theorem rise_pre {L : List Kl} {k : Nat} {z x : Kl} (h : Rise L) (hz : L[k]? = some z) (hx : bef z.1 x.1 = true) : ∀ (j : Nat) (y : Kl), j < k + 1 → L[j]? = some y → bef y.1 x.1 = true := by
  intro j y hj hy
  by_cases e : j = k
  · subst e; rw [hz] at hy; injection hy with hy; subst hy; exact hx
  · obtain ⟨h1, h2⟩ := List.getElem?_eq_some_iff.1 hy
    obtain ⟨h3, h4⟩ := List.getElem?_eq_some_iff.1 hz
    have := List.pairwise_iff_getElem.1 h j k h1 h3 (by omega)
    rw [h2, h4] at this
    exact bef_trans this hx
theorem pkL_snoc {ns : List ByteArray} {ts : List (List Int)} {k : Nat} {n : ByteArray} {t : List Int} (hn : ns[k]? = some n) (ht : ts[k]? = some t) : (pkL ns ts).take (k + 1) = (pkL ns ts).take k ++ [ass n t] := by
  have : (pkL ns ts)[k]? = some (ass n t) := by simp [pkL, List.getElem?_zipWith, hn, ht]
  exact take_snocK this
theorem pkL_len {ns : List ByteArray} {ts : List (List Int)} (h : ns.length = ts.length) : (pkL ns ts).length = ns.length := by simp [pkL, h]
theorem bad_nm {ns : List ByteArray} {ts : List (List Int)} {k : Nat} {n : ByteArray} (hn : ns[k]? = some n) (h : nmOk n = false) : ¬ Good ns ts := fun g => by rw [g.nms n (List.mem_of_getElem? hn)] at h; cases h
theorem bad_bd {ns : List ByteArray} {ts : List (List Int)} {k : Nat} {t : List Int} (hn : ts[k]? = some t) (h : 40000 < t.length) : ¬ Good ns ts := fun g => by have := g.bds t (List.mem_of_getElem? hn); omega
theorem bad_two {ns : List ByteArray} {ts : List (List Int)} {k i : Nat} {n : ByteArray} {z : Kl} {L : List Kl} (hn : ns[k]? = some n) (hp : L.Perm ((pkL ns ts).take k)) (hz : L[i]? = some z) (he : (z.1.toList == n.toList) = true) : ¬ Good ns ts := fun g => by
  have hm : z ∈ (pkL ns ts).take k := hp.mem_iff.1 (List.mem_of_getElem? hz)
  obtain ⟨j, hj⟩ := List.getElem?_of_mem hm
  have hjk : j < k := by have := (List.getElem?_eq_some_iff.1 hj).1; simp at this; omega
  rw [List.getElem?_take_of_lt hjk] at hj
  have hkl := (List.getElem?_eq_some_iff.1 hn).1
  have hl := g.len
  have e1 : ns[j]? = some (ns[j]'(by omega)) := List.getElem?_eq_getElem (by omega)
  have e2 : ts[j]? = some (ts[j]'(by omega)) := List.getElem?_eq_getElem (by omega)
  simp only [pkL, List.getElem?_zipWith, e1, e2] at hj
  injection hj with hj
  have e3 : z.1 = ns[j]'(by omega) := by rw [← hj]; rfl
  have e4 := nmEq he
  have := List.pairwise_iff_getElem.1 g.one j k (by omega) hkl hjk
  apply this
  rw [← e3, e4]
  exact (List.getElem?_eq_some_iff.1 hn).2.symm
theorem good_of {ns : List ByteArray} {ts : List (List Int)} {L : List Kl} (hl : ns.length = ts.length) (hf : ns.length ≤ 100) (h1 : ∀ (j : Nat) (n : ByteArray), ns[j]? = some n → nmOk n = true) (h2 : ∀ (j : Nat) (t : List Int), ts[j]? = some t → t.length ≤ 40000) (hp : L.Perm (pkL ns ts)) (hr : Rise L) : Good ns ts := by
  refine ⟨hl, hf, fun n hn => ?_, fun t ht => ?_, ?_⟩
  · obtain ⟨j, hj⟩ := List.getElem?_of_mem hn; exact h1 j n hj
  · obtain ⟨j, hj⟩ := List.getElem?_of_mem ht; exact h2 j t hj
  · have hm : (L.map (·.1)).Perm ((pkL ns ts).map (·.1)) := hp.map _
    have he : (pkL ns ts).map (·.1) = ns := by
      apply List.ext_getElem?
      intro j
      by_cases hj : j < ns.length
      · have e1 : ns[j]? = some (ns[j]'hj) := List.getElem?_eq_getElem hj
        have e2 : ts[j]? = some (ts[j]'(by omega)) := List.getElem?_eq_getElem (by omega)
        simp only [List.getElem?_map, pkL, List.getElem?_zipWith, e1, e2]; rfl
      · rw [List.getElem?_eq_none (by simp [pkL_len hl]; omega), List.getElem?_eq_none (by omega)]
    rw [he] at hm
    refine hm.nodup_iff.1 ?_
    refine List.Pairwise.map _ (fun a b hab e => ?_) hr
    rw [e, bef_irr] at hab; cases hab

end Go.Proofs.Ytpdnceeniokemaa

namespace Go.Proofs.Ytpdnceeniokemaa
open Go.RowKit
set_option linter.unusedVariables false
set_option linter.unusedSimpArgs false

set_option maxHeartbeats 400000 in
theorem in_any (x lo hi : Int) (v : Bool) (w : World) (hv : (decide (lo ≤ x) && decide (x ≤ hi)) = v) :
    Calls Try.prog 58 #[.int .i64 x, .int .i64 lo, .int .i64 hi] w fun e w' => e = .returned (.bool v) ∧ w' = w := by
  subst hv
  by_cases h1 : lo ≤ x
  · by_cases h2 : x ≤ hi
    · go_enter Try.func58, Try.ntmps58
      go_wp2
      go_ret
      exact ⟨ret_bool (by simp [h1, h2]), rfl⟩
    · go_enter Try.func58, Try.ntmps58
      go_wp2
      go_ret
      exact ⟨ret_bool (by simp [h2]), rfl⟩
  · have hd : decide (lo ≤ x) = false := by simpa using h1
    go_enter Try.func58, Try.ntmps58
    go_wp2
    go_ret
    exact ⟨ret_bool (by simp), rfl⟩
set_option maxHeartbeats 400000 in
theorem isec_any (x : Int) (v : Bool) (w : World) (hv : (decide (1 ≤ x) && decide (x ≤ 1000000006)) = v) :
    Calls Try.prog 56 #[.int .i64 x] w fun e w' => e = .returned (.bool v) ∧ w' = w := by
  subst hv
  by_cases h1 : 1 ≤ x
  · by_cases h2 : x ≤ 1000000006
    · have h3 : x < 1000000007 := by omega
      go_enter Try.func56, Try.ntmps56
      go_wp2
      go_ret
      exact ⟨ret_bool (by simp [h1, h2, h3]), rfl⟩
    · have hd : decide (x < 1000000007) = false := by simp; omega
      go_enter Try.func56, Try.ntmps56
      go_wp2
      go_ret
      exact ⟨ret_bool (by simp [h2]), rfl⟩
  · have hd : decide (1 ≤ x) = false := by simpa using h1
    go_enter Try.func56, Try.ntmps56
    go_wp2
    go_ret
    exact ⟨ret_bool (by simp), rfl⟩
theorem fl_b {lo x hi : Int} (v : Bool) (h : v = true ↔ lo ≤ x ∧ x ≤ hi) : (decide (lo ≤ x) && decide (x ≤ hi)) = v := by
  rw [Bool.eq_iff_iff]; simpa using h.symm
abbrev lkv (f t s : Int) : Value := .agg #[.int .i64 f, .int .i64 t, .int .i64 s]
set_option maxHeartbeats 800000 in
theorem tolk_any (f t s : Int) (w : World) : Calls Try.prog 48 #[lkv f t s] w fun e w' => e = .returned (lkv f t s) ∧ Below w.heap.size w w' := by
  go_enter Try.func48, Try.ntmps48
  go_wp2
  refine bodyPost_ret (v := lkv f t s) (by simp [results, Try.results48, go_sem]) rfl ⟨rfl, ?_⟩
  exact ((((Below.refl _ _).alloc (Nat.le_refl _) _).alloc (by simp) _).alloc (by simp; omega) _)
def LkOk (f t s : Int) : Prop := (0 ≤ f ∧ f ≤ t ∧ t ≤ 1000000000) ∧ (1 ≤ s ∧ s ≤ 1000000006)
set_option maxHeartbeats 800000 in
theorem ilk_any (f t s : Int) (v : Bool) (w : World) (hv : v = true ↔ LkOk f t s) : Calls Try.prog 57 #[lkv f t s] w fun e w' => e = .returned (.bool v) ∧ Below w.heap.size w w' := by
  have hv' := hide hv
  clear hv
  by_cases h1 : 0 ≤ f
  rotate_left
  · have g1 : decide (0 ≤ f) = false := by simpa using h1
    go_enter Try.func57, Try.ntmps57
    go_wp2
    go_ret
    exact ⟨ret_bool (by rw [Bool.eq_iff_iff, unhide hv']; simp [LkOk]; omega), (Below.refl _ _).alloc (Nat.le_refl _) _⟩
  have g1 : decide (0 ≤ f) = true := by simpa using h1
  by_cases h2 : f ≤ t
  rotate_left
  · have g2 : decide (f ≤ t) = false := by simpa using h2
    go_enter Try.func57, Try.ntmps57
    go_wp2
    go_ret
    exact ⟨ret_bool (by rw [Bool.eq_iff_iff, unhide hv']; simp [LkOk]; omega), (Below.refl _ _).alloc (Nat.le_refl _) _⟩
  have g2 : decide (f ≤ t) = true := by simpa using h2
  by_cases h3 : t ≤ 1000000000
  rotate_left
  · have g3 : decide (t ≤ 1000000000) = false := by simpa using h3
    go_enter Try.func57, Try.ntmps57
    go_wp2
    go_ret
    exact ⟨ret_bool (by rw [Bool.eq_iff_iff, unhide hv']; simp [LkOk]; omega), (Below.refl _ _).alloc (Nat.le_refl _) _⟩
  have g3 : decide (t ≤ 1000000000) = true := by simpa using h3
  have hs : Hid ((decide (1 ≤ s) && decide (s ≤ 1000000006)) = v) := hide (fl_b v (by rw [unhide hv']; simp only [LkOk]; constructor <;> intro h <;> omega))
  go_enter Try.func57, Try.ntmps57
  go_wp2_with fail
  refine (isec_any s v _ (unhide hs)).mono ?_
  rintro e w1 ⟨rfl, rfl⟩
  go_wp2
  go_ret
  exact ⟨rfl, (Below.refl _ _).alloc (Nat.le_refl _) _⟩

end Go.Proofs.Ytpdnceeniokemaa

namespace Go.Proofs.Ytpdnceeniokemaa
open Go.RowKit
set_option linter.unusedVariables false
set_option linter.unusedSimpArgs false

theorem idx_str {s : ByteArray} {l : List UInt8} {k : Nat} {c : UInt8} (hl : s.data.toList = l) (h : l[k]? = some c) (w : World) : (Instr.index 9 (.string s) (.int .i64 (k : Int))).run Try.prog w = .ok (.int .u8 (c.toNat : Int)) w := by
  have hk : k < l.length := (List.getElem?_eq_some_iff.1 h).1
  have hsz : s.size = l.length := by rw [Lib.size_eq, hl]
  rw [run_index_string w 9 s .i64 k Try.underlying9, dif_pos ⟨by omega, by omega⟩]
  have e : s[(k : Int).toNat]'(by omega) = c := by
    have h2 : s.data.toList[k]? = some c := by rw [hl]; exact h
    simp only [Int.toNat_natCast]
    have h3 : s.data[k]? = some c := by rw [← h2]; simp
    have h4 := (Array.getElem?_eq_some_iff.1 h3).2
    exact h4
  rw [e]
set_option maxRecDepth 100000 in
set_option maxHeartbeats 3200000 in
theorem snm_any (s : ByteArray) (w : World) (hs : s.size ≤ maxLen) : Calls Try.prog 60 #[.string s] w fun e w' => e = .returned (.bool (nmOk s)) ∧ w' = w := by
  unfold maxLen at hs
  by_cases h1 : 1 ≤ s.size
  rotate_left
  · have g1 : decide ((s.size : Int) < 1) = true := by simp; omega
    rw [nm_short h1]
    go_enter Try.func60, Try.ntmps60
    go_wp2
    go_ret
    exact ⟨rfl, rfl⟩
  have g1 : decide ((s.size : Int) < 1) = false := by simp; omega
  by_cases h2 : s.size ≤ 40
  rotate_left
  · have g2 : decide ((40 : Int) < s.size) = true := by simp; omega
    rw [nm_long h2]
    go_enter Try.func60, Try.ntmps60
    go_wp2
    go_ret
    exact ⟨rfl, rfl⟩
  have g2 : decide ((40 : Int) < s.size) = false := by simp; omega
  go_enter Try.func60, Try.ntmps60
  go_wp2
  go_loop [3] (fun t => ∃ k : Nat, k ≤ s.size ∧ t = .int .i64 k ∧ Hid (∀ (j : Nat) (c : UInt8), j < k → s.data.toList[j]? = some c → chOk (c.toNat : Int) = true)) (fun t => s.size - (intOf t).toNat)
  case atStart => exact ⟨0, by omega, rfl, hide (fun j c h => by omega)⟩
  case round =>
    obtain ⟨k, hk, rfl, hpre⟩ := hrel
    by_cases hlt : k < s.size
    · obtain ⟨c, hc⟩ : ∃ c, s.data.toList[k]? = some c := ⟨_, List.getElem?_eq_getElem (by rw [← Lib.size_eq]; exact hlt)⟩
      have hi := idx_str rfl hc w
      obtain ⟨x, hx⟩ : ∃ x : Int, (c.toNat : Int) = x := ⟨_, rfl⟩
      have hx0 : 0 ≤ x ∧ x ≤ 255 := by have := c.toNat_lt; omega
      have hch := hide hc
      rw [hx] at hi
      have hx' := hide hx
      clear hc hx
      have g1 : decide ((k : Int) < s.size) = true := by simp; omega
      cases hok : chOk x with
      | false =>
        obtain ⟨n1, n2, n3, n4, n5⟩ := ch_no hok
        have hfin := hide (nm_bad (unhide hch) (by rw [unhide hx']; exact hok))
        clear hok
        have e4 : (x != 95) = true := by simpa using n4
        have e5 : (x != 46) = true := by simpa using n5
        have b1 : (decide (x < 48) || decide (57 < x)) = true := by simp; omega
        have b2 : (decide (x < 97) || decide (122 < x)) = true := by simp; omega
        have b3 : (decide (x < 65) || decide (90 < x)) = true := by simp; omega
        go_wp2
        all_goals
          first
          | (exfalso; omega)
          | (go_ret; exact ⟨ret_bool (unhide hfin).symm, rfl⟩)
      | true =>
        have hpre' := hide (show ∀ (j : Nat) (c : UInt8), j < k + 1 → s.data.toList[j]? = some c → chOk (c.toNat : Int) = true from fun j c' hj hc' => by
          rcases Nat.lt_or_ge j k with h | h
          · exact unhide hpre j c' h hc'
          · have : j = k := by omega
            subst this
            rw [unhide hch] at hc'; injection hc' with hc'; subst hc'; rw [unhide hx']; exact hok)
        have hy := ch_yes hok
        clear hok hpre
        rcases hy with hy | hy | hy | hy | hy
        all_goals
          go_wp2
          all_goals
            first
            | (exfalso; omega)
            | (go_round
               case rel => exact ⟨k + 1, by omega, by go_num, hpre'⟩
               case measure => simp [intOf]; omega)
    · have g1 : decide ((k : Int) < s.size) = false := by simp; omega
      have hfin := hide (nm_good h1 h2 (fun j c hc => unhide hpre j c (by have := (List.getElem?_eq_some_iff.1 hc).1; rw [Lib.size_eq] at hlt; omega) hc))
      go_wp2
      go_ret
      exact ⟨ret_bool (unhide hfin).symm, rfl⟩
set_option maxHeartbeats 400000 in
theorem icap_any (x : Int) (v : Bool) (w : World) (hv : (decide (65 ≤ x) && decide (x ≤ 90)) = v) : Calls Try.prog 117 #[.int .u8 x] w fun e w' => e = .returned (.bool v) ∧ w' = w := by
  subst hv
  by_cases h1 : 65 ≤ x
  · by_cases h2 : x ≤ 90
    · go_enter Try.func117, Try.ntmps117
      go_wp2
      go_ret
      exact ⟨ret_bool (by simp [h1, h2]), rfl⟩
    · go_enter Try.func117, Try.ntmps117
      go_wp2
      go_ret
      exact ⟨ret_bool (by simp [h2]), rfl⟩
  · have hd : decide (65 ≤ x) = false := by simpa using h1
    go_enter Try.func117, Try.ntmps117
    go_wp2
    go_ret
    exact ⟨ret_bool (by simp), rfl⟩
set_option maxHeartbeats 400000 in
theorem idgt_any (x : Int) (v : Bool) (w : World) (hv : (decide (48 ≤ x) && decide (x ≤ 57)) = v) : Calls Try.prog 87 #[.int .u8 x] w fun e w' => e = .returned (.bool v) ∧ w' = w := by
  subst hv
  by_cases h1 : 48 ≤ x
  · by_cases h2 : x ≤ 57
    · go_enter Try.func87, Try.ntmps87
      go_wp2
      go_ret
      exact ⟨ret_bool (by simp [h1, h2]), rfl⟩
    · go_enter Try.func87, Try.ntmps87
      go_wp2
      go_ret
      exact ⟨ret_bool (by simp [h2]), rfl⟩
  · have hd : decide (48 ≤ x) = false := by simpa using h1
    go_enter Try.func87, Try.ntmps87
    go_wp2
    go_ret
    exact ⟨ret_bool (by simp), rfl⟩
def ltB (x : Int) : Bool := (decide (65 ≤ x) && decide (x ≤ 90)) || (decide (97 ≤ x) && decide (x ≤ 122))
set_option maxHeartbeats 800000 in
theorem iltr_any (x : Int) (w : World) : Calls Try.prog 86 #[.int .u8 x] w fun e w' => e = .returned (.bool (ltB x)) ∧ w' = w := by
  obtain ⟨v, hv⟩ : ∃ v, (decide (65 ≤ x) && decide (x ≤ 90)) = v := ⟨_, rfl⟩
  have hL : Hid (ltB x = (v || (decide (97 ≤ x) && decide (x ≤ 122)))) := hide (by unfold ltB; rw [hv])
  have hv' := hide hv
  clear hv
  cases v with
  | true =>
    go_enter Try.func86, Try.ntmps86
    go_wp2_with fail
    refine (icap_any x true _ (unhide hv')).mono ?_
    rintro e w1 ⟨rfl, rfl⟩
    go_wp2
    go_ret
    exact ⟨ret_bool (by rw [unhide hL]; rfl), rfl⟩
  | false =>
    by_cases h1 : 97 ≤ x
    · go_enter Try.func86, Try.ntmps86
      go_wp2_with fail
      refine (icap_any x false _ (unhide hv')).mono ?_
      rintro e w1 ⟨rfl, rfl⟩
      go_wp2
      go_ret
      exact ⟨ret_bool (by rw [unhide hL]; simp [h1]), rfl⟩
    · have hd : decide (97 ≤ x) = false := by simpa using h1
      go_enter Try.func86, Try.ntmps86
      go_wp2_with fail
      refine (icap_any x false _ (unhide hv')).mono ?_
      rintro e w1 ⟨rfl, rfl⟩
      go_wp2
      go_ret
      exact ⟨ret_bool (by rw [unhide hL, hd]; rfl), rfl⟩
theorem ch_parts (x : Int) : chOk x = (ltB x || (decide (48 ≤ x) && decide (x ≤ 57)) || decide (x = 95) || decide (x = 46)) := by
  unfold chOk ltB
  rw [Bool.eq_iff_iff]; simp; omega
set_option maxRecDepth 100000 in
set_option maxHeartbeats 1600000 in
theorem inm_any (s : ByteArray) (w : World) (hs : s.size ≤ maxLen) : Calls Try.prog 76 #[.string s] w fun e w' => e = .returned (.bool (nmOk s)) ∧ w' = w := by
  unfold maxLen at hs
  by_cases h1 : 1 ≤ s.size
  rotate_left
  · have g1 : decide ((s.size : Int) < 1) = true := by simp; omega
    rw [nm_short h1]
    go_enter Try.func76, Try.ntmps76
    go_wp2
    go_ret
    exact ⟨rfl, rfl⟩
  have g1 : decide ((s.size : Int) < 1) = false := by simp; omega
  by_cases h2 : s.size ≤ 40
  rotate_left
  · have g2 : decide ((40 : Int) < s.size) = true := by simp; omega
    rw [nm_long h2]
    go_enter Try.func76, Try.ntmps76
    go_wp2
    go_ret
    exact ⟨rfl, rfl⟩
  have g2 : decide ((40 : Int) < s.size) = false := by simp; omega
  go_enter Try.func76, Try.ntmps76
  go_wp2
  go_loop [15] (fun t => ∃ k : Nat, k ≤ s.size ∧ t = .int .i64 k ∧ Hid (∀ (j : Nat) (c : UInt8), j < k → s.data.toList[j]? = some c → chOk (c.toNat : Int) = true)) (fun t => s.size - (intOf t).toNat)
  case atStart => exact ⟨0, by omega, rfl, hide (fun j c h => by omega)⟩
  case round =>
    obtain ⟨k, hk, rfl, hpre⟩ := hrel
    by_cases hlt : k < s.size
    · obtain ⟨c, hc⟩ : ∃ c, s.data.toList[k]? = some c := ⟨_, List.getElem?_eq_getElem (by rw [← Lib.size_eq]; exact hlt)⟩
      have hi := idx_str rfl hc w
      obtain ⟨x, hx⟩ : ∃ x : Int, (c.toNat : Int) = x := ⟨_, rfl⟩
      have hx0 : 0 ≤ x ∧ x ≤ 255 := by have := c.toNat_lt; omega
      have hch := hide hc
      rw [hx] at hi
      have hx' := hide hx
      clear hc hx
      have g1 : decide ((k : Int) < s.size) = true := by simp; omega
      obtain ⟨v, hv⟩ : ∃ v, chOk x = v := ⟨_, rfl⟩
      have hbad := hide (show v = false → nmOk s = false from fun e => nm_bad (unhide hch) (by rw [unhide hx', hv, e]))
      have hpre' := hide (show v = true → ∀ (j : Nat) (c : UInt8), j < k + 1 → s.data.toList[j]? = some c → chOk (c.toNat : Int) = true from fun e j c' hj hc' => by
        rcases Nat.lt_or_ge j k with h | h
        · exact unhide hpre j c' h hc'
        · have : j = k := by omega
          subst this
          rw [unhide hch] at hc'; injection hc' with hc'; subst hc'; rw [unhide hx', hv, e])
      have hv' := hide (hv.symm.trans (ch_parts x))
      clear hv hpre hx' hch
      have hlt' := hide (iltr_any x)
      obtain ⟨p, hp⟩ : ∃ p, ltB x = p := ⟨_, rfl⟩
      obtain ⟨d, hd⟩ : ∃ d, (decide (48 ≤ x) && decide (x ≤ 57)) = d := ⟨_, rfl⟩
      have hd' := hide hd
      rw [hp, hd] at hv'
      rw [hp] at hlt'
      clear hp hd
      obtain ⟨u, hu⟩ : ∃ u, (x != 95) = u := ⟨_, rfl⟩
      obtain ⟨z, hz⟩ : ∃ z, (x != 46) = z := ⟨_, rfl⟩
      have hv2 := hide (show v = (p || d || !u || !z) by rw [unhide hv', ← hu, ← hz]; simp [bne]; rfl)
      clear hv'
      cases p with
      | true =>
        go_wp2_with fail
        refine (unhide hlt' _).mono ?_
        rintro e w1 ⟨rfl, rfl⟩
        go_wp2
        go_round
        case rel => exact ⟨k + 1, by omega, by go_num, hide (unhide hpre' (by rw [unhide hv2]; rfl))⟩
        case measure => simp [intOf]; omega
      | false =>
        cases d with
        | true =>
          go_wp2_with fail
          refine (unhide hlt' _).mono ?_
          rintro e w1 ⟨rfl, rfl⟩
          go_wp2_with fail
          refine (idgt_any x true _ (unhide hd')).mono ?_
          rintro e w1 ⟨rfl, rfl⟩
          go_wp2
          go_round
          case rel => exact ⟨k + 1, by omega, by go_num, hide (unhide hpre' (by rw [unhide hv2]; rfl))⟩
          case measure => simp [intOf]; omega
        | false =>
          cases u with
          | false =>
            go_wp2_with fail
            refine (unhide hlt' _).mono ?_
            rintro e w1 ⟨rfl, rfl⟩
            go_wp2_with fail
            refine (idgt_any x false _ (unhide hd')).mono ?_
            rintro e w1 ⟨rfl, rfl⟩
            go_wp2
            go_round
            case rel => exact ⟨k + 1, by omega, by go_num, hide (unhide hpre' (by rw [unhide hv2]; rfl))⟩
            case measure => simp [intOf]; omega
          | true =>
            cases z with
            | false =>
              go_wp2_with fail
              refine (unhide hlt' _).mono ?_
              rintro e w1 ⟨rfl, rfl⟩
              go_wp2_with fail
              refine (idgt_any x false _ (unhide hd')).mono ?_
              rintro e w1 ⟨rfl, rfl⟩
              go_wp2
              go_round
              case rel => exact ⟨k + 1, by omega, by go_num, hide (unhide hpre' (by rw [unhide hv2]; rfl))⟩
              case measure => simp [intOf]; omega
            | true =>
              go_wp2_with fail
              refine (unhide hlt' _).mono ?_
              rintro e w1 ⟨rfl, rfl⟩
              go_wp2_with fail
              refine (idgt_any x false _ (unhide hd')).mono ?_
              rintro e w1 ⟨rfl, rfl⟩
              go_wp2
              go_ret
              exact ⟨ret_bool (unhide hbad (by rw [unhide hv2]; rfl)).symm, rfl⟩
    · have g1 : decide ((k : Int) < s.size) = false := by simp; omega
      have hfin := hide (nm_good h1 h2 (fun j c hc => unhide hpre j c (by have := (List.getElem?_eq_some_iff.1 hc).1; rw [Lib.size_eq] at hlt; omega) hc))
      go_wp2
      go_ret
      exact ⟨ret_bool (unhide hfin).symm, rfl⟩
set_option maxHeartbeats 1600000 in
theorem sbef_any (a b : ByteArray) (w : World) (ha : a.size ≤ maxLen) (hb : b.size ≤ maxLen) : Calls Try.prog 61 #[.string a, .string b] w fun e w' => e = .returned (.bool (bef a b)) ∧ ∃ n, w' = w.drewN n := by
  unfold maxLen at ha hb
  have sa := Lib.size_eq a
  have sb := Lib.size_eq b
  have sa' := hide sa
  have sb' := hide sb
  clear sa sb
  go_enter Try.func61, Try.ntmps61
  go_wp2
  go_loopw [5] (fun t wr => ∃ k : Nat, k ≤ a.size ∧ k ≤ b.size ∧ t = .int .i64 k ∧ Hid (∀ j, j < k → a.data.toList[j]? = b.data.toList[j]?) ∧ Hid (∃ n, wr = w.drewN n)) (fun t _ => a.size - (intOf t).toNat)
  case atStart => exact ⟨0, by omega, by omega, rfl, hide (fun j h => by omega), hide ⟨0, rfl⟩⟩
  case round =>
    obtain ⟨k, h1, h2, rfl, hpre, hw⟩ := hrel
    by_cases hka : k < a.size
    · have g1 : decide ((k : Int) < a.size) = true := by simp; omega
      by_cases hkb : k < b.size
      · have g2 : decide ((k : Int) < b.size) = true := by simp; omega
        obtain ⟨c, hc⟩ : ∃ c, a.data.toList[k]? = some c := ⟨_, List.getElem?_eq_getElem (by rw [← unhide sa']; exact hka)⟩
        obtain ⟨d, hd⟩ : ∃ d, b.data.toList[k]? = some d := ⟨_, List.getElem?_eq_getElem (by rw [← unhide sb']; exact hkb)⟩
        have i1 := fun w => idx_str rfl hc w
        have i2 := fun w => idx_str rfl hd w
        by_cases hcd : c = d
        · subst hcd
          have hn := hide (show ∀ j, j < k + 1 → a.data.toList[j]? = b.data.toList[j]? from fun j hj => by
            rcases Nat.lt_or_ge j k with h | h
            · exact unhide hpre j h
            · have : j = k := by omega
              subst this; rw [hc, hd])
          have e1 : ((c.toNat : Int) != c.toNat) = false := by simp
          clear hc hd hpre
          go_wp2_with fail
          go_quiet (fail)
          go_wp2
          go_roundw
          case rel => exact ⟨k + 1, by omega, by omega, by go_num, hn, hide (by obtain ⟨n, rfl⟩ := unhide hw; exact ⟨_, World.drewN_drewN _ _ _⟩)⟩
          case measure => simp [intOf]; omega
        · have hfin := hide (show bef a b = decide ((c.toNat : Int) < d.toNat) by rw [bef_eq]; exact bl_at hc hd (unhide hpre) hcd)
          have e1 : ((c.toNat : Int) != d.toNat) = true := by
            simp only [bne_iff_ne, ne_eq]
            intro h
            exact hcd (UInt8.toNat_inj.1 (by omega))
          clear hc hd hpre
          go_wp2_with fail
          go_quiet (fail)
          go_wp2_with fail
          go_quiet (fail)
          go_wp2
          go_ret
          exact ⟨ret_bool (by rw [unhide hfin]; simp), by obtain ⟨n, rfl⟩ := unhide hw; exact ⟨_, by rw [World.drewN_drewN, World.drewN_drewN]⟩⟩
      · have g2 : decide ((k : Int) < b.size) = false := by simp; omega
        have hfin := hide (show bef a b = decide ((a.size : Int) < b.size) by rw [bef_eq, unhide sa', unhide sb']; exact bl_end (fun j x y => unhide hpre j (by have := unhide sb'; omega)))
        go_wp2
        go_ret
        exact ⟨ret_bool (by rw [unhide hfin]; simp), unhide hw⟩
    · have g1 : decide ((k : Int) < a.size) = false := by simp; omega
      have hfin := hide (show bef a b = decide ((a.size : Int) < b.size) by rw [bef_eq, unhide sa', unhide sb']; exact bl_end (fun j x y => unhide hpre j (by have := unhide sa'; omega)))
      go_wp2
      go_ret
      exact ⟨ret_bool (by rw [unhide hfin]; simp), unhide hw⟩

end Go.Proofs.Ytpdnceeniokemaa

namespace Go.Proofs.Ytpdnceeniokemaa
open Go.RowKit
set_option linter.unusedVariables false
set_option linter.unusedSimpArgs false

theorem blk3 {X : World} {b : Nat} {t : TypeId} {v0 v1 v2 : Value} (h : X.heap[b]? = some (.cells #[v0, v1, v2] t (0, 0))) :
    X.cell? ⟨b, 0, none⟩ = some v0 ∧ X.cell? ⟨b, 1, none⟩ = some v1 ∧ X.cell? ⟨b, 2, none⟩ = some v2 := by
  refine ⟨?_, ?_, ?_⟩ <;> simp [World.cell?, h]

end Go.Proofs.Ytpdnceeniokemaa
