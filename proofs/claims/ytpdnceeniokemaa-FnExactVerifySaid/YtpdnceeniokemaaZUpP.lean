/-
  digestsOf, beside leavers: the digests of all bodies, in a new block; what lay there before stands.
  Assets and packages as plain values; no conditions.
  Packages held against each other, as plain values; no conditions.
-/
import Derived.Test.YtpdnceeniokemaaZFl
import Derived.Test.YtpdnceeniokemaaZDg
import Derived.Lib.Strings
set_option linter.unusedVariables false
set_option linter.unusedSimpArgs false
namespace Go.Proofs.Ytpdnceeniokemaa.Wk
open Go Go.Conc Go.ConcN Go.RowKit Go.Conc.Lib
open Go.ConcR (KK wgBlock WgAt stA smA rd wr mk Payload Aside2 DC0 ofEvent_cell)
open Go.Proofs.Ytpdnceeniokemaa.Br (BT BTS Hd Pz Pst CallsB Shn)
/-- All below N stands; nothing is said of tape and draws. -/
structure Bel (N : Nat) (a b : World) : Prop where
  os : b.os = a.os
  output : b.output = a.output
  size : a.heap.size ≤ b.heap.size
  block : ∀ k, k < N → b.heap[k]? = a.heap[k]?
/-- The bodies as the view has them. -/
structure BodiesV (w : World) (zs : List El) (a0 : Option Addr) : Prop where
  el : ∀ j e, zs[j]? = some e → ∃ b o, a0 = some ⟨b, o, none⟩ ∧ b < w.heap.size ∧ w.cell? ⟨b, o + j, none⟩ = some e.v
  body : ∀ e ∈ zs, Bys w e.p e.l ∧ Byt e.l ∧ e.l.length ≤ e.cap ∧ e.cap ≤ maxLen

section
open Classical
def emp : Obj → Obj
  | .cells _ e _ => .cells #[] e (0, 0)
  | o => o
/-- W seen with the blocks of S emptied. -/
noncomputable def vw (S : Nat → Prop) (W : World) : World := { W with heap := W.heap.mapIdx fun i o => if S i then emp o else o }
theorem vw_out {S : Nat → Prop} {W : World} {b : Nat} (h : ¬ S b) : (vw S W).heap[b]? = W.heap[b]? := by
  simp only [vw, Array.getElem?_mapIdx, h, if_false]
  cases W.heap[b]? <;> rfl
theorem vw_in {S : Nat → Prop} {W : World} {b : Nat} {c : Array Value} {e : TypeId} {f : Nat × Nat} (h : S b) (hw : W.heap[b]? = some (.cells c e f)) : (vw S W).heap[b]? = some (.cells #[] e (0, 0)) := by
  simp only [vw, Array.getElem?_mapIdx, h, if_true, hw]
  rfl
theorem vw_hd [Br.Thr] {S : Nat → Prop} {W : World} (h : ∀ b, S b → ∃ c e, W.heap[b]? = some (.cells c e (0, 0))) (ht : ∀ b, S b → Br.Thr.N ≤ b) : Hd S (vw S W) W := by
  refine ⟨⟨rfl, rfl, rfl, rfl, by simp [vw, World.at], fun b hb => (vw_out hb).symm, fun b hb => ?_⟩, ht⟩
  obtain ⟨c, e, hw⟩ := h b hb
  exact ⟨c, e, vw_in hb hw, hw⟩
theorem vw_size (S : Nat → Prop) (W : World) : (vw S W).heap.size = W.heap.size := by simp [vw]
end

section
variable {w : World} {n : Nat}
theorem w3_low {b : Nat} (h : b < w.heap.size) : (w3 w n).heap[b]? = w.heap[b]? := by
  unfold w3
  rw [Below.heap_alloc _ _ _ (by simp only [World.size_alloc]; omega), Below.heap_alloc _ _ _ (by simp only [World.size_alloc]; omega), Below.heap_alloc _ _ _ h]
theorem w3_0 : (w3 w n).heap[w.heap.size]? = some (.cells (madeCells #[.int .i64 0] n) 2) := by
  unfold w3
  rw [Below.heap_alloc _ _ _ (by simp only [World.size_alloc]; omega), Below.heap_alloc _ _ _ (by simp only [World.size_alloc]; omega)]
  exact heap_alloc_new w _
theorem w3_1 : (w3 w n).heap[w.heap.size + 1]? = some (.cells #[.slice (some ⟨w.heap.size, 0, none⟩) n n] 53) := by
  unfold w3
  rw [Below.heap_alloc _ _ _ (by simp only [World.size_alloc]; omega)]
  have := heap_alloc_new (w.alloc (.cells (madeCells #[.int .i64 0] n) 2)) (.cells #[.slice (some ⟨w.heap.size, 0, none⟩) n n] 53)
  simpa only [World.size_alloc] using this
theorem w3_2 : (w3 w n).heap[w.heap.size + 2]? = some (.cells #[.int .u64 0, .int .u32 0] 106) := by
  unfold w3
  have := heap_alloc_new ((w.alloc (.cells (madeCells #[.int .i64 0] n) 2)).alloc (.cells #[.slice (some ⟨w.heap.size, 0, none⟩) n n] 53)) (.cells #[.int .u64 0, .int .u32 0] 106)
  simpa only [World.size_alloc] using this
theorem w3_size : (w3 w n).heap.size = w.heap.size + 3 := by simp [w3]
end
theorem okF66 (T : Array Value) : Ct.OkF Try.prog Ct.FP ((base 66).at ⟨T, []⟩ [.code L66, .inLoop L66, .inBlock 0, .code R66]) := by
  have hL : Ct.okC Try.prog Ct.FP L66 := Ct.cOk_ok (by kernel_rfl)
  have hR : Ct.okC Try.prog Ct.FP R66 := Ct.cOk_ok (by kernel_rfl)
  refine ⟨rfl, rfl, show Ct.FS 66 = true from rfl, fun d hd => (by cases hd), fun x hx => ?_⟩
  simp only [Frame.at, List.mem_cons, List.not_mem_nil, or_false] at hx
  rcases hx with rfl | rfl | rfl | rfl
  · exact hL
  · exact hL
  · trivial
  · exact hR

theorem dig_B [Br.Thr] {w : World} {a0 : Option Addr} {zs : List El} {n cap : Nat} (hz : zs.length = n) (hn : n ≤ 1073741824) (hB : BodiesV w zs a0) (hg : Br.GC Try.prog w) (hTh : Br.Thr.N ≤ w.heap.size) :
    CallsB Try.prog 66 #[.slice a0 n cap] w fun v w' => v = .slice (some ⟨w.heap.size, 0, none⟩) n n ∧ w'.heap[w.heap.size]? = some (.cells (valsE zs n).toArray 2) ∧ Bel w.heap.size w w' := by
  intro c cs Q hk S W gs sl t q hh h0 hL hP
  have hS : ∀ b, S b → b < w.heap.size := fun b hb => hh.lt hb
  refine prologue (S := S) hn (fun g hA => ?_) W gs sl t q hh h0 hL hP
  clear hh h0 hL hP W gs sl t q
  refine BTS.trans ?_
  intro W gs sl t q hh h0 hL hP
  obtain ⟨N, hN⟩ : ∃ N, w.heap.size = N := ⟨_, rfl⟩
  have e0 := w3_0 (w := w) (n := n)
  have e1 := w3_1 (w := w) (n := n)
  have e2 := w3_2 (w := w) (n := n)
  have es := w3_size (w := w) (n := n)
  have el : ∀ b, b < w.heap.size → (w3 w n).heap[b]? = w.heap[b]? := fun b hb => w3_low hb
  have eb : ∀ b, ¬ S b → W.heap[b]? = (w3 w n).heap[b]? := fun b hb => hh.out b hb
  have ein : ∀ b, S b → ∃ c e, (w3 w n).heap[b]? = some (.cells #[] e (0, 0)) ∧ W.heap[b]? = some (.cells c e (0, 0)) := fun b hb => hh.inn b hb
  have esz : W.heap.size = (w3 w n).heap.size := hh.size
  have eos : W.os = (w3 w n).os := hh.os
  have eou : W.output = (w3 w n).output := hh.output
  have o3 : (w3 w n).os = w.os := rfl
  have u3 : (w3 w n).output = w.output := rfl
  rw [hN] at e0 e1 e2 es el hS hA
  have ns : ∀ b, N ≤ b → ¬ S b := fun b hb hx => by have := hS b hx; omega
  rw [← eb _ (ns _ (by omega))] at e0 e1 e2
  have hwg : WgAt 106 (N + 2) W 0 0 := e2
  have hpay : PayAt N n W := ⟨_, e0, size_madeCells _ _⟩
  have hci : CI N W n (N + 3 + 2 * 0) 0 none none W := ⟨Below.refl _ _, by omega, by omega, by simp [World.cell?, e1], fun _ e => (by cases e), fun _ e => (by cases e)⟩
  have hcell : ∀ b o v, b < N → w.cell? ⟨b, o, none⟩ = some v → ¬ S b ∧ W.cell? ⟨b, o, none⟩ = some v := fun b o v hb hv => by
    have hns : ¬ S b := fun hx => by
      obtain ⟨_, e, h1, _⟩ := ein b hx
      rw [el b hb] at h1
      simp [World.cell?, h1] at hv
    exact ⟨hns, (World.cell?_of_block ((eb b hns).trans (el b hb))).trans hv⟩
  have hBA : BodiesAt N S W zs a0 := by
    refine ⟨fun j e he => ?_, fun e he => ?_⟩
    · obtain ⟨b, o, h1, h2, h3⟩ := hB.el j e he
      rw [hN] at h2
      obtain ⟨h4, h5⟩ := hcell _ _ _ h2 h3
      exact ⟨b, o, h1, h2, h4, h5⟩
    · obtain ⟨h1, h2, h3, h4⟩ := hB.body e he
      refine ⟨fun j x hx => ?_, h2, h3, h4⟩
      obtain ⟨b, o, h5, h6, h7⟩ := h1 j x hx
      rw [hN] at h6
      obtain ⟨h8, h9⟩ := hcell _ _ _ h6 h7
      exact ⟨b, o, h5, h6, h8, h9⟩
  have hgc : Ct.GC Try.prog W := fun g hgg => by
    obtain ⟨c, t, f, h1⟩ := hg g hgg
    have hlt : g < N := by rw [← hN]; exact (Array.getElem?_eq_some_iff.1 h1).1
    by_cases hx : S g
    · obtain ⟨c, e, _, h2⟩ := ein g hx
      exact ⟨c, e, _, h2⟩
    · exact ⟨c, t, f, (eb g hx).trans ((el g hlt).trans h1)⟩
  obtain ⟨T, rfl, hT, t3, t4, t11, t12, t13⟩ := hA
  have hA : ∀ cs, AnchS N n cs a0 cap 0 (G ((base 66).at ⟨T, []⟩ [.code L66, .inLoop L66, .inBlock 0, .code R66]) cs) := fun cs => ⟨T, rfl, hT, t3, t4, t11, t12, t13⟩
  have hF : CI N W n (N + 3 + 2 * 0) 0 none none W ∧ WgLive 106 (N + 2) W := ⟨hci, _, _, hwg⟩
  obtain ⟨f0, hf0⟩ := spawnsFrom (O := Own N) (cs := []) (cap := cap) hS (fm0 N S) hz (by omega) hBA n 0 (by omega)
  obtain ⟨f1, hf1⟩ := spawnsFrom (O := Own1 N S) (cs := [Ct.s1 Try.prog, Ct.s2 Try.prog]) (cap := cap) hS (fm1 N S) hz (by omega) hBA n 0 (by omega)
  have hs0 : SP N S W n zs (Own N) [] n (G ((base 66).at ⟨T, []⟩ [.code L66, .inLoop L66, .inBlock 0, .code R66]) []) W := (spawns_iff N S W n zs (Own N) [] n _ _).2 ⟨f0, by rw [Nat.sub_self]; exact hf0 _ _ (hA _) hF⟩
  have hs1 : SP N S W n zs (Own1 N S) [Ct.s1 Try.prog, Ct.s2 Try.prog] n (G ((base 66).at ⟨T, []⟩ [.code L66, .inLoop L66, .inBlock 0, .code R66]) [Ct.s1 Try.prog, Ct.s2 Try.prog]) W := (spawns_iff N S W n zs (Own1 N S) _ n _ _).2 ⟨f1, by rw [Nat.sub_self]; exact hf1 _ _ (hA _) hF⟩
  obtain ⟨Sk, hSk, hk0⟩ : ∃ Sk, Ct.SkOk Try.prog (N + 2) (Own1 N S) RF Sk ∧ Sk (G ((base 66).at ⟨T, []⟩ [.code L66, .inLoop L66, .inBlock 0, .code R66]) []) W := by
    rcases Nat.eq_zero_or_pos n with h | h
    · subst h
      have hfull : Full N [] W := by
        obtain ⟨c, h1, h2⟩ := hpay
        have : c = #[] := by simpa using h2
        rw [this] at h1
        exact h1
      exact ⟨SkW N W (Own1 N S), skW hS (fm1 N S), ⟨hfull, hwg⟩, .inl (firstWait _ _ (hA []) hF)⟩
    · exact ⟨SkA N n zs (Own1 N S), skA, .inl ⟨firstIter hS (fm1 N S) hz (by omega) hBA h _ _ (hA []) hF, hwg⟩⟩
  obtain ⟨M, R', w', sl', T', q', v, hrun, hz', hL', hP', hv, hfull, hci', hlive⟩ := Ct.phase (vals := valsE zs n) Ct.setS Ct.lateS (apart N S) (apart1 hS) (fam hS) hSk (geo N) (by omega) (ask0 hS (fm0 N S)) (ask1 hS (fm1 N S)) valsE_length (fun i hi => valsE_get i hi) (okF66 T) hgc hwg hpay hs0 hs1 hk0 h0 hL hP
  have hbl : ∀ b, b < N → w'.heap[b]? = W.heap[b]? := fun b hb => hci'.below.block b hb
  have hcl : ∀ b, (S b ∨ b = N + 2) → ∃ c e, w'.heap[b]? = some (.cells c e (0, 0)) := fun b hb => by
    rcases hb with hb | rfl
    · obtain ⟨c, e, _, h2⟩ := ein b hb
      exact ⟨c, e, (hbl b (hS b hb)).trans h2⟩
    · obtain ⟨st, sm, h⟩ := hlive
      exact ⟨_, _, h⟩
  refine ⟨M, R', _, vw (fun b => S b ∨ b = N + 2) w', w', _, sl', T', q', hrun, hz', hL', hP', vw_hd hcl (fun b hb => hb.elim (hh.thr b) (fun e => by omega)), hk v _ ⟨by rw [hN]; exact hv, ?_, ?_⟩⟩
  · rw [hN, vw_out (fun h => by rcases h with h | h; exact ns N (Nat.le_refl _) h; omega)]
    exact hfull
  · rw [hN]
    refine ⟨?_, ?_, ?_, fun k hk' => ?_⟩
    · exact hci'.below.os.trans (eos.trans o3)
    · exact hci'.below.output.trans (eou.trans u3)
    · rw [vw_size, hci'.size]; omega
    · by_cases hx : S k
      · obtain ⟨c, e, h1, h2⟩ := ein k hx
        rw [vw_in (.inl hx) ((hbl k hk').trans h2), ← el k hk', h1]
      · rw [vw_out (fun h => by rcases h with h | h; exact hx h; omega), hbl k hk', eb k hx, el k hk']
end Go.Proofs.Ytpdnceeniokemaa.Wk

namespace Go.Proofs.Ytpdnceeniokemaa
open Go.RowKit
set_option linter.unusedVariables false
set_option linter.unusedSimpArgs false

abbrev Kl := ByteArray × Int × Int
theorem take_snocK {l : List Kl} {k : Nat} {c : Kl} (h : l[k]? = some c) : l.take (k + 1) = l.take k ++ [c] := by rw [List.take_add_one, h]; rfl
/-- a sign of a name -/
def chOk (x : Int) : Bool := (decide (48 ≤ x) && decide (x ≤ 57)) || (decide (97 ≤ x) && decide (x ≤ 122)) || (decide (65 ≤ x) && decide (x ≤ 90)) || decide (x = 95) || decide (x = 46)
theorem ch_yes {x : Int} (h : chOk x = true) : (48 ≤ x ∧ x ≤ 57) ∨ (97 ≤ x ∧ x ≤ 122) ∨ (65 ≤ x ∧ x ≤ 90) ∨ x = 95 ∨ x = 46 := by simp [chOk] at h; omega
theorem ch_no {x : Int} (h : chOk x = false) : ¬ (48 ≤ x ∧ x ≤ 57) ∧ ¬ (97 ≤ x ∧ x ≤ 122) ∧ ¬ (65 ≤ x ∧ x ≤ 90) ∧ ¬ x = 95 ∧ ¬ x = 46 := by simp [chOk] at h; omega
def nmOk (s : ByteArray) : Bool := decide (1 ≤ s.size) && decide (s.size ≤ 40) && s.data.toList.all fun c => chOk (c.toNat : Int)
theorem nm_short {s : ByteArray} (h : ¬ 1 ≤ s.size) : nmOk s = false := by simp only [nmOk, decide_eq_false h, Bool.false_and]
theorem nm_long {s : ByteArray} (h : ¬ s.size ≤ 40) : nmOk s = false := by simp only [nmOk, decide_eq_false h, Bool.false_and, Bool.and_false]
theorem nm_bad {s : ByteArray} {k : Nat} {c : UInt8} (hk : s.data.toList[k]? = some c) (h : chOk (c.toNat : Int) = false) : nmOk s = false := by
  have : (s.data.toList.all fun c => chOk (c.toNat : Int)) = false := by
    rw [List.all_eq_false]
    exact ⟨c, List.mem_of_getElem? hk, by simp [h]⟩
  simp only [nmOk, this, Bool.and_false]
theorem nm_good {s : ByteArray} (h1 : 1 ≤ s.size) (h2 : s.size ≤ 40) (h : ∀ (k : Nat) (c : UInt8), s.data.toList[k]? = some c → chOk (c.toNat : Int) = true) : nmOk s = true := by
  have : (s.data.toList.all fun c => chOk (c.toNat : Int)) = true := by
    rw [List.all_eq_true]
    intro c hc
    obtain ⟨k, hk⟩ := List.getElem?_of_mem hc
    exact h k c hk
  simp only [nmOk, this, Bool.and_true, Bool.and_eq_true, decide_eq_true_eq]
  exact ⟨h1, h2⟩
theorem nm_size {s : ByteArray} (h : nmOk s = true) : 1 ≤ s.size ∧ s.size ≤ 40 := by
  simp only [nmOk, Bool.and_eq_true, decide_eq_true_eq] at h; exact h.1
/-- one text stands ahead of the other -/
def bef (a b : ByteArray) : Bool := Op.bytesLess a.toList b.toList
theorem bef_eq (a b : ByteArray) : bef a b = Op.bytesLess a.data.toList b.data.toList := by unfold bef; rw [Lib.toList_data, Lib.toList_data]
theorem bl_skip : ∀ (k : Nat) (x y : List UInt8), k ≤ x.length → k ≤ y.length → (∀ j, j < k → x[j]? = y[j]?) → Op.bytesLess x y = Op.bytesLess (x.drop k) (y.drop k)
  | 0, _, _, _, _, _ => by simp
  | k + 1, x, y, hx, hy, h => by
    match x, y, hx, hy with
    | a :: x, b :: y, hx, hy =>
      have e : a = b := by simpa using h 0 (by omega)
      subst e
      rw [Op.bytesLess]
      simp only [List.drop_succ_cons]
      rw [← bl_skip k x y (by simpa using hx) (by simpa using hy) (fun j hj => by simpa using h (j + 1) (by omega))]
      simp
theorem bl_at {x y : List UInt8} {k : Nat} {a b : UInt8} (ha : x[k]? = some a) (hb : y[k]? = some b) (h : ∀ j : Nat, j < k → x[j]? = y[j]?) (hne : a ≠ b) : Op.bytesLess x y = decide ((a.toNat : Int) < b.toNat) := by
  have h1 := (List.getElem?_eq_some_iff.1 ha).1
  have h2 := (List.getElem?_eq_some_iff.1 hb).1
  rw [bl_skip k x y (by omega) (by omega) h, List.drop_eq_getElem_cons h1, List.drop_eq_getElem_cons h2]
  have e1 : x[k] = a := (List.getElem?_eq_some_iff.1 ha).2
  have e2 : y[k] = b := (List.getElem?_eq_some_iff.1 hb).2
  rw [e1, e2, Op.bytesLess]
  have e3 : (a == b) = false := by simp [hne]
  rw [e3]
  simp only [Bool.false_and, Bool.or_false]
  rw [Bool.eq_iff_iff]; simp [UInt8.lt_iff_toNat_lt]
theorem bl_end {x y : List UInt8} (h : ∀ j, j < x.length → j < y.length → x[j]? = y[j]?) : Op.bytesLess x y = decide ((x.length : Int) < y.length) := by
  rcases Nat.lt_or_ge x.length y.length with h1 | h1
  · rw [bl_skip x.length x y (Nat.le_refl _) (by omega) (fun j hj => h j hj (by omega)), List.drop_length]
    obtain ⟨b, t, e⟩ : ∃ b t, y.drop x.length = b :: t := ⟨_, _, List.drop_eq_getElem_cons h1⟩
    rw [e, Op.bytesLess]; simp; omega
  · rw [bl_skip y.length x y h1 (Nat.le_refl _) (fun j hj => h j (by omega) hj), List.drop_length]
    have : Op.bytesLess (x.drop y.length) [] = false := by cases x.drop y.length <;> rfl
    rw [this]; simp; omega
def asOk (x : Kl) : Bool := nmOk x.1 && (decide (0 ≤ x.2.1) && decide (x.2.1 ≤ 40000)) && (decide (0 ≤ x.2.2) && decide (x.2.2 ≤ 1000000006))
/-- asset k is one, and stands behind the one ahead of it -/
def itOk (l : List Kl) (k : Nat) : Bool :=
  match l[k]? with
  | some x => asOk x && (k == 0 || match l[k - 1]? with
    | some y => bef y.1 x.1
    | none => true)
  | none => true
def pOk (l : List Kl) : Bool := decide (l.length ≤ 100) && (List.range l.length).all (itOk l)
theorem pOk_long {l : List Kl} (h : ¬ l.length ≤ 100) : pOk l = false := by simp only [pOk, decide_eq_false h, Bool.false_and]
theorem pOk_bad {l : List Kl} {k : Nat} (hk : k < l.length) (h : itOk l k = false) : pOk l = false := by
  have : (List.range l.length).all (itOk l) = false := by
    rw [List.all_eq_false]; exact ⟨k, by simpa using hk, by simp [h]⟩
  simp only [pOk, this, Bool.and_false]
theorem pOk_good {l : List Kl} (h1 : l.length ≤ 100) (h : ∀ k, k < l.length → itOk l k = true) : pOk l = true := by
  have : (List.range l.length).all (itOk l) = true := by
    rw [List.all_eq_true]; intro k hk; exact h k (by simpa using hk)
  simp only [pOk, this, Bool.and_true, decide_eq_true_eq]; exact h1
theorem pOk_parts {l : List Kl} (h : pOk l = true) : l.length ≤ 100 ∧ ∀ k, k < l.length → itOk l k = true := by
  simp only [pOk, Bool.and_eq_true, decide_eq_true_eq, List.all_eq_true, List.mem_range] at h; exact h
theorem it_zero {l : List Kl} {x : Kl} (h : l[0]? = some x) : itOk l 0 = asOk x := by simp [itOk, h]
theorem it_succ {l : List Kl} {k : Nat} {x y : Kl} (h : l[k]? = some x) (h0 : 0 < k) (hy : l[k - 1]? = some y) : itOk l k = (asOk x && bef y.1 x.1) := by
  have : (k == 0) = false := by simp; omega
  simp [itOk, h, hy, this]

end Go.Proofs.Ytpdnceeniokemaa

namespace Go.Proofs.Ytpdnceeniokemaa
open Go.RowKit
set_option linter.unusedVariables false
set_option linter.unusedSimpArgs false

theorem bl_trans : ∀ (x y z : List UInt8), Op.bytesLess x y = true → Op.bytesLess y z = true → Op.bytesLess x z = true
  | _, [], _, h, _ => by cases ‹List UInt8› <;> simp [Op.bytesLess] at h
  | _, _ :: _, [], _, h => by simp [Op.bytesLess] at h
  | [], _ :: _, _ :: _, _, _ => by simp [Op.bytesLess]
  | a :: x, b :: y, c :: z, h1, h2 => by
    simp only [Op.bytesLess, Bool.or_eq_true, Bool.and_eq_true, decide_eq_true_eq, beq_iff_eq] at h1 h2 ⊢
    rcases h1 with h1 | ⟨rfl, h1⟩
    · rcases h2 with h2 | ⟨rfl, h2⟩
      · left; rw [UInt8.lt_iff_toNat_lt] at *; omega
      · exact .inl h1
    · rcases h2 with h2 | ⟨rfl, h2⟩
      · exact .inl h2
      · exact .inr ⟨rfl, bl_trans x y z h1 h2⟩
theorem bl_irr : ∀ (x : List UInt8), Op.bytesLess x x = false
  | [] => by simp [Op.bytesLess]
  | a :: x => by
    have : ¬ a < a := by rw [UInt8.lt_iff_toNat_lt]; omega
    simp [Op.bytesLess, bl_irr x, this]
theorem bef_trans {a b c : ByteArray} (h1 : bef a b = true) (h2 : bef b c = true) : bef a c = true := bl_trans _ _ _ h1 h2
theorem bef_irr (a : ByteArray) : bef a a = false := bl_irr _
theorem toList_inj {a b : ByteArray} (h : a.toList = b.toList) : a = b := by
  rw [Lib.toList_data, Lib.toList_data] at h
  cases a; cases b
  simp at h
  rw [h]
theorem nmEq {a b : ByteArray} (h : (a.toList == b.toList) = true) : a = b := toList_inj (by simpa using h)
/-- the same asset -/
def kEq (x y : Kl) : Bool := (x.1.toList == y.1.toList) && ((x.2.1 == y.2.1) && (x.2.2 == y.2.2))
theorem kEq_iff {x y : Kl} : kEq x y = true ↔ x = y := by
  obtain ⟨a, b, c⟩ := x
  obtain ⟨a', b', c'⟩ := y
  simp only [kEq, Bool.and_eq_true, beq_iff_eq, Prod.mk.injEq]
  constructor
  · rintro ⟨h1, h2, h3⟩; exact ⟨toList_inj h1, h2, h3⟩
  · rintro ⟨h1, h2, h3⟩; exact ⟨by rw [h1], h2, h3⟩
/-- rising by name -/
theorem rising {l : List Kl} (h : pOk l = true) : ∀ (d i : Nat) (x y : Kl), l[i]? = some x → l[i + d + 1]? = some y → bef x.1 y.1 = true := by
  have step : ∀ (i : Nat) (x y : Kl), l[i]? = some x → l[i + 1]? = some y → bef x.1 y.1 = true := by
    intro i x y hx hy
    have hi := (List.getElem?_eq_some_iff.1 hy).1
    have := (pOk_parts h).2 (i + 1) hi
    rw [it_succ hy (by omega) (by simpa using hx)] at this
    simp only [Bool.and_eq_true] at this
    exact this.2
  intro d
  induction d with
  | zero => exact fun i x y hx hy => step i x y hx hy
  | succ d ih =>
    intro i x y hx hy
    have hi := (List.getElem?_eq_some_iff.1 hy).1
    have hz : l[i + d + 1]? = some l[i + d + 1] := List.getElem?_eq_getElem (by omega)
    exact bef_trans (ih i x _ hx hz) (step (i + d + 1) _ y hz hy)
theorem rise {l : List Kl} (h : pOk l = true) {i j : Nat} {x y : Kl} (hij : i < j) (hx : l[i]? = some x) (hy : l[j]? = some y) : bef x.1 y.1 = true := by
  obtain ⟨d, rfl⟩ : ∃ d, j = i + d + 1 := ⟨j - i - 1, by omega⟩
  exact rising h d i x y hx hy
theorem distinct {l : List Kl} (h : pOk l = true) {i j : Nat} {x y : Kl} (hx : l[i]? = some x) (hy : l[j]? = some y) (he : x.1 = y.1) : i = j := by
  rcases Nat.lt_trichotomy i j with hlt | heq | hgt
  · have := rise h hlt hx hy; rw [he, bef_irr] at this; cases this
  · exact heq
  · have := rise h hgt hy hx; rw [he, bef_irr] at this; cases this
def hasN (l : List Kl) (s : ByteArray) : Bool := l.any fun y => y.1.toList == s.toList
def hasK (l : List Kl) (x : Kl) : Bool := l.any fun y => kEq x y
theorem hasN_no {l : List Kl} {s : ByteArray} (h : ∀ (j : Nat) (y : Kl), l[j]? = some y → (y.1.toList == s.toList) = false) : hasN l s = false := by
  unfold hasN; rw [List.any_eq_false]
  intro y hy
  obtain ⟨j, hj⟩ := List.getElem?_of_mem hy
  rw [h j y hj]; simp
theorem hasN_yes {l : List Kl} {s : ByteArray} {j : Nat} {y : Kl} (hj : l[j]? = some y) (h : (y.1.toList == s.toList) = true) : hasN l s = true := by
  unfold hasN; rw [List.any_eq_true]; exact ⟨y, List.mem_of_getElem? hj, h⟩
theorem hasK_no {l : List Kl} {x : Kl} (h : ∀ (j : Nat) (y : Kl), l[j]? = some y → kEq x y = false) : hasK l x = false := by
  unfold hasK; rw [List.any_eq_false]
  intro y hy
  obtain ⟨j, hj⟩ := List.getElem?_of_mem hy
  rw [h j y hj]; simp
theorem hasK_yes {l : List Kl} {x : Kl} {j : Nat} {y : Kl} (hj : l[j]? = some y) (h : kEq x y = true) : hasK l x = true := by
  unfold hasK; rw [List.any_eq_true]; exact ⟨y, List.mem_of_getElem? hj, h⟩
/-- where a name stands first -/
def Fnd (l : List Kl) (s : ByteArray) (r : Int) : Prop := (r = -1 ∧ hasN l s = false) ∨ ∃ (k : Nat) (y : Kl), r = (k : Int) ∧ l[k]? = some y ∧ (y.1.toList == s.toList) = true
theorem fnd_no {l : List Kl} {x : Kl} (h : hasN l x.1 = false) : hasK l x = false := by
  refine hasK_no fun j y hj => ?_
  cases he : kEq x y with
  | false => rfl
  | true =>
    have := kEq_iff.1 he
    subst this
    rw [hasN_yes hj (by simp)] at h
    cases h
theorem fnd_yes {l : List Kl} {x y : Kl} {k : Nat} (hp : pOk l = true) (hk : l[k]? = some y) (hn : (y.1.toList == x.1.toList) = true) : hasK l x = kEq y x := by
  cases he : kEq y x with
  | true =>
    have := kEq_iff.1 he
    subst this
    exact hasK_yes hk he
  | false =>
    refine hasK_no fun j z hj => ?_
    cases hz : kEq x z with
    | false => rfl
    | true =>
      have := kEq_iff.1 hz
      subst this
      have := distinct hp hk hj (nmEq hn)
      subst this
      rw [hk] at hj
      injection hj with hj
      subst hj
      rw [kEq_iff.2 rfl] at he
      cases he
def sendL (o n : List Kl) : List ByteArray := (n.filter fun x => !hasK o x).map (·.1)
def goneL (o n : List Kl) : List ByteArray := (o.filter fun x => !hasN n x.1).map (·.1)
theorem send_snoc (o n : List Kl) (x : Kl) : sendL o (n ++ [x]) = if hasK o x = true then sendL o n else sendL o n ++ [x.1] := by
  cases h : hasK o x <;> simp [sendL, List.filter_append, List.filter_cons, h]
theorem gone_snoc (o n : List Kl) (x : Kl) : goneL (o ++ [x]) n = if hasN n x.1 = true then goneL o n else goneL o n ++ [x.1] := by
  cases h : hasN n x.1 <;> simp [goneL, List.filter_append, List.filter_cons, h]
theorem send_len (o n : List Kl) : (sendL o n).length ≤ n.length := by unfold sendL; rw [List.length_map]; exact List.length_filter_le _ _
theorem gone_len (o n : List Kl) : (goneL o n).length ≤ o.length := by unfold goneL; rw [List.length_map]; exact List.length_filter_le _ _
def updS (o n : List Kl) : List ByteArray := if (pOk o && pOk n) = true then sendL o n else []
def updG (o n : List Kl) : List ByteArray := if (pOk o && pOk n) = true then goneL o n else []
theorem updS_len (o n : List Kl) : (updS o n).length ≤ 100 := by
  unfold updS
  split
  · rename_i h
    simp only [Bool.and_eq_true] at h
    have := send_len o n
    have := (pOk_parts h.2).1
    omega
  · simp
theorem updG_len (o n : List Kl) : (updG o n).length ≤ 100 := by
  unfold updG
  split
  · rename_i h
    simp only [Bool.and_eq_true] at h
    have := gone_len o n
    have := (pOk_parts h.1).1
    omega
  · simp
/-- what cmp.Compare tells -/
def cmpV (a b : ByteArray) : Int := if bef a b = true then -1 else if bef b a = true then 1 else 0
theorem cmp_lt {a b : ByteArray} (h : bef a b = true) : cmpV a b = -1 := by simp [cmpV, h]
theorem cmp_gt {a b : ByteArray} (h : bef b a = true) : cmpV a b = 1 := by
  have : bef a b = false := by
    cases h2 : bef a b with
    | false => rfl
    | true => have := bef_trans h h2; rw [bef_irr] at this; cases this
  simp [cmpV, h, this]
theorem cmp_eq (a : ByteArray) : cmpV a a = 0 := by simp [cmpV, bef_irr]
/-- what a search by halves finds -/
theorem bs_found {l : List Kl} {s : ByteArray} {i : Nat} (hp : pOk l = true) (h1 : ∀ (m : Nat) (y : Kl), m < i → l[m]? = some y → bef y.1 s = true) (h2 : ∀ (m : Nat) (y : Kl), i ≤ m → l[m]? = some y → bef y.1 s = false) :
    (i < l.length → ∀ y, l[i]? = some y → hasN l s = (y.1.toList == s.toList)) ∧ (¬ i < l.length → hasN l s = false) := by
  constructor
  · intro hi y hy
    cases he : y.1.toList == s.toList with
    | true => exact hasN_yes hy he
    | false =>
      refine hasN_no fun j z hj => ?_
      cases hz : z.1.toList == s.toList with
      | false => rfl
      | true =>
        have e := nmEq hz
        exfalso
        rcases Nat.lt_trichotomy j i with hlt | heq | hgt
        · have := h1 j z hlt hj; rw [e, bef_irr] at this; cases this
        · subst heq; rw [hy] at hj; injection hj with hj; subst hj; rw [he] at hz; cases hz
        · have := rise hp hgt hy hj
          rw [e, h2 i y (Nat.le_refl _) hy] at this; cases this
  · intro hi
    refine hasN_no fun j z hj => ?_
    have hjl := (List.getElem?_eq_some_iff.1 hj).1
    cases hz : z.1.toList == s.toList with
    | false => rfl
    | true =>
      have := h1 j z (by omega) hj
      rw [nmEq hz, bef_irr] at this; cases this

end Go.Proofs.Ytpdnceeniokemaa
