/-
  The program's readLines: what abides an iterator's turns; the contract.
  The program's ReadList: its contract.
-/
import Derived.Test.YtfhbmfndjbdhcaaGreatDoorR7
import Derived.Test.YtfhbmfndjbdhcaaGreatDoorRdP
namespace Go.Proofs.YtfhbmfndjbdhcaaGreatDoor
open Go.RowKit Go.Shelf
set_option linter.unusedVariables false
set_option linter.unusedSimpArgs false
attribute [local go_sem] Oper.semAt_some

theorem blk_ab {B b c : Nat} {X Y : World} {row : Option Nat} {o : Obj} (h : X.heap[c]? = some o) (hc : o.isCells = true ∨ c < B) (hg : X.grownBy Y row) (hr : TurnOk B b X Y row) (hne : c ≠ b) : Y.heap[c]? = some o := by
  refine (hg.block c (Array.getElem?_eq_some_iff.1 h).1 (fun e => ?_)).trans h
  rcases hr c e.symm with e | ⟨hB, o', ho', hc'⟩
  · exact hne e.1
  · rcases hc with hc | hc
    · rw [h] at ho'; cases ho'; rw [hc] at hc'; cases hc'
    · omega
theorem boxed_ab {B b c : Nat} {t : TypeId} {v : Value} {X Y : World} {row : Option Nat} (h : Boxed X c t v) (hg : X.grownBy Y row) (hr : TurnOk B b X Y row) (hne : c ≠ b) : Boxed Y c t v := blk_ab h (.inl rfl) hg hr hne
theorem box9_ab {B b : Nat} {X Y : World} {row : Option Nat} (h : ∃ v, Boxed X b 9 v) (hg : X.grownBy Y row) (hr : TurnOk B b X Y row) : ∃ v, Boxed Y b 9 v := by
  obtain ⟨v, h⟩ := h
  by_cases e : row = some b
  · rcases hr b e with e | ⟨hB, o', ho', hc'⟩
    · exact e.2
    · rw [h] at ho'; cases ho'; cases hc'
  · exact ⟨v, (hg.block b h.lt (fun e' => e e'.symm)).trans h⟩
theorem below_ab {B b n : Nat} {w X Y : World} {row : Option Nat} (h : Below n w X) (hn : n ≤ w.heap.size) (hg : X.grownBy Y row) (hr : TurnOk B b X Y row) (hb : n ≤ b) (hB : n ≤ B) : Below n w Y :=
  h.grown hg (Nat.le_trans hn h.size) (fun k e => by rcases hr k e with e | ⟨e, _⟩ <;> omega)
theorem row_ab {B b n g N cap m : Nat} {e : TypeId} {xs : List Value} {X Y : World} {row : Option Nat} (h : X.ownsRow n e m (.slice (some ⟨g, 0, none⟩) N cap) N xs) (hg : X.grownBy Y row) (hr : TurnOk B b X Y row) (hne : g ≠ b) : Y.ownsRow n e m (.slice (some ⟨g, 0, none⟩) N cap) N xs := by
  obtain ⟨h1, h2⟩ := h
  refine ⟨h1, ?_⟩
  rcases h2 with h2 | ⟨g', cap', cur, hv, hB, hh, r⟩
  · exact Or.inl h2
  · refine Or.inr ⟨g', cap', cur, hv, hB, ?_, r⟩
    injection hv with e1
    injection e1 with e1
    injection e1 with e1
    subst e1
    exact blk_ab hh (.inl rfl) hg hr hne
theorem own_ne9 {X : World} {B g n c b : Nat} {l : List Kl} (h : Own X B g n c l) (hb : ∃ v, Boxed X b 9 v) : g ≠ b := by
  intro e
  subst e
  obtain ⟨cur, fz, h1⟩ := own_blkT h
  obtain ⟨v, h2⟩ := hb
  have h2' : X.heap[g]? = some (.cells #[v] 9 (0, 0)) := h2
  rw [h1] at h2'
  injection h2' with h3
  injection h3 with h4 h5 h6
  exact absurd h5 (by decide)
theorem own_not_map {X : World} {B g n c M K : Nat} {l : List Kl} (h : Own X B g n c l) (hm : NumM X M K) : g ≠ M := by
  intro e
  subst e
  obtain ⟨cur, fz, h1⟩ := own_blkT h
  obtain ⟨D, ⟨es, cl, h2, _⟩, _⟩ := hm
  rw [h1] at h2; cases h2
theorem rd_not_map {X : World} {E M K : Nat} {o : Obj} (h : X.heap[E]? = some o) (hc : o.isCells = true) (hm : NumM X M K) : M ≠ E := by
  intro e
  subst e
  obtain ⟨D, ⟨es, cl, h2, _⟩, _⟩ := hm
  rw [h] at h2; cases h2; cases hc
theorem num_ab {B b M K : Nat} {X Y : World} {row : Option Nat} (h : NumM X M K) (hg : X.grownBy Y row) (hr : TurnOk B b X Y row) (hne : M ≠ b) (hB : M < B) : NumM Y M K := by
  refine h.kept (hg.block M h.lt (fun e => ?_))
  rcases hr M e.symm with e | ⟨e, _⟩
  · exact hne e.1
  · omega
theorem kp_others {R g : Nat} {W W' : World} {oR og : Obj} (h : Kp2 R g W W') (hR : W.heap[R]? = some oR) (hRc : oR.isCells = true) (hg : W.heap[g]? = some og) (hgc : og.isCells = true) : KeepsOthers W W' :=
  ⟨h.size, fun k o hk hc => by
    refine (h.block k (Array.getElem?_eq_some_iff.1 hk).1 (fun e => ?_) (fun e => ?_)).trans hk
    · subst e; rw [hR] at hk; cases hk; rw [hRc] at hc; cases hc
    · subst e; rw [hg] at hk; cases hk; rw [hgc] at hc; cases hc⟩
theorem kp_keep {R g : Nat} {W W' : World} (h : Kp2 R g W W') : KeepX R g W W' := ⟨h.size, fun k o hk hc h1 h2 => (h.block k (Array.getElem?_eq_some_iff.1 hk).1 h1 h2).trans hk⟩
theorem kp_below {R g n : Nat} {w W W' : World} (h : Kp2 R g W W') (hb : Below n w W) (hn : n ≤ w.heap.size) (hR : n ≤ R) (hg : n ≤ g) : Below n w W' :=
  hb.trans ⟨h.os, h.tape, h.output, h.size, fun k hk => h.block k (Nat.lt_of_lt_of_le hk (Nat.le_trans hn hb.size)) (by omega) (by omega)⟩
theorem suff10 (l : List UInt8) : Lib.hasSuffix l [10] = decide (l.getLast? = some 10) := by
  unfold Lib.hasSuffix
  by_cases h : l.getLast? = some 10
  · rw [decide_eq_true h, List.isSuffixOf_iff_suffix]
    obtain ⟨ys, e⟩ := List.getLast?_eq_some_iff.1 h
    exact ⟨ys, e.symm⟩
  · rw [decide_eq_false h]
    cases hs : List.isSuffixOf [10] l with
    | false => rfl
    | true =>
      rw [List.isSuffixOf_iff_suffix] at hs
      obtain ⟨ys, e⟩ := hs
      exact absurd (List.getLast?_eq_some_iff.2 ⟨ys, e.symm⟩) h
theorem trim10 (x : List UInt8) : Lib.trimSuffix (x ++ [10]) [10] = x := by
  unfold Lib.trimSuffix
  rw [suff10, if_pos (by simp)]
  simp
def encB (x : List UInt8) : ByteArray := ⟨(x ++ [10]).toArray⟩
theorem encB_size (x : List UInt8) : (encB x).size = x.length + 1 := by unfold encB; rw [Lib.size_eq]; simp
theorem encB_trim (x : List UInt8) : Lib.trimSuffix (encB x).data.toList (⟨#[10]⟩ : ByteArray).data.toList = x := trim10 x
theorem linesG_le (l : List UInt8) : ∀ cur, ∀ x ∈ linesG cur l, x.length ≤ cur.length + l.length := by
  induction l with
  | nil => intro cur x hx; simp [linesG] at hx
  | cons b l ih =>
    intro cur x hx
    by_cases hb : b = 10
    · subst hb
      rw [linesG_10] at hx
      rcases List.mem_cons.1 hx with rfl | hx
      · simp
      · have := ih [] x hx; simp at this ⊢; omega
    · rw [linesG_ne hb] at hx
      have := ih _ x hx
      simp at this ⊢; omega
theorem linesOf_le {l : List UInt8} {x : List UInt8} (h : x ∈ linesOf l) : x.length ≤ l.length := by have := linesG_le l [] x h; simpa using this
/-- what readLines gives -/
def RlQ (w : World) (R : List Kl × Int × Int) (e : Ending) (w' : World) : Prop :=
  (R.2.1 = 0 ∧ R.2.2 = 0 ∧ ∃ g c, e = .returned (.tuple #[.slice (some ⟨g, 0, none⟩) R.1.length c, .nilIface]) ∧ Own w' w.heap.size g R.1.length c R.1 ∧ Below w.heap.size w w') ∨
  (R.2.1 ≠ 0 ∧ R.1 = [] ∧ ∃ er, e = .returned (.tuple #[.slice none 0 0, er]) ∧ ((R.2.2 = 0 ∧ er = .iface 92 (.int .i64 R.2.1)) ∨ er = .iface 105 (.agg #[.int .i64 R.2.2, .iface 92 (.int .i64 R.2.1)])) ∧ Below w.heap.size w w')
theorem mem3 (w : World) (a b c : Obj) : (((w.alloc a).alloc b).alloc c).heap[w.heap.size]? = some a ∧ (((w.alloc a).alloc b).alloc c).heap[w.heap.size + 1]? = some b ∧ (((w.alloc a).alloc b).alloc c).heap[w.heap.size + 1 + 1]? = some c := by
  refine ⟨?_, ?_, ?_⟩
  · rw [Below.heap_alloc _ _ _ (by simp only [World.alloc, Array.size_push]; omega), Below.heap_alloc _ _ _ (by simp only [World.alloc, Array.size_push]; omega)]; exact alloc_new _ _
  · rw [Below.heap_alloc _ _ _ (by simp)]
    have := alloc_new (w.alloc a) b
    simpa using this
  · have := alloc_new ((w.alloc a).alloc b) c
    simpa using this
theorem blk3r' {X : World} {b : Nat} {t : TypeId} {v0 v1 v2 : Value} (h : X.heap[b]? = some (.cells #[v0, v1, v2] t (0, 0))) : X.cell? ⟨b, 0, none⟩ = some v0 ∧ X.cell? ⟨b, 1, none⟩ = some v1 ∧ X.cell? ⟨b, 2, none⟩ = some v2 := by
  refine ⟨?_, ?_, ?_⟩ <;> simp [World.cell?, h]
theorem fr1 {X : World} {b : Nat} {t : TypeId} {v0 : Value} (h : X.heap[b]? = some (.cells #[v0] t (0, 0))) : X.frozen? ⟨b, 0, none⟩ = false := by simp [World.frozen?, h]
theorem bel1s {W w1 : World} {b c : Nat} {u v : Value} (h : Below W.heap.size W w1) (hb : W.heap.size ≤ b) (hc : W.heap.size ≤ c) : Below W.heap.size W ((w1.setCell ⟨b, 0, none⟩ u).setCell ⟨c, 0, none⟩ v) := (h.setCell (p := ⟨b, 0, none⟩) hb u).setCell (p := ⟨c, 0, none⟩) hc v

set_option maxRecDepth 100000 in
set_option maxHeartbeats 6400000 in
theorem irl_bad (n d : Int) (dr : Bool) (s : ByteArray) (w : World) (hsm : s.size ≤ maxLen) (hbad : ¬ (Pl.rok n d dr = true ∧ s.data.toList.length ≤ 20000 ∧ ¬ (s.data.toList ≠ [] ∧ s.data.toList.getLast? ≠ some 10))) : Calls Tryz.prog 30 #[.agg #[.int .i64 n, .int .i64 d, .bool dr], .string s] w (RlQ w (rdO n d dr s.data.toList)) := by
  have hsz := Lib.size_eq s
  unfold maxLen at hsm
  obtain ⟨b0, b1, b2⟩ := mem3 w (.cells #[.int .i64 n, .int .i64 d, .bool dr] 25) (.cells #[.slice none 0 0] 45) (.cells #[.nilIface] 61)
  have B0 := hide b1
  have B1 := hide b2
  have H0 := hide (al3 w (.cells #[.int .i64 n, .int .i64 d, .bool dr] 25) (.cells #[.slice none 0 0] 45) (.cells #[.nilIface] 61))
  clear b0 b1 b2
  by_cases hr : Pl.rok n d dr = true
  · have hrk := hide hr
    by_cases h2 : 20000 < s.data.toList.length
    · rw [rd_2 hr h2]
      have g2 : decide ((20000 : Int) < s.size) = true := by simp; omega
      clear hr h2 hbad hsz
      go_enter Tryz.func30, Tryz.ntmps30
      go_wp2_with fail
      refine (irok_any n d dr _).mono ?_
      rintro e w1 ⟨rfl, hb1⟩
      have O1 := (hb1.block _ (by simp)).trans (unhide B0)
      have P1 := (hb1.block _ (by simp)).trans (unhide B1)
      have H1 := hide (laterB (unhide H0) hb1)
      have o0 := blk1 O1
      have o1 := fr1 O1
      have p0 := blk1 P1
      have p1 := fr1 P1
      clear hb1 B0 B1 H0 O1 P1
      rw [unhide hrk]
      go_wp2
      refine bodyPost_ret (v := .tuple #[.slice none 0 0, .iface 92 (.int .i64 2)]) (by simp [results, Tryz.results30, go_sem, o0, p0]) rfl (.inr ⟨by decide, rfl, _, rfl, .inl ⟨rfl, rfl⟩, bel1s (unhide H1) (by omega) (by omega)⟩)
    · have h3 : s.data.toList ≠ [] ∧ s.data.toList.getLast? ≠ some 10 := Classical.byContradiction fun h => hbad ⟨hr, by omega, h⟩
      rw [rd_3 hr (by omega) h3]
      have g2 : decide ((20000 : Int) < s.size) = false := by simp; omega
      have hsf : Lib.hasSuffix s.data.toList [10] = false := by rw [suff10]; exact decide_eq_false h3.2
      have hsf' := hide hsf
      have hs0 : s ≠ ⟨#[]⟩ := fun e => h3.1 (by rw [e])
      have g4 : ¬ s.toList = [] := by rw [Lib.toList_data]; exact h3.1
      have g5 : s.toList.isEmpty = false := by simpa using g4
      clear hs0
      clear hr h2 h3 hbad hsz hsf
      go_enter Tryz.func30, Tryz.ntmps30
      go_wp2_with fail
      refine (irok_any n d dr _).mono ?_
      rintro e w1 ⟨rfl, hb1⟩
      have O1 := (hb1.block _ (by simp)).trans (unhide B0)
      have P1 := (hb1.block _ (by simp)).trans (unhide B1)
      have H1 := hide (laterB (unhide H0) hb1)
      have o0 := blk1 O1
      have o1 := fr1 O1
      have p0 := blk1 P1
      have p1 := fr1 P1
      clear hb1 B0 B1 H0 O1 P1
      rw [unhide hrk]
      go_wp2_with fail
      refine (Tryz.strings_HasSuffix s ⟨#[10]⟩ _ (by omega)).mono ?_
      rintro e w2 ⟨rfl, rfl⟩
      rw [show (⟨#[10]⟩ : ByteArray).data.toList = [10] from rfl, unhide hsf']
      go_wp2
      refine bodyPost_ret (v := .tuple #[.slice none 0 0, .iface 92 (.int .i64 3)]) (by simp [results, Tryz.results30, go_sem, o0, p0]) rfl (.inr ⟨by decide, rfl, _, rfl, .inl ⟨rfl, rfl⟩, bel1s (unhide H1) (by omega) (by omega)⟩)
  · have hr0 : Pl.rok n d dr = false := by simpa using hr
    rw [rd_1 hr0]
    have hrk := hide hr0
    clear hr hr0 hbad hsz
    go_enter Tryz.func30, Tryz.ntmps30
    go_wp2_with fail
    refine (irok_any n d dr _).mono ?_
    rintro e w1 ⟨rfl, hb1⟩
    have O1 := (hb1.block _ (by simp)).trans (unhide B0)
    have P1 := (hb1.block _ (by simp)).trans (unhide B1)
    have H1 := hide (laterB (unhide H0) hb1)
    have o0 := blk1 O1
    have o1 := fr1 O1
    have p0 := blk1 P1
    have p1 := fr1 P1
    clear hb1 B0 B1 H0 O1 P1
    rw [unhide hrk]
    go_wp2
    refine bodyPost_ret (v := .tuple #[.slice none 0 0, .iface 92 (.int .i64 1)]) (by simp [results, Tryz.results30, go_sem, o0, p0]) rfl (.inr ⟨by decide, rfl, _, rfl, .inl ⟨rfl, rfl⟩, bel1s (unhide H1) (by omega) (by omega)⟩)

/-- what holds while the lines are read -/
def IR (n d : Int) (dr : Bool) (Rr : List Kl × Int × Int) (N K E M b s0 B : Nat) (w : World) (rest : List (List UInt8)) (r : Nat) (W : World) : Prop :=
  ∃ tr en c, readF n d dr rest tr en = Rr ∧ TrI tr en ∧ tr.length + rest.length = N ∧ (∀ x ∈ rest, x.length ≤ 20000) ∧ RdBx W E n d dr (.map (some M)) (.slice (some ⟨r, 0, none⟩) tr.length c) en ∧ Own W B r tr.length c tr ∧ NumM W M K ∧ Boxed W (s0 + 1) 45 (.slice none 0 0) ∧ Boxed W (s0 + 1 + 1) 61 .nilIface ∧ (∃ v, Boxed W b 9 v) ∧ Below s0 w W
/-- .. and where a line is at fault -/
def IX (Rr : List Kl × Int × Int) (s0 : Nat) (w : World) (c : Code) (r : Nat) (W : World) : Prop :=
  c = .ret ∧ Rr.1 = [] ∧ Rr.2.1 ≠ 0 ∧ Boxed W (s0 + 1) 45 (.slice none 0 0) ∧ Boxed W (s0 + 1 + 1) 61 (.iface 105 (.agg #[.int .i64 Rr.2.2, .iface 92 (.int .i64 Rr.2.1)])) ∧ Below s0 w W
theorem IR.ab {n d : Int} {dr : Bool} {Rr : List Kl × Int × Int} {N K E M b s0 B BB : Nat} {w : World} (h1 : E < b) (h2 : M < b) (h3 : s0 + 2 < b) (h4 : s0 = w.heap.size) (h5 : b < BB) : AbF BB b (IR n d dr Rr N K E M b s0 B w) := by
  rintro rest r X Y row ⟨tr, en, c, a1, a2, a3, a4, a5, a6, a7, a8, a9, a10, a11⟩ hg hr
  exact ⟨tr, en, c, a1, a2, a3, a4, blk_ab a5 (.inl rfl) hg hr (by omega), row_ab a6 hg hr (own_ne9 a6 a10), num_ab a7 hg hr (by omega) (by omega), boxed_ab a8 hg hr (by omega), boxed_ab a9 hg hr (by omega), box9_ab a10 hg hr, below_ab a11 (by omega) hg hr (by omega) (by omega)⟩
theorem IX.ab {Rr : List Kl × Int × Int} {b s0 BB : Nat} {w : World} (h3 : s0 + 2 < b) (h4 : s0 = w.heap.size) (h5 : b < BB) : AbF BB b (IX Rr s0 w) := by
  rintro c r X Y row ⟨a1, a2, a3, a4, a5, a6⟩ hg hr
  exact ⟨a1, a2, a3, boxed_ab a4 hg hr (by omega), boxed_ab a5 hg hr (by omega), below_ab a6 (by omega) hg hr (by omega) (by omega)⟩

set_option maxRecDepth 100000 in
set_option maxHeartbeats 6400000 in
theorem irl_ok (n d : Int) (dr : Bool) (s : ByteArray) (w : World) (hr : Pl.rok n d dr = true) (hz : s.size ≤ 20000) (he : s.data.toList = [] ∨ s.data.toList.getLast? = some 10) (hM : MaxL w) (ht : Tab w) (hE : Sent w) :
    Calls Tryz.prog 30 #[.agg #[.int .i64 n, .int .i64 d, .bool dr], .string s] w (RlQ w (readF n d dr (linesOf s.data.toList) [] 0)) := by
  obtain ⟨Rr, hRr⟩ : ∃ Rr, readF n d dr (linesOf s.data.toList) [] 0 = Rr := ⟨_, rfl⟩
  rw [hRr]
  have hRr' := hide hRr
  have hrk := hide hr
  have hM' := hide hM
  have ht' := hide ht
  have hE' := hide hE
  have he' := hide he
  have hz' := hide hz
  have g2 : decide ((20000 : Int) < s.size) = false := by simp; omega
  obtain ⟨b0, b1, b2⟩ := mem3 w (.cells #[.int .i64 n, .int .i64 d, .bool dr] 25) (.cells #[.slice none 0 0] 45) (.cells #[.nilIface] 61)
  have A0 := hide b0
  have B0 := hide b1
  have B1 := hide b2
  have H0 := hide (al3 w (.cells #[.int .i64 n, .int .i64 d, .bool dr] 25) (.cells #[.slice none 0 0] 45) (.cells #[.nilIface] 61))
  clear b0 b1 b2 hr hRr hM ht hE he hz
  refine (callsIn_wide (n := 3)).1 ?_
  refine callsIn_of_wp_marks Tryz.func30 rfl trivial ?_ rfl
  simp only [Tryz.ntmps30, List.size_toArray, List.length_cons, List.length_nil, Nat.reduceAdd, Nat.reduceSub, Array.replicate_succ, Array.replicate_zero, List.push_toArray, List.append_toArray, List.nil_append, List.cons_append]
  gi_wp2_with fail
  refine ⟨trivial, CallsIn.mono (callsIn_wide.2 (irok_any n d dr _)) ?_⟩
  rintro e w1 ⟨rfl, hb1⟩
  have R1 := hide ((hb1.block _ (by simp; omega)).trans (unhide A0))
  have O1 := hide ((hb1.block _ (by simp)).trans (unhide B0))
  have P1 := hide ((hb1.block _ (by simp)).trans (unhide B1))
  have H1 := hide (laterB (unhide H0) hb1)
  clear hb1 A0 B0 B1 H0
  rw [unhide hrk]
  by_cases h0 : s.data.toList = []
  · have g4 : s.toList = [] := by rw [Lib.toList_data]; exact h0
    have g5 : s.toList.isEmpty = true := by rw [g4]; rfl
    clear h0
    gi_wp2_with fail
    refine ⟨trivial, ?_⟩
    gi_wp2_with fail
    clear g4 g5
    obtain ⟨rc0, rc1, rc2⟩ := blk3r' (unhide R1)
    have hs1 : w.heap.size + 2 < w1.heap.size := (Array.getElem?_eq_some_iff.1 (unhide P1)).1
    refine wpIn_wide.2 (reg7 w1 n d dr s w.heap.size (min (Lib.countByte s.data.toList 10) 301) (unhide hz') rfl ⟨rc0, rc1, rc2⟩ ?_)
    intro y28 y29 y30 y31 y32 y33 E M g0 w2 hRd hN hO hb2 hE2 hM2
    have O2 : Boxed w2 (w.heap.size + 1) 45 (.slice none 0 0) := (hb2.block _ (by omega)).trans (unhide O1)
    have P2 : Boxed w2 (w.heap.size + 1 + 1) 61 .nilIface := (hb2.block _ (by omega)).trans (unhide P1)
    have H2 := laterB (unhide H1) hb2
    have hE3 : E < w2.heap.size := (Array.getElem?_eq_some_iff.1 hRd).1
    have hM3 := hN.lt
    have hZ := hb2.size
    have hB2 : Below w2.heap.size w2 (w2.alloc (.cells #[.string s] 9)) := (Below.refl _ _).alloc (Nat.le_refl _) _
    have S3 : Hid (IR n d dr Rr (linesOf s.data.toList).length (min (Lib.countByte s.data.toList 10) 301) E M w2.heap.size w.heap.size w1.heap.size w (linesOf s.data.toList) g0 (w2.alloc (.cells #[.string s] 9))) :=
      hide ⟨[], 0, 0, unhide hRr', TrI.zero, by simp, fun x hx => by have := linesOf_le hx; rw [← Lib.size_eq] at this; have := unhide hz'; omega, (hB2.block _ hE3).trans hRd, ownsRow_below hO hB2, hN.kept (hB2.block _ hM3), (hB2.block _ O2.lt).trans O2, (hB2.block _ P2.lt).trans P2, ⟨_, Boxed.new w2 9 (.string s)⟩, laterB H2 hB2⟩
    have L3 := hide (Boxed.new w2 9 (.string s))
    clear hRd hN hO hb2 O2 P2 H2 hB2 R1 O1 P1 H1 rc0 rc1 rc2
    gi_wp2_with fail
    refine ⟨trivial, CallsIn.mono (callsIn_wide.2 (lines_any s _)) ?_⟩
    rintro e w3 ⟨rfl, rfl⟩
    gi_wp2_with fail
    have hzW : (w2.alloc (.cells #[.string s] 9)).heap.size = w2.heap.size + 1 := by simp
    generalize w2.alloc (.cells #[.string s] 9) = W0 at *
    generalize hs0e : w.heap.size = s0 at *
    generalize hs1e : w1.heap.size = s1 at *
    generalize hbe : w2.heap.size = b at *
    have hK1 : min (Lib.countByte s.data.toList 10) 301 ≤ 301 := Nat.min_le_right _ _
    have hK2 : ∀ q, q < (linesOf s.data.toList).length → q ≤ 300 → q < min (Lib.countByte s.data.toList 10) 301 := fun q h1 h2 => by
      rw [linesOf_len] at h1; unfold Lib.countByte; omega
    have hK1' := hide hK1
    have hK2' := hide hK2
    clear hK1 hK2
    generalize min (Lib.countByte s.data.toList 10) 301 = K at *
    refine wpIn_rangeB (α := List UInt8) (w := W0) (gf := 82) (lb := #[.pointer (some ⟨b, 0, none⟩)]) rfl (enters_of Tryz.func82 (by kernel_rfl) rfl) (lines_seq 2 E b s W0 (unhide L3) (unhide hz') (unhide he') (by omega)) (Below.refl _ _) (by omega) rfl
      (IR n d dr Rr (linesOf s.data.toList).length K E M b s0 s1 w) (IX Rr s0 w)
      (IR.ab (by omega) (by omega) (by omega) hs0e.symm (by omega)) (IX.ab (by omega) hs0e.symm (by omega)) (fun rest r X h => by obtain ⟨tr, en, c, _, _, _, _, _, a6, _, _, _, a10, _⟩ := h; exact own_ne9 a6 a10)
      ⟨g0, unhide S3⟩
      (fun (x : List UInt8) (a' : Act) (W : World) => a' = { tmps := #[.agg #[.int .i64 n, .int .i64 d, .bool dr], .string s, .pointer (some ⟨s0, 0, none⟩), undef, .pointer (some ⟨s0 + 1, 0, none⟩), .pointer (some ⟨s0 + 1 + 1, 0, none⟩), .pointer (some ⟨E, 0, none⟩), .string (encB x), undef, .bool false, .agg #[.int .i64 n, .int .i64 d, .bool dr], .bool true, .bool false, undef, .bool false, .string s, .int .i64 s.size, .bool false, undef, .bool false, .string s, .bool false, .bool false, undef, undef, undef, .bool false, undef, y28, y29, y30, y31, y32, y33, .string s, .func (.func 82) #[] #[.pointer (some ⟨b, 0, none⟩)], .string (encB x), undef, undef, undef, undef, undef, undef, undef, undef, undef, undef, undef, undef, undef], defers := [] })
      (fun x a' X l o o' h _ _ _ => h)
      ?assign ?body ?done ?stop
    case assign =>
      intro l1 x rest r W Kn hI hsz hK
      have hK' := hide hK
      have hI' := hide hI
      clear hK hI
      gi_wp2
      exact unhide hK' _ _ (KeepsOthers.refl _) (KeepX.refl _ _ _) (unhide hI') rfl
    case body =>
      rintro l1 x rest r a' W ⟨tr, en, c, a1, a2, a3, a4, a5, a6, a7, a8, a9, a10, a11⟩ rfl hsz
      have hxl : (⟨x.toArray⟩ : ByteArray).size ≤ 20000 := by rw [Lib.size_eq]; exact a4 x (by simp)
      have hxs : (encB x).size ≤ 9223372036854775807 := by rw [encB_size]; have := a4 x (by simp); omega
      have htx : Lib.trimSuffix (encB x).data.toList (⟨#[10]⟩ : ByteArray).data.toList = x := encB_trim x
      have htx' := hide htx
      have htl := a2.ok.1
      have cL := hide (iline_any E s1 r c M K n d dr en tr ⟨x.toArray⟩ W hxl (MaxL.below (unhide hM') (by rw [hs0e]; exact a11)) (Tab.below (unhide ht') (by rw [hs0e]; exact a11)) (Sent.below (unhide hE') (by rw [hs0e]; exact a11)) a5 a6 a7 (unhide hK2' _ (by rw [← a3]; simp) htl) (unhide hK1') a2.ok.2.1)
      have hI' := hide (And.intro a1 (And.intro a2 (And.intro a3 (And.intro a4 (And.intro a5 (And.intro a6 (And.intro a7 (And.intro a8 (And.intro a9 (And.intro a10 a11))))))))))
      clear a1 a2 a3 a4 a5 a6 a7 a8 a9 a10 a11 htx S3 L3
      gi_wp2_with fail
      refine ⟨trivial, CallsIn.mono (CallsIn.inRound l1 (callsIn_wide.2 (Tryz.strings_TrimSuffix (encB x) ⟨#[10]⟩ _ hxs))) ?_⟩
      rintro e w4 ⟨rfl, hw4⟩
      replace hw4 := hw4.symm
      subst hw4
      rw [unhide htx']
      gi_wp2_with fail
      refine ⟨trivial, CallsIn.mono (CallsIn.inRound l1 (callsIn_wide.2 (unhide cL))) ?_⟩
      rintro e w5 hp
      obtain ⟨a1, a2, a3, a4, a5, a6, a7, a8, a9, a10, a11⟩ := unhide hI'
      clear cL hI'
      replace hp : ReP E s1 r c n d dr (.map (some M)) en tr (lineO n d dr x tr en) W e w5 := hp
      obtain ⟨cur, fz, hcur⟩ := own_blkT a6
      have hEc := a5
      rcases hp with ⟨z1, rfl, g', c', q1, q2, q3⟩ | ⟨z1, rfl, q1, q2⟩
      · have hKO := kp_others q3 hEc rfl hcur rfl
        have hKX := kp_keep q3
        have hrE : r ≠ b := own_ne9 a6 a10
        obtain ⟨vb, hvb⟩ := a10
        have hnew : Hid (∃ r', IR n d dr Rr (linesOf s.data.toList).length K E M b s0 s1 w rest r' w5) := hide ⟨g', tr ++ [(lineO n d dr x tr en).2], _, c', by rw [← a1, readF_ok z1], a2.step z1, by rw [← a3]; simp; omega, fun y hy => a4 y (by simp [hy]), by simpa using q1, own_cast (by simp) q2, a7.kept (q3.block _ a7.lt (rd_not_map hEc rfl a7) (fun e => own_not_map a6 a7 e.symm)), (q3.block _ a8.lt (by omega) (by have := own_ge a6; omega)).trans a8, (q3.block _ a9.lt (by omega) (by have := own_ge a6; omega)).trans a9, ⟨vb, (q3.block _ hvb.lt (by omega) (fun e => hrE e.symm)).trans hvb⟩, kp_below q3 a11 (by omega) (by omega) (by have := own_ge a6; omega)⟩
        have hKO' := hide hKO
        have hKX' := hide hKX
        clear hKO hKX a1 a2 a3 a4 a5 a6 a7 a8 a9 a11 q1 q2 q3 hcur hEc hvb z1
        gi_wp2
        exact ⟨unhide hKO', unhide hKX', unhide hnew⟩
      · have hB5 : Below s0 w w5 := kp_below q2 a11 (by omega) (by omega) (by have := own_ge a6; omega)
        have hKO := kp_others q2 hEc rfl hcur rfl
        have O5 : Boxed w5 (s0 + 1) 45 (.slice none 0 0) := (q2.block _ a8.lt (by omega) (by have := own_ge a6; omega)).trans a8
        have P5 : Boxed w5 (s0 + 1 + 1) 61 .nilIface := (q2.block _ a9.lt (by omega) (by have := own_ge a6; omega)).trans a9
        rw [readF_no z1] at a1
        obtain ⟨k0, k1, k2, k3, k4, k5, kf⟩ := blk6r q1
        have o0 := O5.cell
        have o1 := O5.frozen
        have p0 := P5.cell
        have p1 := P5.frozen
        have hB5' := hide hB5
        have hKO' := hide hKO
        have O5' := hide O5
        have P5' := hide P5
        have a1' := hide a1
        have z1' := hide z1
        generalize (lineO n d dr x tr en).1 = cd at *
        clear hB5 hKO O5 P5 a1 a2 a3 a4 a5 a6 a7 a8 a9 a10 a11 q1 q2 hcur hEc kf z1
        have hfin : Hid (KeepsOthers W ((w5.setCell ⟨s0 + 1, 0, none⟩ (.slice none 0 0)).setCell ⟨s0 + 1 + 1, 0, none⟩ (.iface 105 (.agg #[.int .i64 (tr.length : Int), .iface 92 (.int .i64 cd)]))).drew ∧ ∃ r', IX Rr s0 w .ret r' ((w5.setCell ⟨s0 + 1, 0, none⟩ (.slice none 0 0)).setCell ⟨s0 + 1 + 1, 0, none⟩ (.iface 105 (.agg #[.int .i64 (tr.length : Int), .iface 92 (.int .i64 cd)]))).drew) := hide ⟨(unhide hKO').trans (((KeepsOthers.setCell _ _ _).trans (KeepsOthers.setCell _ _ _)).trans (KeepsOthers.drew _)), r, by
          rw [← unhide a1']
          exact ⟨rfl, rfl, unhide z1', ((unhide O5').set _).other (by omega) _, ((unhide P5').other (by omega) _).set _, (((unhide hB5').setCell (p := ⟨s0 + 1, 0, none⟩) (by simp) _).setCell (p := ⟨s0 + 1 + 1, 0, none⟩) (by simp; omega) _).drew⟩⟩
        clear hB5' hKO' O5' P5' a1' z1'
        gi_wp2_with fail
        gi_region
        all_goals first | exact unhide hfin | (gi_wp2; exact unhide hfin)
    case done =>
      rintro D r W hD ⟨tr, en, c, a1, a2, a3, a4, a5, a6, a7, a8, a9, a10, a11⟩ hK
      have a1' : (tr, (0 : Int), (0 : Int)) = Rr := a1
      obtain ⟨k0, k1, k2, k3, k4, k5, kf⟩ := blk6r a5
      have o0 := a8.cell
      have o1 := a8.frozen
      have p0 := a9.cell
      have p1 := a9.frozen
      have hr1 : s1 ≤ r := own_ge a6
      have a6' := hide a6
      have a8' := hide a8
      have a9' := hide a9
      have a11' := hide a11
      have aR := hide a1'
      have hK' := hide hK
      clear a1 a1' a2 a3 a4 a5 a6 a7 a8 a9 a10 a11 kf hK S3 L3
      gi_wp2
      have hK2 := (KeepsOthers.setCell _ ⟨s0 + 1 + 1, 0, none⟩ .nilIface).same D _ ((KeepsOthers.setCell W ⟨s0 + 1, 0, none⟩ (.slice (some ⟨r, 0, none⟩) tr.length c)).same D _ (unhide hK') rfl) rfl
      refine ⟨by simp, .inl ⟨_, _, rfl, run_takeDeferred hK2, ?_⟩⟩
      have hO3 : Boxed ((W.setCell ⟨s0 + 1, 0, none⟩ (.slice (some ⟨r, 0, none⟩) tr.length c)).setCell ⟨s0 + 1 + 1, 0, none⟩ .nilIface) (s0 + 1) 45 (.slice (some ⟨r, 0, none⟩) tr.length c) := ((unhide a8').set _).other (by omega) _
      have hP3 : Boxed ((W.setCell ⟨s0 + 1, 0, none⟩ (.slice (some ⟨r, 0, none⟩) tr.length c)).setCell ⟨s0 + 1 + 1, 0, none⟩ .nilIface) (s0 + 1 + 1) 61 .nilIface := ((unhide a9').other (by omega) _).set _
      have c1 := cell_kept hO3.cell (grownBy_putObj' _ D (.deferred none)) (fun r e => by cases e; exact ⟨_, hK2, rfl⟩)
      have c2 := cell_kept hP3.cell (grownBy_putObj' _ D (.deferred none)) (fun r e => by cases e; exact ⟨_, hK2, rfl⟩)
      have hOw := ownsRow_putObj (own_set (own_set (unhide a6') (by omega)) (by omega)) (.deferred none) hK2 rfl
      rw [← unhide aR]
      refine ⟨.tuple #[.slice (some ⟨r, 0, none⟩) tr.length c, .nilIface], ?_, .inl ⟨rfl, rfl, r, c, rfl, own_up hOw (by omega), ?_⟩⟩
      · simp [results, Tryz.f30, go_sem, c1, c2]
      · rw [hs0e]
        exact (((unhide a11').setCell (p := ⟨s0 + 1, 0, none⟩) (by simp) _).setCell (p := ⟨s0 + 1 + 1, 0, none⟩) (by simp; omega) _).trans (belowK_b (w := w) (by omega) _ D _ _ (by omega) hK2 rfl rfl)
    case stop =>
      rintro D cc r W hD ⟨rfl, e2, e3, e4, e5, e6⟩ hK
      clear S3 L3
      gi_wp2
      refine ⟨by simp, .inl ⟨_, _, rfl, run_takeDeferred hK, ?_⟩⟩
      have c1 := cell_kept e4.cell (grownBy_putObj' _ D (.deferred none)) (fun r e => by cases e; exact ⟨_, hK, rfl⟩)
      have c2 := cell_kept e5.cell (grownBy_putObj' _ D (.deferred none)) (fun r e => by cases e; exact ⟨_, hK, rfl⟩)
      refine ⟨.tuple #[.slice none 0 0, .iface 105 (.agg #[.int .i64 Rr.2.2, .iface 92 (.int .i64 Rr.2.1)])], ?_, .inr ⟨e3, e2, _, rfl, .inr rfl, ?_⟩⟩
      · simp [results, Tryz.f30, go_sem, c1, c2]
      · rw [hs0e]; exact e6.trans (belowK_b (w := w) (by omega) W D _ _ (by omega) hK rfl rfl)
  · have g4 : ¬ s.toList = [] := by rw [Lib.toList_data]; exact h0
    have g5 : s.toList.isEmpty = false := by simpa using g4
    have hsf : Lib.hasSuffix s.data.toList [10] = true := by rw [suff10]; exact decide_eq_true ((unhide he').resolve_left h0)
    have hsf' := hide hsf
    clear h0 hsf
    gi_wp2_with fail
    refine ⟨trivial, CallsIn.mono (callsIn_wide.2 (Tryz.strings_HasSuffix s ⟨#[10]⟩ _ (by have := unhide hz'; omega))) ?_⟩
    rintro e w2 ⟨rfl, hw2⟩
    replace hw2 := hw2.symm
    subst hw2
    rw [show (⟨#[10]⟩ : ByteArray).data.toList = [10] from rfl, unhide hsf']
    gi_wp2_with fail
    clear g4 g5 hsf'
    obtain ⟨rc0, rc1, rc2⟩ := blk3r' (unhide R1)
    have hs1 : w.heap.size + 2 < w1.heap.size := (Array.getElem?_eq_some_iff.1 (unhide P1)).1
    refine wpIn_wide.2 (reg7 w1 n d dr s w.heap.size (min (Lib.countByte s.data.toList 10) 301) (unhide hz') rfl ⟨rc0, rc1, rc2⟩ ?_)
    intro y28 y29 y30 y31 y32 y33 E M g0 w2 hRd hN hO hb2 hE2 hM2
    have O2 : Boxed w2 (w.heap.size + 1) 45 (.slice none 0 0) := (hb2.block _ (by omega)).trans (unhide O1)
    have P2 : Boxed w2 (w.heap.size + 1 + 1) 61 .nilIface := (hb2.block _ (by omega)).trans (unhide P1)
    have H2 := laterB (unhide H1) hb2
    have hE3 : E < w2.heap.size := (Array.getElem?_eq_some_iff.1 hRd).1
    have hM3 := hN.lt
    have hZ := hb2.size
    have hB2 : Below w2.heap.size w2 (w2.alloc (.cells #[.string s] 9)) := (Below.refl _ _).alloc (Nat.le_refl _) _
    have S3 : Hid (IR n d dr Rr (linesOf s.data.toList).length (min (Lib.countByte s.data.toList 10) 301) E M w2.heap.size w.heap.size w1.heap.size w (linesOf s.data.toList) g0 (w2.alloc (.cells #[.string s] 9))) :=
      hide ⟨[], 0, 0, unhide hRr', TrI.zero, by simp, fun x hx => by have := linesOf_le hx; rw [← Lib.size_eq] at this; have := unhide hz'; omega, (hB2.block _ hE3).trans hRd, ownsRow_below hO hB2, hN.kept (hB2.block _ hM3), (hB2.block _ O2.lt).trans O2, (hB2.block _ P2.lt).trans P2, ⟨_, Boxed.new w2 9 (.string s)⟩, laterB H2 hB2⟩
    have L3 := hide (Boxed.new w2 9 (.string s))
    clear hRd hN hO hb2 O2 P2 H2 hB2 R1 O1 P1 H1 rc0 rc1 rc2
    gi_wp2_with fail
    refine ⟨trivial, CallsIn.mono (callsIn_wide.2 (lines_any s _)) ?_⟩
    rintro e w3 ⟨rfl, rfl⟩
    gi_wp2_with fail
    have hzW : (w2.alloc (.cells #[.string s] 9)).heap.size = w2.heap.size + 1 := by simp
    generalize w2.alloc (.cells #[.string s] 9) = W0 at *
    generalize hs0e : w.heap.size = s0 at *
    generalize hs1e : w1.heap.size = s1 at *
    generalize hbe : w2.heap.size = b at *
    have hK1 : min (Lib.countByte s.data.toList 10) 301 ≤ 301 := Nat.min_le_right _ _
    have hK2 : ∀ q, q < (linesOf s.data.toList).length → q ≤ 300 → q < min (Lib.countByte s.data.toList 10) 301 := fun q h1 h2 => by
      rw [linesOf_len] at h1; unfold Lib.countByte; omega
    have hK1' := hide hK1
    have hK2' := hide hK2
    clear hK1 hK2
    generalize min (Lib.countByte s.data.toList 10) 301 = K at *
    refine wpIn_rangeB (α := List UInt8) (w := W0) (gf := 82) (lb := #[.pointer (some ⟨b, 0, none⟩)]) rfl (enters_of Tryz.func82 (by kernel_rfl) rfl) (lines_seq 2 E b s W0 (unhide L3) (unhide hz') (unhide he') (by omega)) (Below.refl _ _) (by omega) rfl
      (IR n d dr Rr (linesOf s.data.toList).length K E M b s0 s1 w) (IX Rr s0 w)
      (IR.ab (by omega) (by omega) (by omega) hs0e.symm (by omega)) (IX.ab (by omega) hs0e.symm (by omega)) (fun rest r X h => by obtain ⟨tr, en, c, _, _, _, _, _, a6, _, _, _, a10, _⟩ := h; exact own_ne9 a6 a10)
      ⟨g0, unhide S3⟩
      (fun (x : List UInt8) (a' : Act) (W : World) => a' = { tmps := #[.agg #[.int .i64 n, .int .i64 d, .bool dr], .string s, .pointer (some ⟨s0, 0, none⟩), undef, .pointer (some ⟨s0 + 1, 0, none⟩), .pointer (some ⟨s0 + 1 + 1, 0, none⟩), .pointer (some ⟨E, 0, none⟩), .string (encB x), undef, .bool false, .agg #[.int .i64 n, .int .i64 d, .bool dr], .bool true, .bool false, undef, .bool false, .string s, .int .i64 s.size, .bool false, undef, .bool false, .string s, .bool true, .bool true, .string s, .bool true, .bool false, .bool false, undef, y28, y29, y30, y31, y32, y33, .string s, .func (.func 82) #[] #[.pointer (some ⟨b, 0, none⟩)], .string (encB x), undef, undef, undef, undef, undef, undef, undef, undef, undef, undef, undef, undef, undef], defers := [] })
      (fun x a' X l o o' h _ _ _ => h)
      ?assign ?body ?done ?stop
    case assign =>
      intro l1 x rest r W Kn hI hsz hK
      have hK' := hide hK
      have hI' := hide hI
      clear hK hI
      gi_wp2
      exact unhide hK' _ _ (KeepsOthers.refl _) (KeepX.refl _ _ _) (unhide hI') rfl
    case body =>
      rintro l1 x rest r a' W ⟨tr, en, c, a1, a2, a3, a4, a5, a6, a7, a8, a9, a10, a11⟩ rfl hsz
      have hxl : (⟨x.toArray⟩ : ByteArray).size ≤ 20000 := by rw [Lib.size_eq]; exact a4 x (by simp)
      have hxs : (encB x).size ≤ 9223372036854775807 := by rw [encB_size]; have := a4 x (by simp); omega
      have htx : Lib.trimSuffix (encB x).data.toList (⟨#[10]⟩ : ByteArray).data.toList = x := encB_trim x
      have htx' := hide htx
      have htl := a2.ok.1
      have cL := hide (iline_any E s1 r c M K n d dr en tr ⟨x.toArray⟩ W hxl (MaxL.below (unhide hM') (by rw [hs0e]; exact a11)) (Tab.below (unhide ht') (by rw [hs0e]; exact a11)) (Sent.below (unhide hE') (by rw [hs0e]; exact a11)) a5 a6 a7 (unhide hK2' _ (by rw [← a3]; simp) htl) (unhide hK1') a2.ok.2.1)
      have hI' := hide (And.intro a1 (And.intro a2 (And.intro a3 (And.intro a4 (And.intro a5 (And.intro a6 (And.intro a7 (And.intro a8 (And.intro a9 (And.intro a10 a11))))))))))
      clear a1 a2 a3 a4 a5 a6 a7 a8 a9 a10 a11 htx S3 L3
      gi_wp2_with fail
      refine ⟨trivial, CallsIn.mono (CallsIn.inRound l1 (callsIn_wide.2 (Tryz.strings_TrimSuffix (encB x) ⟨#[10]⟩ _ hxs))) ?_⟩
      rintro e w4 ⟨rfl, hw4⟩
      replace hw4 := hw4.symm
      subst hw4
      rw [unhide htx']
      gi_wp2_with fail
      refine ⟨trivial, CallsIn.mono (CallsIn.inRound l1 (callsIn_wide.2 (unhide cL))) ?_⟩
      rintro e w5 hp
      obtain ⟨a1, a2, a3, a4, a5, a6, a7, a8, a9, a10, a11⟩ := unhide hI'
      clear cL hI'
      replace hp : ReP E s1 r c n d dr (.map (some M)) en tr (lineO n d dr x tr en) W e w5 := hp
      obtain ⟨cur, fz, hcur⟩ := own_blkT a6
      have hEc := a5
      rcases hp with ⟨z1, rfl, g', c', q1, q2, q3⟩ | ⟨z1, rfl, q1, q2⟩
      · have hKO := kp_others q3 hEc rfl hcur rfl
        have hKX := kp_keep q3
        have hrE : r ≠ b := own_ne9 a6 a10
        obtain ⟨vb, hvb⟩ := a10
        have hnew : Hid (∃ r', IR n d dr Rr (linesOf s.data.toList).length K E M b s0 s1 w rest r' w5) := hide ⟨g', tr ++ [(lineO n d dr x tr en).2], _, c', by rw [← a1, readF_ok z1], a2.step z1, by rw [← a3]; simp; omega, fun y hy => a4 y (by simp [hy]), by simpa using q1, own_cast (by simp) q2, a7.kept (q3.block _ a7.lt (rd_not_map hEc rfl a7) (fun e => own_not_map a6 a7 e.symm)), (q3.block _ a8.lt (by omega) (by have := own_ge a6; omega)).trans a8, (q3.block _ a9.lt (by omega) (by have := own_ge a6; omega)).trans a9, ⟨vb, (q3.block _ hvb.lt (by omega) (fun e => hrE e.symm)).trans hvb⟩, kp_below q3 a11 (by omega) (by omega) (by have := own_ge a6; omega)⟩
        have hKO' := hide hKO
        have hKX' := hide hKX
        clear hKO hKX a1 a2 a3 a4 a5 a6 a7 a8 a9 a11 q1 q2 q3 hcur hEc hvb z1
        gi_wp2
        exact ⟨unhide hKO', unhide hKX', unhide hnew⟩
      · have hB5 : Below s0 w w5 := kp_below q2 a11 (by omega) (by omega) (by have := own_ge a6; omega)
        have hKO := kp_others q2 hEc rfl hcur rfl
        have O5 : Boxed w5 (s0 + 1) 45 (.slice none 0 0) := (q2.block _ a8.lt (by omega) (by have := own_ge a6; omega)).trans a8
        have P5 : Boxed w5 (s0 + 1 + 1) 61 .nilIface := (q2.block _ a9.lt (by omega) (by have := own_ge a6; omega)).trans a9
        rw [readF_no z1] at a1
        obtain ⟨k0, k1, k2, k3, k4, k5, kf⟩ := blk6r q1
        have o0 := O5.cell
        have o1 := O5.frozen
        have p0 := P5.cell
        have p1 := P5.frozen
        have hB5' := hide hB5
        have hKO' := hide hKO
        have O5' := hide O5
        have P5' := hide P5
        have a1' := hide a1
        have z1' := hide z1
        generalize (lineO n d dr x tr en).1 = cd at *
        clear hB5 hKO O5 P5 a1 a2 a3 a4 a5 a6 a7 a8 a9 a10 a11 q1 q2 hcur hEc kf z1
        have hfin : Hid (KeepsOthers W ((w5.setCell ⟨s0 + 1, 0, none⟩ (.slice none 0 0)).setCell ⟨s0 + 1 + 1, 0, none⟩ (.iface 105 (.agg #[.int .i64 (tr.length : Int), .iface 92 (.int .i64 cd)]))).drew ∧ ∃ r', IX Rr s0 w .ret r' ((w5.setCell ⟨s0 + 1, 0, none⟩ (.slice none 0 0)).setCell ⟨s0 + 1 + 1, 0, none⟩ (.iface 105 (.agg #[.int .i64 (tr.length : Int), .iface 92 (.int .i64 cd)]))).drew) := hide ⟨(unhide hKO').trans (((KeepsOthers.setCell _ _ _).trans (KeepsOthers.setCell _ _ _)).trans (KeepsOthers.drew _)), r, by
          rw [← unhide a1']
          exact ⟨rfl, rfl, unhide z1', ((unhide O5').set _).other (by omega) _, ((unhide P5').other (by omega) _).set _, (((unhide hB5').setCell (p := ⟨s0 + 1, 0, none⟩) (by simp) _).setCell (p := ⟨s0 + 1 + 1, 0, none⟩) (by simp; omega) _).drew⟩⟩
        clear hB5' hKO' O5' P5' a1' z1'
        gi_wp2_with fail
        gi_region
        all_goals first | exact unhide hfin | (gi_wp2; exact unhide hfin)
    case done =>
      rintro D r W hD ⟨tr, en, c, a1, a2, a3, a4, a5, a6, a7, a8, a9, a10, a11⟩ hK
      have a1' : (tr, (0 : Int), (0 : Int)) = Rr := a1
      obtain ⟨k0, k1, k2, k3, k4, k5, kf⟩ := blk6r a5
      have o0 := a8.cell
      have o1 := a8.frozen
      have p0 := a9.cell
      have p1 := a9.frozen
      have hr1 : s1 ≤ r := own_ge a6
      have a6' := hide a6
      have a8' := hide a8
      have a9' := hide a9
      have a11' := hide a11
      have aR := hide a1'
      have hK' := hide hK
      clear a1 a1' a2 a3 a4 a5 a6 a7 a8 a9 a10 a11 kf hK S3 L3
      gi_wp2
      have hK2 := (KeepsOthers.setCell _ ⟨s0 + 1 + 1, 0, none⟩ .nilIface).same D _ ((KeepsOthers.setCell W ⟨s0 + 1, 0, none⟩ (.slice (some ⟨r, 0, none⟩) tr.length c)).same D _ (unhide hK') rfl) rfl
      refine ⟨by simp, .inl ⟨_, _, rfl, run_takeDeferred hK2, ?_⟩⟩
      have hO3 : Boxed ((W.setCell ⟨s0 + 1, 0, none⟩ (.slice (some ⟨r, 0, none⟩) tr.length c)).setCell ⟨s0 + 1 + 1, 0, none⟩ .nilIface) (s0 + 1) 45 (.slice (some ⟨r, 0, none⟩) tr.length c) := ((unhide a8').set _).other (by omega) _
      have hP3 : Boxed ((W.setCell ⟨s0 + 1, 0, none⟩ (.slice (some ⟨r, 0, none⟩) tr.length c)).setCell ⟨s0 + 1 + 1, 0, none⟩ .nilIface) (s0 + 1 + 1) 61 .nilIface := ((unhide a9').other (by omega) _).set _
      have c1 := cell_kept hO3.cell (grownBy_putObj' _ D (.deferred none)) (fun r e => by cases e; exact ⟨_, hK2, rfl⟩)
      have c2 := cell_kept hP3.cell (grownBy_putObj' _ D (.deferred none)) (fun r e => by cases e; exact ⟨_, hK2, rfl⟩)
      have hOw := ownsRow_putObj (own_set (own_set (unhide a6') (by omega)) (by omega)) (.deferred none) hK2 rfl
      rw [← unhide aR]
      refine ⟨.tuple #[.slice (some ⟨r, 0, none⟩) tr.length c, .nilIface], ?_, .inl ⟨rfl, rfl, r, c, rfl, own_up hOw (by omega), ?_⟩⟩
      · simp [results, Tryz.f30, go_sem, c1, c2]
      · rw [hs0e]
        exact (((unhide a11').setCell (p := ⟨s0 + 1, 0, none⟩) (by simp) _).setCell (p := ⟨s0 + 1 + 1, 0, none⟩) (by simp; omega) _).trans (belowK_b (w := w) (by omega) _ D _ _ (by omega) hK2 rfl rfl)
    case stop =>
      rintro D cc r W hD ⟨rfl, e2, e3, e4, e5, e6⟩ hK
      clear S3 L3
      gi_wp2
      refine ⟨by simp, .inl ⟨_, _, rfl, run_takeDeferred hK, ?_⟩⟩
      have c1 := cell_kept e4.cell (grownBy_putObj' _ D (.deferred none)) (fun r e => by cases e; exact ⟨_, hK, rfl⟩)
      have c2 := cell_kept e5.cell (grownBy_putObj' _ D (.deferred none)) (fun r e => by cases e; exact ⟨_, hK, rfl⟩)
      refine ⟨.tuple #[.slice none 0 0, .iface 105 (.agg #[.int .i64 Rr.2.2, .iface 92 (.int .i64 Rr.2.1)])], ?_, .inr ⟨e3, e2, _, rfl, .inr rfl, ?_⟩⟩
      · simp [results, Tryz.f30, go_sem, c1, c2]
      · rw [hs0e]; exact e6.trans (belowK_b (w := w) (by omega) W D _ _ (by omega) hK rfl rfl)

theorem irl_any (n d : Int) (dr : Bool) (s : ByteArray) (w : World) (hsm : s.size ≤ maxLen) (hM : MaxL w) (ht : Tab w) (hE : Sent w) :
    Calls Tryz.prog 30 #[.agg #[.int .i64 n, .int .i64 d, .bool dr], .string s] w (RlQ w (rdO n d dr s.data.toList)) := by
  by_cases h : Pl.rok n d dr = true ∧ s.data.toList.length ≤ 20000 ∧ ¬ (s.data.toList ≠ [] ∧ s.data.toList.getLast? ≠ some 10)
  · obtain ⟨h1, h2, h3⟩ := h
    rw [rd_4 h1 h2 h3]
    refine irl_ok n d dr s w h1 (by rw [Lib.size_eq]; exact h2) ?_ hM ht hE
    by_cases h4 : s.data.toList = []
    · exact .inl h4
    · exact .inr (Classical.byContradiction fun h5 => h3 ⟨h4, h5⟩)
  · exact irl_bad n d dr s w hsm h
end Go.Proofs.YtfhbmfndjbdhcaaGreatDoor

namespace Go.Proofs.YtfhbmfndjbdhcaaGreatDoor
open Go.RowKit
set_option linter.unusedVariables false
set_option linter.unusedSimpArgs false

theorem errT_below {w w' : World} (h : ErrT w) (hb : Below w.heap.size w w') : ErrT w' := cell_later hb h
theorem mem2 (w : World) (a b : Obj) : ((w.alloc a).alloc b).heap[w.heap.size]? = some a ∧ ((w.alloc a).alloc b).heap[w.heap.size + 1]? = some b := by
  refine ⟨?_, ?_⟩
  · rw [Below.heap_alloc _ _ _ (by simp)]; exact alloc_new _ _
  · have := alloc_new (w.alloc a) b
    simpa using this
theorem fr2 {X : World} {b : Nat} {t : TypeId} {v0 v1 : Value} (h : X.heap[b]? = some (.cells #[v0, v1] t (0, 0))) : X.frozen? ⟨b, 0, none⟩ = false ∧ X.frozen? ⟨b, 1, none⟩ = false := by constructor <;> simp [World.frozen?, h]
theorem own_st2 {w : World} {B b g n cap : Nat} {l : List Kl} {u v : Value} (h : Own w B g n cap l) (hne : b ≠ g) : Own ((w.setCell ⟨b, 0, none⟩ u).setCell ⟨b, 1, none⟩ v) B g n cap l := own_set (own_set h hne) hne
theorem bel_st2 {W w1 : World} {b : Nat} {u v : Value} (h : Below W.heap.size W w1) (hb : W.heap.size ≤ b) : Below W.heap.size W ((w1.setCell ⟨b, 0, none⟩ u).setCell ⟨b, 1, none⟩ v) := (h.setCell (p := ⟨b, 0, none⟩) hb u).setCell (p := ⟨b, 1, none⟩) hb v
theorem own_bel {w w1 : World} {B B' g n c : Nat} {l : List Kl} (h : Own w B g n c l) (hB : B' ≤ B) : Own w B' g n c l := own_mono h hB

set_option maxRecDepth 100000 in
set_option maxHeartbeats 2000000 in
theorem irdl_any (n d : Int) (dr : Bool) (s : ByteArray) (w : World) (hsm : s.size ≤ maxLen) (hM : MaxL w) (ht : Tab w) (hE : Sent w) (hT : ErrT w) :
    Calls Tryz.prog 8 #[.agg #[.int .i64 n, .int .i64 d, .bool dr], .string s] w (RlP w (rdO n d dr s.data.toList)) := by
  obtain ⟨R, hR⟩ : ∃ R, rdO n d dr s.data.toList = R := ⟨_, rfl⟩
  rw [hR]
  have hb0 : Below w.heap.size w ((w.alloc (.cells #[.int .i64 n, .int .i64 d, .bool dr] 25)).alloc (.cells #[.int .i64 0, .int .i64 0] 31)) := ((Below.refl _ _).alloc (Nat.le_refl _) _).alloc (by simp) _
  have B1 := hide (mem2 w (.cells #[.int .i64 n, .int .i64 d, .bool dr] 25) (.cells #[.int .i64 0, .int .i64 0] 31)).2
  have cl := hide (irl_any n d dr s _ hsm (hM.below hb0) (ht.below hb0) (hE.below hb0))
  rw [hR] at cl
  have hT' := hide hT
  have H0 := hide hb0
  clear hR hM ht hE hT hb0
  go_enter Tryz.func8, Tryz.ntmps8
  go_wp2_with fail
  refine (unhide cl).mono ?_
  clear cl
  rintro e w1 (⟨z1, z2, g, c, rfl, hO, hb1⟩ | ⟨z1, z2, er, rfl, z3, hb1⟩)
  · have P1 := (hb1.block _ (by simp)).trans (unhide B1)
    obtain ⟨o0, o1⟩ := blk2 P1
    obtain ⟨p0, p1⟩ := fr2 P1
    have H1 := hide (laterB (unhide H0) hb1)
    have hg : w.heap.size + 2 ≤ g := by have := own_ge hO; simpa using this
    have hO' := hide hO
    obtain ⟨T, c1, c2⟩ := R
    simp only at z1 z2
    subst z1
    subst z2
    clear hb1 B1 H0 P1 hO
    go_wp2
    refine bodyPost_ret (v := .tuple #[.slice (some ⟨g, 0, none⟩) T.length c, .agg #[.int .i64 0, .int .i64 0]]) (by simp [results, Tryz.results8, go_sem, o0, o1]) rfl ⟨g, c, rfl, by omega, own_st2 (b := w.heap.size + 1) (own_mono (unhide hO') (by simp; omega)) (by omega), bel_st2 (unhide H1) (by omega)⟩
  · have P1 := (hb1.block _ (by simp)).trans (unhide B1)
    have hlt1 := (Array.getElem?_eq_some_iff.1 P1).1
    have H1 := hide (laterB (unhide H0) hb1)
    have P1' := hide P1
    obtain ⟨T, c1, c2⟩ := R
    simp only at z1 z2 z3
    subst z2
    have hal : Below w1.heap.size w1 (w1.alloc (.cells #[] 44)) := (Below.refl _ _).alloc (Nat.le_refl _) _
    have hfl : Hid (Calls Tryz.prog 31 #[er] (w1.alloc (.cells #[] 44)) fun e w' => e = .returned (.agg #[.int .i64 c1, .int .i64 c2]) ∧ Below (w1.alloc (.cells #[] 44)).heap.size (w1.alloc (.cells #[] 44)) w') := hide (by
      rcases z3 with ⟨rfl, rfl⟩ | rfl
      · exact fault_code c1 _ (errT_below (unhide hT') (laterB (unhide H1) hal))
      · exact fault_line c2 c1 _ (errT_below (unhide hT') (laterB (unhide H1) hal)))
    obtain ⟨o0, o1⟩ := blk2 P1
    obtain ⟨p0, p1⟩ := fr2 P1
    clear hb1 B1 H0 P1 hal
    rcases z3 with ⟨z4, z5⟩ | z5
    · subst z5
      subst z4
      go_wp2_with fail
      refine (unhide hfl).mono ?_
      rintro e w2 ⟨rfl, hb2⟩
      have hal : Below w1.heap.size w1 (w1.alloc (.cells #[] 44)) := (Below.refl _ _).alloc (Nat.le_refl _) _
      have P2 := (hb2.block _ (by simp; omega)).trans ((hal.block _ hlt1).trans (unhide P1'))
      have hOw : Own w2 w.heap.size w1.heap.size 0 0 [] := ownsRow_below (own_lit0 w1 (unhide H1).size) hb2
      have H2 := hide (laterB (laterB (unhide H1) hal) hb2)
      have hOw' := hide hOw
      obtain ⟨q0, q1⟩ := blk2 P2
      obtain ⟨r0, r1⟩ := fr2 P2
      clear hal P2 hOw hb2 P1' o0 o1 p0 p1 hfl
      go_wp2
      refine bodyPost_ret (v := .tuple #[.slice (some ⟨w1.heap.size, 0, none⟩) 0 0, .agg #[.int .i64 c1, .int .i64 0]]) (by simp [results, Tryz.results8, go_sem, q0, q1]) rfl ⟨w1.heap.size, 0, rfl, (unhide H1).size, own_st2 (b := w.heap.size + 1) (unhide hOw') (by omega), bel_st2 (unhide H2) (by omega)⟩
    · subst z5
      go_wp2_with fail
      refine (unhide hfl).mono ?_
      rintro e w2 ⟨rfl, hb2⟩
      have hal : Below w1.heap.size w1 (w1.alloc (.cells #[] 44)) := (Below.refl _ _).alloc (Nat.le_refl _) _
      have P2 := (hb2.block _ (by simp; omega)).trans ((hal.block _ hlt1).trans (unhide P1'))
      have hOw : Own w2 w.heap.size w1.heap.size 0 0 [] := ownsRow_below (own_lit0 w1 (unhide H1).size) hb2
      have H2 := hide (laterB (laterB (unhide H1) hal) hb2)
      have hOw' := hide hOw
      obtain ⟨q0, q1⟩ := blk2 P2
      obtain ⟨r0, r1⟩ := fr2 P2
      clear hal P2 hOw hb2 P1' o0 o1 p0 p1 hfl
      go_wp2
      refine bodyPost_ret (v := .tuple #[.slice (some ⟨w1.heap.size, 0, none⟩) 0 0, .agg #[.int .i64 c1, .int .i64 c2]]) (by simp [results, Tryz.results8, go_sem, q0, q1]) rfl ⟨w1.heap.size, 0, rfl, (unhide H1).size, own_st2 (b := w.heap.size + 1) (unhide hOw') (by omega), bel_st2 (unhide H2) (by omega)⟩
end Go.Proofs.YtfhbmfndjbdhcaaGreatDoor
