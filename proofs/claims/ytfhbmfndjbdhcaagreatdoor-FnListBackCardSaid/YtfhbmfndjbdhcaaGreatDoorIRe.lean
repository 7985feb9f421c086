/-
  A line read by the program: its contract.
-/
import Derived.Test.YtfhbmfndjbdhcaaGreatDoorLnP
import Derived.Test.YtfhbmfndjbdhcaaGreatDoorINw
import Derived.Test.YtfhbmfndjbdhcaaGreatDoorIAe
import Derived.Test.YtfhbmfndjbdhcaaGreatDoorISr
namespace Go.Proofs.YtfhbmfndjbdhcaaGreatDoor
open Go.RowKit Go.WideMaps Go.Maps
set_option linter.unusedVariables false
set_option linter.unusedSimpArgs false

theorem zero2 (w : World) : (zeroValue 2).run Tryz.prog w = .ok (.int .i64 0) w := by kernel_rfl
theorem lit_inj {a b : Int} (h : (DataW.lit (.int .i64 a) : DataW Unit) = .lit (.int .i64 b)) : a = b := by
  injection h with h
  injection h
/-- a look-up of a word -/
theorem look_num {w : World} {M K k : Nat} (h : NumM w M K) (hk : k < K) (hK : K ≤ 301) (X : ByteArray) (hX : X.size ≤ 20000) :
    ∃ c ok, (∀ w', w'.heap[M]? = w.heap[M]? → (Instr.lookup 94 (.map (some M)) (.string X) true).run Tryz.prog w' = .ok (.tuple #[.int .i64 c, .bool ok]) w') ∧ ((X.data.toList = numW k ∧ ok = true ∧ c = k) ∨ (X.data.toList ≠ numW k ∧ (ok = false ∨ c ≠ k))) := by
  obtain ⟨D, hown, hD⟩ := h
  have hkey : keyOf Tryz.prog 9 (.string X) = some (.string X.data.toList) := keyOf_string_mk Tryz.underlying9 (by unfold maxLen; omega)
  have hrun : ∀ w', w'.heap[M]? = w.heap[M]? → ∃ v ps, (Instr.lookup 94 (.map (some M)) (.string X) true).run Tryz.prog w' = .ok (.tuple #[v, .bool (Maps.has D (.string X.data.toList))]) w' ∧ plainElem (H := Unit) Tryz.prog 2 v = some (D.atKey (.string X.data.toList) (.lit (.int .i64 0)), ps) := by
    intro w' hw
    have hown' : w'.ownsMap Tryz.prog 9 (plainElem Tryz.prog 2) M K D := by
      obtain ⟨es, cl, h1, h2⟩ := hown
      exact ⟨es, cl, hw.trans h1, h2⟩
    exact hown'.look_ok lawS Tryz.underlying94 (zero2 w') (plainElem_int Tryz.underlying2 (by decide)) hkey
  obtain ⟨v0, ps0, _, hv0⟩ := hrun w rfl
  obtain ⟨c, rfl, hc, hwc⟩ := plainElem_int_inv Tryz.underlying2 hv0
  refine ⟨c, Maps.has D (.string X.data.toList), fun w' hw => ?_, ?_⟩
  · obtain ⟨v, ps, h1, h2⟩ := hrun w' hw
    obtain ⟨c', rfl, hc', _⟩ := plainElem_int_inv Tryz.underlying2 h2
    have e : c' = c := lit_inj ((congrArg Prod.fst hc').symm.trans (congrArg Prod.fst hc))
    rw [e] at h1
    exact h1
  · have hcc : D.atKey (.string X.data.toList) (.lit (.int .i64 0)) = .lit (.int .i64 c) := congrArg Prod.fst hc
    by_cases e : X.data.toList = numW k
    · left
      obtain ⟨h1, h2⟩ := hD.here k hk
      rw [e]
      refine ⟨rfl, h1, ?_⟩
      rw [e] at hcc
      exact lit_inj (hcc.symm.trans (h2 (.lit (.int .i64 0))))
    · right
      refine ⟨e, ?_⟩
      by_cases hj : ∃ j, j < K ∧ X.data.toList = numW j
      · obtain ⟨j, hj, ej⟩ := hj
        right
        obtain ⟨_, h2⟩ := hD.here j hj
        rw [ej] at hcc
        rw [lit_inj (hcc.symm.trans (h2 (.lit (.int .i64 0))))]
        intro e2
        have : j = k := by omega
        rw [this] at ej
        exact e ej
      · left
        refine hD.none _ (fun j hj2 e2 => hj ⟨j, hj2, ?_⟩)
        injection e2 with e2

/-- what a line is told as, in memory -/
def ReP (R B g cap : Nat) (n d : Int) (dr : Bool) (mp : Value) (en : Int) (tr : List Kl) (x : Int × Kl) (w : World) (e : Ending) (w' : World) : Prop :=
  (x.1 = 0 ∧ e = .returned .nilIface ∧ ∃ g' cap', RdBx w' R n d dr mp (.slice (some ⟨g', 0, none⟩) (tr.length + 1) cap') (en + x.2.2.2) ∧ Own w' B g' (tr.length + 1) cap' (tr ++ [x.2]) ∧ Kp2 R g w w') ∨
  (x.1 ≠ 0 ∧ e = .returned (.iface 92 (.int .i64 x.1)) ∧ RdBx w' R n d dr mp (.slice (some ⟨g, 0, none⟩) tr.length cap) en ∧ Kp2 R g w w')
theorem ReP.no {R B g cap : Nat} {n d : Int} {dr : Bool} {mp : Value} {en : Int} {tr : List Kl} {x : Int × Kl} {w w' : World} {cd : Int} (hx : x = (cd, (0, 0, 0))) (h0 : cd ≠ 0) (hR : RdBx w R n d dr mp (.slice (some ⟨g, 0, none⟩) tr.length cap) en) (hb : Below w.heap.size w w') :
    ReP R B g cap n d dr mp en tr x w (.returned (.iface 92 (.int .i64 cd))) w' := by
  subst hx
  exact .inr ⟨h0, rfl, blk_below hR hb, Kp2.of hb⟩
theorem kp2_after {R g : Nat} {w w1 w2 : World} (hb : Below w.heap.size w w1) (h : Kp2 R g w1 w2) : Kp2 R g w w2 :=
  ⟨h.os.trans hb.os, h.tape.trans hb.tape, h.output.trans hb.output, Nat.le_trans hb.size h.size, fun k hk h1 h2 => (h.block k (Nat.lt_of_lt_of_le hk hb.size) h1 h2).trans (hb.block k hk)⟩
theorem words_le (l : List UInt8) : ∀ x ∈ wordsL l, x.length ≤ l.length := by
  induction l with
  | nil => intro x hx; simp [wordsL, stW] at hx; subst hx; simp
  | cons b l ih =>
    intro x hx
    by_cases h : b = 32
    · subst h
      rw [wordsL_blank] at hx
      rcases List.mem_cons.1 hx with rfl | hx
      · simp
      · have := ih x hx; simp; omega
    · rw [wordsL_char h] at hx
      obtain ⟨y, z, e⟩ := wordsL_ne l
      rw [e] at hx ih
      simp only [glue] at hx
      rcases List.mem_cons.1 hx with rfl | hx
      · have := ih y (by simp); simp; omega
      · have := ih x (by simp [hx]); simp; omega

set_option maxRecDepth 100000 in
set_option maxHeartbeats 2000000 in
theorem iline_any (R B g cap M K : Nat) (n d : Int) (dr : Bool) (en : Int) (tr : List Kl) (s : ByteArray) (w : World) (hs : s.size ≤ 20000) (hM : MaxL w) (ht : Tab w) (hE : Sent w)
    (hR : RdBx w R n d dr (.map (some M)) (.slice (some ⟨g, 0, none⟩) tr.length cap) en) (hO : Own w B g tr.length cap tr) (hN : NumM w M K) (hk : tr.length < K) (hK : K ≤ 301) (hA : AOk tr) :
    Calls Tryz.prog 55 #[.pointer (some ⟨R, 0, none⟩), .string s] w (ReP R B g cap n d dr (.map (some M)) en tr (lineO n d dr s.data.toList tr en) w) := by
  obtain ⟨x, hx⟩ : ∃ x, lineO n d dr s.data.toList tr en = x := ⟨_, rfl⟩
  rw [hx]
  have hno := hide (fun (cd : Int) (w' : World) (h1 : x = (cd, (0, 0, 0))) (h0 : cd ≠ 0) (hb : Below w.heap.size w w') => (ReP.no h1 h0 hR hb : ReP R B g cap n d dr (.map (some M)) en tr x w (.returned (.iface 92 (.int .i64 cd))) w'))
  have cW := hide (iwords_any s w hs hM)
  by_cases hg : goodW (wordsL s.data.toList)
  · obtain ⟨a, b, c, t0, t1, t2, t3, hw7⟩ := good_seven hg
    obtain ⟨XA, rfl⟩ : ∃ X : ByteArray, a = X.data.toList := ⟨⟨a.toArray⟩, by simp⟩
    obtain ⟨XB, rfl⟩ : ∃ X : ByteArray, b = X.data.toList := ⟨⟨b.toArray⟩, by simp⟩
    obtain ⟨XC, rfl⟩ : ∃ X : ByteArray, c = X.data.toList := ⟨⟨c.toArray⟩, by simp⟩
    obtain ⟨X0, rfl⟩ : ∃ X : ByteArray, t0 = X.data.toList := ⟨⟨t0.toArray⟩, by simp⟩
    obtain ⟨X1, rfl⟩ : ∃ X : ByteArray, t1 = X.data.toList := ⟨⟨t1.toArray⟩, by simp⟩
    obtain ⟨X2, rfl⟩ : ∃ X : ByteArray, t2 = X.data.toList := ⟨⟨t2.toArray⟩, by simp⟩
    obtain ⟨X3, rfl⟩ : ∃ X : ByteArray, t3 = X.data.toList := ⟨⟨t3.toArray⟩, by simp⟩
    have hsz : ∀ X : ByteArray, X.data.toList ∈ wordsL s.data.toList → X.size ≤ 20000 := fun X h => by
      have := words_le _ _ h
      rw [← Lib.size_eq, ← Lib.size_eq] at this
      omega
    have hsA := hsz XA (by rw [hw7]; simp)
    have hsB := hsz XB (by rw [hw7]; simp)
    have hs0 := hsz X0 (by rw [hw7]; simp)
    have hs1 := hsz X1 (by rw [hw7]; simp)
    have hs2 := hsz X2 (by rw [hw7]; simp)
    have hs3 := hsz X3 (by rw [hw7]; simp)
    have cW2 : Calls Tryz.prog 84 #[.string s] w fun e w' => e = .returned (.tuple #[.agg #[.string XA, .string XB, .string XC, .string X0, .string X1, .string X2, .string X3], .nilIface]) ∧ Below w.heap.size w w' := by
      refine (unhide cW).mono ?_
      rintro e w' (⟨_, rfl, k⟩ | ⟨h, _⟩)
      · exact ⟨by rw [hw7]; simp [sW, Lib.mk_data], k⟩
      · exact absurd hg h
    have cW' := hide cW2
    obtain ⟨cN, okN, hlk0, hcase⟩ := look_num hN hk hK XA hsA
    have hlk := hide hlk0
    have hMlt := hN.lt
    have h5 := hide (fun h => lineO_5 (n := n) (d := d) (dr := dr) (tr := tr) (en := en) hg hw7 h)
    have h6 := hide (fun ha h => lineO_6 (n := n) (d := d) (dr := dr) (tr := tr) (en := en) hg hw7 ha h)
    have h7 := hide (fun (y : Int) ha hs hc h => lineO_7 (n := n) (d := d) (dr := dr) (tr := tr) (en := en) (s := y) hg hw7 ha hs hc h)
    have h8 := hide (fun (y x0 x1 x2 x3 : Int) ha hs hc h0 h1 h2 h3 => lineO_add (n := n) (d := d) (dr := dr) (tr := tr) (en := en) (s := y) (x0 := x0) (x1 := x1) (x2 := x2) (x3 := x3) hg hw7 ha hs hc h0 h1 h2 h3)
    rw [hx] at h5 h6 h7 h8
    have hcase' := hide hcase
    have hN' := hide hN
    have hO' := hide hO
    have hR' := hide hR
    clear hx hw7 hg hsz cW cW2 hlk0 hcase hM hs
    go_enter Tryz.func55, Tryz.ntmps55
    go_wp2_with fail
    refine (unhide cW').mono ?_
    rintro e w1 ⟨rfl, k1⟩
    have G2 := alloc_new w1 (.cells #[.string XA, .string XB, .string XC, .string X0, .string X1, .string X2, .string X3] 57)
    have kb : Below w.heap.size w (w1.alloc (.cells #[.string XA, .string XB, .string XC, .string X0, .string X1, .string X2, .string X3] 57)) := k1.alloc k1.size _
    have hRlt : R < w.heap.size := (Array.getElem?_eq_some_iff.1 hR).1
    have hWd : w.heap.size ≤ w1.heap.size := k1.size
    clear k1 cW' hR hO hN
    go_wp2_with fail
    generalize w1.alloc (.cells #[.string XA, .string XB, .string XC, .string X0, .string X1, .string X2, .string X3] 57) = w2 at *
    generalize w1.heap.size = Wd at *
    have hR2 := blk_below (unhide hR') kb
    obtain ⟨c0, c1, c2, c3, c4, c5⟩ := blk6 hR2
    obtain ⟨m0, m1, m2, m3, m4, m5, m6⟩ := blk7 G2
    have hM2 : w2.heap[M]? = w.heap[M]? := kb.block M hMlt
    refine wp_region_noPanic ?_
    refine wp_region_held_drew (S := fun w' => w'.cell? ⟨R, 3, none⟩ = some (.map (some M)) ∧ w'.cell? ⟨Wd, 0, none⟩ = some (.string XA) ∧ w'.heap[M]? = w.heap[M]?) (by kernel_rfl) ?_ (fun hH0 => ?_)
    · exact ⟨c3, m0, hM2⟩
    refine wpAnyH_take (i := 0) (oi := { dst := some 25, op := Go.Op.move (Go.Operand.tmp 0), type := 127, pos := _, after := #[], guard := none }) (v := ?_) rfl (by kernel_rfl) (by kernel_rfl) (by kernel_rfl) (fun _ _ _ h => h) (Or.inl ⟨by rfl, ?_⟩) hH0 ?_
    rotate_left
    · (intro w hSw; (try dsimp only at hSw); go_simp <;> with_reducible rfl)
    (try simp only [Act.put, List.setIfInBounds_toArray, List.set_cons_zero, List.set_cons_succ])
    refine wpAnyH_take (i := 1) (oi := { dst := some 26, op := Go.Op.nilCheck (Go.Operand.tmp 25), type := 0, pos := _, after := #[{ on := 0, ground := Go.Ground.data }], guard := none }) (v := ?_) rfl (by kernel_rfl) (by kernel_rfl) (by kernel_rfl) (fun _ _ _ h => h) (Or.inl ⟨by rfl, ?_⟩) hH0 ?_
    rotate_left
    · (intro w hSw; (try dsimp only at hSw); go_simp <;> with_reducible rfl)
    (try simp only [Act.put, List.setIfInBounds_toArray, List.set_cons_zero, List.set_cons_succ])
    refine wpAnyH_take (i := 2) (oi := { dst := some 27, op := Go.Op.fieldAddr 98 (Go.Operand.tmp 26) 1, type := 0, pos := _, after := #[{ on := 1, ground := Go.Ground.data }], guard := none }) (v := ?_) rfl (by kernel_rfl) (by kernel_rfl) (by kernel_rfl) (fun _ _ _ h => h) (Or.inl ⟨by rfl, ?_⟩) hH0 ?_
    rotate_left
    · (intro w hSw; (try dsimp only at hSw); go_simp <;> with_reducible rfl)
    (try simp only [Act.put, List.setIfInBounds_toArray, List.set_cons_zero, List.set_cons_succ])
    refine wpAnyH_take (i := 3) (oi := { dst := some 28, op := Go.Op.load 94 (Go.Operand.tmp 27), type := 94, pos := _, after := #[{ on := 2, ground := Go.Ground.data }], guard := none }) (v := ?_) rfl (by kernel_rfl) (by kernel_rfl) (by kernel_rfl) (fun _ _ _ h => h) (Or.inl ⟨by rfl, ?_⟩) hH0 ?_
    rotate_left
    · (intro w hSw; (try dsimp only at hSw); go_simp <;> with_reducible rfl)
    (try simp only [Act.put, List.setIfInBounds_toArray, List.set_cons_zero, List.set_cons_succ])
    refine wpAnyH_take (i := 4) (oi := { dst := some 29, op := Go.Op.indexAddr 57 (Go.Operand.tmp 5) (Go.Operand.const (Go.Value.int Go.IntKind.i64 0)), type := 0, pos := _, after := #[], guard := none }) (v := ?_) rfl (by kernel_rfl) (by kernel_rfl) (by kernel_rfl) (fun _ _ _ h => h) (Or.inl ⟨by rfl, ?_⟩) hH0 ?_
    rotate_left
    · (intro w hSw; (try dsimp only at hSw); go_simp <;> with_reducible rfl)
    (try simp only [Act.put, List.setIfInBounds_toArray, List.set_cons_zero, List.set_cons_succ])
    refine wpAnyH_take (i := 5) (oi := { dst := some 30, op := Go.Op.load 9 (Go.Operand.tmp 29), type := 9, pos := _, after := #[{ on := 4, ground := Go.Ground.data }], guard := none }) (v := ?_) rfl (by kernel_rfl) (by kernel_rfl) (by kernel_rfl) (fun _ _ _ h => h) (Or.inl ⟨by rfl, ?_⟩) hH0 ?_
    rotate_left
    · (intro w hSw; (try dsimp only at hSw); go_simp <;> with_reducible rfl)
    (try simp only [Act.put, List.setIfInBounds_toArray, List.set_cons_zero, List.set_cons_succ])
    refine wpAnyH_take (i := 6) (oi := { dst := some 31, op := Go.Op.lookup 94 (Go.Operand.tmp 28) (Go.Operand.tmp 30) true, type := 111, pos := _, after := #[{ on := 3, ground := Go.Ground.data }, { on := 5, ground := Go.Ground.data }], guard := none }) (v := .tuple #[.int .i64 cN, .bool okN]) rfl (by kernel_rfl) (by kernel_rfl) (by kernel_rfl) (fun _ _ _ h => h) (Or.inl ⟨by rfl, ?_⟩) hH0 ?_
    · intro w hSw
      have hl6 := unhide hlk w hSw.2.2
      go_simp
    (try simp only [Act.put, List.setIfInBounds_toArray, List.set_cons_zero, List.set_cons_succ])
    refine wpAnyH_take (i := 7) (oi := { dst := some 24, op := Go.Op.move (Go.Operand.tmp 31), type := 111, pos := _, after := #[{ on := 6, ground := Go.Ground.data }], guard := none }) (v := ?_) rfl (by kernel_rfl) (by kernel_rfl) (by kernel_rfl) (fun _ _ _ h => h) (Or.inl ⟨by rfl, ?_⟩) hH0 ?_
    rotate_left
    · (intro w hSw; (try dsimp only at hSw); go_simp <;> with_reducible rfl)
    (try simp only [Act.put, List.setIfInBounds_toArray, List.set_cons_zero, List.set_cons_succ])
    refine wpAnyH_take (i := 8) (oi := { dst := some 32, op := Go.Op.extract (Go.Operand.tmp 24) 0, type := 2, pos := _, after := #[{ on := 7, ground := Go.Ground.data }], guard := none }) (v := ?_) rfl (by kernel_rfl) (by kernel_rfl) (by kernel_rfl) (fun _ _ _ h => h) (Or.inl ⟨by rfl, ?_⟩) hH0 ?_
    rotate_left
    · (intro w hSw; (try dsimp only at hSw); go_simp <;> with_reducible rfl)
    (try simp only [Act.put, List.setIfInBounds_toArray, List.set_cons_zero, List.set_cons_succ])
    refine wpAnyH_take (i := 9) (oi := { dst := some 33, op := Go.Op.extract (Go.Operand.tmp 24) 1, type := 4, pos := _, after := #[{ on := 7, ground := Go.Ground.data }, { on := 10, ground := Go.Ground.gcOnly Go.Departure.lateStores }], guard := none }) (v := ?_) rfl (by kernel_rfl) (by kernel_rfl) (by kernel_rfl) (fun _ _ _ h => h) (Or.inl ⟨by rfl, ?_⟩) hH0 ?_
    rotate_left
    · (intro w hSw; (try dsimp only at hSw); go_simp <;> with_reducible rfl)
    (try simp only [Act.put, List.setIfInBounds_toArray, List.set_cons_zero, List.set_cons_succ])
    refine wpAnyH_take (i := 10) (oi := { dst := some 7, op := Go.Op.assign (Go.Operand.tmp 32), type := 2, pos := _, after := #[{ on := 8, ground := Go.Ground.data }, { on := 0, ground := Go.Ground.phase }, { on := 1, ground := Go.Ground.phase }, { on := 2, ground := Go.Ground.phase }, { on := 3, ground := Go.Ground.phase }, { on := 4, ground := Go.Ground.phase }, { on := 5, ground := Go.Ground.phase }, { on := 6, ground := Go.Ground.phase }, { on := 7, ground := Go.Ground.phase }, { on := 8, ground := Go.Ground.phase }, { on := 9, ground := Go.Ground.textOnly Go.Departure.lateStores }], guard := none }) (v := ?_) rfl (by kernel_rfl) (by kernel_rfl) (by kernel_rfl) (fun _ _ _ h => h) (Or.inl ⟨by rfl, ?_⟩) hH0 ?_
    rotate_left
    · (intro w hSw; (try dsimp only at hSw); go_simp <;> with_reducible rfl)
    (try simp only [Act.put, List.setIfInBounds_toArray, List.set_cons_zero, List.set_cons_succ])
    refine wpAnyH_take (i := 11) (oi := { dst := some 8, op := Go.Op.assign (Go.Operand.tmp 33), type := 4, pos := _, after := #[{ on := 9, ground := Go.Ground.data }, { on := 10, ground := Go.Ground.chain }, { on := 0, ground := Go.Ground.phase }, { on := 1, ground := Go.Ground.phase }, { on := 2, ground := Go.Ground.phase }, { on := 3, ground := Go.Ground.phase }, { on := 4, ground := Go.Ground.phase }, { on := 5, ground := Go.Ground.phase }, { on := 6, ground := Go.Ground.phase }, { on := 7, ground := Go.Ground.phase }, { on := 8, ground := Go.Ground.phase }, { on := 9, ground := Go.Ground.phase }, { on := 10, ground := Go.Ground.phase }], guard := none }) (v := ?_) rfl (by kernel_rfl) (by kernel_rfl) (by kernel_rfl) (fun _ _ _ h => h) (Or.inl ⟨by rfl, ?_⟩) hH0 ?_
    rotate_left
    · (intro w hSw; (try dsimp only at hSw); go_simp <;> with_reducible rfl)
    (try simp only [Act.put, List.setIfInBounds_toArray, List.set_cons_zero, List.set_cons_succ])
    refine wpAnyH_done (by kernel_rfl) ?_ _
    refine NoPanic.normal ?_
    have kb3 := kb.drew
    have c4' : w2.drew.cell? ⟨R, 4, none⟩ = some (.slice (some ⟨g, 0, none⟩) tr.length cap) := c4
    have n1 : w2.drew.cell? ⟨Wd, 1, none⟩ = some (.string XB) := m1
    have n2 : w2.drew.cell? ⟨Wd, 2, none⟩ = some (.string XC) := m2
    have G3 : w2.drew.heap[Wd]? = some (.cells #[.string XA, .string XB, .string XC, .string X0, .string X1, .string X2, .string X3] 57 (0, 0)) := G2
    clear hH0 c0 c1 c2 c3 c4 c5 m0 m1 m2 m3 m4 m5 m6 hM2 hR2 G2 hlk kb
    generalize w2.drew = w3 at *
    rcases unhide hcase' with ⟨hA1, rfl, rfl⟩ | ⟨hA1, hA2⟩
    · have hcb : ((tr.length : Int) != (tr.length : Int)) = false := by simp
      have hA1' := hide hA1
      have hR3 := blk_below (unhide hR') kb3
      clear hcase' hA1
      go_wp2_with fail
      refine (isource_any XB w3 hsB (ht.below kb3) (hE.below kb3)).mono ?_
      rintro e w4 ⟨y, ok, rfl, hy, k4⟩
      have kb4 := laterB kb3 k4
      have n2' := cell_later k4 n2
      have G4 := blk_below G3 k4
      have hR4 := blk_below hR3 k4
      have hy' := hide hy
      clear k4 kb3 n1 n2 c4' G3 hy hR3 ht hE
      cases ok
      · have h6' := hide (unhide h6 (unhide hA1') (.inl (srcO_no (unhide hy'))))
        clear G4 hR4 hy'
        go_wp2
        go_ret
        exact unhide hno 6 _ (unhide h6') (by decide) kb4
      · by_cases hC : XC.data.toList = [67]
        · have hb : (XC.toList == [67]) = true := by rw [Lib.toList_data, hC]; rfl
          have hC' := hide hC
          obtain ⟨m0, m1, m2, m3, m4, m5, m6⟩ := blk7 G4
          have hAr : ∀ w', (Instr.arrayAt 132 (.slice (some ⟨Wd, 3, none⟩) 4 4)).run Tryz.prog w' = .ok (.pointer (some ⟨Wd, 3, none⟩)) w' := fun w' => run_arrayAt _ 132 9 4 _ 4 4 rfl (by omega)
          clear hC m0 m1 m2
          go_wp2_with fail
          refine (itimes_any n d dr R _ _ _ X0 X1 X2 X3 w4 hR4 hs0 hs1 hs2 hs3).mono ?_
          intro e w5 hT
          rcases hT with ⟨x0, x1, x2, x3, ⟨r0, r1, r2, r3⟩, rfl, k5⟩ | ⟨x0, x1, x2, x3, ⟨X, hX, rX⟩, rfl, k5⟩
          · have h8' := hide (unhide h8 y x0 x1 x2 x3 (unhide hA1') (srcO_ok (unhide hy')) (unhide hC') (timeO_ok r0) (timeO_ok r1) (timeO_ok r2) (timeO_ok r3))
            have kb5 := laterB kb4 k5
            have G6 := alloc_new w5 (.cells #[.int .i64 x0, .int .i64 x1, .int .i64 x2, .int .i64 x3] 84)
            have kb6 : Below w.heap.size w (w5.alloc (.cells #[.int .i64 x0, .int .i64 x1, .int .i64 x2, .int .i64 x3] 84)) := kb5.alloc kb5.size _
            obtain ⟨z0, z1, z2, z3⟩ := blk4 G6
            obtain ⟨q0, q0'⟩ := RD_bd r0
            obtain ⟨q1, q1'⟩ := RD_bd r1
            have q2 := RD_bd r2
            have q3 := RD_bd r3
            obtain ⟨m, hm⟩ : ∃ m, m = x1 - x0 := ⟨_, rfl⟩
            have hwm : IntKind.i64.wrap (x1 - x0) = m := by rw [IntKind.wrap_i64]; omega
            rw [← hm] at h8'
            clear hm m3 m4 m5 m6 G4 hR4 kb4 kb5 k5 r0 r1 r2 r3 hAr hb n2' hcb h5 h6 h7 h8 hy' hC' hA1'
            go_wp2_with fail
            go_quiet (fail)
            go_wp2_with fail
            have kb7 := below_drewN kb6 nq
            have hR7 := blk_below (unhide hR') kb7
            have hO7 := ownsRow_below (unhide hO') kb7
            clear kb6 z0 z1 z2 z3 G6
            generalize (w5.alloc (.cells #[.int .i64 x0, .int .i64 x1, .int .i64 x2, .int .i64 x3] 84)).drewN nq = w7 at *
            have h8a := unhide h8'
            have hnoA : ∀ (cd : Int) (w' : World), x = (cd, (0, 0, 0)) → cd ≠ 0 → Below w7.heap.size w7 w' → ReP R B g cap n d dr (.map (some M)) en tr x w (.returned (.iface 92 (.int .i64 cd))) w' := fun cd w' h1 h0 hb => unhide hno cd w' h1 h0 (laterB kb7 hb)
            clear hno h8'
            by_cases hCk : COk (y, x0, m)
            · by_cases h9 : x2 ≠ en ∨ x3 - x2 ≠ m
              · refine (iadd_9 R y x0 m x2 x3 en n d dr _ _ w7 hR7 hCk q2 q3 h9).mono ?_
                rintro e w8 ⟨rfl, k8⟩
                have hf := hide (hnoA 9 w8 (h8a.trans (addO_9 hCk h9)) (by decide) k8)
                clear k8 hnoA h8a hR7 hO7
                go_wp2
                go_ret
                exact unhide hf
              · have h9a : x2 = en := Classical.byContradiction fun h => h9 (.inl h)
                have h9b : x3 - x2 = m := Classical.byContradiction fun h => h9 (.inr h)
                subst h9a
                have hx3 : x2 + m = x3 := by omega
                rcases List.eq_nil_or_concat tr with htr | ⟨o, p, htr⟩
                · have hlen : tr.length = 0 := by rw [htr]; rfl
                  have hRq : RdBx w7 R n d dr (.map (some M)) (.slice (some ⟨g, 0, none⟩) 0 cap) x2 := by have h := hR7; rw [hlen] at h; exact h
                  have hOq : Own w7 B g 0 cap [] := by have h := hO7; rw [hlen, htr] at h; exact h
                  refine (iadd_nil R B g cap y x0 m x2 x3 n d dr _ w7 hRq hOq hCk q2 q3 h9b).mono ?_
                  rintro e w8 (⟨hT, rfl, g', cap', hR8, hO8, k8⟩ | ⟨hT, rfl, hR8, k8⟩)
                  · have hf := hide (show ReP R B g cap n d dr (.map (some M)) x2 tr x w (.returned .nilIface) w8 from by
                      have hx0 : x = (0, (y, x0, m)) := h8a.trans (by rw [htr]; exact addO_0 hCk rfl h9b not_lastGoes_nil hT)
                      refine .inl ⟨by rw [hx0], rfl, g', cap', ?_, ?_, kp2_after kb7 k8⟩
                      · rw [hx0, hlen]; simp only; rw [hx3]; exact hR8
                      · rw [hx0, hlen, htr]; exact hO8)
                    clear k8 hnoA h8a hR7 hO7 hR8 hO8 hRq hOq hT htr hlen
                    go_wp2
                    go_ret
                    exact unhide hf
                  · have hf := hide (show ReP R B g cap n d dr (.map (some M)) x2 tr x w (.returned (.iface 92 (.int .i64 10))) w8 from by
                      have hx0 : x = (10, (0, 0, 0)) := h8a.trans (by rw [htr]; exact addO_10 hCk rfl h9b (.inr hT))
                      refine .inr ⟨by rw [hx0]; decide, by rw [hx0], ?_, kp2_after kb7 k8⟩
                      rw [hlen]; exact hR8)
                    clear k8 hnoA h8a hR7 hO7 hR8 hRq hOq hT htr hlen
                    go_wp2
                    go_ret
                    exact unhide hf
                · rw [List.concat_eq_append] at htr
                  obtain ⟨p1, p2, p3⟩ := p
                  have hlen : tr.length = o.length + 1 := by rw [htr]; simp
                  have hRq : RdBx w7 R n d dr (.map (some M)) (.slice (some ⟨g, 0, none⟩) (o.length + 1) cap) x2 := by rw [← hlen]; exact hR7
                  have hOq : Own w7 B g (o.length + 1) cap (o ++ [(p1, p2, p3)]) := by rw [← hlen, ← htr]; exact hO7
                  obtain ⟨a1, a2, a3, a4, a5⟩ := hA (p1, p2, p3) (by rw [htr]; simp)
                  simp only at a1 a2 a3 a4
                  by_cases hgo : goes (p1, p2, p3) (y, x0, m)
                  · refine (iadd_g R B g cap o p1 p2 p3 y x0 m x2 x3 n d dr _ w7 hRq hOq (by omega) ⟨by omega, by omega⟩ ⟨by omega, by omega⟩ hCk q2 q3 h9b hgo).mono ?_
                    rintro e w8 ⟨rfl, k8⟩
                    have hf := hide (hnoA 10 w8 (h8a.trans (by rw [htr]; exact addO_10 hCk rfl h9b (.inl (lastGoes_snoc.2 hgo)))) (by decide) k8)
                    clear k8 hnoA h8a hR7 hO7 hRq hOq htr hlen
                    go_wp2
                    go_ret
                    exact unhide hf
                  · refine (iadd_ng R B g cap o p1 p2 p3 y x0 m x2 x3 n d dr _ w7 hRq hOq (by omega) ⟨by omega, by omega⟩ ⟨by omega, by omega⟩ hCk q2 q3 h9b hgo).mono ?_
                    have hlL : (o ++ [(p1, p2, p3)] ++ [(y, x0, m)]).length = o.length + 1 + 1 := by simp
                    rintro e w8 (⟨hT, rfl, g', cap', hR8, hO8, k8⟩ | ⟨hT, rfl, hR8, k8⟩)
                    · have hf := hide (show ReP R B g cap n d dr (.map (some M)) x2 tr x w (.returned .nilIface) w8 from by
                        have hx0 : x = (0, (y, x0, m)) := h8a.trans (by rw [htr]; exact addO_0 hCk rfl h9b (fun h => hgo (lastGoes_snoc.1 h)) hT)
                        rw [hlL] at hR8 hO8
                        refine .inl ⟨by rw [hx0], rfl, g', cap', ?_, ?_, kp2_after kb7 k8⟩
                        · rw [hx0, hlen]; simp only; rw [hx3]; exact hR8
                        · rw [hx0, hlen, htr]; exact hO8)
                      clear k8 hnoA h8a hR7 hO7 hR8 hO8 hRq hOq hT htr hlen hlL
                      go_wp2
                      go_ret
                      exact unhide hf
                    · have hf := hide (show ReP R B g cap n d dr (.map (some M)) x2 tr x w (.returned (.iface 92 (.int .i64 10))) w8 from by
                        have hx0 : x = (10, (0, 0, 0)) := h8a.trans (by rw [htr]; exact addO_10 hCk rfl h9b (.inr hT))
                        refine .inr ⟨by rw [hx0]; decide, by rw [hx0], ?_, kp2_after kb7 k8⟩
                        rw [hlen]; exact hR8)
                      clear k8 hnoA h8a hR7 hO7 hR8 hRq hOq hT htr hlen hlL
                      go_wp2
                      go_ret
                      exact unhide hf
            · refine (iadd_8 R y x0 m x2 x3 w7 hCk).mono ?_
              rintro e w8 ⟨rfl, k8⟩
              have hf := hide (hnoA 8 w8 (h8a.trans (addO_8 hCk)) (by decide) k8)
              clear k8 hnoA h8a hR7 hO7
              go_wp2
              go_ret
              exact unhide hf
          · have h7' := hide (unhide h7 y (unhide hA1') (srcO_ok (unhide hy')) (unhide hC') (by
              rcases hX with rfl | rfl | rfl | rfl
              · exact .inl (timeO_no rX)
              · exact .inr (.inl (timeO_no rX))
              · exact .inr (.inr (.inl (timeO_no rX)))
              · exact .inr (.inr (.inr (timeO_no rX)))))
            have kb5 := laterB kb4 k5
            have kb6 := hide (show Below w.heap.size w (w5.alloc (.cells #[.int .i64 x0, .int .i64 x1, .int .i64 x2, .int .i64 x3] 84)) from kb5.alloc kb5.size _)
            clear m3 m4 m5 m6 G4 hR4 kb4 kb5 k5 hX rX
            go_wp2
            go_ret
            exact unhide hno 7 _ (unhide h7') (by decide) (unhide kb6)
        · have hb : (XC.toList == [67]) = false := by rw [Lib.toList_data, beq_eq_false_iff_ne]; exact hC
          have h6' := hide (unhide h6 (unhide hA1') (.inr hC))
          clear G4 hR4 hy' hC
          go_wp2
          go_ret
          exact unhide hno 6 _ (unhide h6') (by decide) kb4
    · have h5' := hide (unhide h5 hA1)
      by_cases hok : okN = true
      · subst hok
        have hcn : cN ≠ (tr.length : Int) := by rcases hA2 with h | h; cases h; exact h
        have hcb : (cN != (tr.length : Int)) = true := by simp [hcn]
        clear hA2 hA1 hcase'
        go_wp2
        go_ret
        exact unhide hno 5 _ (unhide h5') (by decide) kb3
      · have hok : okN = false := by simpa using hok
        subst hok
        clear hA2 hA1 hcase'
        go_wp2
        go_ret
        exact unhide hno 5 _ (unhide h5') (by decide) kb3
  · have h4 : x = (4, (0, 0, 0)) := by rw [← hx]; exact lineO_4 hg
    have h4' := hide h4
    have hg' := hide hg
    clear h4 hx hg hR hO hN hA hM ht hE
    go_enter Tryz.func55, Tryz.ntmps55
    go_wp2_with fail
    refine (unhide cW).mono ?_
    intro e w1 hW
    rcases hW with ⟨hg, _⟩ | ⟨_, rfl, k1⟩
    · exact absurd hg (unhide hg')
    have kb := hide (k1.alloc (Nat.le_trans (Nat.le_refl _) k1.size) (.cells #[.string ⟨#[]⟩, .string ⟨#[]⟩, .string ⟨#[]⟩, .string ⟨#[]⟩, .string ⟨#[]⟩, .string ⟨#[]⟩, .string ⟨#[]⟩] 57))
    clear k1 cW
    go_wp2
    go_ret
    exact unhide hno 4 _ (unhide h4') (by decide) (unhide kb)
end Go.Proofs.YtfhbmfndjbdhcaaGreatDoor
