/-
  Contract of what is a node to the program; nothing that was there is written.
-/
import Derived.Test.YtfblnnnnkjphjaaNdL
namespace Go.Proofs.Ytfblnnnnkjphjaa
open Go.RowKit
set_option linter.unusedVariables false
set_option linter.unusedSimpArgs false

/-- a node in a block -/
structure Nx (w : World) (g : Nat) (k m n : Int) (v : Nat) : Prop where
  c0 : w.cell? ⟨g, 0, none⟩ = some (.int .i64 k)
  c1 : w.cell? ⟨g, 1, none⟩ = some (.int .i64 m)
  c2 : w.cell? ⟨g, 2, none⟩ = some (.int .i64 n)
  c3 : w.cell? ⟨g, 3, none⟩ = some (.float .f64 v)
theorem Nx.below {w w1 : World} {g : Nat} {k m n : Int} {v : Nat} (h : Nx w g k m n v) (hb : Below w.heap.size w w1) : Nx w1 g k m n v :=
  ⟨cell_later hb h.c0, cell_later hb h.c1, cell_later hb h.c2, cell_later hb h.c3⟩
theorem Nx.lt {w : World} {g : Nat} {k m n : Int} {v : Nat} (h : Nx w g k m n v) : g < w.heap.size := World.block_lt_of_cell? _ _ h.c0
theorem Nx.new (w : World) (T : TypeId) (k m n : Int) (v : Nat) : Nx (w.alloc (.cells #[.int .i64 k, .int .i64 m, .int .i64 n, .float .f64 v] T)) w.heap.size k m n v :=
  ⟨by simp [go_sem], by simp [go_sem], by simp [go_sem], by simp [go_sem]⟩

set_option maxHeartbeats 1600000 in
theorem inode1 (m n : Int) (v : Nat) (i : Int) (B : Bool) (w : World) (hv : v < 18446744073709551616) (hB : decide (NodeOk 1 m n v i) = B) :
    Calls Try.prog 25 #[agN 1 m n v, .int .i64 i] w fun e w' => e = .returned (.bool B) ∧ Below w.heap.size w w' := by
  rw [node_1] at hB
  subst hB
  have hv' := hide hv
  clear hv
  generalize hA : (m == 0) = A
  have hA' := hide hA
  clear hA
  generalize hC : (n == 0) = C
  have hC' := hide hC
  clear hC
  generalize hZ : decide (v = 0) = Z
  have hZ' := hide hZ
  clear hZ
  cases A
  · skip
    go_enter Try.func25, Try.ntmps25
    go_wp2_with fail
    refine (kind1 _).mono ?_
    rintro e w1 ⟨rfl, hb⟩
    have hN := hide ((Nx.new w 48 1 m n v).below hb)
    have hE := hide ((((Below.refl _ _).alloc (Nat.le_refl _) (.cells #[.int .i64 1, .int .i64 m, .int .i64 n, .float .f64 v] 48)).trans (hb.mono (by simp))).alloc (by have := hb.size; simp at this; omega) (.cells #[.bool false, .bool false, .bool false] 54))
    obtain ⟨c0, c1, c2, c3⟩ := unhide hN
    have hlt := (unhide hN).lt
    clear hb
    go_wp2_with fail
    refine (inp_no m i _ _ (unhide hA')).mono ?_
    rintro e w2 ⟨rfl, hw1⟩
    have hw2 := hw1.symm
    subst hw2
    go_wp2
    go_ret
    exact ⟨ret_bool (by simp), unhide hE⟩
  cases C
  · skip
    go_enter Try.func25, Try.ntmps25
    go_wp2_with fail
    refine (kind1 _).mono ?_
    rintro e w1 ⟨rfl, hb⟩
    have hN := hide ((Nx.new w 48 1 m n v).below hb)
    have hE := hide ((((Below.refl _ _).alloc (Nat.le_refl _) (.cells #[.int .i64 1, .int .i64 m, .int .i64 n, .float .f64 v] 48)).trans (hb.mono (by simp))).alloc (by have := hb.size; simp at this; omega) (.cells #[.bool false, .bool false, .bool false] 54))
    obtain ⟨c0, c1, c2, c3⟩ := unhide hN
    have hlt := (unhide hN).lt
    clear hb
    go_wp2_with fail
    refine (inp_no m i _ _ (unhide hA')).mono ?_
    rintro e w2 ⟨rfl, hw1⟩
    have hw2 := hw1.symm
    subst hw2
    go_wp2_with fail
    refine (inp_no n i _ _ (unhide hC')).mono ?_
    rintro e w2 ⟨rfl, hw1⟩
    have hw2 := hw1.symm
    subst hw2
    go_wp2
    go_ret
    exact ⟨ret_bool (by simp), unhide hE⟩
  go_enter Try.func25, Try.ntmps25
  go_wp2_with fail
  refine (kind1 _).mono ?_
  rintro e w1 ⟨rfl, hb⟩
  have hN := hide ((Nx.new w 48 1 m n v).below hb)
  have hE := hide ((((Below.refl _ _).alloc (Nat.le_refl _) (.cells #[.int .i64 1, .int .i64 m, .int .i64 n, .float .f64 v] 48)).trans (hb.mono (by simp))).alloc (by have := hb.size; simp at this; omega) (.cells #[.bool false, .bool false, .bool false] 54))
  obtain ⟨c0, c1, c2, c3⟩ := unhide hN
  have hlt := (unhide hN).lt
  clear hb
  go_wp2_with fail
  refine (inp_no m i _ _ (unhide hA')).mono ?_
  rintro e w2 ⟨rfl, hw1⟩
  have hw2 := hw1.symm
  subst hw2
  go_wp2_with fail
  refine (inp_no n i _ _ (unhide hC')).mono ?_
  rintro e w2 ⟨rfl, hw1⟩
  have hw2 := hw1.symm
  subst hw2
  go_wp2_with fail
  refine (same0_any v _ _ (unhide hv') (unhide hZ')).mono ?_
  rintro e w2 ⟨rfl, hw1⟩
  have hw2 := hw1.symm
  subst hw2
  go_wp2
  go_ret
  exact ⟨ret_bool (by simp), unhide hE⟩

set_option maxHeartbeats 1600000 in
theorem inode2 (m n : Int) (v : Nat) (i : Int) (B : Bool) (w : World) (hv : v < 18446744073709551616) (hB : decide (NodeOk 2 m n v i) = B) :
    Calls Try.prog 25 #[agN 2 m n v, .int .i64 i] w fun e w' => e = .returned (.bool B) ∧ Below w.heap.size w w' := by
  rw [node_g (by omega)] at hB
  subst hB
  have hv' := hide hv
  clear hv
  generalize hA : decide (InOk m i) = A
  have hA' := hide hA
  clear hA
  generalize hC : (n == 0) = C
  have hC' := hide hC
  clear hC
  cases A
  · skip
    go_enter Try.func25, Try.ntmps25
    go_wp2_with fail
    refine (kind2 _).mono ?_
    rintro e w1 ⟨rfl, hb⟩
    have hN := hide ((Nx.new w 48 2 m n v).below hb)
    have hE := hide ((((Below.refl _ _).alloc (Nat.le_refl _) (.cells #[.int .i64 2, .int .i64 m, .int .i64 n, .float .f64 v] 48)).trans (hb.mono (by simp))).alloc (by have := hb.size; simp at this; omega) (.cells #[.bool true, .bool false, .bool true] 54))
    obtain ⟨c0, c1, c2, c3⟩ := unhide hN
    have hlt := (unhide hN).lt
    clear hb
    go_wp2_with fail
    refine (inp_yes m i _ _ (unhide hA')).mono ?_
    rintro e w2 ⟨rfl, hw1⟩
    have hw2 := hw1.symm
    subst hw2
    go_wp2
    go_ret
    exact ⟨ret_bool (by simp), unhide hE⟩
  cases C
  · skip
    go_enter Try.func25, Try.ntmps25
    go_wp2_with fail
    refine (kind2 _).mono ?_
    rintro e w1 ⟨rfl, hb⟩
    have hN := hide ((Nx.new w 48 2 m n v).below hb)
    have hE := hide ((((Below.refl _ _).alloc (Nat.le_refl _) (.cells #[.int .i64 2, .int .i64 m, .int .i64 n, .float .f64 v] 48)).trans (hb.mono (by simp))).alloc (by have := hb.size; simp at this; omega) (.cells #[.bool true, .bool false, .bool true] 54))
    obtain ⟨c0, c1, c2, c3⟩ := unhide hN
    have hlt := (unhide hN).lt
    clear hb
    go_wp2_with fail
    refine (inp_yes m i _ _ (unhide hA')).mono ?_
    rintro e w2 ⟨rfl, hw1⟩
    have hw2 := hw1.symm
    subst hw2
    go_wp2_with fail
    refine (inp_no n i _ _ (unhide hC')).mono ?_
    rintro e w2 ⟨rfl, hw1⟩
    have hw2 := hw1.symm
    subst hw2
    go_wp2
    go_ret
    exact ⟨ret_bool (by simp), unhide hE⟩
  go_enter Try.func25, Try.ntmps25
  go_wp2_with fail
  refine (kind2 _).mono ?_
  rintro e w1 ⟨rfl, hb⟩
  have hN := hide ((Nx.new w 48 2 m n v).below hb)
  have hE := hide ((((Below.refl _ _).alloc (Nat.le_refl _) (.cells #[.int .i64 2, .int .i64 m, .int .i64 n, .float .f64 v] 48)).trans (hb.mono (by simp))).alloc (by have := hb.size; simp at this; omega) (.cells #[.bool true, .bool false, .bool true] 54))
  obtain ⟨c0, c1, c2, c3⟩ := unhide hN
  have hlt := (unhide hN).lt
  clear hb
  go_wp2_with fail
  refine (inp_yes m i _ _ (unhide hA')).mono ?_
  rintro e w2 ⟨rfl, hw1⟩
  have hw2 := hw1.symm
  subst hw2
  go_wp2_with fail
  refine (inp_no n i _ _ (unhide hC')).mono ?_
  rintro e w2 ⟨rfl, hw1⟩
  have hw2 := hw1.symm
  subst hw2
  go_wp2
  go_ret
  exact ⟨ret_bool (by simp), unhide hE⟩

set_option maxHeartbeats 1600000 in
theorem inode3 (m n : Int) (v : Nat) (i : Int) (B : Bool) (w : World) (hv : v < 18446744073709551616) (hB : decide (NodeOk 3 m n v i) = B) :
    Calls Try.prog 25 #[agN 3 m n v, .int .i64 i] w fun e w' => e = .returned (.bool B) ∧ Below w.heap.size w w' := by
  rw [node_g (by omega)] at hB
  subst hB
  have hv' := hide hv
  clear hv
  generalize hA : decide (InOk m i) = A
  have hA' := hide hA
  clear hA
  generalize hC : (n == 0) = C
  have hC' := hide hC
  clear hC
  cases A
  · skip
    go_enter Try.func25, Try.ntmps25
    go_wp2_with fail
    refine (kind3 _).mono ?_
    rintro e w1 ⟨rfl, hb⟩
    have hN := hide ((Nx.new w 48 3 m n v).below hb)
    have hE := hide ((((Below.refl _ _).alloc (Nat.le_refl _) (.cells #[.int .i64 3, .int .i64 m, .int .i64 n, .float .f64 v] 48)).trans (hb.mono (by simp))).alloc (by have := hb.size; simp at this; omega) (.cells #[.bool true, .bool false, .bool true] 54))
    obtain ⟨c0, c1, c2, c3⟩ := unhide hN
    have hlt := (unhide hN).lt
    clear hb
    go_wp2_with fail
    refine (inp_yes m i _ _ (unhide hA')).mono ?_
    rintro e w2 ⟨rfl, hw1⟩
    have hw2 := hw1.symm
    subst hw2
    go_wp2
    go_ret
    exact ⟨ret_bool (by simp), unhide hE⟩
  cases C
  · skip
    go_enter Try.func25, Try.ntmps25
    go_wp2_with fail
    refine (kind3 _).mono ?_
    rintro e w1 ⟨rfl, hb⟩
    have hN := hide ((Nx.new w 48 3 m n v).below hb)
    have hE := hide ((((Below.refl _ _).alloc (Nat.le_refl _) (.cells #[.int .i64 3, .int .i64 m, .int .i64 n, .float .f64 v] 48)).trans (hb.mono (by simp))).alloc (by have := hb.size; simp at this; omega) (.cells #[.bool true, .bool false, .bool true] 54))
    obtain ⟨c0, c1, c2, c3⟩ := unhide hN
    have hlt := (unhide hN).lt
    clear hb
    go_wp2_with fail
    refine (inp_yes m i _ _ (unhide hA')).mono ?_
    rintro e w2 ⟨rfl, hw1⟩
    have hw2 := hw1.symm
    subst hw2
    go_wp2_with fail
    refine (inp_no n i _ _ (unhide hC')).mono ?_
    rintro e w2 ⟨rfl, hw1⟩
    have hw2 := hw1.symm
    subst hw2
    go_wp2
    go_ret
    exact ⟨ret_bool (by simp), unhide hE⟩
  go_enter Try.func25, Try.ntmps25
  go_wp2_with fail
  refine (kind3 _).mono ?_
  rintro e w1 ⟨rfl, hb⟩
  have hN := hide ((Nx.new w 48 3 m n v).below hb)
  have hE := hide ((((Below.refl _ _).alloc (Nat.le_refl _) (.cells #[.int .i64 3, .int .i64 m, .int .i64 n, .float .f64 v] 48)).trans (hb.mono (by simp))).alloc (by have := hb.size; simp at this; omega) (.cells #[.bool true, .bool false, .bool true] 54))
  obtain ⟨c0, c1, c2, c3⟩ := unhide hN
  have hlt := (unhide hN).lt
  clear hb
  go_wp2_with fail
  refine (inp_yes m i _ _ (unhide hA')).mono ?_
  rintro e w2 ⟨rfl, hw1⟩
  have hw2 := hw1.symm
  subst hw2
  go_wp2_with fail
  refine (inp_no n i _ _ (unhide hC')).mono ?_
  rintro e w2 ⟨rfl, hw1⟩
  have hw2 := hw1.symm
  subst hw2
  go_wp2
  go_ret
  exact ⟨ret_bool (by simp), unhide hE⟩

set_option maxHeartbeats 1600000 in
theorem inode4 (m n : Int) (v : Nat) (i : Int) (B : Bool) (w : World) (hv : v < 18446744073709551616) (hB : decide (NodeOk 4 m n v i) = B) :
    Calls Try.prog 25 #[agN 4 m n v, .int .i64 i] w fun e w' => e = .returned (.bool B) ∧ Below w.heap.size w w' := by
  rw [node_4] at hB
  subst hB
  have hv' := hide hv
  clear hv
  generalize hA : decide (InOk m i) = A
  have hA' := hide hA
  clear hA
  generalize hC : decide (InOk n i) = C
  have hC' := hide hC
  clear hC
  cases A
  · skip
    go_enter Try.func25, Try.ntmps25
    go_wp2_with fail
    refine (kind4 _).mono ?_
    rintro e w1 ⟨rfl, hb⟩
    have hN := hide ((Nx.new w 48 4 m n v).below hb)
    have hE := hide ((((Below.refl _ _).alloc (Nat.le_refl _) (.cells #[.int .i64 4, .int .i64 m, .int .i64 n, .float .f64 v] 48)).trans (hb.mono (by simp))).alloc (by have := hb.size; simp at this; omega) (.cells #[.bool true, .bool true, .bool true] 54))
    obtain ⟨c0, c1, c2, c3⟩ := unhide hN
    have hlt := (unhide hN).lt
    clear hb
    go_wp2_with fail
    refine (inp_yes m i _ _ (unhide hA')).mono ?_
    rintro e w2 ⟨rfl, hw1⟩
    have hw2 := hw1.symm
    subst hw2
    go_wp2
    go_ret
    exact ⟨ret_bool (by simp), unhide hE⟩
  cases C
  · skip
    go_enter Try.func25, Try.ntmps25
    go_wp2_with fail
    refine (kind4 _).mono ?_
    rintro e w1 ⟨rfl, hb⟩
    have hN := hide ((Nx.new w 48 4 m n v).below hb)
    have hE := hide ((((Below.refl _ _).alloc (Nat.le_refl _) (.cells #[.int .i64 4, .int .i64 m, .int .i64 n, .float .f64 v] 48)).trans (hb.mono (by simp))).alloc (by have := hb.size; simp at this; omega) (.cells #[.bool true, .bool true, .bool true] 54))
    obtain ⟨c0, c1, c2, c3⟩ := unhide hN
    have hlt := (unhide hN).lt
    clear hb
    go_wp2_with fail
    refine (inp_yes m i _ _ (unhide hA')).mono ?_
    rintro e w2 ⟨rfl, hw1⟩
    have hw2 := hw1.symm
    subst hw2
    go_wp2_with fail
    refine (inp_yes n i _ _ (unhide hC')).mono ?_
    rintro e w2 ⟨rfl, hw1⟩
    have hw2 := hw1.symm
    subst hw2
    go_wp2
    go_ret
    exact ⟨ret_bool (by simp), unhide hE⟩
  go_enter Try.func25, Try.ntmps25
  go_wp2_with fail
  refine (kind4 _).mono ?_
  rintro e w1 ⟨rfl, hb⟩
  have hN := hide ((Nx.new w 48 4 m n v).below hb)
  have hE := hide ((((Below.refl _ _).alloc (Nat.le_refl _) (.cells #[.int .i64 4, .int .i64 m, .int .i64 n, .float .f64 v] 48)).trans (hb.mono (by simp))).alloc (by have := hb.size; simp at this; omega) (.cells #[.bool true, .bool true, .bool true] 54))
  obtain ⟨c0, c1, c2, c3⟩ := unhide hN
  have hlt := (unhide hN).lt
  clear hb
  go_wp2_with fail
  refine (inp_yes m i _ _ (unhide hA')).mono ?_
  rintro e w2 ⟨rfl, hw1⟩
  have hw2 := hw1.symm
  subst hw2
  go_wp2_with fail
  refine (inp_yes n i _ _ (unhide hC')).mono ?_
  rintro e w2 ⟨rfl, hw1⟩
  have hw2 := hw1.symm
  subst hw2
  go_wp2
  go_ret
  exact ⟨ret_bool (by simp), unhide hE⟩

set_option maxHeartbeats 1600000 in
theorem inode5 (m n : Int) (v : Nat) (i : Int) (B : Bool) (w : World) (hv : v < 18446744073709551616) (hB : decide (NodeOk 5 m n v i) = B) :
    Calls Try.prog 25 #[agN 5 m n v, .int .i64 i] w fun e w' => e = .returned (.bool B) ∧ Below w.heap.size w w' := by
  rw [node_g (by omega)] at hB
  subst hB
  have hv' := hide hv
  clear hv
  generalize hA : decide (InOk m i) = A
  have hA' := hide hA
  clear hA
  generalize hC : (n == 0) = C
  have hC' := hide hC
  clear hC
  cases A
  · skip
    go_enter Try.func25, Try.ntmps25
    go_wp2_with fail
    refine (kind5 _).mono ?_
    rintro e w1 ⟨rfl, hb⟩
    have hN := hide ((Nx.new w 48 5 m n v).below hb)
    have hE := hide ((((Below.refl _ _).alloc (Nat.le_refl _) (.cells #[.int .i64 5, .int .i64 m, .int .i64 n, .float .f64 v] 48)).trans (hb.mono (by simp))).alloc (by have := hb.size; simp at this; omega) (.cells #[.bool true, .bool false, .bool true] 54))
    obtain ⟨c0, c1, c2, c3⟩ := unhide hN
    have hlt := (unhide hN).lt
    clear hb
    go_wp2_with fail
    refine (inp_yes m i _ _ (unhide hA')).mono ?_
    rintro e w2 ⟨rfl, hw1⟩
    have hw2 := hw1.symm
    subst hw2
    go_wp2
    go_ret
    exact ⟨ret_bool (by simp), unhide hE⟩
  cases C
  · skip
    go_enter Try.func25, Try.ntmps25
    go_wp2_with fail
    refine (kind5 _).mono ?_
    rintro e w1 ⟨rfl, hb⟩
    have hN := hide ((Nx.new w 48 5 m n v).below hb)
    have hE := hide ((((Below.refl _ _).alloc (Nat.le_refl _) (.cells #[.int .i64 5, .int .i64 m, .int .i64 n, .float .f64 v] 48)).trans (hb.mono (by simp))).alloc (by have := hb.size; simp at this; omega) (.cells #[.bool true, .bool false, .bool true] 54))
    obtain ⟨c0, c1, c2, c3⟩ := unhide hN
    have hlt := (unhide hN).lt
    clear hb
    go_wp2_with fail
    refine (inp_yes m i _ _ (unhide hA')).mono ?_
    rintro e w2 ⟨rfl, hw1⟩
    have hw2 := hw1.symm
    subst hw2
    go_wp2_with fail
    refine (inp_no n i _ _ (unhide hC')).mono ?_
    rintro e w2 ⟨rfl, hw1⟩
    have hw2 := hw1.symm
    subst hw2
    go_wp2
    go_ret
    exact ⟨ret_bool (by simp), unhide hE⟩
  go_enter Try.func25, Try.ntmps25
  go_wp2_with fail
  refine (kind5 _).mono ?_
  rintro e w1 ⟨rfl, hb⟩
  have hN := hide ((Nx.new w 48 5 m n v).below hb)
  have hE := hide ((((Below.refl _ _).alloc (Nat.le_refl _) (.cells #[.int .i64 5, .int .i64 m, .int .i64 n, .float .f64 v] 48)).trans (hb.mono (by simp))).alloc (by have := hb.size; simp at this; omega) (.cells #[.bool true, .bool false, .bool true] 54))
  obtain ⟨c0, c1, c2, c3⟩ := unhide hN
  have hlt := (unhide hN).lt
  clear hb
  go_wp2_with fail
  refine (inp_yes m i _ _ (unhide hA')).mono ?_
  rintro e w2 ⟨rfl, hw1⟩
  have hw2 := hw1.symm
  subst hw2
  go_wp2_with fail
  refine (inp_no n i _ _ (unhide hC')).mono ?_
  rintro e w2 ⟨rfl, hw1⟩
  have hw2 := hw1.symm
  subst hw2
  go_wp2
  go_ret
  exact ⟨ret_bool (by simp), unhide hE⟩

set_option maxHeartbeats 1600000 in
theorem inode6 (m n : Int) (v : Nat) (i : Int) (B : Bool) (w : World) (hv : v < 18446744073709551616) (hB : decide (NodeOk 6 m n v i) = B) :
    Calls Try.prog 25 #[agN 6 m n v, .int .i64 i] w fun e w' => e = .returned (.bool B) ∧ Below w.heap.size w w' := by
  rw [node_c (by omega)] at hB
  subst hB
  have hv' := hide hv
  clear hv
  generalize hA : decide (InOk m i) = A
  have hA' := hide hA
  clear hA
  generalize hC : (n == 0) = C
  have hC' := hide hC
  clear hC
  generalize hZ : decide (v = 0) = Z
  have hZ' := hide hZ
  clear hZ
  cases A
  · skip
    go_enter Try.func25, Try.ntmps25
    go_wp2_with fail
    refine (kind6 _).mono ?_
    rintro e w1 ⟨rfl, hb⟩
    have hN := hide ((Nx.new w 48 6 m n v).below hb)
    have hE := hide ((((Below.refl _ _).alloc (Nat.le_refl _) (.cells #[.int .i64 6, .int .i64 m, .int .i64 n, .float .f64 v] 48)).trans (hb.mono (by simp))).alloc (by have := hb.size; simp at this; omega) (.cells #[.bool true, .bool false, .bool false] 54))
    obtain ⟨c0, c1, c2, c3⟩ := unhide hN
    have hlt := (unhide hN).lt
    clear hb
    go_wp2_with fail
    refine (inp_yes m i _ _ (unhide hA')).mono ?_
    rintro e w2 ⟨rfl, hw1⟩
    have hw2 := hw1.symm
    subst hw2
    go_wp2
    go_ret
    exact ⟨ret_bool (by simp), unhide hE⟩
  cases C
  · skip
    go_enter Try.func25, Try.ntmps25
    go_wp2_with fail
    refine (kind6 _).mono ?_
    rintro e w1 ⟨rfl, hb⟩
    have hN := hide ((Nx.new w 48 6 m n v).below hb)
    have hE := hide ((((Below.refl _ _).alloc (Nat.le_refl _) (.cells #[.int .i64 6, .int .i64 m, .int .i64 n, .float .f64 v] 48)).trans (hb.mono (by simp))).alloc (by have := hb.size; simp at this; omega) (.cells #[.bool true, .bool false, .bool false] 54))
    obtain ⟨c0, c1, c2, c3⟩ := unhide hN
    have hlt := (unhide hN).lt
    clear hb
    go_wp2_with fail
    refine (inp_yes m i _ _ (unhide hA')).mono ?_
    rintro e w2 ⟨rfl, hw1⟩
    have hw2 := hw1.symm
    subst hw2
    go_wp2_with fail
    refine (inp_no n i _ _ (unhide hC')).mono ?_
    rintro e w2 ⟨rfl, hw1⟩
    have hw2 := hw1.symm
    subst hw2
    go_wp2
    go_ret
    exact ⟨ret_bool (by simp), unhide hE⟩
  go_enter Try.func25, Try.ntmps25
  go_wp2_with fail
  refine (kind6 _).mono ?_
  rintro e w1 ⟨rfl, hb⟩
  have hN := hide ((Nx.new w 48 6 m n v).below hb)
  have hE := hide ((((Below.refl _ _).alloc (Nat.le_refl _) (.cells #[.int .i64 6, .int .i64 m, .int .i64 n, .float .f64 v] 48)).trans (hb.mono (by simp))).alloc (by have := hb.size; simp at this; omega) (.cells #[.bool true, .bool false, .bool false] 54))
  obtain ⟨c0, c1, c2, c3⟩ := unhide hN
  have hlt := (unhide hN).lt
  clear hb
  go_wp2_with fail
  refine (inp_yes m i _ _ (unhide hA')).mono ?_
  rintro e w2 ⟨rfl, hw1⟩
  have hw2 := hw1.symm
  subst hw2
  go_wp2_with fail
  refine (inp_no n i _ _ (unhide hC')).mono ?_
  rintro e w2 ⟨rfl, hw1⟩
  have hw2 := hw1.symm
  subst hw2
  go_wp2_with fail
  refine (same0_any v _ _ (unhide hv') (unhide hZ')).mono ?_
  rintro e w2 ⟨rfl, hw1⟩
  have hw2 := hw1.symm
  subst hw2
  go_wp2
  go_ret
  exact ⟨ret_bool (by simp), unhide hE⟩

set_option maxHeartbeats 1600000 in
theorem inode7 (m n : Int) (v : Nat) (i : Int) (B : Bool) (w : World) (hv : v < 18446744073709551616) (hB : decide (NodeOk 7 m n v i) = B) :
    Calls Try.prog 25 #[agN 7 m n v, .int .i64 i] w fun e w' => e = .returned (.bool B) ∧ Below w.heap.size w w' := by
  rw [node_c (by omega)] at hB
  subst hB
  have hv' := hide hv
  clear hv
  generalize hA : decide (InOk m i) = A
  have hA' := hide hA
  clear hA
  generalize hC : (n == 0) = C
  have hC' := hide hC
  clear hC
  generalize hZ : decide (v = 0) = Z
  have hZ' := hide hZ
  clear hZ
  cases A
  · skip
    go_enter Try.func25, Try.ntmps25
    go_wp2_with fail
    refine (kind7 _).mono ?_
    rintro e w1 ⟨rfl, hb⟩
    have hN := hide ((Nx.new w 48 7 m n v).below hb)
    have hE := hide ((((Below.refl _ _).alloc (Nat.le_refl _) (.cells #[.int .i64 7, .int .i64 m, .int .i64 n, .float .f64 v] 48)).trans (hb.mono (by simp))).alloc (by have := hb.size; simp at this; omega) (.cells #[.bool true, .bool false, .bool false] 54))
    obtain ⟨c0, c1, c2, c3⟩ := unhide hN
    have hlt := (unhide hN).lt
    clear hb
    go_wp2_with fail
    refine (inp_yes m i _ _ (unhide hA')).mono ?_
    rintro e w2 ⟨rfl, hw1⟩
    have hw2 := hw1.symm
    subst hw2
    go_wp2
    go_ret
    exact ⟨ret_bool (by simp), unhide hE⟩
  cases C
  · skip
    go_enter Try.func25, Try.ntmps25
    go_wp2_with fail
    refine (kind7 _).mono ?_
    rintro e w1 ⟨rfl, hb⟩
    have hN := hide ((Nx.new w 48 7 m n v).below hb)
    have hE := hide ((((Below.refl _ _).alloc (Nat.le_refl _) (.cells #[.int .i64 7, .int .i64 m, .int .i64 n, .float .f64 v] 48)).trans (hb.mono (by simp))).alloc (by have := hb.size; simp at this; omega) (.cells #[.bool true, .bool false, .bool false] 54))
    obtain ⟨c0, c1, c2, c3⟩ := unhide hN
    have hlt := (unhide hN).lt
    clear hb
    go_wp2_with fail
    refine (inp_yes m i _ _ (unhide hA')).mono ?_
    rintro e w2 ⟨rfl, hw1⟩
    have hw2 := hw1.symm
    subst hw2
    go_wp2_with fail
    refine (inp_no n i _ _ (unhide hC')).mono ?_
    rintro e w2 ⟨rfl, hw1⟩
    have hw2 := hw1.symm
    subst hw2
    go_wp2
    go_ret
    exact ⟨ret_bool (by simp), unhide hE⟩
  go_enter Try.func25, Try.ntmps25
  go_wp2_with fail
  refine (kind7 _).mono ?_
  rintro e w1 ⟨rfl, hb⟩
  have hN := hide ((Nx.new w 48 7 m n v).below hb)
  have hE := hide ((((Below.refl _ _).alloc (Nat.le_refl _) (.cells #[.int .i64 7, .int .i64 m, .int .i64 n, .float .f64 v] 48)).trans (hb.mono (by simp))).alloc (by have := hb.size; simp at this; omega) (.cells #[.bool true, .bool false, .bool false] 54))
  obtain ⟨c0, c1, c2, c3⟩ := unhide hN
  have hlt := (unhide hN).lt
  clear hb
  go_wp2_with fail
  refine (inp_yes m i _ _ (unhide hA')).mono ?_
  rintro e w2 ⟨rfl, hw1⟩
  have hw2 := hw1.symm
  subst hw2
  go_wp2_with fail
  refine (inp_no n i _ _ (unhide hC')).mono ?_
  rintro e w2 ⟨rfl, hw1⟩
  have hw2 := hw1.symm
  subst hw2
  go_wp2_with fail
  refine (same0_any v _ _ (unhide hv') (unhide hZ')).mono ?_
  rintro e w2 ⟨rfl, hw1⟩
  have hw2 := hw1.symm
  subst hw2
  go_wp2
  go_ret
  exact ⟨ret_bool (by simp), unhide hE⟩

set_option maxHeartbeats 1600000 in
theorem inode_any (k m n : Int) (v : Nat) (i : Int) (B : Bool) (w : World) (hv : v < 18446744073709551616) (hB : decide (NodeOk k m n v i) = B) :
    Calls Try.prog 25 #[agN k m n v, .int .i64 i] w fun e w' => e = .returned (.bool B) ∧ Below w.heap.size w w' := by
  by_cases hk : k = 1 ∨ k = 2 ∨ k = 3 ∨ k = 4 ∨ k = 5 ∨ k = 6 ∨ k = 7
  · rcases hk with rfl | rfl | rfl | rfl | rfl | rfl | rfl
    · exact inode1 m n v i B w hv hB
    · exact inode2 m n v i B w hv hB
    · exact inode3 m n v i B w hv hB
    · exact inode4 m n v i B w hv hB
    · exact inode5 m n v i B w hv hB
    · exact inode6 m n v i B w hv hB
    · exact inode7 m n v i B w hv hB
  rw [node_no hk] at hB
  subst hB
  by_cases h1 : k < 1
  · clear hk
    go_enter Try.func25, Try.ntmps25
    go_wp2
    go_ret
    exact ⟨rfl, (Below.refl _ _).alloc (Nat.le_refl _) _⟩
  · have h2 : 7 < k := by omega
    have hd : decide (k < 1) = false := by simpa using h1
    clear hk
    go_enter Try.func25, Try.ntmps25
    go_wp2
    go_ret
    exact ⟨rfl, (Below.refl _ _).alloc (Nat.le_refl _) _⟩

end Go.Proofs.Ytfblnnnnkjphjaa
