/-
  The model's draw of two colours and two numbers: its contract.
-/
import Derived.Test.YtdmcbdogpeidjaaDrSc
namespace Go.Proofs.Ytdmcbdogpeidjaa
open Go.RowKit
set_option linter.unusedVariables false
set_option linter.unusedSimpArgs false

/-- the state while they are drawn: the two answers' cells, the cursor, the two colours in blocks p and q -/
structure KS (w : World) (g : Nat) (a : Option Addr) (len cap : Nat) (wr : World) (h : Nat) : Prop where
  r0 : Bx wr h 0 0 0
  r1 : Bx wr (h + 1) 0 0 0
  cur : CurAt wr g a len cap
  rd : RdB wr w.heap.size a len
  bel : Below w.heap.size w wr
theorem Bx.grown {w w1 : World} {r g : Nat} {x y z : Int} (h : Bx w r x y z) (hg : w.grownBy w1 (some g)) (hne : r ≠ g) : Bx w1 r x y z := h.block (hg.block r h.lt (by intro e; injection e with e; omega))
theorem KS.call {w wr w1 : World} {g h : Nat} {a : Option Addr} {len cap : Nat} (H : KS w g a len cap wr h) (hwg : w.heap.size ≤ g) (hh : h + 1 < g) (hc : CurAt w1 g a len cap) (hg : wr.grownBy w1 (some g)) : KS w g a len cap w1 h :=
  ⟨H.r0.grown hg (by omega), H.r1.grown hg (by omega), hc, H.rd.grown hg hwg, bel_cur H.bel hg hwg⟩
theorem KS.later {w wr w1 : World} {g h : Nat} {a : Option Addr} {len cap : Nat} (H : KS w g a len cap wr h) (hb : Below wr.heap.size wr w1) : KS w g a len cap w1 h :=
  ⟨H.r0.below hb, H.r1.below hb, H.cur.below hb, H.rd.blw hb H.bel.size, laterB H.bel hb⟩
theorem KS.set {w wr : World} {g h k i : Nat} {v : Value} {a : Option Addr} {len cap : Nat} (H : KS w g a len cap wr h) (hk : g < k) (hh : h + 1 < g) (hw : w.heap.size ≤ g) : KS w g a len cap (wr.setCell ⟨k, i, none⟩ v) h :=
  ⟨H.r0.other (by omega), H.r1.other (by omega), H.cur.other (heap_set_ne (by omega)), H.rd.blw ((Below.refl k wr).setCell (Nat.le_refl _) _) (by omega), H.bel.setCell (by simp; omega) _⟩
theorem lit3v {w : World} {T : TypeId} {k : Nat} {a0 a1 a2 : Int} (hk : k < 3) : ∃ v : Int, (w.alloc (.cells #[.int .i64 a0, .int .i64 a1, .int .i64 a2] T)).cell? ⟨w.heap.size, k, none⟩ = some (.int .i64 v) := lit3 hk

set_option maxHeartbeats 6400000 in
theorem dkm_any (a : Option Addr) (len cap : Nat) (w : World) (hl : len ≤ 4096) (hr : RdB w w.heap.size a len) :
    Calls Try.prog 19 #[.slice a len cap] w fun e w' => ∃ x y z p q r n f : Int, e = .returned (.tuple #[ag3 x y z, ag3 p q r, .int .i64 n, .int .i64 f]) ∧ LvOk y ∧ LvOk z ∧ LvOk q ∧ LvOk r ∧ Below w.heap.size w w' := by
  have hr' := hide hr
  clear hr
  go_enter Try.func19, Try.ntmps19
  have hal0 : Below w.heap.size w ((w.alloc (.cells #[.int .i64 0, .int .i64 0, .int .i64 0] 26)).alloc (.cells #[.int .i64 0, .int .i64 0, .int .i64 0] 26)) := ((Below.refl _ _).alloc (Nat.le_refl _) _).alloc (by simp) _
  go_wp2_with fail
  refine (new_any a len cap _ (by omega) (by omega) ((show RdB ((w.alloc (.cells #[.int .i64 0, .int .i64 0, .int .i64 0] 26)).alloc (.cells #[.int .i64 0, .int .i64 0, .int .i64 0] 26)) ((w.alloc (.cells #[.int .i64 0, .int .i64 0, .int .i64 0] 26)).alloc (.cells #[.int .i64 0, .int .i64 0, .int .i64 0] 26)).heap.size a len from fun j hj => by obtain ⟨b, o, z, e, hb, hc, h0, h1⟩ := (unhide hr').blw hal0 (Nat.le_refl _) j hj; exact ⟨b, o, z, e, by simp; omega, hc, h0, h1⟩))).mono ?_
  rintro e w1 ⟨g, rfl, hg, hc1, hb1⟩
  have hgg : w.heap.size + 1 < g := by simp at hg; omega
  have hwg : w.heap.size ≤ g := by omega
  have K1 : Hid (KS w g a len cap w1 w.heap.size) := hide ⟨Bx.below (w := (w.alloc (.cells #[.int .i64 0, .int .i64 0, .int .i64 0] 26)).alloc (.cells #[.int .i64 0, .int .i64 0, .int .i64 0] 26)) ⟨by simp [go_sem], by simp [go_sem], by simp [go_sem], by simp [go_sem], by simp [go_sem], by simp [go_sem]⟩ hb1, Bx.below (w := (w.alloc (.cells #[.int .i64 0, .int .i64 0, .int .i64 0] 26)).alloc (.cells #[.int .i64 0, .int .i64 0, .int .i64 0] 26)) ⟨by simp [go_sem], by simp [go_sem], by simp [go_sem], by simp [go_sem], by simp [go_sem], by simp [go_sem]⟩ hb1, hc1, ((unhide hr').blw hal0 (Nat.le_refl _)).blw hb1 (by simp; omega), hal0.trans (hb1.mono (by simp; omega))⟩
  clear hal0 hg hc1 hb1 hr'
  go_wp2_with fail
  refine (drgb_any w.heap.size g a len cap _ hwg (unhide K1).bel.size (by omega) (unhide K1).cur (unhide K1).rd).mono ?_
  rintro e w2 ⟨x, y, z, rfl, ly, lz, k2, g2⟩
  have K2 := hide ((unhide K1).call hwg hgg k2 g2)
  have Ly := hide ly
  have Lz := hide lz
  have gl2 : g < w2.heap.size := (unhide K2).cur.lt
  clear K1 k2 g2 ly lz
  have hal : Below w2.heap.size w2 (w2.alloc (.cells #[.int .i64 x, .int .i64 y, .int .i64 z] 26)) := (Below.refl _ _).alloc (Nat.le_refl _) _
  have K3 := hide ((unhide K2).later hal)
  have P3 : Hid (Bx (w2.alloc (.cells #[.int .i64 x, .int .i64 y, .int .i64 z] 26)) w2.heap.size x y z) := hide (Bx.new _ _ _ _ _)
  clear hal K2
  go_wp2_with fail
  refine (drgb_any w.heap.size g a len cap _ hwg (unhide K3).bel.size (by omega) (unhide K3).cur (unhide K3).rd).mono ?_
  rintro e w4 ⟨p, q, r, rfl, lq, lr, k4, g4⟩
  have K4 := hide ((unhide K3).call hwg hgg k4 g4)
  have P4 := hide ((unhide P3).grown g4 (by omega))
  have Lq := hide lq
  have Lr := hide lr
  clear K3 P3 k4 g4 lq lr
  have gl4 : w2.heap.size < w4.heap.size := (unhide P4).lt
  have hal : Below w4.heap.size w4 (w4.alloc (.cells #[.int .i64 p, .int .i64 q, .int .i64 r] 26)) := (Below.refl _ _).alloc (Nat.le_refl _) _
  have K5 := hide ((unhide K4).later hal)
  have P5 := hide ((unhide P4).below hal)
  have Q5 : Hid (Bx (w4.alloc (.cells #[.int .i64 p, .int .i64 q, .int .i64 r] 26)) w4.heap.size p q r) := hide (Bx.new _ _ _ _ _)
  clear hal K4 P4
  go_wp2_with fail
  refine (once_any w.heap.size g a len cap 2 _ hwg (by omega) (unhide K5).cur (unhide K5).rd (by omega)).mono ?_
  rintro e w6 ⟨bb, rfl, k6, g6⟩
  have K6 := hide ((unhide K5).call hwg hgg k6 g6)
  have P6 := hide ((unhide P5).grown g6 (by omega))
  have Q6 := hide ((unhide Q5).grown g6 (by omega))
  clear K5 P5 Q5 k6 g6
  generalize w2.heap.size = hp at *
  generalize w4.heap.size = hq at *
  cases bb
  · go_wp2_with fail
    refine (below_any w.heap.size g a len cap 1000 _ hwg (by omega) (unhide K6).cur (unhide K6).rd (by omega)).mono ?_
    rintro e w10 ⟨n, rfl, n0, n1, k1, g1⟩
    have K10 := hide ((unhide K6).call hwg hgg k1 g1)
    have P10 := hide ((unhide P6).grown g1 (by omega))
    have Q10 := hide ((unhide Q6).grown g1 (by omega))
    clear k1 g1
    go_wp2_with fail
    refine (below_any w.heap.size g a len cap 2000 _ hwg (by omega) (unhide K10).cur (unhide K10).rd (by omega)).mono ?_
    rintro e w11 ⟨f, rfl, f0, f1, k1, g1⟩
    have K11 := hide ((unhide K10).call hwg hgg k1 g1)
    have P11 := hide ((unhide P10).grown g1 (by omega))
    have Q11 := hide ((unhide Q10).grown g1 (by omega))
    clear k1 g1 K10 P10 Q10
    go_wp2_with fail
    refine (once_any w.heap.size g a len cap 16 _ hwg (by omega) (unhide K11).cur (unhide K11).rd (by omega)).mono ?_
    rintro e w12 ⟨cc, rfl, k1, g1⟩
    have K12 := hide ((unhide K11).call hwg hgg k1 g1)
    have P12 := hide ((unhide P11).grown g1 (by omega))
    have Q12 := hide ((unhide Q11).grown g1 (by omega))
    clear k1 g1 K11 P11 Q11
    cases cc
    · obtain ⟨p0, p1, p2, _, _, _⟩ := unhide P12
      obtain ⟨q0, q1, q2, _, _, _⟩ := unhide Q12
      obtain ⟨u0, u1, u2, fu0, fu1, fu2⟩ := (unhide K12).r0
      obtain ⟨v0, v1, v2, fv0, fv1, fv2⟩ := (unhide K12).r1
      have hn1 : ¬ (w.heap.size = hp) := by omega
      have hn2 : ¬ (w.heap.size = hq) := by omega
      have hn3 : ¬ (w.heap.size + 1 = hp) := by omega
      have hn4 : ¬ (w.heap.size + 1 = hq) := by omega
      have hn5 : ¬ (hp = w.heap.size) := by omega
      have hn6 : ¬ (hq = w.heap.size) := by omega
      have hn7 : ¬ (hp = w.heap.size + 1) := by omega
      have hn8 : ¬ (hq = w.heap.size + 1) := by omega
      go_wp2_with fail
      go_region_held3 (fun w' => w'.cell? ⟨hp, 0, none⟩ = some (.int .i64 x) ∧ w'.cell? ⟨hp, 1, none⟩ = some (.int .i64 y) ∧ w'.cell? ⟨hp, 2, none⟩ = some (.int .i64 z) ∧ w'.cell? ⟨hq, 0, none⟩ = some (.int .i64 p) ∧ w'.cell? ⟨hq, 1, none⟩ = some (.int .i64 q) ∧ w'.cell? ⟨hq, 2, none⟩ = some (.int .i64 r)) (go_keep) (fail)
      all_goals go_wp2
      all_goals
        refine bodyPost_ret (v := .tuple #[ag3 x y z, ag3 p q r, .int .i64 n, .int .i64 (n + 1 + f)]) (by simp [results, Try.results19, go_sem, u0, u1, u2, v0, v1, v2]) rfl ⟨x, y, z, p, q, r, n, (n + 1 + f), rfl, unhide Ly, unhide Lz, unhide Lq, unhide Lr, ?_⟩
        exact (((((((unhide K12).bel.setCell (by simp <;> omega) _).setCell (by simp <;> omega) _).setCell (by simp <;> omega) _).setCell (by simp <;> omega) _).setCell (by simp <;> omega) _).setCell (by simp <;> omega) _) |>.drew
    · have gq12 : hq < w12.heap.size := (unhide Q12).lt
      have gg12 : g < w12.heap.size := (unhide K12).cur.lt
      have hal : Below w12.heap.size w12 (w12.alloc (.cells #[.int .i64 (-1), .int .i64 (n + 1 + f), .int .i64 0] 2)) := (Below.refl _ _).alloc (Nat.le_refl _) _
      have K13 := hide ((unhide K12).later hal)
      have P13 := hide ((unhide P12).below hal)
      have Q13 := hide ((unhide Q12).below hal)
      clear hal K12 P12 Q12
      go_wp2_with fail
      refine (below_any w.heap.size g a len cap 3 _ hwg (by omega) (unhide K13).cur (unhide K13).rd (by omega)).mono ?_
      rintro e w14 ⟨xx, rfl, xx0, xx1, k1, g1⟩
      obtain ⟨k, rfl⟩ := Int.eq_ofNat_of_zero_le xx0
      obtain ⟨v, hcv⟩ := lit3v (w := w12) (T := 2) (a0 := -1) (a1 := n + 1 + f) (a2 := 0) (k := k) (by omega)
      have hcv2 := grown_cell g1 (by omega) hcv
      have K14 := hide ((unhide K13).call hwg hgg k1 g1)
      have P14 := hide ((unhide P13).grown g1 (by omega))
      have Q14 := hide ((unhide Q13).grown g1 (by omega))
      have gq14 : hq < w14.heap.size := (unhide Q14).lt
      have gg14 : g < w14.heap.size := (unhide K14).cur.lt
      clear k1 g1 hcv K13 P13 Q13
      have hal : Below w14.heap.size w14 (w14.alloc (.cells #[.int .i64 (n + 1 + f), .int .i64 65535, .int .i64 65536] 2)) := (Below.refl _ _).alloc (Nat.le_refl _) _
      have K15 := hide ((unhide K14).later hal)
      have P15 := hide ((unhide P14).below hal)
      have Q15 := hide ((unhide Q14).below hal)
      clear hal K14 P14 Q14
      go_wp2_with fail
      refine (below_any w.heap.size g a len cap 3 _ hwg (by omega) (unhide K15).cur (unhide K15).rd (by omega)).mono ?_
      rintro e w16 ⟨zz, rfl, zz0, zz1, k1, g1⟩
      obtain ⟨kk, rfl⟩ := Int.eq_ofNat_of_zero_le zz0
      obtain ⟨u, hcu⟩ := lit3v (w := w14) (T := 2) (a0 := n + 1 + f) (a1 := 65535) (a2 := 65536) (k := kk) (by omega)
      have hcu2 := grown_cell g1 (by omega) hcu
      have K16 := hide ((unhide K15).call hwg hgg k1 g1)
      have P16 := hide ((unhide P15).grown g1 (by omega))
      have Q16 := hide ((unhide Q15).grown g1 (by omega))
      clear k1 g1 hcu K15 P15 Q15 hcv2
      obtain ⟨p0, p1, p2, _, _, _⟩ := unhide P16
      obtain ⟨q0, q1, q2, _, _, _⟩ := unhide Q16
      obtain ⟨u0, u1, u2, fu0, fu1, fu2⟩ := (unhide K16).r0
      obtain ⟨v0, v1, v2, fv0, fv1, fv2⟩ := (unhide K16).r1
      have hn1 : ¬ (w.heap.size = hp) := by omega
      have hn2 : ¬ (w.heap.size = hq) := by omega
      have hn3 : ¬ (w.heap.size + 1 = hp) := by omega
      have hn4 : ¬ (w.heap.size + 1 = hq) := by omega
      have hn5 : ¬ (hp = w.heap.size) := by omega
      have hn6 : ¬ (hq = w.heap.size) := by omega
      have hn7 : ¬ (hp = w.heap.size + 1) := by omega
      have hn8 : ¬ (hq = w.heap.size + 1) := by omega
      go_wp2_with fail
      go_region_held3 (fun w' => w'.cell? ⟨hp, 0, none⟩ = some (.int .i64 x) ∧ w'.cell? ⟨hp, 1, none⟩ = some (.int .i64 y) ∧ w'.cell? ⟨hp, 2, none⟩ = some (.int .i64 z) ∧ w'.cell? ⟨hq, 0, none⟩ = some (.int .i64 p) ∧ w'.cell? ⟨hq, 1, none⟩ = some (.int .i64 q) ∧ w'.cell? ⟨hq, 2, none⟩ = some (.int .i64 r)) (go_keep) (fail)
      all_goals go_wp2
      all_goals
        refine bodyPost_ret (v := .tuple #[ag3 x y z, ag3 p q r, .int .i64 v, .int .i64 u]) (by simp [results, Try.results19, go_sem, u0, u1, u2, v0, v1, v2]) rfl ⟨x, y, z, p, q, r, v, u, rfl, unhide Ly, unhide Lz, unhide Lq, unhide Lr, ?_⟩
        exact (((((((unhide K16).bel.setCell (by simp <;> omega) _).setCell (by simp <;> omega) _).setCell (by simp <;> omega) _).setCell (by simp <;> omega) _).setCell (by simp <;> omega) _).setCell (by simp <;> omega) _) |>.drew
  · obtain ⟨p0, p1, p2, _, _, _⟩ := unhide P6
    obtain ⟨q0, q1, q2, fq0, fq1, fq2⟩ := unhide Q6
    have K7 := hide ((((unhide K6).set (k := hq) (i := 0) (v := .int .i64 x) (by omega) hgg hwg).set (k := hq) (i := 1) (v := .int .i64 y) (by omega) hgg hwg).set (k := hq) (i := 2) (v := .int .i64 z) (by omega) hgg hwg)
    have P7 := hide ((((unhide P6).other (b := hq) (i := 0) (v := .int .i64 x) (by omega)).other (b := hq) (i := 1) (v := .int .i64 y) (by omega)).other (b := hq) (i := 2) (v := .int .i64 z) (by omega))
    have Q7 := hide ((((unhide Q6).set0 x).set1 y).set2 z)
    have hly0 := (unhide Ly).1
    have hly1 := (unhide Ly).2
    go_wp2_with fail
    generalize hW7 : ((w6.setCell ⟨hq, 0, none⟩ (.int .i64 x)).setCell ⟨hq, 1, none⟩ (.int .i64 y)).setCell ⟨hq, 2, none⟩ (.int .i64 z) = w7 at *
    clear hW7 K6 P6 Q6 p0 p1 p2 q0 q1 q2 fq0 fq1 fq2
    obtain ⟨q0, q1, q2, fq0, fq1, fq2⟩ := unhide Q7
    refine wp_region_noPanic ?_
    refine wp_region_held_drew (S := fun _ => True) (by kernel_rfl) trivial (fun hH0 => ?_)
    have K8 : Hid (KS w g a len cap w7.drew w.heap.size) := hide ((unhide K7).later (Below.refl _ _).drew)
    have P8 : Hid (Bx w7.drew hp x y z) := hide ((unhide P7).block rfl)
    have Q8 : Hid (Bx w7.drew hq x y z) := hide ((unhide Q7).block rfl)
    refine wpAnyH_take (i := 0) (oi := { dst := some 20, op := Go.Op.fieldAddr 26 (Go.Operand.tmp 8) 1, type := 0, pos := _, after := #[], guard := none }) (v := ?_) rfl (by kernel_rfl) (by kernel_rfl) (by kernel_rfl) (fun _ _ _ h => h) (Or.inl ⟨by rfl, ?_⟩) trivial ?_
    rotate_left
    · (intro w hSw; (try dsimp only at hSw); go_simp <;> with_reducible rfl)
    (try simp only [Act.put, List.setIfInBounds_toArray, List.set_cons_zero, List.set_cons_succ])
    refine wpAnyH_take (i := 2) (oi := { dst := some 22, op := Go.Op.move (Go.Operand.tmp 6), type := 54, pos := _, after := #[], guard := none }) (v := ?_) rfl (by kernel_rfl) (by kernel_rfl) (by kernel_rfl) (fun _ _ _ h => h) (Or.inl ⟨by rfl, ?_⟩) trivial ?_
    rotate_left
    · (intro w hSw; (try dsimp only at hSw); go_simp <;> with_reducible rfl)
    (try simp only [Act.put, List.setIfInBounds_toArray, List.set_cons_zero, List.set_cons_succ])
    refine wpAnyH_ready (rs := [1, 3]) (by kernel_rfl) (by simp) ?_
    refine AllReadyH.cons (o := { dst := some 21, op := Go.Op.load 2 (Go.Operand.tmp 20), type := 2, pos := _, after := #[{ on := 0, ground := Go.Ground.data }], guard := none }) rfl (fun K9 hK9 => ?_) ?_
    · go_simp
      refine hK9.out _ _ trivial (fun hHa => ?_)
      clear hK9 K9
      (try simp only [Act.put, List.setIfInBounds_toArray, List.set_cons_zero, List.set_cons_succ])
      refine wpAnyH_ready (rs := [3]) (by kernel_rfl) (by simp) ?_
      refine AllReadyH.cons (o := { dst := some 23, op := Go.Op.call { callee := Go.Callee.value (Go.Operand.func 51), args := #[Go.Operand.tmp 22, Go.Operand.const (Go.Value.int Go.IntKind.i64 2000)], argTypes := #[54, 2] }, type := 2, pos := _, after := #[{ on := 2, ground := Go.Ground.data }], guard := none }) rfl (fun K9 hK9 => ?_) AllReadyH.nil
      go_simp
      go_at_call 51
      refine (below_any w.heap.size g a len cap 2000 _ hwg (by omega) (unhide K8).cur (unhide K8).rd (by omega)).mono ?_
      rintro e w8 ⟨m, rfl, m0, m1, k1, g1⟩
      have Kb := hide ((unhide K8).call hwg hgg k1 g1)
      have Pb := hide ((unhide P8).grown g1 (by omega))
      have Qb := hide ((unhide Q8).grown g1 (by omega))
      clear k1 g1
      (try simp only [])
      refine hK9.out _ _ trivial (fun hHb => ?_)
      clear hK9 K9
      (try simp only [Act.put, List.setIfInBounds_toArray, List.set_cons_zero, List.set_cons_succ])
      have hHc := hHa
      have wym : IntKind.i64.wrap (y + m) = y + m := by rw [IntKind.wrap_i64]; omega
      obtain ⟨Y, hY⟩ : ∃ Y, min 65535 (y + m) = Y := ⟨_, rfl⟩
      have lY : Hid (LvOk Y) := hide ⟨by omega, by omega⟩
      have hY' := hide hY
      clear hY
      refine wpAnyH_take (i := 4) (oi := { dst := some 24, op := Go.Op.binOp Go.BinOp.add 2 (Go.Operand.tmp 21) (Go.Operand.tmp 23) 2, type := 2, pos := _, after := #[{ on := 1, ground := Go.Ground.data }, { on := 3, ground := Go.Ground.data }], guard := none }) (v := ?_) rfl (by kernel_rfl) (by kernel_rfl) (by kernel_rfl) (fun _ _ _ h => h) (Or.inl ⟨by rfl, ?_⟩) hHc ?_
      rotate_left
      · (intro w hSw; (try dsimp only at hSw); go_simp <;> with_reducible rfl)
      (try simp only [Act.put, List.setIfInBounds_toArray, List.set_cons_zero, List.set_cons_succ])
      refine wpAnyH_ready (rs := [5]) (by kernel_rfl) (by simp) ?_
      refine AllReadyH.cons (o := { dst := some 25, op := Go.Op.call { callee := Go.Callee.value (Go.Operand.func 54), args := #[Go.Operand.const (Go.Value.int Go.IntKind.i64 65535), Go.Operand.tmp 24], argTypes := #[2, 2] }, type := 2, pos := _, after := #[{ on := 4, ground := Go.Ground.data }, { on := 3, ground := Go.Ground.chain }], guard := none }) rfl (fun K9 hK9 => ?_) AllReadyH.nil
      go_simp
      go_at_call 54
      refine (min_any 65535 (y + m) Y _ (unhide hY')).mono ?_
      rintro e w9 ⟨rfl, hw0⟩
      have hw1 := hw0.symm
      subst hw1
      (try simp only [])
      refine hK9.out _ _ trivial (fun hHd => ?_)
      clear hK9 K9
      (try simp only [Act.put, List.setIfInBounds_toArray, List.set_cons_zero, List.set_cons_succ])
      refine wpAnyH_take (i := 6) (oi := { dst := some 26, op := Go.Op.fieldAddr 26 (Go.Operand.tmp 8) 1, type := 0, pos := _, after := #[{ on := 0, ground := Go.Ground.phase }, { on := 1, ground := Go.Ground.phase }, { on := 2, ground := Go.Ground.phase }, { on := 3, ground := Go.Ground.phase }, { on := 4, ground := Go.Ground.phase }, { on := 5, ground := Go.Ground.phase }], guard := none }) (v := ?_) rfl (by kernel_rfl) (by kernel_rfl) (by kernel_rfl) (fun _ _ _ h => h) (Or.inl ⟨by rfl, ?_⟩) hHd ?_
      rotate_left
      · (intro w hSw; (try dsimp only at hSw); go_simp <;> with_reducible rfl)
      (try simp only [Act.put, List.setIfInBounds_toArray, List.set_cons_zero, List.set_cons_succ])
      refine wpAnyH_ready (rs := [7]) (by kernel_rfl) (by simp) ?_
      refine AllReadyH.cons (o := { dst := none, op := Go.Op.store 2 (Go.Operand.tmp 26) (Go.Operand.tmp 25), type := 0, pos := _, after := #[{ on := 6, ground := Go.Ground.data }, { on := 5, ground := Go.Ground.data }, { on := 5, ground := Go.Ground.chain }, { on := 0, ground := Go.Ground.phase }, { on := 1, ground := Go.Ground.phase }, { on := 2, ground := Go.Ground.phase }, { on := 3, ground := Go.Ground.phase }, { on := 4, ground := Go.Ground.phase }, { on := 5, ground := Go.Ground.phase }], guard := none }) rfl (fun K9 hK9 => ?_) AllReadyH.nil
      obtain ⟨z0, z1, z2, fz0, fz1, fz2⟩ := unhide Qb
      go_simp
      refine hK9.out _ _ trivial (fun hHf => ?_)
      clear hK9 K9
      (try simp only [Act.put, List.setIfInBounds_toArray, List.set_cons_zero, List.set_cons_succ])
      refine wpAnyH_done (by kernel_rfl) ?_ _
      refine NoPanic.normal ?_
      have Ka := hide ((unhide Kb).set (k := hq) (i := 1) (v := .int .i64 Y) (by omega) hgg hwg)
      have Pa := hide ((unhide Pb).other (b := hq) (i := 1) (v := .int .i64 Y) (by omega))
      have Qa := hide ((unhide Qb).set1 Y)
      clear z0 z1 z2 fz0 fz1 fz2 q0 q1 q2 fq0 fq1 fq2 hHb hHc hHd hHf Kb Pb Qb K8 P8 Q8 K7 P7 Q7 hH0
      go_wp2_with fail
      refine (below_any w.heap.size g a len cap 1000 _ hwg (by omega) (unhide Ka).cur (unhide Ka).rd (by omega)).mono ?_
      rintro e w10 ⟨n, rfl, n0, n1, k1, g1⟩
      have K10 := hide ((unhide Ka).call hwg hgg k1 g1)
      have P10 := hide ((unhide Pa).grown g1 (by omega))
      have Q10 := hide ((unhide Qa).grown g1 (by omega))
      clear k1 g1
      go_wp2_with fail
      refine (below_any w.heap.size g a len cap 2000 _ hwg (by omega) (unhide K10).cur (unhide K10).rd (by omega)).mono ?_
      rintro e w11 ⟨f, rfl, f0, f1, k1, g1⟩
      have K11 := hide ((unhide K10).call hwg hgg k1 g1)
      have P11 := hide ((unhide P10).grown g1 (by omega))
      have Q11 := hide ((unhide Q10).grown g1 (by omega))
      clear k1 g1 K10 P10 Q10
      go_wp2_with fail
      refine (once_any w.heap.size g a len cap 16 _ hwg (by omega) (unhide K11).cur (unhide K11).rd (by omega)).mono ?_
      rintro e w12 ⟨cc, rfl, k1, g1⟩
      have K12 := hide ((unhide K11).call hwg hgg k1 g1)
      have P12 := hide ((unhide P11).grown g1 (by omega))
      have Q12 := hide ((unhide Q11).grown g1 (by omega))
      clear k1 g1 K11 P11 Q11
      cases cc
      · obtain ⟨p0, p1, p2, _, _, _⟩ := unhide P12
        obtain ⟨q0, q1, q2, _, _, _⟩ := unhide Q12
        obtain ⟨u0, u1, u2, fu0, fu1, fu2⟩ := (unhide K12).r0
        obtain ⟨v0, v1, v2, fv0, fv1, fv2⟩ := (unhide K12).r1
        have hn1 : ¬ (w.heap.size = hp) := by omega
        have hn2 : ¬ (w.heap.size = hq) := by omega
        have hn3 : ¬ (w.heap.size + 1 = hp) := by omega
        have hn4 : ¬ (w.heap.size + 1 = hq) := by omega
        have hn5 : ¬ (hp = w.heap.size) := by omega
        have hn6 : ¬ (hq = w.heap.size) := by omega
        have hn7 : ¬ (hp = w.heap.size + 1) := by omega
        have hn8 : ¬ (hq = w.heap.size + 1) := by omega
        go_wp2_with fail
        go_region_held3 (fun w' => w'.cell? ⟨hp, 0, none⟩ = some (.int .i64 x) ∧ w'.cell? ⟨hp, 1, none⟩ = some (.int .i64 y) ∧ w'.cell? ⟨hp, 2, none⟩ = some (.int .i64 z) ∧ w'.cell? ⟨hq, 0, none⟩ = some (.int .i64 x) ∧ w'.cell? ⟨hq, 1, none⟩ = some (.int .i64 Y) ∧ w'.cell? ⟨hq, 2, none⟩ = some (.int .i64 z)) (go_keep) (fail)
        all_goals go_wp2
        all_goals
          refine bodyPost_ret (v := .tuple #[ag3 x y z, ag3 x Y z, .int .i64 n, .int .i64 (n + 1 + f)]) (by simp [results, Try.results19, go_sem, u0, u1, u2, v0, v1, v2]) rfl ⟨x, y, z, x, Y, z, n, (n + 1 + f), rfl, unhide Ly, unhide Lz, unhide lY, unhide Lz, ?_⟩
          exact (((((((unhide K12).bel.setCell (by simp <;> omega) _).setCell (by simp <;> omega) _).setCell (by simp <;> omega) _).setCell (by simp <;> omega) _).setCell (by simp <;> omega) _).setCell (by simp <;> omega) _) |>.drew
      · have gq12 : hq < w12.heap.size := (unhide Q12).lt
        have gg12 : g < w12.heap.size := (unhide K12).cur.lt
        have hal : Below w12.heap.size w12 (w12.alloc (.cells #[.int .i64 (-1), .int .i64 (n + 1 + f), .int .i64 0] 2)) := (Below.refl _ _).alloc (Nat.le_refl _) _
        have K13 := hide ((unhide K12).later hal)
        have P13 := hide ((unhide P12).below hal)
        have Q13 := hide ((unhide Q12).below hal)
        clear hal K12 P12 Q12
        go_wp2_with fail
        refine (below_any w.heap.size g a len cap 3 _ hwg (by omega) (unhide K13).cur (unhide K13).rd (by omega)).mono ?_
        rintro e w14 ⟨xx, rfl, xx0, xx1, k1, g1⟩
        obtain ⟨k, rfl⟩ := Int.eq_ofNat_of_zero_le xx0
        obtain ⟨v, hcv⟩ := lit3v (w := w12) (T := 2) (a0 := -1) (a1 := n + 1 + f) (a2 := 0) (k := k) (by omega)
        have hcv2 := grown_cell g1 (by omega) hcv
        have K14 := hide ((unhide K13).call hwg hgg k1 g1)
        have P14 := hide ((unhide P13).grown g1 (by omega))
        have Q14 := hide ((unhide Q13).grown g1 (by omega))
        have gq14 : hq < w14.heap.size := (unhide Q14).lt
        have gg14 : g < w14.heap.size := (unhide K14).cur.lt
        clear k1 g1 hcv K13 P13 Q13
        have hal : Below w14.heap.size w14 (w14.alloc (.cells #[.int .i64 (n + 1 + f), .int .i64 65535, .int .i64 65536] 2)) := (Below.refl _ _).alloc (Nat.le_refl _) _
        have K15 := hide ((unhide K14).later hal)
        have P15 := hide ((unhide P14).below hal)
        have Q15 := hide ((unhide Q14).below hal)
        clear hal K14 P14 Q14
        go_wp2_with fail
        refine (below_any w.heap.size g a len cap 3 _ hwg (by omega) (unhide K15).cur (unhide K15).rd (by omega)).mono ?_
        rintro e w16 ⟨zz, rfl, zz0, zz1, k1, g1⟩
        obtain ⟨kk, rfl⟩ := Int.eq_ofNat_of_zero_le zz0
        obtain ⟨u, hcu⟩ := lit3v (w := w14) (T := 2) (a0 := n + 1 + f) (a1 := 65535) (a2 := 65536) (k := kk) (by omega)
        have hcu2 := grown_cell g1 (by omega) hcu
        have K16 := hide ((unhide K15).call hwg hgg k1 g1)
        have P16 := hide ((unhide P15).grown g1 (by omega))
        have Q16 := hide ((unhide Q15).grown g1 (by omega))
        clear k1 g1 hcu K15 P15 Q15 hcv2
        obtain ⟨p0, p1, p2, _, _, _⟩ := unhide P16
        obtain ⟨q0, q1, q2, _, _, _⟩ := unhide Q16
        obtain ⟨u0, u1, u2, fu0, fu1, fu2⟩ := (unhide K16).r0
        obtain ⟨v0, v1, v2, fv0, fv1, fv2⟩ := (unhide K16).r1
        have hn1 : ¬ (w.heap.size = hp) := by omega
        have hn2 : ¬ (w.heap.size = hq) := by omega
        have hn3 : ¬ (w.heap.size + 1 = hp) := by omega
        have hn4 : ¬ (w.heap.size + 1 = hq) := by omega
        have hn5 : ¬ (hp = w.heap.size) := by omega
        have hn6 : ¬ (hq = w.heap.size) := by omega
        have hn7 : ¬ (hp = w.heap.size + 1) := by omega
        have hn8 : ¬ (hq = w.heap.size + 1) := by omega
        go_wp2_with fail
        go_region_held3 (fun w' => w'.cell? ⟨hp, 0, none⟩ = some (.int .i64 x) ∧ w'.cell? ⟨hp, 1, none⟩ = some (.int .i64 y) ∧ w'.cell? ⟨hp, 2, none⟩ = some (.int .i64 z) ∧ w'.cell? ⟨hq, 0, none⟩ = some (.int .i64 x) ∧ w'.cell? ⟨hq, 1, none⟩ = some (.int .i64 Y) ∧ w'.cell? ⟨hq, 2, none⟩ = some (.int .i64 z)) (go_keep) (fail)
        all_goals go_wp2
        all_goals
          refine bodyPost_ret (v := .tuple #[ag3 x y z, ag3 x Y z, .int .i64 v, .int .i64 u]) (by simp [results, Try.results19, go_sem, u0, u1, u2, v0, v1, v2]) rfl ⟨x, y, z, x, Y, z, v, u, rfl, unhide Ly, unhide Lz, unhide lY, unhide Lz, ?_⟩
          exact (((((((unhide K16).bel.setCell (by simp <;> omega) _).setCell (by simp <;> omega) _).setCell (by simp <;> omega) _).setCell (by simp <;> omega) _).setCell (by simp <;> omega) _).setCell (by simp <;> omega) _) |>.drew
    refine AllReadyH.cons (o := { dst := some 23, op := Go.Op.call { callee := Go.Callee.value (Go.Operand.func 51), args := #[Go.Operand.tmp 22, Go.Operand.const (Go.Value.int Go.IntKind.i64 2000)], argTypes := #[54, 2] }, type := 2, pos := _, after := #[{ on := 2, ground := Go.Ground.data }], guard := none }) rfl (fun K9 hK9 => ?_) AllReadyH.nil
    go_simp
    go_at_call 51
    refine (below_any w.heap.size g a len cap 2000 _ hwg (by omega) (unhide K8).cur (unhide K8).rd (by omega)).mono ?_
    rintro e w8 ⟨m, rfl, m0, m1, k1, g1⟩
    have Kb := hide ((unhide K8).call hwg hgg k1 g1)
    have Pb := hide ((unhide P8).grown g1 (by omega))
    have Qb := hide ((unhide Q8).grown g1 (by omega))
    clear k1 g1
    (try simp only [])
    refine hK9.out _ _ trivial (fun hHb => ?_)
    clear hK9 K9
    (try simp only [Act.put, List.setIfInBounds_toArray, List.set_cons_zero, List.set_cons_succ])
    obtain ⟨z0, z1, z2, _, _, _⟩ := unhide Qb
    refine wpAnyH_ready (rs := [1]) (by kernel_rfl) (by simp) ?_
    refine AllReadyH.cons (o := { dst := some 21, op := Go.Op.load 2 (Go.Operand.tmp 20), type := 2, pos := _, after := #[{ on := 0, ground := Go.Ground.data }], guard := none }) rfl (fun K9 hK9 => ?_) AllReadyH.nil
    go_simp
    refine hK9.out _ _ trivial (fun hHc => ?_)
    clear hK9 K9
    (try simp only [Act.put, List.setIfInBounds_toArray, List.set_cons_zero, List.set_cons_succ])
    clear z0 z1 z2
    have wym : IntKind.i64.wrap (y + m) = y + m := by rw [IntKind.wrap_i64]; omega
    obtain ⟨Y, hY⟩ : ∃ Y, min 65535 (y + m) = Y := ⟨_, rfl⟩
    have lY : Hid (LvOk Y) := hide ⟨by omega, by omega⟩
    have hY' := hide hY
    clear hY
    refine wpAnyH_take (i := 4) (oi := { dst := some 24, op := Go.Op.binOp Go.BinOp.add 2 (Go.Operand.tmp 21) (Go.Operand.tmp 23) 2, type := 2, pos := _, after := #[{ on := 1, ground := Go.Ground.data }, { on := 3, ground := Go.Ground.data }], guard := none }) (v := ?_) rfl (by kernel_rfl) (by kernel_rfl) (by kernel_rfl) (fun _ _ _ h => h) (Or.inl ⟨by rfl, ?_⟩) hHc ?_
    rotate_left
    · (intro w hSw; (try dsimp only at hSw); go_simp <;> with_reducible rfl)
    (try simp only [Act.put, List.setIfInBounds_toArray, List.set_cons_zero, List.set_cons_succ])
    refine wpAnyH_ready (rs := [5]) (by kernel_rfl) (by simp) ?_
    refine AllReadyH.cons (o := { dst := some 25, op := Go.Op.call { callee := Go.Callee.value (Go.Operand.func 54), args := #[Go.Operand.const (Go.Value.int Go.IntKind.i64 65535), Go.Operand.tmp 24], argTypes := #[2, 2] }, type := 2, pos := _, after := #[{ on := 4, ground := Go.Ground.data }, { on := 3, ground := Go.Ground.chain }], guard := none }) rfl (fun K9 hK9 => ?_) AllReadyH.nil
    go_simp
    go_at_call 54
    refine (min_any 65535 (y + m) Y _ (unhide hY')).mono ?_
    rintro e w9 ⟨rfl, hw0⟩
    have hw1 := hw0.symm
    subst hw1
    (try simp only [])
    refine hK9.out _ _ trivial (fun hHd => ?_)
    clear hK9 K9
    (try simp only [Act.put, List.setIfInBounds_toArray, List.set_cons_zero, List.set_cons_succ])
    refine wpAnyH_take (i := 6) (oi := { dst := some 26, op := Go.Op.fieldAddr 26 (Go.Operand.tmp 8) 1, type := 0, pos := _, after := #[{ on := 0, ground := Go.Ground.phase }, { on := 1, ground := Go.Ground.phase }, { on := 2, ground := Go.Ground.phase }, { on := 3, ground := Go.Ground.phase }, { on := 4, ground := Go.Ground.phase }, { on := 5, ground := Go.Ground.phase }], guard := none }) (v := ?_) rfl (by kernel_rfl) (by kernel_rfl) (by kernel_rfl) (fun _ _ _ h => h) (Or.inl ⟨by rfl, ?_⟩) hHd ?_
    rotate_left
    · (intro w hSw; (try dsimp only at hSw); go_simp <;> with_reducible rfl)
    (try simp only [Act.put, List.setIfInBounds_toArray, List.set_cons_zero, List.set_cons_succ])
    refine wpAnyH_ready (rs := [7]) (by kernel_rfl) (by simp) ?_
    refine AllReadyH.cons (o := { dst := none, op := Go.Op.store 2 (Go.Operand.tmp 26) (Go.Operand.tmp 25), type := 0, pos := _, after := #[{ on := 6, ground := Go.Ground.data }, { on := 5, ground := Go.Ground.data }, { on := 5, ground := Go.Ground.chain }, { on := 0, ground := Go.Ground.phase }, { on := 1, ground := Go.Ground.phase }, { on := 2, ground := Go.Ground.phase }, { on := 3, ground := Go.Ground.phase }, { on := 4, ground := Go.Ground.phase }, { on := 5, ground := Go.Ground.phase }], guard := none }) rfl (fun K9 hK9 => ?_) AllReadyH.nil
    obtain ⟨z0, z1, z2, fz0, fz1, fz2⟩ := unhide Qb
    go_simp
    refine hK9.out _ _ trivial (fun hHf => ?_)
    clear hK9 K9
    (try simp only [Act.put, List.setIfInBounds_toArray, List.set_cons_zero, List.set_cons_succ])
    refine wpAnyH_done (by kernel_rfl) ?_ _
    refine NoPanic.normal ?_
    have Ka := hide ((unhide Kb).set (k := hq) (i := 1) (v := .int .i64 Y) (by omega) hgg hwg)
    have Pa := hide ((unhide Pb).other (b := hq) (i := 1) (v := .int .i64 Y) (by omega))
    have Qa := hide ((unhide Qb).set1 Y)
    clear z0 z1 z2 fz0 fz1 fz2 q0 q1 q2 fq0 fq1 fq2 hHb hHc hHd hHf Kb Pb Qb K8 P8 Q8 K7 P7 Q7 hH0
    go_wp2_with fail
    refine (below_any w.heap.size g a len cap 1000 _ hwg (by omega) (unhide Ka).cur (unhide Ka).rd (by omega)).mono ?_
    rintro e w10 ⟨n, rfl, n0, n1, k1, g1⟩
    have K10 := hide ((unhide Ka).call hwg hgg k1 g1)
    have P10 := hide ((unhide Pa).grown g1 (by omega))
    have Q10 := hide ((unhide Qa).grown g1 (by omega))
    clear k1 g1
    go_wp2_with fail
    refine (below_any w.heap.size g a len cap 2000 _ hwg (by omega) (unhide K10).cur (unhide K10).rd (by omega)).mono ?_
    rintro e w11 ⟨f, rfl, f0, f1, k1, g1⟩
    have K11 := hide ((unhide K10).call hwg hgg k1 g1)
    have P11 := hide ((unhide P10).grown g1 (by omega))
    have Q11 := hide ((unhide Q10).grown g1 (by omega))
    clear k1 g1 K10 P10 Q10
    go_wp2_with fail
    refine (once_any w.heap.size g a len cap 16 _ hwg (by omega) (unhide K11).cur (unhide K11).rd (by omega)).mono ?_
    rintro e w12 ⟨cc, rfl, k1, g1⟩
    have K12 := hide ((unhide K11).call hwg hgg k1 g1)
    have P12 := hide ((unhide P11).grown g1 (by omega))
    have Q12 := hide ((unhide Q11).grown g1 (by omega))
    clear k1 g1 K11 P11 Q11
    cases cc
    · obtain ⟨p0, p1, p2, _, _, _⟩ := unhide P12
      obtain ⟨q0, q1, q2, _, _, _⟩ := unhide Q12
      obtain ⟨u0, u1, u2, fu0, fu1, fu2⟩ := (unhide K12).r0
      obtain ⟨v0, v1, v2, fv0, fv1, fv2⟩ := (unhide K12).r1
      have hn1 : ¬ (w.heap.size = hp) := by omega
      have hn2 : ¬ (w.heap.size = hq) := by omega
      have hn3 : ¬ (w.heap.size + 1 = hp) := by omega
      have hn4 : ¬ (w.heap.size + 1 = hq) := by omega
      have hn5 : ¬ (hp = w.heap.size) := by omega
      have hn6 : ¬ (hq = w.heap.size) := by omega
      have hn7 : ¬ (hp = w.heap.size + 1) := by omega
      have hn8 : ¬ (hq = w.heap.size + 1) := by omega
      go_wp2_with fail
      go_region_held3 (fun w' => w'.cell? ⟨hp, 0, none⟩ = some (.int .i64 x) ∧ w'.cell? ⟨hp, 1, none⟩ = some (.int .i64 y) ∧ w'.cell? ⟨hp, 2, none⟩ = some (.int .i64 z) ∧ w'.cell? ⟨hq, 0, none⟩ = some (.int .i64 x) ∧ w'.cell? ⟨hq, 1, none⟩ = some (.int .i64 Y) ∧ w'.cell? ⟨hq, 2, none⟩ = some (.int .i64 z)) (go_keep) (fail)
      all_goals go_wp2
      all_goals
        refine bodyPost_ret (v := .tuple #[ag3 x y z, ag3 x Y z, .int .i64 n, .int .i64 (n + 1 + f)]) (by simp [results, Try.results19, go_sem, u0, u1, u2, v0, v1, v2]) rfl ⟨x, y, z, x, Y, z, n, (n + 1 + f), rfl, unhide Ly, unhide Lz, unhide lY, unhide Lz, ?_⟩
        exact (((((((unhide K12).bel.setCell (by simp <;> omega) _).setCell (by simp <;> omega) _).setCell (by simp <;> omega) _).setCell (by simp <;> omega) _).setCell (by simp <;> omega) _).setCell (by simp <;> omega) _) |>.drew
    · have gq12 : hq < w12.heap.size := (unhide Q12).lt
      have gg12 : g < w12.heap.size := (unhide K12).cur.lt
      have hal : Below w12.heap.size w12 (w12.alloc (.cells #[.int .i64 (-1), .int .i64 (n + 1 + f), .int .i64 0] 2)) := (Below.refl _ _).alloc (Nat.le_refl _) _
      have K13 := hide ((unhide K12).later hal)
      have P13 := hide ((unhide P12).below hal)
      have Q13 := hide ((unhide Q12).below hal)
      clear hal K12 P12 Q12
      go_wp2_with fail
      refine (below_any w.heap.size g a len cap 3 _ hwg (by omega) (unhide K13).cur (unhide K13).rd (by omega)).mono ?_
      rintro e w14 ⟨xx, rfl, xx0, xx1, k1, g1⟩
      obtain ⟨k, rfl⟩ := Int.eq_ofNat_of_zero_le xx0
      obtain ⟨v, hcv⟩ := lit3v (w := w12) (T := 2) (a0 := -1) (a1 := n + 1 + f) (a2 := 0) (k := k) (by omega)
      have hcv2 := grown_cell g1 (by omega) hcv
      have K14 := hide ((unhide K13).call hwg hgg k1 g1)
      have P14 := hide ((unhide P13).grown g1 (by omega))
      have Q14 := hide ((unhide Q13).grown g1 (by omega))
      have gq14 : hq < w14.heap.size := (unhide Q14).lt
      have gg14 : g < w14.heap.size := (unhide K14).cur.lt
      clear k1 g1 hcv K13 P13 Q13
      have hal : Below w14.heap.size w14 (w14.alloc (.cells #[.int .i64 (n + 1 + f), .int .i64 65535, .int .i64 65536] 2)) := (Below.refl _ _).alloc (Nat.le_refl _) _
      have K15 := hide ((unhide K14).later hal)
      have P15 := hide ((unhide P14).below hal)
      have Q15 := hide ((unhide Q14).below hal)
      clear hal K14 P14 Q14
      go_wp2_with fail
      refine (below_any w.heap.size g a len cap 3 _ hwg (by omega) (unhide K15).cur (unhide K15).rd (by omega)).mono ?_
      rintro e w16 ⟨zz, rfl, zz0, zz1, k1, g1⟩
      obtain ⟨kk, rfl⟩ := Int.eq_ofNat_of_zero_le zz0
      obtain ⟨u, hcu⟩ := lit3v (w := w14) (T := 2) (a0 := n + 1 + f) (a1 := 65535) (a2 := 65536) (k := kk) (by omega)
      have hcu2 := grown_cell g1 (by omega) hcu
      have K16 := hide ((unhide K15).call hwg hgg k1 g1)
      have P16 := hide ((unhide P15).grown g1 (by omega))
      have Q16 := hide ((unhide Q15).grown g1 (by omega))
      clear k1 g1 hcu K15 P15 Q15 hcv2
      obtain ⟨p0, p1, p2, _, _, _⟩ := unhide P16
      obtain ⟨q0, q1, q2, _, _, _⟩ := unhide Q16
      obtain ⟨u0, u1, u2, fu0, fu1, fu2⟩ := (unhide K16).r0
      obtain ⟨v0, v1, v2, fv0, fv1, fv2⟩ := (unhide K16).r1
      have hn1 : ¬ (w.heap.size = hp) := by omega
      have hn2 : ¬ (w.heap.size = hq) := by omega
      have hn3 : ¬ (w.heap.size + 1 = hp) := by omega
      have hn4 : ¬ (w.heap.size + 1 = hq) := by omega
      have hn5 : ¬ (hp = w.heap.size) := by omega
      have hn6 : ¬ (hq = w.heap.size) := by omega
      have hn7 : ¬ (hp = w.heap.size + 1) := by omega
      have hn8 : ¬ (hq = w.heap.size + 1) := by omega
      go_wp2_with fail
      go_region_held3 (fun w' => w'.cell? ⟨hp, 0, none⟩ = some (.int .i64 x) ∧ w'.cell? ⟨hp, 1, none⟩ = some (.int .i64 y) ∧ w'.cell? ⟨hp, 2, none⟩ = some (.int .i64 z) ∧ w'.cell? ⟨hq, 0, none⟩ = some (.int .i64 x) ∧ w'.cell? ⟨hq, 1, none⟩ = some (.int .i64 Y) ∧ w'.cell? ⟨hq, 2, none⟩ = some (.int .i64 z)) (go_keep) (fail)
      all_goals go_wp2
      all_goals
        refine bodyPost_ret (v := .tuple #[ag3 x y z, ag3 x Y z, .int .i64 v, .int .i64 u]) (by simp [results, Try.results19, go_sem, u0, u1, u2, v0, v1, v2]) rfl ⟨x, y, z, x, Y, z, v, u, rfl, unhide Ly, unhide Lz, unhide lY, unhide Lz, ?_⟩
        exact (((((((unhide K16).bel.setCell (by simp <;> omega) _).setCell (by simp <;> omega) _).setCell (by simp <;> omega) _).setCell (by simp <;> omega) _).setCell (by simp <;> omega) _).setCell (by simp <;> omega) _) |>.drew
end Go.Proofs.Ytdmcbdogpeidjaa
