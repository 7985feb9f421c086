/-
  The map of deeds: the program's contract.
  What a line does: the program's contract.
-/
import Derived.Test.YtioaehjppiodfaaGreatDoorGBnE
namespace Go.Proofs.YtioaehjppiodfaaGreatDoor
open Go.RowKit Go.WideMaps Go.Maps
set_option linter.unusedVariables false
set_option linter.unusedSimpArgs false

theorem ent_len (n j : Nat) : (entL n j).length = j := by simp [entL]
theorem ent_ne {n j : Nat} (hj : j < 13) : ∀ e ∈ entL n j, e.1 ≠ keyL j := by
  intro e he
  obtain ⟨i, hi, rfl⟩ := List.mem_map.1 he
  have hi' := List.mem_range.1 hi
  have : ∀ j, j < 13 → ∀ i, i < j → keyL i ≠ keyL j := by decide
  exact this j hj i hi'
theorem dve_at {w : World} {q q' T G F c : Nat} (h : DVE w q T G F c) (e : q = q') : DVE w q' T G F c := e ▸ h
theorem dvp_at {w : World} {q q' F c : Nat} (h : DVP w q F c) (e : q = q') : DVP w q' F c := e ▸ h

set_option maxRecDepth 100000 in
set_option maxHeartbeats 3200000 in
theorem deeds_any (w : World) : Calls Tryz.prog 15 #[] w fun e w' => e = .returned (.map (some w.heap.size)) ∧ Mid w 13 w' := by
  have hmm := @run_makeMap Tryz.prog
  have I0 := hide (Mid.zero w)
  go_enter Tryz.func15, Tryz.ntmps15
  go_wp2_with fail
  refine (clip_made 32 _).mono ?_
  rintro e u0 ⟨rfl, s0, b0, d0⟩
  have z0 := (unhide I0).sz
  have M0 := hide ((unhide I0).dm.kept (b0.block _ (unhide I0).dm.lt))
  have D0 := hide (show DV u0 w.heap.size 0 from dve_at d0 (by rw [z0]; rfl))
  have P0 : (w.alloc (.map #[] 0)).heap.size + 1 = psL w.heap.size 0 := by rw [z0]; rfl
  have S0 := hide s0
  have B0 := hide b0
  rw [P0]
  clear s0 b0 d0 z0 P0 hmm
  go_wp2_with (refine wpList_insert _ rfl _ _ _ rfl w.heap.size (psL w.heap.size 0) (entL w.heap.size 0) (keyL 0) rfl (unhide M0) (by rw [ent_len]; omega) (by decide) rfl rfl (ent_ne (by omega)) ?_)
  intro v0 m0 g0 q0
  have I1 := hide (Mid.step (n := 3) (by omega) (unhide I0) (unhide B0) (unhide S0) rfl (unhide D0) m0 g0 q0)
  clear m0 g0 q0 I0 B0 S0 D0 M0
  go_wp2_with fail
  refine (clip_made 33 _).mono ?_
  rintro e u1 ⟨rfl, s1, b1, d1⟩
  have z1 := (unhide I1).sz
  have M1 := hide ((unhide I1).dm.kept (b1.block _ (unhide I1).dm.lt))
  have D1 := hide (show DV u1 w.heap.size 1 from dve_at d1 (by rw [z1]; rfl))
  have P1 : v0.heap.size + 1 = psL w.heap.size 1 := by rw [z1]; rfl
  have S1 := hide s1
  have B1 := hide b1
  rw [P1]
  clear s1 b1 d1 z1 P1
  go_wp2_with (refine wpList_insert _ rfl _ _ _ rfl w.heap.size (psL w.heap.size 1) (entL w.heap.size 1) (keyL 1) rfl (unhide M1) (by rw [ent_len]; omega) (by decide) rfl rfl (ent_ne (by omega)) ?_)
  intro v1 m1 g1 q1
  have I2 := hide (Mid.step (n := 3) (by omega) (unhide I1) (unhide B1) (unhide S1) rfl (unhide D1) m1 g1 q1)
  clear m1 g1 q1 I1 B1 S1 D1 M1
  go_wp2_with fail
  refine (num_made 35 _).mono ?_
  rintro e u2 ⟨rfl, s2, b2, d2⟩
  have z2 := (unhide I2).sz
  have M2 := hide ((unhide I2).dm.kept (b2.block _ (unhide I2).dm.lt))
  have D2 := hide (show DV u2 w.heap.size 2 from dve_at d2 (by rw [z2]; rfl))
  have P2 : v1.heap.size + 1 = psL w.heap.size 2 := by rw [z2]; rfl
  have S2 := hide s2
  have B2 := hide b2
  rw [P2]
  clear s2 b2 d2 z2 P2
  go_wp2_with (refine wpList_insert _ rfl _ _ _ rfl w.heap.size (psL w.heap.size 2) (entL w.heap.size 2) (keyL 2) rfl (unhide M2) (by rw [ent_len]; omega) (by decide) rfl rfl (ent_ne (by omega)) ?_)
  intro v2 m2 g2 q2
  have I3 := hide (Mid.step (n := 3) (by omega) (unhide I2) (unhide B2) (unhide S2) rfl (unhide D2) m2 g2 q2)
  clear m2 g2 q2 I2 B2 S2 D2 M2
  go_wp2_with fail
  refine (num_made 36 _).mono ?_
  rintro e u3 ⟨rfl, s3, b3, d3⟩
  have z3 := (unhide I3).sz
  have M3 := hide ((unhide I3).dm.kept (b3.block _ (unhide I3).dm.lt))
  have D3 := hide (show DV u3 w.heap.size 3 from dve_at d3 (by rw [z3]; rfl))
  have P3 : v2.heap.size + 1 = psL w.heap.size 3 := by rw [z3]; rfl
  have S3 := hide s3
  have B3 := hide b3
  rw [P3]
  clear s3 b3 d3 z3 P3
  go_wp2_with (refine wpList_insert _ rfl _ _ _ rfl w.heap.size (psL w.heap.size 3) (entL w.heap.size 3) (keyL 3) rfl (unhide M3) (by rw [ent_len]; omega) (by decide) rfl rfl (ent_ne (by omega)) ?_)
  intro v3 m3 g3 q3
  have I4 := hide (Mid.step (n := 3) (by omega) (unhide I3) (unhide B3) (unhide S3) rfl (unhide D3) m3 g3 q3)
  clear m3 g3 q3 I3 B3 S3 D3 M3
  go_wp2_with fail
  refine (num_made 37 _).mono ?_
  rintro e u4 ⟨rfl, s4, b4, d4⟩
  have z4 := (unhide I4).sz
  have M4 := hide ((unhide I4).dm.kept (b4.block _ (unhide I4).dm.lt))
  have D4 := hide (show DV u4 w.heap.size 4 from dve_at d4 (by rw [z4]; rfl))
  have P4 : v3.heap.size + 1 = psL w.heap.size 4 := by rw [z4]; rfl
  have S4 := hide s4
  have B4 := hide b4
  rw [P4]
  clear s4 b4 d4 z4 P4
  go_wp2_with (refine wpList_insert _ rfl _ _ _ rfl w.heap.size (psL w.heap.size 4) (entL w.heap.size 4) (keyL 4) rfl (unhide M4) (by rw [ent_len]; omega) (by decide) rfl rfl (ent_ne (by omega)) ?_)
  intro v4 m4 g4 q4
  have I5 := hide (Mid.step (n := 3) (by omega) (unhide I4) (unhide B4) (unhide S4) rfl (unhide D4) m4 g4 q4)
  clear m4 g4 q4 I4 B4 S4 D4 M4
  go_wp2_with fail
  refine (num_made 38 _).mono ?_
  rintro e u5 ⟨rfl, s5, b5, d5⟩
  have z5 := (unhide I5).sz
  have M5 := hide ((unhide I5).dm.kept (b5.block _ (unhide I5).dm.lt))
  have D5 := hide (show DV u5 w.heap.size 5 from dve_at d5 (by rw [z5]; rfl))
  have P5 : v4.heap.size + 1 = psL w.heap.size 5 := by rw [z5]; rfl
  have S5 := hide s5
  have B5 := hide b5
  rw [P5]
  clear s5 b5 d5 z5 P5
  go_wp2_with (refine wpList_insert _ rfl _ _ _ rfl w.heap.size (psL w.heap.size 5) (entL w.heap.size 5) (keyL 5) rfl (unhide M5) (by rw [ent_len]; omega) (by decide) rfl rfl (ent_ne (by omega)) ?_)
  intro v5 m5 g5 q5
  have I6 := hide (Mid.step (n := 3) (by omega) (unhide I5) (unhide B5) (unhide S5) rfl (unhide D5) m5 g5 q5)
  clear m5 g5 q5 I5 B5 S5 D5 M5
  go_wp2_with fail
  refine (num_made 39 _).mono ?_
  rintro e u6 ⟨rfl, s6, b6, d6⟩
  have z6 := (unhide I6).sz
  have M6 := hide ((unhide I6).dm.kept (b6.block _ (unhide I6).dm.lt))
  have D6 := hide (show DV u6 w.heap.size 6 from dve_at d6 (by rw [z6]; rfl))
  have P6 : v5.heap.size + 1 = psL w.heap.size 6 := by rw [z6]; rfl
  have S6 := hide s6
  have B6 := hide b6
  rw [P6]
  clear s6 b6 d6 z6 P6
  go_wp2_with (refine wpList_insert _ rfl _ _ _ rfl w.heap.size (psL w.heap.size 6) (entL w.heap.size 6) (keyL 6) rfl (unhide M6) (by rw [ent_len]; omega) (by decide) rfl rfl (ent_ne (by omega)) ?_)
  intro v6 m6 g6 q6
  have I7 := hide (Mid.step (n := 3) (by omega) (unhide I6) (unhide B6) (unhide S6) rfl (unhide D6) m6 g6 q6)
  clear m6 g6 q6 I6 B6 S6 D6 M6
  go_wp2_with fail
  refine (num_made 40 _).mono ?_
  rintro e u7 ⟨rfl, s7, b7, d7⟩
  have z7 := (unhide I7).sz
  have M7 := hide ((unhide I7).dm.kept (b7.block _ (unhide I7).dm.lt))
  have D7 := hide (show DV u7 w.heap.size 7 from dve_at d7 (by rw [z7]; rfl))
  have P7 : v6.heap.size + 1 = psL w.heap.size 7 := by rw [z7]; rfl
  have S7 := hide s7
  have B7 := hide b7
  rw [P7]
  clear s7 b7 d7 z7 P7
  go_wp2_with (refine wpList_insert _ rfl _ _ _ rfl w.heap.size (psL w.heap.size 7) (entL w.heap.size 7) (keyL 7) rfl (unhide M7) (by rw [ent_len]; omega) (by decide) rfl rfl (ent_ne (by omega)) ?_)
  intro v7 m7 g7 q7
  have I8 := hide (Mid.step (n := 3) (by omega) (unhide I7) (unhide B7) (unhide S7) rfl (unhide D7) m7 g7 q7)
  clear m7 g7 q7 I7 B7 S7 D7 M7
  go_wp2_with fail
  refine (plain_made 0 42 _).mono ?_
  rintro e u8 ⟨rfl, s8, b8, d8⟩
  have z8 := (unhide I8).sz
  have M8 := hide ((unhide I8).dm.kept (b8.block _ (unhide I8).dm.lt))
  have D8 := hide (show DV u8 w.heap.size 8 from dvp_at d8 (by rw [z8]; rfl))
  have P8 : v7.heap.size = psL w.heap.size 8 := by rw [z8]; rfl
  have S8 := hide s8
  have B8 := hide b8
  rw [P8]
  clear s8 b8 d8 z8 P8
  go_wp2_with (refine wpList_insert _ rfl _ _ _ rfl w.heap.size (psL w.heap.size 8) (entL w.heap.size 8) (keyL 8) rfl (unhide M8) (by rw [ent_len]; omega) (by decide) rfl rfl (ent_ne (by omega)) ?_)
  intro v8 m8 g8 q8
  have I9 := hide (Mid.step (n := 2) (by omega) (unhide I8) (unhide B8) (unhide S8) rfl (unhide D8) m8 g8 q8)
  clear m8 g8 q8 I8 B8 S8 D8 M8
  go_wp2_with fail
  refine (plain_made 1 43 _).mono ?_
  rintro e u9 ⟨rfl, s9, b9, d9⟩
  have z9 := (unhide I9).sz
  have M9 := hide ((unhide I9).dm.kept (b9.block _ (unhide I9).dm.lt))
  have D9 := hide (show DV u9 w.heap.size 9 from dvp_at d9 (by rw [z9]; rfl))
  have P9 : v8.heap.size = psL w.heap.size 9 := by rw [z9]; rfl
  have S9 := hide s9
  have B9 := hide b9
  rw [P9]
  clear s9 b9 d9 z9 P9
  go_wp2_with (refine wpList_insert _ rfl _ _ _ rfl w.heap.size (psL w.heap.size 9) (entL w.heap.size 9) (keyL 9) rfl (unhide M9) (by rw [ent_len]; omega) (by decide) rfl rfl (ent_ne (by omega)) ?_)
  intro v9 m9 g9 q9
  have I10 := hide (Mid.step (n := 2) (by omega) (unhide I9) (unhide B9) (unhide S9) rfl (unhide D9) m9 g9 q9)
  clear m9 g9 q9 I9 B9 S9 D9 M9
  go_wp2_with fail
  refine (plain_made 0 44 _).mono ?_
  rintro e u10 ⟨rfl, s10, b10, d10⟩
  have z10 := (unhide I10).sz
  have M10 := hide ((unhide I10).dm.kept (b10.block _ (unhide I10).dm.lt))
  have D10 := hide (show DV u10 w.heap.size 10 from dvp_at d10 (by rw [z10]; rfl))
  have P10 : v9.heap.size = psL w.heap.size 10 := by rw [z10]; rfl
  have S10 := hide s10
  have B10 := hide b10
  rw [P10]
  clear s10 b10 d10 z10 P10
  go_wp2_with (refine wpList_insert _ rfl _ _ _ rfl w.heap.size (psL w.heap.size 10) (entL w.heap.size 10) (keyL 10) rfl (unhide M10) (by rw [ent_len]; omega) (by decide) rfl rfl (ent_ne (by omega)) ?_)
  intro v10 m10 g10 q10
  have I11 := hide (Mid.step (n := 2) (by omega) (unhide I10) (unhide B10) (unhide S10) rfl (unhide D10) m10 g10 q10)
  clear m10 g10 q10 I10 B10 S10 D10 M10
  go_wp2_with fail
  refine (plain_made 0 45 _).mono ?_
  rintro e u11 ⟨rfl, s11, b11, d11⟩
  have z11 := (unhide I11).sz
  have M11 := hide ((unhide I11).dm.kept (b11.block _ (unhide I11).dm.lt))
  have D11 := hide (show DV u11 w.heap.size 11 from dvp_at d11 (by rw [z11]; rfl))
  have P11 : v10.heap.size = psL w.heap.size 11 := by rw [z11]; rfl
  have S11 := hide s11
  have B11 := hide b11
  rw [P11]
  clear s11 b11 d11 z11 P11
  go_wp2_with (refine wpList_insert _ rfl _ _ _ rfl w.heap.size (psL w.heap.size 11) (entL w.heap.size 11) (keyL 11) rfl (unhide M11) (by rw [ent_len]; omega) (by decide) rfl rfl (ent_ne (by omega)) ?_)
  intro v11 m11 g11 q11
  have I12 := hide (Mid.step (n := 2) (by omega) (unhide I11) (unhide B11) (unhide S11) rfl (unhide D11) m11 g11 q11)
  clear m11 g11 q11 I11 B11 S11 D11 M11
  go_wp2_with fail
  refine (plain_made 0 46 _).mono ?_
  rintro e u12 ⟨rfl, s12, b12, d12⟩
  have z12 := (unhide I12).sz
  have M12 := hide ((unhide I12).dm.kept (b12.block _ (unhide I12).dm.lt))
  have D12 := hide (show DV u12 w.heap.size 12 from dvp_at d12 (by rw [z12]; rfl))
  have P12 : v11.heap.size = psL w.heap.size 12 := by rw [z12]; rfl
  have S12 := hide s12
  have B12 := hide b12
  rw [P12]
  clear s12 b12 d12 z12 P12
  go_wp2_with (refine wpList_insert _ rfl _ _ _ rfl w.heap.size (psL w.heap.size 12) (entL w.heap.size 12) (keyL 12) rfl (unhide M12) (by rw [ent_len]; omega) (by decide) rfl rfl (ent_ne (by omega)) ?_)
  intro v12 m12 g12 q12
  have I13 := hide (Mid.step (n := 2) (by omega) (unhide I12) (unhide B12) (unhide S12) rfl (unhide D12) m12 g12 q12)
  clear m12 g12 q12 I12 B12 S12 D12 M12
  go_wp2
  go_ret
  exact ⟨rfl, unhide I13⟩
end Go.Proofs.YtioaehjppiodfaaGreatDoor

namespace Go.Proofs.YtioaehjppiodfaaGreatDoor
open Go.RowKit Go.WideMaps Go.Maps
set_option linter.unusedVariables false
set_option linter.unusedSimpArgs false

theorem code_some {X : List UInt8} {i : Nat} (h : codeOf X = some i) : i < 13 ∧ keyL i = X := by
  unfold codeOf at h
  have h1 := List.mem_of_find?_eq_some h
  have h2 := List.find?_some h
  exact ⟨List.mem_range.1 h1, by simpa using h2⟩
theorem code_none {X : List UInt8} (h : codeOf X = none) : ∀ i, i < 13 → keyL i ≠ X := by
  intro i hi e
  unfold codeOf at h
  have := List.find?_eq_none.1 h i (List.mem_range.2 hi)
  simp [e] at this
def bsL (x : List UInt8) : ByteArray := ⟨x.toArray⟩
theorem split_world (w : World) (W : List (List UInt8)) : StR (w.alloc (.cells (W.map fun x => Value.string (bsL x)).toArray 9)) (some ⟨w.heap.size, 0, none⟩) (W.map bsL) := by
  intro j x hx
  refine ⟨w.heap.size, 0, rfl, by simp, ?_⟩
  rw [List.getElem?_map] at hx
  obtain ⟨y, hy, rfl⟩ := Option.map_eq_some_iff.1 hx
  rw [World.cell?_alloc_mark]
  simp [hy]
theorem StR.tail {w : World} {h : Nat} {x : ByteArray} {xs : List ByteArray} (hs : StR w (some ⟨h, 0, none⟩) (x :: xs)) : w.cell? ⟨h, 0, none⟩ = some (.string x) ∧ StR w (some ⟨h, 1, none⟩) xs := by
  refine ⟨?_, fun j y hy => ?_⟩
  · obtain ⟨b, o, e, _, hc⟩ := hs 0 x rfl
    cases e
    exact hc
  · obtain ⟨b, o, e, hl, hc⟩ := hs (j + 1) y (by simpa using hy)
    cases e
    exact ⟨h, 1, rfl, hl, by rw [show 1 + j = 0 + (j + 1) by omega]; exact hc⟩
theorem StR.none {w : World} {a : Option Addr} : StR w a [] := fun j x h => by simp at h
/-- the look-up of a line's word -/
theorem look_any {w : World} {M : Nat} (hM : DM w M (entL M 13)) (x : List UInt8) (hx : x.length ≤ 20000) :
    ∃ v b, (Instr.lookup 42 (.map (some M)) (.string (bsL x)) true).run Tryz.prog w = .ok (.tuple #[v, .bool b]) w ∧ ((b = true ∧ ∃ i, i < 13 ∧ codeOf x = some i ∧ v = clV (psL M i)) ∨ (b = false ∧ codeOf x = none)) := by
  cases hc : codeOf x with
  | none =>
    obtain ⟨v, hv⟩ := hM.look_out hx (fun e he h2 => by
      obtain ⟨i, hi, rfl⟩ := List.mem_map.1 he
      exact code_none hc i (List.mem_range.1 hi) h2.symm)
    exact ⟨v, false, hv, .inr ⟨rfl, rfl⟩⟩
  | some i =>
    obtain ⟨hi, hk⟩ := code_some hc
    have := hM.look_in (k := x) (p := psL M i) hx (by rw [← hk]; exact List.mem_map.2 ⟨i, List.mem_range.2 hi, rfl⟩) w rfl
    exact ⟨_, true, this, .inl ⟨rfl, i, hi, rfl, rfl⟩⟩

theorem lineS_eq {X x : List UInt8} {ys : List (List UInt8)} {s : Bch} (h : wordsL X = x :: ys) : lineS X s = match codeOf x, numsOf (ys.map bsL) with | some i, some L => tellS i L s | _, _ => (.err 1, s) := by
  unfold lineS
  rw [h]
  rfl

set_option maxRecDepth 100000 in
set_option maxHeartbeats 1600000 in
theorem answer_at (N bB M : Nat) (s : Bch) (X : ByteArray) (x : List UInt8) (ys : List (List UInt8)) (q : Nat) (w : World) (hX : X.size ≤ 20000) (hW : wordsL X.data.toList = x :: ys) (hq : ys.length = q)
    (hM : DM w M (entL M 13)) (hD : ∀ i, i < 13 → DV w M i) (hB : BS N w bB s) (hn : s.2.length ≤ 300) (hG : Gv w) :
    Calls Tryz.prog 19 #[.pointer (some ⟨bB, 0, none⟩), .string X, .map (some M)] w (DeedR N bB (lineS X.data.toList s) w) := by
  obtain ⟨m, hm⟩ := hG.m
  have hcnt : Lib.countB X ⟨#[32]⟩ = q := by rw [countB_blank]; have := wordsL_len X.data.toList; rw [hW, List.length_cons, hq] at this; omega
  have hsp := Tryz.strings_Split X ⟨#[32]⟩ m w (by omega) hm (by decide)
  rw [split_cells, hcnt, hW] at hsp
  have hbA : Below w.heap.size w (w.alloc (.cells ((x :: ys).map fun x => Value.string (bsL x)).toArray 9)) := (Below.refl _ _).alloc (Nat.le_refl _) _
  have hle := words_le X.data.toList
  rw [hW] at hle
  have hxl : x.length ≤ 20000 := by have := hle x (by simp); rw [← Lib.size_eq] at this; omega
  obtain ⟨hc0, hst⟩ := (split_world w (x :: ys)).tail
  have hsp' := hide hsp
  have hyl : q ≤ 20000 := by rw [← hcnt, countB_blank]; have := List.count_le_length (a := (32 : UInt8)) (l := X.data.toList); rw [← Lib.size_eq] at this; omega
  have hyz : ∀ z ∈ ys.map bsL, z.size ≤ 20000 := by
    intro z hz
    obtain ⟨y, hy, rfl⟩ := List.mem_map.1 hz
    have := hle y (by simp [hy])
    rw [← Lib.size_eq] at this
    show y.toArray.size ≤ _
    simp; omega
  have hLine := hide (lineS_eq (s := s) hW)
  obtain ⟨W1, hW1⟩ : ∃ W1, w.alloc (.cells ((x :: ys).map fun x => Value.string (bsL x)).toArray 9) = W1 := ⟨_, rfl⟩
  have hsp3 : Hid (Calls Tryz.prog 52 #[.string X, .string ⟨#[32]⟩] w fun e w' => e = .returned (.slice (some ⟨w.heap.size, 0, none⟩) (q + 1) (q + 1)) ∧ w' = W1) := hide (by rw [← hW1]; exact hsp)
  rw [hW1] at hbA hc0 hst
  clear hsp hsp' hW1 hle
  obtain ⟨v, b, hlk, hcase⟩ := look_any (hM.kept (hbA.block _ hM.lt)) x hxl
  have hNs1 := hide (nums_any (some ⟨w.heap.size, 1, none⟩) q (ys.map bsL) W1 (by simp; omega) hyz (hG.below hbA) hst)
  have hNs0 := hide (fun (h : ys = []) (ad : Option Addr) (cp : Nat) => nums_any ad cp (ys.map bsL) W1 (by simp; omega) hyz (hG.below hbA) (by rw [h]; exact StR.none))
  have hM' := hide hM
  have hD' := hide hD
  have hB' := hide hB
  have hG' := hide hG
  have hbA' := hide hbA
  have hcase' := hide hcase
  have hyn : (ys.map bsL).length = q := by simpa using hq
  have hfin : Hid (∀ (e : Ending) (w2 : World), NsR W1 (numsOf (ys.map bsL)) e w2 → ∃ (tv : Value) (ok : Bool), e = .returned (.tuple #[tv, .bool ok]) ∧ Below w.heap.size w w2 ∧ ((ok = true ∧ b = true ∧ ∃ (i : Nat) (L : List Int) (g c : Nat), i < 13 ∧ v = clV (psL M i) ∧ tv = .slice (some ⟨g, 0, none⟩) L.length c ∧ Calls Tryz.prog 75 #[.pointer (some ⟨bB, 0, none⟩), .slice (some ⟨g, 0, none⟩) L.length c, .pointer (some ⟨psL M i, 0, none⟩), .pointer (some ⟨psL M i + 1, 0, none⟩)] w2 (DeedR N bB (lineS X.data.toList s) w)) ∨ ((ok = false ∨ b = false) ∧ lineS X.data.toList s = (.err 1, s)))) := by
    refine hide ?_
    rintro e w2 (⟨h1, rfl, b2⟩ | ⟨L, g, c, h1, rfl, hg, own, b2⟩)
    · refine ⟨_, false, rfl, laterB hbA b2, .inr ⟨.inl rfl, ?_⟩⟩
      rw [unhide hLine, h1]
      cases codeOf x <;> rfl
    · refine ⟨_, true, rfl, laterB hbA b2, ?_⟩
      rcases hcase with ⟨rfl, i, hi, hc, hv⟩ | ⟨rfl, hc⟩
      · left
        refine ⟨rfl, rfl, i, L, g, c, hi, hv, rfl, ?_⟩
        have hb2 := laterB hbA b2
        have hLn : L.length ≤ 100000 := by have := numsOf_len h1; rw [this]; simp; omega
        refine (deed_any i hi N bB M s _ c L w2 (ins_own own) hLn ((hD i hi).grown hi (fun k h1 h2 => hb2.block k h2)) (hB.below hb2) hn (hG.below hb2)).mono ?_
        rintro e w3 ⟨v3, rfl, k1, k2, k3⟩
        have hl : lineS X.data.toList s = tellS i L s := by rw [unhide hLine, hc, h1]
        rw [hl]
        exact ⟨v3, rfl, k1, k2, (Kb.of_below hb2 hB.nw).trans k3⟩
      · right
        refine ⟨.inr rfl, ?_⟩
        rw [unhide hLine, hc]
  clear hM hD hB hG hbA hcase hcase' hLine hM' hD' hst hm hcnt hyz hW hxl hG' hbA'
  cases q with
  | zero =>
    have hy0 : ys = [] := List.length_eq_zero_iff.1 hq
    subst hy0
    simp only [List.map_nil, List.length_nil] at hNs0
    go_enter Tryz.func19, Tryz.ntmps19
    go_wp2_with fail
    refine (unhide hsp3).mono ?_
    rintro e w1 ⟨rfl, rfl⟩
    clear hsp3
    go_wp2_with fail
    refine (unhide hNs0 trivial _ _).mono ?_
    intro e w2 hr
    obtain ⟨tv, ok, rfl, b2, h2⟩ := unhide hfin e w2 hr
    clear hr hfin hlk hc0 hNs0 hNs1
    rcases h2 with ⟨rfl, rfl, i, L, g, c, hi, rfl, rfl, hC⟩ | ⟨hno, hE⟩
    · have hC' := hide hC
      clear hC b2 hB'
      unfold clV
      go_wp2_with fail
      refine (unhide hC').mono ?_
      intro e w3 h3
      obtain ⟨v3, rfl, k1, k2, k3⟩ := h3
      have hf := hide (show DeedR N bB (lineS X.data.toList s) w (.returned v3) w3 from ⟨v3, rfl, k1, k2, k3⟩)
      clear k1 k2 k3 hC'
      go_wp2
      go_ret
      exact unhide hf
    · have hf := hide (show DeedR N bB (lineS X.data.toList s) w (.returned (.iface 75 (.int .i64 1))) w2 from by
        rw [hE]
        exact ⟨_, rfl, rfl, (unhide hB').below b2, Kb.of_below b2 (unhide hB').nw⟩)
      clear hE b2 hB'
      cases b with
      | false =>
        go_wp2
        go_ret
        exact unhide hf
      | true =>
        have : ok = false := by simpa using hno
        subst this
        go_wp2
        go_ret
        exact unhide hf
  | succ q =>
    rw [hyn] at hNs1
    go_enter Tryz.func19, Tryz.ntmps19
    go_wp2_with fail
    refine (unhide hsp3).mono ?_
    rintro e w1 ⟨rfl, rfl⟩
    clear hsp3
    go_wp2_with fail
    refine (unhide hNs1).mono ?_
    intro e w2 hr
    obtain ⟨tv, ok, rfl, b2, h2⟩ := unhide hfin e w2 hr
    clear hr hfin hlk hc0 hNs0 hNs1
    rcases h2 with ⟨rfl, rfl, i, L, g, c, hi, rfl, rfl, hC⟩ | ⟨hno, hE⟩
    · have hC' := hide hC
      clear hC b2 hB'
      unfold clV
      go_wp2_with fail
      refine (unhide hC').mono ?_
      intro e w3 h3
      obtain ⟨v3, rfl, k1, k2, k3⟩ := h3
      have hf := hide (show DeedR N bB (lineS X.data.toList s) w (.returned v3) w3 from ⟨v3, rfl, k1, k2, k3⟩)
      clear k1 k2 k3 hC'
      go_wp2
      go_ret
      exact unhide hf
    · have hf := hide (show DeedR N bB (lineS X.data.toList s) w (.returned (.iface 75 (.int .i64 1))) w2 from by
        rw [hE]
        exact ⟨_, rfl, rfl, (unhide hB').below b2, Kb.of_below b2 (unhide hB').nw⟩)
      clear hE b2 hB'
      cases b with
      | false =>
        go_wp2
        go_ret
        exact unhide hf
      | true =>
        have : ok = false := by simpa using hno
        subst this
        go_wp2
        go_ret
        exact unhide hf
end Go.Proofs.YtioaehjppiodfaaGreatDoor
