/-
  For every code: a cut is read back by the program from the list that it shows; a list that it reads is the one list of its cut; of a damaged list it tells the fault that the model tells.
-/
import Derived.Test.YtfhbmfndjbdhcaaGreatDoorTbM
import Derived.Test.YtfhbmfndjbdhcaaGreatDoorSmC
import Derived.Test.YtfhbmfndjbdhcaaGreatDoorRdP
import Derived.Test.YtfhbmfndjbdhcaaGreatDoorILs
import Derived.Test.YtfhbmfndjbdhcaaGreatDoorIRl
import Derived.Test.YtfhbmfndjbdhcaaGreatDoorSRl
import Derived.Laws.StructEq
namespace Go.Proofs.YtfhbmfndjbdhcaaGreatDoor
open Go.RowKit
set_option linter.unusedVariables false
set_option linter.unusedSimpArgs false
/-- what of the library's variables the law's road asks -/
structure Vs (w : World) : Prop where
  m : MaxL w
  t : Tab w
  s : Sent w
  e : ErrT w
theorem Vs.below {w w' : World} (h : Vs w) (hb : Below w.heap.size w w') : Vs w' := ⟨MaxL.below h.m hb, h.t.below hb, h.s.below hb, errT_below h.e hb⟩
theorem RdB.wide {w w1 : World} {a : Option Addr} {len : Nat} (h : RdB w w.heap.size a len) (hb : Below w.heap.size w w1) : RdB w1 w1.heap.size a len := fun j hj => by
  obtain ⟨b, o, z, e, h1, h2, h3⟩ := h.belowB hb (Nat.le_refl _) j hj
  exact ⟨b, o, z, e, Nat.lt_of_lt_of_le h1 hb.size, h2, h3⟩
/-- a fault in a box of its own -/
def F2 (w : World) (b : Nat) (x y : Int) : Prop := w.heap[b]? = some (.cells #[.int .i64 x, .int .i64 y] 31 (0, 0))
theorem F2.new (w : World) (x y : Int) : F2 (w.alloc (.cells #[.int .i64 x, .int .i64 y] 31)) w.heap.size x y := heap_alloc_new w _
theorem F2.cells {w : World} {b : Nat} {x y : Int} (h : F2 w b x y) : w.cell? ⟨b, 0, none⟩ = some (.int .i64 x) ∧ w.cell? ⟨b, 1, none⟩ = some (.int .i64 y) := by
  unfold F2 at h
  refine ⟨?_, ?_⟩ <;> simp [World.cell?, h]
theorem F2.later {w w1 : World} {b : Nat} {x y : Int} (h : F2 w b x y) (hb : Below w.heap.size w w1) : F2 w1 b x y := (hb.block b (Array.getElem?_eq_some_iff.1 h).1).trans h
theorem joinOf_yes {l : List Kl} (h : TOk l) : joinOf l = join l := if_pos h
theorem readF_bad {n d : Int} {dr : Bool} : ∀ {ls : List (List UInt8)} {tr : List Kl} {en : Int}, (readF n d dr ls tr en).2.1 ≠ 0 → (readF n d dr ls tr en).1 = []
  | [], tr, en, h => absurd rfl h
  | l :: ls, tr, en, h => by
    by_cases h0 : (lineO n d dr l tr en).1 = 0
    · rw [readF_ok h0] at h ⊢
      exact readF_bad h
    · rw [readF_no h0]
theorem rd_bad {n d : Int} {dr : Bool} {l : List UInt8} (h : (rdO n d dr l).2.1 ≠ 0) : (rdO n d dr l).1 = [] := by
  unfold rdO at *
  split
  · rfl
  · rename_i h1
    rw [if_neg h1] at h
    split
    · rfl
    · rename_i h2
      rw [if_neg h2] at h
      split
      · rfl
      · rename_i h3
        rw [if_neg h3] at h
        exact readF_bad h
set_option maxRecDepth 100000 in
set_option maxHeartbeats 12800000 in
theorem lawLb {W : World} (a : Option Addr) (len cap : Nat) (hr : RdB W W.heap.size a len) (hV : Vs W) :
    Calls Tryz.prog 3 #[.slice a len cap] W fun e w' => e = .returned (.bool true) ∧ Below W.heap.size W w' := by
  have hr' := hide hr
  have hV' := hide hV
  clear hr hV
  go_enter Tryz.func3, Tryz.ntmps3
  go_wp2_with fail
  by_cases hb : 4096 < len
  · have hbi : decide ((4096 : Int) < len) = true := by rw [decide_eq_true_iff]; omega
    refine (big_any a len cap true W hbi).mono ?_
    rintro e w0 ⟨rfl, rfl⟩
    go_wp2
    go_ret
    exact ⟨rfl, Below.refl _ _⟩
  have hbi : decide ((4096 : Int) < len) = false := by rw [decide_eq_false_iff_not]; omega
  refine (big_any a len cap false W hbi).mono ?_
  rintro e w0 ⟨rfl, hw0⟩
  have hw0' := hw0.symm
  subst hw0'
  clear hw0 hbi
  go_wp2_with fail
  refine (dsl_any a len cap (by omega) (unhide hr')).mono ?_
  rintro e w1 ⟨n, d, dr, G, M, c, T, rfl, hT, hM, kT, k1⟩
  have q1 : Below w1.heap.size w1 (w1.alloc (.cells #[.int .i64 n, .int .i64 d, .bool dr] 25)) := (Below.refl _ _).alloc (Nat.le_refl _) _
  have P3 := hide (R3.new w1 n d dr)
  have KT := hide (kT.below q1)
  have BW := hide (laterB k1 q1)
  have V2 := hide ((unhide hV').below (laterB k1 q1))
  have cS := hide (fun w' (h : Kls w' (some ⟨G, 0, none⟩) T) (v : Vs w') => ishow_any n d dr (some ⟨G, 0, none⟩) c T w' (by unfold maxLen; omega) h v.t)
  have cM := hide (fun w' (h : Kls w' (some ⟨G, 0, none⟩) T) => sshow_any n d dr (some ⟨G, 0, none⟩) c T w' (by unfold maxLen; omega) h)
  have cJ := hide (fun w' (h : Kls w' (some ⟨G, 0, none⟩) T) => ijoined_any (some ⟨G, 0, none⟩) c T w' (by unfold maxLen; omega) h)
  rw [hT] at cS cM cJ
  obtain ⟨S, hS⟩ : ∃ S, showOf n d dr T = S := ⟨_, rfl⟩
  rw [hS] at cS cM
  obtain ⟨s, hs⟩ : ∃ s : ByteArray, (⟨S.toArray⟩ : ByteArray) = s := ⟨_, rfl⟩
  have hsS : Hid (s.data.toList = S) := hide (by rw [← hs])
  have hSl : Hid (S.length ≤ 19200) := hide (by rw [← hS]; exact showOf_len _ _ _ _)
  rw [hs] at cS cM
  have hS' := hide hS
  clear kT k1 q1 hs hS hT
  go_upto_region 4 with fail
  generalize w1.alloc (.cells #[.int .i64 n, .int .i64 d, .bool dr] 25) = w2 at *
  generalize w1.heap.size = k3 at *
  clear w1
  obtain ⟨c0, c1, c2⟩ := (unhide P3).cells
  go_wp2_with fail
  refine (unhide cS _ (unhide KT) (unhide V2)).mono ?_
  rintro e w3 ⟨rfl, k⟩
  have P3x := hide ((unhide P3).later k)
  have KTx := hide ((unhide KT).below k)
  have BWx := hide (laterB (unhide BW) k)
  have V3 := hide ((unhide V2).below k)
  clear P3 KT BW V2 k c0 c1 c2
  obtain ⟨c0, c1, c2⟩ := (unhide P3x).cells
  go_wp2_with fail
  refine (unhide cM _ (unhide KTx)).mono ?_
  rintro e w4 ⟨rfl, k⟩
  have P3 := hide ((unhide P3x).later k)
  have KT := hide ((unhide KTx).below k)
  have BW := hide (laterB (unhide BWx) k)
  have V2 := hide ((unhide V3).below k)
  clear P3x KTx BWx V3 k c0 c1 c2 cS cM
  obtain ⟨c0, c1, c2⟩ := (unhide P3).cells
  have hsz : Hid (s.size = S.length) := hide (by rw [Lib.size_eq, unhide hsS])
  -- what comes behind, from any world that keeps the bytes and the variables
  have cD := hide (fun w' (h : RdB w' w'.heap.size a len) => drl_any a len cap w' (by omega) h)
  by_cases hE : s.toList = []
  · have hEe : s.toList.isEmpty = true := by rw [hE]; rfl
    go_wp2_with fail
    refine (unhide cD _ ((unhide hr').wide (unhide BW))).mono ?_
    rintro e w5 ⟨n2, d2, dr2, X, rfl, hX, k⟩
    have q5 : Below w5.heap.size w5 (w5.alloc (.cells #[.int .i64 n2, .int .i64 d2, .bool dr2] 25)) := (Below.refl _ _).alloc (Nat.le_refl _) _
    have P8 := hide (R3.new w5 n2 d2 dr2)
    have B5 := hide (laterB (laterB (unhide BW) k) q5)
    have V5 := hide ((unhide hV').below (unhide B5))
    obtain ⟨x, hx⟩ : ∃ x : ByteArray, (⟨X.toArray⟩ : ByteArray) = x := ⟨_, rfl⟩
    have hxX : x.data.toList = X := by rw [← hx]
    have hxs : Hid (x.size ≤ 20000) := hide (by rw [Lib.size_eq, hxX]; exact hX)
    obtain ⟨⟨R, cd, ln⟩, hR⟩ : ∃ r, rdO n2 d2 dr2 X = r := ⟨_, rfl⟩
    have hRl : R.length ≤ 300 := by have := rd_len (n := n2) (d := d2) (dr := dr2) (l := X); rw [hR] at this; exact this
    have cI := hide (fun w' (v : Vs w') => irdl_any n2 d2 dr2 x w' (by have := unhide hxs; unfold maxLen; omega) v.m v.t v.s v.e)
    have cK := hide (fun w' => sread_any n2 d2 dr2 x w' (by have := unhide hxs; unfold maxLen; omega))
    rw [hxX, hR] at cI cK
    have hR' := hide hR
    have hx' := hide hx
    have hxX' := hide hxX
    rw [hx]
    clear hx hxX hR k q5 BW hX
    go_upto_region 12 with fail
    generalize w5.alloc (.cells #[.int .i64 n2, .int .i64 d2, .bool dr2] 25) = w6 at *
    generalize w5.heap.size = k8 at *
    clear w5
    obtain ⟨b0, b1, b2⟩ := (unhide P8).cells
    go_wp2_with fail
    refine (unhide cI _ (unhide V5)).mono ?_
    rintro e w7 ⟨g7, c7, rfl, h7, o7, k⟩
    have q7 : Below w7.heap.size w7 (w7.alloc (.cells #[.int .i64 cd, .int .i64 ln] 31)) := (Below.refl _ _).alloc (Nat.le_refl _) _
    have P8x := hide ((unhide P8).later (k.trans (q7.mono k.size)))
    have B7 := hide (laterB (laterB (unhide B5) k) q7)
    have V7 := hide ((unhide V5).below (k.trans (q7.mono k.size)))
    have O7 := hide ((kls_own o7).below q7)
    have F7 := hide (F2.new w7 cd ln)
    clear P8 B5 V5 o7 q7 k b0 b1 b2 cI h7
    go_upto_region 13 with fail
    generalize w7.alloc (.cells #[.int .i64 cd, .int .i64 ln] 31) = w8 at *
    generalize w7.heap.size = k11 at *
    clear w7
    obtain ⟨b0, b1, b2⟩ := (unhide P8x).cells
    go_wp2_with fail
    refine (unhide cK w8).mono ?_
    rintro e w9 ⟨g9, c9, rfl, h9, o9, k⟩
    have q9 : Below w9.heap.size w9 (w9.alloc (.cells #[.int .i64 cd, .int .i64 ln] 31)) := (Below.refl _ _).alloc (Nat.le_refl _) _
    have P8 := hide ((unhide P8x).later (k.trans (q9.mono k.size)))
    have B9 := hide (laterB (laterB (unhide B7) k) q9)
    have V9 := hide ((unhide V7).below (k.trans (q9.mono k.size)))
    have O9 := hide ((unhide O7).below (k.trans (q9.mono k.size)))
    have F9 := hide ((unhide F7).later (k.trans (q9.mono k.size)))
    have H9 := hide (F2.new w9 cd ln)
    clear P8x B7 V7 O7 F7 o9 q9 k b0 b1 b2 cK h9
    go_upto_region 14 with fail
    generalize w9.alloc (.cells #[.int .i64 cd, .int .i64 ln] 31) = w10 at *
    generalize w9.heap.size = k13 at *
    clear w9
    obtain ⟨e0, e1⟩ := (unhide F9).cells
    obtain ⟨f0, f1⟩ := (unhide H9).cells
    obtain ⟨b0, b1, b2⟩ := (unhide P8).cells
    by_cases hc0 : cd = 0
    rotate_left
    · have hRn : R = [] := by have := rd_bad (n := n2) (d := d2) (dr := dr2) (l := X) (by rw [unhide hR']; exact hc0); rw [unhide hR'] at this; exact this
      have hcd : (cd != 0) = true := by simpa using hc0
      subst hRn
      go_wp2
      go_ret
      exact ⟨rfl, unhide B9⟩
    subst hc0
    have hone := list_one (n := n2) (d := d2) (dr := dr2) (l := X) (unhide hR')
    have c6 := hide (ishow_any n2 d2 dr2 (some ⟨g7, 0, none⟩) c7 R w10 (by unfold maxLen; omega) (unhide O9) (unhide V9).t)
    rw [hone, unhide hx'] at c6
    clear hone
    go_wp2_with fail
    refine (unhide c6).mono ?_
    rintro e w11 ⟨rfl, k⟩
    have B11 := hide (laterB (unhide B9) k)
    clear k B9
    go_wp2
    go_ret
    exact ⟨rfl, unhide B11⟩
  have hEe : s.toList.isEmpty = false := by
    cases h : s.toList with
    | nil => exact absurd h hE
    | cons _ _ => rfl
  have hSz : (s.size : Int) ≤ 20000 := by have := unhide hsz; have := unhide hSl; omega
  have hne : S ≠ [] := by
    intro h
    apply hE
    have := unhide hsS
    rw [h] at this
    rw [Lib.toList_data]
    exact this
  obtain ⟨hTT, hbk⟩ := list_back (n := n) (d := d) (dr := dr) (c := T) (by rw [unhide hS']; exact hne) (by rw [unhide hS']; have := unhide hSl; omega)
  rw [unhide hS'] at hbk
  have cR := hide (fun w' (v : Vs w') => irdl_any n d dr s w' (by have := unhide hsz; have := unhide hSl; unfold maxLen; omega) v.m v.t v.s v.e)
  rw [unhide hsS, hbk] at cR
  have hJo : Hid (joinOf T = join T) := hide (joinOf_yes hTT)
  have hJl : Hid ((join T).length ≤ 300) := hide (by rw [← joinOf_yes hTT]; exact joinOf_len _)
  clear hbk hne hTT
  have hE' := hide hE
  clear hE
  go_wp2_with fail
  refine (unhide cR _ (unhide V2)).mono ?_
  rintro e w5 ⟨g5, c5, rfl, h5, o5, k⟩
  have q5 : Below w5.heap.size w5 (w5.alloc (.cells #[.int .i64 0, .int .i64 0] 31)) := (Below.refl _ _).alloc (Nat.le_refl _) _
  have KTx := hide ((unhide KT).below (k.trans (q5.mono k.size)))
  have BWx := hide (laterB (laterB (unhide BW) k) q5)
  have O5 := hide ((kls_own o5).below q5)
  have F5 := hide (F2.new w5 0 0)
  clear P3 KT BW V2 o5 q5 k c0 c1 c2 cR h5
  go_upto_region 9 with fail
  generalize w5.alloc (.cells #[.int .i64 0, .int .i64 0] 31) = w6 at *
  generalize w5.heap.size = k7 at *
  clear w5
  obtain ⟨e0, e1⟩ := (unhide F5).cells
  go_wp2_with fail
  refine (unhide cJ _ (unhide KTx)).mono ?_
  rintro e w7 ⟨g7, c7, rfl, h7, o7, k⟩
  rw [unhide hJo] at o7 ⊢
  have BW := hide (laterB (unhide BWx) k)
  have O7 := hide (kls_own o7)
  have O5x := hide ((unhide O5).below k)
  have cE := hide (sames_any (some ⟨g5, 0, none⟩) (some ⟨g7, 0, none⟩) c5 c7 (join T) w7 (by have := unhide hJl; omega) (unhide O5x) (unhide O7))
  clear BWx O5 o7 h7 k F5 e0 e1 KTx
  obtain ⟨Jn, hJn⟩ : ∃ Jn, (join T).length = Jn := ⟨_, rfl⟩
  rw [hJn] at cE ⊢
  clear hJn
  go_wp2_with fail
  refine (unhide cE).mono ?_
  rintro e w8 ⟨rfl, k⟩
  have BWx := hide (laterB (unhide BW) k)
  clear BW k cE O7 O5x
  have BW := BWx
  clear BWx
  go_wp2_with fail
  refine (unhide cD _ ((unhide hr').wide (unhide BW))).mono ?_
  rintro e w5 ⟨n2, d2, dr2, X, rfl, hX, k⟩
  have q5 : Below w5.heap.size w5 (w5.alloc (.cells #[.int .i64 n2, .int .i64 d2, .bool dr2] 25)) := (Below.refl _ _).alloc (Nat.le_refl _) _
  have P8 := hide (R3.new w5 n2 d2 dr2)
  have B5 := hide (laterB (laterB (unhide BW) k) q5)
  have V5 := hide ((unhide hV').below (unhide B5))
  obtain ⟨x, hx⟩ : ∃ x : ByteArray, (⟨X.toArray⟩ : ByteArray) = x := ⟨_, rfl⟩
  have hxX : x.data.toList = X := by rw [← hx]
  have hxs : Hid (x.size ≤ 20000) := hide (by rw [Lib.size_eq, hxX]; exact hX)
  obtain ⟨⟨R, cd, ln⟩, hR⟩ : ∃ r, rdO n2 d2 dr2 X = r := ⟨_, rfl⟩
  have hRl : R.length ≤ 300 := by have := rd_len (n := n2) (d := d2) (dr := dr2) (l := X); rw [hR] at this; exact this
  have cI := hide (fun w' (v : Vs w') => irdl_any n2 d2 dr2 x w' (by have := unhide hxs; unfold maxLen; omega) v.m v.t v.s v.e)
  have cK := hide (fun w' => sread_any n2 d2 dr2 x w' (by have := unhide hxs; unfold maxLen; omega))
  rw [hxX, hR] at cI cK
  have hR' := hide hR
  have hx' := hide hx
  have hxX' := hide hxX
  rw [hx]
  clear hx hxX hR k q5 BW hX
  go_upto_region 12 with fail
  generalize w5.alloc (.cells #[.int .i64 n2, .int .i64 d2, .bool dr2] 25) = w6 at *
  generalize w5.heap.size = k8 at *
  clear w5
  obtain ⟨b0, b1, b2⟩ := (unhide P8).cells
  go_wp2_with fail
  refine (unhide cI _ (unhide V5)).mono ?_
  rintro e w7 ⟨g7, c7, rfl, h7, o7, k⟩
  have q7 : Below w7.heap.size w7 (w7.alloc (.cells #[.int .i64 cd, .int .i64 ln] 31)) := (Below.refl _ _).alloc (Nat.le_refl _) _
  have P8x := hide ((unhide P8).later (k.trans (q7.mono k.size)))
  have B7 := hide (laterB (laterB (unhide B5) k) q7)
  have V7 := hide ((unhide V5).below (k.trans (q7.mono k.size)))
  have O7 := hide ((kls_own o7).below q7)
  have F7 := hide (F2.new w7 cd ln)
  clear P8 B5 V5 o7 q7 k b0 b1 b2 cI h7
  go_upto_region 13 with fail
  generalize w7.alloc (.cells #[.int .i64 cd, .int .i64 ln] 31) = w8 at *
  generalize w7.heap.size = k11 at *
  clear w7
  obtain ⟨b0, b1, b2⟩ := (unhide P8x).cells
  go_wp2_with fail
  refine (unhide cK w8).mono ?_
  rintro e w9 ⟨g9, c9, rfl, h9, o9, k⟩
  have q9 : Below w9.heap.size w9 (w9.alloc (.cells #[.int .i64 cd, .int .i64 ln] 31)) := (Below.refl _ _).alloc (Nat.le_refl _) _
  have P8 := hide ((unhide P8x).later (k.trans (q9.mono k.size)))
  have B9 := hide (laterB (laterB (unhide B7) k) q9)
  have V9 := hide ((unhide V7).below (k.trans (q9.mono k.size)))
  have O9 := hide ((unhide O7).below (k.trans (q9.mono k.size)))
  have F9 := hide ((unhide F7).later (k.trans (q9.mono k.size)))
  have H9 := hide (F2.new w9 cd ln)
  clear P8x B7 V7 O7 F7 o9 q9 k b0 b1 b2 cK h9
  go_upto_region 14 with fail
  generalize w9.alloc (.cells #[.int .i64 cd, .int .i64 ln] 31) = w10 at *
  generalize w9.heap.size = k13 at *
  clear w9
  obtain ⟨e0, e1⟩ := (unhide F9).cells
  obtain ⟨f0, f1⟩ := (unhide H9).cells
  obtain ⟨b0, b1, b2⟩ := (unhide P8).cells
  by_cases hc0 : cd = 0
  rotate_left
  · have hRn : R = [] := by have := rd_bad (n := n2) (d := d2) (dr := dr2) (l := X) (by rw [unhide hR']; exact hc0); rw [unhide hR'] at this; exact this
    have hcd : (cd != 0) = true := by simpa using hc0
    subst hRn
    go_wp2
    go_ret
    exact ⟨rfl, unhide B9⟩
  subst hc0
  have hone := list_one (n := n2) (d := d2) (dr := dr2) (l := X) (unhide hR')
  have c6 := hide (ishow_any n2 d2 dr2 (some ⟨g7, 0, none⟩) c7 R w10 (by unfold maxLen; omega) (unhide O9) (unhide V9).t)
  rw [hone, unhide hx'] at c6
  clear hone
  go_wp2_with fail
  refine (unhide c6).mono ?_
  rintro e w11 ⟨rfl, k⟩
  have B11 := hide (laterB (unhide B9) k)
  clear k B9
  go_wp2
  go_ret
  exact ⟨rfl, unhide B11⟩

end Go.Proofs.YtfhbmfndjbdhcaaGreatDoor
