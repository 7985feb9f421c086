/-
  For every list of bytes: of the reels that are drawn of them what is missing is what is needed and not had, and no frame is both; no conditions.
-/
import Derived.Test.YtfbifffmieimoaaDrR
import Derived.Test.YtfbifffmieimoaaLawMis
namespace Go.Proofs.Ytfbifffmieimoaa.Rl
open Go.RowKit
open Go.Proofs.Ytfbifffmieimoaa
set_option linter.unusedVariables false
set_option linter.unusedSimpArgs false

def inB (l : List Kl) (s f : Int) : Bool := l.any fun r => decide (r.1 = s) && decide (r.2.1 ≤ f) && decide (f < r.2.2)
theorem inB_iff (l : List Kl) (s f : Int) : inB l s f = true ↔ inR l s f := by
  simp [inB, inR, and_assoc]
theorem inB_snoc {l : List Kl} {k : Nat} {x : Kl} (h : l[k]? = some x) (s f : Int) : inB (l.take (k + 1)) s f = (inB (l.take k) s f || (decide (x.1 = s) && decide (x.2.1 ≤ f) && decide (f < x.2.2))) := by
  rw [take_snocK h]; simp [inB]
theorem mis_bool (A B : List Kl) (s f : Int) : (inB (missOf A B) s f = true → inB A s f = true ∧ inB B s f = false) ∧ (inB (missOf A B) s f = false → inB A s f = true → inB B s f = false → (missOf A B).length = 0) := by
  by_cases h : RsOk A ∧ RsOk B
  · have e : missOf A B = missing A B := by unfold missOf; rw [if_pos h]
    obtain ⟨_, m2⟩ := missing_td h.1.pos h.2.pos
    rw [e]
    constructor
    · intro hz
      have := (m2 s f).1 ((inB_iff _ _ _).1 hz)
      exact ⟨(inB_iff _ _ _).2 this.1, by rw [← Bool.not_eq_true]; exact fun hx => this.2 ((inB_iff _ _ _).1 hx)⟩
    · intro hz hx hy
      exfalso
      have : inR (missing A B) s f := (m2 s f).2 ⟨(inB_iff _ _ _).1 hx, fun hq => by rw [(inB_iff _ _ _).2 hq] at hy; cases hy⟩
      rw [(inB_iff _ _ _).2 this] at hz; cases hz
  · have e : missOf A B = [] := by unfold missOf; rw [if_neg h]
    rw [e]
    exact ⟨fun hz => by simp [inB] at hz, fun _ _ _ => rfl⟩

set_option maxHeartbeats 1600000 in
theorem dmis_any (a : Option Addr) (len cap : Nat) (w : World) (hl : len ≤ 4096) (hr : RdB w w.heap.size a len) :
    Calls Try.prog 15 #[.slice a len cap] w fun e w' => ∃ r1 c1 L1 r2 c2 L2, e = .returned (.tuple #[.slice (some ⟨r1, 0, none⟩) (List.length L1) c1, .slice (some ⟨r2, 0, none⟩) (List.length L2) c2]) ∧ L1.length ≤ 400 ∧ L2.length ≤ 800 ∧ Own w' w.heap.size r1 L1.length c1 L1 ∧ Own w' w.heap.size r2 L2.length c2 L2 ∧ Below w.heap.size w w' := by
  have hl' : len ≤ 9223372036854775807 := by omega
  have hr' := hide hr
  clear hr
  go_enter Try.func15, Try.ntmps15
  go_wp2_with fail
  refine (new_any a len cap _ hl' (by omega) (unhide hr')).mono ?_
  rintro e w1 ⟨g, rfl, hg0, hcur, hb1⟩
  have r1 : RdB w1 w.heap.size a len := by
    intro j hj
    obtain ⟨b, o, z, e, hb, hc, h0, h1⟩ := unhide hr' j hj
    exact ⟨b, o, z, e, hb, ((bcell hb1).1 _ _ hb).trans hc, h0, h1⟩
  have D1 := hide (show DS w1 w.heap.size g a len cap w1 from ⟨hcur, r1, World.grownBy.refl _ _⟩)
  have H1 := hide hb1
  have hw1 := hb1.size
  clear hcur r1 hb1
  go_wp2_with fail
  refine (drr_any w.heap.size g a len cap _ hg0 hl' (unhide D1).cur (unhide D1).rd).mono ?_
  rintro e w2 ⟨r1, c1, n1, rfl, hn1, T1⟩
  obtain ⟨L1, hL1, o1⟩ := T1.own
  have hgl := (unhide D1).cur.lt
  have o1' := hide (own_mono o1 hw1)
  have h12 := own_lt o1
  have h11 := own_ge o1
  have D2 := hide (show DS w2 w.heap.size g a len cap w2 from ⟨T1.ds.cur, T1.ds.rd, World.grownBy.refl _ _⟩)
  have H2 := hide (below_grown (unhide H1) T1.ds.gr hg0)
  have hw2 := (unhide H2).size
  clear T1 D1 H1 o1
  go_wp2_with fail
  refine (drr_any w.heap.size g a len cap _ hg0 hl' (unhide D2).cur (unhide D2).rd).mono ?_
  rintro e w3 ⟨r2, c2, n2, rfl, hn2, T2⟩
  obtain ⟨L2, hL2, o2⟩ := T2.own
  have o2' := hide (own_mono o2 hw2)
  have h22 := own_ge o2
  have o1' := hide (own_kept (unhide o1') T2.ds.gr (by omega))
  have D3 := hide (show DS w3 w.heap.size g a len cap w3 from ⟨T2.ds.cur, T2.ds.rd, World.grownBy.refl _ _⟩)
  have H3 := hide (below_grown (unhide H2) T2.ds.gr hg0)
  have hg3 := T2.ds.cur.lt
  clear T2 D2 H2 o2
  go_wp2_with fail
  refine (once_any w.heap.size g a len cap 4 _ hg0 hl' (unhide D3).cur (unhide D3).rd (by omega)).mono ?_
  rintro e w4 ⟨v, rfl, hcu, hgr⟩
  have o1' := hide (own_kept (unhide o1') hgr (by omega))
  have o2' := hide (own_kept (unhide o2') hgr (by omega))
  have H4 := hide (below_grown (unhide H3) hgr hg0)
  have hw4 := (unhide H4).size
  clear hcu hgr D3 H3
  have hL1' := hide hL1
  have hL2' := hide hL2
  cases v with
  | false =>
    go_wp2
    go_ret2
    refine ⟨r1, c1, L1, r2, c2, L2, ?_, by omega, by omega, ?_, ?_, unhide H4⟩
    · rw [hL1, hL2]; rfl
    · rw [hL1]; exact unhide o1'
    · rw [hL2]; exact unhide o2'
  | true =>
    have hK1 := hide (show Kls w4 (some ⟨r1, 0, none⟩) L1 from kls_own (unhide o1'))
    subst hL1
    go_wp2_with (at_builtin; refine wpList_appR Try.underlying27 w4 rfl _ _ rfl w.heap.size r2 n2 c2 L2 L1 r1 0 c1 rfl (unhide o2') rfl (unhide hK1) (by omega) (by omega) hw4 ?_)
    intro g7 c7 w7 hO7 hG7 hgo
    have o1' := hide (own_kept (unhide o1') hG7 (by omega))
    have H7 := hide (below_grown (unhide H4) hG7 (by omega))
    have o7 := hide hO7
    clear hO7 hG7 hgo
    go_wp2
    go_ret2
    refine ⟨r1, c1, L1, g7, c7, L2 ++ L1, ?_, by omega, by simp; omega, unhide o1', ?_, unhide H7⟩
    · rw [List.length_append, hL2]; rfl
    · rw [List.length_append, hL2]; exact unhide o7

set_option maxRecDepth 100000 in
set_option maxHeartbeats 12800000 in
theorem lawFM {W : World} (a : Option Addr) (len cap : Nat) (hr : RdB W W.heap.size a len) :
    Calls Try.prog 4 #[.slice a len cap] W fun e w' => e = .returned (.bool true) ∧ Below W.heap.size W w' := by
  have hr' := hide hr
  clear hr
  by_cases hbig : (4096 : Int) < len
  · have hbd : decide ((4096 : Int) < len) = true := by simpa using hbig
    go_enter Try.func4, Try.ntmps4
    go_wp2_with fail
    refine (big_any a len cap true _ hbd).mono ?_
    rintro e w1 ⟨rfl, rfl⟩
    go_wp2
    go_ret
    exact ⟨rfl, Below.refl _ _⟩
  have hbd : decide ((4096 : Int) < len) = false := by simpa using hbig
  go_enter Try.func4, Try.ntmps4
  go_wp2_with fail
  refine (big_any a len cap false _ hbd).mono ?_
  rintro e w0 ⟨rfl, hw0⟩
  have hw1 := hw0.symm
  subst hw1
  go_wp2_with fail
  refine (dmis_any a len cap W (by omega) (unhide hr')).mono ?_
  rintro e w1 ⟨r1, c1, L1, r2, c2, L2, rfl, b1, b2, o1, o2, H1⟩
  have o1 := hide o1
  have o2 := hide o2
  have H1 := hide H1
  have m1 : L1.length ≤ maxLen := by unfold maxLen; omega
  have m2 : L2.length ≤ maxLen := by unfold maxLen; omega
  go_wp2_with fail
  refine (imiss_any (some ⟨r1, 0, none⟩) (some ⟨r2, 0, none⟩) c1 c2 L1 L2 _ m1 m2 (kls_own (unhide o1)) (kls_own (unhide o2))).mono ?_
  rintro e w2 ⟨r3, c3, rfl, o3, k2⟩
  have o1 := hide (ownsRow_below (unhide o1) k2)
  have o2 := hide (ownsRow_below (unhide o2) k2)
  have o3 := hide (own_mono o3 (unhide H1).size)
  have H2 := hide (laterB (unhide H1) k2)
  clear k2 H1
  go_wp2_with fail
  refine (smiss_any (some ⟨r1, 0, none⟩) (some ⟨r2, 0, none⟩) c1 c2 L1 L2 _ m1 m2 (kls_own (unhide o1)) (kls_own (unhide o2))).mono ?_
  rintro e w3 ⟨r4, c4, rfl, o4, k3⟩
  have o1 := hide (ownsRow_below (unhide o1) k3)
  have o2 := hide (ownsRow_below (unhide o2) k3)
  have o3 := hide (ownsRow_below (unhide o3) k3)
  have o4 := hide o4
  have H3 := hide (laterB (unhide H2) k3)
  have hml := missOf_len L1 L2
  clear k3 H2
  go_wp2_with fail
  refine (sames_any _ _ _ _ (missOf L1 L2) _ (by omega) (kls_own (unhide o3)) (kls_own (unhide o4))).mono ?_
  rintro e w4 ⟨rfl, k4⟩
  have o1 := hide (ownsRow_below (unhide o1) k4)
  have o2 := hide (ownsRow_below (unhide o2) k4)
  have o3 := hide (ownsRow_below (unhide o3) k4)
  have H4 := hide (laterB (unhide H3) k4)
  clear k4 H3 o4
  go_wp2_with fail
  refine (icov_any (some ⟨r1, 0, none⟩) (some ⟨r2, 0, none⟩) c1 c2 L1 L2 _ m1 m2 (kls_own (unhide o1)) (kls_own (unhide o2))).mono ?_
  rintro e w5 ⟨rfl, k5⟩
  have o1 := hide (ownsRow_below (unhide o1) k5)
  have o2 := hide (ownsRow_below (unhide o2) k5)
  have o3 := hide (ownsRow_below (unhide o3) k5)
  have H5 := hide (laterB (unhide H4) k5)
  clear k5 H4
  go_wp2_with fail
  refine (scov_any (some ⟨r1, 0, none⟩) (some ⟨r2, 0, none⟩) c1 c2 L1 L2 _ m1 m2 (kls_own (unhide o1)) (kls_own (unhide o2))).mono ?_
  rintro e w6 ⟨rfl, k6⟩
  have o1 := hide (ownsRow_below (unhide o1) k6)
  have o2 := hide (ownsRow_below (unhide o2) k6)
  have o3 := hide (ownsRow_below (unhide o3) k6)
  have H6 := hide (laterB (unhide H5) k6)
  clear k6 H5
  obtain ⟨V, hV⟩ : ∃ V, V = covOf L1 L2 := ⟨_, rfl⟩
  rw [← hV]
  have e1 : (V != V) = false := by simp
  clear hV
  have hbool0 := hide (mis_bool L1 L2)
  obtain ⟨L3, hL3⟩ : ∃ L3, L3 = missOf L1 L2 := ⟨_, rfl⟩
  rw [← hL3] at hbool0 hml o3 ⊢
  clear hL3
  obtain ⟨N1, hN1⟩ : ∃ N1, L1.length = N1 := ⟨_, rfl⟩
  obtain ⟨N2, hN2⟩ : ∃ N2, L2.length = N2 := ⟨_, rfl⟩
  obtain ⟨N3, hN3⟩ : ∃ N3, L3.length = N3 := ⟨_, rfl⟩
  rw [hN1] at b1 o1 m1 ⊢
  rw [hN2] at b2 o2 m2 ⊢
  rw [hN3] at hml o3 ⊢
  have hbool : Hid (∀ s f, (inB L3 s f = true → inB L1 s f = true ∧ inB L2 s f = false) ∧ (inB L3 s f = false → inB L1 s f = true → inB L2 s f = false → N3 = 0)) := hide (fun s f => by rw [← hN3]; exact unhide hbool0 s f)
  have hN1 := hide hN1
  have hN2 := hide hN2
  have hN3 := hide hN3
  clear hbool0 m1 m2
  by_cases hsum : (100 : Int) < (N1 : Int) + (N2 : Int)
  · have hsd : decide ((100 : Int) < (N1 : Int) + (N2 : Int)) = true := by simpa using hsum
    go_wp2
    go_ret
    exact ⟨rfl, unhide H6⟩
  have hsd : decide ((100 : Int) < (N1 : Int) + (N2 : Int)) = false := by simpa using hsum
  clear hsum
  go_wp2
  go_loop [6] (fun t => ∃ sc : Int, t = .int .i64 sc ∧ 1 ≤ sc ∧ sc ≤ 4) (fun t => 5 - (intOf t).toNat)
  case atStart => exact ⟨1, rfl, by omega, by omega⟩
  case round =>
    obtain ⟨sc, rfl, s0, s1⟩ := hrel
    by_cases hs : sc ≤ 3
    · have hsc : decide (sc ≤ 3) = true := by simpa using hs
      go_wp2
      go_loop [7] (fun t => ∃ f : Int, t = .int .i64 f ∧ 0 ≤ f ∧ f ≤ 80) (fun t => 81 - (intOf t).toNat)
      case atStart => exact ⟨0, rfl, by omega, by omega⟩
      case round =>
        obtain ⟨f, rfl, f0, f1⟩ := hrel
        by_cases hf : f < 80
        · have hfd : decide (f < 80) = true := by simpa using hf
          go_wp2
          go_loop [8, 9] (fun s t => ∃ k : Nat, k ≤ N1 ∧ t = .int .i64 k ∧ s = .bool (inB (L1.take k) sc f)) (fun _ t => N1 - (intOf t).toNat)
          case atStart => exact ⟨0, by omega, rfl, rfl⟩
          case round =>
            obtain ⟨k, hk, rfl, rfl⟩ := hrel
            by_cases hlt : k < N1
            · obtain ⟨y, hy⟩ : ∃ y, L1[k]? = some y := ⟨L1[k]'(by rw [unhide hN1]; exact hlt), List.getElem?_eq_getElem _⟩
              obtain ⟨c0, c1, c2⟩ := own_cells hy (unhide o1)
              obtain ⟨y1, y2, y3⟩ := y
              have hsn := hide (inB_snoc hy sc f)
              clear hy
              obtain ⟨v, hv⟩ : ∃ v, inB (L1.take k) sc f = v := ⟨_, rfl⟩
              rw [hv] at hsn ⊢
              clear hv
              cases v with
              | true =>
                go_wp2
                go_round
                case rel => exact ⟨k + 1, by omega, by go_num, by rw [unhide hsn]; rfl⟩
                case measure => simp [intOf]; omega
              | false =>
                by_cases h1 : y1 = sc
                · have b1 : (y1 == sc) = true := by simp [h1]
                  have b1' : decide (y1 = sc) = true := by simp [h1]
                  by_cases h2 : y2 ≤ f
                  · have b2 : decide (y2 ≤ f) = true := by simpa using h2
                    obtain ⟨u, hu⟩ : ∃ u, decide (f < y3) = u := ⟨_, rfl⟩
                    have hs2 : Hid (inB (L1.take (k + 1)) sc f = u) := hide (by rw [unhide hsn]; simp only [b1', b2, hu]; rfl)
                    have h1' := hide h1
                    clear h1 h2 hsn
                    go_wp2
                    go_round
                    case rel => exact ⟨k + 1, by omega, by go_num, by rw [unhide hs2]⟩
                    case measure => simp [intOf]; omega
                  · have b2 : decide (y2 ≤ f) = false := by simpa using h2
                    have hs2 : Hid (inB (L1.take (k + 1)) sc f = false) := hide (by rw [unhide hsn]; simp only [b1', b2]; rfl)
                    have h1' := hide h1
                    clear h1 h2 hsn
                    go_wp2
                    go_round
                    case rel => exact ⟨k + 1, by omega, by go_num, by rw [unhide hs2]⟩
                    case measure => simp [intOf]; omega
                · have b1 : (y1 == sc) = false := by simp [h1]
                  have b1' : decide (y1 = sc) = false := by simp [h1]
                  have hs2 : Hid (inB (L1.take (k + 1)) sc f = false) := hide (by rw [unhide hsn]; simp only [b1']; rfl)
                  clear h1 hsn
                  go_wp2
                  go_round
                  case rel => exact ⟨k + 1, by omega, by go_num, by rw [unhide hs2]⟩
                  case measure => simp [intOf]; omega
            · have hke : k = N1 := by omega
              have hXx : inB (L1.take k) sc f = inB L1 sc f := by rw [hke, ← unhide hN1, List.take_length]
              rw [hXx]
              obtain ⟨vx, hvx⟩ : ∃ v, inB L1 sc f = v := ⟨_, rfl⟩
              rw [hvx]
              have hvx' := hide hvx
              have hkex := hide hke
              clear hXx hvx hke
              go_wp2
              go_loop [10, 11] (fun s t => ∃ k : Nat, k ≤ N2 ∧ t = .int .i64 k ∧ s = .bool (inB (L2.take k) sc f)) (fun _ t => N2 - (intOf t).toNat)
              case atStart => exact ⟨0, by omega, rfl, rfl⟩
              case round =>
                obtain ⟨k, hk, rfl, rfl⟩ := hrel
                by_cases hlt : k < N2
                · obtain ⟨y, hy⟩ : ∃ y, L2[k]? = some y := ⟨L2[k]'(by rw [unhide hN2]; exact hlt), List.getElem?_eq_getElem _⟩
                  obtain ⟨c0, c1, c2⟩ := own_cells hy (unhide o2)
                  obtain ⟨y1, y2, y3⟩ := y
                  have hsn := hide (inB_snoc hy sc f)
                  clear hy
                  obtain ⟨v, hv⟩ : ∃ v, inB (L2.take k) sc f = v := ⟨_, rfl⟩
                  rw [hv] at hsn ⊢
                  clear hv
                  cases v with
                  | true =>
                    go_wp2
                    go_round
                    case rel => exact ⟨k + 1, by omega, by go_num, by rw [unhide hsn]; rfl⟩
                    case measure => simp [intOf]; omega
                  | false =>
                    by_cases h1 : y1 = sc
                    · have b1 : (y1 == sc) = true := by simp [h1]
                      have b1' : decide (y1 = sc) = true := by simp [h1]
                      by_cases h2 : y2 ≤ f
                      · have b2 : decide (y2 ≤ f) = true := by simpa using h2
                        obtain ⟨u, hu⟩ : ∃ u, decide (f < y3) = u := ⟨_, rfl⟩
                        have hs2 : Hid (inB (L2.take (k + 1)) sc f = u) := hide (by rw [unhide hsn]; simp only [b1', b2, hu]; rfl)
                        have h1' := hide h1
                        clear h1 h2 hsn
                        go_wp2
                        go_round
                        case rel => exact ⟨k + 1, by omega, by go_num, by rw [unhide hs2]⟩
                        case measure => simp [intOf]; omega
                      · have b2 : decide (y2 ≤ f) = false := by simpa using h2
                        have hs2 : Hid (inB (L2.take (k + 1)) sc f = false) := hide (by rw [unhide hsn]; simp only [b1', b2]; rfl)
                        have h1' := hide h1
                        clear h1 h2 hsn
                        go_wp2
                        go_round
                        case rel => exact ⟨k + 1, by omega, by go_num, by rw [unhide hs2]⟩
                        case measure => simp [intOf]; omega
                    · have b1 : (y1 == sc) = false := by simp [h1]
                      have b1' : decide (y1 = sc) = false := by simp [h1]
                      have hs2 : Hid (inB (L2.take (k + 1)) sc f = false) := hide (by rw [unhide hsn]; simp only [b1']; rfl)
                      clear h1 hsn
                      go_wp2
                      go_round
                      case rel => exact ⟨k + 1, by omega, by go_num, by rw [unhide hs2]⟩
                      case measure => simp [intOf]; omega
                · have hke : k = N2 := by omega
                  have hXy : inB (L2.take k) sc f = inB L2 sc f := by rw [hke, ← unhide hN2, List.take_length]
                  rw [hXy]
                  obtain ⟨vy, hvy⟩ : ∃ v, inB L2 sc f = v := ⟨_, rfl⟩
                  rw [hvy]
                  have hvy' := hide hvy
                  have hkey := hide hke
                  clear hXy hvy hke
                  go_wp2
                  go_loop [12, 13] (fun s t => ∃ k : Nat, k ≤ N3 ∧ t = .int .i64 k ∧ s = .bool (inB (L3.take k) sc f)) (fun _ t => N3 - (intOf t).toNat)
                  case atStart => exact ⟨0, by omega, rfl, rfl⟩
                  case round =>
                    obtain ⟨k, hk, rfl, rfl⟩ := hrel
                    by_cases hlt : k < N3
                    · obtain ⟨y, hy⟩ : ∃ y, L3[k]? = some y := ⟨L3[k]'(by rw [unhide hN3]; exact hlt), List.getElem?_eq_getElem _⟩
                      obtain ⟨c0, c1, c2⟩ := own_cells hy (unhide o3)
                      obtain ⟨y1, y2, y3⟩ := y
                      have hsn := hide (inB_snoc hy sc f)
                      clear hy
                      obtain ⟨v, hv⟩ : ∃ v, inB (L3.take k) sc f = v := ⟨_, rfl⟩
                      rw [hv] at hsn ⊢
                      clear hv
                      cases v with
                      | true =>
                        go_wp2
                        go_round
                        case rel => exact ⟨k + 1, by omega, by go_num, by rw [unhide hsn]; rfl⟩
                        case measure => simp [intOf]; omega
                      | false =>
                        by_cases h1 : y1 = sc
                        · have b1 : (y1 == sc) = true := by simp [h1]
                          have b1' : decide (y1 = sc) = true := by simp [h1]
                          by_cases h2 : y2 ≤ f
                          · have b2 : decide (y2 ≤ f) = true := by simpa using h2
                            obtain ⟨u, hu⟩ : ∃ u, decide (f < y3) = u := ⟨_, rfl⟩
                            have hs2 : Hid (inB (L3.take (k + 1)) sc f = u) := hide (by rw [unhide hsn]; simp only [b1', b2, hu]; rfl)
                            have h1' := hide h1
                            clear h1 h2 hsn
                            go_wp2
                            go_round
                            case rel => exact ⟨k + 1, by omega, by go_num, by rw [unhide hs2]⟩
                            case measure => simp [intOf]; omega
                          · have b2 : decide (y2 ≤ f) = false := by simpa using h2
                            have hs2 : Hid (inB (L3.take (k + 1)) sc f = false) := hide (by rw [unhide hsn]; simp only [b1', b2]; rfl)
                            have h1' := hide h1
                            clear h1 h2 hsn
                            go_wp2
                            go_round
                            case rel => exact ⟨k + 1, by omega, by go_num, by rw [unhide hs2]⟩
                            case measure => simp [intOf]; omega
                        · have b1 : (y1 == sc) = false := by simp [h1]
                          have b1' : decide (y1 = sc) = false := by simp [h1]
                          have hs2 : Hid (inB (L3.take (k + 1)) sc f = false) := hide (by rw [unhide hsn]; simp only [b1']; rfl)
                          clear h1 hsn
                          go_wp2
                          go_round
                          case rel => exact ⟨k + 1, by omega, by go_num, by rw [unhide hs2]⟩
                          case measure => simp [intOf]; omega
                    · have hke : k = N3 := by omega
                      have hXz : inB (L3.take k) sc f = inB L3 sc f := by rw [hke, ← unhide hN3, List.take_length]
                      rw [hXz]
                      obtain ⟨vz, hvz⟩ : ∃ v, inB L3 sc f = v := ⟨_, rfl⟩
                      rw [hvz]
                      have hvz' := hide hvz
                      have hkez := hide hke
                      clear hXz hvz hke
                      have hB1 := unhide hbool sc f
                      rw [unhide hvx', unhide hvy', unhide hvz'] at hB1
                      cases vz with
                      | true =>
                        obtain ⟨e1, e2⟩ := hB1.1 rfl
                        subst e1 e2
                        clear hB1
                        go_wp2
                        go_round
                        case rel => exact ⟨f + 1, by go_num, by omega, by omega⟩
                        case measure => simp [intOf]; omega
                      | false =>
                        cases vx with
                        | false =>
                          clear hB1
                          go_wp2
                          go_round
                          case rel => exact ⟨f + 1, by go_num, by omega, by omega⟩
                          case measure => simp [intOf]; omega
                        | true =>
                          cases vy with
                          | true =>
                            clear hB1
                            go_wp2
                            go_round
                            case rel => exact ⟨f + 1, by go_num, by omega, by omega⟩
                            case measure => simp [intOf]; omega
                          | false =>
                            have hM0 : N3 = 0 := hB1.2 rfl rfl rfl
                            clear hB1
                            subst hM0
                            go_wp2
                            go_round
                            case rel => exact ⟨f + 1, by go_num, by omega, by omega⟩
                            case measure => simp [intOf]; omega
        · have hfd : decide (f < 80) = false := by simpa using hf
          clear hf
          go_wp2
          go_round
          case rel => exact ⟨sc + 1, by go_num, by omega, by omega⟩
          case measure => simp [intOf]; omega
    · have hsc : decide (sc ≤ 3) = false := by simpa using hs
      clear hs
      go_wp2
      go_ret
      exact ⟨rfl, unhide H6⟩

end Go.Proofs.Ytfbifffmieimoaa.Rl
