/-
  For every list of bytes: of the keys that are drawn of them what is seen lies between the frames of the keys around, and is theirs at them; the program answers as its model does; no conditions.
-/
import Derived.Test.YtbmkbhondlecaaaSpT
import Derived.Test.YtbmkbhondlecaaaSpU
import Derived.Test.YtbmkbhondlecaaaDrS
namespace Go.Proofs.Ytbmkbhondlecaaa.Y
open Go.RowKit
open Go.Proofs.Ytbmkbhondlecaaa
set_option linter.unusedVariables false
set_option linter.unusedSimpArgs false

theorem spAt_ge {l : List Ky} (h : KsOk l) (t : Int) {ls : Int} (hl : ∀ j x, j < l.length → l[j]? = some x → ls ≤ x.2) : ls ≤ (spAt l t).1 := by
  obtain ⟨⟨x, hx, h1⟩, _, _⟩ := spAt_in h t
  obtain ⟨j, hj⟩ := List.getElem?_of_mem hx
  have := hl j x (List.getElem?_eq_some_iff.1 hj).1 hj
  omega
theorem spAt_le {l : List Ky} (h : KsOk l) (t : Int) {ms : Int} (hl : ∀ j x, j < l.length → l[j]? = some x → x.2 ≤ ms) : (spAt l t).1 ≤ ms := by
  obtain ⟨_, ⟨x, hx, h1⟩, _⟩ := spAt_in h t
  obtain ⟨j, hj⟩ := List.getElem?_of_mem hx
  have := hl j x (List.getElem?_eq_some_iff.1 hj).1 hj
  omega
/-- the least and the greatest of the first k -/
def LsM (l : List Ky) (k : Nat) (ls ms : Int) : Prop := ∀ j x, j < k → l[j]? = some x → ls ≤ x.2 ∧ x.2 ≤ ms
theorem LsM.step {l : List Ky} {k : Nat} {ls ms ls' ms' : Int} {x : Ky} (h : LsM l k ls ms) (hx : l[k]? = some x) (h1 : ls' ≤ ls ∧ ls' ≤ x.2) (h2 : ms ≤ ms' ∧ x.2 ≤ ms') : LsM l (k + 1) ls' ms' := by
  intro j y hj hy
  by_cases e : j = k
  · subst e
    rw [hx] at hy
    injection hy with hy
    subst hy
    exact ⟨h1.2, h2.2⟩
  · have := h j y (by omega) hy
    omega

set_option maxRecDepth 100000 in
set_option maxHeartbeats 6400000 in
theorem lawFS {W : World} (a : Option Addr) (len cap : Nat) (hr : RdB W W.heap.size a len) :
    Calls Try.prog 3 #[.slice a len cap] W fun e w' => e = .returned (.bool true) ∧ Below W.heap.size W w' := by
  have hr' := hide hr
  clear hr
  by_cases hbig : 4096 < len
  · have hbd := decide_eq_true hbig
    go_enter Try.func3, Try.ntmps3
    go_wp2_with fail
    refine (big_any a len cap true _ hbd).mono ?_
    rintro e w1 ⟨rfl, rfl⟩
    go_wp2
    go_ret
    exact ⟨rfl, Below.refl _ _⟩
  have hbd := decide_eq_false hbig
  go_enter Try.func3, Try.ntmps3
  go_wp2_with fail
  refine (big_any a len cap false _ hbd).mono ?_
  rintro e w0 ⟨rfl, hw0⟩
  have hw1 := hw0.symm
  subst hw1
  go_wp2_with fail
  refine (dsp_any a len cap W (by omega) (unhide hr')).mono ?_
  rintro e w1 ⟨r, c, n, t, rfl, hn, hwr, ⟨L, hLn, hO0⟩, H0⟩
  have hO1 := hide hO0
  have H1 := hide H0
  subst hLn
  clear hO0 H0 hr'
  have hmx : L.length ≤ maxLen := by unfold maxLen; omega
  obtain ⟨V, hV⟩ : ∃ V, speedOf L t = V := ⟨_, rfl⟩
  obtain ⟨T, hT⟩ : ∃ T, blendOf L t = T := ⟨_, rfl⟩
  obtain ⟨f, g, m⟩ := T
  have hf : f = V := by have := blend_first L t; rw [hT, hV] at this; exact this
  subst hf
  have hV' := hide hV
  have hT' := hide hT
  have e1 : (f != f) = false := by simp
  clear hV hT
  go_wp2_with fail
  refine (ispeed_any (some ⟨r, 0, none⟩) c L t f _ hmx (kys_own (unhide hO1)) (unhide hV')).mono ?_
  rintro e w2 ⟨rfl, k2⟩
  have hO2 := hide (ownsRow_below (unhide hO1) k2)
  have H2 := hide (laterB (unhide H1) k2)
  clear k2 hO1 H1
  go_wp2_with fail
  refine (iblend_any (some ⟨r, 0, none⟩) c L t (f, g, m) _ hmx (kys_own (unhide hO2)) (unhide hT')).mono ?_
  rintro e w3 ⟨rfl, k3⟩
  have hO3 := hide (ownsRow_below (unhide hO2) k3)
  have H3 := hide (laterB (unhide H2) k3)
  clear k3 hO2 H2
  go_wp2_with fail
  refine (sspeed_any (some ⟨r, 0, none⟩) c L t f _ hmx (kys_own (unhide hO3)) (unhide hV')).mono ?_
  rintro e w4 ⟨rfl, k4⟩
  have hO4 := hide (ownsRow_below (unhide hO3) k4)
  have H4 := hide (laterB (unhide H3) k4)
  clear k4 hO3 H3
  by_cases hok : KsOk L ∧ FrOk t
  · obtain ⟨hK, hF⟩ := hok
    have hfs : f = (spAt L t).1 := by rw [← unhide hV', speed_yes hK hF]
    have hfr := spAt_fr hK t
    rw [← hfs] at hfr
    obtain ⟨f0, f1⟩ := hfr
    have hbl := blend_facts hK hF
    rw [unhide hT', unhide hV'] at hbl
    simp only at hbl
    obtain ⟨m0, m1, hg⟩ := hbl
    have hneg : decide (f < 0) = false := decide_eq_false (by omega)
    have hl1 : 1 ≤ L.length := hK.1
    have hp : (0 : Int) < L.length := by omega
    obtain ⟨b, o, s0, i0, hb0, hx0, _, c0, c1⟩ := kys_at (kys_own (unhide hO4)) (Below.refl w4.heap.size w4) (show 0 < L.length by omega)
    injection hb0 with hb0
    injection hb0 with hb1 hb2
    subst hb1 hb2
    simp only [Nat.zero_mul, Nat.add_zero, Nat.zero_add] at c0 c1
    have hkey := hide (fun (k : Nat) (y : Ky) (hy : L[k]? = some y) (e : y.1 = t) => by have := spAt_key hK hy; rw [e, ← hfs] at this; exact this)
    have hends := hide (fun (ls ms : Int) (h : LsM L L.length ls ms) => by
      have h1 := spAt_ge hK t (ls := ls) (fun j x hj hx => (h j x hj hx).1)
      have h2 := spAt_le hK t (ms := ms) (fun j x hj hx => (h j x hj hx).2)
      rw [← hfs] at h1 h2
      exact (⟨h1, h2⟩ : ls ≤ f ∧ f ≤ ms))
    have hg' := hide hg
    clear hK hF hfs hg hx0
    go_wp2
    go_loop [9, 10, 11] (fun x y z => ∃ (k : Nat) (ls ms : Int), k ≤ L.length ∧ z = .int .i64 (k : Nat) ∧ x = .int .i64 ls ∧ y = .int .i64 ms ∧ Hid (LsM L k ls ms)) (fun _ _ z => L.length - (intOf z).toNat)
    case atStart => exact ⟨0, i0, i0, by omega, rfl, rfl, rfl, hide (fun j x h => by omega)⟩
    case round =>
      obtain ⟨k, ls, ms, hk, rfl, rfl, rfl, hM⟩ := hrel
      by_cases hlt : k < L.length
      · obtain ⟨b, o, s, i, hb0, hx, _, d0, d1⟩ := kys_at (kys_own (unhide hO4)) (Below.refl w4.heap.size w4) hlt
        injection hb0 with hb0
        injection hb0 with hb1 hb2
        subst hb1 hb2
        rw [Nat.zero_add] at d0 d1
        have hx' := hide hx
        clear hx c0 c1
        have hltI : decide ((k : Int) < (L.length : Int)) = true := by simp; omega
        by_cases hst : s = t
        · have st1 : (s == t) = true := by simp [hst]
          have st2 : (f != i) = false := by have := unhide hkey k (s, i) (unhide hx') hst; simp only at this; simp [this]
          clear hst
          by_cases l1 : i < ls
          · have l1' : decide (i < ls) = true := decide_eq_true l1
            by_cases l2 : ms < i
            · have l2' : decide (ms < i) = true := decide_eq_true l2
              have hnew := hide ((unhide hM).step (unhide hx') (ls' := i) (ms' := i) (by simp only; omega) (by simp only; omega))
              clear hM
              go_wp2
              go_round
              case rel => exact ⟨k + 1, i, i, by omega, by go_num, rfl, rfl, hnew⟩
              case measure => simp [intOf]; omega
            · have l2' : decide (ms < i) = false := decide_eq_false l2
              have hnew := hide ((unhide hM).step (unhide hx') (ls' := i) (ms' := ms) (by simp only; omega) (by simp only; omega))
              clear hM
              go_wp2
              go_round
              case rel => exact ⟨k + 1, i, ms, by omega, by go_num, rfl, rfl, hnew⟩
              case measure => simp [intOf]; omega
          · have l1' : decide (i < ls) = false := decide_eq_false l1
            by_cases l2 : ms < i
            · have l2' : decide (ms < i) = true := decide_eq_true l2
              have hnew := hide ((unhide hM).step (unhide hx') (ls' := ls) (ms' := i) (by simp only; omega) (by simp only; omega))
              clear hM
              go_wp2
              go_round
              case rel => exact ⟨k + 1, ls, i, by omega, by go_num, rfl, rfl, hnew⟩
              case measure => simp [intOf]; omega
            · have l2' : decide (ms < i) = false := decide_eq_false l2
              have hnew := hide ((unhide hM).step (unhide hx') (ls' := ls) (ms' := ms) (by simp only; omega) (by simp only; omega))
              clear hM
              go_wp2
              go_round
              case rel => exact ⟨k + 1, ls, ms, by omega, by go_num, rfl, rfl, hnew⟩
              case measure => simp [intOf]; omega
        · have st1 : (s == t) = false := by simpa using hst
          clear hst
          by_cases l1 : i < ls
          · have l1' : decide (i < ls) = true := decide_eq_true l1
            by_cases l2 : ms < i
            · have l2' : decide (ms < i) = true := decide_eq_true l2
              have hnew := hide ((unhide hM).step (unhide hx') (ls' := i) (ms' := i) (by simp only; omega) (by simp only; omega))
              clear hM
              go_wp2
              go_round
              case rel => exact ⟨k + 1, i, i, by omega, by go_num, rfl, rfl, hnew⟩
              case measure => simp [intOf]; omega
            · have l2' : decide (ms < i) = false := decide_eq_false l2
              have hnew := hide ((unhide hM).step (unhide hx') (ls' := i) (ms' := ms) (by simp only; omega) (by simp only; omega))
              clear hM
              go_wp2
              go_round
              case rel => exact ⟨k + 1, i, ms, by omega, by go_num, rfl, rfl, hnew⟩
              case measure => simp [intOf]; omega
          · have l1' : decide (i < ls) = false := decide_eq_false l1
            by_cases l2 : ms < i
            · have l2' : decide (ms < i) = true := decide_eq_true l2
              have hnew := hide ((unhide hM).step (unhide hx') (ls' := ls) (ms' := i) (by simp only; omega) (by simp only; omega))
              clear hM
              go_wp2
              go_round
              case rel => exact ⟨k + 1, ls, i, by omega, by go_num, rfl, rfl, hnew⟩
              case measure => simp [intOf]; omega
            · have l2' : decide (ms < i) = false := decide_eq_false l2
              have hnew := hide ((unhide hM).step (unhide hx') (ls' := ls) (ms' := ms) (by simp only; omega) (by simp only; omega))
              clear hM
              go_wp2
              go_round
              case rel => exact ⟨k + 1, ls, ms, by omega, by go_num, rfl, rfl, hnew⟩
              case measure => simp [intOf]; omega
      · have hke : k = L.length := by omega
        have hM2 : LsM L L.length ls ms := by have := unhide hM; rw [hke] at this; exact this
        obtain ⟨q1, q2⟩ := unhide hends ls ms hM2
        have z1 : decide (ls ≤ f) = true := decide_eq_true q1
        have z2 : decide (f ≤ ms) = true := decide_eq_true q2
        have z3 : decide (0 ≤ m) = true := decide_eq_true m0
        have z4 : decide (m < 256) = true := decide_eq_true m1
        have hw1 : IntKind.i64.wrap (f + 1) = f + 1 := by rw [IntKind.wrap_i64]; omega
        have hlt' : decide ((k : Int) < (L.length : Int)) = false := by simp; omega
        have hltN : decide (k < L.length) = false := decide_eq_false hlt
        have hgg := unhide hg'
        clear hM hM2 q1 q2 hke hlt c0 c1
        by_cases g1 : g = f
        · have y1 : (g == f) = true := by simp [g1]
          by_cases g2 : m = 0
          · have y2 : (m == 0) = true := by simp [g2]
            clear hgg g1 g2 m0 m1
            go_wp2
            go_ret
            exact ⟨rfl, unhide H4⟩
          · have y2 : (m == 0) = false := by simpa using g2
            have y3 : (g == f + 1) = false := by rw [beq_eq_false_iff_ne]; omega
            have y4 : (g == 10000000) = true := by rw [beq_iff_eq]; omega
            clear hgg g1 g2 m0 m1
            go_wp2
            go_ret
            exact ⟨rfl, unhide H4⟩
        · have y1 : (g == f) = false := by simpa using g1
          by_cases g3 : g = f + 1
          · have y3 : (g == f + 1) = true := by simp [g3]
            clear hgg g1 g3 m0 m1
            go_wp2
            go_ret
            exact ⟨rfl, unhide H4⟩
          · have y3 : (g == f + 1) = false := by simpa using g3
            have y4 : (g == 10000000) = true := by rw [beq_iff_eq]; omega
            clear hgg g1 g3 m0 m1
            go_wp2
            go_ret
            exact ⟨rfl, unhide H4⟩
  · have hf0 : f = -1 := by rw [← unhide hV', speed_no hok]
    have hgm := unhide hT'
    rw [blend_no hok] at hgm
    injection hgm with h1 h2
    injection h2 with h2 h3
    subst h1 h2 h3
    clear hok hV' hT' hf0
    go_wp2
    go_ret
    exact ⟨rfl, unhide H4⟩
end Go.Proofs.Ytbmkbhondlecaaa.Y
