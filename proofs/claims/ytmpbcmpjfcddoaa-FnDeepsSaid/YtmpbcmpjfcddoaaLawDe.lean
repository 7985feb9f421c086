/-
  For every code: what the program merges is in order and all there, and laid flat as the model lays it; what is full ahead of all hides it.
-/
import Derived.Test.YtmpbcmpjfcddoaaDrD
import Derived.Test.YtmpbcmpjfcddoaaDpP
import Derived.Test.YtmpbcmpjfcddoaaIMg
import Derived.Test.YtmpbcmpjfcddoaaSMg
import Derived.Test.YtmpbcmpjfcddoaaIFl
import Derived.Test.YtmpbcmpjfcddoaaSFl
import Derived.Test.YtmpbcmpjfcddoaaApD
import Derived.Laws.StructEq
import Derived.BigQuiet
namespace Go.Proofs.Ytmpbcmpjfcddoaa
open Go.RowKit
set_option linter.unusedVariables false
set_option linter.unusedSimpArgs false
namespace D
theorem mrg_len200 (l m : List Kl) : (mrg l m).length ≤ 200 := by
  unfold mrg
  split
  · rename_i h
    simp at h
    rw [srt_len, List.length_append]; omega
  · simp
theorem bigD_any (a : Option Addr) (n c : Nat) (w : World) : Calls Try.prog 6 #[.slice a n c] w fun e w' => e = .returned (.bool (decide (4096 < n))) ∧ w' = w := by
  go_enter Try.func6, Try.ntmps6
  go_wp2
  go_ret
  exact ⟨ret_bool (by simp; omega), rfl⟩
theorem below_drN {W w : World} (h : Below W.heap.size W w) (n : Nat) : Below W.heap.size W (w.drewN n) := h.trans ⟨rfl, rfl, rfl, Nat.le_refl _, fun _ _ => rfl⟩
theorem far_snoc {m : List Kl} {k : Nat} {x0 x1 x2 x3 x4 : Int} (h : m[k]? = some (x0, x1, x2, x3, x4)) : farL (m.take (k + 1)) = farL (m.take k) ++ [(x0 + 100, x1, x2, x3, x4)] := by
  rw [take_snocK h]; simp [farL]
theorem far_all {m : List Kl} {k : Nat} {x : Kl} (h : m[k]? = some x) (ha : ∀ y ∈ m.take k, y.1 ≤ 9999900) (hx : x.1 ≤ 9999900) : ∀ y ∈ m.take (k + 1), y.1 ≤ 9999900 := by
  rw [take_snocK h]
  intro y hy
  rcases List.mem_append.1 hy with hy | hy
  · exact ha y hy
  · simp at hy; subst hy; exact hx
theorem wpList_front {ops : Array Oper} {rest : List Oper} {o : Oper} {a : Act} {Q : Exit → Act → World → Prop} {X wr : World} {B ga na ca : Nat} {l : List Kl} (hgd : o.guard = none) (s x : Operand) (ho : o.op = .call { callee := .builtin .append, args := #[s, x], argTypes := #[24, 24] }) (E : Nat) (hE : X.heap.size = E) (hs : a.eval s = .slice (some ⟨E, 0, none⟩) 1 1) (hx : a.eval x = .slice (some ⟨ga, 0, none⟩) na ca) (hX : Below wr.heap.size wr X) (hl : Own wr B ga na ca l) (hn : na ≤ 1000)
    (h : ∀ g' c' w', Own w' wr.heap.size g' (1 + na) c' ((0, 9, 8, 7, 255) :: l) → Below wr.heap.size wr w' → wpList Try.prog ops Q rest (a.put o.dst (.slice (some ⟨g', 0, none⟩) (1 + na) c')) w') : wpList Try.prog ops Q (o :: rest) a (X.alloc (.cells #[.int .i64 0, .int .i64 9, .int .i64 8, .int .i64 7, .int .i64 255] 32)) := by
  subst hE
  have hsz := hX.size
  have hO : Own (X.alloc (.cells #[.int .i64 0, .int .i64 9, .int .i64 8, .int .i64 7, .int .i64 255] 32)) wr.heap.size X.heap.size 1 1 [(0, 9, 8, 7, 255)] := World.ownsRow_lit (base := wr.heap.size) (e := 32) (size := 5) X #[.int .i64 0, .int .i64 9, .int .i64 8, .int .i64 7, .int .i64 255] 1 hsz (by unfold maxLen; omega) rfl
  have hb : Below wr.heap.size wr (X.alloc (.cells #[.int .i64 0, .int .i64 9, .int .i64 8, .int .i64 7, .int .i64 255] 32)) := hX.alloc hsz _
  refine wpList_app Try.underlying24 _ hgd s x ho wr.heap.size X.heap.size 1 1 [(0, 9, 8, 7, 255)] l (some ⟨ga, 0, none⟩) na ca hs hO hx (own_len hl) ((kls_own hl).below hb) (fun e => by cases e) (by omega) (by omega) hb.size ?_
  intro g' c' w' h1 h2
  exact h g' c' w' h1 (hb.grown h2 hb.size (fun k hk => by injection hk with hk; omega))

set_option maxRecDepth 100000 in
set_option maxHeartbeats 12800000 in
theorem lawDe {W : World} (a : Option Addr) (len cap : Nat) (hr : RdB W W.heap.size a len) :
    Calls Try.prog 3 #[.slice a len cap] W fun e w' => e = .returned (.bool true) ∧ Below W.heap.size W w' := by
  have hr' := hide hr
  clear hr
  go_enter Try.func3, Try.ntmps3
  go_wp2_with fail
  refine (bigD_any a len cap W).mono ?_
  rintro e w0 ⟨rfl, rfl⟩
  by_cases hb : 4096 < len
  · rw [decide_eq_true hb]
    go_wp2
    go_ret
    exact ⟨rfl, Below.refl _ _⟩
  rw [decide_eq_false hb]
  go_wp2_with fail
  refine (dmg_any a len cap (by omega) (unhide hr')).mono ?_
  rintro e w1 ⟨ga, na, ca, l, gb, nb, cb, m, rfl, hna, hnb, oa, ob, k1⟩
  have OA := hide oa
  have OB := hide ob
  have BW := hide k1
  have hla := hide (own_len oa)
  have hlb := hide (own_len ob)
  clear oa ob k1 hr' hb
  go_wp2_with fail
  refine (imerge_any _ ga na ca gb nb cb l m _ (unhide OA) (unhide OB) (by omega) (by omega)).mono ?_
  rintro e w2 ⟨g2, c2, N, rfl, hN, o2, k2⟩
  have hN' := hide hN
  have OM := hide o2
  clear hN o2
  have OAx := hide (ownsRow_below (unhide OA) k2)
  have OBx := hide (ownsRow_below (unhide OB) k2)
  have BWx := hide (laterB (unhide BW) k2)
  clear OA OB BW k2
  have OA := OAx
  clear OAx
  have OB := OBx
  clear OBx
  have BW := BWx
  clear BWx

  go_wp2_with fail
  refine (smerge_any _ ga na ca gb nb cb l m _ (unhide OA) (unhide OB) (by omega) (by omega)).mono ?_
  rintro e w3 ⟨g3, c3, N3, rfl, hN3, o3, k3⟩
  obtain rfl : N3 = N := hN3.trans (unhide hN').symm
  have hN200 : N3 ≤ 200 := by rw [unhide hN']; exact mrg_len200 _ _
  clear hN3 o3
  have OAx := hide (ownsRow_below (unhide OA) k3)
  have OBx := hide (ownsRow_below (unhide OB) k3)
  have OMx := hide (ownsRow_below (unhide OM) k3)
  have BWx := hide (laterB (unhide BW) k3)
  clear OA OB OM BW k3
  have OA := OAx
  clear OAx
  have OB := OBx
  clear OBx
  have OM := OMx
  clear OMx
  have BW := BWx
  clear BWx

  obtain ⟨⟨V0, V1, V2, V3⟩, hV⟩ : ∃ v : Int × Int × Int × Int, flatOf l = v := ⟨_, rfl⟩
  have hV' := hide hV
  clear hV
  go_wp2_with fail
  refine (ifl_any _ ga na ca l V0 V1 V2 V3 _ (unhide OA) (by omega) (unhide hV')).mono ?_
  rintro e w4 ⟨rfl, k4⟩
  have OAx := hide (ownsRow_below (unhide OA) k4)
  have OBx := hide (ownsRow_below (unhide OB) k4)
  have OMx := hide (ownsRow_below (unhide OM) k4)
  have BWx := hide (laterB (unhide BW) k4)
  clear OA OB OM BW k4
  have OA := OAx
  clear OAx
  have OB := OBx
  clear OBx
  have OM := OMx
  clear OMx
  have BW := BWx
  clear BWx

  go_wp2_with fail
  refine (sfl_any _ ga na ca l V0 V1 V2 V3 _ (unhide OA) (by omega) (unhide hV')).mono ?_
  rintro e w5 ⟨rfl, k5⟩
  have OAx := hide (ownsRow_below (unhide OA) k5)
  have OBx := hide (ownsRow_below (unhide OB) k5)
  have OMx := hide (ownsRow_below (unhide OM) k5)
  have BWx := hide (laterB (unhide BW) k5)
  clear OA OB OM BW k5
  have OA := OAx
  clear OAx
  have OB := OBx
  clear OBx
  have OM := OMx
  clear OMx
  have BW := BWx
  clear BWx

  clear hV'
  go_wp2
  go_loopw [6] (fun t wr => ∃ k : Nat, 1 ≤ k ∧ t = .int .i64 (k : Int) ∧ Hid (Below w5.heap.size w5 wr)) (fun t _ => N3 - (intOf t).toNat)
  case atStart => exact ⟨1, by omega, rfl, hide (Below.refl _ _)⟩
  case round =>
  obtain ⟨k, hk1, rfl, hw⟩ := hrel
  by_cases hlt : k < N3
  · obtain ⟨q, hq⟩ : ∃ q : Nat, k = q + 1 := ⟨k - 1, by omega⟩
    obtain ⟨x, hx⟩ : ∃ x, (mrg l m)[q]? = some x := ⟨(mrg l m)[q]'(by have := unhide hN'; omega), List.getElem?_eq_getElem _⟩
    obtain ⟨y, hy⟩ : ∃ y, (mrg l m)[k]? = some y := ⟨(mrg l m)[k]'(by have := unhide hN'; omega), List.getElem?_eq_getElem _⟩
    have hle := mrg_step hx (by rw [← hq]; exact hy)
    obtain ⟨c0, _, _, _, _⟩ := own_cells hx (unhide OM)
    obtain ⟨d0, _, _, _, _⟩ := own_cells hy (unhide OM)
    have C := fun o => (bcell (unhide hw)).1 g2 o (own_lt (unhide OM))
    have f0 := (C _).trans c0
    have h0 := (C _).trans d0
    have tt : decide (y.1 < x.1) = false := by simpa using hle
    have hq1 : (k : Int) - 1 = (q : Int) := by omega
    have hq2 : IntKind.i64.wrap ((k : Int) - 1) = (q : Int) := by rw [IntKind.wrap_i64]; omega
    have hq3 : q < N3 := by omega
    clear c0 d0 C hx hy hle hq
    go_wp2_with fail
    go_quiet (fail)
    go_wp2
    go_roundw
    case rel => exact ⟨k + 1, by omega, by go_num, hide (below_drN (unhide hw) _)⟩
    case measure => simp [intOf]; omega
  have gk1 : decide ((k : Int) < N3) = false := by simp; omega
  have gk2 : decide (k < N3) = false := by simp; omega
  have hlt' := hide hlt
  clear hlt
  have hw' := unhide hw
  clear hw
  have OAx := hide (ownsRow_below (unhide OA) hw')
  have OBx := hide (ownsRow_below (unhide OB) hw')
  have OMx := hide (ownsRow_below (unhide OM) hw')
  have BWx := hide (laterB (unhide BW) hw')
  clear OA OB OM BW hw'
  have OA := OAx
  clear OAx
  have OB := OBx
  clear OBx
  have OM := OMx
  clear OMx
  have BW := BWx
  clear BWx

  rename World => wo
  by_cases hN0 : N3 = 0
  · subst hN0
    clear gk1 gk2
    go_wp2
    go_ret
    exact ⟨rfl, unhide BW⟩
  have hne : mrg l m ≠ [] := fun e => by have := unhide hN'; rw [e] at this; simp at this; omega
  have hsum : N3 = na + nb := by rw [unhide hN', mrg_len2 hne, unhide hla, unhide hlb]
  have gN0 : ((N3 : Int) == 0) = false := by simp; omega
  have hwr : IntKind.i64.wrap ((na : Int) + nb) = (na : Int) + nb := by rw [IntKind.wrap_i64]; omega
  have gNs : ((N3 : Int) == (na : Int) + nb) = true := by simp; omega
  have hsum' := hide hsum
  clear hsum hN0
  by_cases hN30 : 30 < N3
  · go_wp2
    go_ret
    exact ⟨rfl, unhide BW⟩
  have gN30 : decide ((30 : Int) < N3) = false := by simp; omega
  have hN30' := hide hN30
  clear hN30
  have hok := hide (mrg_ne hne)
  have hne' := hide hne
  clear hne
  go_wp2
  go_loopw [7, 8] (fun s t ws => ∃ (k G c : Nat), k ≤ nb ∧ t = .int .i64 k ∧ s = .slice (some ⟨G, 0, none⟩) k c ∧ G < ws.heap.size ∧ Hid (Own ws wo.heap.size G k c (farL (m.take k))) ∧ Hid (Below wo.heap.size wo ws) ∧ Hid (∀ y ∈ m.take k, y.1 ≤ 9999900)) (fun _ t _ => nb - (intOf t).toNat)
  case atStart => exact ⟨0, wo.heap.size, 0, by omega, rfl, rfl, by simp, hide (own_lit0 wo (Nat.le_refl _)), hide ((Below.refl _ _).alloc (Nat.le_refl _) _), hide (by simp)⟩
  case round =>
  obtain ⟨k, G, c, hk, rfl, rfl, hGl, OF, hw, hall⟩ := hrel
  by_cases hlt2 : k < nb
  · obtain ⟨x, hx⟩ : ∃ x, m[k]? = some x := ⟨m[k]'(by have := unhide hlb; omega), List.getElem?_eq_getElem _⟩
    obtain ⟨d0, d1, d2, d3, d4⟩ := own_cells hx (unhide OB)
    have C := fun o => (bcell (unhide hw)).1 gb o (own_lt (unhide OB))
    have f0 := (C _).trans d0
    have f1 := (C _).trans d1
    have f2 := (C _).trans d2
    have f3 := (C _).trans d3
    have f4 := (C _).trans d4
    have hxb := okL_mem (unhide hok).2.1 (List.mem_of_getElem? hx)
    obtain ⟨x0, x1, x2, x3, x4⟩ := x
    obtain ⟨hx0, hx1, _⟩ := hxb
    have hx' := hide hx
    have hx0' : 0 ≤ x0 := hx0
    have hx1' : x0 ≤ 10000000 := hx1
    clear d0 d1 d2 d3 d4 C hx hx0 hx1
    by_cases hfar : 9999900 < x0
    · go_wp2
      go_ret
      refine ⟨rfl, laterB (unhide BW) (laterB (unhide hw) ?_)⟩
      repeat first | exact Below.refl _ _ | refine Below.setCell ?_ (by simp <;> omega) _ | refine Below.alloc ?_ (by simp <;> omega) _
    · have hwo := (unhide hw).size
      go_wp2_with (at_builtin; refine wpList_kN Try.underlying24 (B := wo.heap.size) (C := wr.heap.size) (wr := wr) (g := G) (n := k) (cap := c) (L := farL (m.take k)) rfl _ _ rfl rfl (unhide OF) (hX := by repeat first | exact Below.refl _ _ | refine Below.setCell ?_ (by simp <;> omega) _ | refine Below.alloc ?_ (by simp <;> omega) _) hGl (wr.heap.size + 1) (by simp) rfl (by omega) (by omega) (by omega) ?_)
      intro G' c' w7 ho hbB hge hlt3
      have OF2 : Hid (Own w7 wo.heap.size G' (k + 1) c' (farL (m.take (k + 1)))) := hide (by rw [far_snoc (unhide hx')]; exact ho)
      have hw2 := hide ((unhide hw).trans hbB)
      have hall2 := hide (far_all (unhide hx') (unhide hall) (by show x0 ≤ 9999900; omega))
      clear ho hbB OF hw hall hx'
      go_wp2
      go_roundw
      case rel => exact ⟨k + 1, G', c', by omega, by go_num, rfl, hlt3, OF2, hw2, hall2⟩
      case measure => simp [intOf]; omega
  have hkn : k = nb := by omega
  subst hkn
  have htk : m.take k = m := List.take_of_length_le (by have := unhide hlb; omega)
  have OF2 : Hid (Own wr wo.heap.size G k c (farL m)) := hide (by have := unhide OF; rw [htk] at this; exact this)
  have hall2 : Hid (∀ y ∈ m, y.1 ≤ 9999900) := hide (by have := unhide hall; rw [htk] at this; exact this)
  have hw' := unhide hw
  have hwo := hw'.size
  clear hw OF hall htk
  have OAx := hide (ownsRow_below (unhide OA) hw')
  have OBx := hide (ownsRow_below (unhide OB) hw')
  have OMx := hide (ownsRow_below (unhide OM) hw')
  have BWx := hide (laterB (unhide BW) hw')
  clear OA OB OM BW hw'
  have OA := OAx
  clear OAx
  have OB := OBx
  clear OBx
  have OM := OMx
  clear OMx
  have BW := BWx
  clear BWx

  rename World => wq
  go_wp2
  go_loop [10] (fun t => ∃ j : Nat, j ≤ na ∧ t = .int .i64 j) (fun t => na - (intOf t).toNat)
  case atStart => exact ⟨0, by omega, rfl⟩
  case round =>
  obtain ⟨j, hj, rfl⟩ := hrel
  by_cases hlt3 : j < na
  · obtain ⟨x, hx⟩ : ∃ x, l[j]? = some x := ⟨l[j]'(by have := unhide hla; omega), List.getElem?_eq_getElem _⟩
    obtain ⟨f0, _, _, _, _⟩ := own_cells hx (unhide OA)
    clear hx
    by_cases hfar : 100 ≤ x.1
    · go_wp2
      go_ret
      exact ⟨rfl, unhide BW⟩
    · go_wp2
      go_round
      case rel => exact ⟨j + 1, by omega, by go_num⟩
      case measure => simp [intOf]; omega
  have hwqs : Hid (wo.heap.size ≤ wq.heap.size) := hide hwo
  obtain ⟨⟨U0, U1, U2, U3⟩, hU⟩ : ∃ v : Int × Int × Int × Int, flatOf (mrg l (farL m)) = v := ⟨_, rfl⟩
  obtain ⟨⟨T0, T1, T2, T3⟩, hT⟩ : ∃ v : Int × Int × Int × Int, flatOf (mrg l m) = v := ⟨_, rfl⟩
  obtain ⟨⟨R0, R1, R2, R3⟩, hR⟩ : ∃ v : Int × Int × Int × Int, flatOf ((0, 9, 8, 7, 255) :: l) = v := ⟨_, rfl⟩
  have hR2 := hide ((deeps_end (unhide hne') (unhide hall2) (by have := unhide hla; have := unhide hlb; have := unhide hsum'; have := unhide hN30'; omega)).trans hR)
  have hU' := hide hU
  have hT' := hide hT
  have hR' := hide hR
  clear hU hT hR hwo
  go_wp2_with (at_builtin; refine wpList_front (wr := wq) (l := l) rfl _ _ rfl (wq.heap.size + 1) (by simp) rfl rfl (by repeat first | exact Below.refl _ _ | refine Below.setCell ?_ (by simp <;> omega) _ | refine Below.alloc ?_ (by simp <;> omega) _) (unhide OA) (by omega) ?_)
  intro g8 c8 w8 o8 k8
  have OG := hide o8
  clear o8
  have OAx := hide (ownsRow_below (unhide OA) k8)
  have OBx := hide (ownsRow_below (unhide OB) k8)
  have OMx := hide (ownsRow_below (unhide OM) k8)
  have OF2x := hide (ownsRow_below (unhide OF2) k8)
  have BWx := hide (laterB (unhide BW) k8)
  clear OA OB OM OF2 BW k8
  have OA := OAx
  clear OAx
  have OB := OBx
  clear OBx
  have OM := OMx
  clear OMx
  have OF2 := OF2x
  clear OF2x
  have BW := BWx
  clear BWx

  go_wp2_with fail
  refine (imerge_any 0 ga na ca G k c l (farL m) _ (own_mono (unhide OA) (Nat.zero_le _)) (own_mono (unhide OF2) (Nat.zero_le _)) (by omega) (by omega)).mono ?_
  rintro e w9 ⟨g9, c9, N9, rfl, hN9, o9, k9⟩
  have OH := hide o9
  have hN92 : N9 ≤ 200 := by rw [hN9]; exact mrg_len200 _ _
  clear o9 hN9
  have OAx := hide (ownsRow_below (unhide OA) k9)
  have OBx := hide (ownsRow_below (unhide OB) k9)
  have OMx := hide (ownsRow_below (unhide OM) k9)
  have OF2x := hide (ownsRow_below (unhide OF2) k9)
  have OGx := hide (ownsRow_below (unhide OG) k9)
  have BWx := hide (laterB (unhide BW) k9)
  clear OA OB OM OF2 OG BW k9
  have OA := OAx
  clear OAx
  have OB := OBx
  clear OBx
  have OM := OMx
  clear OMx
  have OF2 := OF2x
  clear OF2x
  have OG := OGx
  clear OGx
  have BW := BWx
  clear BWx

  go_wp2_with fail
  refine (ifl_any _ g9 N9 c9 _ U0 U1 U2 U3 _ (unhide OH) (by omega) (unhide hU')).mono ?_
  rintro e w10 ⟨rfl, k10⟩
  clear OH
  have OAx := hide (ownsRow_below (unhide OA) k10)
  have OBx := hide (ownsRow_below (unhide OB) k10)
  have OMx := hide (ownsRow_below (unhide OM) k10)
  have OF2x := hide (ownsRow_below (unhide OF2) k10)
  have OGx := hide (ownsRow_below (unhide OG) k10)
  have BWx := hide (laterB (unhide BW) k10)
  clear OA OB OM OF2 OG BW k10
  have OA := OAx
  clear OAx
  have OB := OBx
  clear OBx
  have OM := OMx
  clear OMx
  have OF2 := OF2x
  clear OF2x
  have OG := OGx
  clear OGx
  have BW := BWx
  clear BWx

  go_wp2_with fail
  refine (smerge_any 0 ga na ca G k c l (farL m) _ (own_mono (unhide OA) (Nat.zero_le _)) (own_mono (unhide OF2) (Nat.zero_le _)) (by omega) (by omega)).mono ?_
  rintro e w11 ⟨g11, c11, N11, rfl, hN11, o11, k11⟩
  have OH := hide o11
  have hN112 : N11 ≤ 200 := by rw [hN11]; exact mrg_len200 _ _
  clear o11 hN11
  have OAx := hide (ownsRow_below (unhide OA) k11)
  have OBx := hide (ownsRow_below (unhide OB) k11)
  have OMx := hide (ownsRow_below (unhide OM) k11)
  have OF2x := hide (ownsRow_below (unhide OF2) k11)
  have OGx := hide (ownsRow_below (unhide OG) k11)
  have BWx := hide (laterB (unhide BW) k11)
  clear OA OB OM OF2 OG BW k11
  have OA := OAx
  clear OAx
  have OB := OBx
  clear OBx
  have OM := OMx
  clear OMx
  have OF2 := OF2x
  clear OF2x
  have OG := OGx
  clear OGx
  have BW := BWx
  clear BWx

  go_wp2_with fail
  refine (sfl_any _ g11 N11 c11 _ U0 U1 U2 U3 _ (unhide OH) (by omega) (unhide hU')).mono ?_
  rintro e w12 ⟨rfl, k12⟩
  clear OH
  have OAx := hide (ownsRow_below (unhide OA) k12)
  have OBx := hide (ownsRow_below (unhide OB) k12)
  have OMx := hide (ownsRow_below (unhide OM) k12)
  have OF2x := hide (ownsRow_below (unhide OF2) k12)
  have OGx := hide (ownsRow_below (unhide OG) k12)
  have BWx := hide (laterB (unhide BW) k12)
  clear OA OB OM OF2 OG BW k12
  have OA := OAx
  clear OAx
  have OB := OBx
  clear OBx
  have OM := OMx
  clear OMx
  have OF2 := OF2x
  clear OF2x
  have OG := OGx
  clear OGx
  have BW := BWx
  clear BWx

  go_wp2_with fail
  refine (ifl_any _ g2 N3 c2 _ T0 T1 T2 T3 _ (unhide OM) (by have := unhide hN30'; omega) (unhide hT')).mono ?_
  rintro e w13 ⟨rfl, k13⟩
  have OAx := hide (ownsRow_below (unhide OA) k13)
  have OBx := hide (ownsRow_below (unhide OB) k13)
  have OMx := hide (ownsRow_below (unhide OM) k13)
  have OF2x := hide (ownsRow_below (unhide OF2) k13)
  have OGx := hide (ownsRow_below (unhide OG) k13)
  have BWx := hide (laterB (unhide BW) k13)
  clear OA OB OM OF2 OG BW k13
  have OA := OAx
  clear OAx
  have OB := OBx
  clear OBx
  have OM := OMx
  clear OMx
  have OF2 := OF2x
  clear OF2x
  have OG := OGx
  clear OGx
  have BW := BWx
  clear BWx

  go_wp2_with fail
  refine (sfl_any _ g2 N3 c2 _ T0 T1 T2 T3 _ (unhide OM) (by have := unhide hN30'; omega) (unhide hT')).mono ?_
  rintro e w14 ⟨rfl, k14⟩
  have OAx := hide (ownsRow_below (unhide OA) k14)
  have OBx := hide (ownsRow_below (unhide OB) k14)
  have OMx := hide (ownsRow_below (unhide OM) k14)
  have OF2x := hide (ownsRow_below (unhide OF2) k14)
  have OGx := hide (ownsRow_below (unhide OG) k14)
  have BWx := hide (laterB (unhide BW) k14)
  clear OA OB OM OF2 OG BW k14
  have OA := OAx
  clear OAx
  have OB := OBx
  clear OBx
  have OM := OMx
  clear OMx
  have OF2 := OF2x
  clear OF2x
  have OG := OGx
  clear OGx
  have BW := BWx
  clear BWx

  go_wp2_with fail
  refine (imerge_any 0 g8 (1 + na) c8 G k c _ (farL m) _ (own_mono (unhide OG) (Nat.zero_le _)) (own_mono (unhide OF2) (Nat.zero_le _)) (by omega) (by omega)).mono ?_
  rintro e w15 ⟨g15, c15, N15, rfl, hN15, o15, k15⟩
  have OH := hide o15
  have hN152 : N15 ≤ 200 := by rw [hN15]; exact mrg_len200 _ _
  clear o15 hN15
  have OAx := hide (ownsRow_below (unhide OA) k15)
  have OBx := hide (ownsRow_below (unhide OB) k15)
  have OMx := hide (ownsRow_below (unhide OM) k15)
  have OF2x := hide (ownsRow_below (unhide OF2) k15)
  have OGx := hide (ownsRow_below (unhide OG) k15)
  have BWx := hide (laterB (unhide BW) k15)
  clear OA OB OM OF2 OG BW k15
  have OA := OAx
  clear OAx
  have OB := OBx
  clear OBx
  have OM := OMx
  clear OMx
  have OF2 := OF2x
  clear OF2x
  have OG := OGx
  clear OGx
  have BW := BWx
  clear BWx

  go_wp2_with fail
  refine (ifl_any _ g15 N15 c15 _ R0 R1 R2 R3 _ (unhide OH) (by omega) (unhide hR2)).mono ?_
  rintro e w16 ⟨rfl, k16⟩
  clear OH
  have OAx := hide (ownsRow_below (unhide OA) k16)
  have OBx := hide (ownsRow_below (unhide OB) k16)
  have OMx := hide (ownsRow_below (unhide OM) k16)
  have OF2x := hide (ownsRow_below (unhide OF2) k16)
  have OGx := hide (ownsRow_below (unhide OG) k16)
  have BWx := hide (laterB (unhide BW) k16)
  clear OA OB OM OF2 OG BW k16
  have OA := OAx
  clear OAx
  have OB := OBx
  clear OBx
  have OM := OMx
  clear OMx
  have OF2 := OF2x
  clear OF2x
  have OG := OGx
  clear OGx
  have BW := BWx
  clear BWx

  go_wp2_with fail
  refine (ifl_any _ g8 (1 + na) c8 _ R0 R1 R2 R3 _ (unhide OG) (by omega) (unhide hR')).mono ?_
  rintro e w17 ⟨rfl, k17⟩
  have OAx := hide (ownsRow_below (unhide OA) k17)
  have OBx := hide (ownsRow_below (unhide OB) k17)
  have OMx := hide (ownsRow_below (unhide OM) k17)
  have OF2x := hide (ownsRow_below (unhide OF2) k17)
  have OGx := hide (ownsRow_below (unhide OG) k17)
  have BWx := hide (laterB (unhide BW) k17)
  clear OA OB OM OF2 OG BW k17
  have OA := OAx
  clear OAx
  have OB := OBx
  clear OBx
  have OM := OMx
  clear OMx
  have OF2 := OF2x
  clear OF2x
  have OG := OGx
  clear OGx
  have BW := BWx
  clear BWx

  go_wp2
  go_ret
  exact ⟨rfl, unhide BW⟩

end D
end Go.Proofs.Ytmpbcmpjfcddoaa
