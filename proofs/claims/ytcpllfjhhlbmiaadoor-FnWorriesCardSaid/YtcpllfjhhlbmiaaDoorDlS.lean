/-
  Titles that are delayed: plain facts; the append of a title; bounds; the contract of the model; nothing that was there is written.
-/
import Derived.Test.YtcpllfjhhlbmiaaDoorSOk
namespace Go.Proofs.YtcpllfjhhlbmiaaDoor
open Go.RowKit
set_option linter.unusedVariables false
set_option linter.unusedSimpArgs false

set_option maxHeartbeats 400000 in
theorem in_any (x lo hi : Int) (v : Bool) (w : World) (hv : (decide (lo ≤ x) && decide (x ≤ hi)) = v) :
    Calls Tryd.prog 44 #[.int .i64 x, .int .i64 lo, .int .i64 hi] w fun e w' => e = .returned (.bool v) ∧ w' = w := by
  subst hv
  by_cases h1 : lo ≤ x
  · by_cases h2 : x ≤ hi
    · go_enter Tryd.func44, Tryd.ntmps44
      go_wp2
      go_ret
      exact ⟨ret_bool (by simp [h1, h2]), rfl⟩
    · go_enter Tryd.func44, Tryd.ntmps44
      go_wp2
      go_ret
      exact ⟨ret_bool (by simp [h2]), rfl⟩
  · have hd : decide (lo ≤ x) = false := by simpa using h1
    go_enter Tryd.func44, Tryd.ntmps44
    go_wp2
    go_ret
    exact ⟨ret_bool (by simp), rfl⟩

/-- a title by so much later -/
def sh (by' : Int) (x : Kl) : Kl := (x.1 + by', x.2.1 + by', x.2.2)
/-- what is answered: the titles, and whether they are some -/
def dly (by' : Int) (l : List Kl) : List Kl × Bool :=
  if tOk l = true then if -359999999 ≤ by' ∧ by' ≤ 359999999 then if tOk (l.map (sh by')) = true then (l.map (sh by'), true) else ([], false) else ([], false) else ([], false)
theorem tt_bd {l : List Kl} : ∀ {e : Int}, 0 ≤ e → tsOk e l = true → ∀ x ∈ l, 0 ≤ x.1 ∧ x.1 < x.2.1 ∧ x.2.1 ≤ 359999999 := by
  induction l with
  | nil => intro e _ _ x hx; cases hx
  | cons y l ih =>
    intro e he h x hx
    simp only [tsOk, Bool.and_eq_true] at h
    obtain ⟨h1, h2⟩ := h
    obtain ⟨y0, y1, s⟩ := y
    rw [ttOk_parts] at h1
    simp only [Bool.and_eq_true, decide_eq_true_eq] at h1
    rcases List.mem_cons.1 hx with rfl | hx
    · exact ⟨by show 0 ≤ y0; omega, by show y0 < y1; omega, by show y1 ≤ _; omega⟩
    · exact ih (e := y1) (by omega) h2 x hx
theorem t_bd {l : List Kl} (h : tOk l = true) : l.length ≤ 200 ∧ ∀ x ∈ l, 0 ≤ x.1 ∧ x.1 < x.2.1 ∧ x.2.1 ≤ 359999999 := by
  unfold tOk at h
  rw [Bool.and_eq_true] at h
  exact ⟨by simpa using h.1, tt_bd (Int.le_refl 0) h.2⟩
theorem map_snoc {l : List Kl} {k : Nat} {x : Kl} {by' : Int} (h : l[k]? = some x) : (l.take k).map (sh by') ++ [(x.1 + by', x.2.1 + by', x.2.2)] = (l.take (k + 1)).map (sh by') := by
  rw [take_snocK h, List.map_append]; rfl
theorem map_size {l : List Kl} {by' : Int} (h : ∀ x ∈ l, x.2.2.size ≤ 1048576) : ∀ x ∈ l.map (sh by'), x.2.2.size ≤ 1048576 := by
  intro x hx
  obtain ⟨y, hy, rfl⟩ := List.mem_map.1 hx
  exact h y hy
theorem dly_len {l R : List Kl} {by' : Int} {ok : Bool} (h : dly by' l = (R, ok)) : R.length ≤ 200 := by
  unfold dly at h
  split at h
  · rename_i h1
    have := (t_bd h1).1
    split at h
    · split at h
      · injection h with h _; subst h; simpa using this
      · injection h with h _; subst h; simp
    · injection h with h _; subst h; simp
  · injection h with h _; subst h; simp

set_option maxRecDepth 100000 in
set_option maxHeartbeats 3200000 in
theorem sdel_any (a : Option Addr) (cap : Nat) (l R : List Kl) (by' : Int) (ok : Bool) (w : World) (hl : l.length ≤ 1048576) (hr : Kls w a l) (hsz : ∀ x ∈ l, x.2.2.size ≤ 1048576) (hR : dly by' l = (R, ok)) :
    Calls Tryd.prog 18 #[.slice a l.length cap, .int .i64 by'] w fun e w' => ∃ g c, e = .returned (.tuple #[.slice (some ⟨g, 0, none⟩) R.length c, .bool ok]) ∧ w.heap.size ≤ g ∧ Own w' w.heap.size g R.length c R ∧ Below w.heap.size w w' := by
  have kA : Below w.heap.size w (w.alloc (.cells #[] 32)) := (Below.refl _ _).alloc (Nat.le_refl _) _
  have oA := own_lit0 w (Nat.le_refl w.heap.size)
  have hr' := hide hr
  have hsz' := hide hsz
  obtain ⟨v, hv⟩ : ∃ v, tOk l = v := ⟨_, rfl⟩
  have cT := hide (sok_any a cap l v _ hl (hr.below kA) hsz hv)
  have kA' := hide kA
  have oA' := hide oA
  clear hr hsz kA oA
  cases v
  · have hR2 : R = [] ∧ ok = false := by
      unfold dly at hR; rw [hv] at hR; simp at hR; exact ⟨hR.1, hR.2⟩
    obtain ⟨rfl, rfl⟩ := hR2
    clear hR hv
    go_enter Tryd.func18, Tryd.ntmps18
    go_wp2_with fail
    refine (unhide cT).mono ?_
    rintro e w1 ⟨rfl, k1⟩
    have o1 := hide (ownsRow_below (unhide oA') k1)
    have b1 := hide (laterB (unhide kA') k1)
    clear k1 cT
    go_wp2
    exact bodyPost_ret (v := .tuple #[.slice (some ⟨w.heap.size, 0, none⟩) 0 0, .bool false]) (by simp [results, Tryd.results18, go_sem]) rfl ⟨_, _, rfl, Nat.le_refl _, unhide o1, unhide b1⟩
  obtain ⟨hl2, hbd⟩ := t_bd hv
  by_cases hby : -359999999 ≤ by' ∧ by' ≤ 359999999
  · have hR2 : (if tOk (l.map (sh by')) = true then (l.map (sh by'), true) else ([], false)) = (R, ok) := by
      unfold dly at hR; rw [hv, if_pos rfl, if_pos hby] at hR; exact hR
    have hR' := hide hR2
    have hbd' := hide hbd
    have cI := hide (fun w => in_any by' (-359999999) 359999999 true w (by simp [hby.1, hby.2]))
    obtain ⟨hb0, hb1⟩ := hby
    clear hR hR2 hv hbd
    go_enter Tryd.func18, Tryd.ntmps18
    go_wp2_with fail
    refine (unhide cT).mono ?_
    rintro e w1 ⟨rfl, k1⟩
    have o1 := hide (ownsRow_below (unhide oA') k1)
    have b1 := hide (laterB (unhide kA') k1)
    clear k1 cT oA' kA'
    go_wp2_with fail
    refine (unhide cI _).mono ?_
    rintro e w2 ⟨rfl, rfl⟩
    clear cI
    go_wp2
    go_loopw [6, 7] (fun o t wr => ∃ (k g c : Nat), k ≤ l.length ∧ t = .int .i64 k ∧ o = .slice (some ⟨g, 0, none⟩) k c ∧ w.heap.size ≤ g ∧ Hid (Own wr w.heap.size g k c ((l.take k).map (sh by'))) ∧ Hid (Below w.heap.size w wr)) (fun _ t _ => l.length - (intOf t).toNat)
    case atStart => exact ⟨0, _, _, by omega, rfl, rfl, Nat.le_refl _, o1, b1⟩
    case round =>
      clear o1 b1
      obtain ⟨k, g, c, hk, rfl, rfl, hg, ho, hb⟩ := hrel
      have hs0 := (unhide hb).size
      have hgl := own_lt (unhide ho)
      by_cases hlt : k < l.length
      · obtain ⟨x, hx⟩ : ∃ x, l[k]? = some x := ⟨l[k], List.getElem?_eq_getElem hlt⟩
        obtain ⟨b, o, rfl, i1, c0, c1, c2⟩ := ((unhide hr').below (unhide hb)) k x hx
        obtain ⟨x0, x1, x2⟩ := unhide hbd' x (List.mem_of_getElem? hx)
        have hms := hide (map_snoc (by' := by') hx)
        obtain ⟨x, y, s⟩ := x
        simp only at c0 c1 c2 x0 x1 x2
        clear hx
        generalize (l.take k).map (sh by') = P at *
        have hX := hide ((Below.refl wr.heap.size wr).alloc (Nat.le_refl _) (.cells #[.int .i64 (x + by'), .int .i64 (y + by'), .string s] 32))
        go_wp2_with (at_builtin; refine wpList_kN Tryd.underlying24 (B := w.heap.size) (C := wr.heap.size) (wr := wr) (g := g) (n := k) (cap := c) (L := P) rfl _ _ rfl rfl (unhide ho) (hX := unhide hX) hgl (wr.heap.size + 1) (by simp) rfl (by omega) hs0 hs0 ?_)
        intro g' cap' w' hown' hbel' hg' hlt'
        have o2 := hide (show Own w' w.heap.size g' (k + 1) cap' ((l.take (k + 1)).map (sh by')) by rw [← unhide hms]; exact hown')
        have b2 := hide ((unhide hb).trans hbel')
        clear hown' hbel' ho hb hX hms c0 c1 c2
        go_wp2
        go_roundw
        case rel => exact ⟨k + 1, g', cap', by omega, by go_num, rfl, hg', o2, b2⟩
        case measure => simp [intOf]; omega
      · have hke : k = l.length := by omega
        obtain ⟨P, hP⟩ : ∃ P, l.map (sh by') = P := ⟨_, rfl⟩
        have hPl : P.length = l.length := by rw [← hP]; simp
        have hms := hide (show ∀ x ∈ P, x.2.2.size ≤ 1048576 by rw [← hP]; exact map_size (unhide hsz'))
        have ho2 := hide (show Own wr w.heap.size g P.length c P by
          have := unhide ho
          rw [hke, List.take_length, hP] at this
          rw [hPl]; exact this)
        have hR3 := hide (show (if tOk P = true then (P, true) else ([], false)) = (R, ok) by rw [← hP]; exact unhide hR')
        obtain ⟨v, hv⟩ : ∃ v, tOk P = v := ⟨_, rfl⟩
        have cS := hide (sok_any (some ⟨g, 0, none⟩) c P v wr (by omega) (kls_own (unhide ho2)) (unhide hms) hv)
        have hkP : k = P.length := by omega
        have hltf : decide ((P.length : Int) < (l.length : Int)) = false := decide_eq_false (by omega)
        subst hkP
        clear ho hke hP hms hR' hPl
        cases v
        · have hR2 : R = [] ∧ ok = false := by
            have := unhide hR3; rw [hv] at this; simp at this; exact ⟨this.1, this.2⟩
          obtain ⟨rfl, rfl⟩ := hR2
          clear hR3 hv
          go_wp2_with fail
          refine (unhide cS).mono ?_
          rintro e w3 ⟨rfl, k3⟩
          have b3 := hide (laterB (unhide hb) k3)
          have s3 := (unhide b3).size
          have o3 := hide (own_mono (own_lit0 w3 (Nat.le_refl w3.heap.size)) s3)
          have b4 := hide ((unhide b3).alloc s3 (.cells #[] 32))
          clear k3 cS ho2 hb b3
          go_wp2
          exact bodyPost_ret (v := .tuple #[.slice (some ⟨w3.heap.size, 0, none⟩) 0 0, .bool false]) (by simp [results, Tryd.results18, go_sem]) rfl ⟨_, _, rfl, s3, unhide o3, unhide b4⟩
        · have hR2 : R = P ∧ ok = true := by
            have := unhide hR3; rw [hv] at this; simp at this; exact ⟨this.1.symm, this.2⟩
          obtain ⟨rfl, rfl⟩ := hR2
          clear hR3 hv
          go_wp2_with fail
          refine (unhide cS).mono ?_
          rintro e w3 ⟨rfl, k3⟩
          have b3 := hide (laterB (unhide hb) k3)
          have o3 := hide (ownsRow_below (unhide ho2) k3)
          clear k3 cS ho2 hb
          go_wp2
          exact bodyPost_ret (v := .tuple #[.slice (some ⟨g, 0, none⟩) R.length c, .bool true]) (by simp [results, Tryd.results18, go_sem]) rfl ⟨_, _, rfl, hg, unhide o3, unhide b3⟩
  · have hR2 : R = [] ∧ ok = false := by
      unfold dly at hR; rw [hv, if_pos rfl, if_neg hby] at hR; simp at hR; exact ⟨hR.1, hR.2⟩
    obtain ⟨rfl, rfl⟩ := hR2
    have cI := hide (fun w => in_any by' (-359999999) 359999999 false w (by
      rcases Int.lt_or_le by' (-359999999) with h | h
      · rw [decide_eq_false (p := (-359999999 : Int) ≤ by') (by omega)]; rfl
      · rw [decide_eq_false (p := by' ≤ (359999999 : Int)) (by omega)]; simp))
    clear hR hv hby hbd
    go_enter Tryd.func18, Tryd.ntmps18
    go_wp2_with fail
    refine (unhide cT).mono ?_
    rintro e w1 ⟨rfl, k1⟩
    have o1 := hide (ownsRow_below (unhide oA') k1)
    have b1 := hide (laterB (unhide kA') k1)
    clear k1 cT
    go_wp2_with fail
    refine (unhide cI _).mono ?_
    rintro e w2 ⟨rfl, rfl⟩
    clear cI
    go_wp2
    exact bodyPost_ret (v := .tuple #[.slice (some ⟨w.heap.size, 0, none⟩) 0 0, .bool false]) (by simp [results, Tryd.results18, go_sem]) rfl ⟨_, _, rfl, Nat.le_refl _, unhide o1, unhide b1⟩

end Go.Proofs.YtcpllfjhhlbmiaaDoor
