/-
  Contracts of the law's functions that weigh, copy and hold against each other lists of structs, write marks into them and look for them again.
-/
import Derived.Test.YtpdnceeniokemaaMemL
namespace Go.Proofs.Ytpdnceeniokemaa
open Go.RowKit
set_option linter.unusedVariables false
set_option linter.unusedSimpArgs false

/-- the copy's list as it stands: the first are there, nought behind them -/
def mid (l : List Kl) (n k : Nat) : List Kl := l.take k ++ List.replicate (n - k) (⟨#[]⟩, 0, 0)
theorem mid_len {l : List Kl} {n k : Nat} (hl : l.length = n) (hk : k ≤ n) : (mid l n k).length = n := by simp [mid]; omega
theorem mid_set {l : List Kl} {n k : Nat} {x : Kl} (hl : l.length = n) (h : l[k]? = some x) : (mid l n k).set k x = mid l n (k + 1) := by
  have hk : k < l.length := (List.getElem?_eq_some_iff.1 h).1
  unfold mid
  rw [take_snocK h, List.set_append_right _ _ (by simp; omega)]
  have e : n - k = (n - (k + 1)) + 1 := by omega
  rw [e, List.replicate_succ]
  have e2 : k - (l.take k).length = 0 := by simp; omega
  rw [e2]; simp
theorem made_flK (n : Nat) : (madeCells #[.string ⟨#[]⟩, .int .i64 0, .int .i64 0] (n * 3)).toList = flK (List.replicate n (⟨#[]⟩, 0, 0)) := by
  apply List.ext_getElem
  · simp [madeCells, flK_len]
  · intro i h1 h2
    have hn : i < n * 3 := by rw [flK_len] at h2; simpa using h2
    have hj : (List.replicate n ((⟨#[]⟩, 0, 0) : Kl))[i / 3]? = some (⟨#[]⟩, 0, 0) := by rw [List.getElem?_replicate, if_pos (by omega)]
    obtain ⟨a0, a1, a2⟩ := flK_get hj
    have hr : i % 3 = 0 ∨ i % 3 = 1 ∨ i % 3 = 2 := by omega
    rcases hr with h | h | h
    · have e : i / 3 * 3 = i := by omega
      rw [e, List.getElem?_eq_getElem h2] at a0
      rw [Option.some.inj a0]
      simp [madeCells, h, iv, sv]
    · have e : i / 3 * 3 + 1 = i := by omega
      rw [e, List.getElem?_eq_getElem h2] at a1
      rw [Option.some.inj a1]
      simp [madeCells, h, iv, sv]
    · have e : i / 3 * 3 + 2 = i := by omega
      rw [e, List.getElem?_eq_getElem h2] at a2
      rw [Option.some.inj a2]
      simp [madeCells, h, iv, sv]

set_option maxHeartbeats 1600000 in
theorem tok_any (a : Option Addr) (cap : Nat) (zs : List Kl) (w : World) (hl : zs.length ≤ 1048576) (hr : Kls w a zs) :
    Calls Try.prog 23 #[.slice a zs.length cap] w fun e w' => ∃ B, e = .returned (.slice (some ⟨B, 0, none⟩) zs.length zs.length) ∧ w.heap.size ≤ B ∧ Own w' w.heap.size B zs.length zs.length zs ∧ Below w.heap.size w w' := by
  obtain ⟨i0, hi, hz0, hz1, hz2⟩ := info_parts info44
  go_enter Try.func23, Try.ntmps23
  go_wp2_with (refine wpList_make_full _ rfl _ _ 37 rfl w.heap.size 79 i0 _ 3 Try.underlying37 hi hz0 hz1 .i64 .i64 _ _ zs.length rfl rfl rfl rfl ?b2 ?b3 (Nat.le_refl _) ?_)
  case b2 => rw [hz2]; omega
  case b3 => unfold maxLen; omega
  intro w1 hown hg
  have hb1 : Below w.heap.size w w1 := (Below.refl _ _).grown hg (Nat.le_refl _) (fun k hk => by cases hk)
  have hown1 : Own w1 w.heap.size w.heap.size zs.length zs.length (mid zs zs.length 0) := by
    have e : flK (mid zs zs.length 0) = (madeCells #[.string ⟨#[]⟩, .int .i64 0, .int .i64 0] (zs.length * 3)).toList := by rw [made_flK]; simp [mid]
    show World.ownsRow _ _ _ _ _ _ _
    rw [e]; exact hown
  clear hown hg
  go_wp2
  go_loopw [4] (fun t wr => ∃ k : Nat, k ≤ zs.length ∧ t = .int .i64 k ∧ Hid (Own wr w.heap.size w.heap.size zs.length zs.length (mid zs zs.length k)) ∧ Hid (Below w.heap.size w wr)) (fun t _ => zs.length - (intOf t).toNat)
  case atStart => exact ⟨0, by omega, rfl, hide hown1, hide hb1⟩
  case round =>
    clear hown1 hb1
    obtain ⟨k, hk, rfl, hown, hb⟩ := hrel
    by_cases hlt : k < zs.length
    · obtain ⟨z, hz⟩ : ∃ z, zs[k]? = some z := ⟨zs[k], List.getElem?_eq_getElem hlt⟩
      obtain ⟨b, o, rfl, h2, c0, c1, c2⟩ := hr k z hz
      have hc0 : wr.cell? ⟨b, o + k * 3, none⟩ = some (.string z.1) := by rw [(bcell (unhide hb)).1 _ _ h2]; exact c0
      have hc1 : wr.cell? ⟨b, o + k * 3 + 1, none⟩ = some (.int .i64 z.2.1) := by rw [(bcell (unhide hb)).1 _ _ h2]; exact c1
      have hc2 : wr.cell? ⟨b, o + k * 3 + 2, none⟩ = some (.int .i64 z.2.2) := by rw [(bcell (unhide hb)).1 _ _ h2]; exact c2
      have hr' := hide hr
      have hz' := hide hz
      clear hr hz c0 c1 c2
      go_wp2_with fail
      refine (tok1_any z.1 z.2.1 z.2.2 _).mono ?_
      rintro e w3 ⟨rfl, hb3⟩
      have own3 := ownsRow_below (unhide hown) hb3
      have hml : k < (mid zs zs.length k).length := by rw [mid_len rfl hk]; exact hlt
      obtain ⟨x0, x1, x2⟩ := own_cells (List.getElem?_eq_getElem hml) own3
      have f0 := own3.frozenAt (k * 3)
      have f1 := own3.frozenAt (k * 3 + 1)
      have f2 := own3.frozenAt (k * 3 + 2)
      have hnew := hide (show _ from by have := own_put (x := z) hml own3; rw [mid_set rfl (unhide hz')] at this; exact this)
      have hB3 := hide ((unhide hb).trans (hb3.mono (unhide hb).size))
      generalize (mid zs zs.length k)[k].1 = u0 at *
      generalize (mid zs zs.length k)[k].2.1 = u1 at *
      generalize (mid zs zs.length k)[k].2.2 = u2 at *
      clear own3 hb3 hown hb hml
      go_wp2
      go_roundw
      case rel => exact ⟨k + 1, by omega, by go_num, hnew, hide ((((unhide hB3).setCell (Nat.le_refl _) _).setCell (Nat.le_refl _) _).setCell (Nat.le_refl _) _)⟩
      case measure => simp [intOf]; omega
    · have hke : k = zs.length := by omega
      have hr' := hide hr
      clear hr
      go_wp2
      go_ret
      refine ⟨_, rfl, Nat.le_refl _, ?_, unhide hb⟩
      have := unhide hown
      rw [hke] at this
      simpa [mid] using this

theorem keepN {w w0 w1 : World} {a0 a1 a2 a3 a4 a5 : Addr} {v0 v1 v2 v3 v4 v5 : Value}
    (h : w0.cell? a0 = some v0 ∧ w0.cell? a1 = some v1 ∧ w0.cell? a2 = some v2 ∧ w0.cell? a3 = some v3 ∧ w0.cell? a4 = some v4 ∧ w0.cell? a5 = some v5 ∧ Below w.heap.size w w0) (hb : Below w0.heap.size w0 w1) :
    w1.cell? a0 = some v0 ∧ w1.cell? a1 = some v1 ∧ w1.cell? a2 = some v2 ∧ w1.cell? a3 = some v3 ∧ w1.cell? a4 = some v4 ∧ w1.cell? a5 = some v5 ∧ Below w.heap.size w w1 := by
  obtain ⟨h0, h1, h2, h3, h4, h5, hB⟩ := h
  exact ⟨cell_later hb h0, cell_later hb h1, cell_later hb h2, cell_later hb h3, cell_later hb h4, cell_later hb h5, hB.trans (hb.mono hB.size)⟩
theorem keepNd {w w0 : World} {a0 a1 a2 a3 a4 a5 : Addr} {v0 v1 v2 v3 v4 v5 : Value}
    (h : w0.cell? a0 = some v0 ∧ w0.cell? a1 = some v1 ∧ w0.cell? a2 = some v2 ∧ w0.cell? a3 = some v3 ∧ w0.cell? a4 = some v4 ∧ w0.cell? a5 = some v5 ∧ Below w.heap.size w w0) : w0.drew.cell? a0 = some v0 ∧ w0.drew.cell? a1 = some v1 ∧ w0.drew.cell? a2 = some v2 ∧ w0.drew.cell? a3 = some v3 ∧ w0.drew.cell? a4 = some v4 ∧ w0.drew.cell? a5 = some v5 ∧ Below w.heap.size w w0.drew := by
  obtain ⟨h0, h1, h2, h3, h4, h5, hB⟩ := h
  exact ⟨h0, h1, h2, h3, h4, h5, hB.drew⟩

set_option maxHeartbeats 1600000 in
theorem eqks_any (a b : Option Addr) (ca cb : Nat) (l : List Kl) (w : World) (hl : l.length ≤ 1048576) (ha : Kls w a l) (hb : Kls w b l) :
    Calls Try.prog 25 #[.slice a l.length ca, .slice b l.length cb] w fun e w' => e = .returned (.bool true) ∧ Below w.heap.size w w' := by
  have ha' := hide ha
  have hb' := hide hb
  clear ha hb
  have hne : ((l.length : Int) != l.length) = false := by simp
  go_enter Try.func25, Try.ntmps25
  go_wp2
  go_loopw [5] (fun t wr => ∃ k : Nat, k ≤ l.length ∧ t = .int .i64 k ∧ Below w.heap.size w wr) (fun t _ => l.length - (intOf t).toNat)
  case atStart => exact ⟨0, by omega, rfl, Below.refl _ _⟩
  case round =>
    obtain ⟨k, hk, rfl, hw⟩ := hrel
    by_cases hlt : k < l.length
    · obtain ⟨x, hx⟩ : ∃ x, l[k]? = some x := ⟨l[k], List.getElem?_eq_getElem hlt⟩
      obtain ⟨b1, o1, rfl, i1, c0, c1, c2⟩ := unhide ha' k x hx
      obtain ⟨b2, o2, rfl, i2, e0, e1, e2⟩ := unhide hb' k x hx
      have C := fun o => (bcell hw).1 b1 o i1
      have E := fun o => (bcell hw).1 b2 o i2
      obtain ⟨x0, x1, x2⟩ := x
      have hall : Hid (wr.cell? ⟨b1, o1 + k * 3, none⟩ = some (.string x0) ∧ wr.cell? ⟨b1, o1 + k * 3 + 1, none⟩ = some (.int .i64 x1) ∧ wr.cell? ⟨b1, o1 + k * 3 + 2, none⟩ = some (.int .i64 x2) ∧ wr.cell? ⟨b2, o2 + k * 3, none⟩ = some (.string x0) ∧ wr.cell? ⟨b2, o2 + k * 3 + 1, none⟩ = some (.int .i64 x1) ∧ wr.cell? ⟨b2, o2 + k * 3 + 2, none⟩ = some (.int .i64 x2) ∧ Below w.heap.size w wr) := hide ⟨(C _).trans c0, (C _).trans c1, (C _).trans c2, (E _).trans e0, (E _).trans e1, (E _).trans e2, hw⟩
      have hw' := hide hw
      clear hx c0 e0 c1 e1 c2 e2 hw C E
      go_wp2_with fail
      go_region_held3 (fun w' => w'.cell? ⟨b1, o1 + k * 3, none⟩ = some (.string x0) ∧ w'.cell? ⟨b1, o1 + k * 3 + 1, none⟩ = some (.int .i64 x1) ∧ w'.cell? ⟨b1, o1 + k * 3 + 2, none⟩ = some (.int .i64 x2) ∧ w'.cell? ⟨b2, o2 + k * 3, none⟩ = some (.string x0) ∧ w'.cell? ⟨b2, o2 + k * 3 + 1, none⟩ = some (.int .i64 x1) ∧ w'.cell? ⟨b2, o2 + k * 3 + 2, none⟩ = some (.int .i64 x2) ∧ Below w.heap.size w w')
        (first | (refine keepN ?_ hb; assumption) | (exact keepNd (unhide hall)))
        ((go_at_call 64; refine (eqk_any x0 x1 x2 _).mono ?_; rintro e w1 ⟨rfl, hb⟩))
      go_wp2
      go_roundw
      case rel => exact ⟨k + 1, by omega, by go_num, by rename_i hH; exact hH.2.2.2.2.2.2⟩
      case measure => simp [intOf]; omega
    · have hke : k = l.length := by omega
      go_wp2
      go_ret
      exact ⟨rfl, hw⟩

end Go.Proofs.Ytpdnceeniokemaa
