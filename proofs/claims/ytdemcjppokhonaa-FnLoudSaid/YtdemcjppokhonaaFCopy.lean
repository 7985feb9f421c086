/-
  Contracts of the law's functions that copy lists of floats and hold them against each other; nothing that was there is written.
-/
import Derived.Test.YtdemcjppokhonaaMem
namespace Go.Proofs.Ytdemcjppokhonaa
open Go.RowKit
set_option linter.unusedVariables false
set_option linter.unusedSimpArgs false

def fl (x : Nat) : Value := .float .f64 x
theorem info22 : (Try.prog.info? 25).map (fun i => (i.zero, i.size, i.bytes)) = some (some (.float .f64 0), 1, 8) := by kernel_rfl
theorem take_snoc {α : Type} {l : List α} {k : Nat} {x : α} (h : l[k]? = some x) : l.take (k + 1) = l.take k ++ [x] := by
  rw [List.take_add_one, h]; rfl
theorem ownsRow_below {w w1 : World} {B n m : Nat} {e : TypeId} {v : Value} {xs : List Value} (h : w.ownsRow B e m v n xs) (hb : Below w.heap.size w w1) : w1.ownsRow B e m v n xs := by
  obtain ⟨h1, h2⟩ := h
  refine ⟨h1, ?_⟩
  rcases h2 with h2 | ⟨g, cap, cur, hv, hg, hh, r⟩
  · exact Or.inl h2
  · exact Or.inr ⟨g, cap, cur, hv, hg, by rw [hb.block g (by have := (Array.getElem?_eq_some_iff.1 hh).1; exact this)]; exact hh, r⟩
theorem own_mono {w : World} {B B' n m : Nat} {e : TypeId} {v : Value} {xs : List Value} (h : w.ownsRow B e m v n xs) (hB : B' ≤ B) : w.ownsRow B' e m v n xs := by
  obtain ⟨h1, h2⟩ := h
  refine ⟨h1, ?_⟩
  rcases h2 with h2 | ⟨g, cap, cur, hv, hg, r⟩
  · exact Or.inl h2
  · exact Or.inr ⟨g, cap, cur, hv, by omega, r⟩
theorem own_lt {w : World} {B g n cap m : Nat} {e : TypeId} {xs : List Value} (h : w.ownsRow B e m (.slice (some ⟨g, 0, none⟩) n cap) n xs) : g < w.heap.size := (h.lt g rfl).2
theorem fls_of_own {w : World} {B g n cap : Nat} {l : List Nat} (h : w.ownsRow B 25 1 (.slice (some ⟨g, 0, none⟩) n cap) n (l.map fl)) : Fls true g (g + 1) w (some ⟨g, 0, none⟩) l := by
  intro j z hj
  have hl : l.length = n := by have := h.1; simpa using this
  have hjl : j < l.length := (List.getElem?_eq_some_iff.1 hj).1
  have hc := h.cellAt j (by omega)
  rw [List.getElem?_map, hj] at hc
  exact ⟨g, 0, rfl, by omega, by omega, by rw [Nat.zero_add]; exact hc, fun _ => by rw [Nat.zero_add]; exact h.frozenAt j⟩
theorem tof_step {w : World} {B g n k : Nat} {zs : List Nat} {z : Nat} (hl : zs.length = n) (hz : zs[k]? = some z) (h : w.ownsRow B 25 1 (.slice (some ⟨g, 0, none⟩) n n) n ((zs.take k).map fl ++ List.replicate (n - k) (fl 0))) :
    (w.setCell ⟨g, k, none⟩ (.float .f64 z)).ownsRow B 25 1 (.slice (some ⟨g, 0, none⟩) n n) n ((zs.take (k + 1)).map fl ++ List.replicate (n - (k + 1)) (fl 0)) := by
  have hk : k < zs.length := (List.getElem?_eq_some_iff.1 hz).1
  have h1 := (h.stored k (fl z)).1
  have e : ((zs.take k).map fl ++ List.replicate (n - k) (fl 0)).set k (fl z) = (zs.take (k + 1)).map fl ++ List.replicate (n - (k + 1)) (fl 0) := by
    rw [take_snoc hz, List.set_append_right _ _ (by simp; omega)]
    have e : n - k = (n - (k + 1)) + 1 := by omega
    rw [e, List.replicate_succ]
    have e2 : k - ((zs.take k).map fl).length = 0 := by simp; omega
    rw [e2]; simp
  rw [e] at h1
  exact h1
theorem tof_cell {w : World} {B g n k : Nat} {zs : List Nat} (hl : zs.length = n) (hk : k < n) (h : w.ownsRow B 25 1 (.slice (some ⟨g, 0, none⟩) n n) n ((zs.take k).map fl ++ List.replicate (n - k) (fl 0))) :
    w.cell? ⟨g, k, none⟩ = some (.float .f64 0) ∧ w.frozen? ⟨g, k, none⟩ = false := by
  refine ⟨?_, h.frozenAt k⟩
  rw [h.cellAt k (by omega), List.getElem?_append_right (by simp; omega)]
  have e2 : k - ((zs.take k).map fl).length = 0 := by simp; omega
  rw [e2]
  have e : n - k = (n - (k + 1)) + 1 := by omega
  rw [e, List.replicate_succ]; rfl

set_option maxHeartbeats 400000 in
theorem tof_any (a : Option Addr) (cap : Nat) (zs : List Nat) (w : World) (hl : zs.length ≤ 1048576) (hr : Fls false 0 w.heap.size w a zs) :
    Calls Try.prog 28 #[.slice a zs.length cap] w fun e w' => ∃ B, e = .returned (.slice (some ⟨B, 0, none⟩) zs.length zs.length) ∧ w.heap.size ≤ B ∧ w'.ownsRow w.heap.size 25 1 (.slice (some ⟨B, 0, none⟩) zs.length zs.length) zs.length (zs.map fl) ∧ Below w.heap.size w w' := by
  obtain ⟨i0, hi, hz0, hz1, hz2⟩ := info_parts info22
  go_enter Try.func28, Try.ntmps28
  go_wp2_with (refine wpList_make_full _ rfl _ _ 24 rfl w.heap.size 25 i0 (.float .f64 0) 1 Try.underlying24 hi hz0 hz1 .i64 .i64 _ _ zs.length rfl rfl rfl rfl ?b2 ?b3 (Nat.le_refl _) ?_)
  case b2 => rw [hz2]; omega
  case b3 => unfold maxLen; omega
  intro w1 hown hg
  have hb1 : Below w.heap.size w w1 := (Below.refl _ _).grown hg (Nat.le_refl _) (fun k hk => by cases hk)
  have hown1 : w1.ownsRow w.heap.size 25 1 (.slice (some ⟨w.heap.size, 0, none⟩) zs.length zs.length) zs.length ((zs.take 0).map fl ++ List.replicate (zs.length - 0) (fl 0)) := by
    rw [toList_madeCells_one] at hown; simpa [fl] using hown
  clear hown hg
  go_wp2
  go_loopw [4] (fun t wr => ∃ k : Nat, k ≤ zs.length ∧ t = .int .i64 k ∧ wr.ownsRow w.heap.size 25 1 (.slice (some ⟨w.heap.size, 0, none⟩) zs.length zs.length) zs.length ((zs.take k).map fl ++ List.replicate (zs.length - k) (fl 0)) ∧ Below w.heap.size w wr) (fun t _ => zs.length - (intOf t).toNat)
  case atStart => exact ⟨0, by omega, rfl, hown1, hb1⟩
  case round =>
    clear hown1 hb1
    obtain ⟨k, hk, rfl, hown, hb⟩ := hrel
    by_cases hlt : k < zs.length
    · obtain ⟨z, hz⟩ : ∃ z, zs[k]? = some z := ⟨zs[k], List.getElem?_eq_getElem hlt⟩
      obtain ⟨b, o, rfl, h1, h2, hc, _⟩ := hr k z hz
      obtain ⟨hc2, hf2⟩ := tof_cell rfl hlt hown
      have hnew := hide (tof_step rfl hz hown)
      have hcw : wr.cell? ⟨b, o + k, none⟩ = some (.float .f64 z) := by rw [(bcell hb).1 _ _ h2]; exact hc
      have hb' := hide hb
      have hr' := hide hr
      clear hown hb hr hz hc
      go_wp2
      go_roundw
      case rel => exact ⟨k + 1, by omega, by go_num, unhide hnew, (unhide hb').setCell (Nat.le_refl _) _⟩
      case measure => simp [intOf]; omega
    · have hke : k = zs.length := by omega
      have hr' := hide hr
      clear hr
      go_wp2
      go_ret
      refine ⟨_, rfl, Nat.le_refl _, ?_, hb⟩
      rw [hke] at hown
      simpa using hown

/-- like lists, all NaNs one -/
def SmL (l m : List Nat) : Prop := l.length = m.length ∧ ∀ (j x y : Nat), l[j]? = some x → m[j]? = some y → Sm x y
theorem SmL.rfl {l : List Nat} : SmL l l := ⟨_root_.rfl, fun j x y h1 h2 => by rw [h1] at h2; cases h2; exact Sm.rfl⟩

theorem keep2 {w w0 w1 : World} {a1 a2 : Addr} {v1 v2 : Value}
    (h : w0.cell? a1 = some v1 ∧ w0.cell? a2 = some v2 ∧ Below w.heap.size w w0) (hb : Below w0.heap.size w0 w1) :
    w1.cell? a1 = some v1 ∧ w1.cell? a2 = some v2 ∧ Below w.heap.size w w1 := by
  obtain ⟨h1, h2, h7⟩ := h
  exact ⟨cell_later hb h1, cell_later hb h2, h7.trans (hb.mono h7.size)⟩
theorem keep2d {w w0 : World} {a1 a2 : Addr} {v1 v2 : Value}
    (h : w0.cell? a1 = some v1 ∧ w0.cell? a2 = some v2 ∧ Below w.heap.size w w0) :
    w0.drew.cell? a1 = some v1 ∧ w0.drew.cell? a2 = some v2 ∧ Below w.heap.size w w0.drew := by
  obtain ⟨h1, h2, h7⟩ := h
  exact ⟨h1, h2, h7.drew⟩

theorem same2_any (a b : Nat) (h : Sm a b) (w : World) : Calls Try.prog 32 #[.float .f64 a, .float .f64 b] w fun e w' => e = .returned (.bool true) ∧ Below w.heap.size w w' :=
  (same_any a b h w).mono fun e w' ⟨he, n, hn⟩ => ⟨he, by rw [hn]; exact below_drew n⟩

set_option maxHeartbeats 800000 in
theorem eqfl_any (a b : Option Addr) (ca cb : Nat) (l m : List Nat) (w : World) (hl : l.length ≤ 1048576) (hs : SmL l m) (ha : Fls false 0 w.heap.size w a l) (hb : Fls false 0 w.heap.size w b m) :
    Calls Try.prog 29 #[.slice a l.length ca, .slice b m.length cb] w fun e w' => e = .returned (.bool true) ∧ Below w.heap.size w w' := by
  have ha' := hide ha
  have hb' := hide hb
  have hs' := hide hs
  have hml := hs.1
  clear ha hb hs
  rw [← hml]
  have hml' := hide hml
  clear hml
  have hne : ((l.length : Int) != l.length) = false := by simp
  go_enter Try.func29, Try.ntmps29
  go_wp2
  go_loopw [5] (fun t wr => ∃ k : Nat, k ≤ l.length ∧ t = .int .i64 k ∧ Below w.heap.size w wr) (fun t _ => l.length - (intOf t).toNat)
  case atStart => exact ⟨0, by omega, rfl, Below.refl _ _⟩
  case round =>
    obtain ⟨k, hk, rfl, hw⟩ := hrel
    by_cases hlt : k < l.length
    · obtain ⟨x, hx⟩ : ∃ x, l[k]? = some x := ⟨l[k], List.getElem?_eq_getElem hlt⟩
      obtain ⟨y, hy⟩ : ∃ y, m[k]? = some y := ⟨m[k]'(by rw [← unhide hml']; exact hlt), List.getElem?_eq_getElem (by rw [← unhide hml']; exact hlt)⟩
      have hsm := hide ((unhide hs').2 k x y hx hy)
      obtain ⟨b1, o1, rfl, _, i1, c0, _⟩ := unhide ha' k x hx
      obtain ⟨b2, o2, rfl, _, i2, e0, _⟩ := unhide hb' k y hy
      have C := fun o => (bcell hw).1 b1 o i1
      have E := fun o => (bcell hw).1 b2 o i2
      have hall : Hid (wr.cell? ⟨b1, o1 + k, none⟩ = some (.float .f64 x) ∧ wr.cell? ⟨b2, o2 + k, none⟩ = some (.float .f64 y) ∧ Below w.heap.size w wr) := hide ⟨(C _).trans c0, (E _).trans e0, hw⟩
      have hw' := hide hw
      clear hx hy c0 e0 hw C E
      go_wp2_with fail
      go_region_held3 (fun w' => w'.cell? ⟨b1, o1 + k, none⟩ = some (.float .f64 x) ∧ w'.cell? ⟨b2, o2 + k, none⟩ = some (.float .f64 y) ∧ Below w.heap.size w w')
        (first | (refine keep2 ?_ hb; assumption) | (exact keep2d (unhide hall)))
        ((go_at_call 32; refine (same2_any x y (unhide hsm) _).mono ?_; rintro e w1 ⟨rfl, hb⟩))
      go_wp2
      go_roundw
      case rel => exact ⟨k + 1, by omega, by go_num, by rename_i hH; exact hH.2.2⟩
      case measure => simp [intOf]; omega
    · have hke : k = l.length := by omega
      go_wp2
      go_ret
      exact ⟨rfl, hw⟩
end Go.Proofs.Ytdemcjppokhonaa
