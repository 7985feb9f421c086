/-
  One box of a drawn list that is spoilt: what is known of the list behind it. No conditions.
-/
import Derived.Test.YtfdbnlmfnhhcbaaDrawC
namespace Go.Proofs.Ytfdbnlmfnhhcbaa
open Go.RowKit
set_option linter.unusedVariables false
set_option linter.unusedSimpArgs false

def Good (L : List (Bx × (Option Addr × Nat))) : Prop := ∀ p ∈ L, p.1.k.size ≤ 5 ∧ p.1.z.length ≤ 20001 ∧ (p.2.1 = none → p.2.2 = 0)
theorem BSt.good {w wx : World} {Bc g len cap : Nat} {a : Option Addr} {v : Value} {L : List (Bx × (Option Addr × Nat))} (hb : BSt w Bc g a len cap v L wx) (h : GD L) : Good L := fun p hp => by
  have h1 := h p hp
  refine ⟨by omega, by omega, fun e => ?_⟩
  rcases (hb.rows p hp).2 with ⟨e1, _⟩ | ⟨g', cap', cur, e1, _⟩
  · unfold rowOf at e1
    injection e1
  · unfold rowOf at e1
    injection e1 with e2
    rw [e] at e2
    cases e2
theorem Good.set {L : List (Bx × (Option Addr × Nat))} {p : Bx × (Option Addr × Nat)} (h : Good L) (k : Nat) (h1 : p.1.k.size ≤ 5) (h2 : p.1.z.length ≤ 20001) (h3 : p.2.1 = none → p.2.2 = 0) : Good (L.set k p) := by
  intro q hq
  rcases List.mem_or_eq_of_mem_set hq with hq | rfl
  · exact h q hq
  · exact ⟨h1, h2, h3⟩
theorem BSt.dst {w wx : World} {Bc g len cap : Nat} {a : Option Addr} {v : Value} {L : List (Bx × (Option Addr × Nat))} (h : BSt w Bc g a len cap v L wx) : DSt w Bc g a len cap v L wx := ⟨h.cur, h.rd, h.gr, h.own⟩

theorem dst_upd {w wy : World} {Bc g len cap G nL cv k f : Nat} {a : Option Addr} {L : List (Bx × (Option Addr × Nat))} {p p' : Bx × (Option Addr × Nat)} {u : Value} (hg : Bc ≤ g) (hgl : g < w.heap.size)
    (cur : CurAt wy g a len cap) (rd : RdB wy Bc a len) (gr : w.grownBy wy (some g)) (h1 : wy.ownsRow w.heap.size 42 3 (.slice (some ⟨G, 0, none⟩) nL cv) nL (flatL L)) (hL : L.length = nL) (hk : L[k]? = some p) (hf : f < 3) (hc : (cell3 p).set f u = cell3 p')
    (h2 : ∀ j q, j ≠ k → L[j]? = some q → GoodP wy w.heap.size (.slice (some ⟨G, 0, none⟩) nL cv) q) (hp : GoodP wy w.heap.size (.slice (some ⟨G, 0, none⟩) nL cv) p') (h3 : DistL L) (hd : ∀ j q x y, j ≠ k → L[j]? = some q → q.2.1 = some x → p'.2.1 = some y → x.block ≠ y.block) :
    DSt w Bc g a len cap (.slice (some ⟨G, 0, none⟩) nL cv) (L.set k p') (wy.setCell ⟨G, k * 3 + f, none⟩ u) := by
  have hGlo : w.heap.size ≤ G := (h1.lt G rfl).1
  have hkl : k < L.length := (List.getElem?_eq_some_iff.1 hk).1
  have hkeep : ∀ q, GoodP wy w.heap.size (.slice (some ⟨G, 0, none⟩) nL cv) q → GoodP (wy.setCell ⟨G, k * 3 + f, none⟩ u) w.heap.size (.slice (some ⟨G, 0, none⟩) nL cv) q := fun q hq =>
    hq.kept (by simp [World.setCell]) (fun y hy _ _ => Below.heap_setCell _ _ _ _ (fun e => (hq.2.2.2.2.2.2 y hy).2 (by
      show some G = some y.block
      first | exact congrArg some e | exact congrArg some e.symm)))
  refine ⟨cur.other (Below.heap_setCell _ _ _ _ (by show g ≠ G; omega)), ?_, ?_, ?_, ?_, ?_⟩
  · intro j hj
    obtain ⟨b, o, z, e, hb1, hc1, h0, h1'⟩ := rd j hj
    exact ⟨b, o, z, e, hb1, by rw [World.cell?_setCell_other _ _ _ _ (by intro e; injection e with e _ _; omega)]; exact hc1, h0, h1'⟩
  · exact ⟨gr.os, gr.tape, gr.output, by simpa [World.setCell] using gr.size, fun j hj hn => (Below.heap_setCell _ _ _ _ (by show j ≠ G; omega)).trans (gr.block j hj hn)⟩
  · rw [List.length_set, ← flatL_set L k p p' f u hk hf hc, hL]
    exact (h1.stored (k * 3 + f) u).1
  · intro q hq
    obtain ⟨j, hj⟩ := List.getElem?_of_mem hq
    rw [List.getElem?_set] at hj
    split at hj
    · simp at hj
      obtain ⟨_, rfl⟩ := hj
      exact hkeep _ hp
    · rename_i hne
      exact hkeep q (h2 j q (fun e => hne e.symm) hj)
  · intro i j x' y' x y hij ha hb hx hy
    rw [List.getElem?_set] at ha hb
    split at ha
    · rename_i hi
      subst hi
      rw [if_neg (by omega)] at hb
      simp at ha
      obtain ⟨_, rfl⟩ := ha
      exact fun e => hd j y' y x (by omega) hb hy hx e.symm
    · split at hb
      · rename_i hj
        subst hj
        simp at hb
        obtain ⟨_, rfl⟩ := hb
        exact hd i x' x y (by omega) ha hx hy
      · exact h3 i j x' y' x y hij ha hb hx hy
theorem dist_at {L : List (Bx × (Option Addr × Nat))} (h : DistL L) {j k : Nat} {p q : Bx × (Option Addr × Nat)} {x y : Addr} (hne : j ≠ k) (hj : L[j]? = some q) (hk : L[k]? = some p) (hx : q.2.1 = some x) (hy : p.2.1 = some y) : x.block ≠ y.block := by
  by_cases e : j < k
  · exact h j k q p x y e hj hk hx hy
  · exact fun e2 => h k j p q y x (by omega) hk hj hy hx e2.symm
/-- kind or depth of one box set anew -/
theorem BSt.spoil {w wy : World} {Bc g len cap G nL cv k f : Nat} {a : Option Addr} {L : List (Bx × (Option Addr × Nat))} {p : Bx × (Option Addr × Nat)} {u : Value} (h : BSt w Bc g a len cap (.slice (some ⟨G, 0, none⟩) nL cv) L wy) (hg : Bc ≤ g) (hgl : g < w.heap.size) (hL : L.length = nL) (hk : L[k]? = some p) (s : ByteArray) (d : Int) (hs : s.size ≤ 5) (d0 : -1000 ≤ d) (d1 : d ≤ 1000)
    (hf : f < 3) (hc : (cell3 p).set f u = cell3 (⟨s, d, p.1.z⟩, p.2)) (hgd : Good L) :
    ∃ L', L'.length = nL ∧ Good L' ∧ DSt w Bc g a len cap (.slice (some ⟨G, 0, none⟩) nL cv) L' (wy.setCell ⟨G, k * 3 + f, none⟩ u) := by
  have hpm := List.mem_of_getElem? hk
  obtain ⟨r1, r2, r3, r4, r5, r6, r7⟩ := h.own.2.1 p hpm
  refine ⟨L.set k (⟨s, d, p.1.z⟩, p.2), by rw [List.length_set]; exact hL, hgd.set k hs (hgd p hpm).2.1 (hgd p hpm).2.2, ?_⟩
  refine dst_upd hg hgl h.cur h.rd h.gr (by have := h.own.1; rw [hL] at this; exact this) hL hk hf hc (fun j q _ hj => h.own.2.1 q (List.mem_of_getElem? hj)) ⟨r1, by show s.size ≤ maxLen; unfold maxLen; omega, by show -9223372036854775808 ≤ d; omega, by show d ≤ 9223372036854775807; omega, r5, r6, r7⟩ h.own.2.2 ?_
  intro j q x y hne hj hx hy
  exact dist_at h.own.2.2 hne hj hk hx hy
/-- the bytes of one box set anew: a row of its own, where the old one lay or new -/
theorem BSt.spoilRow {w wx wy : World} {Bc g len cap G nL cv k g' c' n' : Nat} {a : Option Addr} {L : List (Bx × (Option Addr × Nat))} {p : Bx × (Option Addr × Nat)} {zs : List Int} (h : BSt w Bc g a len cap (.slice (some ⟨G, 0, none⟩) nL cv) L wx) (hg : Bc ≤ g) (hgl : g < w.heap.size) (hL : L.length = nL) (hk : L[k]? = some p) (hgd : Good L)
    (gg : wx.grownBy wy (rowOf p).ownBlock) (hown : wy.ownsRow w.heap.size 5 1 (.slice (some ⟨g', 0, none⟩) n' c') n' (zs.map u8)) (hn' : zs.length = n') (hz : ∀ z ∈ zs, 0 ≤ z ∧ z ≤ 255) (hzl : n' ≤ 20001) (hat : (rowOf p).ownBlock = some g' ∨ wx.heap.size ≤ g') :
    ∃ L', L'.length = nL ∧ Good L' ∧ DSt w Bc g a len cap (.slice (some ⟨G, 0, none⟩) nL cv) L' (wy.setCell ⟨G, k * 3 + 2, none⟩ (.slice (some ⟨g', 0, none⟩) n' c')) := by
  have hpm := List.mem_of_getElem? hk
  obtain ⟨r1, r2, r3, r4, r5, r6, r7⟩ := h.own.2.1 p hpm
  have hrl := h.rows p hpm
  have hG := h.own.1.lt G rfl
  have hne : ∀ b, b < w.heap.size → some b ≠ (rowOf p).ownBlock := fun b hb e => by have := (hrl.lt b e.symm).1; omega
  have hneG : some G ≠ (rowOf p).ownBlock := fun e => by
    obtain ⟨y, hy, he⟩ := rowOf_blk e.symm
    exact (r7 y hy).2 (by rw [he]; rfl)
  have hg'G : g' ≠ G := by
    rcases hat with hat | hat
    · exact fun e => hneG (by rw [hat, e])
    · omega
  have hg'lt := (hown.lt g' rfl).2
  obtain ⟨cap0, cur0, hcap⟩ : ∃ q r : Nat, n' ≤ c' ∧ c' ≤ maxLen := by
    rcases hown.2 with ⟨e, _⟩ | ⟨g2, cap2, cur2, e, _, _, hnc, hcm, _⟩
    · cases e
    · injection e with e1 e2 e3
      subst e3
      exact ⟨0, 0, hnc, hcm⟩
  refine ⟨L.set k (⟨p.1.k, p.1.d, zs⟩, (some ⟨g', 0, none⟩, c')), by rw [List.length_set]; exact hL, hgd.set k (hgd p hpm).1 (by show zs.length ≤ 20001; omega) (fun e => by cases e), ?_⟩
  subst hn'
  refine dst_upd hg hgl (h.cur.other (gg.block g h.cur.lt (hne g hgl))) ?_ ?_ ?_ hL hk (by decide) rfl ?_ ?_ h.own.2.2 ?_
  · intro j hj
    obtain ⟨b, o, z, e, hb1, hc1, h0, h1'⟩ := h.rd j hj
    exact ⟨b, o, z, e, hb1, gg.cell hc1 (hne b (by omega)), h0, h1'⟩
  · exact ⟨gg.os.trans h.gr.os, gg.tape.trans h.gr.tape, gg.output.trans h.gr.output, Nat.le_trans h.gr.size gg.size, fun j hj hn => (gg.block j (Nat.lt_of_lt_of_le hj h.gr.size) (hne j hj)).trans (h.gr.block j hj hn)⟩
  · have h0 := h.own.1
    rw [hL] at h0
    exact own_kept h0 (fun b hb => by
      have e : G = b := Option.some.inj hb
      subst e
      exact gg.block G hG.2 hneG)
  · intro j q hj hq
    refine (h.own.2.1 q (List.mem_of_getElem? hq)).kept gg.size (fun y hy _ hlt => gg.block _ hlt (fun e => ?_))
    obtain ⟨y2, hy2, he2⟩ := rowOf_blk e.symm
    exact dist_at h.own.2.2 hj hq hk hy hy2 he2.symm
  · refine ⟨(row_of_own hown hz).mono (hown.lt g' rfl).1 (by show g' + 1 ≤ wy.heap.size; omega), r2, r3, r4, hcap.1, hcap.2, ?_⟩
    intro y hy
    have e : (⟨g', 0, none⟩ : Addr) = y := Option.some.inj hy
    subst e
    exact ⟨hg'lt, fun e => hg'G (Option.some.inj e).symm⟩
  · intro j q x y hj hq hx hy
    have e : (⟨g', 0, none⟩ : Addr) = y := Option.some.inj hy
    subst e
    show x.block ≠ g'
    rcases hat with hat | hat
    · obtain ⟨y2, hy2, he2⟩ := rowOf_blk hat
      have := dist_at h.own.2.2 hj hq hk hx hy2
      rw [he2] at this
      exact this
    · have := ((h.own.2.1 q (List.mem_of_getElem? hq)).2.2.2.2.2.2 x hx).1
      omega
theorem dst_new {w wx : World} {Bc g len cap : Nat} {a : Option Addr} {v : Value} {L : List (Bx × (Option Addr × Nat))} (h : DSt w Bc g a len cap v L wx) (hg : Bc ≤ g) (hgl : g < w.heap.size) : DSt w Bc g a len cap (.slice (some ⟨wx.heap.size, 0, none⟩) 0 0) [] (wx.alloc (.cells #[] 42)) := by
  have h2 := h.alloc hg hgl (.cells #[] 42)
  exact ⟨h2.cur, h2.rd, h2.gr, (OwnL.nil (World.ownsRow_lit (base := wx.heap.size) (e := 42) (size := 3) wx #[] 0 (Nat.le_refl _) (by unfold maxLen; omega) rfl)).mono h.gr.size⟩
theorem DSt.offg {w wx : World} {Bc g len cap : Nat} {a : Option Addr} {v : Value} {L : List (Bx × (Option Addr × Nat))} (h : DSt w Bc g a len cap v L wx) (hgl : g < w.heap.size) (hnil : ∀ p ∈ L, p.2.1 = none) : Off g v L :=
  ⟨fun e => by have := (h.own.1.lt g e).1; omega, fun p hp y hy => by rw [hnil p hp] at hy; cases hy⟩
/-- a box without bytes -/
theorem good_nil {w : World} {B : Nat} {v : Value} (s : ByteArray) (d : Int) (hs : s.size ≤ 5) (d0 : -1000 ≤ d) (d1 : d ≤ 1000) : GoodP w B v (⟨s, d, []⟩, (none, 0)) :=
  ⟨Row.nil, by show s.size ≤ maxLen; unfold maxLen; omega, by show -9223372036854775808 ≤ d; omega, by show d ≤ 9223372036854775807; omega, Nat.le_refl _, Nat.zero_le _, fun y hy => by cases hy⟩
theorem DSt.app {w wx wy : World} {Bc g len cap : Nat} {a : Option Addr} {v v' : Value} {L L' : List (Bx × (Option Addr × Nat))} (h : DSt w Bc g a len cap v L wx) (hg : Bc ≤ g) (hgl : g < w.heap.size) (hown : OwnL wy w.heap.size v' L') (gg : wx.grownBy wy v.ownBlock) : DSt w Bc g a len cap v' L' wy := by
  have hne : v.ownBlock ≠ some g := fun e => by have := (h.own.1.lt g e).1; omega
  refine ⟨h.cur.other (gg.block g h.cur.lt (fun e => hne e.symm)), ?_, ?_, hown⟩
  · intro j hj
    obtain ⟨b, o, z, e, hb1, hc, h0, h1⟩ := h.rd j hj
    exact ⟨b, o, z, e, hb1, gg.cell hc (fun e => by have := (h.own.1.lt b e.symm).1; omega), h0, h1⟩
  · exact ⟨gg.os.trans h.gr.os, gg.tape.trans h.gr.tape, gg.output.trans h.gr.output, Nat.le_trans h.gr.size gg.size, fun j hj hn => (gg.block j (Nat.lt_of_lt_of_le hj h.gr.size) (fun e => by have := (h.own.1.lt j e.symm).1; omega)).trans (h.gr.block j hj hn)⟩
/-- what a draw of boxes gives, with its rows -/
def DrB2 : Prop := ∀ (Bc g : Nat) (a : Option Addr) (len cap : Nat) (w : World), Bc ≤ g → len ≤ 4096 → CurAt w g a len cap → RdB w Bc a len →
  Calls Try.prog 23 #[.pointer (some ⟨g, 0, none⟩)] w fun e w' => ∃ v L, e = .returned v ∧ OwnL w' w.heap.size v L ∧ L.length ≤ 1000 ∧ (Good L ∧ ∃ G n c, v = .slice (some ⟨G, 0, none⟩) n c) ∧ CurAt w' g a len cap ∧ w.grownBy w' (some g)
theorem DrB2.drB (h : DrB2) : DrB := fun Bc g a len cap w h1 h2 h3 h4 => (h Bc g a len cap w h1 h2 h3 h4).mono fun e w' ⟨v, L, k1, k2, k3, k4, k5⟩ => ⟨v, L, k1, k2, k3, fun p hp => ⟨(k4.1 p hp).1, (k4.1 p hp).2.1⟩, k5⟩
/-- boxes without bytes, of kinds of four letters -/
def Nil4 (L : List (Bx × (Option Addr × Nat))) : Prop := ∀ p ∈ L, p.1.k.size = 4 ∧ p.1.z = [] ∧ p.2.1 = none ∧ p.2.2 = 0
theorem Nil4.snoc {L : List (Bx × (Option Addr × Nat))} (h : Nil4 L) (s : ByteArray) (d : Int) (hs : s.size = 4) : Nil4 (L ++ [(⟨s, d, []⟩, (none, 0))]) := by
  intro q hq
  rcases List.mem_append.1 hq with hq | hq
  · exact h q hq
  · rw [List.mem_singleton.1 hq]; exact ⟨hs, rfl, rfl, rfl⟩
theorem Nil4.good {L : List (Bx × (Option Addr × Nat))} (h : Nil4 L) : Good L := fun p hp => by obtain ⟨h1, h2, _, h4⟩ := h p hp; rw [h1, h2]; exact ⟨by decide, by decide, fun _ => h4⟩
theorem Nil4.none {L : List (Bx × (Option Addr × Nat))} (h : Nil4 L) : ∀ p ∈ L, p.2.1 = none := fun p hp => (h p hp).2.2.1
end Go.Proofs.Ytfdbnlmfnhhcbaa
