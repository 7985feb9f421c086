/-
  The bench in memory: a block with the track and the list of those ahead; what a deed may write. Contracts of push, pop, length and edited.
-/
import Derived.Test.YtioaehjppiodfaaGreatDoorGSTn
import Derived.Test.YtioaehjppiodfaaGreatDoorGMthext
import Derived.Test.YtioaehjppiodfaaGreatDoorGMthlif
import Derived.Test.YtioaehjppiodfaaGreatDoorGMthovr
import Derived.Test.YtioaehjppiodfaaGreatDoorGMthrol
import Derived.Test.YtioaehjppiodfaaGreatDoorGMthslp
import Derived.Test.YtioaehjppiodfaaGreatDoorGMthrip
import Derived.Test.YtioaehjppiodfaaGreatDoorGMthsld
import Derived.Test.YtioaehjppiodfaaGreatDoorGBy
import Derived.Test.YtioaehjppiodfaaGreatDoorGSEd3
import Derived.Test.YtioaehjppiodfaaGreatDoorGICh
import Derived.Test.YtioaehjppiodfaaGreatDoorGDg
namespace Go.Proofs.YtioaehjppiodfaaGreatDoor
open Go.RowKit
set_option linter.unusedVariables false
set_option linter.unusedSimpArgs false

/-- all stands below N, and above it all but the bench's block and lists of tracks -/
def Kb (N bB : Nat) (w w' : World) : Prop := Below N w w' ∧ Lib.OthersKept 36 (some bB) w w'
theorem ok_below {e : TypeId} {b : Option Nat} {w w' : World} (h : Below w.heap.size w w') : Lib.OthersKept e b w w' := fun k o hk _ _ => (h.block k (Array.getElem?_eq_some_iff.1 hk).1).trans hk
theorem Kb.of_below {N bB : Nat} {w w' : World} (h : Below w.heap.size w w') (hN : N ≤ w.heap.size) : Kb N bB w w' := ⟨h.mono hN, ok_below h⟩
theorem Kb.refl (N bB : Nat) (w : World) : Kb N bB w w := ⟨Below.refl _ _, Lib.OthersKept.refl _ _ _⟩
theorem Kb.trans {N bB : Nat} {w w1 w2 : World} (h : Kb N bB w w1) (k : Kb N bB w1 w2) : Kb N bB w w2 := ⟨h.1.trans k.1, h.2.trans k.2⟩
/-- the block of a list of clips -/
def Tg (w : World) (a : Option Addr) : Prop := ∀ ad, a = some ad → ∃ (c : Array Value) (fz : Nat × Nat), w.heap[ad.block]? = some (Obj.cells c 94 fz)
/-- lists of clips stay -/
def K94 (w w' : World) : Prop := ∀ (k : Nat) (c : Array Value) (fz : Nat × Nat), w.heap[k]? = some (.cells c 94 fz) → w'.heap[k]? = some (.cells c 94 fz)
theorem K94.of_kept {e : TypeId} {b : Nat} {w w' : World} {cs : Array Value} {t : TypeId} {fz : Nat × Nat} (h : Lib.OthersKept e (some b) w w') (he : e ≠ 94) (hb : w.heap[b]? = some (.cells cs t fz)) (ht : t ≠ 94) : K94 w w' := by
  intro k c f hk
  refine h k _ hk ?_ (fun c' f' e2 => ?_)
  · intro e2
    have e3 : k = b := Option.some.inj e2
    subst e3
    rw [hb] at hk
    cases hk
    exact ht rfl
  · cases e2
    exact he rfl
theorem K94.of_below {w w' : World} (h : Below w.heap.size w w') : K94 w w' := fun k c fz hk => (h.block k (Array.getElem?_eq_some_iff.1 hk).1).trans hk
/-- a track's value in memory -/
def KT (w : World) (v : Value) (l : List Kl) : Prop := ∃ a c, v = .slice a l.length c ∧ AdOk a c l ∧ Kls w a l ∧ Tg w a
theorem KT.kept {w w' : World} {v : Value} {l : List Kl} (h : KT w v l) (hk : K94 w w') : KT w' v l := by
  obtain ⟨a, c, e, h1, h2, h3⟩ := h
  refine ⟨a, c, e, h1, ?_, fun ad he => ?_⟩
  · intro j x hx
    obtain ⟨b, o, e, hb, c0, c1, c2⟩ := h2 j x hx
    obtain ⟨cs, fz, hc⟩ := h3 _ e
    have hc' := hk _ _ _ hc
    have eb : w'.heap[b]? = w.heap[b]? := hc'.trans hc.symm
    exact ⟨b, o, e, (Array.getElem?_eq_some_iff.1 hc').1, (World.cell?_of_block (a := ⟨b, o + j * 3, none⟩) eb).trans c0, (World.cell?_of_block (a := ⟨b, o + j * 3 + 1, none⟩) eb).trans c1, (World.cell?_of_block (a := ⟨b, o + j * 3 + 2, none⟩) eb).trans c2⟩
  · obtain ⟨cs, fz, hc⟩ := h3 _ he
    exact ⟨cs, fz, hk _ _ _ hc⟩
theorem KT.nil (w : World) : KT w (.slice none 0 0) [] := ⟨none, 0, rfl, .inl ⟨rfl, rfl, rfl⟩, Kls.nil, fun ad h => by cases h⟩
theorem own_block {w : World} {B g n m cap : Nat} {e : TypeId} {xs : List Value} (h : w.ownsRow B e m (.slice (some ⟨g, 0, none⟩) n cap) n xs) : ∃ c fz, w.heap[g]? = some (.cells c e fz) := by
  rcases h.2 with ⟨h1, _⟩ | ⟨g', c', cur, hv, _, hh, _⟩
  · cases h1
  · injection hv with e1 _ _
    injection e1 with e1
    injection e1 with e1
    subst e1
    exact ⟨_, _, hh⟩
theorem KT.own {w : World} {B g cap : Nat} {l : List Kl} (h : Own w B g l.length cap l) : KT w (.slice (some ⟨g, 0, none⟩) l.length cap) l :=
  ⟨_, _, rfl, .inr ⟨g, 0, rfl⟩, kls_own h, fun ad e => by cases e; exact own_block h⟩

/-- the bench in memory -/
structure BS (N : Nat) (w : World) (bB : Nat) (s : List Kl × List (List Kl)) : Prop where
  ex : ∃ tv vi vs, w.heap[bB]? = some (.cells #[tv, vi] 41 (0, 0)) ∧ KT w tv s.1 ∧ w.ownsRow N 36 1 vi s.2.length vs ∧ ∀ (j : Nat) l, s.2[j]? = some l → ∃ u, vs[j]? = some u ∧ KT w u l
  nb : N ≤ bB
  ok : TOk s.1 ∧ ∀ l ∈ s.2, TOk l
theorem own_othersK {w w' : World} {B n : Nat} {e e' : TypeId} {v : Value} {xs : List Value} {b : Nat} {cs : Array Value} {t : TypeId} {fz : Nat × Nat} (h : w.ownsRow B e 1 v n xs) (hk : Lib.OthersKept e' (some b) w w') (he : e' ≠ e) (hb : w.heap[b]? = some (.cells cs t fz)) (ht : t ≠ e) : w'.ownsRow B e 1 v n xs := by
  obtain ⟨h1, h2⟩ := h
  refine ⟨h1, ?_⟩
  rcases h2 with h2 | ⟨g, c, cur, hv, hB, hh, r⟩
  · exact Or.inl h2
  · refine Or.inr ⟨g, c, cur, hv, hB, ?_, r⟩
    refine hk g _ hh ?_ (fun c' f' e2 => ?_)
    · intro e2
      have e3 : g = b := Option.some.inj e2
      subst e3
      rw [hb] at hh
      cases hh
      exact ht rfl
    · cases e2
      exact he rfl
theorem BS.below {N : Nat} {w w' : World} {bB : Nat} {s : List Kl × List (List Kl)} (h : BS N w bB s) (hb : Below w.heap.size w w') : BS N w' bB s := by
  obtain ⟨tv, vi, vs, h1, h2, h3, h4⟩ := h.ex
  refine ⟨⟨tv, vi, vs, (hb.block _ (Array.getElem?_eq_some_iff.1 h1).1).trans h1, h2.kept (K94.of_below hb), ownsRow_below h3 hb, fun j l hl => ?_⟩, h.nb, h.ok⟩
  obtain ⟨u, k1, k2⟩ := h4 j l hl
  exact ⟨u, k1, k2.kept (K94.of_below hb)⟩
/-- .. behind the doing of another that leaves all but its rows and its block -/
theorem BS.others {N : Nat} {w w' : World} {bB b : Nat} {e : TypeId} {s : List Kl × List (List Kl)} {cs : Array Value} {t : TypeId} {fz : Nat × Nat} (h : BS N w bB s) (hk : Lib.OthersKept e (some b) w w') (hb : w.heap[b]? = some (.cells cs t fz)) (he : e ≠ 94 ∧ e ≠ 36 ∧ e ≠ 41) (ht : t ≠ 94 ∧ t ≠ 36 ∧ t ≠ 41) : BS N w' bB s := by
  obtain ⟨tv, vi, vs, h1, h2, h3, h4⟩ := h.ex
  have k94 := K94.of_kept hk he.1 hb ht.1
  refine ⟨⟨tv, vi, vs, hk _ _ h1 ?_ (fun c f e2 => ?_), h2.kept k94, own_othersK h3 hk he.2.1 hb ht.2.1, fun j l hl => ?_⟩, h.nb, h.ok⟩
  · intro e2
    have e3 : bB = b := Option.some.inj e2
    subst e3
    rw [hb] at h1
    cases h1
    exact ht.2.2 rfl
  · cases e2
    exact he.2.2 rfl
  · obtain ⟨u, k1, k2⟩ := h4 j l hl
    exact ⟨u, k1, k2.kept k94⟩
theorem blk2c {X : World} {b : Nat} {t : TypeId} {v0 v1 : Value} (h : X.heap[b]? = some (.cells #[v0, v1] t (0, 0))) : X.cell? ⟨b, 0, none⟩ = some v0 ∧ X.cell? ⟨b, 1, none⟩ = some v1 ∧ X.frozen? ⟨b, 0, none⟩ = false ∧ X.frozen? ⟨b, 1, none⟩ = false := by
  refine ⟨by simp [World.cell?, h], by simp [World.cell?, h], Lib.frozen_of_heap h _, Lib.frozen_of_heap h _⟩
theorem blk2_set1 {X : World} {b : Nat} {t : TypeId} {v0 v1 u : Value} (h : X.heap[b]? = some (.cells #[v0, v1] t (0, 0))) : (X.setCell ⟨b, 1, none⟩ u).heap[b]? = some (.cells #[v0, u] t (0, 0)) := by
  simp [World.setCell, h, Array.getElem?_modify]
theorem blk2_set0 {X : World} {b : Nat} {t : TypeId} {v0 v1 u : Value} (h : X.heap[b]? = some (.cells #[v0, v1] t (0, 0))) : (X.setCell ⟨b, 0, none⟩ u).heap[b]? = some (.cells #[u, v1] t (0, 0)) := by
  simp [World.setCell, h, Array.getElem?_modify]
theorem grown_setC (w : World) (b o : Nat) (v : Value) : w.grownBy (w.setCell ⟨b, o, none⟩ v) (some b) := grown_set (World.grownBy.refl w _)
theorem Kb.set {N bB o : Nat} {w : World} {v : Value} (hN : N ≤ bB) (hs : bB < w.heap.size) : Kb N bB w (w.setCell ⟨bB, o, none⟩ v) :=
  ⟨(Below.refl _ _).grown (grown_setC w bB o v) (by omega) (fun k hk => by have e2 : bB = k := Option.some.inj hk; omega), (Lib.OthersKept.refl 36 (some bB) w).setCell ⟨bB, o, none⟩ rfl v⟩
theorem Kb.k94 {N bB : Nat} {w w' : World} {cs : Array Value} {fz : Nat × Nat} (h : Kb N bB w w') (hb : w.heap[bB]? = some (.cells cs 41 fz)) : K94 w w' := K94.of_kept h.2 (by decide) hb (by decide)

theorem info36 : (Tryz.prog.info? 36).map (fun i => (i.zero, i.size, i.bytes)) = some (some (.slice none 0 0), 1, 24) := by kernel_rfl

set_option maxRecDepth 100000 in
set_option maxHeartbeats 1600000 in
theorem push_any (N bB n : Nat) (tv vi : Value) (ta : Option Addr) (tn tc : Nat) (vs : List Value) (w : World) (hn : n ≤ 1000) (hN : N ≤ bB) (hb : w.heap[bB]? = some (.cells #[tv, vi] 41 (0, 0))) (ho : w.ownsRow N 36 1 vi n vs) :
    Calls Tryz.prog 101 #[.pointer (some ⟨bB, 1, none⟩), .slice ta tn tc] w fun e w' => e = .returned (.tuple #[]) ∧ ∃ vi', w'.heap[bB]? = some (.cells #[tv, vi'] 41 (0, 0)) ∧ w'.ownsRow N 36 1 vi' (n + 1) (vs ++ [.slice ta tn tc]) ∧ Kb N bB w w' := by
  obtain ⟨c0, c1, f0, f1⟩ := blk2c hb
  have hr : ∀ k, vi.ownBlock = some k → k ≠ bB := fun k hk e => Lib.ownBlock_neF (World.ownsRowF_of ho) hb (by decide) (by rw [hk, e])
  have ho' := hide ho
  have hb' := hide hb
  have hr' := hide hr
  have hbl : bB < w.heap.size := (Array.getElem?_eq_some_iff.1 hb).1
  clear ho hb hr
  go_enter Tryz.func101, Tryz.ntmps101
  go_wp2_with (at_builtin; refine wpList_one Tryz.underlying37 info36 rfl (by decide) _ rfl _ _ rfl N n vi vs (.slice ta tn tc) rfl rfl (unhide ho') rfl (by omega) (by omega) ?_)
  intro g c w1 own1 gr1 hg1 hgN hb1
  have e1 : w1.heap[bB]? = some (.cells #[tv, vi] 41 (0, 0)) := (gr1.block bB hbl (fun e => unhide hr' bB e.symm rfl)).trans (unhide hb')
  obtain ⟨d0, d1, q0, q1⟩ := blk2c e1
  have hgb : g ≠ bB := by
    rcases hg1 with h | h
    · exact unhide hr' g h
    · omega
  have hfin : Hid (∃ vi', (w1.setCell ⟨bB, 1, none⟩ (.slice (some ⟨g, 0, none⟩) (n + 1) c)).heap[bB]? = some (.cells #[tv, vi'] 41 (0, 0)) ∧ (w1.setCell ⟨bB, 1, none⟩ (.slice (some ⟨g, 0, none⟩) (n + 1) c)).ownsRow N 36 1 vi' (n + 1) (vs ++ [.slice ta tn tc]) ∧ Kb N bB w (w1.setCell ⟨bB, 1, none⟩ (.slice (some ⟨g, 0, none⟩) (n + 1) c))) := by
    refine hide ⟨_, blk2_set1 e1, Ln.ownsRow_grown own1 (grown_setC w1 bB 1 _) (fun k hk e => ?_), ?_⟩
    · have e2 : g = k := Option.some.inj hk
      have e3 : k = bB := Option.some.inj e
      omega
    · refine Kb.trans ⟨hb1, (Lib.OthersKept.refl _ _ _).grown gr1 (Lib.ownsRowF_kind (World.ownsRowF_of (unhide ho')))⟩ (Kb.set hN (Nat.lt_of_lt_of_le hbl gr1.size))
  clear own1 gr1 hg1 hb1 e1 hgb c0 c1 f0 f1
  go_wp2
  go_end0
  exact ⟨rfl, unhide hfin⟩

theorem own_cutV {w : World} {B g n k cap : Nat} {e : TypeId} {xs : List Value} (h : w.ownsRow B e 1 (.slice (some ⟨g, 0, none⟩) n cap) n xs) (hk : k ≤ n) : w.ownsRow B e 1 (.slice (some ⟨g, 0, none⟩) k cap) k (xs.take k) := by
  obtain ⟨h1, h2⟩ := h
  rcases h2 with h2 | ⟨g', cap', cur, hv, hB, hh, hc, hm, hs, ht⟩
  · cases h2.1
  · injection hv with e1 e2 e3
    injection e1 with e1
    injection e1 with e1
    subst e1 e3
    refine ⟨by rw [List.length_take]; omega, .inr ⟨g, cap, cur, rfl, hB, hh, by omega, hm, hs, ?_⟩⟩
    rw [← ht, List.take_take]
    congr 1
    omega
theorem own_capV {w : World} {B g n cap : Nat} {e : TypeId} {xs : List Value} (h : w.ownsRow B e 1 (.slice (some ⟨g, 0, none⟩) n cap) n xs) : n ≤ cap := by
  rcases h.2 with ⟨h1, _⟩ | ⟨g', c', cur, hv, _, _, h3, _⟩
  · cases h1
  · injection hv with _ _ e3; omega

set_option maxRecDepth 100000 in
set_option maxHeartbeats 1600000 in
theorem pop_no (bB : Nat) (tv vi : Value) (N : Nat) (vs : List Value) (w : World) (hb : w.heap[bB]? = some (.cells #[tv, vi] 41 (0, 0))) (ho : w.ownsRow N 36 1 vi 0 vs) :
    Calls Tryz.prog 76 #[.pointer (some ⟨bB, 1, none⟩)] w fun e w' => e = .returned (.tuple #[.slice none 0 0, .bool false]) ∧ w' = w := by
  obtain ⟨c0, c1, f0, f1⟩ := blk2c hb
  obtain ⟨a, cp, rfl⟩ : ∃ a cp, vi = .slice a 0 cp := by
    rcases ho.2 with ⟨h1, _⟩ | ⟨g, c, cur, hv, _⟩
    · exact ⟨none, 0, h1⟩
    · exact ⟨_, _, hv⟩
  clear ho hb
  go_enter Tryz.func76, Tryz.ntmps76
  go_wp2
  exact bodyPost_ret (v := .tuple #[.slice none 0 0, .bool false]) (by simp [results, Tryz.results76, go_sem]) rfl ⟨rfl, rfl⟩

set_option maxRecDepth 100000 in
set_option maxHeartbeats 1600000 in
theorem pop_yes (bB g n cap : Nat) (tv u : Value) (N : Nat) (vs : List Value) (w : World) (hn : n ≤ 1000) (hb : w.heap[bB]? = some (.cells #[tv, .slice (some ⟨g, 0, none⟩) (n + 1) cap] 41 (0, 0))) (ho : w.ownsRow N 36 1 (.slice (some ⟨g, 0, none⟩) (n + 1) cap) (n + 1) vs) (hu : vs[n]? = some u) :
    Calls Tryz.prog 76 #[.pointer (some ⟨bB, 1, none⟩)] w fun e w' => e = .returned (.tuple #[u, .bool true]) ∧ w' = w.setCell ⟨bB, 1, none⟩ (.slice (some ⟨g, 0, none⟩) n cap) := by
  obtain ⟨c0, c1, f0, f1⟩ := blk2c hb
  have hc : w.cell? ⟨g, n, none⟩ = some u := by have := ho.cellAt n (by omega); rw [this]; exact hu
  have hcap := own_capV ho
  have hw1 : IntKind.i64.wrap ((n : Int) + 1 - 1) = n := by rw [IntKind.wrap_i64]; omega
  have hlt : decide ((n : Int) < 0) = false := by simp
  clear ho hb hu
  go_enter Tryz.func76, Tryz.ntmps76
  go_wp2
  exact bodyPost_ret (v := .tuple #[u, .bool true]) (by simp [results, Tryz.results76, go_sem]) rfl ⟨rfl, rfl⟩

/-- one number in a new block -/
theorem ins1 (w : World) (x : Int) (t : TypeId) : Ins (w.alloc (.cells #[.int .i64 x] t)) (some ⟨w.heap.size, 0, none⟩) [x] := by
  intro j y hy
  obtain rfl : j = 0 := by have := (List.getElem?_eq_some_iff.1 hy).1; simp at this; exact this
  simp at hy; subst hy
  exact ⟨w.heap.size, 0, rfl, by simp, by simp [go_sem]⟩
theorem ins2 (w : World) (x y : Int) (t : TypeId) : Ins (w.alloc (.cells #[.int .i64 x, .int .i64 y] t)) (some ⟨w.heap.size, 0, none⟩) [x, y] := by
  intro j z hz
  have hj := (List.getElem?_eq_some_iff.1 hz).1
  simp at hj
  have : j = 0 ∨ j = 1 := by omega
  rcases this with rfl | rfl <;> simp at hz <;> subst hz <;> exact ⟨w.heap.size, 0, rfl, by simp, by simp [go_sem]⟩

set_option maxRecDepth 100000 in
set_option maxHeartbeats 1600000 in
theorem length_any (bB : Nat) (a : Option Addr) (c : Nat) (tr : List Kl) (vi : Value) (w : World) (hl : tr.length ≤ maxLen) (hb : w.heap[bB]? = some (.cells #[.slice a tr.length c, vi] 41 (0, 0))) (hk : Kls w a tr) :
    Calls Tryz.prog 77 #[.pointer (some ⟨bB, 0, none⟩)] w fun e w' => ∃ g, e = .returned (.slice (some ⟨g, 0, none⟩) 1 1) ∧ Ins w' (some ⟨g, 0, none⟩) [lenOf tr] ∧ Below w.heap.size w w' := by
  obtain ⟨c0, c1, f0, f1⟩ := blk2c hb
  have hL := hide (ilength_any a c tr w hl hk)
  clear hb hk c1 f0 f1
  go_enter Tryz.func77, Tryz.ntmps77
  go_wp2_with fail
  refine (unhide hL).mono ?_
  rintro e w1 ⟨rfl, hb1⟩
  have i1 := hide (ins1 w1 (lenOf tr) 2)
  have b1 := hide (laterB hb1 ((Below.refl w1.heap.size w1).alloc (Nat.le_refl _) (.cells #[.int .i64 (lenOf tr)] 2)))
  clear hb1 hL
  go_wp2
  go_ret
  exact ⟨_, rfl, unhide i1, unhide b1⟩
end Go.Proofs.YtioaehjppiodfaaGreatDoor
