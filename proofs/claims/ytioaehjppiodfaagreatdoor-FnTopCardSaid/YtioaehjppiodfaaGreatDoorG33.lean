/-
  Lists of bytes in memory: owned rows and lists that are read, and contracts of the law's functions that copy them, hold them against each other, write marks into them and look for these again.
  Digests and seals as plain numbers; no conditions.
  Contracts of both digests; nothing is written.
  The bench in memory: a block with the track and the list of those ahead; what a deed may write. Contracts of push, pop, length and edited.
-/
import Derived.Test.YtioaehjppiodfaaGreatDoorG04
import Derived.Test.YtioaehjppiodfaaGreatDoorG20
import Derived.Test.YtioaehjppiodfaaGreatDoorG24
import Derived.Test.YtioaehjppiodfaaGreatDoorG25
import Derived.Test.YtioaehjppiodfaaGreatDoorG26
import Derived.Test.YtioaehjppiodfaaGreatDoorG27
import Derived.Test.YtioaehjppiodfaaGreatDoorG28
import Derived.Test.YtioaehjppiodfaaGreatDoorG29
import Derived.Test.YtioaehjppiodfaaGreatDoorG30
import Derived.Test.YtioaehjppiodfaaGreatDoorG32
namespace Go.Proofs.YtioaehjppiodfaaGreatDoor
open Go.RowKit
set_option linter.unusedVariables false
set_option linter.unusedSimpArgs false

abbrev bv (x : Int) : Value := .int .u8 x
/-- numbers of a byte -/
def Byt (l : List Int) : Prop := ∀ z ∈ l, 0 ≤ z ∧ z ≤ 255
theorem infoB : (Tryz.prog.info? 5).map (fun i => (i.zero, i.size, i.bytes)) = some (some (.int .u8 0), 1, 1) := by kernel_rfl
/-- the numbers l behind the address a -/
def Bys (w : World) (a : Option Addr) (l : List Int) : Prop :=
  ∀ j x, l[j]? = some x → ∃ b o, a = some ⟨b, o, none⟩ ∧ b < w.heap.size ∧ w.cell? ⟨b, o + j, none⟩ = some (.int .u8 x)
theorem Bys.nil {w : World} {a : Option Addr} : Bys w a [] := by intro j z hz; simp at hz
theorem Bys.below {w w' : World} {a : Option Addr} {l : List Int} (h : Bys w a l) (s : Below w.heap.size w w') : Bys w' a l := by
  intro j x hx
  obtain ⟨b, o, e, h1, c0⟩ := h j x hx
  exact ⟨b, o, e, Nat.lt_of_lt_of_le h1 s.size, ((bcell s).1 b _ h1).trans c0⟩
theorem bys_at {w wr : World} {a : Option Addr} {l : List Int} {k : Nat} (h : Bys w a l) (hw : Below w.heap.size w wr) (hk : k < l.length) : ∃ b o x, a = some ⟨b, o, none⟩ ∧ l[k]? = some x ∧ b < w.heap.size ∧ wr.cell? ⟨b, o + k, none⟩ = some (.int .u8 x) := by
  obtain ⟨b, o, e, h1, c0⟩ := h k l[k] (List.getElem?_eq_getElem hk)
  exact ⟨b, o, _, e, List.getElem?_eq_getElem hk, h1, ((bcell hw).1 b _ h1).trans c0⟩
/-- an owned list of numbers -/
abbrev OwnB (w : World) (B g n cap : Nat) (l : List Int) : Prop := w.ownsRow B 5 1 (.slice (some ⟨g, 0, none⟩) n cap) n (l.map bv)
theorem ownB_len {w : World} {B g n cap : Nat} {l : List Int} (h : OwnB w B g n cap l) : l.length = n := by
  have hl : (l.map bv).length = n * 1 := h.1
  simpa using hl
theorem ownB_at {w : World} {B g n cap k : Nat} {l : List Int} {x : Int} (hk : l[k]? = some x) (h : OwnB w B g n cap l) : w.cell? ⟨g, k, none⟩ = some (.int .u8 x) := by
  have hl := ownB_len h
  have hj : k < l.length := (List.getElem?_eq_some_iff.1 hk).1
  have := h.cellAt k (by omega)
  rw [this, List.getElem?_map, hk]; rfl
theorem ownB_put {w : World} {B g n cap : Nat} {l : List Int} (k : Nat) (x : Int) (h : OwnB w B g n cap l) : OwnB (w.setCell ⟨g, k, none⟩ (.int .u8 x)) B g n cap (l.set k x) := by
  have h1 := (h.stored k (bv x)).1
  show World.ownsRow _ _ _ _ _ _ _
  rw [List.map_set]; exact h1
theorem bys_own {w : World} {B g n cap : Nat} {l : List Int} (h : OwnB w B g n cap l) : Bys w (some ⟨g, 0, none⟩) l := by
  intro j z hj
  exact ⟨g, 0, rfl, own_lt h, by rw [Nat.zero_add]; exact ownB_at hj h⟩
theorem ownB_lit0 (w : World) {B : Nat} (hB : B ≤ w.heap.size) : OwnB (w.alloc (.cells #[] 5)) B w.heap.size 0 0 [] := by
  have h := World.ownsRow_lit (base := B) (e := 5) (size := 1) w #[] 0 hB (by unfold maxLen; omega) rfl
  exact h
/-- the copy's list as it stands -/
def midB (l : List Int) (n k : Nat) : List Int := l.take k ++ List.replicate (n - k) 0
theorem midB_len {l : List Int} {n k : Nat} (hl : l.length = n) (hk : k ≤ n) : (midB l n k).length = n := by simp [midB]; omega
theorem midB_set {l : List Int} {n k : Nat} {x : Int} (hl : l.length = n) (h : l[k]? = some x) : (midB l n k).set k x = midB l n (k + 1) := by
  have hk : k < l.length := (List.getElem?_eq_some_iff.1 h).1
  unfold midB
  rw [List.take_add_one, h, List.set_append_right _ _ (by simp; omega)]
  have e : n - k = (n - (k + 1)) + 1 := by omega
  rw [e, List.replicate_succ]
  have e2 : k - (l.take k).length = 0 := by simp; omega
  rw [e2]; simp
theorem made_B (n : Nat) : (madeCells #[.int .u8 0] n).toList = (List.replicate n (0 : Int)).map bv := by
  have := toList_madeCells_one (.int .u8 0) n
  simpa [bv] using this

end Go.Proofs.YtioaehjppiodfaaGreatDoor

namespace Go.Proofs.YtioaehjppiodfaaGreatDoor
open Go.RowKit
set_option linter.unusedVariables false
set_option linter.unusedSimpArgs false

/-- one byte more of a digest -/
def dgf (h z : Int) : Int := (h * 257 + z + 1) % 1000000007
def dgs (l : List Int) : Int := l.foldl dgf 0
/-- the digest of a list of bytes -/
def dig (l : List Int) : Int := dgs (l.take 40000)
theorem dgs_snoc (l : List Int) (z : Int) : dgs (l ++ [z]) = (dgs l * 257 + z + 1) % 1000000007 := by simp [dgs, dgf]
theorem dgs_bd (l : List Int) : 0 ≤ dgs l ∧ dgs l < 1000000007 := by
  rcases List.eq_nil_or_concat l with rfl | ⟨t, z, rfl⟩
  · simp [dgs]
  · rw [List.concat_eq_append, dgs_snoc]; omega
theorem dig_bd (l : List Int) : 0 ≤ dig l ∧ dig l < 1000000007 := dgs_bd _
theorem take_snocI {l : List Int} {k : Nat} {z : Int} (h : l[k]? = some z) : l.take (k + 1) = l.take k ++ [z] := by rw [List.take_add_one, h]; rfl
end Go.Proofs.YtioaehjppiodfaaGreatDoor

namespace Go.Proofs.YtioaehjppiodfaaGreatDoor
open Go.RowKit
set_option linter.unusedVariables false
set_option linter.unusedSimpArgs false

theorem byt_at {l : List Int} {k : Nat} {z : Int} (h : Byt l) (hz : l[k]? = some z) : 0 ≤ z ∧ z ≤ 255 := h z (List.mem_of_getElem? hz)
set_option maxHeartbeats 800000 in
theorem idig_any (a : Option Addr) (cap : Nat) (l : List Int) (w : World) (hl : l.length ≤ maxLen) (hc : l.length ≤ cap) (hc2 : cap ≤ maxLen) (hy : Byt l) (hk : Bys w a l) :
    Calls Tryz.prog 80 #[.slice a l.length cap] w fun e w' => e = .returned (.int .i64 (dig l)) ∧ w' = w := by
  unfold maxLen at hl hc2
  have hk' := hide hk
  have hy' := hide hy
  clear hk hy
  obtain ⟨N, hN⟩ : ∃ N : Nat, min (l.length : Int) 40000 = N ∧ N ≤ l.length ∧ N ≤ 40000 ∧ l.take 40000 = l.take N := by
    by_cases h : l.length ≤ 40000
    · exact ⟨l.length, by omega, by omega, h, by rw [List.take_of_length_le h, List.take_of_length_le (Nat.le_refl _)]⟩
    · exact ⟨40000, by omega, by omega, by omega, rfl⟩
  obtain ⟨hN1, hN2, hN3, hN4⟩ := hN
  have hN5 := hide hN4
  clear hN4
  go_enter Tryz.func80, Tryz.ntmps80
  go_wp2
  go_loop [3, 12] (fun h t => ∃ k : Nat, k ≤ N ∧ t = .int .i64 k ∧ h = .int .i64 (dgs (l.take k))) (fun _ t => N - (intOf t).toNat)
  case atStart => exact ⟨0, by omega, rfl, rfl⟩
  case round =>
    obtain ⟨k, hk1, rfl, rfl⟩ := hrel
    have hb := dgs_bd (l.take k)
    by_cases hlt : k < N
    · obtain ⟨b, o, x, rfl, hx, i1, c0⟩ := bys_at (unhide hk') (Below.refl _ _) (Nat.lt_of_lt_of_le hlt hN2)
      have hz := byt_at (unhide hy') hx
      have hs := dgs_snoc (l.take k) x
      rw [← take_snocI hx] at hs
      have hs' := hide hs
      have g1 : decide ((k : Int) < N) = true := by simp; omega
      clear hs hx i1
      generalize dgs (l.take k) = D at *
      go_wp2
      go_round
      case rel => exact ⟨k + 1, by omega, by go_num, by rw [unhide hs']⟩
      case measure => simp [intOf]; omega
    · have g1 : decide ((k : Int) < N) = false := by simp; omega
      have hke : Hid (k = N) := hide (by omega)
      go_wp2
      go_ret
      exact ⟨ret_int (by unfold dig; rw [unhide hN5, unhide hke]), rfl⟩

end Go.Proofs.YtioaehjppiodfaaGreatDoor

namespace Go.Proofs.YtioaehjppiodfaaGreatDoor
open Go.RowKit
set_option linter.unusedVariables false
set_option linter.unusedSimpArgs false

/-- all stands below N, and above it all but the bench's block and lists of tracks -/
def Kb (N bB : Nat) (w w' : World) : Prop := Below N w w' ∧ Lib.OthersKept 36 (some bB) w w'
theorem ok_below {e : TypeId} {b : Option Nat} {w w' : World} (h : Below w.heap.size w w') : Lib.OthersKept e b w w' := fun k o hk _ _ => (h.block k (Array.getElem?_eq_some_iff.1 hk).1).trans hk
theorem Kb.of_below {N bB : Nat} {w w' : World} (h : Below w.heap.size w w') (hN : N ≤ w.heap.size) : Kb N bB w w' := ⟨h.mono hN, ok_below h⟩
theorem Kb.refl (N bB : Nat) (w : World) : Kb N bB w w := ⟨Below.refl _ _, Lib.OthersKept.refl _ _ _⟩
theorem Kb.trans {N bB : Nat} {w w1 w2 : World} (h : Kb N bB w w1) (k : Kb N bB w1 w2) : Kb N bB w w2 := ⟨h.1.trans k.1, h.2.trans k.2⟩
/-- the block of a list of clips -/
def Tg (w : World) (a : Option Addr) : Prop := ∀ ad, a = some ad → ∃ (c : Array Value) (fz : Nat × Nat), w.heap[ad.block]? = some (Obj.cells c 94 fz)
/-- lists of clips stay -/
def K94 (w w' : World) : Prop := ∀ (k : Nat) (c : Array Value) (fz : Nat × Nat), w.heap[k]? = some (.cells c 94 fz) → w'.heap[k]? = some (.cells c 94 fz)
theorem K94.of_kept {e : TypeId} {b : Nat} {w w' : World} {cs : Array Value} {t : TypeId} {fz : Nat × Nat} (h : Lib.OthersKept e (some b) w w') (he : e ≠ 94) (hb : w.heap[b]? = some (.cells cs t fz)) (ht : t ≠ 94) : K94 w w' := by
  intro k c f hk
  refine h k _ hk ?_ (fun c' f' e2 => ?_)
  · intro e2
    have e3 : k = b := Option.some.inj e2
    subst e3
    rw [hb] at hk
    cases hk
    exact ht rfl
  · cases e2
    exact he rfl
theorem K94.of_below {w w' : World} (h : Below w.heap.size w w') : K94 w w' := fun k c fz hk => (h.block k (Array.getElem?_eq_some_iff.1 hk).1).trans hk
/-- a track's value in memory -/
def KT (w : World) (v : Value) (l : List Kl) : Prop := ∃ a c, v = .slice a l.length c ∧ AdOk a c l ∧ Kls w a l ∧ Tg w a
theorem KT.kept {w w' : World} {v : Value} {l : List Kl} (h : KT w v l) (hk : K94 w w') : KT w' v l := by
  obtain ⟨a, c, e, h1, h2, h3⟩ := h
  refine ⟨a, c, e, h1, ?_, fun ad he => ?_⟩
  · intro j x hx
    obtain ⟨b, o, e, hb, c0, c1, c2⟩ := h2 j x hx
    obtain ⟨cs, fz, hc⟩ := h3 _ e
    have hc' := hk _ _ _ hc
    have eb : w'.heap[b]? = w.heap[b]? := hc'.trans hc.symm
    exact ⟨b, o, e, (Array.getElem?_eq_some_iff.1 hc').1, (World.cell?_of_block (a := ⟨b, o + j * 3, none⟩) eb).trans c0, (World.cell?_of_block (a := ⟨b, o + j * 3 + 1, none⟩) eb).trans c1, (World.cell?_of_block (a := ⟨b, o + j * 3 + 2, none⟩) eb).trans c2⟩
  · obtain ⟨cs, fz, hc⟩ := h3 _ he
    exact ⟨cs, fz, hk _ _ _ hc⟩
theorem KT.nil (w : World) : KT w (.slice none 0 0) [] := ⟨none, 0, rfl, .inl ⟨rfl, rfl, rfl⟩, Kls.nil, fun ad h => by cases h⟩
theorem own_block {w : World} {B g n m cap : Nat} {e : TypeId} {xs : List Value} (h : w.ownsRow B e m (.slice (some ⟨g, 0, none⟩) n cap) n xs) : ∃ c fz, w.heap[g]? = some (.cells c e fz) := by
  rcases h.2 with ⟨h1, _⟩ | ⟨g', c', cur, hv, _, hh, _⟩
  · cases h1
  · injection hv with e1 _ _
    injection e1 with e1
    injection e1 with e1
    subst e1
    exact ⟨_, _, hh⟩
theorem KT.own {w : World} {B g cap : Nat} {l : List Kl} (h : Own w B g l.length cap l) : KT w (.slice (some ⟨g, 0, none⟩) l.length cap) l :=
  ⟨_, _, rfl, .inr ⟨g, 0, rfl⟩, kls_own h, fun ad e => by cases e; exact own_block h⟩

/-- the bench in memory -/
structure BS (N : Nat) (w : World) (bB : Nat) (s : List Kl × List (List Kl)) : Prop where
  ex : ∃ tv vi vs, w.heap[bB]? = some (.cells #[tv, vi] 41 (0, 0)) ∧ KT w tv s.1 ∧ w.ownsRow N 36 1 vi s.2.length vs ∧ ∀ (j : Nat) l, s.2[j]? = some l → ∃ u, vs[j]? = some u ∧ KT w u l
  nb : N ≤ bB
  ok : TOk s.1 ∧ ∀ l ∈ s.2, TOk l
theorem own_othersK {w w' : World} {B n : Nat} {e e' : TypeId} {v : Value} {xs : List Value} {b : Nat} {cs : Array Value} {t : TypeId} {fz : Nat × Nat} (h : w.ownsRow B e 1 v n xs) (hk : Lib.OthersKept e' (some b) w w') (he : e' ≠ e) (hb : w.heap[b]? = some (.cells cs t fz)) (ht : t ≠ e) : w'.ownsRow B e 1 v n xs := by
  obtain ⟨h1, h2⟩ := h
  refine ⟨h1, ?_⟩
  rcases h2 with h2 | ⟨g, c, cur, hv, hB, hh, r⟩
  · exact Or.inl h2
  · refine Or.inr ⟨g, c, cur, hv, hB, ?_, r⟩
    refine hk g _ hh ?_ (fun c' f' e2 => ?_)
    · intro e2
      have e3 : g = b := Option.some.inj e2
      subst e3
      rw [hb] at hh
      cases hh
      exact ht rfl
    · cases e2
      exact he rfl
theorem BS.below {N : Nat} {w w' : World} {bB : Nat} {s : List Kl × List (List Kl)} (h : BS N w bB s) (hb : Below w.heap.size w w') : BS N w' bB s := by
  obtain ⟨tv, vi, vs, h1, h2, h3, h4⟩ := h.ex
  refine ⟨⟨tv, vi, vs, (hb.block _ (Array.getElem?_eq_some_iff.1 h1).1).trans h1, h2.kept (K94.of_below hb), ownsRow_below h3 hb, fun j l hl => ?_⟩, h.nb, h.ok⟩
  obtain ⟨u, k1, k2⟩ := h4 j l hl
  exact ⟨u, k1, k2.kept (K94.of_below hb)⟩
/-- .. behind the doing of another that leaves all but its rows and its block -/
theorem BS.others {N : Nat} {w w' : World} {bB b : Nat} {e : TypeId} {s : List Kl × List (List Kl)} {cs : Array Value} {t : TypeId} {fz : Nat × Nat} (h : BS N w bB s) (hk : Lib.OthersKept e (some b) w w') (hb : w.heap[b]? = some (.cells cs t fz)) (he : e ≠ 94 ∧ e ≠ 36 ∧ e ≠ 41) (ht : t ≠ 94 ∧ t ≠ 36 ∧ t ≠ 41) : BS N w' bB s := by
  obtain ⟨tv, vi, vs, h1, h2, h3, h4⟩ := h.ex
  have k94 := K94.of_kept hk he.1 hb ht.1
  refine ⟨⟨tv, vi, vs, hk _ _ h1 ?_ (fun c f e2 => ?_), h2.kept k94, own_othersK h3 hk he.2.1 hb ht.2.1, fun j l hl => ?_⟩, h.nb, h.ok⟩
  · intro e2
    have e3 : bB = b := Option.some.inj e2
    subst e3
    rw [hb] at h1
    cases h1
    exact ht.2.2 rfl
  · cases e2
    exact he.2.2 rfl
  · obtain ⟨u, k1, k2⟩ := h4 j l hl
    exact ⟨u, k1, k2.kept k94⟩
theorem blk2c {X : World} {b : Nat} {t : TypeId} {v0 v1 : Value} (h : X.heap[b]? = some (.cells #[v0, v1] t (0, 0))) : X.cell? ⟨b, 0, none⟩ = some v0 ∧ X.cell? ⟨b, 1, none⟩ = some v1 ∧ X.frozen? ⟨b, 0, none⟩ = false ∧ X.frozen? ⟨b, 1, none⟩ = false := by
  refine ⟨by simp [World.cell?, h], by simp [World.cell?, h], Lib.frozen_of_heap h _, Lib.frozen_of_heap h _⟩
theorem blk2_set1 {X : World} {b : Nat} {t : TypeId} {v0 v1 u : Value} (h : X.heap[b]? = some (.cells #[v0, v1] t (0, 0))) : (X.setCell ⟨b, 1, none⟩ u).heap[b]? = some (.cells #[v0, u] t (0, 0)) := by
  simp [World.setCell, h, Array.getElem?_modify]
theorem blk2_set0 {X : World} {b : Nat} {t : TypeId} {v0 v1 u : Value} (h : X.heap[b]? = some (.cells #[v0, v1] t (0, 0))) : (X.setCell ⟨b, 0, none⟩ u).heap[b]? = some (.cells #[u, v1] t (0, 0)) := by
  simp [World.setCell, h, Array.getElem?_modify]
theorem grown_setC (w : World) (b o : Nat) (v : Value) : w.grownBy (w.setCell ⟨b, o, none⟩ v) (some b) := grown_set (World.grownBy.refl w _)
theorem Kb.set {N bB o : Nat} {w : World} {v : Value} (hN : N ≤ bB) (hs : bB < w.heap.size) : Kb N bB w (w.setCell ⟨bB, o, none⟩ v) :=
  ⟨(Below.refl _ _).grown (grown_setC w bB o v) (by omega) (fun k hk => by have e2 : bB = k := Option.some.inj hk; omega), (Lib.OthersKept.refl 36 (some bB) w).setCell ⟨bB, o, none⟩ rfl v⟩
theorem Kb.k94 {N bB : Nat} {w w' : World} {cs : Array Value} {fz : Nat × Nat} (h : Kb N bB w w') (hb : w.heap[bB]? = some (.cells cs 41 fz)) : K94 w w' := K94.of_kept h.2 (by decide) hb (by decide)

theorem info36 : (Tryz.prog.info? 36).map (fun i => (i.zero, i.size, i.bytes)) = some (some (.slice none 0 0), 1, 24) := by kernel_rfl

set_option maxRecDepth 100000 in
set_option maxHeartbeats 1600000 in
theorem push_any (N bB n : Nat) (tv vi : Value) (ta : Option Addr) (tn tc : Nat) (vs : List Value) (w : World) (hn : n ≤ 1000) (hN : N ≤ bB) (hb : w.heap[bB]? = some (.cells #[tv, vi] 41 (0, 0))) (ho : w.ownsRow N 36 1 vi n vs) :
    Calls Tryz.prog 101 #[.pointer (some ⟨bB, 1, none⟩), .slice ta tn tc] w fun e w' => e = .returned (.tuple #[]) ∧ ∃ vi', w'.heap[bB]? = some (.cells #[tv, vi'] 41 (0, 0)) ∧ w'.ownsRow N 36 1 vi' (n + 1) (vs ++ [.slice ta tn tc]) ∧ Kb N bB w w' := by
  obtain ⟨c0, c1, f0, f1⟩ := blk2c hb
  have hr : ∀ k, vi.ownBlock = some k → k ≠ bB := fun k hk e => Lib.ownBlock_neF (World.ownsRowF_of ho) hb (by decide) (by rw [hk, e])
  have ho' := hide ho
  have hb' := hide hb
  have hr' := hide hr
  have hbl : bB < w.heap.size := (Array.getElem?_eq_some_iff.1 hb).1
  clear ho hb hr
  go_enter Tryz.func101, Tryz.ntmps101
  go_wp2_with (at_builtin; refine wpList_one Tryz.underlying37 info36 rfl (by decide) _ rfl _ _ rfl N n vi vs (.slice ta tn tc) rfl rfl (unhide ho') rfl (by omega) (by omega) ?_)
  intro g c w1 own1 gr1 hg1 hgN hb1
  have e1 : w1.heap[bB]? = some (.cells #[tv, vi] 41 (0, 0)) := (gr1.block bB hbl (fun e => unhide hr' bB e.symm rfl)).trans (unhide hb')
  obtain ⟨d0, d1, q0, q1⟩ := blk2c e1
  have hgb : g ≠ bB := by
    rcases hg1 with h | h
    · exact unhide hr' g h
    · omega
  have hfin : Hid (∃ vi', (w1.setCell ⟨bB, 1, none⟩ (.slice (some ⟨g, 0, none⟩) (n + 1) c)).heap[bB]? = some (.cells #[tv, vi'] 41 (0, 0)) ∧ (w1.setCell ⟨bB, 1, none⟩ (.slice (some ⟨g, 0, none⟩) (n + 1) c)).ownsRow N 36 1 vi' (n + 1) (vs ++ [.slice ta tn tc]) ∧ Kb N bB w (w1.setCell ⟨bB, 1, none⟩ (.slice (some ⟨g, 0, none⟩) (n + 1) c))) := by
    refine hide ⟨_, blk2_set1 e1, Ln.ownsRow_grown own1 (grown_setC w1 bB 1 _) (fun k hk e => ?_), ?_⟩
    · have e2 : g = k := Option.some.inj hk
      have e3 : k = bB := Option.some.inj e
      omega
    · refine Kb.trans ⟨hb1, (Lib.OthersKept.refl _ _ _).grown gr1 (Lib.ownsRowF_kind (World.ownsRowF_of (unhide ho')))⟩ (Kb.set hN (Nat.lt_of_lt_of_le hbl gr1.size))
  clear own1 gr1 hg1 hb1 e1 hgb c0 c1 f0 f1
  go_wp2
  go_end0
  exact ⟨rfl, unhide hfin⟩

theorem own_cutV {w : World} {B g n k cap : Nat} {e : TypeId} {xs : List Value} (h : w.ownsRow B e 1 (.slice (some ⟨g, 0, none⟩) n cap) n xs) (hk : k ≤ n) : w.ownsRow B e 1 (.slice (some ⟨g, 0, none⟩) k cap) k (xs.take k) := by
  obtain ⟨h1, h2⟩ := h
  rcases h2 with h2 | ⟨g', cap', cur, hv, hB, hh, hc, hm, hs, ht⟩
  · cases h2.1
  · injection hv with e1 e2 e3
    injection e1 with e1
    injection e1 with e1
    subst e1 e3
    refine ⟨by rw [List.length_take]; omega, .inr ⟨g, cap, cur, rfl, hB, hh, by omega, hm, hs, ?_⟩⟩
    rw [← ht, List.take_take]
    congr 1
    omega
theorem own_capV {w : World} {B g n cap : Nat} {e : TypeId} {xs : List Value} (h : w.ownsRow B e 1 (.slice (some ⟨g, 0, none⟩) n cap) n xs) : n ≤ cap := by
  rcases h.2 with ⟨h1, _⟩ | ⟨g', c', cur, hv, _, _, h3, _⟩
  · cases h1
  · injection hv with _ _ e3; omega

set_option maxRecDepth 100000 in
set_option maxHeartbeats 1600000 in
theorem pop_no (bB : Nat) (tv vi : Value) (N : Nat) (vs : List Value) (w : World) (hb : w.heap[bB]? = some (.cells #[tv, vi] 41 (0, 0))) (ho : w.ownsRow N 36 1 vi 0 vs) :
    Calls Tryz.prog 76 #[.pointer (some ⟨bB, 1, none⟩)] w fun e w' => e = .returned (.tuple #[.slice none 0 0, .bool false]) ∧ w' = w := by
  obtain ⟨c0, c1, f0, f1⟩ := blk2c hb
  obtain ⟨a, cp, rfl⟩ : ∃ a cp, vi = .slice a 0 cp := by
    rcases ho.2 with ⟨h1, _⟩ | ⟨g, c, cur, hv, _⟩
    · exact ⟨none, 0, h1⟩
    · exact ⟨_, _, hv⟩
  clear ho hb
  go_enter Tryz.func76, Tryz.ntmps76
  go_wp2
  exact bodyPost_ret (v := .tuple #[.slice none 0 0, .bool false]) (by simp [results, Tryz.results76, go_sem]) rfl ⟨rfl, rfl⟩

set_option maxRecDepth 100000 in
set_option maxHeartbeats 1600000 in
theorem pop_yes (bB g n cap : Nat) (tv u : Value) (N : Nat) (vs : List Value) (w : World) (hn : n ≤ 1000) (hb : w.heap[bB]? = some (.cells #[tv, .slice (some ⟨g, 0, none⟩) (n + 1) cap] 41 (0, 0))) (ho : w.ownsRow N 36 1 (.slice (some ⟨g, 0, none⟩) (n + 1) cap) (n + 1) vs) (hu : vs[n]? = some u) :
    Calls Tryz.prog 76 #[.pointer (some ⟨bB, 1, none⟩)] w fun e w' => e = .returned (.tuple #[u, .bool true]) ∧ w' = w.setCell ⟨bB, 1, none⟩ (.slice (some ⟨g, 0, none⟩) n cap) := by
  obtain ⟨c0, c1, f0, f1⟩ := blk2c hb
  have hc : w.cell? ⟨g, n, none⟩ = some u := by have := ho.cellAt n (by omega); rw [this]; exact hu
  have hcap := own_capV ho
  have hw1 : IntKind.i64.wrap ((n : Int) + 1 - 1) = n := by rw [IntKind.wrap_i64]; omega
  have hlt : decide ((n : Int) < 0) = false := by simp
  clear ho hb hu
  go_enter Tryz.func76, Tryz.ntmps76
  go_wp2
  exact bodyPost_ret (v := .tuple #[u, .bool true]) (by simp [results, Tryz.results76, go_sem]) rfl ⟨rfl, rfl⟩

/-- one number in a new block -/
theorem ins1 (w : World) (x : Int) (t : TypeId) : Ins (w.alloc (.cells #[.int .i64 x] t)) (some ⟨w.heap.size, 0, none⟩) [x] := by
  intro j y hy
  obtain rfl : j = 0 := by have := (List.getElem?_eq_some_iff.1 hy).1; simp at this; exact this
  simp at hy; subst hy
  exact ⟨w.heap.size, 0, rfl, by simp, by simp [go_sem]⟩
theorem ins2 (w : World) (x y : Int) (t : TypeId) : Ins (w.alloc (.cells #[.int .i64 x, .int .i64 y] t)) (some ⟨w.heap.size, 0, none⟩) [x, y] := by
  intro j z hz
  have hj := (List.getElem?_eq_some_iff.1 hz).1
  simp at hj
  have : j = 0 ∨ j = 1 := by omega
  rcases this with rfl | rfl <;> simp at hz <;> subst hz <;> exact ⟨w.heap.size, 0, rfl, by simp, by simp [go_sem]⟩

set_option maxRecDepth 100000 in
set_option maxHeartbeats 1600000 in
theorem length_any (bB : Nat) (a : Option Addr) (c : Nat) (tr : List Kl) (vi : Value) (w : World) (hl : tr.length ≤ maxLen) (hb : w.heap[bB]? = some (.cells #[.slice a tr.length c, vi] 41 (0, 0))) (hk : Kls w a tr) :
    Calls Tryz.prog 77 #[.pointer (some ⟨bB, 0, none⟩)] w fun e w' => ∃ g, e = .returned (.slice (some ⟨g, 0, none⟩) 1 1) ∧ Ins w' (some ⟨g, 0, none⟩) [lenOf tr] ∧ Below w.heap.size w w' := by
  obtain ⟨c0, c1, f0, f1⟩ := blk2c hb
  have hL := hide (ilength_any a c tr w hl hk)
  clear hb hk c1 f0 f1
  go_enter Tryz.func77, Tryz.ntmps77
  go_wp2_with fail
  refine (unhide hL).mono ?_
  rintro e w1 ⟨rfl, hb1⟩
  have i1 := hide (ins1 w1 (lenOf tr) 2)
  have b1 := hide (laterB hb1 ((Below.refl w1.heap.size w1).alloc (Nat.le_refl _) (.cells #[.int .i64 (lenOf tr)] 2)))
  clear hb1 hL
  go_wp2
  go_ret
  exact ⟨_, rfl, unhide i1, unhide b1⟩
end Go.Proofs.YtioaehjppiodfaaGreatDoor
