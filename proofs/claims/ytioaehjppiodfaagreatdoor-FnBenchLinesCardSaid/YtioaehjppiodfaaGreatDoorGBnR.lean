/-
  What each deed of the bench does, plain; the contracts of edited, undone, seen and shown over the bench in memory.
  The contracts of the bench's changes and sum over the bench in memory.
-/
import Derived.Test.YtioaehjppiodfaaGreatDoorGBnS
namespace Go.Proofs.YtioaehjppiodfaaGreatDoor
open Go.RowKit
set_option linter.unusedVariables false
set_option linter.unusedSimpArgs false

/-- a bench: its track and those ahead, the last one last -/
abbrev Bch := List Kl × List (List Kl)
def doE (r : Option (List Kl)) (s : Bch) : An × Bch := match r with
  | none => (.err 2, s)
  | some t => (.nums [lenOf t], (t, s.2 ++ [s.1]))
def undoS (s : Bch) : An × Bch := match s.2.getLast? with
  | none => (.err 3, s)
  | some t => (.nums [lenOf t], (t, s.2.dropLast))
def seeS (i : Int) (s : Bch) : An × Bch := if (frameAt s.1 i).1 < 0 then (.err 4, s) else (.nums [(frameAt s.1 i).1, (frameAt s.1 i).2], s)
/-- what a deed answers, in memory -/
def DeedR (N bB : Nat) (x : An × Bch) (w : World) (e : Ending) (w' : World) : Prop := ∃ v, e = .returned v ∧ AnV w' v x.1 ∧ BS N w' bB x.2 ∧ Kb N bB w w'

theorem BS.nle {N : Nat} {w : World} {bB : Nat} {s : Bch} (h : BS N w bB s) : bB < w.heap.size := by
  obtain ⟨tv, vi, vs, h1, _⟩ := h.ex
  exact (Array.getElem?_eq_some_iff.1 h1).1
theorem BS.nw {N : Nat} {w : World} {bB : Nat} {s : Bch} (h : BS N w bB s) : N ≤ w.heap.size := by have := h.nle; have := h.nb; omega
theorem TOk.max {l : List Kl} (h : TOk l) : l.length ≤ maxLen := by have := h.1; unfold maxLen; omega

set_option maxRecDepth 100000 in
set_option maxHeartbeats 1600000 in
theorem edited_no (N bB : Nat) (s : Bch) (v : Value) (w : World) (hB : BS N w bB s) :
    Calls Tryz.prog 72 #[.pointer (some ⟨bB, 0, none⟩), v, .bool false] w (DeedR N bB (doE none s) w) := by
  have hB' := hide hB
  clear hB
  go_enter Tryz.func72, Tryz.ntmps72
  go_wp2
  go_ret
  exact ⟨_, rfl, rfl, unhide hB', Kb.refl _ _ _⟩

theorem keep1 {w w0 w1 : World} {a1 : Addr} {v1 : Value} (h : w0.cell? a1 = some v1 ∧ Below w.heap.size w w0) (hb : Below w0.heap.size w0 w1) :
    w1.cell? a1 = some v1 ∧ Below w.heap.size w w1 := ⟨cell_later hb h.1, h.2.trans (hb.mono h.2.size)⟩

/-- the bench behind an edit -/
theorem BS.push {N : Nat} {w w1 : World} {bB : Nat} {s : Bch} {tv vi : Value} {vs : List Value} {tm : Value} {t : List Kl} (hB : BS N w bB s)
    (h2 : KT w tv s.1) (h4 : ∀ (j : Nat) l, s.2[j]? = some l → ∃ u, vs[j]? = some u ∧ KT w u l) (hm : KT w tm t) (ht : TOk t) (hvs : vs.length = s.2.length)
    (hk : Kb N bB w w1) (hw : K94 w w1) (hb1 : w1.heap[bB]? = some (.cells #[tv, vi] 41 (0, 0))) (ho : w1.ownsRow N 36 1 vi (s.2.length + 1) (vs ++ [tv])) :
    BS N (w1.setCell ⟨bB, 0, none⟩ tm) bB (t, s.2 ++ [s.1]) ∧ Kb N bB w (w1.setCell ⟨bB, 0, none⟩ tm) := by
  have hlt : bB < w1.heap.size := (Array.getElem?_eq_some_iff.1 hb1).1
  have kS : Kb N bB w1 (w1.setCell ⟨bB, 0, none⟩ tm) := Kb.set hB.nb hlt
  have q1 : K94 w (w1.setCell ⟨bB, 0, none⟩ tm) := fun k c fz h => kS.k94 hb1 k c fz (hw k c fz h)
  refine ⟨⟨⟨tm, vi, vs ++ [tv], blk2_set0 hb1, hm.kept q1, ?_, fun j l hl => ?_⟩, hB.nb, ht, fun l hl => ?_⟩, hk.trans kS⟩
  · have := Ln.ownsRow_grown ho (grown_setC w1 bB 0 tm) (fun k hk e => by
      have e3 : k = bB := Option.some.inj e
      exact Lib.ownBlock_neF (World.ownsRowF_of ho) hb1 (by decide) (by rw [hk, e3]))
    simpa using this
  · by_cases hj : j < s.2.length
    · rw [List.getElem?_append_left hj] at hl
      obtain ⟨u, k1, k2⟩ := h4 j l hl
      exact ⟨u, by rw [List.getElem?_append_left (by omega)]; exact k1, k2.kept q1⟩
    · have hj2 : j = s.2.length := by have := (List.getElem?_eq_some_iff.1 hl).1; simp at this; omega
      subst hj2
      simp at hl
      subst hl
      exact ⟨tv, by rw [← hvs]; simp, h2.kept q1⟩
  · rcases List.mem_append.1 hl with h | h
    · exact hB.ok.2 l h
    · simp at h; subst h; exact hB.ok.1

set_option maxRecDepth 100000 in
set_option maxHeartbeats 1600000 in
theorem edited_yes (N bB : Nat) (s : Bch) (g c : Nat) (t : List Kl) (w : World) (hB : BS N w bB s) (hn : s.2.length ≤ 300) (ht : TOk t) (hm : KT w (.slice (some ⟨g, 0, none⟩) t.length c) t) :
    Calls Tryz.prog 72 #[.pointer (some ⟨bB, 0, none⟩), .slice (some ⟨g, 0, none⟩) t.length c, .bool true] w (DeedR N bB (doE (some t) s) w) := by
  obtain ⟨tv, vi, vs, hb, hkt, ho, hs⟩ := hB.ex
  obtain ⟨ta, tc, rfl, hA, hk0, hT⟩ := hkt
  obtain ⟨c0, c1, f0, f1⟩ := blk2c hb
  have hvs : vs.length = s.2.length := by have := ho.1; omega
  have hbd : w.drew.heap[bB]? = some (.cells #[.slice ta s.1.length tc, vi] 41 (0, 0)) := hb
  have hod : w.drew.ownsRow N 36 1 vi s.2.length vs := ho
  have hP := hide (push_any N bB s.2.length _ vi ta s.1.length tc vs w.drew (by omega) hB.nb hbd hod)
  have hB' := hide hB
  have hfin := hide (fun (w1 : World) (vi' : Value) (hk : Kb N bB w.drew w1) (hb1 : w1.heap[bB]? = some (.cells #[.slice ta s.1.length tc, vi'] 41 (0, 0))) (ho1 : w1.ownsRow N 36 1 vi' (s.2.length + 1) (vs ++ [.slice ta s.1.length tc])) =>
    BS.push (tm := .slice (some ⟨g, 0, none⟩) t.length c) (w := w.drew) (hB.below ((Below.refl _ _).drew)) ⟨ta, tc, rfl, hA, hk0, hT⟩ hs hm ht hvs hk (hk.k94 hbd) hb1 ho1)
  have kD := hide (show Kb N bB w w.drew from Kb.of_below ((Below.refl _ _).drew) hB.nw)
  have SD : Hid (w.drew.cell? ⟨bB, 0, none⟩ = some (.slice ta s.1.length tc)) := hide c0
  clear hB hb ho hs hA hk0 hT c0 c1 f0 f1 hbd hod
  go_enter Tryz.func72, Tryz.ntmps72
  go_upto_region 3 with fail
  go_region_held3 (fun w' => w'.cell? ⟨bB, 0, none⟩ = some (.slice ta s.1.length tc))
    (first | with_reducible exact unhide SD | with_reducible exact unhide S1)
    (first | (go_at_call 101; refine (unhide hP).mono ?_; rintro e w1 ⟨rfl, vi', hb1, ho1, hk1⟩; have S1 := hide (blk2c hb1).1))
  obtain ⟨hBS, hKb⟩ := unhide hfin w1 vi' hk1 hb1 ho1
  obtain ⟨d0, d1, q0, q1⟩ := blk2c hb1
  obtain ⟨tv9, vi9, vs9, z1, ⟨ta9, tc9, z2, z3, z4, z5⟩, z6⟩ := hBS.ex
  have e9 := (blk2c z1).1
  rw [World.cell?_setCell_same' _ _ _ (by rw [d0]; rfl)] at e9
  cases e9
  cases z2
  have hL := hide (length_any bB _ _ t _ _ ht.max z1 z4)
  have hBS' := hide hBS
  have hKb' := hide hKb
  clear hBS hKb z1 z3 z4 z5 z6 hfin hP hm hk1 ho1 hb1 S1
  go_wp2_with fail
  refine (unhide hL).mono ?_
  rintro e w2 ⟨g2, rfl, i2, b2⟩
  have i2' := hide i2
  have b2' := hide b2
  clear i2 b2 hL
  go_wp2
  go_ret
  exact ⟨_, rfl, ⟨_, _, rfl, unhide i2'⟩, (unhide hBS').below (unhide b2'), ((unhide kD).trans (unhide hKb')).trans (Kb.of_below (unhide b2') (unhide hBS').nw)⟩

theorem edited_any (N bB : Nat) (s : Bch) (g c : Nat) (r : Option (List Kl)) (w : World) (hB : BS N w bB s) (hn : s.2.length ≤ 300) (ht : ∀ t, r = some t → TOk t) (hm : KT w (.slice (some ⟨g, 0, none⟩) (outL r).length c) (outL r)) :
    Calls Tryz.prog 72 #[.pointer (some ⟨bB, 0, none⟩), .slice (some ⟨g, 0, none⟩) (outL r).length c, .bool r.isSome] w (DeedR N bB (doE r s) w) := by
  cases r with
  | none => exact edited_no N bB s _ w hB
  | some t => exact edited_yes N bB s g c t w hB hn (ht t rfl) hm

set_option maxRecDepth 100000 in
set_option maxHeartbeats 1600000 in
theorem undone_any (N bB : Nat) (s : Bch) (told : Value) (w : World) (hB : BS N w bB s) (hn : s.2.length ≤ 300) :
    Calls Tryz.prog 42 #[.pointer (some ⟨bB, 0, none⟩), told] w (DeedR N bB (undoS s) w) := by
  obtain ⟨tv, vi, vs, hb, hkt, ho, hs⟩ := hB.ex
  obtain ⟨tr, st⟩ := s
  rcases List.eq_nil_or_concat st with rfl | ⟨L, t, rfl⟩
  · have hP := hide (pop_no bB tv vi N vs w hb ho)
    have hB' := hide hB
    clear hB hb hkt ho hs
    go_enter Tryz.func42, Tryz.ntmps42
    go_wp2_with fail
    refine (unhide hP).mono ?_
    rintro e w1 ⟨rfl, rfl⟩
    clear hP
    go_wp2
    go_ret
    exact ⟨_, rfl, rfl, unhide hB', Kb.refl _ _ _⟩
  · have hU : Hid (undoS (tr, L ++ [t]) = (.nums [lenOf t], (t, L))) := hide (by simp [undoS])
    simp only [List.concat_eq_append] at *
    have hln : (L ++ [t]).length = L.length + 1 := by simp
    (try dsimp only at ho hs hn)
    rw [hln] at ho hn
    obtain ⟨g, c, rfl, _⟩ := own_someS ho (by omega)
    obtain ⟨u, hu, ktu⟩ := hs L.length t (by simp)
    have hP := hide (pop_yes bB g L.length c tv u N vs w (by omega) hb ho hu)
    have hlt : bB < w.heap.size := hB.nle
    have k1 : Kb N bB w (w.setCell ⟨bB, 1, none⟩ (.slice (some ⟨g, 0, none⟩) L.length c)) := Kb.set hB.nb hlt
    have hb1 := blk2_set1 (u := .slice (some ⟨g, 0, none⟩) L.length c) hb
    generalize hw1 : w.setCell ⟨bB, 1, none⟩ (.slice (some ⟨g, 0, none⟩) L.length c) = w1 at *
    have o1 : w1.ownsRow N 36 1 (.slice (some ⟨g, 0, none⟩) L.length c) L.length (vs.take L.length) := by
      rw [← hw1]
      exact Ln.ownsRow_grown (own_cutV ho (by omega)) (grown_setC w bB 1 _) (fun k hk e => by
        have e3 : k = bB := Option.some.inj e
        exact Lib.ownBlock_neF (World.ownsRowF_of ho) hb (by decide) (by rw [← e3]; exact hk))
    have hlt1 : bB < w1.heap.size := (Array.getElem?_eq_some_iff.1 hb1).1
    obtain ⟨d0, d1, q0, q1⟩ := blk2c hb1
    have k2 : Kb N bB w1 (w1.setCell ⟨bB, 0, none⟩ u) := Kb.set hB.nb hlt1
    have q : K94 w (w1.setCell ⟨bB, 0, none⟩ u) := (k1.trans k2).k94 hb
    have tOk : TOk t := hB.ok.2 t (by simp)
    have hBS : BS N (w1.setCell ⟨bB, 0, none⟩ u) bB (t, L) := by
      refine ⟨⟨u, _, vs.take L.length, blk2_set0 hb1, ktu.kept q, ?_, fun j l hl => ?_⟩, hB.nb, tOk, fun l hl => hB.ok.2 l (by simp [hl])⟩
      · exact Ln.ownsRow_grown o1 (grown_setC w1 bB 0 u) (fun k hk e => by
          have e3 : k = bB := Option.some.inj e
          exact Lib.ownBlock_neF (World.ownsRowF_of ho) hb (by decide) (by rw [← e3]; exact hk))
      · have hj : j < L.length := (List.getElem?_eq_some_iff.1 hl).1
        obtain ⟨u', a1, a2⟩ := hs j l (by rw [List.getElem?_append_left hj]; exact hl)
        exact ⟨u', by rw [List.getElem?_take_of_lt hj]; exact a1, a2.kept q⟩
    obtain ⟨ta, tc, rfl, z3, z4, z5⟩ := ktu.kept q
    have hL := hide (length_any bB ta tc t _ _ tOk.max (blk2_set0 hb1) z4)
    have hBS' := hide hBS
    have hKb' := hide (k1.trans k2)
    clear hBS k1 k2 z3 z4 z5 hb1 o1 hw1 hB hb hkt ho hs hu ktu q
    go_enter Tryz.func42, Tryz.ntmps42
    go_wp2_with fail
    refine (unhide hP).mono ?_
    rintro e w2 ⟨rfl, rfl⟩
    clear hP
    go_wp2_with fail
    refine (unhide hL).mono ?_
    rintro e w2 ⟨g2, rfl, i2, b2⟩
    have i2' := hide i2
    have b2' := hide b2
    clear i2 b2 hL
    go_wp2
    go_ret
    rw [unhide hU]
    exact ⟨_, rfl, ⟨_, _, rfl, unhide i2'⟩, (unhide hBS').below (unhide b2'), (unhide hKb').trans (Kb.of_below (unhide b2') (unhide hBS').nw)⟩

set_option maxRecDepth 100000 in
set_option maxHeartbeats 1600000 in
theorem shown_any (N bB : Nat) (s : Bch) (told : Value) (w : World) (hB : BS N w bB s) :
    Calls Tryz.prog 44 #[.pointer (some ⟨bB, 0, none⟩), told] w (DeedR N bB (.clips s.1, s) w) := by
  obtain ⟨tv, vi, vs, hb, ⟨ta, tc, rfl, hA, hk, hT⟩, ho, hs⟩ := hB.ex
  obtain ⟨c0, c1, f0, f1⟩ := blk2c hb
  have hB' := hide hB
  have hk' := hide hk
  clear hB hb ho hs hA hk hT c1 f0 f1
  go_enter Tryz.func44, Tryz.ntmps44
  go_wp2
  go_ret
  exact ⟨_, rfl, ⟨_, _, rfl, unhide hk'⟩, unhide hB', Kb.refl _ _ _⟩

set_option maxRecDepth 100000 in
set_option maxHeartbeats 1600000 in
theorem seen_any (N bB : Nat) (s : Bch) (a : Option Addr) (cp : Nat) (x : Int) (w : World) (hI : Ins w a [x]) (hB : BS N w bB s) :
    Calls Tryz.prog 43 #[.pointer (some ⟨bB, 0, none⟩), .slice a 1 cp] w (DeedR N bB (seeS x s) w) := by
  obtain ⟨tv, vi, vs, hb, ⟨ta, tc, rfl, hA, hk, hT⟩, ho, hs⟩ := hB.ex
  obtain ⟨c0, c1, f0, f1⟩ := blk2c hb
  obtain ⟨b, o, rfl, hbl, d0⟩ := hI 0 x rfl
  have hB' := hide hB
  have hF := hide (iframe_any ta tc s.1 x w.drew hB.ok.1.max (hk.below ((Below.refl _ _).drew)))
  have SD : Hid ((w.drew.cell? ⟨bB, 0, none⟩ = some (.slice ta s.1.length tc) ∧ w.drew.cell? ⟨b, o, none⟩ = some (.int .i64 x)) ∧ Below w.heap.size w w.drew) := hide ⟨⟨c0, d0⟩, (Below.refl _ _).drew⟩
  clear hB hb ho hs hA hk hT c0 c1 f0 f1 hI d0
  obtain ⟨F, hF0⟩ : ∃ F, frameAt s.1 x = F := ⟨_, rfl⟩
  have hS : Hid (seeS x s = if F.1 < 0 then (.err 4, s) else (.nums [F.1, F.2], s)) := hide (by unfold seeS; rw [hF0])
  rw [hF0] at hF
  clear hF0
  obtain ⟨F1, F2⟩ := F
  dsimp only at *
  go_enter Tryz.func43, Tryz.ntmps43
  go_upto_region 1 with fail
  go_region_held3 (fun w' => w'.cell? ⟨bB, 0, none⟩ = some (.slice ta s.1.length tc) ∧ w'.cell? ⟨b, o, none⟩ = some (.int .i64 x))
    (first | with_reducible exact (unhide SD).1 | with_reducible exact (unhide S1).1)
    (first | (go_at_call 78; refine (unhide hF).mono ?_; rintro e w1 ⟨rfl, b1⟩; have S1 := hide (show (w1.cell? ⟨bB, 0, none⟩ = some (.slice ta s.1.length tc) ∧ w1.cell? ⟨b, o, none⟩ = some (.int .i64 x)) ∧ Below w.heap.size w w1 from ⟨⟨cell_later b1 (unhide SD).1.1, cell_later b1 (unhide SD).1.2⟩, laterB (unhide SD).2 b1⟩); clear b1))
  have hb2 := hide (unhide S1).2
  clear S1 SD hF
  by_cases hneg : F1 < 0
  · have g1 : decide (F1 < 0) = true := by simp; omega
    go_wp2
    go_ret
    rw [unhide hS, if_pos hneg]
    exact ⟨_, rfl, rfl, (unhide hB').below (unhide hb2), Kb.of_below (unhide hb2) (unhide hB').nw⟩
  · have g1 : decide (F1 < 0) = false := by simp; omega
    have i1 := hide (ins2 w1 F1 F2 2)
    have b1 := hide (laterB (unhide hb2) ((Below.refl w1.heap.size w1).alloc (Nat.le_refl _) (.cells #[.int .i64 F1, .int .i64 F2] 2)))
    go_wp2
    go_ret
    rw [unhide hS, if_neg (by omega)]
    exact ⟨_, rfl, ⟨_, _, rfl, unhide i1⟩, (unhide hB').below (unhide b1), Kb.of_below (unhide b1) (unhide hB').nw⟩
end Go.Proofs.YtioaehjppiodfaaGreatDoor

namespace Go.Proofs.YtioaehjppiodfaaGreatDoor
open Go.RowKit
set_option linter.unusedVariables false
set_option linter.unusedSimpArgs false

/-- how many frames are added -/
def addF (n : Int) (c : Ch) : Int := if c.1 = 3 then IntKind.i64.wrap (n + c.2.2.2) else n
def addL (L : List Ch) : Int := L.foldl addF 0
theorem addL_snoc (L : List Ch) (c : Ch) : addL (L ++ [c]) = addF (addL L) c := by simp [addL]
noncomputable def chgS (s : Bch) : An × Bch := (.nums [((changesOf [] s.1).length : Int), addL (changesOf [] s.1)], s)
def btI (l : List UInt8) : List Int := l.map (fun b => (b.toNat : Int))
/-- the digest of a track's text -/
def sumT (l : List Kl) : Int := dig (btI (Lib.join (l.map ctL) [32]))

set_option maxRecDepth 100000 in
set_option maxHeartbeats 1600000 in
theorem changes_any (N bB : Nat) (s : Bch) (told : Value) (w : World) (hB : BS N w bB s) :
    Calls Tryz.prog 45 #[.pointer (some ⟨bB, 0, none⟩), told] w (DeedR N bB (chgS s) w) := by
  obtain ⟨tv, vi, vs, hb, ⟨ta, tc, rfl, hA, hk, hT⟩, ho, hs⟩ := hB.ex
  have hbA : Below w.heap.size w (w.alloc (.cells #[] 94)) := (Below.refl _ _).alloc (Nat.le_refl _) _
  obtain ⟨c0, c1, f0, f1⟩ := blk2c ((hbA.block bB hB.nle).trans hb)
  have hC := hide (ichanges_any (some ⟨w.heap.size, 0, none⟩) ta 0 tc [] s.1 _ (by simp) hB.ok.1.max Kls.nil (hk.below hbA))
  have hB' := hide hB
  have hbA' := hide hbA
  have hS : Hid (chgS s = (.nums [((changesOf [] s.1).length : Int), addL (changesOf [] s.1)], s)) := hide rfl
  have hLn := changes_len [] s.1
  generalize changesOf [] s.1 = L at *
  clear hB hb ho hs hA hk hT c1 f0 f1 hbA
  go_enter Tryz.func45, Tryz.ntmps45
  go_wp2_with fail
  refine (unhide hC).mono ?_
  rintro e w1 ⟨g, c, rfl, hg, own, b1⟩
  have b1' := hide (laterB (unhide hbA') b1)
  have kc := hide (chs_own own)
  clear own b1 hC hbA'
  go_wp2
  go_loopw [6, 17] (fun v t wr => ∃ k : Nat, k ≤ L.length ∧ t = .int .i64 k ∧ v = .int .i64 (addL (L.take k)) ∧ Hid (Below w1.heap.size w1 wr)) (fun _ t _ => L.length - (intOf t).toNat)
  case atStart => exact ⟨0, by omega, rfl, rfl, hide (Below.refl _ _)⟩
  case round =>
    obtain ⟨k, hk1, rfl, rfl, hw⟩ := hrel
    by_cases hlt : k < L.length
    · obtain ⟨x1, x2, x3, x4, b, o, hx, e, hbl, d0, d1, d2, d3⟩ := chs_at (unhide kc) (unhide hw) hlt
      cases e
      simp only [Nat.zero_add] at d0 d1 d2 d3
      have g1 : decide ((k : Int) < L.length) = true := by simp; omega
      have hsn := addL_snoc (L.take k) (x1, x2, x3, x4)
      rw [← take_snocC hx] at hsn
      unfold addF at hsn
      dsimp only at hsn
      have hsn' := hide hsn
      have hw2 := hide (laterB (unhide hw) ((Below.refl wr.heap.size wr).alloc (Nat.le_refl _) (.cells #[.int .i64 x1, .int .i64 x2, .int .i64 x3, .int .i64 x4] 103)))
      clear hsn hx hw hbl
      generalize addL (L.take k) = A at *
      by_cases h3 : x1 = 3
      · subst h3
        go_wp2
        go_roundw
        case rel => exact ⟨k + 1, by omega, by go_num, by have := unhide hsn'; rw [if_pos rfl] at this; rw [this]; first | rfl | simp [IntKind.wrap_i64, wrap64], hw2⟩
        case measure => simp [intOf]; omega
      · have g3 : (x1 == 3) = false := by simpa using h3
        go_wp2
        go_roundw
        case rel => exact ⟨k + 1, by omega, by go_num, by have := unhide hsn'; rw [if_neg h3] at this; rw [this], hw2⟩
        case measure => simp [intOf]; omega
    · obtain rfl : k = L.length := by omega
      have g1 : decide ((L.length : Int) < L.length) = false := by simp
      rw [List.take_length] at *
      have i1 := hide (ins2 wr (L.length : Int) (addL L) 2)
      have b2 := hide (laterB (laterB (unhide b1') (unhide hw)) ((Below.refl wr.heap.size wr).alloc (Nat.le_refl _) (.cells #[.int .i64 (L.length : Int), .int .i64 (addL L)] 2)))
      clear kc hw b1'
      go_wp2
      go_ret
      rw [unhide hS]
      exact ⟨_, rfl, ⟨_, _, rfl, unhide i1⟩, (unhide hB').below (unhide b2), Kb.of_below (unhide b2) (unhide hB').nw⟩

theorem btI_byt (l : List UInt8) : Byt (btI l) := by
  intro z hz
  obtain ⟨b, _, rfl⟩ := List.mem_map.1 hz
  have := b.toNat_lt
  omega
theorem btI_len (l : List UInt8) : (btI l).length = l.length := by simp [btI]
theorem bys_world (w : World) (l : List UInt8) : Bys (Lib.bytesWorld w 5 ⟨l.toArray⟩) (some ⟨w.heap.size, 0, none⟩) (btI l) := by
  intro j x hx
  have hj : j < l.length := by have := (List.getElem?_eq_some_iff.1 hx).1; rwa [btI_len] at this
  refine ⟨w.heap.size, 0, rfl, by rw [Lib.bytesWorld_size]; omega, ?_⟩
  have := Lib.bytesWorld_cell w 5 ⟨l.toArray⟩ j (by show j < l.toArray.size; simpa using hj)
  rw [Nat.zero_add, this]
  unfold btI at hx
  rw [List.getElem?_map, List.getElem?_eq_getElem hj] at hx
  simp at hx
  simp [List.getD, List.getElem?_eq_getElem hj, ← hx]

theorem aok_b64 {l : List Kl} (h : TOk l) : ∀ x ∈ l, B64K x := by
  intro x hx
  have := h.2.1 x hx
  unfold COk at this
  unfold B64K B64
  omega

set_option maxRecDepth 100000 in
set_option maxHeartbeats 1600000 in
theorem sum_any (N bB : Nat) (s : Bch) (told : Value) (w : World) (hB : BS N w bB s) (hG : Gv w) :
    Calls Tryz.prog 46 #[.pointer (some ⟨bB, 0, none⟩), told] w (DeedR N bB (.nums [sumT s.1], s) w) := by
  obtain ⟨tv, vi, vs, hb, ⟨ta, tc, rfl, hA, hk, hT⟩, ho, hs⟩ := hB.ex
  obtain ⟨c0, c1, f0, f1⟩ := blk2c hb
  have hb64 := aok_b64 hB.ok.1
  have hlen := hB.ok.1.1
  have hC := hide (ctexts_any ta tc s.1 w (by omega) hb64 hG hk)
  have hB' := hide hB
  have hjl := join_len (s.1.map ctL) 65 (by
    intro x hx
    obtain ⟨y, hy, rfl⟩ := List.mem_map.1 hx
    exact ctL_len (hb64 y hy))
  rw [List.length_map] at hjl
  have hS : Hid (sumT s.1 = dig (btI (Lib.join (s.1.map ctL) [32]))) := hide rfl
  have hJ := hide (fun (w1 : World) (g c : Nat) (own : w1.ownsRow w.heap.size 9 1 (.slice (some ⟨g, 0, none⟩) s.1.length c) s.1.length (s.1.map fun x => Value.string (ct x))) =>
    join_row (s.1.map ctL) (by simp) (show w1.ownsRow w.heap.size 9 1 (.slice (some ⟨g, 0, none⟩) s.1.length c) s.1.length ((s.1.map ctL).map fun x => Value.string ⟨x.toArray⟩) from by rw [List.map_map]; exact own) (by omega) (by omega))
  have hjl2 : (Lib.join (s.1.map ctL) [32]).length ≤ 19800 := by omega
  generalize Lib.join (s.1.map ctL) [32] = J at *
  clear hB hb ho hs hA hk hT c1 f0 f1 hb64 hjl
  go_enter Tryz.func46, Tryz.ntmps46
  go_wp2_with fail
  refine (unhide hC).mono ?_
  rintro e w1 ⟨g, c, rfl, hg, own, b1⟩
  have hJ1 := hide (unhide hJ w1 g c own)
  have b1' := hide b1
  clear own b1 hC hJ c0
  go_wp2_with fail
  refine (unhide hJ1).mono ?_
  rintro e w2 ⟨rfl, b2⟩
  have b2' := hide (laterB (unhide b1') b2)
  clear b2 hJ1 b1'
  have hcv := Lib.run_convert_string_bytes (P := Tryz.prog) w2 9 22 5 ⟨J.toArray⟩ Tryz.underlying9 Tryz.underlying22 Tryz.underlying5
  have hsz : (⟨J.toArray⟩ : ByteArray).size = J.length := by show J.toArray.size = _; simp
  rw [hsz] at hcv
  have hD := idig_any (some ⟨w2.heap.size, 0, none⟩) (grownCap w2 J.length 0 5) (btI J) (Lib.bytesWorld w2 5 ⟨J.toArray⟩) (by rw [btI_len]; unfold maxLen; omega) (by rw [btI_len]; exact grownCap_ge _ _ _ _) (grownCap_le_maxLen _ _ _ _ (by unfold maxLen; omega)) (btI_byt J) (bys_world w2 J)
  rw [btI_len] at hD
  have hD' := hide hD
  have b3 := hide (laterB (unhide b2') (Lib.bytesWorld_below w2 5 ⟨J.toArray⟩))
  clear hD hsz b2'
  generalize Lib.bytesWorld w2 5 ⟨J.toArray⟩ = w3 at *
  go_wp2_with fail
  refine (unhide hD').mono ?_
  rintro e w4 ⟨rfl, rfl⟩
  have i1 := hide (ins1 w4 (dig (btI J)) 2)
  have b4 := hide (laterB (unhide b3) ((Below.refl w4.heap.size w4).alloc (Nat.le_refl _) (.cells #[.int .i64 (dig (btI J))] 2)))
  clear hD' b3 hcv
  go_wp2
  go_ret
  rw [unhide hS]
  exact ⟨_, rfl, ⟨_, _, rfl, unhide i1⟩, (unhide hB').below (unhide b4), Kb.of_below (unhide b4) (unhide hB').nw⟩
end Go.Proofs.YtioaehjppiodfaaGreatDoor
