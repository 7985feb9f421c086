/-
  A round beside leavers: from the head of the loop that starts its workers to behind Wait.
  Goroutine 0 alone at work beside leavers, in the real world: steps that list, steps that turn. It names no program; no conditions.
  Lock and Unlock of a mutex that nobody has, by goroutine 0 beside leavers.
-/
import Derived.Test.YtpmmimcafkillaaZYc
import Derived.Test.YtpmmimcafkillaaZYd
set_option linter.unusedVariables false
set_option linter.unusedSimpArgs false
namespace Go.Proofs.Ytpmmimcafkillaa.Tr
open Go Go.Conc Go.ConcN Go.RowKit Go.Conc.Lib Go.ConcR.Gen Go.ConcM
open Go.ConcR (KK wgBlock WgAt stA smA rd wr mk DC0)
open Go.Proofs.Ytpmmimcafkillaa.Mx
open Go.Proofs.Ytpmmimcafkillaa.Mx (Mu St)
open Go.Proofs.Ytpmmimcafkillaa.Br (BT BTS Hd Pz Pst Shn Thr)
open Go.Proofs.Ytpmmimcafkillaa.Rs (Rule outOf out_at out_len plc plc_need rnds round_at round_len ri_rnds)
open Go.Proofs.Ytpmmimcafkillaa (Tv Tks Ins jobOk job_tok TOk job_short)
/-- what a round leaves -/
structure RoundP (ts : List Tv) (f : Rule) (p n o0 Lg Wg Mp : Nat) (w w' : World) : Prop where
  low : ∀ b, b < w.heap.size → b ≠ Lg → b ≠ Wg → b ≠ Mp → w'.heap[b]? = w.heap[b]?
  lg : w'.heap[Lg]? = some (.cells #[.int .i32 0, .int .u32 0, .map (some Mp), .int .i64 ((o0 + n : Nat) : Int)] 92 (0, 0))
  held : ∀ l, HeldA Mp ts (outOf f ts) (p + 1) l [] w'
  size : w.heap.size ≤ w'.heap.size
  tape : w'.tape = w.tape
  output : w'.output = w.output
  os : Later w.os w'.os
theorem cell_blk {w w' : World} {ad : Addr} {x : Value} (h : w'.heap[ad.block]? = w.heap[ad.block]?) (hc : w.cell? ad = some x) : w'.cell? ad = some x := by
  unfold World.cell? at hc ⊢
  rw [h]
  exact hc
section
variable {w wv : World} {S : Nat → Prop} {Lg Wg Mp gq cR o0 p : Nat} {ts : List Tv} {f : Rule} {l : List Int} {bk rb jb : Addr} {rule : Value} {a : Option Addr} {cap : Nat} {z0 z1 z17 z18 z19 : Value} {cs : List Frame}
set_option maxRecDepth 100000 in
set_option maxHeartbeats 2000000 in
/-- ████ A ROUND ████ -/
theorem roundB [Thr] (hj : jobOk ts = true) (hl : (rnds ts)[p]? = some l) (ho : o0 ≤ 1000)
    (hLg : w.heap[Lg]? = some (.cells #[.int .i32 0, .int .u32 0, .map (some Mp), .int .i64 (o0 : Int)] 92 (0, 0))) (hWg : w.heap[Wg]? = some (.cells #[.int .u64 0, .int .u32 0] 99 (0, 0))) (hMp : HeldA Mp ts (outOf f ts) p l [] w)
    (hbk : w.cell? bk = some (.pointer (some ⟨Lg, 0, none⟩))) (nbk : bk.block ≠ Lg ∧ bk.block ≠ Wg ∧ bk.block ≠ Mp) (hrb : w.cell? rb = some rule) (nrb : rb.block ≠ Lg ∧ rb.block ≠ Wg ∧ rb.block ≠ Mp) (hjb : w.cell? jb = some (.slice a ts.length cap)) (njb : jb.block ≠ Lg ∧ jb.block ≠ Wg ∧ jb.block ≠ Mp)
    (hq : ∀ (k : Nat) (x : Int), l[k]? = some x → w.cell? ⟨gq, k, none⟩ = some (.int .i64 x)) (nq : gq ≠ Lg ∧ gq ≠ Wg ∧ gq ≠ Mp)
    (hbel : ∀ b, b < wv.heap.size → w.heap[b]? = wv.heap[b]?) (hwv : wv.heap.size ≤ w.heap.size) (nwv : wv.heap.size ≤ Lg ∧ wv.heap.size ≤ Wg ∧ wv.heap.size ≤ Mp)
    (hR : RuleOk wv rule ts.length f) (hT : Tks wv a ts) (hbd : ∀ x ∈ outOf f ts, 0 ≤ x ∧ x < 1000000007) (hTh : Thr.N ≤ Wg) (j4 j6 j7 j9 j10 j11 j12 j13 j14 j15 j16 j20 j21 j22 j23 j27 j28 j29 j30 j31 j32 j33 j34 j35 j36 : Value) :
    BTS Try.prog (fun g' w' => (∃ (j4 j6 j7 j8 j9 j10 j11 j12 j13 j14 j15 j16 j20 j21 j22 j23 j24 j25 j26 j27 j28 j29 j30 j31 j32 j33 j34 j35 j36 : Value), g' = G ((base 42).at ⟨#[z0, z1, .pointer (some jb), .pointer (some rb), j4, .pointer (some bk), j6, j7, j8, j9, j10, j11, j12, j13, j14, j15, j16, z17, z18, z19, j20, j21, j22, j23, j24, j25, j26, j27, j28, j29, j30, j31, j32, j33, j34, j35, j36], []⟩ (.inRegion ops12 [] :: [.inBlock 1, .code R13, .inLoop L1, .inBlock 0, .code R14])) cs) ∧ RoundP ts f p l.length o0 Lg Wg Mp w w') S 0 (G ((base 42).at ⟨#[z0, z1, .pointer (some jb), .pointer (some rb), j4, .pointer (some bk), j6, j7, .pointer (some ⟨Wg, 0, none⟩), j9, j10, j11, j12, j13, j14, j15, j16, z17, z18, z19, j20, j21, j22, j23, .slice (some ⟨gq, 0, none⟩) l.length cR, .int .i64 (l.length : Int), .int .i64 0, j27, j28, j29, j30, j31, j32, j33, j34, j35, j36], []⟩ [.code L2, .inLoop L2, .inBlock 2, .code R12, .inBlock 1, .code R13, .inLoop L1, .inBlock 0, .code R14]) cs) w := by
  intro W gs sl t q hh h0 hL hP
  have hlt : ∀ b, S b → b < w.heap.size := fun b hb => hh.lt hb
  have hem : ∀ b, S b → ∃ e, w.heap[b]? = some (.cells #[] e (0, 0)) := fun b hb => let ⟨c, e, h1, _⟩ := hh.inn b hb; ⟨e, h1⟩
  have sLg : ¬ S Lg := fun h => by obtain ⟨e, he⟩ := hem _ h; rw [hLg] at he; simp at he
  have sWg : ¬ S Wg := fun h => by obtain ⟨e, he⟩ := hem _ h; rw [hWg] at he; simp at he
  have sMp : ¬ S Mp := fun h => by
    obtain ⟨e, he⟩ := hem _ h
    obtain ⟨lm, ⟨es, c, h1, _⟩, _⟩ := hMp
    rw [h1] at he; simp at he
  have nLW : Lg ≠ Wg := fun e => by rw [e, hWg] at hLg; simp at hLg
  have nLM : Lg ≠ Mp := fun e => by
    obtain ⟨lm, ⟨es, c, h1, _⟩, _⟩ := hMp
    rw [← e, hLg] at h1; simp at h1
  have nWM : Wg ≠ Mp := fun e => by
    obtain ⟨lm, ⟨es, c, h1, _⟩, _⟩ := hMp
    rw [← e, hWg] at h1; simp at h1
  have ltLg : Lg < w.heap.size := (Array.getElem?_eq_some_iff.1 hLg).1
  have ltWg : Wg < w.heap.size := (Array.getElem?_eq_some_iff.1 hWg).1
  have ltMp : Mp < w.heap.size := by obtain ⟨lm, ⟨es, c, h1, _⟩, _⟩ := hMp; exact (Array.getElem?_eq_some_iff.1 h1).1
  have hsz : W.heap.size = w.heap.size := hh.size
  have hgs : 0 < gs.size := (Array.getElem?_eq_some_iff.1 h0).1
  let Y : Lay := { N := w.heap.size, Lg := Lg, Wg := Wg, Mp := Mp, S := S, b := gs.size - 1, n0 := t.size, lgN := ltLg, wgN := ltWg, mpN := ltMp, lw := nLW, lm := nLM, wm := nWM, sN := fun x hx => ⟨hlt x hx, fun e => sLg (e ▸ hx), fun e => sWg (e ▸ hx), fun e => sMp (e ▸ hx)⟩ }
  have eW : ∀ b, ¬ S b → W.heap[b]? = w.heap[b]? := fun b hb => hh.out b hb
  have nrm : ∀ {ad : Addr} {x : Value}, w.cell? ad = some x → (ad.block ≠ Lg ∧ ad.block ≠ Wg ∧ ad.block ≠ Mp) → Nrm Y ad.block ∧ W.cell? ad = some x := fun {ad x} hc hn => by
    have hns : ¬ S ad.block := fun h => by
      obtain ⟨e, he⟩ := hem _ h
      simp [World.cell?, he] at hc
    exact ⟨⟨cell_lt hc, hns, hn⟩, cell_blk (eW _ hns) hc⟩
  have shA : ShAt Y 92 99 W ⟨Mu.free, 0, 0, 0, 0, o0⟩ := ⟨(eW Lg sLg).trans hLg, by
    show W.heap[Wg]? = some (wgBlock 99 (((0 : Nat) : Int) * KK + ((0 : Nat) : Int)) ((0 : Nat) : Int))
    rw [show ((0 : Nat) : Int) * KK + ((0 : Nat) : Int) = 0 by decide]
    exact (eW Wg sWg).trans hWg⟩
  have kn0 : KnA Y W W := ⟨fun _ _ _ _ _ => rfl, by show w.heap.size ≤ _; omega, ⟨_, shA⟩, rfl, rfl, .refl _⟩
  have lowK : LowK Y wv (KnA Y W) := by
    refine ⟨fun v hv b hb hs => ?_, fun ad hb hs => ⟨ad, rfl, .inl ⟨by show _ < w.heap.size; omega, hs, by show _ ≠ Lg; omega, by show _ ≠ Wg; omega, by show _ ≠ Mp; omega⟩⟩, fun b hs hb => ?_⟩
    · rw [hv.low b (by show _ < w.heap.size; omega) (by show _ ≠ Lg; omega) (by show _ ≠ Wg; omega) (by show _ ≠ Mp; omega), eW b hs, hbel b hb]
    · obtain ⟨e, he⟩ := hem b hs
      exact ⟨e, by rw [← hbel b hb]; exact he⟩
  have hbk' := nrm hbk nbk
  have hrb' := nrm hrb nrb
  have hjb' := nrm hjb njb
  have hW := worker (Y := Y) (W := W) (wv := wv) (f := f) hj hl hbk'.2 hbk'.1 hrb'.2 hrb'.1 hjb'.2 hjb'.1 lowK hR hT hbd
  have hln := round_len hj hl
  have h200 := job_short hj
  have hgo : ∀ K, ∃ m, GoS Try.prog Y 92 99 (fun _ => False) (AtS Try.prog Y 92 99 (HeldA Mp ts (outOf f ts) p l) l.length (FinS (KnA Y W) jb rb bk z0 z1 z17 z18 z19 cs) (K + 1) (nxt l.length) (fun _ => False)) m (G ((base 42).at ⟨#[z0, z1, .pointer (some jb), .pointer (some rb), j4, .pointer (some bk), j6, j7, .pointer (some ⟨Wg, 0, none⟩), j9, j10, j11, j12, j13, j14, j15, j16, z17, z18, z19, j20, j21, j22, j23, .slice (some ⟨gq, 0, none⟩) l.length cR, .int .i64 (l.length : Int), .int .i64 0, j27, j28, j29, j30, j31, j32, j33, j34, j35, j36], []⟩ [.code L2, .inLoop L2, .inBlock 2, .code R12, .inBlock 1, .code R13, .inLoop L1, .inBlock 0, .code R14]) cs) W := fun K => by
    obtain ⟨m, hm⟩ := headS (Y := Y) (Held := HeldA Mp ts (outOf f ts) p l) (Kn := KnA Y W) (l := l) (ra := ⟨gq, 0, none⟩) (bk := bk) (rb := rb) (jb := jb) (cR := cR) (z0 := z0) (z1 := z1) (z17 := z17) (z18 := z18) (z19 := z19) (cs := cs) (knA Y W) (fun v hv k x hx => by
      obtain ⟨n1, n2⟩ := nrm (hq k x hx) nq
      rw [addr_add, Nat.zero_add]
      exact n1.cell n2 hv) (fun k hk => by
      obtain ⟨n1, n2⟩ := nrm (hq k _ (List.getElem?_eq_getElem hk)) nq
      rw [addr_add, Nat.zero_add]
      exact n1.ro) (by omega) hW l.length (Nat.le_refl _) (K + 1)
    rw [Nat.sub_self] at hm
    exact ⟨m, hm j4 j6 j7 j9 j10 j11 j12 j13 j14 j15 j16 j20 j21 j22 j23 j27 j28 j29 j30 j31 j32 j33 j34 j35 j36 W kn0⟩
  have hheld : HeldA Mp ts (outOf f ts) p l [] W := heldA_blk _ _ _ (eW Mp sMp) hMp
  obtain ⟨N1, m1, T1, hr1, hD⟩ := phase (P := Try.prog) (Y := Y) (tL := 92) (tW := 99) (Held := HeldA Mp ts (outOf f ts) p l) (n := l.length) (Fin := FinS (KnA Y W) jb rb bk z0 z1 z17 z18 z19 cs) (o0 := o0) (sl := sl) heldA_blk ho (by omega) h0 hL (by show gs.size = gs.size - 1 + 1; omega) hsz.symm rfl hP.clean hP.known hP.over hP.hears shA hheld hgo
  obtain ⟨R1, w1, sl1, q1, a1, F1, log, sh1, rfl, h01, hF1, hL1, ⟨hc1, hk1, hov1⟩, hd1, hheld1, ⟨hnd, hlog⟩, hsh1, rfl⟩ := hD
  have hP1 : Pst (fun b => S b ∨ b = Wg) 0 T1 := ⟨hc1, hk1, hov1, hd1⟩
  unfold FinS at hF1
  obtain ⟨hkn1, hF1⟩ := hF1
  obtain ⟨y4, y6, y7, y8, y9, y10, y11, y12, y13, y14, y15, y16, y20, y21, y22, y23, y24, y25, y26, y27, y28, y29, y30, y31, y32, y33, y34, y35, y36, m, hgoes⟩ := hF1
  obtain ⟨N2, R2, g2, d2, sl2, T2, q2, hr2, h02, hL2, hP2, hg2, hkn2⟩ := RT.goes (S := fun b => S b ∨ b = Wg) m a1 w1.drawn (by exact hgoes) w1.drawn R1 sl1 T1 q1 h01 hL1 hP1
  have e1 : w1.at w1.drawn = w1 := rfl
  rw [e1] at hr2
  have hbl : ∀ b, b < w.heap.size → b ≠ Lg → b ≠ Wg → b ≠ Mp → w1.heap[b]? = W.heap[b]? := fun b h1 h2 h3 h4 => hkn1.low b h1 h2 h3 h4
  have hcl : ∀ b, (S b ∨ b = Wg) → ∃ c e, (w1.at d2).heap[b]? = some (.cells c e (0, 0)) := fun b hb => by
    rcases hb with hb | rfl
    · obtain ⟨c, e, _, h2⟩ := hh.inn b hb
      exact ⟨c, e, (hbl b (hlt b hb) (fun e => sLg (e ▸ hb)) (fun e => sWg (e ▸ hb)) (fun e => sMp (e ▸ hb))).trans h2⟩
    · exact ⟨_, _, hsh1.2⟩
  have s1Lg : ¬ (S Lg ∨ Lg = Wg) := fun h => h.elim sLg nLW
  have s1Mp : ¬ (S Mp ∨ Mp = Wg) := fun h => h.elim sMp (fun e => nWM e.symm)
  refine ⟨N1 + N2, R2, g2, vw (fun b => S b ∨ b = Wg) (w1.at d2), w1.at d2, _, sl2, T2, q2, by rw [runNT_add, hr1]; exact hr2, h02, hL2, hP2, vw_hd hcl (fun b hb => hb.elim (hh.thr b) (fun e => by rw [e]; exact hTh)), ⟨_, _, _, _, _, _, _, _, _, _, _, _, _, _, _, _, _, _, _, _, _, _, _, _, _, _, _, _, _, hg2⟩, ?_⟩
  refine ⟨fun b h1 h2 h3 h4 => ?_, ?_, fun l2 => ?_, ?_, ?_, ?_, ?_⟩
  · by_cases hx : S b
    · obtain ⟨c, e, h5, h6⟩ := hh.inn b hx
      rw [vw_in (W := w1.at d2) (S := fun b => S b ∨ b = Wg) (.inl hx) ((hbl b h1 h2 h3 h4).trans h6)]
      exact h5.symm
    · rw [vw_out (fun h => h.elim hx h3)]
      exact (hbl b h1 h2 h3 h4).trans (eW b hx)
  · rw [vw_out s1Lg]
    exact hsh1.1
  · have h7 : HeldA Mp ts (outOf f ts) p l log (vw (fun b => S b ∨ b = Wg) (w1.at d2)) := heldA_blk _ _ _ (vw_out s1Mp) hheld1
    obtain ⟨lm, h8, h9⟩ := h7
    refine ⟨lm, h8, ⟨fun n x hn hx => h9.has n x ?_ hx, fun n hn => h9.no n fun hc => hn ?_⟩⟩
    · rcases hn with hn | ⟨k, h10, _⟩
      · rcases Nat.lt_or_ge (plc ts n) p with h | h
        · exact .inl h
        · right
          have hnl : n < ts.length := by rw [← out_len f ts]; exact (List.getElem?_eq_some_iff.1 hx).1
          have hm := (((ri_rnds hj).mem p l hl).2.1 (n : Int)).2 ⟨n, hnl, rfl, by omega⟩
          obtain ⟨k, hk⟩ := List.mem_iff_getElem?.1 hm
          exact ⟨k, (hlog k).2 (List.getElem?_eq_some_iff.1 hk).1, hk⟩
      · simp at h10
    · rcases hc with h | ⟨k, _, h⟩
      · exact .inl (by omega)
      · obtain ⟨i, h11, _, h13⟩ := round_at hj hl h
        have : n = i := by omega
        subst this
        exact .inl (by omega)
  · rw [vw_size]
    have : w.heap.size ≤ w1.heap.size := hkn1.size
    exact this
  · exact hkn1.tape.trans hh.tape
  · exact hkn1.output.trans hh.output
  · have := hkn1.os
    have eos : W.os = w.os := hh.os
    rw [← eos]
    exact this
end
end Go.Proofs.Ytpmmimcafkillaa.Tr

set_option linter.unusedVariables false
set_option linter.unusedSimpArgs false
namespace Go.Proofs.Ytpmmimcafkillaa.Tr
open Go Go.Conc
open Go.ConcN (sumTo upd sumTo_upd upd_ne upd_same)
open Go.ConcR (DC0)
open Go.Proofs.Ytpmmimcafkillaa.Br (BT BTS Hd Pz Pst Shn Thr EvN)
variable {P : Program}
def RTS (P : Program) (Q : Goroutine → World → Prop) (S : Nat → Prop) (e : Nat) (g : Goroutine) (W : World) : Prop :=
  ∀ (d : Nat) (gs : Array Goroutine) (sl : Option (Nat × Nat)) (t : Trace) (q : Nat → Nat), gs[0]? = some g → Leavers P t gs q → Pst S e t →
    ∃ (N : Nat) (gs' : Array Goroutine) (g' : Goroutine) (W' : World) (sl' : Option (Nat × Nat)) (t' : Trace) (q' : Nat → Nat),
      runNT P N (crowd gs (W.at d) sl) t = (.next (crowd gs' W' sl'), t') ∧ gs'[0]? = some g' ∧ Leavers P t' gs' q' ∧ Pst S 0 t' ∧ Q g' W'
section
variable {Q : Goroutine → World → Prop} {S : Nat → Prop} {e : Nat} {g : Goroutine} {W : World}
theorem RTS.done (h : ∀ d, Q g (W.at d)) : RTS P Q S 0 g W := fun d gs sl t q h0 hL hP => ⟨0, gs, g, W.at d, sl, t, q, rfl, h0, hL, hP, h d⟩
theorem RTS.at {k : Nat} (h : RTS P Q S e g (W.at k)) : RTS P Q S e g W := fun d => h d
theorem RTS.step (hrun : g.status = .running) (h : ∀ d, ∃ g' W' es, stepG P true g (W.at d) = .go g' W' es ∧ (∀ x ∈ es, EvN S x) ∧ RTS P Q S (deafBehind e es) g' W') : RTS P Q S e g W := by
  have key : ∀ (M : Nat) (d : Nat) (gs : Array Goroutine) (sl : Option (Nat × Nat)) (t : Trace) (q : Nat → Nat), sumTo gs.size q < M → gs[0]? = some g → Leavers P t gs q → Pst S e t →
      ∃ (N : Nat) (gs' : Array Goroutine) (g' : Goroutine) (W' : World) (sl' : Option (Nat × Nat)) (t' : Trace) (q' : Nat → Nat),
        runNT P N (crowd gs (W.at d) sl) t = (.next (crowd gs' W' sl'), t') ∧ gs'[0]? = some g' ∧ Leavers P t' gs' q' ∧ Pst S 0 t' ∧ Q g' W' := by
    intro M
    induction M with
    | zero => intro d gs sl t q hM; omega
    | succ M ih =>
      intro d gs sl t q hM h0 hL hP
      have haw : ∀ g ∈ gs, awake g := by
        intro x hx
        obtain ⟨i, hi, rfl⟩ := Array.mem_iff_getElem.1 hx
        rcases Nat.eq_zero_or_pos i with rfl | hpos
        · have : gs[0] = g := by simpa [Array.getElem?_eq_getElem hi] using h0
          rw [this]; exact awake_of (.inl hrun)
        · exact awake_of ((hL.old i _ hpos (Array.getElem?_eq_getElem hi)).status.elim .inl fun x => .inr (.inr x))
      obtain ⟨i, x, d', sl', hi, hx, hst⟩ := crowd_pick (P := P) (w := W.at d) (sl := sl) haw ⟨0, g, h0, hrun⟩
      rcases Nat.eq_zero_or_pos i with rfl | hpos
      · obtain rfl : x = g := by rw [h0] at hi; exact (Option.some.inj hi).symm
        obtain ⟨g', W1, es, hgo, hez, hB⟩ := h d'
        have hrunT := runT_crowd_go (P := P) (sl := sl') (i := 0) hi (show stepG P (0 == 0) x ((W.at d).at d') = .go g' W1 es from hgo)
        have hlt : 0 < gs.size := (Array.getElem?_eq_some_iff.1 h0).1
        obtain ⟨N, gs', a', d2, sl2, t', q', hr, h0', hL', hP', hQ⟩ := hB W1.drawn ((gs.map (woken P x g' W1)).setIfInBounds 0 g') sl' (t ++ MemOp.ofEvents 0 x.frame.fn x.frame.place es) q (by simp [hlt])
          ⟨fun j y hj hy => by
            have hne : 0 ≠ j := by omega
            rw [Array.getElem?_setIfInBounds_ne hne, Array.getElem?_map] at hy
            obtain ⟨z, hz, rfl⟩ := Option.map_eq_some_iff.1 hy
            have hq := hL.old j z hj hz
            rw [woken_quitsD hq, Deaf_other t (by omega) _ (fun op hop => by obtain ⟨e, _, rfl⟩ := Go.Conc.mem_ofEvents hop; rfl)]
            exact hq, fun j hj => by
            rw [Deaf_other t (g' := 0) (by simp at hj; omega) _ (fun op hop => by obtain ⟨e, _, rfl⟩ := Go.Conc.mem_ofEvents hop; rfl)]
            exact hL.above j (by simpa using hj)⟩
          (hP.own _ _ hez)
        exact ⟨N + 1, gs', a', d2, sl2, t', q', by simp only [runNT, hst, hrunT]; exact hr, h0', hL', hP', hQ⟩
      · have hq := hL.old i x hpos hi
        have hi0 : (i == 0) = false := by simp; omega
        have hlt : i < gs.size := (Array.getElem?_eq_some_iff.1 hi).1
        cases hqi : q i with
        | zero => rw [hqi] at hq; rw [hq.1] at hx; cases hx
        | succ k =>
          rw [hqi] at hq
          rcases hq with ⟨hf, _⟩ | ⟨_, g', es, hm, hstp, hq'⟩
          · rw [hf] at hx; cases hx
          have hrunT := runT_crowd_go (P := P) (sl := sl') (i := i) hi (show stepG P (i == 0) x ((W.at d).at d') = _ by rw [hi0]; exact hstp (W.at d'))
          have hsz : ((gs.map (woken P x g' (W.at d'))).setIfInBounds i g').size = gs.size := by simp
          have hsum : sumTo gs.size (upd q i k) + (k + 1) = sumTo gs.size q + k := by
            have := sumTo_upd q k id hlt
            simpa [hqi] using this
          obtain ⟨N, gs', a', d2, sl2, t', q', hr, h0', hL', hP', hQ⟩ := ih d' ((gs.map (woken P x g' (W.at d'))).setIfInBounds i g') sl' (t ++ MemOp.ofEvents i x.frame.fn x.frame.place es) (upd q i k) (by rw [hsz]; omega)
            (by
              have hne : i ≠ 0 := by omega
              rw [Array.getElem?_setIfInBounds_ne hne, Array.getElem?_map, h0]
              simp [woken_run hrun])
            ⟨fun j y hj hy => by
              by_cases hji : i = j
              · subst hji
                rw [Array.getElem?_setIfInBounds_self_of_lt (by simpa using hlt)] at hy
                obtain rfl := Option.some.inj hy
                rw [upd_same, Deaf_own]
                exact hq'
              · rw [Array.getElem?_setIfInBounds_ne hji, Array.getElem?_map] at hy
                obtain ⟨z, hz, rfl⟩ := Option.map_eq_some_iff.1 hy
                have hqj := hL.old j z hj hz
                rw [woken_quitsD hqj, upd_ne q k (Ne.symm hji), Deaf_other t hji _ (fun op hop => by obtain ⟨e, _, rfl⟩ := Go.Conc.mem_ofEvents hop; rfl)]
                exact hqj, fun j hj => by
              rw [Deaf_other t (g' := i) (by simp at hj; omega) _ (fun op hop => by obtain ⟨e, _, rfl⟩ := Go.Conc.mem_ofEvents hop; rfl)]
              exact hL.above j (by simpa using hj)⟩
            (hP.mute (by omega) _ _ hm)
          exact ⟨N + 1, gs', a', d2, sl2, t', q', by simp only [runNT, hst, hrunT]; exact hr, h0', hL', hP', hQ⟩
  exact fun d gs sl t q h0 hL hP => key _ d gs sl t q (Nat.lt_succ_self _) h0 hL hP
theorem RTS.goes : ∀ (m : Nat) (g : Goroutine) (W : World), Goes P true AtRel DC0 (fun g' w' => RTS P Q S e g' w') m g W → RTS P Q S e g W := by
  intro m
  induction m with
  | zero => exact fun g W h => (h (W.at 0) ⟨0, rfl⟩).at
  | succ m ih =>
    intro g W h
    rcases h with h | ⟨hr, h⟩
    · exact (h (W.at 0) ⟨0, rfl⟩).at
    · refine RTS.step hr fun d => ?_
      have hd := h (W.at d) ⟨d, rfl⟩
      revert hd
      cases stepG P true g (W.at d) <;> simp only [GStep.goes, false_imp_iff]
      rintro ⟨⟨rfl, rfl⟩, k⟩
      exact ⟨_, _, _, rfl, by simp, ih _ _ k⟩
end
theorem evN_cell {S : Nat → Prop} {a : Addr} {x s : Bool} (h : ¬ S a.block) : EvN S ⟨.cell a, x, s⟩ := by
  rintro y hy ⟨a', e, hb⟩
  simp only [Go.ConcR.ofEvent_cell, MemAct.touch?, Option.some.injEq] at hy
  subst hy
  cases e
  exact absurd hb h
theorem evN_obj {S : Nat → Prop} {r : Nat} {x : Bool} : EvN S ⟨.obj r, x, false⟩ := by
  rintro y hy ⟨a', e, hb⟩
  simp [MemAct.ofEvent, MemAct.touch?] at hy
  subst hy
  cases e
theorem evN_mark {S : Nat → Prop} {m : Mark} {x s : Bool} (h : (MemAct.ofEvent ⟨.mark m, x, s⟩).touch? = none) : EvN S ⟨.mark m, x, s⟩ := fun y hy => by rw [h] at hy; cases hy
end Go.Proofs.Ytpmmimcafkillaa.Tr

set_option linter.unusedVariables false
set_option linter.unusedSimpArgs false
namespace Go.Proofs.Ytpmmimcafkillaa.Tr
open Go Go.Conc Go.ConcN Go.RowKit Go.Conc.Lib Go.ConcR.Gen Go.ConcM
open Go.ConcR (KK wgBlock WgAt stA smA rd wr mk DC0)
open Go.Proofs.Ytpmmimcafkillaa.Mx
open Go.Proofs.Ytpmmimcafkillaa.Mx (Mu St)
open Go.Proofs.Ytpmmimcafkillaa.Br (EvN)
theorem atl {Kn : World → Prop} (A : ∀ w d, Kn w → Kn (w.at d)) {w w₁ : World} (h : Kn w) (r : AtRel w w₁) : Kn w₁ := by
  obtain ⟨d, rfl⟩ := r
  exact A _ d h
section
variable {Q : Goroutine → World → Prop} {S : Nat → Prop} {Lg : Nat} {Kn Kn1 : World → Prop}
variable {b₀ : Frame} {a₀ : Act} {ops₀ : Array Oper} {i₀ : Nat} {rest₀ : List Nat} {k₀ : List Item} {cs : List Frame}
set_option maxRecDepth 100000 in
set_option maxHeartbeats 4000000 in
theorem lock0 (A : ∀ w d, Kn w → Kn (w.at d)) (A1 : ∀ w d, Kn1 w → Kn1 (w.at d)) (hc : ∀ w, Kn w → w.cell? ⟨Lg, 0, none⟩ = some (.int .i32 0) ∧ w.frozen? ⟨Lg, 0, none⟩ = false)
    (hs : ∀ w, Kn w → Kn1 (w.setCell ⟨Lg, 0, none⟩ (.int .i32 1))) (hc1 : ∀ w, Kn1 w → w.cell? ⟨Lg, 0, none⟩ = some (.int .i32 1)) (nS : ¬ S Lg) (hk0 : b₀.kind ≠ .early)
    (hT : ∀ w, Kn1 w → RTS Try.prog Q S 0 (G (b₀.at (a₀.put ((ops₀[i₀]?).bind (·.dst)) (.tuple #[])) (.inRegion ops₀ rest₀ :: k₀)) cs) w) :
    ∀ w, Kn w → RTS Try.prog Q S 0 (G ((base 84).at ⟨#[.pointer (some ⟨Lg, 0, none⟩), undef, undef, undef, undef, undef], []⟩ [.code body84]) (b₀.at a₀ (.inRegion ops₀ (i₀ :: rest₀) :: k₀) :: cs)) w := by
  intro w hF
  simp only [body84, Try.f84, Option.getD_some]
  refine RTS.goes 60 _ _ ?_
  repeat w_go (atl A)
  u_call Try.func97 nm97 Try.f97 (atl A) hF
  repeat w_go (atl A)
  refine Goes.stop (fun w r => ?_)
  replace hF := atl A hF r
  clear r
  refine RTS.step rfl fun dd => ⟨_, _, _, stepG_mark0 .disable (by simp) rfl rfl (by k_ne) rfl wgLib.f_disable (x_disable_n link) (x_disable_b link) (x_disable_x link) (x_disable_f link), (by intro x hx; simp [mk] at hx; subst hx; exact evN_mark rfl), ?_⟩
  show RTS Try.prog Q S 1 _ _
  replace hF := A _ dd hF
  refine RTS.goes 60 _ _ ?_
  walk_nrm
  repeat w_go (atl A)
  refine Goes.stop (fun w r => ?_)
  replace hF := atl A hF r
  clear r
  refine RTS.step rfl fun dd => ⟨_, _, _, stepG_cas_hit rfl rfl (by k_ne) rfl Try.func101 x101_n x101_b x101_x .i32 x101_f rfl rfl rfl (hc _ (A _ dd hF)).1 (hc _ (A _ dd hF)).2, (by intro x hx; simp at hx; rcases hx with rfl | rfl <;> exact evN_cell nS), ?_⟩
  show RTS Try.prog Q S 1 _ _
  replace hF := hs _ (A _ dd hF)
  refine RTS.goes 60 _ _ ?_
  walk_nrm
  repeat w_go (atl A1)
  refine Goes.stop (fun w r => ?_)
  replace hF := atl A1 hF r
  clear r
  refine RTS.step rfl fun dd => ⟨_, _, _, stepG_mark0 .enable (by simp) rfl rfl (by k_ne) rfl wgLib.f_enable (x_enable_n link) (x_enable_b link) (x_enable_x link) (x_enable_f link), (by intro x hx; simp [mk] at hx; subst hx; exact evN_mark rfl), ?_⟩
  show RTS Try.prog Q S 0 _ _
  replace hF := A1 _ dd hF
  refine RTS.goes 60 _ _ ?_
  walk_nrm
  repeat w_go (atl A1)
  u_in (atl A1) hF
  have hcl := hc1 _ hF
  refine goes_oper_k rfl rfl (by k_ne) (fun Kx hKx => ?_)
  have hcv := run_convert_to_unsafe (P := Try.prog) u135 wgLib.underlying_tUP z84 hcl
  have hce := fun es => events_convert_to_unsafe (P := Try.prog) u135 wgLib.underlying_tUP z84 hcl es
  go_simp
  refine hKx _ _ ⟨?_, ?_⟩
  · u_none
    intro ex hex
    have hmx := mem_listed hex
    simp [go_sem, hce] at hmx
  clear hKx Kx hcv hce hcl
  try walk_nrm
  repeat w_go (atl A1)
  refine Goes.stop (fun w r => ?_)
  replace hF := atl A1 hF r
  clear r
  refine RTS.step rfl fun dd => ⟨_, _, _, stepG_markAt .acquire (by simp) rfl rfl (by k_ne) rfl wgLib.f_acquire (x_acquire_n link) (x_acquire_b link) (x_acquire_x link) (x_acquire_f link) (ad := ⟨Lg, 0, none⟩) (by simp [Act.eval]), (by intro x hx; simp [mk] at hx; subst hx; exact evN_mark rfl), ?_⟩
  show RTS Try.prog Q S 0 _ _
  replace hF := A1 _ dd hF
  refine RTS.goes 60 _ _ ?_
  walk_nrm
  repeat w_go (atl A1)
  u_leave0 Try.func97 (atl A1) hF
  repeat w_go (atl A1)
  u_leave0 Try.func84 (atl A1) hF
  refine Goes.stop (fun w r => ?_)
  exact hT _ (atl A1 hF r)
set_option maxRecDepth 100000 in
set_option maxHeartbeats 4000000 in
theorem unlock0 {c : Frame} (A : ∀ w d, Kn w → Kn (w.at d)) (A1 : ∀ w d, Kn1 w → Kn1 (w.at d)) (hc : ∀ w, Kn w → w.cell? ⟨Lg, 0, none⟩ = some (.int .i32 1) ∧ w.frozen? ⟨Lg, 0, none⟩ = false)
    (hs : ∀ w, Kn w → Kn1 (w.setCell ⟨Lg, 0, none⟩ (.int .i32 0))) (nS : ¬ S Lg) (hcm : c.mode = .returning)
    (hT : ∀ w, Kn1 w → RTS Try.prog Q S 0 (G c cs) w) :
    ∀ w, Kn w → RTS Try.prog Q S 0 (G ((baseD 85).at ⟨#[.pointer (some ⟨Lg, 0, none⟩), undef, undef, undef, undef, undef], []⟩ [.code body85]) (c :: cs)) w := by
  intro w hF
  simp only [body85, Try.f85, Option.getD_some]
  refine RTS.goes 60 _ _ ?_
  repeat w_go (atl A)
  u_call Try.func98 nm98 Try.f98 (atl A) hF
  repeat w_go (atl A)
  u_in (atl A) hF
  rw [stepG_loadQ rfl rfl (by k_ne) rfl rfl (hc _ hF).1 q98]
  simp only [goes_go]
  refine ⟨by u_nil, ?_⟩
  walk_nrm
  repeat w_go (atl A)
  u_in (atl A) hF
  have hcl := (hc _ hF).1
  refine goes_oper_k rfl rfl (by k_ne) (fun Kx hKx => ?_)
  have hcv := run_convert_to_unsafe (P := Try.prog) u135 wgLib.underlying_tUP z84 hcl
  have hce := fun es => events_convert_to_unsafe (P := Try.prog) u135 wgLib.underlying_tUP z84 hcl es
  go_simp
  refine hKx _ _ ⟨?_, ?_⟩
  · u_none
    intro ex hex
    have hmx := mem_listed hex
    simp [go_sem, hce] at hmx
  clear hKx Kx hcv hce hcl
  try walk_nrm
  repeat w_go (atl A)
  refine Goes.stop (fun w r => ?_)
  replace hF := atl A hF r
  clear r
  refine RTS.step rfl fun dd => ⟨_, _, _, stepG_markAt .releaseMerge (by simp) rfl rfl (by k_ne) rfl wgLib.f_relMerge (x_relMerge_n link) (x_relMerge_b link) (x_relMerge_x link) (x_relMerge_f link) (ad := ⟨Lg, 0, none⟩) (by simp [Act.eval]), (by intro x hx; simp [mk] at hx; subst hx; exact evN_mark rfl), ?_⟩
  show RTS Try.prog Q S 0 _ _
  replace hF := A _ dd hF
  refine RTS.goes 60 _ _ ?_
  walk_nrm
  repeat w_go (atl A)
  refine Goes.stop (fun w r => ?_)
  replace hF := atl A hF r
  clear r
  refine RTS.step rfl fun dd => ⟨_, _, _, stepG_mark0 .disable (by simp) rfl rfl (by k_ne) rfl wgLib.f_disable (x_disable_n link) (x_disable_b link) (x_disable_x link) (x_disable_f link), (by intro x hx; simp [mk] at hx; subst hx; exact evN_mark rfl), ?_⟩
  show RTS Try.prog Q S 1 _ _
  replace hF := A _ dd hF
  refine RTS.goes 60 _ _ ?_
  walk_nrm
  repeat w_go (atl A)
  refine Goes.stop (fun w r => ?_)
  replace hF := atl A hF r
  clear r
  refine RTS.step rfl fun dd => ⟨_, _, _, stepG_add_atomic rfl rfl (by k_ne) rfl Try.func103 x103_n x103_b x103_x .i32 x103_f rfl rfl (hc _ (A _ dd hF)).1 (hc _ (A _ dd hF)).2, (by intro x hx; simp at hx; rcases hx with rfl | rfl <;> exact evN_cell nS), ?_⟩
  show RTS Try.prog Q S 1 _ _
  rw [show IntKind.i32.wrap ((1 : Int) + -1) = 0 by decide]
  replace hF := hs _ (A _ dd hF)
  refine RTS.goes 60 _ _ ?_
  walk_nrm
  repeat w_go (atl A1)
  refine Goes.stop (fun w r => ?_)
  replace hF := atl A1 hF r
  clear r
  refine RTS.step rfl fun dd => ⟨_, _, _, stepG_mark0 .enable (by simp) rfl rfl (by k_ne) rfl wgLib.f_enable (x_enable_n link) (x_enable_b link) (x_enable_x link) (x_enable_f link), (by intro x hx; simp [mk] at hx; subst hx; exact evN_mark rfl), ?_⟩
  show RTS Try.prog Q S 0 _ _
  replace hF := A1 _ dd hF
  refine RTS.goes 60 _ _ ?_
  walk_nrm
  repeat w_go (atl A1)
  u_leave0 Try.func98 (atl A1) hF
  repeat w_go (atl A1)
  u_in (atl A1) hF
  rw [stepG_leaveD rfl rfl Try.func85 rfl hcm]
  simp only [goes_go]
  refine ⟨by u_nil, ?_⟩
  refine Goes.stop (fun w r => ?_)
  exact hT _ (atl A1 hF r)
end
end Go.Proofs.Ytpmmimcafkillaa.Tr
