/-
  impl.Pack beside leavers: the law.
  Small facts for FnExactPack's law: lengths, and copies that are kept.
  What Verify tells, as plain values; no conditions.
  The contract of slices.Index on a list of texts; nothing is written.
-/
import Derived.Test.YtghglpcfpokmhaaZPe
import Derived.Test.YtghglpcfpokmhaaZLv
import Derived.Test.YtghglpcfpokmhaaZDg
import Derived.Test.YtghglpcfpokmhaaZShelf
set_option linter.unusedVariables false
set_option linter.unusedSimpArgs false
namespace Go.Proofs.Ytghglpcfpokmhaa
open Go Go.Conc Go.RowKit
open Go.Proofs.Ytghglpcfpokmhaa.Bb (Tks TO TW tot)
open Go.Proofs.Ytghglpcfpokmhaa.Wk (El BodiesV Bel dig_B valsE)
open Go.Proofs.Ytghglpcfpokmhaa.Br (BT BTS Hd Pz Pst CallsB bt_ctl bt_cons bt_skip bt_callB bt_call rt AtEnd0)
def PostL (W : World) (v : Value) (w' : World) : Prop := v = .bool true ∧ Bel W.heap.size W w'
theorem R26.i {w : World} {l : List ByteArray} (v : Value) (w' : World) (T : Nat → Question → Nat) (d : Nat) (h : R26 w l v w') : R26 w l v (rt T d w') := by
  obtain ⟨r, h1, h2, h3⟩ := h; exact ⟨r, h1, h2, h3.rtt T d⟩
theorem R26.e {w : World} {l : List ByteArray} (v : Value) (w' : World) (h : R26 w l v w') : ∀ b, Pz w b → Pz w' b := by
  obtain ⟨r, h1, h2, h3⟩ := h; exact h3.kp
theorem R27.i {w : World} {l : List (List Int)} {N : Int} (v : Value) (w' : World) (T : Nat → Question → Nat) (d : Nat) (h : R27 w l N v w') : R27 w l N v (rt T d w') := by
  obtain ⟨r, h1, h2, h3⟩ := h; exact ⟨r, h1, h2, h3.rtt T d⟩
theorem R27.e {w : World} {l : List (List Int)} {N : Int} (v : Value) (w' : World) (h : R27 w l N v w') : ∀ b, Pz w b → Pz w' b := by
  obtain ⟨r, h1, h2, h3⟩ := h; exact h3.kp
theorem R29.i {w : World} {l : List ByteArray} (v : Value) (w' : World) (T : Nat → Question → Nat) (d : Nat) (h : R29 w l v w') : R29 w l v (rt T d w') := by
  obtain ⟨B, h1, h2, h3, h4⟩ := h; exact ⟨B, h1, h2, h3, h4.rtt T d⟩
theorem R29.e {w : World} {l : List ByteArray} (v : Value) (w' : World) (h : R29 w l v w') : ∀ b, Pz w b → Pz w' b := by
  obtain ⟨B, h1, h2, h3, h4⟩ := h; exact h4.kp
theorem R30.i {w : World} {l : List (List Int)} (v : Value) (w' : World) (T : Nat → Question → Nat) (d : Nat) (h : R30 w l v w') : R30 w l v (rt T d w') := by
  obtain ⟨B, h1, h2, h3⟩ := h; exact ⟨B, h1, ⟨h2.ge, h2.lt, h2.blk⟩, h3.rtt T d⟩
theorem R30.e {w : World} {l : List (List Int)} (v : Value) (w' : World) (h : R30 w l v w') : ∀ b, Pz w b → Pz w' b := by
  obtain ⟨B, h1, h2, h3⟩ := h; exact h3.kp
theorem RPk.i {w : World} {ns : List ByteArray} {ts : List (List Int)} (v : Value) (w' : World) (T : Nat → Question → Nat) (d : Nat) (h : RPk w ns ts v w') : RPk w ns ts v (rt T d w') := by
  obtain ⟨L, ok, g, c, h1, h2, h3, h4⟩ := h; exact ⟨L, ok, g, c, h1, h2, h3.rtt T d, h4⟩
theorem RPk.e {w : World} {ns : List ByteArray} {ts : List (List Int)} (v : Value) (w' : World) (h : RPk w ns ts v w') : ∀ b, Pz w b → Pz w' b := by
  obtain ⟨L, ok, g, c, h1, h2, h3, h4⟩ := h; exact h3.kp
theorem RTr.i {w : World} (v : Value) (w' : World) (T : Nat → Question → Nat) (d : Nat) (h : RTr w v w') : RTr w v (rt T d w') := ⟨h.1, h.2.rtt T d⟩
theorem RTr.e {w : World} (v : Value) (w' : World) (h : RTr w v w') : ∀ b, Pz w b → Pz w' b := h.2.kp
theorem R37.i {w : World} {n : Nat} {q : Int} (v : Value) (w' : World) (T : Nat → Question → Nat) (d : Nat) (h : R37 w n q v w') : R37 w n q v (rt T d w') := ⟨h.1, h.2.rtt T d⟩
theorem R37.e {w : World} {n : Nat} {q : Int} (v : Value) (w' : World) (h : R37 w n q v w') : ∀ b, Pz w b → Pz w' b := h.2.kp
theorem Gro.rtt {g : Nat} {a b : World} (h : Gro g a b) (T : Nat → Question → Nat) (d : Nat) : Gro g a (rt T d b) := ⟨h.os, h.output, h.size, h.block⟩
theorem R34.i {w : World} {B g n cap : Nat} {q : Int} (v : Value) (w' : World) (T : Nat → Question → Nat) (d : Nat) (h : R34 w B g n cap q v w') : R34 w B g n cap q v (rt T d w') := ⟨h.1, h.2.1, h.2.2.1.rtt T d, h.2.2.2⟩
theorem R34.e {w : World} {B g n cap : Nat} {q : Int} (v : Value) (w' : World) (h : R34 w B g n cap q v w') : ∀ b, Pz w b → Pz w' b := h.2.2.2
theorem R36.i {w : World} {B g n cap : Nat} {q : Int} (v : Value) (w' : World) (T : Nat → Question → Nat) (d : Nat) (h : R36 w B g n cap q v w') : R36 w B g n cap q v (rt T d w') := ⟨h.1, h.2.1, h.2.2.1.rtt T d, h.2.2.2⟩
theorem R36.e {w : World} {B g n cap : Nat} {q : Int} (v : Value) (w' : World) (h : R36 w B g n cap q v w') : ∀ b, Pz w b → Pz w' b := h.2.2.2
theorem R35.i {w : World} {lo hi : Nat} (v : Value) (w' : World) (T : Nat → Question → Nat) (d : Nat) (h : R35 w lo hi v w') : R35 w lo hi v (rt T d w') := h
theorem R35.e {w : World} {lo hi : Nat} (v : Value) (w' : World) (h : R35 w lo hi v w') : ∀ b, Pz w b → Pz w' b := by
  obtain ⟨r, _, _, _, _, _, _, h⟩ := h; exact h
theorem Wk.Bel.sts {w w' : World} {a : Option Addr} {l : List ByteArray} (h : Bel w.heap.size w w') (hs : Sts w a l) : Sts w' a l :=
  Sts.below (w' := { w' with tape := w.tape }) hs ⟨h.os, rfl, h.output, h.size, h.block⟩
theorem Wk.Bel.tks {w w' : World} {a : Option Addr} {l : List (List Int)} (h : Bel w.heap.size w w') (hs : Tks w a l) : Tks w' a l :=
  Bb.Tks.below (w' := { w' with tape := w.tape }) hs ⟨h.os, rfl, h.output, h.size, h.block⟩
end Go.Proofs.Ytghglpcfpokmhaa

set_option linter.unusedVariables false
set_option linter.unusedSimpArgs false
namespace Go.Proofs.Ytghglpcfpokmhaa
open Go Go.Conc Go.RowKit
open Go.Proofs.Ytghglpcfpokmhaa.Bb (Tks TO TW tot)
open Go.Proofs.Ytghglpcfpokmhaa.Wk (El BodiesV Bel)
theorem tot_mem : ∀ {ts : List (List Int)} {t : List Int}, t ∈ ts → t.length ≤ tot ts
  | u :: us, t, h => by
    have e : tot (u :: us) = u.length + tot us := by simp [tot]
    rw [e]
    rcases List.mem_cons.1 h with rfl | h
    · omega
    · have := tot_mem h; omega
theorem pkQ_len {ns : List ByteArray} {ts : List (List Int)} {L : List Kl} {ok : Bool} (h : PkQ ns ts L ok) : L.length ≤ ns.length := by
  rcases h with ⟨_, hg, hp, _⟩ | ⟨_, rfl, _⟩
  · rw [hp.length_eq, pkL_len hg.len]; exact Nat.le_refl _
  · simp
theorem to_bel {lo hi N : Nat} {w w' : World} {B : Nat} {ts : List (List Int)} (h : TO lo hi w B ts ts.length) (hb : Bel N w w') (hN : hi ≤ N) : TO lo hi w' B ts ts.length := by
  obtain ⟨cur, h1, h2, h3⟩ := h.blk
  refine ⟨h.ge, h.lt, cur, (hb.block B (by have := h.lt; omega)).trans h1, h2, fun j t ht hj => ?_⟩
  obtain ⟨g, g1, g2, g3⟩ := h3 j t ht hj
  exact ⟨g, g1, g2, own_bel hb (by omega) g3⟩
theorem tw_gro {lo hi g2 : Nat} {w w' : World} {B : Nat} {ts : List (List Int)} (h : TW lo hi w B ts) (hb : Gro g2 w w') (hB : lo ≤ B) (hg : g2 < lo) : TW lo hi w' B ts := by
  obtain ⟨cur, h1, h2, h3⟩ := h.blk
  refine ⟨cur, (hb.block B (Array.getElem?_eq_some_iff.1 h1).1 (by omega)).trans h1, h2, fun j t ht => ?_⟩
  obtain ⟨g, a1, a2, a3, c, a4, a5, a6⟩ := h3 j t ht
  exact ⟨g, a1, a2, a3, c, (hb.block g (Array.getElem?_eq_some_iff.1 a4).1 (by omega)).trans a4, a5, a6⟩
theorem own_rng {lo hi : Nat} {w w' : World} {v : Value} {B e m g n c : Nat} {xs : List Value} (h : R35 w lo hi v w') (hg : g < lo ∨ hi ≤ g) (ho : w.ownsRow B e m (.slice (some ⟨g, 0, none⟩) n c) n xs) : w'.ownsRow B e m (.slice (some ⟨g, 0, none⟩) n c) n xs := by
  obtain ⟨r, _, _, _, _, _, hbl, _⟩ := h
  refine ⟨ho.1, ?_⟩
  rcases ho.2 with ⟨hv, _⟩ | ⟨g', cp, cur, e', hg', hh, rr⟩
  · cases hv
  · injection id e' with e1
    injection e1 with e1
    injection e1 with e1
    subst e1
    exact .inr ⟨g, cp, cur, e', hg', (hbl g (Array.getElem?_eq_some_iff.1 hh).1 hg).trans hh, rr⟩
/-- what the marks of another's blocks leave of what was there at the entry -/
theorem bel_gro {w a b : World} {g : Nat} (h : Bel w.heap.size w a) (k : Gro g a b) (hg : w.heap.size ≤ g) : Bel w.heap.size w b :=
  ⟨k.os.trans h.os, k.output.trans h.output, Nat.le_trans h.size k.size, fun i hi => (k.block i (Nat.lt_of_lt_of_le hi h.size) (by omega)).trans (h.block i hi)⟩
theorem bel_rng {w a b : World} {lo hi : Nat} {v : Value} (h : Bel w.heap.size w a) (k : R35 a lo hi v b) (hg : w.heap.size ≤ lo) : Bel w.heap.size w b := by
  obtain ⟨r, _, _, h1, h2, h3, hbl, _⟩ := k
  exact ⟨h1.trans h.os, h2.trans h.output, Nat.le_trans h.size h3, fun i hi => (hbl i (Nat.lt_of_lt_of_le hi h.size) (by omega)).trans (h.block i hi)⟩
end Go.Proofs.Ytghglpcfpokmhaa

namespace Go.Proofs.Ytghglpcfpokmhaa
open Go.RowKit
set_option linter.unusedVariables false
set_option linter.unusedSimpArgs false

/-- what is told of one body -/
def vone (x : Kl) (t : List Int) : Int := if ((t.length : Int) != x.2.1) = true then 2 else if (dig t != x.2.2) = true then 3 else 0
/-- what is told of one asset -/
def vcode (ns : List ByteArray) (ts : List (List Int)) (x : Kl) : Int :=
  match ns.findIdx? (fun n => n.toList == x.1.toList) with
  | none => 1
  | some k => match ts[k]? with
    | none => 1
    | some t => vone x t
theorem vcode_no {ns : List ByteArray} {ts : List (List Int)} {x : Kl} (h : ∀ (j : Nat) (n : ByteArray), ns[j]? = some n → (n.toList == x.1.toList) = false) : vcode ns ts x = 1 := by
  have e : ns.findIdx? (fun n => n.toList == x.1.toList) = none := by
    rw [List.findIdx?_eq_none_iff]
    intro n hn
    obtain ⟨j, hj⟩ := List.getElem?_of_mem hn
    exact h j n hj
  simp only [vcode, e]
theorem vcode_at {ns : List ByteArray} {ts : List (List Int)} {x : Kl} {k : Nat} {n : ByteArray} {t : List Int} (h : ∀ (j : Nat) (n : ByteArray), j < k → ns[j]? = some n → (n.toList == x.1.toList) = false) (hn : ns[k]? = some n) (hx : (n.toList == x.1.toList) = true) (ht : ts[k]? = some t) : vcode ns ts x = vone x t := by
  have e : ns.findIdx? (fun n => n.toList == x.1.toList) = some k := by
    rw [List.findIdx?_eq_some_iff_getElem]
    obtain ⟨h1, h2⟩ := List.getElem?_eq_some_iff.1 hn
    refine ⟨h1, by rw [h2]; exact hx, fun j hj => ?_⟩
    have := h j (ns[j]) hj (List.getElem?_eq_getElem (by omega))
    simpa using this
  simp only [vcode, e, ht]
theorem vone2 {x : Kl} {t : List Int} (h : ((t.length : Int) != x.2.1) = true) : vone x t = 2 := by simp only [vone, h, if_true]
theorem vone3 {x : Kl} {t : List Int} (h : ((t.length : Int) != x.2.1) = false) (h2 : (dig t != x.2.2) = true) : vone x t = 3 := by simp only [vone, h, h2, if_true]; rfl
theorem vone0 {x : Kl} {t : List Int} (h : ((t.length : Int) != x.2.1) = false) (h2 : (dig t != x.2.2) = false) : vone x t = 0 := by simp only [vone, h, h2]; rfl
/-- Verify -/
def vfy (l : List Kl) (ns : List ByteArray) (ts : List (List Int)) : List Int := if pOk l = true ∧ ns.length = ts.length then l.map (vcode ns ts) else []
theorem vfy_bad {l : List Kl} {ns : List ByteArray} {ts : List (List Int)} (h : pOk l = false) : vfy l ns ts = [] := by simp [vfy, h]
theorem vfy_len {l : List Kl} {ns : List ByteArray} {ts : List (List Int)} (h : ¬ ns.length = ts.length) : vfy l ns ts = [] := by simp [vfy, h]
theorem vfy_ok {l : List Kl} {ns : List ByteArray} {ts : List (List Int)} (h : pOk l = true) (h2 : ns.length = ts.length) : vfy l ns ts = l.map (vcode ns ts) := by simp [vfy, h, h2]

end Go.Proofs.Ytghglpcfpokmhaa

namespace Go.Proofs.Ytghglpcfpokmhaa
open Go.RowKit
set_option linter.unusedVariables false
set_option linter.unusedSimpArgs false

/-- where a text stands first -/
def FstS (l : List ByteArray) (s : ByteArray) (r : Int) : Prop := (r = -1 ∧ ∀ (j : Nat) (n : ByteArray), l[j]? = some n → (n.toList == s.toList) = false) ∨ ∃ (k : Nat) (n : ByteArray), r = (k : Int) ∧ l[k]? = some n ∧ (n.toList == s.toList) = true ∧ ∀ (j : Nat) (n : ByteArray), j < k → l[j]? = some n → (n.toList == s.toList) = false
set_option maxHeartbeats 800000 in
theorem idxS_any (a : Option Addr) (cap : Nat) (l : List ByteArray) (s : ByteArray) (w : World) (hl : l.length ≤ maxLen) (hk : Sts w a l) :
    Calls Try.prog 24 #[.slice a l.length cap, .string s] w fun e w' => ∃ r : Int, e = .returned (.int .i64 r) ∧ FstS l s r ∧ w' = w := by
  unfold maxLen at hl
  have hk' := hide hk
  clear hk
  go_enter Try.func24, Try.ntmps24
  go_wp2
  go_loop [8] (fun t => ∃ k : Nat, k ≤ l.length ∧ t = .int .i64 k ∧ Hid (∀ (j : Nat) (n : ByteArray), j < k → l[j]? = some n → (n.toList == s.toList) = false)) (fun t => l.length - (intOf t).toNat)
  case atStart => exact ⟨0, by omega, rfl, hide (fun j y h => by omega)⟩
  case round =>
    obtain ⟨k, hk1, rfl, hpre⟩ := hrel
    by_cases hlt : k < l.length
    · obtain ⟨x, hx⟩ : ∃ x, l[k]? = some x := ⟨l[k], List.getElem?_eq_getElem hlt⟩
      obtain ⟨b, o, rfl, i1, c0⟩ := unhide hk' k x hx
      have hxx := hide hx
      have g1 : decide ((k : Int) < l.length) = true := by simp; omega
      have hcm : (s.toList == x.toList) = (x.toList == s.toList) := by rw [Bool.eq_iff_iff, beq_iff_eq, beq_iff_eq]; exact ⟨Eq.symm, Eq.symm⟩
      clear hx i1
      cases he : (x.toList == s.toList) with
      | true =>
        rw [he] at hcm
        have hfin := hide (show FstS l s (k : Int) from .inr ⟨k, x, rfl, unhide hxx, he, unhide hpre⟩)
        go_wp2
        go_ret
        exact ⟨_, rfl, unhide hfin, rfl⟩
      | false =>
        rw [he] at hcm
        have hn := hide (show ∀ (j : Nat) (n : ByteArray), j < k + 1 → l[j]? = some n → (n.toList == s.toList) = false from fun j y hj hy => by
          rcases Nat.lt_or_ge j k with h | h
          · exact unhide hpre j y h hy
          · have : j = k := by omega
            subst this
            rw [unhide hxx] at hy; injection hy with hy; subst hy; exact he)
        clear hpre
        go_wp2
        go_round
        case rel => exact ⟨k + 1, by omega, by go_num, hn⟩
        case measure => simp [intOf]; omega
    · have g1 : decide ((k : Int) < l.length) = false := by simp; omega
      have hfin := hide (show FstS l s (-1) from .inl ⟨rfl, fun j n hn => unhide hpre j n (by have := (List.getElem?_eq_some_iff.1 hn).1; omega) hn⟩)
      go_wp2
      go_ret
      exact ⟨_, rfl, unhide hfin, rfl⟩

end Go.Proofs.Ytghglpcfpokmhaa
