/-
  FnExactResults: from its entry to its return.
-/
import Derived.Test.YtpmmimcafkillaaZRq
import Derived.Test.YtpmmimcafkillaaZSr
import Derived.Test.YtpmmimcafkillaaZMu
set_option linter.unusedVariables false
set_option linter.unusedSimpArgs false
namespace Go.Proofs.Ytpmmimcafkillaa.Tr
open Go Go.Conc Go.RowKit
open Go.Proofs.Ytpmmimcafkillaa.Br (BT BTS Hd Hid Pz Pst Shn Thr EvN bt_ctl bt_cons bt_skip bt_call bt_callB bt_enter CallsB rt AtEnd0)
open Go.Proofs.Ytpmmimcafkillaa.Rs (Rule outOf out_at out_len resR crR dtR hst gmx)
open Go.Proofs.Ytpmmimcafkillaa (Tv Tks Ins jobOk job_tok TOk job_short tot szts_any tots_any eqts_any sres_any tot_mem TO TX OwnI Mkd eqi_any marki_any heldi_any marktx_any row_ownX ownsRow_below)
/-- below, as if neither tape nor clock had gone on -/
theorem bel_as {N : Nat} {w w1 : World} (h : BelL N w w1) : Below N w { w1 with tape := w.tape, os := w.os } := ⟨rfl, rfl, h.output, h.size, h.block⟩
theorem to_belL {lo hi k B : Nat} {ts : List Tv} {w w1 : World} (h : TO lo hi w B ts k) (hb : BelL w.heap.size w w1) : TO lo hi w1 B ts k :=
  let h' := h.later (bel_as hb)
  ⟨h'.ge, h'.lt, h'.blk⟩
theorem own_belL {B e m g n cap : Nat} {xs : List Value} {w w1 : World} (h : w.ownsRow B e m (.slice (some ⟨g, 0, none⟩) n cap) n xs) (hb : BelL w.heap.size w w1) : w1.ownsRow B e m (.slice (some ⟨g, 0, none⟩) n cap) n xs := by
  have h1 := ownsRow_below (w1 := { w1 with tape := w.tape, os := w.os }) h (bel_as hb)
  exact h1
/-- all blocks but those of X stand; of those none is empty -/
structure RngL (X : Nat → Prop) (w w' : World) : Prop where
  os : Later w.os w'.os
  output : w'.output = w.output
  size : w.heap.size ≤ w'.heap.size
  block : ∀ k, k < w.heap.size → ¬ X k → w'.heap[k]? = w.heap[k]?
  ne : ∀ k, X k → ¬ Pz w k
theorem RngL.rtt {X : Nat → Prop} {w w' : World} {T : Nat → Question → Nat} {d : Nat} (h : RngL X w w') : RngL X w (Br.rt T d w') := ⟨h.os, h.output, h.size, h.block, h.ne⟩
theorem RngL.pz {X : Nat → Prop} {w w' : World} (h : RngL X w w') : ∀ b, Pz w b → Pz w' b := fun b hb => by
  have hx : ¬ X b := fun hx => h.ne b hx hb
  obtain ⟨e, he⟩ := hb
  exact ⟨e, (h.block b (Array.getElem?_eq_some_iff.1 he).1 hx).trans he⟩
theorem RngL.belL {X : Nat → Prop} {w w' : World} (h : RngL X w w') {N : Nat} (hN : ∀ k, X k → N ≤ k) (hs : N ≤ w.heap.size) : BelL N w w' := ⟨h.os, h.output, h.size, fun k hk => h.block k (by omega) fun hx => by have := hN k hx; omega⟩
def RToX (w : World) (ts : List Tv) (v : Value) (w' : World) : Prop := ∃ B, v = .slice (some ⟨B, 0, none⟩) ts.length ts.length ∧ TO w.heap.size w'.heap.size w' B ts ts.length ∧ BelL w.heap.size w w'
theorem RToX.rt {w w' : World} {ts : List Tv} {v : Value} {T : Nat → Question → Nat} {d : Nat} (h : RToX w ts v w') : RToX w ts v (Br.rt T d w') := let ⟨r, h1, h2, h3⟩ := h; ⟨r, h1, ⟨h2.ge, h2.lt, h2.blk⟩, h3.rtt⟩
def RRow (w : World) (l : List Int) (v : Value) (w' : World) : Prop := ∃ B c, v = .slice (some ⟨B, 0, none⟩) l.length c ∧ Ins w' (some ⟨B, 0, none⟩) l ∧ BelL w.heap.size w w'
theorem RRow.rt {w w' : World} {l : List Int} {v : Value} {T : Nat → Question → Nat} {d : Nat} (h : RRow w l v w') : RRow w l v (Br.rt T d w') := let ⟨r, c, h1, h2, h3⟩ := h; ⟨r, c, h1, h2, h3.rtt⟩
def RMt (X : Nat → Prop) (w : World) (v : Value) (w' : World) : Prop := ∃ r, v = .int .i64 r ∧ 0 ≤ r ∧ RngL X w w'
theorem RMt.rt {X : Nat → Prop} {w w' : World} {v : Value} {T : Nat → Question → Nat} {d : Nat} (h : RMt X w v w') : RMt X w v (Br.rt T d w') := let ⟨r, h1, h2, h3⟩ := h; ⟨r, h1, h2, h3.rtt⟩
def RMi (B g n cap : Nat) (q : Int) (w : World) (v : Value) (w' : World) : Prop := v = .int .i64 (q + n) ∧ (∃ ys, w'.ownsRow B 2 1 (.slice (some ⟨g, 0, none⟩) n cap) n ys ∧ Mkd q n ys) ∧ RngL (fun k => k = g ∧ 0 < n) w w'
theorem RMi.rt {B g n cap : Nat} {q : Int} {w w' : World} {v : Value} {T : Nat → Question → Nat} {d : Nat} (h : RMi B g n cap q w v w') : RMi B g n cap q w v (Br.rt T d w') := ⟨h.1, h.2.1, h.2.2.rtt⟩
section
variable {ts : List Tv} {w : World} {a : Option Addr} {cap : Nat} {T : Nat → Question → Nat} {d : Nat}
theorem totsX_B (hl : ts.length ≤ 1048576) (hm : ∀ t ∈ ts, t.2.2.1.length ≤ 1048576) (hT : Tks w a ts) : Calls Try.prog 24 #[.slice a ts.length cap] (Br.rt T d w) fun e w' => ∃ v, e = .returned v ∧ RToX w ts v w' :=
  calls_imp (tots_any a cap ts (Br.rt T d w) hl hm hT) fun e w' ⟨B, h1, h2, h3⟩ => ⟨_, h1, B, rfl, h2, belL_any (w := w) h3⟩
theorem sres_B (hl : ts.length ≤ maxLen) (hT : Tks w a ts) : Calls Try.prog 22 #[.slice a ts.length cap] (Br.rt T d w) fun e w' => ∃ v, e = .returned v ∧ RRow w (resOf ts) v w' :=
  calls_imp (sres_any a cap ts (Br.rt T d w) hl hT) fun e w' ⟨B, c, h1, h2, h3⟩ => ⟨_, h1, B, c, rfl, h2, belL_any (w := w) h3⟩
theorem eqi_B {l : List Int} {b : Option Addr} {cb : Nat} (hl : l.length ≤ 1048576) (ha : Ins w a l) (hb : Ins w b l) : Calls Try.prog 25 #[.slice a l.length cap, .slice b l.length cb] (Br.rt T d w) fun e w' => ∃ v, e = .returned v ∧ RTr w v w' :=
  calls_imp (eqi_any a b cap cb l (Br.rt T d w) hl ha hb) fun e w' ⟨h1, h3⟩ => ⟨_, h1, rfl, belL_any (w := w) h3⟩
theorem markts_B {lo hi B : Nat} (hl : ts.length + tot ts ≤ 1048576) (h : TO lo hi w B ts ts.length) : Calls Try.prog 27 #[.slice (some ⟨B, 0, none⟩) ts.length cap, .int .i64 1] (Br.rt T d w) fun e w' => ∃ v, e = .returned v ∧ RMt (fun k => lo ≤ k ∧ (k < hi ∧ ¬ Pz w k)) w v w' := by
  have hx : TX lo (fun k => lo ≤ k ∧ (k < hi ∧ ¬ Pz w k)) (Br.rt T d w) B ts := by
    have h' : TX lo (fun k => lo ≤ k ∧ (k < hi ∧ ¬ Pz w k)) w B ts := h.tx (fun hn => ⟨h.ge, h.lt, fun ⟨e, he⟩ => by
      obtain ⟨cur, h1, h2, _⟩ := h.blk
      rw [h1] at he
      simp at he
      rw [he.1] at h2
      simp at h2
      omega⟩) (fun g c h1 h2 h3 h4 => ⟨h1, h2, fun ⟨e, he⟩ => by
      rw [h3] at he
      simp at he
      rw [he.1] at h4
      simp at h4⟩)
    exact ⟨h'.ge, h'.lt, h'.blk⟩
  exact calls_imp (marktx_any lo _ B cap ts (Br.rt T d w) hl hx) fun e w' ⟨r, h1, h2, h3⟩ => ⟨_, h1, r, rfl, h2, ⟨by rw [h3.os]; exact .refl _, h3.output, h3.size, h3.block, fun k hk => hk.2.2⟩⟩
theorem marki_B {B g n : Nat} {q : Int} {xs : List Value} (hn : n ≤ 10000000) (q0 : 0 ≤ q) (q1 : q ≤ 100000000) (h : w.ownsRow B 2 1 (.slice (some ⟨g, 0, none⟩) n cap) n xs) (hne : 0 < n → ¬ Pz w g) (hz : n = 0 → ∀ w' : World, ∀ ys, w'.ownsRow B 2 1 (.slice (some ⟨g, 0, none⟩) n cap) n ys → w'.heap[g]? = w.heap[g]?) : Calls Try.prog 28 #[.slice (some ⟨g, 0, none⟩) n cap, .int .i64 q] (Br.rt T d w) fun e w' => ∃ v, e = .returned v ∧ RMi B g n cap q w v w' :=
  calls_imp (marki_any B g n cap q xs (Br.rt T d w) hn q0 q1 h) fun e w' ⟨h1, ⟨ys, h2, h2'⟩, h3⟩ => ⟨_, h1, rfl, ⟨ys, h2, h2'⟩, ⟨by rw [h3.os]; exact .refl _, h3.output, h3.size, fun k hk ho => by
    by_cases e : k = g
    · subst e
      exact hz (Nat.eq_zero_of_not_pos fun hp => ho ⟨rfl, hp⟩) w' ys h2
    · exact h3.block k hk (by intro e2; injection e2 with e2; exact e e2), fun k hk => by rw [hk.1]; exact hne hk.2⟩⟩
theorem heldi_B {B g n : Nat} {q : Int} {xs : List Value} (hn : n ≤ 10000000) (q0 : 0 ≤ q) (q1 : q ≤ 100000000) (h : w.ownsRow B 2 1 (.slice (some ⟨g, 0, none⟩) n cap) n xs) (hm : Mkd q n xs) : Calls Try.prog 29 #[.slice (some ⟨g, 0, none⟩) n cap, .int .i64 q] (Br.rt T d w) fun e w' => ∃ v, e = .returned v ∧ PInt w (q + n) v w' :=
  calls_imp (heldi_any B g n cap q xs (Br.rt T d w) hn q0 q1 h hm) fun e w' ⟨h1, h2⟩ => ⟨_, h1, rfl, by rw [h2]; exact belL_any (w := w) (Below.refl _ _)⟩
end
theorem zF22 : Zg.F 22 = true := by kernel_rfl
theorem zF25 : Zg.F 25 = true := by kernel_rfl
theorem zF27 : Zg.F 27 = true := by kernel_rfl
theorem zF28 : Zg.F 28 = true := by kernel_rfl
theorem zF29 : Zg.F 29 = true := by kernel_rfl
theorem nm21 : (Try.f21.name == "runtime.NumGoroutine") = false := by kernel_rfl
theorem b21 : Try.f21.body.isNone = false := by kernel_rfl
theorem res_len {ts : List Tv} : (resOf ts).length ≤ 200 := by
  unfold resOf
  split
  · next h => rw [out_len]; exact job_short h
  · simp
end Go.Proofs.Ytpmmimcafkillaa.Tr
