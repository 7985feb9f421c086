/-
  The deeds, each behind its test of how many numbers there are: contracts.
-/
import Derived.Test.YtioaehjppiodfaaGreatDoorGBnW
namespace Go.Proofs.YtioaehjppiodfaaGreatDoor
open Go.RowKit
set_option linter.unusedVariables false
set_option linter.unusedSimpArgs false

set_option maxRecDepth 100000 in
set_option maxHeartbeats 1600000 in
theorem tell0_any (G N bB p q  c : Nat) (s : Bch) (x : An × Bch) (a : Option Addr) (n cp : Nat) (w : World) (hp : Boxed w p 3 (.int .i64 c)) (hq : Boxed w q 68 (.func (.func G) #[] #[])) (hB : BS N w bB s) (hn : n ≤ 100000)
    (hcf : ∀ (args : Array Value) (w : World), (callFunc G args).run Tryz.prog w = .ok (.enter G args) w)
    (hG : n = c → Calls Tryz.prog G #[.pointer (some ⟨bB, 0, none⟩), .slice a n cp] w (DeedR N bB x w)) :
    Calls Tryz.prog 75 #[.pointer (some ⟨bB, 0, none⟩), .slice a n cp, .pointer (some ⟨p, 0, none⟩), .pointer (some ⟨q, 0, none⟩)] w (DeedR N bB (if n = c then x else (.err 1, s)) w) := by
  have c0 := hp.cell
  have c1 := hq.cell
  have hB' := hide hB
  have hG' := hide hG
  clear hB hp hq hG
  by_cases h : n = c
  · subst h
    rw [if_pos rfl]
    have hC := hide (unhide hG' rfl)
    clear hG'
    go_enter Tryz.func75, Tryz.ntmps75
    go_wp2_with fail
    refine (unhide hC).mono ?_
    rintro e w1 ⟨v, rfl, h1, h2, h3⟩
    have hf := hide (show DeedR N bB x w (.returned v) w1 from ⟨v, rfl, h1, h2, h3⟩)
    clear h1 h2 h3 hC hcf
    go_wp2
    go_ret
    exact unhide hf
  · rw [if_neg h]
    have g1 : ((n : Int) == (c : Int)) = false := by rw [beq_eq_false_iff_ne]; omega
    have g2 : ((n : Int) != (c : Int)) = true := by rw [bne_iff_ne]; omega
    clear hG' hcf
    go_enter Tryz.func75, Tryz.ntmps75
    go_wp2
    go_ret
    exact ⟨_, rfl, rfl, unhide hB', Kb.refl _ _ _⟩

set_option maxRecDepth 100000 in
set_option maxHeartbeats 1600000 in
theorem tell1_any (G N bB p q r c : Nat) (s : Bch) (x : An × Bch) (a : Option Addr) (n cp : Nat) (w : World) (hp : Boxed w p 3 (.int .i64 c)) (hq : Boxed w q 68 (.func (.func G) #[] #[.pointer (some ⟨r, 0, none⟩)])) (hB : BS N w bB s) (hn : n ≤ 100000)
    (hcf : ∀ (args : Array Value) (w : World), (callFunc G args).run Tryz.prog w = .ok (.enter G args) w)
    (hG : n = c → Calls Tryz.prog G #[.pointer (some ⟨bB, 0, none⟩), .slice a n cp, .pointer (some ⟨r, 0, none⟩)] w (DeedR N bB x w)) :
    Calls Tryz.prog 75 #[.pointer (some ⟨bB, 0, none⟩), .slice a n cp, .pointer (some ⟨p, 0, none⟩), .pointer (some ⟨q, 0, none⟩)] w (DeedR N bB (if n = c then x else (.err 1, s)) w) := by
  have c0 := hp.cell
  have c1 := hq.cell
  have hB' := hide hB
  have hG' := hide hG
  clear hB hp hq hG
  by_cases h : n = c
  · subst h
    rw [if_pos rfl]
    have hC := hide (unhide hG' rfl)
    clear hG'
    go_enter Tryz.func75, Tryz.ntmps75
    go_wp2_with fail
    refine (unhide hC).mono ?_
    rintro e w1 ⟨v, rfl, h1, h2, h3⟩
    have hf := hide (show DeedR N bB x w (.returned v) w1 from ⟨v, rfl, h1, h2, h3⟩)
    clear h1 h2 h3 hC hcf
    go_wp2
    go_ret
    exact unhide hf
  · rw [if_neg h]
    have g1 : ((n : Int) == (c : Int)) = false := by rw [beq_eq_false_iff_ne]; omega
    have g2 : ((n : Int) != (c : Int)) = true := by rw [bne_iff_ne]; omega
    clear hG' hcf
    go_enter Tryz.func75, Tryz.ntmps75
    go_wp2
    go_ret
    exact ⟨_, rfl, rfl, unhide hB', Kb.refl _ _ _⟩

/-- a deed's boxes -/
def DVE (w : World) (q : Nat) (T G F c : Nat) : Prop := Boxed w q T (.func (.func F) #[] #[]) ∧ Boxed w (q + 1) 3 (.int .i64 c) ∧ Boxed w (q + 2) 68 (.func (.func G) #[] #[.pointer (some ⟨q, 0, none⟩)])
def DVP (w : World) (p F c : Nat) : Prop := Boxed w p 3 (.int .i64 c) ∧ Boxed w (p + 1) 68 (.func (.func F) #[] #[])
def DV (w : World) (n : Nat) : Nat → Prop
  | 0 => DVE w (n + 1) 70 71 32 4
  | 1 => DVE w (n + 4) 70 71 33 4
  | 2 => DVE w (n + 7) 72 74 35 2
  | 3 => DVE w (n + 10) 72 74 36 2
  | 4 => DVE w (n + 13) 72 74 37 2
  | 5 => DVE w (n + 16) 72 74 38 2
  | 6 => DVE w (n + 19) 72 74 39 2
  | 7 => DVE w (n + 22) 72 74 40 2
  | 8 => DVP w (n + 25) 42 0
  | 9 => DVP w (n + 27) 43 1
  | 10 => DVP w (n + 29) 44 0
  | 11 => DVP w (n + 31) 45 0
  | _ => DVP w (n + 33) 46 0
/-- where a deed's first box lies -/
def psL (n : Nat) : Nat → Nat
  | 0 => n + 2 | 1 => n + 5 | 2 => n + 8 | 3 => n + 11 | 4 => n + 14 | 5 => n + 17 | 6 => n + 20 | 7 => n + 23
  | 8 => n + 25 | 9 => n + 27 | 10 => n + 29 | 11 => n + 31 | _ => n + 33
theorem Boxed.keptW {w w' : World} {b : Nat} {t : TypeId} {v : Value} (h : Boxed w b t v) (hk : w'.heap[b]? = w.heap[b]?) : Boxed w' b t v := hk.trans h

theorem deed0 (N bB n : Nat) (s : Bch) (a : Option Addr) (cp : Nat) (L : List Int) (w : World) (hI : Ins w a L) (hL : L.length ≤ 100000) (hD : DV w n 0) (hB : BS N w bB s) (hn : s.2.length ≤ 300) :
    Calls Tryz.prog 75 #[.pointer (some ⟨bB, 0, none⟩), .slice a L.length cp, .pointer (some ⟨psL n 0, 0, none⟩), .pointer (some ⟨psL n 0 + 1, 0, none⟩)] w (DeedR N bB (tellS 0 L s) w) := by
  obtain ⟨h1, h2, h3⟩ := hD
  refine (tell1_any 71 N bB _ _ _ 4 s (doS 0 L s) a L.length cp w h2 h3 hB hL (by intro args w; simp [go_sem]) ?_)
  intro hl
  obtain ⟨a1, a2, a3, a4, rfl⟩ : ∃ a1 a2 a3 a4, L = [a1, a2, a3, a4] := by
    match L, hl with
    | [a1, a2, a3, a4], _ => exact ⟨a1, a2, a3, a4, rfl⟩
  exact clipE_any 32 N bB _ s a cp a1 a2 a3 a4 (insertS s.1 a1 (a2, a3, a4)) w hI h1 hB hn (fun t ht => ins_tok ht) (by intro args w; simp [go_sem]) (fun ta tc w0 hA hk => iIns_any ta tc s.1 a1 a2 a3 a4 w0 hB.ok.1.max hk)

theorem deed1 (N bB n : Nat) (s : Bch) (a : Option Addr) (cp : Nat) (L : List Int) (w : World) (hI : Ins w a L) (hL : L.length ≤ 100000) (hD : DV w n 1) (hB : BS N w bB s) (hn : s.2.length ≤ 300) :
    Calls Tryz.prog 75 #[.pointer (some ⟨bB, 0, none⟩), .slice a L.length cp, .pointer (some ⟨psL n 1, 0, none⟩), .pointer (some ⟨psL n 1 + 1, 0, none⟩)] w (DeedR N bB (tellS 1 L s) w) := by
  obtain ⟨h1, h2, h3⟩ := hD
  refine (tell1_any 71 N bB _ _ _ 4 s (doS 1 L s) a L.length cp w h2 h3 hB hL (by intro args w; simp [go_sem]) ?_)
  intro hl
  obtain ⟨a1, a2, a3, a4, rfl⟩ : ∃ a1 a2 a3 a4, L = [a1, a2, a3, a4] := by
    match L, hl with
    | [a1, a2, a3, a4], _ => exact ⟨a1, a2, a3, a4, rfl⟩
  exact clipE_any 33 N bB _ s a cp a1 a2 a3 a4 (overS s.1 a1 (a2, a3, a4)) w hI h1 hB hn (fun t ht => over_tok ht) (by intro args w; simp [go_sem]) (fun ta tc w0 hA hk => iOvr_any ta tc s.1 a1 a2 a3 a4 w0 hB.ok.1.max hk)

theorem deed2 (N bB n : Nat) (s : Bch) (a : Option Addr) (cp : Nat) (L : List Int) (w : World) (hI : Ins w a L) (hL : L.length ≤ 100000) (hD : DV w n 2) (hB : BS N w bB s) (hn : s.2.length ≤ 300) :
    Calls Tryz.prog 75 #[.pointer (some ⟨bB, 0, none⟩), .slice a L.length cp, .pointer (some ⟨psL n 2, 0, none⟩), .pointer (some ⟨psL n 2 + 1, 0, none⟩)] w (DeedR N bB (tellS 2 L s) w) := by
  obtain ⟨h1, h2, h3⟩ := hD
  refine (tell1_any 74 N bB _ _ _ 2 s (doS 2 L s) a L.length cp w h2 h3 hB hL (by intro args w; simp [go_sem]) ?_)
  intro hl
  obtain ⟨a1, a2, rfl⟩ : ∃ a1 a2, L = [a1, a2] := by
    match L, hl with
    | [a1, a2], _ => exact ⟨a1, a2, rfl⟩
  exact numE_any 35 N bB _ s a cp a1 a2 (extractS s.1 a1 a2) w hI h1 hB hn (fun t ht => ext_tok ht) (by intro args w; simp [go_sem]) (fun ta tc w0 hA hk => iExt_any ta tc s.1 a1 a2 w0 hB.ok.1.max hk)

theorem deed3 (N bB n : Nat) (s : Bch) (a : Option Addr) (cp : Nat) (L : List Int) (w : World) (hI : Ins w a L) (hL : L.length ≤ 100000) (hD : DV w n 3) (hB : BS N w bB s) (hn : s.2.length ≤ 300) :
    Calls Tryz.prog 75 #[.pointer (some ⟨bB, 0, none⟩), .slice a L.length cp, .pointer (some ⟨psL n 3, 0, none⟩), .pointer (some ⟨psL n 3 + 1, 0, none⟩)] w (DeedR N bB (tellS 3 L s) w) := by
  obtain ⟨h1, h2, h3⟩ := hD
  refine (tell1_any 74 N bB _ _ _ 2 s (doS 3 L s) a L.length cp w h2 h3 hB hL (by intro args w; simp [go_sem]) ?_)
  intro hl
  obtain ⟨a1, a2, rfl⟩ : ∃ a1 a2, L = [a1, a2] := by
    match L, hl with
    | [a1, a2], _ => exact ⟨a1, a2, rfl⟩
  exact numE_any 36 N bB _ s a cp a1 a2 (liftS s.1 a1 a2) w hI h1 hB hn (fun t ht => lif_tok ht) (by intro args w; simp [go_sem]) (fun ta tc w0 hA hk => iLif_any ta tc s.1 a1 a2 w0 hB.ok.1.max hk)

theorem deed4 (N bB n : Nat) (s : Bch) (a : Option Addr) (cp : Nat) (L : List Int) (w : World) (hI : Ins w a L) (hL : L.length ≤ 100000) (hD : DV w n 4) (hB : BS N w bB s) (hn : s.2.length ≤ 300) :
    Calls Tryz.prog 75 #[.pointer (some ⟨bB, 0, none⟩), .slice a L.length cp, .pointer (some ⟨psL n 4, 0, none⟩), .pointer (some ⟨psL n 4 + 1, 0, none⟩)] w (DeedR N bB (tellS 4 L s) w) := by
  obtain ⟨h1, h2, h3⟩ := hD
  refine (tell1_any 74 N bB _ _ _ 2 s (doS 4 L s) a L.length cp w h2 h3 hB hL (by intro args w; simp [go_sem]) ?_)
  intro hl
  obtain ⟨a1, a2, rfl⟩ : ∃ a1 a2, L = [a1, a2] := by
    match L, hl with
    | [a1, a2], _ => exact ⟨a1, a2, rfl⟩
  exact numE_any 37 N bB _ s a cp a1 a2 (rollS s.1 a1 a2) w hI h1 hB hn (fun t ht => rol_tok ht) (by intro args w; simp [go_sem]) (fun ta tc w0 hA hk => iRol_any ta tc s.1 (hide hA) a1 a2 w0 hB.ok.1.max hk)

theorem deed5 (N bB n : Nat) (s : Bch) (a : Option Addr) (cp : Nat) (L : List Int) (w : World) (hI : Ins w a L) (hL : L.length ≤ 100000) (hD : DV w n 5) (hB : BS N w bB s) (hn : s.2.length ≤ 300) :
    Calls Tryz.prog 75 #[.pointer (some ⟨bB, 0, none⟩), .slice a L.length cp, .pointer (some ⟨psL n 5, 0, none⟩), .pointer (some ⟨psL n 5 + 1, 0, none⟩)] w (DeedR N bB (tellS 5 L s) w) := by
  obtain ⟨h1, h2, h3⟩ := hD
  refine (tell1_any 74 N bB _ _ _ 2 s (doS 5 L s) a L.length cp w h2 h3 hB hL (by intro args w; simp [go_sem]) ?_)
  intro hl
  obtain ⟨a1, a2, rfl⟩ : ∃ a1 a2, L = [a1, a2] := by
    match L, hl with
    | [a1, a2], _ => exact ⟨a1, a2, rfl⟩
  exact numE_any 38 N bB _ s a cp a1 a2 (slipS s.1 a1 a2) w hI h1 hB hn (fun t ht => slp_tok ht) (by intro args w; simp [go_sem]) (fun ta tc w0 hA hk => iSlp_any ta tc s.1 (hide hA) a1 a2 w0 hB.ok.1.max hk)

theorem deed6 (N bB n : Nat) (s : Bch) (a : Option Addr) (cp : Nat) (L : List Int) (w : World) (hI : Ins w a L) (hL : L.length ≤ 100000) (hD : DV w n 6) (hB : BS N w bB s) (hn : s.2.length ≤ 300) :
    Calls Tryz.prog 75 #[.pointer (some ⟨bB, 0, none⟩), .slice a L.length cp, .pointer (some ⟨psL n 6, 0, none⟩), .pointer (some ⟨psL n 6 + 1, 0, none⟩)] w (DeedR N bB (tellS 6 L s) w) := by
  obtain ⟨h1, h2, h3⟩ := hD
  refine (tell1_any 74 N bB _ _ _ 2 s (doS 6 L s) a L.length cp w h2 h3 hB hL (by intro args w; simp [go_sem]) ?_)
  intro hl
  obtain ⟨a1, a2, rfl⟩ : ∃ a1 a2, L = [a1, a2] := by
    match L, hl with
    | [a1, a2], _ => exact ⟨a1, a2, rfl⟩
  exact numE_any 39 N bB _ s a cp a1 a2 (slidS s.1 a1 a2) w hI h1 hB hn (fun t ht => sld_tok ht) (by intro args w; simp [go_sem]) (fun ta tc w0 hA hk => iSld_any ta tc s.1 (hide hA) a1 a2 w0 hB.ok.1.max hk)

theorem deed7 (N bB n : Nat) (s : Bch) (a : Option Addr) (cp : Nat) (L : List Int) (w : World) (hI : Ins w a L) (hL : L.length ≤ 100000) (hD : DV w n 7) (hB : BS N w bB s) (hn : s.2.length ≤ 300) :
    Calls Tryz.prog 75 #[.pointer (some ⟨bB, 0, none⟩), .slice a L.length cp, .pointer (some ⟨psL n 7, 0, none⟩), .pointer (some ⟨psL n 7 + 1, 0, none⟩)] w (DeedR N bB (tellS 7 L s) w) := by
  obtain ⟨h1, h2, h3⟩ := hD
  refine (tell1_any 74 N bB _ _ _ 2 s (doS 7 L s) a L.length cp w h2 h3 hB hL (by intro args w; simp [go_sem]) ?_)
  intro hl
  obtain ⟨a1, a2, rfl⟩ : ∃ a1 a2, L = [a1, a2] := by
    match L, hl with
    | [a1, a2], _ => exact ⟨a1, a2, rfl⟩
  exact numE_any 40 N bB _ s a cp a1 a2 (rippleS s.1 a1 a2) w hI h1 hB hn (fun t ht => rip_tok ht) (by intro args w; simp [go_sem]) (fun ta tc w0 hA hk => iRip_any ta tc s.1 (hide hA) a1 a2 w0 hB.ok.1.max hk)

theorem deed8 (N bB n : Nat) (s : Bch) (a : Option Addr) (cp : Nat) (L : List Int) (w : World) (hI : Ins w a L) (hL : L.length ≤ 100000) (hD : DV w n 8) (hB : BS N w bB s) (hn : s.2.length ≤ 300) (hG : Gv w) :
    Calls Tryz.prog 75 #[.pointer (some ⟨bB, 0, none⟩), .slice a L.length cp, .pointer (some ⟨psL n 8, 0, none⟩), .pointer (some ⟨psL n 8 + 1, 0, none⟩)] w (DeedR N bB (tellS 8 L s) w) := by
  obtain ⟨h2, h3⟩ := hD
  refine (tell0_any 42 N bB _ _ 0 s (doS 8 L s) a L.length cp w h2 h3 hB hL (by intro args w; simp [go_sem]) ?_)
  intro hl
  obtain rfl : L = [] := List.length_eq_zero_iff.1 hl
  exact undone_any N bB s _ w hB hn

theorem deed9 (N bB n : Nat) (s : Bch) (a : Option Addr) (cp : Nat) (L : List Int) (w : World) (hI : Ins w a L) (hL : L.length ≤ 100000) (hD : DV w n 9) (hB : BS N w bB s) (hn : s.2.length ≤ 300) (hG : Gv w) :
    Calls Tryz.prog 75 #[.pointer (some ⟨bB, 0, none⟩), .slice a L.length cp, .pointer (some ⟨psL n 9, 0, none⟩), .pointer (some ⟨psL n 9 + 1, 0, none⟩)] w (DeedR N bB (tellS 9 L s) w) := by
  obtain ⟨h2, h3⟩ := hD
  refine (tell0_any 43 N bB _ _ 1 s (doS 9 L s) a L.length cp w h2 h3 hB hL (by intro args w; simp [go_sem]) ?_)
  intro hl
  obtain ⟨a1, rfl⟩ : ∃ a1, L = [a1] := by
    match L, hl with
    | [a1], _ => exact ⟨a1, rfl⟩
  exact seen_any N bB s a cp a1 w hI hB

theorem deed10 (N bB n : Nat) (s : Bch) (a : Option Addr) (cp : Nat) (L : List Int) (w : World) (hI : Ins w a L) (hL : L.length ≤ 100000) (hD : DV w n 10) (hB : BS N w bB s) (hn : s.2.length ≤ 300) (hG : Gv w) :
    Calls Tryz.prog 75 #[.pointer (some ⟨bB, 0, none⟩), .slice a L.length cp, .pointer (some ⟨psL n 10, 0, none⟩), .pointer (some ⟨psL n 10 + 1, 0, none⟩)] w (DeedR N bB (tellS 10 L s) w) := by
  obtain ⟨h2, h3⟩ := hD
  refine (tell0_any 44 N bB _ _ 0 s (doS 10 L s) a L.length cp w h2 h3 hB hL (by intro args w; simp [go_sem]) ?_)
  intro hl
  obtain rfl : L = [] := List.length_eq_zero_iff.1 hl
  exact shown_any N bB s _ w hB

theorem deed11 (N bB n : Nat) (s : Bch) (a : Option Addr) (cp : Nat) (L : List Int) (w : World) (hI : Ins w a L) (hL : L.length ≤ 100000) (hD : DV w n 11) (hB : BS N w bB s) (hn : s.2.length ≤ 300) (hG : Gv w) :
    Calls Tryz.prog 75 #[.pointer (some ⟨bB, 0, none⟩), .slice a L.length cp, .pointer (some ⟨psL n 11, 0, none⟩), .pointer (some ⟨psL n 11 + 1, 0, none⟩)] w (DeedR N bB (tellS 11 L s) w) := by
  obtain ⟨h2, h3⟩ := hD
  refine (tell0_any 45 N bB _ _ 0 s (doS 11 L s) a L.length cp w h2 h3 hB hL (by intro args w; simp [go_sem]) ?_)
  intro hl
  obtain rfl : L = [] := List.length_eq_zero_iff.1 hl
  exact changes_any N bB s _ w hB

theorem deed12 (N bB n : Nat) (s : Bch) (a : Option Addr) (cp : Nat) (L : List Int) (w : World) (hI : Ins w a L) (hL : L.length ≤ 100000) (hD : DV w n 12) (hB : BS N w bB s) (hn : s.2.length ≤ 300) (hG : Gv w) :
    Calls Tryz.prog 75 #[.pointer (some ⟨bB, 0, none⟩), .slice a L.length cp, .pointer (some ⟨psL n 12, 0, none⟩), .pointer (some ⟨psL n 12 + 1, 0, none⟩)] w (DeedR N bB (tellS 12 L s) w) := by
  obtain ⟨h2, h3⟩ := hD
  refine (tell0_any 46 N bB _ _ 0 s (doS 12 L s) a L.length cp w h2 h3 hB hL (by intro args w; simp [go_sem]) ?_)
  intro hl
  obtain rfl : L = [] := List.length_eq_zero_iff.1 hl
  exact sum_any N bB s _ w hB hG

theorem deed_any (i : Nat) (hi : i < 13) (N bB n : Nat) (s : Bch) (a : Option Addr) (cp : Nat) (L : List Int) (w : World) (hI : Ins w a L) (hL : L.length ≤ 100000) (hD : DV w n i) (hB : BS N w bB s) (hn : s.2.length ≤ 300) (hG : Gv w) :
    Calls Tryz.prog 75 #[.pointer (some ⟨bB, 0, none⟩), .slice a L.length cp, .pointer (some ⟨psL n i, 0, none⟩), .pointer (some ⟨psL n i + 1, 0, none⟩)] w (DeedR N bB (tellS i L s) w) := by
  match i, hi with
  | 0, _ => exact deed0 N bB n s a cp L w hI hL hD hB hn
  | 1, _ => exact deed1 N bB n s a cp L w hI hL hD hB hn
  | 2, _ => exact deed2 N bB n s a cp L w hI hL hD hB hn
  | 3, _ => exact deed3 N bB n s a cp L w hI hL hD hB hn
  | 4, _ => exact deed4 N bB n s a cp L w hI hL hD hB hn
  | 5, _ => exact deed5 N bB n s a cp L w hI hL hD hB hn
  | 6, _ => exact deed6 N bB n s a cp L w hI hL hD hB hn
  | 7, _ => exact deed7 N bB n s a cp L w hI hL hD hB hn
  | 8, _ => exact deed8 N bB n s a cp L w hI hL hD hB hn hG
  | 9, _ => exact deed9 N bB n s a cp L w hI hL hD hB hn hG
  | 10, _ => exact deed10 N bB n s a cp L w hI hL hD hB hn hG
  | 11, _ => exact deed11 N bB n s a cp L w hI hL hD hB hn hG
  | 12, _ => exact deed12 N bB n s a cp L w hI hL hD hB hn hG
end Go.Proofs.YtioaehjppiodfaaGreatDoor
