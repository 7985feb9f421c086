/-
  Unlock, entered as a deferred call by the owner: its stops.
  Done, entered as a deferred call: whole.
-/
import Derived.Test.YtpmmimcafkillaaZWc
set_option linter.unusedVariables false
set_option linter.unusedSimpArgs false
namespace Go.Proofs.Ytpmmimcafkillaa.Tr
open Go Go.Conc Go.ConcN Go.RowKit Go.Conc.Lib Go.ConcR.Gen Go.ConcM
open Go.ConcR (KK wgBlock WgAt stA smA rd wr mk DC0)
open Go.Proofs.Ytpmmimcafkillaa.Mx
open Go.Proofs.Ytpmmimcafkillaa.Mx (Mu St)

theorem cnt_le {f : Mx.Lk → Nat} (hf : ∀ x, f x ≤ 1) (l : List Mx.Lk) : Mx.cnt f l ≤ l.length := by
  induction l with
  | nil => simp [Mx.cnt]
  | cons x l ih => rw [cnt_cons, List.length_cons]; have := hf x; omega
theorem LocW.w {x : Mx.Th} {sh : Shr} (h : LocW x sh) : sh.m.W ≤ 1000 := by
  obtain ⟨sp, ths, i, hc, hi, hn, _⟩ := h
  have hl : (ths.map lkOf).length ≤ 300 := by simpa using hn
  have n := hc.inv.num
  have a1 := cnt_le (f := slp) (fun x => by cases x <;> simp [slp]) (ths.map lkOf)
  have a2 := cnt_le (f := agx) (fun x => by cases x <;> simp [agx]) (ths.map lkOf)
  have a3 := cnt_le (f := a1p) (fun x => by cases x <;> simp [a1p]) (ths.map lkOf)
  cases hk : sh.m.K with
  | true => have := n.s1 hk; omega
  | false =>
    cases hs : sh.m.S with
    | false => have := n.s3 hk (.inl hs); omega
    | true =>
      cases hL : sh.m.L with
      | true => have := n.s3 hk (.inr hL); omega
      | false => have := n.s2 hk hs hL; omega
theorem LocW.s {x : Mx.Th} {sh : Shr} (h : LocW x sh) : sh.s ≤ 1 := by
  obtain ⟨sp, ths, i, hc, hi, hn, _⟩ := h
  have n := hc.inv.num
  cases hk : sh.m.K with
  | true => have := n.k1 hk; omega
  | false =>
    cases hs : sh.m.S with
    | false => have := n.k3 hk (.inl hs); omega
    | true =>
      cases hL : sh.m.L with
      | true => have := n.k3 hk (.inr hL); omega
      | false => have := n.k2 hk hs hL; omega
theorem LocW.own {x : Mx.Th} {sh : Shr} (h : LocW x sh) (ho : owns (lkOf x) = 1) : sh.m.L = true := by
  obtain ⟨sp, ths, i, hc, hi, hn, _⟩ := h
  have := cnt_ge owns (ths.map lkOf) i (lkOf x) (by simp [hi])
  have ho' := hc.inv.num.own
  cases hL : sh.m.L with
  | true => rfl
  | false => rw [hL] at ho'; simp at ho'; omega
theorem LocW.lok {x : Mx.Th} {sh : Shr} (h : LocW x sh) : Mx.lok (lkOf x) := by
  obtain ⟨sp, ths, i, hc, hi, hn, _⟩ := h
  exact hc.inv.loc _ (List.mem_map.2 ⟨x, List.mem_of_getElem? hi, rfl⟩)
/-- the word in numbers -/
def rb (l k s : Bool) : Nat := l.toNat + 2 * k.toNat + 4 * s.toNat
theorem val_vv (l k s : Bool) (W : Nat) : (⟨l, k, s, W⟩ : Mu).val = vv (rb l k s) W := by
  cases l <;> cases k <;> cases s <;> simp [Mu.val, b2i, vv, rb] <;> omega
theorem vv_add (r W : Nat) (hr : r < 8) (hW : W < 1000000) : IntKind.i32.wrap (vv r W + 8) = vv r (W + 1) := by rw [IntKind.wrap_i32]; simp only [vv]; omega
theorem vv_sub (r W : Nat) (hr : r < 8) (hW : W < 1000000) : IntKind.i32.wrap (vv r (W + 1) - 8) = vv r W := by rw [IntKind.wrap_i32]; simp only [vv]; omega
theorem vv_dec (r W : Nat) (hr : r + 1 < 8) (hW : W < 1000000) : IntKind.i32.wrap (vv (r + 1) W + -1) = vv r W := by rw [IntKind.wrap_i32]; simp only [vv]; omega
theorem vv_inc (r W : Nat) (hr : r + 1 < 8) (hW : W < 1000000) : IntKind.i32.wrap (vv r W + 1) = vv (r + 1) W := by rw [IntKind.wrap_i32]; simp only [vv]; omega
theorem vv_shr (r W : Nat) (hr : r < 8) : vv r W / 8 = (W : Int) := by simp only [vv]; omega
theorem rb_lt (l k s : Bool) : rb l k s < 8 := by cases l <;> cases k <;> cases s <;> decide
theorem nz7 {l k s : Bool} {W : Nat} (hW : W < 1000000) (h : l = true ∨ k = true ∨ s = true) : (bits .and .i32 (vv (rb l k s) W) 7 != 0) = true := by
  have e : bits .and .i32 (vv (rb l k s) W) 7 = ((rb l k s : Nat) : Int) := and_vv (c := 7) (rb_lt l k s) hW (by decide) (by cases l <;> cases k <;> cases s <;> decide)
  rw [e]
  cases l <;> cases k <;> cases s <;> first | (simp at h; done) | rfl
def loopOf : Code → Option Code
  | .loop c => some c
  | .seq x y => match loopOf x with | some c => some c | none => loopOf y
  | .block _ c => loopOf c
  | .cond _ x y => match loopOf x with | some c => some c | none => loopOf y
  | _ => none
def behindB : Code → Option Code
  | .seq (.block _ _) r => some r
  | .seq _ y => behindB y
  | _ => none
noncomputable def body104 : Code := Try.f104.body.getD .skip
noncomputable def LU : Code := (loopOf body104).getD .skip

section
variable {Y : Lay} {Held : List Nat → World → Prop} {F : Nat → Prop} {Kn : World → Prop} {s : Bool} {k : Nat} {lg : List Nat} {xe : Mx.Th}
variable {b₁ : Frame} {a₁ : Act} {ops₁ : Array Oper} {i₁ : Nat} {rest₁ : List Nat} {k₁ : List Item} {cs₁ : List Frame}
/-- unlockSlow's loop head: nobody has it, nobody is woken, some wait -/
def HeadU (Y : Lay) (Held : List Nat → World → Prop) (F : Nat → Prop) (Kn : World → Prop) (s : Bool) (k : Nat) (lg : List Nat) (b₁ : Frame) (a₁ : Act) (ops₁ : Array Oper) (i₁ : Nat) (rest₁ : List Nat) (k₁ : List Item) (cs₁ : List Frame) (d W : Nat) : Prop :=
  ∀ (j1 j2 j3 j5 j6 j7 j8 j9 j10 j11 j12 j13 j14 j15 j16 j17 j18 j19 j20 j21 j22 j23 j24 j25 j26 j27 j28 j29 j30 j31 j32 j33 j34 j35 j36 j37 j38 j39 j40 j41 j42 : Value) w, Kn w → GL Y Held s k F lg d (.uc ⟨false, false, false, W + 1⟩) 60 (G ((base 104).at ⟨#[.pointer (some ⟨Y.Lg, 0, none⟩), j1, j2, j3, .int .i32 (vv 0 (W + 1)), j5, j6, j7, j8, j9, j10, j11, j12, j13, j14, j15, j16, j17, j18, j19, j20, j21, j22, j23, j24, j25, j26, j27, j28, j29, j30, j31, j32, j33, j34, j35, j36, j37, j38, j39, j40, j41, j42], []⟩ [.code LU, .inLoop LU, .inBlock 0]) (b₁.at a₁ (.inRegion ops₁ (i₁ :: rest₁) :: k₁) :: cs₁)) w
set_option maxRecDepth 100000 in
set_option maxHeartbeats 8000000 in
theorem headU (K : KnL Y 92 99 F Kn) (hR : ∀ d, ∃ m, ∀ w, Kn w → GL Y Held s k F lg d .ue m (G (b₁.at (a₁.put ((ops₁[i₁]?).bind (·.dst)) (.tuple #[])) (.inRegion ops₁ rest₁ :: k₁)) cs₁) w) :
    ∀ d W, W < 1001 → HeadU Y Held F Kn s k lg b₁ a₁ ops₁ i₁ rest₁ k₁ cs₁ d W := by
  intro d
  induction d using Nat.strongRecOn with
  | _ d ih =>
  intro W hW
  refine fun j1 j2 j3 j5 j6 j7 j8 j9 j10 j11 j12 j13 j14 j15 j16 j17 j18 j19 j20 j21 j22 j23 j24 j25 j26 j27 j28 j29 j30 j31 j32 j33 j34 j35 j36 j37 j38 j39 j40 j41 j42 w hF => ?_
  simp only [LU, loopOf, body104, Try.f104, Option.getD_some]
  have v1 : (vv 0 (W + 1) / 8 == 0) = false := by rw [vv_shr 0 (W + 1) (by decide)]; simp; omega
  have v3 : bits .and .i32 (vv 0 (W + 1)) 7 = 0 := and_vv (c := 7) (v := 0) (by decide) (by omega) (by decide) (by decide)
  have v4 := vv_sub 0 W (by decide) (by omega)
  have v5 : bits .or .i32 (vv 0 W) 2 = vv 2 W := or_vv (c := 2) (by decide) (by omega) (by decide) (by decide)
  repeat w_go K.rl
  -- STOP uc
  refine Goes.stop (fun w r => ?_)
  replace hF := K.rl hF r
  clear r
  rcases d with _ | d
  · trivial
  refine lkStop rfl rfl (by simp) (by simp) (by simp) (by simp) (by simp) fun sh hs hloc => ?_
  have hWs := hloc.w
  by_cases hm : sh.m = ⟨false, false, false, W + 1⟩
  · have hc := hs.1.st
    rw [hm, val_vv] at hc
    replace hc : w.cell? ⟨Y.Lg, 0, none⟩ = some (.int .i32 (vv 0 (W + 1))) := hc
    have hs' : ShAt Y 92 99 (w.setCell ⟨Y.Lg, 0, none⟩ (.int .i32 (Mu.val ⟨false, true, false, W⟩))) { sh with m := ⟨false, true, false, W⟩ } := ⟨hs.1.setSt _, (wg_set _ _ rfl).trans hs.2⟩
    have st : St (.uc ⟨false, false, false, W + 1⟩) sh.m sh.s (.us false) ⟨false, true, false, W⟩ sh.s := by rw [hm]; exact .ucy
    have e2 : Mu.val ⟨false, true, false, W⟩ = vv 2 W := val_vv _ _ _ _
    rw [e2] at hs'
    refine ⟨_, _, _, _, _, _, st, stepG_cas_hit rfl rfl (by k_ne) rfl Try.func101 x101_n x101_b x101_x .i32 x101_f rfl rfl rfl hc (hs.1.thaw 0), hs'.1, hs'.2.trans hs.2.symm, eff_set _ _ (.inl rfl), book_rw 0 _ (lb 0 (by simp)), 40, ?_⟩
    replace hF := K.eff hF (eff_set _ _ (.inl rfl)) hs'
    clear hs' hc v1 v3 v4 v5 e2 st hm
    walk_nrm
    repeat w_go K.rl
    -- STOP us
    refine Goes.stop (fun w r => ?_)
    replace hF := K.rl hF r
    clear r
    rcases d with _ | d
    · trivial
    refine lkStop rfl rfl (by simp) (by simp) (by simp) (by simp) (fun _ _ => mayWake_entry rfl rfl Try.func111 x111_b) fun sh hs hloc => ?_
    have hS := hloc.s
    have hw1 : IntKind.u32.wrap ((sh.s : Int) + 1) = ((sh.s + 1 : Nat) : Int) := by rw [IntKind.wrap_u32]; omega
    have hs' : ShAt Y 92 99 (w.setCell ⟨Y.Lg, 1, none⟩ (.int .u32 ((sh.s + 1 : Nat) : Int))) { sh with s := sh.s + 1 } := ⟨hs.1.setSm _, (wg_set _ _ rfl).trans hs.2⟩
    rw [← hw1] at hs'
    refine ⟨_, _, _, _, _, _, .us, stepG_semrelease rfl rfl (by k_ne) rfl Try.func111 x111_n x111_b x111_x x111_f (by simp [Act.eval]) hs.1.sm (hs.1.thaw 1), hs'.1, hs'.2.trans hs.2.symm, eff_set _ _ (.inl rfl), book_sem 0 _ (lb 1 (by simp)), ?_⟩
    replace hF := K.eff hF (eff_set _ _ (.inl rfl)) hs'
    clear hs' hw1 hS hs hloc
    obtain ⟨mT, hT'⟩ := hR d
    refine ⟨mT + 20, ?_⟩
    walk_nrm
    repeat w_go K.rl
    u_leave0 Try.func104 K.rl hF
    exact goes_pad (hT' _ hF) _
  · -- it missed
    refine ⟨_, sh.m, sh.s, _, _, _, .ucn hm, stepG_cas_miss rfl rfl (by k_ne) rfl Try.func101 x101_n x101_b x101_x .i32 x101_f rfl rfl rfl hs.1.st (hs.1.thaw 0) (fun e => hm (Mu.val_inj (e.trans (val_vv false false false (W + 1)).symm))), hs.1, rfl, eff_refl _, book_one 0 _ false (lb 0 (by simp)), 60, ?_⟩
    clear v1 v3 v4 v5 hm hs hloc
    walk_nrm
    repeat w_go K.rl
    -- STOP ux
    refine Goes.stop (fun w r => ?_)
    replace hF := K.rl hF r
    clear r
    rcases d with _ | d
    · trivial
    refine lkStop rfl rfl (by simp) (by simp) (by simp) (by simp) (by simp) fun sh hs hloc => ?_
    have hWs := hloc.w
    by_cases hm : sh.m.W = 0 ∨ sh.m.L = true ∨ sh.m.K = true ∨ sh.m.S = true
    · obtain ⟨mT, hT'⟩ := hR d
      refine ⟨.ue, sh.m, sh.s, _, _, _, .uxe hm, stepG_loadQ rfl rfl (by k_ne) rfl rfl hs.1.st q104, hs.1, rfl, eff_refl _, book_nil 1, mT + 60, ?_⟩
      obtain ⟨⟨l, kk, ss, ww⟩, s0, c0, wt, ws0, of0⟩ := sh
      simp only at hm hWs
      rw [val_vv]
      clear hs hloc
      by_cases hw0 : ww = 0
      · subst hw0
        have v1 : (vv (rb l kk ss) 0 / 8 == 0) = true := by rw [vv_shr (rb l kk ss) 0 (by cases l <;> cases kk <;> cases ss <;> decide)]; rfl
        walk_nrm
        repeat w_go K.rl
        u_leave0 Try.func104 K.rl hF
        exact goes_pad (hT' _ hF) _
      · have v1 : (vv (rb l kk ss) ww / 8 == 0) = false := by rw [vv_shr (rb l kk ss) ww (by cases l <;> cases kk <;> cases ss <;> decide)]; simp; omega
        have v3 : (bits .and .i32 (vv (rb l kk ss) ww) 7 != 0) = true := nz7 (by omega) (hm.resolve_left hw0)
        walk_nrm
        repeat w_go K.rl
        u_leave0 Try.func104 K.rl hF
        exact goes_pad (hT' _ hF) _
    · obtain ⟨⟨l, kk, ss, ww⟩, s0, c0, wt, ws0, of0⟩ := sh
      simp only [not_or, Bool.not_eq_true] at hm hWs
      obtain ⟨h1, rfl, rfl, rfl⟩ := hm
      obtain ⟨ww, rfl⟩ : ∃ x, ww = x + 1 := ⟨ww - 1, by omega⟩
      have hH := ih d (by omega) ww (by omega)
      have hc := hs.1.st
      simp only [val_vv] at hc
      refine ⟨_, _, _, _, _, _, .uxc (by simp) rfl rfl rfl, stepG_loadQ rfl rfl (by k_ne) rfl rfl hc q104, hs.1, rfl, eff_refl _, book_nil 1, 60 + 40, ?_⟩
      clear hs hloc hc
      walk_nrm
      repeat w_nl K.rl
      u_c stepG_inLoop K.rl hF
      simp only [HeadU, LU, loopOf, body104, Try.f104, Option.getD_some] at hH
      exact goes_le (by omega) (hH _ _ _ _ _ _ _ _ _ _ _ _ _ _ _ _ _ _ _ _ _ _ _ _ _ _ _ _ _ _ _ _ _ _ _ _ _ _ _ _ _ _ hF)

/-- unlockSlow's frame at its entry -/
noncomputable abbrev FrU (Y : Lay) (v : Int) (cs : List Frame) : Goroutine := G ((base 104).at ⟨#[.pointer (some ⟨Y.Lg, 0, none⟩), .int .i32 v, undef, undef, undef, undef, undef, undef, undef, undef, undef, undef, undef, undef, undef, undef, undef, undef, undef, undef, undef, undef, undef, undef, undef, undef, undef, undef, undef, undef, undef, undef, undef, undef, undef, undef, undef, undef, undef, undef, undef, undef, undef], []⟩ [.code body104]) cs
theorem rb_even (k s : Bool) : rb false k s + 1 = rb true k s := by cases k <;> cases s <;> rfl
theorem even_1 {k s : Bool} {W : Nat} (hW : W < 1000000) : (bits .and .i32 (vv (rb true k s) W) 1 == 0) = false := by
  have e : bits .and .i32 (vv (rb true k s) W) 1 = 1 := and_vv (c := 1) (v := 1) (rb_lt _ _ _) hW (by decide) (by cases k <;> cases s <;> decide)
  rw [e]; rfl
theorem and_4 {l k s : Bool} {W : Nat} (hW : W < 1000000) : bits .and .i32 (vv (rb l k s) W) 4 = 4 * (s.toNat : Int) := by
  have e : bits .and .i32 (vv (rb l k s) W) 4 = ((4 * s.toNat : Nat) : Int) := and_vv (c := 4) (rb_lt _ _ _) hW (by decide) (by cases l <;> cases k <;> cases s <;> decide)
  rw [e]; simp
set_option maxRecDepth 100000 in
set_option maxHeartbeats 8000000 in
/-- it hands the lock on -/
theorem slowU1 (K : KnL Y 92 99 F Kn) (hR : ∀ d, ∃ m, ∀ w, Kn w → GL Y Held s k F lg d .ue m (G (b₁.at (a₁.put ((ops₁[i₁]?).bind (·.dst)) (.tuple #[])) (.inRegion ops₁ rest₁ :: k₁)) cs₁) w) (d : Nat) (kk : Bool) (W : Nat) (hW : W ≤ 1000) (w : World) (hF : Kn w) :
    GL Y Held s k F lg d (.us true) 60 (FrU Y (vv (rb false kk true) W) (b₁.at a₁ (.inRegion ops₁ (i₁ :: rest₁) :: k₁) :: cs₁)) w := by
  have v0 := vv_inc (rb false kk true) W (by cases kk <;> decide) (by omega)
  rw [rb_even] at v0
  have v1 := even_1 (k := kk) (s := true) (W := W) (by omega)
  have v2 : (bits .and .i32 (vv (rb false kk true) W) 4 == 0) = false := by rw [and_4 (by omega)]; rfl
  simp only [FrU, body104, Try.f104, Option.getD_some]
  repeat w_go K.rl
  -- STOP us
  refine Goes.stop (fun w r => ?_)
  replace hF := K.rl hF r
  clear r
  rcases d with _ | d
  · trivial
  refine lkStop rfl rfl (by simp) (by simp) (by simp) (by simp) (fun _ _ => mayWake_entry rfl rfl Try.func111 x111_b) fun sh hs hloc => ?_
  have hS := hloc.s
  have hw1 : IntKind.u32.wrap ((sh.s : Int) + 1) = ((sh.s + 1 : Nat) : Int) := by rw [IntKind.wrap_u32]; omega
  have hs' : ShAt Y 92 99 (w.setCell ⟨Y.Lg, 1, none⟩ (.int .u32 ((sh.s + 1 : Nat) : Int))) { sh with s := sh.s + 1 } := ⟨hs.1.setSm _, (wg_set _ _ rfl).trans hs.2⟩
  rw [← hw1] at hs'
  refine ⟨_, _, _, _, _, _, .us, stepG_semrelease rfl rfl (by k_ne) rfl Try.func111 x111_n x111_b x111_x x111_f (by simp [Act.eval]) hs.1.sm (hs.1.thaw 1), hs'.1, hs'.2.trans hs.2.symm, eff_set _ _ (.inl rfl), book_sem 0 _ (lb 1 (by simp)), ?_⟩
  replace hF := K.eff hF (eff_set _ _ (.inl rfl)) hs'
  clear hs' hw1 hS hs hloc
  obtain ⟨mT, hT'⟩ := hR d
  refine ⟨mT + 20, ?_⟩
  clear v0 v1 v2
  walk_nrm
  repeat w_go K.rl
  u_leave0 Try.func104 K.rl hF
  exact goes_pad (hT' _ hF) _
set_option maxRecDepth 100000 in
set_option maxHeartbeats 8000000 in
/-- it wakes nobody -/
theorem slowU2 (K : KnL Y 92 99 F Kn) (d mT : Nat) (hT' : ∀ w, Kn w → GL Y Held s k F lg d .ue mT (G (b₁.at (a₁.put ((ops₁[i₁]?).bind (·.dst)) (.tuple #[])) (.inRegion ops₁ rest₁ :: k₁)) cs₁) w) (kk : Bool) (W : Nat) (hW : W ≤ 1000) (h : W = 0 ∨ kk = true) :
    ∀ w, Kn w → GL Y Held s k F lg d .ue (mT + 60) (FrU Y (vv (rb false kk false) W) (b₁.at a₁ (.inRegion ops₁ (i₁ :: rest₁) :: k₁) :: cs₁)) w := by
  have v0 := vv_inc (rb false kk false) W (by cases kk <;> decide) (by omega)
  rw [rb_even] at v0
  have v1 := even_1 (k := kk) (s := false) (W := W) (by omega)
  have v2 : (bits .and .i32 (vv (rb false kk false) W) 4 == 0) = true := by rw [and_4 (by omega)]; rfl
  refine fun w hF => ?_
  simp only [FrU, body104, Try.f104, Option.getD_some]
  by_cases hw0 : W = 0
  · subst hw0
    have v3 : (vv (rb false kk false) 0 / 8 == 0) = true := by rw [vv_shr _ 0 (rb_lt _ _ _)]; rfl
    repeat w_go K.rl
    u_leave0 Try.func104 K.rl hF
    exact goes_pad (hT' _ hF) _
  · have v3 : (vv (rb false kk false) W / 8 == 0) = false := by rw [vv_shr _ W (rb_lt _ _ _)]; simp; omega
    have v4 : (bits .and .i32 (vv (rb false kk false) W) 7 != 0) = true := nz7 (by omega) (.inr (.inl (h.resolve_left hw0)))
    repeat w_go K.rl
    u_leave0 Try.func104 K.rl hF
    exact goes_pad (hT' _ hF) _
set_option maxRecDepth 100000 in
set_option maxHeartbeats 8000000 in
/-- it looks for one to wake -/
theorem slowU3 (K : KnL Y 92 99 F Kn) (hR : ∀ d, ∃ m, ∀ w, Kn w → GL Y Held s k F lg d .ue m (G (b₁.at (a₁.put ((ops₁[i₁]?).bind (·.dst)) (.tuple #[])) (.inRegion ops₁ rest₁ :: k₁)) cs₁) w) (d W : Nat) (hW : W ≤ 1000) :
    ∀ w, Kn w → GL Y Held s k F lg d (.uc ⟨false, false, false, W + 1⟩) (60 + 40) (FrU Y (vv 0 (W + 1)) (b₁.at a₁ (.inRegion ops₁ (i₁ :: rest₁) :: k₁) :: cs₁)) w := by
  have v0 : IntKind.i32.wrap (vv 0 (W + 1) + 1) = vv 1 (W + 1) := vv_inc 0 (W + 1) (by decide) (by omega)
  have v1 : (bits .and .i32 (vv 1 (W + 1)) 1 == 0) = false := even_1 (k := false) (s := false) (W := W + 1) (by omega)
  have v2 : (bits .and .i32 (vv 0 (W + 1)) 4 == 0) = true := by rw [show bits .and .i32 (vv 0 (W + 1)) 4 = 0 from and_vv (c := 4) (v := 0) (by decide) (by omega) (by decide) (by decide)]; rfl
  have hH := headU (Held := Held) (s := s) (k := k) (lg := lg) K hR d W (by omega)
  refine fun w hF => ?_
  simp only [FrU, body104, Try.f104, Option.getD_some]
  repeat w_but "code.loop" K.rl
  u_c stepG_loop K.rl hF
  simp only [HeadU, LU, loopOf, body104, Try.f104, Option.getD_some] at hH
  exact goes_le (by omega) (hH _ _ _ _ _ _ _ _ _ _ _ _ _ _ _ _ _ _ _ _ _ _ _ _ _ _ _ _ _ _ _ _ _ _ _ _ _ _ _ _ _ _ hF)
end
end Go.Proofs.Ytpmmimcafkillaa.Tr

set_option linter.unusedVariables false
set_option linter.unusedSimpArgs false
namespace Go.Proofs.Ytpmmimcafkillaa.Tr
open Go Go.Conc Go.ConcN Go.RowKit Go.Conc.Lib Go.ConcR.Gen Go.ConcM
open Go.ConcR (KK wgBlock WgAt stA smA rd wr mk DC0)
open Go.Proofs.Ytpmmimcafkillaa.Mx
open Go.Proofs.Ytpmmimcafkillaa.Mx (Mu St)
theorem nm77 : (Try.f77.name == "runtime.NumGoroutine") = false := by kernel_rfl
theorem nm79 : (Try.f79.name == "runtime.NumGoroutine") = false := by kernel_rfl
theorem nm80 : (Try.f80.name == "runtime.NumGoroutine") = false := by kernel_rfl
theorem nm88 : (Try.f88.name == "runtime.NumGoroutine") = false := by kernel_rfl
theorem u106 : Try.prog.underlying 106 = some (.pointer 99) := by kernel_rfl
theorem z99 : (Try.prog.info? 99).map (fun i => decide (i.size = 0)) = some false := by kernel_rfl
noncomputable def body60 : Code := Try.f60.body.getD .skip
theorem quitsD_more {P : Program} : ∀ {n d : Nat} {g : Goroutine}, QuitsD P n d g → QuitsD P (n + 1) d g
  | 0, _, _, h => .inl h
  | _ + 1, _, _, .inl h => .inl h
  | _ + 1, _, _, .inr ⟨hr, g', es, hm, hs, hq⟩ => .inr ⟨hr, g', es, hm, hs, quitsD_more hq⟩
theorem quitsD_le {P : Program} {n n' d : Nat} {g : Goroutine} (h : n ≤ n') (x : QuitsD P n d g) : QuitsD P n' d g := by
  obtain ⟨r, rfl⟩ := Nat.exists_eq_add_of_le h
  induction r with
  | zero => exact x
  | succ r ih => exact quitsD_more (ih (Nat.le_add_right _ _))
section
variable {Y : Lay} {Held : List Nat → World → Prop} {F : Nat → Prop} {Kn : World → Prop} {k : Nat} {lg : List Nat} {c : Frame} {cs : List Frame} {qt : Nat}
set_option maxRecDepth 100000 in
set_option maxHeartbeats 16000000 in
/-- ████ Done, deferred ████ -/
theorem doneGo (K : KnL Y 92 99 F Kn) (hcm : c.mode = .returning) (hT : QuitsD Try.prog qt 0 (G c cs)) :
    ∀ d w, Kn w → Goes Try.prog false (RF Y 92 99 F false) DC0 (AtW Try.prog Y 92 99 Held d k (.dn .wr) F lg) 60 (G ((baseD 60).at ⟨#[.pointer (some ⟨Y.Wg, 0, none⟩), undef, undef, undef], []⟩ [.code body60]) (c :: cs)) w := by
  intro d w hF
  simp only [body60, Try.f60, Option.getD_some]
  repeat w_go K.rl
  u_call Try.func58 nm58 Try.f58 K.rl hF
  repeat w_go K.rl
  u_in K.rl hF
  obtain ⟨sh1, hs1⟩ := K.live hF
  have hcl := hs1.2.cellSt
  simp only [stA] at hcl
  refine goes_oper_k rfl rfl (by k_ne) (fun Kx hKx => ?_)
  have hcv := run_convert_to_unsafe (P := Try.prog) u106 wgLib.underlying_tUP z99 hcl
  have hce := fun es => events_convert_to_unsafe (P := Try.prog) u106 wgLib.underlying_tUP z99 hcl es
  go_simp
  refine hKx _ _ ⟨?_, ?_⟩
  · u_none
    intro ex hex
    have hmx := mem_listed hex
    simp [go_sem, hce] at hmx
  clear hKx Kx hcv hce hcl hs1
  try walk_nrm
  repeat w_go K.rl
  -- STOP wr
  refine Goes.stop (fun w r => ?_)
  replace hF := K.rl hF r
  clear r
  rcases d with _ | d
  · trivial
  refine dnStop rfl rfl (by simp) fun sh hs hloc => ⟨.dn .wk, sh, _, _, _, .wr, stepG_markAt .releaseMerge (by simp) rfl rfl (by k_ne) rfl wgLib.f_relMerge (x_relMerge_n link) (x_relMerge_b link) (x_relMerge_x link) (x_relMerge_f link) (by simp [Act.eval, stA]), hs, eff_refl _, rfl, fun e => (by cases e), fun _ => ⟨30, ?_⟩⟩
  clear hs hloc
  walk_nrm
  repeat w_go K.rl
  -- STOP wk
  refine Goes.stop (fun w r => ?_)
  replace hF := K.rl hF r
  clear r
  rcases d with _ | d
  · trivial
  refine dnStop rfl rfl (by simp) fun sh hs hloc => ⟨.dn .d1, sh, _, _, _, .wk, stepG_mark0 .disable (by simp) rfl rfl (by k_ne) rfl wgLib.f_disable (x_disable_n link) (x_disable_b link) (x_disable_x link) (x_disable_f link), hs, eff_refl _, book_dis 0, fun e => (by cases e), fun _ => ⟨90, ?_⟩⟩
  clear hs hloc
  walk_nrm
  repeat w_go K.rl
  u_defer K.rl hF
  repeat w_go K.rl
  u_in K.rl hF
  rw [stepG_entry_pure (.bool false) rfl rfl (by k_ne) rfl wgLib.f_inBubble (x_inBubble_n link) (x_inBubble_b link) (x_inBubble_x link) (x_inBubble_f link)]
  simp only [goes_go]
  refine ⟨by u_nil, ?_⟩
  walk_nrm
  repeat w_go K.rl
  u_call Try.func77 nm77 Try.f77 K.rl hF
  repeat w_go K.rl
  m_num
  -- STOP d1
  refine Goes.stop (fun w r => ?_)
  replace hF := K.rl hF r
  clear r
  rcases d with _ | d
  · trivial
  refine dnStop rfl rfl (by simp) fun sh hs hloc => ?_
  have hb := hloc.cwt
  have hb1 := hloc.d1
  obtain ⟨mu, s0, cc, wt, ws, oft⟩ := sh
  simp only at hb hb1
  obtain ⟨hc, hwt, hws⟩ := hb
  have eS := st_dec cc wt hb1 hc hwt
  by_cases hA : cc = 1 ∧ wt = 1
  · obtain ⟨rfl, rfl⟩ := hA
    have e1 : IntKind.u64.wrap (((1 : Nat) : Int) * KK + ((1 : Nat) : Int) + 18446744069414584320) = 1 := by decide
    have hs' := hs.setSt 0 1
    have z : ((0 : Nat) : Int) * KK + ((1 : Nat) : Int) = 1 := by decide
    rw [z] at hs'
    refine ⟨.dn .d2, _, _, _, _, .d1w rfl rfl, stepG_add_atomic rfl rfl (by k_ne) rfl wgLib.f_addU64 (x_addU64_n link) (x_addU64_b link) (x_addU64_x link) .u64 (x_addU64_f link) rfl rfl hs.2.cellSt (hs.2.thaw 0), by rw [e1]; exact hs', eff_set _ _ (.inr rfl), book_rw 0 _ (wb 0), fun e => (by cases e), fun _ => ⟨140, ?_⟩⟩
    simp only [e1]
    replace hF := K.eff hF (eff_set (stA Y.Wg) _ (.inr rfl)) hs'
    clear hs' hs hloc eS z
    walk_nrm
    repeat w_go K.rl
    u_leave1 Try.func77 K.rl hF
    repeat w_go K.rl
    u_call Try.func79 nm79 Try.f79 K.rl hF
    repeat w_go K.rl
    -- STOP d2
    refine Goes.stop (fun w r => ?_)
    replace hF := K.rl hF r
    clear r
    rcases d with _ | d
    · trivial
    refine dnStop rfl rfl (by simp) fun sh hs hloc => ?_
    obtain ⟨hc0, hwt1⟩ := hloc.d23 rfl
    have hst := hs.2.cellSt
    rw [hc0, hwt1, show ((0 : Nat) : Int) * KK + ((1 : Nat) : Int) = 1 by decide] at hst
    refine ⟨.dn .d3, sh, _, _, _, .d2, stepG_load_atomic rfl rfl (by k_ne) rfl wgLib.f_loadU64 (x_loadU64_n link) (x_loadU64_b link) (x_loadU64_x link) .u64 (x_loadU64_f link) rfl hst, hs, eff_refl _, book_one 0 _ false (wb 0), fun e => (by cases e), fun _ => ⟨60, ?_⟩⟩
    clear hst hs hloc
    walk_nrm
    repeat w_go K.rl
    u_leave1 Try.func79 K.rl hF
    repeat w_go K.rl
    u_call Try.func80 nm80 Try.f80 K.rl hF
    repeat w_go K.rl
    -- STOP d3
    refine Goes.stop (fun w r => ?_)
    replace hF := K.rl hF r
    clear r
    rcases d with _ | d
    · trivial
    refine dnStop rfl rfl (by simp) fun sh hs hloc => ?_
    obtain ⟨hc0, hwt1⟩ := hloc.d23 rfl
    have hs' := hs.setSt 0 0
    rw [show ((0 : Nat) : Int) * KK + ((0 : Nat) : Int) = 0 by decide] at hs'
    have esh : ({ sh with c := 0, wt := 0 } : Shr) = { sh with wt := 0 } := by rw [← hc0]
    rw [esh] at hs'
    refine ⟨.dn .d4, _, _, _, _, .d3, stepG_store_atomic rfl rfl (by k_ne) rfl wgLib.f_storeU64 (x_storeU64_n link) (x_storeU64_b link) (x_storeU64_x link) (x_storeU64_f link) rfl rfl hs.2.cellSt (hs.2.thaw 0), hs', eff_set _ _ (.inr rfl), book_one 0 _ true (wb 0), fun e => (by cases e), fun _ => ⟨60, ?_⟩⟩
    replace hF := K.eff hF (eff_set (stA Y.Wg) _ (.inr rfl)) hs'
    clear hs' hs hloc
    walk_nrm
    repeat w_go K.rl
    u_leave0 Try.func80 K.rl hF
    repeat w_go K.rl
    -- STOP d4: IT MAY WAKE
    refine Goes.stop (fun w r => ?_)
    replace hF := K.rl hF r
    clear r
    rcases d with _ | d
    · trivial
    refine dnStop rfl rfl (fun _ => mayWake_entry rfl rfl wgLib.f_semrelease (x_semrelease_b link)) fun sh hs hloc => ?_
    have h0 := hloc.d4
    have hw1 : IntKind.u32.wrap ((sh.ws : Int) + 1) = ((sh.ws + 1 : Nat) : Int) := by rw [IntKind.wrap_u32]; omega
    refine ⟨.quit, _, _, _, _, .d4, stepG_semrelease rfl rfl (by k_ne) rfl wgLib.f_semrelease (x_semrelease_n link) (x_semrelease_b link) (x_semrelease_x link) (x_semrelease_f link) (by simp [Act.eval, smA]) hs.2.cellSm (hs.2.thaw 1), by rw [hw1]; exact hs.setSm (sh.ws + 1), eff_set _ _ (.inr rfl), book_sem 0 _ (wb 1), fun _ => ⟨qt + 200, ?_⟩, fun e => absurd rfl e⟩
    walk_nrm
    repeat (q_go; try q_fix)
    q_en wgLib link
    q_leave0 Try.func58
    repeat (q_go; try q_fix)
    exact quitsD_le (by omega) (QuitsD.leaveD rfl rfl Try.func60 rfl hcm hT)
  · -- IT ONLY LEAVES
    have hs' := hs.setSt (cc - 1) wt
    refine ⟨.quit, _, _, _, _, .d1q hA, stepG_add_atomic rfl rfl (by k_ne) rfl wgLib.f_addU64 (x_addU64_n link) (x_addU64_b link) (x_addU64_x link) .u64 (x_addU64_f link) rfl rfl hs.2.cellSt (hs.2.thaw 0), by rw [eS]; exact hs', eff_set _ _ (.inr rfl), book_rw 0 _ (wb 0), fun _ => ⟨qt + 200, ?_⟩, fun e => absurd rfl e⟩
    simp only [eS]
    clear hs' hs hloc eS
    obtain ⟨v, rfl⟩ : ∃ v, cc = v + 1 := ⟨cc - 1, by omega⟩
    obtain ⟨a1, a2, b1, b2⟩ := st_parts v wt (by omega) hwt
    simp only [Nat.add_sub_cancel]
    rcases Nat.eq_zero_or_pos v with rfl | hv
    · obtain rfl : wt = 0 := by omega
      rw [show ((0 : Nat) : Int) * KK + ((0 : Nat) : Int) = 0 by decide]
      clear a1 a2 b1 b2
      walk_nrm
      repeat (q_go; try q_fix)
      q_leave1 Try.func77
      repeat (q_go; try q_fix)
      q_en wgLib link
      q_leave0 Try.func58
      repeat (q_go; try q_fix)
      exact quitsD_le (by omega) (QuitsD.leaveD rfl rfl Try.func60 rfl hcm hT)
    · generalize (v : Int) * KK + (wt : Int) = S at a1 a2 b1 b2 ⊢
      obtain rfl | rfl : wt = 0 ∨ wt = 1 := by omega
      · walk_nrm
        q_vn (.int .u64 S)
        q_c stepG_region_end
        q_c stepG_ret'
        q_leave1 Try.func77
        q_vn (.int .u64 S)
        q_c stepG_region_end
        q_c stepG_seq
        q_c stepG_seq
        q_reg
        q_vn (.int .u64 S)
        q_vn (.int .u64 0)
        q_vn (.bool false)
        q_vn (.bool false)
        q_skip
        q_skip
        q_vn (.bool false)
        q_c stepG_region_end
        q_cond false
        q_c stepG_skip
        q_c stepG_seq
        q_reg
        q_vn (.int .u64 S)
        q_vn (.int .u64 (v : Int))
        q_vn (.int .i32 (v : Int))
        q_vn (.int .i32 (v : Int))
        q_c stepG_region_end
        q_c stepG_seq
        q_reg
        q_vn (.int .u64 S)
        q_vn (.int .u64 0)
        q_vn (.int .u32 0)
        q_vn (.int .u32 0)
        q_c stepG_region_end
        q_c stepG_seq
        q_c stepG_seq
        q_reg
        q_vn (.bool true)
        q_vn (.int .i64 (-1))
        q_vn (.bool false)
        q_vn (.bool false)
        q_vn (.bool false)
        q_skip
        q_skip
        q_skip
        q_skip
        q_vn (.bool false)
        q_c stepG_region_end
        q_cond false
        q_c stepG_skip
        q_c stepG_seq
        q_c stepG_seq
        q_reg
        q_vn (.int .i32 (v : Int))
        q_vn (.bool false)
        q_c stepG_region_end
        q_cond false
        q_c stepG_skip
        q_c stepG_seq
        q_c stepG_seq
        q_reg
        q_vn (.int .u32 0)
        q_vn (.bool false)
        q_vn (.bool false)
        q_skip
        q_skip
        q_vn (.bool false)
        q_vn (.bool false)
        q_skip
        q_skip
        q_skip
        q_skip
        q_vn (.bool false)
        q_c stepG_region_end
        q_cond false
        q_c stepG_skip
        q_c stepG_seq
        q_c stepG_seq
        q_reg
        q_vn (.int .i32 (v : Int))
        q_vn (.bool true)
        q_vn (.bool true)
        q_skip
        q_skip
        q_vn (.bool true)
        q_c stepG_region_end
        q_cond true
        q_c stepG_ret'
        q_en wgLib link
        q_leave0 Try.func58
        repeat (q_go; try q_fix)
        exact quitsD_le (by omega) (QuitsD.leaveD rfl rfl Try.func60 rfl hcm hT)
      · walk_nrm
        q_vn (.int .u64 S)
        q_c stepG_region_end
        q_c stepG_ret'
        q_leave1 Try.func77
        q_vn (.int .u64 S)
        q_c stepG_region_end
        q_c stepG_seq
        q_c stepG_seq
        q_reg
        q_vn (.int .u64 S)
        q_vn (.int .u64 0)
        q_vn (.bool false)
        q_vn (.bool false)
        q_skip
        q_skip
        q_vn (.bool false)
        q_c stepG_region_end
        q_cond false
        q_c stepG_skip
        q_c stepG_seq
        q_reg
        q_vn (.int .u64 S)
        q_vn (.int .u64 (v : Int))
        q_vn (.int .i32 (v : Int))
        q_vn (.int .i32 (v : Int))
        q_c stepG_region_end
        q_c stepG_seq
        q_reg
        q_vn (.int .u64 S)
        q_vn (.int .u64 1)
        q_vn (.int .u32 1)
        q_vn (.int .u32 1)
        q_c stepG_region_end
        q_c stepG_seq
        q_c stepG_seq
        q_reg
        q_vn (.bool true)
        q_vn (.int .i64 (-1))
        q_vn (.bool false)
        q_vn (.bool false)
        q_vn (.bool false)
        q_skip
        q_skip
        q_skip
        q_skip
        q_vn (.bool false)
        q_c stepG_region_end
        q_cond false
        q_c stepG_skip
        q_c stepG_seq
        q_c stepG_seq
        q_reg
        q_vn (.int .i32 (v : Int))
        q_vn (.bool false)
        q_c stepG_region_end
        q_cond false
        q_c stepG_skip
        q_c stepG_seq
        q_c stepG_seq
        q_reg
        q_vn (.int .u32 1)
        q_vn (.bool true)
        q_vn (.bool true)
        q_vn (.int .i64 (-1))
        q_vn (.bool false)
        q_vn (.bool false)
        q_vn (.bool false)
        q_skip
        q_skip
        q_skip
        q_skip
        q_vn (.bool false)
        q_c stepG_region_end
        q_cond false
        q_c stepG_skip
        q_c stepG_seq
        q_c stepG_seq
        q_reg
        q_vn (.int .i32 (v : Int))
        q_vn (.bool true)
        q_vn (.bool true)
        q_skip
        q_skip
        q_vn (.bool true)
        q_c stepG_region_end
        q_cond true
        q_c stepG_ret'
        q_en wgLib link
        q_leave0 Try.func58
        repeat (q_go; try q_fix)
        exact quitsD_le (by omega) (QuitsD.leaveD rfl rfl Try.func60 rfl hcm hT)
end
end Go.Proofs.Ytpmmimcafkillaa.Tr
