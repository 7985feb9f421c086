/-
  lockSlow: what it would put in the place of the word, and its compare-and-swap (2).
  lockSlow: what it would put in the place of the word, and its compare-and-swap (3).
-/
import Derived.Test.YtpmmimcafkillaaZWj1
set_option linter.unusedVariables false
set_option linter.unusedSimpArgs false
namespace Go.Proofs.Ytpmmimcafkillaa.Tr
open Go Go.Conc Go.ConcN Go.RowKit Go.Conc.Lib Go.ConcR.Gen Go.ConcM
open Go.ConcR (KK wgBlock WgAt stA smA rd wr mk DC0)
open Go.Proofs.Ytpmmimcafkillaa.Mx
open Go.Proofs.Ytpmmimcafkillaa.Mx (Mu St)
section
variable {Y : Lay} {Held : List Nat → World → Prop} {F : Nat → Prop} {Kn : World → Prop} {s : Bool} {k : Nat} {lg : List Nat} {xc : Mx.Th}
variable {b₁ : Frame} {a₁ : Act} {ops₁ : Array Oper} {i₁ : Nat} {rest₁ : List Nat} {k₁ : List Item} {cs₁ : List Frame}
set_option maxRecDepth 100000 in
set_option maxHeartbeats 16000000 in
theorem c2_01010 (K : KnL Y 92 99 F Kn) (hH : ∀ l (v v' : World), v'.heap[Y.Mp]? = v.heap[Y.Mp]? → Held l v → Held l v') (hxc : ∀ sh, TSt (kx s .la) sh xc sh) (hq : xc ≠ .quit) (hmu : muteT xc = false) (hT : ∀ d l0, ∃ m, ∀ w, KnO Held Kn l0 w → GO Y Held k F l0 d xc m (G (b₁.at (a₁.put ((ops₁[i₁]?).bind (·.dst)) (.tuple #[])) (.inRegion ops₁ rest₁ :: k₁)) cs₁) w) (d : Nat) (ih : ∀ d', d' < d → ∀ (old : Mu) (aw sv : Bool) (it : Nat) (wst : Int), HdOk old aw sv it → HeadP Y Held F Kn s k lg b₁ a₁ ops₁ i₁ rest₁ k₁ cs₁ d' old aw sv it wst) (W : Nat) (hW : W ≤ 1000) (it : Nat) (hi : it ≤ 4) (wst : Int) : C2P Y Held F Kn s k lg b₁ a₁ ops₁ i₁ rest₁ k₁ cs₁ d ⟨false, true, false, W⟩ true false it wst := by
  refine fun j1 j7 j8 j9 j10 j11 j12 j13 j14 j15 j16 j17 j18 j19 j20 j21 j22 j23 j24 j25 j26 j27 j28 j29 j30 j31 j32 j33 j34 j35 j36 j37 j38 j39 j40 j41 j42 j43 j44 j45 j46 j47 j48 j49 j50 j51 j52 j53 j54 j55 j56 j57 j58 j59 j60 j61 j62 j63 j64 j65 j66 j67 j68 j69 j70 j71 j72 j73 j74 j75 j76 j77 j78 j79 j80 j81 j82 j83 j84 j85 j86 j87 j88 j89 j90 j91 j92 j93 j94 j95 j96 j97 j98 j99 j100 j101 j102 j103 j104 j105 j106 j107 j108 j109 j110 j111 j112 j113 j114 j115 j116 j117 j118 j119 j120 j121 j122 j123 j124 j125 j126 j127 j128 j129 j130 j131 j132 j133 j134 j135 j136 j137 j138 w hF => ?_
  have f1 : (bits .and .i32 (vv 2 W) 4 == 0) = true := by rw [show bits .and .i32 (vv 2 W) 4 = 0 from and_vv (c := 4) (v := 0) (by decide) (by omega) (by decide) (by decide)]; rfl
  have f2 : bits .or .i32 (vv 2 W) 1 = vv 3 W := or_vv (c := 1) (by decide) (by omega) (by decide) (by decide)
  have f3 : (bits .and .i32 (vv 2 W) 5 != 0) = false := by rw [show bits .and .i32 (vv 2 W) 5 = 0 from and_vv (c := 5) (v := 0) (by decide) (by omega) (by decide) (by decide)]; rfl
  have f7 : (bits .and .i32 (vv 3 W) 2 == 0) = false := by rw [show bits .and .i32 (vv 3 W) 2 = 2 from and_vv (c := 2) (v := 2) (by decide) (by omega) (by decide) (by decide)]; rfl
  have f8 : bits .andNot .i32 (vv 3 W) 2 = vv 1 W := andn_vv (by decide) (by omega) (by decide)
  have e0 : Mu.val ⟨false, true, false, W⟩ = vv 2 W := val_vv _ _ _ _
  have hM := fun d' (h : d' < d) => missGo (s := s) (k := k) (lg := lg) (b₁ := b₁) (a₁ := a₁) (ops₁ := ops₁) (i₁ := i₁) (rest₁ := rest₁) (k₁ := k₁) (cs₁ := cs₁) K d' (fun d'' h'' => ih d'' (by omega)) ⟨false, true, false, W⟩ true false it hi wst
  have hA := fun d' (h : d' < d) => okL (lg := lg) K hH hxc hq hmu hT d' true W hW true false it wst
  simp only [K22P, e0, REST, behindB, LB, loopOf, A3, A4, A5, A6, thnC, K22, X2, sndS, inB, body102, Try.f102, Option.getD_some] at hA
  simp only [K22P, e0, REST, behindB, LB, loopOf, A3, A4, A5, A6, thnC, K22, X2, sndS, inB, body102, Try.f102, Option.getD_some] at hM
  rw [e0]
  clear ih
  simp only [REST, behindB, LB, loopOf, A3, A4, A5, A6, thnC, K22, X2, sndS, inB, body102, Try.f102, Option.getD_some]
  repeat w_go K.rl
  -- STOP c2
  refine Goes.stop (fun w r => ?_)
  replace hF := K.rl hF r
  clear r
  rcases d with _ | d
  · trivial
  refine lkStop rfl rfl (by simp) (by simp) (by simp) (by simp) (by simp) fun sh hs hloc => ?_
  have enw : nw ⟨false, true, false, W⟩ true false = ⟨true, false, false, W⟩ := by simp [nw]
  by_cases hm : sh.m = ⟨false, true, false, W⟩
  · have hc := hs.1.st
    rw [hm, e0] at hc
    have hs' : ShAt Y 92 99 (w.setCell ⟨Y.Lg, 0, none⟩ (.int .i32 (Mu.val ⟨true, false, false, W⟩))) { sh with m := ⟨true, false, false, W⟩ } := ⟨hs.1.setSt _, (wg_set _ _ rfl).trans hs.2⟩
    rw [show Mu.val ⟨true, false, false, W⟩ = vv 1 W from val_vv _ _ _ _] at hs'
    have st : St (.c2 ⟨false, true, false, W⟩ true false it) sh.m sh.s .le ⟨true, false, false, W⟩ sh.s := by rw [hm, ← enw]; exact .c2l rfl rfl
    refine ⟨_, _, _, _, _, _, st, stepG_cas_hit rfl rfl (by k_ne) rfl Try.func101 x101_n x101_b x101_x .i32 x101_f rfl rfl rfl hc (hs.1.thaw 0), hs'.1, hs'.2.trans hs.2.symm, eff_set _ _ (.inl rfl), book_rw 0 _ (lb 0 (by simp)), 100 + 10, ?_⟩
    replace hF := K.eff hF (eff_set _ _ (.inl rfl)) hs'
    clear hs' hc hs hloc st hm
    walk_nrm
    u_c stepG_region_end K.rl hF
    exact goes_le (by omega) (hA d (by omega) _ _ _ _ _ _ _ _ _ _ _ _ _ _ _ _ _ _ _ _ _ _ _ _ _ _ _ _ _ _ _ _ _ _ _ _ _ _ _ _ _ _ _ _ _ _ _ _ _ _ _ _ _ _ _ _ _ _ _ _ _ _ _ _ _ _ _ _ _ _ _ _ _ _ _ _ _ _ _ _ _ _ _ _ _ _ _ _ _ _ _ _ _ _ _ _ _ _ _ _ _ _ _ _ _ _ _ _ _ _ _ _ _ _ _ _ _ _ _ _ _ _ _ _ _ _ _ _ _ _ _ _ _ hF)
  · refine ⟨_, sh.m, sh.s, _, _, _, .c2n hm, stepG_cas_miss rfl rfl (by k_ne) rfl Try.func101 x101_n x101_b x101_x .i32 x101_f rfl rfl rfl hs.1.st (hs.1.thaw 0) (fun e => hm (Mu.val_inj (e.trans e0.symm))), hs.1, rfl, eff_refl _, book_one 0 _ false (lb 0 (by simp)), 100 + 10, ?_⟩
    clear hs hloc hm
    walk_nrm
    u_c stepG_region_end K.rl hF
    exact goes_le (by omega) (hM d (by omega) _ _ _ _ _ _ _ _ _ _ _ _ _ _ _ _ _ _ _ _ _ _ _ _ _ _ _ _ _ _ _ _ _ _ _ _ _ _ _ _ _ _ _ _ _ _ _ _ _ _ _ _ _ _ _ _ _ _ _ _ _ _ _ _ _ _ _ _ _ _ _ _ _ _ _ _ _ _ _ _ _ _ _ _ _ _ _ _ _ _ _ _ _ _ _ _ _ _ _ _ _ _ _ _ _ _ _ _ _ _ _ _ _ _ _ _ _ _ _ _ _ _ _ _ _ _ _ _ _ _ _ _ _ hF)
set_option maxRecDepth 100000 in
set_option maxHeartbeats 16000000 in
theorem c2_01011 (K : KnL Y 92 99 F Kn) (hH : ∀ l (v v' : World), v'.heap[Y.Mp]? = v.heap[Y.Mp]? → Held l v → Held l v') (hxc : ∀ sh, TSt (kx s .la) sh xc sh) (hq : xc ≠ .quit) (hmu : muteT xc = false) (hT : ∀ d l0, ∃ m, ∀ w, KnO Held Kn l0 w → GO Y Held k F l0 d xc m (G (b₁.at (a₁.put ((ops₁[i₁]?).bind (·.dst)) (.tuple #[])) (.inRegion ops₁ rest₁ :: k₁)) cs₁) w) (d : Nat) (ih : ∀ d', d' < d → ∀ (old : Mu) (aw sv : Bool) (it : Nat) (wst : Int), HdOk old aw sv it → HeadP Y Held F Kn s k lg b₁ a₁ ops₁ i₁ rest₁ k₁ cs₁ d' old aw sv it wst) (W : Nat) (hW : W ≤ 1000) (it : Nat) (hi : it ≤ 4) (wst : Int) : C2P Y Held F Kn s k lg b₁ a₁ ops₁ i₁ rest₁ k₁ cs₁ d ⟨false, true, false, W⟩ true true it wst := by
  refine fun j1 j7 j8 j9 j10 j11 j12 j13 j14 j15 j16 j17 j18 j19 j20 j21 j22 j23 j24 j25 j26 j27 j28 j29 j30 j31 j32 j33 j34 j35 j36 j37 j38 j39 j40 j41 j42 j43 j44 j45 j46 j47 j48 j49 j50 j51 j52 j53 j54 j55 j56 j57 j58 j59 j60 j61 j62 j63 j64 j65 j66 j67 j68 j69 j70 j71 j72 j73 j74 j75 j76 j77 j78 j79 j80 j81 j82 j83 j84 j85 j86 j87 j88 j89 j90 j91 j92 j93 j94 j95 j96 j97 j98 j99 j100 j101 j102 j103 j104 j105 j106 j107 j108 j109 j110 j111 j112 j113 j114 j115 j116 j117 j118 j119 j120 j121 j122 j123 j124 j125 j126 j127 j128 j129 j130 j131 j132 j133 j134 j135 j136 j137 j138 w hF => ?_
  have f1 : (bits .and .i32 (vv 2 W) 4 == 0) = true := by rw [show bits .and .i32 (vv 2 W) 4 = 0 from and_vv (c := 4) (v := 0) (by decide) (by omega) (by decide) (by decide)]; rfl
  have f2 : bits .or .i32 (vv 2 W) 1 = vv 3 W := or_vv (c := 1) (by decide) (by omega) (by decide) (by decide)
  have f3 : (bits .and .i32 (vv 2 W) 5 != 0) = false := by rw [show bits .and .i32 (vv 2 W) 5 = 0 from and_vv (c := 5) (v := 0) (by decide) (by omega) (by decide) (by decide)]; rfl
  have f5 : (bits .and .i32 (vv 2 W) 1 != 0) = false := by rw [show bits .and .i32 (vv 2 W) 1 = 0 from and_vv (c := 1) (v := 0) (by decide) (by omega) (by decide) (by decide)]; rfl
  have f7 : (bits .and .i32 (vv 3 W) 2 == 0) = false := by rw [show bits .and .i32 (vv 3 W) 2 = 2 from and_vv (c := 2) (v := 2) (by decide) (by omega) (by decide) (by decide)]; rfl
  have f8 : bits .andNot .i32 (vv 3 W) 2 = vv 1 W := andn_vv (by decide) (by omega) (by decide)
  have e0 : Mu.val ⟨false, true, false, W⟩ = vv 2 W := val_vv _ _ _ _
  have hM := fun d' (h : d' < d) => missGo (s := s) (k := k) (lg := lg) (b₁ := b₁) (a₁ := a₁) (ops₁ := ops₁) (i₁ := i₁) (rest₁ := rest₁) (k₁ := k₁) (cs₁ := cs₁) K d' (fun d'' h'' => ih d'' (by omega)) ⟨false, true, false, W⟩ true true it hi wst
  have hA := fun d' (h : d' < d) => okL (lg := lg) K hH hxc hq hmu hT d' true W hW true true it wst
  simp only [K22P, e0, REST, behindB, LB, loopOf, A3, A4, A5, A6, thnC, K22, X2, sndS, inB, body102, Try.f102, Option.getD_some] at hA
  simp only [K22P, e0, REST, behindB, LB, loopOf, A3, A4, A5, A6, thnC, K22, X2, sndS, inB, body102, Try.f102, Option.getD_some] at hM
  rw [e0]
  clear ih
  simp only [REST, behindB, LB, loopOf, A3, A4, A5, A6, thnC, K22, X2, sndS, inB, body102, Try.f102, Option.getD_some]
  repeat w_go K.rl
  -- STOP c2
  refine Goes.stop (fun w r => ?_)
  replace hF := K.rl hF r
  clear r
  rcases d with _ | d
  · trivial
  refine lkStop rfl rfl (by simp) (by simp) (by simp) (by simp) (by simp) fun sh hs hloc => ?_
  have enw : nw ⟨false, true, false, W⟩ true true = ⟨true, false, false, W⟩ := by simp [nw]
  by_cases hm : sh.m = ⟨false, true, false, W⟩
  · have hc := hs.1.st
    rw [hm, e0] at hc
    have hs' : ShAt Y 92 99 (w.setCell ⟨Y.Lg, 0, none⟩ (.int .i32 (Mu.val ⟨true, false, false, W⟩))) { sh with m := ⟨true, false, false, W⟩ } := ⟨hs.1.setSt _, (wg_set _ _ rfl).trans hs.2⟩
    rw [show Mu.val ⟨true, false, false, W⟩ = vv 1 W from val_vv _ _ _ _] at hs'
    have st : St (.c2 ⟨false, true, false, W⟩ true true it) sh.m sh.s .le ⟨true, false, false, W⟩ sh.s := by rw [hm, ← enw]; exact .c2l rfl rfl
    refine ⟨_, _, _, _, _, _, st, stepG_cas_hit rfl rfl (by k_ne) rfl Try.func101 x101_n x101_b x101_x .i32 x101_f rfl rfl rfl hc (hs.1.thaw 0), hs'.1, hs'.2.trans hs.2.symm, eff_set _ _ (.inl rfl), book_rw 0 _ (lb 0 (by simp)), 100 + 10, ?_⟩
    replace hF := K.eff hF (eff_set _ _ (.inl rfl)) hs'
    clear hs' hc hs hloc st hm
    walk_nrm
    u_c stepG_region_end K.rl hF
    exact goes_le (by omega) (hA d (by omega) _ _ _ _ _ _ _ _ _ _ _ _ _ _ _ _ _ _ _ _ _ _ _ _ _ _ _ _ _ _ _ _ _ _ _ _ _ _ _ _ _ _ _ _ _ _ _ _ _ _ _ _ _ _ _ _ _ _ _ _ _ _ _ _ _ _ _ _ _ _ _ _ _ _ _ _ _ _ _ _ _ _ _ _ _ _ _ _ _ _ _ _ _ _ _ _ _ _ _ _ _ _ _ _ _ _ _ _ _ _ _ _ _ _ _ _ _ _ _ _ _ _ _ _ _ _ _ _ _ _ _ _ _ hF)
  · refine ⟨_, sh.m, sh.s, _, _, _, .c2n hm, stepG_cas_miss rfl rfl (by k_ne) rfl Try.func101 x101_n x101_b x101_x .i32 x101_f rfl rfl rfl hs.1.st (hs.1.thaw 0) (fun e => hm (Mu.val_inj (e.trans e0.symm))), hs.1, rfl, eff_refl _, book_one 0 _ false (lb 0 (by simp)), 100 + 10, ?_⟩
    clear hs hloc hm
    walk_nrm
    u_c stepG_region_end K.rl hF
    exact goes_le (by omega) (hM d (by omega) _ _ _ _ _ _ _ _ _ _ _ _ _ _ _ _ _ _ _ _ _ _ _ _ _ _ _ _ _ _ _ _ _ _ _ _ _ _ _ _ _ _ _ _ _ _ _ _ _ _ _ _ _ _ _ _ _ _ _ _ _ _ _ _ _ _ _ _ _ _ _ _ _ _ _ _ _ _ _ _ _ _ _ _ _ _ _ _ _ _ _ _ _ _ _ _ _ _ _ _ _ _ _ _ _ _ _ _ _ _ _ _ _ _ _ _ _ _ _ _ _ _ _ _ _ _ _ _ _ _ _ _ _ hF)
set_option maxRecDepth 100000 in
set_option maxHeartbeats 16000000 in
theorem c2_10000 (K : KnL Y 92 99 F Kn) (hH : ∀ l (v v' : World), v'.heap[Y.Mp]? = v.heap[Y.Mp]? → Held l v → Held l v') (hxc : ∀ sh, TSt (kx s .la) sh xc sh) (hq : xc ≠ .quit) (hmu : muteT xc = false) (hT : ∀ d l0, ∃ m, ∀ w, KnO Held Kn l0 w → GO Y Held k F l0 d xc m (G (b₁.at (a₁.put ((ops₁[i₁]?).bind (·.dst)) (.tuple #[])) (.inRegion ops₁ rest₁ :: k₁)) cs₁) w) (d : Nat) (ih : ∀ d', d' < d → ∀ (old : Mu) (aw sv : Bool) (it : Nat) (wst : Int), HdOk old aw sv it → HeadP Y Held F Kn s k lg b₁ a₁ ops₁ i₁ rest₁ k₁ cs₁ d' old aw sv it wst) (W : Nat) (hW : W ≤ 1000) (it : Nat) (hi : it ≤ 4) (wst : Int) : C2P Y Held F Kn s k lg b₁ a₁ ops₁ i₁ rest₁ k₁ cs₁ d ⟨true, false, false, W⟩ false false it wst := by
  refine fun j1 j7 j8 j9 j10 j11 j12 j13 j14 j15 j16 j17 j18 j19 j20 j21 j22 j23 j24 j25 j26 j27 j28 j29 j30 j31 j32 j33 j34 j35 j36 j37 j38 j39 j40 j41 j42 j43 j44 j45 j46 j47 j48 j49 j50 j51 j52 j53 j54 j55 j56 j57 j58 j59 j60 j61 j62 j63 j64 j65 j66 j67 j68 j69 j70 j71 j72 j73 j74 j75 j76 j77 j78 j79 j80 j81 j82 j83 j84 j85 j86 j87 j88 j89 j90 j91 j92 j93 j94 j95 j96 j97 j98 j99 j100 j101 j102 j103 j104 j105 j106 j107 j108 j109 j110 j111 j112 j113 j114 j115 j116 j117 j118 j119 j120 j121 j122 j123 j124 j125 j126 j127 j128 j129 j130 j131 j132 j133 j134 j135 j136 j137 j138 w hF => ?_
  have f1 : (bits .and .i32 (vv 1 W) 4 == 0) = true := by rw [show bits .and .i32 (vv 1 W) 4 = 0 from and_vv (c := 4) (v := 0) (by decide) (by omega) (by decide) (by decide)]; rfl
  have f2 : bits .or .i32 (vv 1 W) 1 = vv 1 W := or_vv (c := 1) (by decide) (by omega) (by decide) (by decide)
  have f3 : (bits .and .i32 (vv 1 W) 5 != 0) = true := by rw [show bits .and .i32 (vv 1 W) 5 = 1 from and_vv (c := 5) (v := 1) (by decide) (by omega) (by decide) (by decide)]; rfl
  have f4 : IntKind.i32.wrap (vv 1 W + 8) = vv 1 (W + 1) := vv_add 1 W (by decide) (by omega)
  have e0 : Mu.val ⟨true, false, false, W⟩ = vv 1 W := val_vv _ _ _ _
  have hM := fun d' (h : d' < d) => missGo (s := s) (k := k) (lg := lg) (b₁ := b₁) (a₁ := a₁) (ops₁ := ops₁) (i₁ := i₁) (rest₁ := rest₁) (k₁ := k₁) (cs₁ := cs₁) K d' (fun d'' h'' => ih d'' (by omega)) ⟨true, false, false, W⟩ false false it hi wst
  have hA := fun d' (h : d' < d) => okW (lg := lg) K hH hxc hq hmu hT d' (fun d'' h'' => ih d'' (by omega)) true false false (by simp) W hW false false it wst
  simp only [K22P, e0, REST, behindB, LB, loopOf, A3, A4, A5, A6, thnC, K22, X2, sndS, inB, body102, Try.f102, Option.getD_some] at hA
  simp only [K22P, e0, REST, behindB, LB, loopOf, A3, A4, A5, A6, thnC, K22, X2, sndS, inB, body102, Try.f102, Option.getD_some] at hM
  rw [e0]
  clear ih
  simp only [REST, behindB, LB, loopOf, A3, A4, A5, A6, thnC, K22, X2, sndS, inB, body102, Try.f102, Option.getD_some]
  repeat w_go K.rl
  -- STOP c2
  refine Goes.stop (fun w r => ?_)
  replace hF := K.rl hF r
  clear r
  rcases d with _ | d
  · trivial
  refine lkStop rfl rfl (by simp) (by simp) (by simp) (by simp) (by simp) fun sh hs hloc => ?_
  have enw : nw ⟨true, false, false, W⟩ false false = ⟨true, false, false, (W + 1)⟩ := by simp [nw]
  by_cases hm : sh.m = ⟨true, false, false, W⟩
  · have hc := hs.1.st
    rw [hm, e0] at hc
    have hs' : ShAt Y 92 99 (w.setCell ⟨Y.Lg, 0, none⟩ (.int .i32 (Mu.val ⟨true, false, false, (W + 1)⟩))) { sh with m := ⟨true, false, false, (W + 1)⟩ } := ⟨hs.1.setSt _, (wg_set _ _ rfl).trans hs.2⟩
    rw [show Mu.val ⟨true, false, false, (W + 1)⟩ = vv 1 (W + 1) from val_vv _ _ _ _] at hs'
    have st : St (.c2 ⟨true, false, false, W⟩ false false it) sh.m sh.s (if wst = 0 then .t1 false else .s1 false) ⟨true, false, false, (W + 1)⟩ sh.s := by
      rw [hm, ← enw]
      split
      · exact .c2t (by simp)
      · exact .c2s (by simp)
    refine ⟨_, _, _, _, _, _, st, stepG_cas_hit rfl rfl (by k_ne) rfl Try.func101 x101_n x101_b x101_x .i32 x101_f rfl rfl rfl hc (hs.1.thaw 0), hs'.1, hs'.2.trans hs.2.symm, eff_set _ _ (.inl rfl), by split <;> exact book_rw 0 _ (lb 0 (by simp)), 100 + 10, ?_⟩
    replace hF := K.eff hF (eff_set _ _ (.inl rfl)) hs'
    clear hs' hc hs hloc st hm
    walk_nrm
    u_c stepG_region_end K.rl hF
    exact goes_le (by omega) (hA d (by omega) _ _ _ _ _ _ _ _ _ _ _ _ _ _ _ _ _ _ _ _ _ _ _ _ _ _ _ _ _ _ _ _ _ _ _ _ _ _ _ _ _ _ _ _ _ _ _ _ _ _ _ _ _ _ _ _ _ _ _ _ _ _ _ _ _ _ _ _ _ _ _ _ _ _ _ _ _ _ _ _ _ _ _ _ _ _ _ _ _ _ _ _ _ _ _ _ _ _ _ _ _ _ _ _ _ _ _ _ _ _ _ _ _ _ _ _ _ _ _ _ _ _ _ _ _ _ _ _ _ _ _ _ _ hF)
  · refine ⟨_, sh.m, sh.s, _, _, _, .c2n hm, stepG_cas_miss rfl rfl (by k_ne) rfl Try.func101 x101_n x101_b x101_x .i32 x101_f rfl rfl rfl hs.1.st (hs.1.thaw 0) (fun e => hm (Mu.val_inj (e.trans e0.symm))), hs.1, rfl, eff_refl _, book_one 0 _ false (lb 0 (by simp)), 100 + 10, ?_⟩
    clear hs hloc hm
    walk_nrm
    u_c stepG_region_end K.rl hF
    exact goes_le (by omega) (hM d (by omega) _ _ _ _ _ _ _ _ _ _ _ _ _ _ _ _ _ _ _ _ _ _ _ _ _ _ _ _ _ _ _ _ _ _ _ _ _ _ _ _ _ _ _ _ _ _ _ _ _ _ _ _ _ _ _ _ _ _ _ _ _ _ _ _ _ _ _ _ _ _ _ _ _ _ _ _ _ _ _ _ _ _ _ _ _ _ _ _ _ _ _ _ _ _ _ _ _ _ _ _ _ _ _ _ _ _ _ _ _ _ _ _ _ _ _ _ _ _ _ _ _ _ _ _ _ _ _ _ _ _ _ _ _ hF)
end
end Go.Proofs.Ytpmmimcafkillaa.Tr

set_option linter.unusedVariables false
set_option linter.unusedSimpArgs false
namespace Go.Proofs.Ytpmmimcafkillaa.Tr
open Go Go.Conc Go.ConcN Go.RowKit Go.Conc.Lib Go.ConcR.Gen Go.ConcM
open Go.ConcR (KK wgBlock WgAt stA smA rd wr mk DC0)
open Go.Proofs.Ytpmmimcafkillaa.Mx
open Go.Proofs.Ytpmmimcafkillaa.Mx (Mu St)
section
variable {Y : Lay} {Held : List Nat → World → Prop} {F : Nat → Prop} {Kn : World → Prop} {s : Bool} {k : Nat} {lg : List Nat} {xc : Mx.Th}
variable {b₁ : Frame} {a₁ : Act} {ops₁ : Array Oper} {i₁ : Nat} {rest₁ : List Nat} {k₁ : List Item} {cs₁ : List Frame}
set_option maxRecDepth 100000 in
set_option maxHeartbeats 16000000 in
theorem c2_10100 (K : KnL Y 92 99 F Kn) (hH : ∀ l (v v' : World), v'.heap[Y.Mp]? = v.heap[Y.Mp]? → Held l v → Held l v') (hxc : ∀ sh, TSt (kx s .la) sh xc sh) (hq : xc ≠ .quit) (hmu : muteT xc = false) (hT : ∀ d l0, ∃ m, ∀ w, KnO Held Kn l0 w → GO Y Held k F l0 d xc m (G (b₁.at (a₁.put ((ops₁[i₁]?).bind (·.dst)) (.tuple #[])) (.inRegion ops₁ rest₁ :: k₁)) cs₁) w) (d : Nat) (ih : ∀ d', d' < d → ∀ (old : Mu) (aw sv : Bool) (it : Nat) (wst : Int), HdOk old aw sv it → HeadP Y Held F Kn s k lg b₁ a₁ ops₁ i₁ rest₁ k₁ cs₁ d' old aw sv it wst) (W : Nat) (hW : W ≤ 1000) (it : Nat) (hi : it ≤ 4) (wst : Int) : C2P Y Held F Kn s k lg b₁ a₁ ops₁ i₁ rest₁ k₁ cs₁ d ⟨true, false, true, W⟩ false false it wst := by
  refine fun j1 j7 j8 j9 j10 j11 j12 j13 j14 j15 j16 j17 j18 j19 j20 j21 j22 j23 j24 j25 j26 j27 j28 j29 j30 j31 j32 j33 j34 j35 j36 j37 j38 j39 j40 j41 j42 j43 j44 j45 j46 j47 j48 j49 j50 j51 j52 j53 j54 j55 j56 j57 j58 j59 j60 j61 j62 j63 j64 j65 j66 j67 j68 j69 j70 j71 j72 j73 j74 j75 j76 j77 j78 j79 j80 j81 j82 j83 j84 j85 j86 j87 j88 j89 j90 j91 j92 j93 j94 j95 j96 j97 j98 j99 j100 j101 j102 j103 j104 j105 j106 j107 j108 j109 j110 j111 j112 j113 j114 j115 j116 j117 j118 j119 j120 j121 j122 j123 j124 j125 j126 j127 j128 j129 j130 j131 j132 j133 j134 j135 j136 j137 j138 w hF => ?_
  have f1 : (bits .and .i32 (vv 5 W) 4 == 0) = false := by rw [show bits .and .i32 (vv 5 W) 4 = 4 from and_vv (c := 4) (v := 4) (by decide) (by omega) (by decide) (by decide)]; rfl
  have f3 : (bits .and .i32 (vv 5 W) 5 != 0) = true := by rw [show bits .and .i32 (vv 5 W) 5 = 5 from and_vv (c := 5) (v := 5) (by decide) (by omega) (by decide) (by decide)]; rfl
  have f4 : IntKind.i32.wrap (vv 5 W + 8) = vv 5 (W + 1) := vv_add 5 W (by decide) (by omega)
  have e0 : Mu.val ⟨true, false, true, W⟩ = vv 5 W := val_vv _ _ _ _
  have hM := fun d' (h : d' < d) => missGo (s := s) (k := k) (lg := lg) (b₁ := b₁) (a₁ := a₁) (ops₁ := ops₁) (i₁ := i₁) (rest₁ := rest₁) (k₁ := k₁) (cs₁ := cs₁) K d' (fun d'' h'' => ih d'' (by omega)) ⟨true, false, true, W⟩ false false it hi wst
  have hA := fun d' (h : d' < d) => okW (lg := lg) K hH hxc hq hmu hT d' (fun d'' h'' => ih d'' (by omega)) true false true (by simp) W hW false false it wst
  simp only [K22P, e0, REST, behindB, LB, loopOf, A3, A4, A5, A6, thnC, K22, X2, sndS, inB, body102, Try.f102, Option.getD_some] at hA
  simp only [K22P, e0, REST, behindB, LB, loopOf, A3, A4, A5, A6, thnC, K22, X2, sndS, inB, body102, Try.f102, Option.getD_some] at hM
  rw [e0]
  clear ih
  simp only [REST, behindB, LB, loopOf, A3, A4, A5, A6, thnC, K22, X2, sndS, inB, body102, Try.f102, Option.getD_some]
  repeat w_go K.rl
  -- STOP c2
  refine Goes.stop (fun w r => ?_)
  replace hF := K.rl hF r
  clear r
  rcases d with _ | d
  · trivial
  refine lkStop rfl rfl (by simp) (by simp) (by simp) (by simp) (by simp) fun sh hs hloc => ?_
  have enw : nw ⟨true, false, true, W⟩ false false = ⟨true, false, true, (W + 1)⟩ := by simp [nw]
  by_cases hm : sh.m = ⟨true, false, true, W⟩
  · have hc := hs.1.st
    rw [hm, e0] at hc
    have hs' : ShAt Y 92 99 (w.setCell ⟨Y.Lg, 0, none⟩ (.int .i32 (Mu.val ⟨true, false, true, (W + 1)⟩))) { sh with m := ⟨true, false, true, (W + 1)⟩ } := ⟨hs.1.setSt _, (wg_set _ _ rfl).trans hs.2⟩
    rw [show Mu.val ⟨true, false, true, (W + 1)⟩ = vv 5 (W + 1) from val_vv _ _ _ _] at hs'
    have st : St (.c2 ⟨true, false, true, W⟩ false false it) sh.m sh.s (if wst = 0 then .t1 false else .s1 false) ⟨true, false, true, (W + 1)⟩ sh.s := by
      rw [hm, ← enw]
      split
      · exact .c2t (by simp)
      · exact .c2s (by simp)
    refine ⟨_, _, _, _, _, _, st, stepG_cas_hit rfl rfl (by k_ne) rfl Try.func101 x101_n x101_b x101_x .i32 x101_f rfl rfl rfl hc (hs.1.thaw 0), hs'.1, hs'.2.trans hs.2.symm, eff_set _ _ (.inl rfl), by split <;> exact book_rw 0 _ (lb 0 (by simp)), 100 + 10, ?_⟩
    replace hF := K.eff hF (eff_set _ _ (.inl rfl)) hs'
    clear hs' hc hs hloc st hm
    walk_nrm
    u_c stepG_region_end K.rl hF
    exact goes_le (by omega) (hA d (by omega) _ _ _ _ _ _ _ _ _ _ _ _ _ _ _ _ _ _ _ _ _ _ _ _ _ _ _ _ _ _ _ _ _ _ _ _ _ _ _ _ _ _ _ _ _ _ _ _ _ _ _ _ _ _ _ _ _ _ _ _ _ _ _ _ _ _ _ _ _ _ _ _ _ _ _ _ _ _ _ _ _ _ _ _ _ _ _ _ _ _ _ _ _ _ _ _ _ _ _ _ _ _ _ _ _ _ _ _ _ _ _ _ _ _ _ _ _ _ _ _ _ _ _ _ _ _ _ _ _ _ _ _ _ hF)
  · refine ⟨_, sh.m, sh.s, _, _, _, .c2n hm, stepG_cas_miss rfl rfl (by k_ne) rfl Try.func101 x101_n x101_b x101_x .i32 x101_f rfl rfl rfl hs.1.st (hs.1.thaw 0) (fun e => hm (Mu.val_inj (e.trans e0.symm))), hs.1, rfl, eff_refl _, book_one 0 _ false (lb 0 (by simp)), 100 + 10, ?_⟩
    clear hs hloc hm
    walk_nrm
    u_c stepG_region_end K.rl hF
    exact goes_le (by omega) (hM d (by omega) _ _ _ _ _ _ _ _ _ _ _ _ _ _ _ _ _ _ _ _ _ _ _ _ _ _ _ _ _ _ _ _ _ _ _ _ _ _ _ _ _ _ _ _ _ _ _ _ _ _ _ _ _ _ _ _ _ _ _ _ _ _ _ _ _ _ _ _ _ _ _ _ _ _ _ _ _ _ _ _ _ _ _ _ _ _ _ _ _ _ _ _ _ _ _ _ _ _ _ _ _ _ _ _ _ _ _ _ _ _ _ _ _ _ _ _ _ _ _ _ _ _ _ _ _ _ _ _ _ _ _ _ _ hF)
set_option maxRecDepth 100000 in
set_option maxHeartbeats 16000000 in
theorem c2_11000 (K : KnL Y 92 99 F Kn) (hH : ∀ l (v v' : World), v'.heap[Y.Mp]? = v.heap[Y.Mp]? → Held l v → Held l v') (hxc : ∀ sh, TSt (kx s .la) sh xc sh) (hq : xc ≠ .quit) (hmu : muteT xc = false) (hT : ∀ d l0, ∃ m, ∀ w, KnO Held Kn l0 w → GO Y Held k F l0 d xc m (G (b₁.at (a₁.put ((ops₁[i₁]?).bind (·.dst)) (.tuple #[])) (.inRegion ops₁ rest₁ :: k₁)) cs₁) w) (d : Nat) (ih : ∀ d', d' < d → ∀ (old : Mu) (aw sv : Bool) (it : Nat) (wst : Int), HdOk old aw sv it → HeadP Y Held F Kn s k lg b₁ a₁ ops₁ i₁ rest₁ k₁ cs₁ d' old aw sv it wst) (W : Nat) (hW : W ≤ 1000) (it : Nat) (hi : it ≤ 4) (wst : Int) : C2P Y Held F Kn s k lg b₁ a₁ ops₁ i₁ rest₁ k₁ cs₁ d ⟨true, true, false, W⟩ false false it wst := by
  refine fun j1 j7 j8 j9 j10 j11 j12 j13 j14 j15 j16 j17 j18 j19 j20 j21 j22 j23 j24 j25 j26 j27 j28 j29 j30 j31 j32 j33 j34 j35 j36 j37 j38 j39 j40 j41 j42 j43 j44 j45 j46 j47 j48 j49 j50 j51 j52 j53 j54 j55 j56 j57 j58 j59 j60 j61 j62 j63 j64 j65 j66 j67 j68 j69 j70 j71 j72 j73 j74 j75 j76 j77 j78 j79 j80 j81 j82 j83 j84 j85 j86 j87 j88 j89 j90 j91 j92 j93 j94 j95 j96 j97 j98 j99 j100 j101 j102 j103 j104 j105 j106 j107 j108 j109 j110 j111 j112 j113 j114 j115 j116 j117 j118 j119 j120 j121 j122 j123 j124 j125 j126 j127 j128 j129 j130 j131 j132 j133 j134 j135 j136 j137 j138 w hF => ?_
  have f1 : (bits .and .i32 (vv 3 W) 4 == 0) = true := by rw [show bits .and .i32 (vv 3 W) 4 = 0 from and_vv (c := 4) (v := 0) (by decide) (by omega) (by decide) (by decide)]; rfl
  have f2 : bits .or .i32 (vv 3 W) 1 = vv 3 W := or_vv (c := 1) (by decide) (by omega) (by decide) (by decide)
  have f3 : (bits .and .i32 (vv 3 W) 5 != 0) = true := by rw [show bits .and .i32 (vv 3 W) 5 = 1 from and_vv (c := 5) (v := 1) (by decide) (by omega) (by decide) (by decide)]; rfl
  have f4 : IntKind.i32.wrap (vv 3 W + 8) = vv 3 (W + 1) := vv_add 3 W (by decide) (by omega)
  have e0 : Mu.val ⟨true, true, false, W⟩ = vv 3 W := val_vv _ _ _ _
  have hM := fun d' (h : d' < d) => missGo (s := s) (k := k) (lg := lg) (b₁ := b₁) (a₁ := a₁) (ops₁ := ops₁) (i₁ := i₁) (rest₁ := rest₁) (k₁ := k₁) (cs₁ := cs₁) K d' (fun d'' h'' => ih d'' (by omega)) ⟨true, true, false, W⟩ false false it hi wst
  have hA := fun d' (h : d' < d) => okW (lg := lg) K hH hxc hq hmu hT d' (fun d'' h'' => ih d'' (by omega)) true true false (by simp) W hW false false it wst
  simp only [K22P, e0, REST, behindB, LB, loopOf, A3, A4, A5, A6, thnC, K22, X2, sndS, inB, body102, Try.f102, Option.getD_some] at hA
  simp only [K22P, e0, REST, behindB, LB, loopOf, A3, A4, A5, A6, thnC, K22, X2, sndS, inB, body102, Try.f102, Option.getD_some] at hM
  rw [e0]
  clear ih
  simp only [REST, behindB, LB, loopOf, A3, A4, A5, A6, thnC, K22, X2, sndS, inB, body102, Try.f102, Option.getD_some]
  repeat w_go K.rl
  -- STOP c2
  refine Goes.stop (fun w r => ?_)
  replace hF := K.rl hF r
  clear r
  rcases d with _ | d
  · trivial
  refine lkStop rfl rfl (by simp) (by simp) (by simp) (by simp) (by simp) fun sh hs hloc => ?_
  have enw : nw ⟨true, true, false, W⟩ false false = ⟨true, true, false, (W + 1)⟩ := by simp [nw]
  by_cases hm : sh.m = ⟨true, true, false, W⟩
  · have hc := hs.1.st
    rw [hm, e0] at hc
    have hs' : ShAt Y 92 99 (w.setCell ⟨Y.Lg, 0, none⟩ (.int .i32 (Mu.val ⟨true, true, false, (W + 1)⟩))) { sh with m := ⟨true, true, false, (W + 1)⟩ } := ⟨hs.1.setSt _, (wg_set _ _ rfl).trans hs.2⟩
    rw [show Mu.val ⟨true, true, false, (W + 1)⟩ = vv 3 (W + 1) from val_vv _ _ _ _] at hs'
    have st : St (.c2 ⟨true, true, false, W⟩ false false it) sh.m sh.s (if wst = 0 then .t1 false else .s1 false) ⟨true, true, false, (W + 1)⟩ sh.s := by
      rw [hm, ← enw]
      split
      · exact .c2t (by simp)
      · exact .c2s (by simp)
    refine ⟨_, _, _, _, _, _, st, stepG_cas_hit rfl rfl (by k_ne) rfl Try.func101 x101_n x101_b x101_x .i32 x101_f rfl rfl rfl hc (hs.1.thaw 0), hs'.1, hs'.2.trans hs.2.symm, eff_set _ _ (.inl rfl), by split <;> exact book_rw 0 _ (lb 0 (by simp)), 100 + 10, ?_⟩
    replace hF := K.eff hF (eff_set _ _ (.inl rfl)) hs'
    clear hs' hc hs hloc st hm
    walk_nrm
    u_c stepG_region_end K.rl hF
    exact goes_le (by omega) (hA d (by omega) _ _ _ _ _ _ _ _ _ _ _ _ _ _ _ _ _ _ _ _ _ _ _ _ _ _ _ _ _ _ _ _ _ _ _ _ _ _ _ _ _ _ _ _ _ _ _ _ _ _ _ _ _ _ _ _ _ _ _ _ _ _ _ _ _ _ _ _ _ _ _ _ _ _ _ _ _ _ _ _ _ _ _ _ _ _ _ _ _ _ _ _ _ _ _ _ _ _ _ _ _ _ _ _ _ _ _ _ _ _ _ _ _ _ _ _ _ _ _ _ _ _ _ _ _ _ _ _ _ _ _ _ _ hF)
  · refine ⟨_, sh.m, sh.s, _, _, _, .c2n hm, stepG_cas_miss rfl rfl (by k_ne) rfl Try.func101 x101_n x101_b x101_x .i32 x101_f rfl rfl rfl hs.1.st (hs.1.thaw 0) (fun e => hm (Mu.val_inj (e.trans e0.symm))), hs.1, rfl, eff_refl _, book_one 0 _ false (lb 0 (by simp)), 100 + 10, ?_⟩
    clear hs hloc hm
    walk_nrm
    u_c stepG_region_end K.rl hF
    exact goes_le (by omega) (hM d (by omega) _ _ _ _ _ _ _ _ _ _ _ _ _ _ _ _ _ _ _ _ _ _ _ _ _ _ _ _ _ _ _ _ _ _ _ _ _ _ _ _ _ _ _ _ _ _ _ _ _ _ _ _ _ _ _ _ _ _ _ _ _ _ _ _ _ _ _ _ _ _ _ _ _ _ _ _ _ _ _ _ _ _ _ _ _ _ _ _ _ _ _ _ _ _ _ _ _ _ _ _ _ _ _ _ _ _ _ _ _ _ _ _ _ _ _ _ _ _ _ _ _ _ _ _ _ _ _ _ _ _ _ _ _ hF)
end
end Go.Proofs.Ytpmmimcafkillaa.Tr
