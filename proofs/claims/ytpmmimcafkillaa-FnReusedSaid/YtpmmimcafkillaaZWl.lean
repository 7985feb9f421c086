/-
  lockSlow: what it would put in the place of the word, and its compare-and-swap (4).
  lockSlow, whole.
  Lock, with lockSlow: whole.
-/
import Derived.Test.YtpmmimcafkillaaZWj1
import Derived.Test.YtpmmimcafkillaaZWj3
set_option linter.unusedVariables false
set_option linter.unusedSimpArgs false
namespace Go.Proofs.Ytpmmimcafkillaa.Tr
open Go Go.Conc Go.ConcN Go.RowKit Go.Conc.Lib Go.ConcR.Gen Go.ConcM
open Go.ConcR (KK wgBlock WgAt stA smA rd wr mk DC0)
open Go.Proofs.Ytpmmimcafkillaa.Mx
open Go.Proofs.Ytpmmimcafkillaa.Mx (Mu St)
section
variable {Y : Lay} {Held : List Nat → World → Prop} {F : Nat → Prop} {Kn : World → Prop} {s : Bool} {k : Nat} {lg : List Nat} {xc : Mx.Th}
variable {b₁ : Frame} {a₁ : Act} {ops₁ : Array Oper} {i₁ : Nat} {rest₁ : List Nat} {k₁ : List Item} {cs₁ : List Frame}
set_option maxRecDepth 100000 in
set_option maxHeartbeats 16000000 in
theorem c2_11010 (K : KnL Y 92 99 F Kn) (hH : ∀ l (v v' : World), v'.heap[Y.Mp]? = v.heap[Y.Mp]? → Held l v → Held l v') (hxc : ∀ sh, TSt (kx s .la) sh xc sh) (hq : xc ≠ .quit) (hmu : muteT xc = false) (hT : ∀ d l0, ∃ m, ∀ w, KnO Held Kn l0 w → GO Y Held k F l0 d xc m (G (b₁.at (a₁.put ((ops₁[i₁]?).bind (·.dst)) (.tuple #[])) (.inRegion ops₁ rest₁ :: k₁)) cs₁) w) (d : Nat) (ih : ∀ d', d' < d → ∀ (old : Mu) (aw sv : Bool) (it : Nat) (wst : Int), HdOk old aw sv it → HeadP Y Held F Kn s k lg b₁ a₁ ops₁ i₁ rest₁ k₁ cs₁ d' old aw sv it wst) (W : Nat) (hW : W ≤ 1000) (it : Nat) (hi : it ≤ 4) (wst : Int) : C2P Y Held F Kn s k lg b₁ a₁ ops₁ i₁ rest₁ k₁ cs₁ d ⟨true, true, false, W⟩ true false it wst := by
  refine fun j1 j7 j8 j9 j10 j11 j12 j13 j14 j15 j16 j17 j18 j19 j20 j21 j22 j23 j24 j25 j26 j27 j28 j29 j30 j31 j32 j33 j34 j35 j36 j37 j38 j39 j40 j41 j42 j43 j44 j45 j46 j47 j48 j49 j50 j51 j52 j53 j54 j55 j56 j57 j58 j59 j60 j61 j62 j63 j64 j65 j66 j67 j68 j69 j70 j71 j72 j73 j74 j75 j76 j77 j78 j79 j80 j81 j82 j83 j84 j85 j86 j87 j88 j89 j90 j91 j92 j93 j94 j95 j96 j97 j98 j99 j100 j101 j102 j103 j104 j105 j106 j107 j108 j109 j110 j111 j112 j113 j114 j115 j116 j117 j118 j119 j120 j121 j122 j123 j124 j125 j126 j127 j128 j129 j130 j131 j132 j133 j134 j135 j136 j137 j138 w hF => ?_
  have f1 : (bits .and .i32 (vv 3 W) 4 == 0) = true := by rw [show bits .and .i32 (vv 3 W) 4 = 0 from and_vv (c := 4) (v := 0) (by decide) (by omega) (by decide) (by decide)]; rfl
  have f2 : bits .or .i32 (vv 3 W) 1 = vv 3 W := or_vv (c := 1) (by decide) (by omega) (by decide) (by decide)
  have f3 : (bits .and .i32 (vv 3 W) 5 != 0) = true := by rw [show bits .and .i32 (vv 3 W) 5 = 1 from and_vv (c := 5) (v := 1) (by decide) (by omega) (by decide) (by decide)]; rfl
  have f4 : IntKind.i32.wrap (vv 3 W + 8) = vv 3 (W + 1) := vv_add 3 W (by decide) (by omega)
  have f7 : (bits .and .i32 (vv 3 (W + 1)) 2 == 0) = false := by rw [show bits .and .i32 (vv 3 (W + 1)) 2 = 2 from and_vv (c := 2) (v := 2) (by decide) (by omega) (by decide) (by decide)]; rfl
  have f8 : bits .andNot .i32 (vv 3 (W + 1)) 2 = vv 1 (W + 1) := andn_vv (by decide) (by omega) (by decide)
  have e0 : Mu.val ⟨true, true, false, W⟩ = vv 3 W := val_vv _ _ _ _
  have hM := fun d' (h : d' < d) => missGo (s := s) (k := k) (lg := lg) (b₁ := b₁) (a₁ := a₁) (ops₁ := ops₁) (i₁ := i₁) (rest₁ := rest₁) (k₁ := k₁) (cs₁ := cs₁) K d' (fun d'' h'' => ih d'' (by omega)) ⟨true, true, false, W⟩ true false it hi wst
  have hA := fun d' (h : d' < d) => okW (lg := lg) K hH hxc hq hmu hT d' (fun d'' h'' => ih d'' (by omega)) true true false (by simp) W hW true false it wst
  simp only [K22P, e0, REST, behindB, LB, loopOf, A3, A4, A5, A6, thnC, K22, X2, sndS, inB, body102, Try.f102, Option.getD_some] at hA
  simp only [K22P, e0, REST, behindB, LB, loopOf, A3, A4, A5, A6, thnC, K22, X2, sndS, inB, body102, Try.f102, Option.getD_some] at hM
  rw [e0]
  clear ih
  simp only [REST, behindB, LB, loopOf, A3, A4, A5, A6, thnC, K22, X2, sndS, inB, body102, Try.f102, Option.getD_some]
  repeat w_go K.rl
  -- STOP c2
  refine Goes.stop (fun w r => ?_)
  replace hF := K.rl hF r
  clear r
  rcases d with _ | d
  · trivial
  refine lkStop rfl rfl (by simp) (by simp) (by simp) (by simp) (by simp) fun sh hs hloc => ?_
  have enw : nw ⟨true, true, false, W⟩ true false = ⟨true, false, false, (W + 1)⟩ := by simp [nw]
  by_cases hm : sh.m = ⟨true, true, false, W⟩
  · have hc := hs.1.st
    rw [hm, e0] at hc
    have hs' : ShAt Y 92 99 (w.setCell ⟨Y.Lg, 0, none⟩ (.int .i32 (Mu.val ⟨true, false, false, (W + 1)⟩))) { sh with m := ⟨true, false, false, (W + 1)⟩ } := ⟨hs.1.setSt _, (wg_set _ _ rfl).trans hs.2⟩
    rw [show Mu.val ⟨true, false, false, (W + 1)⟩ = vv 1 (W + 1) from val_vv _ _ _ _] at hs'
    have st : St (.c2 ⟨true, true, false, W⟩ true false it) sh.m sh.s (if wst = 0 then .t1 false else .s1 false) ⟨true, false, false, (W + 1)⟩ sh.s := by
      rw [hm, ← enw]
      split
      · exact .c2t (by simp)
      · exact .c2s (by simp)
    refine ⟨_, _, _, _, _, _, st, stepG_cas_hit rfl rfl (by k_ne) rfl Try.func101 x101_n x101_b x101_x .i32 x101_f rfl rfl rfl hc (hs.1.thaw 0), hs'.1, hs'.2.trans hs.2.symm, eff_set _ _ (.inl rfl), by split <;> exact book_rw 0 _ (lb 0 (by simp)), 100 + 10, ?_⟩
    replace hF := K.eff hF (eff_set _ _ (.inl rfl)) hs'
    clear hs' hc hs hloc st hm
    walk_nrm
    u_c stepG_region_end K.rl hF
    exact goes_le (by omega) (hA d (by omega) _ _ _ _ _ _ _ _ _ _ _ _ _ _ _ _ _ _ _ _ _ _ _ _ _ _ _ _ _ _ _ _ _ _ _ _ _ _ _ _ _ _ _ _ _ _ _ _ _ _ _ _ _ _ _ _ _ _ _ _ _ _ _ _ _ _ _ _ _ _ _ _ _ _ _ _ _ _ _ _ _ _ _ _ _ _ _ _ _ _ _ _ _ _ _ _ _ _ _ _ _ _ _ _ _ _ _ _ _ _ _ _ _ _ _ _ _ _ _ _ _ _ _ _ _ _ _ _ _ _ _ _ _ hF)
  · refine ⟨_, sh.m, sh.s, _, _, _, .c2n hm, stepG_cas_miss rfl rfl (by k_ne) rfl Try.func101 x101_n x101_b x101_x .i32 x101_f rfl rfl rfl hs.1.st (hs.1.thaw 0) (fun e => hm (Mu.val_inj (e.trans e0.symm))), hs.1, rfl, eff_refl _, book_one 0 _ false (lb 0 (by simp)), 100 + 10, ?_⟩
    clear hs hloc hm
    walk_nrm
    u_c stepG_region_end K.rl hF
    exact goes_le (by omega) (hM d (by omega) _ _ _ _ _ _ _ _ _ _ _ _ _ _ _ _ _ _ _ _ _ _ _ _ _ _ _ _ _ _ _ _ _ _ _ _ _ _ _ _ _ _ _ _ _ _ _ _ _ _ _ _ _ _ _ _ _ _ _ _ _ _ _ _ _ _ _ _ _ _ _ _ _ _ _ _ _ _ _ _ _ _ _ _ _ _ _ _ _ _ _ _ _ _ _ _ _ _ _ _ _ _ _ _ _ _ _ _ _ _ _ _ _ _ _ _ _ _ _ _ _ _ _ _ _ _ _ _ _ _ _ _ _ hF)
set_option maxRecDepth 100000 in
set_option maxHeartbeats 16000000 in
theorem c2_11011 (K : KnL Y 92 99 F Kn) (hH : ∀ l (v v' : World), v'.heap[Y.Mp]? = v.heap[Y.Mp]? → Held l v → Held l v') (hxc : ∀ sh, TSt (kx s .la) sh xc sh) (hq : xc ≠ .quit) (hmu : muteT xc = false) (hT : ∀ d l0, ∃ m, ∀ w, KnO Held Kn l0 w → GO Y Held k F l0 d xc m (G (b₁.at (a₁.put ((ops₁[i₁]?).bind (·.dst)) (.tuple #[])) (.inRegion ops₁ rest₁ :: k₁)) cs₁) w) (d : Nat) (ih : ∀ d', d' < d → ∀ (old : Mu) (aw sv : Bool) (it : Nat) (wst : Int), HdOk old aw sv it → HeadP Y Held F Kn s k lg b₁ a₁ ops₁ i₁ rest₁ k₁ cs₁ d' old aw sv it wst) (W : Nat) (hW : W ≤ 1000) (it : Nat) (hi : it ≤ 4) (wst : Int) : C2P Y Held F Kn s k lg b₁ a₁ ops₁ i₁ rest₁ k₁ cs₁ d ⟨true, true, false, W⟩ true true it wst := by
  refine fun j1 j7 j8 j9 j10 j11 j12 j13 j14 j15 j16 j17 j18 j19 j20 j21 j22 j23 j24 j25 j26 j27 j28 j29 j30 j31 j32 j33 j34 j35 j36 j37 j38 j39 j40 j41 j42 j43 j44 j45 j46 j47 j48 j49 j50 j51 j52 j53 j54 j55 j56 j57 j58 j59 j60 j61 j62 j63 j64 j65 j66 j67 j68 j69 j70 j71 j72 j73 j74 j75 j76 j77 j78 j79 j80 j81 j82 j83 j84 j85 j86 j87 j88 j89 j90 j91 j92 j93 j94 j95 j96 j97 j98 j99 j100 j101 j102 j103 j104 j105 j106 j107 j108 j109 j110 j111 j112 j113 j114 j115 j116 j117 j118 j119 j120 j121 j122 j123 j124 j125 j126 j127 j128 j129 j130 j131 j132 j133 j134 j135 j136 j137 j138 w hF => ?_
  have f1 : (bits .and .i32 (vv 3 W) 4 == 0) = true := by rw [show bits .and .i32 (vv 3 W) 4 = 0 from and_vv (c := 4) (v := 0) (by decide) (by omega) (by decide) (by decide)]; rfl
  have f2 : bits .or .i32 (vv 3 W) 1 = vv 3 W := or_vv (c := 1) (by decide) (by omega) (by decide) (by decide)
  have f3 : (bits .and .i32 (vv 3 W) 5 != 0) = true := by rw [show bits .and .i32 (vv 3 W) 5 = 1 from and_vv (c := 5) (v := 1) (by decide) (by omega) (by decide) (by decide)]; rfl
  have f4 : IntKind.i32.wrap (vv 3 W + 8) = vv 3 (W + 1) := vv_add 3 W (by decide) (by omega)
  have f5 : (bits .and .i32 (vv 3 W) 1 != 0) = true := by rw [show bits .and .i32 (vv 3 W) 1 = 1 from and_vv (c := 1) (v := 1) (by decide) (by omega) (by decide) (by decide)]; rfl
  have f6 : bits .or .i32 (vv 3 (W + 1)) 4 = vv 7 (W + 1) := or_vv (c := 4) (by decide) (by omega) (by decide) (by decide)
  have f7 : (bits .and .i32 (vv 7 (W + 1)) 2 == 0) = false := by rw [show bits .and .i32 (vv 7 (W + 1)) 2 = 2 from and_vv (c := 2) (v := 2) (by decide) (by omega) (by decide) (by decide)]; rfl
  have f8 : bits .andNot .i32 (vv 7 (W + 1)) 2 = vv 5 (W + 1) := andn_vv (by decide) (by omega) (by decide)
  have e0 : Mu.val ⟨true, true, false, W⟩ = vv 3 W := val_vv _ _ _ _
  have hM := fun d' (h : d' < d) => missGo (s := s) (k := k) (lg := lg) (b₁ := b₁) (a₁ := a₁) (ops₁ := ops₁) (i₁ := i₁) (rest₁ := rest₁) (k₁ := k₁) (cs₁ := cs₁) K d' (fun d'' h'' => ih d'' (by omega)) ⟨true, true, false, W⟩ true true it hi wst
  have hA := fun d' (h : d' < d) => okW (lg := lg) K hH hxc hq hmu hT d' (fun d'' h'' => ih d'' (by omega)) true true false (by simp) W hW true true it wst
  simp only [K22P, e0, REST, behindB, LB, loopOf, A3, A4, A5, A6, thnC, K22, X2, sndS, inB, body102, Try.f102, Option.getD_some] at hA
  simp only [K22P, e0, REST, behindB, LB, loopOf, A3, A4, A5, A6, thnC, K22, X2, sndS, inB, body102, Try.f102, Option.getD_some] at hM
  rw [e0]
  clear ih
  simp only [REST, behindB, LB, loopOf, A3, A4, A5, A6, thnC, K22, X2, sndS, inB, body102, Try.f102, Option.getD_some]
  repeat w_go K.rl
  -- STOP c2
  refine Goes.stop (fun w r => ?_)
  replace hF := K.rl hF r
  clear r
  rcases d with _ | d
  · trivial
  refine lkStop rfl rfl (by simp) (by simp) (by simp) (by simp) (by simp) fun sh hs hloc => ?_
  have enw : nw ⟨true, true, false, W⟩ true true = ⟨true, false, true, (W + 1)⟩ := by simp [nw]
  by_cases hm : sh.m = ⟨true, true, false, W⟩
  · have hc := hs.1.st
    rw [hm, e0] at hc
    have hs' : ShAt Y 92 99 (w.setCell ⟨Y.Lg, 0, none⟩ (.int .i32 (Mu.val ⟨true, false, true, (W + 1)⟩))) { sh with m := ⟨true, false, true, (W + 1)⟩ } := ⟨hs.1.setSt _, (wg_set _ _ rfl).trans hs.2⟩
    rw [show Mu.val ⟨true, false, true, (W + 1)⟩ = vv 5 (W + 1) from val_vv _ _ _ _] at hs'
    have st : St (.c2 ⟨true, true, false, W⟩ true true it) sh.m sh.s (if wst = 0 then .t1 true else .s1 true) ⟨true, false, true, (W + 1)⟩ sh.s := by
      rw [hm, ← enw]
      split
      · exact .c2t (by simp)
      · exact .c2s (by simp)
    refine ⟨_, _, _, _, _, _, st, stepG_cas_hit rfl rfl (by k_ne) rfl Try.func101 x101_n x101_b x101_x .i32 x101_f rfl rfl rfl hc (hs.1.thaw 0), hs'.1, hs'.2.trans hs.2.symm, eff_set _ _ (.inl rfl), by split <;> exact book_rw 0 _ (lb 0 (by simp)), 100 + 10, ?_⟩
    replace hF := K.eff hF (eff_set _ _ (.inl rfl)) hs'
    clear hs' hc hs hloc st hm
    walk_nrm
    u_c stepG_region_end K.rl hF
    exact goes_le (by omega) (hA d (by omega) _ _ _ _ _ _ _ _ _ _ _ _ _ _ _ _ _ _ _ _ _ _ _ _ _ _ _ _ _ _ _ _ _ _ _ _ _ _ _ _ _ _ _ _ _ _ _ _ _ _ _ _ _ _ _ _ _ _ _ _ _ _ _ _ _ _ _ _ _ _ _ _ _ _ _ _ _ _ _ _ _ _ _ _ _ _ _ _ _ _ _ _ _ _ _ _ _ _ _ _ _ _ _ _ _ _ _ _ _ _ _ _ _ _ _ _ _ _ _ _ _ _ _ _ _ _ _ _ _ _ _ _ _ hF)
  · refine ⟨_, sh.m, sh.s, _, _, _, .c2n hm, stepG_cas_miss rfl rfl (by k_ne) rfl Try.func101 x101_n x101_b x101_x .i32 x101_f rfl rfl rfl hs.1.st (hs.1.thaw 0) (fun e => hm (Mu.val_inj (e.trans e0.symm))), hs.1, rfl, eff_refl _, book_one 0 _ false (lb 0 (by simp)), 100 + 10, ?_⟩
    clear hs hloc hm
    walk_nrm
    u_c stepG_region_end K.rl hF
    exact goes_le (by omega) (hM d (by omega) _ _ _ _ _ _ _ _ _ _ _ _ _ _ _ _ _ _ _ _ _ _ _ _ _ _ _ _ _ _ _ _ _ _ _ _ _ _ _ _ _ _ _ _ _ _ _ _ _ _ _ _ _ _ _ _ _ _ _ _ _ _ _ _ _ _ _ _ _ _ _ _ _ _ _ _ _ _ _ _ _ _ _ _ _ _ _ _ _ _ _ _ _ _ _ _ _ _ _ _ _ _ _ _ _ _ _ _ _ _ _ _ _ _ _ _ _ _ _ _ _ _ _ _ _ _ _ _ _ _ _ _ _ hF)
end
end Go.Proofs.Ytpmmimcafkillaa.Tr

set_option linter.unusedVariables false
set_option linter.unusedSimpArgs false
namespace Go.Proofs.Ytpmmimcafkillaa.Tr
open Go Go.Conc Go.ConcN Go.RowKit Go.Conc.Lib Go.ConcR.Gen Go.ConcM
open Go.ConcR (KK wgBlock WgAt stA smA rd wr mk DC0)
open Go.Proofs.Ytpmmimcafkillaa.Mx
open Go.Proofs.Ytpmmimcafkillaa.Mx (Mu St)
def fstS : Code → Code
  | .seq x _ => x
  | c => c
noncomputable def X8 : Code := sndS (thnC (sndS (fstS (inB LB))))
def SpinP (Y : Lay) (Held : List Nat → World → Prop) (F : Nat → Prop) (Kn : World → Prop) (s : Bool) (k : Nat) (lg : List Nat) (b₁ : Frame) (a₁ : Act) (ops₁ : Array Oper) (i₁ : Nat) (rest₁ : List Nat) (k₁ : List Item) (cs₁ : List Frame) (d : Nat) (old : Mu) (aw sv : Bool) (it : Nat) (wst : Int) : Prop :=
  ∀ (j1 j7 j8 j9 j10 j11 j12 j13 j14 j15 j16 j17 j18 j19 j20 j21 j22 j23 j24 j25 j26 j27 j28 j29 j30 j31 j32 j33 j34 j35 j36 j37 j38 j39 j40 j41 j42 j43 j44 j45 j46 j47 j48 j49 j50 j51 j52 j53 j54 j55 j56 j57 j58 j59 j60 j61 j62 j63 j64 j65 j66 j67 j68 j69 j70 j71 j72 j73 j74 j75 j76 j77 j78 j79 j80 j81 j82 j83 j84 j85 j86 j87 j88 j89 j90 j91 j92 j93 j94 j95 j96 j97 j98 j99 j100 j101 j102 j103 j104 j105 j106 j107 j108 j109 j110 j111 j112 j113 j114 j115 j116 j117 j118 j119 j120 j121 j122 j123 j124 j125 j126 j127 j128 j129 j130 j131 j132 j133 j134 j135 j136 j137 j138 : Value) w, Kn w → GL Y Held s k F lg d (.r1 aw sv it) 60 (G ((base 102).at ⟨#[.pointer (some ⟨Y.Lg, 0, none⟩), j1, .int .i64 wst, .bool sv, .bool aw, .int .i64 (it : Int), .int .i32 old.val, j7, j8, j9, j10, j11, j12, j13, j14, j15, j16, j17, j18, j19, j20, j21, j22, j23, j24, j25, j26, j27, j28, j29, j30, j31, j32, j33, j34, j35, j36, j37, j38, j39, j40, j41, j42, j43, j44, j45, j46, j47, j48, j49, j50, j51, j52, j53, j54, j55, j56, j57, j58, j59, j60, j61, j62, j63, j64, j65, j66, j67, j68, j69, j70, j71, j72, j73, j74, j75, j76, j77, j78, j79, j80, j81, j82, j83, j84, j85, j86, j87, j88, j89, j90, j91, j92, j93, j94, j95, j96, j97, j98, j99, j100, j101, j102, j103, j104, j105, j106, j107, j108, j109, j110, j111, j112, j113, j114, j115, j116, j117, j118, j119, j120, j121, j122, j123, j124, j125, j126, j127, j128, j129, j130, j131, j132, j133, j134, j135, j136, j137, j138], []⟩ [.code X8, .code X2, .inBlock 1, .inLoop LB, .inBlock 0, .code REST]) (b₁.at a₁ (.inRegion ops₁ (i₁ :: rest₁) :: k₁) :: cs₁)) w
section
variable {Y : Lay} {Held : List Nat → World → Prop} {F : Nat → Prop} {Kn : World → Prop} {s : Bool} {k : Nat} {lg : List Nat} {xc : Mx.Th}
variable {b₁ : Frame} {a₁ : Act} {ops₁ : Array Oper} {i₁ : Nat} {rest₁ : List Nat} {k₁ : List Item} {cs₁ : List Frame}
theorem c2Any (K : KnL Y 92 99 F Kn) (hH : ∀ l (v v' : World), v'.heap[Y.Mp]? = v.heap[Y.Mp]? → Held l v → Held l v') (hxc : ∀ sh, TSt (kx s .la) sh xc sh) (hq : xc ≠ .quit) (hmu : muteT xc = false) (hT : ∀ d l0, ∃ m, ∀ w, KnO Held Kn l0 w → GO Y Held k F l0 d xc m (G (b₁.at (a₁.put ((ops₁[i₁]?).bind (·.dst)) (.tuple #[])) (.inRegion ops₁ rest₁ :: k₁)) cs₁) w) (d : Nat) (ih : ∀ d', d' < d → ∀ (old : Mu) (aw sv : Bool) (it : Nat) (wst : Int), HdOk old aw sv it → HeadP Y Held F Kn s k lg b₁ a₁ ops₁ i₁ rest₁ k₁ cs₁ d' old aw sv it wst) (old : Mu) (aw sv : Bool) (h1 : aw = true → old.K = true) (h2 : sv = true → aw = true) (h3 : old.K = true → old.S = false) (hW : old.W ≤ 1000) (it : Nat) (hi : it ≤ 4) (wst : Int) : C2P Y Held F Kn s k lg b₁ a₁ ops₁ i₁ rest₁ k₁ cs₁ d old aw sv it wst := by
  obtain ⟨l, kk, ss, W⟩ := old
  simp only at h1 h3 hW
  cases l <;> cases kk <;> cases ss <;> cases aw <;> cases sv <;> first | (exfalso; revert h1 h2 h3; decide) | exact c2_00000 K hH hxc hq hmu hT d ih W hW it hi wst | exact c2_00100 K hH hxc hq hmu hT d ih W hW it hi wst | exact c2_01000 K hH hxc hq hmu hT d ih W hW it hi wst | exact c2_01010 K hH hxc hq hmu hT d ih W hW it hi wst | exact c2_01011 K hH hxc hq hmu hT d ih W hW it hi wst | exact c2_10000 K hH hxc hq hmu hT d ih W hW it hi wst | exact c2_10100 K hH hxc hq hmu hT d ih W hW it hi wst | exact c2_11000 K hH hxc hq hmu hT d ih W hW it hi wst | exact c2_11010 K hH hxc hq hmu hT d ih W hW it hi wst | exact c2_11011 K hH hxc hq hmu hT d ih W hW it hi wst
set_option maxRecDepth 100000 in
set_option maxHeartbeats 16000000 in
theorem spinGo (K : KnL Y 92 99 F Kn) (d : Nat) (ih : ∀ d', d' < d → ∀ (old : Mu) (aw sv : Bool) (it : Nat) (wst : Int), HdOk old aw sv it → HeadP Y Held F Kn s k lg b₁ a₁ ops₁ i₁ rest₁ k₁ cs₁ d' old aw sv it wst) (old : Mu) (aw sv : Bool) (it : Nat) (hi : it < 4) (wst : Int) : SpinP Y Held F Kn s k lg b₁ a₁ ops₁ i₁ rest₁ k₁ cs₁ d old aw sv it wst := by
  refine fun j1 j7 j8 j9 j10 j11 j12 j13 j14 j15 j16 j17 j18 j19 j20 j21 j22 j23 j24 j25 j26 j27 j28 j29 j30 j31 j32 j33 j34 j35 j36 j37 j38 j39 j40 j41 j42 j43 j44 j45 j46 j47 j48 j49 j50 j51 j52 j53 j54 j55 j56 j57 j58 j59 j60 j61 j62 j63 j64 j65 j66 j67 j68 j69 j70 j71 j72 j73 j74 j75 j76 j77 j78 j79 j80 j81 j82 j83 j84 j85 j86 j87 j88 j89 j90 j91 j92 j93 j94 j95 j96 j97 j98 j99 j100 j101 j102 j103 j104 j105 j106 j107 j108 j109 j110 j111 j112 j113 j114 j115 j116 j117 j118 j119 j120 j121 j122 j123 j124 j125 j126 j127 j128 j129 j130 j131 j132 j133 j134 j135 j136 j137 j138 w hF => ?_
  have hwr : IntKind.i64.wrap ((it : Int) + 1) = ((it + 1 : Nat) : Int) := by rw [IntKind.wrap_i64]; omega
  simp only [REST, behindB, LB, loopOf, A3, A4, A5, A6, thnC, K22, X8, fstS, X2, sndS, inB, body102, Try.f102, Option.getD_some]
  repeat w_go K.rl
  -- 'runtime_doSpin()'
  u_in K.rl hF
  rw [stepG_entry_pure (.tuple #[]) rfl rfl (by k_ne) rfl Try.func106 x106_n x106_b x106_x x106_f]
  simp only [goes_go]
  refine ⟨by u_nil, ?_⟩
  walk_nrm
  repeat w_go K.rl
  -- STOP r1
  refine Goes.stop (fun w r => ?_)
  replace hF := K.rl hF r
  clear r
  rcases d with _ | d
  · trivial
  refine lkStop rfl rfl (by simp) (by simp) (by simp) (by simp) (by simp) fun sh hs hloc => ?_
  have hok : HdOk sh.m aw sv (it + 1) := hd_ok hloc (by rw [lkOf_kx]; exact .r1) (by omega)
  have hHd := ih d (by omega) sh.m aw sv (it + 1) wst hok
  simp only [HeadP, REST, behindB, LB, loopOf, A3, A4, A5, A6, thnC, K22, X8, fstS, X2, sndS, inB, body102, Try.f102, Option.getD_some] at hHd
  refine ⟨_, sh.m, sh.s, _, _, _, .r1, stepG_loadQ rfl rfl (by k_ne) rfl rfl hs.1.st q102, hs.1, rfl, eff_refl _, by rw [hd_deaf]; exact book_nil 1, 300 + 30, ?_⟩
  clear hs hloc
  walk_nrm
  repeat w_nl K.rl
  u_c stepG_inLoop K.rl hF
  exact goes_le (by omega) (hHd _ _ _ _ _ _ _ _ _ _ _ _ _ _ _ _ _ _ _ _ _ _ _ _ _ _ _ _ _ _ _ _ _ _ _ _ _ _ _ _ _ _ _ _ _ _ _ _ _ _ _ _ _ _ _ _ _ _ _ _ _ _ _ _ _ _ _ _ _ _ _ _ _ _ _ _ _ _ _ _ _ _ _ _ _ _ _ _ _ _ _ _ _ _ _ _ _ _ _ _ _ _ _ _ _ _ _ _ _ _ _ _ _ _ _ _ _ _ _ _ _ _ _ _ _ _ _ _ _ _ _ _ _ _ hF)
set_option maxRecDepth 100000 in
set_option maxHeartbeats 16000000 in
/-- ████ lockSlow's LOOP HEAD, at every depth. ████ -/
theorem headGo (K : KnL Y 92 99 F Kn) (hH : ∀ l (v v' : World), v'.heap[Y.Mp]? = v.heap[Y.Mp]? → Held l v → Held l v') (hxc : ∀ sh, TSt (kx s .la) sh xc sh) (hq : xc ≠ .quit) (hmu : muteT xc = false) (hT : ∀ d l0, ∃ m, ∀ w, KnO Held Kn l0 w → GO Y Held k F l0 d xc m (G (b₁.at (a₁.put ((ops₁[i₁]?).bind (·.dst)) (.tuple #[])) (.inRegion ops₁ rest₁ :: k₁)) cs₁) w) : ∀ (d : Nat) (old : Mu) (aw sv : Bool) (it : Nat) (wst : Int), HdOk old aw sv it → HeadP Y Held F Kn s k lg b₁ a₁ ops₁ i₁ rest₁ k₁ cs₁ d old aw sv it wst := by
  intro d
  induction d using Nat.strongRecOn with
  | _ d ih =>
  intro old aw sv it wst ⟨hlk, hi, hW⟩
  by_cases hls : old.L = true ∧ old.S = false
  · -- it may spin
    have ehd : Mx.hd old aw sv it = .sq old aw sv it := by unfold Mx.hd; rw [if_pos hls]
    rw [ehd] at hlk
    obtain ⟨h0, h0', h1, h2⟩ := hlk
    unfold HeadP
    rw [ehd]
    refine fun j1 j7 j8 j9 j10 j11 j12 j13 j14 j15 j16 j17 j18 j19 j20 j21 j22 j23 j24 j25 j26 j27 j28 j29 j30 j31 j32 j33 j34 j35 j36 j37 j38 j39 j40 j41 j42 j43 j44 j45 j46 j47 j48 j49 j50 j51 j52 j53 j54 j55 j56 j57 j58 j59 j60 j61 j62 j63 j64 j65 j66 j67 j68 j69 j70 j71 j72 j73 j74 j75 j76 j77 j78 j79 j80 j81 j82 j83 j84 j85 j86 j87 j88 j89 j90 j91 j92 j93 j94 j95 j96 j97 j98 j99 j100 j101 j102 j103 j104 j105 j106 j107 j108 j109 j110 j111 j112 j113 j114 j115 j116 j117 j118 j119 j120 j121 j122 j123 j124 j125 j126 j127 j128 j129 j130 j131 j132 j133 j134 j135 j136 j137 j138 w hF => ?_
    have hC := fun d' (h : d' < d) => c2Any (lg := lg) (s := s) (k := k) K hH hxc hq hmu hT d' (fun d'' h'' => ih d'' (by omega)) old aw sv h1 h2 (fun _ => h0') hW it hi wst
    have hSp := fun d' (h : d' < d) (aw : Bool) (hi : it < 4) => spinGo (s := s) (k := k) (lg := lg) (b₁ := b₁) (a₁ := a₁) (ops₁ := ops₁) (i₁ := i₁) (rest₁ := rest₁) (k₁ := k₁) (cs₁ := cs₁) K d' (fun d'' h'' => ih d'' (by omega)) old aw sv it hi wst
    obtain ⟨l, kk, ss, W⟩ := old
    simp only at h0 h0' h1 hW
    subst h0 h0'
    have e0 : Mu.val ⟨true, kk, false, W⟩ = vv (rb true kk false) W := val_vv _ _ _ _
    simp only [C2P, e0, REST, behindB, LB, loopOf, A3, A4, A5, A6, thnC, K22, X8, fstS, X2, sndS, inB, body102, Try.f102, Option.getD_some] at hC
    simp only [SpinP, e0, REST, behindB, LB, loopOf, A3, A4, A5, A6, thnC, K22, X8, fstS, X2, sndS, inB, body102, Try.f102, Option.getD_some] at hSp
    rw [e0]
    have f1 : (bits .and .i32 (vv (rb true kk false) W) 5 == 1) = true := by rw [show bits .and .i32 (vv (rb true kk false) W) 5 = 1 from and_vv (c := 5) (v := 1) (rb_lt _ _ _) (by omega) (by decide) (by cases kk <;> decide)]; rfl
    clear ih
    simp only [REST, behindB, LB, loopOf, A3, A4, A5, A6, thnC, K22, X8, fstS, X2, sndS, inB, body102, Try.f102, Option.getD_some]
    repeat w_go K.rl
    -- STOP sq
    refine Goes.stop (fun w r => ?_)
    replace hF := K.rl hF r
    clear r
    rcases d with _ | d
    · trivial
    refine lkStop rfl rfl (by simp) (by simp) (by simp) (by simp) (by simp) fun sh hs hloc => ?_
    by_cases h4 : it < 4
    · rcases hsp : w.spins with _ | _
      · refine ⟨_, sh.m, sh.s, _, _, _, .sq0, stepG_canSpin_ask rfl rfl (by k_ne) rfl Try.func105 x105_n x105_b x105_x x105_f (k := .i64) (n := (it : Int)) (by simp [Act.eval]) (by omega), hs.1, rfl, eff_asked _, book_nil 1, 240 + 10, ?_⟩
        replace hF := K.eff hF (eff_asked w) (sh := sh) hs
        rw [hsp]
        clear hs hloc hsp
        walk_nrm
        iterate 4 (w_go K.rl)
        exact goes_le (by omega) (hC d (by omega) _ _ _ _ _ _ _ _ _ _ _ _ _ _ _ _ _ _ _ _ _ _ _ _ _ _ _ _ _ _ _ _ _ _ _ _ _ _ _ _ _ _ _ _ _ _ _ _ _ _ _ _ _ _ _ _ _ _ _ _ _ _ _ _ _ _ _ _ _ _ _ _ _ _ _ _ _ _ _ _ _ _ _ _ _ _ _ _ _ _ _ _ _ _ _ _ _ _ _ _ _ _ _ _ _ _ _ _ _ _ _ _ _ _ _ _ _ _ _ _ _ _ _ _ _ _ _ _ _ _ _ _ _ _ hF)
      · by_cases hn : aw = true ∨ kk = true ∨ W = 0
        · refine ⟨_, sh.m, sh.s, _, _, _, .sq1 h4 hn, stepG_canSpin_ask rfl rfl (by k_ne) rfl Try.func105 x105_n x105_b x105_x x105_f (k := .i64) (n := (it : Int)) (by simp [Act.eval]) (by omega), hs.1, rfl, eff_asked _, book_nil 1, 60 + 60, ?_⟩
          replace hF := K.eff hF (eff_asked w) (sh := sh) hs
          rw [hsp]
          clear hs hloc hsp
          cases aw with
          | true =>
            obtain rfl : kk = true := h1 rfl
            walk_nrm
            iterate 30 (w_go K.rl)
            refine goes_le ?_ (hSp d (by omega) _ h4 _ _ _ _ _ _ _ _ _ _ _ _ _ _ _ _ _ _ _ _ _ _ _ _ _ _ _ _ _ _ _ _ _ _ _ _ _ _ _ _ _ _ _ _ _ _ _ _ _ _ _ _ _ _ _ _ _ _ _ _ _ _ _ _ _ _ _ _ _ _ _ _ _ _ _ _ _ _ _ _ _ _ _ _ _ _ _ _ _ _ _ _ _ _ _ _ _ _ _ _ _ _ _ _ _ _ _ _ _ _ _ _ _ _ _ _ _ _ _ _ _ _ _ _ _ _ _ _ _ _ _ _ _ _ hF)
            omega
          | false =>
            cases kk with
            | true =>
              have f2 : (bits .and .i32 (vv (rb true true false) W) 2 == 0) = false := by rw [show bits .and .i32 (vv (rb true true false) W) 2 = 2 from and_vv (c := 2) (v := 2) (by decide) (by omega) (by decide) (by decide)]; rfl
              walk_nrm
              iterate 30 (w_go K.rl)
              refine goes_le ?_ (hSp d (by omega) _ h4 _ _ _ _ _ _ _ _ _ _ _ _ _ _ _ _ _ _ _ _ _ _ _ _ _ _ _ _ _ _ _ _ _ _ _ _ _ _ _ _ _ _ _ _ _ _ _ _ _ _ _ _ _ _ _ _ _ _ _ _ _ _ _ _ _ _ _ _ _ _ _ _ _ _ _ _ _ _ _ _ _ _ _ _ _ _ _ _ _ _ _ _ _ _ _ _ _ _ _ _ _ _ _ _ _ _ _ _ _ _ _ _ _ _ _ _ _ _ _ _ _ _ _ _ _ _ _ _ _ _ _ _ _ _ hF)
              omega
            | false =>
              obtain rfl : W = 0 := by
                rcases hn with e | e | e
                · cases e
                · cases e
                · exact e
              have f2 : (bits .and .i32 (vv (rb true false false) 0) 2 == 0) = true := by rw [show bits .and .i32 (vv (rb true false false) 0) 2 = 0 from and_vv (c := 2) (v := 0) (by decide) (by omega) (by decide) (by decide)]; rfl
              have f3 : (vv (rb true false false) 0 / 8 != 0) = false := by rw [vv_shr _ 0 (by decide)]; rfl
              walk_nrm
              iterate 30 (w_go K.rl)
              refine goes_le ?_ (hSp d (by omega) _ h4 _ _ _ _ _ _ _ _ _ _ _ _ _ _ _ _ _ _ _ _ _ _ _ _ _ _ _ _ _ _ _ _ _ _ _ _ _ _ _ _ _ _ _ _ _ _ _ _ _ _ _ _ _ _ _ _ _ _ _ _ _ _ _ _ _ _ _ _ _ _ _ _ _ _ _ _ _ _ _ _ _ _ _ _ _ _ _ _ _ _ _ _ _ _ _ _ _ _ _ _ _ _ _ _ _ _ _ _ _ _ _ _ _ _ _ _ _ _ _ _ _ _ _ _ _ _ _ _ _ _ _ _ _ _ hF)
              omega
        · obtain ⟨n1, n2, n3⟩ : aw = false ∧ kk = false ∧ W ≠ 0 := ⟨by cases aw; rfl; exact absurd (.inl rfl) hn, by cases kk; rfl; exact absurd (.inr (.inl rfl)) hn, fun e => hn (.inr (.inr e))⟩
          subst n1 n2
          have n4 : sv = false := by cases sv; rfl; exact absurd (h2 rfl) (by decide)
          subst n4
          refine ⟨_, sh.m, sh.s, _, _, _, .sq2 h4 rfl n3, stepG_canSpin_ask rfl rfl (by k_ne) rfl Try.func105 x105_n x105_b x105_x x105_f (k := .i64) (n := (it : Int)) (by simp [Act.eval]) (by omega), hs.1, rfl, eff_asked _, book_nil 1, 60, ?_⟩
          replace hF := K.eff hF (eff_asked w) (sh := sh) hs
          rw [hsp]
          clear hs hloc hsp
          have f2 : (bits .and .i32 (vv (rb true false false) W) 2 == 0) = true := by rw [show bits .and .i32 (vv (rb true false false) W) 2 = 0 from and_vv (c := 2) (v := 0) (by decide) (by omega) (by decide) (by decide)]; rfl
          have f3 : (vv (rb true false false) W / 8 != 0) = true := by rw [vv_shr _ W (by decide)]; simp; omega
          have f4 : bits .or .i32 (vv (rb true false false) W) 2 = vv 3 W := or_vv (c := 2) (by decide) (by omega) (by decide) (by decide)
          walk_nrm
          repeat w_go K.rl
          -- STOP c1
          refine Goes.stop (fun w r => ?_)
          replace hF := K.rl hF r
          clear r
          rcases d with _ | d
          · trivial
          refine lkStop rfl rfl (by simp) (by simp) (by simp) (by simp) (by simp) fun sh hs hloc => ?_
          by_cases hm : sh.m = ⟨true, false, false, W⟩
          · have hc := hs.1.st
            rw [hm, e0] at hc
            have hs' : ShAt Y 92 99 (w.setCell ⟨Y.Lg, 0, none⟩ (.int .i32 (Mu.val ⟨true, true, false, W⟩))) { sh with m := ⟨true, true, false, W⟩ } := ⟨hs.1.setSt _, (wg_set _ _ rfl).trans hs.2⟩
            rw [show Mu.val ⟨true, true, false, W⟩ = vv 3 W from val_vv _ _ _ _] at hs'
            have st : St (.c1 ⟨true, false, false, W⟩ it) sh.m sh.s (.r1 true false it) ⟨true, true, false, W⟩ sh.s := by rw [hm]; exact .c1y
            refine ⟨_, _, _, _, _, _, st, stepG_cas_hit rfl rfl (by k_ne) rfl Try.func101 x101_n x101_b x101_x .i32 x101_f rfl rfl rfl hc (hs.1.thaw 0), hs'.1, hs'.2.trans hs.2.symm, eff_set _ _ (.inl rfl), book_rw 0 _ (lb 0 (by simp)), 60 + 20, ?_⟩
            replace hF := K.eff hF (eff_set _ _ (.inl rfl)) hs'
            clear hs' hc hs hloc st hm
            walk_nrm
            iterate 6 (w_go K.rl)
            refine goes_le ?_ (hSp d (by omega) _ h4 _ _ _ _ _ _ _ _ _ _ _ _ _ _ _ _ _ _ _ _ _ _ _ _ _ _ _ _ _ _ _ _ _ _ _ _ _ _ _ _ _ _ _ _ _ _ _ _ _ _ _ _ _ _ _ _ _ _ _ _ _ _ _ _ _ _ _ _ _ _ _ _ _ _ _ _ _ _ _ _ _ _ _ _ _ _ _ _ _ _ _ _ _ _ _ _ _ _ _ _ _ _ _ _ _ _ _ _ _ _ _ _ _ _ _ _ _ _ _ _ _ _ _ _ _ _ _ _ _ _ _ _ _ _ hF)
            omega
          · refine ⟨_, sh.m, sh.s, _, _, _, .c1n hm, stepG_cas_miss rfl rfl (by k_ne) rfl Try.func101 x101_n x101_b x101_x .i32 x101_f rfl rfl rfl hs.1.st (hs.1.thaw 0) (fun e => hm (Mu.val_inj (e.trans e0.symm))), hs.1, rfl, eff_refl _, book_one 0 _ false (lb 0 (by simp)), 60 + 20, ?_⟩
            clear hs hloc hm
            walk_nrm
            iterate 4 (w_go K.rl)
            refine goes_le ?_ (hSp d (by omega) _ h4 _ _ _ _ _ _ _ _ _ _ _ _ _ _ _ _ _ _ _ _ _ _ _ _ _ _ _ _ _ _ _ _ _ _ _ _ _ _ _ _ _ _ _ _ _ _ _ _ _ _ _ _ _ _ _ _ _ _ _ _ _ _ _ _ _ _ _ _ _ _ _ _ _ _ _ _ _ _ _ _ _ _ _ _ _ _ _ _ _ _ _ _ _ _ _ _ _ _ _ _ _ _ _ _ _ _ _ _ _ _ _ _ _ _ _ _ _ _ _ _ _ _ _ _ _ _ _ _ _ _ _ _ _ _ hF)
            omega
    · refine ⟨_, sh.m, sh.s, _, _, _, .sq0, stepG_canSpin_no rfl rfl (by k_ne) rfl Try.func105 x105_n x105_b x105_x x105_f (k := .i64) (n := (it : Int)) (by simp [Act.eval]) (by omega), hs.1, rfl, eff_refl _, book_nil 1, 240 + 10, ?_⟩
      clear hs hloc
      walk_nrm
      iterate 4 (w_go K.rl)
      exact goes_le (by omega) (hC d (by omega) _ _ _ _ _ _ _ _ _ _ _ _ _ _ _ _ _ _ _ _ _ _ _ _ _ _ _ _ _ _ _ _ _ _ _ _ _ _ _ _ _ _ _ _ _ _ _ _ _ _ _ _ _ _ _ _ _ _ _ _ _ _ _ _ _ _ _ _ _ _ _ _ _ _ _ _ _ _ _ _ _ _ _ _ _ _ _ _ _ _ _ _ _ _ _ _ _ _ _ _ _ _ _ _ _ _ _ _ _ _ _ _ _ _ _ _ _ _ _ _ _ _ _ _ _ _ _ _ _ _ _ _ _ _ hF)
  · -- to the compare-and-swap
    have ehd : Mx.hd old aw sv it = .c2 old aw sv it := by unfold Mx.hd; rw [if_neg hls]
    rw [ehd] at hlk
    obtain ⟨h1, h2, h3⟩ := hlk
    unfold HeadP
    rw [ehd]
    refine fun j1 j7 j8 j9 j10 j11 j12 j13 j14 j15 j16 j17 j18 j19 j20 j21 j22 j23 j24 j25 j26 j27 j28 j29 j30 j31 j32 j33 j34 j35 j36 j37 j38 j39 j40 j41 j42 j43 j44 j45 j46 j47 j48 j49 j50 j51 j52 j53 j54 j55 j56 j57 j58 j59 j60 j61 j62 j63 j64 j65 j66 j67 j68 j69 j70 j71 j72 j73 j74 j75 j76 j77 j78 j79 j80 j81 j82 j83 j84 j85 j86 j87 j88 j89 j90 j91 j92 j93 j94 j95 j96 j97 j98 j99 j100 j101 j102 j103 j104 j105 j106 j107 j108 j109 j110 j111 j112 j113 j114 j115 j116 j117 j118 j119 j120 j121 j122 j123 j124 j125 j126 j127 j128 j129 j130 j131 j132 j133 j134 j135 j136 j137 j138 w hF => ?_
    have hC := c2Any (lg := lg) (s := s) (k := k) K hH hxc hq hmu hT d ih old aw sv h1 h2 h3 hW it hi wst
    obtain ⟨l, kk, ss, W⟩ := old
    simp only at hls hW
    have e0 : Mu.val ⟨l, kk, ss, W⟩ = vv (rb l kk ss) W := val_vv _ _ _ _
    simp only [C2P, e0, REST, behindB, LB, loopOf, A3, A4, A5, A6, thnC, K22, X8, fstS, X2, sndS, inB, body102, Try.f102, Option.getD_some] at hC
    rw [e0]
    have f1 : (bits .and .i32 (vv (rb l kk ss) W) 5 == 1) = false := by
      have e : bits .and .i32 (vv (rb l kk ss) W) 5 = ((l.toNat + 4 * ss.toNat : Nat) : Int) := and_vv (c := 5) (rb_lt l kk ss) (by omega) (by decide) (by cases l <;> cases kk <;> cases ss <;> decide)
      rw [e]
      cases l <;> cases ss <;> first | rfl | exact absurd ⟨rfl, rfl⟩ hls
    clear ih
    simp only [REST, behindB, LB, loopOf, A3, A4, A5, A6, thnC, K22, X8, fstS, X2, sndS, inB, body102, Try.f102, Option.getD_some]
    iterate 14 (w_go K.rl)
    exact goes_le (by omega) (hC _ _ _ _ _ _ _ _ _ _ _ _ _ _ _ _ _ _ _ _ _ _ _ _ _ _ _ _ _ _ _ _ _ _ _ _ _ _ _ _ _ _ _ _ _ _ _ _ _ _ _ _ _ _ _ _ _ _ _ _ _ _ _ _ _ _ _ _ _ _ _ _ _ _ _ _ _ _ _ _ _ _ _ _ _ _ _ _ _ _ _ _ _ _ _ _ _ _ _ _ _ _ _ _ _ _ _ _ _ _ _ _ _ _ _ _ _ _ _ _ _ _ _ _ _ _ _ _ _ _ _ _ _ _ hF)
end
end Go.Proofs.Ytpmmimcafkillaa.Tr

set_option linter.unusedVariables false
set_option linter.unusedSimpArgs false
namespace Go.Proofs.Ytpmmimcafkillaa.Tr
open Go Go.Conc Go.ConcN Go.RowKit Go.Conc.Lib Go.ConcR.Gen Go.ConcM
open Go.ConcR (KK wgBlock WgAt stA smA rd wr mk DC0)
open Go.Proofs.Ytpmmimcafkillaa.Mx
open Go.Proofs.Ytpmmimcafkillaa.Mx (Mu St)
section
variable {Y : Lay} {Held : List Nat → World → Prop} {F : Nat → Prop} {Kn : World → Prop} {s : Bool} {k : Nat} {lg : List Nat} {xc : Mx.Th}
variable {b₁ : Frame} {a₁ : Act} {ops₁ : Array Oper} {i₁ : Nat} {rest₁ : List Nat} {k₁ : List Item} {cs₁ : List Frame}
set_option maxRecDepth 100000 in
set_option maxHeartbeats 16000000 in
theorem slowGo (K : KnL Y 92 99 F Kn) (hH : ∀ l (v v' : World), v'.heap[Y.Mp]? = v.heap[Y.Mp]? → Held l v → Held l v') (hxc : ∀ sh, TSt (kx s .la) sh xc sh) (hq : xc ≠ .quit) (hmu : muteT xc = false) (hT : ∀ d l0, ∃ m, ∀ w, KnO Held Kn l0 w → GO Y Held k F l0 d xc m (G (b₁.at (a₁.put ((ops₁[i₁]?).bind (·.dst)) (.tuple #[])) (.inRegion ops₁ rest₁ :: k₁)) cs₁) w) : ∀ d w, Kn w → GL Y Held s k F lg d .r0 60 (slowFr (b₁.at a₁ (.inRegion ops₁ (i₁ :: rest₁) :: k₁) :: cs₁) Y) w := by
  intro d w hF
  unfold slowFr
  simp only [body102, Try.f102, Option.getD_some]
  repeat w_go K.rl
  -- STOP r0
  refine Goes.stop (fun w r => ?_)
  replace hF := K.rl hF r
  clear r
  rcases d with _ | d
  · trivial
  refine lkStop rfl rfl (by simp) (by simp) (by simp) (by simp) (by simp) fun sh hs hloc => ?_
  have hok : HdOk sh.m false false 0 := hd_ok hloc (by rw [lkOf_kx]; exact .r0) (by omega)
  have hHd := headGo (lg := lg) (s := s) (k := k) K hH hxc hq hmu hT d sh.m false false 0 0 hok
  simp only [HeadP, REST, behindB, LB, loopOf, A3, A4, A5, A6, thnC, K22, X8, fstS, X2, sndS, inB, body102, Try.f102, Option.getD_some] at hHd
  refine ⟨_, sh.m, sh.s, _, _, _, .r0, stepG_loadQ rfl rfl (by k_ne) rfl rfl hs.1.st q102, hs.1, rfl, eff_refl _, by rw [hd_deaf]; exact book_nil 1, 300 + 30, ?_⟩
  clear hs hloc
  walk_nrm
  repeat w_but "code.loop" K.rl
  u_c stepG_loop K.rl hF
  exact goes_le (by omega) (hHd _ _ _ _ _ _ _ _ _ _ _ _ _ _ _ _ _ _ _ _ _ _ _ _ _ _ _ _ _ _ _ _ _ _ _ _ _ _ _ _ _ _ _ _ _ _ _ _ _ _ _ _ _ _ _ _ _ _ _ _ _ _ _ _ _ _ _ _ _ _ _ _ _ _ _ _ _ _ _ _ _ _ _ _ _ _ _ _ _ _ _ _ _ _ _ _ _ _ _ _ _ _ _ _ _ _ _ _ _ _ _ _ _ _ _ _ _ _ _ _ _ _ _ _ _ _ _ _ _ _ _ _ _ _ hF)
set_option maxRecDepth 100000 in
set_option maxHeartbeats 16000000 in
/-- ████ LOCK. ████ -/
theorem lockAll (K : KnL Y 92 99 F Kn) (hH : ∀ l (v v' : World), v'.heap[Y.Mp]? = v.heap[Y.Mp]? → Held l v → Held l v') (hxc : ∀ sh, TSt (kx s .la) sh xc sh) (hq : xc ≠ .quit) (hmu : muteT xc = false)
    (hk0 : b₁.kind ≠ .early)
    (hT : ∀ d l0, ∃ m, ∀ w, KnO Held Kn l0 w → GO Y Held k F l0 d xc m (G (b₁.at (a₁.put ((ops₁[i₁]?).bind (·.dst)) (.tuple #[])) (.inRegion ops₁ rest₁ :: k₁)) cs₁) w) :
    ∀ d w, Kn w → GL Y Held s k F lg d .ld 40 (G ((base 84).at ⟨#[.pointer (some ⟨Y.Lg, 0, none⟩), undef, undef, undef, undef, undef], []⟩ [.code body84]) (b₁.at a₁ (.inRegion ops₁ (i₁ :: rest₁) :: k₁) :: cs₁)) w :=
  lockGo K hH hxc hq hmu (fun _ _ _ _ _ _ _ _ hT => slowGo K hH hxc hq hmu hT) hk0 hT
end
end Go.Proofs.Ytpmmimcafkillaa.Tr
