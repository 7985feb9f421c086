/-
  lockSlow: the way of one who waits.
-/
import Derived.Test.YtpmmimcafkillaaZWg
set_option linter.unusedVariables false
set_option linter.unusedSimpArgs false
namespace Go.Proofs.Ytpmmimcafkillaa.Tr
open Go Go.Conc Go.ConcN Go.RowKit Go.Conc.Lib Go.ConcR.Gen Go.ConcM
open Go.ConcR (KK wgBlock WgAt stA smA rd wr mk DC0)
open Go.Proofs.Ytpmmimcafkillaa.Mx
open Go.Proofs.Ytpmmimcafkillaa.Mx (Mu St)
def thnC : Code → Code
  | .cond _ x _ => x
  | c => c
noncomputable def A3 : Code := sndS (sndS (sndS (thnC K22)))
noncomputable def A4 : Code := sndS A3
noncomputable def A5 : Code := sndS A4
noncomputable def A6 : Code := sndS A5
theorem LocW.star {x : Mx.Th} {sh : Shr} (h : LocW x sh) (ha : agx (lkOf x) = 1) (hs : sh.m.S = true) : sh.m.L = false ∧ sh.m.K = false ∧ sh.m.W ≠ 0 := by
  obtain ⟨sp, ths, i, hc, hi, hn, _⟩ := h
  have h1 := cnt_ge agx (ths.map lkOf) i (lkOf x) (by simp [hi])
  have n := hc.inv.num
  have hk : sh.m.K = false := by
    cases e : sh.m.K with
    | false => rfl
    | true => have := n.ks e; rw [hs] at this; cases this
  have hL : sh.m.L = false := by
    cases e : sh.m.L with
    | false => rfl
    | true => have := n.k3 hk (.inr e); omega
  exact ⟨hL, hk, n.sw hs⟩
theorem LocW.a1 {x : Mx.Th} {sh : Shr} (h : LocW x sh) (ha : a1p (lkOf x) = 1) : sh.m.L = false ∧ sh.m.K = false ∧ sh.m.S = true ∧ sh.m.W ≠ 0 := by
  obtain ⟨sp, ths, i, hc, hi, hn, _⟩ := h
  have h1 := cnt_ge a1p (ths.map lkOf) i (lkOf x) (by simp [hi])
  have n := hc.inv.num
  have hk : sh.m.K = false := by
    cases e : sh.m.K with
    | false => rfl
    | true => have := n.k1 e; omega
  have hs : sh.m.S = true := by
    cases e : sh.m.S with
    | true => rfl
    | false => have := n.k3 hk (.inl e); omega
  have hL : sh.m.L = false := by
    cases e : sh.m.L with
    | false => rfl
    | true => have := n.k3 hk (.inr e); omega
  exact ⟨hL, hk, hs, n.sw hs⟩
def A6P (Y : Lay) (Held : List Nat → World → Prop) (F : Nat → Prop) (Kn : World → Prop) (s : Bool) (k : Nat) (lg : List Nat) (b₁ : Frame) (a₁ : Act) (ops₁ : Array Oper) (i₁ : Nat) (rest₁ : List Nat) (k₁ : List Item) (cs₁ : List Frame) (d : Nat) (l : Mx.Lk) (old : Mu) (aw sv : Bool) (it : Nat) (wst : Int) : Prop :=
  ∀ (j1 j7 j8 j9 j10 j11 j12 j13 j14 j15 j16 j17 j18 j19 j20 j21 j22 j23 j24 j25 j26 j27 j28 j29 j30 j31 j32 j33 j34 j35 j36 j37 j38 j39 j40 j41 j42 j43 j44 j45 j46 j47 j48 j49 j50 j51 j52 j53 j54 j55 j56 j57 j58 j59 j60 j61 j62 j63 j64 j65 j66 j67 j68 j69 j70 j71 j72 j73 j74 j75 j76 j77 j78 j79 j80 j81 j82 j83 j84 j85 j86 j87 j88 j89 j90 j91 j92 j93 j94 j95 j96 j97 j98 j99 j100 j101 j102 j103 j104 j105 j106 j107 j108 j109 j110 j111 j112 j113 j114 j115 j116 j117 j118 j119 j120 j121 j122 j123 j124 j125 j126 j127 j128 j129 j130 j131 j132 j133 j134 j135 j136 j137 j138 : Value) w, Kn w → GL Y Held s k F lg d l 400 (G ((base 102).at ⟨#[.pointer (some ⟨Y.Lg, 0, none⟩), j1, .int .i64 wst, .bool sv, .bool aw, .int .i64 (it : Int), .int .i32 old.val, j7, j8, j9, j10, j11, j12, j13, j14, j15, j16, j17, j18, j19, j20, j21, j22, j23, j24, j25, j26, j27, j28, j29, j30, j31, j32, j33, j34, j35, j36, j37, j38, j39, j40, j41, j42, j43, j44, j45, j46, j47, j48, j49, j50, j51, j52, j53, j54, j55, j56, j57, j58, j59, j60, j61, j62, j63, j64, j65, j66, j67, j68, j69, j70, j71, j72, j73, j74, j75, j76, j77, j78, j79, j80, j81, j82, j83, j84, j85, j86, j87, j88, j89, j90, j91, j92, j93, j94, j95, j96, j97, j98, j99, j100, j101, j102, j103, j104, j105, j106, j107, j108, j109, j110, j111, j112, j113, j114, j115, j116, j117, j118, j119, j120, j121, j122, j123, j124, j125, j126, j127, j128, j129, j130, j131, j132, j133, j134, j135, j136, j137, j138], []⟩ [.code A6, .inBlock 1, .inLoop LB, .inBlock 0, .code REST]) (b₁.at a₁ (.inRegion ops₁ (i₁ :: rest₁) :: k₁) :: cs₁)) w
def A5P (Y : Lay) (Held : List Nat → World → Prop) (F : Nat → Prop) (Kn : World → Prop) (s : Bool) (k : Nat) (lg : List Nat) (b₁ : Frame) (a₁ : Act) (ops₁ : Array Oper) (i₁ : Nat) (rest₁ : List Nat) (k₁ : List Item) (cs₁ : List Frame) (d : Nat) (old : Mu) (aw sv : Bool) (it : Nat) (wst : Int) : Prop :=
  ∀ (j1 j7 j8 j9 j10 j11 j12 j13 j14 j15 j16 j17 j18 j19 j20 j21 j22 j23 j24 j25 j26 j27 j28 j29 j30 j31 j32 j33 j34 j35 j36 j37 j38 j39 j40 j41 j42 j43 j44 j45 j46 j47 j48 j49 j50 j51 j52 j53 j54 j55 j56 j57 j58 j59 j60 j61 j62 j63 j64 j65 j66 j67 j68 j69 j70 j71 j72 j73 j74 j75 j76 j77 j78 j79 j80 j81 j82 j83 j84 j85 j86 j87 j88 j89 j90 j91 j92 j93 j94 j95 j96 j97 j98 j99 j100 j101 j102 j103 j104 j105 j106 j107 j108 j109 j110 j111 j112 j113 j114 j115 j116 j117 j118 j119 j120 j121 j122 j123 j124 j125 j126 j127 j128 j129 j130 j131 j132 j133 j134 j135 j136 j137 j138 : Value) w, Kn w → GL Y Held s k F lg d (.r2 sv) 40 (G ((base 102).at ⟨#[.pointer (some ⟨Y.Lg, 0, none⟩), j1, .int .i64 wst, .bool sv, .bool aw, .int .i64 (it : Int), .int .i32 old.val, j7, j8, j9, j10, j11, j12, j13, j14, j15, j16, j17, j18, j19, j20, j21, j22, j23, j24, j25, j26, j27, j28, j29, j30, j31, j32, j33, j34, j35, j36, j37, j38, j39, j40, j41, j42, j43, j44, j45, j46, j47, j48, j49, j50, j51, j52, j53, j54, j55, j56, j57, j58, j59, j60, j61, j62, j63, j64, j65, j66, j67, j68, j69, j70, j71, j72, j73, j74, j75, j76, j77, j78, j79, j80, j81, j82, j83, j84, j85, j86, j87, j88, j89, j90, j91, j92, j93, j94, j95, j96, j97, j98, j99, j100, j101, j102, j103, j104, j105, j106, j107, j108, j109, j110, j111, j112, j113, j114, j115, j116, j117, j118, j119, j120, j121, j122, j123, j124, j125, j126, j127, j128, j129, j130, j131, j132, j133, j134, j135, j136, j137, j138], []⟩ [.code A5, .inBlock 1, .inLoop LB, .inBlock 0, .code REST]) (b₁.at a₁ (.inRegion ops₁ (i₁ :: rest₁) :: k₁) :: cs₁)) w
def A4P (Y : Lay) (Held : List Nat → World → Prop) (F : Nat → Prop) (Kn : World → Prop) (s : Bool) (k : Nat) (lg : List Nat) (b₁ : Frame) (a₁ : Act) (ops₁ : Array Oper) (i₁ : Nat) (rest₁ : List Nat) (k₁ : List Item) (cs₁ : List Frame) (d : Nat) (old : Mu) (aw sv : Bool) (it : Nat) (wst : Int) : Prop :=
  ∀ (j1 j7 j8 j9 j10 j11 j12 j13 j14 j15 j16 j17 j18 j19 j20 j21 j22 j23 j24 j25 j26 j27 j28 j29 j30 j31 j32 j33 j34 j35 j36 j37 j38 j39 j40 j41 j42 j43 j44 j45 j46 j47 j48 j49 j50 j51 j52 j53 j54 j55 j56 j57 j58 j59 j60 j61 j62 j63 j64 j65 j66 j67 j68 j69 j70 j71 j72 j73 j74 j75 j76 j77 j78 j79 j80 j81 j82 j83 j84 j85 j86 j87 j88 j89 j90 j91 j92 j93 j94 j95 j96 j97 j98 j99 j100 j101 j102 j103 j104 j105 j106 j107 j108 j109 j110 j111 j112 j113 j114 j115 j116 j117 j118 j119 j120 j121 j122 j123 j124 j125 j126 j127 j128 j129 j130 j131 j132 j133 j134 j135 j136 j137 j138 : Value) w, Kn w → GL Y Held s k F lg d (.t2 sv) 40 (G ((base 102).at ⟨#[.pointer (some ⟨Y.Lg, 0, none⟩), j1, .int .i64 wst, .bool sv, .bool aw, .int .i64 (it : Int), .int .i32 old.val, j7, j8, j9, j10, j11, j12, j13, j14, j15, j16, j17, j18, j19, j20, j21, j22, j23, j24, j25, j26, j27, j28, j29, j30, j31, j32, j33, j34, j35, j36, j37, j38, j39, j40, j41, j42, j43, j44, j45, j46, j47, j48, j49, j50, j51, j52, j53, j54, j55, j56, j57, j58, j59, j60, j61, j62, j63, j64, j65, j66, j67, j68, j69, j70, j71, j72, j73, j74, j75, j76, j77, j78, j79, j80, j81, j82, j83, j84, j85, j86, j87, j88, j89, j90, j91, j92, j93, j94, j95, j96, j97, j98, j99, j100, j101, j102, j103, j104, j105, j106, j107, j108, j109, j110, j111, j112, j113, j114, j115, j116, j117, j118, j119, j120, j121, j122, j123, j124, j125, j126, j127, j128, j129, j130, j131, j132, j133, j134, j135, j136, j137, j138], []⟩ [.code A4, .inBlock 1, .inLoop LB, .inBlock 0, .code REST]) (b₁.at a₁ (.inRegion ops₁ (i₁ :: rest₁) :: k₁) :: cs₁)) w
def A3P (Y : Lay) (Held : List Nat → World → Prop) (F : Nat → Prop) (Kn : World → Prop) (s : Bool) (k : Nat) (lg : List Nat) (b₁ : Frame) (a₁ : Act) (ops₁ : Array Oper) (i₁ : Nat) (rest₁ : List Nat) (k₁ : List Item) (cs₁ : List Frame) (d : Nat) (old : Mu) (aw sv : Bool) (it : Nat) (wst : Int) : Prop :=
  ∀ (j1 j7 j8 j9 j10 j11 j12 j13 j14 j15 j16 j17 j18 j19 j20 j21 j22 j23 j24 j25 j26 j27 j28 j29 j30 j31 j32 j33 j34 j35 j36 j37 j38 j39 j40 j41 j42 j43 j44 j45 j46 j47 j48 j49 j50 j51 j52 j53 j54 j55 j56 j57 j58 j59 j60 j61 j62 j63 j64 j65 j66 j67 j68 j69 j70 j71 j72 j73 j74 j75 j76 j77 j78 j79 j80 j81 j82 j83 j84 j85 j86 j87 j88 j89 j90 j91 j92 j93 j94 j95 j96 j97 j98 j99 j100 j101 j102 j103 j104 j105 j106 j107 j108 j109 j110 j111 j112 j113 j114 j115 j116 j117 j118 j119 j120 j121 j122 j123 j124 j125 j126 j127 j128 j129 j130 j131 j132 j133 j134 j135 j136 j137 j138 : Value) w, Kn w → GL Y Held s k F lg d (.s1 sv) 40 (G ((base 102).at ⟨#[.pointer (some ⟨Y.Lg, 0, none⟩), j1, .int .i64 wst, .bool sv, .bool aw, .int .i64 (it : Int), .int .i32 old.val, j7, j8, j9, j10, j11, j12, j13, j14, j15, j16, j17, j18, j19, j20, j21, j22, j23, j24, j25, j26, j27, j28, j29, j30, j31, j32, j33, j34, j35, j36, j37, j38, j39, j40, j41, j42, j43, j44, j45, j46, j47, j48, j49, j50, j51, j52, j53, j54, j55, j56, j57, j58, j59, j60, j61, j62, j63, j64, j65, j66, j67, j68, j69, j70, j71, j72, j73, j74, j75, j76, j77, j78, j79, j80, j81, j82, j83, j84, j85, j86, j87, j88, j89, j90, j91, j92, j93, j94, j95, j96, j97, j98, j99, j100, j101, j102, j103, j104, j105, j106, j107, j108, j109, j110, j111, j112, j113, j114, j115, j116, j117, j118, j119, j120, j121, j122, j123, j124, j125, j126, j127, j128, j129, j130, j131, j132, j133, j134, j135, j136, j137, j138], []⟩ [.code A3, .inBlock 1, .inLoop LB, .inBlock 0, .code REST]) (b₁.at a₁ (.inRegion ops₁ (i₁ :: rest₁) :: k₁) :: cs₁)) w
section
variable {Y : Lay} {Held : List Nat → World → Prop} {F : Nat → Prop} {Kn : World → Prop} {s : Bool} {k : Nat} {lg : List Nat} {xc : Mx.Th}
variable {b₁ : Frame} {a₁ : Act} {ops₁ : Array Oper} {i₁ : Nat} {rest₁ : List Nat} {k₁ : List Item} {cs₁ : List Frame}
set_option maxRecDepth 100000 in
set_option maxHeartbeats 16000000 in
/-- not starved: it tries anew, woken -/
theorem a6N (K : KnL Y 92 99 F Kn) (d : Nat) (l kk : Bool) (W : Nat) (hW : W ≤ 1000) (aw sv : Bool) (it : Nat) (wst : Int) (hHd : HeadP Y Held F Kn s k lg b₁ a₁ ops₁ i₁ rest₁ k₁ cs₁ d ⟨l, kk, false, W⟩ true sv 0 wst) : A6P Y Held F Kn s k lg b₁ a₁ ops₁ i₁ rest₁ k₁ cs₁ d (Mx.hd ⟨l, kk, false, W⟩ true sv 0) ⟨l, kk, false, W⟩ aw sv it wst := by
  refine fun j1 j7 j8 j9 j10 j11 j12 j13 j14 j15 j16 j17 j18 j19 j20 j21 j22 j23 j24 j25 j26 j27 j28 j29 j30 j31 j32 j33 j34 j35 j36 j37 j38 j39 j40 j41 j42 j43 j44 j45 j46 j47 j48 j49 j50 j51 j52 j53 j54 j55 j56 j57 j58 j59 j60 j61 j62 j63 j64 j65 j66 j67 j68 j69 j70 j71 j72 j73 j74 j75 j76 j77 j78 j79 j80 j81 j82 j83 j84 j85 j86 j87 j88 j89 j90 j91 j92 j93 j94 j95 j96 j97 j98 j99 j100 j101 j102 j103 j104 j105 j106 j107 j108 j109 j110 j111 j112 j113 j114 j115 j116 j117 j118 j119 j120 j121 j122 j123 j124 j125 j126 j127 j128 j129 j130 j131 j132 j133 j134 j135 j136 j137 j138 w hF => ?_
  have v1 : (bits .and .i32 (vv (rb l kk false) W) 4 != 0) = false := by rw [and_4 (by omega)]; rfl
  simp only [HeadP, REST, behindB, LB, loopOf, A3, A4, A5, A6, thnC, K22, X2, sndS, inB, body102, Try.f102, Option.getD_some] at hHd
  rw [val_vv] at hHd ⊢
  simp only [REST, behindB, LB, loopOf, A3, A4, A5, A6, thnC, K22, X2, sndS, inB, body102, Try.f102, Option.getD_some]
  repeat w_nl K.rl
  u_c stepG_inLoop K.rl hF
  exact goes_le (by omega) (hHd _ _ _ _ _ _ _ _ _ _ _ _ _ _ _ _ _ _ _ _ _ _ _ _ _ _ _ _ _ _ _ _ _ _ _ _ _ _ _ _ _ _ _ _ _ _ _ _ _ _ _ _ _ _ _ _ _ _ _ _ _ _ _ _ _ _ _ _ _ _ _ _ _ _ _ _ _ _ _ _ _ _ _ _ _ _ _ _ _ _ _ _ _ _ _ _ _ _ _ _ _ _ _ _ _ _ _ _ _ _ _ _ _ _ _ _ _ _ _ _ _ _ _ _ _ _ _ _ _ _ _ _ _ _ hF)
set_option maxRecDepth 100000 in
set_option maxHeartbeats 16000000 in
/-- starved: the lock is handed on to it -/
theorem a6S (K : KnL Y 92 99 F Kn) (hH : ∀ l (v v' : World), v'.heap[Y.Mp]? = v.heap[Y.Mp]? → Held l v → Held l v') (hxc : ∀ sh, TSt (kx s .la) sh xc sh) (hq : xc ≠ .quit) (hmu : muteT xc = false) (hT : ∀ d l0, ∃ m, ∀ w, KnO Held Kn l0 w → GO Y Held k F l0 d xc m (G (b₁.at (a₁.put ((ops₁[i₁]?).bind (·.dst)) (.tuple #[])) (.inRegion ops₁ rest₁ :: k₁)) cs₁) w) (d : Nat) (W : Nat) (hW : W + 1 ≤ 1000) (aw sv : Bool) (it : Nat) (wst : Int) : A6P Y Held F Kn s k lg b₁ a₁ ops₁ i₁ rest₁ k₁ cs₁ d (.a1 (!sv || decide (W = 0))) ⟨false, false, true, W + 1⟩ aw sv it wst := by
  refine fun j1 j7 j8 j9 j10 j11 j12 j13 j14 j15 j16 j17 j18 j19 j20 j21 j22 j23 j24 j25 j26 j27 j28 j29 j30 j31 j32 j33 j34 j35 j36 j37 j38 j39 j40 j41 j42 j43 j44 j45 j46 j47 j48 j49 j50 j51 j52 j53 j54 j55 j56 j57 j58 j59 j60 j61 j62 j63 j64 j65 j66 j67 j68 j69 j70 j71 j72 j73 j74 j75 j76 j77 j78 j79 j80 j81 j82 j83 j84 j85 j86 j87 j88 j89 j90 j91 j92 j93 j94 j95 j96 j97 j98 j99 j100 j101 j102 j103 j104 j105 j106 j107 j108 j109 j110 j111 j112 j113 j114 j115 j116 j117 j118 j119 j120 j121 j122 j123 j124 j125 j126 j127 j128 j129 j130 j131 j132 j133 j134 j135 j136 j137 j138 w hF => ?_
  have v1 : (bits .and .i32 (vv 4 (W + 1)) 4 != 0) = true := by rw [show bits .and .i32 (vv 4 (W + 1)) 4 = 4 from and_vv (c := 4) (v := 4) (by decide) (by omega) (by decide) (by decide)]; rfl
  have v2 : (bits .and .i32 (vv 4 (W + 1)) 3 != 0) = false := by rw [show bits .and .i32 (vv 4 (W + 1)) 3 = 0 from and_vv (c := 3) (v := 0) (by decide) (by omega) (by decide) (by decide)]; rfl
  have v3 : (vv 4 (W + 1) / 8 == 0) = false := by rw [vv_shr 4 (W + 1) (by decide)]; simp; omega
  have e0 : Mu.val ⟨false, false, true, W + 1⟩ = vv 4 (W + 1) := val_vv _ _ _ _
  rw [e0]
  clear e0
  simp only [REST, behindB, LB, loopOf, A3, A4, A5, A6, thnC, K22, X2, sndS, inB, body102, Try.f102, Option.getD_some]
  cases sv with
  | false =>
    simp only [Bool.not_false, Bool.true_or]
    repeat w_go K.rl
    -- STOP a1
    refine Goes.stop (fun w r => ?_)
    replace hF := K.rl hF r
    clear r
    rcases d with _ | d
    · trivial
    refine lkStop rfl rfl (by simp) (by simp) (by simp) (by simp) (by simp) fun sh hs hloc => ?_
    have hW' := hloc.w
    obtain ⟨hL, hK, hS, hne⟩ := hloc.a1 (by rw [lkOf_kx]; rfl)
    obtain ⟨⟨l, kk, ss, ww⟩, s0, c0, wt, ws0, of0⟩ := sh
    simp only at hL hK hS hne hW'
    subst hL hK hS
    obtain ⟨ww, rfl⟩ : ∃ x, ww = x + 1 := ⟨ww - 1, by omega⟩
    have hc := hs.1.st
    simp only [val_vv] at hc
    have hv : IntKind.i32.wrap (vv (rb false false true) (ww + 1) + -11) = vv (rb true false false) ww := by rw [IntKind.wrap_i32]; simp [vv, rb]; omega
    have hs' : ShAt Y 92 99 (w.setCell ⟨Y.Lg, 0, none⟩ (.int .i32 (Mu.val ⟨true, false, false, ww⟩))) ⟨⟨true, false, false, ww⟩, s0, c0, wt, ws0, of0⟩ := ⟨hs.1.setSt _, (wg_set _ _ rfl).trans hs.2⟩
    rw [val_vv, ← hv] at hs'
    have hR := restGo (lg := lg) K hH hxc hq hmu hT d
    have st : St (.a1 true) ⟨false, false, true, ww + 1⟩ s0 .le ⟨true, false, false, ww⟩ s0 := St.a1
    refine ⟨_, _, _, _, _, _, st, stepG_add_atomic rfl rfl (by k_ne) rfl Try.func103 x103_n x103_b x103_x .i32 x103_f rfl rfl hc (hs.1.thaw 0), hs'.1, hs'.2.trans hs.2.symm, eff_set _ _ (.inl rfl), book_rw 0 _ (lb 0 (by simp)), 60, ?_⟩
    replace hF := K.eff hF (eff_set _ _ (.inl rfl)) hs'
    rw [hv] at hF
    rw [hv]
    clear hs' hv hc hs hloc st v1 v2 v3 
    walk_nrm
    repeat w_but "code.exit" K.rl
    u_exit K.rl hF
    simp only [RestP, REST, behindB, LB, loopOf, A3, A4, A5, A6, thnC, K22, X2, sndS, inB, body102, Try.f102, Option.getD_some] at hR
    exact goes_le (by omega) (hR _ _ _ _ _ _ _ _ _ _ _ _ _ _ _ _ _ _ _ _ _ _ _ _ _ _ _ _ _ _ _ _ _ _ _ _ _ _ _ _ _ _ _ _ _ _ _ _ _ _ _ _ _ _ _ _ _ _ _ _ _ _ _ _ _ _ _ _ _ _ _ _ _ _ _ _ _ _ _ _ _ _ _ _ _ _ _ _ _ _ _ _ _ _ _ _ _ _ _ _ _ _ _ _ _ _ _ _ _ _ _ _ _ _ _ _ _ _ _ _ _ _ _ _ _ _ _ _ _ _ _ _ _ _ _ _ _ _ _ hF)
  | true =>
    by_cases h0 : W = 0
    · subst h0
      have v4 : (vv 4 (0 + 1) / 8 == 1) = true := by rw [vv_shr 4 (0 + 1) (by decide)]; rfl
      simp only [Bool.not_true, Bool.false_or, decide_true]
      repeat w_go K.rl
      -- STOP a1
      refine Goes.stop (fun w r => ?_)
      replace hF := K.rl hF r
      clear r
      rcases d with _ | d
      · trivial
      refine lkStop rfl rfl (by simp) (by simp) (by simp) (by simp) (by simp) fun sh hs hloc => ?_
      have hW' := hloc.w
      obtain ⟨hL, hK, hS, hne⟩ := hloc.a1 (by rw [lkOf_kx]; rfl)
      obtain ⟨⟨l, kk, ss, ww⟩, s0, c0, wt, ws0, of0⟩ := sh
      simp only at hL hK hS hne hW'
      subst hL hK hS
      obtain ⟨ww, rfl⟩ : ∃ x, ww = x + 1 := ⟨ww - 1, by omega⟩
      have hc := hs.1.st
      simp only [val_vv] at hc
      have hv : IntKind.i32.wrap (vv (rb false false true) (ww + 1) + -11) = vv (rb true false false) ww := by rw [IntKind.wrap_i32]; simp [vv, rb]; omega
      have hs' : ShAt Y 92 99 (w.setCell ⟨Y.Lg, 0, none⟩ (.int .i32 (Mu.val ⟨true, false, false, ww⟩))) ⟨⟨true, false, false, ww⟩, s0, c0, wt, ws0, of0⟩ := ⟨hs.1.setSt _, (wg_set _ _ rfl).trans hs.2⟩
      rw [val_vv, ← hv] at hs'
      have hR := restGo (lg := lg) K hH hxc hq hmu hT d
      have st : St (.a1 true) ⟨false, false, true, ww + 1⟩ s0 .le ⟨true, false, false, ww⟩ s0 := St.a1
      refine ⟨_, _, _, _, _, _, st, stepG_add_atomic rfl rfl (by k_ne) rfl Try.func103 x103_n x103_b x103_x .i32 x103_f rfl rfl hc (hs.1.thaw 0), hs'.1, hs'.2.trans hs.2.symm, eff_set _ _ (.inl rfl), book_rw 0 _ (lb 0 (by simp)), 60, ?_⟩
      replace hF := K.eff hF (eff_set _ _ (.inl rfl)) hs'
      rw [hv] at hF
      rw [hv]
      clear hs' hv hc hs hloc st v1 v2 v3 v4
      walk_nrm
      repeat w_but "code.exit" K.rl
      u_exit K.rl hF
      simp only [RestP, REST, behindB, LB, loopOf, A3, A4, A5, A6, thnC, K22, X2, sndS, inB, body102, Try.f102, Option.getD_some] at hR
      exact goes_le (by omega) (hR _ _ _ _ _ _ _ _ _ _ _ _ _ _ _ _ _ _ _ _ _ _ _ _ _ _ _ _ _ _ _ _ _ _ _ _ _ _ _ _ _ _ _ _ _ _ _ _ _ _ _ _ _ _ _ _ _ _ _ _ _ _ _ _ _ _ _ _ _ _ _ _ _ _ _ _ _ _ _ _ _ _ _ _ _ _ _ _ _ _ _ _ _ _ _ _ _ _ _ _ _ _ _ _ _ _ _ _ _ _ _ _ _ _ _ _ _ _ _ _ _ _ _ _ _ _ _ _ _ _ _ _ _ _ _ _ _ _ _ hF)
    · have v4 : (vv 4 (W + 1) / 8 == 1) = false := by rw [vv_shr 4 (W + 1) (by decide)]; simp; omega
      simp only [Bool.not_true, Bool.false_or, decide_eq_false h0]
      repeat w_go K.rl
      -- STOP a1
      refine Goes.stop (fun w r => ?_)
      replace hF := K.rl hF r
      clear r
      rcases d with _ | d
      · trivial
      refine lkStop rfl rfl (by simp) (by simp) (by simp) (by simp) (by simp) fun sh hs hloc => ?_
      have hW' := hloc.w
      obtain ⟨hL, hK, hS, hne⟩ := hloc.a1 (by rw [lkOf_kx]; rfl)
      obtain ⟨⟨l, kk, ss, ww⟩, s0, c0, wt, ws0, of0⟩ := sh
      simp only at hL hK hS hne hW'
      subst hL hK hS
      obtain ⟨ww, rfl⟩ : ∃ x, ww = x + 1 := ⟨ww - 1, by omega⟩
      have hc := hs.1.st
      simp only [val_vv] at hc
      have hv : IntKind.i32.wrap (vv (rb false false true) (ww + 1) + -7) = vv (rb true false true) ww := by rw [IntKind.wrap_i32]; simp [vv, rb]; omega
      have hs' : ShAt Y 92 99 (w.setCell ⟨Y.Lg, 0, none⟩ (.int .i32 (Mu.val ⟨true, false, true, ww⟩))) ⟨⟨true, false, true, ww⟩, s0, c0, wt, ws0, of0⟩ := ⟨hs.1.setSt _, (wg_set _ _ rfl).trans hs.2⟩
      rw [val_vv, ← hv] at hs'
      have hR := restGo (lg := lg) K hH hxc hq hmu hT d
      have st : St (.a1 false) ⟨false, false, true, ww + 1⟩ s0 .le ⟨true, false, true, ww⟩ s0 := St.a1
      refine ⟨_, _, _, _, _, _, st, stepG_add_atomic rfl rfl (by k_ne) rfl Try.func103 x103_n x103_b x103_x .i32 x103_f rfl rfl hc (hs.1.thaw 0), hs'.1, hs'.2.trans hs.2.symm, eff_set _ _ (.inl rfl), book_rw 0 _ (lb 0 (by simp)), 60, ?_⟩
      replace hF := K.eff hF (eff_set _ _ (.inl rfl)) hs'
      rw [hv] at hF
      rw [hv]
      clear hs' hv hc hs hloc st v1 v2 v3 v4
      walk_nrm
      repeat w_but "code.exit" K.rl
      u_exit K.rl hF
      simp only [RestP, REST, behindB, LB, loopOf, A3, A4, A5, A6, thnC, K22, X2, sndS, inB, body102, Try.f102, Option.getD_some] at hR
      exact goes_le (by omega) (hR _ _ _ _ _ _ _ _ _ _ _ _ _ _ _ _ _ _ _ _ _ _ _ _ _ _ _ _ _ _ _ _ _ _ _ _ _ _ _ _ _ _ _ _ _ _ _ _ _ _ _ _ _ _ _ _ _ _ _ _ _ _ _ _ _ _ _ _ _ _ _ _ _ _ _ _ _ _ _ _ _ _ _ _ _ _ _ _ _ _ _ _ _ _ _ _ _ _ _ _ _ _ _ _ _ _ _ _ _ _ _ _ _ _ _ _ _ _ _ _ _ _ _ _ _ _ _ _ _ _ _ _ _ _ _ _ _ _ _ hF)
end
end Go.Proofs.Ytpmmimcafkillaa.Tr
