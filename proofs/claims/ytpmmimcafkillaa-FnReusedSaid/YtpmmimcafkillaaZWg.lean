/-
  lockSlow: its pieces; its end.
  lockSlow: behind its compare-and-swap.
-/
import Derived.Test.YtpmmimcafkillaaZWe
set_option linter.unusedVariables false
set_option linter.unusedSimpArgs false
namespace Go.Proofs.Ytpmmimcafkillaa.Tr
open Go Go.Conc Go.ConcN Go.RowKit Go.Conc.Lib Go.ConcR.Gen Go.ConcM
open Go.ConcR (KK wgBlock WgAt stA smA rd wr mk DC0)
open Go.Proofs.Ytpmmimcafkillaa.Mx
open Go.Proofs.Ytpmmimcafkillaa.Mx (Mu St)
noncomputable def LB : Code := (loopOf body102).getD .skip
noncomputable def REST : Code := (behindB body102).getD .skip
def sndS : Code → Code
  | .seq _ y => y
  | c => c
def inB : Code → Code
  | .block _ c => c
  | c => c
noncomputable def X2 : Code := sndS (inB LB)
noncomputable def K22 : Code := sndS (sndS (sndS (sndS (sndS (sndS X2)))))
theorem andn_vv {r W : Nat} (hr : r < 8) (hW : W < 1000000) (h2 : r &&& 2 = 2) : bits .andNot .i32 (vv r W) 2 = vv (r - 2) W := by
  have h : bits .andNot .i32 (vv r W) 2 = IntKind.i32.wrap ((BitVec.ofInt 32 (vv r W) &&& ~~~ BitVec.ofInt 32 2).toNat : Int) := rfl
  have e : BitVec.ofInt 32 (vv r W) &&& ~~~ BitVec.ofInt 32 2 = BitVec.ofNat 32 (8 * W + (r - 2)) := by
    have ex : BitVec.ofInt 32 (vv r W) = BitVec.ofNat 32 (8 * W + r) := by
      apply BitVec.eq_of_toNat_eq
      rw [toNat_vv hr hW, BitVec.toNat_ofNat]
      omega
    rw [ex]
    apply BitVec.eq_of_getLsbD_eq
    intro i hi
    rw [BitVec.getLsbD_and, BitVec.getLsbD_not, BitVec.getLsbD_ofNat, BitVec.getLsbD_ofNat, show 8 * W + r = 2 ^ 3 * W + r from rfl, show 8 * W + (r - 2) = 2 ^ 3 * W + (r - 2) from rfl, Nat.testBit_two_pow_mul_add W (show r < 2 ^ 3 from hr) i, Nat.testBit_two_pow_mul_add W (show r - 2 < 2 ^ 3 by omega) i]
    have hr' : r = 2 ∨ r = 3 ∨ r = 6 ∨ r = 7 := by
      have : r = 0 ∨ r = 1 ∨ r = 2 ∨ r = 3 ∨ r = 4 ∨ r = 5 ∨ r = 6 ∨ r = 7 := by omega
      rcases this with rfl | rfl | rfl | rfl | rfl | rfl | rfl | rfl <;> simp at h2 ⊢
    by_cases h3 : i < 3
    · have : i = 0 ∨ i = 1 ∨ i = 2 := by omega
      rw [if_pos h3, if_pos h3]
      clear h3 hi h2 ex h
      rcases hr' with rfl | rfl | rfl | rfl <;> rcases this with rfl | rfl | rfl <;> decide
    · have : (BitVec.ofInt 32 2).getLsbD i = false := by
        have : BitVec.ofInt 32 2 = BitVec.ofNat 32 2 := rfl
        rw [this, BitVec.getLsbD_ofNat]
        have : (2 : Nat).testBit i = false := Nat.testBit_lt_two_pow (Nat.lt_of_lt_of_le (show (2 : Nat) < 2 ^ 3 by decide) (Nat.pow_le_pow_right (by omega) (by omega)))
        rw [this]; simp
      rw [this, if_neg h3, if_neg h3]
      simp [hi]
  rw [h, e, BitVec.toNat_ofNat, IntKind.wrap_i32, vv]
  omega
/-- lockSlow, by its loop's locals -/
def HeadP (Y : Lay) (Held : List Nat → World → Prop) (F : Nat → Prop) (Kn : World → Prop) (s : Bool) (k : Nat) (lg : List Nat) (b₁ : Frame) (a₁ : Act) (ops₁ : Array Oper) (i₁ : Nat) (rest₁ : List Nat) (k₁ : List Item) (cs₁ : List Frame) (d : Nat) (old : Mu) (aw sv : Bool) (it : Nat) (wst : Int) : Prop :=
  ∀ (j1 j7 j8 j9 j10 j11 j12 j13 j14 j15 j16 j17 j18 j19 j20 j21 j22 j23 j24 j25 j26 j27 j28 j29 j30 j31 j32 j33 j34 j35 j36 j37 j38 j39 j40 j41 j42 j43 j44 j45 j46 j47 j48 j49 j50 j51 j52 j53 j54 j55 j56 j57 j58 j59 j60 j61 j62 j63 j64 j65 j66 j67 j68 j69 j70 j71 j72 j73 j74 j75 j76 j77 j78 j79 j80 j81 j82 j83 j84 j85 j86 j87 j88 j89 j90 j91 j92 j93 j94 j95 j96 j97 j98 j99 j100 j101 j102 j103 j104 j105 j106 j107 j108 j109 j110 j111 j112 j113 j114 j115 j116 j117 j118 j119 j120 j121 j122 j123 j124 j125 j126 j127 j128 j129 j130 j131 j132 j133 j134 j135 j136 j137 j138 : Value) w, Kn w → GL Y Held s k F lg d (hd old aw sv it) 300 (G ((base 102).at ⟨#[.pointer (some ⟨Y.Lg, 0, none⟩), j1, .int .i64 wst, .bool sv, .bool aw, .int .i64 (it : Int), .int .i32 old.val, j7, j8, j9, j10, j11, j12, j13, j14, j15, j16, j17, j18, j19, j20, j21, j22, j23, j24, j25, j26, j27, j28, j29, j30, j31, j32, j33, j34, j35, j36, j37, j38, j39, j40, j41, j42, j43, j44, j45, j46, j47, j48, j49, j50, j51, j52, j53, j54, j55, j56, j57, j58, j59, j60, j61, j62, j63, j64, j65, j66, j67, j68, j69, j70, j71, j72, j73, j74, j75, j76, j77, j78, j79, j80, j81, j82, j83, j84, j85, j86, j87, j88, j89, j90, j91, j92, j93, j94, j95, j96, j97, j98, j99, j100, j101, j102, j103, j104, j105, j106, j107, j108, j109, j110, j111, j112, j113, j114, j115, j116, j117, j118, j119, j120, j121, j122, j123, j124, j125, j126, j127, j128, j129, j130, j131, j132, j133, j134, j135, j136, j137, j138], []⟩ [.code LB, .inLoop LB, .inBlock 0, .code REST]) (b₁.at a₁ (.inRegion ops₁ (i₁ :: rest₁) :: k₁) :: cs₁)) w
def C2P (Y : Lay) (Held : List Nat → World → Prop) (F : Nat → Prop) (Kn : World → Prop) (s : Bool) (k : Nat) (lg : List Nat) (b₁ : Frame) (a₁ : Act) (ops₁ : Array Oper) (i₁ : Nat) (rest₁ : List Nat) (k₁ : List Item) (cs₁ : List Frame) (d : Nat) (old : Mu) (aw sv : Bool) (it : Nat) (wst : Int) : Prop :=
  ∀ (j1 j7 j8 j9 j10 j11 j12 j13 j14 j15 j16 j17 j18 j19 j20 j21 j22 j23 j24 j25 j26 j27 j28 j29 j30 j31 j32 j33 j34 j35 j36 j37 j38 j39 j40 j41 j42 j43 j44 j45 j46 j47 j48 j49 j50 j51 j52 j53 j54 j55 j56 j57 j58 j59 j60 j61 j62 j63 j64 j65 j66 j67 j68 j69 j70 j71 j72 j73 j74 j75 j76 j77 j78 j79 j80 j81 j82 j83 j84 j85 j86 j87 j88 j89 j90 j91 j92 j93 j94 j95 j96 j97 j98 j99 j100 j101 j102 j103 j104 j105 j106 j107 j108 j109 j110 j111 j112 j113 j114 j115 j116 j117 j118 j119 j120 j121 j122 j123 j124 j125 j126 j127 j128 j129 j130 j131 j132 j133 j134 j135 j136 j137 j138 : Value) w, Kn w → GL Y Held s k F lg d (.c2 old aw sv it) 240 (G ((base 102).at ⟨#[.pointer (some ⟨Y.Lg, 0, none⟩), j1, .int .i64 wst, .bool sv, .bool aw, .int .i64 (it : Int), .int .i32 old.val, j7, j8, j9, j10, j11, j12, j13, j14, j15, j16, j17, j18, j19, j20, j21, j22, j23, j24, j25, j26, j27, j28, j29, j30, j31, j32, j33, j34, j35, j36, j37, j38, j39, j40, j41, j42, j43, j44, j45, j46, j47, j48, j49, j50, j51, j52, j53, j54, j55, j56, j57, j58, j59, j60, j61, j62, j63, j64, j65, j66, j67, j68, j69, j70, j71, j72, j73, j74, j75, j76, j77, j78, j79, j80, j81, j82, j83, j84, j85, j86, j87, j88, j89, j90, j91, j92, j93, j94, j95, j96, j97, j98, j99, j100, j101, j102, j103, j104, j105, j106, j107, j108, j109, j110, j111, j112, j113, j114, j115, j116, j117, j118, j119, j120, j121, j122, j123, j124, j125, j126, j127, j128, j129, j130, j131, j132, j133, j134, j135, j136, j137, j138], []⟩ [.code X2, .inBlock 1, .inLoop LB, .inBlock 0, .code REST]) (b₁.at a₁ (.inRegion ops₁ (i₁ :: rest₁) :: k₁) :: cs₁)) w
def K22P (Y : Lay) (Held : List Nat → World → Prop) (F : Nat → Prop) (Kn : World → Prop) (s : Bool) (k : Nat) (lg : List Nat) (b₁ : Frame) (a₁ : Act) (ops₁ : Array Oper) (i₁ : Nat) (rest₁ : List Nat) (k₁ : List Item) (cs₁ : List Frame) (d : Nat) (l : Mx.Lk) (old : Mu) (aw sv : Bool) (it : Nat) (wst : Int) (hit : Bool) : Prop :=
  ∀ (j1 j7 j8 j9 j10 j11 j12 j13 j14 j15 j16 j17 j18 j19 j20 j21 j22 j23 j24 j25 j26 j27 j28 j29 j30 j31 j32 j33 j34 j35 j36 j37 j38 j39 j40 j41 j42 j43 j44 j45 j46 j47 j48 j49 j50 j51 j52 j53 j54 j55 j56 j57 j58 j59 j60 j61 j62 j63 j64 j65 j66 j67 j68 j69 j70 j71 j72 j73 j74 j75 j76 j77 j78 j79 j81 j82 j83 j84 j85 j86 j87 j88 j89 j90 j91 j92 j93 j94 j95 j96 j97 j98 j99 j100 j101 j102 j103 j104 j105 j106 j107 j108 j109 j110 j111 j112 j113 j114 j115 j116 j117 j118 j119 j120 j121 j122 j123 j124 j125 j126 j127 j128 j129 j130 j131 j132 j133 j134 j135 j136 j137 j138 : Value) w, Kn w → GL Y Held s k F lg d l 100 (G ((base 102).at ⟨#[.pointer (some ⟨Y.Lg, 0, none⟩), j1, .int .i64 wst, .bool sv, .bool aw, .int .i64 (it : Int), .int .i32 old.val, j7, j8, j9, j10, j11, j12, j13, j14, j15, j16, j17, j18, j19, j20, j21, j22, j23, j24, j25, j26, j27, j28, j29, j30, j31, j32, j33, j34, j35, j36, j37, j38, j39, j40, j41, j42, j43, j44, j45, j46, j47, j48, j49, j50, j51, j52, j53, j54, j55, j56, j57, j58, j59, j60, j61, j62, j63, j64, j65, j66, j67, j68, j69, j70, j71, j72, j73, j74, j75, j76, j77, j78, j79, .bool hit, j81, j82, j83, j84, j85, j86, j87, j88, j89, j90, j91, j92, j93, j94, j95, j96, j97, j98, j99, j100, j101, j102, j103, j104, j105, j106, j107, j108, j109, j110, j111, j112, j113, j114, j115, j116, j117, j118, j119, j120, j121, j122, j123, j124, j125, j126, j127, j128, j129, j130, j131, j132, j133, j134, j135, j136, j137, j138], []⟩ [.code K22, .inBlock 1, .inLoop LB, .inBlock 0, .code REST]) (b₁.at a₁ (.inRegion ops₁ (i₁ :: rest₁) :: k₁) :: cs₁)) w
def RestP (Y : Lay) (Held : List Nat → World → Prop) (F : Nat → Prop) (Kn : World → Prop) (s : Bool) (k : Nat) (lg : List Nat) (b₁ : Frame) (a₁ : Act) (ops₁ : Array Oper) (i₁ : Nat) (rest₁ : List Nat) (k₁ : List Item) (cs₁ : List Frame) (d : Nat) : Prop :=
  ∀ (j1 j2 j3 j4 j5 j6 j7 j8 j9 j10 j11 j12 j13 j14 j15 j16 j17 j18 j19 j20 j21 j22 j23 j24 j25 j26 j27 j28 j29 j30 j31 j32 j33 j34 j35 j36 j37 j38 j39 j40 j41 j42 j43 j44 j45 j46 j47 j48 j49 j50 j51 j52 j53 j54 j55 j56 j57 j58 j59 j60 j61 j62 j63 j64 j65 j66 j67 j68 j69 j70 j71 j72 j73 j74 j75 j76 j77 j78 j79 j80 j81 j82 j83 j84 j85 j86 j87 j88 j89 j90 j91 j92 j93 j94 j95 j96 j97 j98 j99 j100 j101 j102 j103 j104 j105 j106 j107 j108 j109 j110 j111 j112 j113 j114 j115 j116 j117 j118 j119 j120 j121 j122 j123 j124 j125 j126 j127 j128 j129 j130 j131 j132 j133 j134 j135 j136 j137 j138 : Value) w, Kn w → GL Y Held s k F lg d .le 30 (G ((base 102).at ⟨#[.pointer (some ⟨Y.Lg, 0, none⟩), j1, j2, j3, j4, j5, j6, j7, j8, j9, j10, j11, j12, j13, j14, j15, j16, j17, j18, j19, j20, j21, j22, j23, j24, j25, j26, j27, j28, j29, j30, j31, j32, j33, j34, j35, j36, j37, j38, j39, j40, j41, j42, j43, j44, j45, j46, j47, j48, j49, j50, j51, j52, j53, j54, j55, j56, j57, j58, j59, j60, j61, j62, j63, j64, j65, j66, j67, j68, j69, j70, j71, j72, j73, j74, j75, j76, j77, j78, j79, j80, j81, j82, j83, j84, j85, j86, j87, j88, j89, j90, j91, j92, j93, j94, j95, j96, j97, j98, j99, j100, j101, j102, j103, j104, j105, j106, j107, j108, j109, j110, j111, j112, j113, j114, j115, j116, j117, j118, j119, j120, j121, j122, j123, j124, j125, j126, j127, j128, j129, j130, j131, j132, j133, j134, j135, j136, j137, j138], []⟩ [.code REST]) (b₁.at a₁ (.inRegion ops₁ (i₁ :: rest₁) :: k₁) :: cs₁)) w
/-- what the loop's head asks -/
def HdOk (old : Mu) (aw sv : Bool) (it : Nat) : Prop := Mx.lok (hd old aw sv it) ∧ it ≤ 4 ∧ old.W ≤ 1000
section
variable {Y : Lay} {Held : List Nat → World → Prop} {F : Nat → Prop} {Kn : World → Prop} {s : Bool} {k : Nat} {lg : List Nat} {xc : Mx.Th}
variable {b₁ : Frame} {a₁ : Act} {ops₁ : Array Oper} {i₁ : Nat} {rest₁ : List Nat} {k₁ : List Item} {cs₁ : List Frame}
set_option maxRecDepth 100000 in
set_option maxHeartbeats 16000000 in
theorem restGo (K : KnL Y 92 99 F Kn) (hH : ∀ l (v v' : World), v'.heap[Y.Mp]? = v.heap[Y.Mp]? → Held l v → Held l v') (hxc : ∀ sh, TSt (kx s .la) sh xc sh) (hq : xc ≠ .quit) (hmu : muteT xc = false) (hT : ∀ d l0, ∃ m, ∀ w, KnO Held Kn l0 w → GO Y Held k F l0 d xc m (G (b₁.at (a₁.put ((ops₁[i₁]?).bind (·.dst)) (.tuple #[])) (.inRegion ops₁ rest₁ :: k₁)) cs₁) w) (d : Nat) : RestP Y Held F Kn s k lg b₁ a₁ ops₁ i₁ rest₁ k₁ cs₁ d := by
  refine fun j1 j2 j3 j4 j5 j6 j7 j8 j9 j10 j11 j12 j13 j14 j15 j16 j17 j18 j19 j20 j21 j22 j23 j24 j25 j26 j27 j28 j29 j30 j31 j32 j33 j34 j35 j36 j37 j38 j39 j40 j41 j42 j43 j44 j45 j46 j47 j48 j49 j50 j51 j52 j53 j54 j55 j56 j57 j58 j59 j60 j61 j62 j63 j64 j65 j66 j67 j68 j69 j70 j71 j72 j73 j74 j75 j76 j77 j78 j79 j80 j81 j82 j83 j84 j85 j86 j87 j88 j89 j90 j91 j92 j93 j94 j95 j96 j97 j98 j99 j100 j101 j102 j103 j104 j105 j106 j107 j108 j109 j110 j111 j112 j113 j114 j115 j116 j117 j118 j119 j120 j121 j122 j123 j124 j125 j126 j127 j128 j129 j130 j131 j132 j133 j134 j135 j136 j137 j138 w hF => ?_
  simp only [REST, behindB, body102, Try.f102, Option.getD_some]
  repeat w_go K.rl
  -- STOP le
  refine Goes.stop (fun w r => ?_)
  replace hF := K.rl hF r
  clear r
  rcases d with _ | d
  · trivial
  refine lkStop rfl rfl (by simp) (by simp) (by simp) (by simp) (by simp) fun sh hs _ => ⟨.la, sh.m, sh.s, _, _, _, .le, stepG_mark0 .enable (by simp) rfl rfl (by k_ne) rfl wgLib.f_enable (x_enable_n link) (x_enable_b link) (x_enable_x link) (x_enable_f link), hs.1, rfl, eff_refl _, book_en 0, 30, ?_⟩
  walk_nrm
  repeat w_go K.rl
  u_in K.rl hF
  obtain ⟨sh1, hs1⟩ := K.live hF
  have hc := hs1.1.st
  refine goes_oper_k rfl rfl (by k_ne) (fun Kx hKx => ?_)
  have hcv := run_convert_to_unsafe (P := Try.prog) u135 wgLib.underlying_tUP z84 hc
  have hce := fun es => events_convert_to_unsafe (P := Try.prog) u135 wgLib.underlying_tUP z84 hc es
  go_simp
  refine hKx _ _ ⟨?_, ?_⟩
  · u_none
    intro ex hex
    have hmx := mem_listed hex
    simp [go_sem, hce] at hmx
  clear hKx Kx hcv hce hc hs1
  try walk_nrm
  repeat w_go K.rl
  -- STOP la
  refine Goes.stop (fun w r => ?_)
  replace hF := K.rl hF r
  clear r
  rcases d with _ | d
  · trivial
  refine laStop rfl rfl hxc hq hmu fun l0 hl0 => ⟨_, stepG_markAt .acquire (by simp) rfl rfl (by k_ne) rfl wgLib.f_acquire (x_acquire_n link) (x_acquire_b link) (x_acquire_x link) (x_acquire_f link) (by simp [Act.eval, Lay.lk]), ?_⟩
  obtain ⟨mT, hT'⟩ := hT d l0
  have hF : KnO Held Kn l0 w := ⟨hF, hl0⟩
  refine ⟨mT + 20, goes_idle (fun w => .idle w) (fun w => .refl w) ?_⟩
  walk_nrm
  repeat w_go (KnO.rl K hH)
  u_leave0 Try.func102 (KnO.rl K hH) hF
  refine Goes.stop (fun w r => ?_)
  exact hT' _ (KnO.rl K hH hF r)
end
end Go.Proofs.Ytpmmimcafkillaa.Tr

set_option linter.unusedVariables false
set_option linter.unusedSimpArgs false
namespace Go.Proofs.Ytpmmimcafkillaa.Tr
open Go Go.Conc Go.ConcN Go.RowKit Go.Conc.Lib Go.ConcR.Gen Go.ConcM
open Go.ConcR (KK wgBlock WgAt stA smA rd wr mk DC0)
open Go.Proofs.Ytpmmimcafkillaa.Mx
open Go.Proofs.Ytpmmimcafkillaa.Mx (Mu St)
theorem hd_deaf (old : Mu) (aw sv : Bool) (it : Nat) : deafL (Mx.hd old aw sv it) = 1 := by unfold Mx.hd; split <;> rfl
theorem hd_ok {x : Mx.Th} {sh : Shr} {aw sv : Bool} {it : Nat} (h : LocW x sh) (st : St (lkOf x) sh.m sh.s (Mx.hd sh.m aw sv it) sh.m sh.s) (hi : it ≤ 4) : HdOk sh.m aw sv it := by
  refine ⟨?_, hi, h.w⟩
  obtain ⟨sp, ths, i, hc, hx, hn, _⟩ := h
  have hinv := hc.inv.step (i := i) (x := lkOf x) (by simp [hx]) st
  exact hinv.loc _ (List.mem_of_getElem? (List.getElem?_set_self (lt_get (show (ths.map lkOf)[i]? = some (lkOf x) by simp [hx]))))
theorem nz5 {l k s : Bool} {W : Nat} (hW : W < 1000000) : (bits .and .i32 (vv (rb l k s) W) 5 == 0) = !(l || s) := by
  have e : bits .and .i32 (vv (rb l k s) W) 5 = ((l.toNat + 4 * s.toNat : Nat) : Int) := and_vv (c := 5) (rb_lt l k s) hW (by decide) (by cases l <;> cases k <;> cases s <;> decide)
  rw [e]
  cases l <;> cases s <;> rfl
section
variable {Y : Lay} {Held : List Nat → World → Prop} {F : Nat → Prop} {Kn : World → Prop} {s : Bool} {k : Nat} {lg : List Nat} {xc : Mx.Th}
variable {b₁ : Frame} {a₁ : Act} {ops₁ : Array Oper} {i₁ : Nat} {rest₁ : List Nat} {k₁ : List Item} {cs₁ : List Frame}
set_option maxRecDepth 100000 in
set_option maxHeartbeats 16000000 in
/-- it took the lock -/
theorem okL (K : KnL Y 92 99 F Kn) (hH : ∀ l (v v' : World), v'.heap[Y.Mp]? = v.heap[Y.Mp]? → Held l v → Held l v') (hxc : ∀ sh, TSt (kx s .la) sh xc sh) (hq : xc ≠ .quit) (hmu : muteT xc = false) (hT : ∀ d l0, ∃ m, ∀ w, KnO Held Kn l0 w → GO Y Held k F l0 d xc m (G (b₁.at (a₁.put ((ops₁[i₁]?).bind (·.dst)) (.tuple #[])) (.inRegion ops₁ rest₁ :: k₁)) cs₁) w) (d : Nat) (kk : Bool) (W : Nat) (hW : W ≤ 1000) (aw sv : Bool) (it : Nat) (wst : Int) : K22P Y Held F Kn s k lg b₁ a₁ ops₁ i₁ rest₁ k₁ cs₁ d .le ⟨false, kk, false, W⟩ aw sv it wst true := by
  refine fun j1 j7 j8 j9 j10 j11 j12 j13 j14 j15 j16 j17 j18 j19 j20 j21 j22 j23 j24 j25 j26 j27 j28 j29 j30 j31 j32 j33 j34 j35 j36 j37 j38 j39 j40 j41 j42 j43 j44 j45 j46 j47 j48 j49 j50 j51 j52 j53 j54 j55 j56 j57 j58 j59 j60 j61 j62 j63 j64 j65 j66 j67 j68 j69 j70 j71 j72 j73 j74 j75 j76 j77 j78 j79 j81 j82 j83 j84 j85 j86 j87 j88 j89 j90 j91 j92 j93 j94 j95 j96 j97 j98 j99 j100 j101 j102 j103 j104 j105 j106 j107 j108 j109 j110 j111 j112 j113 j114 j115 j116 j117 j118 j119 j120 j121 j122 j123 j124 j125 j126 j127 j128 j129 j130 j131 j132 j133 j134 j135 j136 j137 j138 w hF => ?_
  have v1 : (bits .and .i32 (vv (rb false kk false) W) 5 == 0) = true := nz5 (by omega)
  have hR := restGo (lg := lg) K hH hxc hq hmu hT d
  rw [val_vv]
  simp only [REST, behindB, LB, loopOf, K22, X2, sndS, inB, body102, Try.f102, Option.getD_some]
  repeat w_but "code.exit" K.rl
  u_exit K.rl hF
  simp only [RestP, REST, behindB, LB, loopOf, K22, X2, sndS, inB, body102, Try.f102, Option.getD_some] at hR
  exact goes_le (by omega) (hR _ _ _ _ _ _ _ _ _ _ _ _ _ _ _ _ _ _ _ _ _ _ _ _ _ _ _ _ _ _ _ _ _ _ _ _ _ _ _ _ _ _ _ _ _ _ _ _ _ _ _ _ _ _ _ _ _ _ _ _ _ _ _ _ _ _ _ _ _ _ _ _ _ _ _ _ _ _ _ _ _ _ _ _ _ _ _ _ _ _ _ _ _ _ _ _ _ _ _ _ _ _ _ _ _ _ _ _ _ _ _ _ _ _ _ _ _ _ _ _ _ _ _ _ _ _ _ _ _ _ _ _ _ _ _ _ _ _ _ hF)
set_option maxRecDepth 100000 in
set_option maxHeartbeats 16000000 in
/-- it missed: the word is looked at anew -/
theorem missGo (K : KnL Y 92 99 F Kn) (d : Nat) (ih : ∀ d', d' < d → ∀ (old : Mu) (aw sv : Bool) (it : Nat) (wst : Int), HdOk old aw sv it → HeadP Y Held F Kn s k lg b₁ a₁ ops₁ i₁ rest₁ k₁ cs₁ d' old aw sv it wst) (old : Mu) (aw sv : Bool) (it : Nat) (hi : it ≤ 4) (wst : Int) : K22P Y Held F Kn s k lg b₁ a₁ ops₁ i₁ rest₁ k₁ cs₁ d (.r3 aw sv it) old aw sv it wst false := by
  refine fun j1 j7 j8 j9 j10 j11 j12 j13 j14 j15 j16 j17 j18 j19 j20 j21 j22 j23 j24 j25 j26 j27 j28 j29 j30 j31 j32 j33 j34 j35 j36 j37 j38 j39 j40 j41 j42 j43 j44 j45 j46 j47 j48 j49 j50 j51 j52 j53 j54 j55 j56 j57 j58 j59 j60 j61 j62 j63 j64 j65 j66 j67 j68 j69 j70 j71 j72 j73 j74 j75 j76 j77 j78 j79 j81 j82 j83 j84 j85 j86 j87 j88 j89 j90 j91 j92 j93 j94 j95 j96 j97 j98 j99 j100 j101 j102 j103 j104 j105 j106 j107 j108 j109 j110 j111 j112 j113 j114 j115 j116 j117 j118 j119 j120 j121 j122 j123 j124 j125 j126 j127 j128 j129 j130 j131 j132 j133 j134 j135 j136 j137 j138 w hF => ?_
  simp only [REST, behindB, LB, loopOf, K22, X2, sndS, inB, body102, Try.f102, Option.getD_some]
  repeat w_go K.rl
  -- STOP r3
  refine Goes.stop (fun w r => ?_)
  replace hF := K.rl hF r
  clear r
  rcases d with _ | d
  · trivial
  refine lkStop rfl rfl (by simp) (by simp) (by simp) (by simp) (by simp) fun sh hs hloc => ?_
  have hlk := hloc.lok
  rw [lkOf_kx] at hlk
  by_cases hok : HdOk sh.m aw sv it
  · have hHd := ih d (by omega) sh.m aw sv it wst hok
    refine ⟨_, sh.m, sh.s, _, _, _, .r3, stepG_loadQ rfl rfl (by k_ne) rfl rfl hs.1.st q102, hs.1, rfl, eff_refl _, by rw [hd_deaf]; exact book_nil 1, 300 + 40, ?_⟩
    clear hs hloc
    walk_nrm
    repeat w_nl K.rl
    u_c stepG_inLoop K.rl hF
    simp only [HeadP, REST, behindB, LB, loopOf, K22, X2, sndS, inB, body102, Try.f102, Option.getD_some] at hHd
    exact goes_le (by omega) (hHd _ _ _ _ _ _ _ _ _ _ _ _ _ _ _ _ _ _ _ _ _ _ _ _ _ _ _ _ _ _ _ _ _ _ _ _ _ _ _ _ _ _ _ _ _ _ _ _ _ _ _ _ _ _ _ _ _ _ _ _ _ _ _ _ _ _ _ _ _ _ _ _ _ _ _ _ _ _ _ _ _ _ _ _ _ _ _ _ _ _ _ _ _ _ _ _ _ _ _ _ _ _ _ _ _ _ _ _ _ _ _ _ _ _ _ _ _ _ _ _ _ _ _ _ _ _ _ _ _ _ _ _ _ _ hF)
  · exfalso
    exact hok (hd_ok hloc (by rw [lkOf_kx]; exact .r3) hi)
end
end Go.Proofs.Ytpmmimcafkillaa.Tr
