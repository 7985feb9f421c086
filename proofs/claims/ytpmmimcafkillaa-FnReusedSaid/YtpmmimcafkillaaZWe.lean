/-
  Add(1), called by the starter: whole.
  Wait, called by the starter: whole.
  Unlock, entered as a deferred call by the owner: whole.
-/
import Derived.Test.YtpmmimcafkillaaZWn
set_option linter.unusedVariables false
set_option linter.unusedSimpArgs false
namespace Go.Proofs.Ytpmmimcafkillaa.Tr
open Go Go.Conc Go.ConcN Go.RowKit Go.Conc.Lib Go.ConcR.Gen Go.ConcM
open Go.ConcR (KK wgBlock WgAt stA smA rd wr mk DC0)
open Go.Proofs.Ytpmmimcafkillaa.Mx
open Go.Proofs.Ytpmmimcafkillaa.Mx (Mu St)
theorem u114 : Try.prog.underlying 114 = some (.pointer 82) := by kernel_rfl
theorem z82 : (Try.prog.info? 82).map (fun i => decide (i.size = 0)) = some false := by kernel_rfl
noncomputable def body58 : Code := Try.f58.body.getD .skip
section
variable {Y : Lay} {Held : List Nat → World → Prop} {F : Nat → Prop} {Kn : World → Prop} {n : Nat} {Fin : (Nat → Prop) → Goroutine → World → Prop}
variable {b₀ : Frame} {a₀ : Act} {ops₀ : Array Oper} {i₀ : Nat} {rest₀ : List Nat} {k₀ : List Item} {cs : List Frame}
set_option maxRecDepth 100000 in
set_option maxHeartbeats 16000000 in
/-- ████ Add(1) ████ -/
theorem addGo (K : KnL Y 92 99 F Kn) (r : Nat)
    (hT : ∀ d, ∃ m, ∀ w, Kn w → GoS Try.prog Y 92 99 F (AtS Try.prog Y 92 99 Held n Fin d (.go r) F) m (G (b₀.at (a₀.put ((ops₀[i₀]?).bind (·.dst)) (.tuple #[])) (.inRegion ops₀ rest₀ :: k₀)) cs) w) :
    ∀ d w, Kn w → Goes Try.prog true (RF Y 92 99 F false) DC0 (AtS Try.prog Y 92 99 Held n Fin d (.ad r) F) 40 (G ((base 58).at ⟨#[.pointer (some ⟨Y.Wg, 0, none⟩), .int .i64 1, undef, undef, undef, undef, undef, undef, undef, undef, undef, undef, undef, undef, undef, undef, undef, undef, undef, undef, undef, undef, undef, undef, undef, undef, undef, undef, undef, undef, undef, undef, undef, undef, undef, undef, undef, undef, undef, undef, undef, undef, undef, undef, undef, undef, undef, undef, undef, undef, undef, undef, undef, undef, undef, undef, undef, undef, undef, undef, undef, undef, undef, undef, undef, undef, undef, undef, undef, undef, undef, undef, undef, undef, undef, undef, undef, undef, undef, undef, undef, undef, undef, undef, undef, undef, undef, undef, undef, undef, undef, undef, undef, undef, undef, undef, undef, undef, undef, undef, undef, undef, undef, undef, undef, undef, undef, undef, undef, undef, undef, undef, undef, undef, undef, undef, undef], []⟩ [.code body58]) (b₀.at a₀ (.inRegion ops₀ (i₀ :: rest₀) :: k₀) :: cs)) w := by
  intro d w hF
  simp only [body58, Try.f58, Option.getD_some]
  repeat w_go K.rl
  -- STOP ad
  refine Goes.stop (fun w r => ?_)
  replace hF := K.rl hF r
  clear r
  rcases d with _ | d
  · trivial
  refine spStop rfl rfl (by simp) (by simp) (by simp) (by simp) rfl fun sh hs hloc => ⟨.aa r, sh, _, _, _, .ad, stepG_mark0 .disable (by simp) rfl rfl (by k_ne) rfl wgLib.f_disable (x_disable_n link) (x_disable_b link) (x_disable_x link) (x_disable_f link), hs, eff_refl _, book_dis 0, 90, goes_dc0 (fun w => .idle w) ?_⟩
  clear hs hloc
  walk_nrm
  repeat w_go K.rl
  u_defer K.rl hF
  repeat w_go K.rl
  u_in K.rl hF
  rw [stepG_entry_pure (.bool false) rfl rfl (by k_ne) rfl wgLib.f_inBubble (x_inBubble_n link) (x_inBubble_b link) (x_inBubble_x link) (x_inBubble_f link)]
  simp only [goes_go]
  refine ⟨by u_nil, ?_⟩
  walk_nrm
  repeat w_go K.rl
  u_call Try.func77 nm77 Try.f77 K.rl hF
  repeat w_go K.rl
  m_num
  -- STOP aa
  refine Goes.stop (fun w r => ?_)
  replace hF := K.rl hF r
  clear r
  rcases d with _ | d
  · trivial
  refine spStop rfl rfl (by simp) (by simp) (by simp) (by simp) rfl fun sh hs hloc => ?_
  have hb := hloc.cwt.1
  obtain ⟨hwt, hws⟩ := hloc.free (by simp)
  obtain ⟨mu, s0, cc, wt, ws, oft⟩ := sh
  simp only at hb hwt hws
  subst hwt hws
  have eS := st_inc cc 0 hb (by omega)
  have hs' := hs.setSt (cc + 1) 0
  refine ⟨.ae r, _, _, _, _, .aa, stepG_add_atomic rfl rfl (by k_ne) rfl wgLib.f_addU64 (x_addU64_n link) (x_addU64_b link) (x_addU64_x link) .u64 (x_addU64_f link) rfl rfl hs.2.cellSt (hs.2.thaw 0), by rw [eS]; exact hs', eff_set _ _ (.inr rfl), book_rw 0 _ (wb 0), 60 + 140, ?_⟩
  simp only [eS]
  replace hF := K.eff hF (eff_set (stA Y.Wg) _ (.inr rfl)) hs'
  clear hs' hs hloc eS
  rcases Nat.eq_zero_or_pos cc with rfl | hv
  · rw [show ((0 + 1 : Nat) : Int) * KK + ((0 : Nat) : Int) = 4294967296 by decide] at hF ⊢
    refine goes_idle (fun w => .idle w) (fun w => .refl w) ?_
    walk_nrm
    repeat w_go K.rl
    u_leave1 Try.func77 K.rl hF
    repeat w_go K.rl
    u_in K.rl hF
    obtain ⟨sh1, hs1⟩ := K.live hF
    have hcl := hs1.2.cellSm
    simp only [smA] at hcl
    refine goes_oper_k rfl rfl (by k_ne) (fun Kx hKx => ?_)
    have hcv := run_convert_to_unsafe (P := Try.prog) u114 wgLib.underlying_tUP z82 hcl
    have hce := fun es => events_convert_to_unsafe (P := Try.prog) u114 wgLib.underlying_tUP z82 hcl es
    go_simp
    refine hKx _ _ ⟨?_, ?_⟩
    · u_none
      intro ex hex
      have hmx := mem_listed hex
      simp [go_sem, hce] at hmx
    clear hKx Kx hcv hce hcl hs1
    try walk_nrm
    refine Goes.stop (fun w r => ?_)
    replace hF := K.rl hF r
    clear r
    -- it says that it reads the semaphore
    u_in K.rl hF
    rw [stepG_markAt .read (by simp) rfl rfl (by k_ne) rfl wgLib.f_raceRead (x_raceRead_n link) (x_raceRead_b link) (x_raceRead_x link) (x_raceRead_f link) (ad := ⟨Y.Wg, 1, none⟩) (by simp [Act.eval])]
    simp only [goes_go]
    refine ⟨df_read _ 1, ?_⟩
    refine goes_dc0 (fun w => .idle w) ?_
    walk_nrm
    repeat w_go K.rl
    refine Goes.stop (fun w r => ?_)
    replace hF := K.rl hF r
    clear r
    rcases d with _ | d
    · trivial
    refine spStop rfl rfl (by simp) (by simp) (by simp) (by simp) rfl fun sh hs hloc => ?_
    obtain ⟨mT, hT'⟩ := hT d
    refine ⟨.go r, sh, _, _, _, .ae, stepG_unwind_entry (v := .tuple #[]) (evs := #[mk .enable]) rfl wgLib.f_enable (x_enable_n link) (x_enable_b link) (x_enable_x link) (x_enable_f link) (by simp [Extern.Race.none_]) (by simp [mk]) (by simp [mk]), hs, eff_refl _, book_en 0, mT + 1, ?_⟩
    clear hs hloc
    refine goes_idle (fun w => .idle w) (fun w => .refl w) ?_
    u_leave0 Try.func58 K.rl hF
    refine Goes.stop (fun w r => ?_)
    exact hT' _ (K.rl hF r)
  · have c1 : IntKind.i32.wrap ((cc + 1 : Nat) : Int) = ((cc + 1 : Nat) : Int) := by rw [IntKind.wrap_i32]; omega
    obtain ⟨a1, a2, b1, b2⟩ := st_parts (cc + 1) 0 (by omega) (by omega)
    generalize hV : ((cc + 1 : Nat) : Int) = V at hF a1 a2 b1 b2 c1 ⊢
    generalize V * KK + ((0 : Nat) : Int) = S at hF a1 a2 b1 b2 ⊢
    replace b2 : bits .and .u64 S 2147483647 = 0 := b2
    have hV1 : 1 < V := by omega
    have hV2 : V < 2147483648 := by omega
    have q1 : (V == 1) = false := by simp; omega
    have q2 : decide (V = 1) = false := decide_eq_false (by omega)
    have q3 : decide (V < 0) = false := decide_eq_false (by omega)
    have q4 : decide (0 < V) = true := decide_eq_true (by omega)
    have q5 : (V == 0) = false := by simp; omega
    have q6 : decide (V = 0) = false := decide_eq_false (by omega)
    clear hV hv hb
    refine goes_dc0 (fun w => .idle w) ?_
    walk_nrm
    repeat w_go K.rl
    u_leave1 Try.func77 K.rl hF
    repeat (first | w_go K.rl | u_cnd false K.rl hF | u_cnd true K.rl hF)
    refine Goes.stop (fun w r => ?_)
    replace hF := K.rl hF r
    clear r
    rcases d with _ | d
    · trivial
    refine spStop rfl rfl (by simp) (by simp) (by simp) (by simp) rfl fun sh hs hloc => ?_
    obtain ⟨mT, hT'⟩ := hT d
    refine ⟨.go r, sh, _, _, _, .ae, stepG_unwind_entry (v := .tuple #[]) (evs := #[mk .enable]) rfl wgLib.f_enable (x_enable_n link) (x_enable_b link) (x_enable_x link) (x_enable_f link) (by simp [Extern.Race.none_]) (by simp [mk]) (by simp [mk]), hs, eff_refl _, book_en 0, mT + 1, ?_⟩
    clear hs hloc
    refine goes_idle (fun w => .idle w) (fun w => .refl w) ?_
    u_leave0 Try.func58 K.rl hF
    refine Goes.stop (fun w r => ?_)
    exact hT' _ (K.rl hF r)
end
end Go.Proofs.Ytpmmimcafkillaa.Tr

set_option linter.unusedVariables false
set_option linter.unusedSimpArgs false
namespace Go.Proofs.Ytpmmimcafkillaa.Tr
open Go Go.Conc Go.ConcN Go.RowKit Go.Conc.Lib Go.ConcR.Gen Go.ConcM
open Go.ConcR (KK wgBlock WgAt stA smA rd wr mk DC0)
open Go.Proofs.Ytpmmimcafkillaa.Mx
open Go.Proofs.Ytpmmimcafkillaa.Mx (Mu St)
theorem nm63' : (Try.f63.name == "runtime.NumGoroutine") = false := by kernel_rfl
noncomputable def body63 : Code := Try.f63.body.getD .skip
noncomputable def LW : Code := (loopOf body63).getD .skip
section
variable {Y : Lay} {Held : List Nat → World → Prop} {F : Nat → Prop} {Kn : World → Prop} {n : Nat} {Fin : (Nat → Prop) → Goroutine → World → Prop}
variable {b₀ : Frame} {a₀ : Act} {ops₀ : Array Oper} {i₀ : Nat} {rest₀ : List Nat} {k₀ : List Item} {cs : List Frame}
def HeadW (Y : Lay) (Held : List Nat → World → Prop) (F : Nat → Prop) (Kn : World → Prop) (n : Nat) (Fin : (Nat → Prop) → Goroutine → World → Prop) (b₀ : Frame) (a₀ : Act) (ops₀ : Array Oper) (i₀ : Nat) (rest₀ : List Nat) (k₀ : List Item) (cs : List Frame) (d : Nat) : Prop :=
  ∀ (j1 j2 j3 j4 j5 j6 j7 j8 j9 j10 j11 j12 j13 j14 j15 j16 j17 j18 j19 j20 j21 j22 j23 j24 j25 j26 j27 j28 j29 j30 j31 j32 j33 j34 j35 j36 j37 j38 j39 j40 j41 j42 j43 j44 j45 j46 j47 j48 j49 j50 j51 j52 j53 j54 j55 j56 j57 j58 j59 j60 j61 j62 j63 j64 j65 j66 j67 j68 j69 j70 j71 j72 j73 j74 j75 j76 j77 j78 j79 j80 j81 j82 j83 : Value) w, Kn w → Goes Try.prog true (RF Y 92 99 F false) DC0 (AtS Try.prog Y 92 99 Held n Fin d .w1 F) 60 (G ((base 63).at ⟨#[.pointer (some ⟨Y.Wg, 0, none⟩), j1, j2, j3, j4, j5, j6, j7, j8, j9, j10, j11, j12, j13, j14, j15, j16, j17, j18, j19, j20, j21, j22, j23, j24, j25, j26, j27, j28, j29, j30, j31, j32, j33, j34, j35, j36, j37, j38, j39, j40, j41, j42, j43, j44, j45, j46, j47, j48, j49, j50, j51, j52, j53, j54, j55, j56, j57, j58, j59, j60, j61, j62, j63, j64, j65, j66, j67, j68, j69, j70, j71, j72, j73, j74, j75, j76, j77, j78, j79, j80, j81, j82, j83], []⟩ [.code LW, .inLoop LW, .inBlock 0]) (b₀.at a₀ (.inRegion ops₀ (i₀ :: rest₀) :: k₀) :: cs)) w
set_option maxRecDepth 100000 in
set_option maxHeartbeats 16000000 in
/-- ████ Wait's LOOP, at every depth ████ -/
theorem headW (K : KnL Y 92 99 F Kn)
    (hFin : ∀ g w m, Kn w → Goes Try.prog true AtRel DC0 (fun g' w' => g' = (G (b₀.at (a₀.put ((ops₀[i₀]?).bind (·.dst)) (.tuple #[])) (.inRegion ops₀ rest₀ :: k₀)) cs) ∧ Kn w') m g w → Fin F g w) : ∀ d, HeadW Y Held F Kn n Fin b₀ a₀ ops₀ i₀ rest₀ k₀ cs d := by
  intro d
  induction d using Nat.strongRecOn with
  | _ d ih =>
  refine fun j1 j2 j3 j4 j5 j6 j7 j8 j9 j10 j11 j12 j13 j14 j15 j16 j17 j18 j19 j20 j21 j22 j23 j24 j25 j26 j27 j28 j29 j30 j31 j32 j33 j34 j35 j36 j37 j38 j39 j40 j41 j42 j43 j44 j45 j46 j47 j48 j49 j50 j51 j52 j53 j54 j55 j56 j57 j58 j59 j60 j61 j62 j63 j64 j65 j66 j67 j68 j69 j70 j71 j72 j73 j74 j75 j76 j77 j78 j79 j80 j81 j82 j83 w hF => ?_
  simp only [HeadW, LW, loopOf, body63, Try.f63, Option.getD_some] at ih
  simp only [LW, loopOf, body63, Try.f63, Option.getD_some]
  repeat w_go K.rl
  u_call Try.func79 nm79 Try.f79 K.rl hF
  repeat w_go K.rl
  -- STOP w1
  refine Goes.stop (fun w r => ?_)
  replace hF := K.rl hF r
  clear r
  rcases d with _ | d
  · trivial
  refine spStop rfl rfl (by simp) (by simp) (by simp) (by simp) rfl fun sh hs hloc => ?_
  have hb := hloc.cwt.1
  obtain ⟨hwt, hws⟩ := hloc.free (by simp)
  have hst := hs.2.cellSt
  rw [hwt] at hst
  by_cases h0 : sh.c = 0
  · rw [h0, show ((0 : Nat) : Int) * KK + ((0 : Nat) : Int) = 0 by decide] at hst
    refine ⟨.ke, sh, _, _, _, .w1z h0, stepG_load_atomic rfl rfl (by k_ne) rfl wgLib.f_loadU64 (x_loadU64_n link) (x_loadU64_b link) (x_loadU64_x link) .u64 (x_loadU64_f link) rfl hst, hs, eff_refl _, book_one 0 _ false (wb 0), 60, goes_dc0 (fun w => .idle w) ?_⟩
    clear hst hs hloc h0 hwt hws hb
    walk_nrm
    repeat w_go K.rl
    u_leave1 Try.func79 K.rl hF
    repeat w_go K.rl
    -- STOP ke
    refine Goes.stop (fun w r => ?_)
    replace hF := K.rl hF r
    clear r
    rcases d with _ | d
    · trivial
    refine spStop rfl rfl (by simp) (by simp) (by simp) (by simp) rfl fun sh hs hloc => ⟨.aq, sh, _, _, _, .ke, stepG_mark0 .enable (by simp) rfl rfl (by k_ne) rfl wgLib.f_enable (x_enable_n link) (x_enable_b link) (x_enable_x link) (x_enable_f link), hs, eff_refl _, book_en 0, 30, goes_dc0 (fun w => .idle w) ?_⟩
    clear hs hloc
    walk_nrm
    repeat w_go K.rl
    u_in K.rl hF
    obtain ⟨sh1, hs1⟩ := K.live hF
    have hcl := hs1.2.cellSt
    simp only [stA] at hcl
    refine goes_oper_k rfl rfl (by k_ne) (fun Kx hKx => ?_)
    have hcv := run_convert_to_unsafe (P := Try.prog) u106 wgLib.underlying_tUP z99 hcl
    have hce := fun es => events_convert_to_unsafe (P := Try.prog) u106 wgLib.underlying_tUP z99 hcl es
    go_simp
    refine hKx _ _ ⟨?_, ?_⟩
    · u_none
      intro ex hex
      have hmx := mem_listed hex
      simp [go_sem, hce] at hmx
    clear hKx Kx hcv hce hcl hs1
    try walk_nrm
    repeat w_go K.rl
    -- STOP aq
    refine Goes.stop (fun w r => ?_)
    replace hF := K.rl hF r
    clear r
    rcases d with _ | d
    · trivial
    refine ⟨rfl, rfl, fun sh hs hloc => ⟨_, w, stepG_markAt .acquire (by simp) rfl rfl (by k_ne) rfl wgLib.f_acquire (x_acquire_n link) (x_acquire_b link) (x_acquire_x link) (x_acquire_f link) (by simp [Act.eval, stA]), rfl, hFin _ _ 40 hF ?_⟩⟩
    clear hs hloc
    have hrl : ∀ {v v₁ : World}, Kn v → AtRel v v₁ → Kn v₁ := fun h r => by obtain ⟨e, rfl⟩ := r; exact K.rl h (RF.at _ e)
    walk_nrm
    repeat w_go hrl
    u_leave0 Try.func63 hrl hF
    exact Goes.stop (fun w r => ⟨rfl, hrl hF r⟩)
  · obtain ⟨cc, hcc⟩ : ∃ cc, sh.c = cc := ⟨_, rfl⟩
    rw [hcc] at hst h0 hb
    obtain ⟨a1, a2, b1, b2⟩ := st_parts cc 0 (by omega) (by omega)
    have e0 : ((cc : Nat) : Int) * KK + ((0 : Nat) : Int) = (cc : Int) * KK := by simp
    rw [e0] at hst a1 a2 b1 b2
    obtain ⟨S, hS⟩ : ∃ S : Int, (cc : Int) * KK = S := ⟨_, rfl⟩
    have w1 : IntKind.u64.wrap (S + 1) = S + 1 := by rw [IntKind.wrap_u64, ← hS]; simp only [KK]; omega
    obtain ⟨V, hV⟩ : ∃ V : Int, (cc : Int) = V := ⟨_, rfl⟩
    rw [hS] at hst a1 a2 b1 b2
    rw [hV] at a1
    have c1 : IntKind.i32.wrap V = V := by rw [IntKind.wrap_i32]; omega
    replace b2 : bits .and .u64 S 2147483647 = 0 := b2
    have q3 : decide (V < 0) = false := decide_eq_false (by omega)
    have q4 : decide (0 < V) = true := decide_eq_true (by omega)
    have q5 : (V == 0) = false := by simp; omega
    have q6 : decide (V = 0) = false := decide_eq_false (by omega)
    refine ⟨.w2 sh.c, sh, _, _, _, .w1n (by rw [hcc]; exact h0), stepG_load_atomic rfl rfl (by k_ne) rfl wgLib.f_loadU64 (x_loadU64_n link) (x_loadU64_b link) (x_loadU64_x link) .u64 (x_loadU64_f link) rfl hst, hs, eff_refl _, book_one 0 _ false (wb 0), 90, goes_dc0 (fun w => .idle w) ?_⟩
    rw [hcc]
    clear hst hs hloc hwt hws hb hcc e0 sh
    walk_nrm
    repeat w_go K.rl
    u_leave1 Try.func79 K.rl hF
    repeat (first | w_go K.rl | u_cnd false K.rl hF | u_cnd true K.rl hF)
    u_call Try.func88 nm88 Try.f88 K.rl hF
    repeat w_go K.rl
    -- STOP w2
    refine Goes.stop (fun w r => ?_)
    replace hF := K.rl hF r
    clear r
    rcases d with _ | d
    · trivial
    refine spStop rfl rfl (by simp) (by simp) (by simp) (by simp) rfl fun sh hs hloc => ?_
    obtain ⟨hwt, hws⟩ := hloc.free (by simp)
    have hst := hs.2.cellSt
    rw [hwt] at hst
    by_cases hm : sh.c = cc
    · rw [hm] at hst
      rw [show ((cc : Nat) : Int) * KK + ((0 : Nat) : Int) = S by rw [← hS]; simp] at hst
      have hs' := hs.setSt cc 1
      have esh : ({ sh with c := cc, wt := 1 } : Shr) = { sh with wt := 1 } := by rw [← hm]
      rw [esh, show ((cc : Nat) : Int) * KK + ((1 : Nat) : Int) = S + 1 by rw [← hS]; simp] at hs'
      refine ⟨.w3, { sh with wt := 1 }, _, _, _, by rw [← hm]; exact .w2y, stepG_cas_hit (v := S) (n := S + 1) rfl rfl (by k_ne) rfl wgLib.f_casU64 (x_casU64_n link) (x_casU64_b link) (x_casU64_x link) .u64 (x_casU64_f link) rfl rfl rfl hst (hs.2.thaw 0), hs', eff_set _ _ (.inr rfl), book_rw 0 _ (wb 0), 60 + 60, ?_⟩
      replace hF := K.eff hF (eff_set (stA Y.Wg) _ (.inr rfl)) hs'
      clear hs' hs hst hloc hm hwt hws esh
      refine goes_idle (fun w => .idle w) (fun w => .refl w) ?_
      walk_nrm
      repeat w_go K.rl
      u_leave1 Try.func88 K.rl hF
      repeat w_go K.rl
      u_in K.rl hF
      obtain ⟨sh1, hs1⟩ := K.live hF
      have hcl := hs1.2.cellSm
      simp only [smA] at hcl
      refine goes_oper_k rfl rfl (by k_ne) (fun Kx hKx => ?_)
      have hcv := run_convert_to_unsafe (P := Try.prog) u114 wgLib.underlying_tUP z82 hcl
      have hce := fun es => events_convert_to_unsafe (P := Try.prog) u114 wgLib.underlying_tUP z82 hcl es
      go_simp
      refine hKx _ _ ⟨?_, ?_⟩
      · u_none
        intro ex hex
        have hmx := mem_listed hex
        simp [go_sem, hce] at hmx
      clear hKx Kx hcv hce hcl hs1
      try walk_nrm
      refine Goes.stop (fun w r => ?_)
      replace hF := K.rl hF r
      clear r
      -- it says that it writes the semaphore
      u_in K.rl hF
      rw [stepG_markAt .write (by simp) rfl rfl (by k_ne) rfl wgLib.f_raceWrite (x_raceWrite_n link) (x_raceWrite_b link) (x_raceWrite_x link) (x_raceWrite_f link) (ad := ⟨Y.Wg, 1, none⟩) (by simp [Act.eval])]
      simp only [goes_go]
      refine ⟨df_write _ 1, ?_⟩
      refine goes_dc0 (fun w => .idle w) ?_
      walk_nrm
      repeat w_go K.rl
      -- STOP w3
      refine Goes.stop (fun w r => ?_)
      replace hF := K.rl hF r
      clear r
      rcases d with _ | d
      · trivial
      refine w3Stop rfl rfl fun sh hs hloc => ⟨fun h0 => stepG_semacquire_wait (ad := ⟨Y.Wg, 1, none⟩) rfl rfl rfl wgLib.f_semacquire (x_semacquire_n link) (x_semacquire_b link) (x_semacquire_x link) (x_semacquire_f link) (by simp [Act.eval]) (by have := hs.2.cellSm; rw [h0] at this; exact this), fun s' hs1 => ?_⟩
      have hc := hs.2.cellSm
      have hs' := hs.setSm s'
      have e1 : (sh.ws : Int) - 1 = (s' : Int) := by omega
      rw [← e1] at hs'
      refine ⟨_, _, _, stepG_semacquire rfl rfl (by k_ne) rfl wgLib.f_semacquire (x_semacquire_n link) (x_semacquire_b link) (x_semacquire_x link) (x_semacquire_f link) (by simp [Act.eval, smA]) hc (by omega) (hs.2.thaw 1), hs', eff_set _ _ (.inr rfl), book_sem 0 _ (wb 1), 60, goes_dc0 (fun w => .idle w) ?_⟩
      replace hF := K.eff hF (eff_set (smA Y.Wg) _ (.inr rfl)) hs'
      clear hs' hs hc hloc hs1 e1
      walk_nrm
      repeat w_go K.rl
      u_call Try.func79 nm79 Try.f79 K.rl hF
      repeat w_go K.rl
      -- STOP w4
      refine Goes.stop (fun w r => ?_)
      replace hF := K.rl hF r
      clear r
      rcases d with _ | d
      · trivial
      refine spStop rfl rfl (by simp) (by simp) (by simp) (by simp) rfl fun sh hs hloc => ?_
      obtain ⟨hwt, hws⟩ := hloc.free (by simp)
      have hc0 := hloc.done (.inl rfl)
      have hst := hs.2.cellSt
      rw [hwt, hc0, show ((0 : Nat) : Int) * KK + ((0 : Nat) : Int) = 0 by decide] at hst
      refine ⟨.ke, sh, _, _, _, .w4, stepG_load_atomic rfl rfl (by k_ne) rfl wgLib.f_loadU64 (x_loadU64_n link) (x_loadU64_b link) (x_loadU64_x link) .u64 (x_loadU64_f link) rfl hst, hs, eff_refl _, book_one 0 _ false (wb 0), 60, goes_dc0 (fun w => .idle w) ?_⟩
      clear hst hs hloc hwt hws hc0
      walk_nrm
      repeat w_go K.rl
      u_leave1 Try.func79 K.rl hF
      repeat w_go K.rl
      -- STOP ke
      refine Goes.stop (fun w r => ?_)
      replace hF := K.rl hF r
      clear r
      rcases d with _ | d
      · trivial
      refine spStop rfl rfl (by simp) (by simp) (by simp) (by simp) rfl fun sh hs hloc => ⟨.aq, sh, _, _, _, .ke, stepG_mark0 .enable (by simp) rfl rfl (by k_ne) rfl wgLib.f_enable (x_enable_n link) (x_enable_b link) (x_enable_x link) (x_enable_f link), hs, eff_refl _, book_en 0, 30, goes_dc0 (fun w => .idle w) ?_⟩
      clear hs hloc
      walk_nrm
      repeat w_go K.rl
      u_in K.rl hF
      obtain ⟨sh1, hs1⟩ := K.live hF
      have hcl := hs1.2.cellSt
      simp only [stA] at hcl
      refine goes_oper_k rfl rfl (by k_ne) (fun Kx hKx => ?_)
      have hcv := run_convert_to_unsafe (P := Try.prog) u106 wgLib.underlying_tUP z99 hcl
      have hce := fun es => events_convert_to_unsafe (P := Try.prog) u106 wgLib.underlying_tUP z99 hcl es
      go_simp
      refine hKx _ _ ⟨?_, ?_⟩
      · u_none
        intro ex hex
        have hmx := mem_listed hex
        simp [go_sem, hce] at hmx
      clear hKx Kx hcv hce hcl hs1
      try walk_nrm
      repeat w_go K.rl
      -- STOP aq
      refine Goes.stop (fun w r => ?_)
      replace hF := K.rl hF r
      clear r
      rcases d with _ | d
      · trivial
      refine ⟨rfl, rfl, fun sh hs hloc => ⟨_, w, stepG_markAt .acquire (by simp) rfl rfl (by k_ne) rfl wgLib.f_acquire (x_acquire_n link) (x_acquire_b link) (x_acquire_x link) (x_acquire_f link) (by simp [Act.eval, stA]), rfl, hFin _ _ 40 hF ?_⟩⟩
      clear hs hloc
      have hrl : ∀ {v v₁ : World}, Kn v → AtRel v v₁ → Kn v₁ := fun h r => by obtain ⟨e, rfl⟩ := r; exact K.rl h (RF.at _ e)
      walk_nrm
      repeat w_go hrl
      u_leave0 Try.func63 hrl hF
      exact Goes.stop (fun w r => ⟨rfl, hrl hF r⟩)
    · refine ⟨.w1, sh, _, _, _, .w2n hm, stepG_cas_miss (old := S) (n := S + 1) rfl rfl (by k_ne) rfl wgLib.f_casU64 (x_casU64_n link) (x_casU64_b link) (x_casU64_x link) .u64 (x_casU64_f link) rfl rfl rfl hst (hs.2.thaw 0) (by rw [← hS]; simp only [KK]; omega), hs, eff_refl _, book_one 0 _ false (wb 0), 60 + 20, goes_dc0 (fun w => .idle w) ?_⟩
      clear hst hs hloc hwt hws hm
      walk_nrm
      repeat w_go K.rl
      u_leave1 Try.func88 K.rl hF
      repeat w_nl K.rl
      u_c stepG_inLoop K.rl hF
      exact goes_le (by omega) (ih d (by omega) _ _ _ _ _ _ _ _ _ _ _ _ _ _ _ _ _ _ _ _ _ _ _ _ _ _ _ _ _ _ _ _ _ _ _ _ _ _ _ _ _ _ _ _ _ _ _ _ _ _ _ _ _ _ _ _ _ _ _ _ _ _ _ _ _ _ _ _ _ _ _ _ _ _ _ _ _ _ _ _ _ _ _ _ hF)

set_option maxRecDepth 100000 in
set_option maxHeartbeats 16000000 in
/-- ████ Wait ████ -/
theorem waitGo (K : KnL Y 92 99 F Kn)
    (hFin : ∀ g w m, Kn w → Goes Try.prog true AtRel DC0 (fun g' w' => g' = (G (b₀.at (a₀.put ((ops₀[i₀]?).bind (·.dst)) (.tuple #[])) (.inRegion ops₀ rest₀ :: k₀)) cs) ∧ Kn w') m g w → Fin F g w) :
    ∀ d w, Kn w → Goes Try.prog true (RF Y 92 99 F false) DC0 (AtS Try.prog Y 92 99 Held n Fin d .kd F) 40 (G ((base 63).at ⟨#[.pointer (some ⟨Y.Wg, 0, none⟩), undef, undef, undef, undef, undef, undef, undef, undef, undef, undef, undef, undef, undef, undef, undef, undef, undef, undef, undef, undef, undef, undef, undef, undef, undef, undef, undef, undef, undef, undef, undef, undef, undef, undef, undef, undef, undef, undef, undef, undef, undef, undef, undef, undef, undef, undef, undef, undef, undef, undef, undef, undef, undef, undef, undef, undef, undef, undef, undef, undef, undef, undef, undef, undef, undef, undef, undef, undef, undef, undef, undef, undef, undef, undef, undef, undef, undef, undef, undef, undef, undef, undef, undef], []⟩ [.code body63]) (b₀.at a₀ (.inRegion ops₀ (i₀ :: rest₀) :: k₀) :: cs)) w := by
  intro d w hF
  simp only [body63, Try.f63, Option.getD_some]
  repeat w_go K.rl
  -- STOP kd
  refine Goes.stop (fun w r => ?_)
  replace hF := K.rl hF r
  clear r
  rcases d with _ | d
  · trivial
  have hH := headW (n := n) (Held := Held) (Fin := Fin) K hFin d
  refine spStop rfl rfl (by simp) (by simp) (by simp) (by simp) rfl fun sh hs hloc => ⟨.w1, sh, _, _, _, .kd, stepG_mark0 .disable (by simp) rfl rfl (by k_ne) rfl wgLib.f_disable (x_disable_n link) (x_disable_b link) (x_disable_x link) (x_disable_f link), hs, eff_refl _, book_dis 0, 60 + 30, goes_dc0 (fun w => .idle w) ?_⟩
  clear hs hloc
  simp only [HeadW, LW, loopOf, body63, Try.f63, Option.getD_some] at hH
  walk_nrm
  repeat w_but "code.loop" K.rl
  u_c stepG_loop K.rl hF
  exact goes_le (by omega) (hH _ _ _ _ _ _ _ _ _ _ _ _ _ _ _ _ _ _ _ _ _ _ _ _ _ _ _ _ _ _ _ _ _ _ _ _ _ _ _ _ _ _ _ _ _ _ _ _ _ _ _ _ _ _ _ _ _ _ _ _ _ _ _ _ _ _ _ _ _ _ _ _ _ _ _ _ _ _ _ _ _ _ _ _ hF)
end
end Go.Proofs.Ytpmmimcafkillaa.Tr

set_option linter.unusedVariables false
set_option linter.unusedSimpArgs false
namespace Go.Proofs.Ytpmmimcafkillaa.Tr
open Go Go.Conc Go.ConcN Go.RowKit Go.Conc.Lib Go.ConcR.Gen Go.ConcM
open Go.ConcR (KK wgBlock WgAt stA smA rd wr mk DC0)
open Go.Proofs.Ytpmmimcafkillaa.Mx
open Go.Proofs.Ytpmmimcafkillaa.Mx (Mu St)
noncomputable def body85 : Code := Try.f85.body.getD .skip
section
variable {Y : Lay} {Held : List Nat → World → Prop} {F : Nat → Prop} {Kn : World → Prop} {s : Bool} {k : Nat} {lg lg' : List Nat} {xe : Mx.Th} {c : Frame} {cs : List Frame}
theorem stepG_leaveD {main : Bool} {b : Frame} {a : Act} {todo : List Item} {fn : Func} {w : World} (hn : b.kind = .deferred) (hd : a.defers = []) (hf : Try.prog.funcs[b.fn]? = some fn) (hr : fn.results = #[]) (hc : c.mode = .returning) :
    stepG Try.prog main (G { b.at a todo with mode := .returning } (c :: cs)) w = .go (G c cs) w #[] :=
  stepG_leave_deferred hn hd hf (results_none hr _ _ _) (events_results_none hr _ _) hc
set_option maxRecDepth 100000 in
set_option maxHeartbeats 16000000 in
/-- ████ Unlock ████ -/
theorem unlockGo (K : KnL Y 92 99 F Kn) (hH : ∀ l (v v' : World), v'.heap[Y.Mp]? = v.heap[Y.Mp]? → Held l v → Held l v') (h1 : s = false → lg' = lg) (h2 : s = true → lg' = lg ++ [k])
    (hxe : ∀ sh, TSt (kx s .ue) sh xe sh) (hq : xe ≠ .quit) (hmu : muteT xe = false) (ht : tokT xe = false) (hd : deafT xe = 0) (hc : c.mode = .returning)
    (hT : ∀ d, ∃ m, ∀ w, Kn w → Goes Try.prog false (RF Y 92 99 F false) (DF Y (Y.b + 1 + k) F false false) (AtW Try.prog Y 92 99 Held d k xe F lg) m (G c cs) w) :
    ∀ d w, KnO Held Kn lg' w → Goes Try.prog false (RF Y 92 99 F true) DC0 (AtW Try.prog Y 92 99 Held d k (kx s .cs) F lg) 60 (G ((baseD 85).at ⟨#[.pointer (some ⟨Y.Lg, 0, none⟩), undef, undef, undef, undef, undef], []⟩ [.code body85]) (c :: cs)) w := by
  intro d w hF
  simp only [body85, Try.f85, Option.getD_some]
  repeat w_go (KnO.rl K hH)
  u_call Try.func98 nm98 Try.f98 (KnO.rl K hH) hF
  repeat w_go (KnO.rl K hH)
  -- '_ = m.state'
  u_in (KnO.rl K hH) hF
  obtain ⟨sh1, hs1⟩ := K.live hF.kn
  rw [stepG_loadQ rfl rfl (by k_ne) rfl rfl hs1.1.st q98]
  simp only [goes_go]
  refine ⟨by u_nil, ?_⟩
  generalize sh1.m.val = v1
  clear hs1 sh1
  walk_nrm
  repeat w_go (KnO.rl K hH)
  u_in (KnO.rl K hH) hF
  obtain ⟨sh1, hs1⟩ := K.live hF.kn
  have hcl := hs1.1.st
  refine goes_oper_k rfl rfl (by k_ne) (fun Kx hKx => ?_)
  have hcv := run_convert_to_unsafe (P := Try.prog) u135 wgLib.underlying_tUP z84 hcl
  have hce := fun es => events_convert_to_unsafe (P := Try.prog) u135 wgLib.underlying_tUP z84 hcl es
  go_simp
  refine hKx _ _ ⟨?_, ?_⟩
  · u_none
    intro ex hex
    have hmx := mem_listed hex
    simp [go_sem, hce] at hmx
  clear hKx Kx hcv hce hcl hs1
  try walk_nrm
  repeat w_go (KnO.rl K hH)
  -- STOP cs
  refine Goes.stop (fun w r => ?_)
  replace hF := (KnO.rl K hH) hF r
  clear r
  rcases d with _ | d
  · trivial
  refine csStop rfl rfl (fun e => by have := hF.held; rwa [h1 e] at this) (fun e => by have := hF.held; rwa [h2 e] at this) ⟨_, stepG_markAt .releaseMerge (by simp) rfl rfl (by k_ne) rfl wgLib.f_relMerge (x_relMerge_n link) (x_relMerge_b link) (x_relMerge_x link) (x_relMerge_f link) (by simp [Act.eval, Lay.lk]), 30, ?_⟩
  replace hF := hF.kn
  walk_nrm
  repeat w_go K.rl
  -- STOP ud
  refine Goes.stop (fun w r => ?_)
  replace hF := K.rl hF r
  clear r
  rcases d with _ | d
  · trivial
  refine lkStop rfl rfl (by simp) (by simp) (by simp) (by simp) (by simp) fun sh hs _ => ⟨.u0, sh.m, sh.s, _, _, _, .ud, stepG_mark0 .disable (by simp) rfl rfl (by k_ne) rfl wgLib.f_disable (x_disable_n link) (x_disable_b link) (x_disable_x link) (x_disable_f link), hs.1, rfl, eff_refl _, book_dis 0, 30, ?_⟩
  walk_nrm
  repeat w_go K.rl
  -- STOP u0
  refine Goes.stop (fun w r => ?_)
  replace hF := K.rl hF r
  clear r
  rcases d with _ | d
  · trivial
  refine lkStop rfl rfl (by simp) (by simp) (by simp) (by simp) (by simp) fun sh hs hloc => ?_
  have hW := hloc.w
  have hL := hloc.own (by rw [lkOf_kx]; rfl)
  obtain ⟨⟨l, kk, ss, W⟩, s0, c0, wt, ws0, of0⟩ := sh
  simp only at hL hW
  subst hL
  have hcl := hs.1.st
  simp only [val_vv] at hcl
  rw [← rb_even] at hcl
  have hdec := vv_dec (rb false kk ss) W (by cases kk <;> cases ss <;> decide) (by omega)
  have hs' : ShAt Y 92 99 (w.setCell ⟨Y.Lg, 0, none⟩ (.int .i32 (Mu.val ⟨false, kk, ss, W⟩))) ⟨⟨false, kk, ss, W⟩, s0, c0, wt, ws0, of0⟩ := ⟨hs.1.setSt _, (wg_set _ _ rfl).trans hs.2⟩
  rw [val_vv, ← hdec] at hs'
  cases ss with
  | true =>
    have hne : (vv (rb false kk true) W != 0) = true := by simp only [vv, bne_iff_ne]; cases kk <;> simp [rb] <;> omega
    refine ⟨_, _, _, _, _, _, .u0s rfl, stepG_add_atomic rfl rfl (by k_ne) rfl Try.func103 x103_n x103_b x103_x .i32 x103_f rfl rfl hcl (hs.1.thaw 0), hs'.1, hs'.2.trans hs.2.symm, eff_set _ _ (.inl rfl), book_rw 0 _ (lb 0 (by simp)), 120, ?_⟩
    replace hF := K.eff hF (eff_set _ _ (.inl rfl)) hs'
    rw [hdec] at hF
    rw [hdec]
    clear hs' hdec hcl hs hloc
    walk_nrm
    repeat w_go K.rl
    u_call Try.func104 nm104 Try.f104 K.rl hF
    refine goes_le (by omega) (slowU1 (s := s) (lg := lg) K (fun d => ?_) d kk W (by omega) _ hF)
    refine ⟨40, fun w hF => ?_⟩
    walk_nrm
    repeat w_go K.rl
    -- STOP ue
    refine Goes.stop (fun w r => ?_)
    replace hF := K.rl hF r
    clear r
    rcases d with _ | d
    · trivial
    obtain ⟨mT, hT'⟩ := hT d
    refine ueStop rfl rfl hxe hq hmu ht hd ⟨_, stepG_mark0 .enable (by simp) rfl rfl (by k_ne) rfl wgLib.f_enable (x_enable_n link) (x_enable_b link) (x_enable_x link) (x_enable_f link), mT + 20, goes_idle (fun w => .idle w) (fun w => .refl w) ?_⟩
    walk_nrm
    repeat w_go K.rl
    u_leave0 Try.func98 K.rl hF
    repeat w_go K.rl
    u_in K.rl hF
    rw [stepG_leaveD rfl rfl Try.func85 rfl hc]
    simp only [goes_go]
    refine ⟨by u_nil, ?_⟩
    refine Goes.stop (fun w r => ?_)
    exact hT' _ (K.rl hF r)
  | false =>
    by_cases hu : W = 0 ∨ kk = true
    · by_cases h0 : W = 0 ∧ kk = false
      · obtain ⟨rfl, rfl⟩ := h0
        have hne : (vv (rb false false false) 0 != 0) = false := rfl
        refine ⟨_, _, _, _, _, _, .u0f rfl (.inl rfl), stepG_add_atomic rfl rfl (by k_ne) rfl Try.func103 x103_n x103_b x103_x .i32 x103_f rfl rfl hcl (hs.1.thaw 0), hs'.1, hs'.2.trans hs.2.symm, eff_set _ _ (.inl rfl), book_rw 0 _ (lb 0 (by simp)), 40, ?_⟩
        replace hF := K.eff hF (eff_set _ _ (.inl rfl)) hs'
        rw [hdec] at hF
        rw [hdec]
        clear hs' hdec hcl hs hloc
        walk_nrm
        repeat w_go K.rl
        -- STOP ue
        refine Goes.stop (fun w r => ?_)
        replace hF := K.rl hF r
        clear r
        rcases d with _ | d
        · trivial
        obtain ⟨mT, hT'⟩ := hT d
        refine ueStop rfl rfl hxe hq hmu ht hd ⟨_, stepG_mark0 .enable (by simp) rfl rfl (by k_ne) rfl wgLib.f_enable (x_enable_n link) (x_enable_b link) (x_enable_x link) (x_enable_f link), mT + 20, goes_idle (fun w => .idle w) (fun w => .refl w) ?_⟩
        walk_nrm
        repeat w_go K.rl
        u_leave0 Try.func98 K.rl hF
        repeat w_go K.rl
        u_in K.rl hF
        rw [stepG_leaveD rfl rfl Try.func85 rfl hc]
        simp only [goes_go]
        refine ⟨by u_nil, ?_⟩
        refine Goes.stop (fun w r => ?_)
        exact hT' _ (K.rl hF r)
      · have hne : (vv (rb false kk false) W != 0) = true := by
          simp only [vv, bne_iff_ne]
          cases kk
          · simp [rb]; rcases hu with e | e
            · exact absurd ⟨e, rfl⟩ h0
            · cases e
          · simp [rb]; omega
        refine ⟨_, _, _, _, _, _, .u0f rfl hu, stepG_add_atomic rfl rfl (by k_ne) rfl Try.func103 x103_n x103_b x103_x .i32 x103_f rfl rfl hcl (hs.1.thaw 0), hs'.1, hs'.2.trans hs.2.symm, eff_set _ _ (.inl rfl), book_rw 0 _ (lb 0 (by simp)), 120, ?_⟩
        replace hF := K.eff hF (eff_set _ _ (.inl rfl)) hs'
        rw [hdec] at hF
        rw [hdec]
        clear hs' hdec hcl hs hloc
        walk_nrm
        repeat w_go K.rl
        u_call Try.func104 nm104 Try.f104 K.rl hF
        refine goes_le (by omega) (slowU2 (s := s) (lg := lg) K d 40 (fun w hF => ?_) kk W (by omega) hu _ hF)
        walk_nrm
        repeat w_go K.rl
        -- STOP ue
        refine Goes.stop (fun w r => ?_)
        replace hF := K.rl hF r
        clear r
        rcases d with _ | d
        · trivial
        obtain ⟨mT, hT'⟩ := hT d
        refine ueStop rfl rfl hxe hq hmu ht hd ⟨_, stepG_mark0 .enable (by simp) rfl rfl (by k_ne) rfl wgLib.f_enable (x_enable_n link) (x_enable_b link) (x_enable_x link) (x_enable_f link), mT + 20, goes_idle (fun w => .idle w) (fun w => .refl w) ?_⟩
        walk_nrm
        repeat w_go K.rl
        u_leave0 Try.func98 K.rl hF
        repeat w_go K.rl
        u_in K.rl hF
        rw [stepG_leaveD rfl rfl Try.func85 rfl hc]
        simp only [goes_go]
        refine ⟨by u_nil, ?_⟩
        refine Goes.stop (fun w r => ?_)
        exact hT' _ (K.rl hF r)
    · obtain ⟨hu1, hu2⟩ : W ≠ 0 ∧ kk = false := ⟨fun e => hu (.inl e), by cases kk; rfl; exact absurd (.inr rfl) hu⟩
      subst hu2
      obtain ⟨W, rfl⟩ : ∃ x, W = x + 1 := ⟨W - 1, by omega⟩
      have hne : (vv (rb false false false) (W + 1) != 0) = true := by simp only [vv, bne_iff_ne]; simp [rb]; omega
      refine ⟨_, _, _, _, _, _, .u0c rfl (by simp) rfl, stepG_add_atomic rfl rfl (by k_ne) rfl Try.func103 x103_n x103_b x103_x .i32 x103_f rfl rfl hcl (hs.1.thaw 0), hs'.1, hs'.2.trans hs.2.symm, eff_set _ _ (.inl rfl), book_rw 0 _ (lb 0 (by simp)), 140, ?_⟩
      replace hF := K.eff hF (eff_set _ _ (.inl rfl)) hs'
      rw [hdec] at hF
      rw [hdec]
      clear hs' hdec hcl hs hloc
      walk_nrm
      repeat w_go K.rl
      u_call Try.func104 nm104 Try.f104 K.rl hF
      refine goes_le (by omega) (slowU3 (s := s) (lg := lg) K (fun d => ?_) d W (by omega) _ hF)
      refine ⟨40, fun w hF => ?_⟩
      walk_nrm
      repeat w_go K.rl
      -- STOP ue
      refine Goes.stop (fun w r => ?_)
      replace hF := K.rl hF r
      clear r
      rcases d with _ | d
      · trivial
      obtain ⟨mT, hT'⟩ := hT d
      refine ueStop rfl rfl hxe hq hmu ht hd ⟨_, stepG_mark0 .enable (by simp) rfl rfl (by k_ne) rfl wgLib.f_enable (x_enable_n link) (x_enable_b link) (x_enable_x link) (x_enable_f link), mT + 20, goes_idle (fun w => .idle w) (fun w => .refl w) ?_⟩
      walk_nrm
      repeat w_go K.rl
      u_leave0 Try.func98 K.rl hF
      repeat w_go K.rl
      u_in K.rl hF
      rw [stepG_leaveD rfl rfl Try.func85 rfl hc]
      simp only [goes_go]
      refine ⟨by u_nil, ?_⟩
      refine Goes.stop (fun w r => ?_)
      exact hT' _ (K.rl hF r)
end
end Go.Proofs.Ytpmmimcafkillaa.Tr
