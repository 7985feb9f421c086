/-
  The rule of results, in company.
  The rule of the longest chain, in company.
-/
import Derived.Test.YtpmmimcafkillaaZXp
set_option linter.unusedVariables false
set_option linter.unusedSimpArgs false
namespace Go.Proofs.Ytpmmimcafkillaa.Tr
open Go Go.Conc Go.ConcN Go.RowKit Go.Conc.Lib Go.ConcR.Gen Go.ConcM
open Go.ConcR (KK wgBlock WgAt stA smA rd wr mk DC0)
open Go.Proofs.Ytpmmimcafkillaa.Mx
open Go.Proofs.Ytpmmimcafkillaa.Mx (Mu St)
open Go.Proofs.Ytpmmimcafkillaa.Rs (hst)
theorem loud66 : (Try.prog.funcs[(base 66).fn]?).any (·.norace) = false := by kernel_rfl
noncomputable def body66 : Code := Try.f66.body.getD .skip
noncomputable def ops66 : Array Oper := opsOf (fstS (sndS body66))
theorem size66 : ops66.size = 14 := by kernel_rfl
noncomputable def LH : Code := (loopOf body66).getD .skip
noncomputable def RH : Code := sndS (sndS (sndS body66))
theorem hst_bd (h x : Int) : 0 ≤ hst h x ∧ hst h x < 1000000007 := by unfold hst; omega
section
variable {Y : Lay} {F : Nat → Prop} {Kw : World → Prop} {gid : Nat} {vs : List Int} {B : Nat} {Stop : Goroutine → World → Prop}
variable {b₀ : Frame} {a₀ : Act} {ops₀ : Array Oper} {i₀ : Nat} {rest₀ : List Nat} {k₀ : List Item} {cs : List Frame}
set_option maxRecDepth 100000 in
set_option maxHeartbeats 8000000 in
theorem headH (K : KnL Y 92 99 F Kw) (hB : F B) (hb : ∀ w, Kw w → w.heap[B]? = some (.cells (vs.map (Value.int .i64)).toArray 2 (0, 0))) (hk0 : b₀.kind ≠ .early) (hl : vs.length ≤ 1000) (hvb : ∀ v ∈ vs, 0 ≤ v ∧ v < 1000000007) {m : Nat} {res : Int}
    (hT : ∀ w, Kw w → Goes Try.prog false (RF Y 92 99 F false) (DF Y gid F false false) Stop m (G (b₀.at (a₀.put ((ops₀[i₀]?).bind (·.dst)) (.int .i64 res)) (.inRegion ops₀ rest₀ :: k₀)) cs) w) :
    ∀ (r j : Nat) (h : Int), j + r = vs.length → 0 ≤ h → h < 1000000007 → (vs.drop j).foldl hst h = res → ∀ (j0 j1 j2 j3 j4 j5 j7 j8 j9 j10 j11 j12 j13 j14 j15 j16 j17 j18 j19 j20 j21 j25 j26 j27 j28 j29 j30 j31 j32 j33 j34 j35 : Value) w, Kw w →
      Goes Try.prog false (RF Y 92 99 F false) (DF Y gid F false false) Stop (m + 40 + 60 * r) (G ((base 66).at ⟨#[j0, j1, j2, j3, j4, j5, .int .i64 h, j7, j8, j9, j10, j11, j12, j13, j14, j15, j16, j17, j18, j19, j20, j21, .slice (some ⟨B, 0, none⟩) vs.length vs.length, .int .i64 (vs.length : Int), .int .i64 (j : Int), j25, j26, j27, j28, j29, j30, j31, j32, j33, j34, j35], []⟩ [.code LH, .inLoop LH, .inBlock 0, .code RH]) (b₀.at a₀ (.inRegion ops₀ (i₀ :: rest₀) :: k₀) :: cs)) w := by
  intro r
  induction r with
  | zero =>
    intro j h hj h0 h1 hg j0 j1 j2 j3 j4 j5 j7 j8 j9 j10 j11 j12 j13 j14 j15 j16 j17 j18 j19 j20 j21 j25 j26 j27 j28 j29 j30 j31 j32 j33 j34 j35 w hF
    obtain rfl : j = vs.length := by omega
    obtain rfl : h = res := by rw [List.drop_length] at hg; exact hg
    simp only [LH, RH, loopOf, sndS, body66, Try.f66, Option.getD_some]
    refine goes_idle (m := m) (n := 40 + 60 * 0) (fun w => .idle w) (fun w => .refl w) ?_
    repeat w_go K.rl
    u_leave1 Try.func66 K.rl hF
    refine Goes.stop (fun w r => ?_)
    exact hT _ (K.rl hF r)
  | succ r ih =>
    intro j h hj h0 h1 hg j0 j1 j2 j3 j4 j5 j7 j8 j9 j10 j11 j12 j13 j14 j15 j16 j17 j18 j19 j20 j21 j25 j26 j27 j28 j29 j30 j31 j32 j33 j34 j35 w hF
    have hjl : j < vs.length := by omega
    have hval : vs[j]? = some vs[j] := List.getElem?_eq_getElem hjl
    have hvm := hvb vs[j] (List.getElem_mem hjl)
    generalize vs[j] = v at hval hvm
    have hd : vs.drop j = v :: vs.drop (j + 1) := by
      rw [List.drop_eq_getElem_cons hjl]
      congr 1
      exact Option.some.inj ((List.getElem?_eq_getElem hjl).symm.trans hval)
    have hg' : (vs.drop (j + 1)).foldl hst (hst h v) = res := by rw [hd] at hg; exact hg
    have q1 : decide ((j : Int) < (vs.length : Int)) = true := decide_eq_true (by omega)
    have hwr : IntKind.i64.wrap ((j : Int) + 1) = ((j + 1 : Nat) : Int) := by rw [IntKind.wrap_i64]; omega
    have hbd := hst_bd h v
    have e1 : IntKind.i64.wrap (h * 257) = h * 257 := by rw [IntKind.wrap_i64]; omega
    have e2 : IntKind.i64.wrap (h * 257 + v) = h * 257 + v := by rw [IntKind.wrap_i64]; omega
    have e3 : IntKind.i64.wrap (h * 257 + v + 1) = h * 257 + v + 1 := by rw [IntKind.wrap_i64]; omega
    have e4 : (h * 257 + v + 1).tmod 1000000007 = hst h v := by rw [Int.tmod_eq_emod_of_nonneg (by omega)]; rfl
    generalize hst h v = h' at e4 hg' hbd
    simp only [LH, RH, loopOf, sndS, body66, Try.f66, Option.getD_some] at ih
    simp only [LH, RH, loopOf, sndS, body66, Try.f66, Option.getD_some]
    refine goes_le (n := (m + 40 + 60 * r + 30 + 1) + 29) (by omega) ?_
    refine goes_idle (m := m + 40 + 60 * r + 30 + 1) (n := 29) (fun w => .idle w) (fun w => .refl w) ?_
    repeat (w_but "op" K.rl)
    w_go K.rl
    repeat (w_but "op" K.rl)
    u_in K.rl hF
    rw [stepG_index (j := j) rfl rfl (by k_ne) rfl rfl rfl hjl]
    simp only [goes_go]
    refine ⟨by u_nil, ?_⟩
    walk_nrm
    refine Goes.stop (fun w r => ?_)
    replace hF := K.rl hF r
    clear r
    u_in K.rl hF
    have hcl : ∀ w, Kw w → w.cell? ((⟨B, 0, none⟩ : Addr).add j) = some (.int .i64 v) := fun w h => by
      rw [addr_add, Nat.zero_add]
      simp [World.cell?, hb w h, hval]
    rw [stepG_load2 rfl rfl (by k_ne) rfl rfl (hcl _ hF) loud66]
    simp only [goes_go]
    refine ⟨df_ownr _ _ _ _ (.inl (by rw [addr_add]; exact hB)), ?_⟩
    refine goes_idle (m := m + 40 + 60 * r) (n := 30) (fun w => .idle w) (fun w => .refl w) ?_
    walk_nrm
    repeat w_nl K.rl
    u_c stepG_inLoop K.rl hF
    refine Goes.stop (fun w r => ?_)
    exact ih (j + 1) _ (by omega) hbd.1 hbd.2 hg' _ _ _ _ _ _ _ _ _ _ _ _ _ _ _ _ _ _ _ _ _ _ _ _ _ _ _ _ _ _ _ _ _ (K.rl hF r)
end
/-- what is known of the job where the rule's box lies -/
structure Jx (Y : Lay) (F : Nat → Prop) (Kw : World → Prop) (qb ja : Addr) (n cap0 j : Nat) (kd vl cst : Int) : Prop where
  cqb : ∀ w, Kw w → w.cell? qb = some (.slice (some ja) n cap0)
  oqb : F qb.block ∨ Y.Ro (.cell qb)
  lt : j < n
  ckd : ∀ w, Kw w → w.cell? ((ja.add (j * 4)).add 0) = some (.int .i64 kd)
  okd : F ((ja.add (j * 4)).add 0).block ∨ Y.Ro (.cell ((ja.add (j * 4)).add 0))
  cvl : ∀ w, Kw w → w.cell? ((ja.add (j * 4)).add 1) = some (.int .i64 vl)
  ovl : F ((ja.add (j * 4)).add 1).block ∨ Y.Ro (.cell ((ja.add (j * 4)).add 1))
  ccs : ∀ w, Kw w → w.cell? ((ja.add (j * 4)).add 3) = some (.int .i64 cst)
  ocs : F ((ja.add (j * 4)).add 3).block ∨ Y.Ro (.cell ((ja.add (j * 4)).add 3))
  kd0 : 0 ≤ kd
  kd1 : kd ≤ 9
  vl0 : 0 ≤ vl
  vl1 : vl ≤ 10000000
  cs0 : 1 ≤ cst
  cs1 : cst ≤ 1000
section
variable {Y : Lay} {F : Nat → Prop} {Kw : World → Prop} {gid : Nat} {vs : List Int} {B : Nat} {Stop : Goroutine → World → Prop} {qb ja : Addr} {n cap0 j : Nat} {kd vl cst : Int}
variable {b₀ : Frame} {a₀ : Act} {ops₀ : Array Oper} {i₀ : Nat} {rest₀ : List Nat} {k₀ : List Item} {cs : List Frame}
def val66 (ja : Addr) (n cap0 j : Nat) (kd vl : Int) : Nat → Value
  | 0 => .slice (some ja) n cap0
  | 1 => .int .i64 (j : Int)
  | 2 => .pointer (some (ja.add (j * 4)))
  | 3 => .pointer (some ((ja.add (j * 4)).add 0))
  | 4 => .int .i64 kd
  | 5 => .int .i64 (kd * 1000003)
  | 6 => .slice (some ja) n cap0
  | 7 => .int .i64 (j : Int)
  | 8 => .pointer (some (ja.add (j * 4)))
  | 9 => .pointer (some ((ja.add (j * 4)).add 1))
  | 10 => .int .i64 vl
  | 11 => .int .i64 (kd * 1000003 + vl)
  | 12 => .int .i64 ((kd * 1000003 + vl) % 1000000007)
  | 13 => .int .i64 ((kd * 1000003 + vl) % 1000000007)
  | _ => undef
set_option maxRecDepth 100000 in
set_option maxHeartbeats 1000000 in
theorem drawn66 (K : KnL Y 92 99 F Kw) (J : Jx Y F Kw qb ja n cap0 j kd vl cst) {kk : List Item} {C : List Frame} {id : Nat}
    (hend : ∃ m, ∀ w, Kw w → Goes Try.prog false (RF Y 92 99 F false) (DF Y gid F false false) Stop m (G ((base 66).at ⟨#[.int .i64 (j : Int), .slice (some ⟨B, 0, none⟩) vs.length vs.length, .pointer (some qb), undef, undef, .int .i64 0, .int .i64 ((kd * 1000003 + vl) % 1000000007), undef, undef, .slice (some ja) n cap0, .int .i64 (j : Int), .pointer (some (ja.add (j * 4))), .pointer (some ((ja.add (j * 4)).add 0)), .int .i64 kd, .int .i64 (kd * 1000003), .slice (some ja) n cap0, .int .i64 (j : Int), .pointer (some (ja.add (j * 4))), .pointer (some ((ja.add (j * 4)).add 1)), .int .i64 vl, .int .i64 (kd * 1000003 + vl), .int .i64 ((kd * 1000003 + vl) % 1000000007), undef, undef, undef, undef, undef, undef, undef, undef, undef, undef, undef, undef, undef, undef], []⟩ (.inRegion ops66 [] :: kk)) C) w) :
    ∃ m, ∀ w, Kw w → Goes Try.prog false (RF Y 92 99 F false) (DF Y gid F false false) Stop m (G ((base 66).at ⟨#[.int .i64 (j : Int), .slice (some ⟨B, 0, none⟩) vs.length vs.length, .pointer (some qb), undef, undef, .int .i64 0, undef, undef, undef, undef, undef, undef, undef, undef, undef, undef, undef, undef, undef, undef, undef, undef, undef, undef, undef, undef, undef, undef, undef, undef, undef, undef, undef, undef, undef, undef], []⟩ (.code (.region id ops66 true) :: kk)) C) w := by
  have h1 := J.kd0
  have h2 := J.kd1
  have h3 := J.vl0
  have h4 := J.vl1
  have e1 : IntKind.i64.wrap (kd * 1000003) = kd * 1000003 := by rw [IntKind.wrap_i64]; omega
  have e2 : IntKind.i64.wrap (kd * 1000003 + vl) = kd * 1000003 + vl := by rw [IntKind.wrap_i64]; omega
  have e3 : (kd * 1000003 + vl).tmod 1000000007 = (kd * 1000003 + vl) % 1000000007 := Int.tmod_eq_emod_of_nonneg (by omega)
  refine drawn_all (val66 ja n cap0 j kd vl) ⟨#[.int .i64 (j : Int), .slice (some ⟨B, 0, none⟩) vs.length vs.length, .pointer (some qb), undef, undef, .int .i64 0, undef, undef, undef, undef, undef, undef, undef, undef, undef, undef, undef, undef, undef, undef, undef, undef, undef, undef, undef, undef, undef, undef, undef, undef, undef, undef, undef, undef, undef, undef], []⟩ (by kernel_rfl) mixed (fun w => .drew w _) (fun h r => K.rl h r) (fun {w} h => K.rl h (RF.at w (w.drawn + 1))) (fun i l a hi haf hD rest m h => ?_) ?_
  rotate_left
  · rw [show finA ops66 (val66 ja n cap0 j kd vl) ⟨#[.int .i64 (j : Int), .slice (some ⟨B, 0, none⟩) vs.length vs.length, .pointer (some qb), undef, undef, .int .i64 0, undef, undef, undef, undef, undef, undef, undef, undef, undef, undef, undef, undef, undef, undef, undef, undef, undef, undef, undef, undef, undef, undef, undef, undef, undef, undef, undef, undef, undef, undef], []⟩ = ⟨#[.int .i64 (j : Int), .slice (some ⟨B, 0, none⟩) vs.length vs.length, .pointer (some qb), undef, undef, .int .i64 0, .int .i64 ((kd * 1000003 + vl) % 1000000007), undef, undef, .slice (some ja) n cap0, .int .i64 (j : Int), .pointer (some (ja.add (j * 4))), .pointer (some ((ja.add (j * 4)).add 0)), .int .i64 kd, .int .i64 (kd * 1000003), .slice (some ja) n cap0, .int .i64 (j : Int), .pointer (some (ja.add (j * 4))), .pointer (some ((ja.add (j * 4)).add 1)), .int .i64 vl, .int .i64 (kd * 1000003 + vl), .int .i64 ((kd * 1000003 + vl) % 1000000007), undef, undef, undef, undef, undef, undef, undef, undef, undef, undef, undef, undef, undef, undef], []⟩ by kernel_rfl]
    exact hend
  rw [size66] at hi
  have hc : i = 0 ∨ i = 1 ∨ i = 2 ∨ i = 3 ∨ i = 4 ∨ i = 5 ∨ i = 6 ∨ i = 7 ∨ i = 8 ∨ i = 9 ∨ i = 10 ∨ i = 11 ∨ i = 12 ∨ i = 13 := by omega
  rcases hc with rfl | rfl | rfl | rfl | rfl | rfl | rfl | rfl | rfl | rfl | rfl | rfl | rfl | rfl
  · -- 0
    refine ⟨m + 1, fun w hF => Goes.step rfl fun w₁ h₁ => ?_⟩
    replace hF := K.rl hF h₁
    rw [stepG_load24 rfl rfl (by k_ne) rfl (hD.ev0 2 (by kernel_rfl)) (J.cqb _ hF) loud66]
    exact ⟨df_ownr _ _ _ _ J.oqb, h _ hF⟩
  · -- 1
    refine ⟨m + 1, fun w hF => Goes.step rfl fun w₁ h₁ => ?_⟩
    replace hF := K.rl hF h₁
    rw [stepG_mov rfl rfl (by k_ne) rfl (hD.ev0 0 (by kernel_rfl))]
    exact ⟨.idle _, h _ hF⟩
  · -- 2
    have p0 := pre_of haf (k := 0) (by kernel_rfl)
    have p1 := pre_of haf (k := 1) (by kernel_rfl)
    refine ⟨m + 1, fun w hF => Goes.step rfl fun w₁ h₁ => ?_⟩
    replace hF := K.rl hF h₁
    rw [stepG_task rfl rfl (by k_ne) rfl (hD.ev 0 9 rfl p0) (hD.ev 1 10 rfl p1) J.lt]
    exact ⟨.idle _, h _ hF⟩
  · -- 3
    have p2 := pre_of haf (k := 2) (by kernel_rfl)
    refine ⟨m + 1, fun w hF => Goes.step rfl fun w₁ h₁ => ?_⟩
    replace hF := K.rl hF h₁
    rw [stepG_field0 rfl rfl (by k_ne) rfl (hD.ev 2 11 rfl p2)]
    exact ⟨.idle _, h _ hF⟩
  · -- 4
    have p3 := pre_of haf (k := 3) (by kernel_rfl)
    refine ⟨m + 1, fun w hF => Goes.step rfl fun w₁ h₁ => ?_⟩
    replace hF := K.rl hF h₁
    rw [stepG_load2 rfl rfl (by k_ne) rfl (hD.ev 3 12 rfl p3) (J.ckd _ hF) loud66]
    exact ⟨df_ownr _ _ _ _ J.okd, h _ hF⟩
  · -- 5
    have p4 := pre_of haf (k := 4) (by kernel_rfl)
    refine ⟨m + 1, fun w hF => Goes.step rfl fun w₁ h₁ => ?_⟩
    replace hF := K.rl hF h₁
    rw [stepG_mul rfl rfl (by k_ne) rfl (hD.ev 4 13 rfl p4) rfl e1]
    exact ⟨.idle _, h _ hF⟩
  · -- 6
    refine ⟨m + 1, fun w hF => Goes.step rfl fun w₁ h₁ => ?_⟩
    replace hF := K.rl hF h₁
    rw [stepG_load24 rfl rfl (by k_ne) rfl (hD.ev0 2 (by kernel_rfl)) (J.cqb _ hF) loud66]
    exact ⟨df_ownr _ _ _ _ J.oqb, h _ hF⟩
  · -- 7
    refine ⟨m + 1, fun w hF => Goes.step rfl fun w₁ h₁ => ?_⟩
    replace hF := K.rl hF h₁
    rw [stepG_mov rfl rfl (by k_ne) rfl (hD.ev0 0 (by kernel_rfl))]
    exact ⟨.idle _, h _ hF⟩
  · -- 8
    have p6 := pre_of haf (k := 6) (by kernel_rfl)
    have p7 := pre_of haf (k := 7) (by kernel_rfl)
    refine ⟨m + 1, fun w hF => Goes.step rfl fun w₁ h₁ => ?_⟩
    replace hF := K.rl hF h₁
    rw [stepG_task rfl rfl (by k_ne) rfl (hD.ev 6 15 rfl p6) (hD.ev 7 16 rfl p7) J.lt]
    exact ⟨.idle _, h _ hF⟩
  · -- 9
    have p8 := pre_of haf (k := 8) (by kernel_rfl)
    refine ⟨m + 1, fun w hF => Goes.step rfl fun w₁ h₁ => ?_⟩
    replace hF := K.rl hF h₁
    rw [stepG_field1 rfl rfl (by k_ne) rfl (hD.ev 8 17 rfl p8)]
    exact ⟨.idle _, h _ hF⟩
  · -- 10
    have p9 := pre_of haf (k := 9) (by kernel_rfl)
    refine ⟨m + 1, fun w hF => Goes.step rfl fun w₁ h₁ => ?_⟩
    replace hF := K.rl hF h₁
    rw [stepG_load2 rfl rfl (by k_ne) rfl (hD.ev 9 18 rfl p9) (J.cvl _ hF) loud66]
    exact ⟨df_ownr _ _ _ _ J.ovl, h _ hF⟩
  · -- 11
    have p5 := pre_of haf (k := 5) (by kernel_rfl)
    have p10 := pre_of haf (k := 10) (by kernel_rfl)
    refine ⟨m + 1, fun w hF => Goes.step rfl fun w₁ h₁ => ?_⟩
    replace hF := K.rl hF h₁
    rw [stepG_add rfl rfl (by k_ne) rfl (hD.ev 5 14 rfl p5) (hD.ev 10 19 rfl p10) e2]
    exact ⟨.idle _, h _ hF⟩
  · -- 12
    have p11 := pre_of haf (k := 11) (by kernel_rfl)
    refine ⟨m + 1, fun w hF => Goes.step rfl fun w₁ h₁ => ?_⟩
    replace hF := K.rl hF h₁
    rw [stepG_rem rfl rfl (by k_ne) rfl (hD.ev 11 20 rfl p11) rfl e3]
    exact ⟨.idle _, h _ hF⟩
  · -- 13
    have p12 := pre_of haf (k := 12) (by kernel_rfl)
    refine ⟨m + 1, fun w hF => Goes.step rfl fun w₁ h₁ => ?_⟩
    replace hF := K.rl hF h₁
    rw [stepG_asg rfl rfl (by k_ne) rfl (hD.ev 12 21 rfl p12)]
    exact ⟨.idle _, h _ hF⟩

set_option maxRecDepth 100000 in
set_option maxHeartbeats 1000000 in
/-- ████ the rule of results ████ -/
theorem rule66 (K : KnL Y 92 99 F Kw) (J : Jx Y F Kw qb ja n cap0 j kd vl cst) (hB : F B) (hb : ∀ w, Kw w → w.heap[B]? = some (.cells (vs.map (Value.int .i64)).toArray 2 (0, 0))) (hk0 : b₀.kind ≠ .early) (hl : vs.length ≤ 1000) (hvb : ∀ v ∈ vs, 0 ≤ v ∧ v < 1000000007)
    (hT : ∃ m, ∀ w, Kw w → Goes Try.prog false (RF Y 92 99 F false) (DF Y gid F false false) Stop m (G (b₀.at (a₀.put ((ops₀[i₀]?).bind (·.dst)) (.int .i64 (vs.foldl hst ((kd * 1000003 + vl) % 1000000007)))) (.inRegion ops₀ rest₀ :: k₀)) cs) w) :
    ∃ m, ∀ w, Kw w → Goes Try.prog false (RF Y 92 99 F false) (DF Y gid F false false) Stop m (G ((base 66).at ⟨#[.int .i64 (j : Int), .slice (some ⟨B, 0, none⟩) vs.length vs.length, .pointer (some qb), undef, undef, undef, undef, undef, undef, undef, undef, undef, undef, undef, undef, undef, undef, undef, undef, undef, undef, undef, undef, undef, undef, undef, undef, undef, undef, undef, undef, undef, undef, undef, undef, undef], []⟩ [.code body66]) (b₀.at a₀ (.inRegion ops₀ (i₀ :: rest₀) :: k₀) :: cs)) w := by
  obtain ⟨mT, hT⟩ := hT
  have hH := headH (gid := gid) (Stop := Stop) (b₀ := b₀) (a₀ := a₀) (ops₀ := ops₀) (i₀ := i₀) (rest₀ := rest₀) (k₀ := k₀) (cs := cs) K hB hb hk0 hl hvb hT vs.length 0 ((kd * 1000003 + vl) % 1000000007) (by omega) (by omega) (by omega) rfl
  obtain ⟨m, hm⟩ := drawn66 (gid := gid) (Stop := Stop) (id := 1) (kk := [.code (sndS (sndS body66))]) (C := b₀.at a₀ (.inRegion ops₀ (i₀ :: rest₀) :: k₀) :: cs) K J ⟨(mT + 40 + 60 * vs.length) + 30, fun w hF => by
    simp only [LH, RH, loopOf, sndS, body66, Try.f66, Option.getD_some] at hH
    refine goes_idle (n := 30) (fun w => .idle w) (fun w => .refl w) ?_
    simp only [sndS, body66, Try.f66, Option.getD_some]
    repeat (w_but "code.loop" K.rl)
    u_c stepG_loop K.rl hF
    refine Goes.stop (fun w r => ?_)
    exact hH _ _ _ _ _ _ _ _ _ _ _ _ _ _ _ _ _ _ _ _ _ _ _ _ _ _ _ _ _ _ _ _ _ (K.rl hF r)⟩
  refine ⟨m + 20, fun w hF => goes_idle (n := 20) (fun w => .idle w) (fun w => .refl w) ?_⟩
  simp only [sndS, body66, Try.f66, Option.getD_some] at hm
  simp only [body66, Try.f66, Option.getD_some]
  repeat (w_but "code.region.draws" K.rl)
  refine Goes.stop (fun w r => ?_)
  exact hm _ (K.rl hF r)
end
end Go.Proofs.Ytpmmimcafkillaa.Tr

set_option linter.unusedVariables false
set_option linter.unusedSimpArgs false
namespace Go.Proofs.Ytpmmimcafkillaa.Tr
open Go Go.Conc Go.ConcN Go.RowKit Go.Conc.Lib Go.ConcR.Gen Go.ConcM
open Go.ConcR (KK wgBlock WgAt stA smA rd wr mk DC0)
open Go.Proofs.Ytpmmimcafkillaa.Mx
open Go.Proofs.Ytpmmimcafkillaa.Mx (Mu St)
section
variable {Y : Lay} {F : Nat → Prop} {Kw : World → Prop} {gid : Nat} {vs : List Int} {B : Nat} {Stop : Goroutine → World → Prop} {qb ja : Addr} {n cap0 j : Nat} {kd vl cst : Int}
variable {b₀ : Frame} {a₀ : Act} {ops₀ : Array Oper} {i₀ : Nat} {rest₀ : List Nat} {k₀ : List Item} {cs : List Frame}
end
end Go.Proofs.Ytpmmimcafkillaa.Tr
