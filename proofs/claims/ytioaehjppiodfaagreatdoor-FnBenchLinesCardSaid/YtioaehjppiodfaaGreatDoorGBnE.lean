/-
  The map of deeds: its contract, and what a look-up in it gives.
-/
import Derived.Test.YtioaehjppiodfaaGreatDoorGBnD
import Derived.Maps.OwnSet
namespace Go.Proofs.YtioaehjppiodfaaGreatDoor
open Go.RowKit Go.WideMaps Go.Maps
set_option linter.unusedVariables false
set_option linter.unusedSimpArgs false

theorem lawS : Keyed Tryz.prog 9 := string_keyed Tryz.underlying9
/-- a deed's value -/
def clV (p : Nat) : Value := .func (.func 75) #[] #[.pointer (some ⟨p, 0, none⟩), .pointer (some ⟨p + 1, 0, none⟩)]
theorem clV_inj {p q : Nat} (h : clV p = clV q) : p = q := by
  unfold clV at h
  injection h with _ _ h
  have h2 : (#[Value.pointer (some ⟨p, 0, none⟩), Value.pointer (some ⟨p + 1, 0, none⟩)] : Array Value)[0]? = (#[Value.pointer (some ⟨q, 0, none⟩), Value.pointer (some ⟨q + 1, 0, none⟩)] : Array Value)[0]? := by rw [h]
  simp at h2
  exact h2
open Classical in
/-- how it is told -/
noncomputable def Rf (v : Value) : Option (DataW Unit × List MemPlace) :=
  if h : ∃ p, v = clV p then some (.lit (.int .i64 (Classical.choose h : Nat)), []) else if v = .nilFunc then some (.lit (.int .i64 (-1)), []) else none
theorem Rf_cl (p : Nat) : Rf (clV p) = some (.lit (.int .i64 (p : Nat)), []) := by
  have h : ∃ q, clV p = clV q := ⟨p, rfl⟩
  unfold Rf
  rw [dif_pos h, ← clV_inj (Classical.choose_spec h)]
theorem nil_cl (p : Nat) : Value.nilFunc ≠ clV p := by unfold clV; intro h; cases h
theorem Rf_nil : Rf .nilFunc = some (.lit (.int .i64 (-1)), []) := by
  unfold Rf
  rw [dif_neg (fun ⟨p, h⟩ => nil_cl p h), if_pos rfl]
theorem Rf_inv {v : Value} {p : Nat} {ps : List MemPlace} (h : Rf v = some (.lit (.int .i64 (p : Nat)), ps)) : v = clV p := by
  unfold Rf at h
  split at h
  · rename_i hx
    injection h with h
    injection h with h _
    injection h with h
    injection h with _ h
    have h2 := Classical.choose_spec hx
    rw [show Classical.choose hx = p by omega] at h2
    exact h2
  · split at h
    · injection h with h
      injection h with h _
      injection h with h
      injection h with _ h
      omega
    · cases h
/-- what the map holds -/
structure Ent (D : DataW Unit) (E : List (List UInt8 × Nat)) : Prop where
  here : ∀ e ∈ E, has D (.string e.1) = true ∧ ∀ z, D.atKey (.string e.1) z = .lit (.int .i64 (e.2 : Nat))
  none : ∀ kl, (∀ e ∈ E, kl ≠ .string e.1) → has D kl = false
theorem Ent.nil : Ent (.map []) [] := ⟨fun e h => (by cases h), fun kl _ => rfl⟩
theorem key_of (k : List UInt8) (hk : k.length ≤ 20000) : keyOf Tryz.prog 9 (.string ⟨k.toArray⟩) = some (.string k) := by
  have h : (⟨k.toArray⟩ : ByteArray).size ≤ maxLen := by
    show k.toArray.size ≤ maxLen
    simp [maxLen]; omega
  exact keyOf_string_mk Tryz.underlying9 h
theorem Ent.step {D : DataW Unit} {E : List (List UInt8 × Nat)} {k : List UInt8} {p : Nat} (h : Ent D E) (hD : IsMap D) (hk : k.length ≤ 20000) (hn : ∀ e ∈ E, e.1 ≠ k) : Ent (D.put (.string k) (.lit (.int .i64 (p : Nat)))) (E ++ [(k, p)]) := by
  have hkl : WideAt.IsKeyLit (.string k) := lawS.key (key_of k hk)
  refine ⟨fun e he => ?_, fun kl hkl' => ?_⟩
  · rcases List.mem_append.1 he with h1 | h1
    · have hne : (Lit.string e.1) ≠ .string k := by
        intro h2
        injection h2 with h2
        exact hn e h1 h2
      rw [has_put_other hne]
      refine ⟨(h.here e h1).1, fun z => ?_⟩
      rw [atKey_put_other hne]
      exact (h.here e h1).2 z
    · simp at h1
      subst h1
      exact ⟨has_put_same hD hkl _, fun z => atKey_put_same hD hkl _ z⟩
  · rw [has_put_other (hkl' (k, p) (by simp))]
    exact h.none kl (fun e he => hkl' e (by simp [he]))
/-- the map in memory -/
def DM (w : World) (M : Nat) (E : List (List UInt8 × Nat)) : Prop := ∃ D : DataW Unit, w.ownsMap Tryz.prog 9 Rf M E.length D ∧ Ent D E
theorem DM.kept {w w' : World} {M : Nat} {E : List (List UInt8 × Nat)} (h : DM w M E) (hb : w'.heap[M]? = w.heap[M]?) : DM w' M E := by
  obtain ⟨D, ⟨es, cl, h1, h2⟩, h3⟩ := h
  exact ⟨D, ⟨es, cl, hb.trans h1, h2⟩, h3⟩
theorem DM.lt {w : World} {M : Nat} {E : List (List UInt8 × Nat)} (h : DM w M E) : M < w.heap.size := by
  obtain ⟨D, h, _⟩ := h
  exact h.lt
theorem zero68 (w : World) : (zeroValue 68).run Tryz.prog w = .ok .nilFunc w := by kernel_rfl
/-- a look-up -/
theorem DM.look_in {w : World} {M : Nat} {E : List (List UInt8 × Nat)} (h : DM w M E) {k : List UInt8} {p : Nat} (hk : k.length ≤ 20000) (he : (k, p) ∈ E) :
    ∀ w', w'.heap[M]? = w.heap[M]? → (Instr.lookup 42 (.map (some M)) (.string ⟨k.toArray⟩) true).run Tryz.prog w' = .ok (.tuple #[clV p, .bool true]) w' := by
  intro w' hw
  obtain ⟨D, hown, hE⟩ := h.kept hw
  obtain ⟨v, ps, h1, h2⟩ := hown.look_ok lawS Tryz.underlying42 (zero68 w') Rf_nil (key_of k hk)
  obtain ⟨h3, h4⟩ := hE.here _ he
  rw [h4] at h2
  rw [h3, Rf_inv h2] at h1
  exact h1
theorem DM.look_out {w : World} {M : Nat} {E : List (List UInt8 × Nat)} (h : DM w M E) {k : List UInt8} (hk : k.length ≤ 20000) (he : ∀ e ∈ E, k ≠ e.1) :
    ∃ v, (Instr.lookup 42 (.map (some M)) (.string ⟨k.toArray⟩) true).run Tryz.prog w = .ok (.tuple #[v, .bool false]) w := by
  obtain ⟨D, hown, hE⟩ := h
  obtain ⟨v, ps, h1, h2⟩ := hown.look_ok lawS Tryz.underlying42 (zero68 w) Rf_nil (key_of k hk)
  rw [hE.none _ (fun e h2 h3 => by injection h3 with h3; exact he e h2 h3)] at h1
  exact ⟨v, h1⟩
/-- a key and its value laid into a map under way -/
theorem wpList_insert {ops : Array Oper} {rest : List Oper} {o : Oper} {a : Act} {Q : Exit → Act → World → Prop} (w : World)
    (hg : o.guard = none) (m x v : Operand) (hop : o.op = Op.insert 42 m x v) (M p : Nat) (E : List (List UInt8 × Nat)) (k : List UInt8)
    (hm : a.eval m = .map (some M)) (hown : DM w M E) (hn : E.length ≤ 1000) (hk : k.length ≤ 20000) (hx : a.eval x = .string ⟨k.toArray⟩) (hv : a.eval v = clV p) (hd : ∀ e ∈ E, e.1 ≠ k)
    (hK : ∀ w', DM w' M (E ++ [(k, p)]) → w.grownBy w' (some M) → w'.heap.size = w.heap.size → wpList Tryz.prog ops Q rest (a.put o.dst undef) w') :
    wpList Tryz.prog ops Q (o :: rest) a w := by
  refine wpList_plain hg fun K' hK' => ?_
  obtain ⟨D, hD, hE⟩ := hown
  obtain ⟨w', hrun, r1, r2⟩ := hD.store lawS Tryz.underlying42 (by unfold maxLen; omega) (key_of k hk) (Rf_cl p)
  unfold Oper.wp
  simp [execOp, hop, hm, hx, hv, hrun, Result.andThen]
  exact hK' _ _ (hK w' ⟨_, by rw [List.length_append]; exact r1, hE.step hD.isMap hk hd⟩ r2.grown (by obtain ⟨_, _, _, _, _, rfl⟩ := r2; simp [ChangeMaps.setBlock]))

def entL (n j : Nat) : List (List UInt8 × Nat) := (List.range j).map fun i => (keyL i, psL n i)
def szL : Nat → Nat
  | 0 => 1 | 1 => 4 | 2 => 7 | 3 => 10 | 4 => 13 | 5 => 16 | 6 => 19 | 7 => 22 | 8 => 25 | 9 => 27 | 10 => 29 | 11 => 31 | 12 => 33 | _ => 35
/-- the first j deeds are laid -/
structure Mid (w0 : World) (j : Nat) (w : World) : Prop where
  sz : w.heap.size = w0.heap.size + szL j
  bl : Below w0.heap.size w0 w
  dm : DM w w0.heap.size (entL w0.heap.size j)
  dv : ∀ i, i < j → DV w w0.heap.size i
theorem DVE.kept {w w' : World} {q T G F c : Nat} (h : DVE w q T G F c) (hk : ∀ b, q ≤ b → b ≤ q + 2 → w'.heap[b]? = w.heap[b]?) : DVE w' q T G F c :=
  ⟨(hk _ (by omega) (by omega)).trans h.1, (hk _ (by omega) (by omega)).trans h.2.1, (hk _ (by omega) (by omega)).trans h.2.2⟩
theorem DVP.kept {w w' : World} {q F c : Nat} (h : DVP w q F c) (hk : ∀ b, q ≤ b → b ≤ q + 1 → w'.heap[b]? = w.heap[b]?) : DVP w' q F c :=
  ⟨(hk _ (by omega) (by omega)).trans h.1, (hk _ (by omega) (by omega)).trans h.2⟩
theorem DV.kept {w w' : World} {n i : Nat} (h : DV w n i) (hi : i < 13) (hk : ∀ b, n < b → b < n + 35 → w'.heap[b]? = w.heap[b]?) : DV w' n i := by
  match i, hi with
  | 0, _ => exact DVE.kept h (fun b h1 h2 => hk b (by omega) (by omega))
  | 1, _ => exact DVE.kept h (fun b h1 h2 => hk b (by omega) (by omega))
  | 2, _ => exact DVE.kept h (fun b h1 h2 => hk b (by omega) (by omega))
  | 3, _ => exact DVE.kept h (fun b h1 h2 => hk b (by omega) (by omega))
  | 4, _ => exact DVE.kept h (fun b h1 h2 => hk b (by omega) (by omega))
  | 5, _ => exact DVE.kept h (fun b h1 h2 => hk b (by omega) (by omega))
  | 6, _ => exact DVE.kept h (fun b h1 h2 => hk b (by omega) (by omega))
  | 7, _ => exact DVE.kept h (fun b h1 h2 => hk b (by omega) (by omega))
  | 8, _ => exact DVP.kept h (fun b h1 h2 => hk b (by omega) (by omega))
  | 9, _ => exact DVP.kept h (fun b h1 h2 => hk b (by omega) (by omega))
  | 10, _ => exact DVP.kept h (fun b h1 h2 => hk b (by omega) (by omega))
  | 11, _ => exact DVP.kept h (fun b h1 h2 => hk b (by omega) (by omega))
  | 12, _ => exact DVP.kept h (fun b h1 h2 => hk b (by omega) (by omega))
/-- .. and of a deed among the first, whose boxes are there -/
theorem DV.grown {w w' : World} {n i : Nat} (h : DV w n i) (hi : i < 13) (hk : ∀ b, n < b → b < w.heap.size → w'.heap[b]? = w.heap[b]?) : DV w' n i := by
  have hE : ∀ {q T G F c : Nat}, n < q → DVE w q T G F c → DVE w' q T G F c := fun hq h => by
    have := h.2.2.lt
    exact h.kept (fun b h1 h2 => hk b (by omega) (by omega))
  have hP : ∀ {q F c : Nat}, n < q → DVP w q F c → DVP w' q F c := fun hq h => by
    have := h.2.lt
    exact h.kept (fun b h1 h2 => hk b (by omega) (by omega))
  match i, hi with
  | 0, _ => exact hE (by omega) h
  | 1, _ => exact hE (by omega) h
  | 2, _ => exact hE (by omega) h
  | 3, _ => exact hE (by omega) h
  | 4, _ => exact hE (by omega) h
  | 5, _ => exact hE (by omega) h
  | 6, _ => exact hE (by omega) h
  | 7, _ => exact hE (by omega) h
  | 8, _ => exact hP (by omega) h
  | 9, _ => exact hP (by omega) h
  | 10, _ => exact hP (by omega) h
  | 11, _ => exact hP (by omega) h
  | 12, _ => exact hP (by omega) h

theorem tell_made (c G : Nat) (cs : Array Value) (w : World) :
    Calls Tryz.prog 41 #[.int .i64 c, .func (.func G) #[] cs] w fun e w' => e = .returned (clV w.heap.size) ∧ w' = (w.alloc (.cells #[.int .i64 c] 3)).alloc (.cells #[.func (.func G) #[] cs] 68) := by
  go_enter Tryz.func41, Tryz.ntmps41
  go_wp2
  go_ret
  exact ⟨rfl, rfl⟩
/-- what making a deed leaves -/
def MadeE (T G F c : Nat) (w : World) (e : Ending) (w' : World) : Prop := e = .returned (clV (w.heap.size + 1)) ∧ w'.heap.size = w.heap.size + 3 ∧ Below w.heap.size w w' ∧ DVE w' w.heap.size T G F c
def MadeP (F c : Nat) (w : World) (e : Ending) (w' : World) : Prop := e = .returned (clV w.heap.size) ∧ w'.heap.size = w.heap.size + 2 ∧ Below w.heap.size w w' ∧ DVP w' w.heap.size F c
theorem madeE_of (T G F c : Nat) (w : World) : MadeE T G F c w (.returned (clV (w.heap.size + 1))) (((w.alloc (.cells #[.func (.func F) #[] #[]] T)).alloc (.cells #[.int .i64 c] 3)).alloc (.cells #[.func (.func G) #[] #[.pointer (some ⟨w.heap.size, 0, none⟩)]] 68)) := by
  refine ⟨rfl, by simp, (((Below.refl _ _).alloc (Nat.le_refl _) _).alloc (by simp) _).alloc (by simp; omega) _, ?_, ?_, ?_⟩
  · exact ((Boxed.new w T _).alloc _).alloc _
  · have := (Boxed.new (w.alloc (.cells #[.func (.func F) #[] #[]] T)) 3 (.int .i64 c)).alloc (.cells #[.func (.func G) #[] #[.pointer (some ⟨w.heap.size, 0, none⟩)]] 68)
    simpa using this
  · have := Boxed.new ((w.alloc (.cells #[.func (.func F) #[] #[]] T)).alloc (.cells #[.int .i64 c] 3)) 68 (.func (.func G) #[] #[.pointer (some ⟨w.heap.size, 0, none⟩)])
    simpa using this
set_option maxHeartbeats 1600000 in
theorem clip_made (F : Nat) (w : World) : Calls Tryz.prog 31 #[.func (.func F) #[] #[]] w (MadeE 70 71 F 4 w) := by
  have hm := hide (madeE_of 70 71 F 4 w)
  have hT := hide (tell_made 4 71 #[.pointer (some ⟨w.heap.size, 0, none⟩)] (w.alloc (.cells #[.func (.func F) #[] #[]] 70)))
  go_enter Tryz.func31, Tryz.ntmps31
  go_wp2_with fail
  refine (unhide hT).mono ?_
  rintro e w1 ⟨rfl, rfl⟩
  clear hT
  go_wp2
  go_ret
  have := unhide hm
  simpa using this
set_option maxHeartbeats 1600000 in
theorem num_made (F : Nat) (w : World) : Calls Tryz.prog 34 #[.func (.func F) #[] #[]] w (MadeE 72 74 F 2 w) := by
  have hm := hide (madeE_of 72 74 F 2 w)
  have hT := hide (tell_made 2 74 #[.pointer (some ⟨w.heap.size, 0, none⟩)] (w.alloc (.cells #[.func (.func F) #[] #[]] 72)))
  go_enter Tryz.func34, Tryz.ntmps34
  go_wp2_with fail
  refine (unhide hT).mono ?_
  rintro e w1 ⟨rfl, rfl⟩
  clear hT
  go_wp2
  go_ret
  have := unhide hm
  simpa using this
theorem plain_made (c F : Nat) (w : World) : Calls Tryz.prog 41 #[.int .i64 c, .func (.func F) #[] #[]] w (MadeP F c w) := by
  refine (tell_made c F #[] w).mono ?_
  rintro e w1 ⟨rfl, rfl⟩
  refine ⟨rfl, by simp, ((Below.refl _ _).alloc (Nat.le_refl _) _).alloc (by simp) _, (Boxed.new w 3 _).alloc _, ?_⟩
  have := Boxed.new (w.alloc (.cells #[.int .i64 c] 3)) 68 (.func (.func F) #[] #[])
  simpa using this

theorem Mid.zero (w0 : World) : Mid w0 0 (w0.alloc (.map #[] 0)) :=
  ⟨by simp [szL], (Below.refl _ _).alloc (Nat.le_refl _) _, ⟨_, World.ownsMap_made _ _ _ _, Ent.nil⟩, fun i h => by omega⟩
/-- one deed more -/
theorem Mid.step {w0 w w1 w2 : World} {j n : Nat} (hj : j < 13) (h : Mid w0 j w) (hb : Below w.heap.size w w1) (hs : w1.heap.size = w.heap.size + n) (hn : szL j + n = szL (j + 1)) (hd : DV w1 w0.heap.size j) (hm : DM w2 w0.heap.size (entL w0.heap.size j ++ [(keyL j, psL w0.heap.size j)])) (hg : w1.grownBy w2 (some w0.heap.size)) (h2 : w2.heap.size = w1.heap.size) : Mid w0 (j + 1) w2 := by
  refine ⟨by rw [h2, hs, h.sz]; omega, (h.bl.trans (hb.mono (by rw [h.sz]; omega))).grown hg (by have := hb.size; rw [h.sz] at this; omega) (fun k hk => by cases hk; exact Nat.le_refl _), ?_, fun i hi => ?_⟩
  · unfold entL
    rw [List.range_succ, List.map_append]
    exact hm
  · by_cases hij : i < j
    · exact (((h.dv i hij).grown (by omega) (fun b h1 h2 => hb.block b h2)).grown (by omega) (fun b h1 h3 => hg.block b h3 (fun e => by have := Option.some.inj e; omega)))
    · obtain rfl : i = j := by omega
      exact hd.grown (by omega) (fun b h1 h3 => hg.block b h3 (fun e => by have := Option.some.inj e; omega))
end Go.Proofs.YtioaehjppiodfaaGreatDoor
