/-
  Which functions of the model run alike where blocks are emptied (4). It names no program; no conditions.
  Which functions of the model run alike where blocks are emptied (5). It names no program; no conditions.
-/
import Derived.Test.YtpmmimcafkillaaZHx
set_option linter.unusedVariables false
set_option linter.unusedSimpArgs false
namespace Go.Proofs.Ytpmmimcafkillaa.Br
open Go Go.Conc
variable {p : Program}

set_option maxHeartbeats 8000000 in
theorem sm_append (a : Array TypeId) (t : TypeId) (args : Array Value) : Sm p (Builtin.append_ a t args) := by
  unfold Builtin.append_
  (repeat' (first | with_reducible exact sm_pure _ | ((with_reducible refine sm_unsupported _ ?_) <;> rfl) | with_reducible (first | (refine sm_ite ?_ ?_) | exact sm_lenOf _ | exact sm_firstCells _ _ _ | exact sm_asInt _ | exact sm_runtimePanic _ | exact sm_newRow _ _ | exact sm_storeCells _ _ _ | exact sm_zeroValue _ | exact sm_sizeOf _ | exact sm_askRoom _ | exact sm_typeInfo _ | exact sm_underlying _ | exact sm_choose _ | exact sm_stuck _ | assumption) | ((with_reducible refine sm_never (ns_mayShare _ _ _ _ _) (np_mayShare _ _ _ _ _) ?_ ?_) <;> first | (intro r; cases r <;> first | exact rfl | exact ⟨rfl, rfl⟩) | (intro r w es; cases r <;> exact ⟨_, _, _, rfl⟩)) | (refine sm_bind ?_ (fun _ => ?_)) | (intro _) | split | dsimp only))
end Go.Proofs.Ytpmmimcafkillaa.Br

set_option linter.unusedVariables false
set_option linter.unusedSimpArgs false
namespace Go.Proofs.Ytpmmimcafkillaa.Br
open Go Go.Conc
variable {p : Program}

theorem sm_progK {α : Type} {k : Program → Sem α} (h : Sm p (k p)) : Sm p (.program k) := ⟨h.1, h.2⟩
theorem sm_underK {α : Type} {t : TypeId} {f : TypeDesc → Sem α} (h : ∀ d, p.underlying t = some d → Sm p (f d)) : Sm p (underlying t >>= f) := by
  unfold underlying
  show Sm p (.program fun q => Sem.bind (match q.underlying t with | some d => pure d | none => stuck "no such type") f)
  refine sm_progK ?_
  cases hu : p.underlying t with
  | none => exact sm_stuck _
  | some d => exact h d hu

def noUns (p : Program) (t : TypeId) : Bool := match p.underlying t with | some .unsafePointer => false | _ => true
theorem noUns_ne {t : TypeId} (h : noUns p t = true) : p.underlying t ≠ some .unsafePointer := fun e => by simp [noUns, e] at h
theorem sm_convert (s d : TypeId) (x : Value) (hs : noUns p s = true) (hd : noUns p d = true) : Sm p (convert s d x) := by
  have h1 := noUns_ne hs
  have h2 := noUns_ne hd
  unfold convert
  refine sm_underK fun a ha => sm_underK fun b hb => ?_
  rw [ha] at h1
  rw [hb] at h2
  clear ha hb hs hd
  split
  all_goals (try (exact absurd rfl h1))
  all_goals (try (exact absurd rfl h2))
  all_goals (repeat' (first | with_reducible exact sm_pure _ | ((with_reducible refine sm_unsupported _ ?_) <;> rfl) | with_reducible (first | exact sm_complexToComplex _ _ _ _ | exact sm_stringToBytes _ _ | exact sm_stringToRunes _ _ | exact sm_bytesToString _ | exact sm_runesToString _ | exact sm_floatToFloat _ _ _ | exact sm_floatToInt _ _ _ | exact sm_intToInt _ _ | exact sm_intToFloat _ _ | exact sm_intToString _ | exact sm_markStringish _ | exact sm_underlying _ | exact sm_stuck _ | assumption) | (refine sm_bind ?_ (fun _ => ?_)) | (intro _) | split | dsimp only))
theorem sm_mapM_array {α β : Type} (f : α → Sem β) (h : ∀ a, Sm p (f a)) (l : Array α) : Sm p (l.mapM f) := by
  rw [Array.mapM_eq_mapM_toList]
  exact sm_map _ (sm_mapM_list f h _)
theorem sm_build (t : TypeId) (ps : Array (Nat × Value)) : Sm p (Instr.build t ps) := by unfold Instr.build; (repeat' (first | with_reducible exact sm_pure _ | ((with_reducible refine sm_unsupported _ ?_) <;> rfl) | with_reducible (first | (refine sm_mapM_array _ (fun _ => ?_) _) | exact sm_zeroValue _ | exact sm_sizeOf _ | exact sm_underlying _ | exact sm_stuck _ | assumption) | (refine sm_bind ?_ (fun _ => ?_)) | (intro _) | split | dsimp only))

theorem run_variablesAt (a : Addr) (u : TypeId) (n : Nat) (w : World) (es : Array Event) :
    (variablesAt a u n).runT p w es = (.ok (match w.shape? a.block with | some (e, cells) => liesAt p p.depth e (cells / p.cellsOf e) a.off u n | none => false) w, es) := by
  unfold variablesAt
  show Sem.runT p (.program fun q => .shape a.block fun s => _) w es = _
  simp only [Sem.runT]
  cases w.shape? a.block with
  | none => rfl
  | some x => rfl
theorem sm_variablesK {α : Type} (a : Addr) (u : TypeId) (n : Nat) (k : Bool → Sem α) (hk : ∀ b, Sm p (k b))
    (hS : ∀ (S : Nat → Prop) (w W : World) (es : Array Event) (b : Bool), Hid S w W → S a.block → ∃ h w' es', (k b).runT p w es = (.halt h w', es') ∧ ∀ v, h ≠ .panic v) : Sm p (variablesAt a u n >>= k) := by
  refine ⟨NoSys.bind (?_ : NoSys p (variablesAt a u n)) fun b => (hk b).1, fun S w W es h => ?_⟩
  · unfold variablesAt
    exact NoSys.bind trivial fun q => NoSys.bind (fun _ => trivial) fun s => by cases s <;> trivial
  · show Rs S (Sem.runT p (Sem.bind _ _) w es) (Sem.runT p (Sem.bind _ _) W es)
    rw [Sem.runT_bind', Sem.runT_bind', run_variablesAt, run_variablesAt]
    by_cases ha : S a.block
    · obtain ⟨x, w', es', hx, hn⟩ := hS S w W es (match w.shape? a.block with | some (e, cells) => liesAt p p.depth e (cells / p.cellsOf e) a.off u n | none => false) h ha
      simp only [hx]
      exact .inl hn
    · rw [h.shape ha]
      exact (hk _).2 S w W es h
theorem sm_loadBytes : ∀ (n : Nat) (a : Addr) (acc : ByteArray), Sm p (loadBytes a acc n)
  | 0, a, acc => sm_pure _
  | n + 1, a, acc => by
    unfold loadBytes
    refine sm_bind (sm_load _ _) fun v => ?_
    split
    · exact sm_loadBytes n _ _
    · exact sm_stuck _
theorem sm_stop {α β : Type} {s : Sem α} {f : α → Sem β} (hs : Sm p s) (hn : ∀ w es, ∃ h w' es', s.runT p w es = (.halt h w', es')) (hf : ∀ a, NoSys p (f a)) : Sm p (s >>= f) := by
  refine ⟨NoSys.bind hs.1 hf, fun S w W es h => ?_⟩
  show Rs S (Sem.runT p (s.bind f) w es) (Sem.runT p (s.bind f) W es)
  have h1 := hs.2 S w W es h
  obtain ⟨x, w', es', hx⟩ := hn w es
  rw [Sem.runT_bind', Sem.runT_bind']
  rw [hx] at h1 ⊢
  rcases h1 with h1 | h1 | ⟨W', e, hh⟩
  · exact .inl h1
  · exact .inr (.inl h1)
  · rw [e]; exact .inr (.inr ⟨W', rfl, hh⟩)
theorem run_rpanic {α : Type} (e : String) (w : World) (es : Array Event) : ∃ h w' es', (runtimePanic (.error e) : Sem α).runT p w es = (.halt h w', es') := by
  unfold runtimePanic
  exact ⟨_, _, _, rfl⟩
theorem sm_unsafeString (ts : Array TypeId) (t : TypeId) (args : Array Value) : Sm p (Builtin.unsafeString_ ts t args) := by
  have key : ∀ (a : Addr) (u : TypeId) (n : Int), n ≠ 0 → ¬ n < 0 → Sm p (do
      if ← variablesAt a u n.toNat then do
        let s ← loadBytes a .empty n.toNat
        freeze a n.toNat
        pure (.string s)
      else unsupported (.unsafePointer "String: not so many bytes at ptr") : Sem Value) := fun a u n h0 h1 => by
    refine sm_variablesK a u n.toNat _ (fun b => ?_) (fun S w W es b h hr => ?_)
    · cases b with
      | false => exact sm_unsupported _ rfl
      | true => exact sm_bind (sm_loadBytes _ _ _) fun _ => sm_bind (sm_freeze _ _) fun _ => sm_pure _
    · cases b with
      | false => exact ⟨_, _, _, rfl, by simp⟩
      | true =>
        obtain ⟨m, hm⟩ : ∃ m, n.toNat = m + 1 := ⟨n.toNat - 1, by omega⟩
        rw [hm]
        obtain ⟨c, e, g1, g2⟩ := h.inn _ hr
        refine ⟨.stuck "load: no such cell", w, es, ?_, by simp⟩
        show Sem.runT p (.load .plain a fun v => _) w es = _
        simp only [Sem.runT, h.noCell hr, World.farLoad, g1, World.noCell]
  unfold Builtin.unsafeString_
  obtain ⟨l⟩ := args
  rcases l with _ | ⟨x, _ | ⟨y, _ | ⟨z, l⟩⟩⟩
  · exact sm_stuck _
  · cases x <;> exact sm_stuck _
  · cases x with
    | pointer q =>
      refine sm_bind (s := asInt y) (sm_asInt _) (fun n => ?_)
      cases hts : ts[0]? with
      | none => exact sm_stuck _
      | some pt =>
        dsimp only
        have nv : ∀ a u m, NoSys p (variablesAt a u m) := fun a u m => by
          unfold variablesAt
          exact NoSys.bind trivial fun q => NoSys.bind (fun _ => trivial) fun s => by cases s <;> trivial
        by_cases hneg : n < 0
        · rw [if_pos hneg]
          refine sm_stop (sm_runtimePanic _) (run_rpanic _) fun _ => ?_
          (repeat' (first | exact trivial | exact rfl | exact (sm_runtimePanic _).1 | exact (sm_loadBytes _ _ _).1 | exact (sm_elemOf _).1 | exact nv _ _ _ | (refine nb_bind ?_ (fun _ => ?_)) | (intro _) | split | dsimp only))
        · rw [if_neg hneg]
          by_cases hmax : n > IntKind.i64.max
          · rw [if_pos hmax]
            refine sm_stop (sm_unsupported _ rfl) (fun w es => ⟨_, _, _, rfl⟩) fun _ => ?_
            (repeat' (first | exact trivial | exact rfl | exact (sm_runtimePanic _).1 | exact (sm_loadBytes _ _ _).1 | exact (sm_elemOf _).1 | exact nv _ _ _ | (refine nb_bind ?_ (fun _ => ?_)) | (intro _) | split | dsimp only))
          · rw [if_neg hmax]
            cases q with
            | none => (repeat' (first | with_reducible exact sm_pure _ | ((with_reducible refine sm_unsupported _ ?_) <;> rfl) | with_reducible (first | (refine sm_ite ?_ ?_) | exact sm_asInt _ | exact sm_runtimePanic _ | exact sm_elemOf _ | exact sm_freeze _ _ | exact sm_stuck _ | assumption) | (refine sm_bind ?_ (fun _ => ?_)) | (intro _) | split | dsimp only))
            | some a =>
              dsimp only
              by_cases h0 : n = 0
              · rw [if_pos h0]; exact sm_pure _
              · rw [if_neg h0]
                exact sm_bind (sm_elemOf _) fun u => key a u n h0 hneg
    | _ => exact sm_stuck _
  · cases x <;> exact sm_stuck _
end Go.Proofs.Ytpmmimcafkillaa.Br
