/-
  Titles as text: the contract of the program; nothing that was there is written.
-/
import Derived.Test.YtcpllfjhhlbmiaaDoorShB
import Derived.Test.YtcpllfjhhlbmiaaDoorDlS
namespace Go.Proofs.YtcpllfjhhlbmiaaDoor
open Go.RowKit
set_option linter.unusedVariables false
set_option linter.unusedSimpArgs false

theorem bF_kept {T e : TypeId} {B b : Nat} {bs : List Value} {X Y : World} (h : Lib.IsBuilderF T e B b bs X) (hk : ∀ (k : Nat) (o : Obj), X.heap[k]? = some o → Y.heap[k]? = some o) : Lib.IsBuilderF T e B b bs Y := by
  have H : ∀ p, Lib.BuilderAtF T e B b p bs X → Lib.BuilderAtF T e B b p bs Y := by
    rintro p ⟨hB, v, hb, ⟨hl, hr⟩, hne⟩
    refine ⟨hB, v, hk _ _ hb, ⟨hl, ?_⟩, hne⟩
    rcases hr with hr | ⟨g, cap, cur, fz, hv, hg, hh, r⟩
    · exact .inl hr
    · exact .inr ⟨g, cap, cur, fz, hv, hg, hk _ _ hh, r⟩
  exact h.elim (fun x => .inl (H _ x)) (fun x => .inr (H _ x))
theorem bF_lt {T e : TypeId} {B b : Nat} {bs : List Value} {X : World} (h : Lib.IsBuilderF T e B b bs X) : b < X.heap.size := by
  rcases h with ⟨_, v, hb, _⟩ | ⟨_, v, hb, _⟩ <;> exact lt_blk hb
/-- a text under way in a Builder, beside it a title -/
structure Bt (w : World) (b q : Nat) (x y : Int) (s : ByteArray) (M : Nat) (L : List UInt8) (W : World) : Prop where
  iB : Lib.IsBuilderF 49 5 b b (Lib.byteCells L) W
  bel : Below w.heap.size w W
  hb : w.heap.size ≤ b
  hB : b ≤ W.heap.size
  ttl : W.heap[q]? = some (.cells #[.int .i64 x, .int .i64 y, .string s] 32 (0, 0))
  ne : q ≠ b
  len : L.length ≤ M
theorem Bt.later {w X Y : World} {b q M : Nat} {x y : Int} {s : ByteArray} {L : List UInt8} (h : Bt w b q x y s M L X) (hb : Below X.heap.size X Y) : Bt w b q x y s M L Y :=
  ⟨bF_kept h.iB (fun k o hk => blk_below hk hb), laterB h.bel hb, h.hb, Nat.le_trans h.hB hb.size, blk_below h.ttl hb, h.ne, h.len⟩
theorem Bt.write {w X Y : World} {b q M M' : Nat} {x y : Int} {s t : ByteArray} {L l : List UInt8} (h : Bt w b q x y s M L X) (ht : (⟨l.toArray⟩ : ByteArray) = t) (hA : Lib.BuilderAtF 49 5 b b (.pointer (some ⟨b, 0, none⟩)) (Lib.byteCells L ++ Lib.strCells t) Y) (hB : Below b X Y) (hO : Lib.OthersKept 5 (some b) X Y) (hM : M + l.length ≤ M') : Bt w b q x y s M' (L ++ l) Y := by
  subst ht
  refine ⟨.inr ?_, h.bel.trans (hB.mono h.hb), h.hb, Nat.le_trans h.hB hB.size, ?_, h.ne, by rw [List.length_append]; have := h.len; omega⟩
  · rw [Lib.byteCells_append]; exact hA
  · exact hO q _ h.ttl (by simpa using h.ne) (fun _ _ e => by injection e with _ e _; exact absurd e (by decide))
theorem txOk_len {l : List UInt8} (h : txOk l = true) : l.length ≤ 200 := by
  unfold txOk at h
  rw [Bool.and_eq_true] at h
  simpa using h.1
theorem ts_txt {l : List Kl} : ∀ {e : Int}, tsOk e l = true → ∀ x ∈ l, x.2.2.size ≤ 200 := by
  induction l with
  | nil => intro e _ x hx; cases hx
  | cons y l ih =>
    intro e h x hx
    simp only [tsOk, Bool.and_eq_true] at h
    rcases List.mem_cons.1 hx with rfl | hx
    · obtain ⟨x0, x1, s⟩ := x
      have h1 := h.1
      rw [ttOk_parts] at h1
      simp only [Bool.and_eq_true] at h1
      rw [Lib.size_eq]
      exact txOk_len h1.2.2
    · exact ih h.2 x hx
theorem t_txt {l : List Kl} (h : tOk l = true) : ∀ x ∈ l, x.2.2.size ≤ 200 := by
  unfold tOk at h
  rw [Bool.and_eq_true] at h
  exact ts_txt h.2

set_option maxRecDepth 100000 in
set_option maxHeartbeats 6400000 in
theorem ishow_any (a : Option Addr) (cap : Nat) (l : List Kl) (sR : ByteArray) (w : World) (hl : l.length ≤ 1048576) (hr : Kls w a l) (hsz : ∀ x ∈ l, x.2.2.size ≤ 1048576) (hM : MaxL w) (hT : Tab w) (hR : (⟨(showT l).toArray⟩ : ByteArray) = sR) :
    Calls Tryd.prog 8 #[.slice a l.length cap] w fun e w' => e = .returned (.string sR) ∧ Below w.heap.size w w' := by
  have hr' := hide hr
  have hT' := hide hT
  obtain ⟨v, hv⟩ : ∃ v, tOk l = v := ⟨_, rfl⟩
  have cT := hide (iok_any a cap l v w hl hr hsz hM hv)
  clear hr hsz hM hT
  cases v
  · have hR2 : (⟨#[]⟩ : ByteArray) = sR := by rw [← hR]; unfold showT; rw [hv]; rfl
    clear hR hv
    have hR3 := hide hR2
    clear hR2
    go_enter Tryd.func8, Tryd.ntmps8
    go_wp2_with fail
    refine (unhide cT).mono ?_
    rintro e w1 ⟨rfl, k1⟩
    go_wp2
    go_ret
    exact ⟨ret_bytes (unhide hR3), k1⟩
  have hR' := hide (show (⟨(shw l l.length).toArray⟩ : ByteArray) = sR by rw [← hR]; unfold showT; rw [hv, if_pos rfl])
  obtain ⟨hl2, hbd⟩ := t_bd hv
  have hbd' := hide hbd
  have htx := hide (t_txt hv)
  clear hR hv hbd
  go_enter Tryd.func8, Tryd.ntmps8
  go_wp2_with fail
  refine (unhide cT).mono ?_
  rintro e w1 ⟨rfl, k1⟩
  have s1 := k1.size
  have b1 := hide (k1.alloc s1 (.cells #[.pointer none, .slice none 0 0] 49))
  have i1 : Hid (Lib.IsBuilderF 49 5 w1.heap.size w1.heap.size (Lib.byteCells (shw l 0)) (w1.alloc (.cells #[.pointer none, .slice none 0 0] 49))) := hide (Lib.IsBuilderF.of (Lib.fresh_isBuilder 49 5 w1))
  have z1 : w1.heap.size ≤ (w1.alloc (.cells #[.pointer none, .slice none 0 0] 49)).heap.size := by simp
  clear k1 cT
  go_wp2_with fail
  generalize w1.alloc (.cells #[.pointer none, .slice none 0 0] 49) = X0 at *
  generalize w1.heap.size = b at *
  go_loopw [12] (fun t wr => ∃ k : Nat, k ≤ l.length ∧ t = .int .i64 k ∧ Hid (Lib.IsBuilderF 49 5 b b (Lib.byteCells (shw l k)) wr) ∧ Hid (Below w.heap.size w wr) ∧ b < wr.heap.size) (fun t _ => l.length - (intOf t).toNat)
  case atStart => exact ⟨0, by omega, rfl, i1, b1, bF_lt (unhide i1)⟩
  case round =>
    clear i1 b1 z1
    obtain ⟨k, hk, rfl, hi, hb, hbl⟩ := hrel
    have hs0 := (unhide hb).size
    by_cases hlt : k < l.length
    · have hlt2 : decide ((k : Int) < (l.length : Int)) = true := decide_eq_true (by omega)
      obtain ⟨x, hx⟩ : ∃ x, l[k]? = some x := ⟨l[k], List.getElem?_eq_getElem hlt⟩
      obtain ⟨bb, o, rfl, i1, c0, c1, c2⟩ := ((unhide hr').below (unhide hb)) k x hx
      obtain ⟨x0, x1, x2⟩ := unhide hbd' x (List.mem_of_getElem? hx)
      have hxs := unhide htx x (List.mem_of_getElem? hx)
      have hstep := hide (shw_step hx)
      have hPl := shw_len (unhide htx) k (by omega)
      obtain ⟨x, y, s⟩ := x
      simp only at c0 c1 c2 x0 x1 x2 hxs
      unfold tl at hstep
      simp only at hstep
      have hDl := dec4 (n := k + 1) (by omega)
      have h1l := mt_len x.toNat
      have h2l := mt_len y.toNat
      obtain ⟨L, hL0⟩ : ∃ L, s.data.toList = L := ⟨_, rfl⟩
      have hL : (⟨L.toArray⟩ : ByteArray) = s := by rw [← hL0]
      have hLl : L.length ≤ 200 := by rw [← hL0, ← Lib.size_eq]; exact hxs
      have hLs : s.size = L.length := by rw [← hL0, Lib.size_eq]
      obtain ⟨sD, hD⟩ : ∃ z, (⟨(Pl.dec (k + 1)).toArray⟩ : ByteArray) = z := ⟨_, rfl⟩
      obtain ⟨s1, h1⟩ : ∃ z, (⟨(mt x.toNat).toArray⟩ : ByteArray) = z := ⟨_, rfl⟩
      obtain ⟨s2, h2⟩ : ∃ z, (⟨(mt y.toNat).toArray⟩ : ByteArray) = z := ⟨_, rfl⟩
      have hDs : sD.size ≤ 4 := by rw [← hD]; show (Pl.dec (k + 1)).toArray.size ≤ 4; simpa using hDl
      have h1s : s1.size ≤ 12 := by rw [← h1]; show (mt x.toNat).toArray.size ≤ 12; simp [h1l]
      have h2s : s2.size ≤ 12 := by rw [← h2]; show (mt y.toNat).toArray.size ≤ 12; simp [h2l]
      have cN := hide (fun w' (h : Below w.heap.size w w') => inum_any k w' (by omega) ((unhide hT').below h))
      have cX : Hid (∀ w', Calls Tryd.prog 23 #[.int .i64 x] w' fun e w'' => e = .returned (.string s1) ∧ Below w'.heap.size w' w'') := hide (fun w' => by
        have := imil_any x.toNat w' (by omega)
        rw [show ((x.toNat : Nat) : Int) = x by omega, h1] at this; exact this)
      have cY : Hid (∀ w', Calls Tryd.prog 23 #[.int .i64 y] w' fun e w'' => e = .returned (.string s2) ∧ Below w'.heap.size w' w'') := hide (fun w' => by
        have := imil_any y.toNat w' (by omega)
        rw [show ((y.toNat : Nat) : Int) = y by omega, h2] at this; exact this)
      rw [hD] at cN
      rw [hL0] at hstep
      have h1m : (mt x.toNat).length ≤ 12 := by omega
      have h2m : (mt y.toNat).length ≤ 12 := by omega
      clear hx h1l h2l hL0
      generalize Pl.dec (k + 1) = D at *
      generalize mt x.toNat = M1 at *
      generalize mt y.toNat = M2 at *
      generalize shw l k = P at *
      have S : Hid (Bt w b wr.heap.size x y s 60000 P (wr.alloc (.cells #[.int .i64 x, .int .i64 y, .string s] 32))) := hide ⟨(unhide hi).alloc _, (unhide hb).alloc hs0 _, by assumption, by simp; omega, alloc_new _ _, by omega, by omega⟩
      have hsz9 := hide hLs
      have hDh := hide hD
      clear hi hb hLs
      go_wp2_with fail
      generalize wr.alloc (.cells #[.int .i64 x, .int .i64 y, .string s] 32) = X at *
      generalize wr.heap.size = q at *
      clear c0 c1 c2
      go_wp2_with fail
      refine (unhide cN _ (unhide S).bel).mono ?_
      rintro e w1x ⟨rfl, kb⟩
      have S := hide ((unhide S).later kb)
      clear kb
      go_wp2_with fail
      refine (Tryd.Builder_WriteString_k b b _ sD _ (unhide S).iB ?_ (unhide S).hB).mono ?_
      · have := (unhide S).len; rw [Lib.byteCells_length]; show _ + (sD : ByteArray).size ≤ _; omega
      rintro e w2x ⟨rfl, hA, hB', hO⟩
      have S := hide ((unhide S).write (M' := 60300) (l := D) hD hA hB' hO (by omega))
      clear hA hB' hO
      go_wp2_with fail
      refine (Tryd.Builder_WriteString_k b b _ ⟨#[10]⟩ _ (unhide S).iB ?_ (unhide S).hB).mono ?_
      · have := (unhide S).len; rw [Lib.byteCells_length]; show _ + (⟨#[10]⟩ : ByteArray).size ≤ _; simp [ByteArray.size]; omega
      rintro e w3x ⟨rfl, hA, hB', hO⟩
      have S := hide ((unhide S).write (M' := 60600) (l := [10]) rfl hA hB' hO (by simp))
      clear hA hB' hO
      obtain ⟨t0, t1, t2⟩ := blk3 (unhide S).ttl
      go_wp2_with fail
      refine (unhide cX _).mono ?_
      rintro e w4x ⟨rfl, kb⟩
      have S := hide ((unhide S).later kb)
      clear kb
      clear t0 t1 t2
      go_wp2_with fail
      refine (Tryd.Builder_WriteString_k b b _ s1 _ (unhide S).iB ?_ (unhide S).hB).mono ?_
      · have := (unhide S).len; rw [Lib.byteCells_length]; show _ + (s1 : ByteArray).size ≤ _; omega
      rintro e w5x ⟨rfl, hA, hB', hO⟩
      have S := hide ((unhide S).write (M' := 60900) (l := M1) h1 hA hB' hO (by omega))
      clear hA hB' hO
      go_wp2_with fail
      refine (Tryd.Builder_WriteString_k b b _ ⟨#[32, 45, 45, 62, 32]⟩ _ (unhide S).iB ?_ (unhide S).hB).mono ?_
      · have := (unhide S).len; rw [Lib.byteCells_length]; show _ + (⟨#[32, 45, 45, 62, 32]⟩ : ByteArray).size ≤ _; simp [ByteArray.size]; omega
      rintro e w6x ⟨rfl, hA, hB', hO⟩
      have S := hide ((unhide S).write (M' := 61200) (l := [32, 45, 45, 62, 32]) rfl hA hB' hO (by simp))
      clear hA hB' hO
      obtain ⟨t0, t1, t2⟩ := blk3 (unhide S).ttl
      go_wp2_with fail
      refine (unhide cY _).mono ?_
      rintro e w7x ⟨rfl, kb⟩
      have S := hide ((unhide S).later kb)
      clear kb
      clear t0 t1 t2
      go_wp2_with fail
      refine (Tryd.Builder_WriteString_k b b _ s2 _ (unhide S).iB ?_ (unhide S).hB).mono ?_
      · have := (unhide S).len; rw [Lib.byteCells_length]; show _ + (s2 : ByteArray).size ≤ _; omega
      rintro e w8x ⟨rfl, hA, hB', hO⟩
      have S := hide ((unhide S).write (M' := 61500) (l := M2) h2 hA hB' hO (by omega))
      clear hA hB' hO
      go_wp2_with fail
      refine (Tryd.Builder_WriteString_k b b _ ⟨#[10]⟩ _ (unhide S).iB ?_ (unhide S).hB).mono ?_
      · have := (unhide S).len; rw [Lib.byteCells_length]; show _ + (⟨#[10]⟩ : ByteArray).size ≤ _; simp [ByteArray.size]; omega
      rintro e w9x ⟨rfl, hA, hB', hO⟩
      have S := hide ((unhide S).write (M' := 61800) (l := [10]) rfl hA hB' hO (by simp))
      clear hA hB' hO
      obtain ⟨t0, t1, t2⟩ := blk3 (unhide S).ttl
      go_wp2_with fail
      refine (Tryd.Builder_WriteString_k b b _ s _ (unhide S).iB ?_ (unhide S).hB).mono ?_
      · have := (unhide S).len; rw [Lib.byteCells_length]; show _ + (s : ByteArray).size ≤ _; omega
      rintro e w10x ⟨rfl, hA, hB', hO⟩
      have S := hide ((unhide S).write (M' := 62100) (l := L) hL hA hB' hO (by omega))
      clear hA hB' hO
      clear t0 t1 t2
      go_wp2_with fail
      refine (Tryd.Builder_WriteString_k b b _ ⟨#[10]⟩ _ (unhide S).iB ?_ (unhide S).hB).mono ?_
      · have := (unhide S).len; rw [Lib.byteCells_length]; show _ + (⟨#[10]⟩ : ByteArray).size ≤ _; simp [ByteArray.size]; omega
      rintro e w11x ⟨rfl, hA, hB', hO⟩
      have S := hide ((unhide S).write (M' := 62400) (l := [10]) rfl hA hB' hO (by simp))
      clear hA hB' hO
      go_wp2_with fail
      refine (Tryd.Builder_WriteString_k b b _ ⟨#[10]⟩ _ (unhide S).iB ?_ (unhide S).hB).mono ?_
      · have := (unhide S).len; rw [Lib.byteCells_length]; show _ + (⟨#[10]⟩ : ByteArray).size ≤ _; simp [ByteArray.size]; omega
      rintro e w12x ⟨rfl, hA, hB', hO⟩
      have S := hide ((unhide S).write (M' := 62700) (l := [10]) rfl hA hB' hO (by simp))
      clear hA hB' hO
      have hfin := hide (show Lib.IsBuilderF 49 5 b b (Lib.byteCells (shw l (k + 1))) _ from by
        have h9 := (unhide S).iB
        rw [unhide hstep]
        simpa only [List.append_assoc, List.cons_append, List.nil_append] using h9)
      have hbf := hide (unhide S).bel
      have hlf := bF_lt (unhide S).iB
      clear S
      go_wp2
      go_roundw
      case rel => exact ⟨k + 1, by omega, by go_num, hfin, hbf, hlf⟩
      case measure => simp [intOf]; omega
    · have hlt2 : decide ((k : Int) < (l.length : Int)) = false := decide_eq_false (by omega)
      have hke : k = l.length := by omega
      have hbl2 : b ≤ wr.heap.size := by omega
      have hRk := hide (show (⟨(shw l k).toArray⟩ : ByteArray) = sR by rw [hke]; exact unhide hR')
      generalize shw l k = P at *
      clear hke hR'
      go_wp2_with fail
      refine (Tryd.Builder_String_any_k b b P _ (unhide hi) hbl2).mono ?_
      rintro e w9 ⟨rfl, _, kb, _⟩
      have hB9 := hide ((unhide hb).trans (kb.mono s1))
      clear kb hi
      go_wp2
      go_ret
      exact ⟨ret_bytes (unhide hRk), unhide hB9⟩

end Go.Proofs.YtcpllfjhhlbmiaaDoor
