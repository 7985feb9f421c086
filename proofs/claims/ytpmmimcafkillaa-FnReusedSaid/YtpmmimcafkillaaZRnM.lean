/-
  The functions whose lone contracts are used beside leavers: they are of ordinary code; the sort's function value is byName.
  Lists of lists of numbers in memory, each with a row of its own; a list of places. It names no function; no conditions.
-/
import Derived.Test.YtpmmimcafkillaaZYd
import Derived.Test.YtpmmimcafkillaaProg
import Derived.Test.YtpmmimcafkillaaZXp
import Derived.Deep.AppendLies
set_option linter.unusedVariables false
set_option linter.unusedSimpArgs false
namespace Go.Proofs.Ytpmmimcafkillaa
open Go Go.Conc Go.RowKit
def lateOk (P : Program) : Bool := P.funcs.toList.all fun f => match f.body with
  | none => true
  | some c => (readies c).all fun g => decide (g < P.globals.size)

theorem late_of {P : Program} (h : lateOk P = true) : ∀ g, P.globals.size ≤ g → P.stepOf g = none := by
  intro g hg
  unfold Program.stepOf
  rw [Array.findIdx?_eq_none_iff]
  intro f hf
  have := List.all_eq_true.1 h f (Array.mem_toList_iff.2 hf)
  cases hb : f.body with
  | none => rfl
  | some c =>
    rw [hb] at this
    simp only [List.all_eq_true, decide_eq_true_eq] at this
    simp only [Option.map_some, Option.any_some]
    cases hc : (readies c).contains g with
    | false => rfl
    | true =>
      have := this g (by simpa using hc)
      omega
def FL : List Nat := [9, 10, 11, 12, 13, 15, 17, 18, 19, 22, 23, 24, 25, 26, 27, 28, 29, 30, 31, 32, 33, 34, 35, 36, 37, 38, 39, 40, 41, 44, 46, 47, 49, 50, 51, 52, 53, 54, 55, 56, 57, 65, 67, 68, 69]
def Zg : Br.Sig where
  F f := FL.contains f
  K f := match f with
    | _ => []
  fv := 0
theorem memFL {f : Nat} (h : Zg.F f = true) : f ∈ FL := by simpa [Zg] using h
theorem zok9 : ∀ fn c, Try.prog.funcs[9]? = some fn → fn.body = some c → Br.okC (Br.okOp Zg Try.prog (Zg.K 9)) c = true := by
  intro fn c h1 h2
  cases h1.symm.trans Try.func9
  cases h2.symm.trans (rfl : Try.f9.body = some (Try.f9.body.getD .skip))
  kernel_rfl
theorem zok10 : ∀ fn c, Try.prog.funcs[10]? = some fn → fn.body = some c → Br.okC (Br.okOp Zg Try.prog (Zg.K 10)) c = true := by
  intro fn c h1 h2
  cases h1.symm.trans Try.func10
  cases h2.symm.trans (rfl : Try.f10.body = some (Try.f10.body.getD .skip))
  kernel_rfl
theorem zok11 : ∀ fn c, Try.prog.funcs[11]? = some fn → fn.body = some c → Br.okC (Br.okOp Zg Try.prog (Zg.K 11)) c = true := by
  intro fn c h1 h2
  cases h1.symm.trans Try.func11
  cases h2.symm.trans (rfl : Try.f11.body = some (Try.f11.body.getD .skip))
  kernel_rfl
theorem zok12 : ∀ fn c, Try.prog.funcs[12]? = some fn → fn.body = some c → Br.okC (Br.okOp Zg Try.prog (Zg.K 12)) c = true := by
  intro fn c h1 h2
  cases h1.symm.trans Try.func12
  cases h2.symm.trans (rfl : Try.f12.body = some (Try.f12.body.getD .skip))
  kernel_rfl
theorem zok13 : ∀ fn c, Try.prog.funcs[13]? = some fn → fn.body = some c → Br.okC (Br.okOp Zg Try.prog (Zg.K 13)) c = true := by
  intro fn c h1 h2
  cases h1.symm.trans Try.func13
  cases h2.symm.trans (rfl : Try.f13.body = some (Try.f13.body.getD .skip))
  kernel_rfl
theorem zok15 : ∀ fn c, Try.prog.funcs[15]? = some fn → fn.body = some c → Br.okC (Br.okOp Zg Try.prog (Zg.K 15)) c = true := by
  intro fn c h1 h2
  cases h1.symm.trans Try.func15
  cases h2.symm.trans (rfl : Try.f15.body = some (Try.f15.body.getD .skip))
  kernel_rfl
theorem zok17 : ∀ fn c, Try.prog.funcs[17]? = some fn → fn.body = some c → Br.okC (Br.okOp Zg Try.prog (Zg.K 17)) c = true := by
  intro fn c h1 h2
  cases h1.symm.trans Try.func17
  cases h2.symm.trans (rfl : Try.f17.body = some (Try.f17.body.getD .skip))
  kernel_rfl
theorem zok18 : ∀ fn c, Try.prog.funcs[18]? = some fn → fn.body = some c → Br.okC (Br.okOp Zg Try.prog (Zg.K 18)) c = true := by
  intro fn c h1 h2
  cases h1.symm.trans Try.func18
  cases h2.symm.trans (rfl : Try.f18.body = some (Try.f18.body.getD .skip))
  kernel_rfl
theorem zok19 : ∀ fn c, Try.prog.funcs[19]? = some fn → fn.body = some c → Br.okC (Br.okOp Zg Try.prog (Zg.K 19)) c = true := by
  intro fn c h1 h2
  cases h1.symm.trans Try.func19
  cases h2.symm.trans (rfl : Try.f19.body = some (Try.f19.body.getD .skip))
  kernel_rfl
theorem zok22 : ∀ fn c, Try.prog.funcs[22]? = some fn → fn.body = some c → Br.okC (Br.okOp Zg Try.prog (Zg.K 22)) c = true := by
  intro fn c h1 h2
  cases h1.symm.trans Try.func22
  cases h2.symm.trans (rfl : Try.f22.body = some (Try.f22.body.getD .skip))
  kernel_rfl
theorem zok23 : ∀ fn c, Try.prog.funcs[23]? = some fn → fn.body = some c → Br.okC (Br.okOp Zg Try.prog (Zg.K 23)) c = true := by
  intro fn c h1 h2
  cases h1.symm.trans Try.func23
  cases h2.symm.trans (rfl : Try.f23.body = some (Try.f23.body.getD .skip))
  kernel_rfl
theorem zok24 : ∀ fn c, Try.prog.funcs[24]? = some fn → fn.body = some c → Br.okC (Br.okOp Zg Try.prog (Zg.K 24)) c = true := by
  intro fn c h1 h2
  cases h1.symm.trans Try.func24
  cases h2.symm.trans (rfl : Try.f24.body = some (Try.f24.body.getD .skip))
  kernel_rfl
theorem zok25 : ∀ fn c, Try.prog.funcs[25]? = some fn → fn.body = some c → Br.okC (Br.okOp Zg Try.prog (Zg.K 25)) c = true := by
  intro fn c h1 h2
  cases h1.symm.trans Try.func25
  cases h2.symm.trans (rfl : Try.f25.body = some (Try.f25.body.getD .skip))
  kernel_rfl
theorem zok26 : ∀ fn c, Try.prog.funcs[26]? = some fn → fn.body = some c → Br.okC (Br.okOp Zg Try.prog (Zg.K 26)) c = true := by
  intro fn c h1 h2
  cases h1.symm.trans Try.func26
  cases h2.symm.trans (rfl : Try.f26.body = some (Try.f26.body.getD .skip))
  kernel_rfl
theorem zok27 : ∀ fn c, Try.prog.funcs[27]? = some fn → fn.body = some c → Br.okC (Br.okOp Zg Try.prog (Zg.K 27)) c = true := by
  intro fn c h1 h2
  cases h1.symm.trans Try.func27
  cases h2.symm.trans (rfl : Try.f27.body = some (Try.f27.body.getD .skip))
  kernel_rfl
theorem zok28 : ∀ fn c, Try.prog.funcs[28]? = some fn → fn.body = some c → Br.okC (Br.okOp Zg Try.prog (Zg.K 28)) c = true := by
  intro fn c h1 h2
  cases h1.symm.trans Try.func28
  cases h2.symm.trans (rfl : Try.f28.body = some (Try.f28.body.getD .skip))
  kernel_rfl
theorem zok29 : ∀ fn c, Try.prog.funcs[29]? = some fn → fn.body = some c → Br.okC (Br.okOp Zg Try.prog (Zg.K 29)) c = true := by
  intro fn c h1 h2
  cases h1.symm.trans Try.func29
  cases h2.symm.trans (rfl : Try.f29.body = some (Try.f29.body.getD .skip))
  kernel_rfl
theorem zok30 : ∀ fn c, Try.prog.funcs[30]? = some fn → fn.body = some c → Br.okC (Br.okOp Zg Try.prog (Zg.K 30)) c = true := by
  intro fn c h1 h2
  cases h1.symm.trans Try.func30
  cases h2.symm.trans (rfl : Try.f30.body = some (Try.f30.body.getD .skip))
  kernel_rfl
theorem zok31 : ∀ fn c, Try.prog.funcs[31]? = some fn → fn.body = some c → Br.okC (Br.okOp Zg Try.prog (Zg.K 31)) c = true := by
  intro fn c h1 h2
  cases h1.symm.trans Try.func31
  cases h2.symm.trans (rfl : Try.f31.body = some (Try.f31.body.getD .skip))
  kernel_rfl
theorem zok32 : ∀ fn c, Try.prog.funcs[32]? = some fn → fn.body = some c → Br.okC (Br.okOp Zg Try.prog (Zg.K 32)) c = true := by
  intro fn c h1 h2
  cases h1.symm.trans Try.func32
  cases h2.symm.trans (rfl : Try.f32.body = some (Try.f32.body.getD .skip))
  kernel_rfl
theorem zok33 : ∀ fn c, Try.prog.funcs[33]? = some fn → fn.body = some c → Br.okC (Br.okOp Zg Try.prog (Zg.K 33)) c = true := by
  intro fn c h1 h2
  cases h1.symm.trans Try.func33
  cases h2.symm.trans (rfl : Try.f33.body = some (Try.f33.body.getD .skip))
  kernel_rfl
theorem zok34 : ∀ fn c, Try.prog.funcs[34]? = some fn → fn.body = some c → Br.okC (Br.okOp Zg Try.prog (Zg.K 34)) c = true := by
  intro fn c h1 h2
  cases h1.symm.trans Try.func34
  cases h2.symm.trans (rfl : Try.f34.body = some (Try.f34.body.getD .skip))
  kernel_rfl
theorem zok35 : ∀ fn c, Try.prog.funcs[35]? = some fn → fn.body = some c → Br.okC (Br.okOp Zg Try.prog (Zg.K 35)) c = true := by
  intro fn c h1 h2
  cases h1.symm.trans Try.func35
  cases h2.symm.trans (rfl : Try.f35.body = some (Try.f35.body.getD .skip))
  kernel_rfl
theorem zok36 : ∀ fn c, Try.prog.funcs[36]? = some fn → fn.body = some c → Br.okC (Br.okOp Zg Try.prog (Zg.K 36)) c = true := by
  intro fn c h1 h2
  cases h1.symm.trans Try.func36
  cases h2.symm.trans (rfl : Try.f36.body = some (Try.f36.body.getD .skip))
  kernel_rfl
theorem zok37 : ∀ fn c, Try.prog.funcs[37]? = some fn → fn.body = some c → Br.okC (Br.okOp Zg Try.prog (Zg.K 37)) c = true := by
  intro fn c h1 h2
  cases h1.symm.trans Try.func37
  cases h2.symm.trans (rfl : Try.f37.body = some (Try.f37.body.getD .skip))
  kernel_rfl
theorem zok38 : ∀ fn c, Try.prog.funcs[38]? = some fn → fn.body = some c → Br.okC (Br.okOp Zg Try.prog (Zg.K 38)) c = true := by
  intro fn c h1 h2
  cases h1.symm.trans Try.func38
  cases h2.symm.trans (rfl : Try.f38.body = some (Try.f38.body.getD .skip))
  kernel_rfl
theorem zok39 : ∀ fn c, Try.prog.funcs[39]? = some fn → fn.body = some c → Br.okC (Br.okOp Zg Try.prog (Zg.K 39)) c = true := by
  intro fn c h1 h2
  cases h1.symm.trans Try.func39
  cases h2.symm.trans (rfl : Try.f39.body = some (Try.f39.body.getD .skip))
  kernel_rfl
theorem zok40 : ∀ fn c, Try.prog.funcs[40]? = some fn → fn.body = some c → Br.okC (Br.okOp Zg Try.prog (Zg.K 40)) c = true := by
  intro fn c h1 h2
  cases h1.symm.trans Try.func40
  cases h2.symm.trans (rfl : Try.f40.body = some (Try.f40.body.getD .skip))
  kernel_rfl
theorem zok41 : ∀ fn c, Try.prog.funcs[41]? = some fn → fn.body = some c → Br.okC (Br.okOp Zg Try.prog (Zg.K 41)) c = true := by
  intro fn c h1 h2
  cases h1.symm.trans Try.func41
  cases h2.symm.trans (rfl : Try.f41.body = some (Try.f41.body.getD .skip))
  kernel_rfl
theorem zok44 : ∀ fn c, Try.prog.funcs[44]? = some fn → fn.body = some c → Br.okC (Br.okOp Zg Try.prog (Zg.K 44)) c = true := by
  intro fn c h1 h2
  cases h1.symm.trans Try.func44
  cases h2.symm.trans (rfl : Try.f44.body = some (Try.f44.body.getD .skip))
  kernel_rfl
theorem zok46 : ∀ fn c, Try.prog.funcs[46]? = some fn → fn.body = some c → Br.okC (Br.okOp Zg Try.prog (Zg.K 46)) c = true := by
  intro fn c h1 h2
  cases h1.symm.trans Try.func46
  cases h2.symm.trans (rfl : Try.f46.body = some (Try.f46.body.getD .skip))
  kernel_rfl
theorem zok47 : ∀ fn c, Try.prog.funcs[47]? = some fn → fn.body = some c → Br.okC (Br.okOp Zg Try.prog (Zg.K 47)) c = true := by
  intro fn c h1 h2
  cases h1.symm.trans Try.func47
  cases h2.symm.trans (rfl : Try.f47.body = some (Try.f47.body.getD .skip))
  kernel_rfl
theorem zok49 : ∀ fn c, Try.prog.funcs[49]? = some fn → fn.body = some c → Br.okC (Br.okOp Zg Try.prog (Zg.K 49)) c = true := by
  intro fn c h1 h2
  cases h1.symm.trans Try.func49
  cases h2.symm.trans (rfl : Try.f49.body = some (Try.f49.body.getD .skip))
  kernel_rfl
theorem zok50 : ∀ fn c, Try.prog.funcs[50]? = some fn → fn.body = some c → Br.okC (Br.okOp Zg Try.prog (Zg.K 50)) c = true := by
  intro fn c h1 h2
  cases h1.symm.trans Try.func50
  cases h2.symm.trans (rfl : Try.f50.body = some (Try.f50.body.getD .skip))
  kernel_rfl
theorem zok51 : ∀ fn c, Try.prog.funcs[51]? = some fn → fn.body = some c → Br.okC (Br.okOp Zg Try.prog (Zg.K 51)) c = true := by
  intro fn c h1 h2
  cases h1.symm.trans Try.func51
  cases h2.symm.trans (rfl : Try.f51.body = some (Try.f51.body.getD .skip))
  kernel_rfl
theorem zok52 : ∀ fn c, Try.prog.funcs[52]? = some fn → fn.body = some c → Br.okC (Br.okOp Zg Try.prog (Zg.K 52)) c = true := by
  intro fn c h1 h2
  cases h1.symm.trans Try.func52
  cases h2.symm.trans (rfl : Try.f52.body = some (Try.f52.body.getD .skip))
  kernel_rfl
theorem zok53 : ∀ fn c, Try.prog.funcs[53]? = some fn → fn.body = some c → Br.okC (Br.okOp Zg Try.prog (Zg.K 53)) c = true := by
  intro fn c h1 h2
  cases h1.symm.trans Try.func53
  cases h2.symm.trans (rfl : Try.f53.body = some (Try.f53.body.getD .skip))
  kernel_rfl
theorem zok54 : ∀ fn c, Try.prog.funcs[54]? = some fn → fn.body = some c → Br.okC (Br.okOp Zg Try.prog (Zg.K 54)) c = true := by
  intro fn c h1 h2
  cases h1.symm.trans Try.func54
  cases h2.symm.trans (rfl : Try.f54.body = some (Try.f54.body.getD .skip))
  kernel_rfl
theorem zok55 : ∀ fn c, Try.prog.funcs[55]? = some fn → fn.body = some c → Br.okC (Br.okOp Zg Try.prog (Zg.K 55)) c = true := by
  intro fn c h1 h2
  cases h1.symm.trans Try.func55
  cases h2.symm.trans (rfl : Try.f55.body = some (Try.f55.body.getD .skip))
  kernel_rfl
theorem zok56 : ∀ fn c, Try.prog.funcs[56]? = some fn → fn.body = some c → Br.okC (Br.okOp Zg Try.prog (Zg.K 56)) c = true := by
  intro fn c h1 h2
  cases h1.symm.trans Try.func56
  cases h2.symm.trans (rfl : Try.f56.body = some (Try.f56.body.getD .skip))
  kernel_rfl
theorem zok57 : ∀ fn c, Try.prog.funcs[57]? = some fn → fn.body = some c → Br.okC (Br.okOp Zg Try.prog (Zg.K 57)) c = true := by
  intro fn c h1 h2
  cases h1.symm.trans Try.func57
  cases h2.symm.trans (rfl : Try.f57.body = some (Try.f57.body.getD .skip))
  kernel_rfl
theorem zok65 : ∀ fn c, Try.prog.funcs[65]? = some fn → fn.body = some c → Br.okC (Br.okOp Zg Try.prog (Zg.K 65)) c = true := by
  intro fn c h1 h2
  cases h1.symm.trans Try.func65
  cases h2.symm.trans (rfl : Try.f65.body = some (Try.f65.body.getD .skip))
  kernel_rfl
theorem zok67 : ∀ fn c, Try.prog.funcs[67]? = some fn → fn.body = some c → Br.okC (Br.okOp Zg Try.prog (Zg.K 67)) c = true := by
  intro fn c h1 h2
  cases h1.symm.trans Try.func67
  cases h2.symm.trans (rfl : Try.f67.body = some (Try.f67.body.getD .skip))
  kernel_rfl
theorem zok68 : ∀ fn c, Try.prog.funcs[68]? = some fn → fn.body = some c → Br.okC (Br.okOp Zg Try.prog (Zg.K 68)) c = true := by
  intro fn c h1 h2
  cases h1.symm.trans Try.func68
  cases h2.symm.trans (rfl : Try.f68.body = some (Try.f68.body.getD .skip))
  kernel_rfl
theorem zok69 : ∀ fn c, Try.prog.funcs[69]? = some fn → fn.body = some c → Br.okC (Br.okOp Zg Try.prog (Zg.K 69)) c = true := by
  intro fn c h1 h2
  cases h1.symm.trans Try.func69
  cases h2.symm.trans (rfl : Try.f69.body = some (Try.f69.body.getD .skip))
  kernel_rfl
theorem zgOk : Br.SetOk Try.prog Zg := by
  refine ⟨fun f hf => ?_, fun f fn c hf h1 h2 => ?_, fun g hg => ?_, by kernel_rfl⟩
  · have := memFL hf
    simp only [FL, List.mem_cons, List.not_mem_nil, or_false] at this
    rcases this with rfl | rfl | rfl | rfl | rfl | rfl | rfl | rfl | rfl | rfl | rfl | rfl | rfl | rfl | rfl | rfl | rfl | rfl | rfl | rfl | rfl | rfl | rfl | rfl | rfl | rfl | rfl | rfl | rfl | rfl | rfl | rfl | rfl | rfl | rfl | rfl | rfl | rfl | rfl | rfl | rfl | rfl | rfl | rfl | rfl
    · exact ⟨Try.f9, Try.f9.body.getD .skip, Try.func9, by kernel_rfl, rfl⟩
    · exact ⟨Try.f10, Try.f10.body.getD .skip, Try.func10, by kernel_rfl, rfl⟩
    · exact ⟨Try.f11, Try.f11.body.getD .skip, Try.func11, by kernel_rfl, rfl⟩
    · exact ⟨Try.f12, Try.f12.body.getD .skip, Try.func12, by kernel_rfl, rfl⟩
    · exact ⟨Try.f13, Try.f13.body.getD .skip, Try.func13, by kernel_rfl, rfl⟩
    · exact ⟨Try.f15, Try.f15.body.getD .skip, Try.func15, by kernel_rfl, rfl⟩
    · exact ⟨Try.f17, Try.f17.body.getD .skip, Try.func17, by kernel_rfl, rfl⟩
    · exact ⟨Try.f18, Try.f18.body.getD .skip, Try.func18, by kernel_rfl, rfl⟩
    · exact ⟨Try.f19, Try.f19.body.getD .skip, Try.func19, by kernel_rfl, rfl⟩
    · exact ⟨Try.f22, Try.f22.body.getD .skip, Try.func22, by kernel_rfl, rfl⟩
    · exact ⟨Try.f23, Try.f23.body.getD .skip, Try.func23, by kernel_rfl, rfl⟩
    · exact ⟨Try.f24, Try.f24.body.getD .skip, Try.func24, by kernel_rfl, rfl⟩
    · exact ⟨Try.f25, Try.f25.body.getD .skip, Try.func25, by kernel_rfl, rfl⟩
    · exact ⟨Try.f26, Try.f26.body.getD .skip, Try.func26, by kernel_rfl, rfl⟩
    · exact ⟨Try.f27, Try.f27.body.getD .skip, Try.func27, by kernel_rfl, rfl⟩
    · exact ⟨Try.f28, Try.f28.body.getD .skip, Try.func28, by kernel_rfl, rfl⟩
    · exact ⟨Try.f29, Try.f29.body.getD .skip, Try.func29, by kernel_rfl, rfl⟩
    · exact ⟨Try.f30, Try.f30.body.getD .skip, Try.func30, by kernel_rfl, rfl⟩
    · exact ⟨Try.f31, Try.f31.body.getD .skip, Try.func31, by kernel_rfl, rfl⟩
    · exact ⟨Try.f32, Try.f32.body.getD .skip, Try.func32, by kernel_rfl, rfl⟩
    · exact ⟨Try.f33, Try.f33.body.getD .skip, Try.func33, by kernel_rfl, rfl⟩
    · exact ⟨Try.f34, Try.f34.body.getD .skip, Try.func34, by kernel_rfl, rfl⟩
    · exact ⟨Try.f35, Try.f35.body.getD .skip, Try.func35, by kernel_rfl, rfl⟩
    · exact ⟨Try.f36, Try.f36.body.getD .skip, Try.func36, by kernel_rfl, rfl⟩
    · exact ⟨Try.f37, Try.f37.body.getD .skip, Try.func37, by kernel_rfl, rfl⟩
    · exact ⟨Try.f38, Try.f38.body.getD .skip, Try.func38, by kernel_rfl, rfl⟩
    · exact ⟨Try.f39, Try.f39.body.getD .skip, Try.func39, by kernel_rfl, rfl⟩
    · exact ⟨Try.f40, Try.f40.body.getD .skip, Try.func40, by kernel_rfl, rfl⟩
    · exact ⟨Try.f41, Try.f41.body.getD .skip, Try.func41, by kernel_rfl, rfl⟩
    · exact ⟨Try.f44, Try.f44.body.getD .skip, Try.func44, by kernel_rfl, rfl⟩
    · exact ⟨Try.f46, Try.f46.body.getD .skip, Try.func46, by kernel_rfl, rfl⟩
    · exact ⟨Try.f47, Try.f47.body.getD .skip, Try.func47, by kernel_rfl, rfl⟩
    · exact ⟨Try.f49, Try.f49.body.getD .skip, Try.func49, by kernel_rfl, rfl⟩
    · exact ⟨Try.f50, Try.f50.body.getD .skip, Try.func50, by kernel_rfl, rfl⟩
    · exact ⟨Try.f51, Try.f51.body.getD .skip, Try.func51, by kernel_rfl, rfl⟩
    · exact ⟨Try.f52, Try.f52.body.getD .skip, Try.func52, by kernel_rfl, rfl⟩
    · exact ⟨Try.f53, Try.f53.body.getD .skip, Try.func53, by kernel_rfl, rfl⟩
    · exact ⟨Try.f54, Try.f54.body.getD .skip, Try.func54, by kernel_rfl, rfl⟩
    · exact ⟨Try.f55, Try.f55.body.getD .skip, Try.func55, by kernel_rfl, rfl⟩
    · exact ⟨Try.f56, Try.f56.body.getD .skip, Try.func56, by kernel_rfl, rfl⟩
    · exact ⟨Try.f57, Try.f57.body.getD .skip, Try.func57, by kernel_rfl, rfl⟩
    · exact ⟨Try.f65, Try.f65.body.getD .skip, Try.func65, by kernel_rfl, rfl⟩
    · exact ⟨Try.f67, Try.f67.body.getD .skip, Try.func67, by kernel_rfl, rfl⟩
    · exact ⟨Try.f68, Try.f68.body.getD .skip, Try.func68, by kernel_rfl, rfl⟩
    · exact ⟨Try.f69, Try.f69.body.getD .skip, Try.func69, by kernel_rfl, rfl⟩
  · have := memFL hf
    simp only [FL, List.mem_cons, List.not_mem_nil, or_false] at this
    rcases this with rfl | rfl | rfl | rfl | rfl | rfl | rfl | rfl | rfl | rfl | rfl | rfl | rfl | rfl | rfl | rfl | rfl | rfl | rfl | rfl | rfl | rfl | rfl | rfl | rfl | rfl | rfl | rfl | rfl | rfl | rfl | rfl | rfl | rfl | rfl | rfl | rfl | rfl | rfl | rfl | rfl | rfl | rfl | rfl | rfl
    · exact zok9 fn c h1 h2
    · exact zok10 fn c h1 h2
    · exact zok11 fn c h1 h2
    · exact zok12 fn c h1 h2
    · exact zok13 fn c h1 h2
    · exact zok15 fn c h1 h2
    · exact zok17 fn c h1 h2
    · exact zok18 fn c h1 h2
    · exact zok19 fn c h1 h2
    · exact zok22 fn c h1 h2
    · exact zok23 fn c h1 h2
    · exact zok24 fn c h1 h2
    · exact zok25 fn c h1 h2
    · exact zok26 fn c h1 h2
    · exact zok27 fn c h1 h2
    · exact zok28 fn c h1 h2
    · exact zok29 fn c h1 h2
    · exact zok30 fn c h1 h2
    · exact zok31 fn c h1 h2
    · exact zok32 fn c h1 h2
    · exact zok33 fn c h1 h2
    · exact zok34 fn c h1 h2
    · exact zok35 fn c h1 h2
    · exact zok36 fn c h1 h2
    · exact zok37 fn c h1 h2
    · exact zok38 fn c h1 h2
    · exact zok39 fn c h1 h2
    · exact zok40 fn c h1 h2
    · exact zok41 fn c h1 h2
    · exact zok44 fn c h1 h2
    · exact zok46 fn c h1 h2
    · exact zok47 fn c h1 h2
    · exact zok49 fn c h1 h2
    · exact zok50 fn c h1 h2
    · exact zok51 fn c h1 h2
    · exact zok52 fn c h1 h2
    · exact zok53 fn c h1 h2
    · exact zok54 fn c h1 h2
    · exact zok55 fn c h1 h2
    · exact zok56 fn c h1 h2
    · exact zok57 fn c h1 h2
    · exact zok65 fn c h1 h2
    · exact zok67 fn c h1 h2
    · exact zok68 fn c h1 h2
    · exact zok69 fn c h1 h2
  · exact late_of (by decide +kernel) g hg
end Go.Proofs.Ytpmmimcafkillaa

namespace Go.Proofs.Ytpmmimcafkillaa.Rn
open Go Go.RowKit
open Go.Proofs.Ytpmmimcafkillaa
set_option linter.unusedVariables false
set_option linter.unusedSimpArgs false
abbrev slv (q : Nat × Nat) (l : List Int) : Value := .slice (some ⟨q.1, 0, none⟩) l.length q.2
abbrev OwnP (w : World) (B g n : Nat) (l : List Int) : Prop := w.ownsRow B 3 1 (.slice (some ⟨g, 0, none⟩) n n) n (l.map iv)
abbrev OwnR (w : World) (B g n cap : Nat) (vs : List Value) : Prop := w.ownsRow B 29 1 (.slice (some ⟨g, 0, none⟩) n cap) n vs
theorem row_ty {w : World} {B B' g g' n n' m m' cap cap' : Nat} {e e' : TypeId} {xs xs' : List Value} (h : w.ownsRow B e m (.slice (some ⟨g, 0, none⟩) n cap) n xs) (h' : w.ownsRow B' e' m' (.slice (some ⟨g', 0, none⟩) n' cap') n' xs') (hne : e ≠ e') : g ≠ g' := by
  rintro rfl
  obtain ⟨_, h⟩ := h
  obtain ⟨_, h'⟩ := h'
  rcases h with ⟨h, _⟩ | ⟨g1, c1, cur, h1, _, h2, _⟩
  · cases h
  rcases h' with ⟨h', _⟩ | ⟨g1', c1', cur', h1', _, h2', _⟩
  · cases h'
  cases h1
  cases h1'
  rw [h2] at h2'
  cases h2'
  exact hne rfl
/-- where the rounds lie -/
structure RM (w wr : World) (gP gR cR n : Nat) (gs : List (Nat × Nat)) (ps : List Int) (rs : List (List Int)) (sl : List Value) : Prop where
  P : OwnP wr w.heap.size gP n ps
  R : OwnR wr w.heap.size gR rs.length cR sl
  sl : ∀ (p : Nat) q l, gs[p]? = some q → rs[p]? = some l → sl[p]? = some (slv q l)
  len : gs.length = rs.length
  I : ∀ (p : Nat) q l, gs[p]? = some q → rs[p]? = some l → OwnI wr w.heap.size q.1 l.length q.2 l
  nd : ∀ (p p' : Nat) q q', gs[p]? = some q → gs[p']? = some q' → q.1 = q'.1 → p = p'
  bel : Below w.heap.size w wr
section
variable {w wr w1 : World} {gP gR cR n : Nat} {gs : List (Nat × Nat)} {ps : List Int} {rs : List (List Int)} {sl : List Value}
theorem RM.later (h : RM w wr gP gR cR n gs ps rs sl) (hb : Below wr.heap.size wr w1) : RM w w1 gP gR cR n gs ps rs sl :=
  ⟨ownsRow_below h.P hb, ownsRow_below h.R hb, h.sl, h.len, fun p q l h1 h2 => ownsRow_below (h.I p q l h1 h2) hb, h.nd, laterB h.bel hb⟩
theorem own_putP {B g n : Nat} {l : List Int} (k : Nat) (x : Int) (h : OwnP wr B g n l) : OwnP (wr.setCell ⟨g, k, none⟩ (.int .i64 x)) B g n (l.set k x) := by
  have h1 := (World.ownsRow.stored h k (iv x)).1
  show World.ownsRow _ _ _ _ _ _ _
  rw [List.map_set]; exact h1
theorem own_setNe {B g n m cap g' i : Nat} {e : TypeId} {xs : List Value} {v : Value} (h : wr.ownsRow B e m (.slice (some ⟨g, 0, none⟩) n cap) n xs) (hne : g ≠ g') : (wr.setCell ⟨g', i, none⟩ v).ownsRow B e m (.slice (some ⟨g, 0, none⟩) n cap) n xs :=
  own_kept h (grown_set (grown_refl _ _)) hne
theorem RM.place (h : RM w wr gP gR cR n gs ps rs sl) (k : Nat) (x : Int) : RM w (wr.setCell ⟨gP, k, none⟩ (.int .i64 x)) gP gR cR n gs (ps.set k x) rs sl :=
  ⟨own_putP k x h.P, own_setNe h.R (row_ty h.R h.P (by decide)), h.sl, h.len, fun p q l h1 h2 => own_setNe (h.I p q l h1 h2) (row_ty (h.I p q l h1 h2) h.P (by decide)), h.nd, below_grown h.bel (grown_set (grown_refl _ _)) (own_ge h.P)⟩
/-- one round more -/
theorem RM.more {g' cap' : Nat} (h : RM w wr gP gR cR n gs ps rs sl) (ho : OwnR w1 w.heap.size g' (rs.length + 1) cap' (sl ++ [slv (wr.heap.size, 0) []]))
    (hg : ((wr.alloc (.cells #[] 2)).alloc (.cells #[slv (wr.heap.size, 0) []] 29)).grownBy w1 (some gR)) (hsl : sl.length = rs.length) :
    RM w w1 gP g' cap' n (gs ++ [(wr.heap.size, 0)]) ps (rs ++ [[]]) (sl ++ [slv (wr.heap.size, 0) []]) := by
  have hb : Below wr.heap.size wr ((wr.alloc (.cells #[] 2)).alloc (.cells #[slv (wr.heap.size, 0) []] 29)) := ((Below.refl _ _).alloc (Nat.le_refl _) _).alloc (by simp) _
  have hN : OwnI ((wr.alloc (.cells #[] 2)).alloc (.cells #[slv (wr.heap.size, 0) []] 29)) w.heap.size wr.heap.size 0 0 [] :=
    ownsRow_below (ownI_lit0 wr h.bel.size) ((Below.refl _ _).alloc (Nat.le_refl _) _)
  generalize (wr.alloc (.cells #[] 2)).alloc (.cells #[slv (wr.heap.size, 0) []] 29) = W at *
  have hI : ∀ (p : Nat) q l, gs[p]? = some q → rs[p]? = some l → OwnI w1 w.heap.size q.1 l.length q.2 l := fun p q l h1 h2 =>
    own_kept (ownsRow_below (h.I p q l h1 h2) hb) hg (row_ty (h.I p q l h1 h2) h.R (by decide))
  have hNR : wr.heap.size ≠ gR := fun e => by have := own_lt h.R; omega
  have hsp : ∀ (p : Nat) q l, (gs ++ [(wr.heap.size, 0)])[p]? = some q → (rs ++ [[]])[p]? = some l → (gs[p]? = some q ∧ rs[p]? = some l) ∨ (p = rs.length ∧ q = (wr.heap.size, 0) ∧ l = []) := fun p q l h1 h2 => by
    rcases Nat.lt_trichotomy p rs.length with hp | hp | hp
    · rw [List.getElem?_append_left (by rw [h.len]; exact hp)] at h1
      rw [List.getElem?_append_left hp] at h2
      exact .inl ⟨h1, h2⟩
    · right
      subst hp
      rw [List.getElem?_append_right (by rw [h.len]; exact Nat.le_refl _), h.len] at h1
      rw [List.getElem?_append_right (Nat.le_refl _)] at h2
      simp at h1 h2
      exact ⟨rfl, h1.symm, h2⟩
    · rw [List.getElem?_eq_none (by simp; omega)] at h2; cases h2
  have hlt : ∀ (p : Nat) q, gs[p]? = some q → q.1 < wr.heap.size := fun p q h1 => by
    have hp : p < rs.length := by rw [← h.len]; exact (List.getElem?_eq_some_iff.1 h1).1
    exact own_lt (h.I p q _ h1 (List.getElem?_eq_getElem hp))
  have hgs : ∀ (p : Nat) q, (gs ++ [(wr.heap.size, 0)])[p]? = some q → gs[p]? = some q ∨ (p = rs.length ∧ q = (wr.heap.size, 0)) := fun p q h1 => by
    rcases Nat.lt_trichotomy p gs.length with hp | hp | hp
    · rw [List.getElem?_append_left hp] at h1; exact .inl h1
    · subst hp
      rw [List.getElem?_append_right (Nat.le_refl _)] at h1
      simp at h1
      exact .inr ⟨h.len, h1.symm⟩
    · rw [List.getElem?_eq_none (by simp; omega)] at h1; cases h1
  refine ⟨own_kept (ownsRow_below h.P hb) hg (row_ty h.P h.R (by decide)), by rw [List.length_append]; exact ho, fun p q l h1 h2 => ?_, by simp [h.len], fun p q l h1 h2 => ?_, fun p p' q q' h1 h2 he => ?_, ?_⟩
  · rcases hsp p q l h1 h2 with ⟨h1, h2⟩ | ⟨rfl, rfl, rfl⟩
    · have := h.sl p q l h1 h2
      rw [List.getElem?_append_left (List.getElem?_eq_some_iff.1 this).1]; exact this
    · rw [List.getElem?_append_right (by omega), hsl]; simp
  · rcases hsp p q l h1 h2 with ⟨h1, h2⟩ | ⟨rfl, rfl, rfl⟩
    · exact hI p q l h1 h2
    · exact own_kept hN hg hNR
  · rcases hgs p q h1 with h1 | ⟨rfl, rfl⟩ <;> rcases hgs p' q' h2 with h2 | ⟨rfl, rfl⟩
    · exact h.nd p p' q q' h1 h2 he
    · have := hlt p q h1; simp at he; omega
    · have := hlt p' q' h2; simp at he; omega
    · rfl
  · exact (h.bel.trans (hb.mono h.bel.size)).trans ((Below.refl _ _).grown hg (by have := hb.size; have := h.bel.size; omega) (fun k hk => by simp at hk; have := own_ge h.R; omega))
/-- one number more in a round -/
theorem RM.grow {p g' cap' : Nat} {q : Nat × Nat} {l : List Int} {x : Int} (h : RM w wr gP gR cR n gs ps rs sl) (hq : gs[p]? = some q) (hl : rs[p]? = some l) (ho : OwnI w1 w.heap.size g' (l.length + 1) cap' (l ++ [x]))
    (hg : (wr.alloc (.cells #[.int .i64 x] 2)).grownBy w1 (some q.1)) (hlie : g' = q.1 ∨ g' = wr.heap.size + 1) :
    RM w (w1.setCell ⟨gR, p, none⟩ (.slice (some ⟨g', 0, none⟩) (l.length + 1) cap')) gP gR cR n (gs.set p (g', cap')) ps (rs.modify p (· ++ [x])) (sl.set p (.slice (some ⟨g', 0, none⟩) (l.length + 1) cap')) := by
  have hb : Below wr.heap.size wr (wr.alloc (.cells #[.int .i64 x] 2)) := (Below.refl _ _).alloc (Nat.le_refl _) _
  have hsz : (wr.alloc (.cells #[.int .i64 x] 2)).heap.size = wr.heap.size + 1 := by simp
  generalize wr.alloc (.cells #[.int .i64 x] 2) = W at *
  have hIp := h.I p q l hq hl
  have hR1 : OwnR w1 w.heap.size gR rs.length cR sl := own_kept (ownsRow_below h.R hb) hg (row_ty h.R hIp (by decide))
  have hlt : ∀ (p : Nat) q, gs[p]? = some q → q.1 < wr.heap.size := fun p q h1 => by
    have hp : p < rs.length := by rw [← h.len]; exact (List.getElem?_eq_some_iff.1 h1).1
    exact own_lt (h.I p q _ h1 (List.getElem?_eq_getElem hp))
  have hset := (World.ownsRow.stored hR1 p (.slice (some ⟨g', 0, none⟩) (l.length + 1) cap')).1
  have hmod : ∀ (j : Nat) (m : List Int), (rs.modify p (· ++ [x]))[j]? = some m → (j = p ∧ m = l ++ [x]) ∨ (j ≠ p ∧ rs[j]? = some m) := fun j m h1 => by
    rw [List.getElem?_modify] at h1
    obtain ⟨m0, h2, h3⟩ := Option.map_eq_some_iff.1 h1
    by_cases e : p = j
    · subst e
      rw [if_pos rfl] at h3
      rw [hl] at h2
      cases h2
      exact .inl ⟨rfl, h3.symm⟩
    · rw [if_neg e] at h3
      subst h3
      exact .inr ⟨Ne.symm e, h2⟩
  have hgset : ∀ (j : Nat) (r : Nat × Nat), (gs.set p (g', cap'))[j]? = some r → (j = p ∧ r = (g', cap')) ∨ (j ≠ p ∧ gs[j]? = some r) := fun j r h1 => by
    by_cases e : p = j
    · subst e
      rw [List.getElem?_set_self (List.getElem?_eq_some_iff.1 hq).1] at h1
      exact .inl ⟨rfl, (Option.some.inj h1).symm⟩
    · rw [List.getElem?_set_ne e] at h1
      exact .inr ⟨Ne.symm e, h1⟩
  refine ⟨own_setNe (own_kept (ownsRow_below h.P hb) hg (row_ty h.P hIp (by decide))) (row_ty h.P h.R (by decide)), by rw [List.length_modify]; exact hset, fun j r m h1 h2 => ?_, by simp [h.len], fun j r m h1 h2 => ?_, fun j j' r r' h1 h2 he => ?_, ?_⟩
  · rcases hgset j r h1 with ⟨rfl, rfl⟩ | ⟨e, h1⟩
    · rcases hmod j m h2 with ⟨_, rfl⟩ | ⟨e, _⟩
      · rw [List.getElem?_set_self (List.getElem?_eq_some_iff.1 (h.sl j q l hq hl)).1]; simp
      · exact absurd rfl e
    · rcases hmod j m h2 with ⟨e', _⟩ | ⟨_, h2⟩
      · exact absurd e' e
      · rw [List.getElem?_set_ne (Ne.symm e)]; exact h.sl j r m h1 h2
  · rcases hgset j r h1 with ⟨rfl, rfl⟩ | ⟨e, h1⟩
    · rcases hmod j m h2 with ⟨_, rfl⟩ | ⟨e, _⟩
      · rw [List.length_append]
        exact own_setNe ho (row_ty ho hR1 (by decide))
      · exact absurd rfl e
    · rcases hmod j m h2 with ⟨e', _⟩ | ⟨_, h2⟩
      · exact absurd e' e
      · have hne : r.1 ≠ q.1 := fun e2 => e (h.nd j p r q h1 hq e2)
        have h3 := own_kept (ownsRow_below (h.I j r m h1 h2) hb) hg hne
        exact own_setNe h3 (row_ty h3 hR1 (by decide))
  · rcases hgset j r h1 with ⟨rfl, rfl⟩ | ⟨e, h5⟩ <;> rcases hgset j' r' h2 with ⟨rfl, rfl⟩ | ⟨e', h6⟩
    · rfl
    · exfalso
      simp only at he
      rcases hlie with rfl | rfl
      · exact e' (h.nd _ _ _ _ h6 hq he.symm)
      · have := hlt _ _ h6; omega
    · exfalso
      simp only at he
      rcases hlie with rfl | rfl
      · exact e (h.nd _ _ _ _ h5 hq he)
      · have := hlt _ _ h5; omega
    · exact h.nd _ _ _ _ h5 h6 he
  · have hb1 : Below w.heap.size w w1 := (h.bel.trans (hb.mono h.bel.size)).trans ((Below.refl _ _).grown hg (by have := hb.size; have := h.bel.size; omega) (fun k hk => by simp at hk; have := own_ge hIp; omega))
    exact below_grown hb1 (grown_set (grown_refl _ _)) (own_ge hR1)
end
/-! the two appends -/
theorem infoS : (Try.prog.info? 29).map (fun i => (i.zero, i.size, i.bytes)) = some (some (.slice none 0 0), 1, 24) := by kernel_rfl
theorem wpList_iX {ops : Array Oper} {rest : List Oper} {o : Oper} {a : Act} {Q : Exit → Act → World → Prop} (w : World) (hgd : o.guard = none) (s x : Operand) (ho : o.op = .call { callee := .builtin .append, args := #[s, x], argTypes := #[29, 29] })
    (B g n cap : Nat) (L : List Int) (v : Int) (hs : a.eval s = .slice (some ⟨g, 0, none⟩) n cap) (hown : OwnI w B g n cap L) (hx : a.eval x = .slice (some ⟨w.heap.size, 0, none⟩) 1 1)
    (hl : n ≤ 1000000) (hB : B ≤ w.heap.size)
    (h : ∀ g' cap' w', OwnI w' B g' (n + 1) cap' (L ++ [v]) → (w.alloc (.cells #[.int .i64 v] 2)).grownBy w' (some g) → (g' = g ∨ g' = w.heap.size + 1) → wpList Try.prog ops Q rest (a.put o.dst (.slice (some ⟨g', 0, none⟩) (n + 1) cap')) w') : wpList Try.prog ops Q (o :: rest) a (w.alloc (.cells #[.int .i64 v] 2)) := by
  obtain ⟨i0, hi, hz0, hz1, hz2⟩ := info_parts infoI
  have hb : Below w.heap.size w (w.alloc (.cells #[.int .i64 v] 2)) := (Below.refl _ _).alloc (Nat.le_refl _) _
  have hblk : (w.alloc (.cells #[.int .i64 v] 2)).heap[w.heap.size]? = some (.cells #[.int .i64 v] 2 (0, 0)) := heap_alloc_new w _
  have hnews := iv_news hblk
  have hsz : (w.alloc (.cells #[.int .i64 v] 2)).heap.size = w.heap.size + 1 := by simp
  generalize w.alloc (.cells #[.int .i64 v] 2) = W at *
  have hown2 := ownsRow_below hown hb
  refine wpList_append_lies W hgd s x 29 ho B 2 i0 (.int .i64 0) 1 8 Try.underlying29 hi hz0 hz1 hz2 rfl (by decide) _ n (L.map iv) hs hown2 ⟨w.heap.size, 0, none⟩ 1 1 [iv v] hx rfl hnews (by intro u hu; simp at hu; subst hu; rfl) (by decide) (by unfold maxLen; omega) (by omega) (by omega) W.heap.size rfl ?_
  intro g' cap' w' h1 h2 h3 h4
  refine h g' cap' w' (by show World.ownsRow _ _ _ _ _ _ _; rw [List.map_append]; exact h1) h2 ?_
  rcases h3 with h3 | h3
  · simp [Value.ownBlock] at h3; exact .inl h3.symm
  · exact .inr (by omega)
theorem wpList_oX {ops : Array Oper} {rest : List Oper} {o : Oper} {a : Act} {Q : Exit → Act → World → Prop} (w : World) (hgd : o.guard = none) (s x : Operand) (ho : o.op = .call { callee := .builtin .append, args := #[s, x], argTypes := #[93, 93] })
    (B g n cap : Nat) (L : List Value) (v : Value) (hv : v.oneCell' = true) (hs : a.eval s = .slice (some ⟨g, 0, none⟩) n cap) (hown : OwnR w B g n cap L) (H : Nat) (hH : w.heap.size = H) (hx : a.eval x = .slice (some ⟨H, 0, none⟩) 1 1)
    (hl : n ≤ 1000000) (hB : B ≤ w.heap.size)
    (h : ∀ g' cap' w', OwnR w' B g' (n + 1) cap' (L ++ [v]) → (w.alloc (.cells #[v] 29)).grownBy w' (some g) → wpList Try.prog ops Q rest (a.put o.dst (.slice (some ⟨g', 0, none⟩) (n + 1) cap')) w') : wpList Try.prog ops Q (o :: rest) a (w.alloc (.cells #[v] 29)) := by
  subst hH
  obtain ⟨i0, hi, hz0, hz1, hz2⟩ := info_parts infoS
  have hb : Below w.heap.size w (w.alloc (.cells #[v] 29)) := (Below.refl _ _).alloc (Nat.le_refl _) _
  have hblk : (w.alloc (.cells #[v] 29)).heap[w.heap.size]? = some (.cells #[v] 29 (0, 0)) := heap_alloc_new w _
  have hnews : ∀ j u, [v][j]? = some u → (w.alloc (.cells #[v] 29)).cell? ((⟨w.heap.size, 0, none⟩ : Addr).add j) = some u := by
    have := World.news_of_block hblk
    simpa using this
  have hsz : (w.alloc (.cells #[v] 29)).heap.size = w.heap.size + 1 := by simp
  generalize w.alloc (.cells #[v] 29) = W at *
  have hown2 := ownsRow_below hown hb
  exact wpList_append_lies W hgd s x 93 ho B 29 i0 (.slice none 0 0) 1 24 Try.underlying93 hi hz0 hz1 hz2 rfl (by decide) _ n L hs hown2 ⟨w.heap.size, 0, none⟩ 1 1 [v] hx rfl hnews (by intro u hu; simp at hu; subst hu; exact hv) (by decide) (by unfold maxLen; omega) (by omega) (by omega) W.heap.size rfl (fun g' cap' w' h1 h2 h3 h4 => h g' cap' w' h1 h2)
end Go.Proofs.Ytpmmimcafkillaa.Rn
