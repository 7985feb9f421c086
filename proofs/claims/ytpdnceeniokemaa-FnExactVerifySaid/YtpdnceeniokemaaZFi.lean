/-
  The functions whose lone contracts are used beside leavers: they are of ordinary code; the sort's function value is byName.
-/
import Derived.Test.YtpdnceeniokemaaZFa
set_option linter.unusedVariables false
set_option linter.unusedSimpArgs false
namespace Go.Proofs.Ytpdnceeniokemaa
open Go Go.Conc Go.RowKit
def lateOk (P : Program) : Bool := P.funcs.toList.all fun f => match f.body with
  | none => true
  | some c => (readies c).all fun g => decide (g < P.globals.size)

theorem late_of {P : Program} (h : lateOk P = true) : ∀ g, P.globals.size ≤ g → P.stepOf g = none := by
  intro g hg
  unfold Program.stepOf
  rw [Array.findIdx?_eq_none_iff]
  intro f hf
  have := List.all_eq_true.1 h f (Array.mem_toList_iff.2 hf)
  cases hb : f.body with
  | none => rfl
  | some c =>
    rw [hb] at this
    simp only [List.all_eq_true, decide_eq_true_eq] at this
    simp only [Option.map_some, Option.any_some]
    cases hc : (readies c).contains g with
    | false => rfl
    | true =>
      have := this g (by simpa using hc)
      omega
def FL : List Nat := [17, 18, 20, 21, 22, 23, 24, 25, 26, 27, 28, 29, 30, 32, 33, 34, 35, 36, 37, 38, 40, 41, 42, 46, 58, 59, 60, 61, 62, 63, 64, 65, 67, 68, 69, 70, 71, 76, 81, 82, 83, 84, 86, 87, 106, 107, 108, 109, 110, 111, 112, 113, 114, 115, 116, 117, 123, 124, 125, 126, 127, 128]
def Zg : Br.Sig where
  F f := FL.contains f
  K f := match f with
    | 68 => [1, 12]
    | 82 => [4, 29, 36, 43, 51, 60, 79, 84, 102, 110, 133, 145]
    | 106 => [3, 22]
    | 107 => [3, 28, 58]
    | 108 => [3]
    | 109 => [3, 39, 43, 47, 53]
    | 110 => [3]
    | 111 => [3, 23, 72, 112]
    | 112 => [4, 35, 54]
    | 113 => [4, 36, 54, 109, 127]
    | 123 => [4, 24, 43]
    | 126 => [3, 16]
    | 127 => [5, 18, 27, 36]
    | 128 => [4, 12]
    | _ => []
  fv := 69
theorem memFL {f : Nat} (h : Zg.F f = true) : f ∈ FL := by simpa [Zg] using h
theorem zok17 : ∀ fn c, Try.prog.funcs[17]? = some fn → fn.body = some c → Br.okC (Br.okOp Zg Try.prog (Zg.K 17)) c = true := by
  intro fn c h1 h2
  cases h1.symm.trans Try.func17
  cases h2.symm.trans (rfl : Try.f17.body = some (Try.f17.body.getD .skip))
  kernel_rfl
theorem zok18 : ∀ fn c, Try.prog.funcs[18]? = some fn → fn.body = some c → Br.okC (Br.okOp Zg Try.prog (Zg.K 18)) c = true := by
  intro fn c h1 h2
  cases h1.symm.trans Try.func18
  cases h2.symm.trans (rfl : Try.f18.body = some (Try.f18.body.getD .skip))
  kernel_rfl
theorem zok20 : ∀ fn c, Try.prog.funcs[20]? = some fn → fn.body = some c → Br.okC (Br.okOp Zg Try.prog (Zg.K 20)) c = true := by
  intro fn c h1 h2
  cases h1.symm.trans Try.func20
  cases h2.symm.trans (rfl : Try.f20.body = some (Try.f20.body.getD .skip))
  kernel_rfl
theorem zok21 : ∀ fn c, Try.prog.funcs[21]? = some fn → fn.body = some c → Br.okC (Br.okOp Zg Try.prog (Zg.K 21)) c = true := by
  intro fn c h1 h2
  cases h1.symm.trans Try.func21
  cases h2.symm.trans (rfl : Try.f21.body = some (Try.f21.body.getD .skip))
  kernel_rfl
theorem zok22 : ∀ fn c, Try.prog.funcs[22]? = some fn → fn.body = some c → Br.okC (Br.okOp Zg Try.prog (Zg.K 22)) c = true := by
  intro fn c h1 h2
  cases h1.symm.trans Try.func22
  cases h2.symm.trans (rfl : Try.f22.body = some (Try.f22.body.getD .skip))
  kernel_rfl
theorem zok23 : ∀ fn c, Try.prog.funcs[23]? = some fn → fn.body = some c → Br.okC (Br.okOp Zg Try.prog (Zg.K 23)) c = true := by
  intro fn c h1 h2
  cases h1.symm.trans Try.func23
  cases h2.symm.trans (rfl : Try.f23.body = some (Try.f23.body.getD .skip))
  kernel_rfl
theorem zok24 : ∀ fn c, Try.prog.funcs[24]? = some fn → fn.body = some c → Br.okC (Br.okOp Zg Try.prog (Zg.K 24)) c = true := by
  intro fn c h1 h2
  cases h1.symm.trans Try.func24
  cases h2.symm.trans (rfl : Try.f24.body = some (Try.f24.body.getD .skip))
  kernel_rfl
theorem zok25 : ∀ fn c, Try.prog.funcs[25]? = some fn → fn.body = some c → Br.okC (Br.okOp Zg Try.prog (Zg.K 25)) c = true := by
  intro fn c h1 h2
  cases h1.symm.trans Try.func25
  cases h2.symm.trans (rfl : Try.f25.body = some (Try.f25.body.getD .skip))
  kernel_rfl
theorem zok26 : ∀ fn c, Try.prog.funcs[26]? = some fn → fn.body = some c → Br.okC (Br.okOp Zg Try.prog (Zg.K 26)) c = true := by
  intro fn c h1 h2
  cases h1.symm.trans Try.func26
  cases h2.symm.trans (rfl : Try.f26.body = some (Try.f26.body.getD .skip))
  kernel_rfl
theorem zok27 : ∀ fn c, Try.prog.funcs[27]? = some fn → fn.body = some c → Br.okC (Br.okOp Zg Try.prog (Zg.K 27)) c = true := by
  intro fn c h1 h2
  cases h1.symm.trans Try.func27
  cases h2.symm.trans (rfl : Try.f27.body = some (Try.f27.body.getD .skip))
  kernel_rfl
theorem zok28 : ∀ fn c, Try.prog.funcs[28]? = some fn → fn.body = some c → Br.okC (Br.okOp Zg Try.prog (Zg.K 28)) c = true := by
  intro fn c h1 h2
  cases h1.symm.trans Try.func28
  cases h2.symm.trans (rfl : Try.f28.body = some (Try.f28.body.getD .skip))
  kernel_rfl
theorem zok29 : ∀ fn c, Try.prog.funcs[29]? = some fn → fn.body = some c → Br.okC (Br.okOp Zg Try.prog (Zg.K 29)) c = true := by
  intro fn c h1 h2
  cases h1.symm.trans Try.func29
  cases h2.symm.trans (rfl : Try.f29.body = some (Try.f29.body.getD .skip))
  kernel_rfl
theorem zok30 : ∀ fn c, Try.prog.funcs[30]? = some fn → fn.body = some c → Br.okC (Br.okOp Zg Try.prog (Zg.K 30)) c = true := by
  intro fn c h1 h2
  cases h1.symm.trans Try.func30
  cases h2.symm.trans (rfl : Try.f30.body = some (Try.f30.body.getD .skip))
  kernel_rfl
theorem zok32 : ∀ fn c, Try.prog.funcs[32]? = some fn → fn.body = some c → Br.okC (Br.okOp Zg Try.prog (Zg.K 32)) c = true := by
  intro fn c h1 h2
  cases h1.symm.trans Try.func32
  cases h2.symm.trans (rfl : Try.f32.body = some (Try.f32.body.getD .skip))
  kernel_rfl
theorem zok33 : ∀ fn c, Try.prog.funcs[33]? = some fn → fn.body = some c → Br.okC (Br.okOp Zg Try.prog (Zg.K 33)) c = true := by
  intro fn c h1 h2
  cases h1.symm.trans Try.func33
  cases h2.symm.trans (rfl : Try.f33.body = some (Try.f33.body.getD .skip))
  kernel_rfl
theorem zok34 : ∀ fn c, Try.prog.funcs[34]? = some fn → fn.body = some c → Br.okC (Br.okOp Zg Try.prog (Zg.K 34)) c = true := by
  intro fn c h1 h2
  cases h1.symm.trans Try.func34
  cases h2.symm.trans (rfl : Try.f34.body = some (Try.f34.body.getD .skip))
  kernel_rfl
theorem zok35 : ∀ fn c, Try.prog.funcs[35]? = some fn → fn.body = some c → Br.okC (Br.okOp Zg Try.prog (Zg.K 35)) c = true := by
  intro fn c h1 h2
  cases h1.symm.trans Try.func35
  cases h2.symm.trans (rfl : Try.f35.body = some (Try.f35.body.getD .skip))
  kernel_rfl
theorem zok36 : ∀ fn c, Try.prog.funcs[36]? = some fn → fn.body = some c → Br.okC (Br.okOp Zg Try.prog (Zg.K 36)) c = true := by
  intro fn c h1 h2
  cases h1.symm.trans Try.func36
  cases h2.symm.trans (rfl : Try.f36.body = some (Try.f36.body.getD .skip))
  kernel_rfl
theorem zok37 : ∀ fn c, Try.prog.funcs[37]? = some fn → fn.body = some c → Br.okC (Br.okOp Zg Try.prog (Zg.K 37)) c = true := by
  intro fn c h1 h2
  cases h1.symm.trans Try.func37
  cases h2.symm.trans (rfl : Try.f37.body = some (Try.f37.body.getD .skip))
  kernel_rfl
theorem zok38 : ∀ fn c, Try.prog.funcs[38]? = some fn → fn.body = some c → Br.okC (Br.okOp Zg Try.prog (Zg.K 38)) c = true := by
  intro fn c h1 h2
  cases h1.symm.trans Try.func38
  cases h2.symm.trans (rfl : Try.f38.body = some (Try.f38.body.getD .skip))
  kernel_rfl
theorem zok40 : ∀ fn c, Try.prog.funcs[40]? = some fn → fn.body = some c → Br.okC (Br.okOp Zg Try.prog (Zg.K 40)) c = true := by
  intro fn c h1 h2
  cases h1.symm.trans Try.func40
  cases h2.symm.trans (rfl : Try.f40.body = some (Try.f40.body.getD .skip))
  kernel_rfl
theorem zok41 : ∀ fn c, Try.prog.funcs[41]? = some fn → fn.body = some c → Br.okC (Br.okOp Zg Try.prog (Zg.K 41)) c = true := by
  intro fn c h1 h2
  cases h1.symm.trans Try.func41
  cases h2.symm.trans (rfl : Try.f41.body = some (Try.f41.body.getD .skip))
  kernel_rfl
theorem zok42 : ∀ fn c, Try.prog.funcs[42]? = some fn → fn.body = some c → Br.okC (Br.okOp Zg Try.prog (Zg.K 42)) c = true := by
  intro fn c h1 h2
  cases h1.symm.trans Try.func42
  cases h2.symm.trans (rfl : Try.f42.body = some (Try.f42.body.getD .skip))
  kernel_rfl
theorem zok46 : ∀ fn c, Try.prog.funcs[46]? = some fn → fn.body = some c → Br.okC (Br.okOp Zg Try.prog (Zg.K 46)) c = true := by
  intro fn c h1 h2
  cases h1.symm.trans Try.func46
  cases h2.symm.trans (rfl : Try.f46.body = some (Try.f46.body.getD .skip))
  kernel_rfl
theorem zok58 : ∀ fn c, Try.prog.funcs[58]? = some fn → fn.body = some c → Br.okC (Br.okOp Zg Try.prog (Zg.K 58)) c = true := by
  intro fn c h1 h2
  cases h1.symm.trans Try.func58
  cases h2.symm.trans (rfl : Try.f58.body = some (Try.f58.body.getD .skip))
  kernel_rfl
theorem zok59 : ∀ fn c, Try.prog.funcs[59]? = some fn → fn.body = some c → Br.okC (Br.okOp Zg Try.prog (Zg.K 59)) c = true := by
  intro fn c h1 h2
  cases h1.symm.trans Try.func59
  cases h2.symm.trans (rfl : Try.f59.body = some (Try.f59.body.getD .skip))
  kernel_rfl
theorem zok60 : ∀ fn c, Try.prog.funcs[60]? = some fn → fn.body = some c → Br.okC (Br.okOp Zg Try.prog (Zg.K 60)) c = true := by
  intro fn c h1 h2
  cases h1.symm.trans Try.func60
  cases h2.symm.trans (rfl : Try.f60.body = some (Try.f60.body.getD .skip))
  kernel_rfl
theorem zok61 : ∀ fn c, Try.prog.funcs[61]? = some fn → fn.body = some c → Br.okC (Br.okOp Zg Try.prog (Zg.K 61)) c = true := by
  intro fn c h1 h2
  cases h1.symm.trans Try.func61
  cases h2.symm.trans (rfl : Try.f61.body = some (Try.f61.body.getD .skip))
  kernel_rfl
theorem zok62 : ∀ fn c, Try.prog.funcs[62]? = some fn → fn.body = some c → Br.okC (Br.okOp Zg Try.prog (Zg.K 62)) c = true := by
  intro fn c h1 h2
  cases h1.symm.trans Try.func62
  cases h2.symm.trans (rfl : Try.f62.body = some (Try.f62.body.getD .skip))
  kernel_rfl
theorem zok63 : ∀ fn c, Try.prog.funcs[63]? = some fn → fn.body = some c → Br.okC (Br.okOp Zg Try.prog (Zg.K 63)) c = true := by
  intro fn c h1 h2
  cases h1.symm.trans Try.func63
  cases h2.symm.trans (rfl : Try.f63.body = some (Try.f63.body.getD .skip))
  kernel_rfl
theorem zok64 : ∀ fn c, Try.prog.funcs[64]? = some fn → fn.body = some c → Br.okC (Br.okOp Zg Try.prog (Zg.K 64)) c = true := by
  intro fn c h1 h2
  cases h1.symm.trans Try.func64
  cases h2.symm.trans (rfl : Try.f64.body = some (Try.f64.body.getD .skip))
  kernel_rfl
theorem zok65 : ∀ fn c, Try.prog.funcs[65]? = some fn → fn.body = some c → Br.okC (Br.okOp Zg Try.prog (Zg.K 65)) c = true := by
  intro fn c h1 h2
  cases h1.symm.trans Try.func65
  cases h2.symm.trans (rfl : Try.f65.body = some (Try.f65.body.getD .skip))
  kernel_rfl
theorem zok67 : ∀ fn c, Try.prog.funcs[67]? = some fn → fn.body = some c → Br.okC (Br.okOp Zg Try.prog (Zg.K 67)) c = true := by
  intro fn c h1 h2
  cases h1.symm.trans Try.func67
  cases h2.symm.trans (rfl : Try.f67.body = some (Try.f67.body.getD .skip))
  kernel_rfl
theorem zok68 : ∀ fn c, Try.prog.funcs[68]? = some fn → fn.body = some c → Br.okC (Br.okOp Zg Try.prog (Zg.K 68)) c = true := by
  intro fn c h1 h2
  cases h1.symm.trans Try.func68
  cases h2.symm.trans (rfl : Try.f68.body = some (Try.f68.body.getD .skip))
  kernel_rfl
theorem zok69 : ∀ fn c, Try.prog.funcs[69]? = some fn → fn.body = some c → Br.okC (Br.okOp Zg Try.prog (Zg.K 69)) c = true := by
  intro fn c h1 h2
  cases h1.symm.trans Try.func69
  cases h2.symm.trans (rfl : Try.f69.body = some (Try.f69.body.getD .skip))
  kernel_rfl
theorem zok70 : ∀ fn c, Try.prog.funcs[70]? = some fn → fn.body = some c → Br.okC (Br.okOp Zg Try.prog (Zg.K 70)) c = true := by
  intro fn c h1 h2
  cases h1.symm.trans Try.func70
  cases h2.symm.trans (rfl : Try.f70.body = some (Try.f70.body.getD .skip))
  kernel_rfl
theorem zok71 : ∀ fn c, Try.prog.funcs[71]? = some fn → fn.body = some c → Br.okC (Br.okOp Zg Try.prog (Zg.K 71)) c = true := by
  intro fn c h1 h2
  cases h1.symm.trans Try.func71
  cases h2.symm.trans (rfl : Try.f71.body = some (Try.f71.body.getD .skip))
  kernel_rfl
theorem zok76 : ∀ fn c, Try.prog.funcs[76]? = some fn → fn.body = some c → Br.okC (Br.okOp Zg Try.prog (Zg.K 76)) c = true := by
  intro fn c h1 h2
  cases h1.symm.trans Try.func76
  cases h2.symm.trans (rfl : Try.f76.body = some (Try.f76.body.getD .skip))
  kernel_rfl
theorem zok81 : ∀ fn c, Try.prog.funcs[81]? = some fn → fn.body = some c → Br.okC (Br.okOp Zg Try.prog (Zg.K 81)) c = true := by
  intro fn c h1 h2
  cases h1.symm.trans Try.func81
  cases h2.symm.trans (rfl : Try.f81.body = some (Try.f81.body.getD .skip))
  kernel_rfl
theorem zok82 : ∀ fn c, Try.prog.funcs[82]? = some fn → fn.body = some c → Br.okC (Br.okOp Zg Try.prog (Zg.K 82)) c = true := by
  intro fn c h1 h2
  cases h1.symm.trans Try.func82
  cases h2.symm.trans (rfl : Try.f82.body = some (Try.f82.body.getD .skip))
  kernel_rfl
theorem zok83 : ∀ fn c, Try.prog.funcs[83]? = some fn → fn.body = some c → Br.okC (Br.okOp Zg Try.prog (Zg.K 83)) c = true := by
  intro fn c h1 h2
  cases h1.symm.trans Try.func83
  cases h2.symm.trans (rfl : Try.f83.body = some (Try.f83.body.getD .skip))
  kernel_rfl
theorem zok84 : ∀ fn c, Try.prog.funcs[84]? = some fn → fn.body = some c → Br.okC (Br.okOp Zg Try.prog (Zg.K 84)) c = true := by
  intro fn c h1 h2
  cases h1.symm.trans Try.func84
  cases h2.symm.trans (rfl : Try.f84.body = some (Try.f84.body.getD .skip))
  kernel_rfl
theorem zok86 : ∀ fn c, Try.prog.funcs[86]? = some fn → fn.body = some c → Br.okC (Br.okOp Zg Try.prog (Zg.K 86)) c = true := by
  intro fn c h1 h2
  cases h1.symm.trans Try.func86
  cases h2.symm.trans (rfl : Try.f86.body = some (Try.f86.body.getD .skip))
  kernel_rfl
theorem zok87 : ∀ fn c, Try.prog.funcs[87]? = some fn → fn.body = some c → Br.okC (Br.okOp Zg Try.prog (Zg.K 87)) c = true := by
  intro fn c h1 h2
  cases h1.symm.trans Try.func87
  cases h2.symm.trans (rfl : Try.f87.body = some (Try.f87.body.getD .skip))
  kernel_rfl
theorem zok106 : ∀ fn c, Try.prog.funcs[106]? = some fn → fn.body = some c → Br.okC (Br.okOp Zg Try.prog (Zg.K 106)) c = true := by
  intro fn c h1 h2
  cases h1.symm.trans Try.func106
  cases h2.symm.trans (rfl : Try.f106.body = some (Try.f106.body.getD .skip))
  kernel_rfl
theorem zok107 : ∀ fn c, Try.prog.funcs[107]? = some fn → fn.body = some c → Br.okC (Br.okOp Zg Try.prog (Zg.K 107)) c = true := by
  intro fn c h1 h2
  cases h1.symm.trans Try.func107
  cases h2.symm.trans (rfl : Try.f107.body = some (Try.f107.body.getD .skip))
  kernel_rfl
theorem zok108 : ∀ fn c, Try.prog.funcs[108]? = some fn → fn.body = some c → Br.okC (Br.okOp Zg Try.prog (Zg.K 108)) c = true := by
  intro fn c h1 h2
  cases h1.symm.trans Try.func108
  cases h2.symm.trans (rfl : Try.f108.body = some (Try.f108.body.getD .skip))
  kernel_rfl
theorem zok109 : ∀ fn c, Try.prog.funcs[109]? = some fn → fn.body = some c → Br.okC (Br.okOp Zg Try.prog (Zg.K 109)) c = true := by
  intro fn c h1 h2
  cases h1.symm.trans Try.func109
  cases h2.symm.trans (rfl : Try.f109.body = some (Try.f109.body.getD .skip))
  kernel_rfl
theorem zok110 : ∀ fn c, Try.prog.funcs[110]? = some fn → fn.body = some c → Br.okC (Br.okOp Zg Try.prog (Zg.K 110)) c = true := by
  intro fn c h1 h2
  cases h1.symm.trans Try.func110
  cases h2.symm.trans (rfl : Try.f110.body = some (Try.f110.body.getD .skip))
  kernel_rfl
theorem zok111 : ∀ fn c, Try.prog.funcs[111]? = some fn → fn.body = some c → Br.okC (Br.okOp Zg Try.prog (Zg.K 111)) c = true := by
  intro fn c h1 h2
  cases h1.symm.trans Try.func111
  cases h2.symm.trans (rfl : Try.f111.body = some (Try.f111.body.getD .skip))
  kernel_rfl
theorem zok112 : ∀ fn c, Try.prog.funcs[112]? = some fn → fn.body = some c → Br.okC (Br.okOp Zg Try.prog (Zg.K 112)) c = true := by
  intro fn c h1 h2
  cases h1.symm.trans Try.func112
  cases h2.symm.trans (rfl : Try.f112.body = some (Try.f112.body.getD .skip))
  kernel_rfl
theorem zok113 : ∀ fn c, Try.prog.funcs[113]? = some fn → fn.body = some c → Br.okC (Br.okOp Zg Try.prog (Zg.K 113)) c = true := by
  intro fn c h1 h2
  cases h1.symm.trans Try.func113
  cases h2.symm.trans (rfl : Try.f113.body = some (Try.f113.body.getD .skip))
  kernel_rfl
theorem zok114 : ∀ fn c, Try.prog.funcs[114]? = some fn → fn.body = some c → Br.okC (Br.okOp Zg Try.prog (Zg.K 114)) c = true := by
  intro fn c h1 h2
  cases h1.symm.trans Try.func114
  cases h2.symm.trans (rfl : Try.f114.body = some (Try.f114.body.getD .skip))
  kernel_rfl
theorem zok115 : ∀ fn c, Try.prog.funcs[115]? = some fn → fn.body = some c → Br.okC (Br.okOp Zg Try.prog (Zg.K 115)) c = true := by
  intro fn c h1 h2
  cases h1.symm.trans Try.func115
  cases h2.symm.trans (rfl : Try.f115.body = some (Try.f115.body.getD .skip))
  kernel_rfl
theorem zok116 : ∀ fn c, Try.prog.funcs[116]? = some fn → fn.body = some c → Br.okC (Br.okOp Zg Try.prog (Zg.K 116)) c = true := by
  intro fn c h1 h2
  cases h1.symm.trans Try.func116
  cases h2.symm.trans (rfl : Try.f116.body = some (Try.f116.body.getD .skip))
  kernel_rfl
theorem zok117 : ∀ fn c, Try.prog.funcs[117]? = some fn → fn.body = some c → Br.okC (Br.okOp Zg Try.prog (Zg.K 117)) c = true := by
  intro fn c h1 h2
  cases h1.symm.trans Try.func117
  cases h2.symm.trans (rfl : Try.f117.body = some (Try.f117.body.getD .skip))
  kernel_rfl
theorem zok123 : ∀ fn c, Try.prog.funcs[123]? = some fn → fn.body = some c → Br.okC (Br.okOp Zg Try.prog (Zg.K 123)) c = true := by
  intro fn c h1 h2
  cases h1.symm.trans Try.func123
  cases h2.symm.trans (rfl : Try.f123.body = some (Try.f123.body.getD .skip))
  kernel_rfl
theorem zok124 : ∀ fn c, Try.prog.funcs[124]? = some fn → fn.body = some c → Br.okC (Br.okOp Zg Try.prog (Zg.K 124)) c = true := by
  intro fn c h1 h2
  cases h1.symm.trans Try.func124
  cases h2.symm.trans (rfl : Try.f124.body = some (Try.f124.body.getD .skip))
  kernel_rfl
theorem zok125 : ∀ fn c, Try.prog.funcs[125]? = some fn → fn.body = some c → Br.okC (Br.okOp Zg Try.prog (Zg.K 125)) c = true := by
  intro fn c h1 h2
  cases h1.symm.trans Try.func125
  cases h2.symm.trans (rfl : Try.f125.body = some (Try.f125.body.getD .skip))
  kernel_rfl
theorem zok126 : ∀ fn c, Try.prog.funcs[126]? = some fn → fn.body = some c → Br.okC (Br.okOp Zg Try.prog (Zg.K 126)) c = true := by
  intro fn c h1 h2
  cases h1.symm.trans Try.func126
  cases h2.symm.trans (rfl : Try.f126.body = some (Try.f126.body.getD .skip))
  kernel_rfl
theorem zok127 : ∀ fn c, Try.prog.funcs[127]? = some fn → fn.body = some c → Br.okC (Br.okOp Zg Try.prog (Zg.K 127)) c = true := by
  intro fn c h1 h2
  cases h1.symm.trans Try.func127
  cases h2.symm.trans (rfl : Try.f127.body = some (Try.f127.body.getD .skip))
  kernel_rfl
theorem zok128 : ∀ fn c, Try.prog.funcs[128]? = some fn → fn.body = some c → Br.okC (Br.okOp Zg Try.prog (Zg.K 128)) c = true := by
  intro fn c h1 h2
  cases h1.symm.trans Try.func128
  cases h2.symm.trans (rfl : Try.f128.body = some (Try.f128.body.getD .skip))
  kernel_rfl
theorem zgOk : Br.SetOk Try.prog Zg := by
  refine ⟨fun f hf => ?_, fun f fn c hf h1 h2 => ?_, fun g hg => ?_, by kernel_rfl⟩
  · have := memFL hf
    simp only [FL, List.mem_cons, List.not_mem_nil, or_false] at this
    rcases this with rfl | rfl | rfl | rfl | rfl | rfl | rfl | rfl | rfl | rfl | rfl | rfl | rfl | rfl | rfl | rfl | rfl | rfl | rfl | rfl | rfl | rfl | rfl | rfl | rfl | rfl | rfl | rfl | rfl | rfl | rfl | rfl | rfl | rfl | rfl | rfl | rfl | rfl | rfl | rfl | rfl | rfl | rfl | rfl | rfl | rfl | rfl | rfl | rfl | rfl | rfl | rfl | rfl | rfl | rfl | rfl | rfl | rfl | rfl | rfl | rfl | rfl
    · exact ⟨Try.f17, Try.f17.body.getD .skip, Try.func17, by kernel_rfl, rfl⟩
    · exact ⟨Try.f18, Try.f18.body.getD .skip, Try.func18, by kernel_rfl, rfl⟩
    · exact ⟨Try.f20, Try.f20.body.getD .skip, Try.func20, by kernel_rfl, rfl⟩
    · exact ⟨Try.f21, Try.f21.body.getD .skip, Try.func21, by kernel_rfl, rfl⟩
    · exact ⟨Try.f22, Try.f22.body.getD .skip, Try.func22, by kernel_rfl, rfl⟩
    · exact ⟨Try.f23, Try.f23.body.getD .skip, Try.func23, by kernel_rfl, rfl⟩
    · exact ⟨Try.f24, Try.f24.body.getD .skip, Try.func24, by kernel_rfl, rfl⟩
    · exact ⟨Try.f25, Try.f25.body.getD .skip, Try.func25, by kernel_rfl, rfl⟩
    · exact ⟨Try.f26, Try.f26.body.getD .skip, Try.func26, by kernel_rfl, rfl⟩
    · exact ⟨Try.f27, Try.f27.body.getD .skip, Try.func27, by kernel_rfl, rfl⟩
    · exact ⟨Try.f28, Try.f28.body.getD .skip, Try.func28, by kernel_rfl, rfl⟩
    · exact ⟨Try.f29, Try.f29.body.getD .skip, Try.func29, by kernel_rfl, rfl⟩
    · exact ⟨Try.f30, Try.f30.body.getD .skip, Try.func30, by kernel_rfl, rfl⟩
    · exact ⟨Try.f32, Try.f32.body.getD .skip, Try.func32, by kernel_rfl, rfl⟩
    · exact ⟨Try.f33, Try.f33.body.getD .skip, Try.func33, by kernel_rfl, rfl⟩
    · exact ⟨Try.f34, Try.f34.body.getD .skip, Try.func34, by kernel_rfl, rfl⟩
    · exact ⟨Try.f35, Try.f35.body.getD .skip, Try.func35, by kernel_rfl, rfl⟩
    · exact ⟨Try.f36, Try.f36.body.getD .skip, Try.func36, by kernel_rfl, rfl⟩
    · exact ⟨Try.f37, Try.f37.body.getD .skip, Try.func37, by kernel_rfl, rfl⟩
    · exact ⟨Try.f38, Try.f38.body.getD .skip, Try.func38, by kernel_rfl, rfl⟩
    · exact ⟨Try.f40, Try.f40.body.getD .skip, Try.func40, by kernel_rfl, rfl⟩
    · exact ⟨Try.f41, Try.f41.body.getD .skip, Try.func41, by kernel_rfl, rfl⟩
    · exact ⟨Try.f42, Try.f42.body.getD .skip, Try.func42, by kernel_rfl, rfl⟩
    · exact ⟨Try.f46, Try.f46.body.getD .skip, Try.func46, by kernel_rfl, rfl⟩
    · exact ⟨Try.f58, Try.f58.body.getD .skip, Try.func58, by kernel_rfl, rfl⟩
    · exact ⟨Try.f59, Try.f59.body.getD .skip, Try.func59, by kernel_rfl, rfl⟩
    · exact ⟨Try.f60, Try.f60.body.getD .skip, Try.func60, by kernel_rfl, rfl⟩
    · exact ⟨Try.f61, Try.f61.body.getD .skip, Try.func61, by kernel_rfl, rfl⟩
    · exact ⟨Try.f62, Try.f62.body.getD .skip, Try.func62, by kernel_rfl, rfl⟩
    · exact ⟨Try.f63, Try.f63.body.getD .skip, Try.func63, by kernel_rfl, rfl⟩
    · exact ⟨Try.f64, Try.f64.body.getD .skip, Try.func64, by kernel_rfl, rfl⟩
    · exact ⟨Try.f65, Try.f65.body.getD .skip, Try.func65, by kernel_rfl, rfl⟩
    · exact ⟨Try.f67, Try.f67.body.getD .skip, Try.func67, by kernel_rfl, rfl⟩
    · exact ⟨Try.f68, Try.f68.body.getD .skip, Try.func68, by kernel_rfl, rfl⟩
    · exact ⟨Try.f69, Try.f69.body.getD .skip, Try.func69, by kernel_rfl, rfl⟩
    · exact ⟨Try.f70, Try.f70.body.getD .skip, Try.func70, by kernel_rfl, rfl⟩
    · exact ⟨Try.f71, Try.f71.body.getD .skip, Try.func71, by kernel_rfl, rfl⟩
    · exact ⟨Try.f76, Try.f76.body.getD .skip, Try.func76, by kernel_rfl, rfl⟩
    · exact ⟨Try.f81, Try.f81.body.getD .skip, Try.func81, by kernel_rfl, rfl⟩
    · exact ⟨Try.f82, Try.f82.body.getD .skip, Try.func82, by kernel_rfl, rfl⟩
    · exact ⟨Try.f83, Try.f83.body.getD .skip, Try.func83, by kernel_rfl, rfl⟩
    · exact ⟨Try.f84, Try.f84.body.getD .skip, Try.func84, by kernel_rfl, rfl⟩
    · exact ⟨Try.f86, Try.f86.body.getD .skip, Try.func86, by kernel_rfl, rfl⟩
    · exact ⟨Try.f87, Try.f87.body.getD .skip, Try.func87, by kernel_rfl, rfl⟩
    · exact ⟨Try.f106, Try.f106.body.getD .skip, Try.func106, by kernel_rfl, rfl⟩
    · exact ⟨Try.f107, Try.f107.body.getD .skip, Try.func107, by kernel_rfl, rfl⟩
    · exact ⟨Try.f108, Try.f108.body.getD .skip, Try.func108, by kernel_rfl, rfl⟩
    · exact ⟨Try.f109, Try.f109.body.getD .skip, Try.func109, by kernel_rfl, rfl⟩
    · exact ⟨Try.f110, Try.f110.body.getD .skip, Try.func110, by kernel_rfl, rfl⟩
    · exact ⟨Try.f111, Try.f111.body.getD .skip, Try.func111, by kernel_rfl, rfl⟩
    · exact ⟨Try.f112, Try.f112.body.getD .skip, Try.func112, by kernel_rfl, rfl⟩
    · exact ⟨Try.f113, Try.f113.body.getD .skip, Try.func113, by kernel_rfl, rfl⟩
    · exact ⟨Try.f114, Try.f114.body.getD .skip, Try.func114, by kernel_rfl, rfl⟩
    · exact ⟨Try.f115, Try.f115.body.getD .skip, Try.func115, by kernel_rfl, rfl⟩
    · exact ⟨Try.f116, Try.f116.body.getD .skip, Try.func116, by kernel_rfl, rfl⟩
    · exact ⟨Try.f117, Try.f117.body.getD .skip, Try.func117, by kernel_rfl, rfl⟩
    · exact ⟨Try.f123, Try.f123.body.getD .skip, Try.func123, by kernel_rfl, rfl⟩
    · exact ⟨Try.f124, Try.f124.body.getD .skip, Try.func124, by kernel_rfl, rfl⟩
    · exact ⟨Try.f125, Try.f125.body.getD .skip, Try.func125, by kernel_rfl, rfl⟩
    · exact ⟨Try.f126, Try.f126.body.getD .skip, Try.func126, by kernel_rfl, rfl⟩
    · exact ⟨Try.f127, Try.f127.body.getD .skip, Try.func127, by kernel_rfl, rfl⟩
    · exact ⟨Try.f128, Try.f128.body.getD .skip, Try.func128, by kernel_rfl, rfl⟩
  · have := memFL hf
    simp only [FL, List.mem_cons, List.not_mem_nil, or_false] at this
    rcases this with rfl | rfl | rfl | rfl | rfl | rfl | rfl | rfl | rfl | rfl | rfl | rfl | rfl | rfl | rfl | rfl | rfl | rfl | rfl | rfl | rfl | rfl | rfl | rfl | rfl | rfl | rfl | rfl | rfl | rfl | rfl | rfl | rfl | rfl | rfl | rfl | rfl | rfl | rfl | rfl | rfl | rfl | rfl | rfl | rfl | rfl | rfl | rfl | rfl | rfl | rfl | rfl | rfl | rfl | rfl | rfl | rfl | rfl | rfl | rfl | rfl | rfl
    · exact zok17 fn c h1 h2
    · exact zok18 fn c h1 h2
    · exact zok20 fn c h1 h2
    · exact zok21 fn c h1 h2
    · exact zok22 fn c h1 h2
    · exact zok23 fn c h1 h2
    · exact zok24 fn c h1 h2
    · exact zok25 fn c h1 h2
    · exact zok26 fn c h1 h2
    · exact zok27 fn c h1 h2
    · exact zok28 fn c h1 h2
    · exact zok29 fn c h1 h2
    · exact zok30 fn c h1 h2
    · exact zok32 fn c h1 h2
    · exact zok33 fn c h1 h2
    · exact zok34 fn c h1 h2
    · exact zok35 fn c h1 h2
    · exact zok36 fn c h1 h2
    · exact zok37 fn c h1 h2
    · exact zok38 fn c h1 h2
    · exact zok40 fn c h1 h2
    · exact zok41 fn c h1 h2
    · exact zok42 fn c h1 h2
    · exact zok46 fn c h1 h2
    · exact zok58 fn c h1 h2
    · exact zok59 fn c h1 h2
    · exact zok60 fn c h1 h2
    · exact zok61 fn c h1 h2
    · exact zok62 fn c h1 h2
    · exact zok63 fn c h1 h2
    · exact zok64 fn c h1 h2
    · exact zok65 fn c h1 h2
    · exact zok67 fn c h1 h2
    · exact zok68 fn c h1 h2
    · exact zok69 fn c h1 h2
    · exact zok70 fn c h1 h2
    · exact zok71 fn c h1 h2
    · exact zok76 fn c h1 h2
    · exact zok81 fn c h1 h2
    · exact zok82 fn c h1 h2
    · exact zok83 fn c h1 h2
    · exact zok84 fn c h1 h2
    · exact zok86 fn c h1 h2
    · exact zok87 fn c h1 h2
    · exact zok106 fn c h1 h2
    · exact zok107 fn c h1 h2
    · exact zok108 fn c h1 h2
    · exact zok109 fn c h1 h2
    · exact zok110 fn c h1 h2
    · exact zok111 fn c h1 h2
    · exact zok112 fn c h1 h2
    · exact zok113 fn c h1 h2
    · exact zok114 fn c h1 h2
    · exact zok115 fn c h1 h2
    · exact zok116 fn c h1 h2
    · exact zok117 fn c h1 h2
    · exact zok123 fn c h1 h2
    · exact zok124 fn c h1 h2
    · exact zok125 fn c h1 h2
    · exact zok126 fn c h1 h2
    · exact zok127 fn c h1 h2
    · exact zok128 fn c h1 h2
  · exact late_of (by decide +kernel) g hg
end Go.Proofs.Ytpdnceeniokemaa
