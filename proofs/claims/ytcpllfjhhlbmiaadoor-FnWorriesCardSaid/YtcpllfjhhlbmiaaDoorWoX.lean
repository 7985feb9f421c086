/-
  The order of the text is one that the law's region of 96 operations lets by: step by step, each a lemma of its own. A closed fact of the program; no conditions.
-/
import Derived.Test.YtcpllfjhhlbmiaaDoorUnI
import Derived.BigQuiet
namespace Go.Proofs.YtcpllfjhhlbmiaaDoor
open Go.RowKit
set_option linter.unusedVariables false
set_option linter.unusedSimpArgs false

/-- the region's operations -/
abbrev opsL : List Oper := [{ dst := some 43, op := Op.move (Operand.tmp 6), type := 3, pos := "laws.go:964", after := #[], guard := none }, { dst := some 44, op := Op.binOp BinOp.gtr 3 (Operand.tmp 43) (Operand.const (Value.int IntKind.i64 0)) 3, type := 4, pos := "laws.go:964", after := #[{ on := 0, ground := Ground.data }], guard := none }, { dst := some 45, op := Op.move (Operand.tmp 44), type := 4, pos := "laws.go:964", after := #[{ on := 1, ground := Ground.data }], guard := none }, { dst := some 46, op := Op.move (Operand.tmp 5), type := 39, pos := "laws.go:964", after := #[{ on := 2, ground := Ground.guard }], guard := some (2, true) }, { dst := some 47, op := Op.move (Operand.tmp 6), type := 3, pos := "laws.go:964", after := #[{ on := 2, ground := Ground.guard }], guard := some (2, true) }, { dst := some 48, op := Op.indexAddr 39 (Operand.tmp 46) (Operand.tmp 47), type := 0, pos := "laws.go:964", after := #[{ on := 3, ground := Ground.data }, { on := 4, ground := Ground.data }, { on := 2, ground := Ground.guard }], guard := some (2, true) }, { dst := some 49, op := Op.fieldAddr 42 (Operand.tmp 48) 0, type := 0, pos := "laws.go:964", after := #[{ on := 5, ground := Ground.data }, { on := 2, ground := Ground.guard }], guard := some (2, true) }, { dst := some 50, op := Op.load 2 (Operand.tmp 49), type := 2, pos := "laws.go:964", after := #[{ on := 6, ground := Ground.data }, { on := 2, ground := Ground.guard }], guard := some (2, true) }, { dst := some 51, op := Op.move (Operand.tmp 5), type := 39, pos := "laws.go:964", after := #[{ on := 2, ground := Ground.guard }], guard := some (2, true) }, { dst := some 52, op := Op.move (Operand.tmp 6), type := 3, pos := "laws.go:964", after := #[{ on := 2, ground := Ground.guard }], guard := some (2, true) }, { dst := some 53, op := Op.binOp BinOp.sub 3 (Operand.tmp 52) (Operand.const (Value.int IntKind.i64 1)) 3, type := 3, pos := "laws.go:964", after := #[{ on := 9, ground := Ground.data }, { on := 2, ground := Ground.guard }], guard := some (2, true) }, { dst := some 54, op := Op.indexAddr 39 (Operand.tmp 51) (Operand.tmp 53), type := 0, pos := "laws.go:964", after := #[{ on := 8, ground := Ground.data }, { on := 10, ground := Ground.data }, { on := 2, ground := Ground.guard }], guard := some (2, true) }, { dst := some 55, op := Op.fieldAddr 42 (Operand.tmp 54) 0, type := 0, pos := "laws.go:964", after := #[{ on := 11, ground := Ground.data }, { on := 2, ground := Ground.guard }], guard := some (2, true) }, { dst := some 56, op := Op.load 2 (Operand.tmp 55), type := 2, pos := "laws.go:964", after := #[{ on := 12, ground := Ground.data }, { on := 2, ground := Ground.guard }], guard := some (2, true) }, { dst := some 57, op := Op.binOp BinOp.lss 2 (Operand.tmp 50) (Operand.tmp 56) 2, type := 4, pos := "laws.go:964", after := #[{ on := 7, ground := Ground.data }, { on := 13, ground := Ground.data }, { on := 2, ground := Ground.guard }], guard := some (2, true) }, { dst := some 58, op := Op.move (Operand.tmp 57), type := 4, pos := "laws.go:964", after := #[{ on := 14, ground := Ground.data }, { on := 2, ground := Ground.chain }, { on := 2, ground := Ground.guard }], guard := some (2, true) }, { dst := some 59, op := Op.move (Operand.tmp 5), type := 39, pos := "laws.go:964", after := #[{ on := 15, ground := Ground.guard }], guard := some (15, false) }, { dst := some 60, op := Op.move (Operand.tmp 6), type := 3, pos := "laws.go:964", after := #[{ on := 15, ground := Ground.guard }], guard := some (15, false) }, { dst := some 61, op := Op.indexAddr 39 (Operand.tmp 59) (Operand.tmp 60), type := 0, pos := "laws.go:964", after := #[{ on := 16, ground := Ground.data }, { on := 17, ground := Ground.data }, { on := 15, ground := Ground.guard }], guard := some (15, false) }, { dst := some 62, op := Op.fieldAddr 42 (Operand.tmp 61) 0, type := 0, pos := "laws.go:964", after := #[{ on := 18, ground := Ground.data }, { on := 15, ground := Ground.guard }], guard := some (15, false) }, { dst := some 63, op := Op.load 2 (Operand.tmp 62), type := 2, pos := "laws.go:964", after := #[{ on := 19, ground := Ground.data }, { on := 15, ground := Ground.guard }], guard := some (15, false) }, { dst := some 64, op := Op.move (Operand.tmp 5), type := 39, pos := "laws.go:964", after := #[{ on := 15, ground := Ground.guard }], guard := some (15, false) }, { dst := some 65, op := Op.move (Operand.tmp 6), type := 3, pos := "laws.go:964", after := #[{ on := 15, ground := Ground.guard }], guard := some (15, false) }, { dst := some 66, op := Op.binOp BinOp.sub 3 (Operand.tmp 65) (Operand.const (Value.int IntKind.i64 1)) 3, type := 3, pos := "laws.go:964", after := #[{ on := 22, ground := Ground.data }, { on := 15, ground := Ground.guard }], guard := some (15, false) }, { dst := some 67, op := Op.indexAddr 39 (Operand.tmp 64) (Operand.tmp 66), type := 0, pos := "laws.go:964", after := #[{ on := 21, ground := Ground.data }, { on := 23, ground := Ground.data }, { on := 15, ground := Ground.guard }], guard := some (15, false) }, { dst := some 68, op := Op.fieldAddr 42 (Operand.tmp 67) 0, type := 0, pos := "laws.go:964", after := #[{ on := 24, ground := Ground.data }, { on := 15, ground := Ground.guard }], guard := some (15, false) }, { dst := some 69, op := Op.load 2 (Operand.tmp 68), type := 2, pos := "laws.go:964", after := #[{ on := 25, ground := Ground.data }, { on := 15, ground := Ground.guard }], guard := some (15, false) }, { dst := some 70, op := Op.binOp BinOp.eql 2 (Operand.tmp 63) (Operand.tmp 69) 2, type := 4, pos := "laws.go:964", after := #[{ on := 20, ground := Ground.data }, { on := 26, ground := Ground.data }, { on := 15, ground := Ground.guard }], guard := some (15, false) }, { dst := some 71, op := Op.move (Operand.tmp 70), type := 4, pos := "laws.go:964", after := #[{ on := 27, ground := Ground.data }, { on := 15, ground := Ground.chain }, { on := 15, ground := Ground.guard }], guard := some (15, false) }, { dst := some 72, op := Op.move (Operand.tmp 5), type := 39, pos := "laws.go:964", after := #[{ on := 28, ground := Ground.guard }], guard := some (28, true) }, { dst := some 73, op := Op.move (Operand.tmp 6), type := 3, pos := "laws.go:964", after := #[{ on := 28, ground := Ground.guard }], guard := some (28, true) }, { dst := some 74, op := Op.indexAddr 39 (Operand.tmp 72) (Operand.tmp 73), type := 0, pos := "laws.go:964", after := #[{ on := 29, ground := Ground.data }, { on := 30, ground := Ground.data }, { on := 28, ground := Ground.guard }], guard := some (28, true) }, { dst := some 75, op := Op.fieldAddr 42 (Operand.tmp 74) 1, type := 0, pos := "laws.go:964", after := #[{ on := 31, ground := Ground.data }, { on := 28, ground := Ground.guard }], guard := some (28, true) }, { dst := some 76, op := Op.load 2 (Operand.tmp 75), type := 2, pos := "laws.go:964", after := #[{ on := 32, ground := Ground.data }, { on := 28, ground := Ground.guard }], guard := some (28, true) }, { dst := some 77, op := Op.move (Operand.tmp 5), type := 39, pos := "laws.go:964", after := #[{ on := 28, ground := Ground.guard }], guard := some (28, true) }, { dst := some 78, op := Op.move (Operand.tmp 6), type := 3, pos := "laws.go:964", after := #[{ on := 28, ground := Ground.guard }], guard := some (28, true) }, { dst := some 79, op := Op.binOp BinOp.sub 3 (Operand.tmp 78) (Operand.const (Value.int IntKind.i64 1)) 3, type := 3, pos := "laws.go:964", after := #[{ on := 35, ground := Ground.data }, { on := 28, ground := Ground.guard }], guard := some (28, true) }, { dst := some 80, op := Op.indexAddr 39 (Operand.tmp 77) (Operand.tmp 79), type := 0, pos := "laws.go:964", after := #[{ on := 34, ground := Ground.data }, { on := 36, ground := Ground.data }, { on := 28, ground := Ground.guard }], guard := some (28, true) }, { dst := some 81, op := Op.fieldAddr 42 (Operand.tmp 80) 1, type := 0, pos := "laws.go:964", after := #[{ on := 37, ground := Ground.data }, { on := 28, ground := Ground.guard }], guard := some (28, true) }, { dst := some 82, op := Op.load 2 (Operand.tmp 81), type := 2, pos := "laws.go:964", after := #[{ on := 38, ground := Ground.data }, { on := 28, ground := Ground.guard }], guard := some (28, true) }, { dst := some 83, op := Op.binOp BinOp.leq 2 (Operand.tmp 76) (Operand.tmp 82) 2, type := 4, pos := "laws.go:964", after := #[{ on := 33, ground := Ground.data }, { on := 39, ground := Ground.data }, { on := 28, ground := Ground.guard }], guard := some (28, true) }, { dst := some 84, op := Op.pick (Operand.tmp 71) (Operand.tmp 83) (Operand.const (Value.bool false)), type := 4, pos := "laws.go:964", after := #[{ on := 28, ground := Ground.data }, { on := 40, ground := Ground.data }, { on := 15, ground := Ground.guard }], guard := some (15, false) }, { dst := some 85, op := Op.pick (Operand.tmp 58) (Operand.const (Value.bool true)) (Operand.tmp 84), type := 4, pos := "laws.go:964", after := #[{ on := 15, ground := Ground.data }, { on := 41, ground := Ground.data }, { on := 2, ground := Ground.guard }], guard := some (2, true) }, { dst := some 86, op := Op.pick (Operand.tmp 45) (Operand.tmp 85) (Operand.const (Value.bool false)), type := 4, pos := "laws.go:964", after := #[{ on := 2, ground := Ground.data }, { on := 42, ground := Ground.data }], guard := none }, { dst := some 87, op := Op.move (Operand.tmp 86), type := 4, pos := "laws.go:964", after := #[{ on := 43, ground := Ground.data }, { on := 28, ground := Ground.chain }], guard := none }, { dst := some 88, op := Op.move (Operand.tmp 5), type := 39, pos := "laws.go:964", after := #[{ on := 44, ground := Ground.guard }], guard := some (44, false) }, { dst := some 89, op := Op.move (Operand.tmp 6), type := 3, pos := "laws.go:964", after := #[{ on := 44, ground := Ground.guard }], guard := some (44, false) }, { dst := some 90, op := Op.indexAddr 39 (Operand.tmp 88) (Operand.tmp 89), type := 0, pos := "laws.go:964", after := #[{ on := 45, ground := Ground.data }, { on := 46, ground := Ground.data }, { on := 44, ground := Ground.guard }], guard := some (44, false) }, { dst := some 91, op := Op.fieldAddr 42 (Operand.tmp 90) 1, type := 0, pos := "laws.go:964", after := #[{ on := 47, ground := Ground.data }, { on := 44, ground := Ground.guard }], guard := some (44, false) }, { dst := some 92, op := Op.load 2 (Operand.tmp 91), type := 2, pos := "laws.go:964", after := #[{ on := 48, ground := Ground.data }, { on := 44, ground := Ground.guard }], guard := some (44, false) }, { dst := some 93, op := Op.binOp BinOp.eql 2 (Operand.tmp 92) (Operand.const (Value.int IntKind.i64 1)) 2, type := 4, pos := "laws.go:964", after := #[{ on := 49, ground := Ground.data }, { on := 44, ground := Ground.guard }], guard := some (44, false) }, { dst := some 94, op := Op.move (Operand.tmp 93), type := 4, pos := "laws.go:964", after := #[{ on := 50, ground := Ground.data }, { on := 44, ground := Ground.chain }, { on := 44, ground := Ground.guard }], guard := some (44, false) }, { dst := some 95, op := Op.fieldAddr 32 (Operand.tmp 7) 1, type := 0, pos := "laws.go:964", after := #[{ on := 51, ground := Ground.guard }], guard := some (51, true) }, { dst := some 96, op := Op.load 2 (Operand.tmp 95), type := 2, pos := "laws.go:964", after := #[{ on := 52, ground := Ground.data }, { on := 51, ground := Ground.guard }], guard := some (51, true) }, { dst := some 97, op := Op.fieldAddr 32 (Operand.tmp 7) 0, type := 0, pos := "laws.go:964", after := #[{ on := 51, ground := Ground.guard }], guard := some (51, true) }, { dst := some 98, op := Op.load 2 (Operand.tmp 97), type := 2, pos := "laws.go:964", after := #[{ on := 54, ground := Ground.data }, { on := 51, ground := Ground.guard }], guard := some (51, true) }, { dst := some 99, op := Op.binOp BinOp.sub 2 (Operand.tmp 96) (Operand.tmp 98) 2, type := 2, pos := "laws.go:964", after := #[{ on := 53, ground := Ground.data }, { on := 55, ground := Ground.data }, { on := 51, ground := Ground.guard }], guard := some (51, true) }, { dst := some 100, op := Op.fieldAddr 36 (Operand.tmp 4) 0, type := 0, pos := "laws.go:964", after := #[{ on := 51, ground := Ground.guard }], guard := some (51, true) }, { dst := some 101, op := Op.load 2 (Operand.tmp 100), type := 2, pos := "laws.go:964", after := #[{ on := 57, ground := Ground.data }, { on := 51, ground := Ground.guard }], guard := some (51, true) }, { dst := some 102, op := Op.binOp BinOp.geq 2 (Operand.tmp 99) (Operand.tmp 101) 2, type := 4, pos := "laws.go:964", after := #[{ on := 56, ground := Ground.data }, { on := 58, ground := Ground.data }, { on := 51, ground := Ground.guard }], guard := some (51, true) }, { dst := some 103, op := Op.pick (Operand.tmp 94) (Operand.tmp 102) (Operand.const (Value.bool false)), type := 4, pos := "laws.go:964", after := #[{ on := 51, ground := Ground.data }, { on := 59, ground := Ground.data }, { on := 44, ground := Ground.guard }], guard := some (44, false) }, { dst := some 104, op := Op.pick (Operand.tmp 87) (Operand.const (Value.bool true)) (Operand.tmp 103), type := 4, pos := "laws.go:964", after := #[{ on := 44, ground := Ground.data }, { on := 60, ground := Ground.data }], guard := none }, { dst := some 105, op := Op.move (Operand.tmp 104), type := 4, pos := "laws.go:964", after := #[{ on := 61, ground := Ground.data }, { on := 51, ground := Ground.chain }], guard := none }, { dst := some 106, op := Op.move (Operand.tmp 5), type := 39, pos := "laws.go:964", after := #[{ on := 62, ground := Ground.guard }], guard := some (62, false) }, { dst := some 107, op := Op.move (Operand.tmp 6), type := 3, pos := "laws.go:964", after := #[{ on := 62, ground := Ground.guard }], guard := some (62, false) }, { dst := some 108, op := Op.indexAddr 39 (Operand.tmp 106) (Operand.tmp 107), type := 0, pos := "laws.go:964", after := #[{ on := 63, ground := Ground.data }, { on := 64, ground := Ground.data }, { on := 62, ground := Ground.guard }], guard := some (62, false) }, { dst := some 109, op := Op.fieldAddr 42 (Operand.tmp 108) 1, type := 0, pos := "laws.go:964", after := #[{ on := 65, ground := Ground.data }, { on := 62, ground := Ground.guard }], guard := some (62, false) }, { dst := some 110, op := Op.load 2 (Operand.tmp 109), type := 2, pos := "laws.go:964", after := #[{ on := 66, ground := Ground.data }, { on := 62, ground := Ground.guard }], guard := some (62, false) }, { dst := some 111, op := Op.binOp BinOp.eql 2 (Operand.tmp 110) (Operand.const (Value.int IntKind.i64 2)) 2, type := 4, pos := "laws.go:964", after := #[{ on := 67, ground := Ground.data }, { on := 62, ground := Ground.guard }], guard := some (62, false) }, { dst := some 112, op := Op.move (Operand.tmp 111), type := 4, pos := "laws.go:964", after := #[{ on := 68, ground := Ground.data }, { on := 62, ground := Ground.chain }, { on := 62, ground := Ground.guard }], guard := some (62, false) }, { dst := some 113, op := Op.move (Operand.tmp 5), type := 39, pos := "laws.go:964", after := #[{ on := 69, ground := Ground.guard }], guard := some (69, true) }, { dst := some 114, op := Op.move (Operand.tmp 6), type := 3, pos := "laws.go:964", after := #[{ on := 69, ground := Ground.guard }], guard := some (69, true) }, { dst := some 115, op := Op.indexAddr 39 (Operand.tmp 113) (Operand.tmp 114), type := 0, pos := "laws.go:964", after := #[{ on := 70, ground := Ground.data }, { on := 71, ground := Ground.data }, { on := 69, ground := Ground.guard }], guard := some (69, true) }, { dst := some 116, op := Op.fieldAddr 42 (Operand.tmp 115) 0, type := 0, pos := "laws.go:964", after := #[{ on := 72, ground := Ground.data }, { on := 69, ground := Ground.guard }], guard := some (69, true) }, { dst := some 117, op := Op.load 2 (Operand.tmp 116), type := 2, pos := "laws.go:964", after := #[{ on := 73, ground := Ground.data }, { on := 69, ground := Ground.guard }], guard := some (69, true) }, { dst := some 118, op := Op.binOp BinOp.eql 2 (Operand.tmp 117) (Operand.const (Value.int IntKind.i64 0)) 2, type := 4, pos := "laws.go:964", after := #[{ on := 74, ground := Ground.data }, { on := 69, ground := Ground.guard }], guard := some (69, true) }, { dst := some 119, op := Op.move (Operand.tmp 118), type := 4, pos := "laws.go:964", after := #[{ on := 75, ground := Ground.data }, { on := 69, ground := Ground.chain }, { on := 69, ground := Ground.guard }], guard := some (69, true) }, { dst := some 120, op := Op.fieldAddr 32 (Operand.tmp 7) 0, type := 0, pos := "laws.go:964", after := #[{ on := 76, ground := Ground.guard }], guard := some (76, false) }, { dst := some 121, op := Op.load 2 (Operand.tmp 120), type := 2, pos := "laws.go:964", after := #[{ on := 77, ground := Ground.data }, { on := 76, ground := Ground.guard }], guard := some (76, false) }, { dst := some 122, op := Op.move (Operand.tmp 3), type := 24, pos := "laws.go:964", after := #[{ on := 76, ground := Ground.guard }], guard := some (76, false) }, { dst := some 123, op := Op.move (Operand.tmp 5), type := 39, pos := "laws.go:964", after := #[{ on := 76, ground := Ground.guard }], guard := some (76, false) }, { dst := some 124, op := Op.move (Operand.tmp 6), type := 3, pos := "laws.go:964", after := #[{ on := 76, ground := Ground.guard }], guard := some (76, false) }, { dst := some 125, op := Op.indexAddr 39 (Operand.tmp 123) (Operand.tmp 124), type := 0, pos := "laws.go:964", after := #[{ on := 80, ground := Ground.data }, { on := 81, ground := Ground.data }, { on := 76, ground := Ground.guard }], guard := some (76, false) }, { dst := some 126, op := Op.fieldAddr 42 (Operand.tmp 125) 0, type := 0, pos := "laws.go:964", after := #[{ on := 82, ground := Ground.data }, { on := 76, ground := Ground.guard }], guard := some (76, false) }, { dst := some 127, op := Op.load 2 (Operand.tmp 126), type := 2, pos := "laws.go:964", after := #[{ on := 83, ground := Ground.data }, { on := 76, ground := Ground.guard }], guard := some (76, false) }, { dst := some 128, op := Op.binOp BinOp.sub 2 (Operand.tmp 127) (Operand.const (Value.int IntKind.i64 1)) 2, type := 2, pos := "laws.go:964", after := #[{ on := 84, ground := Ground.data }, { on := 76, ground := Ground.guard }], guard := some (76, false) }, { dst := some 129, op := Op.indexAddr 24 (Operand.tmp 122) (Operand.tmp 128), type := 0, pos := "laws.go:964", after := #[{ on := 79, ground := Ground.data }, { on := 85, ground := Ground.data }, { on := 76, ground := Ground.guard }], guard := some (76, false) }, { dst := some 130, op := Op.fieldAddr 32 (Operand.tmp 129) 1, type := 0, pos := "laws.go:964", after := #[{ on := 86, ground := Ground.data }, { on := 76, ground := Ground.guard }], guard := some (76, false) }, { dst := some 131, op := Op.load 2 (Operand.tmp 130), type := 2, pos := "laws.go:964", after := #[{ on := 87, ground := Ground.data }, { on := 76, ground := Ground.guard }], guard := some (76, false) }, { dst := some 132, op := Op.binOp BinOp.sub 2 (Operand.tmp 121) (Operand.tmp 131) 2, type := 2, pos := "laws.go:964", after := #[{ on := 78, ground := Ground.data }, { on := 88, ground := Ground.data }, { on := 76, ground := Ground.guard }], guard := some (76, false) }, { dst := some 133, op := Op.fieldAddr 36 (Operand.tmp 4) 1, type := 0, pos := "laws.go:964", after := #[{ on := 76, ground := Ground.guard }], guard := some (76, false) }, { dst := some 134, op := Op.load 2 (Operand.tmp 133), type := 2, pos := "laws.go:964", after := #[{ on := 90, ground := Ground.data }, { on := 76, ground := Ground.guard }], guard := some (76, false) }, { dst := some 135, op := Op.binOp BinOp.geq 2 (Operand.tmp 132) (Operand.tmp 134) 2, type := 4, pos := "laws.go:964", after := #[{ on := 89, ground := Ground.data }, { on := 91, ground := Ground.data }, { on := 76, ground := Ground.guard }], guard := some (76, false) }, { dst := some 136, op := Op.pick (Operand.tmp 119) (Operand.const (Value.bool true)) (Operand.tmp 135), type := 4, pos := "laws.go:964", after := #[{ on := 76, ground := Ground.data }, { on := 92, ground := Ground.data }, { on := 69, ground := Ground.guard }], guard := some (69, true) }, { dst := some 137, op := Op.pick (Operand.tmp 112) (Operand.tmp 136) (Operand.const (Value.bool false)), type := 4, pos := "laws.go:964", after := #[{ on := 69, ground := Ground.data }, { on := 93, ground := Ground.data }, { on := 62, ground := Ground.guard }], guard := some (62, false) }, { dst := some 138, op := Op.pick (Operand.tmp 105) (Operand.const (Value.bool true)) (Operand.tmp 137), type := 4, pos := "laws.go:964", after := #[{ on := 62, ground := Ground.data }, { on := 94, ground := Ground.data }], guard := none }]
def opsA : Array Oper := opsL.toArray
/-- the first k are done -/
def liB (k : Nat) : Array Bool := (List.replicate k true ++ List.replicate (96 - k) false).toArray
theorem lex_step {md : Region.Mode} {ops : Array Oper} {n k : Nat} {l l' : Array Bool} (h1 : ((Region.ready md ops l).contains k && Region.free md ops l k) = true) (e : l.setIfInBounds k true = l') (h2 : Region.lexFrom md ops n (k + 1) l' = true) : Region.lexFrom md ops (n + 1) k l = true := by
  rw [Region.lexFrom, e, h1, h2]; rfl
set_option maxRecDepth 100000
theorem lx0 : ((Region.ready .any opsA (liB 0)).contains 0 && Region.free .any opsA (liB 0) 0) = true := by kernel_rfl
theorem le0 : (liB 0).setIfInBounds 0 true = liB 1 := by kernel_rfl
theorem lx1 : ((Region.ready .any opsA (liB 1)).contains 1 && Region.free .any opsA (liB 1) 1) = true := by kernel_rfl
theorem le1 : (liB 1).setIfInBounds 1 true = liB 2 := by kernel_rfl
theorem lx2 : ((Region.ready .any opsA (liB 2)).contains 2 && Region.free .any opsA (liB 2) 2) = true := by kernel_rfl
theorem le2 : (liB 2).setIfInBounds 2 true = liB 3 := by kernel_rfl
theorem lx3 : ((Region.ready .any opsA (liB 3)).contains 3 && Region.free .any opsA (liB 3) 3) = true := by kernel_rfl
theorem le3 : (liB 3).setIfInBounds 3 true = liB 4 := by kernel_rfl
theorem lx4 : ((Region.ready .any opsA (liB 4)).contains 4 && Region.free .any opsA (liB 4) 4) = true := by kernel_rfl
theorem le4 : (liB 4).setIfInBounds 4 true = liB 5 := by kernel_rfl
theorem lx5 : ((Region.ready .any opsA (liB 5)).contains 5 && Region.free .any opsA (liB 5) 5) = true := by kernel_rfl
theorem le5 : (liB 5).setIfInBounds 5 true = liB 6 := by kernel_rfl
theorem lx6 : ((Region.ready .any opsA (liB 6)).contains 6 && Region.free .any opsA (liB 6) 6) = true := by kernel_rfl
theorem le6 : (liB 6).setIfInBounds 6 true = liB 7 := by kernel_rfl
theorem lx7 : ((Region.ready .any opsA (liB 7)).contains 7 && Region.free .any opsA (liB 7) 7) = true := by kernel_rfl
theorem le7 : (liB 7).setIfInBounds 7 true = liB 8 := by kernel_rfl
theorem lx8 : ((Region.ready .any opsA (liB 8)).contains 8 && Region.free .any opsA (liB 8) 8) = true := by kernel_rfl
theorem le8 : (liB 8).setIfInBounds 8 true = liB 9 := by kernel_rfl
theorem lx9 : ((Region.ready .any opsA (liB 9)).contains 9 && Region.free .any opsA (liB 9) 9) = true := by kernel_rfl
theorem le9 : (liB 9).setIfInBounds 9 true = liB 10 := by kernel_rfl
theorem lx10 : ((Region.ready .any opsA (liB 10)).contains 10 && Region.free .any opsA (liB 10) 10) = true := by kernel_rfl
theorem le10 : (liB 10).setIfInBounds 10 true = liB 11 := by kernel_rfl
theorem lx11 : ((Region.ready .any opsA (liB 11)).contains 11 && Region.free .any opsA (liB 11) 11) = true := by kernel_rfl
theorem le11 : (liB 11).setIfInBounds 11 true = liB 12 := by kernel_rfl
theorem lx12 : ((Region.ready .any opsA (liB 12)).contains 12 && Region.free .any opsA (liB 12) 12) = true := by kernel_rfl
theorem le12 : (liB 12).setIfInBounds 12 true = liB 13 := by kernel_rfl
theorem lx13 : ((Region.ready .any opsA (liB 13)).contains 13 && Region.free .any opsA (liB 13) 13) = true := by kernel_rfl
theorem le13 : (liB 13).setIfInBounds 13 true = liB 14 := by kernel_rfl
theorem lx14 : ((Region.ready .any opsA (liB 14)).contains 14 && Region.free .any opsA (liB 14) 14) = true := by kernel_rfl
theorem le14 : (liB 14).setIfInBounds 14 true = liB 15 := by kernel_rfl
theorem lx15 : ((Region.ready .any opsA (liB 15)).contains 15 && Region.free .any opsA (liB 15) 15) = true := by kernel_rfl
theorem le15 : (liB 15).setIfInBounds 15 true = liB 16 := by kernel_rfl
theorem lx16 : ((Region.ready .any opsA (liB 16)).contains 16 && Region.free .any opsA (liB 16) 16) = true := by kernel_rfl
theorem le16 : (liB 16).setIfInBounds 16 true = liB 17 := by kernel_rfl
theorem lx17 : ((Region.ready .any opsA (liB 17)).contains 17 && Region.free .any opsA (liB 17) 17) = true := by kernel_rfl
theorem le17 : (liB 17).setIfInBounds 17 true = liB 18 := by kernel_rfl
theorem lx18 : ((Region.ready .any opsA (liB 18)).contains 18 && Region.free .any opsA (liB 18) 18) = true := by kernel_rfl
theorem le18 : (liB 18).setIfInBounds 18 true = liB 19 := by kernel_rfl
theorem lx19 : ((Region.ready .any opsA (liB 19)).contains 19 && Region.free .any opsA (liB 19) 19) = true := by kernel_rfl
theorem le19 : (liB 19).setIfInBounds 19 true = liB 20 := by kernel_rfl
theorem lx20 : ((Region.ready .any opsA (liB 20)).contains 20 && Region.free .any opsA (liB 20) 20) = true := by kernel_rfl
theorem le20 : (liB 20).setIfInBounds 20 true = liB 21 := by kernel_rfl
theorem lx21 : ((Region.ready .any opsA (liB 21)).contains 21 && Region.free .any opsA (liB 21) 21) = true := by kernel_rfl
theorem le21 : (liB 21).setIfInBounds 21 true = liB 22 := by kernel_rfl
theorem lx22 : ((Region.ready .any opsA (liB 22)).contains 22 && Region.free .any opsA (liB 22) 22) = true := by kernel_rfl
theorem le22 : (liB 22).setIfInBounds 22 true = liB 23 := by kernel_rfl
theorem lx23 : ((Region.ready .any opsA (liB 23)).contains 23 && Region.free .any opsA (liB 23) 23) = true := by kernel_rfl
theorem le23 : (liB 23).setIfInBounds 23 true = liB 24 := by kernel_rfl
theorem lx24 : ((Region.ready .any opsA (liB 24)).contains 24 && Region.free .any opsA (liB 24) 24) = true := by kernel_rfl
theorem le24 : (liB 24).setIfInBounds 24 true = liB 25 := by kernel_rfl
theorem lx25 : ((Region.ready .any opsA (liB 25)).contains 25 && Region.free .any opsA (liB 25) 25) = true := by kernel_rfl
theorem le25 : (liB 25).setIfInBounds 25 true = liB 26 := by kernel_rfl
theorem lx26 : ((Region.ready .any opsA (liB 26)).contains 26 && Region.free .any opsA (liB 26) 26) = true := by kernel_rfl
theorem le26 : (liB 26).setIfInBounds 26 true = liB 27 := by kernel_rfl
theorem lx27 : ((Region.ready .any opsA (liB 27)).contains 27 && Region.free .any opsA (liB 27) 27) = true := by kernel_rfl
theorem le27 : (liB 27).setIfInBounds 27 true = liB 28 := by kernel_rfl
theorem lx28 : ((Region.ready .any opsA (liB 28)).contains 28 && Region.free .any opsA (liB 28) 28) = true := by kernel_rfl
theorem le28 : (liB 28).setIfInBounds 28 true = liB 29 := by kernel_rfl
theorem lx29 : ((Region.ready .any opsA (liB 29)).contains 29 && Region.free .any opsA (liB 29) 29) = true := by kernel_rfl
theorem le29 : (liB 29).setIfInBounds 29 true = liB 30 := by kernel_rfl
theorem lx30 : ((Region.ready .any opsA (liB 30)).contains 30 && Region.free .any opsA (liB 30) 30) = true := by kernel_rfl
theorem le30 : (liB 30).setIfInBounds 30 true = liB 31 := by kernel_rfl
theorem lx31 : ((Region.ready .any opsA (liB 31)).contains 31 && Region.free .any opsA (liB 31) 31) = true := by kernel_rfl
theorem le31 : (liB 31).setIfInBounds 31 true = liB 32 := by kernel_rfl
theorem lx32 : ((Region.ready .any opsA (liB 32)).contains 32 && Region.free .any opsA (liB 32) 32) = true := by kernel_rfl
theorem le32 : (liB 32).setIfInBounds 32 true = liB 33 := by kernel_rfl
theorem lx33 : ((Region.ready .any opsA (liB 33)).contains 33 && Region.free .any opsA (liB 33) 33) = true := by kernel_rfl
theorem le33 : (liB 33).setIfInBounds 33 true = liB 34 := by kernel_rfl
theorem lx34 : ((Region.ready .any opsA (liB 34)).contains 34 && Region.free .any opsA (liB 34) 34) = true := by kernel_rfl
theorem le34 : (liB 34).setIfInBounds 34 true = liB 35 := by kernel_rfl
theorem lx35 : ((Region.ready .any opsA (liB 35)).contains 35 && Region.free .any opsA (liB 35) 35) = true := by kernel_rfl
theorem le35 : (liB 35).setIfInBounds 35 true = liB 36 := by kernel_rfl
theorem lx36 : ((Region.ready .any opsA (liB 36)).contains 36 && Region.free .any opsA (liB 36) 36) = true := by kernel_rfl
theorem le36 : (liB 36).setIfInBounds 36 true = liB 37 := by kernel_rfl
theorem lx37 : ((Region.ready .any opsA (liB 37)).contains 37 && Region.free .any opsA (liB 37) 37) = true := by kernel_rfl
theorem le37 : (liB 37).setIfInBounds 37 true = liB 38 := by kernel_rfl
theorem lx38 : ((Region.ready .any opsA (liB 38)).contains 38 && Region.free .any opsA (liB 38) 38) = true := by kernel_rfl
theorem le38 : (liB 38).setIfInBounds 38 true = liB 39 := by kernel_rfl
theorem lx39 : ((Region.ready .any opsA (liB 39)).contains 39 && Region.free .any opsA (liB 39) 39) = true := by kernel_rfl
theorem le39 : (liB 39).setIfInBounds 39 true = liB 40 := by kernel_rfl
theorem lx40 : ((Region.ready .any opsA (liB 40)).contains 40 && Region.free .any opsA (liB 40) 40) = true := by kernel_rfl
theorem le40 : (liB 40).setIfInBounds 40 true = liB 41 := by kernel_rfl
theorem lx41 : ((Region.ready .any opsA (liB 41)).contains 41 && Region.free .any opsA (liB 41) 41) = true := by kernel_rfl
theorem le41 : (liB 41).setIfInBounds 41 true = liB 42 := by kernel_rfl
theorem lx42 : ((Region.ready .any opsA (liB 42)).contains 42 && Region.free .any opsA (liB 42) 42) = true := by kernel_rfl
theorem le42 : (liB 42).setIfInBounds 42 true = liB 43 := by kernel_rfl
theorem lx43 : ((Region.ready .any opsA (liB 43)).contains 43 && Region.free .any opsA (liB 43) 43) = true := by kernel_rfl
theorem le43 : (liB 43).setIfInBounds 43 true = liB 44 := by kernel_rfl
theorem lx44 : ((Region.ready .any opsA (liB 44)).contains 44 && Region.free .any opsA (liB 44) 44) = true := by kernel_rfl
theorem le44 : (liB 44).setIfInBounds 44 true = liB 45 := by kernel_rfl
theorem lx45 : ((Region.ready .any opsA (liB 45)).contains 45 && Region.free .any opsA (liB 45) 45) = true := by kernel_rfl
theorem le45 : (liB 45).setIfInBounds 45 true = liB 46 := by kernel_rfl
theorem lx46 : ((Region.ready .any opsA (liB 46)).contains 46 && Region.free .any opsA (liB 46) 46) = true := by kernel_rfl
theorem le46 : (liB 46).setIfInBounds 46 true = liB 47 := by kernel_rfl
theorem lx47 : ((Region.ready .any opsA (liB 47)).contains 47 && Region.free .any opsA (liB 47) 47) = true := by kernel_rfl
theorem le47 : (liB 47).setIfInBounds 47 true = liB 48 := by kernel_rfl
theorem lx48 : ((Region.ready .any opsA (liB 48)).contains 48 && Region.free .any opsA (liB 48) 48) = true := by kernel_rfl
theorem le48 : (liB 48).setIfInBounds 48 true = liB 49 := by kernel_rfl
theorem lx49 : ((Region.ready .any opsA (liB 49)).contains 49 && Region.free .any opsA (liB 49) 49) = true := by kernel_rfl
theorem le49 : (liB 49).setIfInBounds 49 true = liB 50 := by kernel_rfl
theorem lx50 : ((Region.ready .any opsA (liB 50)).contains 50 && Region.free .any opsA (liB 50) 50) = true := by kernel_rfl
theorem le50 : (liB 50).setIfInBounds 50 true = liB 51 := by kernel_rfl
theorem lx51 : ((Region.ready .any opsA (liB 51)).contains 51 && Region.free .any opsA (liB 51) 51) = true := by kernel_rfl
theorem le51 : (liB 51).setIfInBounds 51 true = liB 52 := by kernel_rfl
theorem lx52 : ((Region.ready .any opsA (liB 52)).contains 52 && Region.free .any opsA (liB 52) 52) = true := by kernel_rfl
theorem le52 : (liB 52).setIfInBounds 52 true = liB 53 := by kernel_rfl
theorem lx53 : ((Region.ready .any opsA (liB 53)).contains 53 && Region.free .any opsA (liB 53) 53) = true := by kernel_rfl
theorem le53 : (liB 53).setIfInBounds 53 true = liB 54 := by kernel_rfl
theorem lx54 : ((Region.ready .any opsA (liB 54)).contains 54 && Region.free .any opsA (liB 54) 54) = true := by kernel_rfl
theorem le54 : (liB 54).setIfInBounds 54 true = liB 55 := by kernel_rfl
theorem lx55 : ((Region.ready .any opsA (liB 55)).contains 55 && Region.free .any opsA (liB 55) 55) = true := by kernel_rfl
theorem le55 : (liB 55).setIfInBounds 55 true = liB 56 := by kernel_rfl
theorem lx56 : ((Region.ready .any opsA (liB 56)).contains 56 && Region.free .any opsA (liB 56) 56) = true := by kernel_rfl
theorem le56 : (liB 56).setIfInBounds 56 true = liB 57 := by kernel_rfl
theorem lx57 : ((Region.ready .any opsA (liB 57)).contains 57 && Region.free .any opsA (liB 57) 57) = true := by kernel_rfl
theorem le57 : (liB 57).setIfInBounds 57 true = liB 58 := by kernel_rfl
theorem lx58 : ((Region.ready .any opsA (liB 58)).contains 58 && Region.free .any opsA (liB 58) 58) = true := by kernel_rfl
theorem le58 : (liB 58).setIfInBounds 58 true = liB 59 := by kernel_rfl
theorem lx59 : ((Region.ready .any opsA (liB 59)).contains 59 && Region.free .any opsA (liB 59) 59) = true := by kernel_rfl
theorem le59 : (liB 59).setIfInBounds 59 true = liB 60 := by kernel_rfl
theorem lx60 : ((Region.ready .any opsA (liB 60)).contains 60 && Region.free .any opsA (liB 60) 60) = true := by kernel_rfl
theorem le60 : (liB 60).setIfInBounds 60 true = liB 61 := by kernel_rfl
theorem lx61 : ((Region.ready .any opsA (liB 61)).contains 61 && Region.free .any opsA (liB 61) 61) = true := by kernel_rfl
theorem le61 : (liB 61).setIfInBounds 61 true = liB 62 := by kernel_rfl
theorem lx62 : ((Region.ready .any opsA (liB 62)).contains 62 && Region.free .any opsA (liB 62) 62) = true := by kernel_rfl
theorem le62 : (liB 62).setIfInBounds 62 true = liB 63 := by kernel_rfl
theorem lx63 : ((Region.ready .any opsA (liB 63)).contains 63 && Region.free .any opsA (liB 63) 63) = true := by kernel_rfl
theorem le63 : (liB 63).setIfInBounds 63 true = liB 64 := by kernel_rfl
theorem lx64 : ((Region.ready .any opsA (liB 64)).contains 64 && Region.free .any opsA (liB 64) 64) = true := by kernel_rfl
theorem le64 : (liB 64).setIfInBounds 64 true = liB 65 := by kernel_rfl
theorem lx65 : ((Region.ready .any opsA (liB 65)).contains 65 && Region.free .any opsA (liB 65) 65) = true := by kernel_rfl
theorem le65 : (liB 65).setIfInBounds 65 true = liB 66 := by kernel_rfl
theorem lx66 : ((Region.ready .any opsA (liB 66)).contains 66 && Region.free .any opsA (liB 66) 66) = true := by kernel_rfl
theorem le66 : (liB 66).setIfInBounds 66 true = liB 67 := by kernel_rfl
theorem lx67 : ((Region.ready .any opsA (liB 67)).contains 67 && Region.free .any opsA (liB 67) 67) = true := by kernel_rfl
theorem le67 : (liB 67).setIfInBounds 67 true = liB 68 := by kernel_rfl
theorem lx68 : ((Region.ready .any opsA (liB 68)).contains 68 && Region.free .any opsA (liB 68) 68) = true := by kernel_rfl
theorem le68 : (liB 68).setIfInBounds 68 true = liB 69 := by kernel_rfl
theorem lx69 : ((Region.ready .any opsA (liB 69)).contains 69 && Region.free .any opsA (liB 69) 69) = true := by kernel_rfl
theorem le69 : (liB 69).setIfInBounds 69 true = liB 70 := by kernel_rfl
theorem lx70 : ((Region.ready .any opsA (liB 70)).contains 70 && Region.free .any opsA (liB 70) 70) = true := by kernel_rfl
theorem le70 : (liB 70).setIfInBounds 70 true = liB 71 := by kernel_rfl
theorem lx71 : ((Region.ready .any opsA (liB 71)).contains 71 && Region.free .any opsA (liB 71) 71) = true := by kernel_rfl
theorem le71 : (liB 71).setIfInBounds 71 true = liB 72 := by kernel_rfl
theorem lx72 : ((Region.ready .any opsA (liB 72)).contains 72 && Region.free .any opsA (liB 72) 72) = true := by kernel_rfl
theorem le72 : (liB 72).setIfInBounds 72 true = liB 73 := by kernel_rfl
theorem lx73 : ((Region.ready .any opsA (liB 73)).contains 73 && Region.free .any opsA (liB 73) 73) = true := by kernel_rfl
theorem le73 : (liB 73).setIfInBounds 73 true = liB 74 := by kernel_rfl
theorem lx74 : ((Region.ready .any opsA (liB 74)).contains 74 && Region.free .any opsA (liB 74) 74) = true := by kernel_rfl
theorem le74 : (liB 74).setIfInBounds 74 true = liB 75 := by kernel_rfl
theorem lx75 : ((Region.ready .any opsA (liB 75)).contains 75 && Region.free .any opsA (liB 75) 75) = true := by kernel_rfl
theorem le75 : (liB 75).setIfInBounds 75 true = liB 76 := by kernel_rfl
theorem lx76 : ((Region.ready .any opsA (liB 76)).contains 76 && Region.free .any opsA (liB 76) 76) = true := by kernel_rfl
theorem le76 : (liB 76).setIfInBounds 76 true = liB 77 := by kernel_rfl
theorem lx77 : ((Region.ready .any opsA (liB 77)).contains 77 && Region.free .any opsA (liB 77) 77) = true := by kernel_rfl
theorem le77 : (liB 77).setIfInBounds 77 true = liB 78 := by kernel_rfl
theorem lx78 : ((Region.ready .any opsA (liB 78)).contains 78 && Region.free .any opsA (liB 78) 78) = true := by kernel_rfl
theorem le78 : (liB 78).setIfInBounds 78 true = liB 79 := by kernel_rfl
theorem lx79 : ((Region.ready .any opsA (liB 79)).contains 79 && Region.free .any opsA (liB 79) 79) = true := by kernel_rfl
theorem le79 : (liB 79).setIfInBounds 79 true = liB 80 := by kernel_rfl
theorem lx80 : ((Region.ready .any opsA (liB 80)).contains 80 && Region.free .any opsA (liB 80) 80) = true := by kernel_rfl
theorem le80 : (liB 80).setIfInBounds 80 true = liB 81 := by kernel_rfl
theorem lx81 : ((Region.ready .any opsA (liB 81)).contains 81 && Region.free .any opsA (liB 81) 81) = true := by kernel_rfl
theorem le81 : (liB 81).setIfInBounds 81 true = liB 82 := by kernel_rfl
theorem lx82 : ((Region.ready .any opsA (liB 82)).contains 82 && Region.free .any opsA (liB 82) 82) = true := by kernel_rfl
theorem le82 : (liB 82).setIfInBounds 82 true = liB 83 := by kernel_rfl
theorem lx83 : ((Region.ready .any opsA (liB 83)).contains 83 && Region.free .any opsA (liB 83) 83) = true := by kernel_rfl
theorem le83 : (liB 83).setIfInBounds 83 true = liB 84 := by kernel_rfl
theorem lx84 : ((Region.ready .any opsA (liB 84)).contains 84 && Region.free .any opsA (liB 84) 84) = true := by kernel_rfl
theorem le84 : (liB 84).setIfInBounds 84 true = liB 85 := by kernel_rfl
theorem lx85 : ((Region.ready .any opsA (liB 85)).contains 85 && Region.free .any opsA (liB 85) 85) = true := by kernel_rfl
theorem le85 : (liB 85).setIfInBounds 85 true = liB 86 := by kernel_rfl
theorem lx86 : ((Region.ready .any opsA (liB 86)).contains 86 && Region.free .any opsA (liB 86) 86) = true := by kernel_rfl
theorem le86 : (liB 86).setIfInBounds 86 true = liB 87 := by kernel_rfl
theorem lx87 : ((Region.ready .any opsA (liB 87)).contains 87 && Region.free .any opsA (liB 87) 87) = true := by kernel_rfl
theorem le87 : (liB 87).setIfInBounds 87 true = liB 88 := by kernel_rfl
theorem lx88 : ((Region.ready .any opsA (liB 88)).contains 88 && Region.free .any opsA (liB 88) 88) = true := by kernel_rfl
theorem le88 : (liB 88).setIfInBounds 88 true = liB 89 := by kernel_rfl
theorem lx89 : ((Region.ready .any opsA (liB 89)).contains 89 && Region.free .any opsA (liB 89) 89) = true := by kernel_rfl
theorem le89 : (liB 89).setIfInBounds 89 true = liB 90 := by kernel_rfl
theorem lx90 : ((Region.ready .any opsA (liB 90)).contains 90 && Region.free .any opsA (liB 90) 90) = true := by kernel_rfl
theorem le90 : (liB 90).setIfInBounds 90 true = liB 91 := by kernel_rfl
theorem lx91 : ((Region.ready .any opsA (liB 91)).contains 91 && Region.free .any opsA (liB 91) 91) = true := by kernel_rfl
theorem le91 : (liB 91).setIfInBounds 91 true = liB 92 := by kernel_rfl
theorem lx92 : ((Region.ready .any opsA (liB 92)).contains 92 && Region.free .any opsA (liB 92) 92) = true := by kernel_rfl
theorem le92 : (liB 92).setIfInBounds 92 true = liB 93 := by kernel_rfl
theorem lx93 : ((Region.ready .any opsA (liB 93)).contains 93 && Region.free .any opsA (liB 93) 93) = true := by kernel_rfl
theorem le93 : (liB 93).setIfInBounds 93 true = liB 94 := by kernel_rfl
theorem lx94 : ((Region.ready .any opsA (liB 94)).contains 94 && Region.free .any opsA (liB 94) 94) = true := by kernel_rfl
theorem le94 : (liB 94).setIfInBounds 94 true = liB 95 := by kernel_rfl
theorem lx95 : ((Region.ready .any opsA (liB 95)).contains 95 && Region.free .any opsA (liB 95) 95) = true := by kernel_rfl
theorem le95 : (liB 95).setIfInBounds 95 true = liB 96 := by kernel_rfl
theorem lz : Region.lexFrom .any opsA 0 96 (liB 96) = true := by kernel_rfl
theorem lns : Region.noSelect opsA = true := by kernel_rfl
theorem lc95 : Region.lexFrom .any opsA 1 95 (liB 95) = true := lex_step (n := 0) lx95 le95 lz
theorem lc94 : Region.lexFrom .any opsA 2 94 (liB 94) = true := lex_step (n := 1) lx94 le94 lc95
theorem lc93 : Region.lexFrom .any opsA 3 93 (liB 93) = true := lex_step (n := 2) lx93 le93 lc94
theorem lc92 : Region.lexFrom .any opsA 4 92 (liB 92) = true := lex_step (n := 3) lx92 le92 lc93
theorem lc91 : Region.lexFrom .any opsA 5 91 (liB 91) = true := lex_step (n := 4) lx91 le91 lc92
theorem lc90 : Region.lexFrom .any opsA 6 90 (liB 90) = true := lex_step (n := 5) lx90 le90 lc91
theorem lc89 : Region.lexFrom .any opsA 7 89 (liB 89) = true := lex_step (n := 6) lx89 le89 lc90
theorem lc88 : Region.lexFrom .any opsA 8 88 (liB 88) = true := lex_step (n := 7) lx88 le88 lc89
theorem lc87 : Region.lexFrom .any opsA 9 87 (liB 87) = true := lex_step (n := 8) lx87 le87 lc88
theorem lc86 : Region.lexFrom .any opsA 10 86 (liB 86) = true := lex_step (n := 9) lx86 le86 lc87
theorem lc85 : Region.lexFrom .any opsA 11 85 (liB 85) = true := lex_step (n := 10) lx85 le85 lc86
theorem lc84 : Region.lexFrom .any opsA 12 84 (liB 84) = true := lex_step (n := 11) lx84 le84 lc85
theorem lc83 : Region.lexFrom .any opsA 13 83 (liB 83) = true := lex_step (n := 12) lx83 le83 lc84
theorem lc82 : Region.lexFrom .any opsA 14 82 (liB 82) = true := lex_step (n := 13) lx82 le82 lc83
theorem lc81 : Region.lexFrom .any opsA 15 81 (liB 81) = true := lex_step (n := 14) lx81 le81 lc82
theorem lc80 : Region.lexFrom .any opsA 16 80 (liB 80) = true := lex_step (n := 15) lx80 le80 lc81
theorem lc79 : Region.lexFrom .any opsA 17 79 (liB 79) = true := lex_step (n := 16) lx79 le79 lc80
theorem lc78 : Region.lexFrom .any opsA 18 78 (liB 78) = true := lex_step (n := 17) lx78 le78 lc79
theorem lc77 : Region.lexFrom .any opsA 19 77 (liB 77) = true := lex_step (n := 18) lx77 le77 lc78
theorem lc76 : Region.lexFrom .any opsA 20 76 (liB 76) = true := lex_step (n := 19) lx76 le76 lc77
theorem lc75 : Region.lexFrom .any opsA 21 75 (liB 75) = true := lex_step (n := 20) lx75 le75 lc76
theorem lc74 : Region.lexFrom .any opsA 22 74 (liB 74) = true := lex_step (n := 21) lx74 le74 lc75
theorem lc73 : Region.lexFrom .any opsA 23 73 (liB 73) = true := lex_step (n := 22) lx73 le73 lc74
theorem lc72 : Region.lexFrom .any opsA 24 72 (liB 72) = true := lex_step (n := 23) lx72 le72 lc73
theorem lc71 : Region.lexFrom .any opsA 25 71 (liB 71) = true := lex_step (n := 24) lx71 le71 lc72
theorem lc70 : Region.lexFrom .any opsA 26 70 (liB 70) = true := lex_step (n := 25) lx70 le70 lc71
theorem lc69 : Region.lexFrom .any opsA 27 69 (liB 69) = true := lex_step (n := 26) lx69 le69 lc70
theorem lc68 : Region.lexFrom .any opsA 28 68 (liB 68) = true := lex_step (n := 27) lx68 le68 lc69
theorem lc67 : Region.lexFrom .any opsA 29 67 (liB 67) = true := lex_step (n := 28) lx67 le67 lc68
theorem lc66 : Region.lexFrom .any opsA 30 66 (liB 66) = true := lex_step (n := 29) lx66 le66 lc67
theorem lc65 : Region.lexFrom .any opsA 31 65 (liB 65) = true := lex_step (n := 30) lx65 le65 lc66
theorem lc64 : Region.lexFrom .any opsA 32 64 (liB 64) = true := lex_step (n := 31) lx64 le64 lc65
theorem lc63 : Region.lexFrom .any opsA 33 63 (liB 63) = true := lex_step (n := 32) lx63 le63 lc64
theorem lc62 : Region.lexFrom .any opsA 34 62 (liB 62) = true := lex_step (n := 33) lx62 le62 lc63
theorem lc61 : Region.lexFrom .any opsA 35 61 (liB 61) = true := lex_step (n := 34) lx61 le61 lc62
theorem lc60 : Region.lexFrom .any opsA 36 60 (liB 60) = true := lex_step (n := 35) lx60 le60 lc61
theorem lc59 : Region.lexFrom .any opsA 37 59 (liB 59) = true := lex_step (n := 36) lx59 le59 lc60
theorem lc58 : Region.lexFrom .any opsA 38 58 (liB 58) = true := lex_step (n := 37) lx58 le58 lc59
theorem lc57 : Region.lexFrom .any opsA 39 57 (liB 57) = true := lex_step (n := 38) lx57 le57 lc58
theorem lc56 : Region.lexFrom .any opsA 40 56 (liB 56) = true := lex_step (n := 39) lx56 le56 lc57
theorem lc55 : Region.lexFrom .any opsA 41 55 (liB 55) = true := lex_step (n := 40) lx55 le55 lc56
theorem lc54 : Region.lexFrom .any opsA 42 54 (liB 54) = true := lex_step (n := 41) lx54 le54 lc55
theorem lc53 : Region.lexFrom .any opsA 43 53 (liB 53) = true := lex_step (n := 42) lx53 le53 lc54
theorem lc52 : Region.lexFrom .any opsA 44 52 (liB 52) = true := lex_step (n := 43) lx52 le52 lc53
theorem lc51 : Region.lexFrom .any opsA 45 51 (liB 51) = true := lex_step (n := 44) lx51 le51 lc52
theorem lc50 : Region.lexFrom .any opsA 46 50 (liB 50) = true := lex_step (n := 45) lx50 le50 lc51
theorem lc49 : Region.lexFrom .any opsA 47 49 (liB 49) = true := lex_step (n := 46) lx49 le49 lc50
theorem lc48 : Region.lexFrom .any opsA 48 48 (liB 48) = true := lex_step (n := 47) lx48 le48 lc49
theorem lc47 : Region.lexFrom .any opsA 49 47 (liB 47) = true := lex_step (n := 48) lx47 le47 lc48
theorem lc46 : Region.lexFrom .any opsA 50 46 (liB 46) = true := lex_step (n := 49) lx46 le46 lc47
theorem lc45 : Region.lexFrom .any opsA 51 45 (liB 45) = true := lex_step (n := 50) lx45 le45 lc46
theorem lc44 : Region.lexFrom .any opsA 52 44 (liB 44) = true := lex_step (n := 51) lx44 le44 lc45
theorem lc43 : Region.lexFrom .any opsA 53 43 (liB 43) = true := lex_step (n := 52) lx43 le43 lc44
theorem lc42 : Region.lexFrom .any opsA 54 42 (liB 42) = true := lex_step (n := 53) lx42 le42 lc43
theorem lc41 : Region.lexFrom .any opsA 55 41 (liB 41) = true := lex_step (n := 54) lx41 le41 lc42
theorem lc40 : Region.lexFrom .any opsA 56 40 (liB 40) = true := lex_step (n := 55) lx40 le40 lc41
theorem lc39 : Region.lexFrom .any opsA 57 39 (liB 39) = true := lex_step (n := 56) lx39 le39 lc40
theorem lc38 : Region.lexFrom .any opsA 58 38 (liB 38) = true := lex_step (n := 57) lx38 le38 lc39
theorem lc37 : Region.lexFrom .any opsA 59 37 (liB 37) = true := lex_step (n := 58) lx37 le37 lc38
theorem lc36 : Region.lexFrom .any opsA 60 36 (liB 36) = true := lex_step (n := 59) lx36 le36 lc37
theorem lc35 : Region.lexFrom .any opsA 61 35 (liB 35) = true := lex_step (n := 60) lx35 le35 lc36
theorem lc34 : Region.lexFrom .any opsA 62 34 (liB 34) = true := lex_step (n := 61) lx34 le34 lc35
theorem lc33 : Region.lexFrom .any opsA 63 33 (liB 33) = true := lex_step (n := 62) lx33 le33 lc34
theorem lc32 : Region.lexFrom .any opsA 64 32 (liB 32) = true := lex_step (n := 63) lx32 le32 lc33
theorem lc31 : Region.lexFrom .any opsA 65 31 (liB 31) = true := lex_step (n := 64) lx31 le31 lc32
theorem lc30 : Region.lexFrom .any opsA 66 30 (liB 30) = true := lex_step (n := 65) lx30 le30 lc31
theorem lc29 : Region.lexFrom .any opsA 67 29 (liB 29) = true := lex_step (n := 66) lx29 le29 lc30
theorem lc28 : Region.lexFrom .any opsA 68 28 (liB 28) = true := lex_step (n := 67) lx28 le28 lc29
theorem lc27 : Region.lexFrom .any opsA 69 27 (liB 27) = true := lex_step (n := 68) lx27 le27 lc28
theorem lc26 : Region.lexFrom .any opsA 70 26 (liB 26) = true := lex_step (n := 69) lx26 le26 lc27
theorem lc25 : Region.lexFrom .any opsA 71 25 (liB 25) = true := lex_step (n := 70) lx25 le25 lc26
theorem lc24 : Region.lexFrom .any opsA 72 24 (liB 24) = true := lex_step (n := 71) lx24 le24 lc25
theorem lc23 : Region.lexFrom .any opsA 73 23 (liB 23) = true := lex_step (n := 72) lx23 le23 lc24
theorem lc22 : Region.lexFrom .any opsA 74 22 (liB 22) = true := lex_step (n := 73) lx22 le22 lc23
theorem lc21 : Region.lexFrom .any opsA 75 21 (liB 21) = true := lex_step (n := 74) lx21 le21 lc22
theorem lc20 : Region.lexFrom .any opsA 76 20 (liB 20) = true := lex_step (n := 75) lx20 le20 lc21
theorem lc19 : Region.lexFrom .any opsA 77 19 (liB 19) = true := lex_step (n := 76) lx19 le19 lc20
theorem lc18 : Region.lexFrom .any opsA 78 18 (liB 18) = true := lex_step (n := 77) lx18 le18 lc19
theorem lc17 : Region.lexFrom .any opsA 79 17 (liB 17) = true := lex_step (n := 78) lx17 le17 lc18
theorem lc16 : Region.lexFrom .any opsA 80 16 (liB 16) = true := lex_step (n := 79) lx16 le16 lc17
theorem lc15 : Region.lexFrom .any opsA 81 15 (liB 15) = true := lex_step (n := 80) lx15 le15 lc16
theorem lc14 : Region.lexFrom .any opsA 82 14 (liB 14) = true := lex_step (n := 81) lx14 le14 lc15
theorem lc13 : Region.lexFrom .any opsA 83 13 (liB 13) = true := lex_step (n := 82) lx13 le13 lc14
theorem lc12 : Region.lexFrom .any opsA 84 12 (liB 12) = true := lex_step (n := 83) lx12 le12 lc13
theorem lc11 : Region.lexFrom .any opsA 85 11 (liB 11) = true := lex_step (n := 84) lx11 le11 lc12
theorem lc10 : Region.lexFrom .any opsA 86 10 (liB 10) = true := lex_step (n := 85) lx10 le10 lc11
theorem lc9 : Region.lexFrom .any opsA 87 9 (liB 9) = true := lex_step (n := 86) lx9 le9 lc10
theorem lc8 : Region.lexFrom .any opsA 88 8 (liB 8) = true := lex_step (n := 87) lx8 le8 lc9
theorem lc7 : Region.lexFrom .any opsA 89 7 (liB 7) = true := lex_step (n := 88) lx7 le7 lc8
theorem lc6 : Region.lexFrom .any opsA 90 6 (liB 6) = true := lex_step (n := 89) lx6 le6 lc7
theorem lc5 : Region.lexFrom .any opsA 91 5 (liB 5) = true := lex_step (n := 90) lx5 le5 lc6
theorem lc4 : Region.lexFrom .any opsA 92 4 (liB 4) = true := lex_step (n := 91) lx4 le4 lc5
theorem lc3 : Region.lexFrom .any opsA 93 3 (liB 3) = true := lex_step (n := 92) lx3 le3 lc4
theorem lc2 : Region.lexFrom .any opsA 94 2 (liB 2) = true := lex_step (n := 93) lx2 le2 lc3
theorem lc1 : Region.lexFrom .any opsA 95 1 (liB 1) = true := lex_step (n := 94) lx1 le1 lc2
theorem lc0 : Region.lexFrom .any opsA 96 0 (liB 0) = true := lex_step (n := 95) lx0 le0 lc1
theorem l0 : Array.replicate opsA.size false = liB 0 := by kernel_rfl
theorem lsz : opsA.size = 96 := by kernel_rfl
theorem lex11 : Region.lexB .any opsL.toArray = true := by
  show (Region.noSelect opsA && Region.lexFrom .any opsA opsA.size 0 (Array.replicate opsA.size false)) = true
  rw [l0, lsz, lns, lc0]
  rfl

end Go.Proofs.YtcpllfjhhlbmiaaDoor
