/- The reference's Load of a chain's own rows, by a contract. -/
import Derived.Test.YthfmpebgmojcaaaDoorZLd1
namespace Go.Proofs.YthfmpebgmojcaaaDoor
open Go.RowKit
set_option linter.unusedVariables false
set_option maxRecDepth 20000
def buildR14 (ps : Array (Nat × Value)) : Sem Value := Instr.build 93 ps
theorem buildR14_fold (ps : Array (Nat × Value)) : Instr.build 93 ps = buildR14 ps := rfl
attribute [local go_sem ↓] loadH_fold storeH_fold buildR14_fold
theorem built_r6 (p q s : Int) (x y z : List UInt8) (hx : x.length = 32) (hy : y.length = 32) (hz : z.length = 32) : Tryd.prog.built 93 [(0, .int .i64 p), (1, .int .i64 q), (2, .int .i64 s), (3, .agg (bvs x)), (4, .agg (bvs y)), (5, .agg (bvs z))] = some (([Value.int .i64 p, Value.int .i64 q, Value.int .i64 s] : List Value) ++ (cellsOf x ++ (cellsOf y ++ (cellsOf z ++ [Value.slice none 0 0])))).toArray := by
  obtain ⟨x0, x1, x2, x3, x4, x5, x6, x7, x8, x9, x10, x11, x12, x13, x14, x15, x16, x17, x18, x19, x20, x21, x22, x23, x24, x25, x26, x27, x28, x29, x30, x31, rfl⟩ := len32 x hx
  obtain ⟨y0, y1, y2, y3, y4, y5, y6, y7, y8, y9, y10, y11, y12, y13, y14, y15, y16, y17, y18, y19, y20, y21, y22, y23, y24, y25, y26, y27, y28, y29, y30, y31, rfl⟩ := len32 y hy
  obtain ⟨z0, z1, z2, z3, z4, z5, z6, z7, z8, z9, z10, z11, z12, z13, z14, z15, z16, z17, z18, z19, z20, z21, z22, z23, z24, z25, z26, z27, z28, z29, z30, z31, rfl⟩ := len32 z hz
  kernel_rfl
end Go.Proofs.YthfmpebgmojcaaaDoor
