/- Plate: the examples' plates, as the statements make them; what is told of them. -/
import Derived.Test.YtdkegkacpdkjgaaGreatPpp
namespace Go.Proofs.YtdkegkacpdkjgaaGreat
open Go.RowKit

def exS : List St := [⟨1000, 1002, 2000, 2001, true, 5600, 5602, 7200, 7203⟩, ⟨3000, 3001, 500, 502, true, 6800, 6801, 6300, 6302⟩, ⟨2000, 2001, 1500, 1500, false, 0, 0, 0, 0⟩]
def exQ : List St := [⟨1000, 1002, 2000, 2001, true, 5600, 5602, 7200, 7203⟩, ⟨3000, 3001, 500, 502, true, 6800, 6801, 6300, 6302⟩, ⟨2000, 2001, 1500, 1500, true, 6210, 6211, 6880, 6910⟩]
def exP (S : Nat) : Pl := ⟨590, 610, some ⟨S, 0, none⟩, 3, 3⟩
theorem exScale (S : Nat) : repS (scaleR (exP S) exS) = .tuple #[.agg #[.int .i64 599, .int .i64 601], .int .i64 0] := by kernel_rfl
theorem exZero (S : Nat) : repB (zeroR (exP S) exS) = .tuple #[.agg #[.int .i64 4998, .int .i64 5003], .agg #[.int .i64 5999, .int .i64 6003], .int .i64 0] := by kernel_rfl
theorem exStar (S : Nat) : repB (starR (exP S) exS 2) = .tuple #[.agg #[.int .i64 6200, .int .i64 6201], .agg #[.int .i64 6900, .int .i64 6902], .int .i64 0] := by kernel_rfl
theorem exStar0 (S : Nat) : repB (starR (exP S) exS 0) = .tuple #[.agg #[.int .i64 5600, .int .i64 5602], .agg #[.int .i64 7200, .int .i64 7203], .int .i64 0] := by kernel_rfl
theorem exApart (S : Nat) : repB (apartR (exP S) exS 0 2) = .tuple #[.agg #[.int .i64 599, .int .i64 600], .agg #[.int .i64 (-301), .int .i64 (-300)], .int .i64 0] := by kernel_rfl
theorem exFind (S : Nat) : repB (findR (exP S) exS 6200 6900) = .tuple #[.agg #[.int .i64 1999, .int .i64 2001], .agg #[.int .i64 1496, .int .i64 1501], .int .i64 0] := by kernel_rfl
theorem exClash (S : Nat) : repI (clashR (exP S) exQ) = .tuple #[.int .i64 7, .int .i64 0] := by kernel_rfl
theorem exDrop (S : Nat) : repI (dropR (exP S) exQ) = .tuple #[.int .i64 1, .int .i64 0] := by kernel_rfl
theorem exPoor (S : Nat) : repW (poorR (exP S) exS) = .tuple #[.int .i64 0, .int .i64 5, .int .i64 0] := by kernel_rfl
theorem exClash0 (S : Nat) : repI (clashR (exP S) exS) = .tuple #[.int .i64 0, .int .i64 0] := by kernel_rfl
theorem exDrop0 (S : Nat) : repI (dropR (exP S) exS) = .tuple #[.int .i64 0, .int .i64 0] := by kernel_rfl
theorem exScaleQ (S : Nat) : repS (scaleR (exP S) exQ) = .tuple #[.agg #[.int .i64 0, .int .i64 0], .int .i64 10] := by kernel_rfl
end Go.Proofs.YtdkegkacpdkjgaaGreat
