/- The texts of QueryMost. No condition. -/
import Derived.Test.YtgbkpkioijbgoaaDoorQry9
namespace Go.Proofs.YtgbkpkioijbgoaaDoor.qry
set_option linter.unusedVariables false
set_option maxRecDepth 100000
def edgeT : List UInt8 := [45, 91, 93, 45, 62, 40, 41]
def repT (t : List UInt8) : Nat → List UInt8
  | 0 => []
  | n + 1 => repT t n ++ t
def condsT : Nat → List UInt8
  | 0 => []
  | n + 1 => condsT n ++ ((if n = 0 then [32, 119, 104, 101, 114, 101] else [32, 97, 110, 100]) ++ [32, 97, 46, 107, 32, 61, 32, 49])
def mostT (a b c : Nat) : List UInt8 := ((([102, 105, 110, 100, 32, 40, 97, 41] ++ repT edgeT a) ++ condsT b) ++ [32, 116, 101, 108, 108, 32, 97]) ++ repT [44, 97, 46, 107] c
def lim256T : List UInt8 := [32, 108, 105, 109, 105, 116, 32, 50, 53, 54]
def lim257T : List UInt8 := [32, 108, 105, 109, 105, 116, 32, 50, 53, 55]
def errL (r : Qn ⊕ (Nat × Nat)) : Nat := match r with
  | .inl _ => 0
  | .inr (_, n) => n
def isB (a b c : Nat) : Bool := decide (a ≤ 6) && (decide (b ≤ 8) && decide (c + 1 ≤ 8))
def mostB (a b c : Nat) : Bool := decide (errL (parseL (mostT a b c)) = if isB a b c then 0 else 330) && (decide (errL (parseL (mostT a b c ++ lim256T)) = if isB a b c then 0 else 330) && decide (errL (parseL (mostT a b c ++ lim257T)) = 330))
end Go.Proofs.YtgbkpkioijbgoaaDoor.qry
