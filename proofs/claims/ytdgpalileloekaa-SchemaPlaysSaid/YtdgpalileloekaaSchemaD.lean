/- What Get makes of bytes, as a plain function. No condition. -/
import Derived.Test.YtdgpalileloekaaSchema6
import Derived.Test.YtdgpalileloekaaReadE
namespace Go.Proofs.Ytdgpalileloekaa.schema
open Go.RowKit
open code (numE rdC endE failE)
attribute [local go_sem ↓] Go.wp_at_zero Go.wp_at_succ
attribute [local go_sem] str_size str_bl
set_option linter.unusedVariables false
set_option maxRecDepth 100000

def ixE (l : List UInt8) (e : Int) : Ix × List UInt8 × Int :=
  let a := numE 64 l e; let b := numE 64 a.2.1 a.2.2; let c := numE 2 b.2.1 b.2.2
  (⟨a.1, b.1, c.1⟩, c.2.1, c.2.2)
def badB (acc : List Ix) (x : Ix) : Bool := !mayB x || (match acc.getLast? with | none => false | some y => decide (0 ≤ ordI y x))
def getLoop : Nat → List Ix → List UInt8 → List Ix × List UInt8 × Int
  | 0, acc, l => (acc, l, 0)
  | n + 1, acc, l =>
    let x := ixE l 0
    if x.2.2 ≠ 0 then (acc, x.2.1, x.2.2) else if badB acc x.1 then (acc, [], 3) else getLoop n (acc ++ [x.1]) x.2.1
def getL (s : List UInt8) : List Ix × Int :=
  let m := numE 32 s 0
  let r := if m.2.2 ≠ 0 then ([], m.2.1, m.2.2) else getLoop m.1 [] m.2.1
  if endE r.2.1 r.2.2 ≠ 0 then ([], endE r.2.1 r.2.2) else (r.1, 0)
def GetRet (w : World) (r : List Ix × Int) (e : Ending) (w' : World) : Prop := ∃ v, e = .returned (.tuple #[v, .int .i64 r.2]) ∧ RowRet w r.1 v w'
end Go.Proofs.Ytdgpalileloekaa.schema
