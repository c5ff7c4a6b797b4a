/- Questions as the document's parser (lodestoneref33) takes them, as plain functions. No condition. -/
import Derived.Test.YtgbkpkioijbgoaaDoorQryM
namespace Go.Proofs.YtgbkpkioijbgoaaDoor.qry
open lex (W)
open names (Nm mayN)
set_option linter.unusedVariables false
/-- where the document's parser is, and where it is wrong (-1: nowhere) -/
structure Rp where
  at_ : Nat
  bad : Int
def rnow (ws : List W) (p : Rp) : W := if p.at_ < ws.length then wd ws p.at_ else wd ws (ws.length - 1)
def rnext (ws : List W) (p : Rp) : Rp := if p.at_ + 1 < ws.length then ⟨p.at_ + 1, p.bad⟩ else p
def rwrong (p : Rp) (i : Int) : Rp := if p.bad < 0 then ⟨p.at_, i⟩ else p
def ris (ws : List W) (k : Nat) (s : Nm) (p : Rp) : Bool := decide (p.bad < 0) && (decide ((rnow ws p).kind = k) && decide ((rnow ws p).s = s))
def rmust (ws : List W) (k : Nat) (s : Nm) (p : Rp) : Rp := if ris ws k s p then rnext ws p else rwrong p ((rnow ws p).pos : Int)
def rcan (ws : List W) (p : Rp) : Bool := decide ((rnow ws p).kind = 1) && (!resB (rnow ws p).s && mayN (rnow ws p).s)
def rname (ws : List W) (must : Bool) (p : Rp) : Rp × Nm := if rcan ws p then (rnext ws p, (rnow ws p).s) else if must then (rwrong p ((rnow ws p).pos : Int), []) else (p, [])
def rval (ws : List W) (p : Rp) : Rp × V :=
  let m := ris ws 4 [45] p
  let p1 := if m then rnext ws p else p
  let w := rnow ws p1
  let q := rnext ws p1
  if w.kind = 2 ∧ m = true then (q, ⟨2, -(w.n : Int), []⟩)
  else if w.kind = 2 then (q, ⟨2, (w.n : Int), []⟩)
  else if m = true then (rwrong q (w.pos : Int), ⟨0, 0, []⟩)
  else if w.kind = 3 then (q, ⟨3, 0, w.s⟩)
  else if w.kind = 1 ∧ w.s = [116, 114, 117, 101] then (q, ⟨1, 1, []⟩)
  else if w.kind = 1 ∧ w.s = [102, 97, 108, 115, 101] then (q, ⟨1, 0, []⟩)
  else if w.kind = 1 ∧ w.s = [110, 111, 116, 104, 105, 110, 103] then (q, ⟨0, 0, []⟩)
  else (rwrong q (w.pos : Int), ⟨0, 0, []⟩)
end Go.Proofs.YtgbkpkioijbgoaaDoor.qry
