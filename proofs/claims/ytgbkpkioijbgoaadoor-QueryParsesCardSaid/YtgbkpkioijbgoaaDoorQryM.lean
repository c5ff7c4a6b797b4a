/- Questions: what a parser takes of words, as plain functions. No condition. -/
import Derived.Test.YtgbkpkioijbgoaaDoorLexMath
import Derived.Test.YtgbkpkioijbgoaaDoorNamesB
namespace Go.Proofs.YtgbkpkioijbgoaaDoor.qry
open lex (W)
open names (Nm mayN)
set_option linter.unusedVariables false

/-- where a parser is, and whether it is wrong there -/
structure St where
  at_ : Nat
  bad : Bool
def wd (ws : List W) (i : Nat) : W := ws.getD i ⟨0, [], 0, 0⟩
def St.adv (st : St) : St := ⟨st.at_ + 1, st.bad⟩
def isM (ws : List W) (k : Nat) (s : Nm) (st : St) : Bool := !st.bad && (decide ((wd ws st.at_).kind = k) && decide ((wd ws st.at_).s = s))
def nextM (ws : List W) (k : Nat) (s : Nm) (st : St) : St := if isM ws k s st then st.adv else st
def mustM (b : Bool) (st : St) : St := if b then st else ⟨st.at_, true⟩
/-- on behind a word, or wrong -/
def needM (ws : List W) (k : Nat) (s : Nm) (st : St) : St := mustM (isM ws k s st) (nextM ws k s st)
def resL : List Nm := [[102, 105, 110, 100], [119, 104, 101, 114, 101], [97, 110, 100], [116, 101, 108, 108], [108, 105, 109, 105, 116], [110, 111, 116, 104, 105, 110, 103]]
def resB (s : Nm) : Bool := decide (s ∈ resL)
def canB (ws : List W) (st : St) : Bool := !st.bad && (decide ((wd ws st.at_).kind = 1) && (!resB (wd ws st.at_).s && mayN (wd ws st.at_).s))
/-- a name, if one is next -/
def mayM (ws : List W) (st : St) : Nm × St := if canB ws st then ((wd ws st.at_).s, st.adv) else ([], st)
def nameM (ws : List W) (st : St) : Nm × St := ((mayM ws st).1, mustM (decide ((mayM ws st).1 ≠ [])) (mayM ws st).2)
def typedM (ws : List W) (st : St) : Nm × Nm × St :=
  let a := mayM ws st
  if isM ws 4 [58] a.2 then (a.1, (nameM ws a.2.adv).1, (nameM ws a.2.adv).2) else (a.1, [], a.2)
def numB (ws : List W) (most : Nat) (st : St) : Bool := decide ((wd ws st.at_).kind = 2) && decide ((wd ws st.at_).n ≤ most)
def numM (ws : List W) (most : Nat) (st : St) : Nat × St := if (mustM (numB ws most st) st).bad then (0, mustM (numB ws most st) st) else ((wd ws st.at_).n, st.adv)
/-- a value -/
structure V where
  k : Nat
  n : Int
  s : Nm
def top63 : Nat := 9223372036854775807
def plainL : List Nm := [[110, 111, 116, 104, 105, 110, 103], [102, 97, 108, 115, 101], [116, 114, 117, 101]]
def valM (ws : List W) (st : St) : V × St :=
  if isM ws 1 [110, 111, 116, 104, 105, 110, 103] st then (⟨0, 0, []⟩, st.adv)
  else if isM ws 1 [102, 97, 108, 115, 101] st then (⟨1, 0, []⟩, st.adv)
  else if isM ws 1 [116, 114, 117, 101] st then (⟨1, 1, []⟩, st.adv)
  else if isM ws 4 [45] st then (⟨2, -((numM ws top63 st.adv).1 : Int), []⟩, (numM ws top63 st.adv).2)
  else if decide ((wd ws st.at_).kind = 3) && !st.bad then (⟨3, 0, (wd ws st.at_).s⟩, st.adv)
  else (⟨2, ((numM ws top63 st).1 : Int), []⟩, (numM ws top63 st).2)
/-- a property -/
structure Pp where
  name : Nm
  val : V
def propM (ws : List W) (st : St) : Pp × St :=
  let a := nameM ws st
  let b := valM ws (needM ws 4 [58] a.2)
  (⟨a.1, b.1⟩, b.2)
def propsF (ws : List W) : Nat → St → List Pp → List Pp × St
  | 0, st, acc => (acc, st)
  | f + 1, st, acc => let p := propM ws st; if isM ws 4 [44] p.2 then propsF ws f p.2.adv (acc ++ [p.1]) else (acc ++ [p.1], p.2)
def propsM (ws : List W) (st : St) : List Pp × St :=
  let r := if st.bad then ([], st) else propsF ws (ws.length + 1) st []
  (r.1, needM ws 4 [125] r.2)
/-- a node -/
structure Nd where
  var : Nm
  label : Nm
  props : List Pp
def nodeM (ws : List W) (st : St) : Nd × St :=
  let t := typedM ws (needM ws 4 [40] st)
  let r := if isM ws 4 [123] t.2.2 then propsM ws t.2.2.adv else ([], t.2.2)
  (⟨t.1, t.2.1, r.1⟩, needM ws 4 [41] r.2)
/-- an edge -/
structure Ed where
  var : Nm
  typ : Nm
  out : Bool
def edgeR (ws : List W) (out : Bool) (st : St) : Ed × St :=
  let t := typedM ws (needM ws 4 [91] st)
  (⟨t.1, t.2.1, out⟩, needM ws 4 (if out then [45, 62] else [45]) (needM ws 4 [93] t.2.2))
def edgeM (ws : List W) (st : St) : Ed × Bool × St :=
  if isM ws 4 [45] st then ((edgeR ws true st.adv).1, true, (edgeR ws true st.adv).2)
  else if isM ws 4 [60, 45] st then ((edgeR ws false st.adv).1, true, (edgeR ws false st.adv).2)
  else (⟨[], [], false⟩, false, st)
def opsL : List Nm := [[60], [60, 61], [61], [33, 61], [62, 61], [62]]
def opF (ws : List W) (st : St) : List Nm → Nat → Nat × St
  | [], _ => (0, mustM false st)
  | s :: r, i => if isM ws 4 s st then (i, st.adv) else opF ws st r (i + 1)
def opM (ws : List W) (st : St) : Nat × St := opF ws st opsL 0
/-- a condition -/
structure Cd where
  var : Nm
  key : Nm
  op : Nat
  val : V
def condM (ws : List W) (st : St) : Cd × St :=
  let a := nameM ws st
  let b := nameM ws (needM ws 4 [46] a.2)
  let c := opM ws b.2
  let d := valM ws c.2
  (⟨a.1, b.1, c.1, d.1⟩, d.2)
/-- what is told -/
structure It where
  var : Nm
  key : Nm
def itemM (ws : List W) (st : St) : It × St :=
  let a := nameM ws st
  if isM ws 4 [46] a.2 then (⟨a.1, (nameM ws a.2.adv).1⟩, (nameM ws a.2.adv).2) else (⟨a.1, []⟩, a.2)
/-- a question -/
structure Qn where
  nodes : List Nd
  edges : List Ed
  conds : List Cd
  items : List It
  limit : Nat
def edgesF (ws : List W) : Nat → St → List Nd → List Ed → List Nd × List Ed × St
  | 0, st, ns, es => (ns, es, st)
  | f + 1, st, ns, es =>
    let e := edgeM ws st
    if e.2.1 && !e.2.2.bad then edgesF ws f (nodeM ws e.2.2).2 (ns ++ [(nodeM ws e.2.2).1]) (es ++ [e.1]) else (ns, es, e.2.2)
def condsF (ws : List W) : Nat → St → List Cd → List Cd × St
  | 0, st, acc => (acc, st)
  | f + 1, st, acc => let c := condM ws st; if isM ws 1 [97, 110, 100] c.2 then condsF ws f c.2.adv (acc ++ [c.1]) else (acc ++ [c.1], c.2)
def itemsF (ws : List W) : Nat → St → List It → List It × St
  | 0, st, acc => (acc, st)
  | f + 1, st, acc => let c := itemM ws st; if isM ws 4 [44] c.2 then itemsF ws f c.2.adv (acc ++ [c.1]) else (acc ++ [c.1], c.2)
def questM (ws : List W) : Qn × St :=
  let st0 : St := ⟨0, false⟩
  let n0 := nodeM ws (needM ws 1 [102, 105, 110, 100] st0)
  let es := edgesF ws (ws.length + 1) n0.2 [n0.1] []
  let cs := if isM ws 1 [119, 104, 101, 114, 101] es.2.2 then condsF ws (ws.length + 1) es.2.2.adv [] else ([], es.2.2)
  let t := needM ws 1 [116, 101, 108, 108] cs.2
  let is := if t.bad then ([], t) else itemsF ws (ws.length + 1) t []
  let lm := if isM ws 1 [108, 105, 109, 105, 116] is.2 then numM ws 256 is.2.adv else (256, is.2)
  (⟨es.1, es.2.1, cs.1, is.1, lm.1⟩, mustM (decide ((wd ws lm.2.at_).kind = 0)) lm.2)
/-- may a question be? -/
def namesQ (q : Qn) : List Nm := (q.nodes.map Nd.var ++ q.edges.map Ed.var).filter (fun s => decide (s ≠ []))
def fewQ (q : Qn) : Bool := decide (q.nodes.length = q.edges.length + 1) && (decide (q.edges.length ≤ 6) && (decide (q.conds.length ≤ 8) && (decide (1 ≤ q.items.length) && (decide (q.items.length ≤ 8) && decide (q.limit ≤ 256)))))
def mayQ (q : Qn) : Bool := decide (namesQ q).Nodup && (fewQ q && (q.conds.all (fun c => decide (c.var ∈ namesQ q)) && q.items.all (fun c => decide (c.var ∈ namesQ q))))
/-- the question of words; where it is wrong -/
def parseM (ws : List W) (len : Nat) : Qn ⊕ Nat := if (questM ws).2.bad then .inr (wd ws (questM ws).2.at_).pos else if mayQ (questM ws).1 then .inl (questM ws).1 else .inr len
end Go.Proofs.YtgbkpkioijbgoaaDoor.qry
