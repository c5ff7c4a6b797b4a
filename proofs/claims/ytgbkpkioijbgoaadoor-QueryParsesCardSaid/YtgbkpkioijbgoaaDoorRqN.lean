/- Questions as the document's parser (lodestoneref33) takes them, as plain functions: nodes, edges, conditions, what is told, a whole question. No condition. -/
import Derived.Test.YtgbkpkioijbgoaaDoorRq5
namespace Go.Proofs.YtgbkpkioijbgoaaDoor.qry
open lex (W)
open names (Nm mayN)
set_option linter.unusedVariables false
def rprop (ws : List W) (p : Rp) : Rp × Pp :=
  let a := rname ws true (rnext ws p)
  let b := rval ws (rmust ws 4 [58] a.1)
  (b.1, ⟨a.2, b.2⟩)
def rpropsF (ws : List W) : Nat → Rp → List Pp → Rp × List Pp
  | 0, p, acc => (p, acc)
  | f + 1, p, acc => if ris ws 4 [44] (rprop ws p).1 then rpropsF ws f (rprop ws p).1 (acc ++ [(rprop ws p).2]) else ((rprop ws p).1, acc ++ [(rprop ws p).2])
def rprops (ws : List W) (p : Rp) : Rp × List Pp := if ris ws 4 [123] p then (rmust ws 4 [125] (rpropsF ws (ws.length + 1) p []).1, (rpropsF ws (ws.length + 1) p []).2) else (p, [])
def rlab (ws : List W) (p : Rp) : Rp × Nm := if ris ws 4 [58] p then rname ws true (rnext ws p) else (p, [])
def rnode (ws : List W) (p : Rp) : Rp × Nd :=
  let a := rname ws false (rmust ws 4 [40] p)
  let b := rlab ws a.1
  let c := rprops ws b.1
  (rmust ws 4 [41] c.1, ⟨a.2, b.2, c.2⟩)
def redge (ws : List W) (p : Rp) : Rp × Ed :=
  let o := !ris ws 4 [60, 45] p
  let a := rname ws false (rmust ws 4 [91] (rmust ws 4 (if o then [45] else [60, 45]) p))
  let b := rlab ws a.1
  (rmust ws 4 (if o then [45, 62] else [45]) (rmust ws 4 [93] b.1), ⟨a.2, b.2, o⟩)
def ropF (w : W) : List Nm → Nat → Option Nat
  | [], _ => none
  | s :: r, i => if w.kind = 4 ∧ w.s = s then some i else ropF w r (i + 1)
def rcond (ws : List W) (p : Rp) : Rp × Cd :=
  let a := rname ws true p
  let b := rname ws true (rmust ws 4 [46] a.1)
  match ropF (rnow ws b.1) opsL 0 with
  | some i => ((rval ws (rnext ws b.1)).1, ⟨a.2, b.2, i, (rval ws (rnext ws b.1)).2⟩)
  | none => (rwrong b.1 ((rnow ws b.1).pos : Int), ⟨a.2, b.2, 0, ⟨0, 0, []⟩⟩)
def ritem (ws : List W) (p : Rp) : Rp × It :=
  let a := rname ws true (rnext ws p)
  let b := if ris ws 4 [46] a.1 then rname ws true (rnext ws a.1) else (a.1, [])
  (b.1, ⟨a.2, b.2⟩)
def redgesF (ws : List W) : Nat → Rp → List Nd → List Ed → Rp × List Nd × List Ed
  | 0, p, ns, es => (p, ns, es)
  | f + 1, p, ns, es => if ris ws 4 [45] p || ris ws 4 [60, 45] p then redgesF ws f (rnode ws (redge ws p).1).1 (ns ++ [(rnode ws (redge ws p).1).2]) (es ++ [(redge ws p).2]) else (p, ns, es)
def rcondsF (ws : List W) : Nat → Rp → List Cd → Rp × List Cd
  | 0, p, acc => (p, acc)
  | f + 1, p, acc => if ris ws 1 [97, 110, 100] (rcond ws (rnext ws p)).1 then rcondsF ws f (rcond ws (rnext ws p)).1 (acc ++ [(rcond ws (rnext ws p)).2]) else ((rcond ws (rnext ws p)).1, acc ++ [(rcond ws (rnext ws p)).2])
def ritemsF (ws : List W) : Nat → Rp → List It → Rp × List It
  | 0, p, acc => (p, acc)
  | f + 1, p, acc => if ris ws 4 [44] (ritem ws p).1 then ritemsF ws f (ritem ws p).1 (acc ++ [(ritem ws p).2]) else ((ritem ws p).1, acc ++ [(ritem ws p).2])
def rhere (ws : List W) (p : Rp) : Rp := rwrong p ((rnow ws p).pos : Int)
def rlimW (ws : List W) (p : Rp) : Rp := if (rnow ws p).kind ≠ 2 ∨ 256 < (rnow ws p).n then rhere ws p else p
def rlim (ws : List W) (p : Rp) : Rp × Nat := if ris ws 1 [108, 105, 109, 105, 116] p then (rnext ws (rlimW ws (rnext ws p)), (rnow ws (rlimW ws (rnext ws p))).n) else (p, 256)
def rconds (ws : List W) (p : Rp) : Rp × List Cd := if ris ws 1 [119, 104, 101, 114, 101] p then rcondsF ws (ws.length + 1) p [] else (p, [])
def rtell (ws : List W) (p : Rp) : Rp := if ris ws 1 [116, 101, 108, 108] p then p else rhere ws p
def ritems (ws : List W) (p : Rp) : Rp × List It := if p.bad < 0 then ritemsF ws (ws.length + 1) p [] else (p, [])
def rend (ws : List W) (p : Rp) : Rp := if (rnow ws p).kind = 0 then p else rhere ws p
def rquest (ws : List W) : Rp × Qn :=
  let n0 := rnode ws (rmust ws 1 [102, 105, 110, 100] ⟨0, -1⟩)
  let es := redgesF ws (ws.length + 1) n0.1 [n0.2] []
  let cs := rconds ws es.1
  let is := ritems ws (rtell ws cs.1)
  let lm := rlim ws is.1
  (rend ws lm.1, ⟨es.2.1, es.2.2, cs.2, is.2, lm.2⟩)
theorem rnext_le (ws : List W) (p : Rp) : p.at_ ≤ (rnext ws p).at_ := by unfold rnext; split <;> simp
theorem rmust_le (ws : List W) (k : Nat) (s : Nm) (p : Rp) : p.at_ ≤ (rmust ws k s p).at_ := by
  unfold rmust; split
  · exact rnext_le ws p
  · rw [rwrong_at]; exact Nat.le_refl _
theorem rname_le (ws : List W) (m : Bool) (p : Rp) : p.at_ ≤ (rname ws m p).1.at_ := by
  unfold rname; split
  · exact rnext_le ws p
  · split
    · show _ ≤ (rwrong p _).at_; rw [rwrong_at]; exact Nat.le_refl _
    · exact Nat.le_refl _
theorem rval_le (ws : List W) (p : Rp) : p.at_ ≤ (rval ws p).1.at_ := by
  have h1 : p.at_ ≤ (if ris ws 4 [45] p then rnext ws p else p).at_ := by split; exact rnext_le ws p; exact Nat.le_refl _
  unfold rval
  simp only
  generalize (if ris ws 4 [45] p then rnext ws p else p) = p1 at h1 ⊢
  have h2 := Nat.le_trans h1 (rnext_le ws p1)
  repeat' split
  all_goals first | exact h2 | (rw [rwrong_at]; exact h2)
theorem rlab_le (ws : List W) (p : Rp) : p.at_ ≤ (rlab ws p).1.at_ := by
  unfold rlab; split
  · exact Nat.le_trans (rnext_le ws p) (rname_le ws _ _)
  · exact Nat.le_refl _
theorem rprop_le (ws : List W) (p : Rp) : (rnext ws p).at_ ≤ (rprop ws p).1.at_ := Nat.le_trans (rname_le ws true _) (Nat.le_trans (rmust_le ws 4 [58] _) (rval_le ws _))
theorem rpropsF_le (ws : List W) : ∀ (f : Nat) (p : Rp) (acc : List Pp), p.at_ ≤ (rpropsF ws f p acc).1.at_
  | 0, p, acc => Nat.le_refl _
  | f + 1, p, acc => by
    rw [rpropsF]
    split
    · exact Nat.le_trans (Nat.le_trans (rnext_le ws p) (rprop_le ws p)) (rpropsF_le ws f _ _)
    · exact Nat.le_trans (rnext_le ws p) (rprop_le ws p)
theorem rprops_le (ws : List W) (p : Rp) : p.at_ ≤ (rprops ws p).1.at_ := by
  unfold rprops; split
  · exact Nat.le_trans (rpropsF_le ws _ p []) (rmust_le ws 4 [125] _)
  · exact Nat.le_refl _
theorem rnode_le (ws : List W) (p : Rp) : p.at_ ≤ (rnode ws p).1.at_ := Nat.le_trans (rmust_le ws 4 [40] p) (Nat.le_trans (rname_le ws false _) (Nat.le_trans (rlab_le ws _) (Nat.le_trans (rprops_le ws _) (rmust_le ws 4 [41] _))))
theorem redge_le (ws : List W) (p : Rp) : (rmust ws 4 (if !ris ws 4 [60, 45] p then [45] else [60, 45]) p).at_ ≤ (redge ws p).1.at_ := Nat.le_trans (rmust_le ws 4 [91] _) (Nat.le_trans (rname_le ws false _) (Nat.le_trans (rlab_le ws _) (Nat.le_trans (rmust_le ws 4 [93] _) (rmust_le ws 4 _ _))))
theorem rcond_le (ws : List W) (p : Rp) : p.at_ ≤ (rcond ws p).1.at_ := by
  have h := Nat.le_trans (rname_le ws true p) (Nat.le_trans (rmust_le ws 4 [46] _) (rname_le ws true _))
  unfold rcond
  simp only
  split
  · exact Nat.le_trans h (Nat.le_trans (rnext_le ws _) (rval_le ws _))
  · show _ ≤ (rwrong _ _).at_; rw [rwrong_at]; exact h
theorem ritem_le (ws : List W) (p : Rp) : (rnext ws p).at_ ≤ (ritem ws p).1.at_ := by
  have h := rname_le ws true (rnext ws p)
  unfold ritem
  simp only
  split
  · exact Nat.le_trans h (Nat.le_trans (rnext_le ws _) (rname_le ws true _))
  · exact h
/-- a word that is there is not the last one -/
theorem ris_next {ws : List W} (h : Wf ws) {p : Rp} (hl : p.at_ < ws.length) {k : Nat} {s : Nm} (hk : k ≠ 0) (hi : ris ws k s p = true) : (rnext ws p).at_ = p.at_ + 1 ∧ p.at_ + 1 < ws.length ∧ p.bad < 0 := by
  unfold ris at hi
  simp only [Bool.and_eq_true, decide_eq_true_eq] at hi
  obtain ⟨h1, h2, h3⟩ := hi
  rw [rnow_eq hl] at h2
  have hn : p.at_ + 1 < ws.length := by
    rcases Nat.lt_or_ge (p.at_ + 1) ws.length with h4 | h4
    · exact h4
    · exfalso
      have hat : ws[p.at_]? = some (wd ws p.at_) := by unfold wd; rw [List.getD_eq_getElem?_getD, List.getElem?_eq_getElem hl]; rfl
      have := h.last _ _ hat (by omega)
      omega
  refine ⟨?_, hn, h1⟩
  unfold rnext
  rw [if_pos hn]
theorem rlab_lt {ws : List W} {p : Rp} (h : p.at_ < ws.length) : (rlab ws p).1.at_ < ws.length := by
  unfold rlab; split
  · exact rname_lt (rnext_lt h)
  · exact h
theorem rprop_lt {ws : List W} {p : Rp} (h : p.at_ < ws.length) : (rprop ws p).1.at_ < ws.length := rval_lt (rmust_lt (rname_lt (rnext_lt h)))
theorem rpropsF_lt {ws : List W} : ∀ (f : Nat) (p : Rp) (acc : List Pp), p.at_ < ws.length → (rpropsF ws f p acc).1.at_ < ws.length
  | 0, p, acc, h => h
  | f + 1, p, acc, h => by
    rw [rpropsF]
    split
    · exact rpropsF_lt f _ _ (rprop_lt h)
    · exact rprop_lt h
theorem rprops_lt {ws : List W} {p : Rp} (h : p.at_ < ws.length) : (rprops ws p).1.at_ < ws.length := by
  unfold rprops; split
  · exact rmust_lt (rpropsF_lt _ p [] h)
  · exact h
theorem rnode_lt {ws : List W} {p : Rp} (h : p.at_ < ws.length) : (rnode ws p).1.at_ < ws.length := rmust_lt (rprops_lt (rlab_lt (rname_lt (rmust_lt h))))
theorem redge_lt {ws : List W} {p : Rp} (h : p.at_ < ws.length) : (redge ws p).1.at_ < ws.length := rmust_lt (rmust_lt (rlab_lt (rname_lt (rmust_lt (rmust_lt h)))))
theorem rcond_lt {ws : List W} {p : Rp} (h : p.at_ < ws.length) : (rcond ws p).1.at_ < ws.length := by
  have h := rname_lt (m := true) (rmust_lt (k := 4) (s := [46]) (rname_lt (m := true) h))
  unfold rcond
  simp only
  split
  · exact rval_lt (rnext_lt h)
  · show (rwrong _ _).at_ < _; rw [rwrong_at]; exact h
theorem ritem_lt {ws : List W} {p : Rp} (h : p.at_ < ws.length) : (ritem ws p).1.at_ < ws.length := by
  have h := rname_lt (m := true) (rnext_lt h)
  unfold ritem
  simp only
  split
  · exact rname_lt (rnext_lt h)
  · exact h
theorem rhere_at (ws : List W) (p : Rp) : (rhere ws p).at_ = p.at_ := rwrong_at p _
end Go.Proofs.YtgbkpkioijbgoaaDoor.qry
