/- How a store stands, as a text (package show: Stat). The table of powers of ten is a premise. No other condition. -/
import Derived.Test.YtgbkpkioijbgoaaDoorShow2
import Derived.Laws.OwnMore
import Derived.Deep.RegionHeld3
namespace Go.Proofs.YtgbkpkioijbgoaaDoor.show
open Go.RowKit
attribute [local go_sem ↓] Go.wp_at_zero Go.wp_at_succ
attribute [local go_sem] str_size
set_option linter.unusedVariables false
set_option maxRecDepth 100000

def SRow (w : World) (base : Nat) (v : Value) (xs : List ByteArray) : Prop := w.ownsRow base 9 1 v xs.length (xs.map Value.string)
theorem strInfo : (Tryd.prog.info? 9).map (fun i => (i.zero, i.size, i.bytes)) = some (some (.string ⟨#[]⟩), 1, 16) := by kernel_rfl
theorem wpList_append_str {w : World} {ops : Array Oper} {rest : List Oper} {o : Oper} {a : Act} {Q : Exit → Act → World → Prop} (hgd : o.guard = none) (s x : Operand)
    (ho : o.op = .call { callee := .builtin .append, args := #[s, x], argTypes := #[45, 45] })
    (base : Nat) (v : Value) (l : List ByteArray) (hs : a.eval s = v) (hown : SRow w base v l) (g c : Nat) (y : ByteArray) (hx : a.eval x = .slice (some ⟨g, 0, none⟩) 1 c) (hc : w.cell? ⟨g, 0, none⟩ = some (.string y))
    (hl : l.length < 1000000) (hbase : base ≤ w.heap.size)
    (h : ∀ v' w', SRow w' base v' (l ++ [y]) → w.grownBy w' v.ownBlock → wpList Tryd.prog ops Q rest (a.put o.dst v') w') : wpList Tryd.prog ops Q (o :: rest) a w := by
  obtain ⟨i, hi, hz, hsz, hby⟩ := info_parts strInfo
  refine wpList_append_own w hgd s x 45 ho base 9 i (.string ⟨#[]⟩) 1 16 Tryd.underlying45 hi hz hsz hby rfl (by decide) v l.length (l.map Value.string) hs hown ⟨g, 0, none⟩ 1 c [.string y] hx rfl ?_ ?_ ?_ ?_ hbase ?_
  · intro j u hj
    match j, hj with
    | 0, hj => simp at hj; subst hj; simpa [Addr.add] using hc
  · intro u hu; simp at hu; subst hu; rfl
  · unfold maxLen; omega
  · omega
  · intro v' w' h1 h2 _
    refine h v' w' ?_ h2
    unfold SRow
    rw [List.map_append, List.length_append]
    exact h1
theorem SRow.open {w : World} {base : Nat} {v : Value} {xs : List ByteArray} (h : SRow w base v xs) (hne : xs ≠ []) : ∃ b cap, v = .slice (some ⟨b, 0, none⟩) xs.length cap ∧ b < w.heap.size ∧ xs.length ≤ cap ∧ ∀ (j : Nat) x, xs[j]? = some x → w.cell? ⟨b, 0 + j, none⟩ = some (.string x) := by
  rcases h.2 with ⟨rfl, h0⟩ | ⟨g, cap, cur, rfl, hb, hg, h1, h2, h3, h4⟩
  · exact absurd (List.eq_nil_of_length_eq_zero h0) hne
  · have hc := World.ownsRow.cells h (g := g) rfl
    have hl := World.ownsRow.lt h g rfl
    refine ⟨g, cap, rfl, hl.2, h1, fun j x hj => ?_⟩
    have := hc j (.string x) (by simp [hj])
    rwa [show (⟨g, 0, none⟩ : Addr).add j = ⟨g, 0 + j, none⟩ from by unfold Addr.add; split <;> simp_all] at this
/-- words, a blank between each two -/
def joined (xs : List ByteArray) : ByteArray := ⟨(Lib.join (xs.map (·.data.toList)) [32]).toArray⟩
theorem join_row (xs : List ByteArray) (hne : xs ≠ []) (hlen : (joined xs).size ≤ 100000) (hn : xs.length ≤ 100) (w : World) (base : Nat) (v : Value) (h : SRow w base v xs) : Calls Tryd.prog 46 #[v, .string ⟨#[32]⟩] w fun e w' => e = .returned (.string (joined xs)) ∧ Below w.heap.size w w' := by
  obtain ⟨b, cap, rfl, hb, hcap, hc⟩ := h.open hne
  have hl2 : (Lib.join (xs.map (·.data.toList)) (⟨#[32]⟩ : ByteArray).data.toList).length ≤ 140737488355328 := by
    have : (joined xs).size = (Lib.join (xs.map (·.data.toList)) [32]).length := by simp [joined, ByteArray.size]
    have e : (⟨#[32]⟩ : ByteArray).data.toList = [32] := rfl
    rw [e]; omega
  have := Go.Proofs.Tryd.strings_Join b 0 cap xs ⟨#[32]⟩ w hc hb (by omega) hcap hl2
  exact this
end Go.Proofs.YtgbkpkioijbgoaaDoor.show
