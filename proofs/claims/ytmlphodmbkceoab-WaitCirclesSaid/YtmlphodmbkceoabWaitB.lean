/- The law WaitBreaks: when the victim waits no more, its circle is broken. No condition but the slices' cells, and how great they may be. -/
import Derived.Test.YtmlphodmbkceoabWait9
namespace Go.Proofs.Ytmlphodmbkceoab.wait
open Go.RowKit
open Go.Sort
attribute [local go_sem ↓] Go.wp_at_zero Go.wp_at_succ
set_option linter.unusedVariables false
set_option maxRecDepth 100000

/-- one act of a law's list -/
theorem act_at {w : World} {a : Option Addr} {len : Nat} (h : SliceArg w a len 2 (fun j v => match j with | 0 => ∃ x, v = .int .i64 x ∧ (Lit.int .i64 x).wf = true | 1 => ∃ sa sl sc, v = .slice sa sl sc ∧ SliceArg w sa sl 1 (fun _ v => ∃ x, v = .int .i64 x ∧ (Lit.int .i64 x).wf = true) ∧ sl * Try.prog.bytesOf 3 ≤ reachBytes | _ => False)) {i : Nat} (hi : i < len) :
    ∃ b o who sa sl sc zs, a = some ⟨b, o, none⟩ ∧ b < w.heap.size ∧ w.cell? ⟨b, o + i * 2, none⟩ = some (.int .i64 who) ∧ w.cell? ⟨b, o + i * 2 + 1, none⟩ = some (.slice sa sl sc) ∧ List.length (α := Int) zs = sl ∧ Sl w (.slice sa sl sc) sl (zs.map (Value.int .i64)) ∧ sl * 8 ≤ 140737488355328 := by
  obtain ⟨_, h2⟩ := h
  obtain ⟨b, o, rfl, hb, hc⟩ := h2.resolve_left (by omega)
  obtain ⟨v0, c0, x0, rfl, _⟩ := hc i hi 0 (by omega)
  obtain ⟨v1, c1, sa, sl, sc, rfl, hs, hl⟩ := hc i hi 1 (by omega)
  have h8 : Try.prog.bytesOf 3 = 8 := by kernel_rfl
  rw [h8] at hl
  have hr := reach_lt
  obtain ⟨zs, hz, hsl⟩ := ints_of (cap := sc) hs (by omega)
  exact ⟨b, o, x0, sa, sl, sc, zs, rfl, hb, by simpa using c0, c1, hz, hsl, by omega⟩
end Go.Proofs.Ytmlphodmbkceoab.wait
