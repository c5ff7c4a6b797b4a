/- An anchor as a law's argument, laid open: nine cells, one field a struct itself; its texts' sizes. -/
import Derived.Test.YtdhboldmffiklabAnchor
import Derived.SizedLaws
import Derived.WalkKit
import Derived.ProofKit
import Derived.OpenShut
import Derived.ShutString
import Derived.ChangeOld
import Derived.Below
import Derived.Lib.SmallJoins
import Derived.Deep.Slices
namespace Go.Proofs.Ytdhboldmffiklab.anchor
open Go.ChangeShapes Go.WideShapes Go.ChangeAt Go.RowKit Go.Joins
open Go.ChangeMaps (open_string shut_string)
set_option linter.unusedVariables false
set_option maxRecDepth 100000

theorem array9 {α : Type} {cs : Array α} (h : cs.size = 9) : ∃ c0 c1 c2 c3 c4 c5 c6 c7 c8, cs = #[c0, c1, c2, c3, c4, c5, c6, c7, c8] := by
  obtain ⟨l⟩ := cs
  match l, h with
  | [c0, c1, c2, c3, c4, c5, c6, c7, c8], _ => exact ⟨c0, c1, c2, c3, c4, c5, c6, c7, c8, rfl⟩
theorem open_an {H : Type} {enc : TypeId × Value → H} {W : World} {base : Nat} {spare : Nat → Bool} {held : Bool} {r : Reach} {b0 : Nat} {v : Value} {d : DataW H} {p : List MemPlace} (hv : Value.okWide Try.prog W r b0 27 v) (h : DataW.Trod enc Try.prog W base spare held 27 v d p) :
    ∃ (a0 a1 : Int) (a2 : Bool) (a3 : ByteArray) (a4 : Int) (a5 : ByteArray) (a6 a7 : Int) (a8 : ByteArray), v = .agg #[.int .u64 a0, .int .u32 a1, .bool a2, .string a3, .int .i64 a4, .string a5, .int .i64 a6, .int .i64 a7, .string a8] ∧ d = .agg [.lit (.int .u64 a0), .lit (.int .u32 a1), .lit (.bool a2), .lit (.string a3.data.toList), .agg [.lit (.int .i64 a4), .lit (.string a5.data.toList)], .lit (.int .i64 a6), .lit (.int .i64 a7), .lit (.string a8.data.toList)] ∧ (Lit.int .u64 a0).wf = true ∧ (Lit.int .u32 a1).wf = true ∧ (Lit.int .i64 a4).wf = true ∧ (Lit.int .i64 a6).wf = true ∧ (Lit.int .i64 a7).wf = true := by
  have q1 : Try.prog.cellsOf 22 = 1 := by kernel_rfl
  have q2 : Try.prog.cellsOf 23 = 1 := by kernel_rfl
  have q3 : Try.prog.cellsOf 4 = 1 := by kernel_rfl
  have q4 : Try.prog.cellsOf 9 = 1 := by kernel_rfl
  have q5 : Try.prog.cellsOf 3 = 1 := by kernel_rfl
  have q6 : Try.prog.cellsOf 25 = 2 := by kernel_rfl
  have q7 : Try.prog.cellsOf 27 = 9 := by kernel_rfl
  obtain ⟨cs, rfl, hsz⟩ := okWide_struct Try.underlying27 hv
  obtain ⟨c0, c1, c2, c3, c4, c5, c6, c7, c8, rfl⟩ := array9 (hsz.trans q7)
  obtain ⟨fuel, hf⟩ := h
  obtain ⟨xs, n, _, hx, hl, hlen, hfs⟩ := DataW.trod_struct Try.underlying27 hf
  match xs, hlen with
  | [y0, y1, y2, y3, y4, y5, y6, y7], _ =>
    have h0 := hfs 0 _ rfl
    have h1 := hfs 1 _ rfl
    have h2 := hfs 2 _ rfl
    have h3 := hfs 3 _ rfl
    have h4 := hfs 4 _ rfl
    have h5 := hfs 5 _ rfl
    have h6 := hfs 6 _ rfl
    have h7 := hfs 7 _ rfl
    simp [Value.cells, q1, q2, q3, q4, q5, q6] at h0 h1 h2 h3 h4 h5 h6 h7
    simp only [Prod.mk.injEq] at hx
    obtain ⟨a0, x0, z0, w0⟩ := DataW.trod_int Try.underlying22 h0
    obtain ⟨a1, x1, z1, w1⟩ := DataW.trod_int Try.underlying23 h1
    obtain ⟨a2, x2, z2⟩ := DataW.trod_bool Try.underlying4 h2
    obtain ⟨a3, x3, z3, _⟩ := DataW.trod_string Try.underlying9 h3
    obtain ⟨xs4, n4, _, hx4, _, hlen4, hfs4⟩ := DataW.trod_struct Try.underlying25 h4
    obtain ⟨a6, x6, z6, w6⟩ := DataW.trod_int Try.underlying3 h5
    obtain ⟨a7, x7, z7, w7⟩ := DataW.trod_int Try.underlying3 h6
    obtain ⟨a8, x8, z8, _⟩ := DataW.trod_string Try.underlying9 h7
    match xs4, hlen4 with
    | [u0, u1], _ =>
      have g0 := hfs4 0 _ rfl
      have g1 := hfs4 1 _ rfl
      simp [q4, q5] at g0 g1
      obtain ⟨a4, x4, z4, w4⟩ := DataW.trod_int Try.underlying3 g0
      obtain ⟨a5, x5, z5, _⟩ := DataW.trod_string Try.underlying9 g1
      simp only [List.cons.injEq, and_true] at x0 x1 x2 x3 x4 x5 x6 x7 x8
      subst x0 x1 x2 x3 x4 x5 x6 x7 x8
      refine ⟨a0, a1, a2, a3, a4, a5, a6, a7, a8, rfl, ?_, w0, w1, w4, w6, w7⟩
      rw [hx.1, hx4] <;> simp [z0, z1, z2, z3, z4, z5, z6, z7, z8, hx4]
theorem sized_an {H : Type} {ts : List TypeId} {ds : List (DataW H)} (h : (DataW.weightsEach Try.prog ts ds).all (· ≤ reachBytes) = true) {j : Nat} {l0 l1 l2 l4 l6 l7 : Lit} {a3 a5 a8 : ByteArray} (ht : ts[j]? = some 27) (hd : ds[j]? = some (.agg [.lit l0, .lit l1, .lit l2, .lit (.string a3.data.toList), .agg [.lit l4, .lit (.string a5.data.toList)], .lit l6, .lit l7, .lit (.string a8.data.toList)])) :
    a3.size ≤ reachBytes ∧ a5.size ≤ reachBytes ∧ a8.size ≤ reachBytes := by
  have m := fun n hn => List.all_eq_true.1 h n (DataW.weights_mem_each ht hd n hn)
  have e3 := m a3.data.toList.length (by simp [DataW.weights, DataW.weightsEach, Try.underlying27, Try.underlying25])
  have e5 := m a5.data.toList.length (by simp [DataW.weights, DataW.weightsEach, Try.underlying27, Try.underlying25])
  have e8 := m a8.data.toList.length (by simp [DataW.weights, DataW.weightsEach, Try.underlying27, Try.underlying25])
  simp only [decide_eq_true_eq] at e3 e5 e8
  exact ⟨e3, e5, e8⟩
end Go.Proofs.Ytdhboldmffiklab.anchor
