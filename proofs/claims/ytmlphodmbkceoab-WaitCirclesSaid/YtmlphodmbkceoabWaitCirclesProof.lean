/- What is proved: for every input the law WaitCircles returns true and leaves its arguments as they were. No condition but the row's own. -/
import Derived.Test.YtmlphodmbkceoabWaitL
import Derived.Test.YtmlphodmbkceoabArgs2
import Derived.Test.YtmlphodmbkceoabRows
import Derived.SizedLaws
import Derived.WalkKit
import Derived.ProofKit
import Derived.OpenShut
import Derived.ShutString
import Derived.ChangeOld
import Derived.Below
import Derived.Lib.SmallJoins
import Derived.Deep.Slices
namespace Go.Proofs.Ytmlphodmbkceoab.waitCircles
open Go.ChangeShapes Go.WideShapes Go.ChangeAt Go.RowKit Go.Joins
open Go.ChangeMaps (open_string shut_string)
set_option linter.unusedVariables false
theorem own : ownKnob Try.prog.godebug = none := by kernel_rfl
theorem laidOut : laidOutB Try.prog = true := by kernel_rfl
theorem elem0f1 {H : Type} {enc : TypeId × Value → H} {W : World} {spare : Nat → Bool} : ∀ m cs' y, DataW.trod enc Try.prog W 0 spare true m 3 cs' = some y → (∀ n ∈ y.1.weights Try.prog 3, n ≤ reachBytes) → ∀ j, j < 1 → ∃ v, cs'[j]? = some v ∧ (fun _ v => ∃ x, v = .int .i64 x ∧ (Lit.int .i64 x).wf = true) j v := by
  intro m cs' y h hw j hj
  have c1 : True := trivial
  have hz := h
  obtain rfl : j = 0 := by omega
  obtain ⟨x, ex, -, wx⟩ := DataW.trod_int Try.underlying3 hz; exact ⟨_, by rw [ex]; rfl, x, rfl, wx⟩
theorem elem0 {H : Type} {enc : TypeId × Value → H} {W : World} {spare : Nat → Bool} : ∀ m cs' y, DataW.trod enc Try.prog W 0 spare true m 76 cs' = some y → (∀ n ∈ y.1.weights Try.prog 76, n ≤ reachBytes) → ∀ j, j < 2 → ∃ v, cs'[j]? = some v ∧ (fun j v => match j with | 0 => ∃ x, v = .int .i64 x ∧ (Lit.int .i64 x).wf = true | 1 => ∃ sa sl sc, v = .slice sa sl sc ∧ SliceArg W sa sl 1 (fun _ v => ∃ x, v = .int .i64 x ∧ (Lit.int .i64 x).wf = true) ∧ sl * Try.prog.bytesOf 3 ≤ reachBytes | _ => False) j v := by
  intro m cs' y h hw j hj
  obtain ⟨xs, k, _, hy, hlen, hx, hf⟩ := DataW.trod_struct Try.underlying76 h
  have hwf : ∀ (j : Nat) (t' : TypeId) (z : DataW H × List MemPlace), ([3, 56] : List TypeId)[j]? = some t' → xs[j]? = some z → ∀ n ∈ z.1.weights Try.prog t', n ≤ reachBytes := fun j t' z hj hz n hn => hw n (by rw [hy]; simp only [DataW.weights, Try.underlying76]; exact DataW.weights_mem_each (j := j) (t := t') hj (by simp [hz]) n hn)
  match j, hj with
  | 0, _ =>
    have c1 : Try.prog.cellsOf 3 = 1 := by kernel_rfl
    have hz := hf 0 _ rfl
    obtain ⟨z, hz2⟩ : ∃ z, xs[0]? = some z := ⟨_, List.getElem?_eq_getElem (by rw [hx]; decide)⟩
    rw [hz2] at hz
    obtain ⟨x, ex, -, wx⟩ := DataW.trod_int Try.underlying3 hz; exact ⟨_, take1 (by simpa [c1] using ex), x, rfl, wx⟩
  | 1, _ =>
    have c1 : Try.prog.cellsOf 56 = 1 := by kernel_rfl
    have hz := hf 1 _ rfl
    obtain ⟨z, hz2⟩ : ∃ z, xs[1]? = some z := ⟨_, List.getElem?_eq_getElem (by rw [hx]; decide)⟩
    rw [hz2] at hz
    rcases Go.Deep.open_slice Try.underlying56 hz with ⟨hcs, _⟩ | ⟨ad, l, c, _, _, _, _, hcs, _⟩
    · have hz3 := hz
      rw [hcs] at hz3
      have s := sliceArg_ofS Try.underlying56 (by kernel_rfl) (by decide) (DataW.trod_lt k _ _ _ hz3) (d := z.1) (p := z.2) ⟨k, hz3⟩ (hwf 1 _ z rfl hz2) (fun m cs y hh hw => elem0f1 m cs y hh hw)
      exact ⟨_, take1 (by simpa [c1] using hcs), none, 0, 0, rfl, s.1, (Nat.le_trans (Nat.le_of_eq (Nat.zero_mul _)) (Nat.zero_le _))⟩
    · have hz3 := hz
      rw [hcs] at hz3
      have s := sliceArg_ofS Try.underlying56 (by kernel_rfl) (by decide) (DataW.trod_lt k _ _ _ hz3) (d := z.1) (p := z.2) ⟨k, hz3⟩ (hwf 1 _ z rfl hz2) (fun m cs y hh hw => elem0f1 m cs y hh hw)
      exact ⟨_, take1 (by simpa [c1] using hcs), some ad, l, c, rfl, s.1, s.2⟩
theorem elem1 {H : Type} {enc : TypeId × Value → H} {W : World} {spare : Nat → Bool} : ∀ m cs' y, DataW.trod enc Try.prog W 0 spare true m 79 cs' = some y → (∀ n ∈ y.1.weights Try.prog 79, n ≤ reachBytes) → ∀ j, j < 1 → ∃ v, cs'[j]? = some v ∧ (fun _ v => ∃ x, v = .int .u64 x ∧ (Lit.int .u64 x).wf = true) j v := by
  intro m cs' y h hw j hj
  have c1 : True := trivial
  have hz := h
  obtain rfl : j = 0 := by omega
  obtain ⟨x, ex, -, wx⟩ := DataW.trod_int Try.underlying79 hz; exact ⟨_, by rw [ex]; rfl, x, rfl, wx⟩
set_option maxRecDepth 100000 in
theorem lifted (os : Os) (started : os.Started) (H : Type) (enc : TypeId × Value → H) :
    ReturnsInHanded {} Try.checked os 7 .any (Rows.waitCirclesSpec.pre6 enc Try.prog Try.f7 Rows.waitCirclesRow.domain false) (Rows.waitCirclesSpec.post enc Try.prog Try.f7 false true false false) := by
  refine returnsInHanded_of_change_sized (C := Try.checked) own started (by kernel_rfl) Try.func7
    (ChangeSpec.witness6 (enc := enc) (C := Try.checked) false ⟨#[], #[.slice none 0 0, .slice none 0 0], []⟩ 8 (by kernel_rfl) (by kernel_rfl) (by kernel_rfl) (by kernel_rfl)) ?_
  intro W base args ds gs before hval0 hW hcnd hsz0 _
  have hsz : (DataW.weightsEach Try.prog (Try.f7.params.toList ++ Rows.waitCirclesSpec.plain.varTypes Try.prog) (ds ++ gs)).all (· ≤ reachBytes) = true := hsz0
  have hval : ∀ (j : Nat) t v, Try.f7.params[j]? = some t → args[j]? = some v → Value.okWide Try.prog W .any base t v := hval0
  have hW' := hW
  obtain ⟨p, q, hA0, hV, rfl, hfz, hnd⟩ := hW
  have hA : DataW.TrodAll enc Try.prog W 0 (fun _ => true) true Try.f7.params.toList args.toList ds p := hA0
  rw [Try.params7] at hA hval hsz
  obtain ⟨v0, vs0, d0, ds0, p0, q0, hargs, rfl, rfl, h0, r0⟩ := trodAll_cons hA
  obtain ⟨v1, vs1, d1, ds1, p1, q1, rfl, rfl, rfl, h1, r1⟩ := trodAll_cons r0
  obtain ⟨rfl, rfl, rfl⟩ := trodAll_nil r1
  obtain rfl : args = #[v0, v1] := by cases args; simp_all
  obtain ⟨rfl, rfl⟩ := trodVars_none hV
  have k0 := h0
  have lt0 : ∀ x ∈ p0, x.block < W.heap.size := by obtain ⟨m, hm⟩ := k0; exact DataW.trod_lt m _ _ _ hm
  obtain ⟨a0, len0, cap0, rfl⟩ := okWide_slice Try.underlying69 (hval 0 69 v0 rfl rfl)
  have k1 := h1
  have lt1 : ∀ x ∈ p1, x.block < W.heap.size := by obtain ⟨m, hm⟩ := k1; exact DataW.trod_lt m _ _ _ hm
  obtain ⟨a1, len1, cap1, rfl⟩ := okWide_slice Try.underlying70 (hval 1 70 v1 rfl rfl)
  have s0 := sliceArg_ofS Try.underlying69 (by kernel_rfl) (by decide) lt0 h0 (fun n hn => by have := List.all_eq_true.1 hsz n (DataW.weights_mem_each (j := 0) rfl rfl n hn); exact of_decide_eq_true this) (fun m cs y hh hw => elem0 m cs y hh hw)
  have s1 := sliceArg_ofS Try.underlying70 (by kernel_rfl) (by decide) lt1 h1 (fun n hn => by have := List.all_eq_true.1 hsz n (DataW.weights_mem_each (j := 1) rfl rfl n hn); exact of_decide_eq_true this) (fun m cs y hh hw => elem1 m cs y hh hw)
  clear hA0 hval0 hsz0
  refine (wait.waitCircles_walk a0 len0 cap0 a1 len1 cap1 W s0.1 s0.2 s1.1 s1.2).mono fun e W' ⟨he, bel⟩ => ?_
  subst he
  exact ⟨_, rfl, _, _, _, [], _, [], hW', trodAll_mk1 (shut_bool Try.underlying4 _), (trodAll_cons_mk (Below.trod laidOut (by kernel_rfl) (of_decide_eq_true (by kernel_rfl)) k0 bel lt0) (trodAll_cons_mk (Below.trod laidOut (by kernel_rfl) (of_decide_eq_true (by kernel_rfl)) k1 bel lt1) trodAll_mk0)), rfl, bel.frame _, fun h => by cases h⟩

theorem over : Rows.waitCirclesRow.holds Try.pinned (OpenSpec.ofChange Rows.waitCirclesSpec) :=
  OpenClaim.holds_of_wide 7 Try.f7 rfl rfl rfl rfl rfl rfl rfl ⟨rfl, rfl, rfl, rfl, rfl⟩ rfl rfl rfl rfl rfl (by kernel_rfl) Try.func7 (by kernel_rfl)
    (of_decide_eq_true (by kernel_rfl)) (by unfold Func.isWrapper; first | (rw [if_pos (by decide +kernel)]; kernel_rfl) | (rw [if_neg (by decide +kernel)]; exact ⟨rfl, rfl⟩))
    (fun os started H enc _ => lifted os started H enc)

/-- The statement. -/
theorem proved : Rows.WaitCirclesSaid := over
#print axioms proved
end Go.Proofs.Ytmlphodmbkceoab.waitCircles
