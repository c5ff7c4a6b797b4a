/- What is proved: for every input the law DeltaOver returns true and leaves its arguments as they were. No condition but the row's own. -/
import Derived.Test.YtmfodnbhhfegeaaDelOvL
import Derived.Test.YtmfodnbhhfegeaaRows
import Derived.WalkKit
import Derived.ProofKit
import Derived.OpenShut
import Derived.ShutString
import Derived.ChangeOld
import Derived.Below
import Derived.Lib.SmallJoins
import Derived.Deep.Slices
namespace Go.Proofs.Ytmfodnbhhfegeaa.deltaOver
open Go.ChangeShapes Go.WideShapes Go.ChangeAt Go.RowKit Go.Joins
open Go.ChangeMaps (open_string shut_string)
set_option linter.unusedVariables false
theorem own : ownKnob Try.prog.godebug = none := by kernel_rfl
theorem laidOut : laidOutB Try.prog = true := by kernel_rfl
theorem elem0 {H : Type} {enc : TypeId × Value → H} {W : World} {spare : Nat → Bool} : ∀ m cs' y, DataW.trod enc Try.prog W 0 spare true m 109 cs' = some y → ∀ j, j < 4 → ∃ v, cs'[j]? = some v ∧ (fun j v => match j with | 0 => ∃ x, v = .int .i64 x ∧ (Lit.int .i64 x).wf = true | 1 => ∃ x, v = .int .i64 x ∧ (Lit.int .i64 x).wf = true | 2 => ∃ x, v = .string x ∧ x.size ≤ maxLen | 3 => ∃ x, v = .int .i64 x ∧ (Lit.int .i64 x).wf = true | _ => False) j v := by
  intro m cs' y h j hj
  obtain ⟨xs, k, _, _, hlen, hx, hf⟩ := DataW.trod_struct Try.underlying109 h
  match j, hj with
  | 0, _ =>
    have c1 : Try.prog.cellsOf 3 = 1 := by kernel_rfl
    have hz := hf 0 _ rfl
    obtain ⟨z, hz2⟩ : ∃ z, xs[0]? = some z := ⟨_, List.getElem?_eq_getElem (by rw [hx]; decide)⟩
    rw [hz2] at hz
    obtain ⟨x, ex, -, wx⟩ := DataW.trod_int Try.underlying3 hz; exact ⟨_, take1 (by simpa [c1] using ex), x, rfl, wx⟩
  | 1, _ =>
    have c1 : Try.prog.cellsOf 3 = 1 := by kernel_rfl
    have hz := hf 1 _ rfl
    obtain ⟨z, hz2⟩ : ∃ z, xs[1]? = some z := ⟨_, List.getElem?_eq_getElem (by rw [hx]; decide)⟩
    rw [hz2] at hz
    obtain ⟨x, ex, -, wx⟩ := DataW.trod_int Try.underlying3 hz; exact ⟨_, take1 (by simpa [c1] using ex), x, rfl, wx⟩
  | 2, _ =>
    have c1 : Try.prog.cellsOf 9 = 1 := by kernel_rfl
    have hz := hf 2 _ rfl
    obtain ⟨z, hz2⟩ : ∃ z, xs[2]? = some z := ⟨_, List.getElem?_eq_getElem (by rw [hx]; decide)⟩
    rw [hz2] at hz
    obtain ⟨x, ex, -, wx⟩ := DataW.trod_string Try.underlying9 hz; exact ⟨_, take1 (by simpa [c1] using ex), x, rfl, wx⟩
  | 3, _ =>
    have c1 : Try.prog.cellsOf 3 = 1 := by kernel_rfl
    have hz := hf 3 _ rfl
    obtain ⟨z, hz2⟩ : ∃ z, xs[3]? = some z := ⟨_, List.getElem?_eq_getElem (by rw [hx]; decide)⟩
    rw [hz2] at hz
    obtain ⟨x, ex, -, wx⟩ := DataW.trod_int Try.underlying3 hz; exact ⟨_, take1 (by simpa [c1] using ex), x, rfl, wx⟩
theorem elem1 {H : Type} {enc : TypeId × Value → H} {W : World} {spare : Nat → Bool} : ∀ m cs' y, DataW.trod enc Try.prog W 0 spare true m 93 cs' = some y → ∀ j, j < 3 → ∃ v, cs'[j]? = some v ∧ (fun j v => match j with | 0 => ∃ x, v = .string x ∧ x.size ≤ maxLen | 1 => ∃ x, v = .string x ∧ x.size ≤ maxLen | 2 => ∃ x, v = .bool x | _ => False) j v := by
  intro m cs' y h j hj
  obtain ⟨xs, k, _, _, hlen, hx, hf⟩ := DataW.trod_struct Try.underlying93 h
  match j, hj with
  | 0, _ =>
    have c1 : Try.prog.cellsOf 9 = 1 := by kernel_rfl
    have hz := hf 0 _ rfl
    obtain ⟨z, hz2⟩ : ∃ z, xs[0]? = some z := ⟨_, List.getElem?_eq_getElem (by rw [hx]; decide)⟩
    rw [hz2] at hz
    obtain ⟨x, ex, -, wx⟩ := DataW.trod_string Try.underlying9 hz; exact ⟨_, take1 (by simpa [c1] using ex), x, rfl, wx⟩
  | 1, _ =>
    have c1 : Try.prog.cellsOf 9 = 1 := by kernel_rfl
    have hz := hf 1 _ rfl
    obtain ⟨z, hz2⟩ : ∃ z, xs[1]? = some z := ⟨_, List.getElem?_eq_getElem (by rw [hx]; decide)⟩
    rw [hz2] at hz
    obtain ⟨x, ex, -, wx⟩ := DataW.trod_string Try.underlying9 hz; exact ⟨_, take1 (by simpa [c1] using ex), x, rfl, wx⟩
  | 2, _ =>
    have c1 : Try.prog.cellsOf 4 = 1 := by kernel_rfl
    have hz := hf 2 _ rfl
    obtain ⟨z, hz2⟩ : ∃ z, xs[2]? = some z := ⟨_, List.getElem?_eq_getElem (by rw [hx]; decide)⟩
    rw [hz2] at hz
    obtain ⟨x, ex, -⟩ := DataW.trod_bool Try.underlying4 hz; exact ⟨_, take1 (by simpa [c1] using ex), x, rfl⟩
set_option maxRecDepth 100000 in
theorem lifted (os : Os) (started : os.Started) (H : Type) (enc : TypeId × Value → H) :
    ReturnsInHanded {} Try.checked os 11 .any (Rows.deltaOverSpec.pre6 enc Try.prog Try.f11 Rows.deltaOverRow.domain false) (Rows.deltaOverSpec.post enc Try.prog Try.f11 false true false false) := by
  refine returnsInHanded_of_change (C := Try.checked) own started (by kernel_rfl) Try.func11
    (ChangeSpec.witness6 (enc := enc) (C := Try.checked) false ⟨#[], #[.slice none 0 0, .slice none 0 0, .int .i64 0], []⟩ 8 (by kernel_rfl) (by kernel_rfl) (by kernel_rfl) (by kernel_rfl)) ?_
  intro W base args ds gs before hval0 hW hcnd _
  have hval : ∀ (j : Nat) t v, Try.f11.params[j]? = some t → args[j]? = some v → Value.okWide Try.prog W .any base t v := hval0
  have hW' := hW
  obtain ⟨p, q, hA0, hV, rfl, hfz, hnd⟩ := hW
  have hA : DataW.TrodAll enc Try.prog W 0 (fun _ => true) true Try.f11.params.toList args.toList ds p := hA0
  rw [Try.params11] at hA hval
  obtain ⟨v0, vs0, d0, ds0, p0, q0, hargs, rfl, rfl, h0, r0⟩ := trodAll_cons hA
  obtain ⟨v1, vs1, d1, ds1, p1, q1, rfl, rfl, rfl, h1, r1⟩ := trodAll_cons r0
  obtain ⟨v2, vs2, d2, ds2, p2, q2, rfl, rfl, rfl, h2, r2⟩ := trodAll_cons r1
  obtain ⟨rfl, rfl, rfl⟩ := trodAll_nil r2
  obtain rfl : args = #[v0, v1, v2] := by cases args; simp_all
  obtain ⟨rfl, rfl⟩ := trodVars_none hV
  have k0 := h0
  have lt0 : ∀ x ∈ p0, x.block < W.heap.size := by obtain ⟨m, hm⟩ := k0; exact DataW.trod_lt m _ _ _ hm
  obtain ⟨a0, len0, cap0, rfl⟩ := okWide_slice Try.underlying105 (hval 0 105 v0 rfl rfl)
  have k1 := h1
  have lt1 : ∀ x ∈ p1, x.block < W.heap.size := by obtain ⟨m, hm⟩ := k1; exact DataW.trod_lt m _ _ _ hm
  obtain ⟨a1, len1, cap1, rfl⟩ := okWide_slice Try.underlying89 (hval 1 89 v1 rfl rfl)
  have k2 := h2
  have lt2 : ∀ x ∈ p2, x.block < W.heap.size := by obtain ⟨m, hm⟩ := k2; exact DataW.trod_lt m _ _ _ hm
  obtain ⟨a2, rfl, rfl, rfl, w2⟩ := open_int Try.underlying3 (hval 2 3 v2 rfl rfl) h2
  clear hA0 hval0
  refine (delta.deltaOver_walk a0 len0 cap0 a1 len1 cap1 a2 W (sliceArg_of Try.underlying105 (by kernel_rfl) (by decide) lt0 h0 (fun m cs y hh => elem0 m cs y hh)) (sliceArg_of Try.underlying89 (by kernel_rfl) (by decide) lt1 h1 (fun m cs y hh => elem1 m cs y hh)) w2).mono fun e W' ⟨he, bel⟩ => ?_
  subst he
  exact ⟨_, rfl, _, _, _, [], _, [], hW', trodAll_mk1 (shut_bool Try.underlying4 _), (trodAll_cons_mk (Below.trod laidOut (by kernel_rfl) (of_decide_eq_true (by kernel_rfl)) k0 bel lt0) (trodAll_cons_mk (Below.trod laidOut (by kernel_rfl) (of_decide_eq_true (by kernel_rfl)) k1 bel lt1) (trodAll_cons_mk (Below.trod laidOut (by kernel_rfl) (of_decide_eq_true (by kernel_rfl)) k2 bel lt2) trodAll_mk0))), rfl, bel.frame _, fun h => by cases h⟩

theorem over : Rows.deltaOverRow.holds Try.pinned (OpenSpec.ofChange Rows.deltaOverSpec) :=
  OpenClaim.holds_of_wide 11 Try.f11 rfl rfl rfl rfl rfl rfl rfl ⟨rfl, rfl, rfl, rfl, rfl⟩ rfl rfl rfl rfl rfl (by kernel_rfl) Try.func11 (by kernel_rfl)
    (of_decide_eq_true (by kernel_rfl)) (by unfold Func.isWrapper; first | (rw [if_pos (by decide +kernel)]; kernel_rfl) | (rw [if_neg (by decide +kernel)]; exact ⟨rfl, rfl⟩))
    (fun os started H enc _ => lifted os started H enc)

/-- The statement. -/
theorem proved : Rows.DeltaOverSaid := over
#print axioms proved
end Go.Proofs.Ytmfodnbhhfegeaa.deltaOver
