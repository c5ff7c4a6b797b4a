/- The law RecordWith: its arguments are laid open. Condition: awake answers true. -/
import Derived.Test.YtdgpalileloekaaDoorRecW9
import Derived.Test.YtdgpalileloekaaDoorArgs2
import Derived.WalkKit
import Derived.ProofKit
import Derived.OpenShut
import Derived.ChangeOld
import Derived.Below
import Derived.Lib.SmallJoins
import Derived.Deep.Slices
namespace Go.Proofs.YtdgpalileloekaaDoor.recw
open Go.ChangeShapes Go.WideShapes Go.ChangeAt Go.RowKit Go.Joins
set_option linter.unusedVariables false
set_option linter.unusedSimpArgs false
set_option maxRecDepth 100000

theorem elem_prop {H : Type} {enc : TypeId × Value → H} {W : World} {spare : Nat → Bool} : ∀ m cs' y, DataW.trod enc Tryd.prog W 0 spare true m 42 cs' = some y → ∀ j, j < 4 → ∃ v, cs'[j]? = some v ∧ (fun j v => match j with | 0 => ∃ x, v = .int .i64 x ∧ (Lit.int .i64 x).wf = true | 1 => ∃ x, v = .int .i64 x ∧ (Lit.int .i64 x).wf = true | 2 => ∃ x, v = .int .i64 x ∧ (Lit.int .i64 x).wf = true | 3 => ∃ x, v = .string x ∧ x.size ≤ maxLen | _ => False) j v := by
  intro m cs' y h j hj
  obtain ⟨xs, k, _, _, hlen, hx, hf⟩ := DataW.trod_struct Tryd.underlying42 h
  match j, hj with
  | 0, _ =>
    have c1 : Tryd.prog.cellsOf 3 = 1 := by kernel_rfl
    have hz := hf 0 _ rfl
    obtain ⟨z, hz2⟩ : ∃ z, xs[0]? = some z := ⟨_, List.getElem?_eq_getElem (by rw [hx]; decide)⟩
    rw [hz2] at hz
    obtain ⟨x, ex, -, wx⟩ := DataW.trod_int Tryd.underlying3 hz; exact ⟨_, take1 (by simpa [c1] using ex), x, rfl, wx⟩
  | 1, _ =>
    have c1 : Tryd.prog.cellsOf 37 = 3 := by kernel_rfl
    have hz := hf 1 _ rfl
    obtain ⟨z, hz2⟩ : ∃ z, xs[1]? = some z := ⟨_, List.getElem?_eq_getElem (by rw [hx]; decide)⟩
    rw [hz2] at hz
    obtain ⟨xs2, k2, _, _, hlen2, hx2, hf2⟩ := DataW.trod_struct Tryd.underlying37 hz
    have c2 : Tryd.prog.cellsOf 3 = 1 := by kernel_rfl
    have hy := hf2 0 _ rfl
    obtain ⟨z2, hz3⟩ : ∃ z, xs2[0]? = some z := ⟨_, List.getElem?_eq_getElem (by rw [hx2]; decide)⟩
    rw [hz3] at hy
    obtain ⟨x, ex, -, wx⟩ := DataW.trod_int Tryd.underlying3 hy; exact ⟨_, by have e2 := congrArg (fun l : List Value => l[0]?) ex; simpa [c1, c2, List.getElem?_take, List.getElem?_drop] using e2, x, rfl, wx⟩
  | 2, _ =>
    have c1 : Tryd.prog.cellsOf 37 = 3 := by kernel_rfl
    have hz := hf 1 _ rfl
    obtain ⟨z, hz2⟩ : ∃ z, xs[1]? = some z := ⟨_, List.getElem?_eq_getElem (by rw [hx]; decide)⟩
    rw [hz2] at hz
    obtain ⟨xs2, k2, _, _, hlen2, hx2, hf2⟩ := DataW.trod_struct Tryd.underlying37 hz
    have c2 : Tryd.prog.cellsOf 2 = 1 := by kernel_rfl
    have hy := hf2 1 _ rfl
    obtain ⟨z2, hz3⟩ : ∃ z, xs2[1]? = some z := ⟨_, List.getElem?_eq_getElem (by rw [hx2]; decide)⟩
    rw [hz3] at hy
    obtain ⟨x, ex, -, wx⟩ := DataW.trod_int Tryd.underlying2 hy; exact ⟨_, by have e2 := congrArg (fun l : List Value => l[0]?) ex; simpa [c1, c2, List.getElem?_take, List.getElem?_drop] using e2, x, rfl, wx⟩
  | 3, _ =>
    have c1 : Tryd.prog.cellsOf 37 = 3 := by kernel_rfl
    have hz := hf 1 _ rfl
    obtain ⟨z, hz2⟩ : ∃ z, xs[1]? = some z := ⟨_, List.getElem?_eq_getElem (by rw [hx]; decide)⟩
    rw [hz2] at hz
    obtain ⟨xs2, k2, _, _, hlen2, hx2, hf2⟩ := DataW.trod_struct Tryd.underlying37 hz
    have c2 : Tryd.prog.cellsOf 9 = 1 := by kernel_rfl
    have hy := hf2 2 _ rfl
    obtain ⟨z2, hz3⟩ : ∃ z, xs2[2]? = some z := ⟨_, List.getElem?_eq_getElem (by rw [hx2]; decide)⟩
    rw [hz3] at hy
    obtain ⟨x, ex, -, wx⟩ := DataW.trod_string Tryd.underlying9 hy; exact ⟨_, by have e2 := congrArg (fun l : List Value => l[0]?) ex; simpa [c1, c2, List.getElem?_take, List.getElem?_drop] using e2, x, rfl, wx⟩
theorem elem_int {H : Type} {enc : TypeId × Value → H} {W : World} {spare : Nat → Bool} : ∀ m cs' y, DataW.trod enc Tryd.prog W 0 spare true m 3 cs' = some y → ∀ j, j < 1 → ∃ v, cs'[j]? = some v ∧ (fun _ v => ∃ x, v = .int .i64 x ∧ (Lit.int .i64 x).wf = true) j v := by
  intro m cs' y h j hj
  obtain rfl : j = 0 := by omega
  obtain ⟨x, ex, -, wx⟩ := DataW.trod_int Tryd.underlying3 h
  exact ⟨_, by rw [ex]; rfl, x, rfl, wx⟩
theorem field1 {H : Type} {enc : TypeId × Value → H} {W : World} {spare : Nat → Bool} {k t off : Nat} {cs : List Value} {c : Value} {z : DataW H × List MemPlace} (hz : DataW.trod enc Tryd.prog W 0 spare true k t ((cs.drop off).take (Tryd.prog.cellsOf t)) = some z) (hc : Tryd.prog.cellsOf t = 1) (h : cs[off]? = some c) : DataW.trod enc Tryd.prog W 0 spare true k t [c] = some z := by
  rw [hc] at hz
  have e : (cs.drop off).take 1 = [c] := by
    obtain ⟨hi, he⟩ := List.getElem?_eq_some_iff.1 h
    rw [List.drop_eq_getElem_cons hi, he]; rfl
  rwa [e] at hz
theorem cellsTh : Tryd.prog.cellsOf 26 = 6 := by kernel_rfl
theorem cells6 (c0 c1 c2 c3 c4 c5 : Value) : ((Value.agg #[c0, c1, c2, c3, c4, c5]).cells).toList = [c0, c1, c2, c3, c4, c5] := by simp [Value.cells]
theorem open_thing {H : Type} {enc : TypeId × Value → H} {W : World} {spare : Nat → Bool} {r : Reach} {b0 : Nat} {v : Value} {d : DataW H} {p : List MemPlace} (hv : Value.okWide Tryd.prog W r b0 26 v) (h : DataW.Trod enc Tryd.prog W 0 spare true 26 v d p) (hw : ∀ n ∈ d.weights Tryd.prog 26, n ≤ reachBytes) :
    ∃ (ed : Bool) (sa : Option Addr) (sl sc : Nat) (ty fm tw : Int) (pa : Option Addr) (pl pc : Nat), v = .agg #[.bool ed, .slice sa sl sc, .int .i64 ty, .int .u64 fm, .int .u64 tw, .slice pa pl pc] ∧
      SliceArg W sa sl 1 (fun _ v => ∃ x, v = .int .i64 x ∧ (Lit.int .i64 x).wf = true) ∧ sl ≤ 140737488355328 ∧ SliceArg W pa pl 4 (fun j v => match j with | 0 => ∃ x, v = .int .i64 x ∧ (Lit.int .i64 x).wf = true | 1 => ∃ x, v = .int .i64 x ∧ (Lit.int .i64 x).wf = true | 2 => ∃ x, v = .int .i64 x ∧ (Lit.int .i64 x).wf = true | 3 => ∃ x, v = .string x ∧ x.size ≤ maxLen | _ => False) ∧ pl ≤ 140737488355328 := by
  have hv2 := hv
  simp only [Value.okWide, Tryd.underlying26] at hv2
  obtain ⟨cs, rfl, hsz, _⟩ := hv2
  rw [cellsTh] at hsz
  obtain ⟨l, rfl⟩ : ∃ l : List Value, cs = l.toArray := ⟨cs.toList, by simp⟩
  obtain ⟨c0, c1, c2, c3, c4, c5, rfl⟩ : ∃ c0 c1 c2 c3 c4 c5, l = [c0, c1, c2, c3, c4, c5] := by
    match l, hsz with
    | [c0, c1, c2, c3, c4, c5], _ => exact ⟨c0, c1, c2, c3, c4, c5, rfl⟩
  obtain ⟨fuel, hf0⟩ := h
  rw [cells6] at hf0
  obtain ⟨xs, k, _, hy, hlen, hx, hf⟩ := DataW.trod_struct Tryd.underlying26 hf0
  have hd : d = .agg (xs.map (·.1)) := congrArg Prod.fst hy
  have hwf : ∀ (j : Nat) (t' : TypeId) (z : DataW H × List MemPlace), ([4, 22, 3, 23, 23, 24] : List TypeId)[j]? = some t' → xs[j]? = some z → ∀ n ∈ z.1.weights Tryd.prog t', n ≤ reachBytes := fun j t' z hj hz n hn => hw n (by rw [hd]; simp only [DataW.weights, Tryd.underlying26]; exact DataW.weights_mem_each (j := j) (t := t') hj (by simp [hz]) n hn)
  have hz0 : ∃ z, xs[0]? = some z ∧ DataW.trod enc Tryd.prog W 0 spare true k 4 [c0] = some z := by
    have hz := hf 0 _ rfl
    obtain ⟨z, hz2⟩ : ∃ z, xs[0]? = some z := ⟨_, List.getElem?_eq_getElem (by rw [hx]; decide)⟩
    rw [hz2] at hz
    exact ⟨z, hz2, field1 hz (by kernel_rfl) rfl⟩
  obtain ⟨y0, q0, hz0⟩ := hz0
  have hz1 : ∃ z, xs[1]? = some z ∧ DataW.trod enc Tryd.prog W 0 spare true k 22 [c1] = some z := by
    have hz := hf 1 _ rfl
    obtain ⟨z, hz2⟩ : ∃ z, xs[1]? = some z := ⟨_, List.getElem?_eq_getElem (by rw [hx]; decide)⟩
    rw [hz2] at hz
    exact ⟨z, hz2, field1 hz (by kernel_rfl) rfl⟩
  obtain ⟨y1, q1, hz1⟩ := hz1
  have hz2 : ∃ z, xs[2]? = some z ∧ DataW.trod enc Tryd.prog W 0 spare true k 3 [c2] = some z := by
    have hz := hf 2 _ rfl
    obtain ⟨z, hz2⟩ : ∃ z, xs[2]? = some z := ⟨_, List.getElem?_eq_getElem (by rw [hx]; decide)⟩
    rw [hz2] at hz
    exact ⟨z, hz2, field1 hz (by kernel_rfl) rfl⟩
  obtain ⟨y2, q2, hz2⟩ := hz2
  have hz3 : ∃ z, xs[3]? = some z ∧ DataW.trod enc Tryd.prog W 0 spare true k 23 [c3] = some z := by
    have hz := hf 3 _ rfl
    obtain ⟨z, hz2⟩ : ∃ z, xs[3]? = some z := ⟨_, List.getElem?_eq_getElem (by rw [hx]; decide)⟩
    rw [hz2] at hz
    exact ⟨z, hz2, field1 hz (by kernel_rfl) rfl⟩
  obtain ⟨y3, q3, hz3⟩ := hz3
  have hz4 : ∃ z, xs[4]? = some z ∧ DataW.trod enc Tryd.prog W 0 spare true k 23 [c4] = some z := by
    have hz := hf 4 _ rfl
    obtain ⟨z, hz2⟩ : ∃ z, xs[4]? = some z := ⟨_, List.getElem?_eq_getElem (by rw [hx]; decide)⟩
    rw [hz2] at hz
    exact ⟨z, hz2, field1 hz (by kernel_rfl) rfl⟩
  obtain ⟨y4, q4, hz4⟩ := hz4
  have hz5 : ∃ z, xs[5]? = some z ∧ DataW.trod enc Tryd.prog W 0 spare true k 24 [c5] = some z := by
    have hz := hf 5 _ rfl
    obtain ⟨z, hz2⟩ : ∃ z, xs[5]? = some z := ⟨_, List.getElem?_eq_getElem (by rw [hx]; decide)⟩
    rw [hz2] at hz
    exact ⟨z, hz2, field1 hz (by kernel_rfl) rfl⟩
  obtain ⟨y5, q5, hz5⟩ := hz5
  obtain ⟨ed, x0, -⟩ := DataW.trod_bool Tryd.underlying4 hz0
  obtain ⟨ty, x2, -, _⟩ := DataW.trod_int Tryd.underlying3 hz2
  obtain ⟨fm, x3, -, _⟩ := DataW.trod_int Tryd.underlying23 hz3
  obtain ⟨tw, x4, -, _⟩ := DataW.trod_int Tryd.underlying23 hz4
  simp only [List.cons.injEq, and_true] at x0 x2 x3 x4
  subst x0 x2 x3 x4
  obtain ⟨sa, sl, sc, rfl⟩ : ∃ sa sl sc, c1 = .slice sa sl sc := by
    rcases Go.Deep.open_slice Tryd.underlying22 hz1 with ⟨hc, _⟩ | ⟨ad, l, c, _, _, _, _, hc, _⟩
    · simp only [List.cons.injEq, and_true] at hc; exact ⟨_, _, _, hc⟩
    · simp only [List.cons.injEq, and_true] at hc; exact ⟨_, _, _, hc⟩
  obtain ⟨pa, pl, pc, rfl⟩ : ∃ sa sl sc, c5 = .slice sa sl sc := by
    rcases Go.Deep.open_slice Tryd.underlying24 hz5 with ⟨hc, _⟩ | ⟨ad, l, c, _, _, _, _, hc, _⟩
    · simp only [List.cons.injEq, and_true] at hc; exact ⟨_, _, _, hc⟩
    · simp only [List.cons.injEq, and_true] at hc; exact ⟨_, _, _, hc⟩
  have s1 := sliceArg_ofS (Q := (fun _ v => ∃ x, v = .int .i64 x ∧ (Lit.int .i64 x).wf = true)) Tryd.underlying22 (by kernel_rfl) (by decide) (DataW.trod_lt k _ _ _ hz1) (d := y1.1) (p := y1.2) ⟨k, hz1⟩ (hwf 1 _ y1 rfl q1) (fun m cs y hh _ => elem_int m cs y hh)
  have s2 := sliceArg_ofS (Q := (fun j v => match j with | 0 => ∃ x, v = .int .i64 x ∧ (Lit.int .i64 x).wf = true | 1 => ∃ x, v = .int .i64 x ∧ (Lit.int .i64 x).wf = true | 2 => ∃ x, v = .int .i64 x ∧ (Lit.int .i64 x).wf = true | 3 => ∃ x, v = .string x ∧ x.size ≤ maxLen | _ => False)) Tryd.underlying24 (by kernel_rfl) (by decide) (DataW.trod_lt k _ _ _ hz5) (d := y5.1) (p := y5.2) ⟨k, hz5⟩ (hwf 5 _ y5 rfl q5) (fun m cs y hh _ => elem_prop m cs y hh)
  have b1 : Tryd.prog.bytesOf 3 = 8 := by kernel_rfl
  have b2 : Tryd.prog.bytesOf 42 = 40 := by kernel_rfl
  rw [b1] at s1
  rw [b2] at s2
  have z1 := s1.2
  have z2 := s2.2
  unfold reachBytes at z1 z2
  exact ⟨ed, sa, sl, sc, ty, fm, tw, pa, pl, pc, rfl, s1.1, by omega, s2.1, by omega⟩
theorem flat_int : ∀ l : List Int, l.flatMap (fun n => [Value.int .i64 n]) = inC l
  | [] => rfl
  | x :: t => by rw [List.flatMap_cons, flat_int t]; rfl
/-- the law, of its arguments as they come -/
theorem recordWith_walk (hAw : ∀ w', Calls Tryd.prog 11 #[] w' fun e w2 => e = .returned (.bool true) ∧ Below w'.heap.size w' w2) (ed : Bool) (sa : Option Addr) (sl sc : Nat) (ty fm tw : Int) (pa : Option Addr) (pl pc : Nat) (a1 : Int) (a2_0 : Int) (a2_1 : Int) (a2_2 : ByteArray) (w : World)
    (s1 : SliceArg w sa sl 1 (fun _ v => ∃ x, v = .int .i64 x ∧ (Lit.int .i64 x).wf = true)) (z1 : sl ≤ 140737488355328) (s2 : SliceArg w pa pl 4 (fun j v => match j with | 0 => ∃ x, v = .int .i64 x ∧ (Lit.int .i64 x).wf = true | 1 => ∃ x, v = .int .i64 x ∧ (Lit.int .i64 x).wf = true | 2 => ∃ x, v = .int .i64 x ∧ (Lit.int .i64 x).wf = true | 3 => ∃ x, v = .string x ∧ x.size ≤ maxLen | _ => False)) (z2 : pl ≤ 140737488355328) :
    Calls Tryd.prog 4 #[.agg #[.bool ed, .slice sa sl sc, .int .i64 ty, .int .u64 fm, .int .u64 tw, .slice pa pl pc], .int .i64 a1, .agg #[.int .i64 a2_0, .int .i64 a2_1, .string a2_2]] w fun e w' => e = .returned (.bool true) ∧ Below w.heap.size w w' := by
  obtain ⟨LL, hL, hSL⟩ := SliceArg.sl (cap := sc) s1 (fun n : Int => [.int .i64 n]) (fun _ => rfl) (by decide) z1 (fun vs hq => by
    obtain ⟨x, hx, _⟩ := hq 0 (by decide)
    exact ⟨x, fun j hj => by obtain rfl : j = 0 := by omega
                             rw [hx]; rfl⟩)
  obtain ⟨PP, hP, hSP⟩ := SliceArg.sl (cap := pc) s2 Pr.c Pr.c_len (by decide) z2 (fun vs hq => by
    obtain ⟨x0, h0, _⟩ := hq 0 (by decide)
    obtain ⟨x1, h1, _⟩ := hq 1 (by decide)
    obtain ⟨x2, h2, _⟩ := hq 2 (by decide)
    obtain ⟨x3, h3, _⟩ := hq 3 (by decide)
    refine ⟨⟨x0, x1, x2, x3⟩, fun j hj => ?_⟩
    have hc : j = 0 ∨ j = 1 ∨ j = 2 ∨ j = 3 := by omega
    rcases hc with rfl | rfl | rfl | rfl
    · rw [h0]; rfl
    · rw [h1]; rfl
    · rw [h2]; rfl
    · rw [h3]; rfl)
  rw [flat_int LL] at hSL
  subst hL hP
  exact recordWith_law ed _ ty fm tw _ LL PP a1 a2_0 a2_1 a2_2 w hSL hSP hAw
end Go.Proofs.YtdgpalileloekaaDoor.recw
