/- The law RecordPuts: its arguments are laid open. Condition: awake answers true. -/
import Derived.Test.YtcdgnhhciccoeaaDoorRecPD
import Derived.Test.YtcdgnhhciccoeaaDoorRecWA
namespace Go.Proofs.YtcdgnhhciccoeaaDoor.recw
open Go.ChangeShapes Go.WideShapes Go.ChangeAt Go.RowKit Go.Joins
set_option linter.unusedVariables false
set_option linter.unusedSimpArgs false
set_option maxRecDepth 100000

theorem open_thing2 {H : Type} {enc : TypeId × Value → H} {W : World} {spare : Nat → Bool} {r : Reach} {b0 : Nat} {v : Value} {d : DataW H} {p : List MemPlace} (hv : Value.okWide Tryd.prog W r b0 26 v) (h : DataW.Trod enc Tryd.prog W 0 spare true 26 v d p) (hw : ∀ n ∈ d.weights Tryd.prog 26, n ≤ reachBytes) :
    ∃ (ed : Bool) (sa : Option Addr) (sl sc : Nat) (ty fm tw : Int) (pa : Option Addr) (pl pc : Nat), v = .agg #[.bool ed, .slice sa sl sc, .int .i64 ty, .int .u64 fm, .int .u64 tw, .slice pa pl pc] ∧
      SliceArg W sa sl 1 (fun _ v => ∃ x, v = .int .i64 x ∧ (Lit.int .i64 x).wf = true) ∧ sl ≤ 140737488355328 ∧ SliceArg W pa pl 4 (fun j v => match j with | 0 => ∃ x, v = .int .i64 x ∧ (Lit.int .i64 x).wf = true | 1 => ∃ x, v = .int .i64 x ∧ (Lit.int .i64 x).wf = true | 2 => ∃ x, v = .int .i64 x ∧ (Lit.int .i64 x).wf = true | 3 => ∃ x, v = .string x ∧ x.size ≤ maxLen | _ => False) ∧ pl ≤ 140737488355328 ∧ sl ≤ sc ∧ (Lit.int .u64 fm).wf = true ∧ (Lit.int .u64 tw).wf = true := by
  have hv2 := hv
  simp only [Value.okWide, Tryd.underlying26] at hv2
  obtain ⟨cs, rfl, hsz, _⟩ := hv2
  rw [cellsTh] at hsz
  obtain ⟨l, rfl⟩ : ∃ l : List Value, cs = l.toArray := ⟨cs.toList, by simp⟩
  obtain ⟨c0, c1, c2, c3, c4, c5, rfl⟩ : ∃ c0 c1 c2 c3 c4 c5, l = [c0, c1, c2, c3, c4, c5] := by
    match l, hsz with
    | [c0, c1, c2, c3, c4, c5], _ => exact ⟨c0, c1, c2, c3, c4, c5, rfl⟩
  obtain ⟨fuel, hf0⟩ := h
  rw [cells6] at hf0
  obtain ⟨xs, k, _, hy, hlen, hx, hf⟩ := DataW.trod_struct Tryd.underlying26 hf0
  have hd : d = .agg (xs.map (·.1)) := congrArg Prod.fst hy
  have hwf : ∀ (j : Nat) (t' : TypeId) (z : DataW H × List MemPlace), ([4, 22, 3, 23, 23, 24] : List TypeId)[j]? = some t' → xs[j]? = some z → ∀ n ∈ z.1.weights Tryd.prog t', n ≤ reachBytes := fun j t' z hj hz n hn => hw n (by rw [hd]; simp only [DataW.weights, Tryd.underlying26]; exact DataW.weights_mem_each (j := j) (t := t') hj (by simp [hz]) n hn)
  have hz0 : ∃ z, xs[0]? = some z ∧ DataW.trod enc Tryd.prog W 0 spare true k 4 [c0] = some z := by
    have hz := hf 0 _ rfl
    obtain ⟨z, hz2⟩ : ∃ z, xs[0]? = some z := ⟨_, List.getElem?_eq_getElem (by rw [hx]; decide)⟩
    rw [hz2] at hz
    exact ⟨z, hz2, field1 hz (by kernel_rfl) rfl⟩
  obtain ⟨y0, q0, hz0⟩ := hz0
  have hz1 : ∃ z, xs[1]? = some z ∧ DataW.trod enc Tryd.prog W 0 spare true k 22 [c1] = some z := by
    have hz := hf 1 _ rfl
    obtain ⟨z, hz2⟩ : ∃ z, xs[1]? = some z := ⟨_, List.getElem?_eq_getElem (by rw [hx]; decide)⟩
    rw [hz2] at hz
    exact ⟨z, hz2, field1 hz (by kernel_rfl) rfl⟩
  obtain ⟨y1, q1, hz1⟩ := hz1
  have hz2 : ∃ z, xs[2]? = some z ∧ DataW.trod enc Tryd.prog W 0 spare true k 3 [c2] = some z := by
    have hz := hf 2 _ rfl
    obtain ⟨z, hz2⟩ : ∃ z, xs[2]? = some z := ⟨_, List.getElem?_eq_getElem (by rw [hx]; decide)⟩
    rw [hz2] at hz
    exact ⟨z, hz2, field1 hz (by kernel_rfl) rfl⟩
  obtain ⟨y2, q2, hz2⟩ := hz2
  have hz3 : ∃ z, xs[3]? = some z ∧ DataW.trod enc Tryd.prog W 0 spare true k 23 [c3] = some z := by
    have hz := hf 3 _ rfl
    obtain ⟨z, hz2⟩ : ∃ z, xs[3]? = some z := ⟨_, List.getElem?_eq_getElem (by rw [hx]; decide)⟩
    rw [hz2] at hz
    exact ⟨z, hz2, field1 hz (by kernel_rfl) rfl⟩
  obtain ⟨y3, q3, hz3⟩ := hz3
  have hz4 : ∃ z, xs[4]? = some z ∧ DataW.trod enc Tryd.prog W 0 spare true k 23 [c4] = some z := by
    have hz := hf 4 _ rfl
    obtain ⟨z, hz2⟩ : ∃ z, xs[4]? = some z := ⟨_, List.getElem?_eq_getElem (by rw [hx]; decide)⟩
    rw [hz2] at hz
    exact ⟨z, hz2, field1 hz (by kernel_rfl) rfl⟩
  obtain ⟨y4, q4, hz4⟩ := hz4
  have hz5 : ∃ z, xs[5]? = some z ∧ DataW.trod enc Tryd.prog W 0 spare true k 24 [c5] = some z := by
    have hz := hf 5 _ rfl
    obtain ⟨z, hz2⟩ : ∃ z, xs[5]? = some z := ⟨_, List.getElem?_eq_getElem (by rw [hx]; decide)⟩
    rw [hz2] at hz
    exact ⟨z, hz2, field1 hz (by kernel_rfl) rfl⟩
  obtain ⟨y5, q5, hz5⟩ := hz5
  obtain ⟨ed, x0, -⟩ := DataW.trod_bool Tryd.underlying4 hz0
  obtain ⟨ty, x2, -, _⟩ := DataW.trod_int Tryd.underlying3 hz2
  obtain ⟨fm, x3, -, wf3⟩ := DataW.trod_int Tryd.underlying23 hz3
  obtain ⟨tw, x4, -, wf4⟩ := DataW.trod_int Tryd.underlying23 hz4
  simp only [List.cons.injEq, and_true] at x0 x2 x3 x4
  subst x0 x2 x3 x4
  obtain ⟨sa, sl, sc, rfl, hsc⟩ : ∃ sa sl sc, c1 = .slice sa sl sc ∧ sl ≤ sc := by
    rcases Go.Deep.open_slice Tryd.underlying22 hz1 with ⟨hc, _⟩ | ⟨ad, l, c, _, _, _, _, hc, _, hl, _⟩
    · simp only [List.cons.injEq, and_true] at hc; exact ⟨_, _, _, hc, Nat.le_refl _⟩
    · simp only [List.cons.injEq, and_true] at hc; exact ⟨_, _, _, hc, hl⟩
  obtain ⟨pa, pl, pc, rfl⟩ : ∃ sa sl sc, c5 = .slice sa sl sc := by
    rcases Go.Deep.open_slice Tryd.underlying24 hz5 with ⟨hc, _⟩ | ⟨ad, l, c, _, _, _, _, hc, _⟩
    · simp only [List.cons.injEq, and_true] at hc; exact ⟨_, _, _, hc⟩
    · simp only [List.cons.injEq, and_true] at hc; exact ⟨_, _, _, hc⟩
  have s1 := sliceArg_ofS (Q := (fun _ v => ∃ x, v = .int .i64 x ∧ (Lit.int .i64 x).wf = true)) Tryd.underlying22 (by kernel_rfl) (by decide) (DataW.trod_lt k _ _ _ hz1) (d := y1.1) (p := y1.2) ⟨k, hz1⟩ (hwf 1 _ y1 rfl q1) (fun m cs y hh _ => elem_int m cs y hh)
  have s2 := sliceArg_ofS (Q := (fun j v => match j with | 0 => ∃ x, v = .int .i64 x ∧ (Lit.int .i64 x).wf = true | 1 => ∃ x, v = .int .i64 x ∧ (Lit.int .i64 x).wf = true | 2 => ∃ x, v = .int .i64 x ∧ (Lit.int .i64 x).wf = true | 3 => ∃ x, v = .string x ∧ x.size ≤ maxLen | _ => False)) Tryd.underlying24 (by kernel_rfl) (by decide) (DataW.trod_lt k _ _ _ hz5) (d := y5.1) (p := y5.2) ⟨k, hz5⟩ (hwf 5 _ y5 rfl q5) (fun m cs y hh _ => elem_prop m cs y hh)
  have b1 : Tryd.prog.bytesOf 3 = 8 := by kernel_rfl
  have b2 : Tryd.prog.bytesOf 75 = 40 := by kernel_rfl
  rw [b1] at s1
  rw [b2] at s2
  have z1 := s1.2
  have z2 := s2.2
  unfold reachBytes at z1 z2
  exact ⟨ed, sa, sl, sc, ty, fm, tw, pa, pl, pc, rfl, s1.1, by omega, s2.1, by omega, hsc, wf3, wf4⟩
theorem of_u64 {a : Int} (h : (Lit.int .u64 a).wf = true) : 0 ≤ a ∧ a < 18446744073709551616 := by
  have : 0 ≤ a ∧ a ≤ 18446744073709551615 := by simpa [Lit.wf, IntKind.min, IntKind.max, IntKind.signed, IntKind.bits] using h
  omega
theorem of_i64 {a : Int} (h : (Lit.int .i64 a).wf = true) : -9223372036854775808 ≤ a ∧ a ≤ 9223372036854775807 := by
  simpa [Lit.wf, IntKind.min, IntKind.max, IntKind.signed, IntKind.bits] using h
theorem flat_sub : ∀ l : List { p : Pr // -9223372036854775808 ≤ p.n ∧ p.n ≤ 9223372036854775807 }, l.flatMap (fun p => p.1.c) = prC (l.map (·.1))
  | [] => rfl
  | x :: t => by rw [List.flatMap_cons, flat_sub t]; rfl
/-- the law, of its arguments as they come -/
theorem recordPuts_walk (hAw : ∀ w', Calls Tryd.prog 10 #[] w' fun e w2 => e = .returned (.bool true) ∧ Below w'.heap.size w' w2) (ed : Bool) (sa : Option Addr) (sl sc : Nat) (ty fm tw : Int) (pa : Option Addr) (pl pc : Nat) (a1 : Int) (w : World)
    (s1 : SliceArg w sa sl 1 (fun _ v => ∃ x, v = .int .i64 x ∧ (Lit.int .i64 x).wf = true)) (z1 : sl ≤ 140737488355328) (s2 : SliceArg w pa pl 4 (fun j v => match j with | 0 => ∃ x, v = .int .i64 x ∧ (Lit.int .i64 x).wf = true | 1 => ∃ x, v = .int .i64 x ∧ (Lit.int .i64 x).wf = true | 2 => ∃ x, v = .int .i64 x ∧ (Lit.int .i64 x).wf = true | 3 => ∃ x, v = .string x ∧ x.size ≤ maxLen | _ => False)) (z2 : pl ≤ 140737488355328) (kc : sl ≤ sc) (wf3 : (Lit.int .u64 fm).wf = true) (wf4 : (Lit.int .u64 tw).wf = true) :
    Calls Tryd.prog 3 #[.agg #[.bool ed, .slice sa sl sc, .int .i64 ty, .int .u64 fm, .int .u64 tw, .slice pa pl pc], .int .i64 a1] w fun e w' => e = .returned (.bool true) ∧ Below w.heap.size w w' := by
  obtain ⟨LL, hL, hSL⟩ := SliceArg.sl (cap := sc) s1 (fun n : Int => [.int .i64 n]) (fun _ => rfl) (by decide) z1 (fun vs hq => by
    obtain ⟨x, hx, _⟩ := hq 0 (by decide)
    exact ⟨x, fun j hj => by obtain rfl : j = 0 := by omega
                             rw [hx]; rfl⟩)
  obtain ⟨PP, hP, hSP⟩ := SliceArg.sl (cap := pc) s2 (fun p : { p : Pr // -9223372036854775808 ≤ p.n ∧ p.n ≤ 9223372036854775807 } => p.1.c) (fun p => Pr.c_len p.1) (by decide) z2 (fun vs hq => by
    obtain ⟨x0, h0, _⟩ := hq 0 (by decide)
    obtain ⟨x1, h1, _⟩ := hq 1 (by decide)
    obtain ⟨x2, h2, wx2⟩ := hq 2 (by decide)
    obtain ⟨x3, h3, _⟩ := hq 3 (by decide)
    refine ⟨⟨⟨x0, x1, x2, x3⟩, of_i64 wx2⟩, fun j hj => ?_⟩
    have hc : j = 0 ∨ j = 1 ∨ j = 2 ∨ j = 3 := by omega
    rcases hc with rfl | rfl | rfl | rfl
    · rw [h0]; rfl
    · rw [h1]; rfl
    · rw [h2]; rfl
    · rw [h3]; rfl)
  rw [flat_int LL] at hSL
  rw [flat_sub PP] at hSP
  have hl : pl = (PP.map (·.1)).length := by rw [List.length_map, hP]
  have hcap : ∀ a n c, Value.slice sa sl sc = .slice a n c → n ≤ c := fun a n c e => by
    injection e with e1 e2 e3
    omega
  have hwf : ∀ p ∈ PP.map (·.1), -9223372036854775808 ≤ p.n ∧ p.n ≤ 9223372036854775807 := fun p hp => by
    obtain ⟨x, _, rfl⟩ := List.mem_map.1 hp
    exact x.2
  subst hL hl
  exact recordPuts_law a1 ed _ ty fm tw _ LL (PP.map (·.1)) w hSL hSP hcap hwf (of_u64 wf3) (of_u64 wf4) hAw
end Go.Proofs.YtcdgnhhciccoeaaDoor.recw
