/- A reply that came in, laid open: its numbers, its nodes and edges with their slices, its rows. No condition. -/
import Derived.Test.YtgbkpkioijbgoaaDoorArgs2
import Derived.Test.YtgbkpkioijbgoaaDoorSl
import Derived.WalkKit
import Derived.ProofKit
import Derived.OpenShut
import Derived.ChangeOld
import Derived.Below
import Derived.Lib.SmallJoins
import Derived.Deep.Slices
namespace Go.Proofs.YtgbkpkioijbgoaaDoor.show
open Go.ChangeShapes Go.WideShapes Go.ChangeAt Go.RowKit Go.Joins
set_option linter.unusedVariables false
set_option linter.unusedSimpArgs false
set_option maxRecDepth 100000

section
variable {H : Type} {enc : TypeId × Value → H} {W : World} {spare : Nat → Bool}
def qU64 (_ : Nat) (v : Value) : Prop := ∃ x, v = .int .u64 x ∧ (Lit.int .u64 x).wf = true
def qStr (_ : Nat) (v : Value) : Prop := ∃ x, v = .string x ∧ x.size ≤ maxLen
def qVal (j : Nat) (v : Value) : Prop := match j with | 0 => ∃ x, v = .int .i64 x ∧ (Lit.int .i64 x).wf = true | 1 => ∃ x, v = .int .i64 x ∧ (Lit.int .i64 x).wf = true | 2 => ∃ x, v = .string x ∧ x.size ≤ maxLen | _ => False
def qPair (j : Nat) (v : Value) : Prop := match j with | 0 => ∃ x, v = .string x ∧ x.size ≤ maxLen | 1 => ∃ x, v = .int .i64 x ∧ (Lit.int .i64 x).wf = true | 2 => ∃ x, v = .int .i64 x ∧ (Lit.int .i64 x).wf = true | 3 => ∃ x, v = .string x ∧ x.size ≤ maxLen | _ => False
/-- a slice with such elements -/
def SlV (w : World) (n : Nat) (Q : Nat → Value → Prop) (v : Value) : Prop := ∃ a l c, v = .slice a l c ∧ SliceArg w a l n Q ∧ l ≤ 140737488355328
def qInfo (W : World) (j : Nat) (v : Value) : Prop := match j with | 0 => ∃ x, v = .int .u64 x ∧ (Lit.int .u64 x).wf = true | 1 => ∃ b, v = .bool b | 2 => SlV W 1 qStr v | 3 => ∃ x, v = .string x ∧ x.size ≤ maxLen | 4 => ∃ x, v = .int .u64 x ∧ (Lit.int .u64 x).wf = true | 5 => ∃ x, v = .int .u64 x ∧ (Lit.int .u64 x).wf = true | 6 => SlV W 4 qPair v | _ => False
def qRow (W : World) (_ : Nat) (v : Value) : Prop := SlV W 3 qVal v
theorem ofield1 {k t off : Nat} {cs : List Value} {c : Value} {z : DataW H × List MemPlace} (hz : DataW.trod enc Tryd.prog W 0 spare true k t ((cs.drop off).take (Tryd.prog.cellsOf t)) = some z) (hc : Tryd.prog.cellsOf t = 1) (h : cs[off]? = some c) : DataW.trod enc Tryd.prog W 0 spare true k t [c] = some z := by
  rw [hc] at hz
  have e : (cs.drop off).take 1 = [c] := by
    obtain ⟨hi, he⟩ := List.getElem?_eq_some_iff.1 h
    rw [List.drop_eq_getElem_cons hi, he]; rfl
  rwa [e] at hz
theorem slV (mb : Nat) {t e : TypeId} {k n : Nat} {c : Value} {y : DataW H × List MemPlace} {Q : Nat → Value → Prop} (ht : Tryd.prog.underlying t = some (.slice e)) (hn : Tryd.prog.cellsOf e = n) (hn0 : 0 < n) (hb0 : Tryd.prog.bytesOf e = mb) (hb1 : 1 ≤ mb) (h : DataW.trod enc Tryd.prog W 0 spare true k t [c] = some y) (hw : ∀ m ∈ y.1.weights Tryd.prog t, m ≤ reachBytes)
    (hQ : ∀ m cs' z, DataW.trod enc Tryd.prog W 0 spare true m e cs' = some z → (∀ n ∈ z.1.weights Tryd.prog e, n ≤ reachBytes) → ∀ j, j < n → ∃ v, cs'[j]? = some v ∧ Q j v) : SlV W n Q c := by
  obtain ⟨sa, sl, sc, rfl⟩ : ∃ sa sl sc, c = .slice sa sl sc := by
    rcases Go.Deep.open_slice ht h with ⟨hc, _⟩ | ⟨ad, l, cp, _, _, _, _, hc, _⟩
    · simp only [List.cons.injEq, and_true] at hc; exact ⟨_, _, _, hc⟩
    · simp only [List.cons.injEq, and_true] at hc; exact ⟨_, _, _, hc⟩
  have s := sliceArg_ofS (Q := Q) (cap := sc) ht hn hn0 (DataW.trod_lt k _ _ _ h) (d := y.1) (p := y.2) ⟨k, h⟩ hw hQ
  have h2 := s.2
  have h3 : sl * 1 ≤ sl * Tryd.prog.bytesOf e := Nat.mul_le_mul_left _ (by omega)
  unfold reachBytes at h2
  exact ⟨sa, sl, sc, rfl, s.1, by omega⟩
theorem e_u64 : ∀ m cs' (y : DataW H × List MemPlace), DataW.trod enc Tryd.prog W 0 spare true m 38 cs' = some y → (∀ n ∈ y.1.weights Tryd.prog 38, n ≤ reachBytes) → ∀ j, j < 1 → ∃ v, cs'[j]? = some v ∧ qU64 j v := by
  intro m cs' y h hw j hj
  obtain rfl : j = 0 := by omega
  obtain ⟨x, ex, -, wx⟩ := DataW.trod_int Tryd.underlying38 h
  exact ⟨_, by rw [ex]; rfl, x, rfl, wx⟩
theorem e_str : ∀ m cs' (y : DataW H × List MemPlace), DataW.trod enc Tryd.prog W 0 spare true m 9 cs' = some y → (∀ n ∈ y.1.weights Tryd.prog 9, n ≤ reachBytes) → ∀ j, j < 1 → ∃ v, cs'[j]? = some v ∧ qStr j v := by
  intro m cs' y h hw j hj
  obtain rfl : j = 0 := by omega
  obtain ⟨x, ex, -, wx⟩ := DataW.trod_string Tryd.underlying9 h
  exact ⟨_, by rw [ex]; rfl, x, rfl, wx⟩
theorem e_val : ∀ m cs' (y : DataW H × List MemPlace), DataW.trod enc Tryd.prog W 0 spare true m 53 cs' = some y → (∀ n ∈ y.1.weights Tryd.prog 53, n ≤ reachBytes) → ∀ j, j < 3 → ∃ v, cs'[j]? = some v ∧ qVal j v := by
  intro m cs' y h hw j hj
  obtain ⟨xs, k, _, _, hlen, hx, hf⟩ := DataW.trod_struct Tryd.underlying53 h
  match j, hj with
  | 0, _ =>
    have c1 : Tryd.prog.cellsOf 3 = 1 := by kernel_rfl
    have hz := hf 0 _ rfl
    obtain ⟨z, hz2⟩ : ∃ z, xs[0]? = some z := ⟨_, List.getElem?_eq_getElem (by rw [hx]; decide)⟩
    rw [hz2] at hz
    obtain ⟨x, ex, -, wx⟩ := DataW.trod_int Tryd.underlying3 hz
    exact ⟨_, take1 (by simpa [c1] using ex), x, rfl, wx⟩
  | 1, _ =>
    have c1 : Tryd.prog.cellsOf 2 = 1 := by kernel_rfl
    have hz := hf 1 _ rfl
    obtain ⟨z, hz2⟩ : ∃ z, xs[1]? = some z := ⟨_, List.getElem?_eq_getElem (by rw [hx]; decide)⟩
    rw [hz2] at hz
    obtain ⟨x, ex, -, wx⟩ := DataW.trod_int Tryd.underlying2 hz
    exact ⟨_, take1 (by simpa [c1] using ex), x, rfl, wx⟩
  | 2, _ =>
    have c1 : Tryd.prog.cellsOf 9 = 1 := by kernel_rfl
    have hz := hf 2 _ rfl
    obtain ⟨z, hz2⟩ : ∃ z, xs[2]? = some z := ⟨_, List.getElem?_eq_getElem (by rw [hx]; decide)⟩
    rw [hz2] at hz
    obtain ⟨x, ex, -, wx⟩ := DataW.trod_string Tryd.underlying9 hz
    exact ⟨_, take1 (by simpa [c1] using ex), x, rfl, wx⟩
theorem e_pair : ∀ m cs' (y : DataW H × List MemPlace), DataW.trod enc Tryd.prog W 0 spare true m 98 cs' = some y → (∀ n ∈ y.1.weights Tryd.prog 98, n ≤ reachBytes) → ∀ j, j < 4 → ∃ v, cs'[j]? = some v ∧ qPair j v := by
  intro m cs' y h hw j hj
  obtain ⟨xs, k, _, _, hlen, hx, hf⟩ := DataW.trod_struct Tryd.underlying98 h
  match j, hj with
  | 0, _ =>
    have c1 : Tryd.prog.cellsOf 9 = 1 := by kernel_rfl
    have hz := hf 0 _ rfl
    obtain ⟨z, hz2⟩ : ∃ z, xs[0]? = some z := ⟨_, List.getElem?_eq_getElem (by rw [hx]; decide)⟩
    rw [hz2] at hz
    obtain ⟨x, ex, -, wx⟩ := DataW.trod_string Tryd.underlying9 hz
    exact ⟨_, take1 (by simpa [c1] using ex), x, rfl, wx⟩
  | 1, _ =>
    have c1 : Tryd.prog.cellsOf 53 = 3 := by kernel_rfl
    have hz := hf 1 _ rfl
    obtain ⟨z, hz2⟩ : ∃ z, xs[1]? = some z := ⟨_, List.getElem?_eq_getElem (by rw [hx]; decide)⟩
    rw [hz2] at hz
    obtain ⟨xs2, k2, _, _, hlen2, hx2, hf2⟩ := DataW.trod_struct Tryd.underlying53 hz
    have c2 : Tryd.prog.cellsOf 3 = 1 := by kernel_rfl
    have hy := hf2 0 _ rfl
    obtain ⟨z2, hz3⟩ : ∃ z, xs2[0]? = some z := ⟨_, List.getElem?_eq_getElem (by rw [hx2]; decide)⟩
    rw [hz3] at hy
    obtain ⟨x, ex, -, wx⟩ := DataW.trod_int Tryd.underlying3 hy
    exact ⟨_, by have e2 := congrArg (fun l : List Value => l[0]?) ex; simpa [c1, c2, List.getElem?_take, List.getElem?_drop] using e2, x, rfl, wx⟩
  | 2, _ =>
    have c1 : Tryd.prog.cellsOf 53 = 3 := by kernel_rfl
    have hz := hf 1 _ rfl
    obtain ⟨z, hz2⟩ : ∃ z, xs[1]? = some z := ⟨_, List.getElem?_eq_getElem (by rw [hx]; decide)⟩
    rw [hz2] at hz
    obtain ⟨xs2, k2, _, _, hlen2, hx2, hf2⟩ := DataW.trod_struct Tryd.underlying53 hz
    have c2 : Tryd.prog.cellsOf 2 = 1 := by kernel_rfl
    have hy := hf2 1 _ rfl
    obtain ⟨z2, hz3⟩ : ∃ z, xs2[1]? = some z := ⟨_, List.getElem?_eq_getElem (by rw [hx2]; decide)⟩
    rw [hz3] at hy
    obtain ⟨x, ex, -, wx⟩ := DataW.trod_int Tryd.underlying2 hy
    exact ⟨_, by have e2 := congrArg (fun l : List Value => l[0]?) ex; simpa [c1, c2, List.getElem?_take, List.getElem?_drop] using e2, x, rfl, wx⟩
  | 3, _ =>
    have c1 : Tryd.prog.cellsOf 53 = 3 := by kernel_rfl
    have hz := hf 1 _ rfl
    obtain ⟨z, hz2⟩ : ∃ z, xs[1]? = some z := ⟨_, List.getElem?_eq_getElem (by rw [hx]; decide)⟩
    rw [hz2] at hz
    obtain ⟨xs2, k2, _, _, hlen2, hx2, hf2⟩ := DataW.trod_struct Tryd.underlying53 hz
    have c2 : Tryd.prog.cellsOf 9 = 1 := by kernel_rfl
    have hy := hf2 2 _ rfl
    obtain ⟨z2, hz3⟩ : ∃ z, xs2[2]? = some z := ⟨_, List.getElem?_eq_getElem (by rw [hx2]; decide)⟩
    rw [hz3] at hy
    obtain ⟨x, ex, -, wx⟩ := DataW.trod_string Tryd.underlying9 hy
    exact ⟨_, by have e2 := congrArg (fun l : List Value => l[0]?) ex; simpa [c1, c2, List.getElem?_take, List.getElem?_drop] using e2, x, rfl, wx⟩
theorem e_row : ∀ m cs' (y : DataW H × List MemPlace), DataW.trod enc Tryd.prog W 0 spare true m 51 cs' = some y → (∀ n ∈ y.1.weights Tryd.prog 51, n ≤ reachBytes) → ∀ j, j < 1 → ∃ v, cs'[j]? = some v ∧ qRow W j v := by
  intro m cs' y h hw j hj
  obtain rfl : j = 0 := by omega
  obtain ⟨c, rfl⟩ : ∃ c, cs' = [c] := by
    rcases Go.Deep.open_slice Tryd.underlying51 h with ⟨hc, _⟩ | ⟨ad, l, cp, _, _, _, _, hc, _⟩
    · exact ⟨_, hc⟩
    · exact ⟨_, hc⟩
  exact ⟨c, rfl, slV 32 Tryd.underlying51 (by kernel_rfl) (by decide) (by kernel_rfl) (by decide) h hw e_val⟩
theorem e_info : ∀ m cs' (y : DataW H × List MemPlace), DataW.trod enc Tryd.prog W 0 spare true m 48 cs' = some y → (∀ n ∈ y.1.weights Tryd.prog 48, n ≤ reachBytes) → ∀ j, j < 7 → ∃ v, cs'[j]? = some v ∧ qInfo W j v := by
  intro m cs' y h hw j hj
  obtain ⟨xs, k, _, hy, hlen, hx, hf⟩ := DataW.trod_struct Tryd.underlying48 h
  have hd : y.1 = .agg (xs.map (·.1)) := congrArg Prod.fst hy
  have hwf : ∀ (j : Nat) (t' : TypeId) (z : DataW H × List MemPlace), ([38, 4, 45, 9, 38, 38, 46] : List TypeId)[j]? = some t' → xs[j]? = some z → ∀ n ∈ z.1.weights Tryd.prog t', n ≤ reachBytes := fun j t' z hj hz n hn => hw n (by rw [hd]; simp only [DataW.weights, Tryd.underlying48]; exact DataW.weights_mem_each (j := j) (t := t') hj (by simp [hz]) n hn)
  have h7 : cs'.length = 7 := by rw [hlen]; kernel_rfl
  obtain ⟨c, hc⟩ : ∃ c, cs'[j]? = some c := ⟨_, List.getElem?_eq_getElem (by omega)⟩
  refine ⟨c, hc, ?_⟩
  match j, hj with
  | 0, _ =>
    have hz := hf 0 _ rfl
    obtain ⟨z, hz2⟩ : ∃ z, xs[0]? = some z := ⟨_, List.getElem?_eq_getElem (by rw [hx]; decide)⟩
    rw [hz2] at hz
    have h1 := ofield1 hz (by kernel_rfl) hc
    obtain ⟨x, ex, -, wx⟩ := DataW.trod_int Tryd.underlying38 h1
    simp only [List.cons.injEq, and_true] at ex
    exact ⟨x, ex, wx⟩
  | 1, _ =>
    have hz := hf 1 _ rfl
    obtain ⟨z, hz2⟩ : ∃ z, xs[1]? = some z := ⟨_, List.getElem?_eq_getElem (by rw [hx]; decide)⟩
    rw [hz2] at hz
    have h1 := ofield1 hz (by kernel_rfl) hc
    obtain ⟨x, ex, -⟩ := DataW.trod_bool Tryd.underlying4 h1
    simp only [List.cons.injEq, and_true] at ex
    exact ⟨x, ex⟩
  | 2, _ =>
    have hz := hf 2 _ rfl
    obtain ⟨z, hz2⟩ : ∃ z, xs[2]? = some z := ⟨_, List.getElem?_eq_getElem (by rw [hx]; decide)⟩
    rw [hz2] at hz
    have h1 := ofield1 hz (by kernel_rfl) hc
    exact slV 16 Tryd.underlying45 (by kernel_rfl) (by decide) (by kernel_rfl) (by decide) h1 (hwf 2 _ z rfl hz2) e_str
  | 3, _ =>
    have hz := hf 3 _ rfl
    obtain ⟨z, hz2⟩ : ∃ z, xs[3]? = some z := ⟨_, List.getElem?_eq_getElem (by rw [hx]; decide)⟩
    rw [hz2] at hz
    have h1 := ofield1 hz (by kernel_rfl) hc
    obtain ⟨x, ex, -, wx⟩ := DataW.trod_string Tryd.underlying9 h1
    simp only [List.cons.injEq, and_true] at ex
    exact ⟨x, ex, wx⟩
  | 4, _ =>
    have hz := hf 4 _ rfl
    obtain ⟨z, hz2⟩ : ∃ z, xs[4]? = some z := ⟨_, List.getElem?_eq_getElem (by rw [hx]; decide)⟩
    rw [hz2] at hz
    have h1 := ofield1 hz (by kernel_rfl) hc
    obtain ⟨x, ex, -, wx⟩ := DataW.trod_int Tryd.underlying38 h1
    simp only [List.cons.injEq, and_true] at ex
    exact ⟨x, ex, wx⟩
  | 5, _ =>
    have hz := hf 5 _ rfl
    obtain ⟨z, hz2⟩ : ∃ z, xs[5]? = some z := ⟨_, List.getElem?_eq_getElem (by rw [hx]; decide)⟩
    rw [hz2] at hz
    have h1 := ofield1 hz (by kernel_rfl) hc
    obtain ⟨x, ex, -, wx⟩ := DataW.trod_int Tryd.underlying38 h1
    simp only [List.cons.injEq, and_true] at ex
    exact ⟨x, ex, wx⟩
  | 6, _ =>
    have hz := hf 6 _ rfl
    obtain ⟨z, hz2⟩ : ∃ z, xs[6]? = some z := ⟨_, List.getElem?_eq_getElem (by rw [hx]; decide)⟩
    rw [hz2] at hz
    have h1 := ofield1 hz (by kernel_rfl) hc
    exact slV 48 Tryd.underlying46 (by kernel_rfl) (by decide) (by kernel_rfl) (by decide) h1 (hwf 6 _ z rfl hz2) e_pair
theorem rcells5 (c0 c1 c2 c3 c4 : Value) : ((Value.agg #[c0, c1, c2, c3, c4]).cells).toList = [c0, c1, c2, c3, c4] := by simp [Value.cells]
theorem rcells : Tryd.prog.cellsOf 43 = 5 := by kernel_rfl
theorem open_reply {r : Reach} {b0 : Nat} {v : Value} {d : DataW H} {p : List MemPlace} (hv : Value.okWide Tryd.prog W r b0 43 v) (h : DataW.Trod enc Tryd.prog W 0 spare true 43 v d p) (hw : ∀ n ∈ d.weights Tryd.prog 43, n ≤ reachBytes) :
    ∃ (er id : Int) (vi vn vr : Value), v = .agg #[.int .i64 er, .int .u64 id, vi, vn, vr] ∧ (Lit.int .i64 er).wf = true ∧ (Lit.int .u64 id).wf = true ∧ SlV W 1 qU64 vi ∧ SlV W 7 (qInfo W) vn ∧ SlV W 1 (qRow W) vr := by
  have hv2 := hv
  simp only [Value.okWide, Tryd.underlying43] at hv2
  obtain ⟨cs, rfl, hsz, _⟩ := hv2
  rw [rcells] at hsz
  obtain ⟨l, rfl⟩ : ∃ l : List Value, cs = l.toArray := ⟨cs.toList, by simp⟩
  obtain ⟨c0, c1, c2, c3, c4, rfl⟩ : ∃ c0 c1 c2 c3 c4, l = [c0, c1, c2, c3, c4] := by
    match l, hsz with
    | [c0, c1, c2, c3, c4], _ => exact ⟨c0, c1, c2, c3, c4, rfl⟩
  obtain ⟨fuel, hf0⟩ := h
  rw [rcells5] at hf0
  obtain ⟨xs, k, _, hy, hlen, hx, hf⟩ := DataW.trod_struct Tryd.underlying43 hf0
  have hd : d = .agg (xs.map (·.1)) := congrArg Prod.fst hy
  have hwf : ∀ (j : Nat) (t' : TypeId) (z : DataW H × List MemPlace), ([28, 38, 39, 40, 41] : List TypeId)[j]? = some t' → xs[j]? = some z → ∀ n ∈ z.1.weights Tryd.prog t', n ≤ reachBytes := fun j t' z hj hz n hn => hw n (by rw [hd]; simp only [DataW.weights, Tryd.underlying43]; exact DataW.weights_mem_each (j := j) (t := t') hj (by simp [hz]) n hn)
  obtain ⟨z0, q0, h0⟩ : ∃ z, xs[0]? = some z ∧ DataW.trod enc Tryd.prog W 0 spare true k 28 [c0] = some z := by
    have hz := hf 0 _ rfl
    obtain ⟨z, hz2⟩ : ∃ z, xs[0]? = some z := ⟨_, List.getElem?_eq_getElem (by rw [hx]; decide)⟩
    rw [hz2] at hz
    exact ⟨z, hz2, ofield1 hz (by kernel_rfl) rfl⟩
  obtain ⟨z1, q1, h1⟩ : ∃ z, xs[1]? = some z ∧ DataW.trod enc Tryd.prog W 0 spare true k 38 [c1] = some z := by
    have hz := hf 1 _ rfl
    obtain ⟨z, hz2⟩ : ∃ z, xs[1]? = some z := ⟨_, List.getElem?_eq_getElem (by rw [hx]; decide)⟩
    rw [hz2] at hz
    exact ⟨z, hz2, ofield1 hz (by kernel_rfl) rfl⟩
  obtain ⟨z2, q2, h2⟩ : ∃ z, xs[2]? = some z ∧ DataW.trod enc Tryd.prog W 0 spare true k 39 [c2] = some z := by
    have hz := hf 2 _ rfl
    obtain ⟨z, hz2⟩ : ∃ z, xs[2]? = some z := ⟨_, List.getElem?_eq_getElem (by rw [hx]; decide)⟩
    rw [hz2] at hz
    exact ⟨z, hz2, ofield1 hz (by kernel_rfl) rfl⟩
  obtain ⟨z3, q3, h3⟩ : ∃ z, xs[3]? = some z ∧ DataW.trod enc Tryd.prog W 0 spare true k 40 [c3] = some z := by
    have hz := hf 3 _ rfl
    obtain ⟨z, hz2⟩ : ∃ z, xs[3]? = some z := ⟨_, List.getElem?_eq_getElem (by rw [hx]; decide)⟩
    rw [hz2] at hz
    exact ⟨z, hz2, ofield1 hz (by kernel_rfl) rfl⟩
  obtain ⟨z4, q4, h4⟩ : ∃ z, xs[4]? = some z ∧ DataW.trod enc Tryd.prog W 0 spare true k 41 [c4] = some z := by
    have hz := hf 4 _ rfl
    obtain ⟨z, hz2⟩ : ∃ z, xs[4]? = some z := ⟨_, List.getElem?_eq_getElem (by rw [hx]; decide)⟩
    rw [hz2] at hz
    exact ⟨z, hz2, ofield1 hz (by kernel_rfl) rfl⟩
  obtain ⟨er, x0, -, wf0⟩ := DataW.trod_int Tryd.underlying28 h0
  obtain ⟨id, x1, -, wf1⟩ := DataW.trod_int Tryd.underlying38 h1
  simp only [List.cons.injEq, and_true] at x0 x1
  subst x0 x1
  exact ⟨er, id, c2, c3, c4, rfl, wf0, wf1, slV 8 Tryd.underlying39 (by kernel_rfl) (by decide) (by kernel_rfl) (by decide) h2 (hwf 2 _ z2 rfl q2) e_u64, slV 96 Tryd.underlying40 (by kernel_rfl) (by decide) (by kernel_rfl) (by decide) h3 (hwf 3 _ z3 rfl q3) e_info, slV 24 Tryd.underlying41 (by kernel_rfl) (by decide) (by kernel_rfl) (by decide) h4 (hwf 4 _ z4 rfl q4) e_row⟩
end
end Go.Proofs.YtgbkpkioijbgoaaDoor.show
