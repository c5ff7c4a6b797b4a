/- The law NodePuts: its arguments laid open. Condition: what comes in is of bulk at most 1048576, so that no text is longer, and there are no more entries. -/
import Derived.Test.YtcdgnhhciccoeaaNodI
import Derived.Test.YtcdgnhhciccoeaaArgs2
import Derived.Test.YtcdgnhhciccoeaaRows
import Derived.WalkKit
import Derived.ProofKit
import Derived.OpenShut
import Derived.ChangeOld
import Derived.Below
import Derived.Lib.SmallJoins
import Derived.Deep.Slices
namespace Go.Proofs.Ytcdgnhhciccoeaa.nod
open Go.ChangeShapes Go.WideShapes Go.ChangeAt Go.RowKit Go.Joins
set_option linter.unusedVariables false
set_option linter.unusedSimpArgs false
set_option maxRecDepth 100000

theorem bulk_pos {H : Type} (d : DataW H) : 1 ≤ Rows.uptoBulk d := by
  cases d with
  | lit l => cases l <;> simp [Rows.uptoBulk]
  | nil => simp [Rows.uptoBulk]
  | ptr d => simp [Rows.uptoBulk]
  | slice a b => simp [Rows.uptoBulk]
  | agg a => simp [Rows.uptoBulk]
  | iface t d => simp [Rows.uptoBulk]
  | map e => simp [Rows.uptoBulk]
  | held h => simp [Rows.uptoBulk]
theorem bulk_mem {H : Type} : ∀ {l : List (DataW H)} {d : DataW H}, d ∈ l → Rows.uptoBulk d ≤ Rows.uptoBulkAll l
  | [], d, h => by cases h
  | x :: l, d, h => by
    rw [Rows.uptoBulkAll]
    rcases List.mem_cons.1 h with rfl | h
    · omega
    · have := bulk_mem h; omega
theorem bulk_len {H : Type} : ∀ (l : List (DataW H)), l.length ≤ Rows.uptoBulkAll l
  | [] => by simp
  | x :: l => by
    rw [Rows.uptoBulkAll, List.length_cons]
    have := bulk_len l
    have := bulk_pos x
    omega
theorem sliceArg_ofB {H : Type} {enc : TypeId × Value → H} {P : Program} {w : World} {spare : Nat → Bool} {t e : TypeId} {a : Option Addr} {len cap n : Nat} {d : DataW H} {p : List MemPlace} {Q : Nat → Value → Prop} {B : Nat}
    (ht : P.underlying t = some (.slice e)) (hn : P.cellsOf e = n) (hn0 : 0 < n) (hlt : ∀ x ∈ p, x.block < w.heap.size) (h : DataW.Trod enc P w 0 spare true t (.slice a len cap) d p) (hw : Rows.uptoBulk d ≤ B)
    (hQ : ∀ m cs' y, DataW.trod enc P w 0 spare true m e cs' = some y → Rows.uptoBulk y.1 ≤ B → ∀ j, j < n → ∃ v, cs'[j]? = some v ∧ Q j v) : SliceArg w a len n Q ∧ len ≤ B := by
  obtain ⟨fuel, hf⟩ := h
  rcases Go.Deep.open_slice ht hf with ⟨hcs, _⟩ | ⟨ad, l, c, m, k, D, Pl, hcs, _, hl, hm, hmm, hx, hi⟩
  · simp [Value.cells] at hcs
    exact ⟨⟨by omega, Or.inl hcs.2.1⟩, by omega⟩
  · simp [Value.cells] at hcs
    obtain ⟨rfl, rfl, rfl⟩ := hcs
    have hd : d = .slice ((List.range len).map D) ((List.range (m - len)).map fun j => D (len + j)) := congrArg Prod.fst hx
    rw [hd, Rows.uptoBulk] at hw
    have hbig : len ≤ B := by
      have := bulk_len ((List.range len).map D)
      simp at this; omega
    refine ⟨⟨by unfold maxLen at hm; omega, ?_⟩, hbig⟩
    rcases Nat.eq_zero_or_pos len with h0 | h0
    · exact Or.inl h0
    · right
      have hlm : len ≤ m := by rw [hmm]; split <;> omega
      obtain ⟨b, off, spot⟩ := ad
      have hcell : ∀ i, i < len → ∀ j, j < n → ∃ v, w.cell? ((⟨b, off, spot⟩ : Addr).add (i * n) |>.add j) = some v ∧ Q j v := by
        intro i hil j hj
        obtain ⟨cs', hc, htr⟩ := hi i (by omega)
        rw [hn] at hc
        obtain ⟨_, hclen, hat⟩ := World.cells?_some hc
        obtain ⟨v, hv, hq⟩ := hQ _ _ _ htr (by
          have := bulk_mem (l := (List.range len).map D) (List.mem_map.2 ⟨i, List.mem_range.2 hil, rfl⟩)
          simp only at this ⊢
          omega) j hj
        exact ⟨v, (hat j hj).trans hv, hq⟩
      have hspot : spot = none := by
        obtain ⟨v, hv, _⟩ := hcell 0 h0 0 hn0
        have := World.cell?_spot hv
        simpa [Addr.add] using this
      subst hspot
      refine ⟨b, off, rfl, ?_, fun i hil j hj => ?_⟩
      · obtain ⟨v, hv, _⟩ := hcell 0 h0 0 hn0
        rw [add_plain, add_plain] at hv
        simp only [World.cell?] at hv
        rcases Nat.lt_or_ge b w.heap.size with hb | hb
        · exact hb
        · rw [Array.getElem?_eq_none hb] at hv; simp at hv
      · obtain ⟨v, hv, hq⟩ := hcell i hil j hj
        rw [add_plain, add_plain] at hv
        exact ⟨v, hv, hq⟩
theorem elem_ent {H : Type} {enc : TypeId × Value → H} {W : World} {spare : Nat → Bool} {B : Nat} : ∀ m cs' y, DataW.trod enc Try.prog W 0 spare true m 43 cs' = some y → Rows.uptoBulk y.1 ≤ B → ∀ j, j < 2 → ∃ v, cs'[j]? = some v ∧ (fun _ v => ∃ x : ByteArray, v = .string x ∧ x.size ≤ B) j v := by
  intro m cs' y h hb j hj
  obtain ⟨xs, k, _, hy, hlen, hx, hf⟩ := DataW.trod_struct Try.underlying43 h
  rw [hy, Rows.uptoBulk] at hb
  have c1 : Try.prog.cellsOf 9 = 1 := by kernel_rfl
  match j, hj with
  | 0, _ =>
    have hz := hf 0 _ rfl
    obtain ⟨z, hz2⟩ : ∃ z, xs[0]? = some z := ⟨_, List.getElem?_eq_getElem (by rw [hx]; decide)⟩
    rw [hz2] at hz
    obtain ⟨x, ex, ez, wx⟩ := DataW.trod_string Try.underlying9 hz
    have hm := bulk_mem (l := xs.map (·.1)) (List.mem_map.2 ⟨z, List.mem_of_getElem? hz2, rfl⟩)
    rw [ez, Rows.uptoBulk, Array.length_toList] at hm
    exact ⟨_, take1 (by simpa [c1] using ex), x, rfl, by have : x.data.size = x.size := rfl; omega⟩
  | 1, _ =>
    have hz := hf 1 _ rfl
    obtain ⟨z, hz2⟩ : ∃ z, xs[1]? = some z := ⟨_, List.getElem?_eq_getElem (by rw [hx]; decide)⟩
    rw [hz2] at hz
    obtain ⟨x, ex, ez, wx⟩ := DataW.trod_string Try.underlying9 hz
    have hm := bulk_mem (l := xs.map (·.1)) (List.mem_map.2 ⟨z, List.mem_of_getElem? hz2, rfl⟩)
    rw [ez, Rows.uptoBulk, Array.length_toList] at hm
    exact ⟨_, take1 (by simpa [c1] using ex), x, rfl, by have : x.data.size = x.size := rfl; omega⟩
theorem arg_entsB {w : World} {a : Option Addr} {len cap B : Nat} (h : SliceArg w a len 2 (fun _ v => ∃ x : ByteArray, v = .string x ∧ x.size ≤ B)) (hlen : len ≤ 140737488355328) :
    ∃ l : List En, l.length = len ∧ Sl w (.slice a len cap) len (enC l) ∧ ∀ e ∈ l, e.k.size ≤ B ∧ e.v.size ≤ B := by
  obtain ⟨l, hl, hs⟩ := h.sl (cap := cap) (α := { e : En // e.k.size ≤ B ∧ e.v.size ≤ B }) (fun x => x.1.c) (fun x => rfl) (by decide) hlen (fun vs hv => by
    obtain ⟨x0, e0, h0⟩ := hv 0 (by decide)
    obtain ⟨x1, e1, h1⟩ := hv 1 (by decide)
    refine ⟨⟨⟨x0, x1⟩, h0, h1⟩, fun j hj => ?_⟩
    match j, hj with
    | 0, _ => rw [e0]; rfl
    | 1, _ => rw [e1]; rfl)
  refine ⟨l.map Subtype.val, by rw [List.length_map]; exact hl, ?_, fun e he => ?_⟩
  · have e : enC (l.map Subtype.val) = l.flatMap (fun x => x.1.c) := by unfold enC; rw [List.flatMap_map]
    rw [e]; exact hs
  · obtain ⟨x, _, rfl⟩ := List.mem_map.1 he; exact x.2
theorem nodePuts_walk (a0 : Option Addr) (len0 cap0 : Nat) (a1 : Bool) (a2 : Bool) (w : World) (w0 : SliceArg w a0 len0 2 (fun _ v => ∃ x : ByteArray, v = .string x ∧ x.size ≤ 1048576)) (z0 : len0 ≤ 1048576) (k0 : len0 ≤ cap0 ∧ cap0 ≤ 9223372036854775807) :
    Calls Try.prog 3 #[.slice a0 len0 cap0, .bool a1, .bool a2] w fun e w' => e = .returned (.bool true) ∧ Below w.heap.size w w' := by
  obtain ⟨l, hll, hsl, hsz⟩ := arg_entsB (cap := cap0) w0 (by omega)
  refine nodePuts_core _ a1 a2 w ?_
  subst hll
  cases a2 with
  | true => exact (made_any _ a1 l w hsl).mono fun e w' h => h.n
  | false => exact madeF_any a0 cap0 a1 l w hsl k0.1 (fun e he => by have := hsz e he; omega)
end Go.Proofs.Ytcdgnhhciccoeaa.nod
