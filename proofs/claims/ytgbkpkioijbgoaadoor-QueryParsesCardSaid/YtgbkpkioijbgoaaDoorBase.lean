/- Plain facts that all walks of this seat lean on: new blocks, worlds below a block number, masks of integers. No condition. -/
import Derived.Test.YtgbkpkioijbgoaaDoorRows
import Derived.WalkKit
import Derived.ProofKit
import Derived.OpenShut
import Derived.Below
import Derived.BigQuiet
import Derived.Deep.QuietTactic
import Derived.Deep.RegionHeld3
import Derived.Deep.DrawnRows
import Derived.WalkLawsBesides
import Derived.WalkSpells
import Derived.Handy
import Derived.Outline
import Derived.Lib.Hide
import Derived.Maps.OwnSet
import Derived.Deep.LoopGhost
import Derived.Maps.OwnOps
namespace Go.Proofs.YtgbkpkioijbgoaaDoor
open Go.RowKit
set_option linter.unusedVariables false
set_option maxRecDepth 100000

theorem newCell (w : World) (cs : Array Value) (t : TypeId) (i : Nat) : (w.alloc (.cells cs t)).cell? ⟨w.heap.size, i, none⟩ = cs[i]? :=
  cell_of_row _ _ i cs t (0, 0) (heap_alloc_new w _)
theorem belowDrewN {B : Nat} {a w : World} (h : Below B a w) (n : Nat) : Below B a (w.drewN n) := ⟨h.os, h.tape, h.output, h.size, h.block⟩
theorem belowCont {w w1 w2 : World} (h : Below w.heap.size w w1) (hb : Below w1.heap.size w1 w2) : Below w.heap.size w w2 := h.trans (hb.mono h.size)
/-- behind a call that came after the boxing of a struct of two cells -/
theorem box2 {w w1 : World} {a b : Value} {t : TypeId} (hb : Below (w.alloc (.cells #[a, b] t)).heap.size (w.alloc (.cells #[a, b] t)) w1) :
    w1.cell? ⟨w.heap.size, 0, none⟩ = some a ∧ w1.cell? ⟨w.heap.size, 1, none⟩ = some b ∧ w.heap.size < w1.heap.size ∧ Below w.heap.size w w1 := by
  refine ⟨(hb.cell (by simp)).trans (newCell w _ t 0), (hb.cell (by simp)).trans (newCell w _ t 1), by have := hb.size; simp at this; omega, ((Below.refl _ _).alloc (Nat.le_refl _) _).trans (hb.mono (by simp))⟩

/-- two cells of a block below a world's end stay, behind a call -/
theorem keep2 {w w1 w2 : World} {g : Nat} {a b : Value} (c0 : w1.cell? ⟨g, 0, none⟩ = some a) (c1 : w1.cell? ⟨g, 1, none⟩ = some b) (hs : g < w1.heap.size) (hbb : Below w.heap.size w w1) (hb : Below w1.heap.size w1 w2) :
    w2.cell? ⟨g, 0, none⟩ = some a ∧ w2.cell? ⟨g, 1, none⟩ = some b ∧ g < w2.heap.size ∧ Below w.heap.size w w2 :=
  ⟨(hb.cell hs).trans c0, (hb.cell hs).trans c1, Nat.lt_of_lt_of_le hs hb.size, belowCont hbb hb⟩

/-- 'x & m', m being one below a power of two -/
theorem and_mask (x : Int) (k m : Nat) (hm : m + 1 = 2 ^ k) (hk : k < 63) : bits .and .i64 x (m : Int) = x % ((m : Int) + 1) := by
  have hp : 2 ^ k ≤ 2 ^ 62 := Nat.pow_le_pow_right (by omega) (by omega)
  have hmm : (BitVec.ofInt 64 (m : Int)).toNat = m := by
    rw [BitVec.ofInt_natCast, BitVec.toNat_ofNat]; exact Nat.mod_eq_of_lt (by omega)
  show IntKind.i64.wrap ((BitVec.ofInt 64 x &&& BitVec.ofInt 64 (m : Int)).toNat : Int) = _
  rw [BitVec.toNat_and, hmm, BitVec.toNat_ofInt, IntKind.wrap_i64]
  have h1 : ((x % ((2 ^ 64 : Nat) : Int)).toNat : Int) = x % ((2 ^ 64 : Nat) : Int) := Int.toNat_of_nonneg (Int.emod_nonneg _ (by decide))
  have h2 : (x % ((2 ^ 64 : Nat) : Int)) % ((2 ^ k : Nat) : Int) = x % ((2 ^ k : Nat) : Int) :=
    Int.emod_emod_of_dvd _ (Int.natCast_dvd_natCast.2 (Nat.pow_dvd_pow 2 (by omega)))
  have h3 : (((x % ((2 ^ 64 : Nat) : Int)).toNat &&& m : Nat) : Int) = x % ((m : Int) + 1) := by
    have e : m = 2 ^ k - 1 := by omega
    have e2 : (m : Int) + 1 = ((2 ^ k : Nat) : Int) := by rw [← hm]; rfl
    rw [e2, ← h2, e, Nat.and_two_pow_sub_one_eq_mod, Int.natCast_emod, h1]
  rw [h3]
  have a1 : 0 ≤ x % ((m : Int) + 1) := Int.emod_nonneg _ (by omega)
  have a2 : x % ((m : Int) + 1) < (m : Int) + 1 := Int.emod_lt_of_pos _ (by omega)
  omega
theorem and_3 (x : Int) : bits .and .i64 x 3 = x % 4 := and_mask x 2 3 (by decide) (by decide)
theorem and_7 (x : Int) : bits .and .i64 x 7 = x % 8 := and_mask x 3 7 (by decide) (by decide)
theorem and_15 (x : Int) : bits .and .i64 x 15 = x % 16 := and_mask x 4 15 (by decide) (by decide)
theorem and_31 (x : Int) : bits .and .i64 x 31 = x % 32 := and_mask x 5 31 (by decide) (by decide)
theorem and_63 (x : Int) : bits .and .i64 x 63 = x % 64 := and_mask x 6 63 (by decide) (by decide)
theorem and_127 (x : Int) : bits .and .i64 x 127 = x % 128 := and_mask x 7 127 (by decide) (by decide)
theorem and_255 (x : Int) : bits .and .i64 x 255 = x % 256 := and_mask x 8 255 (by decide) (by decide)
theorem and_1023 (x : Int) : bits .and .i64 x 1023 = x % 1024 := and_mask x 10 1023 (by decide) (by decide)

/-- w' is w but for the blocks of X, and new ones. -/
structure Keeps (X : List Nat) (w w' : World) : Prop where
  os : w'.os = w.os
  tape : w'.tape = w.tape
  output : w'.output = w.output
  size : w.heap.size ≤ w'.heap.size
  block : ∀ k, k < w.heap.size → k ∉ X → w'.heap[k]? = w.heap[k]?
namespace Keeps
variable {X Y : List Nat} {w w' w'' : World}
theorem refl (X : List Nat) (w : World) : Keeps X w w := ⟨rfl, rfl, rfl, Nat.le_refl _, fun _ _ _ => rfl⟩
theorem trans (h : Keeps X w w') (k : Keeps X w' w'') : Keeps X w w'' :=
  ⟨k.os.trans h.os, k.tape.trans h.tape, k.output.trans h.output, Nat.le_trans h.size k.size, fun i hi hx => (k.block i (Nat.lt_of_lt_of_le hi h.size) hx).trans (h.block i hi hx)⟩
theorem more (h : Keeps X w w') (hs : ∀ x, x ∈ X → x ∈ Y ∨ w.heap.size ≤ x) : Keeps Y w w' :=
  ⟨h.os, h.tape, h.output, h.size, fun i hi hx => h.block i hi (fun hX => by rcases hs i hX with h1 | h1; exact hx h1; omega)⟩
theorem ofBelow (h : Below w.heap.size w w') (X : List Nat) : Keeps X w w' := ⟨h.os, h.tape, h.output, h.size, fun i hi _ => h.block i hi⟩
theorem below (h : Keeps X w w') {B : Nat} (hB : B ≤ w.heap.size) (hx : ∀ x, x ∈ X → B ≤ x) : Below B w w' :=
  ⟨h.os, h.tape, h.output, h.size, fun i hi => h.block i (Nat.lt_of_lt_of_le hi hB) (fun hX => by have := hx i hX; omega)⟩
theorem drew (h : Keeps X w w') : Keeps X w w'.drew := ⟨h.os, h.tape, h.output, h.size, h.block⟩
theorem drewN (h : Keeps X w w') (n : Nat) : Keeps X w (w'.drewN n) := ⟨h.os, h.tape, h.output, h.size, h.block⟩
theorem alloc (h : Keeps X w w') (o : Obj) : Keeps X w (w'.alloc o) :=
  ⟨h.os, h.tape, h.output, Nat.le_trans h.size (by simp), fun i hi hx => (Below.heap_alloc w' o i (Nat.lt_of_lt_of_le hi h.size)).trans (h.block i hi hx)⟩
theorem setCell (h : Keeps X w w') {p : Addr} (hp : p.block ∈ X ∨ w.heap.size ≤ p.block) (u : Value) : Keeps X w (w'.setCell p u) :=
  ⟨h.os, h.tape, h.output, by simpa [World.setCell] using h.size, fun i hi hx => (Below.heap_setCell w' p u i (by rintro rfl; rcases hp with hp | hp; exact hx hp; omega)).trans (h.block i hi hx)⟩
theorem turned (h : Keeps X w w') {b : Nat} (hb : b ∈ X ∨ w.heap.size ≤ b) (ht : w'.mapTurned w'' b) : Keeps X w w'' :=
  have g := ht.grown
  ⟨g.os.trans h.os, g.tape.trans h.tape, g.output.trans h.output, Nat.le_trans h.size g.size, fun i hi hx => (g.block i (Nat.lt_of_lt_of_le hi h.size) (by intro e; injection e with e; subst e; rcases hb with hb | hb; exact hx hb; omega)).trans (h.block i hi hx)⟩
theorem cell (h : Keeps X w w') {p : Addr} (hp : p.block < w.heap.size) (hx : p.block ∉ X) : w'.cell? p = w.cell? p := World.cell?_of_block (w := w) (h.block _ hp hx)
end Keeps
theorem ownsMap_of_block {H : Type} {P : Program} {k : TypeId} {R : Value → Option (DataW H × List MemPlace)} {w w' : World} {b n : Nat} {D : DataW H} (h : w.ownsMap P k R b n D) (hb : w'.heap[b]? = w.heap[b]?) : w'.ownsMap P k R b n D := by
  obtain ⟨es, clock, h1, h2⟩ := h
  exact ⟨es, clock, hb.trans h1, h2⟩
theorem ownsMap_lt {H : Type} {P : Program} {k : TypeId} {R : Value → Option (DataW H × List MemPlace)} {w : World} {b n : Nat} {D : DataW H} (h : w.ownsMap P k R b n D) : b < w.heap.size := by
  obtain ⟨es, clock, h1, _⟩ := h
  exact (Array.getElem?_eq_some_iff.1 h1).1
theorem block_lt {w : World} {g : Nat} {o : Obj} (h : w.heap[g]? = some o) : g < w.heap.size := (Array.getElem?_eq_some_iff.1 h).1
theorem wf_i64 {a : Int} (h : -9223372036854775808 ≤ a ∧ a ≤ 9223372036854775807) : (Lit.int .i64 a).wf = true := by
  simp [Lit.wf, IntKind.min, IntKind.max, IntKind.signed, IntKind.bits]; omega
theorem of_wf_i64 {a : Int} (h : (Lit.int .i64 a).wf = true) : -9223372036854775808 ≤ a ∧ a ≤ 9223372036854775807 := by
  simpa [Lit.wf, IntKind.min, IntKind.max, IntKind.signed, IntKind.bits] using h
theorem ownsMap_tight {H : Type} {P : Program} {k : TypeId} {R : Value → Option (DataW H × List MemPlace)} {w : World} {b n : Nat} {D : DataW H} (h : w.ownsMap P k R b n D) : w.ownsMap P k R b (Maps.size D) D := by
  obtain ⟨es, clock, hb, F, hs, rfl⟩ := h
  exact ⟨es, clock, hb, F, by simp [Maps.size, length_sorted], rfl⟩
theorem belowKeeps {w w1 w2 : World} {X : List Nat} (h : Below w.heap.size w w1) (k : Keeps X w1 w2) (hx : ∀ x, x ∈ X → w.heap.size ≤ x) : Below w.heap.size w w2 := h.trans (k.below h.size hx)
end Go.Proofs.YtgbkpkioijbgoaaDoor
