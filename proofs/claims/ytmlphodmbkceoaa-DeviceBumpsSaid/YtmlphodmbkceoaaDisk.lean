/- Disks (package disk): none, and a new one. No condition. -/
import Derived.Test.YtmlphodmbkceoaaBytes2
import Derived.Test.YtmlphodmbkceoaaShelf
import Derived.BigRegion
namespace Go.Proofs.Ytmlphodmbkceoaa.disk
open Go.RowKit
attribute [local go_sem ↓] Go.wp_at_zero Go.wp_at_succ
attribute [local go_sem] str_size
set_option linter.unusedVariables false
set_option maxRecDepth 100000

theorem dead_nil (w : World) : Calls Try.prog 52 #[.pointer none] w fun e w' => e = .returned (.bool true) ∧ Below w.heap.size w w' := by
  go_enter Try.func52, Try.ntmps52
  go_wp2
  go_ret
  exact ⟨rfl, by go_grown⟩
theorem acts_nil (w : World) : Calls Try.prog 51 #[.pointer none] w fun e w' => e = .returned (.int .i64 0) ∧ Below w.heap.size w w' := by
  go_enter Try.func51, Try.ntmps51
  go_wp2
  go_ret
  exact ⟨rfl, by go_grown⟩
theorem act_nil (w : World) : Calls Try.prog 103 #[.pointer none] w fun e w' => e = .returned (.int .i64 7) ∧ Below w.heap.size w w' := by
  go_enter Try.func103, Try.ntmps103
  go_wp2_with (go_at_call 52; (with_reducible refine (dead_nil _).mono ?_); rintro e w1 ⟨rfl, b1⟩)
  go_ret
  exact ⟨rfl, b1⟩
theorem fail_nil (n : Int) (w : World) : Calls Try.prog 120 #[.pointer none, .int .u64 n] w fun e w' => e = .returned (.tuple #[]) ∧ Below w.heap.size w w' := by
  go_enter Try.func120, Try.ntmps120
  go_wp2_with (go_at_call 52; (with_reducible refine (dead_nil _).mono ?_); rintro e w1 ⟨rfl, b1⟩)
  go_returns
  exact ⟨rfl, b1⟩
theorem up_nil (w : World) : Calls Try.prog 50 #[.pointer none] w fun e w' => e = .returned (.tuple #[]) ∧ Below w.heap.size w w' := by
  go_enter Try.func50, Try.ntmps50
  go_wp2
  go_returns
  exact ⟨rfl, by go_grown⟩
theorem new_bad (n : Int) (h : n < 1 ∨ 4096 < n) (v : Value) (w : World) : Calls Try.prog 101 #[.int .i64 n, v] w fun e w' => e = .returned (.tuple #[.pointer none, .int .i64 1]) ∧ Below w.heap.size w w' := by
  by_cases h1 : n < 1
  · clear h
    go_enter Try.func101, Try.ntmps101
    go_wp2
    go_returns
    exact ⟨rfl, by go_grown⟩
  · have h2 : 4096 < n := by omega
    clear h
    go_enter Try.func101, Try.ntmps101
    go_wp2
    go_returns
    exact ⟨rfl, by go_grown⟩
/-- block q is a row of these texts -/
def StrBlk (w : World) (q : Nat) (l : List (List UInt8)) : Prop := w.heap[q]? = some (.cells (l.map fun s => Value.string (str s)).toArray 9 (0, 0))
section
variable {w w' : World} {q : Nat} {l : List (List UInt8)}
theorem StrBlk.keep (h : StrBlk w q l) {X : List Nat} (k : Keeps X w w') (hg : q ∉ X) : StrBlk w' q l := (k.block _ (block_lt h) hg).trans h
theorem StrBlk.below (h : StrBlk w q l) (k : Below w.heap.size w w') : StrBlk w' q l := h.keep (Keeps.ofBelow k []) (by simp)
theorem StrBlk.cell (h : StrBlk w q l) {i : Nat} {s : List UInt8} (hi : l[i]? = some s) : w.cell? ⟨q, i, none⟩ = some (.string (str s)) := by
  rw [cell_of_row _ _ i _ _ _ h]; simp [hi]
theorem StrBlk.free (h : StrBlk w q l) (i : Nat) : w.frozen? ⟨q, i, none⟩ = false := by unfold StrBlk at h; simp [World.frozen?, h]
theorem StrBlk.put (h : StrBlk w q l) (i : Nat) (s : List UInt8) : StrBlk (w.setCell ⟨q, i, none⟩ (.string (str s))) q (l.set i s) := by
  unfold StrBlk at h ⊢; simp only [World.setCell, Array.getElem?_modify, h]
  simp [List.map_set]
end
theorem made_strs (n : Nat) : madeCells (Value.string ⟨#[]⟩).cells n = ((List.replicate n ([] : List UInt8)).map fun s => Value.string (str s)).toArray := by
  apply Array.ext
  · simp [madeCells, Value.cells]
  · intro i h1 h2
    have e : i % 1 = 0 := Nat.mod_one i
    simp [madeCells, Value.cells, e]; rfl
theorem strBlk_made (w : World) (n : Nat) : StrBlk (w.alloc (.cells (madeCells (Value.string ⟨#[]⟩).cells n) 9)) w.heap.size (List.replicate n []) := by
  unfold StrBlk; rw [made_strs]; exact heap_alloc_new w _
theorem strInfo : (Try.prog.info? 9).map (fun i => (i.zero, i.size, i.bytes)) = some (some (.string ⟨#[]⟩), 1, 16) := by kernel_rfl
theorem run_make_strs (n : Nat) (hn : n ≤ 100000) (W : World) : (Instr.makeSlice 51 (.int .i64 (n : Int)) (.int .i64 (n : Int))).run Try.prog W = .ok (.slice (some ⟨W.heap.size, 0, none⟩) n n) (W.alloc (.cells (madeCells (Value.string ⟨#[]⟩).cells n) 9)) := by
  obtain ⟨i, hi, hz, hsz, hby⟩ := info_parts strInfo
  have h := run_make (P := Try.prog) W 51 9 i (.string ⟨#[]⟩) Try.underlying51 hi hz .i64 .i64 n n (by omega) (by omega) (by rw [hby]; omega) (by omega)
  rw [hsz] at h
  simpa only [Int.toNat_natCast, Nat.mul_one] using h
def Z512 : List UInt8 := List.replicate 512 0
theorem repeat_z : Lib.repeatL [0] 512 = Z512 := by decide +kernel
theorem repeat_any (w : World) : Calls Try.prog 118 #[.string ⟨#[0]⟩, .int .i64 512] w fun e w' => e = .returned (.string (str Z512)) ∧ Below w.heap.size w w' := by
  have h := Go.Proofs.Try.strings_Repeat ⟨#[0]⟩ 512 w (by decide) (by decide)
  have e : Lib.repeatL (⟨#[0]⟩ : ByteArray).data.toList 512 = Z512 := repeat_z
  rw [e] at h
  exact h
section
variable {H : Type}
/-- how a block that was written reads -/
def laidElem : Value → Option (DataW H × List MemPlace)
  | .agg cs => match cs.toList with
    | [.string s] => some (.lit (.string s.data.toList), [])
    | _ => none
  | _ => none
theorem laidElem_mk (s : ByteArray) : laidElem (H := H) (.agg #[.string s]) = some (.lit (.string s.data.toList), []) := rfl
theorem laidElem_inv {v : Value} {z : DataW H × List MemPlace} (h : laidElem v = some z) : ∃ s : ByteArray, v = .agg #[.string s] ∧ z = (.lit (.string s.data.toList), []) := by
  unfold laidElem at h
  split at h
  · split at h
    · rename_i cs _ s hs
      refine ⟨s, ?_, (Option.some.inj h).symm⟩
      have : cs = #[.string s] := by rw [← Array.toList_inj]; exact hs
      rw [this]
    · cases h
  · cases h
end
def at_ (x : Int) : Lit := .int .i64 x
theorem at_ne {x y : Int} (h : y ≠ x) : at_ y ≠ at_ x := by unfold at_; intro e; injection e with _ e; exact h e
/-- what a disk holds: what is sure, what was written since, in which order, how many acts, whether its power is off; no cut is planned -/
structure DSt where
  sure : List (List UInt8)
  f : Int → Option (List UInt8)
  row : List Nat
  acts : Nat
  dead : Bool
structure DiskAt (w : World) (B g q m k : Nat) (v : Value) (st : DSt) : Prop where
  blk : w.heap[g]? = some (.cells #[.slice (some ⟨q, 0, none⟩) st.sure.length st.sure.length, .map (some m), v, .map (some k), .int .i64 (st.acts : Int), .bool st.dead] 154 (0, 0))
  sure : StrBlk w q st.sure
  fresh : ∃ (D : DataW Unit) (c : Nat), w.ownsMap Try.prog 3 laidElem m c D ∧ c ≤ st.row.length ∧ (∀ x, Maps.has D (at_ x) = (st.f x).isSome) ∧ (∀ x t z, st.f x = some t → D.atKey (at_ x) z = .lit (.string t))
  cuts : ∃ D : DataW Unit, w.ownsMap Try.prog 3 (plainElem Try.prog 66) k 0 D ∧ ∀ x, Maps.has D (at_ x) = false
  row : w.ownsRow B 3 1 v st.row.length (st.row.map fun (n : Nat) => Value.int .i64 (n : Int))
  ge : B ≤ g ∧ B ≤ q ∧ B ≤ m ∧ B ≤ k
  ne : g ≠ q ∧ g ≠ m ∧ g ≠ k ∧ q ≠ m ∧ q ≠ k ∧ m ≠ k
section
variable {w w' : World} {B g q m k : Nat} {v : Value} {st : DSt}
theorem DiskAt.rowBlock (h : DiskAt w B g q m k v st) {b : Nat} (hb : v.ownBlock = some b) : B ≤ b ∧ b ≠ g ∧ b ≠ q ∧ b ≠ m ∧ b ≠ k ∧ b < w.heap.size := by
  rcases h.row.2 with ⟨rfl, _⟩ | ⟨r, cap, cur, rfl, hB, hr, _⟩
  · cases hb
  · cases hb
    obtain ⟨D, c, ⟨es, clock, hm, _⟩, _⟩ := h.fresh
    obtain ⟨D2, ⟨es2, clock2, hk, _⟩, _⟩ := h.cuts
    refine ⟨hB, fun e => ?_, fun e => ?_, fun e => ?_, fun e => ?_, block_lt hr⟩
    · subst e; have := hr.symm.trans h.blk; injection this with this; injection this with _ this; exact absurd this (by decide)
    · subst e; have := hr.symm.trans h.sure; injection this with this; injection this with _ this; exact absurd this (by decide)
    · subst e; have := hr.symm.trans hm; cases this
    · subst e; have := hr.symm.trans hk; cases this
theorem DiskAt.lt (h : DiskAt w B g q m k v st) : g < w.heap.size ∧ q < w.heap.size ∧ m < w.heap.size ∧ k < w.heap.size := by
  obtain ⟨D, c, hm, _⟩ := h.fresh
  obtain ⟨D2, hk, _⟩ := h.cuts
  exact ⟨block_lt h.blk, block_lt h.sure, ownsMap_lt hm, ownsMap_lt hk⟩
theorem ownsRow_turn {e : TypeId} {size n : Nat} {xs : List Value} (h : w.ownsRow B e size v n xs) (k : ∀ b, v.ownBlock = some b → w'.heap[b]? = w.heap[b]?) : w'.ownsRow B e size v n xs := by
  refine ⟨h.1, ?_⟩
  rcases h.2 with h0 | ⟨r, cap, cur, rfl, hb, hg, rr⟩
  · exact Or.inl h0
  · exact Or.inr ⟨r, cap, cur, rfl, hb, (k r rfl).trans hg, rr⟩
theorem DiskAt.below (h : DiskAt w B g q m k v st) (b : Below w.heap.size w w') : DiskAt w' B g q m k v st := by
  obtain ⟨D, c, h1, h2, h3, h4⟩ := h.fresh
  obtain ⟨D2, k1, k2⟩ := h.cuts
  obtain ⟨l1, l2, l3, l4⟩ := h.lt
  exact ⟨(b.block _ l1).trans h.blk, h.sure.below b, ⟨D, c, ownsMap_of_block h1 (b.block _ l3), h2, h3, h4⟩, ⟨D2, ownsMap_of_block k1 (b.block _ l4), k2⟩, ownsRow_turn h.row (fun r hr => b.block _ (h.rowBlock hr).2.2.2.2.2), h.ge, h.ne⟩
theorem DiskAt.cells (h : DiskAt w B g q m k v st) : w.cell? ⟨g, 0, none⟩ = some (.slice (some ⟨q, 0, none⟩) st.sure.length st.sure.length) ∧ w.cell? ⟨g, 1, none⟩ = some (.map (some m)) ∧ w.cell? ⟨g, 2, none⟩ = some v ∧ w.cell? ⟨g, 3, none⟩ = some (.map (some k)) ∧ w.cell? ⟨g, 4, none⟩ = some (.int .i64 (st.acts : Int)) ∧ w.cell? ⟨g, 5, none⟩ = some (.bool st.dead) :=
  ⟨cell_of_row _ _ 0 _ _ _ h.blk, cell_of_row _ _ 1 _ _ _ h.blk, cell_of_row _ _ 2 _ _ _ h.blk, cell_of_row _ _ 3 _ _ _ h.blk, cell_of_row _ _ 4 _ _ _ h.blk, cell_of_row _ _ 5 _ _ _ h.blk⟩
theorem DiskAt.free (h : DiskAt w B g q m k v st) (i : Nat) : w.frozen? ⟨g, i, none⟩ = false := by simp [World.frozen?, h.blk]
theorem DiskAt.setSure (h : DiskAt w B g q m k v st) (i : Nat) (s : List UInt8) : DiskAt (w.setCell ⟨q, i, none⟩ (.string (str s))) B g q m k v { st with sure := st.sure.set i s } := by
  obtain ⟨D, c, h1, h2, h3, h4⟩ := h.fresh
  obtain ⟨D2, k1, k2⟩ := h.cuts
  obtain ⟨n1, n2, n3, n4, n5, n6⟩ := h.ne
  have hb : ∀ b, b ≠ q → (w.setCell ⟨q, i, none⟩ (.string (str s))).heap[b]? = w.heap[b]? := fun b hb => Below.heap_setCell w _ _ b (fun e => hb e)
  refine ⟨?_, h.sure.put i s, ⟨D, c, ownsMap_of_block h1 (hb m (Ne.symm n4)), h2, h3, h4⟩, ⟨D2, ownsMap_of_block k1 (hb k (Ne.symm n5)), k2⟩, ownsRow_turn h.row (fun r hr => hb r (h.rowBlock hr).2.2.1), h.ge, h.ne⟩
  rw [hb g n1, h.blk]; simp
end
def blankSt (l : List (List UInt8)) : DSt := ⟨l, fun _ => none, [], 0, false⟩
theorem disk_made (w : World) (n : Nat) : DiskAt ((((w.alloc (.cells (madeCells (Value.string ⟨#[]⟩).cells n) 9)).alloc (.map #[] 0)).alloc (.map #[] 0)).alloc (.cells #[.slice (some ⟨w.heap.size, 0, none⟩) n n, .map (some (w.heap.size + 1)), .slice none 0 0, .map (some (w.heap.size + 1 + 1)), .int .i64 0, .bool false] 154))
    w.heap.size (w.heap.size + 1 + 1 + 1) w.heap.size (w.heap.size + 1) (w.heap.size + 1 + 1) (.slice none 0 0) (blankSt (List.replicate n [])) := by
  have a1 := strBlk_made w n
  have a2 := World.ownsMap_made (w.alloc (.cells (madeCells (Value.string ⟨#[]⟩).cells n) 9)) Try.prog 3 (laidElem (H := Unit))
  have a3 := World.ownsMap_made ((w.alloc (.cells (madeCells (Value.string ⟨#[]⟩).cells n) 9)).alloc (.map #[] 0)) Try.prog 3 (plainElem (H := Unit) Try.prog 66)
  have s1 : (w.alloc (.cells (madeCells (Value.string ⟨#[]⟩).cells n) 9)).heap.size = w.heap.size + 1 := by simp
  have s2 : ((w.alloc (.cells (madeCells (Value.string ⟨#[]⟩).cells n) 9)).alloc (.map #[] 0)).heap.size = w.heap.size + 1 + 1 := by simp
  have s3 : (((w.alloc (.cells (madeCells (Value.string ⟨#[]⟩).cells n) 9)).alloc (.map #[] 0)).alloc (.map #[] 0)).heap.size = w.heap.size + 1 + 1 + 1 := by simp
  generalize w.alloc (.cells (madeCells (Value.string ⟨#[]⟩).cells n) 9) = x1 at *
  rw [s1] at a2
  rw [s2] at a3
  have m1 : Below x1.heap.size x1 ((x1.alloc (.map #[] 0)).alloc (.map #[] 0)) := ((Below.refl _ x1).alloc (Nat.le_refl _) _).alloc (by simp) _
  have a1' : StrBlk ((x1.alloc (.map #[] 0)).alloc (.map #[] 0)) w.heap.size (List.replicate n []) := a1.below m1
  have a2' : ((x1.alloc (.map #[] 0)).alloc (.map #[] 0)).ownsMap Try.prog 3 (laidElem (H := Unit)) (w.heap.size + 1) 0 (.map []) := a2.alloc _
  generalize (x1.alloc (.map #[] 0)).alloc (.map #[] 0) = x3 at *
  have m3 : Below x3.heap.size x3 (x3.alloc (.cells #[.slice (some ⟨w.heap.size, 0, none⟩) n n, .map (some (w.heap.size + 1)), .slice none 0 0, .map (some (w.heap.size + 1 + 1)), .int .i64 0, .bool false] 154)) := (Below.refl _ x3).alloc (Nat.le_refl _) _
  have hg := heap_alloc_new x3 (.cells #[.slice (some ⟨w.heap.size, 0, none⟩) n n, .map (some (w.heap.size + 1)), .slice none 0 0, .map (some (w.heap.size + 1 + 1)), .int .i64 0, .bool false] 154)
  rw [s3] at hg
  refine ⟨?_, a1'.below m3, ⟨_, 0, a2'.alloc _, Nat.le_refl _, fun _ => rfl, fun _ _ _ h => by cases h⟩, ⟨_, a3.alloc _, fun _ => rfl⟩, World.ownsRow_nil _ _ _ _, ⟨by omega, Nat.le_refl _, by omega, by omega⟩, ⟨by omega, by omega, by omega, by omega, by omega, by omega⟩⟩
  rw [hg]; simp [blankSt]
end Go.Proofs.Ytmlphodmbkceoaa.disk
