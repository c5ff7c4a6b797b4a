/- Disks (package disk): none, and a new one. No condition. A new disk; acts, reading and writing (package disk), where no cut is planned. No condition. A device (package device) on a disk, where no cut is planned; the law DeviceInput. No condition. Keys and registers of other lengths are refused; no device is nothing: the law DeviceInput. No condition. Writing a disk's block, and the failing of its power, where no cut is planned (package disk). No condition. The failing of a disk's power where one block is not sure and its fate is none; the law DiskNone. No condition. No disk has no power; disks of other sizes there are none of: the law DiskNone. No condition. Writing a disk's block, whether it was written since or not; making all sure; the failing of its power with whatever fates, where no cut is planned (package disk). No condition. -/
import Derived.Test.YtcdcipfojfnblaaGreatDoorBytes2
import Derived.Test.YtcdcipfojfnblaaGreatDoorShelf
import Derived.BigRegion
import Derived.StillTailTactics
section
namespace Go.Proofs.YtcdcipfojfnblaaGreatDoor.disk
open Go.RowKit
attribute [local go_sem ↓] Go.wp_at_zero Go.wp_at_succ
attribute [local go_sem] str_size
set_option linter.unusedVariables false
set_option maxRecDepth 100000

theorem dead_nil (w : World) : Calls Tryz.prog 49 #[.pointer none] w fun e w' => e = .returned (.bool true) ∧ Below w.heap.size w w' := by
  go_enter Tryz.func49, Tryz.ntmps49
  go_wp2
  go_ret
  exact ⟨rfl, by go_grown⟩
theorem blocks_nil (w : World) : Calls Tryz.prog 77 #[.pointer none] w fun e w' => e = .returned (.int .i64 0) ∧ Below w.heap.size w w' := by
  go_enter Tryz.func77, Tryz.ntmps77
  go_wp2
  go_ret
  exact ⟨rfl, by go_grown⟩
theorem act_nil (w : World) : Calls Tryz.prog 40 #[.pointer none] w fun e w' => e = .returned (.int .i64 7) ∧ Below w.heap.size w w' := by
  go_enter Tryz.func40, Tryz.ntmps40
  go_wp2_with (go_at_call 49; (with_reducible refine (dead_nil _).mono ?_); rintro e w1 ⟨rfl, b1⟩)
  go_ret
  exact ⟨rfl, b1⟩
theorem read_nil (n : Int) (w : World) : Calls Tryz.prog 22 #[.pointer none, .int .i64 n] w fun e w' => e = .returned (.tuple #[.string ⟨#[]⟩, .int .i64 7]) ∧ Below w.heap.size w w' := by
  go_enter Tryz.func22, Tryz.ntmps22
  go_wp2_with (go_at_call 49; (with_reducible refine (dead_nil _).mono ?_); rintro e w1 ⟨rfl, b1⟩)
  go_returns
  exact ⟨rfl, b1⟩
theorem write_nil (n : Int) (s : ByteArray) (w : World) : Calls Tryz.prog 44 #[.pointer none, .int .i64 n, .string s] w fun e w' => e = .returned (.int .i64 7) ∧ Below w.heap.size w w' := by
  go_enter Tryz.func44, Tryz.ntmps44
  go_wp2_with (go_at_call 49; (with_reducible refine (dead_nil _).mono ?_); rintro e w1 ⟨rfl, b1⟩)
  go_ret
  exact ⟨rfl, b1⟩
theorem may_nil (n : Int) (s : ByteArray) (w : World) : Calls Tryz.prog 58 #[.pointer none, .int .i64 n, .string s] w fun e w' => e = .returned (.bool false) ∧ Below w.heap.size w w' := by
  by_cases h : 0 ≤ n
  · have h2 : ¬ n < 0 := by omega
    go_enter Tryz.func58, Tryz.ntmps58
    go_wp2_with (go_at_call 77; (with_reducible refine (blocks_nil _).mono ?_); rintro e w1 ⟨rfl, b1⟩)
    go_ret
    exact ⟨rfl, b1⟩
  · go_enter Tryz.func58, Tryz.ntmps58
    go_wp2
    go_ret
    exact ⟨rfl, by go_grown⟩
theorem poke_nil (n : Int) (s : ByteArray) (w : World) : Calls Tryz.prog 28 #[.pointer none, .int .i64 n, .string s] w fun e w' => e = .returned (.bool false) ∧ Below w.heap.size w w' := by
  go_enter Tryz.func28, Tryz.ntmps28
  go_wp2_with (go_at_call 58; (with_reducible refine (may_nil _ _ _).mono ?_); rintro e w1 ⟨rfl, b1⟩)
  go_ret
  exact ⟨rfl, b1⟩
theorem fail_nil (n : Int) (w : World) : Calls Tryz.prog 63 #[.pointer none, .int .u64 n] w fun e w' => e = .returned (.tuple #[]) ∧ Below w.heap.size w w' := by
  go_enter Tryz.func63, Tryz.ntmps63
  go_wp2_with (go_at_call 49; (with_reducible refine (dead_nil _).mono ?_); rintro e w1 ⟨rfl, b1⟩)
  go_returns
  exact ⟨rfl, b1⟩
theorem new_bad (n : Int) (h : n < 1 ∨ 4096 < n) (v : Value) (w : World) : Calls Tryz.prog 30 #[.int .i64 n, v] w fun e w' => e = .returned (.tuple #[.pointer none, .int .i64 1]) ∧ Below w.heap.size w w' := by
  by_cases h1 : n < 1
  · clear h
    go_enter Tryz.func30, Tryz.ntmps30
    go_wp2
    go_returns
    exact ⟨rfl, by go_grown⟩
  · have h2 : 4096 < n := by omega
    clear h
    go_enter Tryz.func30, Tryz.ntmps30
    go_wp2
    go_returns
    exact ⟨rfl, by go_grown⟩
/-- block q is a row of these texts -/
def StrBlk (w : World) (q : Nat) (l : List (List UInt8)) : Prop := w.heap[q]? = some (.cells (l.map fun s => Value.string (str s)).toArray 9 (0, 0))
section
variable {w w' : World} {q : Nat} {l : List (List UInt8)}
theorem StrBlk.keep (h : StrBlk w q l) {X : List Nat} (k : Keeps X w w') (hg : q ∉ X) : StrBlk w' q l := (k.block _ (block_lt h) hg).trans h
theorem StrBlk.below (h : StrBlk w q l) (k : Below w.heap.size w w') : StrBlk w' q l := h.keep (Keeps.ofBelow k []) (by simp)
theorem StrBlk.cell (h : StrBlk w q l) {i : Nat} {s : List UInt8} (hi : l[i]? = some s) : w.cell? ⟨q, i, none⟩ = some (.string (str s)) := by
  rw [cell_of_row _ _ i _ _ _ h]; simp [hi]
theorem StrBlk.free (h : StrBlk w q l) (i : Nat) : w.frozen? ⟨q, i, none⟩ = false := by unfold StrBlk at h; simp [World.frozen?, h]
theorem StrBlk.put (h : StrBlk w q l) (i : Nat) (s : List UInt8) : StrBlk (w.setCell ⟨q, i, none⟩ (.string (str s))) q (l.set i s) := by
  unfold StrBlk at h ⊢; simp only [World.setCell, Array.getElem?_modify, h]
  simp [List.map_set]
end
theorem made_strs (n : Nat) : madeCells (Value.string ⟨#[]⟩).cells n = ((List.replicate n ([] : List UInt8)).map fun s => Value.string (str s)).toArray := by
  apply Array.ext
  · simp [madeCells, Value.cells]
  · intro i h1 h2
    have e : i % 1 = 0 := Nat.mod_one i
    simp [madeCells, Value.cells, e]; rfl
theorem strBlk_made (w : World) (n : Nat) : StrBlk (w.alloc (.cells (madeCells (Value.string ⟨#[]⟩).cells n) 9)) w.heap.size (List.replicate n []) := by
  unfold StrBlk; rw [made_strs]; exact heap_alloc_new w _
theorem strInfo : (Tryz.prog.info? 9).map (fun i => (i.zero, i.size, i.bytes)) = some (some (.string ⟨#[]⟩), 1, 16) := by kernel_rfl
theorem run_make_strs (n : Nat) (hn : n ≤ 100000) (W : World) : (Instr.makeSlice 107 (.int .i64 (n : Int)) (.int .i64 (n : Int))).run Tryz.prog W = .ok (.slice (some ⟨W.heap.size, 0, none⟩) n n) (W.alloc (.cells (madeCells (Value.string ⟨#[]⟩).cells n) 9)) := by
  obtain ⟨i, hi, hz, hsz, hby⟩ := info_parts strInfo
  have h := run_make (P := Tryz.prog) W 107 9 i (.string ⟨#[]⟩) Tryz.underlying107 hi hz .i64 .i64 n n (by omega) (by omega) (by rw [hby]; omega) (by omega)
  rw [hsz] at h
  simpa only [Int.toNat_natCast, Nat.mul_one] using h
def Z512 : List UInt8 := List.replicate 512 0
theorem repeat_z : Lib.repeatL [0] 512 = Z512 := by decide +kernel
theorem repeat_any (w : World) : Calls Tryz.prog 59 #[.string ⟨#[0]⟩, .int .i64 512] w fun e w' => e = .returned (.string (str Z512)) ∧ Below w.heap.size w w' := by
  have h := Go.Proofs.Tryz.strings_Repeat ⟨#[0]⟩ 512 w (by decide) (by decide)
  have e : Lib.repeatL (⟨#[0]⟩ : ByteArray).data.toList 512 = Z512 := repeat_z
  rw [e] at h
  exact h
section
variable {H : Type}
/-- how a block that was written reads -/
def laidElem : Value → Option (DataW H × List MemPlace)
  | .agg cs => match cs.toList with
    | [.string s] => some (.lit (.string s.data.toList), [])
    | _ => none
  | _ => none
theorem laidElem_mk (s : ByteArray) : laidElem (H := H) (.agg #[.string s]) = some (.lit (.string s.data.toList), []) := rfl
theorem laidElem_inv {v : Value} {z : DataW H × List MemPlace} (h : laidElem v = some z) : ∃ s : ByteArray, v = .agg #[.string s] ∧ z = (.lit (.string s.data.toList), []) := by
  unfold laidElem at h
  split at h
  · split at h
    · rename_i cs _ s hs
      refine ⟨s, ?_, (Option.some.inj h).symm⟩
      have : cs = #[.string s] := by rw [← Array.toList_inj]; exact hs
      rw [this]
    · cases h
  · cases h
end
def at_ (x : Int) : Lit := .int .i64 x
theorem at_ne {x y : Int} (h : y ≠ x) : at_ y ≠ at_ x := by unfold at_; intro e; injection e with _ e; exact h e
/-- what a disk holds: what is sure, what was written since, in which order, how many acts, whether its power is off; no cut is planned -/
structure DSt where
  sure : List (List UInt8)
  f : Int → Option (List UInt8)
  row : List Nat
  acts : Nat
  dead : Bool
structure DiskAt (w : World) (B g q m k : Nat) (v : Value) (st : DSt) : Prop where
  blk : w.heap[g]? = some (.cells #[.slice (some ⟨q, 0, none⟩) st.sure.length st.sure.length, .map (some m), v, .map (some k), .int .i64 (st.acts : Int), .bool st.dead] 111 (0, 0))
  sure : StrBlk w q st.sure
  fresh : ∃ (D : DataW Unit) (c : Nat), w.ownsMap Tryz.prog 3 laidElem m c D ∧ c ≤ st.row.length ∧ (∀ x, Maps.has D (at_ x) = (st.f x).isSome) ∧ (∀ x t z, st.f x = some t → D.atKey (at_ x) z = .lit (.string t))
  cuts : ∃ D : DataW Unit, w.ownsMap Tryz.prog 3 (plainElem Tryz.prog 57) k 0 D ∧ ∀ x, Maps.has D (at_ x) = false
  row : w.ownsRow B 3 1 v st.row.length (st.row.map fun (n : Nat) => Value.int .i64 (n : Int))
  ge : B ≤ g ∧ B ≤ q ∧ B ≤ m ∧ B ≤ k
  ne : g ≠ q ∧ g ≠ m ∧ g ≠ k ∧ q ≠ m ∧ q ≠ k ∧ m ≠ k
section
variable {w w' : World} {B g q m k : Nat} {v : Value} {st : DSt}
theorem DiskAt.rowBlock (h : DiskAt w B g q m k v st) {b : Nat} (hb : v.ownBlock = some b) : B ≤ b ∧ b ≠ g ∧ b ≠ q ∧ b ≠ m ∧ b ≠ k ∧ b < w.heap.size := by
  rcases h.row.2 with ⟨rfl, _⟩ | ⟨r, cap, cur, rfl, hB, hr, _⟩
  · cases hb
  · cases hb
    obtain ⟨D, c, ⟨es, clock, hm, _⟩, _⟩ := h.fresh
    obtain ⟨D2, ⟨es2, clock2, hk, _⟩, _⟩ := h.cuts
    refine ⟨hB, fun e => ?_, fun e => ?_, fun e => ?_, fun e => ?_, block_lt hr⟩
    · subst e; have := hr.symm.trans h.blk; injection this with this; injection this with _ this; exact absurd this (by decide)
    · subst e; have := hr.symm.trans h.sure; injection this with this; injection this with _ this; exact absurd this (by decide)
    · subst e; have := hr.symm.trans hm; cases this
    · subst e; have := hr.symm.trans hk; cases this
theorem DiskAt.lt (h : DiskAt w B g q m k v st) : g < w.heap.size ∧ q < w.heap.size ∧ m < w.heap.size ∧ k < w.heap.size := by
  obtain ⟨D, c, hm, _⟩ := h.fresh
  obtain ⟨D2, hk, _⟩ := h.cuts
  exact ⟨block_lt h.blk, block_lt h.sure, ownsMap_lt hm, ownsMap_lt hk⟩
theorem ownsRow_turn {e : TypeId} {size n : Nat} {xs : List Value} (h : w.ownsRow B e size v n xs) (k : ∀ b, v.ownBlock = some b → w'.heap[b]? = w.heap[b]?) : w'.ownsRow B e size v n xs := by
  refine ⟨h.1, ?_⟩
  rcases h.2 with h0 | ⟨r, cap, cur, rfl, hb, hg, rr⟩
  · exact Or.inl h0
  · exact Or.inr ⟨r, cap, cur, rfl, hb, (k r rfl).trans hg, rr⟩
theorem DiskAt.below (h : DiskAt w B g q m k v st) (b : Below w.heap.size w w') : DiskAt w' B g q m k v st := by
  obtain ⟨D, c, h1, h2, h3, h4⟩ := h.fresh
  obtain ⟨D2, k1, k2⟩ := h.cuts
  obtain ⟨l1, l2, l3, l4⟩ := h.lt
  exact ⟨(b.block _ l1).trans h.blk, h.sure.below b, ⟨D, c, ownsMap_of_block h1 (b.block _ l3), h2, h3, h4⟩, ⟨D2, ownsMap_of_block k1 (b.block _ l4), k2⟩, ownsRow_turn h.row (fun r hr => b.block _ (h.rowBlock hr).2.2.2.2.2), h.ge, h.ne⟩
theorem DiskAt.cells (h : DiskAt w B g q m k v st) : w.cell? ⟨g, 0, none⟩ = some (.slice (some ⟨q, 0, none⟩) st.sure.length st.sure.length) ∧ w.cell? ⟨g, 1, none⟩ = some (.map (some m)) ∧ w.cell? ⟨g, 2, none⟩ = some v ∧ w.cell? ⟨g, 3, none⟩ = some (.map (some k)) ∧ w.cell? ⟨g, 4, none⟩ = some (.int .i64 (st.acts : Int)) ∧ w.cell? ⟨g, 5, none⟩ = some (.bool st.dead) :=
  ⟨cell_of_row _ _ 0 _ _ _ h.blk, cell_of_row _ _ 1 _ _ _ h.blk, cell_of_row _ _ 2 _ _ _ h.blk, cell_of_row _ _ 3 _ _ _ h.blk, cell_of_row _ _ 4 _ _ _ h.blk, cell_of_row _ _ 5 _ _ _ h.blk⟩
theorem DiskAt.free (h : DiskAt w B g q m k v st) (i : Nat) : w.frozen? ⟨g, i, none⟩ = false := by simp [World.frozen?, h.blk]
theorem DiskAt.setSure (h : DiskAt w B g q m k v st) (i : Nat) (s : List UInt8) : DiskAt (w.setCell ⟨q, i, none⟩ (.string (str s))) B g q m k v { st with sure := st.sure.set i s } := by
  obtain ⟨D, c, h1, h2, h3, h4⟩ := h.fresh
  obtain ⟨D2, k1, k2⟩ := h.cuts
  obtain ⟨n1, n2, n3, n4, n5, n6⟩ := h.ne
  have hb : ∀ b, b ≠ q → (w.setCell ⟨q, i, none⟩ (.string (str s))).heap[b]? = w.heap[b]? := fun b hb => Below.heap_setCell w _ _ b (fun e => hb e)
  refine ⟨?_, h.sure.put i s, ⟨D, c, ownsMap_of_block h1 (hb m (Ne.symm n4)), h2, h3, h4⟩, ⟨D2, ownsMap_of_block k1 (hb k (Ne.symm n5)), k2⟩, ownsRow_turn h.row (fun r hr => hb r (h.rowBlock hr).2.2.1), h.ge, h.ne⟩
  rw [hb g n1, h.blk]; simp
end
def blankSt (l : List (List UInt8)) : DSt := ⟨l, fun _ => none, [], 0, false⟩
theorem disk_made (w : World) (n : Nat) : DiskAt ((((w.alloc (.cells (madeCells (Value.string ⟨#[]⟩).cells n) 9)).alloc (.map #[] 0)).alloc (.map #[] 0)).alloc (.cells #[.slice (some ⟨w.heap.size, 0, none⟩) n n, .map (some (w.heap.size + 1)), .slice none 0 0, .map (some (w.heap.size + 1 + 1)), .int .i64 0, .bool false] 111))
    w.heap.size (w.heap.size + 1 + 1 + 1) w.heap.size (w.heap.size + 1) (w.heap.size + 1 + 1) (.slice none 0 0) (blankSt (List.replicate n [])) := by
  have a1 := strBlk_made w n
  have a2 := World.ownsMap_made (w.alloc (.cells (madeCells (Value.string ⟨#[]⟩).cells n) 9)) Tryz.prog 3 (laidElem (H := Unit))
  have a3 := World.ownsMap_made ((w.alloc (.cells (madeCells (Value.string ⟨#[]⟩).cells n) 9)).alloc (.map #[] 0)) Tryz.prog 3 (plainElem (H := Unit) Tryz.prog 57)
  have s1 : (w.alloc (.cells (madeCells (Value.string ⟨#[]⟩).cells n) 9)).heap.size = w.heap.size + 1 := by simp
  have s2 : ((w.alloc (.cells (madeCells (Value.string ⟨#[]⟩).cells n) 9)).alloc (.map #[] 0)).heap.size = w.heap.size + 1 + 1 := by simp
  have s3 : (((w.alloc (.cells (madeCells (Value.string ⟨#[]⟩).cells n) 9)).alloc (.map #[] 0)).alloc (.map #[] 0)).heap.size = w.heap.size + 1 + 1 + 1 := by simp
  generalize w.alloc (.cells (madeCells (Value.string ⟨#[]⟩).cells n) 9) = x1 at *
  rw [s1] at a2
  rw [s2] at a3
  have m1 : Below x1.heap.size x1 ((x1.alloc (.map #[] 0)).alloc (.map #[] 0)) := ((Below.refl _ x1).alloc (Nat.le_refl _) _).alloc (by simp) _
  have a1' : StrBlk ((x1.alloc (.map #[] 0)).alloc (.map #[] 0)) w.heap.size (List.replicate n []) := a1.below m1
  have a2' : ((x1.alloc (.map #[] 0)).alloc (.map #[] 0)).ownsMap Tryz.prog 3 (laidElem (H := Unit)) (w.heap.size + 1) 0 (.map []) := a2.alloc _
  generalize (x1.alloc (.map #[] 0)).alloc (.map #[] 0) = x3 at *
  have m3 : Below x3.heap.size x3 (x3.alloc (.cells #[.slice (some ⟨w.heap.size, 0, none⟩) n n, .map (some (w.heap.size + 1)), .slice none 0 0, .map (some (w.heap.size + 1 + 1)), .int .i64 0, .bool false] 111)) := (Below.refl _ x3).alloc (Nat.le_refl _) _
  have hg := heap_alloc_new x3 (.cells #[.slice (some ⟨w.heap.size, 0, none⟩) n n, .map (some (w.heap.size + 1)), .slice none 0 0, .map (some (w.heap.size + 1 + 1)), .int .i64 0, .bool false] 111)
  rw [s3] at hg
  refine ⟨?_, a1'.below m3, ⟨_, 0, a2'.alloc _, Nat.le_refl _, fun _ => rfl, fun _ _ _ h => by cases h⟩, ⟨_, a3.alloc _, fun _ => rfl⟩, World.ownsRow_nil _ _ _ _, ⟨by omega, Nat.le_refl _, by omega, by omega⟩, ⟨by omega, by omega, by omega, by omega, by omega, by omega⟩⟩
  rw [hg]; simp [blankSt]
end Go.Proofs.YtcdcipfojfnblaaGreatDoor.disk
end
section
namespace Go.Proofs.YtcdcipfojfnblaaGreatDoor.disk
open Go.RowKit
attribute [local go_sem ↓] Go.wp_at_zero Go.wp_at_succ
attribute [local go_sem] str_size
set_option linter.unusedVariables false
set_option maxRecDepth 100000

def filled (n i : Nat) : List (List UInt8) := List.replicate i Z512 ++ List.replicate (n - i) []
theorem filled_len (n i : Nat) (h : i ≤ n) : (filled n i).length = n := by simp [filled]; omega
theorem filled_step (n i : Nat) (h : i < n) : (filled n i).set i Z512 = filled n (i + 1) := by
  apply List.ext_getElem?
  intro j
  unfold filled
  rw [List.getElem?_set]
  by_cases hj : i = j
  · subst hj
    rw [if_pos rfl, if_pos (by simp; omega), List.getElem?_append_left (by simp), List.getElem?_replicate, if_pos (by omega)]
  · rw [if_neg hj]
    by_cases h1 : j < i
    · rw [List.getElem?_append_left (by simp; exact h1), List.getElem?_append_left (by simp; omega), List.getElem?_replicate, List.getElem?_replicate, if_pos h1, if_pos (by omega)]
    · rw [List.getElem?_append_right (by simp; omega), List.getElem?_append_right (by simp; omega), List.getElem?_replicate, List.getElem?_replicate]
      simp
      by_cases h2 : j < n
      · rw [if_pos (by omega), if_pos (by omega)]
      · rw [if_neg (by omega), if_neg (by omega)]
theorem filled_all (n : Nat) : filled n n = List.replicate n Z512 := by simp [filled]
set_option maxHeartbeats 1000000 in
theorem new_ok (n : Nat) (h1 : 1 ≤ n) (h2 : n ≤ 4096) (w : World) : Calls Tryz.prog 30 #[.int .i64 (n : Int), .slice none 0 0] w fun e w' => e = .returned (.tuple #[.pointer (some ⟨w.heap.size + 1 + 1 + 1, 0, none⟩), .int .i64 0]) ∧ DiskAt w' w.heap.size (w.heap.size + 1 + 1 + 1) w.heap.size (w.heap.size + 1) (w.heap.size + 1 + 1) (.slice none 0 0) (blankSt (List.replicate n Z512)) ∧ Below w.heap.size w w' := by
  have g1 : ¬ (n : Int) < 1 := by omega
  have g2 : ¬ (4096 : Int) < (n : Int) := by omega
  have hmk := fun W => run_make_strs n (by omega) W
  have hmm := @run_makeMap Tryz.prog
  have hdm := disk_made w n
  have hbm : Below w.heap.size w ((((w.alloc (.cells (madeCells (Value.string ⟨#[]⟩).cells n) 9)).alloc (.map #[] 0)).alloc (.map #[] 0)).alloc (.cells #[.slice (some ⟨w.heap.size, 0, none⟩) n n, .map (some (w.heap.size + 1)), .slice none 0 0, .map (some (w.heap.size + 1 + 1)), .int .i64 0, .bool false] 111)) := ((((Below.refl _ w).alloc (Nat.le_refl _) _).alloc (by simp) _).alloc (by simp; omega) _).alloc (by simp; omega) _
  replace hdm := Lib.hid hdm; replace hbm := Lib.hid hbm
  go_enter Tryz.func30, Tryz.ntmps30
  go_wp2_with (go_at_call 59; (with_reducible refine (repeat_any _).mono ?_); rintro e w1 ⟨rfl, b1⟩; have hD := hdm.out.below b1; have hB := belowCont hbm.out b1; obtain ⟨d0, d1, d2, d3, d4, d5⟩ := hD.cells; have hl0 : (List.replicate n ([] : List UInt8)).length = n := List.length_replicate ..; simp only [blankSt, hl0] at d0; replace hD := Lib.hid hD; replace hB := Lib.hid hB; clear b1)
  clear d0 d1 d2 d3 d4 d5 hl0
  go_loopg [29] n (fun kk s29 wr => ∃ i : Nat, s29 = .int .i64 (i : Int) ∧ i + kk = n ∧ DiskAt wr w.heap.size (w.heap.size + 1 + 1 + 1) w.heap.size (w.heap.size + 1) (w.heap.size + 1 + 1) (.slice none 0 0) (blankSt (filled n i)) ∧ Below w.heap.size w wr)
  case atStart => exact ⟨0, rfl, by omega, by have h : filled n 0 = List.replicate n [] := by simp [filled]
                                              rw [h]; exact hD.out, hB.out⟩
  case round =>
    clear hD hB hdm hbm
    obtain ⟨i, rfl, hik, hD, hB⟩ := hrel
    by_cases hi : i < n
    · obtain ⟨K, rfl⟩ : ∃ K : Nat, gk = K + 1 := ⟨gk - 1, by omega⟩
      obtain ⟨d0, d1, d2, d3, d4, d5⟩ := hD.cells
      have hl0 := filled_len n i (by omega)
      simp only [blankSt, hl0] at d0
      have e1 : (0 : Int) ≤ (i : Int) := by omega
      have e2 : (i : Int) < (n : Int) := by omega
      have hfr := hD.sure.free i
      obtain ⟨s0, hs0⟩ : ∃ s, (filled n i)[i]? = some s := ⟨_, List.getElem?_eq_getElem (by omega)⟩
      have hce := hD.sure.cell hs0
      have hn5 : i < 5000 := by omega
      have hD2 := hD.setSure i Z512
      have hst : { (blankSt (filled n i)) with sure := (blankSt (filled n i)).sure.set i Z512 } = blankSt (filled n (i + 1)) := by rw [← filled_step n i hi]; rfl
      rw [hst] at hD2
      replace hD := Lib.hid hD; replace hD2 := Lib.hid hD2; replace hB := Lib.hid hB; replace hn5 := Lib.hid hn5
      have hik2 := Lib.hid hik
      clear hs0 hl0 hi hik d1 d2 d3 d4 d5 hst
      go_wp2
      go_roundg K
      case measure => omega
      case rel => exact ⟨i + 1, by first | go_num | (have := hn5.out; go_num) | (have := hn5.out; simp; unfold wrap64; omega), by have := hik2.out; omega, hD2.out, hB.out.setCell (p := ⟨w.heap.size, i, none⟩) (Nat.le_refl _) _⟩
    · obtain rfl : i = n := by omega
      rw [filled_all] at hD
      have e2 : ¬ (i : Int) < (i : Int) := by omega
      replace hD := Lib.hid hD; replace hB := Lib.hid hB
      clear hik hi
      go_wp2
      go_loopg [42] 0 (fun kk s42 wx => s42 = .int .i64 0 ∧ wx = wr)
      case atStart => exact ⟨rfl, rfl⟩
      case round =>
        obtain ⟨rfl, rfl⟩ := hrel
        go_wp2
        go_returns
        exact ⟨rfl, hD.out, hB.out⟩
section
variable {w : World} {B g q m k : Nat} {v : Value} {st : DSt}
theorem dead_any (h : DiskAt w B g q m k v st) : Calls Tryz.prog 49 #[.pointer (some ⟨g, 0, none⟩)] w fun e w' => e = .returned (.bool st.dead) ∧ Below w.heap.size w w' := by
  obtain ⟨d0, d1, d2, d3, d4, d5⟩ := h.cells
  clear h d0 d1 d2 d3 d4
  go_enter Tryz.func49, Tryz.ntmps49
  go_wp2
  go_ret
  exact ⟨rfl, by go_grown⟩
theorem blocks_any (h : DiskAt w B g q m k v st) : Calls Tryz.prog 77 #[.pointer (some ⟨g, 0, none⟩)] w fun e w' => e = .returned (.int .i64 (st.sure.length : Int)) ∧ Below w.heap.size w w' := by
  obtain ⟨d0, d1, d2, d3, d4, d5⟩ := h.cells
  clear h d1 d2 d3 d4 d5
  go_enter Tryz.func77, Tryz.ntmps77
  go_wp2
  go_ret
  exact ⟨rfl, by go_grown⟩
theorem may_any (h : DiskAt w B g q m k v st) (n : Int) (s : ByteArray) (hl : st.sure.length ≤ 100000) : Calls Tryz.prog 58 #[.pointer (some ⟨g, 0, none⟩), .int .i64 n, .string s] w fun e w' => e = .returned (.bool (decide (0 ≤ n ∧ n < (st.sure.length : Int) ∧ s.size = 512))) ∧ Below w.heap.size w w' := by
  have hb := fun w' (b : Below w.heap.size w w') => blocks_any (h.below b)
  have hb0 := hb w (Below.refl _ _)
  clear h hb
  obtain ⟨L, hL⟩ : ∃ L, L = st.sure.length := ⟨_, rfl⟩
  rw [← hL] at hb0 ⊢
  clear hL hl
  by_cases h1 : 0 ≤ n
  · by_cases h2 : n < (L : Int)
    · by_cases h3 : s.size = 512
      · have h4 : (s.size : Int) = 512 := by omega
        have e : decide (0 ≤ n ∧ n < (L : Int) ∧ s.size = 512) = true := decide_eq_true ⟨h1, h2, h3⟩
        rw [e]
        clear e h3
        go_enter Tryz.func58, Tryz.ntmps58
        go_wp2_with (go_at_call 77; (with_reducible refine hb0.mono ?_); rintro e w1 ⟨rfl, b1⟩)
        go_ret
        exact ⟨rfl, b1⟩
      · have h4 : ¬ (s.size : Int) = 512 := by omega
        have e : decide (0 ≤ n ∧ n < (L : Int) ∧ s.size = 512) = false := decide_eq_false (fun hh => h3 hh.2.2)
        rw [e]
        clear e
        go_enter Tryz.func58, Tryz.ntmps58
        go_wp2_with (go_at_call 77; (with_reducible refine hb0.mono ?_); rintro e w1 ⟨rfl, b1⟩)
        go_ret
        exact ⟨by first | rfl | simp [h3, h4], b1⟩
    · have e : decide (0 ≤ n ∧ n < (L : Int) ∧ s.size = 512) = false := decide_eq_false (fun hh => h2 hh.2.1)
      rw [e]
      clear e
      go_enter Tryz.func58, Tryz.ntmps58
      go_wp2_with (go_at_call 77; (with_reducible refine hb0.mono ?_); rintro e w1 ⟨rfl, b1⟩)
      go_ret
      exact ⟨rfl, b1⟩
  · have e : decide (0 ≤ n ∧ n < (L : Int) ∧ s.size = 512) = false := decide_eq_false (fun hh => h1 hh.1)
    rw [e]
    clear e hb0
    go_enter Tryz.func58, Tryz.ntmps58
    go_wp2
    go_ret
    exact ⟨rfl, by go_grown⟩
theorem keyedInt : Maps.Keyed Tryz.prog 3 := Maps.int_keyed Tryz.underlying3
theorem zeroU64 (w : World) : (zeroValue 57).run Tryz.prog w = .ok (.int .u64 0) w := by kernel_rfl
theorem zeroLaid (w : World) : (zeroValue 127).run Tryz.prog w = .ok (.agg #[.string ⟨#[]⟩]) w := by kernel_rfl
theorem keyInt (x : Int) (hx : -9223372036854775808 ≤ x ∧ x ≤ 9223372036854775807) : keyOf Tryz.prog 3 (.int .i64 x) = some (at_ x) := Maps.keyOf_int_mk Tryz.underlying3 (wf_i64 hx)
/-- no cut is planned -/
theorem DiskAt.noCut (h : DiskAt w B g q m k v st) (x : Int) (hx : -9223372036854775808 ≤ x ∧ x ≤ 9223372036854775807) : (Instr.lookup 109 (.map (some k)) (.int .i64 x) true).run Tryz.prog w = .ok (.tuple #[.int .u64 0, .bool false]) w := by
  obtain ⟨D, h1, h2⟩ := h.cuts
  obtain ⟨u, ps, hr, hv⟩ := h1.look_ok keyedInt Tryz.underlying109 (zeroU64 w) (plainElem_int Tryz.underlying57 (by decide)) (keyInt x hx)
  obtain ⟨a, rfl, hz, _⟩ := plainElem_int_inv Tryz.underlying57 hv
  rw [Maps.atKey_of_not_has (h2 x)] at hz
  have ha : a = 0 := by injection hz with e1 _; injection e1 with e2; injection e2 with _ e3; exact e3.symm
  rw [h2, ha] at hr
  exact hr
theorem DiskAt.look (h : DiskAt w B g q m k v st) (x : Int) (hx : -9223372036854775808 ≤ x ∧ x ≤ 9223372036854775807) : ∃ s, (Instr.lookup 108 (.map (some m)) (.int .i64 x) true).run Tryz.prog w = .ok (.tuple #[.agg #[.string s], .bool (st.f x).isSome]) w ∧ ∀ t, st.f x = some t → s = str t := by
  obtain ⟨D, c, h1, h2, h3, h4⟩ := h.fresh
  obtain ⟨u, ps, hr, hv⟩ := h1.look_ok keyedInt Tryz.underlying108 (zeroLaid w) (laidElem_mk ⟨#[]⟩) (keyInt x hx)
  obtain ⟨s, rfl, hz⟩ := laidElem_inv hv
  rw [h3] at hr
  refine ⟨s, hr, fun t ht => ?_⟩
  have := h4 x t (.lit (.string (⟨#[]⟩ : ByteArray).data.toList)) ht
  rw [this] at hz
  have e : t = s.data.toList := by injection hz with e1 _; injection e1 with e2; injection e2
  rw [e]; rfl
theorem DiskAt.setActs (h : DiskAt w B g q m k v st) (a : Nat) (z : Int) (hz : z = (a : Int)) : DiskAt (w.setCell ⟨g, 4, none⟩ (.int .i64 z)) B g q m k v { st with acts := a } := by
  subst hz
  obtain ⟨D, c, h1, h2, h3, h4⟩ := h.fresh
  obtain ⟨D2, k1, k2⟩ := h.cuts
  obtain ⟨n1, n2, n3, n4, n5, n6⟩ := h.ne
  have hb : ∀ b, b ≠ g → (w.setCell ⟨g, 4, none⟩ (.int .i64 (a : Int))).heap[b]? = w.heap[b]? := fun b hb => Below.heap_setCell w _ _ b (fun e => hb e)
  refine ⟨?_, (hb q (Ne.symm n1)).trans h.sure, ⟨D, c, ownsMap_of_block h1 (hb m (Ne.symm n2)), h2, h3, h4⟩, ⟨D2, ownsMap_of_block k1 (hb k (Ne.symm n3)), k2⟩, ownsRow_turn h.row (fun r hr => hb r (h.rowBlock hr).2.1), h.ge, h.ne⟩
  simp [World.setCell, Array.getElem?_modify, h.blk]
theorem DiskAt.setDead (h : DiskAt w B g q m k v st) (b : Bool) : DiskAt (w.setCell ⟨g, 5, none⟩ (.bool b)) B g q m k v { st with dead := b } := by
  obtain ⟨D, c, h1, h2, h3, h4⟩ := h.fresh
  obtain ⟨D2, k1, k2⟩ := h.cuts
  obtain ⟨n1, n2, n3, n4, n5, n6⟩ := h.ne
  have hb : ∀ x, x ≠ g → (w.setCell ⟨g, 5, none⟩ (.bool b)).heap[x]? = w.heap[x]? := fun x hb => Below.heap_setCell w _ _ x (fun e => hb e)
  refine ⟨?_, (hb q (Ne.symm n1)).trans h.sure, ⟨D, c, ownsMap_of_block h1 (hb m (Ne.symm n2)), h2, h3, h4⟩, ⟨D2, ownsMap_of_block k1 (hb k (Ne.symm n3)), k2⟩, ownsRow_turn h.row (fun r hr => hb r (h.rowBlock hr).2.1), h.ge, h.ne⟩
  simp [World.setCell, Array.getElem?_modify, h.blk]
theorem act_any (h : DiskAt w B g q m k v st) (hd : st.dead = false) (ha : st.acts < 1000000) : Calls Tryz.prog 40 #[.pointer (some ⟨g, 0, none⟩)] w fun e w' => e = .returned (.int .i64 0) ∧ DiskAt w' B g q m k v { st with acts := st.acts + 1 } ∧ Keeps [g] w w' := by
  have hdead : ∀ w', DiskAt w' B g q m k v st → Calls Tryz.prog 49 #[.pointer (some ⟨g, 0, none⟩)] w' fun e w2 => e = .returned (.bool false) ∧ Below w'.heap.size w' w2 := fun w' h => by have := dead_any h; rw [hd] at this; exact this
  have hge := h.ge.1
  have hB : ∀ w', DiskAt w' B g q m k v st → B ≤ w'.heap.size := fun w' h => Nat.le_trans h.ge.1 (Nat.le_of_lt h.lt.1)
  have e1 : IntKind.i64.wrap ((st.acts : Int) + 1) = ((st.acts + 1 : Nat) : Int) := by rw [IntKind.wrap_i64]; omega
  have e2 : wrap64 ((st.acts : Int) + 1) = ((st.acts + 1 : Nat) : Int) := by unfold wrap64; omega
  have hset : ∀ w', DiskAt w' B g q m k v st → DiskAt (w'.setCell ⟨g, 4, none⟩ (.int .i64 ((st.acts : Int) + 1))) B g q m k v { st with acts := st.acts + 1 } := fun w' h => h.setActs (st.acts + 1) ((st.acts : Int) + 1) (by omega)
  have hlk : ∀ w', DiskAt w' B g q m k v { st with acts := st.acts + 1 } → (Instr.lookup 109 (.map (some k)) (.int .i64 ((st.acts : Int) + 1)) true).run Tryz.prog w' = .ok (.tuple #[.int .u64 0, .bool false]) w' := fun w' h => h.noCut ((st.acts : Int) + 1) (by omega)
  have hd0 := hdead w h
  have hbel := fun w' b => h.below (w' := w') b
  have hae : -9223372036854775808 ≤ (st.acts : Int) + 1 ∧ (st.acts : Int) + 1 ≤ 9223372036854775807 := by omega
  replace hset := Lib.hid hset; replace hlk := Lib.hid hlk; replace hbel := Lib.hid hbel; replace hB := Lib.hid hB
  have h0 := Lib.hid h
  clear h hdead hd
  go_enter Tryz.func40, Tryz.ntmps40
  go_wp2_with (go_at_call 49; (with_reducible refine hd0.mono ?_); rintro e w1 ⟨rfl, b1⟩; have h1 := hbel.out w1 b1; obtain ⟨d0, d1, d2, d3, d4, d5⟩ := h1.cells; have f4 := h1.free 4; have hs := hset.out w1 h1; obtain ⟨x0, x1, x2, x3, x4, x5⟩ := hs.cells; have l0 := hlk.out _ hs; have l1 := hlk.out _ (hs.below (Below.refl _ _).drew); have l2 := fun n => hlk.out _ (hs.below (belowDrewN (Below.refl _ _) n)); replace hs := Lib.hid hs; replace h1 := Lib.hid h1)
  go_quiet (fail)
  go_wp2_with fail
  go_ret
  exact ⟨rfl, hs.out.below (belowDrewN (Below.refl _ _) _), ((Keeps.ofBelow b1 [g]).setCell (p := ⟨g, 4, none⟩) (Or.inl (by simp)) _).drewN _⟩
/-- what is seen of a block -/
def DSt.see (st : DSt) (n : Nat) : List UInt8 := match st.f (n : Int) with | some t => t | none => st.sure.getD n []
theorem seen_any (h : DiskAt w B g q m k v st) (n : Nat) (hn : n < st.sure.length) (hl : st.sure.length ≤ 100000) : Calls Tryz.prog 50 #[.pointer (some ⟨g, 0, none⟩), .int .i64 (n : Int)] w fun e w' => e = .returned (.string (str (st.see n))) ∧ Below w.heap.size w w' := by
  obtain ⟨d0, d1, d2, d3, d4, d5⟩ := h.cells
  obtain ⟨s, hr, hs⟩ := h.look (n : Int) (by omega)
  have e1 : (0 : Int) ≤ (n : Int) := by omega
  have e2 : (n : Int) < (st.sure.length : Int) := by omega
  obtain ⟨t0, ht0⟩ : ∃ t, st.sure[n]? = some t := ⟨_, List.getElem?_eq_getElem hn⟩
  have hc := h.sure.cell ht0
  have hb1 := (Below.refl w.heap.size w).alloc (Nat.le_refl _) (.cells #[.string s] 127)
  have D1 := h.below hb1
  obtain ⟨x0, x1, x2, x3, x4, x5⟩ := D1.cells
  have xc := D1.sure.cell ht0
  cases hf : st.f (n : Int) with
  | some t =>
    have hsee : st.see n = t := by unfold DSt.see; rw [hf]
    obtain rfl := hs t hf
    rw [hf] at hr
    have hr : (Instr.lookup 108 (.map (some m)) (.int .i64 (n : Int)) true).run Tryz.prog w = .ok (.tuple #[.agg #[.string (str t)], .bool true]) w := hr
    rw [hsee]
    clear h hs hf hsee ht0 D1 hl hn
    replace hb1 := Lib.hid hb1
    go_enter Tryz.func50, Tryz.ntmps50
    go_wp2
    go_outline
    go_ret
    exact ⟨rfl, hb1.out⟩
  | none =>
    have hsee : st.see n = t0 := by unfold DSt.see; rw [hf]; simp [List.getD, ht0]
    rw [hf] at hr
    have hr : (Instr.lookup 108 (.map (some m)) (.int .i64 (n : Int)) true).run Tryz.prog w = .ok (.tuple #[.agg #[.string s], .bool false]) w := hr
    rw [hsee]
    clear h hs hf hsee ht0 D1 hl hn
    replace hb1 := Lib.hid hb1
    go_enter Tryz.func50, Tryz.ntmps50
    go_wp2
    go_outline
    go_ret
    exact ⟨rfl, hb1.out⟩
theorem read_any (h : DiskAt w B g q m k v st) (hd : st.dead = false) (n : Nat) (hn : n < st.sure.length) (hl : st.sure.length ≤ 100000) : Calls Tryz.prog 22 #[.pointer (some ⟨g, 0, none⟩), .int .i64 (n : Int)] w fun e w' => e = .returned (.tuple #[.string (str (st.see n)), .int .i64 0]) ∧ Below w.heap.size w w' := by
  have hdead : Calls Tryz.prog 49 #[.pointer (some ⟨g, 0, none⟩)] w fun e w2 => e = .returned (.bool false) ∧ Below w.heap.size w w2 := by have := dead_any h; rw [hd] at this; exact this
  have hseen : ∀ w', Below w.heap.size w w' → Calls Tryz.prog 50 #[.pointer (some ⟨g, 0, none⟩), .int .i64 (n : Int)] w' fun e w2 => e = .returned (.string (str (st.see n))) ∧ Below w'.heap.size w' w2 := fun w' b => seen_any (h.below b) n hn hl
  have hcell : ∀ w', Below w.heap.size w w' → w'.cell? ⟨g, 0, none⟩ = some (.slice (some ⟨q, 0, none⟩) st.sure.length st.sure.length) := fun w' b => (h.below b).cells.1
  have e1 : ¬ (n : Int) < 0 := by omega
  have e2 : ¬ (st.sure.length : Int) ≤ (n : Int) := by omega
  replace hdead := Lib.hid hdead; replace hseen := Lib.hid hseen; replace hcell := Lib.hid hcell
  clear h hd hn hl
  go_enter Tryz.func22, Tryz.ntmps22
  go_wp2_with (first
    | (go_at_call 49; (with_reducible refine hdead.out.mono ?_); rintro e w1 ⟨rfl, b1⟩; have d0 := hcell.out w1 b1; replace b1 := Lib.hid b1)
    | (go_at_call 50; (with_reducible refine (hseen.out _ b1.out).mono ?_); rintro e w2 ⟨rfl, b2⟩; replace b2 := Lib.hid (belowCont b1.out b2)))
  go_outline
  all_goals go_returns
  exact ⟨rfl, b2.out⟩
end
end Go.Proofs.YtcdcipfojfnblaaGreatDoor.disk
end
section
namespace Go.Proofs.YtcdcipfojfnblaaGreatDoor.disk
open Go.RowKit
attribute [local go_sem ↓] Go.wp_at_zero Go.wp_at_succ
attribute [local go_sem] str_size
set_option linter.unusedVariables false
set_option maxRecDepth 100000

def Z33 : List UInt8 := List.replicate 33 0
theorem repeat_z33 : Lib.repeatL [0] 33 = Z33 := by decide +kernel
theorem repeat33_any (w : World) : Calls Tryz.prog 59 #[.string ⟨#[0]⟩, .int .i64 33] w fun e w' => e = .returned (.string (str Z33)) ∧ Below w.heap.size w w' := by
  have h := Go.Proofs.Tryz.strings_Repeat ⟨#[0]⟩ 33 w (by decide) (by decide)
  have e : Lib.repeatL (⟨#[0]⟩ : ByteArray).data.toList 33 = Z33 := repeat_z33
  rw [e] at h
  exact h
def wordL (c : UInt8) : List UInt8 := List.replicate 33 c
theorem wordL_len (c : UInt8) : (wordL c).length = 33 := List.length_replicate ..
def part (c : UInt8) (i : Nat) : List UInt8 := List.replicate i c ++ List.replicate (33 - i) 0
theorem part_len (c : UInt8) (i : Nat) (h : i ≤ 33) : (part c i).length = 33 := by simp [part]; omega
theorem part_step (c : UInt8) (i : Nat) (h : i < 33) : (part c i).set i c = part c (i + 1) := by
  apply List.ext_getElem?
  intro j
  unfold part
  rw [List.getElem?_set]
  by_cases hj : i = j
  · subst hj
    rw [if_pos rfl, if_pos (by simp; omega), List.getElem?_append_left (by simp), List.getElem?_replicate, if_pos (by omega)]
  · rw [if_neg hj]
    by_cases h1 : j < i
    · rw [List.getElem?_append_left (by simp; exact h1), List.getElem?_append_left (by simp; omega), List.getElem?_replicate, List.getElem?_replicate, if_pos h1, if_pos (by omega)]
    · rw [List.getElem?_append_right (by simp; omega), List.getElem?_append_right (by simp; omega), List.getElem?_replicate, List.getElem?_replicate]
      simp
      by_cases h2 : j < 33
      · rw [if_pos (by omega), if_pos (by omega)]
      · rw [if_neg (by omega), if_neg (by omega)]
/-- a device in block d -/
def DevAt (w : World) (d : Nat) (key reg : ByteArray) (c : Nat) (g : Nat) : Prop := w.heap[d]? = some (.cells #[.string key, .string reg, .int .u64 (c : Int), .pointer (some ⟨g, 0, none⟩)] 99 (0, 0))
section
variable {w w' : World} {d : Nat} {key reg : ByteArray} {c g : Nat}
theorem DevAt.keep (h : DevAt w d key reg c g) {X : List Nat} (k : Keeps X w w') (hd : d ∉ X) : DevAt w' d key reg c g := (k.block _ (block_lt h) hd).trans h
theorem DevAt.below (h : DevAt w d key reg c g) (k : Below w.heap.size w w') : DevAt w' d key reg c g := h.keep (Keeps.ofBelow k []) (by simp)
theorem DevAt.cells (h : DevAt w d key reg c g) : w.cell? ⟨d, 0, none⟩ = some (.string key) ∧ w.cell? ⟨d, 1, none⟩ = some (.string reg) ∧ w.cell? ⟨d, 2, none⟩ = some (.int .u64 (c : Int)) ∧ w.cell? ⟨d, 3, none⟩ = some (.pointer (some ⟨g, 0, none⟩)) :=
  ⟨cell_of_row _ _ 0 _ _ _ h, cell_of_row _ _ 1 _ _ _ h, cell_of_row _ _ 2 _ _ _ h, cell_of_row _ _ 3 _ _ _ h⟩
theorem DevAt.free (h : DevAt w d key reg c g) (i : Nat) : w.frozen? ⟨d, i, none⟩ = false := by unfold DevAt at h; simp [World.frozen?, h]
theorem DevAt.put (h : DevAt w d key reg c g) (reg2 : ByteArray) (c2 : Nat) (z : Int) (hz : z = (c2 : Int)) : DevAt ((w.setCell ⟨d, 2, none⟩ (.int .u64 z)).setCell ⟨d, 1, none⟩ (.string reg2)) d key reg2 c2 g := by
  subst hz
  unfold DevAt at h ⊢
  simp [World.setCell, Array.getElem?_modify, h]
theorem counter_any (h : DevAt w d key reg c g) : Calls Tryz.prog 23 #[.pointer (some ⟨d, 0, none⟩)] w fun e w' => e = .returned (.int .u64 (c : Int)) ∧ Below w.heap.size w w' := by
  obtain ⟨d0, d1, d2, d3⟩ := h.cells
  clear h d0 d1 d3
  go_enter Tryz.func23, Tryz.ntmps23
  go_wp2
  go_ret
  exact ⟨rfl, by go_grown⟩
end
theorem counter_nil (w : World) : Calls Tryz.prog 23 #[.pointer none] w fun e w' => e = .returned (.int .u64 0) ∧ Below w.heap.size w w' := by
  go_enter Tryz.func23, Tryz.ntmps23
  go_wp2
  go_ret
  exact ⟨rfl, by go_grown⟩
theorem key_nil (w : World) : Calls Tryz.prog 42 #[.pointer none] w fun e w' => e = .returned (.string ⟨#[]⟩) ∧ Below w.heap.size w w' := by
  go_enter Tryz.func42, Tryz.ntmps42
  go_wp2
  go_ret
  exact ⟨rfl, by go_grown⟩
theorem bump_nil (s : ByteArray) (w : World) : Calls Tryz.prog 19 #[.pointer none, .string s] w fun e w' => e = .returned (.int .i64 1) ∧ Below w.heap.size w w' := by
  go_enter Tryz.func19, Tryz.ntmps19
  go_wp2
  go_ret
  exact ⟨rfl, by go_grown⟩
theorem bump_bad (s : ByteArray) (hs : ¬ s.size = 33) (d : Nat) (w : World) : Calls Tryz.prog 19 #[.pointer (some ⟨d, 0, none⟩), .string s] w fun e w' => e = .returned (.int .i64 1) ∧ Below w.heap.size w w' := by
  have h1 : ¬ (s.size : Int) = 33 := by omega
  have h2 : ((s.size : Int) == 33) = false := by simpa using h1
  clear hs
  go_enter Tryz.func19, Tryz.ntmps19
  go_wp2
  go_ret
  exact ⟨rfl, by go_grown⟩
theorem dnew_bad (key : ByteArray) (p : Option Addr) (h : ¬ key.size = 32 ∨ p = none) (w : World) : Calls Tryz.prog 31 #[.string key, .pointer p] w fun e w' => e = .returned (.tuple #[.pointer none, .int .i64 1]) ∧ Below w.heap.size w w' := by
  by_cases h1 : key.size = 32
  · have h2 : p = none := h.resolve_left (fun hh => hh h1)
    subst h2
    have h3 : (key.size : Int) = 32 := by omega
    clear h h1
    go_enter Tryz.func31, Tryz.ntmps31
    go_wp2
    go_returns
    exact ⟨rfl, by go_grown⟩
  · have h3 : ¬ (key.size : Int) = 32 := by omega
    have h4 : ((key.size : Int) == 32) = false := by simpa using h3
    clear h h1
    go_enter Tryz.func31, Tryz.ntmps31
    go_wp2
    go_returns
    exact ⟨rfl, by go_grown⟩
theorem dnew_ok (key : ByteArray) (g : Nat) (h : key.size = 32) (w : World) : Calls Tryz.prog 31 #[.string key, .pointer (some ⟨g, 0, none⟩)] w fun e w' => ∃ d, e = .returned (.tuple #[.pointer (some ⟨d, 0, none⟩), .int .i64 0]) ∧ w.heap.size ≤ d ∧ DevAt w' d key (str Z33) 0 g ∧ Below w.heap.size w w' := by
  have h3 : (key.size : Int) = 32 := by omega
  clear h
  go_enter Tryz.func31, Tryz.ntmps31
  go_wp2_with (go_at_call 59; (with_reducible refine (repeat33_any _).mono ?_); rintro e w1 ⟨rfl, b1⟩)
  go_outline
  go_returns
  exact ⟨_, rfl, b1.size, heap_alloc_new w1 _, b1.alloc b1.size _⟩
end Go.Proofs.YtcdcipfojfnblaaGreatDoor.disk
end
section
namespace Go.Proofs.YtcdcipfojfnblaaGreatDoor.disk
open Go.RowKit
attribute [local go_sem ↓] Go.wp_at_zero Go.wp_at_succ
attribute [local go_sem] str_size
set_option linter.unusedVariables false
set_option maxRecDepth 100000

section
variable {w w' : World} {d : Nat} {key reg : ByteArray} {c B g q m k : Nat} {v : Value} {st : DSt}
theorem DiskAt.keep (h : DiskAt w B g q m k v st) {X : List Nat} (kk : Keeps X w w') (hX : ∀ x, x ∈ X → x ≠ g ∧ x ≠ q ∧ x ≠ m ∧ x ≠ k ∧ v.ownBlock ≠ some x) : DiskAt w' B g q m k v st := by
  obtain ⟨D, c, h1, h2, h3, h4⟩ := h.fresh
  obtain ⟨D2, k1, k2⟩ := h.cuts
  obtain ⟨l1, l2, l3, l4⟩ := h.lt
  exact ⟨(kk.block _ l1 (fun hx => (hX _ hx).1 rfl)).trans h.blk, h.sure.keep kk (fun hx => (hX _ hx).2.1 rfl), ⟨D, c, ownsMap_of_block h1 (kk.block _ l3 (fun hx => (hX _ hx).2.2.1 rfl)), h2, h3, h4⟩, ⟨D2, ownsMap_of_block k1 (kk.block _ l4 (fun hx => (hX _ hx).2.2.2.1 rfl)), k2⟩,
    ownsRow_turn h.row (fun r hr => kk.block _ (h.rowBlock hr).2.2.2.2.2 (fun hx => (hX _ hx).2.2.2.2 hr)), h.ge, h.ne⟩
theorem dev_apart (h : DevAt w d key reg c g) (hD : DiskAt w B g q m k v st) : d ≠ g ∧ d ≠ q ∧ d ≠ m ∧ d ≠ k ∧ v.ownBlock ≠ some d := by
  obtain ⟨D, c, ⟨es, clock, hm, _⟩, _⟩ := hD.fresh
  obtain ⟨D2, ⟨es2, clock2, hk, _⟩, _⟩ := hD.cuts
  unfold DevAt at h
  refine ⟨fun e => ?_, fun e => ?_, fun e => ?_, fun e => ?_, fun e => ?_⟩
  · subst e; have := h.symm.trans hD.blk; injection this with this; injection this with _ this; exact absurd this (by decide)
  · subst e; have := h.symm.trans hD.sure; injection this with this; injection this with _ this; exact absurd this (by decide)
  · subst e; have := h.symm.trans hm; cases this
  · subst e; have := h.symm.trans hk; cases this
  · rcases hD.row.2 with ⟨rfl, _⟩ | ⟨r, cap, cur, rfl, hB, hr, _⟩
    · cases e
    · cases e; have := h.symm.trans hr; injection this with this; injection this with _ this; exact absurd this (by decide)
theorem bump_ok (h : DevAt w d key reg c g) (hD : DiskAt w B g q m k v st) (hd : st.dead = false) (ha : st.acts < 1000000) (hc : c < 1000000) (s : ByteArray) (hs : s.size = 33) :
    Calls Tryz.prog 19 #[.pointer (some ⟨d, 0, none⟩), .string s] w fun e w' => e = .returned (.int .i64 0) ∧ DevAt w' d key s (c + 1) g ∧ DiskAt w' B g q m k v { st with acts := st.acts + 1 } ∧ Keeps [d, g] w w' := by
  have hap := dev_apart h hD
  have hact := act_any hD hd ha
  have h1 : (s.size : Int) = 33 := by omega
  obtain ⟨d0, d1, d2, d3⟩ := h.cells
  have e1 : IntKind.u64.wrap ((c : Int) + 1) = (c : Int) + 1 := IntWalk.u64_in _ (by omega)
  have hkeep : ∀ w1, Keeps [g] w w1 → DevAt w1 d key reg c g := fun w1 kk => h.keep kk (by simp [hap.1])
  have hput : ∀ w1, Keeps [g] w w1 → DiskAt w1 B g q m k v { st with acts := st.acts + 1 } → DevAt ((w1.setCell ⟨d, 2, none⟩ (.int .u64 ((c : Int) + 1))).setCell ⟨d, 1, none⟩ (.string s)) d key s (c + 1) g ∧ DiskAt ((w1.setCell ⟨d, 2, none⟩ (.int .u64 ((c : Int) + 1))).setCell ⟨d, 1, none⟩ (.string s)) B g q m k v { st with acts := st.acts + 1 } ∧ Keeps [d, g] w ((w1.setCell ⟨d, 2, none⟩ (.int .u64 ((c : Int) + 1))).setCell ⟨d, 1, none⟩ (.string s)) := fun w1 kk hD1 => by
    have hdev := hkeep w1 kk
    have k1 : Keeps [d] w1 ((w1.setCell ⟨d, 2, none⟩ (.int .u64 ((c : Int) + 1))).setCell ⟨d, 1, none⟩ (.string s)) := ((Keeps.refl [d] w1).setCell (p := ⟨d, 2, none⟩) (Or.inl (by simp)) _).setCell (p := ⟨d, 1, none⟩) (Or.inl (by simp)) _
    exact ⟨hdev.put s (c + 1) _ (by omega), hD1.keep k1 (by intro x hx; simp at hx; subst hx; exact hap), (kk.more (by intro x hx; left; simp at hx; simp [hx])).trans (k1.more (by intro x hx; left; simp at hx; simp [hx]))⟩
  replace hact := Lib.hid hact; replace hkeep := Lib.hid hkeep; replace hput := Lib.hid hput
  clear h hD hd ha hc hs hap
  go_enter Tryz.func19, Tryz.ntmps19
  go_wp2_with (go_at_call 40; (with_reducible refine hact.out.mono ?_); rintro e w1 ⟨rfl, hD1, k1⟩; have hv := hkeep.out w1 k1; obtain ⟨x0, x1, x2, x3⟩ := hv.cells; have f1 := hv.free 1; have f2 := hv.free 2; obtain ⟨p1, p2, p3⟩ := hput.out w1 k1 hD1; replace p1 := Lib.hid p1; replace p2 := Lib.hid p2; replace p3 := Lib.hid p3; clear hv hD1 k1)
  go_outline
  go_ret
  exact ⟨rfl, p1.out, p2.out, p3.out⟩
end
def K32 : ByteArray := ⟨#[48, 49, 50, 51, 52, 53, 54, 55, 56, 57, 97, 98, 99, 100, 101, 102, 48, 49, 50, 51, 52, 53, 54, 55, 56, 57, 97, 98, 99, 100, 101, 102]⟩
end Go.Proofs.YtcdcipfojfnblaaGreatDoor.disk
end
section
namespace Go.Proofs.YtcdcipfojfnblaaGreatDoor.disk
open Go.RowKit
attribute [local go_sem ↓] Go.wp_at_zero Go.wp_at_succ
attribute [local go_sem] str_size
set_option linter.unusedVariables false
set_option maxRecDepth 100000

section
variable {w w' : World} {B g q m k : Nat} {v : Value} {st : DSt}
theorem newCell2 (w : World) (o : Obj) (cs : Array Value) (t : TypeId) (i : Nat) : ((w.alloc o).alloc (.cells cs t)).cell? ⟨w.heap.size + 1, i, none⟩ = cs[i]? := by
  have := newCell (w.alloc o) cs t i
  simp at this ⊢
  try exact this
theorem free_of_row {w : World} {g : Nat} {cs : Array Value} {t : TypeId} (h : w.heap[g]? = some (.cells cs t (0, 0))) (i : Nat) : w.frozen? ⟨g, i, none⟩ = false := by simp [World.frozen?, h]
theorem intInfo : (Tryz.prog.info? 3).map (fun i => (i.zero, i.size, i.bytes)) = some (some (.int .i64 0), 1, 8) := by kernel_rfl
/-- 'append(l, n)' of a number -/
theorem wpList_append_int {w : World} {ops : Array Oper} {rest : List Oper} {o : Oper} {a : Act} {Q : Exit → Act → World → Prop} (hgd : o.guard = none) (s x : Operand)
    (ho : o.op = .call { callee := .builtin .append, args := #[s, x], argTypes := #[51, 51] })
    (base : Nat) (v : Value) (n : Nat) (xs : List Value) (hs : a.eval s = v) (hown : w.ownsRow base 3 1 v n xs) (g c : Nat) (z : Int) (hx : a.eval x = .slice (some ⟨g, 0, none⟩) 1 c) (hc : w.cell? ⟨g, 0, none⟩ = some (.int .i64 z))
    (hl : n < 1000000) (hbase : base ≤ w.heap.size)
    (h : ∀ v' w', w'.ownsRow base 3 1 v' (n + 1) (xs ++ [.int .i64 z]) → w.grownBy w' v.ownBlock → wpList Tryz.prog ops Q rest (a.put o.dst v') w') : wpList Tryz.prog ops Q (o :: rest) a w := by
  obtain ⟨i, hi, hz, hsz, hby⟩ := info_parts intInfo
  refine wpList_append_own w hgd s x 51 ho base 3 i (.int .i64 0) 1 8 Tryz.underlying51 hi hz hsz hby rfl (by decide) v n xs hs hown ⟨g, 0, none⟩ 1 c [.int .i64 z] hx rfl ?_ ?_ ?_ ?_ hbase ?_
  · intro j u hj
    match j, hj with
    | 0, hj => simp at hj; subst hj; simpa [Addr.add] using hc
  · intro u hu; simp at hu; subst hu; rfl
  · unfold maxLen; omega
  · omega
  · intro v' w' h1 h2 _
    exact h v' w' h1 h2
def DSt.wrote (st : DSt) (n : Nat) (s : List UInt8) : DSt := ⟨st.sure, fun x => if x = (n : Int) then some s else st.f x, st.row ++ [n], st.acts, st.dead⟩
theorem DiskAt.written (h : DiskAt w B g q m k v st) {v2 : Value} {w6 w8 : World} {D : DataW Unit} {c : Nat} {n : Nat} {s : List UInt8} (h1 : w.ownsMap Tryz.prog 3 laidElem m c D) (h2 : c ≤ st.row.length) (h3 : ∀ x, Maps.has D (at_ x) = (st.f x).isSome) (h4 : ∀ x t z, st.f x = some t → D.atKey (at_ x) z = .lit (.string t))
    (hT : Maps.Tidy D) (hrow : w6.ownsRow B 3 1 v2 (st.row.length + 1) ((st.row.map fun (n : Nat) => Value.int .i64 (n : Int)) ++ [.int .i64 (n : Int)])) (hgrow : w.grownBy w6 v.ownBlock)
    (hown : w8.ownsMap Tryz.prog 3 laidElem m (c + 1) (D.put (at_ (n : Int)) (.lit (.string s)))) (ht : (w6.setCell ⟨g, 2, none⟩ v2).mapTurned w8 m) : DiskAt w8 B g q m k v2 (st.wrote n s) ∧ Below B w w8 := by
  obtain ⟨D2, k1, k2⟩ := h.cuts
  obtain ⟨l1, l2, l3, l4⟩ := h.lt
  obtain ⟨n1, n2, n3, n4, n5, n6⟩ := h.ne
  have hg6 : w6.heap[g]? = w.heap[g]? := hgrow.block g l1 (fun e => (h.rowBlock e.symm).2.1 rfl)
  have hq6 : w6.heap[q]? = w.heap[q]? := hgrow.block q l2 (fun e => (h.rowBlock e.symm).2.2.1 rfl)
  have hm6 : w6.heap[m]? = w.heap[m]? := hgrow.block m l3 (fun e => (h.rowBlock e.symm).2.2.2.1 rfl)
  have hk6 : w6.heap[k]? = w.heap[k]? := hgrow.block k l4 (fun e => (h.rowBlock e.symm).2.2.2.2.1 rfl)
  have hset : ∀ b, b ≠ g → (w6.setCell ⟨g, 2, none⟩ v2).heap[b]? = w6.heap[b]? := fun b hb => Below.heap_setCell w6 _ _ b (fun e => hb e)
  have hsz : (w6.setCell ⟨g, 2, none⟩ v2).heap.size = w6.heap.size := by simp [World.setCell]
  have gt := ht.grown
  have hs6 : w.heap.size ≤ w6.heap.size := hgrow.size
  have h8 : ∀ b, b < w6.heap.size → b ≠ m → w8.heap[b]? = (w6.setCell ⟨g, 2, none⟩ v2).heap[b]? := fun b hb hm => gt.block b (by rw [hsz]; exact hb) (by intro e; injection e with e; exact hm e)
  have hgB : w8.heap[g]? = some (.cells #[.slice (some ⟨q, 0, none⟩) st.sure.length st.sure.length, .map (some m), v2, .map (some k), .int .i64 (st.acts : Int), .bool st.dead] 111 (0, 0)) := by
    rw [h8 g (by omega) n2]
    simp [World.setCell, Array.getElem?_modify, hg6, h.blk]
  have hqB : StrBlk w8 q st.sure := by
    show w8.heap[q]? = _
    rw [h8 q (by omega) n4, hset q (Ne.symm n1), hq6]; exact h.sure
  have hrb : ∀ b, v2.ownBlock = some b → b < w6.heap.size ∧ b ≠ g ∧ b ≠ m := by
    intro b hb
    rcases hrow.2 with ⟨rfl, _⟩ | ⟨r, cap, cur, rfl, hB, hr, _⟩
    · cases hb
    · cases hb
      obtain ⟨es, clock, hmm, _⟩ := h1
      refine ⟨block_lt hr, fun e => ?_, fun e => ?_⟩
      · subst e; have := hr.symm.trans (hg6.trans h.blk); injection this with this; injection this with _ this; exact absurd this (by decide)
      · subst e; have := hr.symm.trans (hm6.trans hmm); cases this
  have hne : ∀ x : Int, x ≠ (n : Int) → at_ x ≠ at_ (n : Int) := fun x e => at_ne e
  refine ⟨⟨hgB, hqB, ⟨_, c + 1, hown, by simp [DSt.wrote]; exact h2, ?_, ?_⟩, ⟨D2, ownsMap_of_block k1 ((h8 k (by omega) n6.symm).trans ((hset k (Ne.symm n3)).trans hk6)), k2⟩, ?_, h.ge, h.ne⟩, ?_⟩
  · intro x
    by_cases e : x = (n : Int)
    · subst e; rw [Maps.has_put_same hT.isMap (show WideAt.IsKeyLit (at_ _) from trivial)]; simp [DSt.wrote]
    · rw [Maps.has_put_other (hne x e), h3]; simp [DSt.wrote, e]
  · intro x t z
    by_cases e : x = (n : Int)
    · subst e; intro hj; simp [DSt.wrote] at hj; subst hj; rw [Maps.atKey_put_same hT.isMap (show WideAt.IsKeyLit (at_ _) from trivial)]
    · intro hj; simp [DSt.wrote, e] at hj; rw [Maps.atKey_put_other (hne x e)]; exact h4 x t z hj
  · have : w8.ownsRow B 3 1 v2 (st.row.length + 1) ((st.row.map fun (n : Nat) => Value.int .i64 (n : Int)) ++ [.int .i64 (n : Int)]) := ownsRow_turn hrow (fun b hb => (h8 b (hrb b hb).1 (hrb b hb).2.2).trans (hset b (hrb b hb).2.1))
    simpa [DSt.wrote] using this
  · have hBs : B ≤ w.heap.size := Nat.le_trans h.ge.1 (Nat.le_of_lt l1)
    exact ((((Below.refl B w).grown hgrow hBs (fun b hb => (h.rowBlock hb).1)).setCell (p := ⟨g, 2, none⟩) h.ge.1 _).grown gt (by rw [hsz]; omega) (fun b hb => by injection hb with hb; subst hb; exact h.ge.2.2.1))
theorem rowShape {n : Nat} {xs : List Value} (h : w.ownsRow B 3 1 v n xs) : ∃ a c, v = .slice a n c := by
  rcases h.2 with ⟨rfl, h0⟩ | ⟨r, cap, cur, rfl, _⟩
  · exact ⟨none, 0, by rw [h0]⟩
  · exact ⟨_, cap, rfl⟩
theorem write_first (h : DiskAt w B g q m k v st) (hd : st.dead = false) (ha : st.acts < 1000000) (n : Nat) (s : List UInt8) (hn : n < st.sure.length) (hl : st.sure.length ≤ 100000) (hs : s.length = 512) (hf : st.f (n : Int) = none) (hr : st.row.length < 100000) :
    Calls Tryz.prog 44 #[.pointer (some ⟨g, 0, none⟩), .int .i64 (n : Int), .string (str s)] w fun e w' => e = .returned (.int .i64 0) ∧ (∃ v2, DiskAt w' B g q m k v2 (DSt.wrote { st with acts := st.acts + 1 } n s)) ∧ Below B w w' := by
  have hdead : Calls Tryz.prog 49 #[.pointer (some ⟨g, 0, none⟩)] w fun e w2 => e = .returned (.bool false) ∧ Below w.heap.size w w2 := by have := dead_any h; rw [hd] at this; exact this
  have hmay : ∀ w', Below w.heap.size w w' → Calls Tryz.prog 58 #[.pointer (some ⟨g, 0, none⟩), .int .i64 (n : Int), .string (str s)] w' fun e w2 => e = .returned (.bool true) ∧ Below w'.heap.size w' w2 := fun w' b => by
    have := may_any (h.below b) (n : Int) (str s) hl
    rw [decide_eq_true ⟨by omega, by omega, by rw [str_size]; exact hs⟩] at this
    exact this
  have hact : ∀ w', Below w.heap.size w w' → Calls Tryz.prog 40 #[.pointer (some ⟨g, 0, none⟩)] w' fun e w2 => e = .returned (.int .i64 0) ∧ DiskAt w2 B g q m k v { st with acts := st.acts + 1 } ∧ Keeps [g] w' w2 := fun w' b => act_any (h.below b) hd ha
  have hge := h.ge.1
  have hBw : B ≤ w.heap.size := Nat.le_trans h.ge.1 (Nat.le_of_lt h.lt.1)
  have hnr : -9223372036854775808 ≤ (n : Int) ∧ (n : Int) ≤ 9223372036854775807 := by omega
  have hkey := keyInt (n : Int) hnr
  replace hnr := Lib.hid hnr
  obtain ⟨ad, cap, hsh⟩ := rowShape h.row
  subst hsh
  replace hdead := Lib.hid hdead; replace hmay := Lib.hid hmay; replace hact := Lib.hid hact
  replace hr := Lib.hid hr; replace hge := Lib.hid hge; replace hBw := Lib.hid hBw
  have hf2 := Lib.hid hf
  clear h hd ha hn hl hs
  go_enter Tryz.func44, Tryz.ntmps44
  go_wp2_with (first
    | (go_at_call 49; (with_reducible refine hdead.out.mono ?_); rintro e w1 ⟨rfl, b1⟩; replace b1 := Lib.hid b1)
    | (go_at_call 58; (with_reducible refine (hmay.out _ b1.out).mono ?_); rintro e w2 ⟨rfl, b2⟩; replace b1 := Lib.hid (belowCont b1.out b2); clear b2)
    | (go_at_call 40; (with_reducible refine (hact.out _ b1.out).mono ?_); rintro e w3 ⟨rfl, hD, k3⟩; obtain ⟨d0, d1, d2, d3, d4, d5⟩ := hD.cells; obtain ⟨s0, hlk, -⟩ := hD.look (n : Int) hnr.out; rw [hf] at hlk; have hlk2 : (Instr.lookup 108 (.map (some m)) (.int .i64 (n : Int)) true).run Tryz.prog w3 = .ok (.tuple #[.agg #[.string s0], .bool false]) w3 := hlk; clear hlk; have D4 := hD.below ((Below.refl w3.heap.size w3).alloc (Nat.le_refl _) (.cells #[.string s0] 127)); obtain ⟨x0, x1, x2, x3, x4, x5⟩ := D4.cells; have f2 := D4.free 2; replace k3 := Lib.hid k3; replace hD := Lib.hid hD; replace D4 := Lib.hid D4)
    | (at_builtin; refine wpList_append_int rfl _ _ rfl B _ _ _ rfl (D4.out.below ((Below.refl _ _).alloc (Nat.le_refl _) _)).row _ _ _ rfl (newCell2 _ _ _ _ 0) ?ha ?hb ?_; (case ha => exact Nat.lt_trans hr.out (by decide)); (case hb => have q1 := (D4.out.lt).1; have q2 := hge.out; exact Nat.le_trans q2 (Nat.le_trans (Nat.le_of_lt q1) (by simp))); intro v2 w6 hrow2 hgrow2; obtain ⟨ad2, cap2, hsh2⟩ := rowShape hrow2; subst hsh2; have D5 := D4.out.below ((Below.refl _ _).alloc (Nat.le_refl _) (.cells #[.int .i64 (n : Int)] 3)); have hg6 := (hgrow2.block g D5.lt.1 (fun e => (D5.rowBlock e.symm).2.1 rfl)).trans D5.blk; have y1 := cell_of_row _ _ 1 _ _ _ hg6; have y2 := cell_of_row _ _ 2 _ _ _ hg6; have fz := free_of_row hg6 2; obtain ⟨D, c, q1, q2, q3, q4⟩ := D5.fresh; have hm6 := hgrow2.block m D5.lt.2.2.1 (fun e => (D5.rowBlock e.symm).2.2.2.1 rfl); have hm7 := ownsMap_of_block q1 ((Below.heap_setCell w6 ⟨g, 2, none⟩ (.slice ad2 (st.row.length + 1) cap2) m (fun e => D5.ne.2.1 e.symm)).trans hm6); replace q1 := Lib.hid q1; replace q2 := Lib.hid q2; replace q3 := Lib.hid q3; replace q4 := Lib.hid q4; replace hm7 := Lib.hid hm7; replace D5 := Lib.hid D5; replace hrow2 := Lib.hid hrow2; replace hgrow2 := Lib.hid hgrow2; clear hg6 hm6)
    | (at_mapUpdate; refine wpList_mapUpdate_in _ rfl _ _ _ 108 rfl 3 127 keyedInt Tryz.underlying108 laidElem m c D rfl hm7.out ?hroom _ _ (at_ (n : Int)) rfl rfl hkey _ [] (laidElem_mk _) ?_; (case hroom => have a1 := q2.out; have a2 := hr.out; unfold maxLen; simp at a1; omega); intro w8 hown8 hturn8; have hfin := D5.out.written q1.out q2.out q3.out q4.out (q1.out.tidy keyedInt) hrow2.out hgrow2.out hown8 hturn8; replace hfin := Lib.hid hfin; clear hown8 hturn8))
  go_outline
  go_ret
  exact ⟨rfl, ⟨_, hfin.out.1⟩, ((((b1.out.mono hBw.out).trans (k3.out.below (Nat.le_trans hBw.out b1.out.size) (by intro x hx; simp at hx; subst hx; exact hge.out))).alloc (Nat.le_trans hBw.out (Nat.le_trans b1.out.size k3.out.size)) _).alloc (Nat.le_trans (Nat.le_trans hBw.out (Nat.le_trans b1.out.size k3.out.size)) (by simp)) _).trans hfin.out.2⟩
end
end Go.Proofs.YtcdcipfojfnblaaGreatDoor.disk
end
section
namespace Go.Proofs.YtcdcipfojfnblaaGreatDoor.disk
open Go.RowKit
attribute [local go_sem ↓] Go.wp_at_zero Go.wp_at_succ
attribute [local go_sem] str_size
set_option linter.unusedVariables false
set_option maxRecDepth 100000

theorem fated_zero (a b : ByteArray) (w : World) : Calls Tryz.prog 84 #[.string a, .string b, .int .i64 0] w fun e w' => e = .returned (.string a) ∧ w' = w := by
  go_enter Tryz.func84, Tryz.ntmps84
  go_wp2
  go_ret
  exact ⟨rfl, rfl⟩
section
variable {w w' : World} {B g q m k : Nat} {v : Value} {st : DSt}
def DSt.settled (st : DSt) : DSt := ⟨st.sure, fun _ => none, [], st.acts, st.dead⟩
theorem settle_any (h : DiskAt w B g q m k v st) : Calls Tryz.prog 85 #[.pointer (some ⟨g, 0, none⟩)] w fun e w' => e = .returned (.tuple #[]) ∧ DiskAt w' B g q w.heap.size k (.slice none 0 0) st.settled ∧ Below B w w' := by
  have hmm := @run_makeMap Tryz.prog
  have hb : Below w.heap.size w (w.alloc (.map #[] 0)) := (Below.refl _ w).alloc (Nat.le_refl _) _
  have D1 := h.below hb
  obtain ⟨d0, d1, d2, d3, d4, d5⟩ := D1.cells
  have f1 := D1.free 1
  have f2 := D1.free 2
  have hm := World.ownsMap_made w Tryz.prog 3 (laidElem (H := Unit))
  have hge := h.ge.1
  have hBw : B ≤ w.heap.size := Nat.le_trans h.ge.1 (Nat.le_of_lt h.lt.1)
  have hfin : DiskAt (((w.alloc (.map #[] 0)).setCell ⟨g, 1, none⟩ (.map (some w.heap.size))).setCell ⟨g, 2, none⟩ (.slice none 0 0)) B g q w.heap.size k (.slice none 0 0) st.settled := by
    obtain ⟨D2, k1, k2⟩ := D1.cuts
    obtain ⟨l1, l2, l3, l4⟩ := h.lt
    obtain ⟨n1, n2, n3, n4, n5, n6⟩ := h.ne
    have hset : ∀ b, b ≠ g → (((w.alloc (.map #[] 0)).setCell ⟨g, 1, none⟩ (.map (some w.heap.size))).setCell ⟨g, 2, none⟩ (.slice none 0 0)).heap[b]? = (w.alloc (.map #[] 0)).heap[b]? := fun b hb => (Below.heap_setCell _ _ _ b (fun e => hb e)).trans (Below.heap_setCell _ _ _ b (fun e => hb e))
    refine ⟨?_, (hset q (Ne.symm n1)).trans D1.sure, ⟨_, 0, ownsMap_of_block hm (hset _ (by omega)), Nat.le_refl _, fun _ => rfl, fun _ _ _ h => by cases h⟩, ⟨D2, ownsMap_of_block k1 (hset k (Ne.symm n3)), k2⟩, World.ownsRow_nil _ _ _ _, ⟨h.ge.1, h.ge.2.1, hBw, h.ge.2.2.2⟩, ⟨n1, by omega, n3, by omega, n5, by omega⟩⟩
    simp [World.setCell, Array.getElem?_modify, D1.blk, DSt.settled]
  have hbel : Below B w (((w.alloc (.map #[] 0)).setCell ⟨g, 1, none⟩ (.map (some w.heap.size))).setCell ⟨g, 2, none⟩ (.slice none 0 0)) := (((Below.refl B w).alloc hBw _).setCell (p := ⟨g, 1, none⟩) hge _).setCell (p := ⟨g, 2, none⟩) hge _
  replace hfin := Lib.hid hfin; replace hbel := Lib.hid hbel
  clear h hb D1 hm hge hBw
  go_enter Tryz.func85, Tryz.ntmps85
  go_wp2
  go_outline
  go_end0
  exact ⟨rfl, hfin.out, hbel.out⟩
theorem DiskAt.get (h : DiskAt w B g q m k v st) (x : Int) (hx : -9223372036854775808 ≤ x ∧ x ≤ 9223372036854775807) {t : List UInt8} (ht : st.f x = some t) : (Instr.lookup 108 (.map (some m)) (.int .i64 x) false).run Tryz.prog w = .ok (.agg #[.string (str t)]) w := by
  obtain ⟨D, c, h1, h2, h3, h4⟩ := h.fresh
  obtain ⟨u, ps, hr, hv⟩ := h1.lookup keyedInt Tryz.underlying108 (zeroLaid w) (laidElem_mk ⟨#[]⟩) (keyInt x hx)
  obtain ⟨s, rfl, hz⟩ := laidElem_inv hv
  have := h4 x t (.lit (.string (⟨#[]⟩ : ByteArray).data.toList)) ht
  rw [this] at hz
  have e : t = s.data.toList := by injection hz with e1 _; injection e1 with e2; injection e2
  rw [e]; exact hr
theorem rowCell {r cap n : Nat} (h : w.ownsRow B 3 1 (.slice (some ⟨r, 0, none⟩) 1 cap) 1 [.int .i64 (n : Int)]) : w.cell? ⟨r, 0, none⟩ = some (.int .i64 (n : Int)) := by
  rcases h.2 with ⟨h0, _⟩ | ⟨r2, cap2, cur, hv, hB, hg, _, _, hsz, ht⟩
  · cases h0
  · cases hv
    rw [cell_of_row _ _ _ _ _ _ hg]
    have h1 : (cur.toList.take (1 * 1))[0]? = some (.int .i64 (n : Int)) := by rw [ht]; rfl
    rw [List.getElem?_take] at h1
    simpa using h1
def DSt.off (st : DSt) : DSt := ⟨st.sure, fun _ => none, [], st.acts, true⟩
theorem field_laid (W : World) (s : ByteArray) : (Instr.field 127 (.agg #[.string s]) 0).run Tryz.prog W = .ok (.string s) W := by kernel_rfl
theorem fail_zero (h : DiskAt w B g q m k v st) (hd : st.dead = false) (n : Nat) (hrow : st.row = [n]) (hn : n < st.sure.length) (hl : st.sure.length ≤ 100000) (t : List UInt8) (hf : st.f (n : Int) = some t) :
    Calls Tryz.prog 63 #[.pointer (some ⟨g, 0, none⟩), .int .u64 0] w fun e w' => e = .returned (.tuple #[]) ∧ (∃ m2, DiskAt w' B g q m2 k (.slice none 0 0) st.off) ∧ Below B w w' := by
  have hdead : Calls Tryz.prog 49 #[.pointer (some ⟨g, 0, none⟩)] w fun e w2 => e = .returned (.bool false) ∧ Below w.heap.size w w2 := by have := dead_any h; rw [hd] at this; exact this
  have hbel := fun w' (b : Below w.heap.size w w') => h.below b
  have hB : B ≤ w.heap.size := Nat.le_trans h.ge.1 (Nat.le_of_lt h.lt.1)
  obtain ⟨t0, ht0⟩ : ∃ t, st.sure[n]? = some t := ⟨_, List.getElem?_eq_getElem hn⟩
  have hsame : st.sure.set n t0 = st.sure := by
    apply List.ext_getElem?
    intro j
    rw [List.getElem?_set]
    by_cases hj : n = j
    · subst hj; rw [if_pos rfl, if_pos hn, ht0]
    · rw [if_neg hj]
  have hst : ({ st with sure := st.sure.set n t0 } : DSt) = st := by rw [hsame]
  obtain ⟨r, cap, hv⟩ : ∃ r cap, v = .slice (some ⟨r, 0, none⟩) 1 cap := by
    have hr := h.row
    rw [hrow] at hr
    rcases hr.2 with ⟨_, h0⟩ | ⟨r, cap, cur, hv, _⟩
    · simp at h0
    · exact ⟨r, cap, hv⟩
  subst hv
  have hrc : ∀ w', DiskAt w' B g q m k (.slice (some ⟨r, 0, none⟩) 1 cap) st → w'.cell? ⟨r, 0, none⟩ = some (.int .i64 (n : Int)) := fun w' h => by
    have hr := h.row
    rw [hrow] at hr
    exact rowCell hr
  have hnr : -9223372036854775808 ≤ (n : Int) ∧ (n : Int) ≤ 9223372036854775807 := by omega
  have hget : ∀ w', DiskAt w' B g q m k (.slice (some ⟨r, 0, none⟩) 1 cap) st → (Instr.lookup 108 (.map (some m)) (.int .i64 (n : Int)) false).run Tryz.prog w' = .ok (.agg #[.string (str t)]) w' := fun w' h => h.get _ hnr hf
  have e1 : (0 : Int) ≤ (n : Int) := by omega
  have e2 : (n : Int) < (st.sure.length : Int) := by omega
  have hsett : ∀ w', DiskAt w' B g q m k (.slice (some ⟨r, 0, none⟩) 1 cap) st → Calls Tryz.prog 85 #[.pointer (some ⟨g, 0, none⟩)] w' fun e w2 => e = .returned (.tuple #[]) ∧ DiskAt w2 B g q w'.heap.size k (.slice none 0 0) st.settled ∧ Below B w' w2 := fun w' h => settle_any h
  replace hdead := Lib.hid hdead; replace hbel := Lib.hid hbel; replace hrc := Lib.hid hrc; replace hnr := Lib.hid hnr; replace ht0 := Lib.hid ht0; replace hf := Lib.hid hf; replace hget := Lib.hid hget; replace hst := Lib.hid hst; replace hB := Lib.hid hB; replace hsett := Lib.hid hsett
  clear hrow hsame
  have hge := Lib.hid h.ge
  clear h
  go_enter Tryz.func63, Tryz.ntmps63
  go_wp2_with (go_at_call 49; (with_reducible refine hdead.out.mono ?_); rintro e w1 ⟨rfl, b1⟩; have D1 := hbel.out w1 b1; obtain ⟨d0, d1, d2, d3, d4, d5⟩ := D1.cells; replace D1 := Lib.hid D1; replace b1 := Lib.hid (b1.mono hB.out))
  clear d0 d1 d2 d3 d4 d5
  go_loopg [14] 1 (fun kk s14 wr => ∃ i : Nat, s14 = .int .i64 (i : Int) ∧ i + kk = 1 ∧ DiskAt wr B g q m k (.slice (some ⟨r, 0, none⟩) 1 cap) st ∧ Below B w wr)
  case atStart => exact ⟨0, rfl, rfl, D1.out, b1.out⟩
  case round =>
    clear D1 b1
    obtain ⟨i, rfl, hik, hD, hb⟩ := hrel
    obtain ⟨d0, d1, d2, d3, d4, d5⟩ := hD.cells
    by_cases hi : i = 0
    · subst hi
      obtain rfl : gk = 1 := by omega
      have hc := hrc.out wr hD
      have hg1 := hget.out wr hD
      have hg2 := hget.out wr.drew (hD.below (Below.refl _ _).drew)
      have hfr := hD.sure.free n
      have hs0 := hD.sure.cell ht0.out
      have hD2 := hD.setSure n t0
      rw [hst.out] at hD2
      replace hD := Lib.hid hD; replace hD2 := Lib.hid hD2; replace hb := Lib.hid hb
      have hfl := fun s => field_laid wr.drew s
      go_upto_region 5 with fail
      go_outline
      refine wp_region_still_tail 23 (by kernel_rfl) (by kernel_rfl) ?_
      simp only [List.take_succ_cons, List.take_zero, List.drop_succ_cons, List.drop_zero]
      change wpStill _ _ wr.drew _ _ _
      repeat still_step
      have hbz : bits BinOp.and IntKind.u64 0 3 = 0 := by decide
      simp only [hbz]
      repeat still_step
      still_call (fated_zero _ _ _)
      repeat still_step
      try refine wpStill_nil ?_
      change wpList _ _ _ _ _ wr.drew
      go_wp2
      go_outline
      go_roundg 0
      case measure => omega
      case rel => exact ⟨1, rfl, rfl, hD2.out.below (Below.refl _ _).drew, (hb.out.setCell (p := ⟨q, n, none⟩) hge.out.2.1 _).drew⟩
    · obtain rfl : i = 1 := by omega
      clear hget hrc hf ht0 hi hik e1 e2
      clear d0 d1 d2 d3 d4 d5
      replace hD := Lib.hid hD; replace hb := Lib.hid hb
      go_wp2_with (go_at_call 85; (with_reducible refine (hsett.out _ hD.out).mono ?_); rintro e w5 ⟨rfl, hE, b5⟩; have f5 := hE.free 5; have hF := hE.setDead true; obtain ⟨d0, d1, d2, d3, d4, d5⟩ := hE.cells; replace hF := Lib.hid hF; replace b5 := Lib.hid (hb.out.trans b5); clear hE)
      go_end0
      exact ⟨rfl, ⟨_, hF.out⟩, b5.out.setCell (p := ⟨g, 5, none⟩) hge.out.1 _⟩
end
end Go.Proofs.YtcdcipfojfnblaaGreatDoor.disk
end
section
namespace Go.Proofs.YtcdcipfojfnblaaGreatDoor.disk
open Go.RowKit
attribute [local go_sem ↓] Go.wp_at_zero Go.wp_at_succ
attribute [local go_sem] str_size
set_option linter.unusedVariables false
set_option maxRecDepth 100000

def blockL (c : UInt8) : List UInt8 := List.replicate 512 c
theorem blockL_len (c : UInt8) : (blockL c).length = 512 := List.length_replicate ..
def piece (c : UInt8) (i : Nat) : List UInt8 := List.replicate i c ++ List.replicate (512 - i) 0
theorem piece_len (c : UInt8) (i : Nat) (h : i ≤ 512) : (piece c i).length = 512 := by simp [piece]; omega
theorem piece_step (c : UInt8) (i : Nat) (h : i < 512) : (piece c i).set i c = piece c (i + 1) := by
  apply List.ext_getElem?
  intro j
  unfold piece
  rw [List.getElem?_set]
  by_cases hj : i = j
  · subst hj
    rw [if_pos rfl, if_pos (by simp; omega), List.getElem?_append_left (by simp), List.getElem?_replicate, if_pos (by omega)]
  · rw [if_neg hj]
    by_cases h1 : j < i
    · rw [List.getElem?_append_left (by simp; exact h1), List.getElem?_append_left (by simp; omega), List.getElem?_replicate, List.getElem?_replicate, if_pos h1, if_pos (by omega)]
    · rw [List.getElem?_append_right (by simp; omega), List.getElem?_append_right (by simp; omega), List.getElem?_replicate, List.getElem?_replicate]
      simp
      by_cases h2 : j < 512
      · rw [if_pos (by omega), if_pos (by omega)]
      · rw [if_neg (by omega), if_neg (by omega)]
/-- the states that 'awake' goes through: written; behind the failure -/
def wokeSt (s : List UInt8) : DSt := DSt.wrote { (blankSt (List.replicate 2 Z512)) with acts := 1 } 0 s
theorem wokeSt_f (s : List UInt8) : (wokeSt s).f ((0 : Nat) : Int) = some s := by simp [wokeSt, DSt.wrote]
theorem wokeSt_see (s : List UInt8) : (wokeSt s).see 0 = s := by unfold DSt.see; rw [wokeSt_f]
theorem wokeSt_row (s : List UInt8) : (wokeSt s).row = [0] := rfl
theorem wokeSt_len (s : List UInt8) : (wokeSt s).sure.length = 2 := rfl
theorem wokeSt_dead (s : List UInt8) : (wokeSt s).dead = false := rfl
def backSt (s : List UInt8) : DSt := { (wokeSt s).off with dead := false }
theorem backSt_len (s : List UInt8) : (backSt s).sure.length = 2 := rfl
theorem backSt_dead (s : List UInt8) : (backSt s).dead = false := rfl
theorem backSt_see (s : List UInt8) : (backSt s).see 0 = Z512 := rfl
theorem z512_block : Z512 = blockL 0 := rfl
end Go.Proofs.YtcdcipfojfnblaaGreatDoor.disk
end
section
namespace Go.Proofs.YtcdcipfojfnblaaGreatDoor.disk
open Go.RowKit
attribute [local go_sem ↓] Go.wp_at_zero Go.wp_at_succ
attribute [local go_sem] str_size str_append
set_option linter.unusedVariables false
set_option maxRecDepth 100000

theorem ownsMap_size {H : Type} {P : Program} {k : TypeId} {R : Value → Option (DataW H × List MemPlace)} {w : World} {b n : Nat} {D : DataW H} (h : w.ownsMap P k R b n D) : Maps.size D ≤ n := by
  obtain ⟨es, clock, hb, F, hs, rfl⟩ := h
  simpa [Maps.size, length_sorted] using hs
section
variable {w w' : World} {B g q m k : Nat} {v : Value} {st : DSt}
def DSt.over (st : DSt) (n : Nat) (s : List UInt8) : DSt := ⟨st.sure, fun x => if x = (n : Int) then some s else st.f x, st.row, st.acts, st.dead⟩
theorem DiskAt.rewritten (h : DiskAt w B g q m k v st) {w8 : World} {D : DataW Unit} {c : Nat} {n : Nat} {s : List UInt8} (h1 : w.ownsMap Tryz.prog 3 laidElem m c D) (h2 : c ≤ st.row.length) (h3 : ∀ x, Maps.has D (at_ x) = (st.f x).isSome) (h4 : ∀ x t z, st.f x = some t → D.atKey (at_ x) z = .lit (.string t))
    (hf : (st.f (n : Int)).isSome = true) (hown : w8.ownsMap Tryz.prog 3 laidElem m (c + 1) (D.put (at_ (n : Int)) (.lit (.string s)))) (ht : w.mapTurned w8 m) : DiskAt w8 B g q m k v (st.over n s) ∧ Below B w w8 := by
  obtain ⟨D2, k1, k2⟩ := h.cuts
  obtain ⟨l1, l2, l3, l4⟩ := h.lt
  obtain ⟨n1, n2, n3, n4, n5, n6⟩ := h.ne
  have hT := h1.tidy keyedInt
  have gt := ht.grown
  have h8 : ∀ b, b < w.heap.size → b ≠ m → w8.heap[b]? = w.heap[b]? := fun b hb hm => gt.block b hb (by intro e; injection e with e; exact hm e)
  have hne : ∀ x : Int, x ≠ (n : Int) → at_ x ≠ at_ (n : Int) := fun x e => at_ne e
  have hz : Maps.size (D.put (at_ (n : Int)) (.lit (.string s))) ≤ st.row.length := by
    rw [Maps.size_put hT, h3, hf, if_pos rfl]
    exact Nat.le_trans (ownsMap_size h1) h2
  refine ⟨⟨(h8 g l1 n2).trans h.blk, (h8 q l2 n4).trans h.sure, ⟨_, _, ownsMap_tight hown, hz, ?_, ?_⟩, ⟨D2, ownsMap_of_block k1 (h8 k l4 n6.symm), k2⟩, ownsRow_turn h.row (fun b hb => h8 b (h.rowBlock hb).2.2.2.2.2 (h.rowBlock hb).2.2.2.1), h.ge, h.ne⟩, ?_⟩
  · intro x
    by_cases e : x = (n : Int)
    · subst e; rw [Maps.has_put_same hT.isMap (show WideAt.IsKeyLit (at_ _) from trivial)]; simp [DSt.over]
    · rw [Maps.has_put_other (hne x e), h3]; simp [DSt.over, e]
  · intro x t z
    by_cases e : x = (n : Int)
    · subst e; intro hj; simp [DSt.over] at hj; subst hj; rw [Maps.atKey_put_same hT.isMap (show WideAt.IsKeyLit (at_ _) from trivial)]
    · intro hj; simp [DSt.over, e] at hj; rw [Maps.atKey_put_other (hne x e)]; exact h4 x t z hj
  · have hBs : B ≤ w.heap.size := Nat.le_trans h.ge.1 (Nat.le_of_lt l1)
    exact (Below.refl B w).grown gt hBs (fun b hb => by injection hb with hb; subst hb; exact h.ge.2.2.1)
theorem write_again (h : DiskAt w B g q m k v st) (hd : st.dead = false) (ha : st.acts < 1000000) (n : Nat) (s : List UInt8) (hn : n < st.sure.length) (hl : st.sure.length ≤ 100000) (hs : s.length = 512) (t0 : List UInt8) (hf : st.f (n : Int) = some t0) (hr : st.row.length < 100000) :
    Calls Tryz.prog 44 #[.pointer (some ⟨g, 0, none⟩), .int .i64 (n : Int), .string (str s)] w fun e w' => e = .returned (.int .i64 0) ∧ DiskAt w' B g q m k v (DSt.over { st with acts := st.acts + 1 } n s) ∧ Below B w w' := by
  have hdead : Calls Tryz.prog 49 #[.pointer (some ⟨g, 0, none⟩)] w fun e w2 => e = .returned (.bool false) ∧ Below w.heap.size w w2 := by have := dead_any h; rw [hd] at this; exact this
  have hmay : ∀ w', Below w.heap.size w w' → Calls Tryz.prog 58 #[.pointer (some ⟨g, 0, none⟩), .int .i64 (n : Int), .string (str s)] w' fun e w2 => e = .returned (.bool true) ∧ Below w'.heap.size w' w2 := fun w' b => by
    have := may_any (h.below b) (n : Int) (str s) hl
    rw [decide_eq_true ⟨by omega, by omega, by rw [str_size]; exact hs⟩] at this
    exact this
  have hact : ∀ w', Below w.heap.size w w' → Calls Tryz.prog 40 #[.pointer (some ⟨g, 0, none⟩)] w' fun e w2 => e = .returned (.int .i64 0) ∧ DiskAt w2 B g q m k v { st with acts := st.acts + 1 } ∧ Keeps [g] w' w2 := fun w' b => act_any (h.below b) hd ha
  have hge := h.ge.1
  have hBw : B ≤ w.heap.size := Nat.le_trans h.ge.1 (Nat.le_of_lt h.lt.1)
  have hnr : -9223372036854775808 ≤ (n : Int) ∧ (n : Int) ≤ 9223372036854775807 := by omega
  have hkey := keyInt (n : Int) hnr
  replace hnr := Lib.hid hnr
  replace hdead := Lib.hid hdead; replace hmay := Lib.hid hmay; replace hact := Lib.hid hact
  replace hr := Lib.hid hr; replace hge := Lib.hid hge; replace hBw := Lib.hid hBw
  have hf2 := Lib.hid hf
  clear h hd ha hn hl hs
  go_enter Tryz.func44, Tryz.ntmps44
  go_wp2_with (first
    | (go_at_call 49; (with_reducible refine hdead.out.mono ?_); rintro e w1 ⟨rfl, b1⟩; replace b1 := Lib.hid b1)
    | (go_at_call 58; (with_reducible refine (hmay.out _ b1.out).mono ?_); rintro e w2 ⟨rfl, b2⟩; replace b1 := Lib.hid (belowCont b1.out b2); clear b2)
    | (go_at_call 40; (with_reducible refine (hact.out _ b1.out).mono ?_); rintro e w3 ⟨rfl, hD, k3⟩; obtain ⟨d0, d1, d2, d3, d4, d5⟩ := hD.cells; obtain ⟨s0, hlk, -⟩ := hD.look (n : Int) hnr.out; rw [hf] at hlk; have hlk2 : (Instr.lookup 108 (.map (some m)) (.int .i64 (n : Int)) true).run Tryz.prog w3 = .ok (.tuple #[.agg #[.string s0], .bool true]) w3 := hlk; clear hlk; have D4 := hD.below ((Below.refl w3.heap.size w3).alloc (Nat.le_refl _) (.cells #[.string s0] 127)); obtain ⟨x0, x1, x2, x3, x4, x5⟩ := D4.cells; obtain ⟨D, c, q1, q2, q3, q4⟩ := D4.fresh; replace q1 := Lib.hid q1; replace q2 := Lib.hid q2; replace q3 := Lib.hid q3; replace q4 := Lib.hid q4; replace k3 := Lib.hid k3; replace hD := Lib.hid hD; replace D4 := Lib.hid D4)
    | (at_mapUpdate; go_loud (refine wpList_mapUpdate_in _ rfl _ _ _ 108 rfl 3 127 keyedInt Tryz.underlying108 laidElem m c D rfl q1.out ?hroom _ _ (at_ (n : Int)) rfl rfl hkey _ [] (laidElem_mk _) ?_; (case hroom => have a1 := q2.out; have a2 := hr.out; unfold maxLen; (try simp only [] at a1); omega); intro w8 hown8 hturn8; have hfin := D4.out.rewritten q1.out q2.out q3.out q4.out (by show (st.f (n : Int)).isSome = true; rw [hf2.out]; rfl) hown8 hturn8; replace hfin := Lib.hid hfin; clear hown8 hturn8)))
  go_ret
  exact ⟨rfl, hfin.out.1, (((b1.out.mono hBw.out).trans (k3.out.below (Nat.le_trans hBw.out b1.out.size) (by intro x hx; simp at hx; subst hx; exact hge.out))).alloc (Nat.le_trans hBw.out (Nat.le_trans b1.out.size k3.out.size)) _).trans hfin.out.2⟩
/-- a block that is written -/
def DSt.wr (st : DSt) (n : Nat) (s : List UInt8) : DSt := ⟨st.sure, fun x => if x = (n : Int) then some s else st.f x, if (st.f (n : Int)).isSome then st.row else st.row ++ [n], st.acts + 1, st.dead⟩
theorem write_any (h : DiskAt w B g q m k v st) (hd : st.dead = false) (ha : st.acts < 1000000) (n : Nat) (s : List UInt8) (hn : n < st.sure.length) (hl : st.sure.length ≤ 100000) (hs : s.length = 512) (hr : st.row.length < 100000) :
    Calls Tryz.prog 44 #[.pointer (some ⟨g, 0, none⟩), .int .i64 (n : Int), .string (str s)] w fun e w' => e = .returned (.int .i64 0) ∧ (∃ v2, DiskAt w' B g q m k v2 (st.wr n s)) ∧ Below B w w' := by
  cases hf : st.f (n : Int) with
  | none =>
    refine (write_first h hd ha n s hn hl hs hf hr).mono fun e w' ⟨h1, ⟨v2, h2⟩, h3⟩ => ⟨h1, ⟨v2, ?_⟩, h3⟩
    have e : DSt.wrote { st with acts := st.acts + 1 } n s = st.wr n s := by unfold DSt.wrote DSt.wr; rw [hf]; rfl
    rw [← e]; exact h2
  | some t0 =>
    refine (write_again h hd ha n s hn hl hs t0 hf hr).mono fun e w' ⟨h1, h2, h3⟩ => ⟨h1, ⟨v, ?_⟩, h3⟩
    have e : DSt.over { st with acts := st.acts + 1 } n s = st.wr n s := by unfold DSt.over DSt.wr; rw [hf]; rfl
    rw [← e]; exact h2
/-- what is sure behind a flush -/
def layL (f : Int → Option (List UInt8)) : List (List UInt8) → List Nat → List (List UInt8)
  | S, [] => S
  | S, n :: r => layL f (S.set n ((f (n : Int)).getD [])) r
theorem layL_snoc (f : Int → Option (List UInt8)) : ∀ (l : List Nat) (S : List (List UInt8)) (n : Nat), layL f S (l ++ [n]) = (layL f S l).set n ((f (n : Int)).getD [])
  | [], S, n => rfl
  | a :: l, S, n => layL_snoc f l _ n
theorem layL_len (f : Int → Option (List UInt8)) : ∀ (l : List Nat) (S : List (List UInt8)), (layL f S l).length = S.length
  | [], S => rfl
  | a :: l, S => by rw [layL, layL_len f l]; simp
theorem rowAt {r cap L : Nat} {ns : List Nat} {i n : Nat} (h : w.ownsRow B 3 1 (.slice (some ⟨r, 0, none⟩) L cap) L (ns.map fun (n : Nat) => Value.int .i64 (n : Int))) (hi : ns[i]? = some n) : w.cell? ⟨r, i, none⟩ = some (.int .i64 (n : Int)) := by
  have := World.ownsRow.cells h (g := r) rfl i (.int .i64 (n : Int)) (by simp [hi])
  have e : (⟨r, 0, none⟩ : Addr).add i = ⟨r, i, none⟩ := by unfold Addr.add; split <;> simp_all
  rwa [e] at this
theorem row_some {v : Value} {ns : List Nat} (h : w.ownsRow B 3 1 v ns.length (ns.map fun (n : Nat) => Value.int .i64 (n : Int))) (h0 : 0 < ns.length) : ∃ r cap, v = .slice (some ⟨r, 0, none⟩) ns.length cap := by
  rcases h.2 with ⟨_, h1⟩ | ⟨r, cap, cur, hv, _⟩
  · omega
  · exact ⟨r, cap, hv⟩
end
end Go.Proofs.YtcdcipfojfnblaaGreatDoor.disk
end
