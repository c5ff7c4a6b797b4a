/- Disk, device, book and space as things that are held, and what their calls make of them. The table of salts is a premise where sums are made. -/
import Derived.Test.YtcdcipfojfnblaaGreatDoorDskK
import Derived.Test.YtcdcipfojfnblaaGreatDoorBook
import Derived.Test.YtcdcipfojfnblaaGreatDoorSpace
import Derived.Test.YtcdcipfojfnblaaGreatDoorHpFrame
namespace Go.Proofs.YtcdcipfojfnblaaGreatDoor.mach
open Go.RowKit
set_option linter.unusedVariables false
set_option maxRecDepth 100000

/-- the table of salts lies outside what is turned -/
def SaltIn (w : World) (X : List Nat) : Prop := sha.SaltAt w sha.salts ∧ 0 ∉ X
theorem SaltIn.at {w W : World} {X : List Nat} {rs : List Rs} (hT : SaltIn w X) (h : Hp w X rs W) : sha.SaltAt W sha.salts :=
  ⟨fun i hi => (h.kp.cell hT.1.2 hT.2).trans (hT.1.1 i hi), Nat.lt_of_lt_of_le hT.1.2 h.size⟩
section
variable {w W W' : World} {X : List Nat} {rs : List Rs} {g : Nat} {st : disk.DSt}
/-- the blocks of a disk -/
def dfp (g q m k : Nat) (v : Value) : List Nat := g :: q :: m :: k :: v.ownBlock.toList
def DskR (g : Nat) (st : disk.DSt) (W : World) (fp : List Nat) : Prop := ∃ q m k v, disk.DiskAt W 0 g q m k v st ∧ fp = dfp g q m k v
theorem dsk_stay {q m k : Nat} {v : Value} (h : disk.DiskAt W 0 g q m k v st) (hb : ∀ b, b ∈ dfp g q m k v → W'.heap[b]? = W.heap[b]?) : disk.DiskAt W' 0 g q m k v st := by
  obtain ⟨D, c, h1, h2, h3, h4⟩ := h.fresh
  obtain ⟨D2, k1, k2⟩ := h.cuts
  exact ⟨(hb g (by simp [dfp])).trans h.blk, (hb q (by simp [dfp])).trans h.sure, ⟨D, c, ownsMap_of_block h1 (hb m (by simp [dfp])), h2, h3, h4⟩, ⟨D2, ownsMap_of_block k1 (hb k (by simp [dfp])), k2⟩, disk.ownsRow_turn h.row (fun r hr => hb r (by unfold dfp; rw [hr]; simp)), h.ge, h.ne⟩
theorem DskR.keep (g : Nat) (st : disk.DSt) (W W' : World) (fp : List Nat) (h : DskR g st W fp) (hb : ∀ b, b ∈ fp → b < W.heap.size ∧ W'.heap[b]? = W.heap[b]?) : DskR g st W' fp := by
  obtain ⟨q, m, k, v, h, rfl⟩ := h
  exact ⟨q, m, k, v, dsk_stay h (fun b hbm => (hb b hbm).2), rfl⟩
/-- a disk -/
def dsk (g : Nat) (st : disk.DSt) : Rs := .gen (DskR g st) (DskR.keep g st)
theorem dsk_nodup {q m k : Nat} {v : Value} (h : disk.DiskAt W 0 g q m k v st) : (dfp g q m k v).Nodup := by
  obtain ⟨n1, n2, n3, n4, n5, n6⟩ := h.ne
  unfold dfp
  cases hv : v.ownBlock with
  | none => simp [n1, n2, n3, n4, n5, n6]
  | some b =>
    obtain ⟨_, r1, r2, r3, r4, _⟩ := h.rowBlock hv
    simp [n1, n2, n3, n4, n5, n6, r1.symm, r2.symm, r3.symm, r4.symm]
theorem dsk_lt {q m k : Nat} {v : Value} (h : disk.DiskAt W 0 g q m k v st) : ∀ b, b ∈ dfp g q m k v → b < W.heap.size := by
  obtain ⟨l1, l2, l3, l4⟩ := h.lt
  intro b hb
  simp [dfp] at hb
  rcases hb with rfl | rfl | rfl | rfl | hb
  · exact l1
  · exact l2
  · exact l3
  · exact l4
  · exact (h.rowBlock hb).2.2.2.2.2
theorem dsk_uniq {q m k q' m' k' : Nat} {v v' : Value} (h : disk.DiskAt W 0 g q m k v st) (h' : disk.DiskAt W 0 g q' m' k' v' st) : dfp g q m k v = dfp g q' m' k' v' := by
  have e := h.blk.symm.trans h'.blk
  simp at e
  obtain ⟨e1, e2, e3, e4⟩ := e
  rw [e1, e2, e3, e4]
theorem dsk_lend {q m k : Nat} {v : Value} (h : disk.DiskAt W 0 g q m k v st) : Hp W (dfp g q m k v) [dsk g st] W :=
  ⟨[dfp g q m k v], .cons ⟨q, m, k, v, h, rfl⟩ .nil, by simpa using dsk_nodup h, (by
    intro b hb
    have hb : b ∈ dfp g q m k v := by simpa using hb
    exact ⟨dsk_lt h b hb, Or.inl hb⟩), Keeps.refl _ _⟩
theorem dsk_get (h : Hp w X rs W) {i : Nat} (hi : rs[i]? = some (dsk g st)) : ∃ q m k v, disk.DiskAt W 0 g q m k v st := by
  obtain ⟨fp, q, m, k, v, hd, _⟩ := h.get hi
  exact ⟨q, m, k, v, hd⟩
theorem dsk_turn (h : Hp w X rs W) {i : Nat} (hi : rs[i]? = some (dsk g st)) {q m k q' m' k' : Nat} {v v' : Value} {st' : disk.DSt} (hD : disk.DiskAt W 0 g q m k v st) (hD' : disk.DiskAt W' 0 g q' m' k' v' st') (hk : Keeps (dfp g q m k v) W W')
    (hn : ∀ b, b ∈ dfp g q' m' k' v' → b ∈ dfp g q m k v ∨ W.heap.size ≤ b) : Hp w X (rs.set i (dsk g st')) W' :=
  h.upd hi _ fun fp hr => by
    obtain ⟨q1, m1, k1, v1, hD1, rfl⟩ := hr
    rw [dsk_uniq hD1 hD]
    exact ⟨_, ⟨q', m', k', v', hD', rfl⟩, dsk_nodup hD', hk, fun b hb => ⟨dsk_lt hD' b hb, hn b hb⟩⟩
theorem dsk_new (h : Hp w X rs W) {q m k : Nat} {v : Value} (hD : disk.DiskAt W' 0 g q m k v st) (hb : Below W.heap.size W W') (hn : ∀ b, b ∈ dfp g q m k v → W.heap.size ≤ b) : Hp w X (dsk g st :: rs) W' :=
  h.new _ (fp' := dfp g q m k v) ⟨q, m, k, v, hD, rfl⟩ (dsk_nodup hD) hb (fun b hbm => ⟨dsk_lt hD b hbm, hn b hbm⟩)
section
variable {i : Nat} (h : Hp w X rs W) (hi : rs[i]? = some (dsk g st))
include h hi
theorem write_hp (hd : st.dead = false) (ha : st.acts < 1000000) (n : Nat) (s : List UInt8) (hn : n < st.sure.length) (hl : st.sure.length ≤ 100000) (hs : s.length = 512) (hr : st.row.length < 100000) :
    Calls Tryz.prog 44 #[.pointer (some ⟨g, 0, none⟩), .int .i64 (n : Int), .string (str s)] W fun e w' => e = .returned (.int .i64 0) ∧ Hp w X (rs.set i (dsk g (st.wr n s))) w' := by
  obtain ⟨q, m, k, v, hD⟩ := dsk_get h hi
  refine (disk.write_k hD hd ha n s hn hl hs hr).mono ?_
  rintro e w' ⟨rfl, ⟨v2, hv2, hD2⟩, hk⟩
  refine ⟨rfl, dsk_turn h hi hD hD2 (hk.more (by intro x hx; left; simp at hx; simp [dfp]; rcases hx with rfl | rfl | hx <;> simp [*])) ?_⟩
  intro b hb
  simp [dfp] at hb ⊢
  rcases hb with rfl | rfl | rfl | rfl | hb
  · simp
  · simp
  · simp
  · simp
  · rcases hv2 b hb with h1 | h1
    · simp [h1]
    · simp [h1]
theorem dead_hp : Calls Tryz.prog 49 #[.pointer (some ⟨g, 0, none⟩)] W fun e w' => e = .returned (.bool st.dead) ∧ Hp w X rs w' := by
  obtain ⟨q, m, k, v, hD⟩ := dsk_get h hi
  exact (disk.dead_any hD).mono fun e w' ⟨he, hb⟩ => ⟨he, h.below hb⟩
theorem blocks_hp : Calls Tryz.prog 77 #[.pointer (some ⟨g, 0, none⟩)] W fun e w' => e = .returned (.int .i64 (st.sure.length : Int)) ∧ Hp w X rs w' := by
  obtain ⟨q, m, k, v, hD⟩ := dsk_get h hi
  exact (disk.blocks_any hD).mono fun e w' ⟨he, hb⟩ => ⟨he, h.below hb⟩
theorem read_hp (hd : st.dead = false) (n : Nat) (hn : n < st.sure.length) (hl : st.sure.length ≤ 100000) :
    Calls Tryz.prog 22 #[.pointer (some ⟨g, 0, none⟩), .int .i64 (n : Int)] W fun e w' => e = .returned (.tuple #[.string (str (st.see n)), .int .i64 0]) ∧ Hp w X rs w' := by
  obtain ⟨q, m, k, v, hD⟩ := dsk_get h hi
  exact (disk.read_any hD hd n hn hl).mono fun e w' ⟨he, hb⟩ => ⟨he, h.below hb⟩
end
theorem disk_new_hp (h : Hp w X rs W) (n : Nat) (h1 : 1 ≤ n) (h2 : n ≤ 4096) : Calls Tryz.prog 30 #[.int .i64 (n : Int), .slice none 0 0] W fun e w' => ∃ g, e = .returned (.tuple #[.pointer (some ⟨g, 0, none⟩), .int .i64 0]) ∧ Hp w X (dsk g (disk.blankSt (List.replicate n disk.Z512)) :: rs) w' := by
  refine (disk.new_ok n h1 h2 W).mono ?_
  rintro e w' ⟨rfl, hD, hb⟩
  refine ⟨_, rfl, dsk_new h (q := W.heap.size) (m := W.heap.size + 1) (k := W.heap.size + 1 + 1) (v := .slice none 0 0) ?_ hb ?_⟩
  · obtain ⟨a1, a2, a3, a4, a5, a6, a7⟩ := hD
    exact ⟨a1, a2, a3, a4, ⟨a5.1, by simpa using a5.2⟩, by simp, a7⟩
  · intro b hb
    simp [dfp, Value.ownBlock] at hb
    omega
section
attribute [local go_sem ↓] Go.wp_at_zero Go.wp_at_succ
theorem devkey_any {d c : Nat} {key reg : ByteArray} (h : disk.DevAt W d key reg c g) : Calls Tryz.prog 42 #[.pointer (some ⟨d, 0, none⟩)] W fun e w' => e = .returned (.string key) ∧ Below W.heap.size W w' := by
  obtain ⟨c0, c1, c2, c3⟩ := h.cells
  clear h
  go_enter Tryz.func42, Tryz.ntmps42
  go_wp2
  go_ret
  exact ⟨rfl, by go_grown⟩
end
/-- a device -/
def dev (d : Nat) (key reg : ByteArray) (c g : Nat) : Rs := .box d #[.string key, .string reg, .int .u64 (c : Int), .pointer (some ⟨g, 0, none⟩)] 99
section
variable {i : Nat} {d c : Nat} {key reg : ByteArray} (h : Hp w X rs W) (hi : rs[i]? = some (dev d key reg c g))
include h hi
theorem key_hp : Calls Tryz.prog 42 #[.pointer (some ⟨d, 0, none⟩)] W fun e w' => e = .returned (.string key) ∧ Hp w X rs w' :=
  (devkey_any (show disk.DevAt W d key reg c g from h.box hi)).mono fun e w' ⟨he, hb⟩ => ⟨he, h.below hb⟩
theorem counter_hp : Calls Tryz.prog 23 #[.pointer (some ⟨d, 0, none⟩)] W fun e w' => e = .returned (.int .u64 (c : Int)) ∧ Hp w X rs w' :=
  (disk.counter_any (show disk.DevAt W d key reg c g from h.box hi)).mono fun e w' ⟨he, hb⟩ => ⟨he, h.below hb⟩
theorem bump_hp {j : Nat} (hj : rs[j]? = some (dsk g st)) (hij : i ≠ j) (hd : st.dead = false) (ha : st.acts < 1000000) (hc : c < 1000000) (s : ByteArray) (hs : s.size = 33) :
    Calls Tryz.prog 19 #[.pointer (some ⟨d, 0, none⟩), .string s] W fun e w' => e = .returned (.int .i64 0) ∧ Hp w X ((rs.set i (dev d key s (c + 1) g)).set j (dsk g { st with acts := st.acts + 1 })) w' := by
  obtain ⟨fp, h1, h2⟩ := h.frame2 hi hj hij
  have hv : disk.DevAt W d key reg c g := h.box hi
  obtain ⟨q, m, k, v, hD⟩ := dsk_get h hj
  refine (disk.bump_ok hv hD hd ha hc s hs).mono ?_
  rintro e w' ⟨rfl, hv', hD', hk⟩
  refine ⟨rfl, h2 _ _ _ ?_⟩
  obtain ⟨fps, a1, a2, a3, a4⟩ := h1
  cases a1 with
  | cons b1 b2 =>
    cases b2 with
    | cons b2 b3 =>
      cases b3
      obtain ⟨_, rfl⟩ := b1
      obtain ⟨q1, m1, k1, v1, hD1, rfl⟩ := b2
      rw [dsk_uniq hD1 hD] at a2 a3
      have hmem : ∀ b, b ∈ [[d], dfp g q m k v].flatten → b ∈ fp := fun b hb => (a3 b hb).2.resolve_right (by have := (a3 b hb).1; omega)
      refine ⟨[[d], dfp g q m k v], .cons ⟨hv', rfl⟩ (.cons ⟨q, m, k, v, hD', rfl⟩ .nil), a2, fun b hb => ⟨Nat.lt_of_lt_of_le (a3 b hb).1 hk.size, (a3 b hb).2⟩, hk.more ?_⟩
      intro x hx
      left
      apply hmem
      simp at hx
      rcases hx with rfl | rfl <;> simp [dfp]
end
theorem device_new_hp (h : Hp w X rs W) (key : ByteArray) (g : Nat) (hk : key.size = 32) : Calls Tryz.prog 31 #[.string key, .pointer (some ⟨g, 0, none⟩)] W fun e w' => ∃ d, e = .returned (.tuple #[.pointer (some ⟨d, 0, none⟩), .int .i64 0]) ∧ Hp w X (dev d key (str disk.Z33) 0 g :: rs) w' := by
  refine (disk.dnew_ok key g hk W).mono ?_
  rintro e w' ⟨d, rfl, hd, hv, hb⟩
  exact ⟨d, rfl, h.made hv hd hb⟩
/-- a book -/
def BkR (g : Nat) (st : sha.BSt) (W : World) (fp : List Nat) : Prop := ∃ m, sha.BookAt W g m st ∧ fp = [g, m]
theorem BkR.keep (g : Nat) (st : sha.BSt) (W W' : World) (fp : List Nat) (h : BkR g st W fp) (hb : ∀ b, b ∈ fp → b < W.heap.size ∧ W'.heap[b]? = W.heap[b]?) : BkR g st W' fp := by
  obtain ⟨m, h, rfl⟩ := h
  obtain ⟨D, h1, h2, h3, h4⟩ := h.own
  exact ⟨m, ⟨((hb g (by simp)).2).trans h.blk, h.ne, D, ownsMap_of_block h1 (hb m (by simp)).2, h2, h3, h4⟩, rfl⟩
def bk (g : Nat) (st : sha.BSt) : Rs := .gen (BkR g st) (BkR.keep g st)
theorem bk_get {bs : sha.BSt} (h : Hp w X rs W) {i : Nat} (hi : rs[i]? = some (bk g bs)) : ∃ m, sha.BookAt W g m bs := by
  obtain ⟨fp, m, hd, _⟩ := h.get hi
  exact ⟨m, hd⟩
theorem bk_turn {bs bs' : sha.BSt} (h : Hp w X rs W) {i : Nat} (hi : rs[i]? = some (bk g bs)) {m : Nat} (hB : sha.BookAt W g m bs) (hB' : sha.BookAt W' g m bs') (hk : Keeps [g, m] W W') : Hp w X (rs.set i (bk g bs')) W' :=
  h.upd hi _ fun fp hr => by
    obtain ⟨m1, hB1, rfl⟩ := hr
    have e := hB1.blk.symm.trans hB.blk
    simp at e
    subst e
    refine ⟨[g, m1], ⟨m1, hB', rfl⟩, by simp [hB.ne], hk, ?_⟩
    intro b hb
    refine ⟨?_, Or.inl hb⟩
    simp at hb
    rcases hb with rfl | rfl
    · exact hB'.lt.1
    · exact hB'.lt.2
theorem bsum_hp {bs : sha.BSt} (h : Hp w X rs W) {i : Nat} (hi : rs[i]? = some (bk g bs)) (s : List UInt8) (hs : s.length ≤ 1000000000) (hc : bs.c ≤ 8192) (hT : sha.SaltAt W sha.salts) :
    Calls Tryz.prog 45 #[.pointer (some ⟨g, 0, none⟩), .string (str s)] W fun e w' => e = .returned (.string (str (sha.shaB sha.salts s))) ∧ Hp w X (rs.set i (bk g (sha.noteS bs (sha.shaB sha.salts s) s))) w' := by
  obtain ⟨m, hB⟩ := bk_get h hi
  refine (sha.bsum_any s hs W hB hc hT).mono ?_
  rintro e w' ⟨rfl, hB', hk⟩
  exact ⟨rfl, bk_turn h hi hB hB' hk⟩
theorem btwins_hp {bs : sha.BSt} (h : Hp w X rs W) {i : Nat} (hi : rs[i]? = some (bk g bs)) : Calls Tryz.prog 29 #[.pointer (some ⟨g, 0, none⟩)] W fun e w' => e = .returned (.tuple #[.string (str bs.x), .string (str bs.y), .bool bs.tw]) ∧ Hp w X rs w' := by
  obtain ⟨m, hB⟩ := bk_get h hi
  exact (sha.btwins_any W hB).mono fun e w' ⟨he, hb⟩ => ⟨he, h.below hb⟩
theorem blen_hp {bs : sha.BSt} (h : Hp w X rs W) {i : Nat} (hi : rs[i]? = some (bk g bs)) : Calls Tryz.prog 27 #[.pointer (some ⟨g, 0, none⟩)] W fun e w' => e = .returned (.int .i64 bs.c) ∧ Hp w X rs w' := by
  obtain ⟨m, hB⟩ := bk_get h hi
  exact (sha.blen_any W hB).mono fun e w' ⟨he, hb⟩ => ⟨he, h.below hb⟩
theorem book_new_hp (h : Hp w X rs W) : Calls Tryz.prog 32 #[] W fun e w' => ∃ g, e = .returned (.pointer (some ⟨g, 0, none⟩)) ∧ Hp w X (bk g .none :: rs) w' := by
  refine (sha.bnew_any W).mono ?_
  rintro e w' ⟨rfl, hB, hb⟩
  refine ⟨_, rfl, h.new _ (fp' := [W.heap.size + 1, W.heap.size]) ⟨_, hB, rfl⟩ (by simp) hb ?_⟩
  intro b hbm
  simp at hbm
  rcases hbm with rfl | rfl
  · exact ⟨hB.lt.1, by omega⟩
  · exact ⟨hB.lt.2, by omega⟩
/-- the places of a disk -/
def SpR (g : Nat) (fi pl le : Int) (f : Int → Bool) (c : Nat) (W : World) (fp : List Nat) : Prop := ∃ m, space.SpaceAt W g m fi pl le f c ∧ fp = [g, m]
theorem SpR.keep (g : Nat) (fi pl le : Int) (f : Int → Bool) (c : Nat) (W W' : World) (fp : List Nat) (h : SpR g fi pl le f c W fp) (hb : ∀ b, b ∈ fp → b < W.heap.size ∧ W'.heap[b]? = W.heap[b]?) : SpR g fi pl le f c W' fp := by
  obtain ⟨m, h, rfl⟩ := h
  obtain ⟨D, h1, h2, h3⟩ := h.own
  exact ⟨m, ⟨((hb g (by simp)).2).trans h.blk, h.ne, D, ownsMap_of_block h1 (hb m (by simp)).2, h2, h3⟩, rfl⟩
def sp (g : Nat) (fi pl le : Int) (f : Int → Bool) (c : Nat) : Rs := .gen (SpR g fi pl le f c) (SpR.keep g fi pl le f c)
section
variable {fi pl le fi' pl' le' : Int} {f f' : Int → Bool} {c c' : Nat}
theorem sp_get (h : Hp w X rs W) {i : Nat} (hi : rs[i]? = some (sp g fi pl le f c)) : ∃ m, space.SpaceAt W g m fi pl le f c := by
  obtain ⟨fp, m, hd, _⟩ := h.get hi
  exact ⟨m, hd⟩
theorem sp_turn (h : Hp w X rs W) {i : Nat} (hi : rs[i]? = some (sp g fi pl le f c)) {m : Nat} (hB : space.SpaceAt W g m fi pl le f c) (hB' : space.SpaceAt W' g m fi' pl' le' f' c') (hk : Keeps [g, m] W W') : Hp w X (rs.set i (sp g fi' pl' le' f' c')) W' :=
  h.upd hi _ fun fp hr => by
    obtain ⟨m1, hB1, rfl⟩ := hr
    have e := hB1.blk.symm.trans hB.blk
    simp at e
    subst e
    refine ⟨[g, m1], ⟨m1, hB', rfl⟩, by simp [hB.ne], hk, ?_⟩
    intro b hb
    refine ⟨?_, Or.inl hb⟩
    simp at hb
    rcases hb with rfl | rfl
    · exact hB'.lt.1
    · exact hB'.lt.2
theorem space_new_hp (h : Hp w X rs W) (n k : Int) (hn : -9223372036854775808 ≤ n ∧ n ≤ 9223372036854775807) : Calls Tryz.prog 34 #[.int .i64 n, .int .i64 k] W fun e w' => ∃ g, e = .returned (.pointer (some ⟨g, 0, none⟩)) ∧ Hp w X (sp g (min (max k 0) (max n 0)) (max n 0) (min (max k 0) (max n 0)) (fun _ => false) 0 :: rs) w' := by
  refine (space.new_any n k W hn).mono ?_
  rintro e w' ⟨rfl, hB, hb⟩
  refine ⟨_, rfl, h.new _ (fp' := [W.heap.size + 1, W.heap.size]) ⟨_, hB, rfl⟩ (by simp) hb ?_⟩
  intro b hbm
  simp at hbm
  rcases hbm with rfl | rfl
  · exact ⟨hB.lt.1, by omega⟩
  · exact ⟨hB.lt.2, by omega⟩
theorem take_hp (h : Hp w X rs W) {i : Nat} (hi : rs[i]? = some (sp g fi pl le f c)) {x : Int} (h1 : 0 ≤ fi) (h2 : fi ≤ pl) (h3 : pl ≤ 4294967296) (h4 : (c : Int) < pl - fi) (hle : fi ≤ le) (hlex : le ≤ x) (hxp : x < pl) (hfx : f x = false) (hall : ∀ y, fi ≤ y → y < x → f y = true) :
    Calls Tryz.prog 39 #[.pointer (some ⟨g, 0, none⟩)] W fun e w' => e = .returned (.int .i64 x) ∧ Hp w X (rs.set i (sp g fi pl x (fun y => f y || y == x) (c + 1))) w' := by
  obtain ⟨m, hB⟩ := sp_get h hi
  refine (space.take_least W hB h1 h2 h3 h4 hle hlex hxp hfx hall).mono ?_
  rintro e w' ⟨rfl, hB', hk⟩
  exact ⟨rfl, sp_turn h hi hB hB' hk⟩
theorem taken_hp (h : Hp w X rs W) {i : Nat} (hi : rs[i]? = some (sp g fi pl le f c)) (x : Int) (hx : -9223372036854775808 ≤ x ∧ x ≤ 9223372036854775807) : Calls Tryz.prog 37 #[.pointer (some ⟨g, 0, none⟩), .int .i64 x] W fun e w' => e = .returned (.bool (f x)) ∧ Hp w X rs w' := by
  obtain ⟨m, hB⟩ := sp_get h hi
  exact (space.taken_any x hx W hB).mono fun e w' ⟨he, hb⟩ => ⟨he, h.below hb⟩
end
end
end Go.Proofs.YtcdcipfojfnblaaGreatDoor.mach
