/- What the law PagerBent holds: a page that lies on the disk, is read, bent and read again. The table of salts is a premise. -/
import Derived.Test.YtcdcipfojfnblaaGreatDoorPagLy
import Derived.Test.YtcdcipfojfnblaaGreatDoorDskP
namespace Go.Proofs.YtcdcipfojfnblaaGreatDoor.pager
open Go.RowKit mach mpr
set_option linter.unusedVariables false
set_option linter.unusedSimpArgs false
set_option maxRecDepth 100000
section
variable {w W W' : World} {X : List Nat} {rs : List Rs} {q : Nat} {l : List UInt8}
def BytR (q : Nat) (l : List UInt8) (W : World) (fp : List Nat) : Prop := BytesAt W q l ∧ fp = [q]
theorem BytR.keep (q : Nat) (l : List UInt8) (W W' : World) (fp : List Nat) (h : BytR q l W fp) (hb : ∀ b, b ∈ fp → b < W.heap.size ∧ W'.heap[b]? = W.heap[b]?) : BytR q l W' fp := by
  obtain ⟨h, rfl⟩ := h
  obtain ⟨h1, h2⟩ := hb q (by simp)
  refine ⟨⟨?_, fun i hi => ⟨?_, ?_⟩⟩, rfl⟩
  · have : W'.heap[q]? = some (W.heap[q]'h1) := by rw [h2]; exact Array.getElem?_eq_getElem h1
    exact block_lt this
  · rw [← (h.2 i hi).1]; simp only [World.cell?, h2]
  · exact (World.frozen?_of_block (w := W) h2).trans (h.2 i hi).2
/-- a row of bytes that is held -/
def byt (q : Nat) (l : List UInt8) : Rs := .gen (BytR q l) (BytR.keep q l)
theorem byt_at (h : Hp w X rs W) {i : Nat} (hi : rs[i]? = some (byt q l)) : BytesAt W q l := by
  obtain ⟨fp, h, _⟩ := h.get hi
  exact h
theorem byt_put (h : Hp w X rs W) {i : Nat} (hi : rs[i]? = some (byt q l)) (j : Nat) (hj : j < l.length) (n : Int) (hn : 0 ≤ n ∧ n < 256) : Hp w X (rs.set i (byt q (l.set j (UInt8.ofNat n.toNat)))) (W.setCell ⟨q, j, none⟩ (.int .u8 n)) :=
  h.upd hi _ fun fp hr => by
    obtain ⟨hB, rfl⟩ := hr
    have h2 := hB.put hj hn
    exact ⟨[q], ⟨h2, rfl⟩, by simp, (Keeps.refl [q] W).setCell (p := ⟨q, j, none⟩) (Or.inl (by simp)) _, fun b hb => by simp at hb; subst hb; exact ⟨h2.1, Or.inl (by simp)⟩⟩
theorem byt_new (h : Hp w X rs W) (hB : BytesAt W' W.heap.size l) (hb : Below W.heap.size W W') : Hp w X (byt W.heap.size l :: rs) W' :=
  h.new _ (fp' := [W.heap.size]) ⟨hB, rfl⟩ (by simp) hb (fun b hbm => by simp at hbm; subst hbm; exact ⟨hB.1, Nat.le_refl _⟩)
end
section
variable {w W W' : World} {l : List Rs} {kept : Bool} {S B T E C : List UInt8} {p g d b : Nat}
theorem getB_len (m : List UInt8) (n : Nat) (x : List UInt8) : (sha.getB m n x).s.length ≤ 462 := by
  have hu : ∀ t s, sha.unplain t = some s → s.length ≤ 462 := by
    intro t s h
    unfold sha.unplain at h
    split at h
    · rename_i hc
      injection h with h
      rw [← h, List.length_take]
      omega
    · cases h
  unfold sha.getB
  split
  · split
    · split
      · rename_i s hs
        exact hu _ _ hs
      · simp
    · simp
  · simp
/-- what is known of a book whose sum S was made of B -/
def Told (b2 : sha.BSt) (S B : List UInt8) : Prop := b2.tw = true ∨ b2.f S = some B
theorem told_note {b2 : sha.BSt} (h : Told b2 S B) (k s : List UInt8) : Told (sha.noteS b2 k s) S B := by
  unfold Told sha.noteS at *
  by_cases ht : b2.tw = true
  · simp [ht]
  · simp [ht] at h ⊢
    cases hk : b2.f k with
    | some t =>
      by_cases e : t = s
      · simp [e, h]
      · simp [e, sha.BSt.twin]
    | none =>
      by_cases e : 8192 ≤ b2.c
      · simp [e, sha.BSt.brim, h]
      · have : S ≠ k := by intro e; rw [← e, h] at hk; cases hk
        simp [e, sha.BSt.more, this, h]
theorem told_twin {b2 : sha.BSt} (h : Told b2 S B) (hC : C ≠ B) : (sha.noteS b2 S C).tw = true := by
  unfold Told sha.noteS at *
  by_cases ht : b2.tw = true
  · simp [ht]
  · simp [ht] at h ⊢
    rw [h]
    simp [Ne.symm hC, sha.BSt.twin]
theorem note_cnt (b2 : sha.BSt) (k s : List UInt8) : (sha.noteS b2 k s).c ≤ b2.c + 1 := by
  unfold sha.noteS
  split
  · omega
  · split
    · split
      · omega
      · simp [sha.BSt.twin]
    · split
      · simp [sha.BSt.brim]
      · simp [sha.BSt.more]
/-- the pager of the law, and its parts -/
def Bst (w W : World) (kept : Bool) (S B T E : List UInt8) (p g d b : Nat) (l : List Rs) : Prop :=
  ∃ (x : PSt) (D : disk.DSt) (b2 : sha.BSt) (sg : Nat) (fi pl le : Int) (f : Int → Bool) (cc : Nat) (ff : Int → Bool) (fc : Nat) (k : Kp),
    Hp w [] (pg p x :: dev d (str masterL) (str disk.Z33) 0 g :: dsk g D :: bk b b2 :: sp sg fi pl le f cc :: mset x.fm ff fc :: kmap x.km k :: kque x.eld k :: l) W ∧ (x.g = g ∧ x.d = d ∧ x.b = b ∧ x.s = sg) ∧ (x.fet = 0 ∧ x.aga = 0 ∧ x.most = 1) ∧
    (D.dead = false ∧ D.sure.length = 6 ∧ D.row.length ≤ 2 ∧ D.f ((2 : Nat) : Int) = some E) ∧ (b2.c ≤ 2 ∧ Told b2 S B) ∧
    ((kept = true → k.f (rk ((2 : Nat) : Int) S) = some T) ∧ (kept = false → k.f (rk ((2 : Nat) : Int) S) = none) ∧ k.es.length ≤ 2 ∧ k.c ≤ 2 ∧ ∀ r ∈ k.es, (Lit.int .i64 r.1).wf = true ∧ r.2.length ≤ 1000000000)
theorem Bst.below (h : Bst w W kept S B T E p g d b l) (k : Below W.heap.size W W') : Bst w W' kept S B T E p g d b l := by
  obtain ⟨x, D, b2, sg, fi, pl, le, f, cc, ff, fc, k', h, hr⟩ := h
  exact ⟨x, D, b2, sg, fi, pl, le, f, cc, ff, fc, k', h.below k, hr⟩
theorem Bst.bytes (h : Bst w W kept S B T E p g d b l) {t : List UInt8} (hB : BytesAt W' W.heap.size t) (k : Below W.heap.size W W') : Bst w W' kept S B T E p g d b (byt W.heap.size t :: l) := by
  obtain ⟨x, D, b2, sg, fi, pl, le, f, cc, ff, fc, k', h, hr⟩ := h
  exact ⟨x, D, b2, sg, fi, pl, le, f, cc, ff, fc, k', toEnd8 (byt_new h hB k), hr⟩
theorem Bst.at_ {q : Nat} (h : Bst w W kept S B T E p g d b (byt q C :: l)) : BytesAt W q C := by
  obtain ⟨x, D, b2, sg, fi, pl, le, f, cc, ff, fc, k', h, hr⟩ := h
  exact byt_at h (i := 8) rfl
theorem Bst.put {q : Nat} (h : Bst w W kept S B T E p g d b (byt q C :: l)) (j : Nat) (hj : j < C.length) (n : Int) (hn : 0 ≤ n ∧ n < 256) : Bst w (W.setCell ⟨q, j, none⟩ (.int .u8 n)) kept S B T E p g d b (byt q (C.set j (UInt8.ofNat n.toNat)) :: l) := by
  obtain ⟨x, D, b2, sg, fi, pl, le, f, cc, ff, fc, k', h, hr⟩ := h
  exact ⟨x, D, b2, sg, fi, pl, le, f, cc, ff, fc, k', byt_put h (i := 8) rfl j hj n hn, hr⟩
theorem Bst.cell0 {r : Nat} {cs : Array Value} {t : TypeId} (h : Bst w W kept S B T E p g d b (.box r cs t :: l)) (j : Nat) : W.cell? ⟨r, j, none⟩ = cs[j]? := by
  obtain ⟨x, D, b2, sg, fi, pl, le, f, cc, ff, fc, k', h, hr⟩ := h
  exact h.cell (i := 8) rfl j
theorem Bst.cell1 {r : Nat} {cs : Array Value} {t : TypeId} {y : Rs} (h : Bst w W kept S B T E p g d b (y :: .box r cs t :: l)) (j : Nat) : W.cell? ⟨r, j, none⟩ = cs[j]? := by
  obtain ⟨x, D, b2, sg, fi, pl, le, f, cc, ff, fc, k', h, hr⟩ := h
  exact h.cell (i := 9) rfl j
theorem Bst.bel (h : Bst w W kept S B T E p g d b l) : Below w.heap.size w W := by
  obtain ⟨x, D, b2, sg, fi, pl, le, f, cc, ff, fc, k', h, hr⟩ := h
  exact h.bel
theorem Bst.dread (h : Bst w W kept S B T E p g d b l) : Calls Tryz.prog 22 #[.pointer (some ⟨g, 0, none⟩), .int .i64 2] W fun e w' => e = .returned (.tuple #[.string (str E), .int .i64 0]) ∧ Bst w w' kept S B T E p g d b l := by
  obtain ⟨x, D, b2, sg, fi, pl, le, f, cc, ff, fc, k', h, h1, h2, ⟨d1, d2, d3, d4⟩, hr⟩ := h
  have := read_hp h (i := 2) rfl d1 2 (by omega) (by omega)
  have e : D.see 2 = E := by unfold disk.DSt.see; rw [d4]
  rw [e] at this
  exact this.mono fun e w' ⟨a, h'⟩ => ⟨a, x, D, b2, sg, fi, pl, le, f, cc, ff, fc, k', h', h1, h2, ⟨d1, d2, d3, d4⟩, hr⟩
theorem Bst.poke (h : Bst w W kept S B T E p g d b l) (hC : C.length = 512) : Calls Tryz.prog 28 #[.pointer (some ⟨g, 0, none⟩), .int .i64 2, .string (str C)] W fun e w' => e = .returned (.bool true) ∧ Bst w w' kept S B T C p g d b l := by
  obtain ⟨x, D, b2, sg, fi, pl, le, f, cc, ff, fc, k', h, h1, h2, ⟨d1, d2, d3, d4⟩, hr⟩ := h
  have := poke_hp h (i := 2) rfl 2 C (by omega) (by omega) hC E d4 (by omega)
  refine this.mono fun e w' ⟨a, h'⟩ => ⟨a, x, D.poked 2 C, b2, sg, fi, pl, le, f, cc, ff, fc, k', h', h1, h2, ⟨d1, ?_, d3, ?_⟩, hr⟩
  · simp [disk.DSt.poked, disk.DSt.over, d2]
  · simp [disk.DSt.poked, disk.DSt.over]
theorem Bst.pread (h : Bst w W kept S (firstB T) T C p g d b l) (hT : SaltIn w []) (hS : S = sha.shaB sha.salts (firstB T)) (hTl : T.length ≤ 462) (hC : C.length = 512) :
    Calls Tryz.prog 10 #[.pointer (some ⟨p, 0, none⟩), .agg #[.int .i64 2, .string (str S)]] W fun e w' => ∃ (Z : List UInt8) (er : Int) (bF : sha.BSt), e = .returned (.tuple #[.string (str Z), .int .i64 er]) ∧ Hp w [] (bk b bF :: l) w' ∧ (kept = true ∨ C = firstB T → Z = T ∧ er = 0) ∧ (kept = false → C ≠ firstB T → bF.tw = true ∨ (Z = [] ∧ er = 8)) := by
  obtain ⟨x, D, b2, sg, fi, pl, le, f, cc, ff, fc, k', h, ⟨x1, x2, x3, x4⟩, ⟨y1, y2, y3⟩, ⟨d1, d2, d3, d4⟩, ⟨b1, bt⟩, k1, k2, k3, k4, k5⟩ := h
  have hSl : S.length = 32 := by rw [hS]; exact sha.shaB_len _ _
  cases kept with
  | true =>
    refine (read_kept h hT x1 x2 x3 x4 2 (by omega) S T hSl (k1 rfl) (by omega)).mono ?_
    rintro e w' ⟨rfl, h'⟩
    refine ⟨T, 0, b2, rfl, ?_, fun _ => ⟨rfl, rfl⟩, fun h => by cases h⟩
    have := ((((((h'.drop 0).drop 0).drop 0).drop 1).drop 1).drop 1).drop 1
    exact this
  | false =>
    have hee : D.see 2 = C := by unfold disk.DSt.see; rw [d4]
    have hfs : (fch masterL 2 C S).s.length ≤ 1000000 := by
      unfold fch
      by_cases hc : S = [] ∨ sha.shaB sha.salts C = S
      · rw [if_pos hc]
        split
        · exact Nat.le_trans (getB_len masterL 2 C) (by omega)
        · simp
      · rw [if_neg hc]; simp
    refine (read_fetch h hT x1 x2 x3 x4 (by omega) (by decide) d1 2 (by omega) (by omega) (by omega) S C hee hC hSl (k2 rfl) (by omega) (by omega) (by omega) k5 hfs).mono ?_
    rintro e w' ⟨rfl, v, h'⟩
    refine ⟨_, _, fchB b2 C S, rfl, ?_, ?_, ?_⟩
    · have := ((((((h'.drop 0).drop 0).drop 0).drop 1).drop 1).drop 1).drop 1
      exact this
    · rintro (h0 | h0)
      · cases h0
      · subst h0
        have : fch masterL 2 (firstB T) S = ⟨0, 0, 1, T, 0⟩ := fch_own 2 (by omega) T hTl 1 (by omega) 0 (by omega) 0 (by omega) S (Or.inr hS)
        rw [this]
        exact ⟨rfl, rfl⟩
    · intro _ hne
      have hSn : S ≠ [] := by intro h; rw [h] at hSl; cases hSl
      by_cases hs : S = sha.shaB sha.salts C
      · left
        unfold fchB
        rw [if_neg hSn, ← hs]
        exact told_twin bt hne
      · right
        rw [fch_other masterL 2 C S hSn hs]
        exact ⟨rfl, rfl⟩
/-- 'another one' -/
def otherL : List UInt8 := [97, 110, 111, 116, 104, 101, 114, 32, 111, 110, 101]
theorem Bst.first {sg km fm : Nat} {v : Value} (hS : S = sha.shaB sha.salts (firstB T)) (h : Hp w [] (pg p ⟨g, d, b, sg, 0, 0, 1, km, v, min (max 1 1) 256, 0, 0, fm, .slice none 0 0⟩ :: dev d (str masterL) (str disk.Z33) 0 g :: dsk g ((disk.blankSt (List.replicate 6 disk.Z512)).wr 2 (firstB T)) :: bk b (sha.noteS .none S (firstB T)) ::
        sp sg 2 ((6 : Nat) : Int) 2 (fun y => false || y == 2) 1 :: mset fm (fun y => false || y == 2) 1 :: kmap km (Kp.none.keep (min (max 1 1) 256) 2 S T) :: kque v (Kp.none.keep (min (max 1 1) 256) 2 S T) :: l) W) : Bst w W true S (firstB T) T (firstB T) p g d b l := by
  have hSl : S.length = 32 := by rw [hS]; exact sha.shaB_len _ _
  have hm : (min (max 1 1) 256 : Int) = 1 := by decide
  rw [hm] at h
  obtain ⟨k1, k2, k3⟩ := kept_new 1 2 S T (by omega)
  refine ⟨_, _, _, _, _, _, _, _, _, _, _, _, h, ⟨rfl, rfl, rfl, rfl⟩, ⟨rfl, rfl, rfl⟩, ⟨rfl, by simp [disk.DSt.wr, disk.blankSt], by simp [disk.DSt.wr, disk.blankSt], by simp [disk.DSt.wr]⟩, ⟨by rw [note_first]; simp [sha.BSt.more, sha.BSt.none], ?_⟩, fun _ => k1, fun h => (by cases h), by rw [k2]; simp, by rw [k3]; omega, ?_⟩
  · rw [note_first]; right; simp [sha.BSt.more]
  · rw [k2]; intro r hr; simp at hr; subst hr; exact ⟨(by decide : (Lit.int .i64 2).wf = true), by simp [hSl]⟩
theorem bst_second {sg km fm : Nat} {v : Value} (hT : SaltIn w []) (hS : S = sha.shaB sha.salts (firstB T)) (hTl : T.length ≤ 462) (h : Hp w [] (pg p ⟨g, d, b, sg, 0, 0, 1, km, v, min (max 1 1) 256, 0, 0, fm, .slice none 0 0⟩ :: dev d (str masterL) (str disk.Z33) 0 g :: dsk g ((disk.blankSt (List.replicate 6 disk.Z512)).wr 2 (firstB T)) :: bk b (sha.noteS .none S (firstB T)) ::
        sp sg 2 ((6 : Nat) : Int) 2 (fun y => false || y == 2) 1 :: mset fm (fun y => false || y == 2) 1 :: kmap km (Kp.none.keep (min (max 1 1) 256) 2 S T) :: kque v (Kp.none.keep (min (max 1 1) 256) 2 S T) :: l) W) :
    Calls Tryz.prog 15 #[.pointer (some ⟨p, 0, none⟩), .string (str otherL)] W fun e w' => (∃ S2, e = .returned (.tuple #[.agg #[.int .i64 3, .string (str S2)], .int .i64 0])) ∧ Bst w w' false S (firstB T) T (firstB T) p g d b l := by
  have hSl : S.length = 32 := by rw [hS]; exact sha.shaB_len _ _
  have hm : (min (max 1 1) 256 : Int) = 1 := by decide
  rw [hm] at h
  obtain ⟨k1, k2, k3⟩ := kept_new 1 2 S T (by omega)
  have hgood : ∀ r ∈ (Kp.none.keep 1 2 S T).es, (Lit.int .i64 r.1).wf = true ∧ r.2.length ≤ 1000000000 := by
    rw [k2]; intro r hr; simp at hr; subst hr; exact ⟨(by decide : (Lit.int .i64 2).wf = true), by simp [hSl]⟩
  have hsf : ∀ y : Int, y ≠ 2 → ((fun y : Int => false || y == 2) y) = false := by intro y hy; simp [hy]
  have hall : ∀ y : Int, (2 : Int) ≤ y → y < ((3 : Nat) : Int) → ((fun y : Int => false || y == 2) y) = true := by
    intro y h1 h2
    have : y = 2 := by omega
    subst this; rfl
  obtain ⟨B2, hB2⟩ : ∃ B2, B2 = sha.blockB masterL 0 0 (nx 0 ⟨g, d, b, sg, 0, 0, 1, km, v, 1, 0, 0, fm, .slice none 0 0⟩) 3 otherL := ⟨_, rfl⟩
  obtain ⟨S2, hS2⟩ : ∃ S2, S2 = sha.shaB sha.salts B2 := ⟨_, rfl⟩
  have hS2l : S2.length = 32 := by rw [hS2]; exact sha.shaB_len _ _
  have hw := write_any h hT rfl rfl rfl rfl (by show (1 : Nat) < 1000000; decide) (by show (0 : Nat) < 4294967296; decide) (by decide) (by decide) rfl (by show (1 : Nat) < 1000000; decide) 3 (by simp [disk.DSt.wr, disk.blankSt]) (by simp [disk.DSt.wr, disk.blankSt]) (by simp [disk.DSt.wr, disk.blankSt]) (by rw [note_first]; simp [sha.BSt.more, sha.BSt.none]) otherL (by decide)
    (by decide) (by decide) (by decide) (by decide) (by decide) (by decide) (by decide) (hsf _ (by decide)) hall (by decide) ⟨by show (1 : Int) ≤ 1; decide, by show (1 : Int) ≤ 256; decide⟩ (by rw [k2]; simp) (by rw [k3]; omega) hgood B2 hB2 S2 hS2
  refine hw.mono ?_
  rintro e w' ⟨rfl, v2, h'⟩
  refine ⟨⟨S2, rfl⟩, ?_⟩
  have hne : rk ((3 : Nat) : Int) S2 ≠ rk 2 S := fun e => by
    have := (rk_inj (by decide) (by decide) (by omega) (by omega) e).1
    omega
  obtain ⟨K, hK⟩ : ∃ K, K = (Kp.none.keep 1 2 S T).keep 1 ((3 : Nat) : Int) S2 otherL := ⟨_, rfl⟩
  have hKf : K.f (rk ((2 : Nat) : Int) S) = none ∧ K.es = [(((3 : Nat) : Int), S2)] ∧ K.c ≤ 2 := by
    have hf1 : (Kp.none.keep 1 2 S T) = ⟨fun j => if j = rk 2 S then some T else none, 1, [(2, S)]⟩ := by
      unfold Kp.keep
      rw [if_neg (by simp [Kp.none]), if_neg (by simp [Kp.none])]
      simp [Kp.add, Kp.none]
    rw [hK, hf1]
    unfold Kp.keep
    have hne2 : ¬ rk ((2 : Nat) : Int) S = rk ((3 : Nat) : Int) S2 := fun e => hne e.symm
    have hne3 : (fun j => if j = rk 2 S then some T else none) (rk ((3 : Nat) : Int) S2) = none := by show (if rk ((3 : Nat) : Int) S2 = rk 2 S then some T else none) = none; rw [if_neg hne]
    rw [if_neg (by show ¬ ((fun j => if j = rk 2 S then some T else none) (rk ((3 : Nat) : Int) S2)).isSome = true; rw [hne3]; simp), if_pos (by simp)]
    have hg : (⟨fun j => if j = rk 2 S then some T else none, 1, [(2, S)]⟩ : Kp).gone = ⟨fun j => if j = rk 2 S then none else (if j = rk 2 S then some T else none), 0, []⟩ := by simp [Kp.gone]
    rw [hg]
    refine ⟨?_, ?_, ?_⟩
    · show (if rk ((2 : Nat) : Int) S = rk ((3 : Nat) : Int) S2 then some otherL else (if rk 2 S = rk 2 S then none else (if rk 2 S = rk 2 S then some T else none))) = none
      rw [if_neg hne2, if_pos rfl]
    · rfl
    · unfold Kp.add
      dsimp only
      repeat' split
      all_goals omega
  rw [← hK] at h'
  refine ⟨_, _, _, _, _, _, _, _, _, _, _, K, h', ⟨rfl, rfl, rfl, rfl⟩, ⟨rfl, rfl, rfl⟩, ⟨rfl, ?_, ?_, ?_⟩, ⟨?_, ?_⟩, fun h => (by cases h), fun _ => hKf.1, by rw [hKf.2.1]; simp, hKf.2.2, ?_⟩
  · simp [disk.DSt.wr, disk.blankSt]
  · simp [disk.DSt.wr, disk.blankSt]
  · simp [disk.DSt.wr, disk.blankSt]
  · refine Nat.le_trans (note_cnt _ _ _) ?_
    rw [note_first]; simp [sha.BSt.more, sha.BSt.none]
  · refine told_note ?_ _ _
    rw [note_first]; right; simp [sha.BSt.more]
  · rw [hKf.2.1]; intro r hr; simp at hr; subst hr; exact ⟨(by decide : (Lit.int .i64 3).wf = true), by simp [hS2l]⟩
end
end Go.Proofs.YtcdcipfojfnblaaGreatDoor.pager
