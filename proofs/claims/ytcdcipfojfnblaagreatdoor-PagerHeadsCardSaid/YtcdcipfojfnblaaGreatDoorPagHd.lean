/- No two blocks are sealed with one head, and each is sealed with the epoch and the device's number of its time: the law PagerHeads. The table of salts is a premise. -/
import Derived.Test.YtcdcipfojfnblaaGreatDoorPag6
import Derived.Test.YtcdcipfojfnblaaGreatDoorPagLy
import Derived.Test.YtcdcipfojfnblaaGreatDoorArgs
import Derived.Test.YtcdcipfojfnblaaGreatDoorRegSeq
namespace Go.Proofs.YtcdcipfojfnblaaGreatDoor.pager
open Go.RowKit mach mpr
attribute [local go_sem ↓] Go.wp_at_zero Go.wp_at_succ
set_option linter.unusedVariables false
set_option linter.unusedSimpArgs false
set_option maxRecDepth 100000

theorem headB_block (m : List UInt8) (e c i p : Nat) (s : List UInt8) (he : e < 4294967296) (hc : c < 18446744073709551616) (hi : i < 4294967296) (h : s.length ≤ 462) : sha.headB (sha.blockB m e c i p s) = (e, c, i) := by
  have := sha.get_block m e c i p s he hc hi h
  unfold sha.getB at this
  rw [if_pos (sha.blockB_len m e c i p s h)] at this
  split at this
  · split at this
    · injection this with h1 h2 h3
      exact Prod.ext h1 (Prod.ext h2 h3)
    · injection this with _ _ _ _ h5; cases h5
  · injection this with _ _ _ _ h5; cases h5
theorem note_c (st : sha.BSt) (S B : List UInt8) : (sha.noteS st S B).c ≤ st.c + 1 := by
  unfold sha.noteS
  split
  · omega
  · split
    · split <;> simp [sha.BSt.twin]
    · split <;> simp [sha.BSt.brim, sha.BSt.more]
theorem headInfo3 : (Tryz.prog.info? 59).map (fun i => (i.zero, i.size, i.bytes)) = some (some (.agg #[.int .u32 0, .int .u64 0, .int .u32 0]), 3, 24) := by kernel_rfl
def hdC (h : Nat × Nat × Nat) : List Value := [.int .u32 (h.1 : Int), .int .u64 (h.2.1 : Int), .int .u32 (h.2.2 : Int)]
theorem hdC_len (h : Nat × Nat × Nat) : (hdC h).length = 3 := rfl
theorem hd_at (H : List (Nat × Nat × Nat)) (j : Nat) (h : Nat × Nat × Nat) (hj : H[j]? = some h) (k : Nat) (hk : k < 3) : (H.flatMap hdC)[j * 3 + k]? = (hdC h)[k]? := by
  induction H generalizing j with
  | nil => simp at hj
  | cons a H ih =>
    cases j with
    | zero =>
      simp at hj; subst hj
      rw [List.flatMap_cons, List.getElem?_append_left (by rw [hdC_len]; omega)]
      simp
    | succ j =>
      rw [List.flatMap_cons, List.getElem?_append_right (by rw [hdC_len]; omega), hdC_len]
      rw [show (j + 1) * 3 + k - 3 = j * 3 + k by omega]
      exact ih j (by simpa using hj)
/-- what a round of the law keeps -/
structure HI (i : Nat) (x : PSt) (D : disk.DSt) (bb : sha.BSt) (c ep : Nat) (H : List (Nat × Nat × Nat)) (g d b : Nat) : Prop where
  hg : x.g = g
  hd : x.d = d
  hb : x.b = b
  hep : x.ep = ep
  hepl : ep < 4294967296
  hix : x.ix ≤ i
  hct : x.ct ≤ c
  hci : c ≤ i
  hdead : D.dead = false
  hacts : D.acts ≤ 2 * i
  hlen : D.sure.length = 4
  hrow : D.row.length ≤ i
  hbc : bb.c ≤ i
  hhl : H.length ≤ i
  hlo : ∀ h ∈ H, h.2.1 < x.ct ∨ (h.2.1 = x.ct ∧ h.2.2 ≤ x.ix)
section
variable {i : Nat} {x : PSt} {D : disk.DSt} {bb : sha.BSt} {c ep g d b : Nat} {H : List (Nat × Nat × Nat)}
theorem HI.turn (h : HI i x D bb c ep H g d b) (e : Nat) (he : e < 4294967296) : HI (i + 1) { x with ep := e } D bb c e H g d b :=
  ⟨h.hg, h.hd, h.hb, rfl, he, Nat.le_succ_of_le h.hix, h.hct, Nat.le_succ_of_le h.hci, h.hdead, by have := h.hacts; omega, h.hlen, Nat.le_succ_of_le h.hrow, Nat.le_succ_of_le h.hbc, Nat.le_succ_of_le h.hhl, h.hlo⟩
theorem HI.bump (h : HI i x D bb c ep H g d b) : HI (i + 1) x { D with acts := D.acts + 1 } bb (c + 1) ep H g d b :=
  ⟨h.hg, h.hd, h.hb, h.hep, h.hepl, Nat.le_succ_of_le h.hix, Nat.le_succ_of_le h.hct, Nat.succ_le_succ h.hci, h.hdead, by have := h.hacts; simp; omega, h.hlen, Nat.le_succ_of_le h.hrow, Nat.le_succ_of_le h.hbc, Nat.le_succ_of_le h.hhl, h.hlo⟩
theorem HI.nxle (h : HI i x D bb c ep H g d b) : nx c x ≤ i + 1 := by
  have := h.hix
  unfold pager.nx; split <;> omega
theorem HI.new (h : HI i x D bb c ep H g d b) : ∀ y ∈ H, ¬ (y.2.1 = c ∧ y.2.2 = nx c x) := by
  rintro y hy ⟨e1, e2⟩
  have h1 := h.hlo y hy
  have h2 := h.hct
  unfold pager.nx at e2
  split at e2 <;> omega
theorem HI.lay (h : HI i x D bb c ep H g d b) (B S : List UInt8) : HI (i + 1) (x.headed c) (D.wr 1 B) (sha.noteS bb S B) c ep (H ++ [(ep, c, nx c x)]) g d b := by
  refine ⟨h.hg, h.hd, h.hb, h.hep, h.hepl, h.nxle, Nat.le_refl _, Nat.le_succ_of_le h.hci, h.hdead, ?_, h.hlen, ?_, ?_, ?_, ?_⟩
  · have := h.hacts; simp [disk.DSt.wr]; omega
  · have := h.hrow; unfold disk.DSt.wr; simp only; split <;> simp <;> omega
  · have := note_c bb S B; have := h.hbc; omega
  · have := h.hhl; simp; omega
  · intro y hy
    simp only [List.mem_append, List.mem_singleton] at hy
    show y.2.1 < c ∨ (y.2.1 = c ∧ y.2.2 ≤ nx c x)
    rcases hy with hy | rfl
    · have h1 := h.hlo y hy
      have h2 := h.hct
      unfold pager.nx
      split <;> omega
    · exact Or.inr ⟨rfl, Nat.le_refl _⟩
end
set_option maxHeartbeats 8000000 in
theorem pagerHeads_walk (a0 : Option Addr) (len0 cap0 : Nat) (w : World) (w0 : SliceArg w a0 len0 1 (fun _ v => ∃ x, v = .int .i64 x ∧ (Lit.int .i64 x).wf = true)) (hT : sha.SaltAt w sha.salts) :
    Calls Tryz.prog 4 #[.slice a0 len0 cap0] w fun e w' => e = .returned (.bool true) ∧ Below w.heap.size w w' := by
  have hT' : SaltIn w [] := ⟨hT, by simp⟩
  have kA := fun W' (h' : Hp w [] [] W') => awake_any W' (hT.keep h'.bel)
  have kM : ∀ W', Hp w [] [] W' → Calls Tryz.prog 8 #[.int .i64 4, .int .i64 1] W' fun e w' => ∃ p g d b sg km fm, e = .returned (.tuple #[.pointer (some ⟨p, 0, none⟩), .pointer (some ⟨g, 0, none⟩), .pointer (some ⟨d, 0, none⟩), .pointer (some ⟨b, 0, none⟩)]) ∧ Hp w [] (news 4 1 p g d b sg km fm ++ []) w' := fun W' h' => made_any h' 4 (by omega) (by omega) 1 (by omega)
  obtain ⟨ms, hms⟩ : ∃ m, m = str masterL := ⟨_, rfl⟩
  have hnews : ∀ p g d b sg km fm W', Hp w [] (news 4 1 p g d b sg km fm ++ []) W' → Hp w [] [pg p (PSt.fresh g d b sg km fm 1), dev d ms (str disk.Z33) 0 g, dsk g (disk.blankSt (List.replicate 4 disk.Z512)), bk b .none] W' := fun p g d b sg km fm W' h' => by rw [hms]; exact (((h'.drop 7).drop 6).drop 5).drop 4
  have hI0 : ∀ g d b sg km fm : Nat, HI 0 (PSt.fresh g d b sg km fm 1) (disk.blankSt (List.replicate 4 disk.Z512)) .none 0 0 [] g d b := fun g d b sg km fm =>
    ⟨rfl, rfl, rfl, rfl, by omega, Nat.le_refl _, Nat.le_refl _, Nat.le_refl _, rfl, Nat.zero_le _, by simp [disk.blankSt], Nat.zero_le _, Nat.zero_le _, Nat.zero_le _, fun h hh => by cases hh⟩
  have kE := fun W' p (x : PSt) l (n : Nat) (h' : Hp w [] (pg p x :: l) W') => epoch_any h' n
  have kB : ∀ W' p x d reg c g D l i bb ep H b, HI i x D bb c ep H g d b → i < 1000 → Hp w [] (pg p x :: dev d ms reg c g :: dsk g D :: l) W' → Calls Tryz.prog 19 #[.pointer (some ⟨d, 0, none⟩), .string ⟨#[48, 49, 50, 51, 52, 53, 54, 55, 56, 57, 97, 98, 99, 100, 101, 102, 48, 49, 50, 51, 52, 53, 54, 55, 56, 57, 97, 98, 99, 100, 101, 102, 120]⟩] W' fun e w' => e = .returned (.int .i64 0) ∧ Hp w [] (pg p x :: dev d ms ⟨#[48, 49, 50, 51, 52, 53, 54, 55, 56, 57, 97, 98, 99, 100, 101, 102, 48, 49, 50, 51, 52, 53, 54, 55, 56, 57, 97, 98, 99, 100, 101, 102, 120]⟩ (c + 1) g :: dsk g { D with acts := D.acts + 1 } :: l) w' := fun W' p x d reg c g D l i bb ep H b hI hi h' =>
    bump_hp h' (i := 1) rfl (j := 2) rfl (by decide) hI.hdead (by have := hI.hacts; omega) (by have := hI.hci; omega) _ rfl
  have kL : ∀ W' p x d reg c g D bb ep H b i l, HI i x D bb c ep H g d b → i < 1000 → Hp w [] (pg p x :: dev d ms reg c g :: dsk g D :: bk b bb :: l) W' → ∀ B, B = sha.blockB masterL ep c (nx c x) 1 [120] → Calls Tryz.prog 20 #[.pointer (some ⟨p, 0, none⟩), .int .i64 1, .string ⟨#[120]⟩] W' fun e w' => e = .returned (.tuple #[.string (str (sha.shaB sha.salts B)), .string (str B), .int .i64 0]) ∧ Hp w [] (pg p (x.headed c) :: dev d ms reg c g :: dsk g (D.wr 1 B) :: bk b (sha.noteS bb (sha.shaB sha.salts B) B) :: l) w' := fun W' p x d reg c g D bb ep H b i l hI hi h' B hB => by
    rw [hms] at h' ⊢
    have := lay_any h' hT' hI.hg hI.hd hI.hb (by have := hI.hix; omega) (by rw [hI.hep]; exact hI.hepl) (by have := hI.hci; omega) (by decide) hI.hdead (by have := hI.hacts; omega) 1 (by rw [hI.hlen]; decide) (by rw [hI.hlen]; decide) (by have := hI.hrow; omega) (by have := hI.hbc; omega) [120] (by decide)
    rw [hI.hep, ← hB] at this
    exact this
  have kH : ∀ W' B e c i, B = sha.blockB masterL e c i 1 [120] → e < 4294967296 → c < 18446744073709551616 → i < 4294967296 → Calls Tryz.prog 21 #[.string (str B)] W' fun e' w' => e' = .returned (.tuple #[.agg #[.int .u32 (e : Int), .int .u64 (c : Int), .int .u32 (i : Int)], .int .i64 0]) ∧ Below W'.heap.size W' w' := fun W' B e c i hB he hc hi => by
    have := sha.bhead_any B (by rw [hB]; exact sha.blockB_len _ _ _ _ _ _ (by decide)) W'
    rw [hB, headB_block masterL e c i 1 [120] he hc hi (by decide)] at this
    rw [hB]; exact this
  have kD : ∀ W' g (D : disk.DSt) B l i, Hp w [] l W' → l[i]? = some (dsk g (D.wr 1 B)) → D.dead = false → D.sure.length = 4 → Calls Tryz.prog 22 #[.pointer (some ⟨g, 0, none⟩), .int .i64 1] W' fun e w' => e = .returned (.tuple #[.string (str B), .int .i64 0]) ∧ Hp w [] l w' := fun W' g D B l i h' hi hd hl => by
    have := read_hp h' hi hd 1 (by show 1 < D.sure.length; omega) (by show D.sure.length ≤ 100000; omega)
    rw [see_wr] at this
    exact this
  have kC : ∀ W' d reg c g l i, Hp w [] l W' → l[i]? = some (dev d ms reg c g) → Calls Tryz.prog 23 #[.pointer (some ⟨d, 0, none⟩)] W' fun e w' => e = .returned (.int .u64 (c : Int)) ∧ Hp w [] l w' := fun W' d reg c g l i h' hi => counter_hp h' hi
  have hp := Lib.hid (Hp.none_ w [])
  replace kA := Lib.hid kA; replace kM := Lib.hid kM; replace kE := Lib.hid kE; replace kB := Lib.hid kB; replace kL := Lib.hid kL; replace kH := Lib.hid kH; replace kD := Lib.hid kD; replace kC := Lib.hid kC; replace hnews := Lib.hid hnews; replace hI0 := Lib.hid hI0; replace w0 := Lib.hid w0
  clear hT hT' hms
  go_enter Tryz.func4, Tryz.ntmps4
  go_wp2_with (go_at_call 8; (with_reducible refine (kM.out _ hp.out).mono ?_); rintro e w1 ⟨p, g, d, b, sg, km, fm, rfl, h1⟩; replace hp := Lib.hid (hnews.out _ _ _ _ _ _ _ _ h1); have hI1 := Lib.hid (hI0.out g d b sg km fm); clear h1 hnews hI0)
  have hst := Lib.hid (toEnd4 (hp.out.rowLit #[] 59 3 0 (by unfold maxLen; omega) rfl))
  clear hp
  go_loopg [7, 8, 9] (min len0 40) (fun kk s7 s8 s9 wr => ∃ (i : Nat) (ad : Option Addr) (cp : Nat) (H : List (Nat × Nat × Nat)) (x : PSt) (c : Nat) (D : disk.DSt) (bb : sha.BSt) (reg : ByteArray) (ep : Nat), s9 = .int .i64 (i : Int) ∧ i + kk = min len0 40 ∧ s7 = .slice ad H.length cp ∧ s8 = .int .u32 (ep : Int) ∧ HI i x D bb c ep H g d b ∧ Hp w [] (pg p x :: dev d ms reg c g :: dsk g D :: bk b bb :: [.row 59 3 (.slice ad H.length cp) H.length (H.flatMap hdC)]) wr)
  case atStart => exact ⟨0, _, _, [], _, _, _, _, _, _, rfl, by omega, rfl, rfl, hI1.out, hst.out⟩
  case round =>
    clear hst hI1
    obtain ⟨i, ad, cp, H, x, c, D, bb, reg, ep, rfl, hik, rfl, rfl, hI, hp⟩ := hrel
    replace hp := Lib.hid hp; replace hI := Lib.hid hI; replace hik := Lib.hid hik
    by_cases hi : i < len0 ∧ i < 40
    · obtain ⟨hi1, hi2⟩ := hi
      obtain ⟨Ko, rfl⟩ : ∃ K : Nat, gk = K + 1 := ⟨gk - 1, by have := hik.out; omega⟩
      obtain ⟨hw1, hw2⟩ := w0.out
      obtain ⟨b0, off, rfl, hlt, hcells⟩ := hw2.resolve_left (by omega)
      obtain ⟨v0, hv0, x0, rfl, hx0⟩ := hcells i hi1 0 (by omega)
      have d0 : wr.cell? ⟨b0, off + i, none⟩ = some (.int .i64 x0) := by
        have := (hp.out.bel.cell (p := ⟨b0, off + i * 1 + 0, none⟩) hlt).trans hv0
        simpa using this
      have e1 : (0 : Int) ≤ (i : Int) := by omega
      have e2 : (i : Int) < (len0 : Int) := by omega
      have e3 : (i : Int) < 40 := by omega
      have hand : bits .and .i64 x0 3 = x0 % 4 := and_3 x0
      clear hcells hw2 hv0 hw1
      by_cases hc0 : x0 % 4 = 0
      · obtain ⟨E, hE, hE8⟩ : ∃ E : Nat, bits .and .i64 (x0 / 4) 7 % 4294967296 = (E : Int) ∧ E < 8 := ⟨((x0 / 4) % 8).toNat, by rw [and_7]; omega, by omega⟩
        go_wp2_with (go_at_call 14; (with_reducible refine (kE.out _ _ _ _ _ hp.out).mono ?_); rintro e w2 ⟨rfl, h1⟩; replace hp := Lib.hid h1; clear h1)
        go_roundg Ko
        case measure => omega
        case rel => exact ⟨i + 1, ad, cp, H, _, _, _, _, _, _, by go_num, by have := hik.out; omega, rfl, rfl, hI.out.turn E (by omega), hp.out⟩
      · by_cases hc1 : x0 % 4 = 1
        · go_wp2_with (go_at_call 19; (with_reducible refine (kB.out _ _ _ _ _ _ _ _ _ _ _ _ _ _ hI.out (by omega) hp.out).mono ?_); rintro e w2 ⟨rfl, h1⟩; replace hp := Lib.hid h1; clear h1)
          go_roundg Ko
          case measure => omega
          case rel => exact ⟨i + 1, ad, cp, H, _, _, _, _, _, _, by go_num, by have := hik.out; omega, rfl, rfl, hI.out.bump, hp.out⟩
        · obtain ⟨B, hB⟩ : ∃ B, B = sha.blockB masterL ep c (nx c x) 1 [120] := ⟨_, rfl⟩
          obtain ⟨R, hR⟩ : ∃ R, R = nx c x := ⟨_, rfl⟩
          have hRl := hI.out.nxle
          have hnew := hI.out.new
          have hlay := hI.out.lay B (sha.shaB sha.salts B)
          rw [← hR] at hRl hnew hlay
          have kLx := fun W' l h' => kL.out W' p x d reg c g D bb ep H b i l hI.out (by omega) h' B hB
          have kHx := fun W' => kH.out W' B ep c R (by rw [hR]; exact hB) hI.out.hepl (by have := hI.out.hci; omega) (by omega)
          have kDx := fun W' l i h' hi => kD.out W' g D B l i h' hi hI.out.hdead hI.out.hlen
          have hHl := hI.out.hhl
          obtain ⟨BB, hBB⟩ : ∃ x, x = str B := ⟨_, rfl⟩
          rw [← hBB] at kLx kHx kDx
          obtain ⟨x2, hx2⟩ : ∃ z, z = x.headed c := ⟨_, rfl⟩
          obtain ⟨D2, hD2⟩ : ∃ z, z = D.wr 1 B := ⟨_, rfl⟩
          obtain ⟨bb2, hbb2⟩ : ∃ z, z = sha.noteS bb (sha.shaB sha.salts B) B := ⟨_, rfl⟩
          rw [← hx2, ← hD2, ← hbb2] at hlay
          rw [← hx2, ← hD2, ← hbb2] at kLx
          rw [← hD2] at kDx
          obtain ⟨SS, hSS⟩ : ∃ x, x = str (sha.shaB sha.salts B) := ⟨_, rfl⟩
          rw [← hSS] at kLx
          replace kLx := Lib.hid kLx; replace kHx := Lib.hid kHx; replace kDx := Lib.hid kDx; replace hnew := Lib.hid hnew; replace hlay := Lib.hid hlay; replace hHl := Lib.hid hHl
          clear hI hB hR hRl hBB hx2 hD2 hbb2 hSS hx0
          go_upto_region 9 with (first
            | (go_at_call 20; (with_reducible refine (kLx.out _ _ hp.out).mono ?_); rintro e w2 ⟨rfl, h1⟩; replace hp := Lib.hid h1; clear h1)
            | (go_at_call 21; (with_reducible refine (kHx.out _).mono ?_); rintro e w3 ⟨rfl, b3⟩; replace hp := Lib.hid (hp.out.below b3); clear b3))
          replace hp := Lib.hid (toEnd4 (hp.out.alloc #[.int .u32 (ep : Int), .int .u64 (c : Int), .int .u32 (R : Int)] 59))
          generalize World.alloc _ _ = W4 at hp ⊢
          generalize w3.heap.size = q at hp ⊢
          go_upto_region 10 with (go_at_call 22; (with_reducible refine (kDx.out _ _ 2 hp.out rfl).mono ?_); rintro e w5 ⟨rfl, h1⟩; replace hp := Lib.hid h1; clear h1)
          replace hp := Lib.hid hp.out.drew
          have hsC : ∀ W', Hp w [] (pg p x2 :: dev d ms reg c g :: dsk g D2 :: bk b bb2 :: [.box q #[.int .u32 (ep : Int), .int .u64 (c : Int), .int .u32 (R : Int)] 59, .row 59 3 (.slice ad H.length cp) H.length (H.flatMap hdC)]) W' → W'.cell? ⟨q, 0, none⟩ = some (.int .u32 (ep : Int)) ∧ W'.cell? ⟨q, 1, none⟩ = some (.int .u64 (c : Int)) := fun W' h' => ⟨h'.cell (i := 4) rfl 0, h'.cell (i := 4) rfl 1⟩
          have hsD : ∀ W', Hp w [] (pg p x2 :: dev d ms reg c g :: dsk g D2 :: bk b bb2 :: [.box q #[.int .u32 (ep : Int), .int .u64 (c : Int), .int .u32 (R : Int)] 59, .row 59 3 (.slice ad H.length cp) H.length (H.flatMap hdC)]) W' → W'.cell? ⟨q, 0, none⟩ = some (.int .u32 (ep : Int)) ∧ W'.cell? ⟨q, 1, none⟩ = some (.int .u64 (c : Int)) ∧ W'.cell? ⟨q, 2, none⟩ = some (.int .u32 (R : Int)) := fun W' h' => ⟨h'.cell (i := 4) rfl 0, h'.cell (i := 4) rfl 1, h'.cell (i := 4) rfl 2⟩
          replace hsC := Lib.hid hsC; replace hsD := Lib.hid hsD
          refine wp_region_noPanic ?_; refine wp_region_held_drew (S := (fun W' => W'.cell? ⟨q, 0, none⟩ = some (.int .u32 (ep : Int)) ∧ W'.cell? ⟨q, 1, none⟩ = some (.int .u64 (c : Int)))) (by kernel_rfl) ?_ (fun hHeld => ?_); (focus ((try dsimp only); exact hsC.out _ hp.out; done)); (refine take_t (i := 0) (d := 56) (oi := _) (v := ?_) rfl rfl (by kernel_rfl) (by kernel_rfl) (by kernel_rfl) (by rfl) ?_ (by assumption) ?_; rotate_left; (focus (intro w0 hSw; (try dsimp only at hSw); go_simp; (try with_reducible rfl); done)); try simp only [Act.put, List.setIfInBounds_toArray, List.set_cons_zero, List.set_cons_succ]); (refine take_t (i := 1) (d := 57) (oi := _) (v := ?_) rfl rfl (by kernel_rfl) (by kernel_rfl) (by kernel_rfl) (by rfl) ?_ (by assumption) ?_; rotate_left; (focus (intro w0 hSw; (try dsimp only at hSw); go_simp; (try with_reducible rfl); done)); try simp only [Act.put, List.setIfInBounds_toArray, List.set_cons_zero, List.set_cons_succ]); (refine take_t (i := 2) (d := 58) (oi := _) (v := ?_) rfl rfl (by kernel_rfl) (by kernel_rfl) (by kernel_rfl) (by rfl) ?_ (by assumption) ?_; rotate_left; (focus (intro w0 hSw; (try dsimp only at hSw); go_simp; (try with_reducible rfl); done)); try simp only [Act.put, List.setIfInBounds_toArray, List.set_cons_zero, List.set_cons_succ]); (refine take_t (i := 3) (d := 59) (oi := _) (v := ?_) rfl rfl (by kernel_rfl) (by kernel_rfl) (by kernel_rfl) (by rfl) ?_ (by assumption) ?_; rotate_left; (focus (intro w0 hSw; (try dsimp only at hSw); go_simp; (try with_reducible rfl); done)); try simp only [Act.put, List.setIfInBounds_toArray, List.set_cons_zero, List.set_cons_succ]); (refine take_t (i := 4) (d := 60) (oi := _) (v := ?_) rfl rfl (by kernel_rfl) (by kernel_rfl) (by kernel_rfl) (by rfl) ?_ (by assumption) ?_; rotate_left; (focus (intro w0 hSw; (try dsimp only at hSw); go_simp; (try with_reducible rfl); done)); try simp only [Act.put, List.setIfInBounds_toArray, List.set_cons_zero, List.set_cons_succ]); (refine take_t (i := 5) (d := 61) (oi := _) (v := ?_) rfl rfl (by kernel_rfl) (by kernel_rfl) (by kernel_rfl) (by rfl) ?_ (by assumption) ?_; rotate_left; (focus (intro w0 hSw; (try dsimp only at hSw); go_simp; (try with_reducible rfl); done)); try simp only [Act.put, List.setIfInBounds_toArray, List.set_cons_zero, List.set_cons_succ]); (refine take_t (i := 6) (d := 62) (oi := _) (v := ?_) rfl rfl (by kernel_rfl) (by kernel_rfl) (by kernel_rfl) (by rfl) ?_ (by assumption) ?_; rotate_left; (focus (intro w0 hSw; (try dsimp only at hSw); go_simp; (try with_reducible rfl); done)); try simp only [Act.put, List.setIfInBounds_toArray, List.set_cons_zero, List.set_cons_succ]); (refine take_t (i := 7) (d := 63) (oi := _) (v := ?_) rfl rfl (by kernel_rfl) (by kernel_rfl) (by kernel_rfl) (by rfl) ?_ (by assumption) ?_; rotate_left; (focus (intro w0 hSw; (try dsimp only at hSw); go_simp; (try with_reducible rfl); done)); try simp only [Act.put, List.setIfInBounds_toArray, List.set_cons_zero, List.set_cons_succ]); (refine take_t (i := 8) (d := 64) (oi := _) (v := ?_) rfl rfl (by kernel_rfl) (by kernel_rfl) (by kernel_rfl) (by rfl) ?_ (by assumption) ?_; rotate_left; (focus (intro w0 hSw; (try dsimp only at hSw); go_simp; (try with_reducible rfl); done)); try simp only [Act.put, List.setIfInBounds_toArray, List.set_cons_zero, List.set_cons_succ]); (refine take_t (i := 9) (d := 65) (oi := _) (v := ?_) rfl rfl (by kernel_rfl) (by kernel_rfl) (by kernel_rfl) (by rfl) ?_ (by assumption) ?_; rotate_left; (focus (intro w0 hSw; (try dsimp only at hSw); go_simp; (try with_reducible rfl); done)); try simp only [Act.put, List.setIfInBounds_toArray, List.set_cons_zero, List.set_cons_succ]); (refine take_t (i := 10) (d := 66) (oi := _) (v := ?_) rfl rfl (by kernel_rfl) (by kernel_rfl) (by kernel_rfl) (by rfl) ?_ (by assumption) ?_; rotate_left; (focus (intro w0 hSw; (try dsimp only at hSw); go_simp; (try with_reducible rfl); done)); try simp only [Act.put, List.setIfInBounds_toArray, List.set_cons_zero, List.set_cons_succ]); (refine take_t (i := 11) (d := 67) (oi := _) (v := ?_) rfl rfl (by kernel_rfl) (by kernel_rfl) (by kernel_rfl) (by rfl) ?_ (by assumption) ?_; rotate_left; (focus (intro w0 hSw; (try dsimp only at hSw); go_simp; (try with_reducible rfl); done)); try simp only [Act.put, List.setIfInBounds_toArray, List.set_cons_zero, List.set_cons_succ]); (refine take_t (i := 12) (d := 68) (oi := _) (v := ?_) rfl rfl (by kernel_rfl) (by kernel_rfl) (by kernel_rfl) (by rfl) ?_ (by assumption) ?_; rotate_left; (focus (intro w0 hSw; (try dsimp only at hSw); go_simp; (try with_reducible rfl); done)); try simp only [Act.put, List.setIfInBounds_toArray, List.set_cons_zero, List.set_cons_succ]); (refine take_t (i := 13) (d := 69) (oi := _) (v := ?_) rfl rfl (by kernel_rfl) (by kernel_rfl) (by kernel_rfl) (by rfl) ?_ (by assumption) ?_; rotate_left; (focus (intro w0 hSw; (try dsimp only at hSw); go_simp; (try with_reducible rfl); done)); try simp only [Act.put, List.setIfInBounds_toArray, List.set_cons_zero, List.set_cons_succ]); (refine take_t (i := 14) (d := 70) (oi := _) (v := ?_) rfl rfl (by kernel_rfl) (by kernel_rfl) (by kernel_rfl) (by rfl) ?_ (by assumption) ?_; rotate_left; (focus (intro w0 hSw; (try dsimp only at hSw); go_simp; (try with_reducible rfl); done)); try simp only [Act.put, List.setIfInBounds_toArray, List.set_cons_zero, List.set_cons_succ]); (refine take_t (i := 15) (d := 71) (oi := _) (v := ?_) rfl rfl (by kernel_rfl) (by kernel_rfl) (by kernel_rfl) (by rfl) ?_ (by assumption) ?_; rotate_left; (focus (intro w0 hSw; (try dsimp only at hSw); go_simp; (try with_reducible rfl); done)); try simp only [Act.put, List.setIfInBounds_toArray, List.set_cons_zero, List.set_cons_succ]); (refine take_t (i := 16) (d := 72) (oi := _) (v := ?_) rfl rfl (by kernel_rfl) (by kernel_rfl) (by kernel_rfl) (by rfl) ?_ (by assumption) ?_; rotate_left; (focus (intro w0 hSw; (try dsimp only at hSw); go_simp; (try with_reducible rfl); done)); try simp only [Act.put, List.setIfInBounds_toArray, List.set_cons_zero, List.set_cons_succ]); (refine take_t (i := 17) (d := 73) (oi := _) (v := ?_) rfl rfl (by kernel_rfl) (by kernel_rfl) (by kernel_rfl) (by rfl) ?_ (by assumption) ?_; rotate_left; (focus (intro w0 hSw; (try dsimp only at hSw); go_simp; (try with_reducible rfl); done)); try simp only [Act.put, List.setIfInBounds_toArray, List.set_cons_zero, List.set_cons_succ]); (refine take_t (i := 18) (d := 74) (oi := _) (v := ?_) rfl rfl (by kernel_rfl) (by kernel_rfl) (by kernel_rfl) (by rfl) ?_ (by assumption) ?_; rotate_left; (focus (intro w0 hSw; (try dsimp only at hSw); go_simp; (try with_reducible rfl); done)); try simp only [Act.put, List.setIfInBounds_toArray, List.set_cons_zero, List.set_cons_succ]); (refine take_t (i := 19) (d := 75) (oi := _) (v := ?_) rfl rfl (by kernel_rfl) (by kernel_rfl) (by kernel_rfl) (by rfl) ?_ (by assumption) ?_; rotate_left; (focus (intro w0 hSw; (try dsimp only at hSw); go_simp; (try with_reducible rfl); done)); try simp only [Act.put, List.setIfInBounds_toArray, List.set_cons_zero, List.set_cons_succ]); (refine take_t (i := 20) (d := 76) (oi := _) (v := ?_) rfl rfl (by kernel_rfl) (by kernel_rfl) (by kernel_rfl) (by rfl) ?_ (by assumption) ?_; rotate_left; (focus (intro w0 hSw; (try dsimp only at hSw); go_simp; (try with_reducible rfl); done)); try simp only [Act.put, List.setIfInBounds_toArray, List.set_cons_zero, List.set_cons_succ]); (refine wpAnyH_ready (rs := [21]) (by kernel_rfl) (by simp) ?_; refine AllReadyH.cons (o := _) rfl (fun K' hK => ?_) AllReadyH.nil; go_simp; (go_at_call 23; (with_reducible refine (kC.out _ _ _ _ _ _ 1 hp.out rfl).mono ?_); rintro e' w6 ⟨rfl, h1⟩; replace hp := Lib.hid h1; clear h1); (try dsimp only); refine hK.out _ _ ?_ (fun hHeld2 => ?_); (focus ((try dsimp only); exact hsC.out _ hp.out; done)); clear hK K'; clear hHeld; have hHeld := hHeld2; clear hHeld2; try simp only [Act.put, List.setIfInBounds_toArray, List.set_cons_zero, List.set_cons_succ]); (refine take_t (i := 22) (d := 78) (oi := _) (v := ?_) rfl rfl (by kernel_rfl) (by kernel_rfl) (by kernel_rfl) (by rfl) ?_ (by assumption) ?_; rotate_left; (focus (intro w0 hSw; (try dsimp only at hSw); go_simp; (try with_reducible rfl); done)); try simp only [Act.put, List.setIfInBounds_toArray, List.set_cons_zero, List.set_cons_succ]); (refine take_t (i := 23) (d := 79) (oi := _) (v := ?_) rfl rfl (by kernel_rfl) (by kernel_rfl) (by kernel_rfl) (by rfl) ?_ (by assumption) ?_; rotate_left; (focus (intro w0 hSw; (try dsimp only at hSw); go_simp; (try with_reducible rfl); done)); try simp only [Act.put, List.setIfInBounds_toArray, List.set_cons_zero, List.set_cons_succ]); refine wpAnyH_done (by kernel_rfl) ?_ _; refine NoPanic.normal ?_
          clear hHeld hsC
          go_wp2
          go_loopg [17] H.length (fun kk s17 wx => ∃ j : Nat, s17 = .int .i64 (j : Int) ∧ j + kk = H.length ∧ Hp w [] (pg p x2 :: dev d ms reg c g :: dsk g D2 :: bk b bb2 :: [.box q #[.int .u32 (ep : Int), .int .u64 (c : Int), .int .u32 (R : Int)] 59, .row 59 3 (.slice ad H.length cp) H.length (H.flatMap hdC)]) wx)
          case atStart => exact ⟨0, rfl, by omega, hp.out⟩
          case round =>
            clear hp
            obtain ⟨j, rfl, hjk, hp⟩ := hrel
            replace hp := Lib.hid hp; replace hjk := Lib.hid hjk
            by_cases hj : j < H.length
            · obtain ⟨K2, rfl⟩ : ∃ K : Nat, gk = K + 1 := ⟨gk - 1, by have := hjk.out; omega⟩
              obtain ⟨y, hy⟩ : ∃ y, H[j]? = some y := ⟨_, List.getElem?_eq_getElem hj⟩
              have hne := hnew.out y (List.mem_of_getElem? hy)
              have hrow := hp.out.row (i := 5) rfl
              obtain ⟨r0, rfl⟩ : ∃ r0, ad = some ⟨r0, 0, none⟩ := by
                rcases hrow.2 with ⟨_, h0⟩ | ⟨g0, cap, cur, hv, _⟩
                · omega
                · injection hv with e1; exact ⟨g0, e1⟩
              have y0 := (hrow.cellAt (j * 3) (by omega)).trans (hd_at H j y hy 0 (by decide))
              have y1 := (hrow.cellAt (j * 3 + 1) (by omega)).trans (hd_at H j y hy 1 (by decide))
              have y2 := (hrow.cellAt (j * 3 + 2) (by omega)).trans (hd_at H j y hy 2 (by decide))
              obtain ⟨a0, a1, a2⟩ := hsD.out _ hp.out
              obtain ⟨ye, yc, yi⟩ := y
              simp [hdC] at y0 y1 y2
              simp only at hne
              have f1 : (0 : Int) ≤ (j : Int) := by omega
              have hjb : j < 1000 := by have := hHl.out; omega
              have f2 : (j : Int) < (H.length : Int) := by omega
              clear hrow hy
              by_cases g1 : ye = ep
              · subst g1
                by_cases g2 : yc = c
                · subst g2
                  have g3 : ¬ ((yi : Int) = (R : Int)) := by intro h; exact hne ⟨rfl, by omega⟩
                  clear hne
                  go_upto_region 15 with fail
                  go_region
                  go_wp2
                  go_roundg K2
                  case measure => omega
                  case rel => exact ⟨j + 1, by go_num, by have := hjk.out; omega, hp.out.drew⟩
                · have g3 : ¬ ((yc : Int) = (c : Int)) := by omega
                  clear hne g2
                  go_upto_region 15 with fail
                  go_region
                  go_wp2
                  go_roundg K2
                  case measure => omega
                  case rel => exact ⟨j + 1, by go_num, by have := hjk.out; omega, hp.out.drew⟩
              · have g3 : ¬ ((ye : Int) = (ep : Int)) := by omega
                clear hne g1
                go_upto_region 15 with fail
                go_region
                go_wp2
                go_roundg K2
                case measure => omega
                case rel => exact ⟨j + 1, by go_num, by have := hjk.out; omega, hp.out.drew⟩
            · obtain rfl : j = H.length := by have := hjk.out; omega
              have f2 : ¬ ((H.length : Int) < (H.length : Int)) := by omega
              have hfl : (H ++ [(ep, c, R)]).flatMap hdC = H.flatMap hdC ++ [.int .u32 (ep : Int), .int .u64 (c : Int), .int .u32 (R : Int)] := by simp [hdC]
              have hln : (H ++ [(ep, c, R)]).length = H.length + 1 := by simp
              have hH9 : H.length < 100000000 := by have := hHl.out; omega
              have hi9 : i < 1000 := by omega
              obtain ⟨a0, a1, a2⟩ := hsD.out _ hp.out
              replace hfl := Lib.hid hfl; replace hln := Lib.hid hln; replace hH9 := Lib.hid hH9
              go_wp2_with (at_builtin; go_loud (refine wpList_append_hp rfl _ _ rfl Tryz.underlying52 headInfo3 rfl (by decide) (by decide) (hp.out.alloc_ (.cells #[.int .u32 (ep : Int), .int .u64 (c : Int), .int .u32 (R : Int)] 59)) 5 rfl rfl _ _ [.int .u32 (ep : Int), .int .u64 (c : Int), .int .u32 (R : Int)] rfl rfl (block_cells (heap_alloc_new _ _)) (by intro u hu; simp at hu; rcases hu with rfl | rfl | rfl <;> rfl) hH9.out ?_; intro v5 w7 hp5 hv5; replace hp5 := Lib.hid hp5; obtain ⟨b5, cp5, rfl⟩ := hv5))
              go_roundg Ko
              case measure => omega
              case rel => exact ⟨i + 1, _, _, H ++ [(ep, c, R)], x2, c, D2, bb2, reg, ep, by go_num, by have := hik.out; omega, by rw [hln.out], rfl, hlay.out, by rw [hfl.out, hln.out]; exact hp5.out.drop 4⟩
    · have hend : ¬ ((i : Int) < (len0 : Int)) ∨ (((i : Int) < (len0 : Int)) ∧ ¬ ((i : Int) < 40)) := by omega
      rcases hend with h1 | ⟨h1, h2⟩
      · go_wp2_with (go_at_call 9; (with_reducible refine (kA.out _ ((Hp.none_ w []).below hp.out.bel)).mono ?_); rintro e w11 ⟨rfl, b8⟩; replace hp := Lib.hid (hp.out.below b8); clear b8)
        go_ret
        exact ⟨rfl, hp.out.bel⟩
      · go_wp2_with (go_at_call 9; (with_reducible refine (kA.out _ ((Hp.none_ w []).below hp.out.bel)).mono ?_); rintro e w11 ⟨rfl, b8⟩; replace hp := Lib.hid (hp.out.below b8); clear b8)
        go_ret
        exact ⟨rfl, hp.out.bel⟩
end Go.Proofs.YtcdcipfojfnblaaGreatDoor.pager
