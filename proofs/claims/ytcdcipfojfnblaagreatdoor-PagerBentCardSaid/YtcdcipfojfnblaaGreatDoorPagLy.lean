/- What is laid is the document's block, and its sum; it is fetched by that sum, and not by another one: the law PagerLays. The table of salts is a premise. -/
import Derived.Test.YtcdcipfojfnblaaGreatDoorPag6
import Derived.Test.YtcdcipfojfnblaaGreatDoorShaHead
import Derived.Test.YtcdcipfojfnblaaGreatDoorMgShR
namespace Go.Proofs.YtcdcipfojfnblaaGreatDoor.pager
open Go.RowKit mach mpr
attribute [local go_sem ↓] Go.wp_at_zero Go.wp_at_succ
set_option linter.unusedVariables false
set_option linter.unusedSimpArgs false
set_option maxRecDepth 100000

theorem cut_min' (s : ByteArray) (k : Nat) : s.extract 0 (min (s.size : Int) k).toNat = str (s.data.toList.take k) := by
  have hl : s.data.toList.length = s.size := by rw [Array.length_toList]; rfl
  rw [cut_text]
  congr 1
  rw [List.take_eq_take_iff]; omega
theorem see_wr (st : disk.DSt) (n : Nat) (s : List UInt8) : (st.wr n s).see n = s := by simp [disk.DSt.see, disk.DSt.wr]
theorem note_first (S B : List UInt8) : sha.noteS .none S B = sha.BSt.none.more S B := by simp [sha.noteS, sha.BSt.none]
theorem note_again (S B : List UInt8) : sha.noteS (sha.BSt.none.more S B) S B = sha.BSt.none.more S B := by simp [sha.noteS, sha.BSt.none, sha.BSt.more]
theorem fch_own (n : Nat) (hn : n < 4096) (L : List UInt8) (hL : L.length ≤ 462) (i : Nat) (hi : i < 4294967296) (c : Nat) (hc : c < 18446744073709551616) (e : Nat) (he : e < 4294967296) (sum : List UInt8) (h : sum = [] ∨ sum = sha.shaB sha.salts (sha.blockB masterL e c i n L)) :
    fch masterL n (sha.blockB masterL e c i n L) sum = ⟨e, c, i, L, 0⟩ := by
  unfold fch
  rw [sha.get_block masterL e c i n L he hc hi hL]
  rw [if_pos (by rcases h with h | h; exact Or.inl h; exact Or.inr h.symm)]
  simp
theorem fch_other (m : List UInt8) (n : Nat) (B sum : List UInt8) (h0 : sum ≠ []) (h : sum ≠ sha.shaB sha.salts B) : fch m n B sum = ⟨0, 0, 0, [], 8⟩ := by
  unfold fch
  rw [if_neg]
  rintro (h1 | h1)
  · exact h0 h1
  · exact h h1.symm
theorem toEnd4 {w W : World} {X : List Nat} {rs : List Rs} {r a b c d : Rs} (H : Hp w X (r :: a :: b :: c :: d :: rs) W) : Hp w X (a :: b :: c :: d :: r :: rs) W := by
  have := (((H.front 4 rfl).front 4 rfl).front 4 rfl).front 4 rfl
  exact this
set_option maxHeartbeats 8000000 in
theorem pagerLays_walk (a0 : Int) (a1 : ByteArray) (a2 : ByteArray) (w : World) (w0 : (Lit.int .i64 a0).wf = true) (w1 : a1.size ≤ reachBytes) (w2 : a2.size ≤ reachBytes) (hT : sha.SaltAt w sha.salts) :
    Calls Tryz.prog 5 #[.int .i64 a0, .string a1, .string a2] w fun e w' => e = .returned (.bool true) ∧ Below w.heap.size w w' := by
  have hT' : SaltIn w [] := ⟨hT, by simp⟩
  obtain ⟨n, hn⟩ : ∃ n : Nat, a0 % 4 + 1 = (n : Int) := ⟨(a0 % 4 + 1).toNat, by omega⟩
  have hn1 : 1 ≤ n ∧ n ≤ 4 := by omega
  have hand : bits .and .i64 a0 3 = a0 % 4 := and_3 a0
  obtain ⟨L, hL⟩ : ∃ L, L = a1.data.toList.take 462 := ⟨_, rfl⟩
  obtain ⟨M, hM⟩ : ∃ M, M = a2.data.toList.take 50 := ⟨_, rfl⟩
  have hLl : L.length ≤ 462 := by rw [hL, List.length_take]; omega
  have hMl : M.length ≤ 50 := by rw [hM, List.length_take]; omega
  have x1 : a1.extract 0 (min (a1.size : Int) 462).toNat = str L := by rw [hL]; exact cut_min' a1 462
  have x2 : a2.extract 0 (min (a2.size : Int) 50).toNat = str M := by rw [hM]; exact cut_min' a2 50
  have m1 : min (a1.size : Int) 462 ≤ (a1.size : Int) := by omega
  have m2 : 0 ≤ min (a1.size : Int) 462 := by omega
  have m3 : min (a2.size : Int) 50 ≤ (a2.size : Int) := by omega
  have m4 : 0 ≤ min (a2.size : Int) 50 := by omega
  obtain ⟨B, hB⟩ : ∃ B, B = sha.blockB masterL 0 0 1 n L := ⟨_, rfl⟩
  have hBl : B.length = 512 := by rw [hB]; exact sha.blockB_len _ _ _ _ _ _ hLl
  obtain ⟨S, hS⟩ : ∃ S, S = sha.shaB sha.salts B := ⟨_, rfl⟩
  have hSl : S.length = 32 := by rw [hS]; exact sha.shaB_len _ _
  obtain ⟨O, hO⟩ : ∃ O, O = sha.shaB sha.salts M := ⟨_, rfl⟩
  have hOl : O.length = 32 := by rw [hO]; exact sha.shaB_len _ _
  have hSn : S ≠ [] := by intro h; rw [h] at hSl; cases hSl
  have hOn : O ≠ [] := by intro h; rw [h] at hOl; cases hOl
  have e0 := sha.rsum_any B (by omega)
  rw [← hS] at e0
  have e1 := sha.rsum_any M (by omega)
  rw [← hO] at e1
  have kP : ∀ W', Hp w [] [] W' → Calls Tryz.prog 26 #[.string (str masterL), .agg #[.int .u32 0, .int .u64 0, .int .u32 1], .int .i64 (n : Int), .string (str L)] W' fun e' w' => e' = .returned (.string (str B)) ∧ Below W'.heap.size W' w' := fun W' h' => by
    rw [hB]; exact sha.rput_any masterL L 0 0 1 n (n : Int) (IntWalk.u32_in _ (by omega)) (by omega) (by omega) (by omega) (by omega) (by decide) hLl W' (hT'.at h')
  have kA := fun W' (h' : Hp w [] [] W') => awake_any W' (hT.keep h'.bel)
  have kM : ∀ W', Hp w [] [] W' → Calls Tryz.prog 8 #[.int .i64 6, .int .i64 1] W' fun e w' => ∃ p g d b sg km fm, e = .returned (.tuple #[.pointer (some ⟨p, 0, none⟩), .pointer (some ⟨g, 0, none⟩), .pointer (some ⟨d, 0, none⟩), .pointer (some ⟨b, 0, none⟩)]) ∧ Hp w [] (news 6 1 p g d b sg km fm ++ []) w' := fun W' h' => made_any h' 6 (by omega) (by omega) 1 (by omega)
  have hlen : (disk.blankSt (List.replicate 6 disk.Z512)).sure.length = 6 := by simp [disk.blankSt]
  obtain ⟨D1, hD1⟩ : ∃ D, D = (disk.blankSt (List.replicate 6 disk.Z512)).wr n B := ⟨_, rfl⟩
  have hDl : D1.sure.length = 6 := by rw [hD1]; simp [disk.DSt.wr, disk.blankSt]
  have hDd : D1.dead = false := by rw [hD1]; rfl
  have hDs : D1.see n = B := by rw [hD1]; exact see_wr _ _ _
  obtain ⟨b1, hb1⟩ : ∃ D, D = sha.BSt.none.more S B := ⟨_, rfl⟩
  have hbc : b1.c = 1 := by rw [hb1]; rfl
  have kL : ∀ W' p g d b sg km fm l, Hp w [] (pg p (PSt.fresh g d b sg km fm 1) :: dev d (str masterL) (str disk.Z33) 0 g :: dsk g (disk.blankSt (List.replicate 6 disk.Z512)) :: bk b .none :: l) W' → Calls Tryz.prog 20 #[.pointer (some ⟨p, 0, none⟩), .int .i64 (n : Int), .string (str L)] W' fun e w' => e = .returned (.tuple #[.string (str S), .string (str B), .int .i64 0]) ∧ Hp w [] (pg p ((PSt.fresh g d b sg km fm 1).headed 0) :: dev d (str masterL) (str disk.Z33) 0 g :: dsk g D1 :: bk b b1 :: l) w' := fun W' p g d b sg km fm l h' => by
    have := lay_any h' hT' rfl rfl rfl (by simp [PSt.fresh]) (by simp [PSt.fresh]) (by omega) (by decide) rfl (by simp [disk.blankSt]) n (by omega) (by omega) (by simp [disk.blankSt]) (by decide) L hLl
    have en : nx 0 (PSt.fresh g d b sg km fm 1) = 1 := rfl
    have ee : (PSt.fresh g d b sg km fm 1).ep = 0 := rfl
    rw [en, ee, ← hB, ← hS, note_first, ← hD1, ← hb1] at this
    exact this
  have kD : ∀ W' g l i, Hp w [] l W' → l[i]? = some (dsk g D1) → Calls Tryz.prog 22 #[.pointer (some ⟨g, 0, none⟩), .int .i64 (n : Int)] W' fun e w' => e = .returned (.tuple #[.string (str B), .int .i64 0]) ∧ Hp w [] l w' := fun W' g l i h' hi => by rw [← hDs]; exact read_hp h' hi hDd n (by omega) (by omega)
  have kF : ∀ W' p g d b (x : PSt) l sum, x.g = g → x.d = d → x.b = b → 0 ≤ x.fet ∧ x.fet < 1000000000 → Hp w [] (pg p x :: dev d (str masterL) (str disk.Z33) 0 g :: dsk g D1 :: bk b b1 :: l) W' → Calls Tryz.prog 24 #[.pointer (some ⟨p, 0, none⟩), .int .i64 (n : Int), .string (str sum)] W' fun e w' => e = .returned (fchV masterL n B sum) ∧ Hp w [] (pg p x.more :: dev d (str masterL) (str disk.Z33) 0 g :: dsk g D1 :: bk b b1 :: l) w' := fun W' p g d b x l sum hx1 hx2 hx3 hx4 h' => by
    have := fetch_any h' hT' hx1 hx2 hx3 hx4 (by decide) hDd n (by omega) (by omega) (by omega) sum B hDs hBl
    have eb : fchB b1 B sum = b1 := by unfold fchB; split; rfl; rw [← hS, hb1, note_again]
    rw [eb] at this
    exact this
  have v1 : fchV masterL n B S = .tuple #[.agg #[.int .u32 0, .int .u64 0, .int .u32 1], .string (str L), .string (str B), .int .i64 0] := by
    unfold fchV; rw [hB, fch_own n (by omega) L hLl 1 (by omega) 0 (by omega) 0 (by omega) S (Or.inr (by rw [hS, hB]))]; rfl
  have v2 : fchV masterL n B [] = .tuple #[.agg #[.int .u32 0, .int .u64 0, .int .u32 1], .string (str L), .string (str B), .int .i64 0] := by
    unfold fchV; rw [hB, fch_own n (by omega) L hLl 1 (by omega) 0 (by omega) 0 (by omega) [] (Or.inl rfl)]; rfl
  have kF1 : ∀ W' p g d b sg km fm l, Hp w [] (pg p ((PSt.fresh g d b sg km fm 1).headed 0) :: dev d (str masterL) (str disk.Z33) 0 g :: dsk g D1 :: bk b b1 :: l) W' → Calls Tryz.prog 24 #[.pointer (some ⟨p, 0, none⟩), .int .i64 (n : Int), .string (str S)] W' fun e w' => e = .returned (.tuple #[.agg #[.int .u32 0, .int .u64 0, .int .u32 1], .string (str L), .string (str B), .int .i64 0]) ∧ Hp w [] (pg p ((PSt.fresh g d b sg km fm 1).headed 0).more :: dev d (str masterL) (str disk.Z33) 0 g :: dsk g D1 :: bk b b1 :: l) w' := fun W' p g d b sg km fm l h' => by
    have := kF W' p g d b _ l S rfl rfl rfl ⟨Int.le_refl 0, by show (0 : Int) < 1000000000; decide⟩ h'
    rw [v1] at this; exact this
  have kF2 : ∀ W' p g d b sg km fm l, Hp w [] (pg p ((PSt.fresh g d b sg km fm 1).headed 0).more :: dev d (str masterL) (str disk.Z33) 0 g :: dsk g D1 :: bk b b1 :: l) W' → Calls Tryz.prog 24 #[.pointer (some ⟨p, 0, none⟩), .int .i64 (n : Int), .string ⟨#[]⟩] W' fun e w' => e = .returned (.tuple #[.agg #[.int .u32 0, .int .u64 0, .int .u32 1], .string (str L), .string (str B), .int .i64 0]) ∧ Hp w [] (pg p ((PSt.fresh g d b sg km fm 1).headed 0).more.more :: dev d (str masterL) (str disk.Z33) 0 g :: dsk g D1 :: bk b b1 :: l) w' := fun W' p g d b sg km fm l h' => by
    have := kF W' p g d b _ l [] rfl rfl rfl ⟨by show (0 : Int) ≤ 1; decide, by show (1 : Int) < 1000000000; decide⟩ h'
    rw [v2] at this; exact this
  have kF3 : ∀ W' p g d b sg km fm l, Hp w [] (pg p ((PSt.fresh g d b sg km fm 1).headed 0).more.more :: dev d (str masterL) (str disk.Z33) 0 g :: dsk g D1 :: bk b b1 :: l) W' → Calls Tryz.prog 24 #[.pointer (some ⟨p, 0, none⟩), .int .i64 (n : Int), .string (str O)] W' fun e w' => e = .returned (fchV masterL n B O) ∧ Hp w [] (pg p ((PSt.fresh g d b sg km fm 1).headed 0).more.more.more :: dev d (str masterL) (str disk.Z33) 0 g :: dsk g D1 :: bk b b1 :: l) w' := fun W' p g d b sg km fm l h' =>
    kF W' p g d b _ l O rfl rfl rfl ⟨by show (0 : Int) ≤ 2; decide, by show (2 : Int) < 1000000000; decide⟩ h'
  have kN : ∀ W' b l i, Hp w [] l W' → l[i]? = some (bk b b1) → Calls Tryz.prog 27 #[.pointer (some ⟨b, 0, none⟩)] W' fun e w' => e = .returned (.int .i64 1) ∧ Hp w [] l w' := fun W' b l i h' hi => by
    have := blen_hp h' hi
    rw [hbc] at this
    exact this
  have hcase : (O = S ∧ fchV masterL n B O = .tuple #[.agg #[.int .u32 0, .int .u64 0, .int .u32 1], .string (str L), .string (str B), .int .i64 0]) ∨ (O ≠ S ∧ fchV masterL n B O = .tuple #[.agg #[.int .u32 0, .int .u64 0, .int .u32 0], .string ⟨#[]⟩, .string ⟨#[]⟩, .int .i64 8]) := by
    by_cases h : O = S
    · exact .inl ⟨h, by rw [h]; exact v1⟩
    · exact .inr ⟨h, by unfold fchV; rw [fch_other masterL n B O hOn (by rw [← hS]; exact h)]; rfl⟩
  have eM : str masterL = ⟨#[48, 49, 50, 51, 52, 53, 54, 55, 56, 57, 97, 98, 99, 100, 101, 102, 48, 49, 50, 51, 52, 53, 54, 55, 56, 57, 97, 98, 99, 100, 101, 102]⟩ := rfl
  have hOS : O ≠ S → ¬ (str O).toList = (str S).toList := fun h h2 => h (by rw [ByteArray.toList_eq, ByteArray.toList_eq] at h2; simpa [str] using h2)
  rw [eM] at kP
  obtain ⟨ms, hms⟩ : ∃ m, m = str masterL := ⟨_, rfl⟩
  rw [← hms] at kL kF1 kF2 kF3
  have hnews : ∀ p g d b sg km fm W', Hp w [] (news 6 1 p g d b sg km fm ++ []) W' → Hp w [] (pg p (PSt.fresh g d b sg km fm 1) :: dev d ms (str disk.Z33) 0 g :: dsk g (disk.blankSt (List.replicate 6 disk.Z512)) :: bk b .none :: [sp sg (min 2 ((6 : Nat) : Int)) ((6 : Nat) : Int) (min 2 ((6 : Nat) : Int)) (fun _ => false) 0, mset fm (fun _ => false) 0, kmap km .none, kque (.slice none 0 0) .none]) W' := fun p g d b sg km fm W' h' => by rw [hms]; exact h'
  obtain ⟨BB, hBB⟩ : ∃ x, x = str B := ⟨_, rfl⟩
  obtain ⟨SS, hSS⟩ : ∃ x, x = str S := ⟨_, rfl⟩
  obtain ⟨OO, hOO⟩ : ∃ x, x = str O := ⟨_, rfl⟩
  obtain ⟨TT, hTT⟩ : ∃ x, x = str L := ⟨_, rfl⟩
  obtain ⟨MM, hMM⟩ : ∃ x, x = str M := ⟨_, rfl⟩
  rw [← hBB] at e0 kP kL kD kF1 kF2 hcase
  rw [← hSS] at e0 kL kF1 hOS
  rw [← hOO] at e1 kF3 hOS
  rw [← hTT] at kP kL kF1 kF2 hcase x1
  rw [← hMM] at e1 x2
  have hp := Lib.hid (Hp.none_ w [])
  replace kA := Lib.hid kA; replace kM := Lib.hid kM; replace kL := Lib.hid kL; replace kD := Lib.hid kD; replace kF1 := Lib.hid kF1; replace kF2 := Lib.hid kF2; replace kF3 := Lib.hid kF3; replace kN := Lib.hid kN; replace kP := Lib.hid kP; replace e0 := Lib.hid e0; replace e1 := Lib.hid e1; replace hnews := Lib.hid hnews
  have hn' : IntKind.i64.wrap (a0 % 4 + 1) = (n : Int) := by rw [hn]; exact IntWalk.i64_in _ (by omega)
  have hOS2 : O = S → OO = SS := fun h => by rw [hOO, hSS, h]
  clear hT hT' hL hM hLl hMl hB hBl hS hSl hO hOl hSn hOn hlen hD1 hDl hDd hDs hb1 hbc kF v1 v2 eM hms hBB hSS hOO hTT hMM w0 w1 w2
  go_enter Tryz.func5, Tryz.ntmps5
  go_upto_region 2 with (go_at_call 8; (with_reducible refine (kM.out _ hp.out).mono ?_); rintro e w1 ⟨p, g, d, b, sg, km, fm, rfl, h1⟩; replace hp := Lib.hid (hnews.out _ _ _ _ _ _ _ _ h1); clear h1 hnews)
  go_region
  replace hp := Lib.hid hp.out.drew
  generalize World.drew _ = W2 at hp ⊢
  go_upto_region 5 with (first
    | (go_at_call 20; (with_reducible refine (kL.out _ _ _ _ _ _ _ _ _ hp.out).mono ?_); rintro e w2 ⟨rfl, h1⟩; replace hp := Lib.hid h1; clear h1)
    | (go_at_call 22; (with_reducible refine (kD.out _ _ _ 2 hp.out rfl).mono ?_); rintro e w3 ⟨rfl, h1⟩; replace hp := Lib.hid h1; clear h1))
  go_upto_region 6 with (go_at_call 24; (with_reducible refine (kF1.out _ _ _ _ _ _ _ _ _ hp.out).mono ?_); rintro e w4 ⟨rfl, h1⟩; replace hp := Lib.hid h1; clear h1)
  replace hp := Lib.hid (toEnd4 (hp.out.alloc #[.int .u32 0, .int .u64 0, .int .u32 1] 59))
  generalize World.alloc _ _ = W5 at hp ⊢
  generalize w4.heap.size = q4 at hp ⊢
  go_upto_region 7 with (go_at_call 24; (with_reducible refine (kF2.out _ _ _ _ _ _ _ _ _ hp.out).mono ?_); rintro e w6 ⟨rfl, h1⟩; replace hp := Lib.hid h1; clear h1)
  replace hp := Lib.hid (toEnd4 (hp.out.alloc #[.int .u32 0, .int .u64 0, .int .u32 1] 59))
  generalize World.alloc _ _ = W7 at hp ⊢
  generalize w6.heap.size = q6 at hp ⊢
  rcases hcase with ⟨hq, hv⟩ | ⟨hq, hv⟩
  · have hOO := hOS2 hq
    clear hOS hOS2
    subst hOO
    rw [hv] at kF3
    clear hv hq
    replace kF3 := Lib.hid kF3.out
    go_upto_region 8 with (go_at_call 25; (with_reducible refine (e1.out _).mono ?_); rintro e w8 ⟨rfl, b8⟩; replace hp := Lib.hid (hp.out.below b8); clear b8)
    go_upto_region 9 with (go_at_call 24; (with_reducible refine (kF3.out _ _ _ _ _ _ _ _ _ hp.out).mono ?_); rintro e w9 ⟨rfl, h1⟩; replace hp := Lib.hid h1; clear h1)
    replace hp := Lib.hid (toEnd4 (hp.out.alloc #[.int .u32 0, .int .u64 0, .int .u32 1] 59))
    generalize World.alloc _ _ = W10 at hp ⊢
    generalize w9.heap.size = q9 at hp ⊢
    go_wp2_with (first
      | (go_at_call 9; (with_reducible refine (kA.out _ ((Hp.none_ w []).below hp.out.bel)).mono ?_); rintro e w11 ⟨rfl, b8⟩; replace hp := Lib.hid (hp.out.below b8); clear b8)
      | (go_at_call 25; (with_reducible refine (e0.out _).mono ?_); rintro e w12 ⟨rfl, b8⟩; replace hp := Lib.hid (hp.out.below b8); clear b8; have k0 : w12.cell? ⟨q4, 0, none⟩ = some (.int .u32 0) := hp.out.cell (i := 6) rfl 0; have k1 : w12.cell? ⟨q4, 1, none⟩ = some (.int .u64 0) := hp.out.cell (i := 6) rfl 1; have k2 : w12.cell? ⟨q4, 2, none⟩ = some (.int .u32 1) := hp.out.cell (i := 6) rfl 2)
      | (go_at_call 26; (with_reducible refine (kP.out _ ((Hp.none_ w []).below hp.out.bel)).mono ?_); rintro e w13 ⟨rfl, b8⟩; replace hp := Lib.hid (hp.out.below b8); clear b8)
      | (go_at_call 27; (with_reducible refine (kN.out _ _ _ 3 hp.out rfl).mono ?_); rintro e w14 ⟨rfl, h1⟩; replace hp := Lib.hid h1; clear h1))
    all_goals go_ret
    all_goals exact ⟨rfl, hp.out.bel⟩
  · have hOO := hOS hq
    have hOO2 : (OO.toList == SS.toList) = false := by simpa using hOO
    clear hOS hOS2
    rw [hv] at kF3
    clear hv hq
    replace kF3 := Lib.hid kF3.out
    go_upto_region 8 with (go_at_call 25; (with_reducible refine (e1.out _).mono ?_); rintro e w8 ⟨rfl, b8⟩; replace hp := Lib.hid (hp.out.below b8); clear b8)
    go_upto_region 9 with (go_at_call 24; (with_reducible refine (kF3.out _ _ _ _ _ _ _ _ _ hp.out).mono ?_); rintro e w9 ⟨rfl, h1⟩; replace hp := Lib.hid h1; clear h1)
    replace hp := Lib.hid (toEnd4 (hp.out.alloc #[.int .u32 0, .int .u64 0, .int .u32 0] 59))
    generalize World.alloc _ _ = W10 at hp ⊢
    generalize w9.heap.size = q9 at hp ⊢
    go_wp2_with (first
      | (go_at_call 9; (with_reducible refine (kA.out _ ((Hp.none_ w []).below hp.out.bel)).mono ?_); rintro e w11 ⟨rfl, b8⟩; replace hp := Lib.hid (hp.out.below b8); clear b8)
      | (go_at_call 25; (with_reducible refine (e0.out _).mono ?_); rintro e w12 ⟨rfl, b8⟩; replace hp := Lib.hid (hp.out.below b8); clear b8; have k0 : w12.cell? ⟨q4, 0, none⟩ = some (.int .u32 0) := hp.out.cell (i := 6) rfl 0; have k1 : w12.cell? ⟨q4, 1, none⟩ = some (.int .u64 0) := hp.out.cell (i := 6) rfl 1; have k2 : w12.cell? ⟨q4, 2, none⟩ = some (.int .u32 1) := hp.out.cell (i := 6) rfl 2)
      | (go_at_call 26; (with_reducible refine (kP.out _ ((Hp.none_ w []).below hp.out.bel)).mono ?_); rintro e w13 ⟨rfl, b8⟩; replace hp := Lib.hid (hp.out.below b8); clear b8)
      | (go_at_call 27; (with_reducible refine (kN.out _ _ _ 3 hp.out rfl).mono ?_); rintro e w14 ⟨rfl, h1⟩; replace hp := Lib.hid h1; clear h1))
    all_goals go_ret
    all_goals exact ⟨rfl, hp.out.bel⟩
end Go.Proofs.YtcdcipfojfnblaaGreatDoor.pager
