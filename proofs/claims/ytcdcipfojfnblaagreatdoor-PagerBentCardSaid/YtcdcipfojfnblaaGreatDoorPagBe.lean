/- A bent block is not told as the page that was written: the law PagerBent. The table of salts is a premise. -/
import Derived.Test.YtcdcipfojfnblaaGreatDoorPagBt
import Derived.Test.YtcdcipfojfnblaaGreatDoorShaHead
namespace Go.Proofs.YtcdcipfojfnblaaGreatDoor.pager
open Go.RowKit mach mpr
attribute [local go_sem ↓] Go.wp_at_zero Go.wp_at_succ
set_option linter.unusedVariables false
set_option linter.unusedSimpArgs false
set_option maxRecDepth 100000

theorem xor_by (a b : UInt8) : bits .xor .u8 (a.toNat : Int) (b.toNat : Int) = (((a ^^^ b).toNat : Nat) : Int) := by
  rw [Go.u8_xor_nat _ _ (UInt8.toNat_lt _) (UInt8.toNat_lt _), UInt8.toNat_xor]
/-- the pager of the law when the first page is written -/
def firsts (S T : List UInt8) (p g d b sg km fm : Nat) (v : Value) : List Rs :=
  [pg p ⟨g, d, b, sg, 0, 0, 1, km, v, min (max 1 1) 256, 0, 0, fm, .slice none 0 0⟩, dev d (str masterL) (str disk.Z33) 0 g, dsk g ((disk.blankSt (List.replicate 6 disk.Z512)).wr 2 (firstB T)), bk b (sha.noteS .none S (firstB T)),
   sp sg 2 ((6 : Nat) : Int) 2 (fun y => false || y == 2) 1, mset fm (fun y => false || y == 2) 1, kmap km (Kp.none.keep (min (max 1 1) 256) 2 S T), kque v (Kp.none.keep (min (max 1 1) 256) 2 S T)]
set_option maxHeartbeats 8000000 in
theorem pagerBent_walk (a0 : ByteArray) (a1 : ByteArray) (a2 : Bool) (w : World) (w0 : a0.size ≤ reachBytes) (w1 : a1.size ≤ reachBytes) (hT : sha.SaltAt w sha.salts) :
    Calls Tryz.prog 6 #[.string a0, .string a1, .bool a2] w fun e w' => e = .returned (.bool true) ∧ Below w.heap.size w w' := by
  have hT' : SaltIn w [] := ⟨hT, by simp⟩
  obtain ⟨T, hTe⟩ : ∃ T, T = a0.data.toList.take 400 := ⟨_, rfl⟩
  have hTl : T.length ≤ 462 := by rw [hTe, List.length_take]; omega
  have x1 : a0.extract 0 (min (a0.size : Int) 400).toNat = str T := by rw [hTe]; exact cut_min' a0 400
  have m1 : min (a0.size : Int) 400 ≤ (a0.size : Int) := by omega
  have m2 : 0 ≤ min (a0.size : Int) 400 := by omega
  have hBl : (firstB T).length = 512 := firstB_len T hTl
  obtain ⟨S, hS⟩ : ∃ S, S = sha.shaB sha.salts (firstB T) := ⟨_, rfl⟩
  have hSl : S.length = 32 := by rw [hS]; exact sha.shaB_len _ _
  have kA := fun W' l (h' : Hp w [] l W') => awake_any W' (hT.keep h'.bel)
  have kM : ∀ W', Hp w [] [] W' → Calls Tryz.prog 8 #[.int .i64 6, .int .i64 1] W' fun e w' => ∃ p g d b sg km fm, e = .returned (.tuple #[.pointer (some ⟨p, 0, none⟩), .pointer (some ⟨g, 0, none⟩), .pointer (some ⟨d, 0, none⟩), .pointer (some ⟨b, 0, none⟩)]) ∧ Hp w [] (news 6 1 p g d b sg km fm ++ []) w' := fun W' h' => made_any h' 6 (by omega) (by omega) 1 (by omega)
  have kW : ∀ W' p g d b sg km fm, Hp w [] (news 6 1 p g d b sg km fm ++ []) W' → Calls Tryz.prog 15 #[.pointer (some ⟨p, 0, none⟩), .string (str T)] W' fun e w' => e = .returned (.tuple #[.agg #[.int .i64 2, .string (str S)], .int .i64 0]) ∧ ∃ v, Hp w [] (firsts S T p g d b sg km fm v) w' := fun W' p g d b sg km fm h' => by
    rw [hS]; exact write_new h' hT' (by omega) (by omega) T hTl
  have kX : ∀ W' p g d b sg km fm v, Hp w [] (firsts S T p g d b sg km fm v) W' → Bst w (W'.alloc (.cells #[.int .i64 2, .string (str S)] 34)) true S (firstB T) T (firstB T) p g d b [.box W'.heap.size #[.int .i64 2, .string (str S)] 34] := fun W' p g d b sg km fm v h' => Bst.first hS (toEnd8 (h'.alloc #[.int .i64 2, .string (str S)] 34))
  have kY : ∀ W' p g d b sg km fm v, Hp w [] (firsts S T p g d b sg km fm v) W' → Hp w [] (firsts S T p g d b sg km fm v ++ [.box W'.heap.size #[.int .i64 2, .string (str S)] 34]) (W'.alloc (.cells #[.int .i64 2, .string (str S)] 34)) := fun W' p g d b sg km fm v h' => toEnd8 (h'.alloc #[.int .i64 2, .string (str S)] 34)
  have kZ : ∀ W' p g d b sg km fm v l, Hp w [] (firsts S T p g d b sg km fm v ++ l) W' → Calls Tryz.prog 15 #[.pointer (some ⟨p, 0, none⟩), .string ⟨#[97, 110, 111, 116, 104, 101, 114, 32, 111, 110, 101]⟩] W' fun e w' => (∃ S2, e = .returned (.tuple #[.agg #[.int .i64 3, .string (str S2)], .int .i64 0])) ∧ Bst w w' false S (firstB T) T (firstB T) p g d b l := fun W' p g d b sg km fm v l h' => bst_second hT' hS hTl h'
  have kK : ∀ W' p g d b sg km fm v l, Hp w [] (firsts S T p g d b sg km fm v ++ l) W' → Bst w W' true S (firstB T) T (firstB T) p g d b l := fun W' p g d b sg km fm v l h' => Bst.first hS h'
  have kP : ∀ W' kept E C p g d b l, Bst w W' kept S (firstB T) T E p g d b l → C.length = 512 → Calls Tryz.prog 28 #[.pointer (some ⟨g, 0, none⟩), .int .i64 2, .string (str C)] W' fun e w' => e = .returned (.bool true) ∧ Bst w w' kept S (firstB T) T C p g d b l := fun W' kept E C p g d b l h' hC => h'.poke hC
  have kR : ∀ W' kept C p g d b l, Bst w W' kept S (firstB T) T C p g d b l → C.length = 512 → Calls Tryz.prog 10 #[.pointer (some ⟨p, 0, none⟩), .agg #[.int .i64 2, .string (str S)]] W' fun e w' => ∃ (Z : List UInt8) (er : Int) (bF : sha.BSt), e = .returned (.tuple #[.string (str Z), .int .i64 er]) ∧ Hp w [] (bk b bF :: l) w' ∧ (kept = true ∨ C = firstB T → Z = T ∧ er = 0) ∧ (kept = false → C ≠ firstB T → bF.tw = true ∨ (Z = [] ∧ er = 8)) := fun W' kept C p g d b l h' hC => h'.pread hT' hS hTl hC
  obtain ⟨B, hB⟩ : ∃ B, B = firstB T := ⟨_, rfl⟩
  rw [← hB] at kZ kK kP kR hBl
  obtain ⟨N, hN⟩ : ∃ N, N = min a1.size 512 := ⟨_, rfl⟩
  have hne : ∀ C, C ≠ B → ((str C).toList == (str B).toList) = false := fun C h => by
    rw [beq_eq_false_iff_ne]; intro h2; exact h (by rw [ByteArray.toList_eq, ByteArray.toList_eq] at h2; simpa [str] using h2)
  have hp := Lib.hid (Hp.none_ w [])
  replace kA := Lib.hid kA; replace kM := Lib.hid kM; replace kW := Lib.hid kW; replace kY := Lib.hid kY; replace kZ := Lib.hid kZ; replace kK := Lib.hid kK; replace kP := Lib.hid kP; replace kR := Lib.hid kR; replace hne := Lib.hid hne
  clear hT hT' hTe hTl hS hSl hB w0 w1 kX
  replace hN := Lib.hid hN
  go_enter Tryz.func6, Tryz.ntmps6
  go_upto_region 2 with (go_at_call 8; (with_reducible refine (kM.out _ hp.out).mono ?_); rintro e w1 ⟨p, g, d, b, sg, km, fm, rfl, h1⟩; replace hp := Lib.hid h1; clear h1)
  go_upto_region 4 with (go_at_call 15; (with_reducible refine (kW.out _ _ _ _ _ _ _ _ hp.out).mono ?_); rintro e w2 ⟨rfl, v, h1⟩; replace hp := Lib.hid (kY.out _ _ _ _ _ _ _ _ _ h1); clear h1)
  generalize World.alloc _ _ = W3 at hp ⊢
  generalize w2.heap.size = r at hp ⊢
  go_upto_region 6 with (go_at_call 9; (with_reducible refine (kA.out _ _ hp.out).mono ?_); rintro e w4 ⟨rfl, b1⟩; replace hp := Lib.hid (hp.out.below b1); clear b1)
  cases a2
  · go_upto_region 8 with (go_at_call 15; (with_reducible refine (kZ.out _ _ _ _ _ _ _ _ _ _ hp.out).mono ?_); rintro e w5 ⟨⟨S2, rfl⟩, h1⟩; have hD := Lib.hid h1; clear h1)
    clear hp kM kW kY kZ kK
    have c0 := hD.out.cell0 0
    simp at c0
    go_upto_region 9 with (go_at_call 22; (with_reducible refine hD.out.dread.mono ?_); rintro e w6 ⟨rfl, h1⟩; replace hD := Lib.hid h1; clear h1)
    clear c0
    go_upto_region 11 with (refine wpList_conv_bytes rfl (.tmp 57) rfl B rfl ?_; intro w7 cap B4 b4 hcap; replace hD := Lib.hid (hD.out.bytes B4 b4); clear B4 b4 hcap)
    generalize w6.heap.size = q at hD ⊢
    have hcv : ∀ C : List UInt8, C.length = 512 → ∀ W', BytesAt W' q C → (convert 70 9 (.slice (some ⟨q, 0, none⟩) 512 cap)).run Tryz.prog W' = .ok (.string (str C)) W' := fun C hC W' h => by rw [← hC]; exact h.text cap
    have hq0 := Lib.hid hcv
    clear hcv
    go_loopg [17] N (fun kk s17 wr => ∃ (i : Nat) (C : List UInt8), s17 = .int .i64 (i : Int) ∧ i + kk = N ∧ C.length = 512 ∧ Bst w wr false S B T B p g d b [byt q C, .box r #[.int .i64 2, .string (str S)] 34])
    case atStart => exact ⟨0, B, rfl, by omega, hBl, hD.out⟩
    case round =>
      clear hD
      obtain ⟨i, C, rfl, hik, hCl, hD⟩ := hrel
      replace hD := Lib.hid hD
      have hcv := Lib.hid (hq0.out C hCl)
      by_cases hi : i < N
      · obtain ⟨K, rfl⟩ : ∃ K : Nat, gk = K + 1 := ⟨gk - 1, by omega⟩
        have i1 : i < a1.size := by have := hN.out; omega
        have i2 : i < 512 := by have := hN.out; omega
        obtain ⟨J, hJ⟩ : ∃ J : Nat, (J : Int) = ((i : Int) * 37) % 512 := ⟨(((i : Int) * 37) % 512).toNat, by omega⟩
        have hJ1 : J < 512 := by omega
        have e1 : (i : Int) < (a1.size : Int) := by omega
        have e2 : (i : Int) < 512 := by omega
        have e3 : (0 : Int) ≤ (i : Int) := by omega
        have e4 : IntKind.i64.wrap ((i : Int) * 37) = (i : Int) * 37 := IntWalk.i64_in _ (by omega)
        have e5 : ((i : Int) * 37).tmod 512 = (J : Int) := by rw [IntWalk.rem_in _ _ (by omega)]; omega
        have e6 : (0 : Int) ≤ (J : Int) := by omega
        have e7 : (J : Int) < 512 := by omega
        have e8 : IntKind.i64.wrap (J : Int) = (J : Int) := IntWalk.i64_in _ (by omega)
        have hat := hD.out.at_
        have g0 := (hat.2 J (by omega)).1
        have g1 := (hat.2 J (by omega)).2
        obtain ⟨zb, hzb⟩ : ∃ z, z = C.getD J 0 ^^^ a1[i]'i1 := ⟨_, rfl⟩
        have hxor : ∀ (h1 : i < a1.size), bits .xor .u8 (((C.getD J 0).toNat : Nat) : Int) (((a1[i]'h1).toNat : Nat) : Int) = ((zb.toNat : Nat) : Int) := fun h1 => by rw [hzb]; exact xor_by _ _
        have hput := hD.out.put J (by omega) (zb.toNat : Int) ⟨by omega, by have := UInt8.toNat_lt zb; omega⟩
        rw [← hxor i1] at hput
        replace hput := Lib.hid hput
        replace hCl := Lib.hid hCl; replace hik := Lib.hid hik
        clear hat hzb hJ i2 hcv
        go_upto_region 13 with fail
        go_region
        all_goals go_wp2
        all_goals
          go_roundg K
          case measure => omega
          case rel => exact ⟨i + 1, _, by go_num, by have := hik.out; omega, by rw [List.length_set]; exact hCl.out, hput.out.below (Below.refl _ _).drew⟩
      · have hk0 : gk = 0 := by omega
        subst hk0
        replace hCl := Lib.hid hCl
        by_cases hx : a1.size ≤ 512
        · have e1 : ¬ (i : Int) < (a1.size : Int) := by have := hN.out; omega
          clear hi hik hx
          replace hcv := Lib.hid hcv.out
          have c0 := hD.out.cell1 0
          have t0 := hcv.out _ hD.out.at_
          simp at c0
          go_upto_region 15 with (go_at_call 28; (with_reducible refine (kP.out _ _ _ _ _ _ _ _ _ hD.out hCl.out).mono ?_); rintro e w6 ⟨rfl, h1⟩; clear c0 t0; replace hD := Lib.hid h1; clear h1)
          have c0 := hD.out.cell1 0
          have c1 := hD.out.cell1 1
          simp at c0 c1
          go_upto_region 16 with (go_at_call 10; (with_reducible refine (kR.out _ _ _ _ _ _ _ _ hD.out hCl.out).mono ?_); rintro e w7 ⟨Z, er, bF, rfl, h1, f1, f2⟩; clear c0 c1; replace hp := Lib.hid h1; clear h1; replace f1 := Lib.hid f1; replace f2 := Lib.hid f2)
          go_upto_region 17 with (go_at_call 29; (with_reducible refine (btwins_hp hp.out (i := 0) rfl).mono ?_); rintro e w8 ⟨rfl, h1⟩; replace hp := Lib.hid h1; clear h1)
          have t1 := hcv.out _ (byt_at hp.out (i := 1) rfl)
          by_cases hCB : C = B
          · have hq : ((str C).toList == (str B).toList) = true := by rw [hCB]; simp
            obtain ⟨rfl, rfl⟩ := f1.out (Or.inr hCB)
            go_wp2
            go_ret
            exact ⟨rfl, hp.out.bel⟩
          · have hq := hne.out C hCB
            have hcs := f2.out (by first | rfl | trivial) hCB
            obtain ⟨tw, htw⟩ : ∃ x, x = bF.tw := ⟨_, rfl⟩
            rw [← htw] at hcs ⊢
            cases tw
            · obtain ⟨rfl, rfl⟩ : Z = [] ∧ er = 8 := by simpa using hcs
              have e0 : str [] = ⟨#[]⟩ := rfl
              rw [e0]
              clear hcs htw
              go_wp2
              go_ret
              exact ⟨rfl, hp.out.bel⟩
            · obtain ⟨z, hz⟩ : ∃ x, ((str Z).toList == (str T).toList) = x := ⟨_, rfl⟩
              clear hcs htw
              by_cases he : er = 0
              · subst he
                cases z
                · go_wp2
                  go_ret
                  exact ⟨rfl, hp.out.bel⟩
                · go_wp2
                  go_ret
                  exact ⟨rfl, hp.out.bel⟩
              · have he2 : (er == 0) = false := by simpa using he
                cases z
                · go_wp2
                  go_ret
                  exact ⟨rfl, hp.out.bel⟩
                · go_wp2
                  go_ret
                  exact ⟨rfl, hp.out.bel⟩
        · have e1 : (i : Int) < (a1.size : Int) := by have := hN.out; omega
          have e2 : ¬ (i : Int) < 512 := by have := hN.out; omega
          clear hi hik hx
          have c0 := hD.out.cell1 0
          have t0 := hcv.out _ hD.out.at_
          simp at c0
          go_upto_region 15 with (go_at_call 28; (with_reducible refine (kP.out _ _ _ _ _ _ _ _ _ hD.out hCl.out).mono ?_); rintro e w6 ⟨rfl, h1⟩; clear c0 t0; replace hD := Lib.hid h1; clear h1)
          have c0 := hD.out.cell1 0
          have c1 := hD.out.cell1 1
          simp at c0 c1
          go_upto_region 16 with (go_at_call 10; (with_reducible refine (kR.out _ _ _ _ _ _ _ _ hD.out hCl.out).mono ?_); rintro e w7 ⟨Z, er, bF, rfl, h1, f1, f2⟩; clear c0 c1; replace hp := Lib.hid h1; clear h1; replace f1 := Lib.hid f1; replace f2 := Lib.hid f2)
          go_upto_region 17 with (go_at_call 29; (with_reducible refine (btwins_hp hp.out (i := 0) rfl).mono ?_); rintro e w8 ⟨rfl, h1⟩; replace hp := Lib.hid h1; clear h1)
          have t1 := hcv.out _ (byt_at hp.out (i := 1) rfl)
          by_cases hCB : C = B
          · have hq : ((str C).toList == (str B).toList) = true := by rw [hCB]; simp
            obtain ⟨rfl, rfl⟩ := f1.out (Or.inr hCB)
            go_wp2
            go_ret
            exact ⟨rfl, hp.out.bel⟩
          · have hq := hne.out C hCB
            have hcs := f2.out (by first | rfl | trivial) hCB
            obtain ⟨tw, htw⟩ : ∃ x, x = bF.tw := ⟨_, rfl⟩
            rw [← htw] at hcs ⊢
            cases tw
            · obtain ⟨rfl, rfl⟩ : Z = [] ∧ er = 8 := by simpa using hcs
              have e0 : str [] = ⟨#[]⟩ := rfl
              rw [e0]
              clear hcs htw
              go_wp2
              go_ret
              exact ⟨rfl, hp.out.bel⟩
            · obtain ⟨z, hz⟩ : ∃ x, ((str Z).toList == (str T).toList) = x := ⟨_, rfl⟩
              clear hcs htw
              by_cases he : er = 0
              · subst he
                cases z
                · go_wp2
                  go_ret
                  exact ⟨rfl, hp.out.bel⟩
                · go_wp2
                  go_ret
                  exact ⟨rfl, hp.out.bel⟩
              · have he2 : (er == 0) = false := by simpa using he
                cases z
                · go_wp2
                  go_ret
                  exact ⟨rfl, hp.out.bel⟩
                · go_wp2
                  go_ret
                  exact ⟨rfl, hp.out.bel⟩
  · go_upto_region 8 with fail
    have hD := Lib.hid (kK.out _ _ _ _ _ _ _ _ _ _ hp.out)
    clear hp kM kW kY kZ kK
    have c0 := hD.out.cell0 0
    simp at c0
    go_upto_region 9 with (go_at_call 22; (with_reducible refine hD.out.dread.mono ?_); rintro e w6 ⟨rfl, h1⟩; replace hD := Lib.hid h1; clear h1)
    clear c0
    go_upto_region 11 with (refine wpList_conv_bytes rfl (.tmp 57) rfl B rfl ?_; intro w7 cap B4 b4 hcap; replace hD := Lib.hid (hD.out.bytes B4 b4); clear B4 b4 hcap)
    generalize w6.heap.size = q at hD ⊢
    have hcv : ∀ C : List UInt8, C.length = 512 → ∀ W', BytesAt W' q C → (convert 70 9 (.slice (some ⟨q, 0, none⟩) 512 cap)).run Tryz.prog W' = .ok (.string (str C)) W' := fun C hC W' h => by rw [← hC]; exact h.text cap
    have hq0 := Lib.hid hcv
    clear hcv
    go_loopg [17] N (fun kk s17 wr => ∃ (i : Nat) (C : List UInt8), s17 = .int .i64 (i : Int) ∧ i + kk = N ∧ C.length = 512 ∧ Bst w wr true S B T B p g d b [byt q C, .box r #[.int .i64 2, .string (str S)] 34])
    case atStart => exact ⟨0, B, rfl, by omega, hBl, hD.out⟩
    case round =>
      clear hD
      obtain ⟨i, C, rfl, hik, hCl, hD⟩ := hrel
      replace hD := Lib.hid hD
      have hcv := Lib.hid (hq0.out C hCl)
      by_cases hi : i < N
      · obtain ⟨K, rfl⟩ : ∃ K : Nat, gk = K + 1 := ⟨gk - 1, by omega⟩
        have i1 : i < a1.size := by have := hN.out; omega
        have i2 : i < 512 := by have := hN.out; omega
        obtain ⟨J, hJ⟩ : ∃ J : Nat, (J : Int) = ((i : Int) * 37) % 512 := ⟨(((i : Int) * 37) % 512).toNat, by omega⟩
        have hJ1 : J < 512 := by omega
        have e1 : (i : Int) < (a1.size : Int) := by omega
        have e2 : (i : Int) < 512 := by omega
        have e3 : (0 : Int) ≤ (i : Int) := by omega
        have e4 : IntKind.i64.wrap ((i : Int) * 37) = (i : Int) * 37 := IntWalk.i64_in _ (by omega)
        have e5 : ((i : Int) * 37).tmod 512 = (J : Int) := by rw [IntWalk.rem_in _ _ (by omega)]; omega
        have e6 : (0 : Int) ≤ (J : Int) := by omega
        have e7 : (J : Int) < 512 := by omega
        have e8 : IntKind.i64.wrap (J : Int) = (J : Int) := IntWalk.i64_in _ (by omega)
        have hat := hD.out.at_
        have g0 := (hat.2 J (by omega)).1
        have g1 := (hat.2 J (by omega)).2
        obtain ⟨zb, hzb⟩ : ∃ z, z = C.getD J 0 ^^^ a1[i]'i1 := ⟨_, rfl⟩
        have hxor : ∀ (h1 : i < a1.size), bits .xor .u8 (((C.getD J 0).toNat : Nat) : Int) (((a1[i]'h1).toNat : Nat) : Int) = ((zb.toNat : Nat) : Int) := fun h1 => by rw [hzb]; exact xor_by _ _
        have hput := hD.out.put J (by omega) (zb.toNat : Int) ⟨by omega, by have := UInt8.toNat_lt zb; omega⟩
        rw [← hxor i1] at hput
        replace hput := Lib.hid hput
        replace hCl := Lib.hid hCl; replace hik := Lib.hid hik
        clear hat hzb hJ i2 hcv
        go_upto_region 13 with fail
        go_region
        all_goals go_wp2
        all_goals
          go_roundg K
          case measure => omega
          case rel => exact ⟨i + 1, _, by go_num, by have := hik.out; omega, by rw [List.length_set]; exact hCl.out, hput.out.below (Below.refl _ _).drew⟩
      · have hk0 : gk = 0 := by omega
        subst hk0
        replace hCl := Lib.hid hCl
        by_cases hx : a1.size ≤ 512
        · have e1 : ¬ (i : Int) < (a1.size : Int) := by have := hN.out; omega
          clear hi hik hx
          replace hcv := Lib.hid hcv.out
          have c0 := hD.out.cell1 0
          have t0 := hcv.out _ hD.out.at_
          simp at c0
          go_upto_region 15 with (go_at_call 28; (with_reducible refine (kP.out _ _ _ _ _ _ _ _ _ hD.out hCl.out).mono ?_); rintro e w6 ⟨rfl, h1⟩; clear c0 t0; replace hD := Lib.hid h1; clear h1)
          have c0 := hD.out.cell1 0
          have c1 := hD.out.cell1 1
          simp at c0 c1
          go_upto_region 16 with (go_at_call 10; (with_reducible refine (kR.out _ _ _ _ _ _ _ _ hD.out hCl.out).mono ?_); rintro e w7 ⟨Z, er, bF, rfl, h1, f1, f2⟩; clear c0 c1; replace hp := Lib.hid h1; clear h1; replace f1 := Lib.hid f1; replace f2 := Lib.hid f2)
          go_upto_region 17 with (go_at_call 29; (with_reducible refine (btwins_hp hp.out (i := 0) rfl).mono ?_); rintro e w8 ⟨rfl, h1⟩; replace hp := Lib.hid h1; clear h1)
          have t1 := hcv.out _ (byt_at hp.out (i := 1) rfl)
          obtain ⟨rfl, rfl⟩ := f1.out (by simp)
          go_wp2
          go_ret
          exact ⟨rfl, hp.out.bel⟩
        · have e1 : (i : Int) < (a1.size : Int) := by have := hN.out; omega
          have e2 : ¬ (i : Int) < 512 := by have := hN.out; omega
          clear hi hik hx
          have c0 := hD.out.cell1 0
          have t0 := hcv.out _ hD.out.at_
          simp at c0
          go_upto_region 15 with (go_at_call 28; (with_reducible refine (kP.out _ _ _ _ _ _ _ _ _ hD.out hCl.out).mono ?_); rintro e w6 ⟨rfl, h1⟩; clear c0 t0; replace hD := Lib.hid h1; clear h1)
          have c0 := hD.out.cell1 0
          have c1 := hD.out.cell1 1
          simp at c0 c1
          go_upto_region 16 with (go_at_call 10; (with_reducible refine (kR.out _ _ _ _ _ _ _ _ hD.out hCl.out).mono ?_); rintro e w7 ⟨Z, er, bF, rfl, h1, f1, f2⟩; clear c0 c1; replace hp := Lib.hid h1; clear h1; replace f1 := Lib.hid f1; replace f2 := Lib.hid f2)
          go_upto_region 17 with (go_at_call 29; (with_reducible refine (btwins_hp hp.out (i := 0) rfl).mono ?_); rintro e w8 ⟨rfl, h1⟩; replace hp := Lib.hid h1; clear h1)
          have t1 := hcv.out _ (byt_at hp.out (i := 1) rfl)
          obtain ⟨rfl, rfl⟩ := f1.out (by simp)
          go_wp2
          go_ret
          exact ⟨rfl, hp.out.bel⟩
end Go.Proofs.YtcdcipfojfnblaaGreatDoor.pager
