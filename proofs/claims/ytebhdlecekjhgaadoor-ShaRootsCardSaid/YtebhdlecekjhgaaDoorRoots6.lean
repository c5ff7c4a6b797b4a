/- What the salts are made of: Begin, Right; the law ShaRoots. The table of salts is a premise. No other condition. -/
import Derived.Test.YtebhdlecekjhgaaDoorRoots5
import Derived.Test.YtebhdlecekjhgaaDoorBox
namespace Go.Proofs.YtebhdlecekjhgaaDoor.roots
open Go.RowKit
attribute [local go_sem ↓] Go.wp_at_zero Go.wp_at_succ
set_option linter.unusedVariables false
set_option maxRecDepth 100000

theorem owns_store {w : World} {b1 : Nat} {t1 t : TypeId} {g n c q i : Nat} {xs : List Value} {ys : List Nat} (h : w.ownsRow b1 t1 1 (.slice (some ⟨g, 0, none⟩) n c) n xs) (hn : 0 < n) (hW : Words w q t ys) (ht : t1 ≠ t) (x : Value) : (w.setCell ⟨q, i, none⟩ x).ownsRow b1 t1 1 (.slice (some ⟨g, 0, none⟩) n c) n xs := by
  refine World.ownsRow.kept h (row := some q) ⟨rfl, rfl, rfl, by simp [World.setCell], fun k hk hne => Below.heap_setCell w _ _ k (fun e => hne (by simp [e]))⟩ (Or.inr ?_)
  rcases h.2 with ⟨_, h0⟩ | ⟨g', cap, cur, hv, _, hg, _⟩
  · omega
  · injection hv with hv1 _ _
    injection hv1 with hv2
    injection hv2 with hv3
    subst hv3
    simp [Value.ownBlock]
    rintro rfl
    unfold Words at hW
    rw [hg] at hW
    injection hW with e
    injection e with _ e2 _
    exact ht e2
theorem words_far {w : World} {g q i : Nat} {t : TypeId} {xs : List Nat} (h : Words w g t xs) (hne : g ≠ q) (x : Value) : Words (w.setCell ⟨q, i, none⟩ x) g t xs := (Below.heap_setCell w _ _ g hne).trans h
theorem eight8 : (Tryd.prog.info? 59).map (·.size) = some 8 := by kernel_rfl
set_option maxHeartbeats 4000000 in
theorem begin_any (w : World) :
    Calls Tryd.prog 37 #[] w fun e w' => e = .returned (.agg (([1779033703, 3144134277, 1013904242, 2773480762, 1359893119, 2600822924, 528734635, 1541459225] : List Nat).map word).toArray) ∧ Below w.heap.size w w' := by
  go_enter Tryd.func37, Tryd.ntmps37
  go_upto_region 3 with (go_at_call 71; (with_reducible refine (primes_any _).mono ?_); rintro e w1 ⟨lv, rfl, hl, b1⟩; replace hl := Lib.hid hl; replace b1 := Lib.hid b1)
  have hX := boxRow b1.out
  have hR : Words w1 w.heap.size 59 [0, 0, 0, 0, 0, 0, 0, 0] := hX.1
  have hlt := block_lt hX.1
  have hb1 := hX.2.2.2
  have hW : Words (w1.alloc (.cells #[.int .u32 0, .int .u32 0, .int .u32 0, .int .u32 0, .int .u32 0, .int .u32 0, .int .u32 0, .int .u32 0] 59)) w1.heap.size 59 (beginL 0) := heap_alloc_new w1 _
  have hR2 := hR.below ((Below.refl _ _).alloc (Nat.le_refl _) (.cells #[.int .u32 0, .int .u32 0, .int .u32 0, .int .u32 0, .int .u32 0, .int .u32 0, .int .u32 0, .int .u32 0] 59))
  have hl2 := World.ownsRow.alloc hl.out (.cells #[.int .u32 0, .int .u32 0, .int .u32 0, .int .u32 0, .int .u32 0, .int .u32 0, .int .u32 0, .int .u32 0] 59)
  have hb2 := hb1.alloc hb1.size (.cells #[.int .u32 0, .int .u32 0, .int .u32 0, .int .u32 0, .int .u32 0, .int .u32 0, .int .u32 0, .int .u32 0] 59)
  clear hX hR b1 hl hb1
  generalize (w.alloc (.cells #[.int .u32 0, .int .u32 0, .int .u32 0, .int .u32 0, .int .u32 0, .int .u32 0, .int .u32 0, .int .u32 0] 59)).heap.size = B1 at hl2
  generalize w1.alloc (.cells #[.int .u32 0, .int .u32 0, .int .u32 0, .int .u32 0, .int .u32 0, .int .u32 0, .int .u32 0, .int .u32 0] 59) = W at hW hR2 hl2 hb2 ⊢
  generalize w1.heap.size = g at hW hlt ⊢
  clear w1
  obtain ⟨ad, c, rfl⟩ := owns_form hl2
  obtain ⟨lg, rfl, _⟩ := owns_at hl2 (by decide)
  replace hlt := Lib.hid hlt
  go_loopw [3] (fun i wr => ∃ k : Nat, k ≤ 8 ∧ i = .int .i64 k ∧ Words wr g 59 (beginL k) ∧ Words wr w.heap.size 59 [0, 0, 0, 0, 0, 0, 0, 0] ∧ wr.ownsRow B1 51 1 (.slice (some ⟨lg, 0, none⟩) 64 c) 64 ((primesTo 310).map dw) ∧ Below w.heap.size w wr) (fun i _ => 8 - (intOf i).toNat)
  case atStart => exact ⟨0, by omega, rfl, hW, hR2, hl2, hb2⟩
  case round =>
    clear hW hR2 hl2 hb2
    obtain ⟨k, hk, rfl, hW, hR, hl, hb⟩ := hrel
    by_cases hk8 : k < 8
    · obtain ⟨hp, hplt⟩ := prime_at k (by omega)
      have hcell := owns_cell hl k _ hp
      have hst : beginL (k + 1) = (beginL k).set k (squareW ((primesTo 310).getD k 0)) := rfl
      obtain ⟨p, hpe⟩ : ∃ p, p = (primesTo 310).getD k 0 := ⟨_, rfl⟩
      rw [← hpe] at hplt hcell hst
      have cc := fun w' => square_any p (by omega) w'
      obtain ⟨z, hz⟩ : ∃ z, z = squareW p := ⟨_, rfl⟩
      simp only [← hz] at cc
      rw [← hz] at hst
      have hkd : decide ((k : Int) < 8) = true := by simp; omega
      have hki : (k : Int) < 8 := by omega
      have hki2 : (k : Int) < 64 := by omega
      have hk0 : (0 : Int) ≤ (k : Int) := Int.natCast_nonneg _
      have f0 := hW.free k
      clear hp hplt hpe hz f0
      replace cc := Lib.hid cc; replace hl := Lib.hid hl; replace hb := Lib.hid hb; replace hst := Lib.hid hst; replace hW := Lib.hid hW; replace hR := Lib.hid hR
      go_wp2_with (go_at_call 73; (with_reducible refine (cc.out _).mono ?_); rintro e w2 ⟨rfl, b2⟩; have f0 := (hW.out.below b2).free k; have cg := (hW.out.below b2).cell (i := k) (by rw [begin_len]; exact hk8); replace hW := Lib.hid (hW.out.below b2); replace hR := Lib.hid (hR.out.below b2); replace hl := Lib.hid (owns_below hl.out b2); replace hb := Lib.hid (belowCont hb.out b2); clear b2)
      go_roundw
      case rel => exact ⟨k + 1, by omega, by go_num, by rw [hst.out]; exact hW.out.put k z, words_far hR.out (Nat.ne_of_lt hlt.out) _, owns_store hl.out (by decide) hW.out (by decide) _, hb.out.setCell (p := ⟨g, k, none⟩) (Nat.le_of_lt hlt.out) _⟩
      case measure => simp [intOf]; omega
    · obtain rfl : k = 8 := by omega
      rw [begin_known] at hW
      have hne := hlt.out
      clear hk hk8 hl
      replace hb := Lib.hid hb; replace hW := Lib.hid hW; replace hR := Lib.hid hR; replace hne := Lib.hid hne
      go_wp2_with (first
        | (refine wpList_load_words eight8 Tryd.underlying59 rfl (.tmp 1) rfl g [1779033703, 3144134277, 1013904242, 2773480762, 1359893119, 2600822924, 528734635, 1541459225] rfl hW.out rfl ?_)
        | (refine wpList_store_words eight8 rfl (.tmp 0) (.tmp 17) rfl w.heap.size [1779033703, 3144134277, 1013904242, 2773480762, 1359893119, 2600822924, 528734635, 1541459225] rfl rfl rfl ⟨_, hR.out, rfl⟩ ?_; intro w5 W5 K5; replace W5 := Lib.hid W5; replace K5 := Lib.hid K5))
      exact bodyPost_ret (v := .agg (([1779033703, 3144134277, 1013904242, 2773480762, 1359893119, 2600822924, 528734635, 1541459225] : List Nat).map word).toArray) (results_cell_row rfl _ _ w.heap.size 59 _ (0, 0) _ rfl W5.out Tryd.underlying59 rfl eight8) rfl ⟨rfl, hb.out.trans (K5.out.below hb.out.size (by simp))⟩
theorem salts_at (k : Nat) (h : k < 64) : (sha.salts.map word)[k]? = some (.int .u32 ((sha.salts.getD k 0 : Nat) : Int)) := by
  have hl : k < sha.salts.length := by rw [sha.salts_len]; exact h
  rw [List.getElem?_map]; simp [word, List.getElem?_eq_getElem hl, List.getD]
theorem begin_lit (w : World) : Calls Tryd.prog 37 #[] w fun e w' => e = .returned (.agg #[.int .u32 1779033703, .int .u32 3144134277, .int .u32 1013904242, .int .u32 2773480762, .int .u32 1359893119, .int .u32 2600822924, .int .u32 528734635, .int .u32 1541459225]) ∧ Below w.heap.size w w' := begin_any w
theorem eq_eight (W : World) : (binOp .eql 59 (.agg #[.int .u32 1779033703, .int .u32 3144134277, .int .u32 1013904242, .int .u32 2773480762, .int .u32 1359893119, .int .u32 2600822924, .int .u32 528734635, .int .u32 1541459225]) (.agg #[.int .u32 1779033703, .int .u32 3144134277, .int .u32 1013904242, .int .u32 2773480762, .int .u32 1359893119, .int .u32 2600822924, .int .u32 528734635, .int .u32 1541459225])).run Tryd.prog W = .ok (.bool true) W := by
  kernel_rfl
set_option maxHeartbeats 4000000 in
theorem right_any (w : World) : Calls Tryd.prog 9 #[] w fun e w' => e = .returned (.bool true) ∧ Below w.heap.size w w' := by
  go_enter Tryd.func9, Tryd.ntmps9
  go_upto_region 3 with (first
    | (go_at_call 35; (with_reducible refine (salts_any _).mono ?_); rintro e w1 ⟨av, rfl, ha, b1⟩; obtain ⟨ad, c, rfl⟩ := owns_form ha; obtain ⟨ga, rfl, _⟩ := owns_at ha (by decide); replace ha := Lib.hid ha; replace b1 := Lib.hid b1)
    | (go_at_call 36; (with_reducible refine (sha.known_any _).mono ?_); rintro e w2 ⟨rfl, hk, b2⟩; replace ha := Lib.hid (owns_below ha.out b2); replace b1 := Lib.hid (belowCont b1.out b2); replace hk := Lib.hid hk; clear b2)
    | (go_at_call 37; (with_reducible refine (begin_lit _).mono ?_); rintro e w3 ⟨rfl, b3⟩; replace ha := Lib.hid (owns_below ha.out b3); replace hk := Lib.hid (hk.out.below b3); replace b1 := Lib.hid (belowCont b1.out b3); clear b3))
  have hH : w3.heap.size < (w3.alloc (.cells #[.int .u32 1779033703, .int .u32 3144134277, .int .u32 1013904242, .int .u32 2773480762, .int .u32 1359893119, .int .u32 2600822924, .int .u32 528734635, .int .u32 1541459225] 59)).heap.size := by simp
  have hHc : (w3.alloc (.cells #[.int .u32 1779033703, .int .u32 3144134277, .int .u32 1013904242, .int .u32 2773480762, .int .u32 1359893119, .int .u32 2600822924, .int .u32 528734635, .int .u32 1541459225] 59)).heap[w3.heap.size]? = some (.cells #[.int .u32 1779033703, .int .u32 3144134277, .int .u32 1013904242, .int .u32 2773480762, .int .u32 1359893119, .int .u32 2600822924, .int .u32 528734635, .int .u32 1541459225] 59 (0, 0)) := heap_alloc_new w3 _
  have ha2 := World.ownsRow.alloc ha.out (.cells #[.int .u32 1779033703, .int .u32 3144134277, .int .u32 1013904242, .int .u32 2773480762, .int .u32 1359893119, .int .u32 2600822924, .int .u32 528734635, .int .u32 1541459225] 59)
  have hk2 := hk.out.below ((Below.refl _ _).alloc (Nat.le_refl _) (.cells #[.int .u32 1779033703, .int .u32 3144134277, .int .u32 1013904242, .int .u32 2773480762, .int .u32 1359893119, .int .u32 2600822924, .int .u32 528734635, .int .u32 1541459225] 59))
  have hb2 := b1.out.alloc b1.out.size (.cells #[.int .u32 1779033703, .int .u32 3144134277, .int .u32 1013904242, .int .u32 2773480762, .int .u32 1359893119, .int .u32 2600822924, .int .u32 528734635, .int .u32 1541459225] 59)
  clear ha hk b1 hH
  generalize w3.alloc (.cells #[.int .u32 1779033703, .int .u32 3144134277, .int .u32 1013904242, .int .u32 2773480762, .int .u32 1359893119, .int .u32 2600822924, .int .u32 528734635, .int .u32 1541459225] 59) = W at hHc ha2 hk2 hb2 ⊢
  generalize w3.heap.size = gh at hHc ⊢
  generalize w1.heap.size = gk at hk2 ⊢
  clear w3
  go_loopw [4] (fun i wr => ∃ k : Nat, k ≤ 64 ∧ i = .int .i64 k ∧ wr.heap[gh]? = some (.cells #[.int .u32 1779033703, .int .u32 3144134277, .int .u32 1013904242, .int .u32 2773480762, .int .u32 1359893119, .int .u32 2600822924, .int .u32 528734635, .int .u32 1541459225] 59 (0, 0)) ∧ wr.ownsRow w.heap.size 26 1 (.slice (some ⟨ga, 0, none⟩) 64 c) 64 (sha.salts.map word) ∧ Words wr gk 26 sha.salts ∧ Below w.heap.size w wr) (fun i _ => 64 - (intOf i).toNat)
  case atStart => exact ⟨0, by omega, rfl, hHc, ha2, hk2, hb2⟩
  case round =>
    clear hHc ha2 hk2 hb2
    obtain ⟨k, hk64, rfl, hH, ha, hk, hb⟩ := hrel
    by_cases hlt : k < 64
    · have x0 := owns_cell ha k _ (salts_at k hlt)
      have x1 := hk.cell (i := k) (by rw [sha.salts_len]; exact hlt)
      generalize sha.salts.getD k 0 = z at x0 x1
      have hkd : decide ((k : Int) < 64) = true := by simp; omega
      have hki : (k : Int) < 64 := by omega
      have hk0 : (0 : Int) ≤ (k : Int) := Int.natCast_nonneg _
      replace hH := Lib.hid hH; replace ha := Lib.hid ha; replace hk := Lib.hid hk; replace hb := Lib.hid hb; replace hk64 := Lib.hid hk64
      go_upto_region 5 with (fail)
      go_quiet (fail)
      go_wp2
      go_roundw
      case rel => exact ⟨k + 1, by omega, by go_num, hH.out, ha.out, hk.out, belowDrewN hb.out _⟩
      case measure => simp [intOf]; omega
    · obtain rfl : k = 64 := by omega
      have hq := fun W => eq_eight W
      replace hb := Lib.hid hb
      clear ha hk hk64 hlt
      have d0 := cell_of_row _ _ 0 _ _ _ hH
      have d1 := cell_of_row _ _ 1 _ _ _ hH
      have d2 := cell_of_row _ _ 2 _ _ _ hH
      have d3 := cell_of_row _ _ 3 _ _ _ hH
      have d4 := cell_of_row _ _ 4 _ _ _ hH
      have d5 := cell_of_row _ _ 5 _ _ _ hH
      have d6 := cell_of_row _ _ 6 _ _ _ hH
      have d7 := cell_of_row _ _ 7 _ _ _ hH
      simp only [List.getElem?_toArray, List.getElem?_cons_zero, List.getElem?_cons_succ] at d0 d1 d2 d3 d4 d5 d6 d7
      clear hH
      go_wp2
      go_ret
      exact ⟨rfl, hb.out⟩
attribute [local go_sem] conv_one
set_option maxHeartbeats 4000000 in
theorem shaRoots_walk (a0 : Int) (w : World) (w0 : (Lit.int .u8 a0).wf = true) (hT : sha.SaltAt w sha.salts) :
    Calls Tryd.prog 3 #[.int .u8 a0] w fun e w' => e = .returned (.bool true) ∧ Below w.heap.size w w' := by
  have s0 : ∀ w', sha.SaltAt w' sha.salts → Calls Tryd.prog 10 #[.string ⟨#[]⟩] w' fun e w2 => e = .returned (.string (str (sha.shaB sha.salts []))) ∧ Below w'.heap.size w' w2 := fun w' h => sha.sum_any sha.salts sha.salts_small [] (by decide) w' h
  have r0 : ∀ w', Calls Tryd.prog 11 #[.string ⟨#[]⟩] w' fun e w2 => e = .returned (.string (str (sha.shaB sha.salts []))) ∧ Below w'.heap.size w' w2 := fun w' => sha.rsum_any [] (by decide) w'
  have s1 := fun w' h => sha.sum_any sha.salts sha.salts_small [UInt8.ofNat a0.toNat] (by simp) w' h
  have r1 := fun w' => sha.rsum_any [UInt8.ofNat a0.toNat] (by simp) w'
  obtain ⟨U, hU⟩ : ∃ U, U = str (sha.shaB sha.salts []) := ⟨_, rfl⟩
  obtain ⟨V, hV⟩ : ∃ U, U = str (sha.shaB sha.salts [UInt8.ofNat a0.toNat]) := ⟨_, rfl⟩
  rw [← hU] at s0 r0
  rw [← hV] at s1 r1
  clear hU hV w0
  have hbb : Below w.heap.size w w := Below.refl _ _
  replace hbb := Lib.hid hbb; replace s0 := Lib.hid s0; replace r0 := Lib.hid r0; replace s1 := Lib.hid s1; replace r1 := Lib.hid r1; replace hT := Lib.hid hT
  go_enter Tryd.func3, Tryd.ntmps3
  go_upto_region 2 with (fail)
  replace hbb := Lib.hid (hbb.out.alloc (Nat.le_refl _) (.cells #[.int .u8 a0] 5))
  go_wp2_with (first
    | (go_at_call 8; (with_reducible refine (sha.awake_any _ (hT.out.keep hbb.out)).mono ?_); rintro e w1 ⟨rfl, b1⟩; replace hbb := Lib.hid (belowCont hbb.out b1); clear b1)
    | (go_at_call 9; (with_reducible refine (right_any _).mono ?_); rintro e w1 ⟨rfl, b1⟩; replace hbb := Lib.hid (belowCont hbb.out b1); clear b1)
    | (go_at_call 10; (with_reducible refine (s0.out _ (hT.out.keep hbb.out)).mono ?_); rintro e w1 ⟨rfl, b1⟩; replace hbb := Lib.hid (belowCont hbb.out b1); clear b1)
    | (go_at_call 10; (with_reducible refine (s1.out _ (hT.out.keep hbb.out)).mono ?_); rintro e w1 ⟨rfl, b1⟩; replace hbb := Lib.hid (belowCont hbb.out b1); clear b1)
    | (go_at_call 11; (with_reducible refine (r0.out _).mono ?_); rintro e w1 ⟨rfl, b1⟩; replace hbb := Lib.hid (belowCont hbb.out b1); clear b1)
    | (go_at_call 11; (with_reducible refine (r1.out _).mono ?_); rintro e w1 ⟨rfl, b1⟩; replace hbb := Lib.hid (belowCont hbb.out b1); clear b1))
  go_ret
  exact ⟨rfl, hbb.out⟩
end Go.Proofs.YtebhdlecekjhgaaDoor.roots
