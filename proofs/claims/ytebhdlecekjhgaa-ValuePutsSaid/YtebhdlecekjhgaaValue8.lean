/- The law ValuePuts: a text, with bytes behind it. No other condition. -/
import Derived.Test.YtebhdlecekjhgaaValue7
namespace Go.Proofs.Ytebhdlecekjhgaa.value
open Go.RowKit
attribute [local go_sem ↓] Go.wp_at_zero Go.wp_at_succ
attribute [local go_sem] str_size
set_option linter.unusedVariables false
set_option maxRecDepth 100000

theorem and_2047 (x : Int) : bits .and .i64 x 2047 = x % 2048 := and_mask x 11 2047 (by decide) (by decide)
theorem zeros_conv (j : Nat) (W : World) : (convert 39 9 (.slice (some ⟨W.heap.size, 0, none⟩) j j)).run Try.prog (W.alloc (.cells (madeCells (Value.int .u8 0).cells j) 5)) = .ok (.string (str (List.replicate j 0))) (W.alloc (.cells (madeCells (Value.int .u8 0).cells j) 5)) := by
  have h := (byteBlk_made W j).text j
  rwa [List.length_replicate] at h
theorem zeros_conv_drew (j : Nat) (W : World) : (convert 39 9 (.slice (some ⟨W.heap.size, 0, none⟩) j j)).run Try.prog (W.alloc (.cells (madeCells (Value.int .u8 0).cells j) 5)).drew = .ok (.string (str (List.replicate j 0))) (W.alloc (.cells (madeCells (Value.int .u8 0).cells j) 5)).drew := by
  have h := (show ByteBlk (W.alloc (.cells (madeCells (Value.int .u8 0).cells j) 5)).drew W.heap.size _ from byteBlk_made W j).text j
  rwa [List.length_replicate] at h
set_option maxHeartbeats 8000000 in
theorem text_true (v0 v1 : Int) (v2 : ByteArray) (long : Int) (S0 s : ByteArray) (j : Nat) (hS0 : S0.size ≤ 60) (hj : bits .and .i64 long 2047 = (j : Int)) (hj2 : j < 2048) (hs : s = S0 ++ str (List.replicate j 0)) (wd : Bool) (p : List UInt8) (hp : p ≠ []) (hpl : p.length ≤ 3000)
    (hnear : ∀ w, Calls Try.prog 14 #[.agg #[.int .i64 v0, .int .i64 v1, .string v2]] w fun e w' => e = .returned (.agg #[.int .i64 3, .int .i64 0, .string S0]) ∧ Below w.heap.size w w')
    (hT : Told 3 0 s true wd p)
    (htake : ∀ (w : World) (g : Nat), code.RdAt w g p 0 → Calls Try.prog 17 #[.pointer (some ⟨g, 0, none⟩)] w fun e w' => e = .returned (.agg #[.int .i64 3, .int .i64 0, .string s]) ∧ code.RdAt w' g [] 0 ∧ Keeps [g] w w') (w : World) :
    Calls Try.prog 4 #[.agg #[.int .i64 v0, .int .i64 v1, .string v2], .int .i64 long] w fun e w' => e = .returned (.bool true) ∧ Below w.heap.size w w' := by
  obtain ⟨hmay, hrmay, hwords, hrwords, hput, hrput⟩ := hT
  have hsame := fun w => same_any 3 0 s w
  have hread : ∀ w', Calls Try.prog 16 #[.string (str p)] w' fun e w2 => e = .returned (.pointer (some ⟨w'.heap.size, 0, none⟩)) ∧ code.RdAt w2 w'.heap.size p 0 ∧ Below w'.heap.size w' w2 := fun w' => code.read_any (str p) w'
  have hpe : ((str p).toList == (⟨#[]⟩ : ByteArray).toList) = false := by
    rw [str_bl]
    cases p with
    | nil => exact absurd rfl hp
    | cons a l => simp [ByteArray.toList_eq]
  have hpe1 : ¬ (str p).toList = [] := by rw [str_bl]; exact hp
  have hpe2 : (str p).toList.isEmpty = false := by
    rw [str_bl]
    cases p with
    | nil => exact absurd rfl hp
    | cons a l => rfl
  have hpe3 : ((str p).toList == []) = false := by
    rw [str_bl]
    cases p with
    | nil => exact absurd rfl hp
    | cons a l => rfl
  have hpp : ((str p).toList == (str p).toList) = true := by simp
  have hpq : ((str p).toList != (str p).toList) = false := by simp
  have hss : (s.toList == s.toList) = true := by simp
  have hz : (str p).size ≤ 3000 := by rw [str_size]; exact hpl
  generalize str p = P at hread hput hrput hpe hpe1 hpe2 hpe3 hpp hpq hz
  clear hp hpl
  have mk := fun W => run_make_bytes j (by omega) W
  have cv := fun W => zeros_conv j W
  have cvd := fun W => zeros_conv_drew j W
  have hqs : (str (List.replicate j 0)).size = j := by rw [str_size, List.length_replicate]
  generalize madeCells (Value.int .u8 0).cells j = Z at mk cv cvd
  generalize str (List.replicate j 0) = Q at cv cvd hs hqs
  have hroom : ¬ 9223372036854775807 < S0.size + Q.size := by omega
  have hj0 : (0 : Int) ≤ (j : Int) := Int.natCast_nonneg _
  have hj3 : (j : Int) < 2048 := by omega
  clear hqs
  replace hs := Lib.hid hs
  replace hnear := Lib.hid hnear; replace hmay := Lib.hid hmay; replace hrmay := Lib.hid hrmay; replace hwords := Lib.hid hwords; replace hrwords := Lib.hid hrwords; replace hput := Lib.hid hput; replace hrput := Lib.hid hrput; replace htake := Lib.hid htake; replace hsame := Lib.hid hsame; replace hread := Lib.hid hread
  go_enter Try.func4, Try.ntmps4
  go_upto_region 3 with (go_at_call 14; (with_reducible refine (hnear.out _).mono ?_); rintro e w1 ⟨rfl, b1⟩; have b2 := Lib.hid (box3 b1).2.2.2; clear b1)
  have hX : (w1.alloc (.cells #[.int .i64 3, .int .i64 0, .string S0] 37)).heap[w1.heap.size]? = some (.cells #[.int .i64 3, .int .i64 0, .string S0] 37 (0, 0)) := heap_alloc_new w1 _
  have hb := b2.out.alloc b2.out.size (.cells #[.int .i64 3, .int .i64 0, .string S0] 37)
  have hg : w.heap.size ≤ w1.heap.size := b2.out.size
  clear b2 hnear
  generalize w1.alloc (.cells #[.int .i64 3, .int .i64 0, .string S0] 37) = W at hX hb ⊢
  generalize w1.heap.size = gx at hX hg ⊢
  clear w1
  have c2 : W.drew.cell? ⟨gx, 2, none⟩ = some (.string S0) := cell_of_row _ _ 2 _ _ _ hX
  have hX2 : (W.alloc (.cells Z 5)).drew.heap[gx]? = some (.cells #[.int .i64 3, .int .i64 0, .string S0] 37 (0, 0)) := (Below.heap_alloc W _ _ (block_lt hX)).trans hX
  have c2a : (W.alloc (.cells Z 5)).drew.cell? ⟨gx, 2, none⟩ = some (.string S0) := cell_of_row _ _ 2 _ _ _ hX2
  have f2a : (W.alloc (.cells Z 5)).drew.frozen? ⟨gx, 2, none⟩ = false := by simp [World.frozen?, hX2]
  have hX3 : ((W.alloc (.cells Z 5)).setCell ⟨gx, 2, none⟩ (.string (S0 ++ Q))).drew.heap[gx]? = some (.cells #[.int .i64 3, .int .i64 0, .string s] 37 (0, 0)) := by
    have : (W.alloc (.cells Z 5)).heap[gx]? = some (.cells #[.int .i64 3, .int .i64 0, .string S0] 37 (0, 0)) := hX2
    rw [hs.out]
    show ((W.alloc (.cells Z 5)).setCell ⟨gx, 2, none⟩ (.string (S0 ++ Q))).heap[gx]? = _
    simp [World.setCell, Array.getElem?_modify, this]
  have hb3 : Below w.heap.size w ((W.alloc (.cells Z 5)).setCell ⟨gx, 2, none⟩ (.string (S0 ++ Q))).drew := ((hb.alloc hb.size _).setCell (p := ⟨gx, 2, none⟩) hg _).drew
  replace hX := Lib.hid hX; replace hb := Lib.hid hb; replace hg := Lib.hid hg; replace hX2 := Lib.hid hX2; replace hX3 := Lib.hid hX3; replace hb3 := Lib.hid hb3
  go_region_with (fail)
  all_goals clear mk cv cvd hroom hj0 hj3 c2 c2a f2a hX hX2 hb
  all_goals (generalize ((W.alloc (.cells Z 5)).setCell ⟨gx, 2, none⟩ (.string (S0 ++ Q))).drew = V at hX3 hb3 ⊢)
  all_goals (have hX := hX3; have hb := hb3; clear hX3 hb3)
  all_goals (have d0 := cell_of_row _ _ 0 _ _ _ hX.out; have d1 := cell_of_row _ _ 1 _ _ _ hX.out; have d2 := cell_of_row _ _ 2 _ _ _ hX.out; simp only [List.getElem?_toArray, List.getElem?_cons_zero, List.getElem?_cons_succ] at d0 d1 d2)
  all_goals (
    go_upto_region 7 with (first
      | (go_at_call 15; (with_reducible refine (hput.out _).mono ?_); rintro e w2 ⟨rfl, b3⟩; replace hX := Lib.hid ((b3.block _ (block_lt hX.out)).trans hX.out); have hlt1 := Lib.hid (block_lt hX.out); have b4 := Lib.hid (belowCont hb.out b3); clear b3)
      | (go_at_call 16; (with_reducible refine (hread.out _).mono ?_); rintro e w3 ⟨rfl, r3, b5⟩; replace hX := Lib.hid ((b5.block _ (block_lt hX.out)).trans hX.out); have b6 := Lib.hid (belowCont b4.out b5); replace r3 := Lib.hid r3; clear b5)
      | (go_at_call 17; (with_reducible refine (htake.out _ _ r3.out).mono ?_); rintro e w4 ⟨rfl, r4, k4⟩; replace r4 := Lib.hid r4; replace k4 := Lib.hid k4))
    have ls : LS w gx w2.heap.size w4.heap.size (.int .i64 3) (.int .i64 0) (.string s) (.int .i64 3) (.int .i64 0) (.string s) [] 0 (w4.alloc (.cells #[.int .i64 3, .int .i64 0, .string s] 37)) := by
      have h4 := k4.out
      have h1 := hlt1.out
      have hx4 := (h4.block _ (block_lt hX.out) (by simp; omega)).trans hX.out
      have hb4 := b6.out.trans (h4.below b6.out.size (by simp; exact b4.out.size))
      exact ⟨(Below.heap_alloc w4 _ _ (block_lt hx4)).trans hx4, r4.out.below ((Below.refl _ _).alloc (Nat.le_refl _) _), heap_alloc_new w4 _, hb4.alloc hb4.size _⟩
    clear hX hb b4 b6 r3 r4 k4 hlt1 hread htake hput
    generalize w4.alloc (.cells #[.int .i64 3, .int .i64 0, .string s] 37) = W at ls ⊢
    generalize w2.heap.size = g at ls ⊢
    generalize w4.heap.size = gy at ls ⊢
    clear w2 w3 w4
    replace ls := Lib.hid ls
    go_region_held3 (fun w' => LS w gx g gy (.int .i64 3) (.int .i64 0) (.string s) (.int .i64 3) (.int .i64 0) (.string s) [] 0 w' ∧ w'.cell? ⟨gx, 0, none⟩ = some (.int .i64 3) ∧ w'.cell? ⟨gx, 1, none⟩ = some (.int .i64 0) ∧ w'.cell? ⟨gx, 2, none⟩ = some (.string s))
      (first
      | exact ls.out.drew.all
      | (go_split_ands; exact ⟨by assumption, by assumption, by assumption, by assumption⟩)
      | (go_split_ands; exact LS.next (by assumption) (by assumption)))
      (first
        | (go_at_call 18; (with_reducible refine (awake_any _).mono ?_); rintro e w1 ⟨rfl, hb⟩)
        | (go_at_call 19; (with_reducible refine (hrput.out _).mono ?_); rintro e w1 ⟨rfl, hb⟩)
        | (go_at_call 20; (with_reducible refine (hmay.out _).mono ?_); rintro e w1 ⟨rfl, hb⟩)
        | (go_at_call 21; (with_reducible refine (hrmay.out _).mono ?_); rintro e w1 ⟨rfl, hb⟩)
        | (go_at_call 22; (with_reducible refine (hwords.out _).mono ?_); rintro e w1 ⟨rfl, hb⟩)
        | (go_at_call 23; (with_reducible refine (hrwords.out _).mono ?_); rintro e w1 ⟨rfl, hb⟩))
    all_goals (obtain ⟨lt, c0, c1, c2⟩ := ‹LS _ _ _ _ _ _ _ _ _ _ _ _ _ ∧ _›)
    all_goals (obtain ⟨d0, d1, d2⟩ := lt.cy)
    all_goals (replace lt := Lib.hid lt)
    all_goals (go_wp2_with (first
      | (go_at_call 24; (with_reducible refine (end_ok lt.out.rd).mono ?_); rintro e w5 ⟨rfl, b5⟩; replace lt := Lib.hid (lt.out.below b5); clear b5; obtain ⟨c0, c1, c2⟩ := lt.out.cx; obtain ⟨d0, d1, d2⟩ := lt.out.cy)
      | (go_at_call 25; (with_reducible refine (hsame.out _).mono ?_); rintro e w6 ⟨rfl, b6⟩; replace b6 := Lib.hid b6)))
    all_goals go_ret
    all_goals exact ⟨rfl, belowCont lt.out.bel b6.out⟩)
set_option maxHeartbeats 8000000 in
theorem text_false (v0 v1 : Int) (v2 : ByteArray) (long : Int) (S0 s : ByteArray) (j : Nat) (hS0 : S0.size ≤ 60) (hj : bits .and .i64 long 2047 = (j : Int)) (hj2 : j < 2048) (hs : s = S0 ++ str (List.replicate j 0)) (hnear : ∀ w, Calls Try.prog 14 #[.agg #[.int .i64 v0, .int .i64 v1, .string v2]] w fun e w' => e = .returned (.agg #[.int .i64 3, .int .i64 0, .string S0]) ∧ Below w.heap.size w w')
    (hT : Told 3 0 s false false []) (w : World) :
    Calls Try.prog 4 #[.agg #[.int .i64 v0, .int .i64 v1, .string v2], .int .i64 long] w fun e w' => e = .returned (.bool true) ∧ Below w.heap.size w w' := by
  obtain ⟨hmay, hrmay, hwords, hrwords, hput, hrput⟩ := hT
  have hsame := fun w => same_any 3 0 s w
  have hread : ∀ w', Calls Try.prog 16 #[.string ⟨#[]⟩] w' fun e w2 => e = .returned (.pointer (some ⟨w'.heap.size, 0, none⟩)) ∧ code.RdAt w2 w'.heap.size [] 0 ∧ Below w'.heap.size w' w2 := fun w' => code.read_any ⟨#[]⟩ w'
  have htake : ∀ (w : World) (g : Nat), code.RdAt w g [] 0 → Calls Try.prog 17 #[.pointer (some ⟨g, 0, none⟩)] w fun e w' => e = .returned (.agg #[.int .i64 0, .int .i64 0, .string ⟨#[]⟩]) ∧ code.RdAt w' g [] 2 ∧ Keeps [g] w w' := fun w g h => take_empty h
  have he : str [] = ⟨#[]⟩ := rfl
  rw [he] at hput hrput
  clear he
  have mk := fun W => run_make_bytes j (by omega) W
  have cv := fun W => zeros_conv j W
  have cvd := fun W => zeros_conv_drew j W
  have hqs : (str (List.replicate j 0)).size = j := by rw [str_size, List.length_replicate]
  generalize madeCells (Value.int .u8 0).cells j = Z at mk cv cvd
  generalize str (List.replicate j 0) = Q at cv cvd hs hqs
  have hroom : ¬ 9223372036854775807 < S0.size + Q.size := by omega
  have hj0 : (0 : Int) ≤ (j : Int) := Int.natCast_nonneg _
  have hj3 : (j : Int) < 2048 := by omega
  clear hqs
  replace hs := Lib.hid hs
  replace hnear := Lib.hid hnear; replace hmay := Lib.hid hmay; replace hrmay := Lib.hid hrmay; replace hwords := Lib.hid hwords; replace hrwords := Lib.hid hrwords; replace hput := Lib.hid hput; replace hrput := Lib.hid hrput; replace htake := Lib.hid htake; replace hsame := Lib.hid hsame; replace hread := Lib.hid hread
  go_enter Try.func4, Try.ntmps4
  go_upto_region 3 with (go_at_call 14; (with_reducible refine (hnear.out _).mono ?_); rintro e w1 ⟨rfl, b1⟩; have b2 := Lib.hid (box3 b1).2.2.2; clear b1)
  have hX : (w1.alloc (.cells #[.int .i64 3, .int .i64 0, .string S0] 37)).heap[w1.heap.size]? = some (.cells #[.int .i64 3, .int .i64 0, .string S0] 37 (0, 0)) := heap_alloc_new w1 _
  have hb := b2.out.alloc b2.out.size (.cells #[.int .i64 3, .int .i64 0, .string S0] 37)
  have hg : w.heap.size ≤ w1.heap.size := b2.out.size
  clear b2 hnear
  generalize w1.alloc (.cells #[.int .i64 3, .int .i64 0, .string S0] 37) = W at hX hb ⊢
  generalize w1.heap.size = gx at hX hg ⊢
  clear w1
  have c2 : W.drew.cell? ⟨gx, 2, none⟩ = some (.string S0) := cell_of_row _ _ 2 _ _ _ hX
  have hX2 : (W.alloc (.cells Z 5)).drew.heap[gx]? = some (.cells #[.int .i64 3, .int .i64 0, .string S0] 37 (0, 0)) := (Below.heap_alloc W _ _ (block_lt hX)).trans hX
  have c2a : (W.alloc (.cells Z 5)).drew.cell? ⟨gx, 2, none⟩ = some (.string S0) := cell_of_row _ _ 2 _ _ _ hX2
  have f2a : (W.alloc (.cells Z 5)).drew.frozen? ⟨gx, 2, none⟩ = false := by simp [World.frozen?, hX2]
  have hX3 : ((W.alloc (.cells Z 5)).setCell ⟨gx, 2, none⟩ (.string (S0 ++ Q))).drew.heap[gx]? = some (.cells #[.int .i64 3, .int .i64 0, .string s] 37 (0, 0)) := by
    have : (W.alloc (.cells Z 5)).heap[gx]? = some (.cells #[.int .i64 3, .int .i64 0, .string S0] 37 (0, 0)) := hX2
    rw [hs.out]
    show ((W.alloc (.cells Z 5)).setCell ⟨gx, 2, none⟩ (.string (S0 ++ Q))).heap[gx]? = _
    simp [World.setCell, Array.getElem?_modify, this]
  have hb3 : Below w.heap.size w ((W.alloc (.cells Z 5)).setCell ⟨gx, 2, none⟩ (.string (S0 ++ Q))).drew := ((hb.alloc hb.size _).setCell (p := ⟨gx, 2, none⟩) hg _).drew
  replace hX := Lib.hid hX; replace hb := Lib.hid hb; replace hg := Lib.hid hg; replace hX2 := Lib.hid hX2; replace hX3 := Lib.hid hX3; replace hb3 := Lib.hid hb3
  go_region_with (fail)
  all_goals clear mk cv cvd hroom hj0 hj3 c2 c2a f2a hX hX2 hb
  all_goals (generalize ((W.alloc (.cells Z 5)).setCell ⟨gx, 2, none⟩ (.string (S0 ++ Q))).drew = V at hX3 hb3 ⊢)
  all_goals (have hX := hX3; have hb := hb3; clear hX3 hb3)
  all_goals (have d0 := cell_of_row _ _ 0 _ _ _ hX.out; have d1 := cell_of_row _ _ 1 _ _ _ hX.out; have d2 := cell_of_row _ _ 2 _ _ _ hX.out; simp only [List.getElem?_toArray, List.getElem?_cons_zero, List.getElem?_cons_succ] at d0 d1 d2)
  all_goals (
    go_upto_region 7 with (first
      | (go_at_call 15; (with_reducible refine (hput.out _).mono ?_); rintro e w2 ⟨rfl, b3⟩; replace hX := Lib.hid ((b3.block _ (block_lt hX.out)).trans hX.out); have hlt1 := Lib.hid (block_lt hX.out); have b4 := Lib.hid (belowCont hb.out b3); clear b3)
      | (go_at_call 16; (with_reducible refine (hread.out _).mono ?_); rintro e w3 ⟨rfl, r3, b5⟩; replace hX := Lib.hid ((b5.block _ (block_lt hX.out)).trans hX.out); have b6 := Lib.hid (belowCont b4.out b5); replace r3 := Lib.hid r3; clear b5)
      | (go_at_call 17; (with_reducible refine (htake.out _ _ r3.out).mono ?_); rintro e w4 ⟨rfl, r4, k4⟩; replace r4 := Lib.hid r4; replace k4 := Lib.hid k4))
    have ls : LS w gx w2.heap.size w4.heap.size (.int .i64 3) (.int .i64 0) (.string s) (.int .i64 0) (.int .i64 0) (.string ⟨#[]⟩) [] 2 (w4.alloc (.cells #[.int .i64 0, .int .i64 0, .string ⟨#[]⟩] 37)) := by
      have h4 := k4.out
      have h1 := hlt1.out
      have hx4 := (h4.block _ (block_lt hX.out) (by simp; omega)).trans hX.out
      have hb4 := b6.out.trans (h4.below b6.out.size (by simp; exact b4.out.size))
      exact ⟨(Below.heap_alloc w4 _ _ (block_lt hx4)).trans hx4, r4.out.below ((Below.refl _ _).alloc (Nat.le_refl _) _), heap_alloc_new w4 _, hb4.alloc hb4.size _⟩
    clear hX hb b4 b6 r3 r4 k4 hlt1 hread htake hput
    generalize w4.alloc (.cells #[.int .i64 0, .int .i64 0, .string ⟨#[]⟩] 37) = W at ls ⊢
    generalize w2.heap.size = g at ls ⊢
    generalize w4.heap.size = gy at ls ⊢
    clear w2 w3 w4
    replace ls := Lib.hid ls
    go_region_held3 (fun w' => LS w gx g gy (.int .i64 3) (.int .i64 0) (.string s) (.int .i64 0) (.int .i64 0) (.string ⟨#[]⟩) [] 2 w' ∧ w'.cell? ⟨gx, 0, none⟩ = some (.int .i64 3) ∧ w'.cell? ⟨gx, 1, none⟩ = some (.int .i64 0) ∧ w'.cell? ⟨gx, 2, none⟩ = some (.string s))
      (first
      | exact ls.out.drew.all
      | (go_split_ands; exact ⟨by assumption, by assumption, by assumption, by assumption⟩)
      | (go_split_ands; exact LS.next (by assumption) (by assumption)))
      (first
        | (go_at_call 18; (with_reducible refine (awake_any _).mono ?_); rintro e w1 ⟨rfl, hb⟩)
        | (go_at_call 19; (with_reducible refine (hrput.out _).mono ?_); rintro e w1 ⟨rfl, hb⟩)
        | (go_at_call 20; (with_reducible refine (hmay.out _).mono ?_); rintro e w1 ⟨rfl, hb⟩)
        | (go_at_call 21; (with_reducible refine (hrmay.out _).mono ?_); rintro e w1 ⟨rfl, hb⟩)
        | (go_at_call 22; (with_reducible refine (hwords.out _).mono ?_); rintro e w1 ⟨rfl, hb⟩)
        | (go_at_call 23; (with_reducible refine (hrwords.out _).mono ?_); rintro e w1 ⟨rfl, hb⟩))
    all_goals (obtain ⟨lt, c0, c1, c2⟩ := ‹LS _ _ _ _ _ _ _ _ _ _ _ _ _ ∧ _›)
    all_goals (obtain ⟨d0, d1, d2⟩ := lt.cy)
    all_goals (replace lt := Lib.hid lt)
    all_goals go_wp2
    all_goals go_ret
    all_goals exact ⟨rfl, lt.out.bel⟩)
set_option maxHeartbeats 8000000 in
theorem puts_false (v0 v1 : Int) (v2 : ByteArray) (long k n : Int) (s : ByteArray) (hk3 : (k == 3) = false) (hnear : ∀ w, Calls Try.prog 14 #[.agg #[.int .i64 v0, .int .i64 v1, .string v2]] w fun e w' => e = .returned (.agg #[.int .i64 k, .int .i64 n, .string s]) ∧ Below w.heap.size w w')
    (hT : Told k n s false false []) (w : World) :
    Calls Try.prog 4 #[.agg #[.int .i64 v0, .int .i64 v1, .string v2], .int .i64 long] w fun e w' => e = .returned (.bool true) ∧ Below w.heap.size w w' := by
  obtain ⟨hmay, hrmay, hwords, hrwords, hput, hrput⟩ := hT
  have hsame := fun w => same_any k n s w
  have hread : ∀ w', Calls Try.prog 16 #[.string ⟨#[]⟩] w' fun e w2 => e = .returned (.pointer (some ⟨w'.heap.size, 0, none⟩)) ∧ code.RdAt w2 w'.heap.size [] 0 ∧ Below w'.heap.size w' w2 := fun w' => code.read_any ⟨#[]⟩ w'
  have htake : ∀ (w : World) (g : Nat), code.RdAt w g [] 0 → Calls Try.prog 17 #[.pointer (some ⟨g, 0, none⟩)] w fun e w' => e = .returned (.agg #[.int .i64 0, .int .i64 0, .string ⟨#[]⟩]) ∧ code.RdAt w' g [] 2 ∧ Keeps [g] w w' := fun w g h => take_empty h
  have he : str [] = ⟨#[]⟩ := rfl
  rw [he] at hput hrput
  clear he
  replace hnear := Lib.hid hnear; replace hmay := Lib.hid hmay; replace hrmay := Lib.hid hrmay; replace hwords := Lib.hid hwords; replace hrwords := Lib.hid hrwords; replace hput := Lib.hid hput; replace hrput := Lib.hid hrput; replace htake := Lib.hid htake; replace hsame := Lib.hid hsame; replace hread := Lib.hid hread
  go_enter Try.func4, Try.ntmps4
  go_upto_region 4 with (go_at_call 14; (with_reducible refine (hnear.out _).mono ?_); rintro e w1 ⟨rfl, b1⟩; have b2 := Lib.hid (box3 b1).2.2.2; clear b1)
  have hX : (w1.alloc (.cells #[.int .i64 k, .int .i64 n, .string s] 37)).heap[w1.heap.size]? = some (.cells #[.int .i64 k, .int .i64 n, .string s] 37 (0, 0)) := heap_alloc_new w1 _
  have hb := b2.out.alloc b2.out.size (.cells #[.int .i64 k, .int .i64 n, .string s] 37)
  clear b2 hnear
  generalize w1.alloc (.cells #[.int .i64 k, .int .i64 n, .string s] 37) = V at hX hb ⊢
  generalize w1.heap.size = gx at hX ⊢
  clear w1
  have d0 := cell_of_row _ _ 0 _ _ _ hX
  have d1 := cell_of_row _ _ 1 _ _ _ hX
  have d2 := cell_of_row _ _ 2 _ _ _ hX
  simp only [List.getElem?_toArray, List.getElem?_cons_zero, List.getElem?_cons_succ] at d0 d1 d2
  replace hX := Lib.hid hX; replace hb := Lib.hid hb
  go_upto_region 7 with (first
    | (go_at_call 15; (with_reducible refine (hput.out _).mono ?_); rintro e w2 ⟨rfl, b3⟩; replace hX := Lib.hid ((b3.block _ (block_lt hX.out)).trans hX.out); have hlt1 := Lib.hid (block_lt hX.out); have b4 := Lib.hid (belowCont hb.out b3); clear b3)
    | (go_at_call 16; (with_reducible refine (hread.out _).mono ?_); rintro e w3 ⟨rfl, r3, b5⟩; replace hX := Lib.hid ((b5.block _ (block_lt hX.out)).trans hX.out); have b6 := Lib.hid (belowCont b4.out b5); replace r3 := Lib.hid r3; clear b5)
    | (go_at_call 17; (with_reducible refine (htake.out _ _ r3.out).mono ?_); rintro e w4 ⟨rfl, r4, k4⟩; replace r4 := Lib.hid r4; replace k4 := Lib.hid k4))
  have ls : LS w gx w2.heap.size w4.heap.size (.int .i64 k) (.int .i64 n) (.string s) (.int .i64 0) (.int .i64 0) (.string ⟨#[]⟩) [] 2 (w4.alloc (.cells #[.int .i64 0, .int .i64 0, .string ⟨#[]⟩] 37)) := by
    have h4 := k4.out
    have h1 := hlt1.out
    have hx4 := (h4.block _ (block_lt hX.out) (by simp; omega)).trans hX.out
    have hb4 := b6.out.trans (h4.below b6.out.size (by simp; exact b4.out.size))
    exact ⟨(Below.heap_alloc w4 _ _ (block_lt hx4)).trans hx4, r4.out.below ((Below.refl _ _).alloc (Nat.le_refl _) _), heap_alloc_new w4 _, hb4.alloc hb4.size _⟩
  clear hX hb b4 b6 r3 r4 k4 hlt1 hread htake hput
  generalize w4.alloc (.cells #[.int .i64 0, .int .i64 0, .string ⟨#[]⟩] 37) = W at ls ⊢
  generalize w2.heap.size = g at ls ⊢
  generalize w4.heap.size = gy at ls ⊢
  clear w2 w3 w4
  replace ls := Lib.hid ls
  go_region_held3 (fun w' => LS w gx g gy (.int .i64 k) (.int .i64 n) (.string s) (.int .i64 0) (.int .i64 0) (.string ⟨#[]⟩) [] 2 w' ∧ w'.cell? ⟨gx, 0, none⟩ = some (.int .i64 k) ∧ w'.cell? ⟨gx, 1, none⟩ = some (.int .i64 n) ∧ w'.cell? ⟨gx, 2, none⟩ = some (.string s))
    (first
    | exact ls.out.drew.all
    | (go_split_ands; exact ⟨by assumption, by assumption, by assumption, by assumption⟩)
    | (go_split_ands; exact LS.next (by assumption) (by assumption)))
    (first
      | (go_at_call 18; (with_reducible refine (awake_any _).mono ?_); rintro e w1 ⟨rfl, hb⟩)
      | (go_at_call 19; (with_reducible refine (hrput.out _).mono ?_); rintro e w1 ⟨rfl, hb⟩)
      | (go_at_call 20; (with_reducible refine (hmay.out _).mono ?_); rintro e w1 ⟨rfl, hb⟩)
      | (go_at_call 21; (with_reducible refine (hrmay.out _).mono ?_); rintro e w1 ⟨rfl, hb⟩)
      | (go_at_call 22; (with_reducible refine (hwords.out _).mono ?_); rintro e w1 ⟨rfl, hb⟩)
      | (go_at_call 23; (with_reducible refine (hrwords.out _).mono ?_); rintro e w1 ⟨rfl, hb⟩))
  all_goals (obtain ⟨lt, c0, c1, c2⟩ := ‹LS _ _ _ _ _ _ _ _ _ _ _ _ _ ∧ _›)
  all_goals (obtain ⟨d0, d1, d2⟩ := lt.cy)
  all_goals (replace lt := Lib.hid lt)
  all_goals go_wp2
  all_goals go_ret
  all_goals exact ⟨rfl, lt.out.bel⟩
end Go.Proofs.Ytebhdlecekjhgaa.value
