/- The law ValuePuts: a value that may be; one that may not. No other condition. -/
import Derived.Test.YtebhdlecekjhgaaValue6
import Derived.Deep.RegionHeld3
namespace Go.Proofs.Ytebhdlecekjhgaa.value
open Go.RowKit
attribute [local go_sem ↓] Go.wp_at_zero Go.wp_at_succ
attribute [local go_sem] str_size
set_option linter.unusedVariables false
set_option maxRecDepth 100000

theorem end_ok {w : World} {g : Nat} (h : code.RdAt w g [] 0) : Calls Try.prog 24 #[.pointer (some ⟨g, 0, none⟩)] w fun e w' => e = .returned (.int .i64 0) ∧ Below w.heap.size w w' := by
  have hl : Calls Try.prog 67 #[.pointer (some ⟨g, 0, none⟩)] w fun e' w' => e' = .returned (.int .i64 0) ∧ Below w.heap.size w w' := code.left_any h
  replace h := Lib.hid h
  go_enter Try.func24, Try.ntmps24
  go_wp2_with (first | (go_at_call 67; (with_reducible refine hl.mono ?_); rintro e w1 ⟨rfl, b1⟩; have he := code.err_any (h.out.below b1); replace b1 := Lib.hid b1) | (go_at_call 63; (with_reducible refine he.mono ?_); rintro e w2 ⟨rfl, b2⟩; replace b2 := Lib.hid b2))
  go_ret
  exact ⟨rfl, belowCont b1.out b2.out⟩
/-- what both packages say of a value -/
structure Told (k n : Int) (s : ByteArray) (m wd : Bool) (p : List UInt8) : Prop where
  may : ∀ w, Calls Try.prog 20 #[.agg #[.int .i64 k, .int .i64 n, .string s]] w fun e w' => e = .returned (.bool m) ∧ Below w.heap.size w w'
  rmay : ∀ w, Calls Try.prog 21 #[.agg #[.int .i64 k, .int .i64 n, .string s]] w fun e w' => e = .returned (.bool m) ∧ Below w.heap.size w w'
  words : ∀ w, Calls Try.prog 22 #[.agg #[.int .i64 k, .int .i64 n, .string s]] w fun e w' => e = .returned (.bool wd) ∧ Below w.heap.size w w'
  rwords : ∀ w, Calls Try.prog 23 #[.agg #[.int .i64 k, .int .i64 n, .string s]] w fun e w' => e = .returned (.bool wd) ∧ Below w.heap.size w w'
  put : ∀ w, Calls Try.prog 15 #[.agg #[.int .i64 k, .int .i64 n, .string s]] w fun e w' => e = .returned (.string (str p)) ∧ Below w.heap.size w w'
  rput : ∀ w, Calls Try.prog 19 #[.agg #[.int .i64 k, .int .i64 n, .string s]] w fun e w' => e = .returned (.string (str p)) ∧ Below w.heap.size w w'
/-- the law on its way: the value's box, the reader, the taken value's box -/
structure LS (w : World) (gx g gy : Nat) (a b c a' b' c' : Value) (l : List UInt8) (er : Int) (W : World) : Prop where
  x : W.heap[gx]? = some (.cells #[a, b, c] 37 (0, 0))
  rd : code.RdAt W g l er
  y : W.heap[gy]? = some (.cells #[a', b', c'] 37 (0, 0))
  bel : Below w.heap.size w W
namespace LS
variable {w W W' : World} {gx g gy : Nat} {a b c a' b' c' : Value} {l : List UInt8} {er : Int}
theorem below (h : LS w gx g gy a b c a' b' c' l er W) (k : Below W.heap.size W W') : LS w gx g gy a b c a' b' c' l er W' :=
  ⟨(k.block _ (block_lt h.x)).trans h.x, h.rd.below k, (k.block _ (block_lt h.y)).trans h.y, belowCont h.bel k⟩
theorem drew (h : LS w gx g gy a b c a' b' c' l er W) : LS w gx g gy a b c a' b' c' l er W.drew := ⟨h.x, h.rd, h.y, h.bel.drew⟩
theorem cx (h : LS w gx g gy a b c a' b' c' l er W) : W.cell? ⟨gx, 0, none⟩ = some a ∧ W.cell? ⟨gx, 1, none⟩ = some b ∧ W.cell? ⟨gx, 2, none⟩ = some c :=
  ⟨cell_of_row _ _ 0 _ _ _ h.x, cell_of_row _ _ 1 _ _ _ h.x, cell_of_row _ _ 2 _ _ _ h.x⟩
theorem cy (h : LS w gx g gy a b c a' b' c' l er W) : W.cell? ⟨gy, 0, none⟩ = some a' ∧ W.cell? ⟨gy, 1, none⟩ = some b' ∧ W.cell? ⟨gy, 2, none⟩ = some c' :=
  ⟨cell_of_row _ _ 0 _ _ _ h.y, cell_of_row _ _ 1 _ _ _ h.y, cell_of_row _ _ 2 _ _ _ h.y⟩
theorem all (h : LS w gx g gy a b c a' b' c' l er W) : LS w gx g gy a b c a' b' c' l er W ∧ W.cell? ⟨gx, 0, none⟩ = some a ∧ W.cell? ⟨gx, 1, none⟩ = some b ∧ W.cell? ⟨gx, 2, none⟩ = some c := ⟨h, h.cx⟩
theorem next (h : LS w gx g gy a b c a' b' c' l er W) (k : Below W.heap.size W W') : LS w gx g gy a b c a' b' c' l er W' ∧ W'.cell? ⟨gx, 0, none⟩ = some a ∧ W'.cell? ⟨gx, 1, none⟩ = some b ∧ W'.cell? ⟨gx, 2, none⟩ = some c := (h.below k).all
end LS
set_option maxHeartbeats 8000000 in
theorem puts_true (v0 v1 : Int) (v2 : ByteArray) (long k n : Int) (s : ByteArray) (wd : Bool) (p : List UInt8) (hk3 : (k == 3) = false) (hp : p ≠ []) (hpl : p.length ≤ 3000)
    (hnear : ∀ w, Calls Try.prog 14 #[.agg #[.int .i64 v0, .int .i64 v1, .string v2]] w fun e w' => e = .returned (.agg #[.int .i64 k, .int .i64 n, .string s]) ∧ Below w.heap.size w w')
    (hT : Told k n s true wd p)
    (htake : ∀ (w : World) (g : Nat), code.RdAt w g p 0 → Calls Try.prog 17 #[.pointer (some ⟨g, 0, none⟩)] w fun e w' => e = .returned (.agg #[.int .i64 k, .int .i64 n, .string s]) ∧ code.RdAt w' g [] 0 ∧ Keeps [g] w w') (w : World) :
    Calls Try.prog 4 #[.agg #[.int .i64 v0, .int .i64 v1, .string v2], .int .i64 long] w fun e w' => e = .returned (.bool true) ∧ Below w.heap.size w w' := by
  obtain ⟨hmay, hrmay, hwords, hrwords, hput, hrput⟩ := hT
  have hsame := fun w => same_any k n s w
  have hread : ∀ w', Calls Try.prog 16 #[.string (str p)] w' fun e w2 => e = .returned (.pointer (some ⟨w'.heap.size, 0, none⟩)) ∧ code.RdAt w2 w'.heap.size p 0 ∧ Below w'.heap.size w' w2 := fun w' => code.read_any (str p) w'
  have hpe : ((str p).toList == (⟨#[]⟩ : ByteArray).toList) = false := by
    rw [str_bl]
    cases p with
    | nil => exact absurd rfl hp
    | cons a l => simp [ByteArray.toList_eq]
  have hpe1 : ¬ (str p).toList = [] := by rw [str_bl]; exact hp
  have hpe2 : (str p).toList.isEmpty = false := by
    rw [str_bl]
    cases p with
    | nil => exact absurd rfl hp
    | cons a l => rfl
  have hpe3 : ((str p).toList == []) = false := by
    rw [str_bl]
    cases p with
    | nil => exact absurd rfl hp
    | cons a l => rfl
  have hpp : ((str p).toList == (str p).toList) = true := by simp
  have hpq : ((str p).toList != (str p).toList) = false := by simp
  have hss : (s.toList == s.toList) = true := by simp
  have hz : (str p).size ≤ 3000 := by rw [str_size]; exact hpl
  generalize str p = P at hread hput hrput hpe hpe1 hpe2 hpe3 hpp hpq hz
  clear hp hpl
  replace hnear := Lib.hid hnear; replace hmay := Lib.hid hmay; replace hrmay := Lib.hid hrmay; replace hwords := Lib.hid hwords; replace hrwords := Lib.hid hrwords; replace hput := Lib.hid hput; replace hrput := Lib.hid hrput; replace htake := Lib.hid htake; replace hsame := Lib.hid hsame; replace hread := Lib.hid hread
  go_enter Try.func4, Try.ntmps4
  go_upto_region 7 with (first
    | (go_at_call 14; (with_reducible refine (hnear.out _).mono ?_); rintro e w1 ⟨rfl, b1⟩; have b2 := Lib.hid (box3 b1).2.2.2; clear b1)
    | (go_at_call 15; (with_reducible refine (hput.out _).mono ?_); rintro e w2 ⟨rfl, b3⟩; have hX := (boxRow b3).1; have hlt1 := Lib.hid (block_lt hX); have b4 := Lib.hid ((b2.out.alloc b2.out.size _).trans (b3.mono (b2.out.alloc b2.out.size _).size)); replace hX := Lib.hid hX; clear b3 b2)
    | (go_at_call 16; (with_reducible refine (hread.out _).mono ?_); rintro e w3 ⟨rfl, r3, b5⟩; replace hX := Lib.hid ((b5.block _ (block_lt hX.out)).trans hX.out); have b6 := Lib.hid (belowCont b4.out b5); replace r3 := Lib.hid r3; clear b5)
    | (go_at_call 17; (with_reducible refine (htake.out _ _ r3.out).mono ?_); rintro e w4 ⟨rfl, r4, k4⟩; replace r4 := Lib.hid r4; replace k4 := Lib.hid k4))
  have ls : LS w w1.heap.size w2.heap.size w4.heap.size (.int .i64 k) (.int .i64 n) (.string s) (.int .i64 k) (.int .i64 n) (.string s) [] 0 (w4.alloc (.cells #[.int .i64 k, .int .i64 n, .string s] 37)) := by
    have h4 := k4.out
    have h1 := hlt1.out
    have hx4 := (h4.block _ (block_lt hX.out) (by simp; omega)).trans hX.out
    have hb4 := b6.out.trans (h4.below b6.out.size (by simp; exact b4.out.size))
    exact ⟨(Below.heap_alloc w4 _ _ (block_lt hx4)).trans hx4, r4.out.below ((Below.refl _ _).alloc (Nat.le_refl _) _), heap_alloc_new w4 _, hb4.alloc hb4.size _⟩
  clear hX b4 b6 r3 r4 k4 hlt1 hnear hread htake hput
  generalize w4.alloc (.cells #[.int .i64 k, .int .i64 n, .string s] 37) = W at ls ⊢
  generalize w1.heap.size = gx at ls ⊢
  generalize w2.heap.size = g at ls ⊢
  generalize w4.heap.size = gy at ls ⊢
  clear w1 w2 w3 w4
  replace ls := Lib.hid ls
  go_region_held3 (fun w' => LS w gx g gy (.int .i64 k) (.int .i64 n) (.string s) (.int .i64 k) (.int .i64 n) (.string s) [] 0 w' ∧ w'.cell? ⟨gx, 0, none⟩ = some (.int .i64 k) ∧ w'.cell? ⟨gx, 1, none⟩ = some (.int .i64 n) ∧ w'.cell? ⟨gx, 2, none⟩ = some (.string s))
    (first
    | exact ls.out.drew.all
    | (go_split_ands; exact ⟨by assumption, by assumption, by assumption, by assumption⟩)
    | (go_split_ands; exact LS.next (by assumption) (by assumption)))
    (first
      | (go_at_call 18; (with_reducible refine (awake_any _).mono ?_); rintro e w1 ⟨rfl, hb⟩)
      | (go_at_call 19; (with_reducible refine (hrput.out _).mono ?_); rintro e w1 ⟨rfl, hb⟩)
      | (go_at_call 20; (with_reducible refine (hmay.out _).mono ?_); rintro e w1 ⟨rfl, hb⟩)
      | (go_at_call 21; (with_reducible refine (hrmay.out _).mono ?_); rintro e w1 ⟨rfl, hb⟩)
      | (go_at_call 22; (with_reducible refine (hwords.out _).mono ?_); rintro e w1 ⟨rfl, hb⟩)
      | (go_at_call 23; (with_reducible refine (hrwords.out _).mono ?_); rintro e w1 ⟨rfl, hb⟩))
  all_goals (obtain ⟨lt, c0, c1, c2⟩ := ‹LS _ _ _ _ _ _ _ _ _ _ _ _ _ ∧ _›)
  all_goals (obtain ⟨d0, d1, d2⟩ := lt.cy)
  all_goals (replace lt := Lib.hid lt)
  all_goals (go_wp2_with (first
    | (go_at_call 24; (with_reducible refine (end_ok lt.out.rd).mono ?_); rintro e w5 ⟨rfl, b5⟩; replace lt := Lib.hid (lt.out.below b5); clear b5; obtain ⟨c0, c1, c2⟩ := lt.out.cx; obtain ⟨d0, d1, d2⟩ := lt.out.cy)
    | (go_at_call 25; (with_reducible refine (hsame.out _).mono ?_); rintro e w6 ⟨rfl, b6⟩; replace b6 := Lib.hid b6)))
  all_goals go_ret
  all_goals exact ⟨rfl, belowCont lt.out.bel b6.out⟩
end Go.Proofs.Ytebhdlecekjhgaa.value
