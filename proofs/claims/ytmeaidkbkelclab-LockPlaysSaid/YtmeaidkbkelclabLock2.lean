/- What sessions hold: who is against one that wants a thing. No condition but the table's own. -/
import Derived.Test.YtmeaidkbkelclabLock
import Derived.Laws.Rows
import Derived.Laws.Tables
namespace Go.Proofs.Ytmeaidkbkelclab.lock
open Go.RowKit
attribute [local go_sem ↓] Go.wp_at_zero Go.wp_at_succ
attribute [local go_sem] str_size
set_option linter.unusedVariables false
set_option maxRecDepth 100000

def ints (l : List Nat) : List Value := l.map fun (n : Nat) => Value.int .i64 (n : Int)
theorem ints_len (l : List Nat) : (ints l).length = l.length := by simp [ints]
theorem ints_snoc (l : List Nat) (n : Nat) : ints (l ++ [n]) = ints l ++ [Value.int .i64 (n : Int)] := by simp [ints]
theorem intsInfo : (Try.prog.info? 3).map (fun i => (i.zero, i.size, i.bytes)) = some (some (.int .i64 0), 1, 8) := by kernel_rfl
/-- those against one -/
def isAg (f : Nat → Nat) (who : Nat) (al : Bool) (o : Nat) : Bool := decide (o ≠ who) && (decide (f o = 2) || (decide (f o = 1) && al))
def agK (f : Nat → Nat) (who : Nat) (al : Bool) (k : Nat) : List Nat := (List.range k).filter (isAg f who al)
theorem agK_succ (f : Nat → Nat) (who : Nat) (al : Bool) (k : Nat) : agK f who al (k + 1) = agK f who al k ++ if isAg f who al k then [k] else [] := by
  unfold agK
  rw [List.range_succ, List.filter_append]
  congr 1
  cases h : isAg f who al k <;> simp [h]
theorem agK_len (f : Nat → Nat) (who : Nat) (al : Bool) (k : Nat) : (agK f who al k).length ≤ k := Nat.le_trans (List.length_filter_le _ _) (by simp)
theorem run_index_hold (f : Nat → Nat) (i : Nat) (hi : i < 16) (w : World) : (Instr.index 73 (.agg (cells16 f).toArray) (.int .i64 (i : Int))).run Try.prog w = .ok (.int .i64 (f i : Int)) w := by
  have hv : (cells16 f).toArray[i]? = some (.int .i64 (f i : Int)) := by simpa using cells16_at f hi
  have hs : (cells16 f).toArray.size = 16 := by simp [cells16_len]
  generalize (cells16 f).toArray = cs at *
  have h1 : (0 : Int) ≤ (i : Int) ∧ (i : Int) < ((16 : Nat) : Int) := by omega
  simp [Instr.index, run_underlying Try.underlying73, asIntOf, h1, go_sem]
  rw [if_pos hi, hv]
  rfl
theorem against_any (f : Nat → Nat) (who : Nat) (al : Bool) (s : ByteArray) (w : World) : Calls Try.prog 25 #[holdV f, .int .i64 (who : Int), .agg #[.string s, .bool al]] w fun e w' => ∃ v, e = .returned v ∧ Hp w [] [.row 3 1 v (agK f who al 16).length (ints (agK f who al 16))] w' := by
  unfold holdV
  have hp := ((Hp.none_ w []).alloc (cells16 f).toArray 73).alloc #[.string s, .bool al] 56
  rw [show (w.alloc (.cells (cells16 f).toArray 73)).heap.size = w.heap.size + 1 by simp] at hp
  have hb0 := hp.box (i := 1) rfl
  have hc1 := hp.cell (i := 0) rfl 1
  have hs16 : (cells16 f).toArray.size = 16 := by simp [cells16_len]
  have hi16 : (Try.prog.info? 73).map (·.size) = some 16 := by kernel_rfl
  obtain ⟨C, hC⟩ : ∃ C, C = (cells16 f).toArray := ⟨_, rfl⟩
  have hix := fun i (hi : i < 16) w => run_index_hold f i hi w
  rw [← hC] at hp hb0 hs16 hix ⊢
  replace hp := Lib.hid (hp.rowNil 3 1); replace hb0 := Lib.hid hb0; replace hs16 := Lib.hid hs16; replace hi16 := Lib.hid hi16; replace hix := Lib.hid hix; replace hC := Lib.hid hC
  simp at hc1
  go_enter Try.func25, Try.ntmps25
  go_wp2_with (refine wpList_load_row rfl 73 (.tmp 3) rfl w.heap.size rfl 73 C (0, 0) _ hb0.out Try.underlying73 rfl (by rw [hs16.out]; exact hi16.out) ?_)
  go_loopw [7, 11] (fun s7 s11 wr => ∃ (k : Nat) (ad : Option Addr) (cp : Nat), s11 = .int .i64 (k : Int) ∧ k ≤ 16 ∧ s7 = .slice ad (agK f who al k).length cp ∧ Hp w [] [.row 3 1 (.slice ad (agK f who al k).length cp) (agK f who al k).length (ints (agK f who al k)), .box (w.heap.size + 1) #[.string s, .bool al] 56, .box w.heap.size C 73] wr) (fun _ s11 _ => 16 - (intOf s11).toNat)
  case atStart => exact ⟨0, none, 0, rfl, by omega, rfl, hp.out⟩
  case round =>
    clear hp hc1
    obtain ⟨k, ad, cp, rfl, hk, rfl, hp⟩ := hrel
    have hstep := agK_succ f who al k
    have hlen := agK_len f who al k
    have c1 := hp.cell (i := 1) rfl 1
    simp at c1
    replace hlen := Lib.hid hlen
    by_cases hlt : k < 16
    · have i1 : (k : Int) < 16 := by omega
      have hi := hix.out k hlt
      have go : ∀ (b : Bool), isAg f who al k = b → True := fun _ _ => trivial
      clear go
      have hcase : (k = who ∧ isAg f who al k = false) ∨ (k ≠ who ∧ f k = 2 ∧ isAg f who al k = true) ∨ (k ≠ who ∧ f k = 1 ∧ al = true ∧ isAg f who al k = true) ∨ (k ≠ who ∧ f k = 1 ∧ al = false ∧ isAg f who al k = false) ∨ (k ≠ who ∧ f k ≠ 2 ∧ f k ≠ 1 ∧ isAg f who al k = false) := by
        unfold isAg
        by_cases h1 : k = who
        · left; exact ⟨h1, by simp [h1]⟩
        · right
          by_cases h2 : f k = 2
          · left; exact ⟨h1, h2, by simp [h1, h2]⟩
          · right
            by_cases h3 : f k = 1
            · cases al with
              | true => left; exact ⟨h1, h3, rfl, by simp [h1, h3]⟩
              | false => right; left; exact ⟨h1, h3, rfl, by simp [h3]⟩
            · right; right; exact ⟨h1, h2, h3, by simp [h2, h3]⟩
      replace hp := Lib.hid hp
      rcases hcase with ⟨g1, g2⟩ | ⟨g1, g3, g2⟩ | ⟨g1, g3, rfl, g2⟩ | ⟨g1, g3, rfl, g2⟩ | ⟨g1, g3, g4, g2⟩
      · rw [g2] at hstep
        simp only [Bool.false_eq_true, if_false, List.append_nil] at hstep
        have t1 : ((k : Int) != (who : Int)) = false := by simpa using (by omega : (k : Int) = (who : Int))
        replace hstep := Lib.hid hstep
        clear g1 g2
        go_wp2
        go_roundw
        case rel => exact ⟨k + 1, ad, cp, by go_num, by omega, by rw [hstep.out], by rw [hstep.out]; exact hp.out⟩
        case measure => simp [intOf]; omega
      · rw [g2] at hstep
        simp only [if_true] at hstep
        have t1 : ((k : Int) != (who : Int)) = true := by simpa using (by omega : (k : Int) ≠ (who : Int))
        have t2 : ((f k : Int) == 2) = true := by simpa using (by omega : (f k : Int) = 2)
        replace hstep := Lib.hid hstep
        clear g1 g2 g3
        go_wp2_with (at_builtin; go_loud (refine wpList_append_hp rfl _ _ rfl Try.underlying51 intsInfo rfl (by decide) (by decide) (hp.out.alloc_ (.cells #[.int .i64 (k : Int)] 3)) 0 rfl rfl _ _ [.int .i64 (k : Int)] rfl rfl (block_cells (heap_alloc_new _ _)) (by intro u hu; simp at hu; subst hu; rfl) (by have := hlen.out; omega) ?_; intro v5 w5 hp5 hv5; replace hp5 := Lib.hid hp5; obtain ⟨b5, cp5, rfl⟩ := hv5))
        go_roundw
        case rel => exact ⟨k + 1, some ⟨b5, 0, none⟩, cp5, by go_num, by omega, by rw [hstep.out, List.length_append]; rfl, by have := hp5.out; rw [hstep.out, List.length_append, ints_snoc]; exact this⟩
        case measure => simp [intOf]; omega
      · rw [g2] at hstep
        simp only [if_true] at hstep
        have t1 : ((k : Int) != (who : Int)) = true := by simpa using (by omega : (k : Int) ≠ (who : Int))
        have t2 : ((f k : Int) == 2) = false := by simpa using (by omega : (f k : Int) ≠ 2)
        have t3 : ((f k : Int) == 1) = true := by simpa using (by omega : (f k : Int) = 1)
        replace hstep := Lib.hid hstep
        clear g1 g2 g3
        go_wp2_with (at_builtin; go_loud (refine wpList_append_hp rfl _ _ rfl Try.underlying51 intsInfo rfl (by decide) (by decide) (hp.out.alloc_ (.cells #[.int .i64 (k : Int)] 3)) 0 rfl rfl _ _ [.int .i64 (k : Int)] rfl rfl (block_cells (heap_alloc_new _ _)) (by intro u hu; simp at hu; subst hu; rfl) (by have := hlen.out; omega) ?_; intro v5 w5 hp5 hv5; replace hp5 := Lib.hid hp5; obtain ⟨b5, cp5, rfl⟩ := hv5))
        go_roundw
        case rel => exact ⟨k + 1, some ⟨b5, 0, none⟩, cp5, by go_num, by omega, by rw [hstep.out, List.length_append]; rfl, by have := hp5.out; rw [hstep.out, List.length_append, ints_snoc]; exact this⟩
        case measure => simp [intOf]; omega
      · rw [g2] at hstep
        simp only [Bool.false_eq_true, if_false, List.append_nil] at hstep
        have t1 : ((k : Int) != (who : Int)) = true := by simpa using (by omega : (k : Int) ≠ (who : Int))
        have t2 : ((f k : Int) == 2) = false := by simpa using (by omega : (f k : Int) ≠ 2)
        have t3 : ((f k : Int) == 1) = true := by simpa using (by omega : (f k : Int) = 1)
        replace hstep := Lib.hid hstep
        clear g1 g2 g3
        go_wp2
        go_roundw
        case rel => exact ⟨k + 1, ad, cp, by go_num, by omega, by rw [hstep.out], by rw [hstep.out]; exact hp.out⟩
        case measure => simp [intOf]; omega
      · rw [g2] at hstep
        simp only [Bool.false_eq_true, if_false, List.append_nil] at hstep
        have t1 : ((k : Int) != (who : Int)) = true := by simpa using (by omega : (k : Int) ≠ (who : Int))
        have t2 : ((f k : Int) == 2) = false := by simpa using (by omega : (f k : Int) ≠ 2)
        have t3 : ((f k : Int) == 1) = false := by simpa using (by omega : (f k : Int) ≠ 1)
        replace hstep := Lib.hid hstep
        clear g1 g2 g3 g4
        go_wp2
        go_roundw
        case rel => exact ⟨k + 1, ad, cp, by go_num, by omega, by rw [hstep.out], by rw [hstep.out]; exact hp.out⟩
        case measure => simp [intOf]; omega
    · obtain rfl : k = 16 := by omega
      replace hp := Lib.hid hp
      go_wp2
      go_ret
      exact ⟨_, rfl, (hp.out.drop 2).drop 1⟩
end Go.Proofs.Ytmeaidkbkelclab.lock
