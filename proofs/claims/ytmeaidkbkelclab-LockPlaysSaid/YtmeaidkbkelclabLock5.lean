/- What sessions hold: Who. No condition but the table's own. -/
import Derived.Test.YtmeaidkbkelclabLock2
namespace Go.Proofs.Ytmeaidkbkelclab.lock
open Go.RowKit
attribute [local go_sem ↓] Go.wp_at_zero Go.wp_at_succ
attribute [local go_sem] str_size
set_option linter.unusedVariables false
set_option maxRecDepth 100000

theorem who_nil (s : ByteArray) (w : World) : Calls Try.prog 26 #[.pointer none, .string s] w fun e w' => e = .returned (.tuple #[.slice none 0 0, .bool false]) ∧ Below w.heap.size w w' := by
  go_enter Try.func26, Try.ntmps26
  go_wp2
  go_ret2
  exact ⟨rfl, by go_grown⟩
/-- who holds a thing; whether alone -/
def whoK (f : Nat → Nat) (k : Nat) : List Nat := (List.range k).filter fun o => decide (f o ≠ 0)
def oneK (f : Nat → Nat) (k : Nat) : Bool := (List.range k).any fun o => decide (f o = 2)
theorem whoK_succ (f : Nat → Nat) (k : Nat) : whoK f (k + 1) = whoK f k ++ if f k ≠ 0 then [k] else [] := by
  unfold whoK
  rw [List.range_succ, List.filter_append]
  congr 1
  by_cases h : f k = 0 <;> simp [h]
theorem oneK_succ (f : Nat → Nat) (k : Nat) : oneK f (k + 1) = (oneK f k || decide (f k = 2)) := by
  unfold oneK
  rw [List.range_succ, List.any_append]; simp
theorem whoK_len (f : Nat → Nat) (k : Nat) : (whoK f k).length ≤ k := Nat.le_trans (List.length_filter_le _ _) (by simp)
section
variable {w w' : World} {g m N : Nat} {T : List UInt8 → Nat → Nat} {held : Nat → Nat} {things : Nat}
theorem who_any (h : LockAt w g m N T held things) (k : List UInt8) (hk : k.length ≤ 1000000000) :
    Calls Try.prog 26 #[.pointer (some ⟨g, 0, none⟩), .string (str k)] w fun e w' => ∃ v, e = .returned (.tuple #[v, .bool (oneK (T k) 16)]) ∧ Hp w [] [.row 3 1 v (whoK (T k) 16).length (ints (whoK (T k) 16))] w' := by
  have c0 := h.cell0
  have l0 := h.look k hk
  unfold holdV at l0
  have hix := fun i (hi : i < 16) w => run_index_hold (T k) i hi w
  obtain ⟨f, hf⟩ : ∃ f, f = T k := ⟨_, rfl⟩
  rw [← hf] at l0 hix ⊢
  generalize (cells16 f).toArray = C at l0 hix
  have hp := Lib.hid ((Hp.none_ w []).rowNil 3 1)
  replace hix := Lib.hid hix
  clear h hf
  go_enter Try.func26, Try.ntmps26
  go_wp2
  go_loopw [6, 7, 18] (fun s6 s7 s18 wr => ∃ (i : Nat) (ad : Option Addr) (cp : Nat), s18 = .int .i64 (i : Int) ∧ i ≤ 16 ∧ s6 = .slice ad (whoK f i).length cp ∧ s7 = .bool (oneK f i) ∧ Hp w [] [.row 3 1 (.slice ad (whoK f i).length cp) (whoK f i).length (ints (whoK f i))] wr) (fun _ _ s18 _ => 16 - (intOf s18).toNat)
  case atStart => exact ⟨0, none, 0, rfl, by omega, rfl, rfl, hp.out⟩
  case round =>
    clear hp c0 l0
    obtain ⟨i, ad, cp, rfl, hi, rfl, rfl, hp⟩ := hrel
    have hws := whoK_succ f i
    have hos := oneK_succ f i
    have hlen := whoK_len f i
    replace hlen := Lib.hid hlen
    by_cases hlt : i < 16
    · have i1 : (i : Int) < 16 := by omega
      have hx := hix.out i hlt
      replace hp := Lib.hid hp
      obtain ⟨b, hb⟩ : ∃ b, b = oneK f i := ⟨_, rfl⟩
      rw [← hb] at hos ⊢
      by_cases h0 : f i = 0
      · have t0 : ((f i : Int) != 0) = false := by simpa using (by omega : (f i : Int) = 0)
        rw [if_neg (by simpa using h0), List.append_nil] at hws
        rw [decide_eq_false (by omega), Bool.or_false] at hos
        replace hws := Lib.hid hws; replace hos := Lib.hid hos; replace hb := Lib.hid hb
        clear h0
        go_wp2
        go_roundw
        case rel => exact ⟨i + 1, ad, cp, by go_num, by omega, by rw [hws.out], by rw [hos.out], by rw [hws.out]; exact hp.out⟩
        case measure => simp [intOf]; omega
      · have t0 : ((f i : Int) != 0) = true := by simpa using (by omega : (f i : Int) ≠ 0)
        rw [if_pos h0] at hws
        obtain ⟨z, hz⟩ : ∃ z, z = decide (f i = 2) := ⟨_, rfl⟩
        have t1 : ((f i : Int) == 2) = z := by rw [hz, Bool.eq_iff_iff]; simp; omega
        rw [← hz] at hos
        replace hws := Lib.hid hws; replace hos := Lib.hid hos; replace hb := Lib.hid hb
        clear h0 hz
        cases b with
        | true =>
          go_wp2_with (at_builtin; go_loud (refine wpList_append_hp rfl _ _ rfl Try.underlying51 intsInfo rfl (by decide) (by decide) (hp.out.alloc_ (.cells #[.int .i64 (i : Int)] 3)) 0 rfl rfl _ _ [.int .i64 (i : Int)] rfl rfl (block_cells (heap_alloc_new _ _)) (by intro u hu; simp at hu; subst hu; rfl) (by have := hlen.out; omega) ?_; intro v5 w5 hp5 hv5; replace hp5 := Lib.hid hp5; obtain ⟨b5, cp5, rfl⟩ := hv5))
          go_roundw
          case rel => exact ⟨i + 1, some ⟨b5, 0, none⟩, cp5, by go_num, by omega, by rw [hws.out, List.length_append]; rfl, by rw [hos.out]; rfl, by have := hp5.out; rw [hws.out, List.length_append, ints_snoc]; exact this⟩
          case measure => simp [intOf]; omega
        | false =>
          go_wp2_with (at_builtin; go_loud (refine wpList_append_hp rfl _ _ rfl Try.underlying51 intsInfo rfl (by decide) (by decide) (hp.out.alloc_ (.cells #[.int .i64 (i : Int)] 3)) 0 rfl rfl _ _ [.int .i64 (i : Int)] rfl rfl (block_cells (heap_alloc_new _ _)) (by intro u hu; simp at hu; subst hu; rfl) (by have := hlen.out; omega) ?_; intro v5 w5 hp5 hv5; replace hp5 := Lib.hid hp5; obtain ⟨b5, cp5, rfl⟩ := hv5))
          go_roundw
          case rel => exact ⟨i + 1, some ⟨b5, 0, none⟩, cp5, by go_num, by omega, by rw [hws.out, List.length_append]; rfl, by rw [hos.out]; rfl, by have := hp5.out; rw [hws.out, List.length_append, ints_snoc]; exact this⟩
          case measure => simp [intOf]; omega
    · obtain rfl : i = 16 := by omega
      replace hp := Lib.hid hp
      go_wp2
      go_ret2
      exact ⟨_, rfl, hp.out⟩
end
end Go.Proofs.Ytmeaidkbkelclab.lock
