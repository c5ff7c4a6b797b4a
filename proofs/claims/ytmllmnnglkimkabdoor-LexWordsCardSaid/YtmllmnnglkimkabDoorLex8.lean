/- A text in quotes is one word that says it, if it has no byte below 32: the law LexTexts. The table of marks is a premise. No other condition. -/
import Derived.Test.YtmllmnnglkimkabDoorLex7
import Derived.Laws.StructEq
namespace Go.Proofs.YtmllmnnglkimkabDoor.lex
open Go.RowKit
attribute [local go_sem ↓] Go.wp_at_zero Go.wp_at_succ
attribute [local go_sem] str_size
set_option linter.unusedVariables false
set_option maxRecDepth 100000

theorem cut_min (s : ByteArray) (k : Nat) : s.extract 0 (min (s.size : Int) k).toNat = str (s.data.toList.take k) := by
  by_cases h : s.size ≤ k
  · rw [show (min (s.size : Int) (k : Int)).toNat = s.size by omega]
    exact cut_whole s k h
  · rw [show (min (s.size : Int) (k : Int)).toNat = k by omega]
    exact cut_text s k
def plainB (l : List UInt8) : Bool := l.all fun c => decide (32 ≤ c.toNat)
theorem plain_take (l : List UInt8) (i : Nat) (c : UInt8) (h : l[i]? = some c) : plainB (l.take (i + 1)) = (plainB (l.take i) && decide (32 ≤ c.toNat)) := by
  unfold plainB; rw [List.take_add_one, h]; simp
theorem plain_yes (l : List UInt8) (h : plainB l = true) : ∀ c ∈ l, 32 ≤ c.toNat := by
  intro c hc; unfold plainB at h; simpa using List.all_eq_true.1 h c hc
theorem plain_no (l : List UInt8) (h : plainB l = false) : ∃ c ∈ l, c.toNat < 32 := by
  unfold plainB at h
  obtain ⟨c, hc, h2⟩ := List.all_eq_false.1 h
  exact ⟨c, hc, by simpa using h2⟩
theorem lexText_len (l : List UInt8) : (lexText l).length ≤ 2 * l.length + 2 := by
  have := escL_len l
  simp [lexText]; omega
def TwoAt (w : World) (b : Nat) (T : ByteArray) (z : Nat) : Prop := b < w.heap.size ∧ w.cell? ⟨b, 0, none⟩ = some (.int .i64 3) ∧ w.cell? ⟨b, 1, none⟩ = some (.string T) ∧ w.cell? ⟨b, 2, none⟩ = some (.int .i64 0) ∧ w.cell? ⟨b, 3, none⟩ = some (.int .i64 0) ∧ w.cell? ⟨b, 7, none⟩ = some (.int .i64 (z : Int))
theorem TwoAt.below {w w' : World} {b : Nat} {T : ByteArray} {z : Nat} (h : TwoAt w b T z) (k : Below w.heap.size w w') : TwoAt w' b T z :=
  ⟨Nat.lt_of_lt_of_le h.1 k.size, (k.cell h.1).trans h.2.1, (k.cell h.1).trans h.2.2.1, (k.cell h.1).trans h.2.2.2.1, (k.cell h.1).trans h.2.2.2.2.1, (k.cell h.1).trans h.2.2.2.2.2⟩
set_option maxHeartbeats 4000000 in
theorem lexTexts_walk (a0 : ByteArray) (w : World) (w0 : a0.size ≤ maxLen) (hM : MarksAt w) :
    Calls Tryd.prog 4 #[.string a0] w fun e w' => e = .returned (.bool true) ∧ Below w.heap.size w w' := by
  have ht : a0.extract 0 (min (a0.size : Int) 400).toNat = str (a0.data.toList.take 400) := cut_min a0 400
  obtain ⟨t, ht0⟩ : ∃ k, k = a0.data.toList.take 400 := ⟨_, rfl⟩
  have htl : t.length ≤ 400 := by rw [ht0, List.length_take]; omega
  rw [← ht0] at ht
  have b1 : (0 : Int) ≤ min (a0.size : Int) 400 := by omega
  have b2 : min (a0.size : Int) 400 ≤ (a0.size : Int) := by omega
  clear w0 ht0
  replace htl := Lib.hid htl; replace hM := Lib.hid hM
  go_enter Tryd.func4, Tryd.ntmps4
  go_wp2
  go_loopg [4, 5] t.length (fun gn s4 s5 wr => ∃ i : Nat, s5 = .int .i64 (i : Int) ∧ i + gn = t.length ∧ s4 = .bool (plainB (t.take i)) ∧ wr = w)
  case atStart => exact ⟨0, rfl, by omega, rfl, rfl⟩
  case round =>
    obtain ⟨i, rfl, hi, rfl, rfl⟩ := hrel
    by_cases hk : gk = 0
    · subst hk
      obtain rfl : i = t.length := by omega
      rw [List.take_length]
      have hlt : ¬ ((t.length : Int) < (t.length : Int)) := by omega
      have hql := lexText_len t
      have cq := fun w' => quote_any t (by have := htl.out; omega) w'
      have crq := fun w' => rquote_any t (by have := htl.out; omega) w'
      have cw0 := fun w' hM' => words_any (lexText t) (by have := htl.out; omega) w' hM'
      obtain ⟨z, hz⟩ : ∃ z, z = (lexText t).length := ⟨_, rfl⟩
      obtain ⟨Q, hQ⟩ : ∃ Q, Q = str (lexText t) := ⟨_, rfl⟩
      have hQz : Q.size = z := by rw [hQ, str_size, hz]
      rw [← hQ] at cq crq cw0
      have hse : (Q.toList == Q.toList) = true := by simp
      have hbb := Lib.hid (Below.refl wr.heap.size wr)
      cases hp : plainB t
      · have cw : ∀ w', MarksAt w' → Calls Tryd.prog 10 #[.string Q] w' fun e w2 => e = .returned (.tuple #[.slice none 0 0, .int .i64 0, .int .i64 320]) ∧ Below w'.heap.size w' w2 := fun w' hM' => (cw0 w' hM').mono fun e w2 h => by
          rw [words_textNot t (plain_no t hp)] at h
          exact ⟨h.2, h.1⟩
        clear cw0 hi hp hql hz hQ
        replace cw := Lib.hid cw; replace cq := Lib.hid cq; replace crq := Lib.hid crq
        go_wp2_with (first
          | (go_at_call 12; (with_reducible refine (cq.out _).mono ?_); rintro e w1 ⟨rfl, b1⟩; replace hbb := Lib.hid (belowCont hbb.out b1); clear b1)
          | (go_at_call 10; (with_reducible refine (cw.out _ (hM.out.keep hbb.out)).mono ?_); rintro e w1 ⟨rfl, b1⟩; replace hbb := Lib.hid (belowCont hbb.out b1); clear b1)
          | (go_at_call 13; (with_reducible refine (crq.out _).mono ?_); rintro e w1 ⟨rfl, b1⟩; replace hbb := Lib.hid (belowCont hbb.out b1); clear b1)
          | (go_at_call 11; (with_reducible refine (awake_any _ (hM.out.keep hbb.out)).mono ?_); rintro e w1 ⟨rfl, b1⟩; replace hbb := Lib.hid (belowCont hbb.out b1); clear b1))
        go_ret
        exact ⟨rfl, hbb.out⟩
      · obtain ⟨T, hT⟩ : ∃ T, T = str t := ⟨_, rfl⟩
        have hst : (T.toList == T.toList) = true := by simp
        have cw : ∀ w', MarksAt w' → Calls Tryd.prog 10 #[.string Q] w' fun e w2 => ∃ b cap, e = .returned (.tuple #[.slice (some ⟨b, 0, none⟩) 2 cap, .int .i64 0, .int .i64 0]) ∧ TwoAt w2 b T z ∧ Below w'.heap.size w' w2 := fun w' hM' => (cw0 w' hM').mono fun e w2 h => by
          rw [words_text t (plain_yes t hp)] at h
          obtain ⟨hb, v, he, hr, _⟩ := h
          obtain ⟨b, cap, rfl, _, hlt, hc⟩ := hr.open (by simp)
          rw [hT, hz]
          exact ⟨b, cap, he, ⟨hlt, hc 0 _ rfl, hc 1 _ rfl, hc 2 _ rfl, hc 3 _ rfl, hc 7 _ rfl⟩, hb⟩
        rw [← hT] at ht
        have hTz : T.size = t.length := by rw [hT, str_size]
        have htt : str t = T := hT.symm
        clear cw0 hi hp hql hz hQ hT
        replace cw := Lib.hid cw; replace cq := Lib.hid cq; replace crq := Lib.hid crq
        rw [htt] at cq crq
        go_wp2_with (first
          | (go_at_call 12; (try rw [htt]); (with_reducible refine (cq.out _).mono ?_); rintro e w1 ⟨rfl, b1⟩; replace hbb := Lib.hid (belowCont hbb.out b1); clear b1)
          | (go_at_call 10; (with_reducible refine (cw.out _ (hM.out.keep hbb.out)).mono ?_); rintro e w1 ⟨b, cap, rfl, hcs, b1⟩; replace hbb := Lib.hid (belowCont hbb.out b1); clear b1; replace hcs := Lib.hid hcs)
          | (go_at_call 13; (try rw [htt]); (with_reducible refine (crq.out _).mono ?_); rintro e w1 ⟨rfl, b1⟩; replace hbb := Lib.hid (belowCont hbb.out b1); replace hcs := Lib.hid (hcs.out.below b1); clear b1; obtain ⟨_, d0, d1, d2, d3, d7⟩ := hcs.out)
          | (go_at_call 11; (with_reducible refine (awake_any _ (hM.out.keep hbb.out)).mono ?_); rintro e w1 ⟨rfl, b1⟩; replace hbb := Lib.hid (belowCont hbb.out b1); replace hcs := Lib.hid (hcs.out.below b1); clear b1))
        go_ret
        exact ⟨rfl, hbb.out⟩
    · obtain ⟨K, rfl⟩ : ∃ K : Nat, gk = K + 1 := ⟨gk - 1, by omega⟩
      have hil : i < t.length := by omega
      obtain ⟨c, hc⟩ : ∃ c, t[i]? = some c := ⟨_, List.getElem?_eq_getElem hil⟩
      have i0 : (0 : Int) ≤ (i : Int) := by omega
      have i1 : (i : Int) < (t.length : Int) := by omega
      have i3 : IntKind.i64.wrap ((i : Int) + 1) = (i : Int) + 1 := by have := htl.out; rw [IntKind.wrap_i64]; omega
      have hpt := plain_take t i c hc
      obtain ⟨m, hm⟩ : ∃ m, m = c.toNat := ⟨_, rfl⟩
      have hg : ∀ h : i < (str t).size, (((str t)[i]'h).toNat : Int) = (m : Int) := fun h => by rw [at_str t i c hc h, hm]
      rw [← hm] at hpt
      clear hk hc hil hm
      replace hi := Lib.hid hi
      cases hp : plainB (t.take i)
      · rw [hp] at hpt
        replace hpt := Lib.hid hpt
        clear hp
        go_wp2
        go_roundg K
        case measure => omega
        case rel => exact ⟨i + 1, by go_num, by have := hi.out; omega, by rw [hpt.out]; rfl, rfl⟩
      · rw [hp] at hpt
        by_cases h32 : 32 ≤ m
        · have q32 : (32 : Int) ≤ (m : Int) := by omega
          have e : plainB (t.take (i + 1)) = true := by rw [hpt]; simpa using h32
          replace e := Lib.hid e
          clear hp hpt h32
          go_wp2
          go_roundg K
          case measure => omega
          case rel => exact ⟨i + 1, by go_num, by have := hi.out; omega, by rw [e.out], rfl⟩
        · have q32 : ¬ (32 : Int) ≤ (m : Int) := by omega
          have q33 : decide ((32 : Int) ≤ (m : Int)) = false := by simpa using q32
          have e : plainB (t.take (i + 1)) = false := by rw [hpt]; simpa using h32
          replace e := Lib.hid e
          clear hp hpt h32
          go_wp2
          go_roundg K
          case measure => omega
          case rel => exact ⟨i + 1, by go_num, by have := hi.out; omega, by rw [e.out], rfl⟩
end Go.Proofs.YtmllmnnglkimkabDoor.lex
