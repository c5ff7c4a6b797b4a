/- Names: which may be (names.May); where a text is among texts (slices.Index). No condition but the texts' cells. -/
import Derived.Test.YtgbkpkioijbgoaaDoorBytes2
import Derived.Test.YtgbkpkioijbgoaaDoorHp
import Derived.Laws.RangeAny
namespace Go.Proofs.YtgbkpkioijbgoaaDoor.names
open Go.RowKit
attribute [local go_sem ↓] Go.wp_at_zero Go.wp_at_succ
attribute [local go_sem] str_size str_bl
set_option linter.unusedVariables false
set_option maxRecDepth 100000

abbrev Nm := List UInt8
def nmC (l : List Nm) : List Value := l.map fun s => .string (str s)
theorem nmC_len (l : List Nm) : (nmC l).length = l.length := by simp [nmC]
theorem nmC_at (l : List Nm) (i : Nat) (s : Nm) (h : l[i]? = some s) : (nmC l)[i]? = some (.string (str s)) := by unfold nmC; rw [List.getElem?_map, h]; rfl
theorem nmC_one (l : List Nm) : ∀ u ∈ nmC l, u.oneCell' = true := fun u h => by
  unfold nmC at h
  obtain ⟨x, _, rfl⟩ := List.mem_map.1 h
  rfl
theorem nmC_append (a b : List Nm) : nmC (a ++ b) = nmC a ++ nmC b := by simp [nmC]
theorem at_str (l : List UInt8) (i : Nat) (b : UInt8) (hb : l[i]? = some b) : ∀ h : i < (str l).size, ((str l)[i]'h) = b := fun h => by
  obtain ⟨hi, he⟩ := List.getElem?_eq_some_iff.1 hb
  exact he
def okC (c : Nat) (first : Bool) : Bool := (decide (97 ≤ c) && decide (c ≤ 122)) || (decide (65 ≤ c) && decide (c ≤ 90)) || decide (c = 95) || ((decide (48 ≤ c) && decide (c ≤ 57)) && !first)
def okAt (s : Nm) (i : Nat) : Bool := okC (s.getD i 0).toNat (decide (i = 0))
def mayN (s : Nm) : Bool := decide (1 ≤ s.length) && decide (s.length ≤ 20) && (List.range s.length).all (okAt s)
theorem mayN_all {s : Nm} (h1 : 1 ≤ s.length) (h2 : s.length ≤ 20) (h : ∀ i, i < s.length → okAt s i = true) : mayN s = true := by
  unfold mayN
  simp only [Bool.and_eq_true, decide_eq_true_eq, List.all_eq_true, List.mem_range]
  exact ⟨⟨h1, h2⟩, h⟩
theorem mayN_no {s : Nm} (i : Nat) (hi : i < s.length) (h : okAt s i = false) : mayN s = false := by
  unfold mayN
  rw [Bool.eq_false_iff]
  intro h2
  simp only [Bool.and_eq_true, decide_eq_true_eq, List.all_eq_true, List.mem_range] at h2
  have := h2.2 i hi
  rw [h] at this; cases this
theorem mayN_len {s : Nm} (h : mayN s = true) : 1 ≤ s.length ∧ s.length ≤ 20 := by
  unfold mayN at h
  simp only [Bool.and_eq_true, decide_eq_true_eq] at h
  exact h.1
theorem mayN_len_no {s : Nm} (h : s.length < 1 ∨ 20 < s.length) : mayN s = false := by
  rw [Bool.eq_false_iff]
  intro h2
  have := mayN_len h2
  omega
theorem okC_high {c : Nat} (h : 128 ≤ c) (b : Bool) : okC c b = false := by
  unfold okC
  simp; omega
theorem letter_any (n : Nat) (b : Bool) (hn : n ≤ 2147483647) (w : World) : Calls Tryd.prog 117 #[.int .i32 (n : Int), .bool b] w fun e w' => e = .returned (.bool (okC n b)) ∧ w' = w := by
  obtain ⟨r, hr⟩ : ∃ r, r = okC n b := ⟨_, rfl⟩
  rw [← hr]
  unfold okC at hr
  have hcase : (n < 48) ∨ (48 ≤ n ∧ n ≤ 57) ∨ (58 ≤ n ∧ n ≤ 64) ∨ (65 ≤ n ∧ n ≤ 90) ∨ (91 ≤ n ∧ n ≤ 94) ∨ (n = 95) ∨ (n = 96) ∨ (97 ≤ n ∧ n ≤ 122) ∨ (123 ≤ n) := by omega
  rcases hcase with h | h | h | h | h | h | h | h | h
  · have e : r = false := by rw [hr]; cases b <;> simp <;> omega
    subst e
    clear hr
    have q1 : ¬ ((97 : Int) ≤ (n : Int)) := by omega
    have q2 : ¬ ((65 : Int) ≤ (n : Int)) := by omega
    have q3 : ((n : Int) == 95) = false := by simp; omega
    have q4 : ¬ ((48 : Int) ≤ (n : Int)) := by omega
    clear h hn
    go_enter Tryd.func117, Tryd.ntmps117
    go_wp2
    go_ret
    exact ⟨rfl, rfl⟩
  · have e : r = (!b) := by rw [hr]; cases b <;> simp <;> omega
    subst e
    clear hr
    have q1 : ¬ ((97 : Int) ≤ (n : Int)) := by omega
    have q2 : ¬ ((65 : Int) ≤ (n : Int)) := by omega
    have q3 : ((n : Int) == 95) = false := by simp; omega
    have q4 : (48 : Int) ≤ (n : Int) := by omega
    have q4b : (n : Int) ≤ 57 := by omega
    clear h hn
    go_enter Tryd.func117, Tryd.ntmps117
    go_wp2
    go_ret
    exact ⟨rfl, rfl⟩
  · have e : r = false := by rw [hr]; cases b <;> simp <;> omega
    subst e
    clear hr
    have q1 : ¬ ((97 : Int) ≤ (n : Int)) := by omega
    have q2 : ¬ ((65 : Int) ≤ (n : Int)) := by omega
    have q3 : ((n : Int) == 95) = false := by simp; omega
    have q4 : (48 : Int) ≤ (n : Int) := by omega
    have q4b : ¬ ((n : Int) ≤ 57) := by omega
    clear h hn
    go_enter Tryd.func117, Tryd.ntmps117
    go_wp2
    go_ret
    exact ⟨rfl, rfl⟩
  · have e : r = true := by rw [hr]; cases b <;> simp <;> omega
    subst e
    clear hr
    have q1 : ¬ ((97 : Int) ≤ (n : Int)) := by omega
    have q2 : (65 : Int) ≤ (n : Int) := by omega
    have q2b : (n : Int) ≤ 90 := by omega
    have q3 : ((n : Int) == 95) = false := by simp; omega
    have q4 : (48 : Int) ≤ (n : Int) := by omega
    have q4b : ¬ ((n : Int) ≤ 57) := by omega
    clear h hn
    go_enter Tryd.func117, Tryd.ntmps117
    go_wp2
    go_ret
    exact ⟨rfl, rfl⟩
  · have e : r = false := by rw [hr]; cases b <;> simp <;> omega
    subst e
    clear hr
    have q1 : ¬ ((97 : Int) ≤ (n : Int)) := by omega
    have q2 : (65 : Int) ≤ (n : Int) := by omega
    have q2b : ¬ ((n : Int) ≤ 90) := by omega
    have q3 : ((n : Int) == 95) = false := by simp; omega
    have q4 : (48 : Int) ≤ (n : Int) := by omega
    have q4b : ¬ ((n : Int) ≤ 57) := by omega
    clear h hn
    go_enter Tryd.func117, Tryd.ntmps117
    go_wp2
    go_ret
    exact ⟨rfl, rfl⟩
  · have e : r = true := by rw [hr]; cases b <;> simp <;> omega
    subst e
    clear hr
    have q1 : ¬ ((97 : Int) ≤ (n : Int)) := by omega
    have q2 : (65 : Int) ≤ (n : Int) := by omega
    have q2b : ¬ ((n : Int) ≤ 90) := by omega
    have q3 : ((n : Int) == 95) = true := by simp; omega
    have q4 : (48 : Int) ≤ (n : Int) := by omega
    have q4b : ¬ ((n : Int) ≤ 57) := by omega
    clear h hn
    go_enter Tryd.func117, Tryd.ntmps117
    go_wp2
    go_ret
    exact ⟨rfl, rfl⟩
  · have e : r = false := by rw [hr]; cases b <;> simp <;> omega
    subst e
    clear hr
    have q1 : ¬ ((97 : Int) ≤ (n : Int)) := by omega
    have q2 : (65 : Int) ≤ (n : Int) := by omega
    have q2b : ¬ ((n : Int) ≤ 90) := by omega
    have q3 : ((n : Int) == 95) = false := by simp; omega
    have q4 : (48 : Int) ≤ (n : Int) := by omega
    have q4b : ¬ ((n : Int) ≤ 57) := by omega
    clear h hn
    go_enter Tryd.func117, Tryd.ntmps117
    go_wp2
    go_ret
    exact ⟨rfl, rfl⟩
  · have e : r = true := by rw [hr]; cases b <;> simp <;> omega
    subst e
    clear hr
    have q1 : (97 : Int) ≤ (n : Int) := by omega
    have q1b : (n : Int) ≤ 122 := by omega
    have q2 : (65 : Int) ≤ (n : Int) := by omega
    have q2b : ¬ ((n : Int) ≤ 90) := by omega
    have q3 : ((n : Int) == 95) = false := by simp; omega
    have q4 : (48 : Int) ≤ (n : Int) := by omega
    have q4b : ¬ ((n : Int) ≤ 57) := by omega
    clear h hn
    go_enter Tryd.func117, Tryd.ntmps117
    go_wp2
    go_ret
    exact ⟨rfl, rfl⟩
  · have e : r = false := by rw [hr]; cases b <;> simp <;> omega
    subst e
    clear hr
    have q1 : (97 : Int) ≤ (n : Int) := by omega
    have q1b : ¬ ((n : Int) ≤ 122) := by omega
    have q2 : (65 : Int) ≤ (n : Int) := by omega
    have q2b : ¬ ((n : Int) ≤ 90) := by omega
    have q3 : ((n : Int) == 95) = false := by simp; omega
    have q4 : (48 : Int) ≤ (n : Int) := by omega
    have q4b : ¬ ((n : Int) ≤ 57) := by omega
    clear h hn
    go_enter Tryd.func117, Tryd.ntmps117
    go_wp2
    go_ret
    exact ⟨rfl, rfl⟩
theorem may_any (s : Nm) (hl : s.length ≤ 140737488355328) (w : World) : Calls Tryd.prog 115 #[.string (str s)] w fun e w' => e = .returned (.bool (mayN s)) ∧ Below w.heap.size w w' := by
  by_cases h1 : s = []
  · subst h1
    rw [mayN_len_no (Or.inl (by simp))]
    go_enter Tryd.func115, Tryd.ntmps115
    go_wp2
    go_ret
    exact ⟨rfl, Below.refl _ _⟩
  have t1 : (s == []) = false := by simp [h1]
  have t1b : s.isEmpty = false := by simp [h1]
  by_cases h2 : 20 < s.length
  · rw [mayN_len_no (Or.inr h2)]
    obtain ⟨n, hln⟩ : ∃ n, n = s.length := ⟨_, rfl⟩
    have hsz : (str s).size = n := by rw [str_size, hln]
    have t2 : (20 : Int) < (n : Int) := by omega
    clear h2 hl
    replace hln := Lib.hid hln
    go_enter Tryd.func115, Tryd.ntmps115
    go_wp2
    go_ret
    exact ⟨rfl, Below.refl _ _⟩
  obtain ⟨n, hln⟩ : ∃ n, n = s.length := ⟨_, rfl⟩
  have hsz : (str s).size = n := by rw [str_size, hln]
  have t2 : ¬ (20 : Int) < (n : Int) := by omega
  have hn20 : n ≤ 20 := by omega
  have hn1 : 1 ≤ n := by
    have : s.length ≠ 0 := fun h => h1 (List.length_eq_zero_iff.1 h)
    omega
  have hL := fun c b W hc => letter_any c b hc W
  replace hL := Lib.hid hL
  replace hn1 := Lib.hid hn1; replace hn20 := Lib.hid hn20
  clear h2 hl h1
  obtain ⟨S, hS⟩ : ∃ S, S = str s := ⟨_, rfl⟩
  rw [← hS] at hsz ⊢
  have t1S : (S.toList == []) = false := by rw [hS, str_bl]; exact t1
  have t1Sb : S.toList.isEmpty = false := by rw [hS, str_bl]; exact t1b
  have t1Sc : ¬ S.toList = [] := by rw [hS, str_bl]; simpa using t1
  replace hln := Lib.hid hln; replace hS := Lib.hid hS
  clear t1 t1b
  go_enter Tryd.func115, Tryd.ntmps115
  go_wp2
  go_loopw [3] (fun s3 wr => ∃ pos : Nat, pos ≤ n ∧ (∀ i, i < pos → okAt s i = true) ∧ wr = w.iter S pos) (fun _ wr => n - wr.iterPos w.heap.size)
  case atStart => exact ⟨0, by omega, fun i h => by omega, rfl⟩
  case round =>
    obtain ⟨pos, hp, hok, rfl⟩ := hrel
    by_cases hlt : pos < n
    · obtain ⟨c, hc⟩ : ∃ c, s[pos]? = some c := ⟨_, List.getElem?_eq_getElem (by have := hln.out; omega)⟩
      have hps : pos < S.size := by rw [hsz]; exact hlt
      have hce : S[pos]'hps = c := by have h := hS.out; subst h; exact at_str s pos c hc _
      have hD : s.getD pos 0 = c := by rw [List.getD_eq_getElem?_getD, hc]; rfl
      obtain ⟨b0, hb0⟩ : ∃ b0 : Bool, b0 = decide (pos = 0) := ⟨_, rfl⟩
      have hb1 : ((pos : Int) == 0) = b0 := by rw [hb0, Bool.eq_iff_iff]; simp
      by_cases ha : c.toNat < 128
      · have hnx := fun ty => run_next_ascii (P := Tryd.prog) w S pos ty hps (by rw [hce]; exact ha)
        rw [hce] at hnx
        obtain ⟨q, hq⟩ : ∃ q, q = c.toNat := ⟨_, rfl⟩
        rw [← hq] at hnx ha
        have hq2 : okC q b0 = okAt s pos := by unfold okAt; rw [hD, ← hq, hb0]
        have cl := hL.out q b0
        rw [hq2] at cl
        replace cl := Lib.hid cl
        clear hce hD hq hb0 hq2 hc
        replace hok := Lib.hid hok; replace ha := Lib.hid ha
        cases hv : okAt s pos with
        | true =>
          rw [hv] at cl
          replace hv := Lib.hid hv
          go_wp2_with (go_at_call 117; (with_reducible refine (cl.out _ (by have := ha.out; omega)).mono ?_); rintro e w1 ⟨rfl, rfl⟩)
          go_roundw
          case rel => exact ⟨pos + 1, by omega, fun i hi => by by_cases e : i = pos; (subst e; exact hv.out); exact hok.out i (by omega), rfl⟩
          case measure => simp; omega
        | false =>
          rw [hv] at cl
          replace hv := Lib.hid hv
          go_wp2_with (go_at_call 117; (with_reducible refine (cl.out _ (by have := ha.out; omega)).mono ?_); rintro e w1 ⟨rfl, rfl⟩)
          go_ret
          exact ⟨by rw [mayN_no pos (by have := hln.out; omega) hv.out]; rfl, (Below.refl _ _).alloc (Nat.le_refl _) _⟩
      · have hnx := fun ty => run_next_any (P := Tryd.prog) w S pos ty hps
        have hhi := (decode_high S pos hps (by rw [hce]; omega)).1
        have hle := decode_le S pos
        generalize Utf8.decode S pos = dd at hnx hhi hle
        obtain ⟨q, hq⟩ : ∃ q, q = dd.1 := ⟨_, rfl⟩
        rw [← hq] at hnx hhi hle
        have cl := hL.out q b0
        rw [okC_high hhi] at cl
        have hv : okAt s pos = false := by unfold okAt; rw [hD]; exact okC_high (by omega) _
        replace cl := Lib.hid cl; replace hv := Lib.hid hv; replace hle := Lib.hid hle
        clear hce hD hq hb0 hc hok hhi ha
        go_wp2_with (go_at_call 117; (with_reducible refine (cl.out _ hle.out).mono ?_); rintro e w1 ⟨rfl, rfl⟩)
        go_ret
        exact ⟨by rw [mayN_no pos (by have := hln.out; omega) hv.out]; rfl, (Below.refl _ _).alloc (Nat.le_refl _) _⟩
    · obtain rfl : pos = n := by omega
      have hnx := fun ty => run_next_end (P := Tryd.prog) w S pos ty (by rw [hsz]; omega)
      replace hok := Lib.hid hok
      go_wp2
      go_ret
      exact ⟨by rw [mayN_all (by have := hln.out; have := hn1.out; omega) (by have := hln.out; have := hn20.out; omega) (fun i hi => hok.out i (by have := hln.out; omega))]; rfl, (Below.refl _ _).alloc (Nat.le_refl _) _⟩
theorem index_any (v : Value) (l : List Nm) (s : Nm) (w : World) (h : Sl w v l.length (nmC l)) (hn : l.length ≤ 1000000) :
    Calls Tryd.prog 73 #[v, .string (str s)] w fun e w' => e = .returned (.int .i64 (if s ∈ l then (l.idxOf s : Int) else -1)) ∧ w' = w := by
  obtain ⟨a, cp, rfl, hmax, h⟩ := h
  obtain ⟨n, hln⟩ : ∃ n, n = l.length := ⟨_, rfl⟩
  obtain ⟨R, hR⟩ : ∃ R, R = (if s ∈ l then (l.idxOf s : Int) else -1) := ⟨_, rfl⟩
  rw [← hln] at hn hmax h ⊢
  rw [← hR]
  replace h := Lib.hid h; replace hln := Lib.hid hln; replace hR := Lib.hid hR
  go_enter Tryd.func73, Tryd.ntmps73
  go_wp2
  go_loop [8] (fun s8 => ∃ i : Nat, s8 = .int .i64 (i : Int) ∧ i ≤ n ∧ s ∉ l.take i) (fun s8 => n - (intOf s8).toNat)
  case atStart => exact ⟨0, rfl, by omega, by simp⟩
  case round =>
    obtain ⟨i, rfl, hi, hno⟩ := hrel
    by_cases hlt : i < n
    · obtain ⟨b, o, rfl, hr⟩ := h.out.resolve_left (by omega)
      obtain ⟨y, hy⟩ : ∃ x, l[i]? = some x := ⟨_, List.getElem?_eq_getElem (by have := hln.out; omega)⟩
      have d0 : w.cell? ⟨b, o + i, none⟩ = some (.string (str y)) := hr.2 i _ (nmC_at l i y hy)
      have e1 : (0 : Int) ≤ (i : Int) := by omega
      have e2 : (i : Int) < (n : Int) := by omega
      replace hy := Lib.hid hy
      clear hr
      by_cases hxy : s = y
      · subst hxy
        have t1 : (s == s) = true := by simp
        have hmem : s ∈ l := List.mem_of_getElem? hy.out
        have hR2 : R = (i : Int) := by
          rw [hR.out, if_pos hmem]
          have : l.idxOf s = i := by
            obtain ⟨hi2, he⟩ := List.getElem?_eq_some_iff.1 hy.out
            have hd : l.drop i = s :: l.drop (i + 1) := by rw [List.drop_eq_getElem_cons hi2, he]
            have h3 : l = l.take i ++ (s :: l.drop (i + 1)) := by rw [← hd, List.take_append_drop]
            have h4 : (l.take i).length = i := by rw [List.length_take]; omega
            calc l.idxOf s = (l.take i ++ (s :: l.drop (i + 1))).idxOf s := by rw [← h3]
              _ = i := by rw [List.idxOf_append, if_neg hno, List.idxOf_cons_self, h4]; omega
          rw [this]
        replace hno := Lib.hid hno; replace hmem := Lib.hid hmem
        subst hR2
        go_wp2
        go_ret
        exact ⟨rfl, rfl⟩
      · have t1 : (s == y) = false := by simp [hxy]
        have hno2 : s ∉ l.take (i + 1) := by rw [List.take_add_one, hy.out]; simp [hno, hxy]
        replace hno2 := Lib.hid hno2
        clear hno hxy
        go_wp2
        go_round
        case rel => exact ⟨i + 1, by go_num, by omega, hno2.out⟩
        case measure => simp [intOf]; omega
    · obtain rfl : n = i := by omega
      have hno2 : s ∉ l := by rw [List.take_of_length_le (by have := hln.out; omega)] at hno; exact hno
      have hR2 : R = -1 := by rw [hR.out, if_neg hno2]
      subst hR2
      clear hno hno2
      go_wp2
      go_ret
      exact ⟨rfl, rfl⟩
end Go.Proofs.YtgbkpkioijbgoaaDoor.names
