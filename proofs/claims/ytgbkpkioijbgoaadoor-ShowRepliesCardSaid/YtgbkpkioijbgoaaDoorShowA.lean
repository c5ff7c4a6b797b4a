/- A value's text, as the code and the document have it (show.Value, lodestonelaw41.value, lodestoneref33.Val). The table of powers of ten is a premise; texts of at most 1000 bytes. -/
import Derived.Test.YtgbkpkioijbgoaaDoorShow3
import Derived.Test.YtgbkpkioijbgoaaDoorLex7
import Derived.Test.YtgbkpkioijbgoaaDoorHp
namespace Go.Proofs.YtgbkpkioijbgoaaDoor.show
open Go.RowKit
attribute [local go_sem ↓] Go.wp_at_zero Go.wp_at_succ
set_option linter.unusedVariables false
set_option linter.unusedSimpArgs false
set_option maxRecDepth 100000

theorem fmti_any (n : Int) (hn : -9223372036854775808 ≤ n ∧ n ≤ 9223372036854775807) (w : World) (hT : Tab w) : Calls Tryd.prog 78 #[.int .i64 n, .int .i64 10] w fun e w' => e = .returned (.string (numT n)) ∧ Below w.heap.size w w' :=
  (Go.Proofs.Tryd.strconv_FormatInt_10 n hn.1 hn.2 w hT).mono fun e w' ⟨he, k, os, hw⟩ => ⟨he, by rw [hw]; exact Lib.below_grow _ w (Nat.le_refl _) k os⟩
def trueT : ByteArray := ⟨#[116, 114, 117, 101]⟩
def falseT : ByteArray := ⟨#[102, 97, 108, 115, 101]⟩
def noneT : ByteArray := ⟨#[110, 111, 116, 104, 105, 110, 103]⟩
/-- a value's text -/
def valT (kd n : Int) (s : ByteArray) : ByteArray := if kd = 1 then (if n = 0 then falseT else trueT) else if kd = 2 then numT n else if kd = 3 then str (lex.lexText s.data.toList) else noneT
theorem fmtb_any (b : Bool) (w : World) : Calls Tryd.prog 99 #[.bool b] w fun e w' => e = .returned (.string (if b then trueT else falseT)) ∧ w' = w :=
  (Go.Proofs.Tryd.strconv_FormatBool b w).mono fun e w' ⟨he, hw⟩ => ⟨by rw [he]; cases b <;> rfl, hw⟩
theorem quote2 (s : ByteArray) (hs : s.size ≤ 1000) (w : World) : Calls Tryd.prog 100 #[.string s] w fun e w' => e = .returned (.string (str (lex.lexText s.data.toList))) ∧ Below w.heap.size w w' := by
  have hz : s.data.toList.length = s.size := Array.length_toList
  have := lex.quote_any s.data.toList (by omega) w
  rwa [str_of s] at this
theorem rquote2 (s : ByteArray) (hs : s.size ≤ 1000) (w : World) : Calls Tryd.prog 79 #[.string s] w fun e w' => e = .returned (.string (str (lex.lexText s.data.toList))) ∧ Below w.heap.size w w' := by
  have hz : s.data.toList.length = s.size := Array.length_toList
  have := lex.rquote_any s.data.toList (by omega) w
  rwa [str_of s] at this
theorem numT_size (n : Int) (hn : -9223372036854775808 ≤ n ∧ n ≤ 9223372036854775807) : (numT n).size ≤ 21 := numT_len n hn
set_option maxHeartbeats 4000000 in
theorem sval_any (kd n : Int) (s : ByteArray) (hn : -9223372036854775808 ≤ n ∧ n ≤ 9223372036854775807) (hs : kd = 3 → s.size ≤ 1000) (w : World) (hT : Tab w) :
    Calls Tryd.prog 81 #[.agg #[.int .i64 kd, .int .i64 n, .string s]] w fun e w' => e = .returned (.string (valT kd n s)) ∧ Below w.heap.size w w' := by
  have hp0 := (Hp.none_ w []).alloc #[.int .i64 kd, .int .i64 n, .string s] 53
  have k1 := fun b W => fmtb_any b W
  have k2 : ∀ W, Below w.heap.size w W → Calls Tryd.prog 78 #[.int .i64 n, .int .i64 10] W fun e w' => e = .returned (.string (numT n)) ∧ Below W.heap.size W w' := fun W hb => fmti_any n hn W (hT.keep hb)
  have k3 : kd = 3 → ∀ W, Calls Tryd.prog 100 #[.string s] W fun e w' => e = .returned (.string (str (lex.lexText s.data.toList))) ∧ Below W.heap.size W w' := fun h W => quote2 s (hs h) W
  obtain ⟨R, hR⟩ : ∃ R, R = valT kd n s := ⟨_, rfl⟩
  rw [← hR]
  unfold valT at hR
  replace hp0 := Lib.hid hp0; replace k1 := Lib.hid k1; replace k2 := Lib.hid k2; replace k3 := Lib.hid k3; replace hR := Lib.hid hR
  clear hs hT hn
  go_enter Tryd.func81, Tryd.ntmps81
  go_upto_region 1 with fail
  generalize w.alloc _ = W at hp0 ⊢
  generalize hq2 : w.heap.size = q at hp0 ⊢
  clear hq2
  have c0 := hp0.out.cell (i := 0) rfl 0; have c1 := hp0.out.cell (i := 0) rfl 1; have c2 := hp0.out.cell (i := 0) rfl 2
  simp at c0 c1 c2
  have hp := hp0
  clear hp0
  by_cases h1 : kd = 1
  · have hR1 := hR.out
    rw [if_pos h1] at hR1
    subst h1
    by_cases h0 : n = 0
    · rw [if_pos h0] at hR1
      subst h0
      replace hR1 := Lib.hid hR1
      go_wp2_with (go_at_call 99; (with_reducible refine (k1.out _ _).mono ?_); rintro e w1 ⟨rfl, rfl⟩)
      go_ret
      exact ⟨by rw [hR1.out]; rfl, hp.out.bel⟩
    · rw [if_neg h0] at hR1
      replace hR1 := Lib.hid hR1
      go_wp2_with (go_at_call 99; (with_reducible refine (k1.out _ _).mono ?_); rintro e w1 ⟨rfl, rfl⟩)
      go_ret
      exact ⟨by rw [hR1.out]; rfl, hp.out.bel⟩
  · have hR1 := hR.out
    rw [if_neg h1] at hR1
    by_cases h2 : kd = 2
    · rw [if_pos h2] at hR1
      subst h2
      replace hR1 := Lib.hid hR1
      go_wp2_with (go_at_call 78; (with_reducible refine (k2.out _ hp.out.bel).mono ?_); rintro e w1 ⟨rfl, b1⟩; replace hp := Lib.hid (hp.out.below b1))
      go_ret
      exact ⟨by rw [hR1.out]; rfl, hp.out.bel⟩
    · rw [if_neg h2] at hR1
      by_cases h3 : kd = 3
      · rw [if_pos h3] at hR1
        have k3' := Lib.hid (k3.out h3)
        subst h3
        replace hR1 := Lib.hid hR1
        go_wp2_with (go_at_call 100; (with_reducible refine (k3'.out _).mono ?_); rintro e w1 ⟨rfl, b1⟩; replace hp := Lib.hid (hp.out.below b1))
        go_ret
        exact ⟨by rw [hR1.out]; rfl, hp.out.bel⟩
      · rw [if_neg h3] at hR1
        replace hR1 := Lib.hid hR1
        go_wp2
        go_ret
        exact ⟨by rw [hR1.out]; rfl, hp.out.bel⟩
set_option maxHeartbeats 4000000 in
/-- a truth's number is 0 or 1, or it is said true -/
theorem rval_any (kd n : Int) (s : ByteArray) (hn : -9223372036854775808 ≤ n ∧ n ≤ 9223372036854775807) (hs : kd = 3 → s.size ≤ 1000) (h01 : kd = 1 → n = 0 ∨ n = 1) (w : World) (hT : Tab w) :
    Calls Tryd.prog 39 #[.agg #[.int .i64 kd, .int .i64 n, .string s]] w fun e w' => e = .returned (.string (valT kd n s)) ∧ Below w.heap.size w w' := by
  have hp0 := (Hp.none_ w []).alloc #[.int .i64 kd, .int .i64 n, .string s] 53
  have k2 : ∀ W, Below w.heap.size w W → Calls Tryd.prog 78 #[.int .i64 n, .int .i64 10] W fun e w' => e = .returned (.string (numT n)) ∧ Below W.heap.size W w' := fun W hb => fmti_any n hn W (hT.keep hb)
  have k3 : kd = 3 → ∀ W, Calls Tryd.prog 79 #[.string s] W fun e w' => e = .returned (.string (str (lex.lexText s.data.toList))) ∧ Below W.heap.size W w' := fun h W => rquote2 s (hs h) W
  obtain ⟨R, hR⟩ : ∃ R, R = valT kd n s := ⟨_, rfl⟩
  rw [← hR]
  unfold valT at hR
  replace hp0 := Lib.hid hp0; replace k2 := Lib.hid k2; replace k3 := Lib.hid k3; replace hR := Lib.hid hR
  clear hs hT hn
  go_enter Tryd.func39, Tryd.ntmps39
  go_upto_region 1 with fail
  generalize w.alloc _ = W at hp0 ⊢
  generalize hq2 : w.heap.size = q at hp0 ⊢
  clear hq2
  have c0 := hp0.out.cell (i := 0) rfl 0; have c1 := hp0.out.cell (i := 0) rfl 1; have c2 := hp0.out.cell (i := 0) rfl 2
  simp at c0 c1 c2
  have hp := hp0
  clear hp0
  by_cases h1 : kd = 1
  · have hR1 := hR.out
    rw [if_pos h1] at hR1
    have h01' := h01 h1
    clear h01
    subst h1
    rcases h01' with rfl | rfl
    · rw [if_pos rfl] at hR1
      replace hR1 := Lib.hid hR1
      go_wp2
      go_ret
      exact ⟨by rw [hR1.out]; rfl, hp.out.bel⟩
    · rw [if_neg (by decide)] at hR1
      replace hR1 := Lib.hid hR1
      go_wp2
      go_ret
      exact ⟨by rw [hR1.out]; rfl, hp.out.bel⟩
  · clear h01
    have hR1 := hR.out
    rw [if_neg h1] at hR1
    by_cases h2 : kd = 2
    · rw [if_pos h2] at hR1
      subst h2
      replace hR1 := Lib.hid hR1
      go_wp2_with (go_at_call 78; (with_reducible refine (k2.out _ hp.out.bel).mono ?_); rintro e w1 ⟨rfl, b1⟩; replace hp := Lib.hid (hp.out.below b1))
      go_ret
      exact ⟨by rw [hR1.out]; rfl, hp.out.bel⟩
    · rw [if_neg h2] at hR1
      by_cases h3 : kd = 3
      · rw [if_pos h3] at hR1
        have k3' := Lib.hid (k3.out h3)
        subst h3
        replace hR1 := Lib.hid hR1
        go_wp2_with (go_at_call 79; (with_reducible refine (k3'.out _).mono ?_); rintro e w1 ⟨rfl, b1⟩; replace hp := Lib.hid (hp.out.below b1))
        go_ret
        exact ⟨by rw [hR1.out]; rfl, hp.out.bel⟩
      · rw [if_neg h3] at hR1
        replace hR1 := Lib.hid hR1
        go_wp2
        go_ret
        exact ⟨by rw [hR1.out]; rfl, hp.out.bel⟩
end Go.Proofs.YtgbkpkioijbgoaaDoor.show
