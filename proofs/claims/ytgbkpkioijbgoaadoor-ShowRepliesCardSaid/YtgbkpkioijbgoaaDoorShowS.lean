/- What an act comes to (show.Said), given what its reply tells. No condition. -/
import Derived.Test.YtgbkpkioijbgoaaDoorShowP
namespace Go.Proofs.YtgbkpkioijbgoaaDoor.show
open Go.RowKit
attribute [local go_sem ↓] Go.wp_at_zero Go.wp_at_succ
set_option linter.unusedVariables false
set_option linter.unusedSimpArgs false
set_option maxRecDepth 100000
def saidT (ok : Bool) (tell : Int) (done : Bool) (R : ByteArray) : ByteArray :=
  if ok = true then (if tell = 2 then ⟨#[119, 97, 105, 116, 115]⟩ else if done = true then ⟨#[100, 111, 110, 101]⟩ else R) else ⟨#[110, 111, 110, 101]⟩
set_option maxHeartbeats 2000000 in
theorem said_any (ok : Bool) (er id : Int) (a b c : Value) (tell : Int) (done : Bool) (R : ByteArray) (w : World) (kR : ∀ W, Below w.heap.size w W → Calls Tryd.prog 18 #[.agg #[.int .i64 er, .int .u64 id, a, b, c]] W fun e w' => e = .returned (.string R) ∧ Below W.heap.size W w') (ha : ∃ x n k, a = .slice x n k) (hb : ∃ x n k, b = .slice x n k) (hc : ∃ x n k, c = .slice x n k) :
    Calls Tryd.prog 19 #[.agg #[.bool ok, .int .i64 er, .int .u64 id, a, b, c, .int .i64 tell, .bool done]] w fun e w' => e = .returned (.string (saidT ok tell done R)) ∧ Below w.heap.size w w' := by
  obtain ⟨a1, a2, a3, rfl⟩ := ha
  obtain ⟨b1, b2, b3, rfl⟩ := hb
  obtain ⟨c1, c2, c3, rfl⟩ := hc
  unfold saidT
  have hp0 := Lib.hid ((Hp.none_ w []).alloc #[.bool ok, .int .i64 er, .int .u64 id, .slice a1 a2 a3, .slice b1 b2 b3, .slice c1 c2 c3, .int .i64 tell, .bool done] 60)
  replace kR := Lib.hid kR
  have hx : ok = false ∨ (ok = true ∧ tell = 2) ∨ (ok = true ∧ tell ≠ 2 ∧ done = true) ∨ (ok = true ∧ tell ≠ 2 ∧ done = false) := by
    cases ok
    · simp
    · by_cases h : tell = 2
      · simp [h]
      · cases done <;> simp [h]
  rcases hx with rfl | ⟨rfl, rfl⟩ | ⟨rfl, ht, rfl⟩ | ⟨rfl, ht, rfl⟩
  · simp only [Bool.false_eq_true, if_false]
    go_enter Tryd.func19, Tryd.ntmps19
    go_wp2
    go_ret
    exact ⟨rfl, hp0.out.bel⟩
  · simp only [if_true]
    go_enter Tryd.func19, Tryd.ntmps19
    go_wp2
    go_ret
    exact ⟨rfl, hp0.out.bel⟩
  · have ht2 : (tell == 2) = false := by rw [beq_eq_false_iff_ne]; exact ht
    simp only [if_true, if_neg ht]
    go_enter Tryd.func19, Tryd.ntmps19
    go_wp2
    go_ret
    exact ⟨rfl, hp0.out.bel⟩
  · have ht2 : (tell == 2) = false := by rw [beq_eq_false_iff_ne]; exact ht
    simp only [if_true, if_neg ht, Bool.false_eq_true, if_false]
    go_enter Tryd.func19, Tryd.ntmps19
    go_wp2_with (go_at_call 18; (with_reducible refine (kR.out _ hp0.out.bel).mono ?_); rintro e w1 ⟨rfl, b1⟩; replace hp0 := Lib.hid (hp0.out.below b1); clear b1)
    go_ret
    exact ⟨rfl, hp0.out.bel⟩
end Go.Proofs.YtgbkpkioijbgoaaDoor.show
