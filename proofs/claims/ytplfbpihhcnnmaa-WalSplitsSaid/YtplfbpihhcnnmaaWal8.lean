/- The laws' awake: a record of one change there and back. No condition. -/
import Derived.Test.YtplfbpihhcnnmaaWal7
import Derived.Test.YtplfbpihhcnnmaaWal5
namespace Go.Proofs.Ytplfbpihhcnnmaa.wal
open Go.RowKit
open code (textL boolL textL_len text_put rtext_put)
attribute [local go_sem ↓] Go.wp_at_zero Go.wp_at_succ
attribute [local go_sem] str_size str_bl str_append
set_option linter.unusedVariables false
set_option maxRecDepth 100000

def c0 : Ch := ⟨[97], [98], false⟩
theorem rec0 : recL [c0] = [1, 0, 1, 97, 1, 98] := by
  simp [recL, chB, c0, boolL, textL, code.numL_small]
theorem may0 : mayL [c0] = true := by simp [mayL, chOk, c0]
theorem put0 : putL [c0] = [1, 0, 1, 97, 1, 98] := by
  unfold putL; rw [if_pos ⟨may0, by rw [rec0]; decide⟩, rec0]
theorem rowCells {w : World} {base : Nat} {e : TypeId} {size : Nat} {v : Value} {n : Nat} {xs : List Value} (h : w.ownsRow base e size v n xs) (hn : 0 < n) : ∃ b cap, v = .slice (some ⟨b, 0, none⟩) n cap ∧ ∀ j u, xs[j]? = some u → w.cell? ⟨b, j, none⟩ = some u := by
  rcases h.2 with ⟨_, h0⟩ | ⟨g, cap, cur, rfl, _⟩
  · omega
  · refine ⟨g, cap, rfl, fun j u hu => ?_⟩
    have := World.ownsRow.cells h (g := g) rfl j u hu
    rwa [addr_add, Nat.zero_add] at this
set_option maxHeartbeats 2000000 in
theorem awake_any (w : World) : Calls Try.prog 16 #[] w fun e w' => e = .returned (.bool true) ∧ Below w.heap.size w w' := by
  have hput : ∀ v W, Sl W v 1 (chCells [c0]) → Calls Try.prog 56 #[v] W fun e w' => e = .returned (.string (str [1, 0, 1, 97, 1, 98])) ∧ Below W.heap.size W w' := fun v W h => by
    have := put_any v [c0] W h
    rwa [put0] at this
  have hsplit : ∀ W, Calls Try.prog 12 #[.string (str [1, 0, 1, 97, 1, 98])] W (SplitRet W [1 :: [1, 0, 1, 97, 1, 98]]) := fun W => by
    have := split_any [1, 0, 1, 97, 1, 98] (by decide) W
    rwa [splitL_short _ (by decide)] at this
  have hjoin : ∀ v W, Sl W v 1 (strsV [1 :: [1, 0, 1, 97, 1, 98]]) → Calls Try.prog 15 #[v] W (JoinRet W [[c0]]) := fun v W h => by
    have hr := rest_split [c0] may0 (by rw [rec0]; decide) [] [] .none 6 [] [1, 0, 1, 97, 1, 98] (by decide) (by rw [rec0]; rfl)
    rw [splitL_short _ (by decide)] at hr
    exact join_any _ _ hr (by decide) v W h
  have hp := (Hp.none_ w []).rowLit #[.string ⟨#[97]⟩, .string ⟨#[98]⟩, .bool false] 100 3 1 (by decide) rfl
  have hs0 : Sl (w.alloc (.cells #[.string ⟨#[97]⟩, .string ⟨#[98]⟩, .bool false] 100)) (.slice (some ⟨w.heap.size, 0, none⟩) 1 1) 1 (chCells [c0]) := hp.sl (i := 0) rfl (by decide)
  replace hs0 := Lib.hid hs0
  replace hp := Lib.hid hp; replace hput := Lib.hid hput; replace hsplit := Lib.hid hsplit; replace hjoin := Lib.hid hjoin
  go_enter Try.func16, Try.ntmps16
  go_wp2_with (first
    | (go_at_call 56; go_loud ((with_reducible refine (hput.out _ _ hs0.out).mono ?_); rintro e w1 ⟨rfl, b1⟩; replace hp := Lib.hid (hp.out.below b1); clear b1))
    | (go_at_call 12; go_loud ((with_reducible refine (hsplit.out _).mono ?_); rintro e w2 ⟨v2, rfl, h2⟩; have hs2 := Lib.hid (h2.sl (i := 0) rfl (by decide)); replace hp := Lib.hid (hp.out.take h2); clear h2))
    | (go_at_call 15; go_loud ((with_reducible refine (hjoin.out _ _ hs2.out).mono ?_); rintro e w3 ⟨v3, vals, rfl, hv, h3⟩; replace hp := Lib.hid (hp.out.take h3); clear h3; obtain ⟨v4, rfl⟩ : ∃ v4, vals = [v4] := (by match vals, hv with | [x], _ => exact ⟨x, rfl⟩); obtain ⟨b3, cp3, rfl, hc3⟩ := rowCells (hp.out.row (i := 0) rfl) (by decide); obtain ⟨b4, cp4, rfl, hc4⟩ := rowCells (hp.out.row (i := 1) rfl) (by decide); have d0 := hc3 0 _ rfl; have g0 := hc4 0 _ rfl; have g1 := hc4 1 _ rfl; have g2 := hc4 2 _ rfl; clear hc3 hc4)))
  trace_state
  go_ret
  exact ⟨rfl, hp.out.bel⟩
end Go.Proofs.Ytplfbpihhcnnmaa.wal
