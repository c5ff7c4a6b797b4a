/- No pager does nothing; a page of no sum is none: the law PagerNone. The table of salts is a premise. -/
import Derived.Test.YtcdcipfojfnblaaGreatDoorPag6
import Derived.Test.YtcdcipfojfnblaaGreatDoorShaHead
namespace Go.Proofs.YtcdcipfojfnblaaGreatDoor.pager
open Go.RowKit mach mpr
attribute [local go_sem ↓] Go.wp_at_zero Go.wp_at_succ
set_option linter.unusedVariables false
set_option linter.unusedSimpArgs false
set_option maxRecDepth 100000

set_option maxHeartbeats 4000000 in
theorem pagerNone_walk (a0 : Int) (a1 : ByteArray) (w : World) (w0 : (Lit.int .i64 a0).wf = true) (w1 : a1.size ≤ reachBytes) (hT : sha.SaltAt w sha.salts) :
    Calls Tryz.prog 7 #[.int .i64 a0, .string a1] w fun e w' => e = .returned (.bool true) ∧ Below w.heap.size w w' := by
  have kA := fun W' (h' : Hp w [] [] W') => awake_any W' (hT.keep h'.bel)
  have kM : ∀ W', Hp w [] [] W' → Calls Tryz.prog 8 #[.int .i64 5, .int .i64 1] W' fun e w' => ∃ p g d b sg km fm, e = .returned (.tuple #[.pointer (some ⟨p, 0, none⟩), .pointer (some ⟨g, 0, none⟩), .pointer (some ⟨d, 0, none⟩), .pointer (some ⟨b, 0, none⟩)]) ∧ Hp w [] (news 5 1 p g d b sg km fm ++ []) w' := fun W' h' => made_any h' 5 (by omega) (by omega) 1 (by omega)
  have hm : min (a1.size : Int) 31 ≤ (a1.size : Int) := by omega
  have hm0 : 0 ≤ min (a1.size : Int) 31 := by omega
  have kR : ∀ p W', Calls Tryz.prog 10 #[.pointer (some ⟨p, 0, none⟩), .agg #[.int .i64 a0, .string (a1.extract 0 (min (a1.size : Int) 31).toNat)]] W' fun e w' => e = .returned (.tuple #[.string ⟨#[]⟩, .int .i64 1]) ∧ Below W'.heap.size W' w' := fun p W' => read_short a0 _ (Or.inr (by rw [ByteArray.size_extract]; omega)) W'
  have kRn := fun n s W' => read_short (pq := none) n s (Or.inl rfl) W'
  have hp := Lib.hid (Hp.none_ w [])
  replace kA := Lib.hid kA; replace kM := Lib.hid kM; replace kR := Lib.hid kR; replace kRn := Lib.hid kRn
  clear hT w0 w1
  go_enter Tryz.func7, Tryz.ntmps7
  go_upto_region 12 with (first
    | (go_at_call 14; (with_reducible refine (epoch_nil _ _).mono ?_); rintro e w1 ⟨rfl, b1⟩; replace hp := Lib.hid (hp.out.below b1); clear b1)
    | (go_at_call 11; (with_reducible refine (drop_nil _ _ _).mono ?_); rintro e w1 ⟨rfl, b1⟩; replace hp := Lib.hid (hp.out.below b1); clear b1)
    | (go_at_call 12; (with_reducible refine (done_nil _).mono ?_); rintro e w1 ⟨rfl, b1⟩; replace hp := Lib.hid (hp.out.below b1); clear b1)
    | (go_at_call 13; (with_reducible refine (undo_nil _).mono ?_); rintro e w1 ⟨rfl, b1⟩; replace hp := Lib.hid (hp.out.below b1); clear b1)
    | (go_at_call 20; (with_reducible refine (lay_nil _ _ _).mono ?_); rintro e w1 ⟨rfl, b1⟩; replace hp := Lib.hid (hp.out.below b1); clear b1)
    | (go_at_call 24; (with_reducible refine (fetch_nil _ _ _).mono ?_); rintro e w1 ⟨rfl, b1⟩; replace hp := Lib.hid ((hp.out.below b1).alloc_ (.cells #[.int .u32 0, .int .u64 0, .int .u32 0] 59)); clear b1)
    | (go_at_call 10; (with_reducible refine (kRn.out _ _ _).mono ?_); rintro e w1 ⟨rfl, b1⟩; replace hp := Lib.hid (hp.out.below b1); clear b1)
    | (go_at_call 15; (with_reducible refine (write_nil _ _).mono ?_); rintro e w1 ⟨rfl, b1⟩; replace hp := Lib.hid ((hp.out.below b1).alloc_ (.cells #[.int .i64 0, .string ⟨#[]⟩] 34)); clear b1)
    | (go_at_call 16; (with_reducible refine (kept_nil _).mono ?_); rintro e w1 ⟨rfl, b1⟩; replace hp := Lib.hid (hp.out.below b1); clear b1)
    | (go_at_call 8; (with_reducible refine (kM.out _ hp.out).mono ?_); rintro e w1 ⟨p, g, d, b, sg, km, fm, rfl, h1⟩; replace hp := Lib.hid (show Hp w [] [] w1 from (Hp.none_ w []).below h1.bel); clear h1))
  go_wp2_with (first
    | (go_at_call 10; (with_reducible refine (kR.out _ _).mono ?_); rintro e w1 ⟨rfl, b1⟩; replace hp := Lib.hid (hp.out.below b1); clear b1)
    | (go_at_call 9; (with_reducible refine (kA.out _ hp.out).mono ?_); rintro e w1 ⟨rfl, b1⟩; replace hp := Lib.hid (hp.out.below b1); clear b1)
    | (go_at_call 17; (with_reducible refine (space_nil _).mono ?_); rintro e w1 ⟨rfl, b1⟩; replace hp := Lib.hid (hp.out.below b1); clear b1))
  all_goals go_ret
  all_goals exact ⟨rfl, hp.out.bel⟩
end Go.Proofs.YtcdcipfojfnblaaGreatDoor.pager
