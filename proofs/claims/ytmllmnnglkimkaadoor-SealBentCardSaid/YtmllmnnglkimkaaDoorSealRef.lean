/- Sealed bytes: the document's own, what each law of package seal asks first, its keys and nonces. The table of salts is a premise. No other condition. -/
import Derived.Test.YtmllmnnglkimkaaDoorSeal
import Derived.Test.YtmllmnnglkimkaaDoorHmac2
import Derived.Test.YtmllmnnglkimkaaDoorHmacTags
import Derived.Test.YtmllmnnglkimkaaDoorChachaLaws
namespace Go.Proofs.YtmllmnnglkimkaaDoor.sha
open Go.RowKit
attribute [local go_sem ↓] Go.wp_at_zero Go.wp_at_succ
attribute [local go_sem] str_size str_append
set_option linter.unusedVariables false
set_option maxRecDepth 100000

theorem rseal_any (key : ByteArray) (G no l : List UInt8) (p : Int) (n : Nat) (hw : IntKind.u32.wrap p = (n : Int)) (hn : n < 4294967296) (hk : key.size = 32) (hG : G.length ≤ 1000000) (hno : no.length = 12) (hl : l.length ≤ 100000) (w : World) :
    Calls Tryd.prog 58 #[.string key, .string (str G), .int .i64 p, .string (str no), .string (str l)] w fun e w' => e = .returned (.string (str (sealL key G n no l))) ∧ Below w.heap.size w w' := by
  have c1 : ∀ w', Calls Tryd.prog 61 #[.string key, .string (str no), .string (str l)] w' fun e w2 => e = .returned (.string (str (turnL key no l))) ∧ Below w'.heap.size w' w2 := fun w' => chacha.rturn_any key (str no) l hk (by rw [str_size]; exact hno) (by omega) w'
  have c2 : ∀ w', Calls Tryd.prog 57 #[.int .u64 (n : Int), .int .i64 4] w' fun e w2 => e = .returned (.string (str (high.beL 4 n))) ∧ Below w'.heap.size w' w2 := fun w' => high.refHigh_any n 4 (by omega) (by omega) w'
  have hbl := high.beL_length 4 n
  have l1 := turnL_len key no l
  have l2 := stagL_len G n no (turnL key no l)
  have c3 : ∀ w', Calls Tryd.prog 11 #[.string (str G), .string (str (high.beL 4 n ++ (no ++ turnL key no l)))] w' fun e w2 => e = .returned (.string (str (stagL G n no (turnL key no l)))) ∧ Below w'.heap.size w' w2 := fun w' => rtag_any G (high.beL 4 n ++ (no ++ turnL key no l)) (by omega) (by rw [List.length_append, List.length_append, hbl, l1]; omega) w'
  have e1 : sealL key G n no l = turnL key no l ++ stagL G n no (turnL key no l) := rfl
  have hw2 : IntKind.u64.wrap (n : Int) = (n : Int) := IntWalk.u64_in _ (by omega)
  obtain ⟨B, hB⟩ : ∃ B, B = high.beL 4 n := ⟨_, rfl⟩
  obtain ⟨U, hU⟩ : ∃ U, U = turnL key no l := ⟨_, rfl⟩
  rw [← hB] at c2 c3 hbl
  rw [← hU] at c1 c3 e1 l1 l2
  obtain ⟨S, hS⟩ : ∃ V, V = stagL G n no U := ⟨_, rfl⟩
  rw [← hS] at c3 e1 l2
  rw [e1]
  have r0 : ¬ 9223372036854775807 < 4 + no.length := by omega
  have r1 : ¬ 9223372036854775807 < 4 + no.length + l.length := by omega
  have r2 : ¬ 9223372036854775807 < 4 + (no.length + l.length) := by omega
  have r3 : ¬ 9223372036854775807 < l.length + 32 := by omega
  clear e1 hB hU hS hn hk hG hno hl
  have hbb : Below w.heap.size w w := Below.refl _ _
  replace hbb := Lib.hid hbb
  replace c1 := Lib.hid c1; replace c2 := Lib.hid c2; replace c3 := Lib.hid c3
  go_enter Tryd.func58, Tryd.ntmps58
  go_wp2_with (first
    | (go_at_call 61; (with_reducible refine (c1.out _).mono ?_); rintro e w1 ⟨rfl, b1⟩; replace hbb := Lib.hid (belowCont hbb.out b1); clear b1)
    | (go_at_call 57; (with_reducible refine (c2.out _).mono ?_); rintro e w1 ⟨rfl, b1⟩; replace hbb := Lib.hid (belowCont hbb.out b1); clear b1)
    | (go_at_call 11; (with_reducible refine (c3.out _).mono ?_); rintro e w1 ⟨rfl, b1⟩; replace hbb := Lib.hid (belowCont hbb.out b1); clear b1))
  all_goals go_ret
  all_goals exact ⟨rfl, hbb.out⟩
theorem get_put (key : ByteArray) (G no l : List UInt8) (p : Int) (n : Nat) (hw : IntKind.u32.wrap p = (n : Int)) (hn : n < 4294967296) (hk : key.size = 32) (hG : G.length ≤ 1000000) (hno : no.length = 12) (hl : l.length ≤ 100000) (w : World) (hT : SaltAt w salts) :
    Calls Tryd.prog 15 #[.agg #[.string key, .string (str G)], .int .i64 p, .string (str no), .string (str (sealL key G n no l))] w fun e w' => e = .returned (.tuple #[.string (str l), .int .i64 0]) ∧ Below w.heap.size w w' := by
  have h := get_any key G no (turnL key no l) (stagL G n no (turnL key no l)) p n hw hn hk hG hno (by rw [turnL_len]; exact hl) (stagL_len _ _ _ _) w hT
  rw [if_pos rfl, turnL_twice] at h
  exact h
def tag50 (s : ByteArray) : List UInt8 := s.data.toList.take 50
theorem tag50_len (s : ByteArray) : (tag50 s).length ≤ 50 := by rw [tag50, List.length_take]; omega
def nonceL (s : ByteArray) : List UInt8 := (chacha.nonceOf s).data.toList
theorem nonceL_len (s : ByteArray) : (nonceL s).length = 12 := by
  have := chacha.nonceOf_size s
  rw [nonceL, Array.length_toList]; exact this
theorem snonce_any (s : ByteArray) (hs : s.size ≤ reachBytes) (w : World) : Calls Tryd.prog 14 #[.string s] w fun e w' => e = .returned (.string (str (nonceL s))) ∧ Below w.heap.size w w' := by
  have h1 : ¬ 9223372036854775807 < s.size + 12 := by unfold reachBytes at hs; omega
  clear hs
  go_enter Tryd.func14, Tryd.ntmps14
  go_wp2
  go_ret
  exact ⟨rfl, Below.refl _ _⟩
theorem skeys_any (s : ByteArray) (hs : s.size ≤ reachBytes) (w : World) : Calls Tryd.prog 12 #[.string s] w fun e w' => e = .returned (.agg #[.string (chacha.keyOf s), .string (str (tag50 s))]) ∧ Below w.heap.size w w' := by
  have h1 : ¬ 9223372036854775807 < s.size + 32 := by unfold reachBytes at hs; omega
  have hk : s.extract 0 (min (s.size : Int) 50).toNat = str (tag50 s) := cut_min s 50
  have b1 : (0 : Int) ≤ min (s.size : Int) 50 := by omega
  have b2 : min (s.size : Int) 50 ≤ (s.size : Int) := by omega
  clear hs
  have hrow := heap_alloc_new w (.cells #[.string ⟨#[]⟩, .string ⟨#[]⟩] 25)
  obtain ⟨q0, q1⟩ := boxPut2 hrow (.string (chacha.keyOf s)) (.string (str (tag50 s)))
  have q2 := boxPut1 hrow (.string (chacha.keyOf s))
  obtain ⟨X, hX⟩ : ∃ X, s ++ ⟨#[48, 49, 50, 51, 52, 53, 54, 55, 56, 57, 97, 98, 99, 100, 101, 102, 48, 49, 50, 51, 52, 53, 54, 55, 56, 57, 97, 98, 99, 100, 101, 102]⟩ = X := ⟨_, rfl⟩
  have hXs : X.size = s.size + 32 := by rw [← hX, ByteArray.size_append]; rfl
  have hX32 : (32 : Int) ≤ (X.size : Int) := by omega
  have hX33 : (32 : Int) ≤ (s.size : Int) + 32 := by omega
  have hko : X.extract 0 32 = chacha.keyOf s := by rw [← hX]; rfl
  have hb0 : Below w.heap.size w (w.alloc (.cells #[.string ⟨#[]⟩, .string ⟨#[]⟩] 25)) := (Below.refl _ w).alloc (Nat.le_refl _) _
  replace q0 := Lib.hid q0; replace q1 := Lib.hid q1; replace q2 := Lib.hid q2; replace hb0 := Lib.hid hb0
  clear hrow
  go_enter Tryd.func12, Tryd.ntmps12
  go_wp2
  refine wp_region_still_tail 9 (by kernel_rfl) (by kernel_rfl) ?_
  simp only [List.take_succ_cons, List.take_zero, List.drop_succ_cons, List.drop_zero]
  change wpStill _ _ (w.alloc (.cells #[.string ⟨#[]⟩, .string ⟨#[]⟩] 25)).drew _ _ _
  repeat still_step
  try refine wpStill_nil ?_
  change wpList _ _ _ _ _ (World.drew _)
  go_wp2_with fail
  replace q0 := q0.out; replace q1 := q1.out; replace q2 := q2.out
  rw [World.cell?_drew] at q0 q1
  refine bodyPost_ret (by simp [results, Tryd.results12, go_sem, q0, q1, q2]; try rfl) rfl ?_
  exact ⟨by first | rfl | rw [hk], ((Below.refl _ w).alloc (Nat.le_refl _) _).drew⟩
theorem sawake_any (w : World) (hT : SaltAt w salts) : Calls Tryd.prog 16 #[] w fun e w' => e = .returned (.bool true) ∧ Below w.heap.size w w' := by
  have c1 : ∀ w', Calls Tryd.prog 12 #[.string ⟨#[107]⟩] w' fun e w2 => e = .returned (.agg #[.string (chacha.keyOf ⟨#[107]⟩), .string (str (tag50 ⟨#[107]⟩))]) ∧ Below w'.heap.size w' w2 := fun w' => skeys_any ⟨#[107]⟩ (by show 1 ≤ reachBytes; unfold reachBytes; decide) w'
  have c2 : ∀ w', Calls Tryd.prog 14 #[.string ⟨#[110]⟩] w' fun e w2 => e = .returned (.string (str (nonceL ⟨#[110]⟩))) ∧ Below w'.heap.size w' w2 := fun w' => snonce_any ⟨#[110]⟩ (by show 1 ≤ reachBytes; unfold reachBytes; decide) w'
  have kl := chacha.keyOf_size ⟨#[107]⟩
  have gl := tag50_len ⟨#[107]⟩
  have nl := nonceL_len ⟨#[110]⟩
  obtain ⟨K, hK⟩ : ∃ K, K = chacha.keyOf ⟨#[107]⟩ := ⟨_, rfl⟩
  obtain ⟨G, hG⟩ : ∃ K, K = tag50 ⟨#[107]⟩ := ⟨_, rfl⟩
  obtain ⟨no, hno⟩ : ∃ K, K = nonceL ⟨#[110]⟩ := ⟨_, rfl⟩
  rw [← hK] at kl c1
  rw [← hG] at gl c1
  rw [← hno] at nl c2
  clear hK hG hno
  have c3 : ∀ w', SaltAt w' salts → Calls Tryd.prog 13 #[.agg #[.string K, .string (str G)], .int .i64 3, .string (str no), .string ⟨#[116, 101, 120, 116]⟩] w' fun e w2 => e = .returned (.string (str (sealL K G 3 no [116, 101, 120, 116]))) ∧ Below w'.heap.size w' w2 := fun w' h => put_any K G no [116, 101, 120, 116] 3 3 rfl (by decide) kl (by omega) nl (by decide) w' h
  have c4 : ∀ w', SaltAt w' salts → Calls Tryd.prog 15 #[.agg #[.string K, .string (str G)], .int .i64 3, .string (str no), .string (str (sealL K G 3 no [116, 101, 120, 116]))] w' fun e w2 => e = .returned (.tuple #[.string ⟨#[116, 101, 120, 116]⟩, .int .i64 0]) ∧ Below w'.heap.size w' w2 := fun w' h => get_put K G no [116, 101, 120, 116] 3 3 rfl (by decide) kl (by omega) nl (by decide) w' h
  obtain ⟨S, hS⟩ : ∃ V, V = str (sealL K G 3 no [116, 101, 120, 116]) := ⟨_, rfl⟩
  rw [← hS] at c3 c4
  clear hS kl gl nl
  have hbb : Below w.heap.size w w := Below.refl _ _
  replace hbb := Lib.hid hbb
  replace c1 := Lib.hid c1; replace c2 := Lib.hid c2; replace c3 := Lib.hid c3; replace c4 := Lib.hid c4; replace hT := Lib.hid hT
  go_enter Tryd.func16, Tryd.ntmps16
  go_wp2_with (first
    | (go_at_call 12; (with_reducible refine (c1.out _).mono ?_); rintro e w1 ⟨rfl, b1⟩; replace hbb := Lib.hid (belowCont hbb.out b1); clear b1)
    | (go_at_call 14; (with_reducible refine (c2.out _).mono ?_); rintro e w1 ⟨rfl, b1⟩; replace hbb := Lib.hid (belowCont hbb.out b1); clear b1)
    | (go_at_call 13; (with_reducible refine (c3.out _ (hT.out.keep hbb.out)).mono ?_); rintro e w1 ⟨rfl, b1⟩; replace hbb := Lib.hid (belowCont hbb.out b1); clear b1)
    | (go_at_call 15; (with_reducible refine (c4.out _ (hT.out.keep hbb.out)).mono ?_); rintro e w1 ⟨rfl, b1⟩; replace hbb := Lib.hid (belowCont hbb.out b1); clear b1))
  all_goals go_ret
  all_goals exact ⟨rfl, hbb.out⟩
end Go.Proofs.YtmllmnnglkimkaaDoor.sha
