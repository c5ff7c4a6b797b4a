/- [Block] Blocks' bytes as lists: what is sealed, and what is read of it. No condition. [Block2] Put of a block: the code's and the document's. The table of salts is a premise. No other condition. [Block3] What a block's head says, and what is read of a block. The table of salts is a premise. No other condition. [Block4] What is read of a block: block.Get of any bytes. The table of salts is a premise. No other condition. [Block5] What is read of a block, as the document says: lodestoneref11.Get of any bytes. No condition. [Block6] What is read of a block, as the document says: the walk. No condition. [Block7] What is read of a block, by the code and by the document: the same; the laws' awake. The table of salts is a premise. No other condition. -/
import Derived.Test.YtcdcipfojfnblaaGreatDoorSealRef
import Derived.Test.YtcdcipfojfnblaaGreatDoorKeys
import Derived.Test.YtcdcipfojfnblaaGreatDoorCodeBig
import Derived.Lib.TrimByte
import Derived.Lib.Repeat
import Derived.Test.YtcdcipfojfnblaaGreatDoorShelf
import Derived.StillTailTactics
import Derived.Deep.RegionHeld3
import Derived.Test.YtcdcipfojfnblaaGreatDoorHp
import Derived.Deep.QuietTactic
import Derived.BigQuiet
import Derived.Test.YtcdcipfojfnblaaGreatDoorRefRd
import Derived.Laws.StructEq
/-! ## Block -/
section
namespace Go.Proofs.YtcdcipfojfnblaaGreatDoor.sha
open Go.RowKit
set_option linter.unusedVariables false
set_option maxRecDepth 100000

theorem rep_zero : ∀ n, Lib.repeatL [0] n = List.replicate n (0 : UInt8)
  | 0 => rfl
  | n + 1 => by rw [Lib.repeatL, rep_zero n]; rfl
theorem dw_nil (p : UInt8 → Bool) : ∀ l : List UInt8, l.dropWhile p = [] ↔ ∀ x ∈ l, p x = true
  | [] => by simp
  | a :: r => by
    rw [List.dropWhile_cons]
    cases h : p a with
    | true => simp [h, dw_nil p r]
    | false => simp [h]
theorem dw_head (p : UInt8 → Bool) : ∀ (l : List UInt8) (a : UInt8) (r : List UInt8), l.dropWhile p = a :: r → p a = false
  | [], _, _, h => by simp at h
  | b :: t, a, r, h => by
    rw [List.dropWhile_cons] at h
    cases hb : p b with
    | true => rw [hb] at h; exact dw_head p t a r h
    | false => rw [hb] at h; simp at h; rw [← h.1]; exact hb
theorem trim_nil (l : List UInt8) : Lib.trimB l 0 = [] ↔ ∀ x ∈ l, x = 0 := by
  unfold Lib.trimB Lib.trimLeftB Lib.trimRightB
  rw [dw_nil]
  constructor
  · intro h x hx
    have h2 : l.reverse.dropWhile (· == 0) = [] := by
      cases e : l.reverse.dropWhile (· == 0) with
      | nil => rfl
      | cons a r =>
        have h3 := dw_head _ _ _ _ e
        have h4 := h a (by rw [List.mem_reverse, e]; simp)
        rw [h3] at h4; cases h4
    have h5 := (dw_nil _ _).1 h2 x (List.mem_reverse.2 hx)
    simpa using h5
  · intro h x hx
    have : x ∈ l := by
      have := List.mem_reverse.1 hx
      have := (List.dropWhile_sublist _).mem this
      exact List.mem_reverse.1 this
    simp [h x this]

theorem be_code (k n : Nat) : code.beL k n = high.beL k n := rfl
theorem beL_two (n : Nat) : high.beL 2 n = [UInt8.ofNat (n / 256 % 256), UInt8.ofNat (n % 256)] := by
  simp [high.beL, List.range_succ]
/-- a block's nonce -/
def nonceB (c i : Nat) : List UInt8 := high.beL 8 c ++ high.beL 4 i
theorem nonceB_len (c i : Nat) : (nonceB c i).length = 12 := by simp [nonceB, high.beL_length]
/-- what is turned -/
def plainB (s : List UInt8) : List UInt8 := high.beL 2 s.length ++ (s ++ List.replicate (462 - s.length) 0)
theorem plainB_len (s : List UInt8) (h : s.length ≤ 462) : (plainB s).length = 464 := by simp [plainB, high.beL_length]; omega
/-- a block -/
def blockB (m : List UInt8) (e c i p : Nat) (s : List UInt8) : List UInt8 := high.beL 4 e ++ (nonceB c i ++ sealL (str (keyT m e)) (keyG m e) p (nonceB c i) (plainB s))
theorem blockB_len (m : List UInt8) (e c i p : Nat) (s : List UInt8) (h : s.length ≤ 462) : (blockB m e c i p s).length = 512 := by
  simp [blockB, high.beL_length, nonceB_len, sealL_len, plainB_len s h]
/-- what a plain text holds -/
def unplain (t : List UInt8) : Option (List UInt8) :=
  if (t.getD 0 0).toNat * 256 + (t.getD 1 0).toNat ≤ 462 ∧ ∀ x ∈ t.drop (2 + ((t.getD 0 0).toNat * 256 + (t.getD 1 0).toNat)), x = 0 then some ((t.drop 2).take ((t.getD 0 0).toNat * 256 + (t.getD 1 0).toNat)) else none
theorem plain_num (s : List UInt8) (h : s.length ≤ 462) : ((plainB s).getD 0 0).toNat * 256 + ((plainB s).getD 1 0).toNat = s.length := by
  simp [plainB, beL_two] <;> omega
theorem unplain_plain (s : List UInt8) (h : s.length ≤ 462) : unplain (plainB s) = some s := by
  have h2 : ∀ r : List UInt8, (high.beL 2 s.length ++ r).drop 2 = r := fun r => by
    rw [beL_two]; rfl
  have h3 : (plainB s).drop 2 = s ++ List.replicate (462 - s.length) 0 := h2 _
  have hz : ∀ x ∈ (plainB s).drop (2 + s.length), x = 0 := by
    intro x hx
    rw [← List.drop_drop, h3] at hx
    simp at hx
    exact hx.2
  unfold unplain
  rw [plain_num s h, if_pos ⟨h, hz⟩, h3, List.take_left']
  rfl
/-- a block's head, and what it says at a place: text and error -/
def headB (x : List UInt8) : Nat × Nat × Nat := (code.beNat (x.take 4), code.beNat ((x.drop 4).take 8), code.beNat ((x.drop 12).take 4))
structure Got where
  e : Nat
  c : Nat
  i : Nat
  s : List UInt8
  err : Nat
def Got.val (g : Got) : Value := .tuple #[.agg #[.int .u32 (g.e : Int), .int .u64 (g.c : Int), .int .u32 (g.i : Int)], .string (str g.s), .int .i64 (g.err : Int)]
def getB (m : List UInt8) (p : Nat) (x : List UInt8) : Got :=
  if x.length = 512 then
    if x.drop 480 = stagL (keyG m (headB x).1) p ((x.drop 4).take 12) ((x.drop 16).take 464) then
      match unplain (turnL (str (keyT m (headB x).1)) ((x.drop 4).take 12) ((x.drop 16).take 464)) with
      | some s => ⟨(headB x).1, (headB x).2.1, (headB x).2.2, s, 0⟩
      | none => ⟨0, 0, 0, [], 3⟩
    else ⟨0, 0, 0, [], 100⟩
  else ⟨0, 0, 0, [], 2⟩
theorem take_of_app {α : Type} (a b : List α) (n : Nat) (h : a.length = n) : (a ++ b).take n = a := by subst h; simp
theorem drop_of_app {α : Type} (a b : List α) (n : Nat) (h : a.length = n) : (a ++ b).drop n = b := by subst h; simp
/-- a block that was put is read again -/
theorem get_block (m : List UInt8) (e c i p : Nat) (s : List UInt8) (he : e < 4294967296) (hc : c < 18446744073709551616) (hi : i < 4294967296) (h : s.length ≤ 462) : getB m p (blockB m e c i p s) = ⟨e, c, i, s, 0⟩ := by
  have hl := blockB_len m e c i p s h
  have d4 : (blockB m e c i p s).drop 4 = nonceB c i ++ sealL (str (keyT m e)) (keyG m e) p (nonceB c i) (plainB s) := drop_of_app _ _ _ (high.beL_length 4 e)
  have n12 : ((blockB m e c i p s).drop 4).take 12 = nonceB c i := by rw [d4]; exact take_of_app _ _ _ (nonceB_len c i)
  have d16 : (blockB m e c i p s).drop 16 = sealL (str (keyT m e)) (keyG m e) p (nonceB c i) (plainB s) := by
    rw [show (16 : Nat) = 4 + 12 from rfl, ← List.drop_drop, d4]; exact drop_of_app _ _ _ (nonceB_len c i)
  have tl : (turnL (str (keyT m e)) (nonceB c i) (plainB s)).length = 464 := by rw [turnL_len, plainB_len s h]
  have t464 : ((blockB m e c i p s).drop 16).take 464 = turnL (str (keyT m e)) (nonceB c i) (plainB s) := by rw [d16, sealL]; exact take_of_app _ _ _ tl
  have d480 : (blockB m e c i p s).drop 480 = stagL (keyG m e) p (nonceB c i) (turnL (str (keyT m e)) (nonceB c i) (plainB s)) := by
    rw [show (480 : Nat) = 16 + 464 from rfl, ← List.drop_drop, d16, sealL]; exact drop_of_app _ _ _ tl
  have h1 : (headB (blockB m e c i p s)).1 = e := by
    show code.beNat ((blockB m e c i p s).take 4) = e
    rw [blockB, take_of_app _ _ _ (high.beL_length 4 e), ← be_code, code.beNat_beL]; exact Nat.mod_eq_of_lt he
  have h2 : (headB (blockB m e c i p s)).2.1 = c := by
    show code.beNat (((blockB m e c i p s).drop 4).take 8) = c
    rw [d4, nonceB, List.append_assoc, take_of_app _ _ _ (high.beL_length 8 c), ← be_code, code.beNat_beL]; exact Nat.mod_eq_of_lt hc
  have h3 : (headB (blockB m e c i p s)).2.2 = i := by
    show code.beNat (((blockB m e c i p s).drop 12).take 4) = i
    rw [show (12 : Nat) = 4 + 8 from rfl, ← List.drop_drop, d4, nonceB, List.append_assoc, drop_of_app _ _ _ (high.beL_length 8 c), take_of_app _ _ _ (high.beL_length 4 i), ← be_code, code.beNat_beL]; exact Nat.mod_eq_of_lt hi
  unfold getB
  rw [if_pos hl, h1, h2, h3, n12, t464, d480, if_pos rfl, turnL_twice, unplain_plain s h]
end Go.Proofs.YtcdcipfojfnblaaGreatDoor.sha
end
/-! ## Block2 -/
section
namespace Go.Proofs.YtcdcipfojfnblaaGreatDoor.sha
open Go.RowKit
attribute [local go_sem ↓] Go.wp_at_zero Go.wp_at_succ
attribute [local go_sem] str_size str_append
set_option linter.unusedVariables false
set_option maxRecDepth 100000

/-- block g is a head's box -/
structure HeadAt (w : World) (g e c i : Nat) (w' : World) : Prop where
  row : w'.heap[g]? = some (.cells #[.int .u32 (e : Int), .int .u64 (c : Int), .int .u32 (i : Int)] 59 (0, 0))
  lo : w.heap.size ≤ g
  bel : Below w.heap.size w w'
  salt : SaltAt w' salts
namespace HeadAt
variable {w w' w'' : World} {g e c i : Nat}
theorem next (h : HeadAt w g e c i w') (b : Below w'.heap.size w' w'') : HeadAt w g e c i w'' :=
  ⟨(b.block _ (block_lt h.row)).trans h.row, h.lo, belowCont h.bel b, h.salt.keep b⟩
theorem drew (h : HeadAt w g e c i w') : HeadAt w g e c i w'.drew := ⟨h.row, h.lo, h.bel.drew, h.salt.keep (Below.refl _ _).drew⟩
theorem c0 (h : HeadAt w g e c i w') : w'.cell? ⟨g, 0, none⟩ = some (.int .u32 (e : Int)) := cell_of_row _ _ 0 _ _ _ h.row
theorem c1 (h : HeadAt w g e c i w') : w'.cell? ⟨g, 1, none⟩ = some (.int .u64 (c : Int)) := cell_of_row _ _ 1 _ _ _ h.row
theorem c2 (h : HeadAt w g e c i w') : w'.cell? ⟨g, 2, none⟩ = some (.int .u32 (i : Int)) := cell_of_row _ _ 2 _ _ _ h.row
theorem free (h : HeadAt w g e c i w') (k : Nat) : w'.frozen? ⟨g, k, none⟩ = false := by have := h.row; simp [World.frozen?, this]
theorem box (w : World) (e c i : Nat) (hT : SaltAt w salts) : HeadAt w w.heap.size e c i (w.alloc (.cells #[.int .u32 (e : Int), .int .u64 (c : Int), .int .u32 (i : Int)] 59)) :=
  ⟨heap_alloc_new w _, Nat.le_refl _, (Below.refl _ w).alloc (Nat.le_refl _) _, hT.keep ((Below.refl _ w).alloc (Nat.le_refl _) _)⟩
end HeadAt
theorem conv_two (W : World) (a b : Int) : (convert 70 9 (.slice (some ⟨W.heap.size, 0, none⟩) 2 2)).run Tryz.prog (W.alloc (.cells #[.int .u8 a, .int .u8 b] 5)) = .ok (.string (str [UInt8.ofNat a.toNat, UInt8.ofNat b.toNat])) (W.alloc (.cells #[.int .u8 a, .int .u8 b] 5)) := by
  rw [run_convert_bytes_arg (P := Tryz.prog) (W.alloc (.cells #[.int .u8 a, .int .u8 b] 5)) 70 5 Tryz.underlying70 Tryz.underlying5 W.heap.size 0 2 2 [a, b] rfl (fun i hi => by
    have : i = 0 ∨ i = 1 := by omega
    rcases this with rfl | rfl
    · exact newCell W _ _ 0
    · exact newCell W _ _ 1) 9 Tryz.underlying9]
  rfl
theorem conv_two_in (W : World) (o : Obj) (a b : Int) : (convert 70 9 (.slice (some ⟨W.heap.size + 1, 0, none⟩) 2 2)).run Tryz.prog ((W.alloc o).alloc (.cells #[.int .u8 a, .int .u8 b] 5)) = .ok (.string (str [UInt8.ofNat a.toNat, UInt8.ofNat b.toNat])) ((W.alloc o).alloc (.cells #[.int .u8 a, .int .u8 b] 5)) := by
  have := conv_two (W.alloc o) a b
  rwa [show (W.alloc o).heap.size = W.heap.size + 1 by simp] at this
theorem repeat_any (k : Nat) (hk : k ≤ 462) (w : World) : Calls Tryz.prog 59 #[.string ⟨#[0]⟩, .int .i64 (k : Int)] w fun e w' => e = .returned (.string (str (List.replicate k 0))) ∧ Below w.heap.size w w' := by
  have h := Tryz.strings_Repeat ⟨#[0]⟩ k w (by omega) (by show 1 * k ≤ _; omega)
  have e : (⟨(Lib.repeatL (⟨#[0]⟩ : ByteArray).data.toList k).toArray⟩ : ByteArray) = str (List.replicate k 0) := by
    show (⟨(Lib.repeatL [0] k).toArray⟩ : ByteArray) = _
    rw [rep_zero]; rfl
  rwa [e] at h
theorem bput_many (m s : ByteArray) (e c i p : Int) (hs : 462 < s.size) (w : World) :
    Calls Tryz.prog 41 #[.string m, .agg #[.int .u32 e, .int .u64 c, .int .u32 i], .int .i64 p, .string s] w fun e w' => e = .returned (.string ⟨#[]⟩) ∧ Below w.heap.size w w' := by
  have h : (462 : Int) < (s.size : Int) := by omega
  clear hs
  go_enter Tryz.func41, Tryz.ntmps41
  go_wp2
  go_ret
  exact ⟨rfl, (Below.refl _ _).alloc (Nat.le_refl _) _⟩
attribute [local go_sem] conv_two conv_two_in
set_option maxHeartbeats 1000000 in
theorem bput_any (m s : List UInt8) (e c i p : Nat) (pl : Int) (hw : IntKind.u32.wrap pl = (p : Int)) (hp : p < 4294967296) (he : e < 4294967296) (hc : c < 18446744073709551616) (hi : i < 4294967296) (hm : m.length ≤ 1000000) (hs : s.length ≤ 462) (w : World) (hT : SaltAt w salts) :
    Calls Tryz.prog 41 #[.string (str m), .agg #[.int .u32 (e : Int), .int .u64 (c : Int), .int .u32 (i : Int)], .int .i64 pl, .string (str s)] w fun e' w' => e' = .returned (.string (str (blockB m e c i p s))) ∧ Below w.heap.size w w' := by
  have hS := sealL_len (str (keyT m e)) (keyG m e) p (nonceB c i) (plainB s)
  rw [plainB_len s hs] at hS
  have hans : blockB m e c i p s = high.beL 4 e ++ (high.beL 8 c ++ (high.beL 4 i ++ sealL (str (keyT m e)) (keyG m e) p (nonceB c i) (plainB s))) := by rw [blockB]; show high.beL 4 e ++ ((high.beL 8 c ++ high.beL 4 i) ++ sealL (str (keyT m e)) (keyG m e) p (nonceB c i) (plainB s)) = _; rw [List.append_assoc]
  rw [hans]
  have c1 : ∀ w', Calls Tryz.prog 65 #[.int .u32 (e : Int)] w' fun e' w2 => e' = .returned (.string (str (high.beL 4 e))) ∧ Below w'.heap.size w' w2 := fun w' => code.small_put e he w'
  have c2 : ∀ w', Calls Tryz.prog 65 #[.int .u32 (i : Int)] w' fun e' w2 => e' = .returned (.string (str (high.beL 4 i))) ∧ Below w'.heap.size w' w2 := fun w' => code.small_put i hi w'
  have c3 : ∀ w', Calls Tryz.prog 64 #[.int .u64 (c : Int)] w' fun e' w2 => e' = .returned (.string (str (high.beL 8 c))) ∧ Below w'.heap.size w' w2 := fun w' => code.big_put c w'
  have c4 := fun w' h => keys_any m e he hm w' h
  have c5 : ∀ w', SaltAt w' salts → Calls Tryz.prog 66 #[.agg #[.string (str (keyT m e)), .string (str (keyG m e))], .int .i64 pl, .string (str (high.beL 8 c ++ high.beL 4 i)), .string (str (plainB s))] w' fun e' w2 => e' = .returned (.string (str (sealL (str (keyT m e)) (keyG m e) p (nonceB c i) (plainB s)))) ∧ Below w'.heap.size w' w2 :=
    fun w' h => put_any (str (keyT m e)) (keyG m e) (nonceB c i) (plainB s) pl p hw hp (by rw [str_size, keyT_len]) (by rw [keyG_len]; omega) (nonceB_len c i) (by rw [plainB_len s hs]; omega) w' h
  generalize sealL (str (keyT m e)) (keyG m e) p (nonceB c i) (plainB s) = S at *
  have hk3 : (List.replicate (462 - s.length) (0 : UInt8)).length = 462 - s.length := List.length_replicate
  have c6 := fun w' => repeat_any (462 - s.length) (by omega) w'
  have hpl : plainB s = UInt8.ofNat (s.length / 256) :: UInt8.ofNat (s.length % 256) :: (s ++ List.replicate (462 - s.length) 0) := by
    rw [plainB, beL_two, Nat.mod_eq_of_lt (show s.length / 256 < 256 by omega)]; simp
  have hk2 : (462 : Int) - (s.length : Int) = ((462 - s.length : Nat) : Int) := by omega
  rw [hpl] at c5
  clear hpl
  generalize List.replicate (462 - s.length) (0 : UInt8) = R at *
  have hE := high.beL_length 4 e
  have hC := high.beL_length 8 c
  have hI := high.beL_length 4 i
  generalize high.beL 4 e = E4 at *
  generalize high.beL 8 c = C8 at *
  generalize high.beL 4 i = I4 at *
  generalize str (keyT m e) = T0 at *
  generalize str (keyG m e) = G0 at *
  generalize str m = M0 at *
  clear hw hp he hc hi hm hans
  have hs2 : ¬ (462 : Int) < (s.length : Int) := by omega
  have hs3 : ¬ 9223372036854775807 < 2 + s.length := by omega
  have hs4 : ¬ 9223372036854775807 < 2 + s.length + (462 - s.length) := by omega
  generalize 462 - s.length = k at *
  have hq := HeadAt.box w e c i hT
  replace c1 := Lib.hid c1; replace c2 := Lib.hid c2; replace c3 := Lib.hid c3; replace c4 := Lib.hid c4; replace c5 := Lib.hid c5; replace c6 := Lib.hid c6; replace hq := Lib.hid hq; replace hT := Lib.hid hT
  go_enter Tryz.func41, Tryz.ntmps41
  go_upto_region 4 with fail
  have hW := hq.out.next ((Below.refl _ _).alloc (Nat.le_refl _) (.cells #[.int .u8 ((s.length : Int) / 256), .int .u8 ((s.length : Int) % 256)] 5))
  generalize (World.alloc _ (Obj.cells #[.int .u8 ((s.length : Int) / 256), .int .u8 ((s.length : Int) % 256)] 5)) = W at *
  replace hW := Lib.hid hW
  generalize w.heap.size = g at *
  go_upto_region 5 with (go_at_call 59; (with_reducible refine (c6.out _).mono ?_); rintro e w1 ⟨rfl, b1⟩; replace hW := Lib.hid (hW.out.next b1); clear b1)
  generalize UInt8.ofNat (s.length / 256) :: UInt8.ofNat (s.length % 256) :: (s ++ R) = P at *
  generalize s.length = n at *
  clear hs hs2 hs3 hs4 hk2 hk3
  have hr1 : ¬ 9223372036854775807 < C8.length + I4.length := by omega
  have hr2 : ¬ 9223372036854775807 < E4.length + (C8.length + I4.length) := by omega
  have hr3 : ¬ 9223372036854775807 < E4.length + (C8.length + I4.length) + S.length := by omega
  have d0 := hW.out.c0
  have d1 := hW.out.c1
  have d2 := hW.out.c2
  go_region_held3 (fun w' => HeadAt w g e c i w' ∧ w'.cell? ⟨g, 1, none⟩ = some (.int .u64 (c : Int)) ∧ w'.cell? ⟨g, 2, none⟩ = some (.int .u32 (i : Int)))
    (first | exact ⟨hW.out.drew, hW.out.c1, hW.out.c2⟩ | (go_split_ands; have hq := HeadAt.next (by assumption) (by assumption); exact ⟨hq, hq.c1, hq.c2⟩))
    (first | (go_at_call 64; (with_reducible refine (c3.out _).mono ?_); rintro e w1 ⟨rfl, hb⟩) | (go_at_call 65; (with_reducible refine (c2.out _).mono ?_); rintro e w1 ⟨rfl, hb⟩))
  go_split_ands
  replace hW := Lib.hid (show HeadAt w g e c i w1 by assumption)
  clear d0 d1 d2
  go_upto_region 6 with fail
  go_region_held3 (fun w' => HeadAt w g e c i w' ∧ w'.cell? ⟨g, 0, none⟩ = some (.int .u32 (e : Int)))
    (first | exact ⟨hW.out.drew, hW.out.c0⟩ | (go_split_ands; have hq := HeadAt.next (by assumption) (by assumption); exact ⟨hq, hq.c0⟩))
    (first | (go_at_call 65; (with_reducible refine (c1.out _).mono ?_); rintro e w1 ⟨rfl, hb⟩) | (go_at_call 67; (with_reducible refine (c4.out _ (HeadAt.salt (by go_split_ands; assumption))).mono ?_); rintro e w1 ⟨rfl, hb⟩) | (go_at_call 66; (with_reducible refine (c5.out _ (HeadAt.salt (by go_split_ands; assumption))).mono ?_); rintro e w1 ⟨rfl, hb⟩))
  all_goals go_wp2
  all_goals go_ret
  all_goals (go_split_ands; exact ⟨rfl, HeadAt.bel (by assumption)⟩)
/-! ### the document's -/
theorem rput_any (m s : List UInt8) (e c i p : Nat) (pl : Int) (hw : IntKind.u32.wrap pl = (p : Int)) (hp : p < 4294967296) (he : e < 4294967296) (hc : c < 18446744073709551616) (hi : i < 4294967296) (hm : m.length ≤ 1000000) (hs : s.length ≤ 462) (w : World) (hT : SaltAt w salts) :
    Calls Tryz.prog 26 #[.string (str m), .agg #[.int .u32 (e : Int), .int .u64 (c : Int), .int .u32 (i : Int)], .int .i64 pl, .string (str s)] w fun e' w' => e' = .returned (.string (str (blockB m e c i p s))) ∧ Below w.heap.size w w' := by
  have hS := sealL_len (str (keyT m e)) (keyG m e) p (nonceB c i) (plainB s)
  rw [plainB_len s hs] at hS
  have hans : blockB m e c i p s = high.beL 4 e ++ (high.beL 8 c ++ (high.beL 4 i ++ sealL (str (keyT m e)) (keyG m e) p (nonceB c i) (plainB s))) := by rw [blockB]; show high.beL 4 e ++ ((high.beL 8 c ++ high.beL 4 i) ++ sealL (str (keyT m e)) (keyG m e) p (nonceB c i) (plainB s)) = _; rw [List.append_assoc]
  rw [hans]
  have w1 : IntKind.u64.wrap (e : Int) = (e : Int) := IntWalk.u64_in _ (by omega)
  have w2 : IntKind.u64.wrap (i : Int) = (i : Int) := IntWalk.u64_in _ (by omega)
  have w3 : IntKind.u64.wrap (s.length : Int) = (s.length : Int) := IntWalk.u64_in _ (by omega)
  have c1 : ∀ w', Calls Tryz.prog 55 #[.int .u64 (e : Int), .int .i64 4] w' fun e' w2 => e' = .returned (.string (str (high.beL 4 e))) ∧ Below w'.heap.size w' w2 := fun w' => high.refHigh_any e 4 (by omega) (by omega) w'
  have c2 : ∀ w', Calls Tryz.prog 55 #[.int .u64 (i : Int), .int .i64 4] w' fun e' w2 => e' = .returned (.string (str (high.beL 4 i))) ∧ Below w'.heap.size w' w2 := fun w' => high.refHigh_any i 4 (by omega) (by omega) w'
  have c3 : ∀ w', Calls Tryz.prog 55 #[.int .u64 (c : Int), .int .i64 8] w' fun e' w2 => e' = .returned (.string (str (high.beL 8 c))) ∧ Below w'.heap.size w' w2 := fun w' => high.refHigh_any c 8 (by omega) (by omega) w'
  have c6 : ∀ w', Calls Tryz.prog 55 #[.int .u64 (s.length : Int), .int .i64 2] w' fun e' w2 => e' = .returned (.string (str (high.beL 2 s.length))) ∧ Below w'.heap.size w' w2 := fun w' => high.refHigh_any s.length 2 (by omega) (by omega) w'
  have c4 := fun w' => rkeys_any m e he hm w'
  have c5 : ∀ w', Calls Tryz.prog 57 #[.string (str (keyT m e)), .string (str (keyG m e)), .int .i64 pl, .string (str (high.beL 8 c ++ high.beL 4 i)), .string (str (plainB s))] w' fun e' w2 => e' = .returned (.string (str (sealL (str (keyT m e)) (keyG m e) p (nonceB c i) (plainB s)))) ∧ Below w'.heap.size w' w2 :=
    fun w' => rseal_any (str (keyT m e)) (keyG m e) (nonceB c i) (plainB s) pl p hw hp (by rw [str_size, keyT_len]) (by rw [keyG_len]; omega) (nonceB_len c i) (by rw [plainB_len s hs]; omega) w'
  have hP0 : (high.beL 2 s.length ++ s).length = 2 + s.length := by rw [List.length_append, high.beL_length]
  have hP : plainB s = (high.beL 2 s.length ++ s) ++ List.replicate (462 - s.length) 0 := by rw [plainB, List.append_assoc]
  have hPl := plainB_len s hs
  have hB2 := high.beL_length 2 s.length
  generalize sealL (str (keyT m e)) (keyG m e) p (nonceB c i) (plainB s) = S at *
  have hE := high.beL_length 4 e
  have hC := high.beL_length 8 c
  have hI := high.beL_length 4 i
  generalize high.beL 4 e = E4 at *
  generalize high.beL 8 c = C8 at *
  generalize high.beL 4 i = I4 at *
  generalize high.beL 2 s.length = L2 at *
  generalize str (keyT m e) = T0 at *
  generalize str (keyG m e) = G0 at *
  generalize str m = M0 at *
  generalize plainB s = P at *
  clear hw hp he hc hi hm hans
  have hs3 : ¬ 9223372036854775807 < L2.length + s.length := by omega
  have hq := HeadAt.box w e c i hT
  replace c1 := Lib.hid c1; replace c2 := Lib.hid c2; replace c3 := Lib.hid c3; replace c4 := Lib.hid c4; replace c5 := Lib.hid c5; replace c6 := Lib.hid c6; replace hq := Lib.hid hq; replace hT := Lib.hid hT; replace hP := Lib.hid hP; replace hPl := Lib.hid hPl
  go_enter Tryz.func26, Tryz.ntmps26
  go_upto_region 1 with fail
  generalize w.heap.size = g at *
  have hW := hq
  clear hq
  generalize World.alloc w _ = W at *
  have d1 := hW.out.c1
  have d2 := hW.out.c2
  have hr1 : ¬ 9223372036854775807 < C8.length + I4.length := by omega
  go_region_held3 (fun w' => HeadAt w g e c i w' ∧ w'.cell? ⟨g, 1, none⟩ = some (.int .u64 (c : Int)) ∧ w'.cell? ⟨g, 2, none⟩ = some (.int .u32 (i : Int)))
    (first | exact ⟨hW.out.drew, hW.out.c1, hW.out.c2⟩ | (go_split_ands; have hq := HeadAt.next (by assumption) (by assumption); exact ⟨hq, hq.c1, hq.c2⟩))
    (first | (go_at_call 55; first | ((with_reducible refine (c3.out _).mono ?_); rintro e w1 ⟨rfl, hb⟩) | ((with_reducible refine (c2.out _).mono ?_); rintro e w1 ⟨rfl, hb⟩)))
  go_split_ands
  replace hW := Lib.hid (show HeadAt w g e c i w1 by assumption)
  clear d1 d2
  have d0 := hW.out.c0
  go_upto_region 4 with (first
    | (go_at_call 56; (with_reducible refine (c4.out _).mono ?_); rintro e w1 ⟨rfl, b1⟩; replace hW := Lib.hid (hW.out.next b1); clear b1)
    | (go_at_call 55; (with_reducible refine (c6.out _).mono ?_); rintro e w1 ⟨rfl, b1⟩; replace hW := Lib.hid (hW.out.next b1); clear b1))
  have hs5 : (L2 ++ s).length = 2 + s.length := hP0
  replace hP := hP.out
  have hPl := hPl.out
  generalize hQ : L2 ++ s = Q at *
  replace hQ := Lib.hid hQ
  go_loop [12] (fun t => ∃ k : Nat, k ≤ 462 - s.length ∧ t = .string (str (Q ++ List.replicate k 0))) (fun t => 464 - Lib.strSize t)
  case atStart => exact ⟨0, by omega, by simp [hQ.out]⟩
  case round =>
    obtain ⟨k, hk, rfl⟩ := hrel
    obtain ⟨Z, hZ⟩ : ∃ Z, Z = Q ++ List.replicate k (0 : UInt8) := ⟨_, rfl⟩
    have hl : Z.length = 2 + s.length + k := by rw [hZ, List.length_append, List.length_replicate, hs5]
    rw [← hZ]
    by_cases hlt : 2 + s.length + k < 464
    · have hno : ¬ 9223372036854775807 < Z.length + 1 := by omega
      have hlt2 : (Z.length : Int) < 464 := by omega
      have hstep : str Z ++ (⟨#[0]⟩ : ByteArray) = str (Q ++ List.replicate (k + 1) 0) := by
        rw [List.replicate_succ', ← List.append_assoc, ← hZ]; exact str_append Z [0]
      have hQl := Lib.hid hs5
      clear hP hPl hP0 hs5
      replace hl := Lib.hid hl; replace hZ := Lib.hid hZ
      go_wp2
      go_round
      case rel => exact ⟨k + 1, by omega, rfl⟩
      case measure => have := hQl.out; simp [Lib.strSize, str_size, hl.out]; omega
    · have hZP : Z = P := by rw [hZ, hP, show k = 462 - s.length by omega]
      rw [hZP] at hl ⊢
      have hr2 : ¬ 9223372036854775807 < E4.length + (C8.length + I4.length) := by omega
      have hr3 : ¬ 9223372036854775807 < E4.length + (C8.length + I4.length) + S.length := by omega
      have hlt2 : ¬ (P.length : Int) < 464 := by omega
      clear hl hZ hZP hk hlt hP hP0 hs5 hPl hs hs3 hQ d0
      have d0 := hW.out.c0
      go_wp2_with (first
        | (go_at_call 55; (with_reducible refine (c1.out _).mono ?_); rintro e w1 ⟨rfl, b1⟩; replace hW := Lib.hid (hW.out.next b1); clear b1; clear d0; have d0 := hW.out.c0)
        | (go_at_call 57; (with_reducible refine (c5.out _).mono ?_); rintro e w1 ⟨rfl, b1⟩; replace hW := Lib.hid (hW.out.next b1); clear b1))
      go_ret
      exact ⟨rfl, hW.out.bel⟩
end Go.Proofs.YtcdcipfojfnblaaGreatDoor.sha
end
/-! ## Block3 -/
section
namespace Go.Proofs.YtcdcipfojfnblaaGreatDoor.sha
open Go.RowKit
attribute [local go_sem ↓] Go.wp_at_zero Go.wp_at_succ
attribute [local go_sem] str_size
set_option linter.unusedVariables false
set_option maxRecDepth 100000

theorem head_results (tmps : Array Value) (W' : World) (g : Nat) (cs : Array Value) (er : Value) (h2 : tmps.getD 2 undef = .pointer (some ⟨g, 0, none⟩)) (h3 : tmps.getD 3 undef = er) (hg : W'.heap[g]? = some (.cells cs 59 (0, 0))) (hi : cs.size = 3) :
    (results Tryz.f21 tmps).run Tryz.prog W' = .ok (.tuple #[.agg cs, er]) W' := by
  have h2' : tmps[2]?.getD undef = .pointer (some ⟨g, 0, none⟩) := by simpa using h2
  have h3' : tmps[3]?.getD undef = er := by simpa using h3
  have hs : (Tryz.prog.info? 59).map (·.size) = some cs.size := by rw [hi]; kernel_rfl
  simp [results, Tryz.results21, h2', h3', asAddr, run_loadVar_row W' g 59 59 cs (0, 0) _ hg Tryz.underlying59 rfl hs]
/-- a row of three cells, all written -/
theorem row3 {W : World} {g : Nat} {a b c : Value} {t : TypeId} (h : W.heap[g]? = some (.cells #[a, b, c] t (0, 0))) (x y z : Value) :
    (((W.setCell ⟨g, 0, none⟩ x).setCell ⟨g, 1, none⟩ y).setCell ⟨g, 2, none⟩ z).heap[g]? = some (.cells #[x, y, z] t (0, 0)) := by
  simp [World.setCell, Array.getElem?_modify, h]
/-- the result's box, a reader behind it -/
structure HdAt (w : World) (l : List UInt8) (wx : World) : Prop where
  row : wx.heap[w.heap.size]? = some (.cells #[.int .u32 0, .int .u64 0, .int .u32 0] 59 (0, 0))
  rd : code.RdAt wx (w.heap.size + 1) l 0
  bel : Below w.heap.size w wx
theorem HdAt.next {w wx w2 : World} {l m : List UInt8} (h : HdAt w l wx) (hr : code.RdAt w2 (w.heap.size + 1) m 0) (k : Keeps [w.heap.size + 1] wx w2) : HdAt w m w2 :=
  ⟨(k.block _ (block_lt h.row) (by simp)).trans h.row, hr, h.bel.trans (k.below h.bel.size (by intro x hx; simp at hx; omega))⟩
theorem takeBe_in (k : Nat) (l : List UInt8) (h : k ≤ l.length) : code.takeBe k l = (code.beNat (l.take k), l.drop k, 0) := by unfold code.takeBe; rw [if_pos h]
theorem bhead_any (x : List UInt8) (hx : x.length = 512) (w : World) :
    Calls Tryz.prog 21 #[.string (str x)] w fun e' w' => e' = .returned (.tuple #[.agg #[.int .u32 ((headB x).1 : Int), .int .u64 ((headB x).2.1 : Int), .int .u32 ((headB x).2.2 : Int)], .int .i64 0]) ∧ Below w.heap.size w w' := by
  obtain ⟨e, he⟩ : ∃ e, e = (headB x).1 := ⟨_, rfl⟩
  obtain ⟨c, hc⟩ : ∃ e, e = (headB x).2.1 := ⟨_, rfl⟩
  obtain ⟨i, hi⟩ : ∃ e, e = (headB x).2.2 := ⟨_, rfl⟩
  have k1 : ∀ wx, HdAt w x wx → Calls Tryz.prog 47 #[.pointer (some ⟨w.heap.size + 1, 0, none⟩)] wx fun e' w2 => e' = .returned (.int .u32 (e : Int)) ∧ HdAt w (x.drop 4) w2 := fun wx h => by
    have := code.small_take h.rd
    rw [takeBe_in 4 x (by omega)] at this
    exact this.mono fun e' w2 ⟨h1, h2, h3⟩ => ⟨by rw [h1, he]; rfl, h.next h2 h3⟩
  have k2 : ∀ wx, HdAt w (x.drop 4) wx → Calls Tryz.prog 48 #[.pointer (some ⟨w.heap.size + 1, 0, none⟩)] wx fun e' w2 => e' = .returned (.int .u64 (c : Int)) ∧ HdAt w (x.drop 12) w2 := fun wx h => by
    have := code.big_take h.rd
    rw [takeBe_in 8 _ (by rw [List.length_drop]; omega), List.drop_drop] at this
    exact this.mono fun e' w2 ⟨h1, h2, h3⟩ => ⟨by rw [h1, hc]; rfl, h.next h2 h3⟩
  have k3 : ∀ wx, HdAt w (x.drop 12) wx → Calls Tryz.prog 47 #[.pointer (some ⟨w.heap.size + 1, 0, none⟩)] wx fun e' w2 => e' = .returned (.int .u32 (i : Int)) ∧ HdAt w (x.drop 16) w2 := fun wx h => by
    have := code.small_take h.rd
    rw [takeBe_in 4 _ (by rw [List.length_drop]; omega), List.drop_drop] at this
    exact this.mono fun e' w2 ⟨h1, h2, h3⟩ => ⟨by rw [h1, hi]; rfl, h.next h2 h3⟩
  have k0 : Calls Tryz.prog 46 #[.string (str x)] (w.alloc (.cells #[.int .u32 0, .int .u64 0, .int .u32 0] 59)) fun e' w2 => e' = .returned (.pointer (some ⟨w.heap.size + 1, 0, none⟩)) ∧ HdAt w x w2 :=
    (code.read_any (str x) _).mono fun e' w2 ⟨h1, h2, h3⟩ => by
      have h4 : (w.alloc (.cells #[.int .u32 0, .int .u64 0, .int .u32 0] 59)).heap.size = w.heap.size + 1 := by simp
      rw [h4] at h1 h2
      exact ⟨h1, (boxRow h3).1, h2, (boxRow h3).2.2.2⟩
  rw [← he, ← hc, ← hi]
  clear he hc hi
  generalize x.drop 4 = y at *
  generalize x.drop 12 = z at *
  generalize x.drop 16 = u at *
  replace k0 := Lib.hid k0; replace k1 := Lib.hid k1; replace k2 := Lib.hid k2; replace k3 := Lib.hid k3
  go_enter Tryz.func21, Tryz.ntmps21
  go_wp2_with (first
    | (go_at_call 46; (with_reducible refine (k0.out).mono ?_); rintro e w1 ⟨rfl, h1⟩; replace h1 := Lib.hid h1)
    | (go_at_call 47; (with_reducible refine (k1.out _ h1.out).mono ?_); rintro e w1 ⟨rfl, h2⟩; replace h2 := Lib.hid h2; clear h1)
    | (go_at_call 48; (with_reducible refine (k2.out _ h2.out).mono ?_); rintro e w1 ⟨rfl, h3⟩; replace h3 := Lib.hid h3; clear h2)
    | (go_at_call 47; (with_reducible refine (k3.out _ h3.out).mono ?_); rintro e w1 ⟨rfl, h4⟩; have hrow := h4.row; have d0 := cell_of_row _ _ 0 _ _ _ hrow; have d1 := cell_of_row _ _ 1 _ _ _ hrow; have d2 := cell_of_row _ _ 2 _ _ _ hrow; have f0 : w1.frozen? ⟨w.heap.size, 0, none⟩ = false := (by simp [World.frozen?, hrow]); have f1 : w1.frozen? ⟨w.heap.size, 1, none⟩ = false := (by simp [World.frozen?, hrow]); have f2 : w1.frozen? ⟨w.heap.size, 2, none⟩ = false := (by simp [World.frozen?, hrow]); replace hrow := Lib.hid hrow; replace h4 := Lib.hid h4; clear h3))
  refine bodyPost_ret (head_results _ _ w.heap.size #[.int .u32 (e : Int), .int .u64 (c : Int), .int .u32 (i : Int)] (.int .i64 0) rfl rfl (by exact row3 hrow.out _ _ _) rfl) rfl ?_
  exact ⟨rfl, ((h4.out.bel.setCell (p := ⟨w.heap.size, 0, none⟩) (Nat.le_refl _) _).setCell (p := ⟨w.heap.size, 1, none⟩) (Nat.le_refl _) _).setCell (p := ⟨w.heap.size, 2, none⟩) (Nat.le_refl _) _⟩
theorem bhead_not (x : ByteArray) (hx : x.size ≠ 512) (w : World) :
    Calls Tryz.prog 21 #[.string x] w fun e' w' => e' = .returned (.tuple #[.agg #[.int .u32 0, .int .u64 0, .int .u32 0], .int .i64 2]) ∧ Below w.heap.size w w' := by
  have h0 : ((x.size : Int) != 512) = true := by simp; omega
  have h1 : ¬ x.size = 512 := hx
  clear hx
  go_enter Tryz.func21, Tryz.ntmps21
  go_wp2
  refine bodyPost_ret (head_results _ _ w.heap.size #[.int .u32 0, .int .u64 0, .int .u32 0] (.int .i64 2) rfl rfl (heap_alloc_new w _) rfl) rfl ?_
  exact ⟨rfl, (Below.refl _ _).alloc (Nat.le_refl _) _⟩
end Go.Proofs.YtcdcipfojfnblaaGreatDoor.sha
end
/-! ## Block4 -/
section
namespace Go.Proofs.YtcdcipfojfnblaaGreatDoor.sha
open Go.RowKit
attribute [local go_sem ↓] Go.wp_at_zero Go.wp_at_succ
attribute [local go_sem] str_size
set_option linter.unusedVariables false
set_option maxRecDepth 100000

theorem got_results (tmps : Array Value) (W' : World) (g : Nat) (cs : Array Value) (a b : Value) (h6 : tmps.getD 6 undef = .pointer (some ⟨g, 0, none⟩)) (h7 : tmps.getD 7 undef = a) (h8 : tmps.getD 8 undef = b) (hg : W'.heap[g]? = some (.cells cs 59 (0, 0))) (hi : cs.size = 3) :
    (results Tryz.f51 tmps).run Tryz.prog W' = .ok (.tuple #[.agg cs, a, b]) W' := by
  have h6' : tmps[6]?.getD undef = .pointer (some ⟨g, 0, none⟩) := by simpa using h6
  have h7' : tmps[7]?.getD undef = a := by simpa using h7
  have h8' : tmps[8]?.getD undef = b := by simpa using h8
  have hs : (Tryz.prog.info? 59).map (·.size) = some cs.size := by rw [hi]; kernel_rfl
  simp [results, Tryz.results51, h6', h7', h8', asAddr, run_loadVar_row W' g 59 59 cs (0, 0) _ hg Tryz.underlying59 rfl hs]
def zeroHead : Array Value := #[.int .u32 0, .int .u64 0, .int .u32 0]
def headV (e c i : Nat) : Array Value := #[.int .u32 (e : Int), .int .u64 (c : Int), .int .u32 (i : Int)]
/-- bytes of another length -/
theorem bget_short (m x : ByteArray) (p : Int) (hx : x.size ≠ 512) (w : World) :
    Calls Tryz.prog 51 #[.string m, .int .i64 p, .string x] w fun e' w' => e' = .returned (.tuple #[.agg #[.int .u32 0, .int .u64 0, .int .u32 0], .string ⟨#[]⟩, .int .i64 2]) ∧ Below w.heap.size w w' := by
  have hp := Lib.hid ((Hp.none_ w []).alloc #[.int .u32 0, .int .u64 0, .int .u32 0] 59)
  go_enter Tryz.func51, Tryz.ntmps51
  go_wp2_with ((go_at_call 21; (with_reducible refine (bhead_not x hx _).mono ?_); rintro e w1 ⟨rfl, b1⟩; replace hp := Lib.hid ((hp.out.below b1).alloc #[.int .u32 0, .int .u64 0, .int .u32 0] 59); clear b1; have b0 := hp.out.cell (i := 1) rfl 0; have b1 := hp.out.cell (i := 1) rfl 1; have b2 := hp.out.cell (i := 1) rfl 2; have f0 := hp.out.free (i := 1) rfl 0; have f1 := hp.out.free (i := 1) rfl 1; have f2 := hp.out.free (i := 1) rfl 2; simp at b0 b1 b2))
  have fin := ((hp.out.put (i := 1) rfl 0 (.int .u32 0)).put (i := 1) rfl 1 (.int .u64 0)).put (i := 1) rfl 2 (.int .u32 0)
  exact bodyPost_ret (got_results _ _ w.heap.size #[.int .u32 0, .int .u64 0, .int .u32 0] (.string ⟨#[]⟩) (.int .i64 2) rfl rfl rfl (fin.box (i := 1) rfl) rfl) rfl ⟨rfl, fin.bel⟩
set_option maxHeartbeats 4000000 in
theorem bget_bad (m x : List UInt8) (pl : Int) (p : Nat) (hw : IntKind.u32.wrap pl = (p : Int)) (hp' : p < 4294967296) (hm : m.length ≤ 1000000) (hx : x.length = 512)
    (hne : x.drop 480 ≠ stagL (keyG m (headB x).1) p ((x.drop 4).take 12) ((x.drop 16).take 464)) (w : World) (hT : SaltAt w salts) :
    Calls Tryz.prog 51 #[.string (str m), .int .i64 pl, .string (str x)] w fun e' w' => e' = .returned (.tuple #[.agg #[.int .u32 0, .int .u64 0, .int .u32 0], .string ⟨#[]⟩, .int .i64 100]) ∧ Below w.heap.size w w' := by
  have hhd := fun W => bhead_any x hx W
  have he : (headB x).1 < 4294967296 := by
    have := code.beNat_lt (x.take 4)
    rw [List.length_take] at this
    rw [show min 4 x.length = 4 by omega] at this
    exact this
  have hke := fun W h => keys_any m (headB x).1 he hm W h
  have hsg := fun W h => get_any (str (keyT m (headB x).1)) (keyG m (headB x).1) ((x.drop 4).take 12) ((x.drop 16).take 464) (x.drop 480) pl p hw hp' (by rw [str_size, keyT_len]) (by rw [keyG_len]; omega) (by rw [List.length_take, List.length_drop]; omega) (by rw [List.length_take]; omega) (by rw [List.length_drop]; omega) W h
  have e16 : (x.drop 16).take 464 ++ x.drop 480 = x.drop 16 := by
    conv => rhs; rw [← List.take_append_drop 464 (x.drop 16), List.drop_drop]
  rw [e16] at hsg
  simp only [if_neg hne] at hsg
  have x1 : (str x).extract 4 16 = str ((x.drop 4).take 12) := cut_extract x 4 16
  have x2 : (str x).extract 16 512 = str (x.drop 16) := by rw [cut_extract, List.take_of_length_le (by rw [List.length_drop]; omega)]
  have hp := Lib.hid ((Hp.none_ w []).alloc #[.int .u32 0, .int .u64 0, .int .u32 0] 59)
  generalize (headB x).1 = e at *
  generalize (headB x).2.1 = c at *
  generalize (headB x).2.2 = i at *
  generalize (x.drop 4).take 12 = no at *
  generalize x.drop 16 = D at *
  generalize str (keyT m e) = KT at *
  generalize str (keyG m e) = KG at *
  replace hhd := Lib.hid hhd; replace hke := Lib.hid hke; replace hsg := Lib.hid hsg; replace hT := Lib.hid hT; replace hx := Lib.hid hx
  have hx5 : x.length = 512 := hx.out
  clear hne e16 hw hp' he hm
  go_enter Tryz.func51, Tryz.ntmps51
  go_upto_region 4 with ((go_at_call 21; (with_reducible refine (hhd.out _).mono ?_); rintro e' w1 ⟨rfl, b1⟩; replace hp := Lib.hid ((hp.out.below b1).alloc #[.int .u32 (e : Int), .int .u64 (c : Int), .int .u32 (i : Int)] 59); clear b1))
  generalize w1.alloc _ = W at hp ⊢
  generalize w1.heap.size = g at hp ⊢
  have d0 := hp.out.cell (i := 0) rfl 0
  simp at d0
  go_region_held3 (fun W' => Hp w [] [.box g #[.int .u32 (e : Int), .int .u64 (c : Int), .int .u32 (i : Int)] 59, .box w.heap.size #[.int .u32 0, .int .u64 0, .int .u32 0] 59] W' ∧ W'.cell? ⟨g, 0, none⟩ = some (.int .u32 (e : Int)))
    (first | exact ⟨hp.out.drew, d0⟩ | (go_split_ands; have hq := Hp.below (by assumption) (by assumption); exact ⟨hq, hq.cell (i := 0) rfl 0⟩))
    (first
      | (go_at_call 67; (with_reducible refine (hke.out _ (hT.out.keep (Hp.bel (by go_split_ands; assumption)))).mono ?_); rintro e w1 ⟨rfl, hb⟩)
      | (go_at_call 71; (with_reducible refine (hsg.out _ (hT.out.keep (Hp.bel (by go_split_ands; assumption)))).mono ?_); rintro e w1 ⟨rfl, hb⟩))
  go_split_ands
  replace hp := Lib.hid (show Hp w [] [.box g #[.int .u32 (e : Int), .int .u64 (c : Int), .int .u32 (i : Int)] 59, .box w.heap.size #[.int .u32 0, .int .u64 0, .int .u32 0] 59] w1 by assumption)
  have b0 := hp.out.cell (i := 1) rfl 0; have b1 := hp.out.cell (i := 1) rfl 1; have b2 := hp.out.cell (i := 1) rfl 2; have f0 := hp.out.free (i := 1) rfl 0; have f1 := hp.out.free (i := 1) rfl 1; have f2 := hp.out.free (i := 1) rfl 2
  simp at b0 b1 b2
  clear d0
  go_wp2
  have fin := ((hp.out.put (i := 1) rfl 0 (.int .u32 0)).put (i := 1) rfl 1 (.int .u64 0)).put (i := 1) rfl 2 (.int .u32 0)
  exact bodyPost_ret (got_results _ _ w.heap.size #[.int .u32 0, .int .u64 0, .int .u32 0] (.string ⟨#[]⟩) (.int .i64 100) rfl rfl rfl (fin.box (i := 1) rfl) rfl) rfl ⟨rfl, fin.bel⟩
/-- what is behind a right tag -/
def GotV (e c i : Nat) : Option (List UInt8) → Value
  | some s => .tuple #[.agg #[.int .u32 (e : Int), .int .u64 (c : Int), .int .u32 (i : Int)], .string (str s), .int .i64 0]
  | none => .tuple #[.agg #[.int .u32 0, .int .u64 0, .int .u32 0], .string ⟨#[]⟩, .int .i64 3]
theorem shl8 (a : Nat) (ha : a < 256) : IntKind.i64.wrap ((a : Int) * 256) = ((a * 256 : Nat) : Int) := by rw [IntKind.wrap_i64]; omega
theorem or_be (a b : Nat) (ha : a < 256) (hb : b < 256) : bits .or .i64 ((a * 256 : Nat) : Int) (b : Int) = ((a * 256 + b : Nat) : Int) := by
  have h : (a * 256) ||| b = a * 256 + b := by
    have := Nat.shiftLeft_add_eq_or_of_lt (i := 8) (b := b) (by omega) a
    rw [Nat.shiftLeft_eq] at this
    rw [← this]
  have h1 : (BitVec.ofInt 64 ((a * 256 : Nat) : Int)).toNat = a * 256 := by rw [BitVec.ofInt_natCast, BitVec.toNat_ofNat]; exact Nat.mod_eq_of_lt (by omega)
  have h2 : (BitVec.ofInt 64 (b : Int)).toNat = b := by rw [BitVec.ofInt_natCast, BitVec.toNat_ofNat]; exact Nat.mod_eq_of_lt (by omega)
  show IntKind.i64.wrap ((BitVec.ofInt 64 ((a * 256 : Nat) : Int) ||| BitVec.ofInt 64 (b : Int)).toNat : Int) = _
  rw [BitVec.toNat_or, h1, h2, h, IntKind.wrap_i64]; omega
set_option maxHeartbeats 4000000 in
theorem bget_good (m x : List UInt8) (pl : Int) (p : Nat) (hw : IntKind.u32.wrap pl = (p : Int)) (hp' : p < 4294967296) (hm : m.length ≤ 1000000) (hx : x.length = 512)
    (hne : x.drop 480 = stagL (keyG m (headB x).1) p ((x.drop 4).take 12) ((x.drop 16).take 464)) (w : World) (hT : SaltAt w salts) :
    Calls Tryz.prog 51 #[.string (str m), .int .i64 pl, .string (str x)] w fun e' w' => e' = .returned (GotV (headB x).1 (headB x).2.1 (headB x).2.2 (unplain (turnL (str (keyT m (headB x).1)) ((x.drop 4).take 12) ((x.drop 16).take 464)))) ∧ Below w.heap.size w w' := by
  have hhd := fun W => bhead_any x hx W
  have he : (headB x).1 < 4294967296 := by
    have := code.beNat_lt (x.take 4)
    rw [List.length_take] at this
    rw [show min 4 x.length = 4 by omega] at this
    exact this
  have hke := fun W h => keys_any m (headB x).1 he hm W h
  have hsg := fun W h => get_any (str (keyT m (headB x).1)) (keyG m (headB x).1) ((x.drop 4).take 12) ((x.drop 16).take 464) (x.drop 480) pl p hw hp' (by rw [str_size, keyT_len]) (by rw [keyG_len]; omega) (by rw [List.length_take, List.length_drop]; omega) (by rw [List.length_take]; omega) (by rw [List.length_drop]; omega) W h
  have e16 : (x.drop 16).take 464 ++ x.drop 480 = x.drop 16 := by
    conv => rhs; rw [← List.take_append_drop 464 (x.drop 16), List.drop_drop]
  rw [e16] at hsg
  simp only [if_pos hne] at hsg
  have x1 : (str x).extract 4 16 = str ((x.drop 4).take 12) := cut_extract x 4 16
  have x2 : (str x).extract 16 512 = str (x.drop 16) := by rw [cut_extract, List.take_of_length_le (by rw [List.length_drop]; omega)]
  have hp := Lib.hid ((Hp.none_ w []).alloc #[.int .u32 0, .int .u64 0, .int .u32 0] 59)
  have htl : (turnL (str (keyT m (headB x).1)) ((x.drop 4).take 12) ((x.drop 16).take 464)).length = 464 := by rw [turnL_len, List.length_take, List.length_drop]; omega
  generalize turnL (str (keyT m (headB x).1)) ((x.drop 4).take 12) ((x.drop 16).take 464) = P at *
  generalize (headB x).1 = e at *
  generalize (headB x).2.1 = c at *
  generalize (headB x).2.2 = i at *
  generalize (x.drop 4).take 12 = no at *
  generalize x.drop 16 = D at *
  generalize str (keyT m e) = KT at *
  generalize str (keyG m e) = KG at *
  obtain ⟨B0, B1, R, rfl, hR⟩ : ∃ B0 B1 R, P = B0 :: B1 :: R ∧ R.length = 462 := by
    match P, htl with
    | a :: b :: r, h => exact ⟨a, b, r, rfl, by simpa using h⟩
  obtain ⟨n, hn⟩ : ∃ n, n = B0.toNat * 256 + B1.toNat := ⟨_, rfl⟩
  have hb0 := B0.toNat_lt
  have hb1 := B1.toNat_lt
  have hor : bits .or .i64 ((B0.toNat : Int) * 256) (B1.toNat : Int) = (n : Int) := by
    have := or_be B0.toNat B1.toNat hb0 hb1
    rw [← hn] at this
    simpa using this
  have hun : unplain (B0 :: B1 :: R) = if n ≤ 462 ∧ ∀ y ∈ R.drop n, y = 0 then some (R.take n) else none := by
    unfold unplain
    have e1 : ((B0 :: B1 :: R).getD 0 0).toNat * 256 + ((B0 :: B1 :: R).getD 1 0).toNat = n := by rw [hn]; simp
    rw [e1]
    have e2 : (B0 :: B1 :: R).drop (2 + n) = R.drop n := by rw [Nat.add_comm, List.drop_succ_cons, List.drop_succ_cons]
    rw [e2]; rfl
  obtain ⟨U, hU⟩ : ∃ U, unplain (B0 :: B1 :: R) = U := ⟨_, rfl⟩
  rw [hU]
  rw [hU] at hun
  have x3 : (str (B0 :: B1 :: R)).extract 2 464 = str R := by rw [cut_extract]; simp [List.take_of_length_le, hR]
  have z0 : (str (B0 :: B1 :: R)).size = 464 := by rw [str_size]; exact htl
  have i0 : ∀ h : 0 < (str (B0 :: B1 :: R)).size, (str (B0 :: B1 :: R))[0]'h = B0 := fun h => rfl
  have i1 : ∀ h : 1 < (str (B0 :: B1 :: R)).size, (str (B0 :: B1 :: R))[1]'h = B1 := fun h => rfl
  have v0 : IntKind.i64.wrap (B0.toNat : Int) = (B0.toNat : Int) := by rw [IntKind.wrap_i64]; omega
  have v1 : IntKind.i64.wrap (B1.toNat : Int) = (B1.toNat : Int) := by rw [IntKind.wrap_i64]; omega
  generalize str (B0 :: B1 :: R) = S0 at *
  replace hhd := Lib.hid hhd; replace hke := Lib.hid hke; replace hsg := Lib.hid hsg; replace hT := Lib.hid hT; replace hx := Lib.hid hx; replace hU := Lib.hid hU; replace hun := Lib.hid hun; replace hn := Lib.hid hn; replace hR := Lib.hid hR; replace htl := Lib.hid htl
  have hx5 : x.length = 512 := hx.out
  clear hne e16 hw hp' he hm
  go_enter Tryz.func51, Tryz.ntmps51
  go_upto_region 4 with ((go_at_call 21; (with_reducible refine (hhd.out _).mono ?_); rintro e' w1 ⟨rfl, b1⟩; replace hp := Lib.hid ((hp.out.below b1).alloc #[.int .u32 (e : Int), .int .u64 (c : Int), .int .u32 (i : Int)] 59); clear b1))
  generalize w1.alloc _ = W at hp ⊢
  generalize w1.heap.size = g at hp ⊢
  have d0 := hp.out.cell (i := 0) rfl 0
  simp at d0
  go_region_held3 (fun W' => Hp w [] [.box g #[.int .u32 (e : Int), .int .u64 (c : Int), .int .u32 (i : Int)] 59, .box w.heap.size #[.int .u32 0, .int .u64 0, .int .u32 0] 59] W' ∧ W'.cell? ⟨g, 0, none⟩ = some (.int .u32 (e : Int)))
    (first | exact ⟨hp.out.drew, d0⟩ | (go_split_ands; have hq := Hp.below (by assumption) (by assumption); exact ⟨hq, hq.cell (i := 0) rfl 0⟩))
    (first
      | (go_at_call 67; (with_reducible refine (hke.out _ (hT.out.keep (Hp.bel (by go_split_ands; assumption)))).mono ?_); rintro e w1 ⟨rfl, hb⟩)
      | (go_at_call 71; (with_reducible refine (hsg.out _ (hT.out.keep (Hp.bel (by go_split_ands; assumption)))).mono ?_); rintro e w1 ⟨rfl, hb⟩))
  go_split_ands
  replace hp := Lib.hid (show Hp w [] [.box g #[.int .u32 (e : Int), .int .u64 (c : Int), .int .u32 (i : Int)] 59, .box w.heap.size #[.int .u32 0, .int .u64 0, .int .u32 0] 59] w1 by assumption)
  clear d0
  go_wp2_with fail
  go_quiet (fail)
  replace hp := Lib.hid (hp.out.drewN nq)
  generalize World.drewN _ nq = W at hp ⊢
  have z1 : (str R).size = 462 := by rw [str_size]; exact hR.out
  have e1 : (0 : Int) ≤ (n : Int) := by omega
  clear x1 x2 hhd hke hsg i0 i1 v0 v1
  by_cases hn1 : n ≤ 462
  · have e2 : ¬ (462 : Int) < (n : Int) := by omega
    have e3 : (n : Int) ≤ 462 := by omega
    have x4 : (str R).extract n 462 = str (R.drop n) := by rw [cut_extract, List.take_of_length_le (by rw [List.length_drop, hR.out]; exact Nat.le_refl _)]
    have x5 : (str R).extract 0 n = str (R.take n) := by rw [cut_extract]; simp
    have htr : ∀ W, Calls Tryz.prog 72 #[.string (str (R.drop n)), .string ⟨#[0]⟩] W fun e w' => e = .returned (.string (str (Lib.trimB (R.drop n) 0))) ∧ Below W.heap.size W w' := fun W => by
      refine (Tryz.strings_Trim_one (str (R.drop n)) 0 (by decide) W (by rw [str_size, List.length_drop, hR.out]; omega)).mono ?_
      rintro e w' ⟨rfl, hw⟩
      refine ⟨rfl, ?_⟩
      rcases hw with rfl | rfl
      · exact Below.refl _ _
      · exact (Below.refl _ _).drew
    by_cases hz : ∀ y ∈ R.drop n, y = 0
    · have ht0 : Lib.trimB (R.drop n) 0 = [] := (trim_nil _).2 hz
      rw [ht0] at htr
      have htr' : ∀ W, Calls Tryz.prog 72 #[.string (str (R.drop n)), .string ⟨#[0]⟩] W fun e w' => e = .returned (.string ⟨#[]⟩) ∧ Below W.heap.size W w' := htr
      have hU2 : U = some (R.take n) := by rw [hun.out, if_pos ⟨hn1, hz⟩]
      subst hU2
      generalize str (R.drop n) = DD at *
      obtain ⟨TT, hTT⟩ : ∃ T, str (R.take n) = T := ⟨_, rfl⟩
      rw [hTT] at x5
      replace hTT := Lib.hid hTT
      generalize str R = S1 at *
      replace htr' := Lib.hid htr'
      clear ht0 htr hz hun
      go_upto_region 11 with (go_at_call 72; (with_reducible refine (htr'.out _).mono ?_); rintro e' w1 ⟨rfl, b1⟩; replace hp := Lib.hid (hp.out.below b1); clear b1)
      have a0 := hp.out.cell (i := 0) rfl 0; have a1 := hp.out.cell (i := 0) rfl 1; have a2 := hp.out.cell (i := 0) rfl 2
      have b0 := hp.out.cell (i := 1) rfl 0; have b1 := hp.out.cell (i := 1) rfl 1; have b2 := hp.out.cell (i := 1) rfl 2; have f0 := hp.out.free (i := 1) rfl 0; have f1 := hp.out.free (i := 1) rfl 1; have f2 := hp.out.free (i := 1) rfl 2
      simp at a0 a1 a2 b0 b1 b2
      have fin := (((hp.out.put (i := 1) rfl 0 (.int .u32 (e : Int))).put (i := 1) rfl 1 (.int .u64 (c : Int))).put (i := 1) rfl 2 (.int .u32 (i : Int))).drew
      replace fin := Lib.hid fin; replace hp := Lib.hid hp
      go_region_with (fail)
      all_goals go_wp2
      all_goals refine bodyPost_ret (got_results _ _ w.heap.size #[.int .u32 (e : Int), .int .u64 (c : Int), .int .u32 (i : Int)] (.string TT) (.int .i64 0) rfl rfl rfl (fin.out.box (i := 1) rfl) rfl) rfl ⟨?_, fin.out.bel⟩
      all_goals rw [GotV, hTT.out]
    · have ht0 : Lib.trimB (R.drop n) 0 ≠ [] := fun h => hz ((trim_nil _).1 h)
      have hU2 : U = none := by rw [hun.out, if_neg (fun h => hz h.2)]
      subst hU2
      generalize Lib.trimB (R.drop n) 0 = Q at *
      have t1 : (str Q).toList.isEmpty = false := by rw [str_bl]; cases Q <;> simp at ht0 ⊢
      have t2 : ((str Q).toList == []) = false := by rw [str_bl]; simpa using ht0
      have t3 : ¬ (str Q).toList = [] := by rw [str_bl]; exact ht0
      generalize str Q = QQ at *
      generalize str (R.drop n) = DD at *
      generalize str (R.take n) = TT at *
      generalize str R = S1 at *
      replace htr := Lib.hid htr
      clear ht0 hz hun
      have hp0 := hp
      go_wp2_with (go_at_call 72; (with_reducible refine (htr.out _).mono ?_); rintro e' w1 ⟨rfl, b1⟩; replace hp := Lib.hid (hp.out.below b1); clear b1; have b0 := hp.out.cell (i := 1) rfl 0; have b1 := hp.out.cell (i := 1) rfl 1; have b2 := hp.out.cell (i := 1) rfl 2; have f0 := hp.out.free (i := 1) rfl 0; have f1 := hp.out.free (i := 1) rfl 1; have f2 := hp.out.free (i := 1) rfl 2; simp at b0 b1 b2)
      have fin := ((hp.out.put (i := 1) rfl 0 (.int .u32 0)).put (i := 1) rfl 1 (.int .u64 0)).put (i := 1) rfl 2 (.int .u32 0)
      exact bodyPost_ret (got_results _ _ w.heap.size #[.int .u32 0, .int .u64 0, .int .u32 0] (.string ⟨#[]⟩) (.int .i64 3) rfl rfl rfl (fin.box (i := 1) rfl) rfl) rfl ⟨rfl, fin.bel⟩
  · have e2 : (462 : Int) < (n : Int) := by omega
    have hU2 : U = none := by rw [hun.out, if_neg (fun h => hn1 h.1)]
    subst hU2
    generalize str R = S1 at *
    clear hn1 hun
    have b0 := hp.out.cell (i := 1) rfl 0; have b1 := hp.out.cell (i := 1) rfl 1; have b2 := hp.out.cell (i := 1) rfl 2; have f0 := hp.out.free (i := 1) rfl 0; have f1 := hp.out.free (i := 1) rfl 1; have f2 := hp.out.free (i := 1) rfl 2
    simp at b0 b1 b2
    go_wp2
    have fin := ((hp.out.put (i := 1) rfl 0 (.int .u32 0)).put (i := 1) rfl 1 (.int .u64 0)).put (i := 1) rfl 2 (.int .u32 0)
    exact bodyPost_ret (got_results _ _ w.heap.size #[.int .u32 0, .int .u64 0, .int .u32 0] (.string ⟨#[]⟩) (.int .i64 3) rfl rfl rfl (fin.box (i := 1) rfl) rfl) rfl ⟨rfl, fin.bel⟩
end Go.Proofs.YtcdcipfojfnblaaGreatDoor.sha
end
/-! ## Block5 -/
section
namespace Go.Proofs.YtcdcipfojfnblaaGreatDoor.sha
open Go.RowKit
attribute [local go_sem ↓] Go.wp_at_zero Go.wp_at_succ
attribute [local go_sem] str_size
set_option linter.unusedVariables false
set_option maxRecDepth 100000

end Go.Proofs.YtcdcipfojfnblaaGreatDoor.sha
end
/-! ## Block6 -/
section
namespace Go.Proofs.YtcdcipfojfnblaaGreatDoor.sha
open Go.RowKit
attribute [local go_sem ↓] Go.wp_at_zero Go.wp_at_succ
attribute [local go_sem] str_size str_append
set_option linter.unusedVariables false
set_option maxRecDepth 100000

end Go.Proofs.YtcdcipfojfnblaaGreatDoor.sha
end
/-! ## Block7 -/
section
namespace Go.Proofs.YtcdcipfojfnblaaGreatDoor.sha
open Go.RowKit
attribute [local go_sem ↓] Go.wp_at_zero Go.wp_at_succ
attribute [local go_sem] str_size
set_option linter.unusedVariables false
set_option maxRecDepth 100000

theorem wrapP (pl : Int) : ∃ p : Nat, IntKind.u32.wrap pl = (p : Int) ∧ p < 4294967296 := ⟨(pl % 4294967296).toNat, by rw [IntKind.wrap_u32]; omega, by omega⟩
theorem bget_any (m x : List UInt8) (pl : Int) (p : Nat) (hw : IntKind.u32.wrap pl = (p : Int)) (hp : p < 4294967296) (hm : m.length ≤ 1000000) (w : World) (hT : SaltAt w salts) :
    Calls Tryz.prog 51 #[.string (str m), .int .i64 pl, .string (str x)] w fun e' w' => e' = .returned (getB m p x).val ∧ Below w.heap.size w w' := by
  unfold getB
  by_cases hx : x.length = 512
  · rw [if_pos hx]
    by_cases ht : x.drop 480 = stagL (keyG m (headB x).1) p ((x.drop 4).take 12) ((x.drop 16).take 464)
    · rw [if_pos ht]
      have := bget_good m x pl p hw hp hm hx ht w hT
      cases hu : unplain (turnL (str (keyT m (headB x).1)) ((x.drop 4).take 12) ((x.drop 16).take 464)) with
      | some s => rw [hu] at this; exact this
      | none => rw [hu] at this; exact this
    · rw [if_neg ht]
      exact bget_bad m x pl p hw hp hm hx ht w hT
  · rw [if_neg hx]
    exact bget_short (str m) (str x) pl (by rw [str_size]; exact hx) w
end Go.Proofs.YtcdcipfojfnblaaGreatDoor.sha
end
