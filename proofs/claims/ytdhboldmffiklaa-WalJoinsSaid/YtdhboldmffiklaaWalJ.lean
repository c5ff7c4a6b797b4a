/- Blocks of which one is missing at the end of a record, or holds something else, are no records: the law WalJoins. No condition. -/
import Derived.Test.YtdhboldmffiklaaWal8
import Derived.Test.YtdhboldmffiklaaWalC
import Derived.Test.YtdhboldmffiklaaApp2
namespace Go.Proofs.Ytdhboldmffiklaa.wal
open Go.RowKit
attribute [local go_sem ↓] Go.wp_at_zero Go.wp_at_succ
attribute [local go_sem] str_size str_bl str_append
set_option linter.unusedVariables false
set_option maxRecDepth 100000

/-- blocks that are no records: the last record is not whole, a block holds nothing, or begins with another byte -/
inductive Bad : Bool → List UInt8 → List (List UInt8) → Prop
  | open_ {P} : Bad false P []
  | hole {b P rem} : Bad b P ([] :: rem)
  | odd {b P x rem} : P.length ≤ 16384 → x.length ≤ 461 → Bad b P ((2 :: x) :: rem)
  | more {b P x rem} : P.length ≤ 16384 → x.length ≤ 461 → Bad false (P ++ x) rem → Bad b P ((0 :: x) :: rem)
theorem splitL_ne (s : List UInt8) : splitL s ≠ [] := by
  by_cases h : s.length ≤ 461
  · rw [splitL_short s h]; simp
  · rw [splitL_long s h]; simp
theorem bad_split : ∀ (n : Nat) (b : Bool) (P s : List UInt8), s.length ≤ n → (P ++ s).length ≤ 16384 → (b = false ∨ 461 < s.length) → Bad b P (splitL s).dropLast
  | 0, b, P, s, h, e, hb => by
    rw [splitL_short s (by omega)]
    rcases hb with rfl | hb
    · exact .open_
    · omega
  | n + 1, b, P, s, h, e, hb => by
    rw [List.length_append] at e
    by_cases h1 : s.length ≤ 461
    · rw [splitL_short s h1]
      rcases hb with rfl | hb
      · exact .open_
      · omega
    · rw [splitL_long s h1, List.dropLast_cons_of_ne_nil (splitL_ne _)]
      refine .more (by omega) (by rw [List.length_take]; omega) (bad_split n false (P ++ s.take 461) (s.drop 461) (by rw [List.length_drop]; omega) ?_ (.inl rfl))
      rw [List.append_assoc, List.take_append_drop, List.length_append]; exact e
set_option maxHeartbeats 4000000 in
theorem join_bad (bs : List (List UInt8)) (hbad : Bad true [] bs) (hlen : bs.length ≤ 1000000) (v : Value) (w : World) (h : Sl w v bs.length (strsV bs)) :
    Calls Try.prog 64 #[v] w fun e w' => e = .returned (.tuple #[.slice none 0 0, .int .i64 3]) ∧ Below w.heap.size w w' := by
  obtain ⟨a, cap, rfl, hmax, h⟩ := h
  obtain ⟨n, hln⟩ : ∃ n, n = bs.length := ⟨_, rfl⟩
  rw [← hln] at hlen hmax h ⊢
  have hp := Lib.hid ((Hp.none_ w []).rowNil 5 1)
  replace h := Lib.hid h; replace hln := Lib.hid hln; replace hbad := Lib.hid hbad
  go_enter Try.func64, Try.ntmps64
  go_wp2
  go_loopw [4, 5, 6, 13] (fun v4 v5 s6 s13 wr => ∃ (k : Nat) (P : List UInt8) (wh : Bool), s13 = .int .i64 (k : Int) ∧ k ≤ n ∧ v4 = .slice none 0 0 ∧ s6 = .bool wh ∧ Bad wh P (bs.drop k) ∧ (∃ ad cp, v5 = .slice ad P.length cp) ∧ Hp w [] [.row 5 1 v5 P.length (cellsOf P)] wr) (fun _ _ _ s13 _ => n - (intOf s13).toNat)
  case atStart => exact ⟨0, [], true, rfl, by omega, rfl, rfl, hbad.out, ⟨_, _, rfl⟩, hp.out⟩
  case round =>
    clear hp
    obtain ⟨k, P, wh, rfl, hk, rfl, rfl, hre, ⟨ad, cp, rfl⟩, hp⟩ := hrel
    by_cases hlt : k < n
    · obtain ⟨b, o, rfl, hr⟩ := h.out.resolve_left (by omega)
      obtain ⟨s, hs⟩ : ∃ s, bs[k]? = some s := ⟨_, List.getElem?_eq_getElem (by have := hln.out; omega)⟩
      have hdrop : bs.drop k = s :: bs.drop (k + 1) := by
        obtain ⟨hi, hv⟩ := List.getElem?_eq_some_iff.1 hs
        rw [List.drop_eq_getElem_cons hi, hv]
      rw [hdrop] at hre
      have d0 : wr.cell? ⟨b, o + k, none⟩ = some (.string (str s)) := (hp.bel.cell hr.1).trans (hr.2 k _ (by simp [strsV, hs]))
      have e1 : (0 : Int) ≤ (k : Int) := by omega
      have e2 : (k : Int) < (n : Int) := by omega
      clear hdrop hr hs
      generalize hrem : bs.drop (k + 1) = rm at hre
      replace hrem := Lib.hid hrem
      cases hre with
      | hole =>
        replace hp := Lib.hid hp
        go_wp2
        go_ret2
        exact ⟨rfl, hp.out.bel⟩
      | odd hP hxl =>
        rename_i x
        have q1 : ¬ (16384 : Int) < (P.length : Int) := by omega
        have x1 : (str (2 :: x)).extract 1 (x.length + 1) = str x := by rw [cut_extract]; simp
        have x2 : (str (2 :: x)).extract 0 1 = str [2] := by rw [cut_extract]; simp
        have hle : P.length + x.length ≤ 140737488355328 := by omega
        replace hp := Lib.hid hp; replace hle := Lib.hid hle
        clear hxl
        generalize hM : P ++ x = M at *
        replace hM := Lib.hid hM
        go_wp2_with (at_builtin; go_loud (refine wpList_append_text_hp rfl _ _ rfl hp.out 0 rfl rfl x rfl hle.out ?_; intro v2 w3 hp3 hv; rw [hM.out] at hp3 hv; replace hp := Lib.hid hp3; clear hp3; obtain ⟨ad2, cp2, rfl⟩ := hv))
        go_ret2
        exact ⟨rfl, hp.out.bel⟩
      | more hP hxl hre =>
        rename_i x
        have q1 : ¬ (16384 : Int) < (P.length : Int) := by omega
        have x1 : (str (0 :: x)).extract 1 (x.length + 1) = str x := by rw [cut_extract]; simp
        have x2 : (str (0 :: x)).extract 0 1 = str [0] := by rw [cut_extract]; simp
        have hle : P.length + x.length ≤ 140737488355328 := by omega
        replace hp := Lib.hid hp; replace hre := Lib.hid hre; replace hle := Lib.hid hle
        clear hxl
        generalize hM : P ++ x = M at *
        replace hM := Lib.hid hM
        go_wp2_with (at_builtin; go_loud (refine wpList_append_text_hp rfl _ _ rfl hp.out 0 rfl rfl x rfl hle.out ?_; intro v2 w3 hp3 hv; rw [hM.out] at hp3 hv; replace hp := Lib.hid hp3; clear hp3; obtain ⟨ad2, cp2, rfl⟩ := hv))
        go_roundw
        case rel => exact ⟨k + 1, M, false, by go_num, by omega, rfl, rfl, by rw [hrem.out]; exact hre.out, ⟨_, _, rfl⟩, hp.out⟩
        case measure => simp [intOf]; omega
    · obtain rfl : k = n := by omega
      rw [List.drop_of_length_le (by rw [← hln.out]; exact Nat.le_refl _)] at hre
      cases hre
      replace hp := Lib.hid hp
      go_wp2
      go_ret2
      exact ⟨rfl, hp.out.bel⟩
end Go.Proofs.Ytdhboldmffiklaa.wal
