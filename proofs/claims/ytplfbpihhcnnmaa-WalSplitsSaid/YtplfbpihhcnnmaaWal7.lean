/- Records out of the blocks that hold them: Join. No condition but the slices' cells. -/
import Derived.Test.YtplfbpihhcnnmaaWal6
namespace Go.Proofs.Ytplfbpihhcnnmaa.wal
open Go.RowKit
attribute [local go_sem ↓] Go.wp_at_zero Go.wp_at_succ
attribute [local go_sem] str_size str_bl str_append
set_option linter.unusedVariables false
set_option maxRecDepth 100000

/-- what blocks hold: whole records, behind what is piled -/
inductive Rest : List UInt8 → List (List UInt8) → List (List Ch) → Prop
  | none : Rest [] [] []
  | more {P x rem recs} : P.length ≤ 16384 → x ≠ [] → x.length ≤ 461 → Rest (P ++ x) rem recs → Rest P ((0 :: x) :: rem) recs
  | last {P x rem recs l} : P.length ≤ 16384 → P ++ x = recL l → mayL l = true → (recL l).length ≤ 16384 → Rest [] rem recs → Rest P ((1 :: x) :: rem) (l :: recs)
theorem rest_split (l : List Ch) (hm : mayL l = true) (hz : (recL l).length ≤ 16384) (rem : List (List UInt8)) (recs : List (List Ch)) (hr : Rest [] rem recs) : ∀ (n : Nat) (P s : List UInt8), s.length ≤ n → P ++ s = recL l → Rest P (splitL s ++ rem) (l :: recs)
  | 0, P, s, h, e => by
    rw [splitL_short s (by omega)]
    exact .last (by have := congrArg List.length e; rw [List.length_append] at this; omega) e hm hz hr
  | n + 1, P, s, h, e => by
    have hl := congrArg List.length e
    rw [List.length_append] at hl
    by_cases h1 : s.length ≤ 461
    · rw [splitL_short s h1]
      exact .last (by omega) e hm hz hr
    · rw [splitL_long s h1]
      refine .more (by omega) (fun h0 => ?_) (by rw [List.length_take]; omega) (rest_split l hm hz rem recs hr n (P ++ s.take 461) (s.drop 461) (by rw [List.length_drop]; omega) (by rw [List.append_assoc, List.take_append_drop]; exact e))
      have h4 : (s.take 461).length = 461 := by rw [List.length_take]; omega
      rw [h0] at h4; simp at h4
/-- the rows of records -/
def rowsOf : List Value → List (List Ch) → List Rs
  | v :: vs, l :: ls => .row 100 3 v l.length (chCells l) :: rowsOf vs ls
  | _, _ => []
theorem rowsOf_snoc : ∀ (vs : List Value) (ls : List (List Ch)) (v : Value) (l : List Ch), vs.length = ls.length → rowsOf (vs ++ [v]) (ls ++ [l]) = rowsOf vs ls ++ [.row 100 3 v l.length (chCells l)]
  | [], [], v, l, _ => rfl
  | _ :: vs, _ :: ls, v, l, h => by
    simp only [List.cons_append, rowsOf]
    rw [rowsOf_snoc vs ls v l (by simpa using h)]
  | [], _ :: _, _, _, h => by simp at h
  | _ :: _, [], _, _, h => by simp at h
theorem rowsOf_get : ∀ (vs : List Value) (ls : List (List Ch)) (i : Nat) (v : Value) (l : List Ch), vs[i]? = some v → ls[i]? = some l → (rowsOf vs ls)[i]? = some (.row 100 3 v l.length (chCells l))
  | [], _, i, v, l, h, _ => by simp at h
  | _ :: _, [], i, v, l, _, h => by simp at h
  | a :: vs, b :: ls, 0, v, l, h, k => by simp at h k; subst h; subst k; rfl
  | a :: vs, b :: ls, i + 1, v, l, h, k => by simpa [rowsOf] using rowsOf_get vs ls i v l (by simpa using h) (by simpa using k)
theorem perm3 {w W : World} {X : List Nat} {N A B : Rs} {rows : List Rs} (h : Hp w X (N :: A :: B :: rows) W) : Hp w X (B :: N :: (rows ++ [A])) W :=
  h.perm (((List.Perm.swap B A rows).cons N).trans ((List.Perm.swap B N (A :: rows)).trans (((List.perm_append_singleton A rows).symm.cons N).cons B)))
/-- what Join hands back -/
def JoinRet (w : World) (recs : List (List Ch)) (e : Ending) (w' : World) : Prop := ∃ v vals, e = .returned (.tuple #[v, .int .i64 0]) ∧ vals.length = recs.length ∧ Hp w [] (.row 25 1 v recs.length vals :: rowsOf vals recs) w'
theorem changesInfo : (Try.prog.info? 25).map (fun i => (i.zero, i.size, i.bytes)) = some (some (.slice none 0 0), 1, 24) := by kernel_rfl
set_option maxHeartbeats 4000000 in
theorem join_any (bs : List (List UInt8)) (recs : List (List Ch)) (hrest : Rest [] bs recs) (hlen : bs.length ≤ 1000000) (v : Value) (w : World) (h : Sl w v bs.length (strsV bs)) :
    Calls Try.prog 15 #[v] w (JoinRet w recs) := by
  obtain ⟨a, cap, rfl, hmax, h⟩ := h
  obtain ⟨n, hln⟩ : ∃ n, n = bs.length := ⟨_, rfl⟩
  rw [← hln] at hlen hmax h ⊢
  have hp := Lib.hid (((Hp.none_ w []).rowNil 5 1).rowNil 25 1)
  replace h := Lib.hid h; replace hln := Lib.hid hln; replace hrest := Lib.hid hrest
  go_enter Try.func15, Try.ntmps15
  go_wp2
  go_loopw [4, 5, 6, 13] (fun v4 v5 s6 s13 wr => ∃ (k : Nat) (P : List UInt8) (done rem : List (List Ch)) (vals : List Value), s13 = .int .i64 (k : Int) ∧ k ≤ n ∧ s6 = .bool P.isEmpty ∧ Rest P (bs.drop k) rem ∧ recs = done ++ rem ∧ vals.length = done.length ∧ done.length ≤ k ∧ (∃ ad cp, v5 = .slice ad P.length cp) ∧ Hp w [] (.row 25 1 v4 done.length vals :: .row 5 1 v5 P.length (cellsOf P) :: rowsOf vals done) wr) (fun _ _ _ s13 _ => n - (intOf s13).toNat)
  case atStart => exact ⟨0, [], [], recs, [], rfl, by omega, rfl, hrest.out, rfl, rfl, by simp, ⟨_, _, rfl⟩, hp.out⟩
  case round =>
    clear hp
    obtain ⟨k, P, done, rem, vals, rfl, hk, rfl, hre, hrecs, hvl, hdl, ⟨ad, cp, rfl⟩, hp⟩ := hrel
    by_cases hlt : k < n
    · obtain ⟨b, o, rfl, hr⟩ := h.out.resolve_left (by omega)
      obtain ⟨s, hs⟩ : ∃ s, bs[k]? = some s := ⟨_, List.getElem?_eq_getElem (by have := hln.out; omega)⟩
      have hdrop : bs.drop k = s :: bs.drop (k + 1) := by
        obtain ⟨hi, hv⟩ := List.getElem?_eq_some_iff.1 hs
        rw [List.drop_eq_getElem_cons hi, hv]
      rw [hdrop] at hre
      have d0 : wr.cell? ⟨b, o + k, none⟩ = some (.string (str s)) := (hp.bel.cell hr.1).trans (hr.2 k _ (by simp [strsV, hs]))
      have e1 : (0 : Int) ≤ (k : Int) := by omega
      have e2 : (k : Int) < (n : Int) := by omega
      clear hdrop hr hs
      replace hrecs := Lib.hid hrecs; replace hvl := Lib.hid hvl
      generalize hrem : bs.drop (k + 1) = rm at hre
      replace hrem := Lib.hid hrem
      cases hre with
      | more hP hx hxl hre =>
        rename_i x
        have q1 : ¬ (16384 : Int) < (P.length : Int) := by omega
        have x1 : (str (0 :: x)).extract 1 (x.length + 1) = str x := by rw [cut_extract]; simp
        have x2 : (str (0 :: x)).extract 0 1 = str [0] := by rw [cut_extract]; simp
        have hemp : (P ++ x).isEmpty = false := by cases x with | nil => exact absurd rfl hx | cons a t => simp
        have hle : P.length + x.length ≤ 140737488355328 := by omega
        replace hp := Lib.hid hp; replace hre := Lib.hid hre; replace hle := Lib.hid hle; replace hemp := Lib.hid hemp
        clear hx hxl
        generalize hM : P ++ x = M at *
        replace hM := Lib.hid hM
        go_wp2_with (at_builtin; go_loud (refine wpList_append_text_hp rfl _ _ rfl hp.out 1 rfl rfl x rfl hle.out ?_; intro v2 w3 hp3 hv; rw [hM.out] at hp3 hv; replace hp := Lib.hid hp3; clear hp3; obtain ⟨ad2, cp2, rfl⟩ := hv))
        go_roundw
        case rel => exact ⟨k + 1, M, done, rem, vals, by go_num, by omega, by rw [hemp.out], by rw [hrem.out]; exact hre.out, hrecs.out, hvl.out, by omega, ⟨_, _, rfl⟩, hp.out⟩
        case measure => simp [intOf]; omega
      | last hP he hm hz hre =>
        rename_i x recs' l
        have q1 : ¬ (16384 : Int) < (P.length : Int) := by omega
        have x1 : (str (1 :: x)).extract 1 (x.length + 1) = str x := by rw [cut_extract]; simp
        have x2 : (str (1 :: x)).extract 0 1 = str [1] := by rw [cut_extract]; simp
        have hxl : (recL l).length = P.length + x.length := by rw [← he, List.length_append]
        have hle : P.length + x.length ≤ 140737488355328 := by omega
        have hget := fun W => get_rec l hm hz W
        rw [← he] at hget
        replace hp := Lib.hid hp; replace hre := Lib.hid hre; replace hle := Lib.hid hle; replace hget := Lib.hid hget
        clear hm hz he hxl
        generalize hM : P ++ x = M at *
        replace hM := Lib.hid hM
        go_wp2_with (first
          | (at_builtin; refine wpList_append_text_hp rfl _ _ rfl hp.out 1 rfl rfl x rfl hle.out ?_; intro v2 w3 hp3 hv; rw [hM.out] at hp3 hv; have htext := BRow.text (show BRow w3 0 v2 M from hp3.row (i := 1) rfl); replace hp := Lib.hid hp3; clear hp3; obtain ⟨ad2, cp2, rfl⟩ := hv)
          | (go_at_call 55; (with_reducible refine (hget.out _).mono ?_); rintro e w4 ⟨v4, rfl, hg⟩; obtain ⟨ad4, cp4, rfl⟩ := rowShape (hg.row (i := 0) rfl); replace hp := Lib.hid ((hp.out.take hg).alloc_ (.cells #[.slice ad4 l.length cp4] 25)); clear hg)
          | (at_builtin; go_loud (refine wpList_append_hp rfl _ _ rfl Try.underlying22 changesInfo rfl (by decide) (by decide) hp.out 1 rfl rfl _ _ [.slice ad4 l.length cp4] rfl rfl (block_cells (heap_alloc_new _ _)) (by intro u hu; simp at hu; subst hu; rfl) (by omega) ?_; intro v5 w5 hp5 hv5; replace hp := Lib.hid hp5; clear hp5; obtain ⟨b5, cp5, rfl⟩ := hv5)))
        have hfin := perm3 ((hp.out.drop 2).rowNil 5 1)
        have hsn := rowsOf_snoc vals done (.slice ad4 l.length cp4) l hvl.out
        replace hfin := Lib.hid hfin; replace hsn := Lib.hid hsn
        go_roundw
        case rel => exact ⟨k + 1, [], done ++ [l], recs', vals ++ [.slice ad4 l.length cp4], by go_num, by omega, rfl, by rw [hrem.out]; exact hre.out, by rw [hrecs.out]; simp, by simp [hvl.out], by simp; omega, ⟨_, _, rfl⟩, by rw [hsn.out, List.length_append]; exact hfin.out⟩
        case measure => simp [intOf]; omega
    · obtain rfl : k = n := by omega
      rw [List.drop_of_length_le (by rw [← hln.out]; exact Nat.le_refl _)] at hre
      cases hre
      rw [List.append_nil] at hrecs
      subst hrecs
      have hfin := Lib.hid (hp.drop 1)
      have hvl2 := Lib.hid hvl
      clear hp hvl
      go_wp2
      go_ret2
      exact ⟨_, vals, rfl, hvl2.out, hfin.out⟩
end Go.Proofs.Ytplfbpihhcnnmaa.wal
