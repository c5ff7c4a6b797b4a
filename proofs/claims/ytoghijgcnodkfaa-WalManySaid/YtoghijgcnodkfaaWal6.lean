/- A record's blocks: Split, and Join of blocks that hold whole records. No condition but the slices' cells. -/
import Derived.Test.YtoghijgcnodkfaaWal3
import Derived.Test.YtoghijgcnodkfaaHpBu
import Derived.Lib.TrimByte
import Derived.Test.YtoghijgcnodkfaaBytes2
namespace Go.Proofs.Ytoghijgcnodkfaa
open Go.RowKit
set_option linter.unusedVariables false
set_option maxRecDepth 100000
theorem strInfo' : (Try.prog.info? 9).map (fun i => (i.zero, i.size, i.bytes)) = some (some (.string ⟨#[]⟩), 1, 16) := by kernel_rfl
/-- 'append(v, s...)' of a text to a row of bytes that is held -/
theorem wpList_append_text_hp {w W : World} {X : List Nat} {rs : List Rs} {ops : Array Oper} {rest : List Oper} {o : Oper} {a : Act} {Q : Exit → Act → World → Prop} (hgd : o.guard = none) (sl x : Operand)
    (ho : o.op = .call { callee := .builtin .append, args := #[sl, x], argTypes := #[42, 9] })
    (h : Hp w X rs W) (i : Nat) {v : Value} {l : List UInt8} (hi : rs[i]? = some (.row 5 1 v l.length (cellsOf l))) (hs : a.eval sl = v) (m : List UInt8) (hx : a.eval x = .string (str m)) (hl : l.length + m.length ≤ 140737488355328)
    (hn : ∀ v' W', Hp w X (rs.set i (.row 5 1 v' (l ++ m).length (cellsOf (l ++ m)))) W' → (∃ ad cap, v' = .slice ad (l ++ m).length cap) → wpList Try.prog ops Q rest (a.put o.dst v') W') : wpList Try.prog ops Q (o :: rest) a W := by
  refine wpList_plain hgd fun K hK => ?_
  obtain ⟨i0, hi0, hz0, hz1, hz2⟩ := info_parts build.byteI
  have hz := str_size m
  have hrow := h.row hi
  obtain ⟨v', w', hr, h2, h3, _⟩ := Lib.run_append_own_string (P := Try.prog) W 0 42 9 o.type 5 i0 (by kernel_rfl) (by kernel_rfl) hi0 hz0 hz1 hz2 v l.length (cellsOf l) hrow (str m) (by unfold maxLen; omega) (by omega) (Nat.zero_le _)
  obtain ⟨v2, w2, hr2, _, _, h4⟩ := append_string_at W o.type 0 v l.length (cellsOf l) (World.ownsRowF_of hrow) (str m) (by omega) (Nat.zero_le _)
  rw [hr] at hr2
  injection hr2 with e1 e2
  subst e1; subst e2
  have hlen : (l ++ m).length = l.length + (str m).size := by rw [List.length_append, hz]
  have hcells : cellsOf (l ++ m) = cellsOf l ++ Lib.strCells (str m) := by rw [cellsOf_append]; rfl
  have hshape : ∃ ad cap, v' = .slice ad (l ++ m).length cap := by
    rw [hlen]
    rcases h2.2 with ⟨hv, h0⟩ | ⟨g, cap, cur, hv, _⟩
    · rw [h0]; exact ⟨none, 0, hv⟩
    · exact ⟨_, _, hv⟩
  unfold Oper.wp execOp
  simp only [ho, resolve, invoke, builtin, Sem.run_bind, Sem.run_pure, Result.andThen_ok, List.map_toArray, List.map_cons, List.map_nil, hs, hx, hr]
  refine hK _ _ (hn v' w' (h.upd hi _ fun fp hr => ?_) hshape)
  obtain ⟨hr, rfl⟩ := hr
  refine ⟨v'.ownBlock.toList, ⟨by rw [hlen, hcells]; exact h2, rfl⟩, by cases v'.ownBlock <;> simp, ⟨h3.os, h3.tape, h3.output, h3.size, fun k hk hx => h3.block k hk (fun e => hx (by rw [← e]; simp))⟩, ?_⟩
  intro b hb
  simp only [Option.mem_toList] at hb ⊢
  refine ⟨(h2.lt b hb).2, ?_⟩
  rcases h4 with h4 | h4
  · exact Or.inl (by rw [← h4]; exact hb)
  · exact Or.inr (h4 b hb)
end Go.Proofs.Ytoghijgcnodkfaa
namespace Go.Proofs.Ytoghijgcnodkfaa.wal
open Go.RowKit
attribute [local go_sem ↓] Go.wp_at_zero Go.wp_at_succ
attribute [local go_sem] str_size str_bl str_append
set_option linter.unusedVariables false
set_option maxRecDepth 100000

def splitL (s : List UInt8) : List (List UInt8) := if h : s.length ≤ 461 then [1 :: s] else (0 :: s.take 461) :: splitL (s.drop 461)
  termination_by s.length
  decreasing_by rw [List.length_drop]; omega
theorem splitL_short (s : List UInt8) (h : s.length ≤ 461) : splitL s = [1 :: s] := by rw [splitL, dif_pos h]
theorem splitL_long (s : List UInt8) (h : ¬ s.length ≤ 461) : splitL s = (0 :: s.take 461) :: splitL (s.drop 461) := by rw [splitL, dif_neg h]
def strsV (l : List (List UInt8)) : List Value := l.map fun s => .string (str s)
theorem strsV_append (a b : List (List UInt8)) : strsV (a ++ b) = strsV a ++ strsV b := by simp [strsV]
/-- what Split hands back -/
def SplitRet (w : World) (l : List (List UInt8)) (e : Ending) (w' : World) : Prop := ∃ v, e = .returned v ∧ Hp w [] [.row 9 1 v l.length (strsV l)] w'
theorem splitL_len : ∀ (n : Nat) (s : List UInt8), s.length ≤ n → (splitL s).length ≤ n + 1
  | 0, s, h => by rw [splitL_short s (by omega)]; simp
  | n + 1, s, h => by
    by_cases h1 : s.length ≤ 461
    · rw [splitL_short s h1]; simp
    · rw [splitL_long s h1]
      have := splitL_len n (s.drop 461) (by rw [List.length_drop]; omega)
      simp; omega
set_option maxHeartbeats 2000000 in
theorem split_any (s : List UInt8) (hs : s.length ≤ 1000000) (w : World) : Calls Try.prog 112 #[.string (str s)] w (SplitRet w (splitL s)) := by
  have hp := Lib.hid ((Hp.none_ w []).rowNil 9 1)
  have hlen := splitL_len 1000000 s hs
  obtain ⟨R, hR⟩ : ∃ R, R = splitL s := ⟨_, rfl⟩
  rw [← hR] at hlen ⊢
  replace hlen := Lib.hid hlen; replace hR := Lib.hid hR
  go_enter Try.func112, Try.ntmps112
  go_wp2
  go_loopw [0, 3] (fun t v wr => ∃ (r : List UInt8) (acc : List (List UInt8)), t = .string (str r) ∧ r.length ≤ s.length ∧ R = acc ++ splitL r ∧ Hp w [] [.row 9 1 v acc.length (strsV acc)] wr) (fun t _ _ => Lib.strSize t)
  case atStart => exact ⟨s, [], rfl, Nat.le_refl _, by rw [hR.out]; rfl, hp.out⟩
  case round =>
    clear hp
    obtain ⟨r, acc, rfl, hr, hacc, hp⟩ := hrel
    have hal : acc.length ≤ 1000001 := by have := hlen.out; rw [hacc, List.length_append] at this; omega
    by_cases h1 : r.length ≤ 461
    · have q1 : ¬ (461 : Int) < (r.length : Int) := by omega
      have hroom : ¬ 9223372036854775807 < 1 + r.length := by omega
      rw [splitL_short r h1] at hacc
      have hone : str [1] ++ str r = str (1 :: r) := str_append _ _
      have hp2 := hp.alloc_ (.cells #[.string (str (1 :: r))] 9)
      replace hp2 := Lib.hid hp2; replace hacc := Lib.hid hacc
      clear hp h1
      go_wp2_with (at_builtin; go_loud (refine wpList_append_hp rfl _ _ rfl Try.underlying28 strInfo' rfl (by decide) (by decide) hp2.out 0 rfl rfl _ _ [.string (str (1 :: r))] rfl rfl (block_cells (heap_alloc_new _ _)) (by intro u hu; simp at hu; subst hu; rfl) (by omega) ?_; intro v2 w3 hp3 hv; replace hp2 := Lib.hid hp3; clear hp3; obtain ⟨b2, cap2, rfl⟩ := hv))
      go_ret
      have e2 : strsV (acc ++ [1 :: r]) = strsV acc ++ [.string (str (1 :: r))] := by simp [strsV]
      exact ⟨_, rfl, by rw [hacc.out, e2, List.length_append]; exact hp2.out⟩
    · have q1 : (461 : Int) < (r.length : Int) := by omega
      have hroom : ¬ 9223372036854775807 < 1 + (r.take 461).length := by rw [List.length_take]; omega
      rw [splitL_long r h1] at hacc
      have hone : str [0] ++ str (r.take 461) = str (0 :: r.take 461) := str_append _ _
      have x1 : (str r).extract 0 461 = str (r.take 461) := by rw [cut_extract]; simp
      have x2 : (str r).extract 461 r.length = str (r.drop 461) := by rw [cut_extract, List.take_of_length_le (by rw [List.length_drop]; omega)]
      have hdl : (r.drop 461).length + 461 = r.length := by rw [List.length_drop]; omega
      have htl : (r.take 461).length = 461 := by rw [List.length_take]; omega
      have hp2 := hp.alloc_ (.cells #[.string (str (0 :: r.take 461))] 9)
      have e2 : acc ++ (0 :: r.take 461) :: splitL (r.drop 461) = (acc ++ [0 :: r.take 461]) ++ splitL (r.drop 461) := by simp
      have e3 : strsV (acc ++ [0 :: r.take 461]) = strsV acc ++ [.string (str (0 :: r.take 461))] := by simp [strsV]
      rw [e2] at hacc
      generalize r.take 461 = A at *
      generalize r.drop 461 = D at *
      replace hp2 := Lib.hid hp2; replace hacc := Lib.hid hacc; replace e3 := Lib.hid e3; replace hdl := Lib.hid hdl; replace htl := Lib.hid htl
      clear hp h1 e2
      go_wp2_with (at_builtin; go_loud (refine wpList_append_hp rfl _ _ rfl Try.underlying28 strInfo' rfl (by decide) (by decide) hp2.out 0 rfl rfl _ _ [.string (str (0 :: A))] rfl rfl (block_cells (heap_alloc_new _ _)) (by intro u hu; simp at hu; subst hu; rfl) (by omega) ?_; intro v2 w3 hp3 hv; replace hp2 := Lib.hid hp3; clear hp3; obtain ⟨b2, cap2, rfl⟩ := hv))
      go_roundw
      case rel => exact ⟨D, acc ++ [0 :: A], rfl, by have := hdl.out; omega, hacc.out, by rw [e3.out, List.length_append]; exact hp2.out⟩
      case measure => have := hdl.out; simp [Lib.strSize, str_size]; omega
end Go.Proofs.Ytoghijgcnodkfaa.wal
