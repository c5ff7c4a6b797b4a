/- What sessions hold: Free. No condition but the table's own. -/
import Derived.Test.YtmeaidkbkelclabLock4
import Derived.Test.YtmeaidkbkelclabLock6
import Derived.Laws.StructEq
import Derived.Deep.DeepCutAuto
namespace Go.Proofs.Ytmeaidkbkelclab.lock
open Go.RowKit
attribute [local go_sem ↓] Go.wp_at_zero Go.wp_at_succ
attribute [local go_sem] str_size
set_option linter.unusedVariables false
set_option maxRecDepth 100000

theorem keepsGrown {X : List Nat} {w w' w'' : World} {row : Option Nat} (h : Keeps X w w') (g : w'.grownBy w'' row) (hr : ∀ j, row = some j → j ∈ X ∨ w.heap.size ≤ j) : Keeps X w w'' :=
  ⟨g.os.trans h.os, g.tape.trans h.tape, g.output.trans h.output, Nat.le_trans h.size g.size, fun i hi hx => (g.block i (Nat.lt_of_lt_of_le hi h.size) (by intro e; rcases hr i e.symm with h1 | h1; exact hx h1; omega)).trans (h.block i hi hx)⟩
def freeH (f : Nat → Nat) (who : Nat) : Nat → Nat := fun x => if x = who then 0 else f x
def freeT (T : List UInt8 → Nat → Nat) (who : Nat) : List UInt8 → Nat → Nat := fun j => freeH (T j) who
theorem freeH_same {f : Nat → Nat} {who : Nat} (h : f who = 0) : freeH f who = f := by
  funext x
  unfold freeH
  by_cases hx : x = who
  · rw [if_pos hx, hx, h]
  · rw [if_neg hx]
/-- how things are held while some are still to come -/
def curT (T : List UInt8 → Nat → Nat) (who : Nat) (left : Lit → Bool) : List UInt8 → Nat → Nat := fun j => if left (.string j) then T j else freeH (T j) who
theorem curT_end (T : List UInt8 → Nat → Nat) (who : Nat) {left : Lit → Bool} (h : ∀ kl, left kl = false) : curT T who left = freeT T who := by
  funext j; unfold curT freeT; rw [h]; rfl
theorem key_ne {j k : List UInt8} (h : j ≠ k) : (Lit.string j) ≠ (Lit.string k) := fun q => by injection q with q; exact h q
theorem curT_step (T : List UInt8 → Nat → Nat) (who : Nat) (left : Lit → Bool) (k j : List UInt8) : curT T who (fun z => left z && !z.sameKey (.string k)) j = if j = k then freeH (T k) who else curT T who left j := by
  show (if (left (.string j) && !(Lit.string j).sameKey (.string k)) then T j else freeH (T j) who) = if j = k then freeH (T k) who else if left (.string j) then T j else freeH (T j) who
  by_cases hj : j = k
  · subst hj
    rw [if_pos rfl, WideAt.sameKey_self (show WideAt.IsKeyLit (Lit.string _) from trivial)]; simp
  · rw [if_neg hj, Maps.sameKey_ne (key_ne hj)]; simp
theorem curT_left (T : List UInt8 → Nat → Nat) (who : Nat) {left : Lit → Bool} {k : List UInt8} (h : left (.string k) = true) : curT T who left k = T k := by unfold curT; rw [h]; rfl
/-- the map reads so -/
def Reads (D : DataW Unit) (U : List UInt8 → Nat → Nat) : Prop := (∀ k, Maps.has D (.string k) = anyH (U k)) ∧ (∀ k z, anyH (U k) = true → D.atKey (.string k) z = holdD (U k))
theorem Reads.congr {D : DataW Unit} {U V : List UInt8 → Nat → Nat} (h : Reads D U) (e : ∀ k, V k = U k) : Reads D V := ⟨fun k => by rw [h.1 k, e k], fun k z hk => by rw [e k] at hk ⊢; exact h.2 k z hk⟩
theorem Reads.put {D : DataW Unit} {U : List UInt8 → Nat → Nat} (h : Reads D U) (hD : Maps.IsMap D) {k : List UInt8} {f : Nat → Nat} (hf : anyH f = true) : Reads (D.put (.string k) (holdD f)) fun j => if j = k then f else U j := by
  have hkl : WideAt.IsKeyLit (Lit.string k) := trivial
  refine ⟨fun j => ?_, fun j z hj => ?_⟩
  · show _ = anyH (if j = k then f else U j)
    by_cases e : j = k
    · subst e; rw [if_pos rfl, Maps.has_put_same hD hkl, hf]
    · rw [if_neg e, Maps.has_put_other (key_ne e), h.1]
  · show _ = holdD (if j = k then f else U j)
    replace hj : anyH (if j = k then f else U j) = true := hj
    by_cases e : j = k
    · subst e; rw [if_pos rfl, Maps.atKey_put_same hD hkl]
    · rw [if_neg e] at hj ⊢
      rw [Maps.atKey_put_other (key_ne e)]; exact h.2 j z hj
theorem Reads.del {D : DataW Unit} {U : List UInt8 → Nat → Nat} (h : Reads D U) {k : List UInt8} {f : Nat → Nat} (hf : anyH f = false) : Reads (D.del (.string k)) fun j => if j = k then f else U j := by
  refine ⟨fun j => ?_, fun j z hj => ?_⟩
  · show _ = anyH (if j = k then f else U j)
    by_cases e : j = k
    · subst e; rw [if_pos rfl, Maps.has_del_same, hf]
    · rw [if_neg e, Maps.has_del_other (key_ne e), h.1]
  · show _ = holdD (if j = k then f else U j)
    replace hj : anyH (if j = k then f else U j) = true := hj
    by_cases e : j = k
    · subst e; rw [if_pos rfl, hf] at hj; cases hj
    · rw [if_neg e] at hj ⊢
      rw [Maps.atKey_del_other (key_ne e)]; exact h.2 j z hj
theorem keyOf_str {key : Value} {kl : Lit} (h : keyOf Try.prog 9 key = some kl) : ∃ k : List UInt8, key = .string (str k) ∧ kl = .string k := by
  obtain ⟨s, rfl⟩ := Maps.keyOf_string_inv Try.underlying9 h
  refine ⟨s.data.toList, by rw [str_of], ?_⟩
  simp [keyOf, Try.underlying9, mapKey] at h
  exact h.2.symm
theorem str_inj {a b : List UInt8} (h : str a = str b) : a = b := by
  have := congrArg (fun s : ByteArray => s.data.toList) h
  simp only [str_toList] at this
  exact this
def FreeTo (w' : World) (g m N : Nat) (T : List UInt8 → Nat → Nat) (held : Nat → Nat) : Prop := ∃ things', LockAt w' g m N T held things'
theorem elem_agg {v : Value} {y : DataW Unit × List MemPlace} (h : holdElem v = some y) : ∃ c, v = .agg c := by
  unfold holdElem at h
  split at h
  · exact ⟨_, rfl⟩
  · cases h
section
variable {w w' : World} {g m N : Nat} {T : List UInt8 → Nat → Nat} {held : Nat → Nat} {things : Nat}
theorem free_none (h : LockAt w g m N T held things) (who : Nat) (hw : who < 16) (h0 : held who = 0) :
    Calls Try.prog 15 #[.pointer (some ⟨g, 0, none⟩), .int .i64 (who : Int)] w fun e w' => e = .returned (.int .i64 0) ∧ Below w.heap.size w w' := by
  have hh := held_any h who hw
  rw [h0] at hh
  have hh2 : Calls Try.prog 23 #[.pointer (some ⟨g, 0, none⟩), .int .i64 (who : Int)] w fun e w' => e = .returned (.int .i64 0) ∧ Below w.heap.size w w' := hh
  replace hh2 := Lib.hid hh2
  clear h hh h0
  go_enter Try.func15, Try.ntmps15
  go_wp2_with (go_at_call 23; (with_reducible refine hh2.out.mono ?_); rintro e w1 ⟨rfl, b1⟩)
  go_ret
  exact ⟨rfl, b1⟩
theorem free_out (p : Option Addr) (who : Int) (hw : p = none ∨ ¬ (0 ≤ who ∧ who < 16)) (w : World) :
    Calls Try.prog 15 #[.pointer p, .int .i64 who] w fun e w' => e = .returned (.int .i64 0) ∧ Below w.heap.size w w' := by
  have hh2 := held_out p who hw w
  replace hh2 := Lib.hid hh2
  clear hw
  go_enter Try.func15, Try.ntmps15
  go_wp2_with (go_at_call 23; (with_reducible refine hh2.out.mono ?_); rintro e w1 ⟨rfl, b1⟩)
  go_ret
  exact ⟨rfl, b1⟩
set_option maxHeartbeats 4000000 in
theorem free_any (h : LockAt w g m N T held things) (who : Nat) (hw : who < 16) (h0 : held who ≠ 0) (hN : N ≤ 1000000) :
    Calls Try.prog 15 #[.pointer (some ⟨g, 0, none⟩), .int .i64 (who : Int)] w fun e w' => e = .returned (.int .i64 (held who : Int)) ∧ FreeTo w' g m N (freeT T who) (fun x => if x = who then 0 else held x) ∧ Keeps [g, m] w w' := by
  have hh := held_any h who hw
  have t0 : ((held who : Int) == 0) = false := by simpa using (by omega : (held who : Int) ≠ 0)
  have hgm := h.ne
  have hbl := h.blk
  have hglt := h.lt
  obtain ⟨D, c, hown, hc, q3, q4, q5⟩ := h.own
  have hin : Reads D (curT T who (Maps.has D)) := by
    have hr : Reads D T := ⟨q3, q4⟩
    refine hr.congr fun k => ?_
    unfold curT
    by_cases hq : Maps.has D (.string k) = true
    · rw [hq]; rfl
    · have hq2 : Maps.has D (.string k) = false := by simpa using hq
      rw [hq2]
      simp only [Bool.false_eq_true, if_false]
      rw [q3] at hq2
      exact freeH_same (anyH_false hq2 hw)
  have kk := Keeps.refl [m] w
  have hM := h
  replace hh := Lib.hid hh; replace hbl := Lib.hid hbl; replace hglt := Lib.hid hglt; replace hown := Lib.hid hown; replace hin := Lib.hid hin; replace hM := Lib.hid hM; replace hc := Lib.hid hc; replace hN := Lib.hid hN; replace kk := Lib.hid kk
  have c00 := h.cell0
  clear h h0 q3 q4 q5
  go_enter Try.func15, Try.ntmps15
  go_wp2_with (first
    | (go_at_call 23; (with_reducible refine hh.out.mono ?_); rintro e w1 ⟨rfl, b1⟩; have c0 := (b1.cell (p := ⟨g, 0, none⟩) hglt.out.1).trans c00; replace hown := Lib.hid (ownsMap_of_block hown.out (b1.block _ hglt.out.2)); replace kk := Lib.hid (Keeps.ofBelow b1 [m]); clear b1)
    | (refine wpList_range_own _ rfl _ 69 rfl 9 73 keyedStr Try.underlying69 holdElem m c D rfl hown.out ?_; intro w0 hrg0 hg0 hs0))
  go_frame
  have kk0 := keepsGrown kk.out hg0 (by intro j hj; cases hj)
  have hrl : w.heap.size ≤ w1.heap.size := kk.out.size
  generalize w1.heap.size = r at *
  replace kk0 := Lib.hid kk0; replace hrg0 := Lib.hid hrg0
  clear kk hg0 hs0 c0 c00 hown
  go_loopw [6] (fun _ wr => ∃ (left : Lit → Bool) (cnt : Nat) (D : DataW Unit), wr.ranges Try.prog 9 holdElem m r c D left cnt ∧ Reads D (curT T who left) ∧ Keeps [m] w wr) (fun _ wr => wr.rangeLeft m r)
  case atStart => exact ⟨_, _, _, hrg0.out, hin.out, kk0.out⟩
  case round =>
    clear hrg0 hin kk0
    obtain ⟨left, cnt, D, hrg, hR, kk⟩ := hrel
    replace hrg := Lib.hid hrg; replace hR := Lib.hid hR; replace kk := Lib.hid kk
    go_wp2_with (refine wpList_next_ranges _ rfl _ rfl 9 keyedStr holdElem (fun k : List UInt8 => Value.string (str k)) Value.agg (fun key kl hk => by obtain ⟨k, h1, _⟩ := keyOf_str hk; exact ⟨k, h1⟩) (fun v y hv => elem_agg hv) m r c _ _ _ rfl hrg.out ?_ ?_)
    · intro hc0 hl0
      have hR2 := hR.out
      rw [curT_end T who hl0] at hR2
      have hLK : LockAt wr g m N (freeT T who) held (Maps.size D) := ⟨(kk.out.block g hglt.out.1 (by simpa using hgm)).trans hbl.out, D, c, hrg.out.owns, hc.out, hR2.1, hR2.2, rfl⟩
      have cH := hLK.cellH' hw
      have fH := hLK.free (1 + who)
      have i0 : (0 : Int) ≤ (who : Int) := by omega
      have i1 : (who : Int) < 16 := by omega
      have hend := hLK.setHeld hw 0 0 rfl
      replace hLK := Lib.hid hLK; replace hend := Lib.hid hend
      clear hc0 hl0 hR2
      go_wp2
      go_ret
      exact ⟨rfl, ⟨_, hend.out⟩, (kk.out.more (by simp)).setCell (p := ⟨g, 1 + who, none⟩) (Or.inl (by simp)) _⟩
    · intro k cs kl yd yp w2 cnt2 hkey hlk hv hat hrg2 hlt hg2 hs2 hen
      obtain ⟨k', h1, h2⟩ := keyOf_str hkey
      obtain rfl : k = k' := str_inj (by injection h1)
      subst h2
      have hT := curT_left T who hlk
      have hany : anyH (T k) = true := by
        have hh := Maps.has_true_of_atKey hat
        rw [hR.out.1, hT] at hh; exact hh
      have hyd : yd = holdD (T k) := by
        rw [← hat (.nil), hR.out.2 k _ (by rw [hT]; exact hany), hT]
      rw [hyd] at hv
      have hcs := holdElem_inv hv
      unfold holdV at hcs
      injection hcs with hcs
      subst hcs
      have hs16 : (cells16 (T k)).toArray.size = 16 := by simp [cells16_len]
      have hC1 := cells16_one (T k)
      have d0 := (newCell w2 (cells16 (T k)).toArray 73 who).trans (show (cells16 (T k)).toArray[who]? = some (.int .i64 (T k who : Int)) by simpa using cells16_at (T k) hw)
      have hi16 : (Try.prog.info? 73).map (·.size) = some (cells16 (T k)).toArray.size := by rw [hs16]; kernel_rfl
      have hset := cells16_set (T k) hw 0 0 rfl
      obtain ⟨L, hL⟩ : ∃ L, L = (cells16 (T k)).toArray := ⟨_, rfl⟩
      rw [← hL] at hs16 hC1 d0 hi16 hset hen
      have kk2 := keepsGrown kk.out hg2 (by intro j hj; cases hj; exact .inr hrl)
      have i0 : (0 : Int) ≤ (who : Int) := by omega
      have i1 : (who : Int) < 16 := by omega
      replace hL := Lib.hid hL; replace hrg2 := Lib.hid hrg2; replace kk2 := Lib.hid kk2; replace hset := Lib.hid hset; replace hi16 := Lib.hid hi16; replace hs16 := Lib.hid hs16; replace hC1 := Lib.hid hC1; replace hlt := Lib.hid hlt
      have hin : Maps.has D (.string k) = true := by rw [hR.out.1, hT]; exact hany
      replace hkey := Lib.hid hkey; replace hin := Lib.hid hin
      clear hlk hv hat hg2 hs2 hyd hany h1 hT
      by_cases hz : T k who = 0
      · have t1 : ((T k who : Int) == 0) = true := by simpa using (by omega : (T k who : Int) = 0)
        go_wp2_with ((refine wpList_store_row rfl 73 (.tmp 7) (.tmp 22) rfl w2.heap.size L rfl rfl 73 _ (heap_alloc_new w2 _) hi16.out (by rw [hs16.out]; rfl) hC1.out ?_; rw [World.setRow_alloc_new]))
        go_roundw
        case rel => exact ⟨_, cnt2, D, hrg2.out.alloc _, hR.out.congr (fun j => by
          rw [curT_step]
          by_cases hj : j = k
          · rw [if_pos hj, hj, freeH_same hz]; unfold curT; split <;> first | rfl | rw [freeH_same hz]
          · rw [if_neg hj]), kk2.out.alloc _⟩
        case measure => rw [(hrg2.out.alloc _).left_eq, hrg.out.left_eq]; exact hlt.out
      · have t1 : ((T k who : Int) == 0) = false := by simpa using (by omega : (T k who : Int) ≠ 0)
        have f0 := frozen_of_row _ w2.heap.size who _ _ (heap_alloc_new w2 (.cells L 73))
        have hgt : Try.prog.eqGuardType Try.prog.depth 73 = false := by kernel_rfl
        go_upto_region 9 with ((refine wpList_store_row rfl 73 (.tmp 7) (.tmp 22) rfl w2.heap.size L rfl rfl 73 _ (heap_alloc_new w2 _) hi16.out (by rw [hs16.out]; rfl) hC1.out ?_; rw [World.setRow_alloc_new]))
        rw [hset.out]
        have hel := fun W => run_eql_hold (fun y => if y = who then 0 else T k y) (fun _ => 0) W
        rw [all_zero] at hel
        have hM16 : (Try.prog.info? 73).map (·.size) = some (cells16 fun y => if y = who then 0 else T k y).toArray.size := by rw [List.size_toArray, cells16_len]; kernel_rfl
        have hzz : (cells16 fun _ => 0).toArray = #[.int .i64 0, .int .i64 0, .int .i64 0, .int .i64 0, .int .i64 0, .int .i64 0, .int .i64 0, .int .i64 0, .int .i64 0, .int .i64 0, .int .i64 0, .int .i64 0, .int .i64 0, .int .i64 0, .int .i64 0, .int .i64 0] := rfl
        rw [hzz] at hel
        have hfree : (fun y => if y = who then 0 else T k y) = freeH (T k) who := rfl
        rw [hfree] at hel hM16 ⊢
        have hmk := holdElem_mk (H := Unit) (freeH (T k) who)
        unfold holdV at hmk
        obtain ⟨M, hM2⟩ : ∃ M, M = (cells16 (freeH (T k) who)).toArray := ⟨_, rfl⟩
        obtain ⟨F, hF⟩ : ∃ F, F = freeH (T k) who := ⟨_, rfl⟩
        rw [← hM2] at hel hM16 hmk ⊢
        rw [← hF] at hel hmk
        have hrg3 := hrg2.out.alloc (.cells M 73)
        have kk3 := kk2.out.alloc (.cells M 73)
        have hq3 := heap_alloc_new w2 (.cells M 73)
        have c3 : (w2.alloc (.cells M 73)).cell? ⟨g, 0, none⟩ = some (.map (some m)) := (kk3.cell (p := ⟨g, 0, none⟩) hglt.out.1 (by simpa using hgm)).trans hM.out.cell0
        have hkk := keyStr k
        replace hel := Lib.hid hel; replace hM16 := Lib.hid hM16; replace hM2 := Lib.hid hM2; replace hF := Lib.hid hF; replace hrg3 := Lib.hid hrg3; replace kk3 := Lib.hid kk3; replace hq3 := Lib.hid hq3; replace hmk := Lib.hid hmk
        clear hzz hfree d0 f0 hen t1
        generalize w2.heap.size = q at *
        generalize w2.alloc (.cells M 73) = w3 at *
        have hpk := hR.out.del (k := k) (f := F)
        have hpt := hR.out.put (hrg.out.owns.tidy keyedStr).isMap (k := k) (f := F)
        replace hpk := Lib.hid hpk; replace hpt := Lib.hid hpt
        cases hzz : anyH F with
        | false =>
          have hel2 : ∀ W, (binOp .eql 73 (.agg M) (.agg #[.int .i64 0, .int .i64 0, .int .i64 0, .int .i64 0, .int .i64 0, .int .i64 0, .int .i64 0, .int .i64 0, .int .i64 0, .int .i64 0, .int .i64 0, .int .i64 0, .int .i64 0, .int .i64 0, .int .i64 0, .int .i64 0])).run Try.prog W = .ok (.bool true) W := fun W => by have := hel.out W; rwa [hzz] at this
          have hend := hpk.out hzz
          replace hend := Lib.hid hend
          clear hzz
          go_wp2_with (first
            | (refine wpList_load_row rfl 73 (.tmp 7) rfl q rfl 73 M (0, 0) _ hq3.out Try.underlying73 rfl hM16.out ?_)
            | (at_delete; go_loud (refine wpList_delete_ranges _ rfl _ _ 69 9 rfl 73 keyedStr Try.underlying69 holdElem m r c D _ _ rfl hrg3.out _ (.string k) rfl hkey.out ?_; intro w4 cnt4 hrg4 hle4 hturn4; go_frame)))
          rw [Maps.strike_twice] at hrg4
          go_roundw
          case rel => exact ⟨_, cnt4, _, hrg4, hend.out.congr (fun j => by rw [curT_step, ← hF.out]), keepsGrown kk3.out hturn4.grown (by intro j hj; cases hj; exact .inl (by simp))⟩
          case measure => rw [hrg4.left_eq, hrg.out.left_eq]; have := hlt.out; omega
        | true =>
          have hel2 : ∀ W, (binOp .eql 73 (.agg M) (.agg #[.int .i64 0, .int .i64 0, .int .i64 0, .int .i64 0, .int .i64 0, .int .i64 0, .int .i64 0, .int .i64 0, .int .i64 0, .int .i64 0, .int .i64 0, .int .i64 0, .int .i64 0, .int .i64 0, .int .i64 0, .int .i64 0])).run Try.prog W = .ok (.bool false) W := fun W => by have := hel.out W; rwa [hzz] at this
          have hend := hpt.out hzz
          replace hend := Lib.hid hend
          clear hzz
          go_wp2_with (refine wpList_load_row rfl 73 (.tmp 7) rfl q rfl 73 M (0, 0) _ hq3.out Try.underlying73 rfl hM16.out ?_)
          refine wp_region_still_tail 6 (by kernel_rfl) (by kernel_rfl) ?_
          simp only [List.take_succ_cons, List.take_zero, List.drop_succ_cons, List.drop_zero]
          repeat still_step
          refine still_load_row M hM16.out Try.underlying73 rfl (.tmp 7) rfl q rfl hq3.out ?_
          repeat still_step
          try refine wpStill_nil ?_
          change wpList _ _ _ _ _ w3.drew
          have hrg5 := hrg3.out.kept (w' := w3.drew) (row := none) ⟨rfl, rfl, rfl, Nat.le_refl _, fun _ _ _ => rfl⟩ (by simp) (by simp)
          have kk5 := kk3.out.drew
          replace hrg5 := Lib.hid hrg5; replace kk5 := Lib.hid kk5
          go_wp2_with (at_mapUpdate; go_loud (refine wpList_update_ranges rfl _ _ _ 69 rfl 9 73 keyedStr Try.underlying69 holdElem m r c D _ _ rfl hrg5.out (by have := hc.out; have := hN.out; unfold maxLen; omega) _ _ (.string k) rfl rfl hkey.out (holdD F) [] hmk.out hin.out ?_; intro w4 hrg4 hturn4; go_frame))
          go_roundw
          case rel => exact ⟨_, cnt2, _, hrg4, hend.out.congr (fun j => by rw [curT_step, ← hF.out]), keepsGrown kk5.out hturn4.grown (by intro j hj; cases hj; exact .inl (by simp))⟩
          case measure => rw [hrg4.left_eq, hrg.out.left_eq]; exact hlt.out
end
end Go.Proofs.Ytmeaidkbkelclab.lock
