/- Records of the log as bytes: wal.Put and the document's. No condition but the slice's cells. -/
import Derived.Test.YtplfbpihhcnnmaaWal
import Derived.Test.YtplfbpihhcnnmaaBuild
import Derived.Test.YtplfbpihhcnnmaaRead
import Derived.Deep.RegionHeld3
namespace Go.Proofs.Ytplfbpihhcnnmaa.wal
open Go.RowKit
attribute [local go_sem ↓] Go.wp_at_zero Go.wp_at_succ
attribute [local go_sem] str_size str_bl str_append
set_option linter.unusedVariables false
set_option maxRecDepth 100000

open code (textL boolL textL_len text_put rtext_put)
def chB (c : Ch) : List UInt8 := boolL c.g ++ textL c.k ++ (if c.g then [] else textL c.v)
def recL (l : List Ch) : List UInt8 := code.numL l.length ++ l.flatMap chB
def putL (l : List Ch) : List UInt8 := if mayL l = true ∧ (recL l).length ≤ 16384 then recL l else []
/-- the builder -/
structure PS (w : World) (b : Nat) (L : List UInt8) (W : World) : Prop where
  bu : build.Bu b L W
  bel : Below w.heap.size w W
  ge : w.heap.size ≤ b
theorem PS.pure {w W W' : World} {b : Nat} {L : List UInt8} (h : PS w b L W) (k : Below W.heap.size W W') : PS w b L W' := ⟨h.bu.below k, belowCont h.bel k, h.ge⟩
theorem PS.write {w W W' : World} {b : Nat} {L M : List UInt8} (h : PS w b L W) (hb : build.Bu b M W') (k : Below b W W') : PS w b M W' := ⟨hb, h.bel.trans (k.mono h.ge), h.ge⟩
theorem PS.fresh {w w1 : World} (h : Below w.heap.size w w1) : PS w w1.heap.size [] (w1.alloc (.cells #[.pointer none, .slice none 0 0] 123)) :=
  ⟨build.Bu.fresh w1, h.alloc h.size _, h.size⟩
/-- the builder, and the box of the change that is written -/
structure PX (w : World) (b q : Nat) (L : List UInt8) (c : Ch) (W : World) : Prop where
  bu : build.Bu b L W
  bel : Below w.heap.size w W
  ge : w.heap.size ≤ b
  box : W.heap[q]? = some (.cells #[.string (str c.k), .string (str c.v), .bool c.g] 100 (0, 0))
  ne : q ≠ b
namespace PX
variable {w W W' : World} {b q : Nat} {L M : List UInt8} {c : Ch}
theorem pure (h : PX w b q L c W) (k : Below W.heap.size W W') : PX w b q L c W' :=
  ⟨h.bu.below k, belowCont h.bel k, h.ge, (k.block _ (block_lt h.box)).trans h.box, h.ne⟩
theorem drew (h : PX w b q L c W) : PX w b q L c W.drew := h.pure (Below.refl _ _).drew
theorem write (h : PX w b q L c W) (hb : build.Bu b M W') (k : Below b W W') (ok : Lib.OthersKept 5 (some b) W W') : PX w b q M c W' :=
  ⟨hb, h.bel.trans (k.mono h.ge), h.ge, ok q _ h.box (by intro e; injection e with e; exact h.ne e) (by intro c fz e; injection e with _ e2; exact absurd e2 (by decide)), h.ne⟩
theorem c0 (h : PX w b q L c W) : W.cell? ⟨q, 0, none⟩ = some (.string (str c.k)) := cell_of_row _ _ 0 _ _ _ h.box
theorem c1 (h : PX w b q L c W) : W.cell? ⟨q, 1, none⟩ = some (.string (str c.v)) := cell_of_row _ _ 1 _ _ _ h.box
theorem c2 (h : PX w b q L c W) : W.cell? ⟨q, 2, none⟩ = some (.bool c.g) := cell_of_row _ _ 2 _ _ _ h.box
end PX
theorem mayL_all {l : List Ch} (h : mayL l = true) : 1 ≤ l.length ∧ l.length ≤ 256 ∧ ∀ c ∈ l, chOk c = true := by
  unfold mayL at h
  simp only [Bool.and_eq_true, decide_eq_true_eq, List.all_eq_true] at h
  exact ⟨h.1.1, h.1.2, h.2⟩
theorem chOk_bd {c : Ch} (h : chOk c = true) : c.k.length ≤ 96 ∧ c.v.length ≤ 4096 := by
  simp only [chOk, decide_eq_true_eq] at h; exact ⟨h.2.1, h.2.2.1⟩
theorem chB_len {c : Ch} (h : c.k.length ≤ 96 ∧ c.v.length ≤ 4096) : (chB c).length ≤ 4300 := by
  have h1 := textL_len c.k (by omega)
  have h2 := textL_len c.v (by omega)
  unfold chB boolL
  split <;> simp <;> omega
theorem flat_bytes_len : ∀ (l : List Ch), (∀ c ∈ l, chOk c = true) → (l.flatMap chB).length ≤ l.length * 4300
  | [], _ => by simp
  | c :: l, h => by
    have h1 := chB_len (chOk_bd (h c (by simp)))
    have h2 := flat_bytes_len l (fun x hx => h x (by simp [hx]))
    rw [List.flatMap_cons, List.length_append, List.length_cons]; omega
theorem recL_len {l : List Ch} (h : mayL l = true) : (recL l).length ≤ 1200000 := by
  obtain ⟨h1, h2, h3⟩ := mayL_all h
  have := flat_bytes_len l h3
  have h4 := code.numL_len64 l.length (by omega)
  unfold recL; rw [List.length_append]; omega
theorem flat_take {α β : Type} (f : α → List β) (l : List α) (i : Nat) (x : α) (hx : l[i]? = some x) : (l.take (i + 1)).flatMap f = (l.take i).flatMap f ++ f x := by
  rw [List.take_add_one, hx]; simp
set_option maxHeartbeats 4000000 in
theorem put_any (v : Value) (l : List Ch) (w : World) (h : Sl w v l.length (chCells l)) : Calls Try.prog 56 #[v] w fun e w' => e = .returned (.string (str (putL l))) ∧ Below w.heap.size w w' := by
  have cm := fun w' k => may_any v l w' (h.below k)
  cases hm : mayL l with
  | false =>
    rw [hm] at cm
    have e : putL l = [] := by unfold putL; rw [if_neg (by simp [hm])]
    rw [e]
    obtain ⟨a, cap, rfl, _, _⟩ := h
    replace cm := Lib.hid cm
    clear hm e
    go_enter Try.func56, Try.ntmps56
    go_wp2_with (go_at_call 93; (with_reducible refine (cm.out _ (Below.refl _ _)).mono ?_); rintro e w1 ⟨rfl, hb⟩)
    go_ret
    exact ⟨rfl, hb⟩
  | true =>
    rw [hm] at cm
    have hlen := recL_len hm
    obtain ⟨q1, q2, q3⟩ := mayL_all hm
    obtain ⟨a, cap, rfl, hmax, h⟩ := h
    obtain ⟨b0, o, rfl, hr⟩ := h.resolve_left (by omega)
    obtain ⟨n, hln⟩ : ∃ n, n = l.length := ⟨_, rfl⟩
    rw [← hln] at q1 q2 cm hmax ⊢
    have cn := fun w' => code.num_any n (by omega) w'
    have hw : IntKind.u64.wrap (n : Int) = n := IntWalk.u64_in _ (by omega)
    replace hr := Lib.hid hr; replace hln := Lib.hid hln; replace hm := Lib.hid hm; replace hlen := Lib.hid hlen; replace q3 := Lib.hid q3; replace cm := Lib.hid cm; replace cn := Lib.hid cn
    clear h hmax
    go_enter Try.func56, Try.ntmps56
    go_upto_region 4 with (go_at_call 93; (with_reducible refine (cm.out _ (Below.refl _ _)).mono ?_); rintro e w1 ⟨rfl, hb⟩)
    have st := PS.fresh hb
    generalize w1.alloc (.cells #[.pointer none, .slice none 0 0] 123) = W at st ⊢
    generalize w1.heap.size = b at st ⊢
    clear hb w1
    replace st := Lib.hid st
    go_wp2_with (first
      | (go_at_call 76; (with_reducible refine (cn.out _).mono ?_); rintro e w1 ⟨rfl, b1⟩; replace st := Lib.hid (st.out.pure b1); clear b1)
      | (go_at_call 75; (with_reducible refine (build.bwrite b _ _ _ st.out.bu (by have := code.numL_len64 n (by omega); simp; omega)).mono ?_); rintro e w1 ⟨rfl, b1, k1⟩; replace st := Lib.hid (st.out.write b1 k1); clear b1 k1))
    have e0 : [] ++ code.numL n = code.numL n ++ (l.take 0).flatMap chB := by simp
    rw [e0] at st
    clear e0
    go_loopw [16] (fun i wr => ∃ k : Nat, k ≤ n ∧ i = .int .i64 k ∧ PS w b (code.numL n ++ (l.take k).flatMap chB) wr) (fun i _ => n - (intOf i).toNat)
    case atStart => exact ⟨0, by omega, rfl, st.out⟩
    case round =>
      clear st
      obtain ⟨k, hk, rfl, st⟩ := hrel
      replace st := Lib.hid st
      by_cases hlt : k < n
      · obtain ⟨⟨ck, cv, cg⟩, hx⟩ : ∃ x, l[k]? = some x := ⟨_, List.getElem?_eq_getElem (by have := hln.out; omega)⟩
        have d0 : wr.cell? ⟨b0, o + k * 3, none⟩ = some (.string (str ck)) := (st.out.bel.cell hr.out.1).trans (hr.out.elem0 chC_len hx rfl)
        have d1 : wr.cell? ⟨b0, o + k * 3 + 1, none⟩ = some (.string (str cv)) := (st.out.bel.cell hr.out.1).trans (hr.out.elem chC_len hx rfl)
        have d2 : wr.cell? ⟨b0, o + k * 3 + 2, none⟩ = some (.bool cg) := (st.out.bel.cell hr.out.1).trans (hr.out.elem chC_len hx rfl)
        have e1 : (0 : Int) ≤ (k : Int) := by omega
        have e2 : (k : Int) < (n : Int) := by omega
        have sx : PX w b wr.heap.size (code.numL n ++ (l.take k).flatMap chB) ⟨ck, cv, cg⟩ (wr.alloc (.cells #[.string (str ck), .string (str cv), .bool cg] 100)) :=
          ⟨st.out.bu.below ((Below.refl _ _).alloc (Nat.le_refl _) _), st.out.bel.alloc st.out.bel.size _, st.out.ge, heap_alloc_new wr _, by have := st.out.bu.lt; omega⟩
        have hnext := flat_take chB l k _ hx
        replace hnext := Lib.hid hnext; replace sx := Lib.hid sx
        go_upto_region 8 with fail
        have hcb := chOk_bd (q3.out _ (List.mem_of_getElem? hx))
        simp only at hcb
        have f1 : ∀ w', Calls Try.prog 94 #[.bool cg] w' fun e w2 => e = .returned (.string (str (boolL cg))) ∧ Below w'.heap.size w' w2 := fun w' => code.boolPut_any cg w'
        have f2 := fun w' => text_put ck (by omega) w'
        have f3 := fun w' => text_put cv (by omega) w'
        have tl1 := textL_len ck (by omega)
        have tl2 := textL_len cv (by omega)
        have hpl : (code.numL n ++ (l.take k).flatMap chB).length ≤ 2000000 := by
          have h1 := flat_bytes_len (l.take k) (fun c hc => q3.out c (List.mem_of_mem_take hc))
          have h2 := code.numL_len64 n (by omega)
          rw [List.length_append]
          have : (l.take k).length ≤ 256 := by rw [List.length_take]; omega
          omega
        have hbl : (boolL cg).length = 1 := rfl
        have hchb : chB ⟨ck, cv, cg⟩ = boolL cg ++ textL ck ++ (if cg then [] else textL cv) := rfl
        rw [hchb] at hnext
        generalize (l.take k).flatMap chB = acc at *
        obtain ⟨P, hP⟩ : ∃ P, P = code.numL n ++ acc := ⟨_, rfl⟩
        rw [← hP] at sx hpl
        generalize boolL cg = B1 at *
        generalize textL ck = T1 at *
        generalize textL cv = T2 at *
        have r1 : ¬ 9223372036854775807 < B1.length + T1.length := by omega
        have r2 : P.length + (B1 ++ T1).length ≤ 140737488355328 := by rw [List.length_append]; omega
        have r3 : (P ++ (B1 ++ T1)).length + T2.length ≤ 140737488355328 := by rw [List.length_append, List.length_append]; omega
        replace r2 := Lib.hid r2; replace r3 := Lib.hid r3
        clear hx d0 d1 d2 st hchb
        replace f1 := Lib.hid f1; replace f2 := Lib.hid f2; replace f3 := Lib.hid f3; replace hP := Lib.hid hP; replace tl1 := Lib.hid tl1; replace tl2 := Lib.hid tl2; replace hpl := Lib.hid hpl; replace hbl := Lib.hid hbl; replace hcb := Lib.hid hcb
        generalize wr.alloc _ = W at sx ⊢
        generalize wr.heap.size = q at sx ⊢
        have c0 := sx.out.c0
        have c2 := sx.out.c2
        go_region_with (first
          | (go_at_call 94; (with_reducible refine (f1.out _).mono ?_); rintro e w1 ⟨rfl, b1⟩; (first | replace sx := Lib.hid (sx.out.pure b1) | replace sx := Lib.hid (sx.out.drew.pure b1)); clear b1; have c0 := sx.out.c0; have c2 := sx.out.c2)
          | (go_at_call 77; (with_reducible refine (f2.out _).mono ?_); rintro e w1 ⟨rfl, b1⟩; (first | replace sx := Lib.hid (sx.out.pure b1) | replace sx := Lib.hid (sx.out.drew.pure b1)); clear b1; have c0 := sx.out.c0; have c2 := sx.out.c2)
          | (go_at_call 75; (with_reducible refine (build.bwriteK b _ _ _ sx.out.bu r2.out).mono ?_); rintro e w1 ⟨rfl, b1, k1, o1⟩; replace sx := Lib.hid (sx.out.write b1 k1 o1); clear b1 k1 o1))
        all_goals
          have c1 := sx.out.c1
          have c2 := sx.out.c2
          cases cg with
          | true =>
            have hL : P ++ (B1 ++ T1) = code.numL n ++ (l.take (k + 1)).flatMap chB := by rw [hnext.out, hP.out]; simp
            replace hL := Lib.hid hL
            go_wp2
            go_roundw
            case rel => exact ⟨k + 1, by omega, by go_num, by rw [← hL.out]; exact ⟨sx.out.bu, sx.out.bel, sx.out.ge⟩⟩
            case measure => simp [intOf]; omega
          | false =>
            have hL : P ++ (B1 ++ T1) ++ T2 = code.numL n ++ (l.take (k + 1)).flatMap chB := by rw [hnext.out, hP.out]; simp
            replace hL := Lib.hid hL
            go_wp2_with (first
              | (go_at_call 77; (with_reducible refine (f3.out _).mono ?_); rintro e w1 ⟨rfl, b1⟩; replace sx := Lib.hid (sx.out.pure b1); clear b1)
              | (go_at_call 75; (with_reducible refine (build.bwriteK b _ _ _ sx.out.bu r3.out).mono ?_); rintro e w1 ⟨rfl, b1, k1, o1⟩; replace sx := Lib.hid (sx.out.write b1 k1 o1); clear b1 k1 o1))
            go_roundw
            case rel => exact ⟨k + 1, by omega, by go_num, by rw [← hL.out]; exact ⟨sx.out.bu, sx.out.bel, sx.out.ge⟩⟩
            case measure => simp [intOf]; omega
      · obtain rfl : k = n := by omega
        have hL : code.numL k ++ (l.take k).flatMap chB = recL l := by rw [recL, ← hln.out, List.take_of_length_le (by rw [← hln.out]; exact Nat.le_refl _)]
        have hpu : putL l = if (recL l).length ≤ 16384 then recL l else [] := by unfold putL; simp [hm.out]
        rw [hL] at st
        replace hpu := Lib.hid hpu
        clear hL
        generalize recL l = M at *
        by_cases hM : (16384 : Int) < (M.length : Int)
        · have hp2 : putL l = [] := by rw [hpu.out, if_neg (by omega)]
          replace hp2 := Lib.hid hp2
          clear hpu
          go_wp2_with (first
            | (go_at_call 95; (with_reducible refine (build.blen b _ _ st.out.bu).mono ?_); rintro e w1 ⟨rfl, rfl⟩))
          go_ret
          exact ⟨by rw [hp2.out]; rfl, st.out.bel⟩
        · have hp2 : putL l = M := by rw [hpu.out, if_pos (by omega)]
          replace hp2 := Lib.hid hp2
          clear hpu
          go_wp2_with (first
            | (go_at_call 95; (with_reducible refine (build.blen b _ _ st.out.bu).mono ?_); rintro e w1 ⟨rfl, rfl⟩)
            | (go_at_call 78; (with_reducible refine (build.bstring b _ _ st.out.bu).mono ?_); rintro e w1 ⟨rfl, b1, k1⟩; replace st := Lib.hid (st.out.write b1 k1); clear b1 k1))
          go_ret
          exact ⟨by rw [hp2.out]; rfl, st.out.bel⟩
set_option maxHeartbeats 4000000 in
theorem rput_any (v : Value) (l : List Ch) (w : World) (h : Sl w v l.length (chCells l)) : Calls Try.prog 11 #[v] w fun e w' => e = .returned (.string (str (putL l))) ∧ Below w.heap.size w w' := by
  have cm := fun w' k => rmay_any v l w' (h.below k)
  cases hm : mayL l with
  | false =>
    rw [hm] at cm
    have e : putL l = [] := by unfold putL; rw [if_neg (by simp [hm])]
    rw [e]
    obtain ⟨a, cap, rfl, _, _⟩ := h
    replace cm := Lib.hid cm
    clear hm e
    go_enter Try.func11, Try.ntmps11
    go_wp2_with (go_at_call 53; (with_reducible refine (cm.out _ (Below.refl _ _)).mono ?_); rintro e w1 ⟨rfl, hb⟩)
    go_ret
    exact ⟨rfl, hb⟩
  | true =>
    rw [hm] at cm
    have hlen := recL_len hm
    obtain ⟨q1, q2, q3⟩ := mayL_all hm
    obtain ⟨a, cap, rfl, hmax, h⟩ := h
    obtain ⟨b0, o, rfl, hr⟩ := h.resolve_left (by omega)
    obtain ⟨n, hln⟩ : ∃ n, n = l.length := ⟨_, rfl⟩
    rw [← hln] at q1 q2 cm hmax ⊢
    have cn := fun w' => code.refNum_any n (by omega) w'
    have hw : IntKind.u64.wrap (n : Int) = n := IntWalk.u64_in _ (by omega)
    have hbb := Below.refl w.heap.size w
    replace hr := Lib.hid hr; replace hln := Lib.hid hln; replace hm := Lib.hid hm; replace hlen := Lib.hid hlen; replace q3 := Lib.hid q3; replace cm := Lib.hid cm; replace cn := Lib.hid cn; replace hbb := Lib.hid hbb
    clear h hmax
    go_enter Try.func11, Try.ntmps11
    go_wp2_with (first
      | (go_at_call 53; (with_reducible refine (cm.out _ (Below.refl _ _)).mono ?_); rintro e w1 ⟨rfl, b1⟩; replace hbb := Lib.hid (belowCont hbb.out b1); clear b1)
      | (go_at_call 40; (with_reducible refine (cn.out _).mono ?_); rintro e w1 ⟨rfl, b1⟩; replace hbb := Lib.hid (belowCont hbb.out b1); clear b1))
    go_loopw [3, 4] (fun s i wr => ∃ k : Nat, k ≤ n ∧ i = .int .i64 k ∧ s = .string (str (code.numL n ++ (l.take k).flatMap chB)) ∧ Below w.heap.size w wr) (fun _ i _ => n - (intOf i).toNat)
    case atStart => exact ⟨0, by omega, rfl, by simp, hbb.out⟩
    case round =>
      clear hbb
      obtain ⟨k, hk, rfl, rfl, hbel⟩ := hrel
      replace hbel := Lib.hid hbel
      by_cases hlt : k < n
      · obtain ⟨⟨ck, cv, cg⟩, hx⟩ : ∃ x, l[k]? = some x := ⟨_, List.getElem?_eq_getElem (by have := hln.out; omega)⟩
        have g0 := hr.out.elem0 chC_len hx rfl
        have g1 : w.cell? ⟨b0, o + k * 3 + 1, none⟩ = some (.string (str cv)) := hr.out.elem chC_len hx rfl
        have g2 : w.cell? ⟨b0, o + k * 3 + 2, none⟩ = some (.bool cg) := hr.out.elem chC_len hx rfl
        have hb0 := hr.out.1
        have d0 : wr.cell? ⟨b0, o + k * 3, none⟩ = some (.string (str ck)) := (hbel.out.cell hb0).trans g0
        have d2 : wr.cell? ⟨b0, o + k * 3 + 2, none⟩ = some (.bool cg) := (hbel.out.cell hb0).trans g2
        have e1 : (0 : Int) ≤ (k : Int) := by omega
        have e2 : (k : Int) < (n : Int) := by omega
        have hnext := flat_take chB l k _ hx
        have hcb := chOk_bd (q3.out _ (List.mem_of_getElem? hx))
        simp only at hcb
        have f1 : ∀ w', Calls Try.prog 54 #[.bool cg] w' fun e w2 => e = .returned (.string (str (boolL cg))) ∧ Below w'.heap.size w' w2 := fun w' => code.refBool_any cg w'
        have f2 := fun w' => rtext_put ck (by omega) w'
        have f3 := fun w' => rtext_put cv (by omega) w'
        have tl1 := textL_len ck (by omega)
        have tl2 := textL_len cv (by omega)
        have hpl : (code.numL n ++ (l.take k).flatMap chB).length ≤ 2000000 := by
          have h1 := flat_bytes_len (l.take k) (fun c hc => q3.out c (List.mem_of_mem_take hc))
          have h2 := code.numL_len64 n (by omega)
          rw [List.length_append]
          have : (l.take k).length ≤ 256 := by rw [List.length_take]; omega
          omega
        have hbl : (boolL cg).length = 1 := rfl
        have hchb : chB ⟨ck, cv, cg⟩ = boolL cg ++ textL ck ++ (if cg then [] else textL cv) := rfl
        rw [hchb] at hnext
        generalize (l.take k).flatMap chB = acc at *
        obtain ⟨P, hP⟩ : ∃ P, code.numL n ++ acc = P := ⟨_, rfl⟩
        rw [hP] at hpl ⊢
        generalize boolL cg = B1 at *
        generalize textL ck = T1 at *
        generalize textL cv = T2 at *
        have r1 : ¬ 9223372036854775807 < B1.length + T1.length := by omega
        have r2 : ¬ 9223372036854775807 < P.length + (B1.length + T1.length) := by omega
        have r3 : ¬ 9223372036854775807 < P.length + (B1.length + T1.length) + T2.length := by omega
        clear hx hchb tl1 tl2 hpl hbl hcb
        have hk1 : ∀ W, Below w.heap.size w W → W.cell? ⟨b0, o + k * 3, none⟩ = some (.string (str ck)) := fun W h => (h.cell hb0).trans g0
        have hk2 : ∀ W, Below w.heap.size w W → W.cell? ⟨b0, o + k * 3 + 1, none⟩ = some (.string (str cv)) := fun W h => (h.cell hb0).trans g1
        have hk3 : ∀ W, Below w.heap.size w W → W.cell? ⟨b0, o + k * 3 + 2, none⟩ = some (.bool cg) := fun W h => (h.cell hb0).trans g2
        replace f1 := Lib.hid f1; replace f2 := Lib.hid f2; replace f3 := Lib.hid f3; replace hP := Lib.hid hP; replace hk1 := Lib.hid hk1; replace hk2 := Lib.hid hk2; replace hk3 := Lib.hid hk3; replace hnext := Lib.hid hnext
        clear g0 g1 g2 d0 d2
        go_upto_region 7 with fail
        have d0 := hk1.out _ hbel.out
        have d2 := hk3.out _ hbel.out
        go_region_held3 (fun W => Below w.heap.size w W ∧ W.cell? ⟨b0, o + k * 3, none⟩ = some (.string (str ck)) ∧ W.cell? ⟨b0, o + k * 3 + 2, none⟩ = some (.bool cg))
          (first | exact ⟨hbel.out.drew, hk1.out _ hbel.out.drew, hk3.out _ hbel.out.drew⟩ | (go_split_ands; have hq := belowCont (by assumption) (by assumption); exact ⟨hq, hk1.out _ hq, hk3.out _ hq⟩))
          (first
            | (go_at_call 54; (with_reducible refine (f1.out _).mono ?_); rintro e w1 ⟨rfl, hb⟩)
            | (go_at_call 41; (with_reducible refine (f2.out _).mono ?_); rintro e w1 ⟨rfl, hb⟩))
        go_split_ands
        have hq : Below w.heap.size w w1 := by assumption
        replace hq := Lib.hid hq
        have d1 := hk2.out _ hq.out
        have d2 := hk3.out _ hq.out
        cases cg with
        | true =>
          have hL : P ++ (B1 ++ T1) = code.numL n ++ (l.take (k + 1)).flatMap chB := by rw [hnext.out, ← hP.out]; simp
          replace hL := Lib.hid hL
          go_wp2
          go_roundw
          case rel => exact ⟨k + 1, by omega, by go_num, by rw [← hL.out], hq.out⟩
          case measure => simp [intOf]; omega
        | false =>
          have hL : P ++ (B1 ++ T1) ++ T2 = code.numL n ++ (l.take (k + 1)).flatMap chB := by rw [hnext.out, ← hP.out]; simp
          replace hL := Lib.hid hL
          go_wp2_with (go_at_call 41; (with_reducible refine (f3.out _).mono ?_); rintro e w2 ⟨rfl, b1⟩; replace hq := Lib.hid (belowCont hq.out b1); clear b1)
          go_roundw
          case rel => exact ⟨k + 1, by omega, by go_num, by rw [← hL.out]; simp, hq.out⟩
          case measure => simp [intOf]; omega
      · obtain rfl : k = n := by omega
        have hL : code.numL k ++ (l.take k).flatMap chB = recL l := by rw [recL, ← hln.out, List.take_of_length_le (by rw [← hln.out]; exact Nat.le_refl _)]
        have hpu : putL l = if (recL l).length ≤ 16384 then recL l else [] := by unfold putL; simp [hm.out]
        rw [hL]
        replace hpu := Lib.hid hpu
        clear hL
        generalize recL l = M at *
        by_cases hM : (16384 : Int) < (M.length : Int)
        · have hp2 : putL l = [] := by rw [hpu.out, if_neg (by omega)]
          replace hp2 := Lib.hid hp2
          clear hpu
          go_wp2
          go_ret
          exact ⟨by rw [hp2.out]; rfl, hbel.out⟩
        · have hp2 : putL l = M := by rw [hpu.out, if_pos (by omega)]
          replace hp2 := Lib.hid hp2
          clear hpu
          go_wp2
          go_ret
          exact ⟨by rw [hp2.out]; rfl, hbel.out⟩
end Go.Proofs.Ytplfbpihhcnnmaa.wal
