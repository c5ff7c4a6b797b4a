/- Indexes as bytes (Put). No condition but the slice's cells. -/
import Derived.Test.YtdgpalileloekaaSchema6
import Derived.Test.YtdgpalileloekaaRead
import Derived.Test.YtdgpalileloekaaHpBu
import Derived.BigRegion
namespace Go.Proofs.Ytdgpalileloekaa.schema
open Go.RowKit
attribute [local go_sem ↓] Go.wp_at_zero Go.wp_at_succ
attribute [local go_sem] str_size str_bl str_append
set_option linter.unusedVariables false
set_option maxRecDepth 100000

def Ix.wf (x : Ix) : Prop := (-9223372036854775808 ≤ x.l ∧ x.l ≤ 9223372036854775807) ∧ (-9223372036854775808 ≤ x.k ∧ x.k ≤ 9223372036854775807) ∧ (-9223372036854775808 ≤ x.d ∧ x.d ≤ 9223372036854775807)
def natB (n : Int) : List UInt8 := code.numL n.toNat
def ixB (x : Ix) : List UInt8 := natB x.l ++ natB x.k ++ natB x.d
def putB (l : List Ix) : List UInt8 := code.numL l.length ++ l.flatMap ixB
theorem natB_len (n : Int) (h : n ≤ 9223372036854775807) : (natB n).length ≤ 10 := code.numL_len64 _ (by omega)
theorem ixB_len (x : Ix) (h : x.wf) : (ixB x).length ≤ 30 := by
  have h1 := natB_len x.l h.1.2; have h2 := natB_len x.k h.2.1.2; have h3 := natB_len x.d h.2.2.2
  simp only [ixB, List.length_append]; omega
theorem flatB_len : ∀ (l : List Ix), (∀ x ∈ l, x.wf) → (l.flatMap ixB).length ≤ l.length * 30
  | [], _ => by simp
  | x :: l, h => by
    rw [List.flatMap_cons, List.length_append, List.length_cons]
    have := ixB_len x (h x (by simp)); have := flatB_len l (fun y hy => h y (by simp [hy])); omega
theorem number_any (n : Int) (h : -9223372036854775808 ≤ n ∧ n ≤ 9223372036854775807) (w : World) : Calls Try.prog 75 #[.int .i64 n] w fun e w' => e = .returned (.string (str (natB n))) ∧ Below w.heap.size w w' := by
  have hm : max n 0 = (n.toNat : Int) := by omega
  have hw : IntKind.u64.wrap (n.toNat : Int) = (n.toNat : Int) := IntWalk.u64_in _ (by omega)
  have c := fun W => code.num_any n.toNat (by omega) W
  unfold natB
  generalize n.toNat = k at *
  replace c := Lib.hid c
  clear h
  go_enter Try.func75, Try.ntmps75
  go_wp2_with (go_at_call 62; (with_reducible refine (c.out _).mono ?_); rintro e w1 ⟨rfl, b1⟩)
  go_ret
  exact ⟨rfl, b1⟩
theorem flat_take {α β : Type} (f : α → List β) (l : List α) (i : Nat) (x : α) (hx : l[i]? = some x) : (l.take (i + 1)).flatMap f = (l.take i).flatMap f ++ f x := by
  rw [List.take_add_one, hx]; simp
set_option maxHeartbeats 4000000 in
theorem put_any (v : Value) (l : List Ix) (w : World) (h : Sl w v l.length (ixCells l)) (hn : l.length ≤ 100000) (hwf : ∀ x ∈ l, x.wf) :
    Calls Try.prog 41 #[v] w fun e w' => e = .returned (.string (str (putB l))) ∧ Below w.heap.size w w' := by
  obtain ⟨a, cap, rfl, hmax, h⟩ := h
  obtain ⟨n, hln⟩ : ∃ n, n = l.length := ⟨_, rfl⟩
  rw [← hln] at hn hmax h ⊢
  have hpb : putB l = code.numL n ++ l.flatMap ixB := by rw [putB, ← hln]
  have cn : ∀ W, Calls Try.prog 75 #[.int .i64 (n : Int)] W fun e w' => e = .returned (.string (str (code.numL n))) ∧ Below W.heap.size W w' := fun W => number_any n (by omega) W
  have hnl := code.numL_len64 n (by omega)
  have hp := Lib.hid ((Hp.none_ w []).bnew)
  replace h := Lib.hid h; replace hln := Lib.hid hln; replace hwf := Lib.hid hwf; replace cn := Lib.hid cn; replace hpb := Lib.hid hpb; replace hnl := Lib.hid hnl
  go_enter Try.func41, Try.ntmps41
  go_wp2_with (first
    | (go_at_call 75; (with_reducible refine (cn.out _).mono ?_); rintro e w1 ⟨rfl, b1⟩; replace hp := Lib.hid (hp.out.below b1); clear b1)
    | (go_at_call 61; (with_reducible refine (hp.out.write (i := 0) rfl _ (by have := hnl.out; simp; omega)).mono ?_); rintro e w1 ⟨rfl, h1⟩; replace hp := Lib.hid h1; clear h1))
  go_loopw [12] (fun i wr => ∃ k : Nat, k ≤ n ∧ i = .int .i64 k ∧ Hp w [] [bu w.heap.size (code.numL n ++ (l.take k).flatMap ixB)] wr) (fun i _ => n - (intOf i).toNat)
  case atStart => exact ⟨0, by omega, rfl, by simpa using hp.out⟩
  case round =>
    clear hp
    obtain ⟨k, hk, rfl, hp⟩ := hrel
    by_cases hlt : k < n
    · obtain ⟨b, o, rfl, hr⟩ := h.out.resolve_left (by omega)
      obtain ⟨x, hx⟩ : ∃ x, l[k]? = some x := ⟨_, List.getElem?_eq_getElem (by have := hln.out; omega)⟩
      have hwx := hwf.out x (List.mem_of_getElem? hx)
      have hnext := flat_take ixB l k x hx
      have hpl : (code.numL n ++ (l.take k).flatMap ixB).length ≤ 10000000 := by
        have h1 := flatB_len (l.take k) (fun c hc => hwf.out c (List.mem_of_mem_take hc))
        have : (l.take k).length ≤ 100000 := by rw [List.length_take]; omega
        have := hnl.out
        rw [List.length_append]; omega
      have hxl := ixB_len x hwx
      obtain ⟨xl, xk, xd⟩ := x
      have d0 : wr.cell? ⟨b, o + k * 3, none⟩ = some (.int .i64 xl) := (hp.bel.cell hr.1).trans (hr.elem0 ixC_len hx rfl)
      have d1 : wr.cell? ⟨b, o + k * 3 + 1, none⟩ = some (.int .i64 xk) := (hp.bel.cell hr.1).trans (hr.elem ixC_len hx rfl)
      have d2 : wr.cell? ⟨b, o + k * 3 + 2, none⟩ = some (.int .i64 xd) := (hp.bel.cell hr.1).trans (hr.elem ixC_len hx rfl)
      have e1 : (0 : Int) ≤ (k : Int) := by omega
      have e2 : (k : Int) < (n : Int) := by omega
      have hp2 := Lib.hid (hp.alloc #[.int .i64 xl, .int .i64 xk, .int .i64 xd] 73)
      have f1 := fun W => number_any xl hwx.1 W
      have f2 := fun W => number_any xk hwx.2.1 W
      have f3 := fun W => number_any xd hwx.2.2 W
      have hxb : ixB ⟨xl, xk, xd⟩ = natB xl ++ natB xk ++ natB xd := rfl
      rw [hxb] at hnext hxl
      have hl1 := natB_len xl hwx.1.2; have hl2 := natB_len xk hwx.2.1.2; have hl3 := natB_len xd hwx.2.2.2
      generalize natB xl = B1 at *
      generalize natB xk = B2 at *
      generalize natB xd = B3 at *
      generalize (l.take k).flatMap ixB = acc at *
      obtain ⟨P, hP⟩ : ∃ P, P = code.numL n ++ acc := ⟨_, rfl⟩
      rw [← hP] at hp2 hpl
      have r1 : ¬ 9223372036854775807 < B1.length + B2.length := by omega
      have r2 : ¬ 9223372036854775807 < B1.length + B2.length + B3.length := by omega
      have r3 : P.length + (B1 ++ B2 ++ B3).length ≤ 140737488355328 := by simp only [List.length_append] at *; omega
      have r3' : P.length + (B1 ++ (B2 ++ B3)).length ≤ 140737488355328 := by simp only [List.length_append] at *; omega
      replace r3 := Lib.hid r3; replace r3' := Lib.hid r3'; replace hP := Lib.hid hP; replace hnext := Lib.hid hnext; replace f1 := Lib.hid f1; replace f2 := Lib.hid f2; replace f3 := Lib.hid f3
      clear hx hr hp hwx hxl hxb hpl hl1 hl2 hl3
      go_upto_region 6 with fail
      clear d0 d1 d2
      generalize wr.alloc _ = W at hp2 ⊢
      generalize wr.heap.size = q at hp2 ⊢
      have d0 := hp2.out.cell (i := 0) rfl 0; have d1 := hp2.out.cell (i := 0) rfl 1; have d2 := hp2.out.cell (i := 0) rfl 2
      simp at d0 d1 d2
      go_region_with (first
        | (go_at_call 75; (first | (with_reducible refine (f1.out _).mono ?_) | (with_reducible refine (f2.out _).mono ?_) | (with_reducible refine (f3.out _).mono ?_)); rintro e w1 ⟨rfl, b1⟩; (first | replace hp2 := Lib.hid (hp2.out.below b1) | replace hp2 := Lib.hid (hp2.out.drew.below b1)); clear b1; have d0 := hp2.out.cell (i := 0) rfl 0; have d1 := hp2.out.cell (i := 0) rfl 1; have d2 := hp2.out.cell (i := 0) rfl 2; simp at d0 d1 d2)
        | (go_at_call 61; (first | (with_reducible refine (hp2.out.write (i := 1) rfl _ r3.out).mono ?_) | (with_reducible refine (hp2.out.write (i := 1) rfl _ r3'.out).mono ?_)); rintro e w1 ⟨rfl, h1⟩; replace hp2 := Lib.hid h1; clear h1))
      all_goals
        have hL : P ++ (B1 ++ (B2 ++ B3)) = code.numL n ++ (l.take (k + 1)).flatMap ixB := by rw [hnext.out, hP.out]; simp
        replace hL := Lib.hid hL
        go_wp2
        go_roundw
        case rel => exact ⟨k + 1, by omega, by go_num, by rw [← hL.out]; exact hp2.out.drop 0⟩
        case measure => simp [intOf]; omega
    · obtain rfl : n = k := by omega
      rw [List.take_of_length_le (by rw [← hln.out]; exact Nat.le_refl _), ← hpb.out] at hp
      replace hp := Lib.hid hp
      go_wp2_with (go_at_call 64; (with_reducible refine (hp.out.bstring (i := 0) rfl (Nat.le_refl _)).mono ?_); rintro e w1 ⟨rfl, h1⟩; replace h1 := Lib.hid h1)
      go_ret
      exact ⟨rfl, h1.out.bel⟩
end Go.Proofs.Ytdgpalileloekaa.schema
