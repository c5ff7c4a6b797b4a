/- Indexes: those of a list that are wanted. No condition but the slice's cells and the function's contract. -/
import Derived.Test.YtdgpalileloekaaSchema2
namespace Go.Proofs.Ytdgpalileloekaa.schema
open Go.RowKit
attribute [local go_sem ↓] Go.wp_at_zero Go.wp_at_succ
set_option linter.unusedVariables false
set_option maxRecDepth 100000

theorem filter_snoc {α : Type} (p : α → Bool) (l : List α) (i : Nat) (x : α) (h : l[i]? = some x) : (l.take (i + 1)).filter p = (l.take i).filter p ++ (if p x then [x] else []) := by
  rw [List.take_add_one, h]; simp [List.filter_append, List.filter_cons]
theorem ixCells_snoc (l : List Ix) (x : Ix) : ixCells (l ++ [x]) = ixCells l ++ ixC x := by simp [ixCells]
theorem sifted_any (kf : Nat) (cap : Array Value) (p : Ix → Bool) (v : Value) (l : List Ix) (w : World) (h : Sl w v l.length (ixCells l)) (hn : l.length ≤ 100000) (hcf : ∀ (args : Array Value) (W : World), (callFunc kf args).run Try.prog W = .ok (.enter kf args) W)
    (hc : ∀ (x : Ix) (W : World), Below w.heap.size w W → Calls Try.prog kf (#[x.v] ++ cap) W fun e w' => e = .returned (.bool (p x)) ∧ Below W.heap.size W w') :
    Calls Try.prog 66 #[v, .func (.func kf) #[] cap] w fun e w' => ∃ v', e = .returned v' ∧ (∃ ad cp, v' = .slice ad (l.filter p).length cp) ∧ Hp w [] [.row 73 3 v' (l.filter p).length (ixCells (l.filter p))] w' := by
  obtain ⟨a, cp, rfl, hmax, h⟩ := h
  obtain ⟨n, hln⟩ : ∃ n, n = l.length := ⟨_, rfl⟩
  rw [← hln] at hn hmax h ⊢
  have hp0 := Lib.hid ((Hp.none_ w []).rowNil 73 3)
  replace h := Lib.hid h; replace hln := Lib.hid hln; replace hc := Lib.hid hc
  go_enter Try.func66, Try.ntmps66
  go_wp2
  go_loopw [5, 10] (fun s5 s10 wr => ∃ (i : Nat) (ad : Option Addr) (cp : Nat), s10 = .int .i64 (i : Int) ∧ i ≤ n ∧ s5 = .slice ad ((l.take i).filter p).length cp ∧ Hp w [] [.row 73 3 (.slice ad ((l.take i).filter p).length cp) ((l.take i).filter p).length (ixCells ((l.take i).filter p))] wr) (fun _ s10 _ => n - (intOf s10).toNat)
  case atStart => exact ⟨0, _, _, rfl, by omega, rfl, by simpa [ixCells] using hp0.out⟩
  case round =>
    clear hp0
    obtain ⟨i, ad, cp2, rfl, hi, rfl, hp⟩ := hrel
    by_cases hlt : i < n
    · obtain ⟨b, o, rfl, hr⟩ := h.out.resolve_left (by omega)
      obtain ⟨x, hx⟩ : ∃ x, l[i]? = some x := ⟨_, List.getElem?_eq_getElem (by have := hln.out; omega)⟩
      have hf := filter_snoc p l i x hx
      have hle : ((l.take i).filter p).length ≤ i := Nat.le_trans (List.length_filter_le _ _) (by rw [List.length_take]; omega)
      obtain ⟨xl, xk, xd⟩ := x
      have hcx : ∀ (W : World), Below w.heap.size w W → Calls Try.prog kf (#[.agg #[.int .i64 xl, .int .i64 xk, .int .i64 xd]] ++ cap) W fun e w' => e = .returned (.bool (p ⟨xl, xk, xd⟩)) ∧ Below W.heap.size W w' := fun W hb => hc.out ⟨xl, xk, xd⟩ W hb
      have d0 : wr.cell? ⟨b, o + i * 3, none⟩ = some (.int .i64 xl) := (hp.bel.cell hr.1).trans (hr.elem0 ixC_len hx rfl)
      have d1 : wr.cell? ⟨b, o + i * 3 + 1, none⟩ = some (.int .i64 xk) := (hp.bel.cell hr.1).trans (hr.elem ixC_len hx rfl)
      have d2 : wr.cell? ⟨b, o + i * 3 + 2, none⟩ = some (.int .i64 xd) := (hp.bel.cell hr.1).trans (hr.elem ixC_len hx rfl)
      have e1 : (0 : Int) ≤ (i : Int) := by omega
      have e2 : (i : Int) < (n : Int) := by omega
      obtain ⟨M, hM⟩ : ∃ M, M = (l.take i).filter p := ⟨_, rfl⟩
      rw [← hM] at hp hf hle ⊢
      have hsn := ixCells_snoc M ⟨xl, xk, xd⟩
      have hp2 := Lib.hid (hp.alloc #[.int .i64 xl, .int .i64 xk, .int .i64 xd] 73)
      generalize hq : p ⟨xl, xk, xd⟩ = q at *
      replace hf := Lib.hid hf; replace hcx := Lib.hid hcx; replace hsn := Lib.hid hsn
      clear hx hr hM hp hq
      have hml : M.length < 100000000 := by omega
      replace hle := Lib.hid hle; replace hml := Lib.hid hml
      cases q with
      | false =>
        rw [if_neg (by decide), List.append_nil] at hf
        go_wp2_with ((with_reducible refine (hcx.out _ hp2.out.bel).mono ?_); rintro e w1 ⟨rfl, b1⟩; replace hp2 := Lib.hid (hp2.out.below b1); clear b1; have d0 := hp2.out.cell (i := 0) rfl 0; have d1 := hp2.out.cell (i := 0) rfl 1; have d2 := hp2.out.cell (i := 0) rfl 2; simp at d0 d1 d2)
        go_roundw
        case rel => exact ⟨i + 1, ad, cp2, by go_num, by omega, by rw [hf.out], by rw [hf.out]; exact hp2.out.drop 0⟩
        case measure => simp [intOf]; omega
      | true =>
        rw [if_pos rfl] at hf
        go_wp2_with (first
          | ((with_reducible refine (hcx.out _ hp2.out.bel).mono ?_); rintro e w1 ⟨rfl, b1⟩; replace hp2 := Lib.hid (hp2.out.below b1); clear b1; have d0 := hp2.out.cell (i := 0) rfl 0; have d1 := hp2.out.cell (i := 0) rfl 1; have d2 := hp2.out.cell (i := 0) rfl 2; simp at d0 d1 d2)
          | (at_builtin; go_loud (refine wpList_append_hp rfl _ _ rfl Try.underlying71 slix.eInfo rfl (by decide) (by decide) (hp2.out.alloc_ (.cells #[.int .i64 xl, .int .i64 xk, .int .i64 xd] 73)) 1 rfl rfl _ _ [.int .i64 xl, .int .i64 xk, .int .i64 xd] rfl rfl (block_cells (heap_alloc_new _ _)) (by intro u hu; simp at hu; rcases hu with rfl | rfl | rfl <;> rfl) hml.out ?_; intro v5 w5 hp5 hv5; replace hp5 := Lib.hid hp5; obtain ⟨b5, cp5, rfl⟩ := hv5)))
        go_roundw
        case rel => exact ⟨i + 1, _, _, by go_num, by omega, by rw [hf.out, List.length_append]; rfl, by rw [hf.out, List.length_append, hsn.out]; exact hp5.out.drop 0⟩
        case measure => simp [intOf]; omega
    · obtain rfl : n = i := by omega
      rw [List.take_of_length_le (by rw [← hln.out]; exact Nat.le_refl _)] at hp ⊢
      replace hp := Lib.hid hp
      go_wp2
      go_ret
      exact ⟨_, rfl, ⟨_, _, rfl⟩, hp.out⟩
end Go.Proofs.Ytdgpalileloekaa.schema
