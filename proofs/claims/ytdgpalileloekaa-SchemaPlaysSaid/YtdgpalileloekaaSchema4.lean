/- Indexes: those of a label's key; how it is found. No condition but the slice's cells. -/
import Derived.Test.YtdgpalileloekaaSchema3
namespace Go.Proofs.Ytdgpalileloekaa.schema
open Go.RowKit
attribute [local go_sem ↓] Go.wp_at_zero Go.wp_at_succ
set_option linter.unusedVariables false
set_option maxRecDepth 100000

theorem hmf (fn : Fn) (first cap : Array Value) (w : World) : (Instr.makeFunc fn first cap).run Try.prog w = .ok (.func fn first cap) w := rfl
theorem by1_any (x : Ix) (ga gb : Nat) (lb kb : Int) (w : World) (ha : w.heap[ga]? = some (.cells #[.int .i64 lb] 3 (0, 0))) (hb : w.heap[gb]? = some (.cells #[.int .i64 kb] 3 (0, 0))) :
    Calls Try.prog 84 #[x.v, .pointer (some ⟨ga, 0, none⟩), .pointer (some ⟨gb, 0, none⟩)] w fun e w' => e = .returned (.bool (decide (x.l = lb ∧ x.k = kb))) ∧ Below w.heap.size w w' := by
  obtain ⟨xl, xk, xd⟩ := x
  unfold Ix.v
  simp only
  have b0 := (Below.refl w.heap.size w).alloc (Nat.le_refl _) (.cells #[.int .i64 xl, .int .i64 xk, .int .i64 xd] 73)
  have a0 : (w.alloc (.cells #[.int .i64 xl, .int .i64 xk, .int .i64 xd] 73)).cell? ⟨ga, 0, none⟩ = some (.int .i64 lb) := (b0.cell (block_lt ha)).trans (cell_of_row _ _ 0 _ _ _ ha)
  have a1 : (w.alloc (.cells #[.int .i64 xl, .int .i64 xk, .int .i64 xd] 73)).cell? ⟨gb, 0, none⟩ = some (.int .i64 kb) := (b0.cell (block_lt hb)).trans (cell_of_row _ _ 0 _ _ _ hb)
  replace b0 := Lib.hid b0
  clear ha hb
  by_cases h : xl = lb
  · subst h
    have e1 : (xl == xl) = true := by simp
    have e2 : decide (True ∧ xk = kb) = decide (xk = kb) := by simp
    simp only [e2]
    clear e2
    go_enter Try.func84, Try.ntmps84
    go_wp2
    go_ret
    exact ⟨rfl, b0.out⟩
  · have e1 : (xl == lb) = false := by simp [h]
    have e2 : decide (xl = lb ∧ xk = kb) = false := by simp [h]
    rw [e2]
    clear e2
    go_enter Try.func84, Try.ntmps84
    go_wp2
    go_ret
    exact ⟨rfl, b0.out⟩
def same (lb kb : Int) (x : Ix) : Bool := decide (x.l = lb ∧ x.k = kb)
def RowRet (w : World) (l : List Ix) (v : Value) (w' : World) : Prop := (∃ ad cp, v = .slice ad l.length cp) ∧ Hp w [] [.row 73 3 v l.length (ixCells l)] w'
theorem by_any (v : Value) (l : List Ix) (lb kb : Int) (w : World) (h : Sl w v l.length (ixCells l)) (hn : l.length ≤ 100000) :
    Calls Try.prog 68 #[v, .int .i64 lb, .int .i64 kb] w fun e w' => ∃ v', e = .returned v' ∧ RowRet w (l.filter (same lb kb)) v' w' := by
  have hp := ((Hp.none_ w []).alloc #[.int .i64 lb] 3).alloc #[.int .i64 kb] 3
  have hs : (w.alloc (.cells #[.int .i64 lb] 3)).heap.size = w.heap.size + 1 := by simp
  rw [hs] at hp
  have hsl := h.below hp.bel
  obtain ⟨W, hW⟩ : ∃ W, W = (w.alloc (.cells #[.int .i64 lb] 3)).alloc (.cells #[.int .i64 kb] 3) := ⟨_, rfl⟩
  rw [← hW] at hp hsl
  have c := sifted_any 84 #[.pointer (some ⟨w.heap.size, 0, none⟩), .pointer (some ⟨w.heap.size + 1, 0, none⟩)] (same lb kb) v l W hsl hn (fun _ _ => rfl) (fun x X hb => by
    have ha : X.heap[w.heap.size]? = some (.cells #[.int .i64 lb] 3 (0, 0)) := (hb.block _ (hp.lt (i := 1) rfl)).trans (hp.box (i := 1) rfl)
    have hb' : X.heap[w.heap.size + 1]? = some (.cells #[.int .i64 kb] 3 (0, 0)) := (hb.block _ (hp.lt (i := 0) rfl)).trans (hp.box (i := 0) rfl)
    exact by1_any x _ _ lb kb X ha hb')
  rw [hW] at c
  rw [hW] at hp
  replace c := Lib.hid c; replace hp := Lib.hid hp
  clear h hsl hs hW hn
  have hmf1 := hmf
  go_enter Try.func68, Try.ntmps68
  go_wp2_with (go_at_call 66; (with_reducible refine (c.out).mono ?_); rintro e w1 ⟨v', rfl, hv, h1⟩; replace hp := Lib.hid ((((hp.out.take h1).drop 2).drop 1)); clear h1; replace hv := Lib.hid hv)
  go_ret
  exact ⟨_, rfl, hv.out, hp.out⟩
def foundI (l : List Ix) : Int := match l with | [] => 0 | x :: _ => x.d
theorem find_any (v : Value) (l : List Ix) (lb kb : Int) (w : World) (h : Sl w v l.length (ixCells l)) (hn : l.length ≤ 100000) :
    Calls Try.prog 39 #[v, .int .i64 lb, .int .i64 kb] w fun e w' => e = .returned (.int .i64 (foundI (l.filter (same lb kb)))) ∧ Below w.heap.size w w' := by
  have c := Lib.hid (by_any v l lb kb w h hn)
  clear h hn
  generalize hF : l.filter (same lb kb) = F at *
  clear hF
  cases F with
  | nil =>
    show Calls Try.prog 39 #[v, .int .i64 lb, .int .i64 kb] w fun e w' => e = .returned (.int .i64 0) ∧ Below w.heap.size w w'
    go_enter Try.func39, Try.ntmps39
    go_wp2_with (go_at_call 68; (with_reducible refine (c.out).mono ?_); rintro e w1 ⟨v', rfl, ⟨ad, cp, rfl⟩, h1⟩; replace h1 := Lib.hid h1)
    go_ret
    exact ⟨rfl, h1.out.bel⟩
  | cons x r =>
    obtain ⟨xl, xk, xd⟩ := x
    show Calls Try.prog 39 #[v, .int .i64 lb, .int .i64 kb] w fun e w' => e = .returned (.int .i64 xd) ∧ Below w.heap.size w w'
    generalize hm : (Ix.mk xl xk xd :: r).length = m at *
    have hm1 : ((m : Int) == 0) = false := by rw [← hm]; simp; try omega
    have hm2 : (0 : Int) < (m : Int) := by rw [← hm]; simp; try omega
    replace hm := Lib.hid hm
    go_enter Try.func39, Try.ntmps39
    go_wp2_with (go_at_call 68; (with_reducible refine (c.out).mono ?_); rintro e w1 ⟨v', rfl, ⟨ad, cp, rfl⟩, h1⟩; obtain ⟨g, cap, hv, _, _⟩ := (h1.row (i := 0) rfl).form (by rw [hm.out]; omega); rw [hm.out] at hv h1; injection hv with hv1 hv2 hv3; subst hv1; have d2 := (h1.row (i := 0) rfl).cellAt 2 (by omega); replace h1 := Lib.hid h1; change w1.cell? ⟨g, 2, none⟩ = some (.int .i64 xd) at d2)
    go_ret
    exact ⟨rfl, h1.out.bel⟩
end Go.Proofs.Ytdgpalileloekaa.schema
