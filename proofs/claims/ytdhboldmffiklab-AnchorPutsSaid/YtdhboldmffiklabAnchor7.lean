/- How an anchor is put (anchor.Put, lodestoneref12.Put). No condition but that it may be, or may not. -/
import Derived.Test.YtdhboldmffiklabAnchor6
import Derived.Test.YtdhboldmffiklabCodePuts
import Derived.Deep.RegionHeld3
namespace Go.Proofs.Ytdhboldmffiklab.anchor
open Go.RowKit
attribute [local go_sem ↓] Go.wp_at_zero Go.wp_at_succ
attribute [local go_sem] str_size
set_option linter.unusedVariables false
set_option maxRecDepth 100000

def Fits (a b : ByteArray) : Prop := a.size + b.size ≤ 9223372036854775807
theorem run_add_fits {P : Program} (w : World) (a b : ByteArray) (h : Fits a b) : (Op.stringOp .add a b).run P w = .ok (.string (a ++ b)) w := run_string_add_sum w a b h
attribute [local go_sem high] run_add_fits
/-- an anchor's box, all else as it was -/
structure Ax (w : World) (g : Nat) (cs : Array Value) (W : World) : Prop where
  row : W.heap[g]? = some (.cells cs 27 (0, 0))
  bel : Below w.heap.size w W
namespace Ax
variable {w W W' : World} {g : Nat} {cs : Array Value} {a0 a1 a2 a3 a4 a5 a6 a7 a8 : Value}
theorem below (h : Ax w g cs W) (k : Below W.heap.size W W') : Ax w g cs W' := ⟨(k.block _ (block_lt h.row)).trans h.row, belowCont h.bel k⟩
theorem drew (h : Ax w g cs W) : Ax w g cs W.drew := ⟨h.row, h.bel.drew⟩
theorem all (h : Ax w g #[a0, a1, a2, a3, a4, a5, a6, a7, a8] W) : Ax w g #[a0, a1, a2, a3, a4, a5, a6, a7, a8] W ∧ W.cell? ⟨g, 0, none⟩ = some a0 ∧ W.cell? ⟨g, 1, none⟩ = some a1 ∧ W.cell? ⟨g, 2, none⟩ = some a2 ∧ W.cell? ⟨g, 3, none⟩ = some a3 ∧ W.cell? ⟨g, 4, none⟩ = some a4 ∧ W.cell? ⟨g, 5, none⟩ = some a5 ∧ W.cell? ⟨g, 6, none⟩ = some a6 ∧ W.cell? ⟨g, 7, none⟩ = some a7 ∧ W.cell? ⟨g, 8, none⟩ = some a8 :=
  ⟨h, cell_of_row _ _ 0 _ _ _ h.row, cell_of_row _ _ 1 _ _ _ h.row, cell_of_row _ _ 2 _ _ _ h.row, cell_of_row _ _ 3 _ _ _ h.row, cell_of_row _ _ 4 _ _ _ h.row, cell_of_row _ _ 5 _ _ _ h.row, cell_of_row _ _ 6 _ _ _ h.row, cell_of_row _ _ 7 _ _ _ h.row, cell_of_row _ _ 8 _ _ _ h.row⟩
theorem next (h : Ax w g #[a0, a1, a2, a3, a4, a5, a6, a7, a8] W) (k : Below W.heap.size W W') : Ax w g #[a0, a1, a2, a3, a4, a5, a6, a7, a8] W' ∧ W'.cell? ⟨g, 0, none⟩ = some a0 ∧ W'.cell? ⟨g, 1, none⟩ = some a1 ∧ W'.cell? ⟨g, 2, none⟩ = some a2 ∧ W'.cell? ⟨g, 3, none⟩ = some a3 ∧ W'.cell? ⟨g, 4, none⟩ = some a4 ∧ W'.cell? ⟨g, 5, none⟩ = some a5 ∧ W'.cell? ⟨g, 6, none⟩ = some a6 ∧ W'.cell? ⟨g, 7, none⟩ = some a7 ∧ W'.cell? ⟨g, 8, none⟩ = some a8 := (h.below k).all
end Ax
def lode : ByteArray := ⟨#[108, 111, 100, 101]⟩
/-- an anchor's bytes -/
def putB (G E T N Q M F L C : ByteArray) : ByteArray := ((((((((⟨#[108, 111, 100, 101]⟩ : ByteArray) ++ G) ++ E) ++ T) ++ N) ++ (Q ++ M)) ++ F) ++ L) ++ C
theorem put_no (gen ep : Int) (tu : Bool) (nx : ByteArray) (pl : Int) (sm : ByteArray) (fr mn : Int) (ch : ByteArray) (h : ¬ okA tu nx pl sm fr mn ch) (w : World) : Calls Try.prog 9 #[.agg #[.int .u64 gen, .int .u32 ep, .bool tu, .string nx, .int .i64 pl, .string sm, .int .i64 fr, .int .i64 mn, .string ch]] w fun e w' => e = .returned (.string ⟨#[]⟩) ∧ Below w.heap.size w w' := by
  have hm := fun w' => may_any gen ep tu nx pl sm fr mn ch w'
  rw [decide_eq_false h] at hm
  clear h
  replace hm := Lib.hid hm
  go_enter Try.func9, Try.ntmps9
  go_wp2_with (go_at_call 13; (with_reducible refine (hm.out _).mono ?_); rintro e w1 ⟨rfl, b1⟩; replace b1 := Lib.hid (boxRow b1).2.2.2)
  go_ret
  exact ⟨rfl, b1.out⟩
theorem rput_no (gen ep : Int) (tu : Bool) (nx : ByteArray) (pl : Int) (sm : ByteArray) (fr mn : Int) (ch : ByteArray) (h : ¬ okA tu nx pl sm fr mn ch) (w : World) : Calls Try.prog 12 #[.agg #[.int .u64 gen, .int .u32 ep, .bool tu, .string nx, .int .i64 pl, .string sm, .int .i64 fr, .int .i64 mn, .string ch]] w fun e w' => e = .returned (.string ⟨#[]⟩) ∧ Below w.heap.size w w' := by
  have hm := fun w' => rmay_any gen ep tu nx pl sm fr mn ch w'
  rw [decide_eq_false h] at hm
  clear h
  replace hm := Lib.hid hm
  go_enter Try.func12, Try.ntmps12
  go_wp2_with (go_at_call 63; (with_reducible refine (hm.out _).mono ?_); rintro e w1 ⟨rfl, b1⟩; replace b1 := Lib.hid (boxRow b1).2.2.2)
  go_ret
  exact ⟨rfl, b1.out⟩
set_option maxHeartbeats 8000000 in
theorem put_yes (gen ep q f m : Nat) (tu : Bool) (pl : Int) (NX SM CH G E T N Q M F L : ByteArray) (hep : ep < 4294967296) (hq : pl + 1 = (q : Int)) (hq2 : q < 5000) (hf : f < 5000) (hl : m < 5000)
    (hm : ∀ w, Calls Try.prog 13 #[.agg #[.int .u64 (gen : Int), .int .u32 (ep : Int), .bool tu, .string NX, .int .i64 pl, .string SM, .int .i64 (f : Int), .int .i64 (m : Int), .string CH]] w fun e w' => e = .returned (.bool true) ∧ Below w.heap.size w w')
    (cg : ∀ w, Calls Try.prog 50 #[.int .u64 (gen : Int)] w fun e w' => e = .returned (.string G) ∧ Below w.heap.size w w') (ce : ∀ w, Calls Try.prog 51 #[.int .u32 (ep : Int)] w fun e w' => e = .returned (.string E) ∧ Below w.heap.size w w') (cb : ∀ w, Calls Try.prog 52 #[.bool tu] w fun e w' => e = .returned (.string T) ∧ Below w.heap.size w w') (cn : ∀ w, Calls Try.prog 53 #[.string NX] w fun e w' => e = .returned (.string N) ∧ Below w.heap.size w w') (cq : ∀ w, Calls Try.prog 50 #[.int .u64 (q : Int)] w fun e w' => e = .returned (.string Q) ∧ Below w.heap.size w w') (cs : ∀ w, Calls Try.prog 53 #[.string SM] w fun e w' => e = .returned (.string M) ∧ Below w.heap.size w w') (cf : ∀ w, Calls Try.prog 50 #[.int .u64 (f : Int)] w fun e w' => e = .returned (.string F) ∧ Below w.heap.size w w') (cl : ∀ w, Calls Try.prog 50 #[.int .u64 (m : Int)] w fun e w' => e = .returned (.string L) ∧ Below w.heap.size w w')
    (hsz : G.size ≤ 10000 ∧ E.size ≤ 10000 ∧ T.size ≤ 10000 ∧ N.size ≤ 10000 ∧ Q.size ≤ 10000 ∧ M.size ≤ 10000 ∧ F.size ≤ 10000 ∧ L.size ≤ 10000 ∧ CH.size ≤ 10000) (w : World) :
    Calls Try.prog 9 #[.agg #[.int .u64 (gen : Int), .int .u32 (ep : Int), .bool tu, .string NX, .int .i64 pl, .string SM, .int .i64 (f : Int), .int .i64 (m : Int), .string CH]] w fun e w' => e = .returned (.string (putB G E T N Q M F L CH)) ∧ Below w.heap.size w w' := by
  obtain ⟨s1, s2, s3, s4, s5, s6, s7, s8, s9⟩ := hsz
  have z0 : (⟨#[108, 111, 100, 101]⟩ : ByteArray).size = 4 := rfl
  obtain ⟨X1, h1⟩ : ∃ X, X = (⟨#[108, 111, 100, 101]⟩ : ByteArray) ++ G := ⟨_, rfl⟩
  obtain ⟨X2, h2⟩ : ∃ X, X = X1 ++ E := ⟨_, rfl⟩
  obtain ⟨X3, h3⟩ : ∃ X, X = X2 ++ T := ⟨_, rfl⟩
  obtain ⟨X4, h4⟩ : ∃ X, X = X3 ++ N := ⟨_, rfl⟩
  obtain ⟨X5, h5⟩ : ∃ X, X = Q ++ M := ⟨_, rfl⟩
  obtain ⟨X6, h6⟩ : ∃ X, X = X4 ++ X5 := ⟨_, rfl⟩
  obtain ⟨X7, h7⟩ : ∃ X, X = X6 ++ F := ⟨_, rfl⟩
  obtain ⟨X8, h8⟩ : ∃ X, X = X7 ++ L := ⟨_, rfl⟩
  have z1 : X1.size = 4 + G.size := by rw [h1, ByteArray.size_append, z0]
  have z2 : X2.size = X1.size + E.size := by rw [h2, ByteArray.size_append]
  have z3 : X3.size = X2.size + T.size := by rw [h3, ByteArray.size_append]
  have z4 : X4.size = X3.size + N.size := by rw [h4, ByteArray.size_append]
  have z5 : X5.size = Q.size + M.size := by rw [h5, ByteArray.size_append]
  have z6 : X6.size = X4.size + X5.size := by rw [h6, ByteArray.size_append]
  have z7 : X7.size = X6.size + F.size := by rw [h7, ByteArray.size_append]
  have z8 : X8.size = X7.size + L.size := by rw [h8, ByteArray.size_append]
  have t1 : Fits (⟨#[108, 111, 100, 101]⟩ : ByteArray) G := by unfold Fits; omega
  have t2 : Fits X1 E := by unfold Fits; omega
  have t3 : Fits X2 T := by unfold Fits; omega
  have t4 : Fits X3 N := by unfold Fits; omega
  have t5 : Fits Q M := by unfold Fits; omega
  have t6 : Fits X4 X5 := by unfold Fits; omega
  have t7 : Fits X6 F := by unfold Fits; omega
  have t8 : Fits X7 L := by unfold Fits; omega
  have t9 : Fits X8 CH := by unfold Fits; omega
  have hans : putB G E T N Q M F L CH = X8 ++ CH := by unfold putB; rw [h8, h7, h6, h5, h4, h3, h2, h1]
  rw [hans]
  replace h1 := h1.symm; replace h2 := h2.symm; replace h3 := h3.symm; replace h4 := h4.symm; replace h5 := h5.symm; replace h6 := h6.symm; replace h7 := h7.symm; replace h8 := h8.symm
  have w1 : IntKind.i64.wrap (q : Int) = (q : Int) := IntWalk.i64_in _ (by omega)
  have w2 : IntKind.u64.wrap (q : Int) = (q : Int) := IntWalk.u64_in _ (by omega)
  have w3 : IntKind.u64.wrap (f : Int) = (f : Int) := IntWalk.u64_in _ (by omega)
  have w4 : IntKind.u64.wrap (m : Int) = (m : Int) := IntWalk.u64_in _ (by omega)
  have w5 : IntKind.u64.wrap (ep : Int) = (ep : Int) := IntWalk.u64_in _ (by omega)
  clear s1 s2 s3 s4 s5 s6 s7 s8 s9 z0 z1 z2 z3 z4 z5 z6 z7 z8 hans hep hq2 hf hl
  replace hm := Lib.hid hm; replace cg := Lib.hid cg; replace ce := Lib.hid ce; replace cb := Lib.hid cb; replace cn := Lib.hid cn; replace cq := Lib.hid cq; replace cs := Lib.hid cs; replace cf := Lib.hid cf; replace cl := Lib.hid cl
  go_enter Try.func9, Try.ntmps9
  go_upto_region 3 with (go_at_call 13; (with_reducible refine (hm.out _).mono ?_); rintro e w1 ⟨rfl, b1⟩; have hx := boxRow b1; have ax : Ax w w.heap.size #[.int .u64 (gen : Int), .int .u32 (ep : Int), .bool tu, .string NX, .int .i64 pl, .string SM, .int .i64 (f : Int), .int .i64 (m : Int), .string CH] w1 := ⟨hx.1, hx.2.2.2⟩; clear hx b1; replace ax := Lib.hid ax)
  go_region_held3 (fun w' => Ax w w.heap.size #[.int .u64 (gen : Int), .int .u32 (ep : Int), .bool tu, .string NX, .int .i64 pl, .string SM, .int .i64 (f : Int), .int .i64 (m : Int), .string CH] w' ∧ w'.cell? ⟨w.heap.size, 0, none⟩ = some (.int .u64 (gen : Int)) ∧ w'.cell? ⟨w.heap.size, 1, none⟩ = some (.int .u32 (ep : Int)) ∧ w'.cell? ⟨w.heap.size, 2, none⟩ = some (.bool tu) ∧ w'.cell? ⟨w.heap.size, 3, none⟩ = some (.string NX) ∧ w'.cell? ⟨w.heap.size, 4, none⟩ = some (.int .i64 pl) ∧ w'.cell? ⟨w.heap.size, 5, none⟩ = some (.string SM) ∧ w'.cell? ⟨w.heap.size, 6, none⟩ = some (.int .i64 (f : Int)) ∧ w'.cell? ⟨w.heap.size, 7, none⟩ = some (.int .i64 (m : Int)) ∧ w'.cell? ⟨w.heap.size, 8, none⟩ = some (.string CH))
    ((first | exact ax.out.drew.all | (go_split_ands; exact ⟨by assumption, by assumption, by assumption, by assumption, by assumption, by assumption, by assumption, by assumption, by assumption, by assumption⟩) | (go_split_ands; exact Ax.next (by assumption) (by assumption))))
    ((first
      | (go_at_call 50; (with_reducible refine (cg.out _).mono ?_); rintro e w1 ⟨rfl, hb⟩)
      | (go_at_call 50; (with_reducible refine (cq.out _).mono ?_); rintro e w1 ⟨rfl, hb⟩)
      | (go_at_call 50; (with_reducible refine (cf.out _).mono ?_); rintro e w1 ⟨rfl, hb⟩)
      | (go_at_call 50; (with_reducible refine (cl.out _).mono ?_); rintro e w1 ⟨rfl, hb⟩)
      | (go_at_call 51; (with_reducible refine (ce.out _).mono ?_); rintro e w1 ⟨rfl, hb⟩)
      | (go_at_call 52; (with_reducible refine (cb.out _).mono ?_); rintro e w1 ⟨rfl, hb⟩)
      | (go_at_call 53; (with_reducible refine (cn.out _).mono ?_); rintro e w1 ⟨rfl, hb⟩)
      | (go_at_call 53; (with_reducible refine (cs.out _).mono ?_); rintro e w1 ⟨rfl, hb⟩)))
  obtain ⟨ay, _⟩ := ‹Ax _ _ _ _ ∧ _›
  clear ax
  have ax := Lib.hid ay
  clear ay
  go_upto_region 4 with fail
  go_region_held3 (fun w' => Ax w w.heap.size #[.int .u64 (gen : Int), .int .u32 (ep : Int), .bool tu, .string NX, .int .i64 pl, .string SM, .int .i64 (f : Int), .int .i64 (m : Int), .string CH] w' ∧ w'.cell? ⟨w.heap.size, 0, none⟩ = some (.int .u64 (gen : Int)) ∧ w'.cell? ⟨w.heap.size, 1, none⟩ = some (.int .u32 (ep : Int)) ∧ w'.cell? ⟨w.heap.size, 2, none⟩ = some (.bool tu) ∧ w'.cell? ⟨w.heap.size, 3, none⟩ = some (.string NX) ∧ w'.cell? ⟨w.heap.size, 4, none⟩ = some (.int .i64 pl) ∧ w'.cell? ⟨w.heap.size, 5, none⟩ = some (.string SM) ∧ w'.cell? ⟨w.heap.size, 6, none⟩ = some (.int .i64 (f : Int)) ∧ w'.cell? ⟨w.heap.size, 7, none⟩ = some (.int .i64 (m : Int)) ∧ w'.cell? ⟨w.heap.size, 8, none⟩ = some (.string CH))
    ((first | exact ax.out.drew.all | (go_split_ands; exact ⟨by assumption, by assumption, by assumption, by assumption, by assumption, by assumption, by assumption, by assumption, by assumption, by assumption⟩) | (go_split_ands; exact Ax.next (by assumption) (by assumption))))
    ((first
      | (go_at_call 50; (with_reducible refine (cg.out _).mono ?_); rintro e w1 ⟨rfl, hb⟩)
      | (go_at_call 50; (with_reducible refine (cq.out _).mono ?_); rintro e w1 ⟨rfl, hb⟩)
      | (go_at_call 50; (with_reducible refine (cf.out _).mono ?_); rintro e w1 ⟨rfl, hb⟩)
      | (go_at_call 50; (with_reducible refine (cl.out _).mono ?_); rintro e w1 ⟨rfl, hb⟩)
      | (go_at_call 51; (with_reducible refine (ce.out _).mono ?_); rintro e w1 ⟨rfl, hb⟩)
      | (go_at_call 52; (with_reducible refine (cb.out _).mono ?_); rintro e w1 ⟨rfl, hb⟩)
      | (go_at_call 53; (with_reducible refine (cn.out _).mono ?_); rintro e w1 ⟨rfl, hb⟩)
      | (go_at_call 53; (with_reducible refine (cs.out _).mono ?_); rintro e w1 ⟨rfl, hb⟩)))
  obtain ⟨ay, _⟩ := ‹Ax _ _ _ _ ∧ _›
  clear ax
  have ax := Lib.hid ay
  clear ay
  go_upto_region 5 with fail
  go_region_held3 (fun w' => Ax w w.heap.size #[.int .u64 (gen : Int), .int .u32 (ep : Int), .bool tu, .string NX, .int .i64 pl, .string SM, .int .i64 (f : Int), .int .i64 (m : Int), .string CH] w' ∧ w'.cell? ⟨w.heap.size, 0, none⟩ = some (.int .u64 (gen : Int)) ∧ w'.cell? ⟨w.heap.size, 1, none⟩ = some (.int .u32 (ep : Int)) ∧ w'.cell? ⟨w.heap.size, 2, none⟩ = some (.bool tu) ∧ w'.cell? ⟨w.heap.size, 3, none⟩ = some (.string NX) ∧ w'.cell? ⟨w.heap.size, 4, none⟩ = some (.int .i64 pl) ∧ w'.cell? ⟨w.heap.size, 5, none⟩ = some (.string SM) ∧ w'.cell? ⟨w.heap.size, 6, none⟩ = some (.int .i64 (f : Int)) ∧ w'.cell? ⟨w.heap.size, 7, none⟩ = some (.int .i64 (m : Int)) ∧ w'.cell? ⟨w.heap.size, 8, none⟩ = some (.string CH))
    ((first | exact ax.out.drew.all | (go_split_ands; exact ⟨by assumption, by assumption, by assumption, by assumption, by assumption, by assumption, by assumption, by assumption, by assumption, by assumption⟩) | (go_split_ands; exact Ax.next (by assumption) (by assumption))))
    ((first
      | (go_at_call 50; (with_reducible refine (cg.out _).mono ?_); rintro e w1 ⟨rfl, hb⟩)
      | (go_at_call 50; (with_reducible refine (cq.out _).mono ?_); rintro e w1 ⟨rfl, hb⟩)
      | (go_at_call 50; (with_reducible refine (cf.out _).mono ?_); rintro e w1 ⟨rfl, hb⟩)
      | (go_at_call 50; (with_reducible refine (cl.out _).mono ?_); rintro e w1 ⟨rfl, hb⟩)
      | (go_at_call 51; (with_reducible refine (ce.out _).mono ?_); rintro e w1 ⟨rfl, hb⟩)
      | (go_at_call 52; (with_reducible refine (cb.out _).mono ?_); rintro e w1 ⟨rfl, hb⟩)
      | (go_at_call 53; (with_reducible refine (cn.out _).mono ?_); rintro e w1 ⟨rfl, hb⟩)
      | (go_at_call 53; (with_reducible refine (cs.out _).mono ?_); rintro e w1 ⟨rfl, hb⟩)))
  obtain ⟨ay, _⟩ := ‹Ax _ _ _ _ ∧ _›
  clear ax
  have ax := Lib.hid ay
  clear ay
  go_wp2
  go_ret
  exact ⟨rfl, ax.out.bel⟩
set_option maxHeartbeats 8000000 in
theorem rput_yes (gen ep q f m : Nat) (tu : Bool) (pl : Int) (NX SM CH G E T N Q M F L : ByteArray) (hep : ep < 4294967296) (hq : pl + 1 = (q : Int)) (hq2 : q < 5000) (hf : f < 5000) (hl : m < 5000)
    (hm : ∀ w, Calls Try.prog 63 #[.agg #[.int .u64 (gen : Int), .int .u32 (ep : Int), .bool tu, .string NX, .int .i64 pl, .string SM, .int .i64 (f : Int), .int .i64 (m : Int), .string CH]] w fun e w' => e = .returned (.bool true) ∧ Below w.heap.size w w')
    (cg : ∀ w, Calls Try.prog 64 #[.int .u64 (gen : Int)] w fun e w' => e = .returned (.string G) ∧ Below w.heap.size w w') (ce : ∀ w, Calls Try.prog 65 #[.int .u64 (ep : Int), .int .i64 4] w fun e w' => e = .returned (.string E) ∧ Below w.heap.size w w') (cb : ∀ w, Calls Try.prog 66 #[.bool tu] w fun e w' => e = .returned (.string T) ∧ Below w.heap.size w w') (cn : ∀ w, Calls Try.prog 67 #[.string NX] w fun e w' => e = .returned (.string N) ∧ Below w.heap.size w w') (cq : ∀ w, Calls Try.prog 64 #[.int .u64 (q : Int)] w fun e w' => e = .returned (.string Q) ∧ Below w.heap.size w w') (cs : ∀ w, Calls Try.prog 67 #[.string SM] w fun e w' => e = .returned (.string M) ∧ Below w.heap.size w w') (cf : ∀ w, Calls Try.prog 64 #[.int .u64 (f : Int)] w fun e w' => e = .returned (.string F) ∧ Below w.heap.size w w') (cl : ∀ w, Calls Try.prog 64 #[.int .u64 (m : Int)] w fun e w' => e = .returned (.string L) ∧ Below w.heap.size w w')
    (hsz : G.size ≤ 10000 ∧ E.size ≤ 10000 ∧ T.size ≤ 10000 ∧ N.size ≤ 10000 ∧ Q.size ≤ 10000 ∧ M.size ≤ 10000 ∧ F.size ≤ 10000 ∧ L.size ≤ 10000 ∧ CH.size ≤ 10000) (w : World) :
    Calls Try.prog 12 #[.agg #[.int .u64 (gen : Int), .int .u32 (ep : Int), .bool tu, .string NX, .int .i64 pl, .string SM, .int .i64 (f : Int), .int .i64 (m : Int), .string CH]] w fun e w' => e = .returned (.string (putB G E T N Q M F L CH)) ∧ Below w.heap.size w w' := by
  obtain ⟨s1, s2, s3, s4, s5, s6, s7, s8, s9⟩ := hsz
  have z0 : (⟨#[108, 111, 100, 101]⟩ : ByteArray).size = 4 := rfl
  obtain ⟨X1, h1⟩ : ∃ X, X = (⟨#[108, 111, 100, 101]⟩ : ByteArray) ++ G := ⟨_, rfl⟩
  obtain ⟨X2, h2⟩ : ∃ X, X = X1 ++ E := ⟨_, rfl⟩
  obtain ⟨X3, h3⟩ : ∃ X, X = X2 ++ T := ⟨_, rfl⟩
  obtain ⟨X4, h4⟩ : ∃ X, X = X3 ++ N := ⟨_, rfl⟩
  obtain ⟨X5, h5⟩ : ∃ X, X = Q ++ M := ⟨_, rfl⟩
  obtain ⟨X6, h6⟩ : ∃ X, X = X4 ++ X5 := ⟨_, rfl⟩
  obtain ⟨X7, h7⟩ : ∃ X, X = X6 ++ F := ⟨_, rfl⟩
  obtain ⟨X8, h8⟩ : ∃ X, X = X7 ++ L := ⟨_, rfl⟩
  have z1 : X1.size = 4 + G.size := by rw [h1, ByteArray.size_append, z0]
  have z2 : X2.size = X1.size + E.size := by rw [h2, ByteArray.size_append]
  have z3 : X3.size = X2.size + T.size := by rw [h3, ByteArray.size_append]
  have z4 : X4.size = X3.size + N.size := by rw [h4, ByteArray.size_append]
  have z5 : X5.size = Q.size + M.size := by rw [h5, ByteArray.size_append]
  have z6 : X6.size = X4.size + X5.size := by rw [h6, ByteArray.size_append]
  have z7 : X7.size = X6.size + F.size := by rw [h7, ByteArray.size_append]
  have z8 : X8.size = X7.size + L.size := by rw [h8, ByteArray.size_append]
  have t1 : Fits (⟨#[108, 111, 100, 101]⟩ : ByteArray) G := by unfold Fits; omega
  have t2 : Fits X1 E := by unfold Fits; omega
  have t3 : Fits X2 T := by unfold Fits; omega
  have t4 : Fits X3 N := by unfold Fits; omega
  have t5 : Fits Q M := by unfold Fits; omega
  have t6 : Fits X4 X5 := by unfold Fits; omega
  have t7 : Fits X6 F := by unfold Fits; omega
  have t8 : Fits X7 L := by unfold Fits; omega
  have t9 : Fits X8 CH := by unfold Fits; omega
  have hans : putB G E T N Q M F L CH = X8 ++ CH := by unfold putB; rw [h8, h7, h6, h5, h4, h3, h2, h1]
  rw [hans]
  replace h1 := h1.symm; replace h2 := h2.symm; replace h3 := h3.symm; replace h4 := h4.symm; replace h5 := h5.symm; replace h6 := h6.symm; replace h7 := h7.symm; replace h8 := h8.symm
  have w1 : IntKind.i64.wrap (q : Int) = (q : Int) := IntWalk.i64_in _ (by omega)
  have w2 : IntKind.u64.wrap (q : Int) = (q : Int) := IntWalk.u64_in _ (by omega)
  have w3 : IntKind.u64.wrap (f : Int) = (f : Int) := IntWalk.u64_in _ (by omega)
  have w4 : IntKind.u64.wrap (m : Int) = (m : Int) := IntWalk.u64_in _ (by omega)
  have w5 : IntKind.u64.wrap (ep : Int) = (ep : Int) := IntWalk.u64_in _ (by omega)
  clear s1 s2 s3 s4 s5 s6 s7 s8 s9 z0 z1 z2 z3 z4 z5 z6 z7 z8 hans hep hq2 hf hl
  replace hm := Lib.hid hm; replace cg := Lib.hid cg; replace ce := Lib.hid ce; replace cb := Lib.hid cb; replace cn := Lib.hid cn; replace cq := Lib.hid cq; replace cs := Lib.hid cs; replace cf := Lib.hid cf; replace cl := Lib.hid cl
  go_enter Try.func12, Try.ntmps12
  go_upto_region 3 with (go_at_call 63; (with_reducible refine (hm.out _).mono ?_); rintro e w1 ⟨rfl, b1⟩; have hx := boxRow b1; have ax : Ax w w.heap.size #[.int .u64 (gen : Int), .int .u32 (ep : Int), .bool tu, .string NX, .int .i64 pl, .string SM, .int .i64 (f : Int), .int .i64 (m : Int), .string CH] w1 := ⟨hx.1, hx.2.2.2⟩; clear hx b1; replace ax := Lib.hid ax)
  go_region_held3 (fun w' => Ax w w.heap.size #[.int .u64 (gen : Int), .int .u32 (ep : Int), .bool tu, .string NX, .int .i64 pl, .string SM, .int .i64 (f : Int), .int .i64 (m : Int), .string CH] w' ∧ w'.cell? ⟨w.heap.size, 0, none⟩ = some (.int .u64 (gen : Int)) ∧ w'.cell? ⟨w.heap.size, 1, none⟩ = some (.int .u32 (ep : Int)) ∧ w'.cell? ⟨w.heap.size, 2, none⟩ = some (.bool tu) ∧ w'.cell? ⟨w.heap.size, 3, none⟩ = some (.string NX) ∧ w'.cell? ⟨w.heap.size, 4, none⟩ = some (.int .i64 pl) ∧ w'.cell? ⟨w.heap.size, 5, none⟩ = some (.string SM) ∧ w'.cell? ⟨w.heap.size, 6, none⟩ = some (.int .i64 (f : Int)) ∧ w'.cell? ⟨w.heap.size, 7, none⟩ = some (.int .i64 (m : Int)) ∧ w'.cell? ⟨w.heap.size, 8, none⟩ = some (.string CH))
    ((first | exact ax.out.drew.all | (go_split_ands; exact ⟨by assumption, by assumption, by assumption, by assumption, by assumption, by assumption, by assumption, by assumption, by assumption, by assumption⟩) | (go_split_ands; exact Ax.next (by assumption) (by assumption))))
    ((first
      | (go_at_call 64; (with_reducible refine (cg.out _).mono ?_); rintro e w1 ⟨rfl, hb⟩)
      | (go_at_call 64; (with_reducible refine (cq.out _).mono ?_); rintro e w1 ⟨rfl, hb⟩)
      | (go_at_call 64; (with_reducible refine (cf.out _).mono ?_); rintro e w1 ⟨rfl, hb⟩)
      | (go_at_call 64; (with_reducible refine (cl.out _).mono ?_); rintro e w1 ⟨rfl, hb⟩)
      | (go_at_call 65; (with_reducible refine (ce.out _).mono ?_); rintro e w1 ⟨rfl, hb⟩)
      | (go_at_call 66; (with_reducible refine (cb.out _).mono ?_); rintro e w1 ⟨rfl, hb⟩)
      | (go_at_call 67; (with_reducible refine (cn.out _).mono ?_); rintro e w1 ⟨rfl, hb⟩)
      | (go_at_call 67; (with_reducible refine (cs.out _).mono ?_); rintro e w1 ⟨rfl, hb⟩)))
  obtain ⟨ay, _⟩ := ‹Ax _ _ _ _ ∧ _›
  clear ax
  have ax := Lib.hid ay
  clear ay
  go_upto_region 4 with fail
  go_region_held3 (fun w' => Ax w w.heap.size #[.int .u64 (gen : Int), .int .u32 (ep : Int), .bool tu, .string NX, .int .i64 pl, .string SM, .int .i64 (f : Int), .int .i64 (m : Int), .string CH] w' ∧ w'.cell? ⟨w.heap.size, 0, none⟩ = some (.int .u64 (gen : Int)) ∧ w'.cell? ⟨w.heap.size, 1, none⟩ = some (.int .u32 (ep : Int)) ∧ w'.cell? ⟨w.heap.size, 2, none⟩ = some (.bool tu) ∧ w'.cell? ⟨w.heap.size, 3, none⟩ = some (.string NX) ∧ w'.cell? ⟨w.heap.size, 4, none⟩ = some (.int .i64 pl) ∧ w'.cell? ⟨w.heap.size, 5, none⟩ = some (.string SM) ∧ w'.cell? ⟨w.heap.size, 6, none⟩ = some (.int .i64 (f : Int)) ∧ w'.cell? ⟨w.heap.size, 7, none⟩ = some (.int .i64 (m : Int)) ∧ w'.cell? ⟨w.heap.size, 8, none⟩ = some (.string CH))
    ((first | exact ax.out.drew.all | (go_split_ands; exact ⟨by assumption, by assumption, by assumption, by assumption, by assumption, by assumption, by assumption, by assumption, by assumption, by assumption⟩) | (go_split_ands; exact Ax.next (by assumption) (by assumption))))
    ((first
      | (go_at_call 64; (with_reducible refine (cg.out _).mono ?_); rintro e w1 ⟨rfl, hb⟩)
      | (go_at_call 64; (with_reducible refine (cq.out _).mono ?_); rintro e w1 ⟨rfl, hb⟩)
      | (go_at_call 64; (with_reducible refine (cf.out _).mono ?_); rintro e w1 ⟨rfl, hb⟩)
      | (go_at_call 64; (with_reducible refine (cl.out _).mono ?_); rintro e w1 ⟨rfl, hb⟩)
      | (go_at_call 65; (with_reducible refine (ce.out _).mono ?_); rintro e w1 ⟨rfl, hb⟩)
      | (go_at_call 66; (with_reducible refine (cb.out _).mono ?_); rintro e w1 ⟨rfl, hb⟩)
      | (go_at_call 67; (with_reducible refine (cn.out _).mono ?_); rintro e w1 ⟨rfl, hb⟩)
      | (go_at_call 67; (with_reducible refine (cs.out _).mono ?_); rintro e w1 ⟨rfl, hb⟩)))
  obtain ⟨ay, _⟩ := ‹Ax _ _ _ _ ∧ _›
  clear ax
  have ax := Lib.hid ay
  clear ay
  go_upto_region 5 with fail
  go_region_held3 (fun w' => Ax w w.heap.size #[.int .u64 (gen : Int), .int .u32 (ep : Int), .bool tu, .string NX, .int .i64 pl, .string SM, .int .i64 (f : Int), .int .i64 (m : Int), .string CH] w' ∧ w'.cell? ⟨w.heap.size, 0, none⟩ = some (.int .u64 (gen : Int)) ∧ w'.cell? ⟨w.heap.size, 1, none⟩ = some (.int .u32 (ep : Int)) ∧ w'.cell? ⟨w.heap.size, 2, none⟩ = some (.bool tu) ∧ w'.cell? ⟨w.heap.size, 3, none⟩ = some (.string NX) ∧ w'.cell? ⟨w.heap.size, 4, none⟩ = some (.int .i64 pl) ∧ w'.cell? ⟨w.heap.size, 5, none⟩ = some (.string SM) ∧ w'.cell? ⟨w.heap.size, 6, none⟩ = some (.int .i64 (f : Int)) ∧ w'.cell? ⟨w.heap.size, 7, none⟩ = some (.int .i64 (m : Int)) ∧ w'.cell? ⟨w.heap.size, 8, none⟩ = some (.string CH))
    ((first | exact ax.out.drew.all | (go_split_ands; exact ⟨by assumption, by assumption, by assumption, by assumption, by assumption, by assumption, by assumption, by assumption, by assumption, by assumption⟩) | (go_split_ands; exact Ax.next (by assumption) (by assumption))))
    ((first
      | (go_at_call 64; (with_reducible refine (cg.out _).mono ?_); rintro e w1 ⟨rfl, hb⟩)
      | (go_at_call 64; (with_reducible refine (cq.out _).mono ?_); rintro e w1 ⟨rfl, hb⟩)
      | (go_at_call 64; (with_reducible refine (cf.out _).mono ?_); rintro e w1 ⟨rfl, hb⟩)
      | (go_at_call 64; (with_reducible refine (cl.out _).mono ?_); rintro e w1 ⟨rfl, hb⟩)
      | (go_at_call 65; (with_reducible refine (ce.out _).mono ?_); rintro e w1 ⟨rfl, hb⟩)
      | (go_at_call 66; (with_reducible refine (cb.out _).mono ?_); rintro e w1 ⟨rfl, hb⟩)
      | (go_at_call 67; (with_reducible refine (cn.out _).mono ?_); rintro e w1 ⟨rfl, hb⟩)
      | (go_at_call 67; (with_reducible refine (cs.out _).mono ?_); rintro e w1 ⟨rfl, hb⟩)))
  obtain ⟨ay, _⟩ := ‹Ax _ _ _ _ ∧ _›
  clear ax
  have ax := Lib.hid ay
  clear ay
  go_wp2
  go_ret
  exact ⟨rfl, ax.out.bel⟩
end Go.Proofs.Ytdhboldmffiklab.anchor
