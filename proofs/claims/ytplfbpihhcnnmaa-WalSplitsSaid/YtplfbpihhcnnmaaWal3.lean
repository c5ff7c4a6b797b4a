/- Records of the log read again: wal.change, wal.Get. No condition but the reader. -/
import Derived.Test.YtplfbpihhcnnmaaWal2
import Derived.Test.YtplfbpihhcnnmaaHpBu
namespace Go.Proofs.Ytplfbpihhcnnmaa.wal
open Go.RowKit
open code (textL boolL textL_len text_put rtext_put)
attribute [local go_sem ↓] Go.wp_at_zero Go.wp_at_succ
attribute [local go_sem] str_size str_bl
set_option linter.unusedVariables false
set_option maxRecDepth 100000

theorem change3 : (Try.prog.info? 100).map (·.size) = some 3 := by kernel_rfl
set_option maxHeartbeats 2000000 in
theorem change_read {w : World} {g : Nat} (c : Ch) (r : List UInt8) (hc : c.k.length ≤ 96 ∧ c.v.length ≤ 4096 ∧ (c.g = true → c.v = [])) (h : code.RdAt w g (chB c ++ r) 0) :
    Calls Try.prog 92 #[.pointer (some ⟨g, 0, none⟩)] w fun e w' => e = .returned (.agg (chC c).toArray) ∧ code.RdAt w' g r 0 ∧ Keeps [g] w w' := by
  obtain ⟨ck, cv, cg⟩ := c
  simp only at hc
  have h2 : code.RdAt w g (boolL cg ++ (textL ck ++ ((if cg then [] else textL cv) ++ r))) 0 := by simpa [chB] using h
  have hp := (Hp.lend h2).alloc #[.string ⟨#[]⟩, .string ⟨#[]⟩, .bool false] 100
  have hr : code.RdAt (w.alloc (.cells #[.string ⟨#[]⟩, .string ⟨#[]⟩, .bool false] 100)) g _ 0 := hp.box (i := 1) rfl
  obtain ⟨k1, k2, k3⟩ := hc
  replace hp := Lib.hid hp; replace hr := Lib.hid hr; replace k3 := Lib.hid k3
  clear h h2
  go_enter Try.func92, Try.ntmps92
  go_upto_region 2 with (first
    | (go_at_call 107; (with_reducible refine (code.bool_read _ hr.out).mono ?_); rintro e w1 ⟨rfl, r1, q1⟩; replace hp := Lib.hid (hp.out.call (i := 1) rfl r1 q1); replace hr := Lib.hid r1; clear r1 q1)
    | (go_at_call 63; (with_reducible refine (code.text_read _ _ (by omega) (by omega) (by omega) hr.out).mono ?_); rintro e w1 ⟨rfl, r1, q1⟩; replace hp := Lib.hid (hp.out.call (i := 1) rfl r1 q1); replace hr := Lib.hid r1; clear r1 q1))
  have hp2 := hp.out.alloc #[.string (str ck), .string ⟨#[]⟩, .bool cg] 100
  have hr2 := hr.out.below ((Below.refl _ _).alloc (Nat.le_refl _) (.cells #[.string (str ck), .string ⟨#[]⟩, .bool cg] 100))
  clear hp hr
  generalize w1.alloc (.cells #[.string (str ck), .string ⟨#[]⟩, .bool cg] 100) = W at hp2 hr2 ⊢
  generalize w1.heap.size = q at hp2 hr2 ⊢
  have a0 := hp2.cell (i := 0) rfl 0
  have a1 := hp2.cell (i := 0) rfl 1
  have a2 := hp2.cell (i := 0) rfl 2
  cases cg with
  | true =>
    have hcv := k3.out rfl
    subst hcv
    have b0 := hp2.cell (i := 1) rfl 0
    have b1 := hp2.cell (i := 1) rfl 1
    have b2 := hp2.cell (i := 1) rfl 2
    have f0 := hp2.free (i := 1) rfl 0
    have f1 := hp2.free (i := 1) rfl 1
    have f2 := hp2.free (i := 1) rfl 2
    have fin := ((hp2.put (i := 1) rfl 0 (.string (str ck))).put (i := 1) rfl 1 (.string ⟨#[]⟩)).put (i := 1) rfl 2 (.bool true)
    replace fin := Lib.hid fin
    clear hp2 hr2
    simp at a0 a1 a2 b0 b1 b2
    go_wp2
    refine bodyPost_ret (v := .agg #[.string (str ck), .string ⟨#[]⟩, .bool true]) (results_cell_row rfl _ _ w.heap.size 100 #[.string (str ck), .string ⟨#[]⟩, .bool true] (0, 0) _ rfl (fin.out.box (i := 1) rfl) Try.underlying100 rfl change3) rfl ⟨rfl, ?_, fin.out.kp⟩
    exact fin.out.box (i := 2) rfl
  | false =>
    have hr3 : code.RdAt W g (textL cv ++ r) 0 := hr2
    clear hr2 k3
    replace hr3 := Lib.hid hr3; replace hp2 := Lib.hid hp2
    clear a0 a1
    simp at a2
    go_wp2_with ((go_at_call 63; (with_reducible refine (code.text_read _ _ (by omega) (by omega) (by omega) hr3.out).mono ?_); rintro e w2 ⟨rfl, r1, q1⟩; replace hp2 := Lib.hid (hp2.out.call (i := 2) rfl r1 q1); clear r1 q1; clear a2; have n0 := hp2.out.ne (i := 0) (j := 1) rfl rfl (by decide); have n1 := hp2.out.ne (i := 1) (j := 0) rfl rfl (by decide); have a0 := hp2.out.cell (i := 0) rfl 0; have a1 := hp2.out.cell (i := 0) rfl 1; have a2 := hp2.out.cell (i := 0) rfl 2; have g1 := hp2.out.free (i := 0) rfl 1; have b0 := hp2.out.cell (i := 1) rfl 0; have b1 := hp2.out.cell (i := 1) rfl 1; have b2 := hp2.out.cell (i := 1) rfl 2; have f0 := hp2.out.free (i := 1) rfl 0; have f1 := hp2.out.free (i := 1) rfl 1; have f2 := hp2.out.free (i := 1) rfl 2; simp at a0 a1 a2 b0 b1 b2))
    have fin := (((hp2.out.put (i := 0) rfl 1 (.string (str cv))).put (i := 1) rfl 0 (.string (str ck))).put (i := 1) rfl 1 (.string (str cv))).put (i := 1) rfl 2 (.bool false)
    exact bodyPost_ret (v := .agg #[.string (str ck), .string (str cv), .bool false]) (results_cell_row rfl _ _ w.heap.size 100 #[.string (str ck), .string (str cv), .bool false] (0, 0) _ rfl (fin.box (i := 1) rfl) Try.underlying100 rfl change3) rfl ⟨rfl, fin.box (i := 2) rfl, fin.kp⟩
theorem changeInfo : (Try.prog.info? 100).map (fun i => (i.zero, i.size, i.bytes)) = some (some (.agg #[.string ⟨#[]⟩, .string ⟨#[]⟩, .bool false]), 3, 40) := by kernel_rfl
theorem chC_one (c : Ch) : ∀ u ∈ chC c, u.oneCell' = true := by intro u hu; simp [chC] at hu; rcases hu with rfl | rfl | rfl <;> rfl
/-- what Get hands back of a record -/
def GotRec (w : World) (l : List Ch) (e : Ending) (w' : World) : Prop := ∃ v, e = .returned (.tuple #[v, .int .i64 0]) ∧ Hp w [] [.row 100 3 v l.length (chCells l)] w'
theorem drop_step {α β : Type} (f : α → List β) (l : List α) (i : Nat) (x : α) (hx : l[i]? = some x) : (l.drop i).flatMap f = f x ++ (l.drop (i + 1)).flatMap f := by
  have := (List.getElem?_eq_some_iff.1 hx)
  obtain ⟨hi, hv⟩ := this
  rw [List.drop_eq_getElem_cons hi, List.flatMap_cons, hv]
set_option maxHeartbeats 4000000 in
theorem get_rec (l : List Ch) (hm : mayL l = true) (hz : (recL l).length ≤ 16384) (w : World) : Calls Try.prog 55 #[.string (str (recL l))] w (GotRec w l) := by
  obtain ⟨q1, q2, q3⟩ := mayL_all hm
  have cm := fun v w' h => may_any v l w' h
  rw [hm] at cm
  obtain ⟨n, hln⟩ : ∃ n, n = l.length := ⟨_, rfl⟩
  have hrd : ∀ w, Calls Try.prog 60 #[.string (str (recL l))] w fun e w' => e = .returned (.pointer (some ⟨w.heap.size, 0, none⟩)) ∧ code.RdAt w' w.heap.size (code.numL n ++ (l.drop 0).flatMap chB) 0 ∧ Below w.heap.size w w' := fun w => by
    have := code.read_any (str (recL l)) w
    rw [str_toList] at this
    have e : recL l = code.numL n ++ (l.drop 0).flatMap chB := by rw [recL, ← hln, List.drop_zero]
    rw [e] at this ⊢
    exact this
  have hnum : ∀ W g, code.RdAt W g (code.numL n ++ (l.drop 0).flatMap chB) 0 → Calls Try.prog 62 #[.pointer (some ⟨g, 0, none⟩), .int .u64 256] W fun e w' => e = .returned (.int .u64 (n : Int)) ∧ code.RdAt w' g ((l.drop 0).flatMap chB) 0 ∧ Keeps [g] W w' := fun W g h => code.num_read n 256 (by omega) (by omega) h
  have hz2 : ¬ (16384 : Int) < ((recL l).length : Int) := by omega
  generalize recL l = M at *
  rw [← hln] at cm q1 q2
  replace hrd := Lib.hid hrd; replace hnum := Lib.hid hnum; replace cm := Lib.hid cm; replace q3 := Lib.hid q3; replace hln := Lib.hid hln
  clear hz hm
  go_enter Try.func55, Try.ntmps55
  go_wp2_with (first
    | (go_at_call 60; (with_reducible refine (hrd.out _).mono ?_); rintro e w1 ⟨rfl, r1, b1⟩; have hp := Lib.hid (((Hp.none_ w []).made r1 (Nat.le_refl _) b1).rowNil 100 3); have hr := Lib.hid r1; clear r1 b1)
    | (go_at_call 62; (with_reducible refine (hnum.out _ _ hr.out).mono ?_); rintro e w2 ⟨rfl, r1, k1⟩; replace hp := Lib.hid (hp.out.call (i := 1) rfl r1 k1); clear hr r1 k1))
  go_loopw [5, 11] (fun v i wr => ∃ k : Nat, k ≤ n ∧ i = .int .u64 k ∧ Hp w [] [.row 100 3 v k (chCells (l.take k)), .box w.heap.size #[.string (str ((l.drop k).flatMap chB)), .int .i64 0] 139] wr) (fun _ i _ => n - (intOf i).toNat)
  case atStart => exact ⟨0, by omega, rfl, hp.out⟩
  case round =>
    clear hp
    obtain ⟨k, hk, rfl, hp⟩ := hrel
    by_cases hlt : k < n
    · obtain ⟨c, hx⟩ : ∃ x, l[k]? = some x := ⟨_, List.getElem?_eq_getElem (by have := hln.out; omega)⟩
      have hck := q3.out c (List.mem_of_getElem? hx)
      simp only [chOk, decide_eq_true_eq] at hck
      have hstep := drop_step chB l k c hx
      have htake := flat_take chC l k c hx
      have hcr : ∀ W g, code.RdAt W g ((l.drop k).flatMap chB) 0 → Calls Try.prog 92 #[.pointer (some ⟨g, 0, none⟩)] W fun e w' => e = .returned (.agg #[.string (str c.k), .string (str c.v), .bool c.g]) ∧ code.RdAt w' g ((l.drop (k + 1)).flatMap chB) 0 ∧ Keeps [g] W w' := fun W g h => change_read c _ ⟨hck.2.1, hck.2.2.1, hck.2.2.2⟩ (by rw [← hstep]; exact h)
      have hr : code.RdAt wr w.heap.size _ 0 := hp.box (i := 1) rfl
      replace hp := Lib.hid hp; replace hr := Lib.hid hr; replace hcr := Lib.hid hcr; replace htake := Lib.hid htake
      clear hck hstep hx
      go_wp2_with (first
        | (go_at_call 92; (with_reducible refine (hcr.out _ _ hr.out).mono ?_); rintro e w2 ⟨rfl, r1, k1⟩; replace hp := Lib.hid ((hp.out.call (i := 1) rfl r1 k1).alloc_ (.cells #[.string (str c.k), .string (str c.v), .bool c.g] 100)); clear hr r1 k1)
        | (at_builtin; go_loud (refine wpList_append_hp rfl _ _ rfl Try.underlying25 changeInfo rfl (by decide) (by decide) hp.out 0 rfl rfl _ _ (chC c) rfl rfl (block_cells (heap_alloc_new _ _)) (chC_one c) (by omega) ?_; intro v2 w3 hp3 hv; replace hp := Lib.hid hp3; obtain ⟨b2, cap2, rfl⟩ := hv)))
      clear hp3
      go_roundw
      case rel => exact ⟨k + 1, by omega, by go_num, by rw [chCells, htake.out]; exact hp.out⟩
      case measure => simp [intOf]; omega
    · obtain rfl : k = n := by omega
      have hz : (l.drop k).flatMap chB = [] := by rw [List.drop_of_length_le (by rw [← hln.out]; exact Nat.le_refl _)]; rfl
      have ht : l.take k = l := List.take_of_length_le (by rw [← hln.out]; exact Nat.le_refl _)
      rw [hz, ht] at hp
      have hr : code.RdAt wr w.heap.size [] 0 := hp.box (i := 1) rfl
      replace hp := Lib.hid hp; replace hr := Lib.hid hr
      clear hz ht
      go_wp2_with (first
        | (go_at_call 66; (with_reducible refine (code.end_read hr.out).mono ?_); rintro e w2 ⟨rfl, k1⟩; have hp2 := Lib.hid (hp.out.lose (i := 1) rfl k1); clear k1)
        | (go_at_call 93; (with_reducible refine (cm.out _ _ (hp2.out.sl (i := 0) rfl (by omega))).mono ?_); rintro e w3 ⟨rfl, b1⟩; replace hp2 := Lib.hid (hp2.out.below b1); clear b1))
      go_ret2
      exact ⟨_, rfl, by rw [← hln.out]; exact hp2.out⟩
theorem get_empty (w : World) : Calls Try.prog 55 #[.string ⟨#[]⟩] w fun e w' => e = .returned (.tuple #[.slice none 0 0, .int .i64 2]) ∧ Below w.heap.size w w' := by
  have hnum : ∀ W g, code.RdAt W g [] 0 → Calls Try.prog 62 #[.pointer (some ⟨g, 0, none⟩), .int .u64 256] W fun e w' => e = .returned (.int .u64 0) ∧ code.RdAt w' g [] 2 ∧ Keeps [g] W w' := fun W g h => by
    have := code.takeNum_any h 256 (by decide)
    exact this
  have hend : ∀ W g, code.RdAt W g [] 2 → Calls Try.prog 66 #[.pointer (some ⟨g, 0, none⟩)] W fun e w' => e = .returned (.int .i64 2) ∧ Keeps [g] W w' := fun W g h => by
    have := code.end_any h
    simpa using this
  replace hnum := Lib.hid hnum; replace hend := Lib.hid hend
  go_enter Try.func55, Try.ntmps55
  go_wp2_with (first
    | (go_at_call 60; (with_reducible refine (code.read_any _ _).mono ?_); rintro e w1 ⟨rfl, r1, b1⟩; have hp := Lib.hid ((Hp.none_ w []).made r1 (Nat.le_refl _) b1); have hr := Lib.hid r1; clear r1 b1)
    | (go_at_call 62; (with_reducible refine (hnum.out _ _ hr.out).mono ?_); rintro e w2 ⟨rfl, r1, k1⟩; replace hp := Lib.hid (hp.out.call (i := 0) rfl r1 k1); clear hr; have hr := Lib.hid r1; clear r1 k1))
  go_loopw [11] (fun i wr => i = .int .u64 0 ∧ Hp w [] [.box w.heap.size #[.string (str []), .int .i64 2] 139] wr) (fun i _ => 0)
  case atStart => exact ⟨rfl, hp.out⟩
  case round =>
    clear hp hr
    obtain ⟨rfl, hp⟩ := hrel
    have hr : code.RdAt wr w.heap.size [] 2 := hp.box (i := 0) rfl
    replace hp := Lib.hid hp; replace hr := Lib.hid hr
    go_wp2_with (first
        | (go_at_call 66; (with_reducible refine (hend.out _ _ hr.out).mono ?_); rintro e w2 ⟨rfl, k1⟩; have hp2 := Lib.hid (hp.out.lose (i := 0) rfl k1); clear k1))
    go_ret2
    exact ⟨rfl, hp2.out.bel⟩
end Go.Proofs.Ytplfbpihhcnnmaa.wal
