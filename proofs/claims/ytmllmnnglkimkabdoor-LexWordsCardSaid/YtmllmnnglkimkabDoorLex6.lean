/- So many bytes a question has, and no more: the law LexLong. The table of marks is a premise. No other condition. -/
import Derived.Test.YtmllmnnglkimkabDoorLex5
import Derived.Lib.LaidTab
namespace Go.Proofs.YtmllmnnglkimkabDoor.lex
open Go.RowKit
attribute [local go_sem ↓] Go.wp_at_zero Go.wp_at_succ
attribute [local go_sem] str_size
set_option linter.unusedVariables false
set_option maxRecDepth 100000

theorem WRow.open {w : World} {base : Nat} {v : Value} {ws : List W} (h : WRow w base v ws) (hne : ws ≠ []) : ∃ b cap, v = .slice (some ⟨b, 0, none⟩) ws.length cap ∧ base ≤ b ∧ b < w.heap.size ∧ ∀ k x, (allcells ws)[k]? = some x → w.cell? ⟨b, k, none⟩ = some x := by
  rcases h.2 with ⟨rfl, h0⟩ | ⟨g, cap, cur, rfl, hb, hg, h1, h2, h3, h4⟩
  · exact absurd (List.eq_nil_of_length_eq_zero h0) hne
  · have hc := World.ownsRow.cells h (g := g) rfl
    have hl := World.ownsRow.lt h g rfl
    refine ⟨g, cap, rfl, hl.1, hl.2, fun k x hk => ?_⟩
    have := hc k x hk
    rwa [show (⟨g, 0, none⟩ : Addr).add k = ⟨g, k, none⟩ from by unfold Addr.add; split <;> simp_all] at this
theorem awake_any (w : World) (hM : MarksAt w) : Calls Tryd.prog 11 #[] w fun e w' => e = .returned (.bool true) ∧ Below w.heap.size w w' := by
  have c0 := words_any [97, 32, 60, 61, 32, 53] (by decide) w hM
  rw [words_sample] at c0
  have c : Calls Tryd.prog 10 #[.string ⟨#[97, 32, 60, 61, 32, 53]⟩] w fun e w' => ∃ b cap, e = .returned (.tuple #[.slice (some ⟨b, 0, none⟩) 4 cap, .int .i64 0, .int .i64 0]) ∧ w'.cell? ⟨b, 5, none⟩ = some (.string ⟨#[60, 61]⟩) ∧ w'.cell? ⟨b, 10, none⟩ = some (.int .i64 5) ∧ Below w.heap.size w w' := c0.mono fun e w' h => by
    obtain ⟨hb, v, he, hr, _⟩ := h
    obtain ⟨b, cap, rfl, _, _, hc⟩ := hr.open (by simp)
    exact ⟨b, cap, he, hc 5 _ rfl, hc 10 _ rfl, hb⟩
  clear c0 hM
  replace c := Lib.hid c
  go_enter Tryd.func11, Tryd.ntmps11
  go_wp2_with (go_at_call 10; (with_reducible refine c.out.mono ?_); rintro e w1 ⟨b, cap, rfl, h5, h10, hb⟩; replace hb := Lib.hid hb)
  go_ret
  exact ⟨rfl, hb.out⟩
theorem words_long (l : List UInt8) (h : 1000 < l.length) (w : World) : Calls Tryd.prog 10 #[.string (str l)] w fun e w' => e = .returned (.tuple #[.slice none 0 0, .int .i64 0, .int .i64 4]) ∧ Below w.heap.size w w' := by
  have h2 : (1000 : Int) < (l.length : Int) := by omega
  clear h
  go_enter Tryd.func10, Tryd.ntmps10
  go_wp2
  refine wp_scope_two (fun _ _ => False) (fun _ _ => False) (fun _ _ => 0) rfl rfl (fun _ _ h => h.elim) (fun _ _ h => h.elim) ?_
  intro _
  go_wp2
  simp only [two]
  refine bodyPost_ret (v := .tuple #[.slice none 0 0, .int .i64 0, .int .i64 4]) (by simp [results, Tryd.results10, go_sem]) rfl ?_
  exact ⟨rfl, Below.refl _ _⟩
def fillL (k i : Nat) : List UInt8 := List.replicate i 97 ++ List.replicate (k - i) 0
theorem fillL_len (k i : Nat) (h : i ≤ k) : (fillL k i).length = k := by simp [fillL]; omega
theorem fillL_set (k i : Nat) (h : i < k) : (fillL k i).set i 97 = fillL k (i + 1) := by
  unfold fillL
  rw [List.set_append_right _ _ (by simp), List.length_replicate, Nat.sub_self, show k - i = (k - (i + 1)) + 1 by omega, List.replicate_succ, List.set_cons_zero, List.replicate_succ', List.append_assoc]
  rfl
theorem fillL_full (k : Nat) : fillL k k = List.replicate k 97 := by simp [fillL]
set_option maxHeartbeats 2000000 in
theorem lexLong_walk (a0 : Int) (w : World) (w0 : (Lit.int .i64 a0).wf = true) (hM : MarksAt w) :
    Calls Tryd.prog 3 #[.int .i64 a0] w fun e w' => e = .returned (.bool true) ∧ Below w.heap.size w w' := by
  have hm := and_31 a0
  obtain ⟨m, hm2⟩ : ∃ m : Nat, (m : Int) = a0 % 32 := ⟨(a0 % 32).toNat, by omega⟩
  have hm3 : m < 32 := by omega
  rw [← hm2] at hm
  obtain ⟨k, hk⟩ : ∃ k, k = 990 + m := ⟨_, rfl⟩
  have hk1 : IntKind.i64.wrap (990 + (m : Int)) = (k : Int) := by rw [IntKind.wrap_i64]; omega
  have hk2 : 990 ≤ k ∧ k ≤ 1021 := by omega
  have hmk := run_make_bytes k (by omega)
  have k0 : (0 : Int) ≤ (k : Int) := by omega
  clear hm2 hm3 hk w0
  replace hk2 := Lib.hid hk2; replace hM := Lib.hid hM
  go_enter Tryd.func3, Tryd.ntmps3
  go_wp2
  go_loopg [5] k (fun gn s5 wr => ∃ i : Nat, s5 = .int .i64 (i : Int) ∧ i + gn = k ∧ ByteBlk wr w.heap.size (fillL k i) ∧ Below w.heap.size w wr)
  case atStart => exact ⟨0, rfl, by omega, (show ByteBlk (w.alloc (.cells (madeCells (Value.int .u8 0).cells k) 5)) w.heap.size (fillL k 0) from by unfold fillL; simpa using byteBlk_made w k), by go_grown⟩
  case round =>
    obtain ⟨i, rfl, hi, hb, hbel⟩ := hrel
    have hfl := fillL_len k i (by omega)
    by_cases hg : gk = 0
    · subst hg
      obtain rfl : i = k := by omega
      have hlt : ¬ (i : Int) < (i : Int) := by omega
      have htext := hb.text i
      rw [hfl, fillL_full] at htext
      obtain ⟨j, hj⟩ : ∃ j, i = j + 1 := ⟨i - 1, by have := hk2.out; omega⟩
      have aw := fun w' hM' => awake_any w' hM'
      by_cases hle : i ≤ 1000
      · have cw : ∀ w', MarksAt w' → Calls Tryd.prog 10 #[.string (str (List.replicate i 97))] w' fun e w2 => ∃ b cap, e = .returned (.tuple #[.slice (some ⟨b, 0, none⟩) 2 cap, .int .i64 0, .int .i64 0]) ∧ Below w'.heap.size w' w2 := fun w' hM' => (words_any (List.replicate i 97) (by simpa using hle) w' hM').mono fun e w2 h => by
          rw [hj, words_rep] at h
          obtain ⟨hb, v, he, hr, _⟩ := h
          obtain ⟨b, cap, rfl, _, _, _⟩ := hr.open (by simp)
          exact ⟨b, cap, he, hb⟩
        have hle2 : (i : Int) ≤ 1000 := by omega
        replace hbel := Lib.hid hbel; replace cw := Lib.hid cw
        clear hfl hj hle hi hb
        go_wp2_with (first
          | (go_at_call 10; (with_reducible refine (cw.out _ (hM.out.keep hbel.out)).mono ?_); rintro e w1 ⟨b, cap, rfl, b1⟩; replace hbel := Lib.hid (belowCont hbel.out b1); clear b1)
          | (go_at_call 11; (with_reducible refine (awake_any _ (hM.out.keep hbel.out)).mono ?_); rintro e w1 ⟨rfl, b1⟩; replace hbel := Lib.hid (belowCont hbel.out b1); clear b1))
        go_ret
        exact ⟨rfl, hbel.out⟩
      · have cw : ∀ w', Calls Tryd.prog 10 #[.string (str (List.replicate i 97))] w' fun e w2 => e = .returned (.tuple #[.slice none 0 0, .int .i64 0, .int .i64 4]) ∧ Below w'.heap.size w' w2 := fun w' => words_long (List.replicate i 97) (by simp; omega) w'
        have hle2 : ¬ (i : Int) ≤ 1000 := by omega
        have hle3 : decide ((i : Int) ≤ 1000) = false := by simpa using hle2
        replace hbel := Lib.hid hbel; replace cw := Lib.hid cw
        clear hfl hj hle hi hb
        go_wp2_with (first
          | (go_at_call 10; (with_reducible refine (cw.out _).mono ?_); rintro e w1 ⟨rfl, b1⟩; replace hbel := Lib.hid (belowCont hbel.out b1); clear b1)
          | (go_at_call 11; (with_reducible refine (awake_any _ (hM.out.keep hbel.out)).mono ?_); rintro e w1 ⟨rfl, b1⟩; replace hbel := Lib.hid (belowCont hbel.out b1); clear b1))
        go_ret
        exact ⟨rfl, hbel.out⟩
    · obtain ⟨K, rfl⟩ : ∃ K : Nat, gk = K + 1 := ⟨gk - 1, by omega⟩
      have i0 : (0 : Int) ≤ (i : Int) := by omega
      have i1 : (i : Int) < (k : Int) := by omega
      have i3 : IntKind.i64.wrap ((i : Int) + 1) = (i : Int) + 1 := by have := hk2.out; rw [IntKind.wrap_i64]; omega
      have hc := hb.cell (i := i) (by omega)
      have hf := hb.free i
      have hput := hb.put (i := i) (n := 97) (by decide)
      rw [show UInt8.ofNat ((97 : Int).toNat) = 97 from rfl, fillL_set k i (by omega)] at hput
      have hb2 : Below w.heap.size w (wr.setCell ⟨w.heap.size, i, none⟩ (.int .u8 97)) := hbel.setCell (p := ⟨w.heap.size, i, none⟩) (Nat.le_refl _) _
      replace hput := Lib.hid hput; replace hb2 := Lib.hid hb2
      clear hfl hg hb
      go_wp2
      go_roundg K
      case measure => omega
      case rel => exact ⟨i + 1, by go_num, by omega, hput.out, hb2.out⟩
theorem marksNamed : Tryd.prog.globalNamed "lodestone/lex.marks" = some 0 := by kernel_rfl
theorem marksType : (Tryd.prog.globals[0]?).map (·.type) = some 103 := by kernel_rfl
theorem cellsMarks : Tryd.prog.cellsOf 103 = 18 := by kernel_rfl
theorem cellsStr : Tryd.prog.cellsOf 9 = 1 := by kernel_rfl
/-- an array of texts that reads so holds these texts -/
theorem texts_of {H : Type} {enc : TypeId × Value → H} {P : Program} {w : World} {base : Nat} {sp : Nat → Bool} {held : Bool} {fuel : Nat} {t e : TypeId} {n : Nat} {cs : List Value} {zs : List (List UInt8)} {p : List MemPlace}
    (ht : P.underlying t = some (.array n e)) (he : P.underlying e = some TypeDesc.string) (hce : P.cellsOf e = 1) (hct : P.cellsOf t = n)
    (h : DataW.trod enc P w base sp held fuel t cs = some (DataW.agg (zs.map fun z => DataW.lit (Lit.string z)), p)) : ∀ (i : Nat) (z : List UInt8), zs[i]? = some z → cs[i]? = some (.string (str z)) := by
  cases fuel with
  | zero => simp [DataW.trod] at h
  | succ fuel =>
    simp only [DataW.trod, ht, hce, hct, Nat.mul_one] at h
    split at h
    · obtain ⟨xs, hm, hx⟩ := Option.map_eq_some_iff.1 h
      have hxs : xs.map (·.1) = zs.map fun z => (DataW.lit (Lit.string z) : DataW H) := by
        have := congrArg Prod.fst hx
        simpa using this
      have hxl : xs.length = n := by simpa using Lib.mapM_length hm
      have hzl : zs.length = n := by
        have := congrArg List.length hxs
        simp at this
        omega
      intro i z hz
      have hi : i < n := by
        obtain ⟨h1, _⟩ := List.getElem?_eq_some_iff.1 hz
        omega
      obtain ⟨b, hb, hf⟩ := Lib.mapM_at hm i i (by simp [hi])
      obtain ⟨s, hc, hb2, _⟩ := DataW.trod_string he hf
      have h1 : cs[i]? = some (.string s) := by
        have := congrArg (·[0]?) hc
        simpa [List.getElem?_take, List.getElem?_drop] using this
      have h2 : (xs.map (·.1))[i]? = some (DataW.lit (Lit.string s.data.toList) : DataW H) := by simp [hb, hb2]
      rw [hxs] at h2
      simp only [List.getElem?_map, hz, Option.map_some, Option.some.injEq, DataW.lit.injEq, Lit.string.injEq] at h2
      rw [h1, h2, str_of]
    · cases h
theorem marks_of {W : World} (h : laidMetH Tryd.prog [("lodestone/lex.marks", Rows.laid_lodestone_lex_marks)] W) : MarksAt W := by
  have h2 : laidMet Tryd.prog [("lodestone/lex.marks", Rows.laid_lodestone_lex_marks)] W := h
  obtain ⟨ps, ⟨g', t', cs, fuel, p, q, hg', ht', hvar, hd, _, _⟩, _⟩ := h2
  obtain rfl := Option.some.inj (marksNamed.symm.trans hg')
  obtain rfl := Option.some.inj (marksType.symm.trans ht')
  have hall := texts_of (zs := marksL) Tryd.underlying103 Tryd.underlying9 cellsStr cellsMarks hd
  have hcell : ∀ i m, marksL[i]? = some m → W.cell? ⟨0, i, none⟩ = some (.string (str m)) := fun i m hm => by
    have := World.var?_cell marksNamed hvar i
    rw [this]
    simpa using hall i m hm
  exact ⟨hcell, World.block_lt_of_cell? W _ (hcell 0 _ rfl)⟩
end Go.Proofs.YtmllmnnglkimkabDoor.lex
