/- Which anchors may be, and which may not (anchor.May, lodestoneref12.May). No condition. -/
import Derived.Test.YtdhboldmffiklabAnchor2
import Derived.Deep.DeepCutAuto
namespace Go.Proofs.Ytdhboldmffiklab.anchor
open Go.RowKit
attribute [local go_sem ↓] Go.wp_at_zero Go.wp_at_succ
set_option linter.unusedVariables false
set_option maxRecDepth 100000
attribute [local go_sem ↓] yielded_undef

/-- what may be -/
def okA (tu : Bool) (nx : ByteArray) (pl : Int) (sm : ByteArray) (fr mn : Int) (ch : ByteArray) : Prop :=
  nx.size ≤ 96 ∧ (tu = false → nx = ⟨#[]⟩) ∧ mayRootB pl sm = true ∧ (0 ≤ fr ∧ fr < 4096) ∧ (0 ≤ mn ∧ mn < 4096) ∧ ch.size = 32
instance (tu : Bool) (nx : ByteArray) (pl : Int) (sm : ByteArray) (fr mn : Int) (ch : ByteArray) : Decidable (okA tu nx pl sm fr mn ch) := by unfold okA; infer_instance
/-- the ways in which May says no -/
theorem may_steps (gen ep : Int) (tu : Bool) (nx : ByteArray) (pl : Int) (sm : ByteArray) (fr mn : Int) (ch : ByteArray) (r f m c : Bool) (w : World) (hn : nx.size ≤ 96) (ht : tu = false → nx = ⟨#[]⟩) (hr : mayRootB pl sm = r) (hf : decide (0 ≤ fr ∧ fr < 4096) = f) (hm : decide (0 ≤ mn ∧ mn < 4096) = m) (hc : decide ((ch.size : Int) = 32) = c) (hno : r = false ∨ (r = true ∧ f = false) ∨ (r = true ∧ f = true ∧ m = false) ∨ (r = true ∧ f = true ∧ m = true ∧ c = false)) :
    Calls Try.prog 13 #[.agg #[.int .u64 gen, .int .u32 ep, .bool tu, .string nx, .int .i64 pl, .string sm, .int .i64 fr, .int .i64 mn, .string ch]] w fun e w' => e = .returned (.bool false) ∧ Below w.heap.size w w' := by
  have c1 : ∀ w', Calls Try.prog 68 #[.agg #[.int .i64 pl, .string sm]] w' fun e w2 => e = .returned (.bool r) ∧ Below w'.heap.size w' w2 := fun w' => by rw [← hr]; exact mayRoot_any pl sm w'
  have c2 : ∀ w', Calls Try.prog 69 #[.int .i64 fr] w' fun e w2 => e = .returned (.bool f) ∧ Below w'.heap.size w' w2 := fun w' => by rw [← hf]; exact mayPlace_any fr w'
  have c3 : ∀ w', Calls Try.prog 69 #[.int .i64 mn] w' fun e w2 => e = .returned (.bool m) ∧ Below w'.heap.size w' w2 := fun w' => by rw [← hm]; exact mayPlace_any mn w'
  have e1 : ¬ (96 : Int) < (nx.size : Int) := by omega
  have hne : tu = true ∨ (tu = false ∧ nx = ⟨#[]⟩) := by cases tu with
    | true => exact Or.inl rfl
    | false => exact Or.inr ⟨rfl, ht rfl⟩
  have e2 : ((ch.size : Int) == 32) = c := by rw [← hc]; rw [Bool.eq_iff_iff]; simp
  clear hn ht hr hf hm hc
  replace c1 := Lib.hid c1; replace c2 := Lib.hid c2; replace c3 := Lib.hid c3
  rcases hne with rfl | ⟨rfl, rfl⟩ <;> rcases hno with rfl | ⟨rfl, rfl⟩ | ⟨rfl, rfl, rfl⟩ | ⟨rfl, rfl, rfl, rfl⟩
  all_goals (
    go_enter Try.func13, Try.ntmps13
    go_wp2_with (first
      | (go_at_call 68; (with_reducible refine (c1.out _).mono ?_); rintro e w1 ⟨rfl, b1⟩; obtain ⟨hrow, hcell, hfree, hbel⟩ := boxRow b1; have d6 := hcell 6; have d7 := hcell 7; have d8 := hcell 8; clear hcell hfree; replace hrow := Lib.hid hrow; replace hbel := Lib.hid hbel; clear b1)
      | (go_at_call 69; (with_reducible refine (c2.out _).mono ?_); rintro e w2 ⟨rfl, b2⟩; obtain ⟨hr2, hc2⟩ := keepRow hrow.out b2; replace hrow := Lib.hid hr2; clear hr2; have d7 := hc2 7; have d8 := hc2 8; clear hc2; replace hbel := Lib.hid (belowCont hbel.out b2); clear b2)
      | (go_at_call 69; (with_reducible refine (c3.out _).mono ?_); rintro e w2 ⟨rfl, b2⟩; obtain ⟨hr2, hc2⟩ := keepRow hrow.out b2; replace hrow := Lib.hid hr2; clear hr2; have d8 := hc2 8; clear hc2; replace hbel := Lib.hid (belowCont hbel.out b2); clear b2)))
  all_goals go_ret
  all_goals exact ⟨rfl, hbel.out⟩
theorem may_long (gen ep : Int) (tu : Bool) (nx : ByteArray) (pl : Int) (sm : ByteArray) (fr mn : Int) (ch : ByteArray) (w : World) (hn : 96 < nx.size) :
    Calls Try.prog 13 #[.agg #[.int .u64 gen, .int .u32 ep, .bool tu, .string nx, .int .i64 pl, .string sm, .int .i64 fr, .int .i64 mn, .string ch]] w fun e w' => e = .returned (.bool false) ∧ Below w.heap.size w w' := by
  have e1 : (96 : Int) < (nx.size : Int) := by omega
  clear hn
  go_enter Try.func13, Try.ntmps13
  go_wp2
  go_ret
  exact ⟨rfl, by go_grown⟩
theorem may_next (gen ep : Int) (tu : Bool) (nx : ByteArray) (pl : Int) (sm : ByteArray) (fr mn : Int) (ch : ByteArray) (w : World) (hn : nx.size ≤ 96) (h : nx ≠ ⟨#[]⟩) (ht : tu = false) :
    Calls Try.prog 13 #[.agg #[.int .u64 gen, .int .u32 ep, .bool tu, .string nx, .int .i64 pl, .string sm, .int .i64 fr, .int .i64 mn, .string ch]] w fun e w' => e = .returned (.bool false) ∧ Below w.heap.size w w' := by
  subst ht
  have e1 : ¬ (96 : Int) < (nx.size : Int) := by omega
  have he : (nx.toList == (⟨#[]⟩ : ByteArray).toList) = false := by
    rw [← beq_toListBytes]
    cases hx : (nx == (⟨#[]⟩ : ByteArray)) with
    | false => rfl
    | true => exact absurd ((empty_beq nx).1 hx) h
  have e0 : (⟨#[]⟩ : ByteArray).toList = [] := by rw [ByteArray.toList_eq]
  have he1 : (nx.toList == []) = false := by rw [e0] at he; exact he
  have he2 : ¬ nx.toList = [] := by intro h2; rw [h2] at he1; cases he1
  have he3 : nx.toList.isEmpty = false := by cases hl : nx.toList with
    | nil => exact absurd hl he2
    | cons a l => rfl
  clear hn h
  go_enter Try.func13, Try.ntmps13
  go_wp2
  go_ret
  exact ⟨rfl, by go_grown⟩
theorem may_any (gen ep : Int) (tu : Bool) (nx : ByteArray) (pl : Int) (sm : ByteArray) (fr mn : Int) (ch : ByteArray) (w : World) : Calls Try.prog 13 #[.agg #[.int .u64 gen, .int .u32 ep, .bool tu, .string nx, .int .i64 pl, .string sm, .int .i64 fr, .int .i64 mn, .string ch]] w fun e w' => e = .returned (.bool (decide (okA tu nx pl sm fr mn ch))) ∧ Below w.heap.size w w' := by
  by_cases h : okA tu nx pl sm fr mn ch
  · rw [decide_eq_true h]
    obtain ⟨h1, h2, h3, h4, h5, h6⟩ := h
    exact may_yes gen ep tu nx pl sm fr mn ch w h1 h2 h3 h4 h5 h6
  · rw [decide_eq_false h]
    by_cases h1 : nx.size ≤ 96
    · by_cases h2 : tu = false → nx = ⟨#[]⟩
      · refine may_steps gen ep tu nx pl sm fr mn ch _ _ _ _ w h1 h2 rfl rfl rfl rfl ?_
        cases hr : mayRootB pl sm with
        | false => exact Or.inl rfl
        | true =>
          by_cases hf : 0 ≤ fr ∧ fr < 4096
          · by_cases hm : 0 ≤ mn ∧ mn < 4096
            · exact Or.inr (Or.inr (Or.inr ⟨rfl, decide_eq_true hf, decide_eq_true hm, decide_eq_false (fun hc => h ⟨h1, h2, hr, hf, hm, by omega⟩)⟩))
            · exact Or.inr (Or.inr (Or.inl ⟨rfl, decide_eq_true hf, decide_eq_false hm⟩))
          · exact Or.inr (Or.inl ⟨rfl, decide_eq_false hf⟩)
      · exact may_next gen ep tu nx pl sm fr mn ch w h1 (fun hx => h2 (fun _ => hx)) (by cases tu with
          | false => rfl
          | true => exact absurd (fun hx => by cases hx) h2)
    · exact may_long gen ep tu nx pl sm fr mn ch w (by omega)
/-- a text is empty, in the walk's spellings -/
theorem empty_forms (s : ByteArray) (x : Bool) (hx : (s.toList == (⟨#[]⟩ : ByteArray).toList) = x) : (s.toList == []) = x ∧ (s.toList = []) = (x = true) ∧ (s = ⟨#[]⟩) = (x = true) ∧ s.toList.isEmpty = x := by
  have e0 : (⟨#[]⟩ : ByteArray).toList = [] := by rw [ByteArray.toList_eq]
  have h1 : (s.toList == []) = x := by rw [← e0]; exact hx
  refine ⟨h1, by rw [← h1]; simp, by rw [← hx, ← beq_toListBytes]; exact propext (empty_beq s).symm, ?_⟩
  rw [← h1]
  cases s.toList <;> rfl
set_option maxHeartbeats 8000000 in
theorem rmay_any (gen ep : Int) (tu : Bool) (nx : ByteArray) (pl : Int) (sm : ByteArray) (fr mn : Int) (ch : ByteArray) (w : World) : Calls Try.prog 63 #[.agg #[.int .u64 gen, .int .u32 ep, .bool tu, .string nx, .int .i64 pl, .string sm, .int .i64 fr, .int .i64 mn, .string ch]] w fun e w' => e = .returned (.bool (decide (okA tu nx pl sm fr mn ch))) ∧ Below w.heap.size w w' := by
  obtain ⟨a, ha⟩ : ∃ x, (pl == -1) = x := ⟨_, rfl⟩
  obtain ⟨b, hb⟩ : ∃ x, (sm.toList == (⟨#[]⟩ : ByteArray).toList) = x := ⟨_, rfl⟩
  obtain ⟨c, hc⟩ : ∃ x, decide (0 ≤ pl) = x := ⟨_, rfl⟩
  obtain ⟨d, hd⟩ : ∃ x, decide (pl < 4096) = x := ⟨_, rfl⟩
  obtain ⟨e, he⟩ : ∃ x, ((sm.size : Int) == 32) = x := ⟨_, rfl⟩
  obtain ⟨f0, hf0⟩ : ∃ x, decide (0 ≤ fr) = x := ⟨_, rfl⟩
  obtain ⟨f1, hf1⟩ : ∃ x, decide (fr < 4096) = x := ⟨_, rfl⟩
  obtain ⟨m0, hm0⟩ : ∃ x, decide (0 ≤ mn) = x := ⟨_, rfl⟩
  obtain ⟨m1, hm1⟩ : ∃ x, decide (mn < 4096) = x := ⟨_, rfl⟩
  obtain ⟨h, hh⟩ : ∃ x, ((ch.size : Int) == 32) = x := ⟨_, rfl⟩
  obtain ⟨n, hn⟩ : ∃ x, decide ((nx.size : Int) ≤ 96) = x := ⟨_, rfl⟩
  obtain ⟨x, hx⟩ : ∃ x, (nx.toList == (⟨#[]⟩ : ByteArray).toList) = x := ⟨_, rfl⟩
  obtain ⟨b1, b2, b3, b4⟩ := empty_forms sm b hb
  obtain ⟨x1, x2, x3, x4⟩ := empty_forms nx x hx
  have hans : decide (okA tu nx pl sm fr mn ch) = ((a && b || c && d && e) && (f0 && f1 && m0 && m1 && h) && n && (tu || x)) := by
    have iN : n = true ↔ nx.size ≤ 96 := by rw [← hn, decide_eq_true_eq]; omega
    have iA : a = true ↔ pl = -1 := by rw [← ha]; simp
    have iB : b = true ↔ sm = ⟨#[]⟩ := by rw [b3]
    have iC : c = true ↔ 0 ≤ pl := by rw [← hc, decide_eq_true_eq]
    have iD : d = true ↔ pl < 4096 := by rw [← hd, decide_eq_true_eq]
    have iE : e = true ↔ sm.size = 32 := by rw [← he, beq_iff_eq]; omega
    have iF0 : f0 = true ↔ 0 ≤ fr := by rw [← hf0, decide_eq_true_eq]
    have iF1 : f1 = true ↔ fr < 4096 := by rw [← hf1, decide_eq_true_eq]
    have iM0 : m0 = true ↔ 0 ≤ mn := by rw [← hm0, decide_eq_true_eq]
    have iM1 : m1 = true ↔ mn < 4096 := by rw [← hm1, decide_eq_true_eq]
    have iH : h = true ↔ ch.size = 32 := by rw [← hh, beq_iff_eq]; omega
    have iX : x = true ↔ nx = ⟨#[]⟩ := by rw [x3]
    have iR : mayRootB pl sm = true ↔ (pl = -1 ∧ sm = ⟨#[]⟩) ∨ ((0 ≤ pl ∧ pl < 4096) ∧ sm.size = 32) := by unfold mayRootB; rw [decide_eq_true_eq]
    rw [Bool.eq_iff_iff, decide_eq_true_eq]
    simp only [Bool.and_eq_true, Bool.or_eq_true, iN, iA, iB, iC, iD, iE, iF0, iF1, iM0, iM1, iH, iX]
    unfold okA
    rw [iR]
    constructor
    · rintro ⟨h1, h2, h3, ⟨h4, h5⟩, ⟨h6, h7⟩, h8⟩
      refine ⟨⟨⟨h3, ⟨⟨⟨h4, h5⟩, h6⟩, h7⟩, h8⟩, h1⟩, ?_⟩
      cases tu with
      | true => exact Or.inl rfl
      | false => exact Or.inr (h2 rfl)
    · rintro ⟨⟨⟨h3, ⟨⟨⟨h4, h5⟩, h6⟩, h7⟩, h8⟩, h1⟩, h2⟩
      exact ⟨h1, fun ht => by rcases h2 with h2 | h2; rw [ht] at h2; cases h2; exact h2, h3, ⟨h4, h5⟩, ⟨h6, h7⟩, h8⟩
  rw [hans]
  clear hans
  have hn2 : decide (nx.size ≤ 96) = n := by rw [← hn]; congr 1; apply propext; omega
  go_enter Try.func63, Try.ntmps63
  go_upto_region 1 with (fail)
  go_cut [3] from 5 (fun v wx => v = .bool (a && b || c && d && e) ∧ wx = w.alloc (.cells #[.int .u64 gen, .int .u32 ep, .bool tu, .string nx, .int .i64 pl, .string sm, .int .i64 fr, .int .i64 mn, .string ch] 27))
  case first =>
    clear x1 x2 x3 x4 hf0 hf1 hm0 hm1 hh hn hn2 hx
    have hab : (a = true ∧ b = true) ∨ (a = true ∧ b = false) ∨ a = false := by cases a <;> cases b <;> simp
    have hcde : c = false ∨ (c = true ∧ d = false) ∨ (c = true ∧ d = true ∧ e = false) ∨ (c = true ∧ d = true ∧ e = true) := by cases c <;> cases d <;> cases e <;> simp
    rcases hab with ⟨rfl, rfl⟩ | ⟨rfl, rfl⟩ | rfl
    · go_wp2
      go_meet
      case rel => exact ⟨by simp, rfl⟩
    · rcases hcde with rfl | ⟨rfl, rfl⟩ | ⟨rfl, rfl, rfl⟩ | ⟨rfl, rfl, rfl⟩
      all_goals go_wp2
      all_goals (go_meet; case rel => exact ⟨by simp, rfl⟩)
    · rcases hcde with rfl | ⟨rfl, rfl⟩ | ⟨rfl, rfl, rfl⟩ | ⟨rfl, rfl, rfl⟩
      all_goals go_wp2
      all_goals (go_meet; case rel => exact ⟨by simp, rfl⟩)
  case rest =>
    obtain ⟨rfl, rfl⟩ := hcut
    generalize hR : (a && b || c && d && e) = R
    replace hR := Lib.hid hR
    clear ha hb hc hd he b1 b2 b3 b4
    go_upto_region 2 with (fail)
    go_cut [4] from 34 (fun v wx => v = .bool (f0 && f1 && m0 && m1 && h) ∧ wx = w.alloc (.cells #[.int .u64 gen, .int .u32 ep, .bool tu, .string nx, .int .i64 pl, .string sm, .int .i64 fr, .int .i64 mn, .string ch] 27))
    case first =>
      clear x1 x2 x3 x4 hn hn2 hx
      have hcs : f0 = false ∨ (f0 = true ∧ f1 = false) ∨ (f0 = true ∧ f1 = true ∧ m0 = false) ∨ (f0 = true ∧ f1 = true ∧ m0 = true ∧ m1 = false) ∨ (f0 = true ∧ f1 = true ∧ m0 = true ∧ m1 = true) := by cases f0 <;> cases f1 <;> cases m0 <;> cases m1 <;> simp
      rcases hcs with rfl | ⟨rfl, rfl⟩ | ⟨rfl, rfl, rfl⟩ | ⟨rfl, rfl, rfl, rfl⟩ | ⟨rfl, rfl, rfl, rfl⟩
      all_goals go_wp2
      all_goals (go_meet; case rel => exact ⟨by simp, rfl⟩)
    case rest =>
      obtain ⟨rfl, rfl⟩ := hcut
      generalize hL : (f0 && f1 && m0 && m1 && h) = L
      replace hL := Lib.hid hL
      clear hf0 hf1 hm0 hm1 hh
      have hcs : R = false ∨ (R = true ∧ L = false) ∨ (R = true ∧ L = true ∧ n = false) ∨ (R = true ∧ L = true ∧ n = true ∧ tu = true) ∨ (R = true ∧ L = true ∧ n = true ∧ tu = false) := by cases R <;> cases L <;> cases n <;> cases tu <;> simp
      rcases hcs with rfl | ⟨rfl, rfl⟩ | ⟨rfl, rfl, rfl⟩ | ⟨rfl, rfl, rfl, rfl⟩ | ⟨rfl, rfl, rfl, rfl⟩
      all_goals go_wp2
      all_goals go_ret
      all_goals exact ⟨by rw [hR.out, hL.out]; simp, by go_grown⟩
end Go.Proofs.Ytdhboldmffiklab.anchor
