/- So many bytes a question has, and no more: the law LexLong. The table of marks is a premise. No other condition. -/
import Derived.Test.YtgbkpkioijbgoaaDoorLex5
import Derived.Lib.LaidTab
namespace Go.Proofs.YtgbkpkioijbgoaaDoor.lex
open Go.RowKit
attribute [local go_sem ↓] Go.wp_at_zero Go.wp_at_succ
attribute [local go_sem] str_size
set_option linter.unusedVariables false
set_option maxRecDepth 100000

theorem WRow.open {w : World} {base : Nat} {v : Value} {ws : List W} (h : WRow w base v ws) (hne : ws ≠ []) : ∃ b cap, v = .slice (some ⟨b, 0, none⟩) ws.length cap ∧ base ≤ b ∧ b < w.heap.size ∧ ∀ k x, (allcells ws)[k]? = some x → w.cell? ⟨b, k, none⟩ = some x := by
  rcases h.2 with ⟨rfl, h0⟩ | ⟨g, cap, cur, rfl, hb, hg, h1, h2, h3, h4⟩
  · exact absurd (List.eq_nil_of_length_eq_zero h0) hne
  · have hc := World.ownsRow.cells h (g := g) rfl
    have hl := World.ownsRow.lt h g rfl
    refine ⟨g, cap, rfl, hl.1, hl.2, fun k x hk => ?_⟩
    have := hc k x hk
    rwa [show (⟨g, 0, none⟩ : Addr).add k = ⟨g, k, none⟩ from by unfold Addr.add; split <;> simp_all] at this
theorem words_long (l : List UInt8) (h : 1000 < l.length) (w : World) : Calls Tryd.prog 21 #[.string (str l)] w fun e w' => e = .returned (.tuple #[.slice none 0 0, .int .i64 0, .int .i64 4]) ∧ Below w.heap.size w w' := by
  have h2 : (1000 : Int) < (l.length : Int) := by omega
  clear h
  go_enter Tryd.func21, Tryd.ntmps21
  go_wp2
  refine wp_scope_two (fun _ _ => False) (fun _ _ => False) (fun _ _ => 0) rfl rfl (fun _ _ h => h.elim) (fun _ _ h => h.elim) ?_
  intro _
  go_wp2
  simp only [two]
  refine bodyPost_ret (v := .tuple #[.slice none 0 0, .int .i64 0, .int .i64 4]) (by simp [results, Tryd.results21, go_sem]) rfl ?_
  exact ⟨rfl, Below.refl _ _⟩
def fillL (k i : Nat) : List UInt8 := List.replicate i 97 ++ List.replicate (k - i) 0
theorem fillL_len (k i : Nat) (h : i ≤ k) : (fillL k i).length = k := by simp [fillL]; omega
theorem fillL_set (k i : Nat) (h : i < k) : (fillL k i).set i 97 = fillL k (i + 1) := by
  unfold fillL
  rw [List.set_append_right _ _ (by simp), List.length_replicate, Nat.sub_self, show k - i = (k - (i + 1)) + 1 by omega, List.replicate_succ, List.set_cons_zero, List.replicate_succ', List.append_assoc]
  rfl
theorem fillL_full (k : Nat) : fillL k k = List.replicate k 97 := by simp [fillL]
theorem marksNamed : Tryd.prog.globalNamed "lodestone/lex.marks" = some 0 := by kernel_rfl
theorem marksType : (Tryd.prog.globals[0]?).map (·.type) = some 144 := by kernel_rfl
theorem cellsMarks : Tryd.prog.cellsOf 144 = 18 := by kernel_rfl
theorem cellsStr : Tryd.prog.cellsOf 9 = 1 := by kernel_rfl
/-- an array of texts that reads so holds these texts -/
theorem texts_of {H : Type} {enc : TypeId × Value → H} {P : Program} {w : World} {base : Nat} {sp : Nat → Bool} {held : Bool} {fuel : Nat} {t e : TypeId} {n : Nat} {cs : List Value} {zs : List (List UInt8)} {p : List MemPlace}
    (ht : P.underlying t = some (.array n e)) (he : P.underlying e = some TypeDesc.string) (hce : P.cellsOf e = 1) (hct : P.cellsOf t = n)
    (h : DataW.trod enc P w base sp held fuel t cs = some (DataW.agg (zs.map fun z => DataW.lit (Lit.string z)), p)) : ∀ (i : Nat) (z : List UInt8), zs[i]? = some z → cs[i]? = some (.string (str z)) := by
  cases fuel with
  | zero => simp [DataW.trod] at h
  | succ fuel =>
    simp only [DataW.trod, ht, hce, hct, Nat.mul_one] at h
    split at h
    · obtain ⟨xs, hm, hx⟩ := Option.map_eq_some_iff.1 h
      have hxs : xs.map (·.1) = zs.map fun z => (DataW.lit (Lit.string z) : DataW H) := by
        have := congrArg Prod.fst hx
        simpa using this
      have hxl : xs.length = n := by simpa using Lib.mapM_length hm
      have hzl : zs.length = n := by
        have := congrArg List.length hxs
        simp at this
        omega
      intro i z hz
      have hi : i < n := by
        obtain ⟨h1, _⟩ := List.getElem?_eq_some_iff.1 hz
        omega
      obtain ⟨b, hb, hf⟩ := Lib.mapM_at hm i i (by simp [hi])
      obtain ⟨s, hc, hb2, _⟩ := DataW.trod_string he hf
      have h1 : cs[i]? = some (.string s) := by
        have := congrArg (·[0]?) hc
        simpa [List.getElem?_take, List.getElem?_drop] using this
      have h2 : (xs.map (·.1))[i]? = some (DataW.lit (Lit.string s.data.toList) : DataW H) := by simp [hb, hb2]
      rw [hxs] at h2
      simp only [List.getElem?_map, hz, Option.map_some, Option.some.injEq, DataW.lit.injEq, Lit.string.injEq] at h2
      rw [h1, h2, str_of]
    · cases h
theorem marks_of {W : World} (h : laidMetH Tryd.prog [("lodestone/lex.marks", Rows.laid_lodestone_lex_marks)] W) : MarksAt W := by
  have h2 : laidMet Tryd.prog [("lodestone/lex.marks", Rows.laid_lodestone_lex_marks)] W := h
  obtain ⟨ps, ⟨g', t', cs, fuel, p, q, hg', ht', hvar, hd, _, _⟩, _⟩ := h2
  obtain rfl := Option.some.inj (marksNamed.symm.trans hg')
  obtain rfl := Option.some.inj (marksType.symm.trans ht')
  have hall := texts_of (zs := marksL) Tryd.underlying144 Tryd.underlying9 cellsStr cellsMarks hd
  have hcell : ∀ i m, marksL[i]? = some m → W.cell? ⟨0, i, none⟩ = some (.string (str m)) := fun i m hm => by
    have := World.var?_cell marksNamed hvar i
    rw [this]
    simpa using hall i m hm
  exact ⟨hcell, World.block_lt_of_cell? W _ (hcell 0 _ rfl)⟩
end Go.Proofs.YtgbkpkioijbgoaaDoor.lex
