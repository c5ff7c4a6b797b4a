/- Who waits for whom: reached. No condition but the graph's own. -/
import Derived.Test.YtmlphodmbkceoabWait4
import Derived.Laws.Rows
import Derived.Laws.Tables
import Derived.Deep.WholeRow
namespace Go.Proofs.Ytmlphodmbkceoab.wait
open Go.RowKit
open Go.Sort
attribute [local go_sem ↓] Go.wp_at_zero Go.wp_at_succ
set_option linter.unusedVariables false
set_option maxRecDepth 100000

/-- what a graph's lists may be -/
structure GOk (ls : Nat → List Nat) : Prop where
  lt : ∀ i x, x ∈ ls i → x < 16
  len : ∀ i, (ls i).length ≤ 16
theorem GOk.nil : GOk fun _ => [] := ⟨fun i x h => by simp at h, fun i => by simp⟩
theorem GOk.set {ls : Nat → List Nat} (h : GOk ls) (who : Nat) (zs : List Int) : GOk fun k => if k = who then setL who zs else ls k := by
  refine ⟨fun i x hx => ?_, fun i => ?_⟩
  · by_cases hi : i = who
    · simp only [hi, if_true] at hx; exact ((setL_mem who zs x).1 hx).2.1
    · simp only [hi, if_false] at hx; exact h.lt i x hx
  · by_cases hi : i = who
    · simp only [hi, if_true]; exact setL_len who zs
    · simp only [hi, if_false]; exact h.len i
def bools (f : Nat → Bool) : Array Value := ((List.range 16).map fun x => Value.bool (f x)).toArray
theorem bools_size (f : Nat → Bool) : (bools f).size = 16 := by simp [bools]
theorem bools_at (f : Nat → Bool) {x : Nat} (h : x < 16) : (bools f)[x]? = some (.bool (f x)) := by simp [bools, h]
theorem bools_set (f : Nat → Bool) {o : Nat} (h : o < 16) : (bools f).setIfInBounds o (.bool true) = bools fun x => if x = o then true else f x := by
  apply Array.ext'
  apply List.ext_getElem?
  intro j
  by_cases hj : j < 16
  · by_cases hjo : j = o
    · subst hjo; simp [bools, h]
    · rw [Array.getElem?_toList, Array.getElem?_setIfInBounds_ne (by omega), Array.getElem?_toList, bools_at _ hj, bools_at _ hj, if_neg hjo]
  · rw [Array.getElem?_toList, Array.getElem?_toList, Array.getElem?_eq_none (by simp [bools]; omega), Array.getElem?_eq_none (by simp [bools]; omega)]
theorem bools_false : bools (fun _ => false) = #[.bool false, .bool false, .bool false, .bool false, .bool false, .bool false, .bool false, .bool false, .bool false, .bool false, .bool false, .bool false, .bool false, .bool false, .bool false, .bool false] := rfl
theorem bools_ext {f k : Nat → Bool} (h : ∀ x, x < 16 → f x = k x) : bools f = bools k := by
  unfold bools
  congr 1
  apply List.map_congr_left
  intro x hx
  rw [h x (List.mem_range.1 hx)]
def unseen (f : Nat → Bool) : Nat := ((List.range 16).filter fun x => !f x).length
theorem filter_le (f k : Nat → Bool) (hk : ∀ x, k x = true → f x = true) : ∀ l : List Nat, (l.filter k).length ≤ (l.filter f).length
  | [] => by simp
  | a :: l => by
    have ih := filter_le f k hk l
    cases hb : k a with
    | false => cases hf : f a <;> simp [List.filter_cons, hb, hf] <;> omega
    | true => simp [List.filter_cons, hb, hk a hb]; omega
theorem filter_drop (f k : Nat → Bool) (hk : ∀ x, k x = true → f x = true) (o : Nat) (h1 : f o = true) (h2 : k o = false) : ∀ (l : List Nat), o ∈ l → (l.filter k).length < (l.filter f).length
  | [], ho => by simp at ho
  | a :: l, ho => by
    by_cases hao : a = o
    · subst hao
      have := filter_le f k hk l
      simp [List.filter_cons, h1, h2]; omega
    · have ih := filter_drop f k hk o h1 h2 l ((List.mem_cons.1 ho).resolve_left (fun e => hao e.symm))
      cases hb : k a with
      | false => cases hf : f a <;> simp [List.filter_cons, hb, hf] <;> omega
      | true => simp [List.filter_cons, hb, hk a hb]; omega
theorem unseen_less (f : Nat → Bool) {o : Nat} (h : o < 16) (hf : f o = false) : unseen (fun x => if x = o then true else f x) < unseen f := by
  unfold unseen
  refine filter_drop _ _ (fun x hx => ?_) o (by simp [hf]) (by simp) _ (List.mem_range.2 h)
  by_cases hxo : x = o
  · simp [hxo] at hx
  · simpa [hxo] using hx
theorem belowRow {B g : Nat} {a w : World} (h : Below B a w) (hg : B ≤ g) (cs : Array Value) : Below B a (w.setRow g cs) :=
  ⟨h.os, h.tape, h.output, by simpa [World.setRow] using h.size, fun k hk => by
    have e : (w.setRow g cs).heap[k]? = w.heap[k]? := by
      simp only [World.setRow, Array.getElem?_modify]
      rw [if_neg (by omega)]
    exact e.trans (h.block k hk)⟩
theorem bools_one (f : Nat → Bool) : (bools f).all (·.oneCell') = true := by
  rw [Array.all_eq_true_iff_forall_mem]
  intro v hv
  simp [bools] at hv
  obtain ⟨n, _, rfl⟩ := hv
  rfl
set_option maxHeartbeats 4000000 in
theorem reached_any {w : World} {g : Nat} {ls : Nat → List Nat} (h : GAt w g ls) (hok : GOk ls) (who : Nat) (hw : who < 16) :
    Calls Try.prog 44 #[.pointer (some ⟨g, 0, none⟩), .int .i64 (who : Int)] w fun e w' => e = .returned (.agg (bools fun x => war (edge ls) 16 who x)) ∧ Below w.heap.size w w' := by
  have hfor := fun W (hW : GAt W g ls) => for_any hW who hw
  have hp := ((Hp.none_ w []).alloc #[.bool false, .bool false, .bool false, .bool false, .bool false, .bool false, .bool false, .bool false, .bool false, .bool false, .bool false, .bool false, .bool false, .bool false, .bool false, .bool false] 99).alloc #[.bool false, .bool false, .bool false, .bool false, .bool false, .bool false, .bool false, .bool false, .bool false, .bool false, .bool false, .bool false, .bool false, .bool false, .bool false, .bool false] 99
  rw [show (w.alloc (.cells #[.bool false, .bool false, .bool false, .bool false, .bool false, .bool false, .bool false, .bool false, .bool false, .bool false, .bool false, .bool false, .bool false, .bool false, .bool false, .bool false] 99)).heap.size = w.heap.size + 1 by simp] at hp
  have hwl := hok.len who
  obtain ⟨F, hF⟩ : ∃ F, F = bools fun x => war (edge ls) 16 who x := ⟨_, rfl⟩
  have hs := bools_size fun x => war (edge ls) 16 who x
  have hF1 := bools_one fun x => war (edge ls) 16 who x
  rw [← hF] at hs hF1 ⊢
  replace hF := Lib.hid hF; replace hs := Lib.hid hs; replace hF1 := Lib.hid hF1
  replace h := Lib.hid h; replace hok := Lib.hid hok; replace hw := Lib.hid hw; replace hfor := Lib.hid hfor; replace hp := Lib.hid hp; replace hwl := Lib.hid hwl
  go_enter Try.func44, Try.ntmps44
  go_wp2_with (go_at_call 34; (with_reducible refine (hfor.out _ (h.out.below hp.out.bel)).mono ?_); rintro e w1 ⟨v', rfl, h1⟩; have hp1 := ((hp.out.take h1).toTail (i := 0) rfl); replace hp1 := Lib.hid hp1; obtain ⟨ad1, cp1, rfl⟩ := rowShape (h1.row (i := 0) rfl); clear h1 hp)
  have hp2 := hp1.out
  rw [← bools_false] at hp2
  clear hp1
  go_loopg [6] (17 * unseen (fun _ => false) + (ls who).length) (fun gn v6 wr => ∃ (seen : Nat → Bool) (next : List Nat) (ad : Option Addr) (cp : Nat), v6 = .slice ad next.length cp ∧ gn = 17 * unseen seen + next.length ∧ BInv ls who seen next ∧ (∀ x, x ∈ next → x < 16) ∧ 17 * unseen seen + next.length ≤ 288 ∧ Hp w [] [tl 3 (.slice ad next.length cp) next.length (nums next), .box (w.heap.size + 1) (bools seen) 99, .box w.heap.size (bools fun _ => false) 99] wr)
  case atStart =>
    have h0 : unseen (fun _ => false) = 16 := by decide
    exact ⟨fun _ => false, ls who, ad1, cp1, rfl, rfl, BInv.start ls who, hok.out.lt who, by have := hwl.out; omega, hp2⟩
  case round =>
    clear hp2
    obtain ⟨seen, next, ad, cp, rfl, hgn, hinv, hlt, hnl, hp⟩ := hrel
    cases next with
    | nil =>
      have hd := fun x => (hinv.done x).trans (war_rch (edge ls) 16 (fun i j hij => hok.out.lt i j (by simpa [edge] using hij)) who x).symm
      have hfin : bools seen = F := by
        rw [hF.out]
        exact bools_ext fun x _ => by rw [Bool.eq_iff_iff]; exact hd x
      rw [hfin] at hp
      have hb1 := hp.box (i := 1) rfl
      have hb0 := hp.box (i := 2) rfl
      have hbe := hp.bel
      have h0s := bools_size fun _ => false
      generalize (bools fun _ => false) = Z at *
      have n0 : ¬ (0 : Int) < ((0 : Nat) : Int) := by omega
      replace hp := Lib.hid hp; replace hb1 := Lib.hid hb1; replace hb0 := Lib.hid hb0; replace hbe := Lib.hid hbe; replace h0s := Lib.hid h0s
      clear hinv hlt hnl hgn hd hfin
      simp only [List.length_nil]
      have hi16 : (Try.prog.info? 99).map (·.size) = some 16 := by kernel_rfl
      have hres := setRow_heap wr w.heap.size Z F 99 (0, 0) hb0.out
      replace hi16 := Lib.hid hi16; replace hres := Lib.hid hres
      go_wp2_with (first | (refine wpList_load_row rfl 99 (.tmp 5) rfl (w.heap.size + 1) rfl 99 F (0, 0) _ hb1.out Try.underlying99 rfl (by rw [hs.out]; exact hi16.out) ?_) | (refine wpList_store_row rfl 99 (.tmp 4) (.tmp 33) rfl w.heap.size F rfl rfl 99 Z hb0.out (by rw [hs.out]; exact hi16.out) (by rw [h0s.out, hs.out]) hF1.out ?_))
      exact bodyPost_ret (v := .agg F) (results_cell_row rfl _ _ w.heap.size 99 F (0, 0) _ rfl hres.out Try.underlying99 rfl (by rw [hs.out]; exact hi16.out)) rfl ⟨rfl, belowRow hbe.out (Nat.le_refl _) F⟩
    | cons o rest =>
      obtain ⟨K, hK⟩ : ∃ K, K = 17 * unseen seen + rest.length := ⟨_, rfl⟩
      have hlo : o < 16 := hlt o (by simp)
      obtain ⟨b, off, c, hv, hc1, hc2, hcell, hrest⟩ := hp.tailHead (i := 0) (x := .int .i64 (o : Int)) (xs := nums rest) (n := rest.length) rfl
      simp only [Value.slice.injEq] at hv
      obtain ⟨rfl, _, rfl⟩ := hv
      have d0 := hp.cell (i := 1) rfl o
      rw [bools_at _ hlo] at d0
      have o1 : (0 : Int) ≤ (o : Int) := by omega
      have o2 : (o : Int) < 16 := by omega
      have o3 : (0 : Int) < ((rest.length + 1 : Nat) : Int) := by omega
      obtain ⟨vo, co, fo, hso⟩ := (h.out.below hp.bel).at hlo
      have f0 := hp.free (i := 1) rfl o
      replace hp := Lib.hid hp; replace hrest := Lib.hid hrest
      cases hse : seen o with
      | true =>
        rw [hse] at d0
        have hinv2 := hinv.skip hse
        replace hinv2 := Lib.hid hinv2; replace hgn := Lib.hid hgn; replace hK := Lib.hid hK; replace hlt := Lib.hid hlt; replace hnl := Lib.hid hnl
        clear hinv hso co fo
        by_cases hc0 : c = 0
        · subst hc0
          obtain rfl : rest = [] := List.length_eq_zero_iff.1 (by omega)
          go_wp2
          have hp3 := Lib.hid (hrest.out off (by simp))
          go_roundg K
          case measure => have := hgn.out; have := hK.out; simp at *; omega
          case rel => exact ⟨seen, [], some ⟨b, off, none⟩, 0, rfl, hK.out, hinv2.out, (by intro x hx; simp at hx), by have := hnl.out; simp at *; omega, hp3.out⟩
        · go_wp2
          have hp3 := Lib.hid (hrest.out (off + 1) (.inl rfl))
          go_roundg K
          case measure => have := hgn.out; have := hK.out; simp at *; omega
          case rel => exact ⟨seen, rest, some ⟨b, off + 1, none⟩, c, rfl, hK.out, hinv2.out, fun x hx => hlt.out x (by simp [hx]), by have := hnl.out; simp at *; omega, hp3.out⟩
      | false =>
        rw [hse] at d0
        have hinv2 := hinv.take
        have hun := unseen_less seen hlo hse
        have hol := hok.out.len o
        replace hinv2 := Lib.hid hinv2; replace hgn := Lib.hid hgn; replace hK := Lib.hid hK; replace hlt := Lib.hid hlt; replace hnl := Lib.hid hnl; replace hun := Lib.hid hun; replace hol := Lib.hid hol
        clear hinv hso co fo
        have hmid : ∀ o', (o' = off + 1 ∨ (o' = off ∧ c = 0)) → Hp w [] [tl 3 (.slice (some ⟨b, o', none⟩) rest.length c) rest.length (nums rest), .box (w.heap.size + 1) (bools fun x => if x = o then true else seen x) 99, .box w.heap.size (bools fun _ => false) 99] (wr.setCell ⟨w.heap.size + 1, o, none⟩ (.bool true)) := fun o' ho' => by
          have := (hrest.out o' ho').put (i := 1) rfl o (.bool true)
          rw [bools_set seen hlo] at this
          exact this
        obtain ⟨seen2, hseen2⟩ : ∃ s2, s2 = fun x => if x = o then true else seen x := ⟨_, rfl⟩
        rw [← hseen2] at hinv2 hun hmid
        replace hmid := Lib.hid hmid
        clear hseen2
        have hend : ∀ o', (o' = off + 1 ∨ (o' = off ∧ c = 0)) → True := fun _ _ => trivial
        clear hend
        have hcase : (c = 0 ∧ rest = []) ∨ (c ≠ 0) := by
          by_cases hc0 : c = 0
          · exact .inl ⟨hc0, List.length_eq_zero_iff.1 (by omega)⟩
          · exact .inr hc0
        rcases hcase with ⟨rfl, rfl⟩ | hc0
        · have hp3 := Lib.hid (hmid.out off (by simp))
          go_upto_region 8 with fail
          generalize wr.setCell _ _ = W at hp3 ⊢
          clear d0 f0 hcell
          obtain ⟨vo, co, _, hso⟩ := (h.out.below hp3.out.bel).at hlo
          obtain ⟨a0, c0, rfl, _, _⟩ := id hso
          replace hso := Lib.hid hso
          go_wp2_with (at_builtin; go_loud (refine wpList_append_tail rfl _ _ rfl Try.underlying56 intsInfo rfl (by decide) hp3.out 0 rfl rfl rfl hso.out.sl (nums_len _) (nums_one _) (by have := hol.out; simp; omega) ?_; intro v4 W4 hp4; have hq := Lib.hid hp4; clear hp4))
          obtain ⟨fp4, ht4⟩ := hq.out.tail (i := 0) rfl
          obtain ⟨a4, c4, rfl, _⟩ := ht4.shape
          clear ht4
          go_roundg (17 * unseen seen2 + (ls o).length)
          case measure => have := hgn.out; have := hun.out; have := hol.out; simp at *; omega
          case rel => exact ⟨seen2, ls o, a4, c4, by simp, rfl, by simpa using hinv2.out, hok.out.lt o, by have := hnl.out; have := hun.out; have := hol.out; simp at *; omega, by simpa [nums] using hq.out⟩
        · have hp3 := Lib.hid (hmid.out (off + 1) (.inl rfl))
          go_upto_region 8 with fail
          generalize wr.setCell _ _ = W at hp3 ⊢
          clear d0 f0 hcell
          obtain ⟨vo, co, _, hso⟩ := (h.out.below hp3.out.bel).at hlo
          obtain ⟨a0, c0, rfl, _, _⟩ := id hso
          replace hso := Lib.hid hso
          go_wp2_with (at_builtin; go_loud (refine wpList_append_tail rfl _ _ rfl Try.underlying56 intsInfo rfl (by decide) hp3.out 0 rfl rfl rfl hso.out.sl (nums_len _) (nums_one _) (by have := hol.out; have := hnl.out; simp at *; omega) ?_; intro v4 W4 hp4; have hq := Lib.hid hp4; clear hp4))
          obtain ⟨fp4, ht4⟩ := hq.out.tail (i := 0) rfl
          obtain ⟨a4, c4, rfl, _⟩ := ht4.shape
          clear ht4
          have hnapp : nums rest ++ nums (ls o) = nums (rest ++ ls o) := by simp [nums]
          have hlapp : rest.length + (ls o).length = (rest ++ ls o).length := by simp
          replace hnapp := Lib.hid hnapp; replace hlapp := Lib.hid hlapp
          go_roundg (17 * unseen seen2 + (rest ++ ls o).length)
          case measure => have := hgn.out; have := hun.out; have := hol.out; have := hlapp.out; simp at *; omega
          case rel => exact ⟨seen2, rest ++ ls o, a4, c4, by rw [← hlapp.out], rfl, hinv2.out, fun x hx => by
            rcases List.mem_append.1 hx with hx | hx
            · exact hlt.out x (by simp [hx])
            · exact hok.out.lt o x hx, by have := hnl.out; have := hun.out; have := hol.out; simp at *; omega, by rw [← hnapp.out, ← hlapp.out]; exact hq.out⟩
end Go.Proofs.Ytmlphodmbkceoab.wait
