/- Who waits for whom (package wait): the graph in memory; session, For, New. No condition but the graph's own. -/
import Derived.Test.YtmlphodmbkceoabTail
import Derived.Test.YtmlphodmbkceoabWaitM
import Derived.Test.YtmlphodmbkceoabShelf
import Derived.Deep.DeepCutAuto
namespace Go.Proofs.Ytmlphodmbkceoab.wait
open Go.RowKit
attribute [local go_sem ↓] Go.wp_at_zero Go.wp_at_succ
set_option linter.unusedVariables false
set_option maxRecDepth 100000

def nums (l : List Nat) : List Value := l.map fun (n : Nat) => Value.int .i64 (n : Int)
theorem nums_len (l : List Nat) : (nums l).length = l.length := by simp [nums]
theorem nums_one (l : List Nat) : ∀ u ∈ nums l, u.oneCell' = true := fun u hu => by
  obtain ⟨s, _, rfl⟩ := List.mem_map.1 hu
  rfl
/-- one of a graph's lists, apart from the graph's own block -/
def GSl (W : World) (g : Nat) (v : Value) (l : List Nat) : Prop := ∃ a cap, v = .slice a l.length cap ∧ l.length ≤ 1000000 ∧ (l = [] ∨ ∃ b o, a = some ⟨b, o, none⟩ ∧ b ≠ g ∧ RowAt W b o (nums l))
theorem GSl.sl {W : World} {g : Nat} {v : Value} {l : List Nat} (h : GSl W g v l) : Sl W v l.length (nums l) := by
  obtain ⟨a, cap, rfl, h1, h2⟩ := h
  refine ⟨a, cap, rfl, by omega, ?_⟩
  rcases h2 with rfl | ⟨b, o, ha, _, hr⟩
  · exact .inl rfl
  · exact .inr ⟨b, o, ha, hr⟩
theorem GSl.keep {W W' : World} {g : Nat} {v : Value} {l : List Nat} (h : GSl W g v l) (k : Keeps [g] W W') : GSl W' g v l := by
  obtain ⟨a, cap, rfl, h1, h2⟩ := h
  refine ⟨a, cap, rfl, h1, ?_⟩
  rcases h2 with rfl | ⟨b, o, ha, hb, hr⟩
  · exact .inl rfl
  · exact .inr ⟨b, o, ha, hb, hr.keep k (by simpa using hb)⟩
/-- the graph at block g: for whom each waits -/
def GAt (W : World) (g : Nat) (ls : Nat → List Nat) : Prop := ∃ vals : Array Value, W.heap[g]? = some (.cells vals 96 (0, 0)) ∧ vals.size = 16 ∧ ∀ i, i < 16 → ∃ v, vals[i]? = some v ∧ GSl W g v (ls i)
theorem GAt.below {W W' : World} {g : Nat} {ls : Nat → List Nat} (h : GAt W g ls) (k : Below W.heap.size W W') : GAt W' g ls := by
  obtain ⟨vals, h1, h2, h3⟩ := h
  refine ⟨vals, (k.block g (block_lt h1)).trans h1, h2, fun i hi => ?_⟩
  obtain ⟨v, hv, hs⟩ := h3 i hi
  exact ⟨v, hv, hs.keep (Keeps.ofBelow k [g])⟩
theorem GAt.drew {W : World} {g : Nat} {ls : Nat → List Nat} (h : GAt W g ls) : GAt W.drew g ls := h.below (Below.refl _ _).drew
theorem GAt.lt {W : World} {g : Nat} {ls : Nat → List Nat} (h : GAt W g ls) : g < W.heap.size := by
  obtain ⟨vals, h1, _⟩ := h
  exact block_lt h1
theorem GAt.at {W : World} {g : Nat} {ls : Nat → List Nat} (h : GAt W g ls) {i : Nat} (hi : i < 16) : ∃ v, W.cell? ⟨g, i, none⟩ = some v ∧ W.frozen? ⟨g, i, none⟩ = false ∧ GSl W g v (ls i) := by
  obtain ⟨vals, h1, h2, h3⟩ := h
  obtain ⟨v, hv, hs⟩ := h3 i hi
  exact ⟨v, (cell_of_row W g i vals _ _ h1).trans hv, by simp [World.frozen?, h1], hs⟩
/-- a list is laid anew -/
theorem GAt.put {W : World} {g : Nat} {ls : Nat → List Nat} (h : GAt W g ls) {i : Nat} (hi : i < 16) {v : Value} {l : List Nat} (hv : GSl W g v l) : GAt (W.setCell ⟨g, i, none⟩ v) g (fun k => if k = i then l else ls k) := by
  obtain ⟨vals, h1, h2, h3⟩ := h
  have kk : Keeps [g] W (W.setCell ⟨g, i, none⟩ v) := (Keeps.refl _ W).setCell (p := ⟨g, i, none⟩) (Or.inl (by simp)) v
  refine ⟨vals.setIfInBounds i v, heap_setCell_same W g i vals _ v h1, by simpa using h2, fun k hk => ?_⟩
  by_cases hki : k = i
  · subst hki
    refine ⟨v, by simp [h2, hk], ?_⟩
    show GSl _ g v (if k = k then l else ls k)
    rw [if_pos rfl]; exact hv.keep kk
  · obtain ⟨u, hu, hs⟩ := h3 k hk
    refine ⟨u, by rw [Array.getElem?_setIfInBounds_ne (by omega)]; exact hu, ?_⟩
    show GSl _ g u (if k = i then l else ls k)
    rw [if_neg hki]; exact hs.keep kk
theorem hp_row {w w' : World} {e : TypeId} {size n : Nat} {v : Value} {xs : List Value} (h : w'.ownsRow w.heap.size e size v n xs) (k : Below w.heap.size w w') : Hp w [] [.row e size v n xs] w' := by
  have h0 : w'.ownsRow 0 e size v n xs := by
    rcases h.2 with h2 | ⟨g, cap, cur, hv, _, h3⟩
    · exact ⟨h.1, .inl h2⟩
    · exact ⟨h.1, .inr ⟨g, cap, cur, hv, Nat.zero_le _, h3⟩⟩
  refine (Hp.none_ w []).new (fp' := v.ownBlock.toList) _ ⟨h0, rfl⟩ (by cases v.ownBlock <;> simp) k ?_
  intro b hb
  rcases h.2 with ⟨rfl, _⟩ | ⟨g, cap, cur, rfl, hge, hg, _⟩
  · simp [Value.ownBlock] at hb
  · simp [Value.ownBlock] at hb; subst hb; exact ⟨block_lt hg, hge⟩
theorem session_any (n : Int) (w : World) : Calls Try.prog 41 #[.int .i64 n] w fun e w' => e = .returned (.bool (decide (0 ≤ n ∧ n < 16))) ∧ w = w' := by
  by_cases h1 : 0 ≤ n
  · by_cases h2 : n < 16
    · rw [decide_eq_true (p := 0 ≤ n ∧ n < 16) ⟨h1, h2⟩]
      go_enter Try.func41, Try.ntmps41
      go_wp2
      go_ret
      exact ⟨rfl, rfl⟩
    · rw [decide_eq_false (p := 0 ≤ n ∧ n < 16) (by omega)]
      go_enter Try.func41, Try.ntmps41
      go_wp2
      go_ret
      exact ⟨rfl, rfl⟩
  · rw [decide_eq_false (p := 0 ≤ n ∧ n < 16) (by omega)]
    go_enter Try.func41, Try.ntmps41
    go_wp2
    go_ret
    exact ⟨rfl, rfl⟩
theorem session_yes (n : Int) (h : 0 ≤ n ∧ n < 16) (w : World) : Calls Try.prog 41 #[.int .i64 n] w fun e w' => e = .returned (.bool true) ∧ w = w' := by
  have := session_any n w; rwa [decide_eq_true (p := 0 ≤ n ∧ n < 16) h] at this
theorem session_no (n : Int) (h : ¬ (0 ≤ n ∧ n < 16)) (w : World) : Calls Try.prog 41 #[.int .i64 n] w fun e w' => e = .returned (.bool false) ∧ w = w' := by
  have := session_any n w; rwa [decide_eq_false (p := 0 ≤ n ∧ n < 16) h] at this
theorem new_any (w : World) : Calls Try.prog 29 #[] w fun e w' => e = .returned (.pointer (some ⟨w.heap.size, 0, none⟩)) ∧ GAt w' w.heap.size (fun _ => []) ∧ Below w.heap.size w w' := by
  go_enter Try.func29, Try.ntmps29
  go_wp2
  go_ret
  refine ⟨rfl, ⟨_, heap_alloc_new w _, rfl, fun i hi => ?_⟩, (Below.refl _ _).alloc (Nat.le_refl _) _⟩
  refine ⟨.slice none 0 0, ?_, none, 0, rfl, by simp, .inl rfl⟩
  match i, hi with
  | 0, _ | 1, _ | 2, _ | 3, _ | 4, _ | 5, _ | 6, _ | 7, _ | 8, _ | 9, _ | 10, _ | 11, _ | 12, _ | 13, _ | 14, _ | 15, _ => rfl
  | n + 16, h => omega
/-- slices.Clone of a list -/
theorem clone_any {W : World} {v : Value} {l : List Nat} (hs : Sl W v l.length (nums l)) (hl : l.length ≤ 1000000) : Calls Try.prog 45 #[v] W fun e w' => ∃ v', e = .returned v' ∧ Hp W [] [.row 3 1 v' l.length (nums l)] w' := by
  obtain ⟨a, cap, rfl, hm, hc⟩ := hs
  rcases a with _ | ⟨b, o, sp⟩
  · have h0 : l = [] := by
      rcases hc with h0 | ⟨b, o, hb, _⟩
      · exact List.length_eq_zero_iff.1 h0
      · cases hb
    subst h0
    exact (Try.slices_Clone_int_nil _ cap W).mono fun e w' ⟨he, hw⟩ => ⟨_, he, by subst hw; exact (Hp.none_ w' []).rowNil 3 1⟩
  · by_cases h0 : l = []
    · subst h0
      exact (Try.slices_Clone_int_zero ⟨b, o, sp⟩ cap W).mono fun e w' ⟨v', he, hr, _, hb⟩ => ⟨v', he, hp_row (n := 0) (xs := []) hr hb⟩
    · obtain ⟨b', o', he, hr⟩ := hc.resolve_left (fun h => h0 (List.length_eq_zero_iff.1 h))
      injection he with he
      injection he with h1 h2 h3
      subst h1; subst h2; subst h3
      refine (Try.slices_Clone_int b o l.length cap (l.map fun (n : Nat) => (n : Int)) W (by simp) (by omega) (fun j hj => ?_)).mono fun e w' ⟨v', he, hr2, _, hb⟩ => ⟨v', he, hp_row (by rw [List.take_of_length_le (by simp), List.map_map] at hr2; exact hr2) hb⟩
      have hj2 : j < l.length := by simpa using hj
      have := hr.2 j (Value.int .i64 (l[j] : Int)) (by simp [nums, hj2])
      rw [this]; simp [hj2]
theorem for_any {W : World} {g : Nat} {ls : Nat → List Nat} (h : GAt W g ls) (who : Nat) (hw : who < 16) : Calls Try.prog 34 #[.pointer (some ⟨g, 0, none⟩), .int .i64 (who : Int)] W fun e w' => ∃ v', e = .returned v' ∧ Hp W [] [.row 3 1 v' (ls who).length (nums (ls who))] w' := by
  obtain ⟨v, hv, _, hs⟩ := h.at hw
  have hc := clone_any hs.sl (by obtain ⟨_, _, _, h1, _⟩ := hs; omega)
  have hss := session_yes (who : Int) ⟨by omega, by omega⟩
  have e1 : (0 : Int) ≤ (who : Int) := by omega
  have e2 : (who : Int) < 16 := by omega
  replace hc := Lib.hid hc; replace hss := Lib.hid hss
  clear h hs
  go_enter Try.func34, Try.ntmps34
  go_wp2_with (first
    | (go_at_call 41; (with_reducible refine (hss.out _).mono ?_); rintro e w1 ⟨rfl, rfl⟩)
    | (go_at_call 45; (with_reducible refine hc.out.mono ?_); rintro e w1 ⟨v', rfl, h1⟩))
  go_ret
  exact ⟨_, rfl, h1⟩
theorem for_out (p : Option Addr) (who : Int) (hw : p = none ∨ ¬ (0 ≤ who ∧ who < 16)) (W : World) : Calls Try.prog 34 #[.pointer p, .int .i64 who] W fun e w' => e = .returned (.slice none 0 0) ∧ W = w' := by
  rcases p with _ | p
  · go_enter Try.func34, Try.ntmps34
    go_wp2
    go_ret
    exact ⟨rfl, rfl⟩
  · have hss := session_no who (hw.resolve_left (by simp))
    replace hss := Lib.hid hss
    clear hw
    go_enter Try.func34, Try.ntmps34
    go_wp2_with (go_at_call 41; (with_reducible refine (hss.out _).mono ?_); rintro e w1 ⟨rfl, rfl⟩)
    go_ret
    exact ⟨rfl, rfl⟩
end Go.Proofs.Ytmlphodmbkceoab.wait
