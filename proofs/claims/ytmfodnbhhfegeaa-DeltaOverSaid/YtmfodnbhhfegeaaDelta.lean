/- Changes in memory; where the first one from a key on stands (sort.Search with the closure of place). No condition but the rising keys. -/
import Derived.Test.YtmfodnbhhfegeaaDelM
import Derived.Test.YtmfodnbhhfegeaaRowSet
import Derived.Deep.QuietTactic
import Derived.BigQuiet
namespace Go.Proofs.Ytmfodnbhhfegeaa.delta
open Go.RowKit
attribute [local go_sem ↓] Go.wp_at_zero Go.wp_at_succ
set_option linter.unusedVariables false
set_option maxRecDepth 100000

theorem hmf (fn : Fn) (first cap : Array Value) (w : World) : (Instr.makeFunc fn first cap).run Try.prog w = .ok (.func fn first cap) w := rfl
theorem place1_any (gd gk d : Nat) (key : ByteArray) (v : Value) (l : List Ch) (i : Nat) (w : World) (hgd : w.heap[gd]? = some (.cells #[.pointer (some ⟨d, 0, none⟩)] 90 (0, 0))) (hgk : w.heap[gk]? = some (.cells #[.string key] 9 (0, 0)))
    (hd : w.heap[d]? = some (.cells #[v] 144 (0, 0))) (hs : Sl w v l.length (chC l)) (x : Ch) (hx : l[i]? = some x) (hn : l.length ≤ 100000) :
    Calls Try.prog 112 #[.int .i64 (i : Int), .pointer (some ⟨gd, 0, none⟩), .pointer (some ⟨gk, 0, none⟩)] w fun e w' => e = .returned (.bool (!(lt x.k key))) ∧ Below w.heap.size w w' := by
  obtain ⟨a, cp, rfl, hmax, hs⟩ := hs
  have hil := (List.getElem?_eq_some_iff.1 hx).1
  obtain ⟨b, o, rfl, hr⟩ := hs.resolve_left (by omega)
  have c0 : w.cell? ⟨gd, 0, none⟩ = some (.pointer (some ⟨d, 0, none⟩)) := cell_of_row _ _ 0 _ _ _ hgd
  have c1 : w.cell? ⟨gk, 0, none⟩ = some (.string key) := cell_of_row _ _ 0 _ _ _ hgk
  obtain ⟨n, hln⟩ : ∃ n, n = l.length := ⟨_, rfl⟩
  rw [← hln] at hd hil hn hmax
  have c2 : w.cell? ⟨d, 0, none⟩ = some (.slice (some ⟨b, o, none⟩) n cp) := cell_of_row _ _ 0 _ _ _ hd
  have c3 : w.cell? ⟨b, o + i * 3, none⟩ = some (.string x.k) := hr.elem0 Ch.c_len hx rfl
  have e1 : (0 : Int) ≤ (i : Int) := by omega
  have e2 : (i : Int) < (n : Int) := by omega
  clear hgd hgk hd hr hx hmax hln hil hs
  obtain ⟨B, hB⟩ : ∃ B, B = lt x.k key := ⟨_, rfl⟩
  have hB1 : Op.bytesLess x.k.toList key.toList = B := hB.symm
  rw [← hB]
  clear hB
  go_enter Try.func112, Try.ntmps112
  go_wp2
  go_quiet (fail)
  go_wp2
  go_ret
  exact ⟨rfl, belowDrewN (Below.refl _ _) _⟩
theorem search_any (kf : Nat) (cap : Array Value) (n p : Nat) (hp : p ≤ n) (hn : n ≤ 100000) (w : World) (hcf : ∀ (args : Array Value) (W : World), (callFunc kf args).run Try.prog W = .ok (.enter kf args) W)
    (hc : ∀ (i : Nat) (W : World), i < n → Below w.heap.size w W → Calls Try.prog kf (#[.int .i64 (i : Int)] ++ cap) W fun e w' => e = .returned (.bool (decide (p ≤ i))) ∧ Below W.heap.size W w') :
    Calls Try.prog 111 #[.int .i64 (n : Int), .func (.func kf) #[] cap] w fun e w' => e = .returned (.int .i64 (p : Int)) ∧ Below w.heap.size w w' := by
  replace hc := Lib.hid hc
  go_enter Try.func111, Try.ntmps111
  go_wp2
  go_loopw [5, 6] (fun s5 s6 wr => ∃ i j : Nat, s5 = .int .i64 (i : Int) ∧ s6 = .int .i64 (j : Int) ∧ i ≤ p ∧ p ≤ j ∧ j ≤ n ∧ Below w.heap.size w wr) (fun s5 s6 _ => (intOf s6 - intOf s5).toNat)
  case atStart => exact ⟨0, n, rfl, rfl, by omega, hp, by omega, Below.refl _ _⟩
  case round =>
    obtain ⟨i, j, rfl, rfl, hi, hj, hjn, hb⟩ := hrel
    by_cases hlt : i < j
    · obtain ⟨m, hm⟩ : ∃ m, m = (i + j) / 2 := ⟨_, rfl⟩
      have hm1 : i ≤ m := by omega
      have hm2 : m < j := by omega
      have hcm := Lib.hid (hc.out m wr (by omega) hb)
      have w1 : IntKind.i64.wrap ((i : Int) + (j : Int)) = (i : Int) + (j : Int) := IntWalk.i64_in _ (by omega)
      have w2 : IntKind.u64.wrap ((i : Int) + (j : Int)) = (i : Int) + (j : Int) := by rw [IntKind.wrap_u64]; omega
      have w3 : ((i : Int) + (j : Int)) / 2 = (m : Int) := by omega
      have w4 : IntKind.u64.wrap (m : Int) = (m : Int) := by rw [IntKind.wrap_u64]; omega
      have w5 : IntKind.i64.wrap (m : Int) = (m : Int) := IntWalk.i64_in _ (by omega)
      replace hb := Lib.hid hb
      cases hq : decide (p ≤ m) with
      | true =>
        have hq := of_decide_eq_true hq
        clear hm
        go_wp2_with ((with_reducible refine (hcm.out).mono ?_); rintro e w6 ⟨rfl, b6⟩; replace hb := Lib.hid (belowCont hb.out b6); clear b6)
        go_roundw
        case rel => exact ⟨i, m, rfl, rfl, hi, hq, by omega, hb.out⟩
        case measure => simp [intOf]; omega
      | false =>
        have hq := of_decide_eq_false hq
        clear hm
        go_wp2_with ((with_reducible refine (hcm.out).mono ?_); rintro e w6 ⟨rfl, b6⟩; replace hb := Lib.hid (belowCont hb.out b6); clear b6)
        go_roundw
        case rel => exact ⟨m + 1, j, by go_num, rfl, by omega, hj, hjn, hb.out⟩
        case measure => simp [intOf]; omega
    · obtain rfl : i = j := by omega
      obtain rfl : i = p := by omega
      replace hb := Lib.hid hb
      go_wp2
      go_ret
      exact ⟨rfl, hb.out⟩
/-- place: of changes in the box d -/
theorem place_any (d : Nat) (key : ByteArray) (v : Value) (l : List Ch) (w : World) (hd : w.heap[d]? = some (.cells #[v] 144 (0, 0))) (hs : Sl w v l.length (chC l)) (hn : l.length ≤ 100000) (hsr : Srt l) :
    Calls Try.prog 97 #[.pointer (some ⟨d, 0, none⟩), .string key] w fun e w' => e = .returned (.int .i64 (pos key l : Int)) ∧ Below w.heap.size w w' := by
  have hp := ((Hp.none_ w []).alloc #[.pointer (some ⟨d, 0, none⟩)] 90).alloc #[.string key] 9
  have hsz : (w.alloc (.cells #[.pointer (some ⟨d, 0, none⟩)] 90)).heap.size = w.heap.size + 1 := by simp
  rw [hsz] at hp
  obtain ⟨W, hW⟩ : ∃ W, W = (w.alloc (.cells #[.pointer (some ⟨d, 0, none⟩)] 90)).alloc (.cells #[.string key] 9) := ⟨_, rfl⟩
  rw [← hW] at hp
  have hd2 : W.heap[d]? = some (.cells #[v] 144 (0, 0)) := (hp.bel.block _ (block_lt hd)).trans hd
  have hs2 := hs.below hp.bel
  obtain ⟨a, cp, hv, _, _⟩ := hs
  have c := search_any 112 #[.pointer (some ⟨w.heap.size, 0, none⟩), .pointer (some ⟨w.heap.size + 1, 0, none⟩)] l.length (pos key l) (pos_le key l) hn W (fun _ _ => rfl) (fun i X hi hb => by
    obtain ⟨x, hx⟩ : ∃ x, l[i]? = some x := ⟨_, List.getElem?_eq_getElem hi⟩
    have h1 := place1_any w.heap.size (w.heap.size + 1) d key v l i X ((hb.block _ (hp.lt (i := 1) rfl)).trans (hp.box (i := 1) rfl)) ((hb.block _ (hp.lt (i := 0) rfl)).trans (hp.box (i := 0) rfl)) ((hb.block _ (block_lt hd2)).trans hd2) (hs2.below hb) x hx hn
    rw [pos_iff key l hsr i x hx] at h1
    have e : (!decide (i < pos key l)) = decide (pos key l ≤ i) := by by_cases q : i < pos key l <;> simp [q] <;> omega
    rwa [e] at h1)
  have d0 : W.cell? ⟨d, 0, none⟩ = some v := cell_of_row _ _ 0 _ _ _ hd2
  have d1 := hp.cell (i := 1) rfl 0
  simp at d1
  have hmf1 := hmf
  obtain ⟨P, hP⟩ : ∃ P, P = pos key l := ⟨_, rfl⟩
  rw [← hP] at c ⊢
  subst hv
  rw [hW] at d0 d1
  rw [hW] at c hp
  obtain ⟨n, hln⟩ : ∃ n, n = l.length := ⟨_, rfl⟩
  rw [← hln] at d0 c hn
  replace c := Lib.hid c; replace hp := Lib.hid hp
  clear hsz hs2 hd2 hW hd hP hsr hln
  go_enter Try.func97, Try.ntmps97
  go_wp2_with (go_at_call 111; (with_reducible refine (c.out).mono ?_); rintro e w1 ⟨rfl, b1⟩; replace hp := Lib.hid (hp.out.below b1); clear b1)
  go_ret
  exact ⟨rfl, hp.out.bel⟩
end Go.Proofs.Ytmfodnbhhfegeaa.delta
