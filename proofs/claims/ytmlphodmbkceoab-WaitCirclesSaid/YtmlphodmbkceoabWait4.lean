/- Who waits for whom: Set. No condition but the graph's own, and the list's cells. -/
import Derived.Test.YtmlphodmbkceoabWait3
namespace Go.Proofs.Ytmlphodmbkceoab.wait
open Go.RowKit
open Go.Sort
attribute [local go_sem ↓] Go.wp_at_zero Go.wp_at_succ
set_option linter.unusedVariables false
set_option maxRecDepth 100000

theorem hp_fresh {w W : World} {rs : List Rs} {i : Nat} {e : TypeId} {size n : Nat} {v : Value} {xs : List Value} (h : Hp w [] rs W) (hi : rs[i]? = some (.row e size v n xs)) {q : Nat} (hq : v.ownBlock = some q) : w.heap.size ≤ q := by
  obtain ⟨fps, h1, _, h3, _⟩ := h
  obtain ⟨fp, hf, hr⟩ := h1.get hi
  have : q ∈ fps.flatten := List.mem_flatten.2 ⟨fp, List.mem_of_getElem? hf, by rw [hr.2, hq]; simp⟩
  rcases (h3 q this).2 with h4 | h4
  · simp at h4
  · exact h4
theorem row_gsl {w W : World} {rs : List Rs} {i g : Nat} {e : TypeId} {v : Value} {l : List Nat} (h : Hp w [] rs W) (hi : rs[i]? = some (.row e 1 v l.length (nums l))) (hg : g < w.heap.size) (hl : l.length ≤ 1000000) : GSl W g v l := by
  have hf := fun q hq => hp_fresh h hi (q := q) hq
  have hr := h.row hi
  rcases hr.2 with ⟨rfl, h0⟩ | ⟨q, cap, cur, rfl, _, hq, h1, h2, h3, h4⟩
  · exact ⟨none, 0, by rw [h0], hl, .inl (List.length_eq_zero_iff.1 h0)⟩
  · refine ⟨_, cap, rfl, hl, .inr ⟨q, 0, rfl, ?_, block_lt hq, fun j u hu => ?_⟩⟩
    · have := hf q rfl; omega
    · have := World.ownsRow.cells hr (g := q) rfl j u hu
      rwa [addr_add] at this
set_option maxHeartbeats 4000000 in
theorem set_any {w : World} {g : Nat} {ls : Nat → List Nat} (h : GAt w g ls) (who : Nat) (hw : who < 16) (v : Value) (zs : List Int) (hz : Sl w v zs.length (zs.map (Value.int .i64))) (hzn : zs.length * 8 ≤ 140737488355328) :
    Calls Try.prog 31 #[.pointer (some ⟨g, 0, none⟩), .int .i64 (who : Int), v] w fun e w' => e = .returned (.tuple #[]) ∧ GAt w' g (fun k => if k = who then setL who zs else ls k) ∧ Keeps [g] w w' := by
  obtain ⟨a, cap, rfl, hm, hc⟩ := hz
  obtain ⟨n, hn⟩ : ∃ n, n = zs.length := ⟨_, rfl⟩
  rw [← hn] at hm hc ⊢
  have hss := session_yes (who : Int) ⟨by omega, by omega⟩
  have hsa := fun z W => session_any z W
  have hp := (Hp.none_ w []).rowNil 3 1
  have e1 : (0 : Int) ≤ (who : Int) := by omega
  have e2 : (who : Int) < 16 := by omega
  have hgl := h.lt
  replace h := Lib.hid h; replace hss := Lib.hid hss; replace hsa := Lib.hid hsa; replace hp := Lib.hid hp; replace hc := Lib.hid hc; replace hn := Lib.hid hn; replace hzn := Lib.hid hzn; replace hgl := Lib.hid hgl; replace hw := Lib.hid hw
  go_enter Try.func31, Try.ntmps31
  go_wp2_with (go_at_call 41; (with_reducible refine (hss.out _).mono ?_); rintro e w1 ⟨rfl, rfl⟩)
  go_loopg [6, 18] n (fun gn v6 s18 wr => ∃ k : Nat, s18 = .int .i64 (k : Int) ∧ k + gn = n ∧ Hp w [] [.row 3 1 v6 (pick who (zs.take k)).length ((pick who (zs.take k)).map (Value.int .i64))] wr)
  case atStart => exact ⟨0, rfl, by omega, hp.out⟩
  case round =>
    clear hp
    obtain ⟨k, rfl, hkn, hp⟩ := hrel
    by_cases hk : k < n
    · obtain ⟨K, rfl⟩ : ∃ K : Nat, gk = K + 1 := ⟨gk - 1, by omega⟩
      obtain ⟨b, o, rfl, hr⟩ := hc.out.resolve_left (by omega)
      obtain ⟨z, hz⟩ : ∃ z, zs[k]? = some z := ⟨_, List.getElem?_eq_getElem (by have := hn.out; omega)⟩
      have d0 : wr.cell? ⟨b, o + k, none⟩ = some (.int .i64 z) := (hp.bel.cell hr.1).trans (hr.2 k (Value.int .i64 z) (by simp [hz]))
      have hpt := pick_take (who := who) hz
      have e3 : (0 : Int) ≤ (k : Int) := by omega
      have e4 : (k : Int) < (n : Int) := by omega
      have hfl : (pick who (zs.take k)).length < n := by
        have h1 := List.length_filter_le (okZ who) (zs.take k)
        have h2 : (zs.take k).length ≤ k := List.length_take_le _ _
        unfold pick; omega
      have hss2 := session_any z
      obtain ⟨t, ht⟩ : ∃ t, decide (0 ≤ z ∧ z < 16) = t := ⟨_, rfl⟩
      obtain ⟨u, hu⟩ : ∃ u, (z == (who : Int)) = u := ⟨_, rfl⟩
      have hu2 : (z != (who : Int)) = !u := by rw [← hu]; rfl
      have hok : okZ who z = (t && !u) := by unfold okZ; rw [ht, hu]
      rw [ht] at hss2
      rw [hok] at hpt
      have k3 : IntKind.i64.wrap ((k : Int) + 1) = (k : Int) + 1 := by have := hzn.out; have := hn.out; rw [IntKind.wrap_i64]; omega
      generalize pick who (zs.take k) = P at *
      replace hp := Lib.hid hp; replace hss2 := Lib.hid hss2; replace hpt := Lib.hid hpt; replace hfl := Lib.hid hfl; replace hkn := Lib.hid hkn
      clear hr hz ht hok hk
      cases t with
      | false =>
        go_wp2_with (go_at_call 41; (with_reducible refine (hss2.out _).mono ?_); rintro e w1 ⟨rfl, rfl⟩)
        go_roundg K
        case measure => have := hkn.out; omega
        case rel => exact ⟨k + 1, by go_num, by have := hkn.out; omega, by have := hpt.out; simp at this; rw [this]; exact hp.out⟩
      | true =>
        cases u with
        | true =>
          go_wp2_with (go_at_call 41; (with_reducible refine (hss2.out _).mono ?_); rintro e w1 ⟨rfl, rfl⟩)
          go_roundg K
          case measure => have := hkn.out; omega
          case rel => exact ⟨k + 1, by go_num, by have := hkn.out; omega, by have := hpt.out; simp at this; rw [this]; exact hp.out⟩
        | false =>
          go_wp2_with (first
            | (go_at_call 41; (with_reducible refine (hss2.out _).mono ?_); rintro e w1 ⟨rfl, rfl⟩)
            | (at_builtin; go_loud (refine wpList_append_hpw rfl _ _ rfl Try.underlying56 intsInfo rfl (by decide) (hp.out.alloc_ (.cells #[.int .i64 z] 3)) 0 rfl rfl _ _ [.int .i64 z] rfl rfl (block_cells (heap_alloc_new _ _)) (by intro u hu; simp at hu; subst hu; rfl) (by have := hfl.out; have := hzn.out; have := hn.out; omega) (by have := hfl.out; have := hzn.out; have := hn.out; omega) ?_; intro v5 w5 hp5 hv5; have hq5 := Lib.hid hp5; clear hp5; obtain ⟨b5, cp5, rfl⟩ := hv5)))
          go_roundg K
          case measure => have := hkn.out; omega
          case rel => exact ⟨k + 1, by go_num, by have := hkn.out; omega, by have := hpt.out; simp at this; rw [this]; simpa using hq5.out⟩
    · have hk0 : gk = 0 := by omega
      subst hk0
      obtain rfl : k = n := by omega
      have k1 : ¬ (k : Int) < (k : Int) := by omega
      rw [List.take_of_length_le (by have := hn.out; omega)] at hp
      have hfl : (pick who zs).length ≤ 100000000000000 := by
        have h1 := List.length_filter_le (okZ who) zs
        have := hzn.out; have := hn.out
        unfold pick; omega
      have hso := sort_row hp hfl
      have hml : ((pick who zs).mergeSort fun x y => decide (x ≤ y)).length = (pick who zs).length := List.length_mergeSort _
      have hco : ∀ W, Hp w [] [.row 3 1 u6 (pick who zs).length (((pick who zs).mergeSort fun x y => decide (x ≤ y)).map (Value.int .i64))] W → Calls Try.prog 43 #[u6] W fun e w' => ∃ v', e = .returned v' ∧ Hp w [] [.row 3 1 v' (setL who zs).length (nums (setL who zs))] w' := by
        intro W hW
        have hl : (setL who zs).length = (Lib.compact ((pick who zs).mergeSort fun x y => decide (x ≤ y))).length := by unfold setL sortZ; rw [List.length_map]
        rw [setL_cells, hl]
        rw [← hml] at hW
        exact compact_row hW (by omega)
      have hlen := setL_len who zs
      replace hp := Lib.hid hp; replace hso := Lib.hid hso; replace hco := Lib.hid hco; replace hlen := Lib.hid hlen
      clear hfl hml hk hkn
      go_upto_region 9 with (go_at_call 42; (with_reducible refine hso.out.mono ?_); rintro e w1 ⟨rfl, h1⟩; replace h1 := Lib.hid h1)
      have hG1 := h.out.below h1.out.bel
      obtain ⟨v0, c0, f0, _⟩ := hG1.at hw.out
      clear hG1
      go_region_with (go_at_call 43; (first | (with_reducible refine (hco.out _ h1.out.drew).mono ?_) | (with_reducible refine (hco.out _ h1.out).mono ?_)); rintro e w2 ⟨v', rfl, h2⟩; obtain ⟨ad2, cp2, rfl⟩ := rowShape (h2.row (i := 0) rfl); replace h2 := Lib.hid h2; have hG2 := Lib.hid (h.out.below h2.out.bel); obtain ⟨v2, c2, f2, _⟩ := hG2.out.at hw.out)
      all_goals
        go_wp2
        go_returns
        exact ⟨rfl, hG2.out.put hw.out (row_gsl h2.out (i := 0) rfl hgl.out (by have := hlen.out; omega)), (Keeps.ofBelow h2.out.bel [g]).setCell (p := ⟨g, who, none⟩) (Or.inl (by simp)) _⟩
end Go.Proofs.Ytmlphodmbkceoab.wait
