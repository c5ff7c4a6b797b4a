/- Delta's Range, All and Clone: rows of their own. No condition but the rising keys. -/
import Derived.Test.YtmfodnbhhfegeaaDelGet
import Derived.Test.YtmfodnbhhfegeaaApp
import Derived.Test.YtmfodnbhhfegeaaRegSeq
namespace Go.Proofs.Ytmfodnbhhfegeaa.delta
open Go.RowKit
attribute [local go_sem ↓] Go.wp_at_zero Go.wp_at_succ
set_option linter.unusedVariables false
set_option maxRecDepth 100000

theorem eql_nil {P : Program} (w : World) (t e : TypeId) (a : Option Addr) (l c : Nat) (h : P.underlying t = some (.slice e)) : (binOp .eql t (.slice a l c) (.slice none 0 0)).run P w = .ok (.bool a.isNone) w := by
  have := run_equal_slice_nil (w := w) t e a l c h
  simp [binOp, this]
def RowOf (w : World) (L : List Ch) (v : Value) (w' : World) : Prop := (∃ ad cp, v = .slice ad L.length cp) ∧ Hp w [] [.row 93 3 v L.length (chC L)] w'
theorem clone_any (v : Value) (L : List Ch) (w : World) (h : Sl w v L.length (chC L)) (hm : L.length ≤ 1000000) :
    Calls Try.prog 99 #[v] w fun e w' => ∃ v', e = .returned v' ∧ RowOf w L v' w' := by
  have hys := chC_len L
  have h1 := chC_one L
  unfold RowOf
  obtain ⟨ys, hye⟩ : ∃ ys, ys = chC L := ⟨_, rfl⟩
  obtain ⟨m, hme⟩ : ∃ m, m = L.length := ⟨_, rfl⟩
  rw [← hye] at h hys h1 ⊢
  rw [← hme] at h hys hm ⊢
  clear hye hme
  have h0 := h
  obtain ⟨ad, c, rfl, hmx, hc⟩ := h
  cases ad with
  | none =>
    obtain rfl : m = 0 := by rcases hc with hc | ⟨b, o, hc, _⟩; exact hc; cases hc
    have hy0 : ys = [] := List.length_eq_zero_iff.1 (by simpa using hys)
    subst hy0
    have hp := Lib.hid ((Hp.none_ w []).rowNil 93 3)
    have heq : ∀ W : World, (binOp .eql 89 (.slice none 0 c) (.slice none 0 0)).run Try.prog W = .ok (.bool true) W := fun W => eql_nil W _ _ _ _ _ Try.underlying89
    clear h0 hc h1 hys
    go_enter Try.func99, Try.ntmps99
    go_wp2
    go_ret
    exact ⟨_, rfl, ⟨_, _, rfl⟩, hp.out⟩
  | some ad =>
    have hp := Lib.hid ((Hp.none_ w []).rowLit #[] 93 3 0 (by decide) rfl)
    have hsl := Lib.hid (h0.below ((Below.refl _ _).alloc (Nat.le_refl _) (.cells #[] 93)))
    have heq : ∀ W : World, (binOp .eql 89 (.slice (some ad) m c) (.slice none 0 0)).run Try.prog W = .ok (.bool false) W := fun W => eql_nil W _ _ _ _ _ Try.underlying89
    clear hc h0 hmx
    replace h1 := Lib.hid h1; replace hys := Lib.hid hys; replace hm := Lib.hid hm
    go_enter Try.func99, Try.ntmps99
    go_wp2_with (at_builtin; go_loud (refine wpList_append_sl_hp rfl _ _ rfl Try.underlying89 eInfo rfl (by decide) (by decide) hp.out 0 rfl rfl rfl hsl.out hys.out h1.out (by have := hm.out; omega) ?_; intro v2 w2 hp2 hv2; replace hp := Lib.hid hp2; clear hp2; obtain ⟨ad2, cp2, rfl⟩ := hv2))
    go_ret
    exact ⟨_, rfl, ⟨_, _, rfl⟩, by have := hp.out; simpa using this⟩
theorem range_nil (f t : ByteArray) (w : World) : Calls Try.prog 56 #[.pointer none, .string f, .string t] w fun e w' => e = .returned (.slice none 0 0) ∧ w' = w := by
  go_enter Try.func56, Try.ntmps56
  go_wp2
  go_ret
  exact ⟨rfl, rfl⟩
theorem sl_part {w : World} {v : Value} {L : List Ch} (h : w.ownsRow 0 93 3 v L.length (chC L)) (p m : Nat) (hpm : p + m ≤ L.length) (hm : m ≤ 140737488355328) (a : Option Addr) (c : Nat) (ha : m = 0 ∨ ∃ b, v.ownBlock = some b ∧ a = some ⟨b, p * 3, none⟩) : Sl w (.slice a m c) m (chC ((L.drop p).take m)) := by
  refine ⟨a, c, rfl, hm, ?_⟩
  rcases ha with ha | ⟨b, hb, rfl⟩
  · exact Or.inl ha
  · obtain ⟨ad, cp, rfl⟩ := rowShape h
    refine Or.inr ⟨b, p * 3, rfl, (World.ownsRow.lt h b hb).2, fun j u hj => ?_⟩
    cases ad with
    | none => cases hb
    | some a2 =>
      injection hb with hb
      have hcell := World.ownsRow.cells h (g := b) (by rw [← hb]; rfl)
      have h2 : (chC L)[p * 3 + j]? = some u := by
        rw [← chC_take, ← chC_drop, List.getElem?_take] at hj
        split at hj
        · rw [List.getElem?_drop] at hj; exact hj
        · cases hj
      have := hcell (p * 3 + j) u h2
      rwa [addr_add, Nat.zero_add] at this
set_option maxHeartbeats 2000000 in
theorem range_any (d : Nat) (f t : ByteArray) (v : Value) (L : List Ch) (w : World) (hd : w.heap[d]? = some (.cells #[v] 144 (0, 0))) (h : w.ownsRow 0 93 3 v L.length (chC L)) (hs : Srt L) (hn : L.length ≤ 100000) :
    Calls Try.prog 56 #[.pointer (some ⟨d, 0, none⟩), .string f, .string t] w fun e w' => ∃ v', e = .returned v' ∧ RowOf w (rangeL f t L) v' w' := by
  have hpF : ∀ (key : ByteArray) (W : World), Below w.heap.size w W → Calls Try.prog 97 #[.pointer (some ⟨d, 0, none⟩), .string key] W fun e w' => e = .returned (.int .i64 (pos key L : Int)) ∧ Below W.heap.size W w' := fun key W hb =>
    place_any d key v L W ((hb.block _ (block_lt hd)).trans hd) (Sl.ofRow (rowBelow h hb) (by omega)) hn hs
  have hpf := hpF f
  have hpt := hpF t
  obtain ⟨ad, cp, rfl⟩ := rowShape h
  have hdl := block_lt hd
  have d0 : ∀ W, Below w.heap.size w W → W.cell? ⟨d, 0, none⟩ = some (.slice ad L.length cp) := fun W hb => (hb.cell (p := ⟨d, 0, none⟩) hdl).trans (cell_of_row _ _ 0 _ _ _ hd)
  have hcp : L.length ≤ cp := by
    rcases h.2 with ⟨h0, h1⟩ | ⟨g', cap', cur, hv, hb, hg, h1, h2, h3, h4⟩
    · omega
    · injection hv with hv1 hv2 hv3; omega
  have hcpm : cp ≤ 9223372036854775807 := by
    rcases h.2 with ⟨h0, h1⟩ | ⟨g', cap', cur, hv, hb, hg, h1, h2, h3, h4⟩
    · injection h0 with _ _ h0; omega
    · injection hv with hv1 hv2 hv3; unfold maxLen at h2; omega
  obtain ⟨F, hF⟩ : ∃ F, F = pos f L := ⟨_, rfl⟩
  obtain ⟨T, hT⟩ : ∃ T, T = pos t L := ⟨_, rfl⟩
  have hFl : F ≤ L.length := by rw [hF]; exact pos_le _ _
  have hTl : T ≤ L.length := by rw [hT]; exact pos_le _ _
  obtain ⟨E, hE⟩ : ∃ E, E = endL f t L := ⟨_, rfl⟩
  have hEe : E = if eqB t ⟨#[]⟩ then L.length else max F T := by rw [hE, hF, hT]; rfl
  have hFE : F ≤ E ∧ E ≤ L.length := by rw [hEe]; split <;> omega
  obtain ⟨hFE1, hFE2⟩ := hFE
  have hR : rangeL f t L = (L.drop F).take (E - F) := by rw [hF, hE]; rfl
  have hRl : ((L.drop F).take (E - F)).length = E - F := by rw [List.length_take, List.length_drop]; omega
  rw [← hF] at hpf
  rw [← hT] at hpt
  rw [hR]
  obtain ⟨R, hRR⟩ : ∃ R, R = (L.drop F).take (E - F) := ⟨_, rfl⟩
  rw [← hRR] at hRl ⊢
  have hcl : ∀ (a : Option Addr) (c : Nat) (W : World), Below w.heap.size w W → (E - F = 0 ∨ ∃ b, (Value.slice ad L.length cp).ownBlock = some b ∧ a = some ⟨b, F * 3, none⟩) → Calls Try.prog 99 #[.slice a (E - F) c] W fun e w' => ∃ v', e = .returned v' ∧ RowOf W R v' w' := fun a c W hb ha => by
    have hsl := sl_part (rowBelow h hb) F (E - F) (by omega) (by omega) a c ha
    rw [← hRR] at hsl
    have := clone_any (.slice a (E - F) c) R W (by rw [hRl]; exact hsl) (by omega)
    exact this
  have had : (ad = none ∧ L.length = 0 ∧ cp = 0) ∨ ∃ b, ad = some ⟨b, 0, none⟩ := by
    rcases h.2 with ⟨h0, h1⟩ | ⟨g', cap', cur, hv, hb, hg, h1, h2, h3, h4⟩
    · injection h0 with h5 h6 h7; exact Or.inl ⟨h5, h1, h7⟩
    · injection hv with hv1 hv2 hv3; exact Or.inr ⟨g', hv1⟩
  have hclZ : ∀ (a : Option Addr) (c : Nat) (W : World), Below w.heap.size w W → E - F = 0 → Calls Try.prog 99 #[.slice a 0 c] W fun e w' => ∃ v', e = .returned v' ∧ RowOf W R v' w' := fun a c W hb h0 => by
    have := hcl a c W hb (Or.inl h0)
    rwa [h0] at this
  have hfinal : ∀ W W' v', Below w.heap.size w W → RowOf W R v' W' → RowOf w R v' W' := fun W W' v' hb hr => by
    refine ⟨hr.1, ?_⟩
    have := ((Hp.none_ w []).below hb).take hr.2
    simpa using this
  obtain ⟨n, hln⟩ : ∃ n, n = L.length := ⟨_, rfl⟩
  rw [← hln] at d0 hcp hFE2 hFl hTl hn hcl hEe had
  have hb0 := Below.refl w.heap.size w
  have g1 : (0 : Int) ≤ (F : Int) := by omega
  have g2 : (F : Int) ≤ (E : Int) := by omega
  have g3 : (E : Int) ≤ (n : Int) := by omega
  have g4 : (n : Int) ≤ (cp : Int) := by omega
  have g5 : (E : Int) ≤ (cp : Int) := by omega
  have dd := d0 w hb0
  replace d0 := Lib.hid d0; replace hpf := Lib.hid hpf; replace hpt := Lib.hid hpt; replace hcl := Lib.hid hcl; replace hclZ := Lib.hid hclZ; replace hfinal := Lib.hid hfinal; replace hb0 := Lib.hid hb0
  clear hE hF hT hR hRR hRl hd h hpF hln hs
  cases ht : eqB t ⟨#[]⟩ with
  | true =>
    have hte := eqB_iff.1 ht
    subst hte
    rw [ht, if_pos rfl] at hEe
    subst hEe
    clear ht hpt hTl
    go_enter Try.func56, Try.ntmps56
    go_upto_region 3 with fail
    refine wp_region_noPanic ?_; refine wp_region_held_drew (S := (fun W' => Below w.heap.size w W' ∧ W'.cell? ⟨d, 0, none⟩ = some (.slice ad E cp))) (by kernel_rfl) ?_ (fun hHeld => ?_); (focus ((try dsimp only); (first | exact ⟨hb0.out.drew, d0.out _ hb0.out.drew⟩ | exact ⟨hb1, d0.out _ hb1⟩); done)); (refine take_t (i := 0) (d := 11) (oi := _) (v := ?_) rfl rfl (by kernel_rfl) (by kernel_rfl) (by kernel_rfl) (by rfl) ?_ (by assumption) ?_; rotate_left; (focus (intro w0 hSw; (try dsimp only at hSw); go_simp; (try with_reducible rfl); done)); try simp only [Act.put, List.setIfInBounds_toArray, List.set_cons_zero, List.set_cons_succ]); (refine take_t (i := 1) (d := 12) (oi := _) (v := ?_) rfl rfl (by kernel_rfl) (by kernel_rfl) (by kernel_rfl) (by rfl) ?_ (by assumption) ?_; rotate_left; (focus (intro w0 hSw; (try dsimp only at hSw); go_simp; (try with_reducible rfl); done)); try simp only [Act.put, List.setIfInBounds_toArray, List.set_cons_zero, List.set_cons_succ]); (refine take_t (i := 3) (d := 14) (oi := _) (v := ?_) rfl rfl (by kernel_rfl) (by kernel_rfl) (by kernel_rfl) (by rfl) ?_ (by assumption) ?_; rotate_left; (focus (intro w0 hSw; (try dsimp only at hSw); go_simp; (try with_reducible rfl); done)); try simp only [Act.put, List.setIfInBounds_toArray, List.set_cons_zero, List.set_cons_succ]); (refine take_t (i := 4) (d := 15) (oi := _) (v := ?_) rfl rfl (by kernel_rfl) (by kernel_rfl) (by kernel_rfl) (by rfl) ?_ (by assumption) ?_; rotate_left; (focus (intro w0 hSw; (try dsimp only at hSw); go_simp; (try with_reducible rfl); done)); try simp only [Act.put, List.setIfInBounds_toArray, List.set_cons_zero, List.set_cons_succ]); (refine take_t (i := 5) (d := 16) (oi := _) (v := ?_) rfl rfl (by kernel_rfl) (by kernel_rfl) (by kernel_rfl) (by rfl) ?_ (by assumption) ?_; rotate_left; (focus (intro w0 hSw; (try dsimp only at hSw); go_simp; (try with_reducible rfl); done)); try simp only [Act.put, List.setIfInBounds_toArray, List.set_cons_zero, List.set_cons_succ]); (refine take_t (i := 6) (d := 17) (oi := _) (v := ?_) rfl rfl (by kernel_rfl) (by kernel_rfl) (by kernel_rfl) (by rfl) ?_ (by assumption) ?_; rotate_left; (focus (intro w0 hSw; (try dsimp only at hSw); go_simp; (try with_reducible rfl); done)); try simp only [Act.put, List.setIfInBounds_toArray, List.set_cons_zero, List.set_cons_succ]); (refine take_t (i := 7) (d := 18) (oi := _) (v := ?_) rfl rfl (by kernel_rfl) (by kernel_rfl) (by kernel_rfl) (by rfl) ?_ (by assumption) ?_; rotate_left; (focus (intro w0 hSw; (try dsimp only at hSw); go_simp; (try with_reducible rfl); done)); try simp only [Act.put, List.setIfInBounds_toArray, List.set_cons_zero, List.set_cons_succ]); (refine wpAnyH_ready (rs := [2]) (by kernel_rfl) (by simp) ?_; refine AllReadyH.cons (o := _) rfl (fun K' hK => ?_) AllReadyH.nil; go_simp; (go_at_call 97; (with_reducible refine (hpf.out _ hb0.out.drew).mono ?_); rintro e' w1 ⟨rfl, b1⟩; have hb1 := belowCont hb0.out.drew b1); (try dsimp only); refine hK.out _ _ ?_ (fun hHeld2 => ?_); (focus ((try dsimp only); (first | exact ⟨hb0.out.drew, d0.out _ hb0.out.drew⟩ | exact ⟨hb1, d0.out _ hb1⟩); done)); clear hK K'; clear hHeld; have hHeld := hHeld2; clear hHeld2; try simp only [Act.put, List.setIfInBounds_toArray, List.set_cons_zero, List.set_cons_succ]); (refine take_t (i := 8) (d := 7) (oi := _) (v := ?_) rfl rfl (by kernel_rfl) (by kernel_rfl) (by kernel_rfl) (by rfl) ?_ (by assumption) ?_; rotate_left; (focus (intro w0 hSw; (try dsimp only at hSw); go_simp; (try with_reducible rfl); done)); try simp only [Act.put, List.setIfInBounds_toArray, List.set_cons_zero, List.set_cons_succ]); (refine take_t (i := 9) (d := 8) (oi := _) (v := ?_) rfl rfl (by kernel_rfl) (by kernel_rfl) (by kernel_rfl) (by rfl) ?_ (by assumption) ?_; rotate_left; (focus (intro w0 hSw; (try dsimp only at hSw); go_simp; (try with_reducible rfl); done)); try simp only [Act.put, List.setIfInBounds_toArray, List.set_cons_zero, List.set_cons_succ]); refine wpAnyH_done (by kernel_rfl) ?_ _; refine NoPanic.normal ?_
    have hb1 := hHeld.1
    have dd1 := hHeld.2
    clear hHeld dd
    replace hb1 := Lib.hid hb1
    rcases had with ⟨rfl, hn0, rfl⟩ | ⟨b, rfl⟩
    · obtain rfl : F = 0 := by omega
      obtain rfl : E = 0 := by omega
      have h0 := Lib.hid (show 0 - 0 = 0 by rfl)
      go_wp2_with (go_at_call 99; (with_reducible refine (hclZ.out _ _ _ hb1.out h0.out).mono ?_); rintro e w2 ⟨v', rfl, hr⟩; replace hr := Lib.hid (hfinal.out _ _ _ hb1.out hr))
      go_ret
      exact ⟨_, rfl, hr.out⟩
    · by_cases hcf : cp = F
      · obtain rfl : E = F := by omega
        have h0 := Lib.hid (Nat.sub_self E)
        go_wp2_with (go_at_call 99; (with_reducible refine (hclZ.out _ _ _ hb1.out h0.out).mono ?_); rintro e w2 ⟨v', rfl, hr⟩; replace hr := Lib.hid (hfinal.out _ _ _ hb1.out hr))
        go_ret
        exact ⟨_, rfl, hr.out⟩
      · have hclB := Lib.hid (fun c W hb => hcl.out (some ⟨b, F * 3, none⟩) c W hb (Or.inr ⟨b, rfl, rfl⟩))
        go_wp2_with (go_at_call 99; (with_reducible refine (hclB.out _ _ hb1.out).mono ?_); rintro e w2 ⟨v', rfl, hr⟩; replace hr := Lib.hid (hfinal.out _ _ _ hb1.out hr))
        go_ret
        exact ⟨_, rfl, hr.out⟩
  | false =>
    rw [ht, if_neg (by decide)] at hEe
    obtain ⟨e1, e2, e3⟩ := empty_facts ht
    have hmx : max (F : Int) (T : Int) = (E : Int) := by omega
    have hmx2 : (if (F : Int) < (T : Int) then (T : Int) else (F : Int)) = (E : Int) := by split <;> omega
    replace hEe := Lib.hid hEe
    clear ht
    go_enter Try.func56, Try.ntmps56
    go_upto_region 3 with fail
    refine wp_region_noPanic ?_; refine wp_region_held_drew (S := (fun W' => Below w.heap.size w W' ∧ W'.cell? ⟨d, 0, none⟩ = some (.slice ad n cp))) (by kernel_rfl) ?_ (fun hHeld => ?_); (focus ((try dsimp only); (first | exact ⟨hb0.out.drew, d0.out _ hb0.out.drew⟩ | exact ⟨hb1, d0.out _ hb1⟩); done)); (refine take_t (i := 0) (d := 11) (oi := _) (v := ?_) rfl rfl (by kernel_rfl) (by kernel_rfl) (by kernel_rfl) (by rfl) ?_ (by assumption) ?_; rotate_left; (focus (intro w0 hSw; (try dsimp only at hSw); go_simp; (try with_reducible rfl); done)); try simp only [Act.put, List.setIfInBounds_toArray, List.set_cons_zero, List.set_cons_succ]); (refine take_t (i := 1) (d := 12) (oi := _) (v := ?_) rfl rfl (by kernel_rfl) (by kernel_rfl) (by kernel_rfl) (by rfl) ?_ (by assumption) ?_; rotate_left; (focus (intro w0 hSw; (try dsimp only at hSw); go_simp; (try with_reducible rfl); done)); try simp only [Act.put, List.setIfInBounds_toArray, List.set_cons_zero, List.set_cons_succ]); (refine take_t (i := 3) (d := 14) (oi := _) (v := ?_) rfl rfl (by kernel_rfl) (by kernel_rfl) (by kernel_rfl) (by rfl) ?_ (by assumption) ?_; rotate_left; (focus (intro w0 hSw; (try dsimp only at hSw); go_simp; (try with_reducible rfl); done)); try simp only [Act.put, List.setIfInBounds_toArray, List.set_cons_zero, List.set_cons_succ]); (refine take_t (i := 4) (d := 15) (oi := _) (v := ?_) rfl rfl (by kernel_rfl) (by kernel_rfl) (by kernel_rfl) (by rfl) ?_ (by assumption) ?_; rotate_left; (focus (intro w0 hSw; (try dsimp only at hSw); go_simp; (try with_reducible rfl); done)); try simp only [Act.put, List.setIfInBounds_toArray, List.set_cons_zero, List.set_cons_succ]); (refine take_t (i := 5) (d := 16) (oi := _) (v := ?_) rfl rfl (by kernel_rfl) (by kernel_rfl) (by kernel_rfl) (by rfl) ?_ (by assumption) ?_; rotate_left; (focus (intro w0 hSw; (try dsimp only at hSw); go_simp; (try with_reducible rfl); done)); try simp only [Act.put, List.setIfInBounds_toArray, List.set_cons_zero, List.set_cons_succ]); (refine take_t (i := 6) (d := 17) (oi := _) (v := ?_) rfl rfl (by kernel_rfl) (by kernel_rfl) (by kernel_rfl) (by rfl) ?_ (by assumption) ?_; rotate_left; (focus (intro w0 hSw; (try dsimp only at hSw); go_simp; (try with_reducible rfl); done)); try simp only [Act.put, List.setIfInBounds_toArray, List.set_cons_zero, List.set_cons_succ]); (refine take_t (i := 7) (d := 18) (oi := _) (v := ?_) rfl rfl (by kernel_rfl) (by kernel_rfl) (by kernel_rfl) (by rfl) ?_ (by assumption) ?_; rotate_left; (focus (intro w0 hSw; (try dsimp only at hSw); go_simp; (try with_reducible rfl); done)); try simp only [Act.put, List.setIfInBounds_toArray, List.set_cons_zero, List.set_cons_succ]); (refine wpAnyH_ready (rs := [2]) (by kernel_rfl) (by simp) ?_; refine AllReadyH.cons (o := _) rfl (fun K' hK => ?_) AllReadyH.nil; go_simp; (go_at_call 97; (with_reducible refine (hpf.out _ hb0.out.drew).mono ?_); rintro e' w1 ⟨rfl, b1⟩; have hb1 := belowCont hb0.out.drew b1); (try dsimp only); refine hK.out _ _ ?_ (fun hHeld2 => ?_); (focus ((try dsimp only); (first | exact ⟨hb0.out.drew, d0.out _ hb0.out.drew⟩ | exact ⟨hb1, d0.out _ hb1⟩); done)); clear hK K'; clear hHeld; have hHeld := hHeld2; clear hHeld2; try simp only [Act.put, List.setIfInBounds_toArray, List.set_cons_zero, List.set_cons_succ]); (refine take_t (i := 8) (d := 7) (oi := _) (v := ?_) rfl rfl (by kernel_rfl) (by kernel_rfl) (by kernel_rfl) (by rfl) ?_ (by assumption) ?_; rotate_left; (focus (intro w0 hSw; (try dsimp only at hSw); go_simp; (try with_reducible rfl); done)); try simp only [Act.put, List.setIfInBounds_toArray, List.set_cons_zero, List.set_cons_succ]); (refine take_t (i := 9) (d := 8) (oi := _) (v := ?_) rfl rfl (by kernel_rfl) (by kernel_rfl) (by kernel_rfl) (by rfl) ?_ (by assumption) ?_; rotate_left; (focus (intro w0 hSw; (try dsimp only at hSw); go_simp; (try with_reducible rfl); done)); try simp only [Act.put, List.setIfInBounds_toArray, List.set_cons_zero, List.set_cons_succ]); refine wpAnyH_done (by kernel_rfl) ?_ _; refine NoPanic.normal ?_
    have hb1 := hHeld.1
    have dd1 := hHeld.2
    clear hHeld dd
    replace hb1 := Lib.hid hb1
    go_upto_region 6 with (go_at_call 97; (with_reducible refine (hpt.out _ hb1.out).mono ?_); rintro e' w2 ⟨rfl, b2⟩; replace hb1 := Lib.hid (belowCont hb1.out b2); have dd1 := d0.out _ hb1.out; clear b2)
    rcases had with ⟨rfl, hn0, rfl⟩ | ⟨b, rfl⟩
    · obtain rfl : F = 0 := by omega
      obtain rfl : E = 0 := by omega
      obtain rfl : n = 0 := hn0
      have h0 := Lib.hid (show 0 - 0 = 0 by rfl)
      go_wp2_with (go_at_call 99; (with_reducible refine (hclZ.out _ _ _ hb1.out h0.out).mono ?_); rintro e w2 ⟨v', rfl, hr⟩; replace hr := Lib.hid (hfinal.out _ _ _ hb1.out hr))
      go_ret
      exact ⟨_, rfl, hr.out⟩
    · by_cases hcf : cp = F
      · obtain rfl : E = F := by omega
        have h0 := Lib.hid (Nat.sub_self E)
        go_wp2_with (go_at_call 99; (with_reducible refine (hclZ.out _ _ _ hb1.out h0.out).mono ?_); rintro e w2 ⟨v', rfl, hr⟩; replace hr := Lib.hid (hfinal.out _ _ _ hb1.out hr))
        go_ret
        exact ⟨_, rfl, hr.out⟩
      · have hclB := Lib.hid (fun c W hb => hcl.out (some ⟨b, F * 3, none⟩) c W hb (Or.inr ⟨b, rfl, rfl⟩))
        go_wp2_with (go_at_call 99; (with_reducible refine (hclB.out _ _ hb1.out).mono ?_); rintro e w2 ⟨v', rfl, hr⟩; replace hr := Lib.hid (hfinal.out _ _ _ hb1.out hr))
        go_ret
        exact ⟨_, rfl, hr.out⟩
end Go.Proofs.Ytmfodnbhhfegeaa.delta
