/- So many edges, conditions and items a question has, and no more: the law QueryMost. The tables are premises. -/
import Derived.Test.YtgbkpkioijbgoaaDoorQryV
namespace Go.Proofs.YtgbkpkioijbgoaaDoor.qry
open Go.RowKit
open lex (W wordsF wordsL)
open names (Nm mayN)
set_option linter.unusedVariables false
set_option linter.unusedSimpArgs false
set_option maxRecDepth 100000
theorem EW_len : ∀ a p, (EW a p).length = 6 * a
  | 0, p => rfl
  | a + 1, p => by rw [EW, List.length_append, EW_len a]; show 6 + 6 * a = _; omega
theorem AW_len : ∀ a p, (AW a p).length = 6 * a
  | 0, p => rfl
  | a + 1, p => by rw [AW, List.length_append, AW_len a]; show 6 + 6 * a = _; omega
theorem CW_len (b p : Nat) : (CW b p).length = 6 * b := by
  cases b with
  | zero => rfl
  | succ m => rw [CW, List.length_append, AW_len]; show 6 + 6 * m = _; omega
theorem IW_len : ∀ a p, (IW a p).length = 4 * a
  | 0, p => rfl
  | a + 1, p => by rw [IW, List.length_append, IW_len a]; show 4 + 4 * a = _; omega
theorem mayQ_most (a b c l : Nat) (hl : l ≤ 256) : mayQ ⟨NA :: List.replicate a N0, List.replicate a E0, List.replicate b C0, I0 :: List.replicate c I1, l⟩ = isB a b c := by
  have hn : namesQ ⟨NA :: List.replicate a N0, List.replicate a E0, List.replicate b C0, I0 :: List.replicate c I1, l⟩ = [[97]] := by
    unfold namesQ
    simp [NA, N0, E0, List.filter_replicate]
  unfold mayQ
  rw [hn]
  have h1 : decide ([[97]] : List Nm).Nodup = true := by decide
  have h2 : (List.replicate b C0).all (fun c => decide (c.var ∈ ([[97]] : List Nm))) = true := by
    rw [List.all_eq_true]; intro x hx; rw [List.eq_of_mem_replicate hx]; decide
  have h3 : (I0 :: List.replicate c I1).all (fun c => decide (c.var ∈ ([[97]] : List Nm))) = true := by
    rw [List.all_eq_true]; intro x hx
    rcases List.mem_cons.1 hx with rfl | hx
    · decide
    · rw [List.eq_of_mem_replicate hx]; decide
  show (decide ([[97]] : List Nm).Nodup && (fewQ _ && ((List.replicate b C0).all (fun c => decide (c.var ∈ ([[97]] : List Nm))) && (I0 :: List.replicate c I1).all (fun c => decide (c.var ∈ ([[97]] : List Nm)))))) = _
  rw [h1, h2, h3]
  unfold fewQ isB
  simp [hl]
set_option maxHeartbeats 2000000 in
theorem front (a b c : Nat) (x : W) (t : List W) (hx : x.kind ≠ 4) (hx1 : x.kind = 1 → x.s = [108, 105, 109, 105, 116]) (ws : List W) (hws : ws = preW a b c ++ (x :: t)) :
    At ws (6 + 6 * a + 6 * b + 4 * c) (x :: t) ∧ questM ws = (let n := 6 + 6 * a + 6 * b + 4 * c
      let lm := if isM ws 1 [108, 105, 109, 105, 116] ⟨n, false⟩ then numM ws 256 ⟨n + 1, false⟩ else (256, ⟨n, false⟩)
      (⟨NA :: List.replicate a N0, List.replicate a E0, List.replicate b C0, I0 :: List.replicate c I1, lm.1⟩, mustM (decide ((wd ws lm.2.at_).kind = 0)) lm.2)) := by
  have h0 : At ws 0 (head4 0 ++ (EW a 8 ++ (CW b (8 + 7 * a) ++ (tell2 (8 + 7 * a + cLen b) ++ (IW c (8 + 7 * a + cLen b + 7) ++ (x :: t)))))) := ⟨[], by rw [hws]; unfold preW; simp only [List.append_assoc, List.nil_append], rfl⟩
  have hlen : ws.length = 4 + 6 * a + 6 * b + 2 + 4 * c + (t.length + 1) := by
    rw [hws]; unfold preW
    simp only [List.length_append, EW_len, CW_len, IW_len, List.length_cons]
    have h4 : (head4 0).length = 4 := rfl
    have h2 : ∀ p, (tell2 p).length = 2 := fun _ => rfl
    rw [h4, h2]; omega
  clear hws
  have w0 := h0.wd
  have hN := node_a ws 1 _ _ _ _ h0.tl
  have h1 : At ws 4 (EW a 8 ++ (CW b (8 + 7 * a) ++ (tell2 (8 + 7 * a + cLen b) ++ (IW c (8 + 7 * a + cLen b + 7) ++ (x :: t))))) := h0.app
  have h2 : At ws (4 + 6 * a) (CW b (8 + 7 * a) ++ (tell2 (8 + 7 * a + cLen b) ++ (IW c (8 + 7 * a + cLen b + 7) ++ (x :: t)))) := by have := h1.app; rwa [EW_len] at this
  have h3 : At ws (4 + 6 * a + 6 * b) (tell2 (8 + 7 * a + cLen b) ++ (IW c (8 + 7 * a + cLen b + 7) ++ (x :: t))) := by have := h2.app; rwa [CW_len] at this
  have h4 : At ws (4 + 6 * a + 6 * b + 1) (⟨1, [97], 0, 8 + 7 * a + cLen b + 6⟩ :: (IW c (8 + 7 * a + cLen b + 7) ++ (x :: t))) := h3.tl
  have h5 : At ws (4 + 6 * a + 6 * b + 1 + 1 + 4 * c) (x :: t) := by have := h4.tl.app; rwa [IW_len] at this
  have w3 := h3.wd
  have w5 := h5.wd
  -- the edges
  obtain ⟨y, hy, hyk⟩ : ∃ y, wd ws (4 + 6 * a) = y ∧ y.kind = 1 := by
    cases b with
    | zero => exact ⟨_, w3, rfl⟩
    | succ m => exact ⟨_, At.wd (s := c5 (8 + 7 * a + 7) ++ (AW m (8 + 7 * a + 14) ++ _)) h2, rfl⟩
  have hE := edges_run a ws 4 8 _ [NA] [] (ws.length - a) h1 (is_no ws 4 [45] _ y hy (Or.inl (by rw [hyk]; decide))) (is_no ws 4 [60, 45] _ y hy (Or.inl (by rw [hyk]; decide)))
  rw [show ws.length - a + a + 1 = ws.length + 1 by omega] at hE
  -- the conditions
  have hC : (if isM ws 1 [119, 104, 101, 114, 101] ⟨4 + 6 * a, false⟩ then condsF ws (ws.length + 1) (⟨4 + 6 * a, false⟩ : St).adv [] else ([], ⟨4 + 6 * a, false⟩)) = (List.replicate b C0, (⟨4 + 6 * a + 6 * b, false⟩ : St)) := by
    cases b with
    | zero =>
      rw [if_neg (by rw [is_no ws 1 [119, 104, 101, 114, 101] (4 + 6 * a) _ w3 (Or.inr (by dsimp only; decide))]; decide)]
      rfl
    | succ m =>
      have v0 : wd ws (4 + 6 * a) = ⟨1, [119, 104, 101, 114, 101], 0, 8 + 7 * a + 1⟩ := At.wd (s := c5 (8 + 7 * a + 7) ++ (AW m (8 + 7 * a + 14) ++ _)) h2
      have v1 : At ws (4 + 6 * a + 1) (c5 (8 + 7 * a + 7) ++ (AW m (8 + 7 * a + 14) ++ (tell2 (8 + 7 * a + cLen (m + 1)) ++ (IW c (8 + 7 * a + cLen (m + 1) + 7) ++ (x :: t))))) := At.tl h2
      have v9 : wd ws (4 + 6 * a + 1 + 5 + 6 * m) = ⟨1, [116, 101, 108, 108], 0, 8 + 7 * a + cLen (m + 1) + 1⟩ := by rw [show 4 + 6 * a + 1 + 5 + 6 * m = 4 + 6 * a + 6 * (m + 1) by omega]; exact w3
      have hr := conds_run m ws (4 + 6 * a + 1) _ _ _ [] (ws.length - m) v1 (is_no ws 1 [97, 110, 100] _ _ v9 (Or.inr (by dsimp only; decide)))
      rw [show ws.length - m + m + 1 = ws.length + 1 by omega] at hr
      rw [if_pos (is_yes ws 1 _ _ 0 _ v0), adv_eq, hr, List.nil_append, show 4 + 6 * a + 1 + 5 + 6 * m = 4 + 6 * a + 6 * (m + 1) by omega]
  -- what is told
  have hI := items_all c ws (4 + 6 * a + 6 * b + 1) _ _ _ (ws.length - c) h4 (is_no ws 4 [44] _ x w5 (Or.inl hx)) (is_no ws 4 [46] _ x w5 (Or.inl hx))
  rw [show ws.length - c + c + 1 = ws.length + 1 by omega] at hI
  refine ⟨by rw [show 6 + 6 * a + 6 * b + 4 * c = 4 + 6 * a + 6 * b + 1 + 1 + 4 * c by omega]; exact h5, ?_⟩
  unfold questM
  simp only
  rw [need_ok ws 1 [102, 105, 110, 100] 0 (is_yes ws 1 _ 0 0 _ w0), hN]
  simp only
  rw [hE]
  simp only
  rw [hC]
  simp only
  rw [need_ok ws 1 [116, 101, 108, 108] (4 + 6 * a + 6 * b) (is_yes ws 1 _ _ 0 _ w3)]
  simp only [Bool.false_eq_true, if_false]
  rw [hI]
  simp only
  rw [show 4 + 6 * a + 6 * b + 1 + 1 + 4 * c = 6 + 6 * a + 6 * b + 4 * c by omega, adv_eq]
  rfl
theorem errL_pos (p n : Nat) : errL (.inr (p, n)) = n := rfl
theorem parse_of (s : List UInt8) (ws : List W) (e : Nat) (hl : s.length ≤ 1000) (hw : wordsL s = (some ws, e)) : errL (parseL s) = match parseM ws s.length with | .inl _ => 0 | .inr _ => 330 := by
  unfold parseL
  rw [if_neg (by omega), hw]
  simp only
  cases parseM ws s.length <;> rfl
theorem most_all : MostP := by
  intro a b c ha hb hc
  have hml := mostT_len a b c ha hb hc
  refine ⟨?_, ?_, ?_⟩
  · rw [parse_of _ _ _ (by omega) (words_0 a b c)]
    obtain ⟨ws, hws⟩ : ∃ ws, ws = preW a b c ++ [⟨0, [], 0, preP a b c⟩] := ⟨_, rfl⟩
    obtain ⟨hA, hQ⟩ := front a b c ⟨0, [], 0, preP a b c⟩ [] (by dsimp only; decide) (by intro h; cases h) ws hws
    rw [← hws]
    have w5 := hA.wd
    simp only at hQ
    rw [if_neg (by rw [is_no ws 1 _ _ _ w5 (Or.inl (by dsimp only; decide))]; decide)] at hQ
    simp only at hQ
    rw [w5] at hQ
    unfold parseM
    rw [hQ]
    simp only [decide_true, mustM, if_true, Bool.false_eq_true, if_false]
    rw [mayQ_most a b c 256 (Nat.le_refl _)]
    cases isB a b c <;> rfl
  · rw [parse_of _ _ _ (by rw [List.length_append]; show _ + 10 ≤ 1000; omega) (words_256 a b c)]
    obtain ⟨ws, hws⟩ : ∃ ws, ws = preW a b c ++ (lim2 256 (preP a b c) ++ [⟨0, [], 0, preP a b c + 10⟩]) := ⟨_, rfl⟩
    obtain ⟨hA, hQ⟩ := front a b c ⟨1, [108, 105, 109, 105, 116], 0, preP a b c + 1⟩ [⟨2, [], 256, preP a b c + 7⟩, ⟨0, [], 0, preP a b c + 10⟩] (by dsimp only; decide) (by intro _; rfl) ws hws
    rw [← hws]
    have w5 := hA.wd
    have w6 := hA.tl.wd
    have w7 := hA.tl.tl.wd
    have hnum : numM ws 256 ⟨6 + 6 * a + 6 * b + 4 * c + 1, false⟩ = (256, ⟨6 + 6 * a + 6 * b + 4 * c + 1 + 1, false⟩) := by
      unfold numM numB
      rw [w6]; rfl
    simp only at hQ
    rw [if_pos (is_yes ws 1 _ _ 0 _ w5), hnum] at hQ
    simp only at hQ
    rw [w7] at hQ
    unfold parseM
    rw [hQ]
    simp only [decide_true, mustM, if_true, Bool.false_eq_true, if_false]
    rw [mayQ_most a b c 256 (Nat.le_refl _)]
    cases isB a b c <;> rfl
  · rw [parse_of _ _ _ (by rw [List.length_append]; show _ + 10 ≤ 1000; omega) (words_257 a b c)]
    obtain ⟨ws, hws⟩ : ∃ ws, ws = preW a b c ++ (lim2 257 (preP a b c) ++ [⟨0, [], 0, preP a b c + 10⟩]) := ⟨_, rfl⟩
    obtain ⟨hA, hQ⟩ := front a b c ⟨1, [108, 105, 109, 105, 116], 0, preP a b c + 1⟩ [⟨2, [], 257, preP a b c + 7⟩, ⟨0, [], 0, preP a b c + 10⟩] (by dsimp only; decide) (by intro _; rfl) ws hws
    rw [← hws]
    have w5 := hA.wd
    have w6 := hA.tl.wd
    have hnum : numM ws 256 ⟨6 + 6 * a + 6 * b + 4 * c + 1, false⟩ = (0, ⟨6 + 6 * a + 6 * b + 4 * c + 1, true⟩) := by
      unfold numM numB
      rw [w6]; rfl
    simp only at hQ
    rw [if_pos (is_yes ws 1 _ _ 0 _ w5), hnum] at hQ
    simp only at hQ
    rw [w6] at hQ
    unfold parseM
    rw [hQ]
    rfl
theorem queryMost_walk (a0 a1 a2 : Int) (w : World) (w0 : (Lit.int .i64 a0).wf = true) (w1 : (Lit.int .i64 a1).wf = true) (w2 : (Lit.int .i64 a2).wf = true) (hT : Tabs w) :
    Calls Tryd.prog 4 #[.int .i64 a0, .int .i64 a1, .int .i64 a2] w fun e w' => e = .returned (.bool true) ∧ Below w.heap.size w w' := queryMost_core most_all a0 a1 a2 w hT
end Go.Proofs.YtgbkpkioijbgoaaDoor.qry
