/- What the plain parser makes of the words of QueryMost's texts. No condition. -/
import Derived.Test.YtgbkpkioijbgoaaDoorQryU
import Derived.Test.YtgbkpkioijbgoaaDoorQryL
namespace Go.Proofs.YtgbkpkioijbgoaaDoor.qry
open lex (W wordsF wordsL)
open names (Nm mayN)
set_option linter.unusedVariables false
set_option linter.unusedSimpArgs false
set_option maxRecDepth 100000
/-- from place n on the words are s -/
def At (ws : List W) (n : Nat) (s : List W) : Prop := ∃ pre, ws = pre ++ s ∧ pre.length = n
theorem At.wd {ws : List W} {n : Nat} {x : W} {s : List W} (h : At ws n (x :: s)) : wd ws n = x := by
  obtain ⟨pre, rfl, rfl⟩ := h
  unfold qry.wd
  rw [List.getD_eq_getElem?_getD, List.getElem?_append_right (Nat.le_refl _), Nat.sub_self]; rfl
theorem At.tl {ws : List W} {n : Nat} {x : W} {s : List W} (h : At ws n (x :: s)) : At ws (n + 1) s := by
  obtain ⟨pre, rfl, rfl⟩ := h
  exact ⟨pre ++ [x], by simp, by simp⟩
theorem At.app {ws : List W} {n : Nat} : ∀ {l s : List W}, At ws n (l ++ s) → At ws (n + l.length) s
  | [], s, h => h
  | x :: l, s, h => by
    have h2 := (At.tl (show At ws n (x :: (l ++ s)) from h)).app
    rw [List.length_cons, show n + (l.length + 1) = n + 1 + l.length by omega]
    exact h2
theorem may_a : mayN [97] = true := by kernel_rfl
theorem may_k : mayN [107] = true := by kernel_rfl
theorem res_a : resB [97] = false := by kernel_rfl
theorem res_k : resB [107] = false := by kernel_rfl
theorem adv_eq (n : Nat) (b : Bool) : (⟨n, b⟩ : St).adv = ⟨n + 1, b⟩ := rfl
theorem is_eq (ws : List W) (k : Nat) (s : Nm) (n : Nat) {x : W} (h : wd ws n = x) : isM ws k s ⟨n, false⟩ = (decide (x.kind = k) && decide (x.s = s)) := by unfold isM; rw [h]; rfl
theorem name_ok (ws : List W) (n : Nat) (s : Nm) (p : Nat) (h : wd ws n = ⟨1, s, 0, p⟩) (h1 : mayN s = true) (h2 : resB s = false) : mayM ws ⟨n, false⟩ = (s, ⟨n + 1, false⟩) := by
  unfold mayM canB
  rw [h, h1, h2]; rfl
theorem nameM_ok (ws : List W) (n : Nat) (s : Nm) (p : Nat) (h : wd ws n = ⟨1, s, 0, p⟩) (h1 : mayN s = true) (h2 : resB s = false) (h3 : s ≠ []) : nameM ws ⟨n, false⟩ = (s, ⟨n + 1, false⟩) := by
  unfold nameM
  rw [name_ok ws n s p h h1 h2]
  simp only
  rw [decide_eq_true h3]; rfl
theorem may_no (ws : List W) (n : Nat) (x : W) (h : wd ws n = x) (hk : x.kind = 4) : mayM ws ⟨n, false⟩ = ([], ⟨n, false⟩) := by
  unfold mayM canB
  rw [h, hk]; rfl
theorem need_ok (ws : List W) (k : Nat) (s : Nm) (n : Nat) (h : isM ws k s ⟨n, false⟩ = true) : needM ws k s ⟨n, false⟩ = ⟨n + 1, false⟩ := by
  unfold needM nextM
  rw [h]; rfl
theorem is_yes (ws : List W) (k : Nat) (s : Nm) (n m p : Nat) (h : wd ws n = ⟨k, s, m, p⟩) : isM ws k s ⟨n, false⟩ = true := by rw [is_eq ws k s n h]; simp
theorem is_no (ws : List W) (k : Nat) (s : Nm) (n : Nat) (x : W) (h : wd ws n = x) (hx : x.kind ≠ k ∨ x.s ≠ s) : isM ws k s ⟨n, false⟩ = false := by
  rw [is_eq ws k s n h]
  rcases hx with hx | hx
  · rw [decide_eq_false hx]; rfl
  · rw [decide_eq_false hx, Bool.and_false]
theorem typed_no (ws : List W) (n : Nat) (x : W) (h : wd ws n = x) (hk : x.kind = 4) (hs : x.s ≠ [58]) : typedM ws ⟨n, false⟩ = ([], [], ⟨n, false⟩) := by
  unfold typedM
  rw [may_no ws n x h hk]
  simp only
  rw [if_neg (by rw [is_no ws 4 [58] n x h (Or.inr hs)]; decide)]
theorem typed_a (ws : List W) (n : Nat) (s : Nm) (p : Nat) (x : W) (h : wd ws n = ⟨1, s, 0, p⟩) (h1 : mayN s = true) (h2 : resB s = false) (hx : wd ws (n + 1) = x) (hs : x.s ≠ [58]) : typedM ws ⟨n, false⟩ = (s, [], ⟨n + 1, false⟩) := by
  unfold typedM
  rw [name_ok ws n s p h h1 h2]
  simp only
  rw [if_neg (by rw [is_no ws 4 [58] (n + 1) x hx (Or.inr hs)]; decide)]
def N0 : Nd := ⟨[], [], []⟩
def NA : Nd := ⟨[97], [], []⟩
def E0 : Ed := ⟨[], [], true⟩
def C0 : Cd := ⟨[97], [107], 2, ⟨2, 1, []⟩⟩
def I0 : It := ⟨[97], []⟩
def I1 : It := ⟨[97], [107]⟩
theorem edge_step (ws : List W) (n p : Nat) (s : List W) (h : At ws n (edge6 p ++ s)) : edgeM ws ⟨n, false⟩ = (E0, true, ⟨n + 4, false⟩) ∧ nodeM ws ⟨n + 4, false⟩ = (N0, ⟨n + 6, false⟩) := by
  have w0 := h.wd
  have w1 := h.tl.wd
  have w2 := h.tl.tl.wd
  have w3 := h.tl.tl.tl.wd
  have w4 := h.tl.tl.tl.tl.wd
  have w5 := h.tl.tl.tl.tl.tl.wd
  constructor
  · rw [edge_def, if_pos (is_yes ws 4 [45] n 0 _ w0), adv_eq, edgeR_def, need_ok ws 4 [91] (n + 1) (is_yes ws 4 [91] (n + 1) 0 _ w1), typed_no ws (n + 1 + 1) _ w2 rfl (by dsimp only; decide)]
    simp only [if_true]
    rw [need_ok ws 4 [93] (n + 1 + 1) (is_yes ws 4 [93] _ 0 _ w2), need_ok ws 4 [45, 62] (n + 1 + 1 + 1) (is_yes ws 4 [45, 62] _ 0 _ w3)]
    rfl
  · unfold nodeM
    rw [need_ok ws 4 [40] (n + 4) (is_yes ws 4 [40] (n + 4) 0 _ w4), typed_no ws (n + 4 + 1) _ w5 rfl (by dsimp only; decide)]
    simp only
    rw [if_neg (by rw [is_no ws 4 [123] (n + 4 + 1) _ w5 (Or.inr (by dsimp only; decide))]; decide)]
    simp only
    rw [need_ok ws 4 [41] (n + 4 + 1) (is_yes ws 4 [41] _ 0 _ w5)]
    rfl
theorem node_a (ws : List W) (n : Nat) (p q r : Nat) (s : List W) (h : At ws n (⟨4, [40], 0, p⟩ :: ⟨1, [97], 0, q⟩ :: ⟨4, [41], 0, r⟩ :: s)) : nodeM ws ⟨n, false⟩ = (NA, ⟨n + 3, false⟩) := by
  have w0 := h.wd
  have w1 := h.tl.wd
  have w2 := h.tl.tl.wd
  unfold nodeM
  rw [need_ok ws 4 [40] n (is_yes ws 4 [40] n 0 _ w0), typed_a ws (n + 1) [97] _ _ w1 may_a res_a w2 (by dsimp only; decide)]
  simp only
  rw [if_neg (by rw [is_no ws 4 [123] (n + 1 + 1) _ w2 (Or.inr (by dsimp only; decide))]; decide)]
  simp only
  rw [need_ok ws 4 [41] (n + 1 + 1) (is_yes ws 4 [41] _ 0 _ w2)]
  rfl
theorem edges_run : ∀ (a : Nat) (ws : List W) (n p : Nat) (s : List W) (ns : List Nd) (es : List Ed) (f : Nat), At ws n (EW a p ++ s) → isM ws 4 [45] ⟨n + 6 * a, false⟩ = false → isM ws 4 [60, 45] ⟨n + 6 * a, false⟩ = false → edgesF ws (f + a + 1) ⟨n, false⟩ ns es = (ns ++ List.replicate a N0, es ++ List.replicate a E0, ⟨n + 6 * a, false⟩)
  | 0, ws, n, p, s, ns, es, f, h, h1, h2 => by
    rw [Nat.mul_zero, Nat.add_zero] at h1 h2
    rw [edgesF]
    have he : edgeM ws ⟨n, false⟩ = (⟨[], [], false⟩, false, ⟨n, false⟩) := by
      rw [edge_def, if_neg (by rw [h1]; decide), if_neg (by rw [h2]; decide)]
    rw [he]
    simp
  | a + 1, ws, n, p, s, ns, es, f, h, h1, h2 => by
    rw [EW, List.append_assoc] at h
    obtain ⟨e1, e2⟩ := edge_step ws n p _ h
    have h3 : At ws (n + 6) (EW a (p + 7) ++ s) := h.app
    have ih := edges_run a ws (n + 6) (p + 7) s (ns ++ [N0]) (es ++ [E0]) f h3 (by rw [show n + 6 + 6 * a = n + 6 * (a + 1) by omega]; exact h1) (by rw [show n + 6 + 6 * a = n + 6 * (a + 1) by omega]; exact h2)
    rw [show f + (a + 1) + 1 = (f + a + 1) + 1 by omega, edgesF, e1]
    simp only [Bool.not_false, Bool.and_true, if_true]
    rw [e2]
    simp only
    rw [ih, List.append_assoc, List.append_assoc, show n + 6 + 6 * a = n + 6 * (a + 1) by omega]
    rfl
theorem val_one (ws : List W) (n p : Nat) (h : wd ws n = ⟨2, [], 1, p⟩) : valM ws ⟨n, false⟩ = (⟨2, 1, []⟩, ⟨n + 1, false⟩) := by
  unfold valM
  rw [if_neg (by rw [is_no ws 1 _ n _ h (Or.inl (by dsimp only; decide))]; decide), if_neg (by rw [is_no ws 1 _ n _ h (Or.inl (by dsimp only; decide))]; decide), if_neg (by rw [is_no ws 1 _ n _ h (Or.inl (by dsimp only; decide))]; decide), if_neg (by rw [is_no ws 4 _ n _ h (Or.inl (by dsimp only; decide))]; decide)]
  unfold numM numB
  rw [h]; rfl
theorem op_eq (ws : List W) (n p : Nat) (h : wd ws n = ⟨4, [61], 0, p⟩) : opM ws ⟨n, false⟩ = (2, ⟨n + 1, false⟩) := by
  unfold opM opsL
  rw [opF, if_neg (by rw [is_no ws 4 _ n _ h (Or.inr (by dsimp only; decide))]; decide), opF, if_neg (by rw [is_no ws 4 _ n _ h (Or.inr (by dsimp only; decide))]; decide), opF, if_pos (is_yes ws 4 [61] n 0 p h)]
  rfl
theorem cond_step (ws : List W) (n q : Nat) (s : List W) (h : At ws n (c5 q ++ s)) : condM ws ⟨n, false⟩ = (C0, ⟨n + 5, false⟩) := by
  have w0 := h.wd
  have w1 := h.tl.wd
  have w2 := h.tl.tl.wd
  have w3 := h.tl.tl.tl.wd
  have w4 := h.tl.tl.tl.tl.wd
  unfold condM
  rw [nameM_ok ws n [97] _ w0 may_a res_a (by decide)]
  simp only
  rw [need_ok ws 4 [46] (n + 1) (is_yes ws 4 [46] _ 0 _ w1), nameM_ok ws (n + 1 + 1) [107] _ w2 may_k res_k (by decide)]
  simp only
  rw [op_eq ws (n + 1 + 1 + 1) _ w3]
  simp only
  rw [val_one ws (n + 1 + 1 + 1 + 1) _ w4]
  rfl
theorem conds_run : ∀ (m : Nat) (ws : List W) (n q p : Nat) (s : List W) (acc : List Cd) (f : Nat), At ws n (c5 q ++ (AW m p ++ s)) → isM ws 1 [97, 110, 100] ⟨n + 5 + 6 * m, false⟩ = false → condsF ws (f + m + 1) ⟨n, false⟩ acc = (acc ++ List.replicate (m + 1) C0, ⟨n + 5 + 6 * m, false⟩)
  | 0, ws, n, q, p, s, acc, f, h, h1 => by
    rw [condsF, cond_step ws n q _ h]
    simp only
    rw [if_neg (by rw [show n + 5 = n + 5 + 6 * 0 by omega, h1]; decide)]
    rfl
  | m + 1, ws, n, q, p, s, acc, f, h, h1 => by
    have h2 : At ws (n + 5) (AW (m + 1) p ++ s) := h.app
    have w0 : wd ws (n + 5) = ⟨1, [97, 110, 100], 0, p + 1⟩ := At.wd (s := c5 (p + 5) ++ (AW m (p + 12) ++ s)) h2
    have h3 : At ws (n + 5 + 1) (c5 (p + 5) ++ (AW m (p + 12) ++ s)) := At.tl h2
    have ih := conds_run m ws (n + 5 + 1) (p + 5) (p + 12) s (acc ++ [C0]) f h3 (by rw [show n + 5 + 1 + 5 + 6 * m = n + 5 + 6 * (m + 1) by omega]; exact h1)
    rw [show f + (m + 1) + 1 = (f + m + 1) + 1 by omega, condsF, cond_step ws n q _ h]
    simp only
    rw [if_pos (is_yes ws 1 [97, 110, 100] (n + 5) 0 _ w0), adv_eq, ih, List.append_assoc, show n + 5 + 1 + 5 + 6 * m = n + 5 + 6 * (m + 1) by omega]
    rfl
theorem item_k (ws : List W) (n x y z : Nat) (s : List W) (h : At ws n (⟨1, [97], 0, x⟩ :: ⟨4, [46], 0, y⟩ :: ⟨1, [107], 0, z⟩ :: s)) : itemM ws ⟨n, false⟩ = (I1, ⟨n + 3, false⟩) := by
  have w0 := h.wd
  have w1 := h.tl.wd
  have w2 := h.tl.tl.wd
  unfold itemM
  rw [nameM_ok ws n [97] _ w0 may_a res_a (by decide)]
  simp only
  rw [if_pos (is_yes ws 4 [46] (n + 1) 0 _ w1), adv_eq, nameM_ok ws (n + 1 + 1) [107] _ w2 may_k res_k (by decide)]
  rfl
theorem item_0 (ws : List W) (n x : Nat) (h : wd ws n = ⟨1, [97], 0, x⟩) (h1 : isM ws 4 [46] ⟨n + 1, false⟩ = false) : itemM ws ⟨n, false⟩ = (I0, ⟨n + 1, false⟩) := by
  unfold itemM
  rw [nameM_ok ws n [97] _ h may_a res_a (by decide)]
  simp only
  rw [if_neg (by rw [h1]; decide)]
  rfl
theorem items_run : ∀ (c : Nat) (ws : List W) (n x p : Nat) (s : List W) (acc : List It) (f : Nat), At ws n (⟨1, [97], 0, x⟩ :: ⟨4, [46], 0, x + 1⟩ :: ⟨1, [107], 0, x + 2⟩ :: (IW c p ++ s)) → isM ws 4 [44] ⟨n + 3 + 4 * c, false⟩ = false → itemsF ws (f + c + 1) ⟨n, false⟩ acc = (acc ++ List.replicate (c + 1) I1, ⟨n + 3 + 4 * c, false⟩)
  | 0, ws, n, x, p, s, acc, f, h, h1 => by
    rw [itemsF, item_k ws n _ _ _ _ h]
    simp only
    rw [if_neg (by rw [show n + 3 = n + 3 + 4 * 0 by omega, h1]; decide)]
    rfl
  | c + 1, ws, n, x, p, s, acc, f, h, h1 => by
    have h2 : At ws (n + 3) (IW (c + 1) p ++ s) := h.tl.tl.tl
    have w0 : wd ws (n + 3) = ⟨4, [44], 0, p⟩ := At.wd (s := ⟨1, [97], 0, p + 1⟩ :: ⟨4, [46], 0, p + 2⟩ :: ⟨1, [107], 0, p + 3⟩ :: (IW c (p + 4) ++ s)) h2
    have h3 : At ws (n + 3 + 1) (⟨1, [97], 0, p + 1⟩ :: ⟨4, [46], 0, p + 1 + 1⟩ :: ⟨1, [107], 0, p + 1 + 2⟩ :: (IW c (p + 4) ++ s)) := At.tl h2
    have ih := items_run c ws (n + 3 + 1) (p + 1) (p + 4) s (acc ++ [I1]) f h3 (by rw [show n + 3 + 1 + 3 + 4 * c = n + 3 + 4 * (c + 1) by omega]; exact h1)
    rw [show f + (c + 1) + 1 = (f + c + 1) + 1 by omega, itemsF, item_k ws n _ _ _ _ h]
    simp only
    rw [if_pos (is_yes ws 4 [44] (n + 3) 0 _ w0), adv_eq, ih, List.append_assoc, show n + 3 + 1 + 3 + 4 * c = n + 3 + 4 * (c + 1) by omega]
    rfl
theorem items_all (c : Nat) (ws : List W) (n x p : Nat) (s : List W) (f : Nat) (h : At ws n (⟨1, [97], 0, x⟩ :: (IW c p ++ s))) (h1 : isM ws 4 [44] ⟨n + 1 + 4 * c, false⟩ = false) (h2 : isM ws 4 [46] ⟨n + 1 + 4 * c, false⟩ = false) : itemsF ws (f + c + 1) ⟨n, false⟩ [] = (I0 :: List.replicate c I1, ⟨n + 1 + 4 * c, false⟩) := by
  cases c with
  | zero =>
    rw [itemsF, item_0 ws n x h.wd h2]
    simp only
    rw [if_neg (by rw [show n + 1 = n + 1 + 4 * 0 by omega, h1]; decide)]
    rfl
  | succ m =>
    have h3 : At ws (n + 1) (IW (m + 1) p ++ s) := h.tl
    have w0 : wd ws (n + 1) = ⟨4, [44], 0, p⟩ := At.wd (s := ⟨1, [97], 0, p + 1⟩ :: ⟨4, [46], 0, p + 2⟩ :: ⟨1, [107], 0, p + 3⟩ :: (IW m (p + 4) ++ s)) h3
    have h4 : At ws (n + 1 + 1) (⟨1, [97], 0, p + 1⟩ :: ⟨4, [46], 0, p + 1 + 1⟩ :: ⟨1, [107], 0, p + 1 + 2⟩ :: (IW m (p + 4) ++ s)) := At.tl h3
    have hr := items_run m ws (n + 1 + 1) (p + 1) (p + 4) s [I0] f h4 (by rw [show n + 1 + 1 + 3 + 4 * m = n + 1 + 4 * (m + 1) by omega]; exact h1)
    rw [show f + (m + 1) + 1 = (f + m + 1) + 1 by omega, itemsF, item_0 ws n x h.wd (is_no ws 4 [46] (n + 1) _ w0 (Or.inr (by dsimp only; decide)))]
    simp only
    rw [if_pos (is_yes ws 4 [44] (n + 1) 0 _ w0), adv_eq]
    show itemsF ws (f + m + 1) ⟨n + 1 + 1, false⟩ [I0] = _
    rw [hr, show n + 1 + 1 + 3 + 4 * m = n + 1 + 4 * (m + 1) by omega]
    rfl
end Go.Proofs.YtgbkpkioijbgoaaDoor.qry
